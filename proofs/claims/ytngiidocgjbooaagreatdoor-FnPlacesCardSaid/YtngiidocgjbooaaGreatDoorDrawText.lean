/-
  The model's functions that draw a text from a list of bytes: of so many bytes; they write into their own cursor alone.
-/
import Derived.Test.YtngiidocgjbooaaGreatDoorDraw
import Derived.Test.YtngiidocgjbooaaGreatDoorBuf
import Derived.PlainAid
namespace Go.Proofs.YtngiidocgjbooaaGreatDoor.Draw
open Go.ChangeShapes Go.WideShapes Go.ChangeAt Go.RowKit
open Go.PlainAid Go.Proofs.YtngiidocgjbooaaGreatDoor.Dec
open Go.Proofs.YtngiidocgjbooaaGreatDoor.DecPure Go.Proofs.YtngiidocgjbooaaGreatDoor.ReadPure Go.Proofs.YtngiidocgjbooaaGreatDoor.Lex
set_option linter.unusedVariables false

theorem Cur.same {w w' : World} {B g : Nat} {A : Option Addr} {n cap : Nat} {Z : Nat → Int} (h : Cur w B g A n cap Z) (hk : ∀ x, x ≤ g → w'.heap[x]? = w.heap[x]?) : Cur w' B g A n cap Z := by
  obtain ⟨h1, h2, h3, k, c, h4, h5⟩ := h
  refine ⟨h1, h2, fun j hj => ?_, k, c, h4, (hk g (Nat.le_refl _)).trans h5⟩
  obtain ⟨b, off, e, hlt, hc, hz⟩ := h3 j hj
  exact ⟨b, off, e, hlt, (World.cell?_of_block (w := w) (hk b (by omega))).trans hc, hz⟩
theorem buf_same {B : Nat} {w w' : World} {v : Value} {L : List Int} (h : Buf B w v L) (hb : ∀ x, v.ownBlock = some x → w'.heap[x]? = w.heap[x]?) : Buf B w' v L := by
  rcases h with ⟨q1, q2 | ⟨x, cap, cur, rfl, q3, q4, q5⟩⟩
  · exact ⟨q1, Or.inl q2⟩
  · exact ⟨q1, Or.inr ⟨x, cap, cur, rfl, q3, by rw [hb x rfl]; exact q4, q5⟩⟩
theorem Cur.lt {w : World} {B g : Nat} {A : Option Addr} {n cap : Nat} {Z : Nat → Int} (h : Cur w B g A n cap Z) : g < w.heap.size := by
  obtain ⟨_, _, _, _, _, _, h5⟩ := h
  exact h5.lt
theorem Only.grown {w w1 w2 : World} {g : Nat} {r : Option Nat} (h : Only w w1 g) (hg : w1.grownBy w2 r) (hr : ∀ x, r = some x → w.heap.size ≤ x) : Only w w2 g :=
  ⟨hg.os.trans h.os, hg.tape.trans h.tape, hg.output.trans h.output, Nat.le_trans h.size hg.size, fun j hj hne => (hg.block j (Nat.lt_of_lt_of_le hj h.size) (fun e => by have := hr j e.symm; omega)).trans (h.block j hj hne)⟩

/-- What a drawn text says: its size, and the cursor again. -/
def Texted (m : Nat) (w : World) (B g : Nat) (A : Option Addr) (n cap : Nat) (Z : Nat → Int) (e : Ending) (w' : World) : Prop := ∃ s : ByteArray, e = .returned (.string s) ∧ s.size = m ∧ Cur w' B g A n cap Z ∧ Only w w' g

set_option maxRecDepth 100000 in
set_option maxHeartbeats 2000000 in
theorem text_of (w : World) (B g : Nat) (A : Option Addr) (n cap : Nat) (Z : Nat → Int) (hc : Cur w B g A n cap Z) (m : Nat) (hm : m ≤ 1000000) (t : ByteArray) (h1 : 1 ≤ t.size) (h2 : t.size ≤ 1000000) :
    Calls Tryz.prog 51 #[.pointer (some ⟨g, 0, none⟩), .int .i64 m, .string t] w (Texted m w B g A n cap Z) := by
  have hb := get_bt t
  have hgl := hc.lt
  have HC := Lib.hid hc; clear hc
  go_enter Tryz.func51, Tryz.ntmps51
  go_wp2_with fail
  go_loopw [7, 8] (fun v i wr => ∃ (j : Nat) (L : List Int), j ≤ m ∧ i = .int .i64 j ∧ L.length = j ∧ Hid (Buf w.heap.size wr v L) ∧ Hid (Cur wr B g A n cap Z) ∧ Hid (Only w wr g)) (fun _ i _ => m - (intOf i).toNat)
  case atStart => exact ⟨0, [], Nat.zero_le _, rfl, rfl, Lib.hid (Buf.nil _ _), HC, Lib.hid (Only.refl _ _)⟩
  case round =>
    obtain ⟨j, L, hj, rfl, hL, hbuf, hC, hO⟩ := hrel
    have hsz := hO.out.size
    by_cases hlt : j < m
    · have hj1 : (j : Int) < (m : Int) := by omega
      go_wp2_with fail
      refine (below_any _ B g A n cap Z hC.out t.size (by omega) (by omega)).mono ?_
      rintro e w1 ⟨x, rfl, hx, hc1, ho1⟩
      obtain ⟨q, rfl⟩ := Int.eq_ofNat_of_zero_le hx.1
      have hq : q < t.size := by omega
      have hq1 : (q : Int) < (t.size : Int) := by omega
      have b0 := bt_nonneg t q
      have b1 := bt_le t q
      have hsz1 := ho1.size
      have hbuf1 : Buf w.heap.size w1 _ L := buf_same hbuf.out (fun x hx => by have := hbuf.out.lt x hx; exact ho1.block x this.2 (by intro e; simp only [Option.some.injEq] at e; omega))
      have HC1 := Lib.hid hc1
      have HO1 := Lib.hid (hO.out.trans ho1)
      clear hc1 ho1 hbuf hC hO hx
      have HBF := Lib.hid hbuf1
      clear hbuf1
      go_wp2_with (at_builtin; refine buf_push w.heap.size w1 _ L (bt t q) rfl _ _ rfl rfl rfl HBF.out (by omega) (by omega) ?_; intro v2 w2 hbuf2 hgrow2)
      have hC2 := HC1.out.same (w' := w2) (fun x hx => hgrow2.block x (by omega) (fun e => by have := (HBF.out.lt x e.symm).1; omega))
      have hO2 := HO1.out.grown hgrow2 (fun x hx => (HBF.out.lt x hx).1)
      clear hgrow2
      go_roundw
      case rel => exact ⟨j + 1, L ++ [bt t q], by omega, by go_num, by simp; omega, Lib.hid hbuf2, Lib.hid hC2, Lib.hid hO2⟩
      case measure => simp [intOf]; omega
    · have e : j = m := by omega
      subst e
      have hcv := buf_conv hbuf.out
      go_wp2_with fail
      go_ret
      exact ⟨_, rfl, by rw [strOfNums_size, hL], hC.out, hO.out⟩

/-- A drawn text and a number of its own. -/
def PlaceEnd (w : World) (e : Ending) (w' : World) : Prop := ∃ (s : ByteArray) (k : Int), e = .returned (.tuple #[.string s, .int .i64 k]) ∧ s.size ≤ 20 ∧ -1 ≤ k ∧ k ≤ s.size + 1 ∧ Below w.heap.size w w'
set_option maxRecDepth 100000 in
set_option maxHeartbeats 1000000 in
theorem drawPlace (w : World) (A : Option Addr) (n cap : Nat) (Z : Nat → Int) (hn : n ≤ 9223372036854775807) (hb : Bytes w w.heap.size A n Z) :
    Calls Tryz.prog 13 #[.slice A n cap] w (PlaceEnd w) := by
  go_enter Tryz.func13, Tryz.ntmps13
  go_wp2_with fail
  refine (new_any w A n cap Z hn hb).mono ?_
  rintro e w1 ⟨g, rfl, hc1, hb1⟩
  have HC1 := Lib.hid hc1
  have HB1 := Lib.hid hb1
  clear hb hc1 hb1
  go_wp2_with fail
  refine (below_any w1 w.heap.size g A n cap Z HC1.out 20 (by omega) (by omega)).mono ?_
  rintro e w2 ⟨x, rfl, hx, hc2, ho2⟩
  obtain ⟨q, rfl⟩ := Int.eq_ofNat_of_zero_le hx.1
  have HC2 := Lib.hid hc2; clear hc2
  have HO2 := Lib.hid ho2; clear ho2
  go_wp2_with fail
  refine (text_of w2 w.heap.size g A n cap Z HC2.out q (by omega) ⟨#[97, 98, 10]⟩ (by decide) (by decide)).mono ?_
  rintro e w3 ⟨s, rfl, rfl, hc3, ho3⟩
  have HC3 := Lib.hid hc3; clear hc3
  have HO3 := Lib.hid ho3; clear ho3
  go_wp2_with fail
  refine (below_any w3 w.heap.size g A n cap Z HC3.out ((s.size : Int) + 3) (by omega) (by omega)).mono ?_
  rintro e w4 ⟨y, rfl, hy, hc4, ho4⟩
  have HO4 := Lib.hid ho4; clear ho4 hc4
  go_wp2_with fail
  go_ret2
  exact ⟨s, y - 1, rfl, by omega, by omega, by omega, HB1.out.trans ((HO2.out.trans (HO3.out.trans HO4.out)).below HC1.out.1 HB1.out.size)⟩

end Go.Proofs.YtngiidocgjbooaaGreatDoor.Draw
