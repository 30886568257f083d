/-
  The model's functions that draw texts from a list of bytes: of so many bytes; they write into their own cursor alone.
-/
import Derived.Test.YthaedmldlenhgaaGreatDoorDraw
import Derived.Test.YthaedmldlenhgaaGreatDoorRowB
import Derived.Test.YthaedmldlenhgaaGreatDoorReadPure
import Derived.PlainAid
import Derived.Deep.RegionWith
import Derived.Deep.RegionHeld3
namespace Go.Proofs.YthaedmldlenhgaaGreatDoor.Draw
open Go.ChangeShapes Go.WideShapes Go.ChangeAt Go.RowKit
open Go.PlainAid Go.Proofs.YthaedmldlenhgaaGreatDoor.Dec
open Go.Proofs.YthaedmldlenhgaaGreatDoor.DecPure Go.Proofs.YthaedmldlenhgaaGreatDoor.ReadPure Go.Proofs.YthaedmldlenhgaaGreatDoor.Cell
set_option linter.unusedVariables false

theorem Cur.same {w w' : World} {B g : Nat} {A : Option Addr} {n cap : Nat} {Z : Nat → Int} (h : Cur w B g A n cap Z) (hk : ∀ x, x ≤ g → w'.heap[x]? = w.heap[x]?) : Cur w' B g A n cap Z := by
  obtain ⟨h1, h2, h3, k, c, h4, h5⟩ := h
  refine ⟨h1, h2, fun j hj => ?_, k, c, h4, (hk g (Nat.le_refl _)).trans h5⟩
  obtain ⟨b, off, e, hlt, hc, hz⟩ := h3 j hj
  exact ⟨b, off, e, hlt, (World.cell?_of_block (w := w) (hk b (by omega))).trans hc, hz⟩
theorem buf_same {B : Nat} {w w' : World} {v : Value} {L : List Int} (h : RowB B w v L) (hb : ∀ x, v.ownBlock = some x → w'.heap[x]? = w.heap[x]?) : RowB B w' v L := by
  rcases h with ⟨q1, q2 | ⟨x, cap, cur, rfl, q3, q4, q5⟩⟩
  · exact ⟨q1, Or.inl q2⟩
  · exact ⟨q1, Or.inr ⟨x, cap, cur, rfl, q3, by rw [hb x rfl]; exact q4, q5⟩⟩
theorem Cur.lt {w : World} {B g : Nat} {A : Option Addr} {n cap : Nat} {Z : Nat → Int} (h : Cur w B g A n cap Z) : g < w.heap.size := by
  obtain ⟨_, _, _, _, _, _, h5⟩ := h
  exact h5.lt
theorem Only.grown {w w1 w2 : World} {g : Nat} {r : Option Nat} (h : Only w w1 g) (hg : w1.grownBy w2 r) (hr : ∀ x, r = some x → w.heap.size ≤ x) : Only w w2 g :=
  ⟨hg.os.trans h.os, hg.tape.trans h.tape, hg.output.trans h.output, Nat.le_trans h.size hg.size, fun j hj hne => (hg.block j (Nat.lt_of_lt_of_le hj h.size) (fun e => by have := hr j e.symm; omega)).trans (h.block j hj hne)⟩

/-- What a drawn text says: its size, and the cursor again. -/
def Texted (m : Nat) (w : World) (B g : Nat) (A : Option Addr) (n cap : Nat) (Z : Nat → Int) (e : Ending) (w' : World) : Prop := ∃ s : ByteArray, e = .returned (.string s) ∧ s.size = m ∧ Cur w' B g A n cap Z ∧ Only w w' g

set_option maxRecDepth 100000 in
set_option maxHeartbeats 2000000 in
theorem text_of (w : World) (B g : Nat) (A : Option Addr) (n cap : Nat) (Z : Nat → Int) (hc : Cur w B g A n cap Z) (m : Nat) (hm : m ≤ 1000000) (t : ByteArray) (h1 : 1 ≤ t.size) (h2 : t.size ≤ 1000000) :
    Calls Tryz.prog 52 #[.pointer (some ⟨g, 0, none⟩), .int .i64 m, .string t] w (Texted m w B g A n cap Z) := by
  have hb := get_bt t
  have hgl := hc.lt
  have HC := Lib.hid hc; clear hc
  go_enter Tryz.func52, Tryz.ntmps52
  go_wp2_with fail
  go_loopw [7, 8] (fun v i wr => ∃ (j : Nat) (L : List Int), j ≤ m ∧ i = .int .i64 j ∧ L.length = j ∧ Hid (RowB w.heap.size wr v L) ∧ Hid (Cur wr B g A n cap Z) ∧ Hid (Only w wr g)) (fun _ i _ => m - (intOf i).toNat)
  case atStart => exact ⟨0, [], Nat.zero_le _, rfl, rfl, Lib.hid (RowB.nil _ _), HC, Lib.hid (Only.refl _ _)⟩
  case round =>
    obtain ⟨j, L, hj, rfl, hL, hbuf, hC, hO⟩ := hrel
    have hsz := hO.out.size
    by_cases hlt : j < m
    · have hj1 : (j : Int) < (m : Int) := by omega
      go_wp2_with fail
      refine (below_any _ B g A n cap Z hC.out t.size (by omega) (by omega)).mono ?_
      rintro e w1 ⟨x, rfl, hx, hc1, ho1⟩
      obtain ⟨q, rfl⟩ := Int.eq_ofNat_of_zero_le hx.1
      have hq : q < t.size := by omega
      have hq1 : (q : Int) < (t.size : Int) := by omega
      have b0 := bt_nonneg t q
      have b1 := bt_le t q
      have hsz1 := ho1.size
      have hbuf1 : RowB w.heap.size w1 _ L := buf_same hbuf.out (fun x hx => by have := hbuf.out.lt x hx; exact ho1.block x this.2 (by intro e; simp only [Option.some.injEq] at e; omega))
      have HC1 := Lib.hid hc1
      have HO1 := Lib.hid (hO.out.trans ho1)
      clear hc1 ho1 hbuf hC hO hx
      have HBF := Lib.hid hbuf1
      clear hbuf1
      go_wp2_with (at_builtin; refine rowB_push w.heap.size w1 _ L (bt t q) rfl _ _ rfl rfl rfl HBF.out (by omega) (by omega) ?_; intro v2 w2 hbuf2 hgrow2)
      have hC2 := HC1.out.same (w' := w2) (fun x hx => hgrow2.block x (by omega) (fun e => by have := (HBF.out.lt x e.symm).1; omega))
      have hO2 := HO1.out.grown hgrow2 (fun x hx => (HBF.out.lt x hx).1)
      clear hgrow2
      go_roundw
      case rel => exact ⟨j + 1, L ++ [bt t q], by omega, by go_num, by simp; omega, Lib.hid hbuf2, Lib.hid hC2, Lib.hid hO2⟩
      case measure => simp [intOf]; omega
    · have e : j = m := by omega
      subst e
      have hcv := rowB_conv hbuf.out
      go_wp2_with fail
      go_ret
      exact ⟨_, rfl, by rw [strOfNums_size, hL], hC.out, hO.out⟩

/-- A row of strings that is known whole. -/
def StrRow (w : World) (g : Nat) (l : List ByteArray) : Prop := w.heap[g]? = some (.cells (l.map Value.string).toArray 9 (0, 0))
theorem StrRow.cell {w : World} {g : Nat} {l : List ByteArray} (h : StrRow w g l) {k : Nat} (hk : k < l.length) : w.cell? ⟨g, k, none⟩ = some (.string (l.getD k ⟨#[]⟩)) := by
  rw [cell_of_row w g k _ 9 (0, 0) h]
  simp [List.getD, List.getElem?_eq_getElem hk]

/-- A drawn text of at most m bytes, and the cursor again. -/
def Txt (m : Nat) (w : World) (B g : Nat) (A : Option Addr) (n cap : Nat) (Z : Nat → Int) (e : Ending) (w' : World) : Prop := ∃ s : ByteArray, e = .returned (.string s) ∧ s.size ≤ m ∧ Cur w' B g A n cap Z ∧ Only w w' g
def Flag (w : World) (B g : Nat) (A : Option Addr) (n cap : Nat) (Z : Nat → Int) (e : Ending) (w' : World) : Prop := ∃ b : Bool, e = .returned (.bool b) ∧ Cur w' B g A n cap Z ∧ Only w w' g

set_option maxHeartbeats 1000000 in
theorem text_any (w : World) (B g : Nat) (A : Option Addr) (n cap : Nat) (Z : Nat → Int) (hc : Cur w B g A n cap Z) (q : Nat) (cs : List ByteArray) (hq : StrRow w q cs) (hqg : q ≠ g) (hl : 1 ≤ cs.length) (hl2 : cs.length ≤ 1000000)
    (m : Nat) (hP : ∀ x ∈ cs, x.size ≤ m) :
    Calls Tryz.prog 50 #[.pointer (some ⟨g, 0, none⟩), .slice (some ⟨q, 0, none⟩) cs.length cs.length] w (Txt m w B g A n cap Z) := by
  have hqs : q < w.heap.size := Blk.lt (t := 9) hq
  have HQ := Lib.hid hq; clear hq
  have HP := Lib.hid hP; clear hP
  go_enter Tryz.func50, Tryz.ntmps50
  go_wp2_with fail
  refine (below_any _ B g A n cap Z hc cs.length (by omega) (by omega)).mono ?_
  rintro e w1 ⟨x, rfl, hx, hc1, ho⟩
  obtain ⟨j, rfl⟩ := Int.eq_ofNat_of_zero_le hx.1
  have hj : j < cs.length := by omega
  have hcell : w1.cell? ⟨q, j, none⟩ = some (.string cs[j]) := by
    rw [World.cell?_of_block (ho.block q hqs (by simpa using hqg)), HQ.out.cell hj]
    simp [hj]
  have HC := Lib.hid hc1; clear hc1
  have HO := Lib.hid ho; clear ho
  have i0 : (0 : Int) ≤ (j : Int) := by omega
  have i1 : (j : Int) < (cs.length : Int) := by omega
  obtain ⟨y, hy⟩ : ∃ y, y = cs[j] := ⟨_, rfl⟩
  rw [← hy] at hcell
  have HY := Lib.hid hy; clear hy
  go_wp2_with fail
  go_ret
  exact ⟨_, rfl, HP.out _ (by rw [HY.out]; exact List.getElem_mem _), HC.out, HO.out⟩

theorem text_new (w : World) (B g : Nat) (A : Option Addr) (n cap : Nat) (Z : Nat → Int) (hc : Cur w B g A n cap Z) (cs : List ByteArray) (arr : Array Value) (ha : arr = (cs.map Value.string).toArray) (L : Nat) (hL : cs.length = L) (hl : 1 ≤ L) (hl2 : L ≤ 1000000)
    (m : Nat) (hP : ∀ x ∈ cs, x.size ≤ m) :
    Calls Tryz.prog 50 #[.pointer (some ⟨g, 0, none⟩), .slice (some ⟨w.heap.size, 0, none⟩) L L] (w.alloc (.cells arr 9)) (Txt m w B g A n cap Z) := by
  subst ha; subst hL
  have hgl := hc.lt
  refine (text_any (w.alloc (.cells _ 9)) B g A n cap Z (hc.alloc _) w.heap.size cs (heap_alloc_new w _) (by omega) hl hl2 m hP).mono ?_
  rintro e w' ⟨s, he, hs, hc', ho⟩
  exact ⟨s, he, hs, hc', ((Only.refl w g).alloc _).trans ho⟩

set_option maxHeartbeats 1000000 in
theorem once_any (w : World) (B g : Nat) (A : Option Addr) (n cap : Nat) (Z : Nat → Int) (hc : Cur w B g A n cap Z) (m : Int) (h1 : 1 ≤ m) (h2 : m ≤ 256) :
    Calls Tryz.prog 20 #[.pointer (some ⟨g, 0, none⟩), .int .i64 m] w (Flag w B g A n cap Z) := by
  go_enter Tryz.func20, Tryz.ntmps20
  go_wp2_with fail
  refine (below_any _ B g A n cap Z hc m (by omega) (by omega)).mono ?_
  rintro e w1 ⟨x, rfl, hx, hc1, ho⟩
  have HC := Lib.hid hc1; clear hc1
  have HO := Lib.hid ho; clear ho
  go_wp2_with fail
  go_ret
  exact ⟨_, rfl, HC.out, HO.out⟩

theorem text_one (w : World) (B g : Nat) (A : Option Addr) (n cap : Nat) (Z : Nat → Int) (hc : Cur w B g A n cap Z) (t : ByteArray) (h1 : 1 ≤ t.size) (h2 : t.size ≤ 1000000) :
    Calls Tryz.prog 52 #[.pointer (some ⟨g, 0, none⟩), .int .i64 1, .string t] w (Txt 1 w B g A n cap Z) :=
  (text_of w B g A n cap Z hc 1 (by omega) t h1 h2).mono fun e w' ⟨s, he, hs, hc', ho⟩ => ⟨s, he, by omega, hc', ho⟩

set_option maxHeartbeats 2000000 in
theorem bend_any (w : World) (B g : Nat) (A : Option Addr) (n cap : Nat) (Z : Nat → Int) (hc : Cur w B g A n cap Z) (s : ByteArray) (hs : s.size ≤ 100000) :
    Calls Tryz.prog 51 #[.pointer (some ⟨g, 0, none⟩), .string s] w (Txt (s.size + 1) w B g A n cap Z) := by
  go_enter Tryz.func51, Tryz.ntmps51
  go_wp2_with fail
  refine (below_any _ B g A n cap Z hc ((s.size : Int) + 1) (by omega) (by omega)).mono ?_
  rintro e w1 ⟨x, rfl, hx, hc1, ho1⟩
  obtain ⟨k, rfl⟩ := Int.eq_ofNat_of_zero_le hx.1
  have hk : k ≤ s.size := by omega
  have HC1 := Lib.hid hc1; clear hc1
  have HO1 := Lib.hid ho1; clear ho1
  go_wp2_with fail
  refine (below_any _ B g A n cap Z HC1.out 3 (by omega) (by omega)).mono ?_
  rintro e w2 ⟨y, rfl, hy, hc2, ho2⟩
  have HC2 := Lib.hid hc2; clear hc2
  have HO2 := Lib.hid (HO1.out.trans ho2); clear ho2
  have hcs : y = 0 ∨ y = 1 ∨ 2 ≤ y := by omega
  have z1 : (s.extract 0 k).size = k := by rw [size_ext s 0 k hk]; omega
  have z2 : (s.extract k s.size).size = s.size - k := size_ext s k _ (Nat.le_refl _)
  rcases hcs with rfl | rfl | hy2
  · go_wp2_with fail
    have HCD : Hid (Cur w2.drew B g A n cap Z) := HC2
    go_region_with (go_at_call 52; refine (text_one w2.drew B g A n cap Z HCD.out ⟨#[97, 40, 41, 123, 125, 91, 93, 59, 44, 61, 43, 45, 42, 47, 60, 33, 126, 36, 34, 120, 49, 32, 46, 124, 94]⟩ (by decide) (by decide)).mono ?_; rintro e w3 ⟨t, rfl, ht, hc3, ho3⟩)
    all_goals
      go_wp2_with fail
      go_ret
      exact ⟨_, rfl, by rw [ByteArray.size_append, ByteArray.size_append, z1, z2]; omega, hc3, HO2.out.drew.trans ho3⟩
  · go_wp2_with fail
    go_ret
    exact ⟨_, rfl, by rw [z1]; omega, HC2.out, HO2.out⟩
  · have e0 : (y == 0) = false := by simp; omega
    have e1 : (y == 1) = false := by simp; omega
    by_cases hlt : k < s.size
    · have z3 : (s.extract (k + 1) s.size).size = s.size - (k + 1) := size_ext s _ _ (Nat.le_refl _)
      have hlt' : (k : Int) < (s.size : Int) := by omega
      go_wp2_with fail
      go_quiet (fail)
      go_wp2_with fail
      go_ret
      exact ⟨_, rfl, by rw [ByteArray.size_append, z1, z3]; omega, HC2.out, HO2.out.drewN _⟩
    · have hlt' : ¬ (k : Int) < (s.size : Int) := by omega
      go_wp2_with fail
      go_ret
      exact ⟨_, rfl, by rw [ByteArray.size_append]; show s.size + 1 ≤ _; omega, HC2.out, HO2.out⟩

theorem Only.of_below {w w' : World} {g : Nat} (h : Below w.heap.size w w') : Only w w' g :=
  ⟨h.os, h.tape, h.output, h.size, fun j hj _ => h.block j hj⟩
theorem Cur.below {w w' : World} {B g : Nat} {A : Option Addr} {n cap : Nat} {Z : Nat → Int} (h : Cur w B g A n cap Z) (hb : Below w.heap.size w w') : Cur w' B g A n cap Z :=
  h.same fun x hx => hb.block x (Nat.lt_of_le_of_lt hx h.lt)

end Go.Proofs.YthaedmldlenhgaaGreatDoor.Draw
