/-
  The model's functions that draw a format and its values.
-/
import Derived.Test.YthaedmldlenhgaaGreatDoorDrawCell
import Derived.Test.YthaedmldlenhgaaGreatDoorCeRow
namespace Go.Proofs.YthaedmldlenhgaaGreatDoor.Draw
open Go.ChangeShapes Go.WideShapes Go.ChangeAt Go.RowKit
open Go.PlainAid Go.Proofs.YthaedmldlenhgaaGreatDoor.Dec
open Go.Proofs.YthaedmldlenhgaaGreatDoor.DecPure Go.Proofs.YthaedmldlenhgaaGreatDoor.ReadPure Go.Proofs.YthaedmldlenhgaaGreatDoor.Cell Go.Proofs.YthaedmldlenhgaaGreatDoor.CellPure Go.Proofs.YthaedmldlenhgaaGreatDoor.Strs
set_option linter.unusedVariables false

def pieceT : List ByteArray := [⟨#[97]⟩, ⟨#[37, 115]⟩, ⟨#[37, 100]⟩, ⟨#[37, 53, 115]⟩, ⟨#[37, 45, 52, 100]⟩, ⟨#[37, 37]⟩, ⟨#[32]⟩, ⟨#[37, 49, 50, 115]⟩]
theorem pieceT_small : ∀ x ∈ pieceT, x.size ≤ 4 := by decide
def badT : List ByteArray := [⟨#[37]⟩, ⟨#[37, 113]⟩, ⟨#[37, 49, 50, 51, 115]⟩, ⟨#[37, 45]⟩, ⟨#[37, 53]⟩]
theorem badT_small : ∀ x ∈ badT, x.size ≤ 5 := by decide
theorem text_upto (w : World) (B g : Nat) (A : Option Addr) (n cap : Nat) (Z : Nat → Int) (hc : Cur w B g A n cap Z) (x : Int) (m : Nat) (h0 : 0 ≤ x) (hx : x ≤ m) (hm : m ≤ 1000000) (t : ByteArray) (h1 : 1 ≤ t.size) (h2 : t.size ≤ 1000000) :
    Calls Tryz.prog 52 #[.pointer (some ⟨g, 0, none⟩), .int .i64 x, .string t] w (Txt m w B g A n cap Z) := by
  obtain ⟨k, rfl⟩ := Int.eq_ofNat_of_zero_le h0
  exact (text_of w B g A n cap Z hc k (by omega) t h1 h2).mono fun e w' ⟨s, he, hs, hc', ho⟩ => ⟨s, he, by omega, hc', ho⟩

set_option maxRecDepth 100000 in
set_option maxHeartbeats 2000000 in
theorem draw_format1 (w : World) (B g : Nat) (A : Option Addr) (n cap : Nat) (Z : Nat → Int) (hc : Cur w B g A n cap Z) :
    Calls Tryz.prog 17 #[.pointer (some ⟨g, 0, none⟩)] w (Txt 503 w B g A n cap Z) := by
  have HC := Lib.hid hc; clear hc
  go_enter Tryz.func17, Tryz.ntmps17
  go_wp2_with fail
  refine (below_any w _ g A n cap Z HC.out 6 (by omega) (by omega)).mono ?_
  rintro e w1 ⟨x, rfl, hx, hc1, ho1⟩
  obtain ⟨q, rfl⟩ := Int.eq_ofNat_of_zero_le hx.1
  have hq : q ≤ 5 := by omega
  have HC1 := Lib.hid hc1; clear hc1
  have HO1 := Lib.hid ho1; clear ho1
  clear hx
  go_wp2_with fail
  go_loopw [3, 4] (fun s i wr => ∃ (j : Nat) (a : ByteArray), j ≤ q ∧ i = .int .i64 j ∧ s = .string a ∧ a.size + 4 * j ≤ 4 * q ∧ Hid (Cur wr B g A n cap Z) ∧ Hid (Only w wr g)) (fun _ i _ => (intOf i).toNat)
  case atStart => exact ⟨q, ⟨#[]⟩, Nat.le_refl _, rfl, rfl, (by show 0 + 4 * q ≤ 4 * q; omega), HC1, HO1⟩
  case round =>
    obtain ⟨j, a, hj, rfl, rfl, ha, hC, hO⟩ := hrel
    by_cases hlt : 0 < j
    · have hji : (0 : Int) < (j : Int) := by omega
      go_wp2_with fail
      refine (text_new wr B g A n cap Z hC.out pieceT _ rfl 8 rfl (by omega) (by omega) 4 pieceT_small).mono ?_
      rintro e w4 ⟨t, rfl, ht, hc4, ho4⟩
      have HC4 := Lib.hid hc4; clear hc4
      have HO4 := Lib.hid (hO.out.trans ho4); clear ho4
      go_wp2_with fail
      go_roundw
      case rel => exact ⟨j - 1, a ++ t, by omega, by go_num, rfl, by rw [ByteArray.size_append]; omega, HC4, HO4⟩
      case measure => simp [intOf]; omega
    · obtain rfl : j = 0 := by omega
      have ha20 : a.size ≤ 20 := by omega
      clear hlt ha
      go_wp2_with fail
      refine (below_any wr _ g A n cap Z hC.out 12 (by omega) (by omega)).mono ?_
      rintro e w5 ⟨x, rfl, hx, hc5, ho5⟩
      have HC5 := Lib.hid hc5; clear hc5
      have HO5 := Lib.hid (hO.out.trans ho5); clear ho5
      have hcs : x = 0 ∨ x = 1 ∨ x = 2 ∨ 3 ≤ x := by omega
      rcases hcs with rfl | rfl | rfl | hx3
      · go_wp2_with fail
        refine (bend_any w5 B g A n cap Z HC5.out a (by omega)).mono ?_
        rintro e w6 ⟨t, rfl, ht, hc6, ho6⟩
        have HO6 := Lib.hid (HO5.out.trans ho6); clear ho6
        go_wp2_with fail
        go_ret
        exact ⟨_, rfl, by omega, hc6, HO6.out⟩
      · go_wp2_with fail
        refine (text_new w5 B g A n cap Z HC5.out badT _ rfl 5 rfl (by omega) (by omega) 5 badT_small).mono ?_
        rintro e w6 ⟨t, rfl, ht, hc6, ho6⟩
        have HO6 := Lib.hid (HO5.out.trans ho6); clear ho6
        go_wp2_with fail
        go_ret
        exact ⟨_, rfl, by rw [ByteArray.size_append]; omega, hc6, HO6.out⟩
      · go_wp2_with fail
        refine (below_any w5 _ g A n cap Z HC5.out 5 (by omega) (by omega)).mono ?_
        rintro e w6 ⟨y, rfl, hy, hc6, ho6⟩
        have HC6 := Lib.hid hc6; clear hc6
        have HO6 := Lib.hid (HO5.out.trans ho6); clear ho6
        go_wp2_with fail
        refine (text_upto w6 B g A n cap Z HC6.out (497 + y) 501 (by omega) (by omega) (by omega) ⟨#[102]⟩ (by decide) (by decide)).mono ?_
        rintro e w7 ⟨t, rfl, ht, hc7, ho7⟩
        have HO7 := Lib.hid (HO6.out.trans ho7); clear ho7
        go_wp2_with fail
        go_ret
        exact ⟨_, rfl, by rw [ByteArray.size_append]; show t.size + 2 ≤ 503; omega, hc7, HO7.out⟩
      · have e0 : (x == 0) = false := by simp; omega
        have e1 : (x == 1) = false := by simp; omega
        have e2 : (x == 2) = false := by simp; omega
        go_wp2_with fail
        go_ret
        exact ⟨_, rfl, by omega, HC5.out, HO5.out⟩

/-- A drawn format and its values. -/
def FmtDraw (w : World) (e : Ending) (w' : World) : Prop :=
  ∃ f v l, e = .returned (.tuple #[.string f, v]) ∧ f.size ≤ 503 ∧ CR w.heap.size w' v l ∧ l.length ≤ 7 ∧ (∀ c ∈ l, c.s.size ≤ 600) ∧ Below w.heap.size w w'
theorem ce_mem {l : List Ce} {c : Ce} {m : Nat} (h : ∀ x ∈ l, x.s.size ≤ m) (hc : c.s.size ≤ m) : ∀ x ∈ l ++ [c], x.s.size ≤ m := by
  intro x hx
  rcases List.mem_append.1 hx with h1 | h1
  · exact h x h1
  · rw [List.mem_singleton.1 h1]; exact hc
theorem cr_lower {B C : Nat} {w : World} {v : Value} {l : List Ce} (h : CR B w v l) (hC : C ≤ B) : CR C w v l := by
  rcases h with ⟨q1, q2 | ⟨x, cap, cur, rfl, q3, q4⟩⟩
  · exact ⟨q1, Or.inl q2⟩
  · exact ⟨q1, Or.inr ⟨x, cap, cur, rfl, by omega, q4⟩⟩
theorem cr_only {B : Nat} {w w' : World} {v : Value} {l : List Ce} {g : Nat} (h : CR B w v l) (ho : Only w w' g) (hg : g < B) : CR B w' v l :=
  h.same fun x hx => ho.block x (h.lt x hx).2 (by have := (h.lt x hx).1; intro e; simp only [Option.some.injEq] at e; omega)

set_option maxRecDepth 100000 in
set_option maxHeartbeats 4000000 in
theorem draw_format (w : World) (A : Option Addr) (n cap : Nat) (Z : Nat → Int) (hn : n ≤ 9223372036854775807) (hb : Bytes w w.heap.size A n Z) :
    Calls Tryz.prog 5 #[.slice A n cap] w (FmtDraw w) := by
  have HB := Lib.hid hb; clear hb
  go_enter Tryz.func5, Tryz.ntmps5
  go_wp2_with fail
  refine (new_any w A n cap Z hn HB.out).mono ?_
  rintro e w1 ⟨g, rfl, hc1, hb1⟩
  have HC1 := Lib.hid hc1; clear hc1
  have HB1 := Lib.hid hb1; clear hb1
  have hg1 := HC1.out.lt
  have hgw : w.heap.size ≤ g := HC1.out.1
  go_wp2_with fail
  refine (draw_format1 w1 _ g A n cap Z HC1.out).mono ?_
  rintro e w2 ⟨f, rfl, hf, hc2, ho2⟩
  have HC2 := Lib.hid hc2; clear hc2
  have HO2 := Lib.hid ho2; clear ho2
  go_wp2_with fail
  refine (below_any w2 _ g A n cap Z HC2.out 7 (by omega) (by omega)).mono ?_
  rintro e w3 ⟨x, rfl, hx, hc3, ho3⟩
  obtain ⟨q, rfl⟩ := Int.eq_ofNat_of_zero_le hx.1
  have hq : q ≤ 6 := by omega
  have HC3 := Lib.hid hc3; clear hc3
  have HO3 := Lib.hid (HO2.out.trans ho3); clear ho3
  clear hx
  go_wp2_with fail
  go_loopw [6, 7] (fun v i wr => ∃ (j : Nat) (l : List Ce), j ≤ q ∧ i = .int .i64 j ∧ l.length + j = q ∧ (∀ c ∈ l, c.s.size ≤ 600) ∧ Hid (CR w1.heap.size wr v l) ∧ Hid (Cur wr w.heap.size g A n cap Z) ∧ Hid (Only w1 wr g)) (fun _ i _ => (intOf i).toNat)
  case atStart => exact ⟨q, [], Nat.le_refl _, rfl, by simp, (fun x hx => by cases hx), CR.nil _ _, HC3, HO3⟩
  case round =>
    obtain ⟨j, l, hj, rfl, hl, hsz, hR, hC, hO⟩ := hrel
    have hgr := hO.out.size
    by_cases hlt : 0 < j
    · have hji : (0 : Int) < (j : Int) := by omega
      go_wp2_with fail
      refine (cell_drawn wr _ g A n cap Z hC.out).mono ?_
      rintro e w4 ⟨t, k, s, rfl, hs, hc4, ho4⟩
      have HC4 := Lib.hid hc4; clear hc4
      have HR4 := Lib.hid (cr_only hR.out ho4 hg1)
      have HO4 := Lib.hid (hO.out.trans ho4); clear ho4
      have hz4 := HO4.out.size
      go_wp2_with (at_builtin; refine ce_push w1.heap.size w4 _ l t k s rfl _ _ rfl rfl rfl HR4.out (by omega) (by omega) ?_; intro v5 w5 hrow5 hgrow5)
      have hC5 := HC4.out.same (w' := w5) (fun x hx => hgrow5.block x (by have := HC4.out.lt; omega) (fun e => by have := (HR4.out.lt x e.symm).1; omega))
      have hO5 := HO4.out.grown hgrow5 (fun x hx => (HR4.out.lt x hx).1)
      clear hgrow5
      go_roundw
      case rel => exact ⟨j - 1, l ++ [⟨t, k, s⟩], by omega, by go_num, by simp; omega, ce_mem hsz hs, Lib.hid hrow5, Lib.hid hC5, Lib.hid hO5⟩
      case measure => simp [intOf]; omega
    · obtain rfl : j = 0 := by omega
      have hl6 : l.length ≤ 6 := by omega
      clear hlt hl
      go_wp2_with fail
      refine (once_any wr _ g A n cap Z hC.out 10 (by omega) (by omega)).mono ?_
      rintro e w5 ⟨b, rfl, hc5, ho5⟩
      have HC5 := Lib.hid hc5; clear hc5
      have HR5 := Lib.hid (cr_only hR.out ho5 hg1)
      have HO5 := Lib.hid (hO.out.trans ho5); clear ho5
      have hz5 := HO5.out.size
      cases b with
      | true =>
        go_wp2_with fail
        refine (cell_bent w5 _ g A n cap Z HC5.out).mono ?_
        rintro e w6 ⟨t, k, s, rfl, hs, hc6, ho6⟩
        have HR6 := Lib.hid (cr_only HR5.out ho6 hg1)
        have HO6 := Lib.hid (HO5.out.trans ho6); clear ho6
        have hz6 := HO6.out.size
        go_wp2_with (at_builtin; refine ce_push w1.heap.size w6 _ l t k s rfl _ _ rfl rfl rfl HR6.out (by omega) (by omega) ?_; intro v7 w7 hrow7 hgrow7)
        have hO7 := HO6.out.grown hgrow7 (fun x hx => (HR6.out.lt x hx).1)
        clear hgrow7
        go_ret2
        exact ⟨f, _, l ++ [⟨t, k, s⟩], rfl, hf, cr_lower hrow7 HB1.out.size, by simp; omega, ce_mem hsz hs, HB1.out.trans (hO7.below hgw HB1.out.size)⟩
      | false =>
        go_wp2_with fail
        go_ret2
        exact ⟨f, _, l, rfl, hf, cr_lower HR5.out HB1.out.size, by omega, hsz, HB1.out.trans (HO5.out.below hgw HB1.out.size)⟩

end Go.Proofs.YthaedmldlenhgaaGreatDoor.Draw
