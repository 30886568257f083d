/-
  The laws' comparison of two rows of strings; their own look at lines, fields, parts: it returns true.
-/
import Derived.Test.YtnkldjijjpcmhaaLines
import Derived.Test.YtnkldjijjpcmhaaJoin
namespace Go.Proofs.Ytnkldjijjpcmhaa.Seqs
open Go.ChangeShapes Go.WideShapes Go.ChangeAt Go.RowKit Go.PlainAid
open Go.Proofs.Ytnkldjijjpcmhaa.Dec Go.Proofs.Ytnkldjijjpcmhaa.Strs
open Go.Proofs.Ytnkldjijjpcmhaa.DecPure Go.Proofs.Ytnkldjijjpcmhaa.ReadPure Go.Proofs.Ytnkldjijjpcmhaa.RecPure
set_option linter.unusedVariables false

set_option maxRecDepth 100000 in
set_option maxHeartbeats 4000000 in
theorem same_srs (B B' : Nat) (w : World) (x y : Value) (l : List ByteArray) (hx : SR B w x l) (hy : SR B' w y l) (hl : l.length ≤ 1048577) : Calls Try.prog 18 #[x, y] w fun e w' => e = .returned (.bool true) ∧ Below w.heap.size w w' := by
  obtain ⟨ao, cap, rfl⟩ := hx.form
  obtain ⟨ao', cap', rfl⟩ := hy.form
  have HX := Lib.hid hx
  have HY := Lib.hid hy
  clear hx hy
  go_enter Try.func18, Try.ntmps18
  go_wp2_with fail
  go_loopw [5] (fun i wr => ∃ k : Nat, k ≤ l.length ∧ i = .int .i64 k ∧ Hid (Below w.heap.size w wr)) (fun i _ => l.length - (intOf i).toNat)
  case atStart => exact ⟨0, Nat.zero_le _, rfl, Below.refl _ _⟩
  case round =>
    obtain ⟨k, hk, rfl, HB⟩ := hrel
    by_cases hlt : k < l.length
    · have hx2 := HX.out.below HB.out (Nat.le_refl _)
      have hy2 := HY.out.below HB.out (Nat.le_refl _)
      obtain ⟨g, c, e1, c0, _⟩ := hx2.at hlt
      obtain ⟨g', c', e2, d0, _⟩ := hy2.at hlt
      simp only [Value.slice.injEq, true_and] at e1 e2
      obtain ⟨rfl, rfl⟩ := e1
      obtain ⟨rfl, rfl⟩ := e2
      have hki : (k : Int) < (l.length : Int) := by omega
      obtain ⟨t, ht⟩ : ∃ t, t = sat l k := ⟨_, rfl⟩
      rw [← ht] at c0 d0
      clear hx2 hy2 ht
      go_wp2_with fail
      go_quiet (fail)
      go_wp2_with fail
      go_roundw
      case rel => exact ⟨k + 1, by omega, by go_num, HB.out.trans ⟨rfl, rfl, rfl, Nat.le_refl _, fun _ _ => rfl⟩⟩
      case measure => simp [intOf]; omega
    · have e : k = l.length := by omega
      subst e
      clear hlt
      go_wp2_with fail
      go_ret
      exact ⟨rfl, HB.out⟩

/-- The two letters that the look at lines takes. -/
def abL : List ByteArray := [⟨#[97]⟩, ⟨#[98]⟩]
theorem ab_row (w : World) : SR w.heap.size (w.alloc (.cells #[.string ⟨#[97]⟩, .string ⟨#[98]⟩] 9)) (.slice (some ⟨w.heap.size, 0, none⟩) 2 2) abL := World.ownsRow_lit w #[.string ⟨#[97]⟩, .string ⟨#[98]⟩] 2 (Nat.le_refl _) (by decide) rfl

set_option maxRecDepth 100000 in
set_option maxHeartbeats 4000000 in
theorem lines_alive (w : World) (hH : Held w) : Calls Try.prog 14 #[] w fun e w' => e = .returned (.bool true) ∧ Below w.heap.size w w' := by
  have h1 : ∀ W, Held W → Calls Try.prog 13 #[.string ⟨#[97, 10, 98]⟩] W (Made W abL) := fun W hW => by
    have h := impl_lines ⟨#[97, 10, 98]⟩ (by decide) W hW
    rw [show linesP ⟨#[97, 10, 98]⟩ = abL from by decide +kernel] at h
    exact h
  have h2 : ∀ W, Calls Try.prog 16 #[.string ⟨#[32, 97, 32, 32, 98, 32]⟩] W (Made W abL) := fun W => by
    have h := impl_fields ⟨#[32, 97, 32, 32, 98, 32]⟩ (by decide) W
    rw [show fieldsP ⟨#[32, 97, 32, 32, 98, 32]⟩ = abL from by decide +kernel] at h
    exact h
  have h3 : ∀ W, Held W → Calls Try.prog 21 #[.string ⟨#[97, 58, 98]⟩, .string ⟨#[58]⟩] W (Made W abL) := fun W hW => by
    have h := impl_split ⟨#[97, 58, 98]⟩ ⟨#[58]⟩ (by decide) (by decide) W hW
    rw [show splitP ⟨#[97, 58, 98]⟩ ⟨#[58]⟩ = abL from by decide +kernel] at h
    exact h
  have h4 : ∀ W, Calls Try.prog 19 #[.slice (some ⟨W.heap.size, 0, none⟩) 2 2] (W.alloc (.cells #[.string ⟨#[97]⟩, .string ⟨#[98]⟩] 9)) fun e w' => e = .returned (.string ⟨#[97, 32, 98]⟩) ∧ Below W.heap.size W w' := fun W => by
    have h := impl_join _ abL (by decide) _ (SR.read (ab_row W) (fun i hi => by have : i = 0 ∨ i = 1 := by (have : abL.length = 2 := rfl); omega
                                                                                rcases this with rfl | rfl <;> decide))
    rw [show joinP abL = ⟨#[97, 32, 98]⟩ from by decide +kernel] at h
    exact h.mono fun e w' ⟨he, hb⟩ => ⟨he, ((Below.refl _ W).alloc (Nat.le_refl _) _).trans (hb.mono (by simp))⟩
  have H1 := Lib.hid h1
  have H2 := Lib.hid h2
  have H3 := Lib.hid h3
  have H4 := Lib.hid h4
  clear h1 h2 h3 h4
  have HM := Lib.hid hH; clear hH
  have HB0 := Lib.hid (Below.refl w.heap.size w)
  go_enter Try.func14, Try.ntmps14
  go_wp2_with fail
  refine (H1.out w HM.out).mono ?_
  rintro e w1 ⟨v1, rfl, t, hB⟩
  have T1 := Lib.hid t
  have HB1 := Lib.hid (HB0.out.trans (hB.mono HB0.out.size)); clear t hB
  obtain ⟨ao1, cp1, rfl⟩ := T1.out.form
  go_wp2_with fail
  refine (same_srs _ _ _ _ _ abL (T1.out.below ((Below.refl _ _).alloc (Nat.le_refl _) (.cells #[.string ⟨#[97]⟩, .string ⟨#[98]⟩] 9)) (Nat.le_refl _)) (ab_row w1) (by decide)).mono ?_
  rintro e w2 ⟨rfl, hB⟩
  have HB2 := Lib.hid (HB1.out.trans (((Below.refl w1.heap.size w1).alloc (Nat.le_refl _) (.cells #[.string ⟨#[97]⟩, .string ⟨#[98]⟩] 9)).trans (hB.mono (by simp)) |>.mono HB1.out.size)); clear hB
  go_wp2_with fail
  refine (H2.out w2).mono ?_
  rintro e w3 ⟨v3, rfl, t, hB⟩
  have T3 := Lib.hid t
  have HB3 := Lib.hid (HB2.out.trans (hB.mono HB2.out.size)); clear t hB
  obtain ⟨ao3, cp3, rfl⟩ := T3.out.form
  go_wp2_with fail
  refine (same_srs _ _ _ _ _ abL (T3.out.below ((Below.refl _ _).alloc (Nat.le_refl _) (.cells #[.string ⟨#[97]⟩, .string ⟨#[98]⟩] 9)) (Nat.le_refl _)) (ab_row w3) (by decide)).mono ?_
  rintro e w4 ⟨rfl, hB⟩
  have HB4 := Lib.hid (HB3.out.trans (((Below.refl w3.heap.size w3).alloc (Nat.le_refl _) (.cells #[.string ⟨#[97]⟩, .string ⟨#[98]⟩] 9)).trans (hB.mono (by simp)) |>.mono HB3.out.size)); clear hB
  go_wp2_with fail
  refine (H3.out w4 (HM.out.below HB4.out (Nat.le_refl _))).mono ?_
  rintro e w5 ⟨v5, rfl, t, hB⟩
  have T5 := Lib.hid t
  have HB5 := Lib.hid (HB4.out.trans (hB.mono HB4.out.size)); clear t hB
  obtain ⟨ao5, cp5, rfl⟩ := T5.out.form
  go_wp2_with fail
  refine (same_srs _ _ _ _ _ abL (T5.out.below ((Below.refl _ _).alloc (Nat.le_refl _) (.cells #[.string ⟨#[97]⟩, .string ⟨#[98]⟩] 9)) (Nat.le_refl _)) (ab_row w5) (by decide)).mono ?_
  rintro e w6 ⟨rfl, hB⟩
  have HB6 := Lib.hid (HB5.out.trans (((Below.refl w5.heap.size w5).alloc (Nat.le_refl _) (.cells #[.string ⟨#[97]⟩, .string ⟨#[98]⟩] 9)).trans (hB.mono (by simp)) |>.mono HB5.out.size)); clear hB
  go_wp2_with fail
  refine (H4.out w6).mono ?_
  rintro e w7 ⟨rfl, hB⟩
  have HB7 := Lib.hid (HB6.out.trans (hB.mono HB6.out.size)); clear hB
  go_wp2_with fail
  go_ret
  exact ⟨rfl, HB7.out⟩

end Go.Proofs.Ytnkldjijjpcmhaa.Seqs
