/-
  The program's lexer: names, signs, and whether the last token ends an operand.
-/
import Derived.Test.YtlfmiikpbdhemaaGreatDoorLexer2
namespace Go.Proofs.YtlfmiikpbdhemaaGreatDoor.Lex
open Go.ChangeShapes Go.WideShapes Go.ChangeAt Go.RowKit Go.PlainAid Go.Maps
open Go.Proofs.YtlfmiikpbdhemaaGreatDoor.Dec
open Go.Proofs.YtlfmiikpbdhemaaGreatDoor.DecPure Go.Proofs.YtlfmiikpbdhemaaGreatDoor.ReadPure Go.Proofs.YtlfmiikpbdhemaaGreatDoor.LexPure
set_option linter.unusedVariables false

set_option maxRecDepth 100000 in
set_option maxHeartbeats 4000000 in
theorem lx_word (w0 w : World) (g mb : Nat) (s : ByteArray) (p : Nat) (l : List Tk) (h : LX w0 w g mb s p l) (hs : s.size ≤ 4000) (hp : p ≤ s.size) (hl : l.length ≤ 1048577) :
    Calls Tryz.prog 41 #[.pointer (some ⟨g, 0, none⟩)] w fun x w' => StepIs w0 w' g mb s p l (if endOf innB s p - p ≤ 40 then some (⟨nmK s p (endOf innB s p), s.extract p (endOf innB s p), 0, p⟩, endOf innB s p) else none) x := by
  obtain ⟨c0, c1, c2⟩ := h.cells
  obtain ⟨m, hm⟩ : ∃ m, m = endOf innB s p := ⟨_, rfl⟩
  have h2 := endOf_ge innB s p
  have h3 := endOf_le innB s p hp
  have hms : s.size ≤ maxLen := by unfold maxLen; omega
  have HMS := Lib.hid hms; clear hms
  rw [← hm] at h2 h3 ⊢
  have HM := Lib.hid hm; clear hm
  have HD := Lib.hid h.drew; clear h
  by_cases h40 : m - p ≤ 40
  · have hn : ¬ (40 : Int) < (m : Int) - (p : Int) := by omega
    have HIF : Hid ((if m - p ≤ 40 then some ((⟨nmK s p m, s.extract p m, 0, p⟩ : Tk), m) else none) = some (⟨nmK s p m, s.extract p m, 0, p⟩, m)) := if_pos h40
    go_enter Tryz.func41, Tryz.ntmps41
    go_wp2_with fail
    go_still_tail 8, (by kernel_rfl)
    change wpList _ _ _ _ _ w.drew
    obtain ⟨d0, d1, d2⟩ := HD.out.cells
    generalize w.drew = w2 at *
    go_wp2_with fail
    refine (impl_nameEnd s p HMS.out hp _).mono ?_
    rw [← HM.out]
    rintro x w' ⟨rfl, rfl⟩
    go_wp2_with fail
    refine (lx_text w0 _ g mb s p l m HD.out hs h2 h3).mono ?_
    rintro x w3 ⟨rfl, h4⟩
    have H4 := Lib.hid h4; clear h4
    go_wp2_with fail
    refine (lx_kind w0 _ g mb s p l m H4.out hs h2 h3).mono ?_
    rintro x w4 ⟨rfl, h5⟩
    have H5 := Lib.hid h5; clear h5
    go_wp2_with fail
    refine (lx_add w0 _ g mb s p l _ _ _ _ m H5.out hl (by omega)).mono ?_
    rintro x w5 ⟨rfl, h6⟩
    have H6 := Lib.hid h6; clear h6
    go_wp2_with fail
    go_ret
    first | (rw [HIF.out]; exact ⟨rfl, H6.out⟩) | exact ⟨rfl, H6.out⟩
  · have hn : (40 : Int) < (m : Int) - (p : Int) := by omega
    have HIF : Hid ((if m - p ≤ 40 then some ((⟨nmK s p m, s.extract p m, 0, p⟩ : Tk), m) else none) = none) := if_neg h40
    go_enter Tryz.func41, Tryz.ntmps41
    go_wp2_with fail
    go_still_tail 8, (by kernel_rfl)
    change wpList _ _ _ _ _ w.drew
    obtain ⟨d0, d1, d2⟩ := HD.out.cells
    generalize w.drew = w2 at *
    go_wp2_with fail
    refine (impl_nameEnd s p HMS.out hp _).mono ?_
    rw [← HM.out]
    rintro x w' ⟨rfl, rfl⟩
    go_wp2_with fail
    go_ret
    first | (rw [HIF.out]; exact ⟨rfl, HD.out⟩) | exact ⟨rfl, HD.out⟩

theorem sgn_tail {s : ByteArray} {p : Nat} (hp : p < s.size) : sgn (s.extract p s.size) 0 = sgn s p := by
  have hz := size_ext s p s.size (Nat.le_refl _)
  have e0 : bt (s.extract p s.size) 0 = bt s p := by rw [bt_ext s p s.size 0 (Nat.le_refl _) (by omega), Nat.add_zero]
  have hc : (0 + 1 < (s.extract p s.size).size ∧ twoB (bt (s.extract p s.size) 0) (bt (s.extract p s.size) (0 + 1)) = true) ↔ (p + 1 < s.size ∧ twoB (bt s p) (bt s (p + 1)) = true) := by
    rw [hz, e0]
    constructor
    · rintro ⟨h1, h2⟩
      have e1 : bt (s.extract p s.size) (0 + 1) = bt s (p + 1) := by rw [bt_ext s p s.size (0 + 1) (Nat.le_refl _) (by omega), Nat.zero_add]
      rw [e1] at h2
      exact ⟨by omega, h2⟩
    · rintro ⟨h1, h2⟩
      have e1 : bt (s.extract p s.size) (0 + 1) = bt s (p + 1) := by rw [bt_ext s p s.size (0 + 1) (Nat.le_refl _) (by omega), Nat.zero_add]
      rw [e1]
      exact ⟨by omega, h2⟩
  unfold sgn
  by_cases h : p + 1 < s.size ∧ twoB (bt s p) (bt s (p + 1)) = true
  · rw [if_pos (hc.2 h), if_pos h]
  · rw [if_neg (fun q => h (hc.1 q)), if_neg h, e0]

set_option maxRecDepth 100000 in
set_option maxHeartbeats 4000000 in
theorem lx_sign (w0 w : World) (g mb : Nat) (s : ByteArray) (p : Nat) (l : List Tk) (h : LX w0 w g mb s p l) (hs : s.size ≤ 4000) (hp : p < s.size) (hl : l.length ≤ 1048577) :
    Calls Tryz.prog 44 #[.pointer (some ⟨g, 0, none⟩)] w fun x w' => StepIs w0 w' g mb s p l (sgnRes s p) x := by
  obtain ⟨c0, c1, c2⟩ := h.cells
  obtain ⟨m, hm⟩ : ∃ m, m = sgn s p := ⟨_, rfl⟩
  have h2 := sgn_two s p
  have h3 := sgn_le hp
  have h4 := sgn_tail hp
  have hz := size_ext s p s.size (Nat.le_refl _)
  have hz0 : 0 < (s.extract p s.size).size := by omega
  have hz1 : (s.extract p s.size).size ≤ 1048576 := by omega
  have hps : (p : Int) ≤ (s.size : Int) := by omega
  have hR : sgnRes s p = if m = 0 then none else some (⟨7, s.extract p (p + m), 0, p⟩, p + m) := by unfold sgnRes; rw [hm]
  rw [← hm] at h2 h3 h4
  rw [hR]
  clear hR hz
  have HM := Lib.hid hm; clear hm
  have H4 := Lib.hid h4; clear h4
  have HD := Lib.hid h.drew; clear h
  by_cases h0 : m = 0
  · subst h0
    go_enter Tryz.func44, Tryz.ntmps44
    go_wp2_with fail
    go_still_tail 9, (by kernel_rfl)
    change wpList _ _ _ _ _ w.drew
    obtain ⟨d0, d1, d2⟩ := HD.out.cells
    generalize w.drew = w2 at *
    go_wp2_with fail
    refine (impl_signSize _ hz0 hz1 _).mono ?_
    rw [H4.out]
    rintro x w' ⟨rfl, rfl⟩
    go_wp2_with fail
    go_ret
    exact ⟨rfl, HD.out⟩
  · have hq : ((m : Int) == 0) = false := by simp; omega
    have HIF : Hid ((if m = 0 then none else some ((⟨7, s.extract p (p + m), 0, p⟩ : Tk), p + m)) = some (⟨7, s.extract p (p + m), 0, p⟩, p + m)) := if_neg h0
    obtain ⟨q, hq2⟩ : ∃ q, q = p + m := ⟨_, rfl⟩
    have hqi : (p : Int) + (m : Int) = (q : Int) := by omega
    have hql : p ≤ q ∧ q ≤ s.size := by omega
    rw [← hq2] at HIF ⊢
    clear hq2 h3
    go_enter Tryz.func44, Tryz.ntmps44
    go_wp2_with fail
    go_still_tail 9, (by kernel_rfl)
    change wpList _ _ _ _ _ w.drew
    obtain ⟨d0, d1, d2⟩ := HD.out.cells
    generalize w.drew = w2 at *
    go_wp2_with fail
    refine (impl_signSize _ hz0 hz1 _).mono ?_
    rw [H4.out]
    rintro x w' ⟨rfl, rfl⟩
    go_wp2_with fail
    refine (lx_text w0 _ g mb s p l q HD.out hs hql.1 hql.2).mono ?_
    rintro x w3 ⟨rfl, h4⟩
    have H5 := Lib.hid h4; clear h4
    go_wp2_with fail
    refine (lx_add w0 _ g mb s p l _ _ _ _ q H5.out hl (by omega)).mono ?_
    rintro x w5 ⟨rfl, h6⟩
    have H6 := Lib.hid h6; clear h6
    go_wp2_with fail
    go_ret
    first | (rw [HIF.out]; exact ⟨rfl, H6.out⟩) | exact ⟨rfl, H6.out⟩

end Go.Proofs.YtlfmiikpbdhemaaGreatDoor.Lex
