/-
  The library's division of a number of 128 bits by a million, and what DecMul of the program returns.
-/
import Derived.Test.YthaedmldlenhgaaDoorMul
import Derived.Laws.BitsAllLaws
namespace Go.Proofs.YthaedmldlenhgaaDoor.Dec
open Go.ChangeShapes Go.WideShapes Go.ChangeAt Go.RowKit
open Go.Proofs.YthaedmldlenhgaaDoor.DecPure
set_option linter.unusedVariables false

theorem div64_low (l : Int) (h0 : 0 ≤ l) (h1 : l ≤ 18446744073709551615) (w : World) :
    Calls Tryd.prog 86 #[.int .u64 0, .int .u64 l, .int .u64 1000000] w fun e w' => Quo (dQ 0 l) e ∧ ∃ n, w' = w.drewN n := by
  have hq : l / 1000000 = dQ 0 l := by unfold dQ; omega
  have HQ := Lib.hid hq; clear hq
  go_enter Tryd.func86, Tryd.ntmps86
  go_wp2
  go_quiet (fail)
  go_wp2
  go_ret2
  exact ⟨⟨_, by rw [← HQ.out]; rfl⟩, _, rfl⟩

set_option maxRecDepth 100000 in
theorem lz (w : World) : Calls Tryd.prog 88 #[.int .u64 1000000] w fun e w' => e = .returned (.int .i64 44) ∧ w = w' := by
  go_enter Tryd.func88, Tryd.ntmps88
  go_wp2
  go_ret
  exact ⟨by as_aux_lemma => kernel_rfl, rfl⟩

set_option maxHeartbeats 1000000 in
theorem div64_high (h l : Int) (h2 : 0 < h) (h3 : h < 1000000) (h0 : 0 ≤ l) (h1 : l ≤ 18446744073709551615) (w : World) :
    Calls Tryd.prog 86 #[.int .u64 h, .int .u64 l, .int .u64 1000000] w fun e w' => Quo (dQ h l) e ∧ w = w' := by
  have hz : (h == 0) = false := by simp; omega
  obtain ⟨u, hu⟩ : ∃ u, u = h * 17592186044416 + l / 1048576 := ⟨_, rfl⟩
  obtain ⟨v, hv⟩ : ∃ v, v = (l % 1048576) * 17592186044416 := ⟨_, rfl⟩
  obtain ⟨x, hx⟩ : ∃ x, x = u % 4096000000 * 4294967296 + v / 4294967296 := ⟨_, rfl⟩
  have hq := quo_eq h l (by omega) h3 h0 h1 u v x hu hv hx
  have HQ := Lib.hid hq; clear hq
  have e1 := or_eq h l (by omega) h3 h0 h1
  rw [← hu] at e1
  have e2 := shl_eq l h0 h1
  rw [← hv] at e2
  have e3 := and_zero v (l % 1048576) (by omega) (by omega) hv
  have e4 := and_y
  have bu : 0 ≤ u ∧ u ≤ 17592186044415999999 := by omega
  have bv : 0 ≤ v ∧ v ≤ 18446726481523507200 := by omega
  have e5 := step2 u v bu.1 bu.2 bv.1 (by omega)
  rw [← hx] at e5
  have bx : 0 ≤ x ∧ x ≤ 17592186044415999999 := by omega
  clear hu hv hx
  go_enter Tryd.func86, Tryd.ntmps86
  go_wp2_with (first | (go_at_call 88; refine (lz _).mono ?_; rintro e w' ⟨rfl, rfl⟩))
  refine wp_loop_rounds 1 ?_
  rw [rounds_succ]
  go_wp2
  refine wp_loop_rounds 1 ?_
  rw [rounds_succ]
  go_wp2
  go_ret2
  exact ⟨⟨_, by rw [← HQ.out]; rfl⟩, rfl⟩

theorem div64 (h l : Int) (h2 : 0 ≤ h) (h3 : h < 1000000) (h0 : 0 ≤ l) (h1 : l ≤ 18446744073709551615) (w : World) :
    Calls Tryd.prog 86 #[.int .u64 h, .int .u64 l, .int .u64 1000000] w fun e w' => Quo (dQ h l) e ∧ ∃ n, w' = w.drewN n := by
  by_cases hz : h = 0
  · subst hz
    exact div64_low l h0 h1 w
  · exact (div64_high h l (by omega) h3 h0 h1 w).mono fun e w' ⟨a, b⟩ => ⟨a, 0, by rw [← b]; rfl⟩

theorem dec_times_big (a b : Int) (h1 : dOk a = true) (h2 : dOk b = true) (k : 1000000 ≤ hiV (absV a) (absV b)) (w : World) :
    Calls Tryd.prog 79 #[.int .i64 a, .int .i64 b] w fun e w' => e = .returned (.tuple #[.int .i64 0, .bool false]) ∧ w = w' := by
  have ba := absV_bd h1
  have bb := absV_bd h2
  have bl := loV_bd (absV a) (absV b)
  go_enter Tryd.func79, Tryd.ntmps79
  go_wp2_with (first | (go_at_call 81; refine (dec_size _ (by assumption) _).mono ?_; rintro e w' ⟨rfl, rfl⟩) | (go_at_call 85; refine (mul64 _ _ (by omega) (by omega) (by omega) (by omega) _).mono ?_; rintro e w' ⟨rfl, rfl⟩))
  go_ret2
  exact ⟨rfl, rfl⟩

/-- A size of a product that is too great, or not. -/
theorem dec_times_small (a b : Int) (h1 : dOk a = true) (h2 : dOk b = true) (k : hiV (absV a) (absV b) < 1000000) (w : World) :
    Calls Tryd.prog 79 #[.int .i64 a, .int .i64 b] w fun e w' => e = .returned (.tuple #[.int .i64 (mkV (mulQ a b)), .bool (dOk (mulQ a b))]) ∧ ∃ n, w' = w.drewN n := by
  have ba := absV_bd h1
  have bb := absV_bd h2
  have bl := loV_bd (absV a) (absV b)
  have bh := hiV_nn (absV a) (absV b) ba.1 bb.1
  have hd : dQ (hiV (absV a) (absV b)) (loV (absV a) (absV b)) = sizQ a b := dQ_hilo _ _
  have bs := sizQ_nn a b
  by_cases hm : 9000000000000 < sizQ a b
  · have hn : dOk (mulQ a b) = false := by
      have cs : ((a < 0 ∧ b < 0) ∨ (0 ≤ a ∧ 0 ≤ b)) ∨ ((a < 0 ∧ 0 ≤ b) ∨ (0 ≤ a ∧ b < 0)) := by omega
      rcases cs with hs | hs
      · rw [mulQ_same hs]; exact dOk_not (by omega)
      · rw [mulQ_diff hs]; exact dOk_not (by omega)
    rw [mkV_no hn, hn]
    have HD := Lib.hid hd; clear hd hn
    go_enter Tryd.func79, Tryd.ntmps79
    go_wp2_with (first | (go_at_call 81; refine (dec_size _ (by assumption) _).mono ?_; rintro e w' ⟨rfl, rfl⟩) | (go_at_call 85; refine (mul64 _ _ (by omega) (by omega) (by omega) (by omega) _).mono ?_; rintro e w' ⟨rfl, rfl⟩) | (go_at_call 86; refine (div64 _ _ (by omega) (by omega) (by omega) (by omega) _).mono ?_; rintro e w' ⟨⟨r, rfl⟩, n, rfl⟩; rw [HD.out]))
    go_ret2
    exact ⟨rfl, _, rfl⟩
  · cases ta : decide (a < 0) <;> cases tb : decide (b < 0)
    · have he := mulQ_same (a := a) (b := b) (.inr ⟨by simpa using ta, by simpa using tb⟩)
      have hy : dOk (mulQ a b) = true := by rw [he]; exact dOk_of (by omega)
      rw [mkV_yes hy, hy, he]
      have HD := Lib.hid hd; clear hd he hy
      go_enter Tryd.func79, Tryd.ntmps79
      go_wp2_with (first | (go_at_call 81; refine (dec_size _ (by assumption) _).mono ?_; rintro e w' ⟨rfl, rfl⟩) | (go_at_call 85; refine (mul64 _ _ (by omega) (by omega) (by omega) (by omega) _).mono ?_; rintro e w' ⟨rfl, rfl⟩) | (go_at_call 86; refine (div64 _ _ (by omega) (by omega) (by omega) (by omega) _).mono ?_; rintro e w' ⟨⟨r, rfl⟩, n, rfl⟩; rw [HD.out]))
      go_ret2
      exact ⟨rfl, _, rfl⟩
    · have he := mulQ_diff (a := a) (b := b) (.inr ⟨by simpa using ta, by simpa using tb⟩)
      have hy : dOk (mulQ a b) = true := by rw [he]; exact dOk_of (by omega)
      rw [mkV_yes hy, hy, he]
      have HD := Lib.hid hd; clear hd he hy
      go_enter Tryd.func79, Tryd.ntmps79
      go_wp2_with (first | (go_at_call 81; refine (dec_size _ (by assumption) _).mono ?_; rintro e w' ⟨rfl, rfl⟩) | (go_at_call 85; refine (mul64 _ _ (by omega) (by omega) (by omega) (by omega) _).mono ?_; rintro e w' ⟨rfl, rfl⟩) | (go_at_call 86; refine (div64 _ _ (by omega) (by omega) (by omega) (by omega) _).mono ?_; rintro e w' ⟨⟨r, rfl⟩, n, rfl⟩; rw [HD.out]))
      go_ret2
      exact ⟨rfl, _, rfl⟩
    · have he := mulQ_diff (a := a) (b := b) (.inl ⟨by simpa using ta, by simpa using tb⟩)
      have hy : dOk (mulQ a b) = true := by rw [he]; exact dOk_of (by omega)
      rw [mkV_yes hy, hy, he]
      have HD := Lib.hid hd; clear hd he hy
      go_enter Tryd.func79, Tryd.ntmps79
      go_wp2_with (first | (go_at_call 81; refine (dec_size _ (by assumption) _).mono ?_; rintro e w' ⟨rfl, rfl⟩) | (go_at_call 85; refine (mul64 _ _ (by omega) (by omega) (by omega) (by omega) _).mono ?_; rintro e w' ⟨rfl, rfl⟩) | (go_at_call 86; refine (div64 _ _ (by omega) (by omega) (by omega) (by omega) _).mono ?_; rintro e w' ⟨⟨r, rfl⟩, n, rfl⟩; rw [HD.out]))
      go_ret2
      exact ⟨rfl, _, rfl⟩
    · have he := mulQ_same (a := a) (b := b) (.inl ⟨by simpa using ta, by simpa using tb⟩)
      have hy : dOk (mulQ a b) = true := by rw [he]; exact dOk_of (by omega)
      rw [mkV_yes hy, hy, he]
      have HD := Lib.hid hd; clear hd he hy
      go_enter Tryd.func79, Tryd.ntmps79
      go_wp2_with (first | (go_at_call 81; refine (dec_size _ (by assumption) _).mono ?_; rintro e w' ⟨rfl, rfl⟩) | (go_at_call 85; refine (mul64 _ _ (by omega) (by omega) (by omega) (by omega) _).mono ?_; rintro e w' ⟨rfl, rfl⟩) | (go_at_call 86; refine (div64 _ _ (by omega) (by omega) (by omega) (by omega) _).mono ?_; rintro e w' ⟨⟨r, rfl⟩, n, rfl⟩; rw [HD.out]))
      go_ret2
      exact ⟨rfl, _, rfl⟩

theorem dec_times (a b : Int) (h1 : dOk a = true) (h2 : dOk b = true) (w : World) :
    Calls Tryd.prog 79 #[.int .i64 a, .int .i64 b] w fun e w' => e = .returned (.tuple #[.int .i64 (mkV (mulQ a b)), .bool (dOk (mulQ a b))]) ∧ ∃ n, w' = w.drewN n := by
  by_cases k : 1000000 ≤ hiV (absV a) (absV b)
  · have hb : 9000000000000 < sizQ a b := hi_big _ _ k
    have hn : dOk (mulQ a b) = false := by
      have cs : ((a < 0 ∧ b < 0) ∨ (0 ≤ a ∧ 0 ≤ b)) ∨ ((a < 0 ∧ 0 ≤ b) ∨ (0 ≤ a ∧ b < 0)) := by omega
      rcases cs with hs | hs
      · rw [mulQ_same hs]; exact dOk_not (by omega)
      · rw [mulQ_diff hs]; exact dOk_not (by omega)
    rw [mkV_no hn, hn]
    exact (dec_times_big a b h1 h2 k w).mono fun e w' ⟨p, q⟩ => ⟨p, 0, by rw [← q]; rfl⟩
  · exact dec_times_small a b h1 h2 (by omega) w

theorem impl_mul (a b : Int) (w : World) : Calls Tryd.prog 66 #[.int .i64 a, .int .i64 b] w fun e w' => e = .returned (.tuple #[.int .i64 (mulV a b), .bool (mulB a b)]) ∧ ∃ n, w' = w.drewN n := by
  by_cases h : (dOk a && dOk b) = true
  · have hh : dOk a = true ∧ dOk b = true := by simpa using h
    obtain ⟨h1, h2⟩ := hh
    have hv : mulV a b = mkV (mulQ a b) := by simp [mulV, h1, h2]
    have hB : mulB a b = dOk (mulQ a b) := by simp [mulB, h1, h2]
    rw [hv, hB]
    clear hv hB h
    go_enter Tryd.func66, Tryd.ntmps66
    go_wp2_with (first | (go_at_call 77; refine (both_ok _ _ _).mono ?_; rintro e w' ⟨rfl, rfl⟩) | (go_at_call 79; refine (dec_times _ _ h1 h2 _).mono ?_; rintro e w' ⟨rfl, n, rfl⟩))
    go_ret2
    exact ⟨rfl, _, rfl⟩
  · have hf := no_eq h
    clear h
    have hv : mulV a b = 0 := by simp only [mulV, hf]; rfl
    have hB : mulB a b = false := by simp only [mulB, hf]; rfl
    rw [hv, hB]
    clear hv hB
    go_enter Tryd.func66, Tryd.ntmps66
    go_wp2_with (go_at_call 77; refine (both_ok _ _ _).mono ?_; rintro e w' ⟨rfl, rfl⟩)
    go_ret2
    exact ⟨rfl, 0, rfl⟩

end Go.Proofs.YthaedmldlenhgaaDoor.Dec
