/-
  A row of marked tokens read.
-/
import Derived.Test.YtdhnppjnegfehaaMarks3
import Derived.Deep.RegionWith
namespace Go.Proofs.Ytdhnppjnegfehaa.Lex
open Go.ChangeShapes Go.WideShapes Go.ChangeAt Go.RowKit Go.PlainAid Go.Maps
open Go.Proofs.Ytdhnppjnegfehaa.Dec
open Go.Proofs.Ytdhnppjnegfehaa.DecPure Go.Proofs.Ytdhnppjnegfehaa.ReadPure Go.Proofs.Ytdhnppjnegfehaa.LexPure
set_option linter.unusedVariables false

theorem mks_at {k n j : Nat} (h : j < n) : tth (mks k n) j = mkt k j := by
  have hl : j < (mks k n).length := by rw [mks_len]; exact h
  unfold tth
  rw [List.getD_eq_getElem?_getD, List.getElem?_eq_getElem hl]
  simp [mks]

set_option maxRecDepth 100000 in
set_option maxHeartbeats 4000000 in
theorem held_toks (B : Nat) (w : World) (v : Value) (n k : Nat) (h : TR B w v (mks k n)) (hn : n ≤ 4000) (hk : k ≤ 100000) : Calls Try.prog 15 #[v, .int .i64 k] w fun e w' => e = .returned (.int .i64 ((k + 4 * n : Nat) : Int)) ∧ Below w.heap.size w w' := by
  obtain ⟨ao, cap, rfl⟩ := h.form
  rw [mks_len] at h ⊢
  have HH := Lib.hid h; clear h
  go_enter Try.func15, Try.ntmps15
  go_wp2_with fail
  go_loopw [1, 5] (fun c i wr => ∃ j : Nat, j ≤ n ∧ i = .int .i64 j ∧ c = .int .i64 ((k + 4 * j : Nat) : Int) ∧ Hid (Below w.heap.size w wr)) (fun _ i _ => n - (intOf i).toNat)
  case atStart => exact ⟨0, Nat.zero_le _, rfl, rfl, Below.refl _ _⟩
  case round =>
    obtain ⟨j, hj, rfl, rfl, HB⟩ := hrel
    by_cases hlt : j < n
    · have hT := HH.out.below HB.out (Nat.le_refl _)
      obtain ⟨g, c, e1, c0, c1, c2, c3, _⟩ := hT.at (i := j) (by rw [mks_len]; exact hlt)
      have hgl : g < wr.heap.size := (hT.lt g (by rw [e1]; rfl)).2
      rw [mks_len] at e1
      simp only [Value.slice.injEq, true_and] at e1
      obtain ⟨rfl, rfl⟩ := e1
      rw [mks_at hlt] at c0 c1 c2 c3
      have hji : (j : Int) < (n : Int) := by omega
      have hkj : k + 4 * j ≤ 200000 := by omega
      obtain ⟨m, hm⟩ : ∃ m, m = k + 4 * j := ⟨_, rfl⟩
      unfold mkt at c0 c1 c2 c3
      simp only at c0 c1 c2 c3
      rw [← hm] at hkj c0 c1 c2 c3 ⊢
      rw [show ((m + 2 : Nat) : Int) = (m : Int) + 1 + 1 from by omega] at c2
      rw [show ((m + 3 : Nat) : Int) = (m : Int) + 1 + 1 + 1 from by omega] at c3
      have hmt := fun w0 => mark_text (m + 1) (by omega) w0
      rw [show ((m + 1 : Nat) : Int) = (m : Int) + 1 from by omega] at hmt
      obtain ⟨T, hTT⟩ : ∃ T, T = mkT (m + 1) := ⟨_, rfl⟩
      rw [← hTT] at c1 hmt
      have HM := Lib.hid hm
      have HMT := Lib.hid hmt
      clear hm hmt hTT hT
      go_wp2_with fail
      have e2 : wr.drew.cell? ⟨g, j * 4 + 2, none⟩ = some (.int .i64 ((m : Int) + 1 + 1)) := c2
      have e3 : wr.drew.cell? ⟨g, j * 4 + 3, none⟩ = some (.int .i64 ((m : Int) + 1 + 1 + 1)) := c3
      have e1 : wr.drew.cell? ⟨g, j * 4 + 1, none⟩ = some (.string T) := c1
      have hgl2 : g < wr.drew.heap.size := hgl
      have HB2 : Hid (Below w.heap.size w wr.drew) := HB.out.drew
      have E1 := Lib.hid e1
      have E2 := Lib.hid e2
      have E3 := Lib.hid e3
      have HL := Lib.hid hgl2
      clear e1 e2 e3 hgl2
      go_region_with (go_at_call 35; refine (HMT.out _).mono ?_; rintro e w3 ⟨rfl, hB3⟩; have i1 := (hB3.cell (p := ⟨g, j * 4 + 1, none⟩) HL.out).trans E1.out)
      all_goals
        have i2 := (hB3.cell (p := ⟨g, j * 4 + 2, none⟩) HL.out).trans E2.out
        have i3 := (hB3.cell (p := ⟨g, j * 4 + 3, none⟩) HL.out).trans E3.out
        have HB3 : Hid (Below w.heap.size w w3) := HB2.out.trans (hB3.mono HB2.out.size)
        clear hB3
        go_wp2_with fail
        go_roundw
        case rel =>
          refine ⟨j + 1, by omega, by go_num, ?_, HB3.out⟩
          have := HM.out
          congr 1
          omega
        case measure => simp [intOf]; omega
    · have e : j = n := by omega
      subst e
      clear hlt
      go_wp2_with fail
      go_ret
      exact ⟨rfl, HB.out⟩

end Go.Proofs.Ytdhnppjnegfehaa.Lex
