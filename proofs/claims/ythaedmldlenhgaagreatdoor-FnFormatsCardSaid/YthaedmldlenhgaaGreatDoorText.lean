/-
  What the program's function that prints the digits behind the point returns.
-/
import Derived.Test.YthaedmldlenhgaaGreatDoorMul
import Derived.Test.YthaedmldlenhgaaGreatDoorTextPure
import Derived.OwnWalk
import Derived.Deep.AppendLies
import Derived.Laws.OwnMore
import Derived.Laws.BytesArg
namespace Go.Proofs.YthaedmldlenhgaaGreatDoor.Dec
open Go.ChangeShapes Go.WideShapes Go.ChangeAt Go.RowKit
open Go.Proofs.YthaedmldlenhgaaGreatDoor.DecPure Go.Proofs.YthaedmldlenhgaaGreatDoor.TextPure
set_option linter.unusedVariables false

theorem infoU8 : (Tryz.prog.info? 5).map (fun i => (i.zero, i.size, i.bytes)) = some (some (.int .u8 0), 1, 1) := by kernel_rfl

set_option maxRecDepth 100000 in
set_option maxHeartbeats 1000000 in
theorem frac_text (n : Int) (hn : dOk n = true) (w : World) : Calls Tryz.prog 188 #[.int .i64 n] w fun e w' => e = .returned (.string (strOfNums (fracL n))) ∧ Below w.heap.size w w' := by
  obtain ⟨i0, hi, hz0, hz1, hz2⟩ := info_parts infoU8
  have ha := absV_bd hn
  by_cases h0 : absV n % 1000000 = 0
  · have hL : strOfNums (fracL n) = ⟨#[]⟩ := by rw [fracL, if_pos h0]; rfl
    have HL := Lib.hid hL; clear hL
    have HN := Lib.hid hn; clear hn
    have hb : (absV n % 1000000 == 0) = true := by simpa using h0
    have H0 := Lib.hid h0; clear h0
    go_enter Tryz.func188, Tryz.ntmps188
    go_wp2_with (go_at_call 187; refine (dec_size _ HN.out _).mono ?_; rintro e w' ⟨rfl, rfl⟩)
    go_ret
    exact ⟨strs HL.out.symm, Below.refl _ _⟩
  · have hL : fracL n = 46 :: fracD 6 (absV n % 1000000) := by rw [fracL, if_neg h0]
    have HL := Lib.hid hL; clear hL
    have HN := Lib.hid hn; clear hn
    have hb : (absV n % 1000000 == 0) = false := by simpa using h0
    have H0 := Lib.hid h0; clear h0
    have hr : 0 ≤ absV n % 1000000 ∧ absV n % 1000000 < 1000000 := by omega
    go_enter Tryz.func188, Tryz.ntmps188
    go_wp2_with (go_at_call 187; refine (dec_size _ HN.out _).mono ?_; rintro e w' ⟨rfl, rfl⟩)
    go_loopw [3, 4, 12] (fun r v i wr => ∃ (k : Nat) (acc : List Int) (q : Int), k ≤ 6 ∧ i = .int .i64 k ∧ r = .int .i64 q ∧ 0 ≤ q ∧ q < 1000000 ∧ wr.ownsRow w.heap.size 5 1 v (k + 1) (acc.map (Value.int .u8)) ∧ Hid (acc.length = k + 1 ∧ acc ++ fracD (6 - k) q = fracL n) ∧ Below w.heap.size w wr)
      (fun _ _ i _ => 6 - (intOf i).toNat)
    case atStart => exact ⟨0, [46], _, Nat.zero_le _, rfl, rfl, hr.1, hr.2, World.ownsRow_lit w _ 1 (Nat.le_refl _) (by decide) rfl, ⟨rfl, HL.out.symm⟩, (Below.refl _ _).alloc (Nat.le_refl _) _⟩
    case round =>
      obtain ⟨k, acc, q, hk, rfl, rfl, hq0, hq1, hown, HA, hB⟩ := hrel
      by_cases hk6 : k < 6
      · by_cases hq : q = 0
        · obtain ⟨g, cap, rfl, hbg, hlt⟩ := hown.form (by omega)
          have hcv := run_convert_bytes_arg (P := Tryz.prog) wr 22 5 Tryz.underlying22 Tryz.underlying5 g 0 (k + 1) cap acc HA.out.1 (fun j hj => by
            rw [Nat.zero_add, hown.cellAt j (by omega)]
            simp [List.getElem?_eq_getElem (show j < acc.length by have := HA.out.1; omega)]) 9 Tryz.underlying9
          have hfin : acc = fracL n := by
            have h2 := HA.out.2
            rw [hq, fracD_zero, List.append_nil] at h2
            exact h2
          have HF := Lib.hid hfin; clear hfin
          clear hown
          subst hq
          go_wp2
          go_ret
          exact ⟨strs (by rw [HF.out]), hB⟩
        · have hqb : (q == 0) = false := by simpa using hq
          have hst : acc ++ [48 + q * 10 / 1000000] ++ fracD (6 - (k + 1)) (q * 10 % 1000000) = fracL n := by
            have h2 := HA.out.2
            rw [show 6 - k = (6 - (k + 1)) + 1 from by omega, fracD_step _ hq] at h2
            rw [← h2]; simp
          have HS : Hid ((acc ++ [48 + q * 10 / 1000000]).length = k + 1 + 1 ∧ acc ++ [48 + q * 10 / 1000000] ++ fracD (6 - (k + 1)) (q * 10 % 1000000) = fracL n) := ⟨by simp [HA.out.1], hst⟩
          clear hst HA
          have hsz := hB.size
          go_wp2_with (at_builtin; refine wpList_append_lies _ rfl _ _ _ rfl w.heap.size 5 i0 (.int .u8 0) 1 1 Tryz.underlying22 hi hz0 hz1 hz2 rfl (by omega) _ (k + 1) _ rfl (hown.alloc _) ⟨wr.heap.size, 0, none⟩ 1 1 [.int .u8 (48 + q * 10 / 1000000)] rfl rfl ?c1 ?c2 (by omega) ?c3 ?c4 ?c5 _ rfl ?_)
          case c1 =>
            intro j u hj
            match j, hj with
            | 0, hj => simp at hj; subst hj; simp [Addr.add]
          case c2 => intro u hu; simp at hu; subst hu; rfl
          case c3 => unfold maxLen; omega
          case c4 => omega
          case c5 => simp; omega
          · intro g cap w1 hown1 hgrow hat hlt
            have hB1 : Below w.heap.size w w1 := (hB.alloc hsz _).grown hgrow (by simp; omega) (fun x hx => (hown.lt x hx).1)
            have hown2 : w1.ownsRow w.heap.size 5 1 (.slice (some ⟨g, 0, none⟩) (k + 1 + 1) cap) (k + 1 + 1) ((acc ++ [48 + q * 10 / 1000000]).map (Value.int .u8)) := by simpa using hown1
            clear hown1 hgrow hat hlt hown hB
            go_wp2
            go_roundw
            case rel => exact ⟨k + 1, acc ++ [48 + q * 10 / 1000000], _, by omega, by go_num, rfl, by omega, by omega, hown2, HS, hB1⟩
            case measure => simp [intOf]; omega
      · obtain ⟨g, cap, rfl, hbg, hlt⟩ := hown.form (by omega)
        have hcv := run_convert_bytes_arg (P := Tryz.prog) wr 22 5 Tryz.underlying22 Tryz.underlying5 g 0 (k + 1) cap acc HA.out.1 (fun j hj => by
          rw [Nat.zero_add, hown.cellAt j (by omega)]
          simp [List.getElem?_eq_getElem (show j < acc.length by have := HA.out.1; omega)]) 9 Tryz.underlying9
        have hfin : acc = fracL n := by
          have h2 := HA.out.2
          rw [show 6 - k = 0 from by omega, fracD, List.append_nil] at h2
          exact h2
        have HF := Lib.hid hfin; clear hfin
        clear hown
        have hk2 : 6 ≤ k := by omega
        go_wp2
        go_ret
        exact ⟨strs (by rw [HF.out]), hB⟩

end Go.Proofs.YthaedmldlenhgaaGreatDoor.Dec
