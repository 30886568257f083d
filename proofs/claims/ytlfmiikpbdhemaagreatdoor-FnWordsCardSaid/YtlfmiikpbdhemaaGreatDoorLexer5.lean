/-
  The program's lexer: whether the last token ends an operand.
-/
import Derived.Test.YtlfmiikpbdhemaaGreatDoorLexer2
import Derived.Deep.RegionWith
namespace Go.Proofs.YtlfmiikpbdhemaaGreatDoor.Lex
open Go.ChangeShapes Go.WideShapes Go.ChangeAt Go.RowKit Go.PlainAid Go.Maps
open Go.Proofs.YtlfmiikpbdhemaaGreatDoor.Dec
open Go.Proofs.YtlfmiikpbdhemaaGreatDoor.DecPure Go.Proofs.YtlfmiikpbdhemaaGreatDoor.ReadPure Go.Proofs.YtlfmiikpbdhemaaGreatDoor.LexPure
set_option linter.unusedVariables false

set_option maxRecDepth 100000 in
set_option maxHeartbeats 4000000 in
theorem lx_oper (w0 w : World) (g mb : Nat) (s : ByteArray) (p : Nat) (l : List Tk) (h : LX w0 w g mb s p l) (hl : l.length ≤ 1048577) :
    Calls Tryz.prog 43 #[.pointer (some ⟨g, 0, none⟩)] w fun x w' => x = .returned (.bool (opnd l)) ∧ LX w0 w' g mb s p l := by
  obtain ⟨v, hr, ht⟩ := h.ex
  have c3 := hr.cell (i := 3) (by omega)
  simp only [lf] at c3
  clear hr
  by_cases h0 : l.length = 0
  · obtain rfl : l = [] := List.length_eq_zero_iff.1 h0
    obtain ⟨ao, cap, rfl⟩ := ht.form
    have HH := Lib.hid h; clear h ht
    go_enter Tryz.func43, Tryz.ntmps43
    go_wp2_with fail
    go_ret
    exact ⟨rfl, HH.out⟩
  · obtain ⟨b, cap, rfl, d0, d1, d2, d3, _⟩ := ht.at (i := l.length - 1) (by omega)
    obtain ⟨t, ht2⟩ : ∃ t, t = tth l (l.length - 1) := ⟨_, rfl⟩
    rw [← ht2] at d0 d1 d2 d3
    have ho : opnd l = (t.kind == 1 || t.kind == 2 || t.kind == 3 || t.kind == 4 || (t.kind == 7 && (decide (t.s = ⟨#[41]⟩) || decide (t.s = ⟨#[93]⟩)))) := by
      unfold opnd
      rw [← ht2]
      have : l.isEmpty = false := by cases l with | nil => exact absurd rfl h0 | cons => rfl
      rw [this]; rfl
    have HO := Lib.hid ho; clear ho
    have HH := Lib.hid ht2; clear ht2 ht
    obtain ⟨N, hN⟩ : ∃ N, N = l.length := ⟨_, rfl⟩
    obtain ⟨n, hn⟩ : ∃ n, n = l.length - 1 := ⟨_, rfl⟩
    rw [← hn] at d0 d1 d2 d3
    rw [← hN] at c3
    have hn2 : n ≤ 1048577 := by omega
    have hsub : (N : Int) - 1 = (n : Int) := by omega
    have hnN : n < N := by omega
    have hnN2 : (n : Int) < (N : Int) := by omega
    have hN0 : ((N : Int) == 0) = false := by simp; omega
    have hwn : IntKind.i64.wrap (n : Int) = (n : Int) := by rw [IntKind.wrap_i64]; omega
    clear hn hN h0 hl
    have hgl : g < w.heap.size := World.block_lt_of_cell? w ⟨g, 3, none⟩ c3
    have hbl : b < w.heap.size := World.block_lt_of_cell? w ⟨b, n * 4, none⟩ d0
    have HD := Lib.hid h
    clear h
    have hc : t.kind = 1 ∨ t.kind = 2 ∨ t.kind = 3 ∨ t.kind = 4 ∨ t.kind = 7 ∨ ((t.kind == 1) = false ∧ (t.kind == 2) = false ∧ (t.kind == 3) = false ∧ (t.kind == 4) = false ∧ (t.kind == 7) = false) := by
      simp only [beq_eq_false_iff_ne]; omega
    obtain ⟨tk, ts, tn, tp⟩ := t
    simp only at hc d0 d1 d2 d3 HO
    rcases hc with rfl | rfl | rfl | rfl | rfl | ⟨k1, k2, k3, k4, k7⟩
    · go_enter Tryz.func43, Tryz.ntmps43
      go_wp2_with fail
      go_region
      all_goals
        go_wp2_with fail
        go_ret
        exact ⟨retB HO.out.symm, HD.out.step (by repeat (first | exact Below.refl _ _ | refine Below.drew ?_ | refine Below.setCell ?_ (by simp) _ | refine Below.alloc ?_ (by simp) _))⟩
    · go_enter Tryz.func43, Tryz.ntmps43
      go_wp2_with fail
      go_region
      all_goals
        go_wp2_with fail
        go_ret
        exact ⟨retB HO.out.symm, HD.out.step (by repeat (first | exact Below.refl _ _ | refine Below.drew ?_ | refine Below.setCell ?_ (by simp) _ | refine Below.alloc ?_ (by simp) _))⟩
    · go_enter Tryz.func43, Tryz.ntmps43
      go_wp2_with fail
      go_region
      all_goals
        go_wp2_with fail
        go_ret
        exact ⟨retB HO.out.symm, HD.out.step (by repeat (first | exact Below.refl _ _ | refine Below.drew ?_ | refine Below.setCell ?_ (by simp) _ | refine Below.alloc ?_ (by simp) _))⟩
    · go_enter Tryz.func43, Tryz.ntmps43
      go_wp2_with fail
      go_region
      all_goals
        go_wp2_with fail
        go_ret
        exact ⟨retB HO.out.symm, HD.out.step (by repeat (first | exact Below.refl _ _ | refine Below.drew ?_ | refine Below.setCell ?_ (by simp) _ | refine Below.alloc ?_ (by simp) _))⟩
    · by_cases hs1 : ts = ⟨#[41]⟩
      · have hq := lit_yes hs1
        have HP : Hid (opnd l = true) := by show opnd l = true; rw [HO.out, decide_eq_true hs1]; rfl
        clear hs1
        go_enter Tryz.func43, Tryz.ntmps43
        go_wp2_with fail
        go_region
        all_goals
          go_wp2_with fail
          go_ret
          exact ⟨retB HP.out.symm, HD.out.step (by repeat (first | exact Below.refl _ _ | refine Below.drew ?_ | refine Below.setCell ?_ (by simp) _ | refine Below.alloc ?_ (by simp) _))⟩
      · have hq := lit_no hs1
        by_cases hs2 : ts = ⟨#[93]⟩
        · have hq2 := lit_yes hs2
          have HP : Hid (opnd l = true) := by show opnd l = true; rw [HO.out, decide_eq_true hs2]; simp
          clear hs1 hs2
          go_enter Tryz.func43, Tryz.ntmps43
          go_wp2_with fail
          go_region
          all_goals
            go_wp2_with fail
            go_ret
            exact ⟨retB HP.out.symm, HD.out.step (by repeat (first | exact Below.refl _ _ | refine Below.drew ?_ | refine Below.setCell ?_ (by simp) _ | refine Below.alloc ?_ (by simp) _))⟩
        · have hq2 := lit_no hs2
          have HP : Hid (opnd l = false) := by show opnd l = false; rw [HO.out, decide_eq_false hs1, decide_eq_false hs2]; rfl
          clear hs1 hs2
          go_enter Tryz.func43, Tryz.ntmps43
          go_wp2_with fail
          go_region
          all_goals
            go_wp2_with fail
            go_ret
            exact ⟨retB (by rw [HP.out]; simp [hq, hq2]), HD.out.step (by repeat (first | exact Below.refl _ _ | refine Below.drew ?_ | refine Below.setCell ?_ (by simp) _ | refine Below.alloc ?_ (by simp) _))⟩
    · have HP : Hid (opnd l = false) := by show opnd l = false; rw [HO.out, k1, k2, k3, k4, k7]; rfl
      go_enter Tryz.func43, Tryz.ntmps43
      go_wp2_with fail
      go_region
      all_goals
        go_wp2_with fail
        go_ret
        exact ⟨retB HP.out.symm, HD.out.step (by repeat (first | exact Below.refl _ _ | refine Below.drew ?_ | refine Below.setCell ?_ (by simp) _ | refine Below.alloc ?_ (by simp) _))⟩

end Go.Proofs.YtlfmiikpbdhemaaGreatDoor.Lex
