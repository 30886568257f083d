/-
  The model's lexer: whether the last token ends an operand.
-/
import Derived.Test.YtlfmiikpbdhemaaGreatDoorToks
namespace Go.Proofs.YtlfmiikpbdhemaaGreatDoor.Lex
open Go.ChangeShapes Go.WideShapes Go.ChangeAt Go.RowKit Go.PlainAid Go.Maps
open Go.Proofs.YtlfmiikpbdhemaaGreatDoor.Dec
open Go.Proofs.YtlfmiikpbdhemaaGreatDoor.DecPure Go.Proofs.YtlfmiikpbdhemaaGreatDoor.ReadPure Go.Proofs.YtlfmiikpbdhemaaGreatDoor.LexPure
set_option linter.unusedVariables false

theorem lit_iff {s : ByteArray} {l : List UInt8} : s.toList = l ↔ s = ⟨l.toArray⟩ := by
  rw [ByteArray.toList_eq]
  constructor
  · intro h
    exact ByteArray.ext (Array.toList_inj.1 (by rw [h]))
  · rintro rfl; rfl
theorem lit_yes {s : ByteArray} {x : UInt8} (h : s = ⟨#[x]⟩) : s.toList = [x] := lit_iff.2 h
theorem lit_no {s : ByteArray} {x : UInt8} (h : s ≠ ⟨#[x]⟩) : ¬ s.toList = [x] := fun e => h (lit_iff.1 e)

set_option maxHeartbeats 4000000 in
theorem spec_operand (B : Nat) (w : World) (v : Value) (l : List Tk) (h : TR B w v l) (hl : l.length ≤ 1048577) : Calls Tryz.prog 25 #[v] w fun e w' => e = .returned (.bool (opnd l)) ∧ Below w.heap.size w w' := by
  by_cases h0 : l.length = 0
  · obtain rfl : l = [] := List.length_eq_zero_iff.1 h0
    obtain ⟨ao, cap, rfl⟩ := h.form
    clear h
    go_enter Tryz.func25, Tryz.ntmps25
    go_wp2_with fail
    go_ret
    exact ⟨rfl, Below.refl _ _⟩
  · obtain ⟨g, cap, rfl, c0, c1, c2, c3, _⟩ := h.at (i := l.length - 1) (by omega)
    obtain ⟨t, ht⟩ : ∃ t, t = tth l (l.length - 1) := ⟨_, rfl⟩
    rw [← ht] at c0 c1 c2 c3
    have ho : opnd l = (t.kind == 1 || t.kind == 2 || t.kind == 3 || t.kind == 4 || (t.kind == 7 && (decide (t.s = ⟨#[41]⟩) || decide (t.s = ⟨#[93]⟩)))) := by
      unfold opnd
      rw [← ht]
      have : l.isEmpty = false := by cases l with | nil => exact absurd rfl h0 | cons => rfl
      rw [this]; rfl
    have HO := Lib.hid ho; clear ho
    have HH := Lib.hid ht; clear ht h
    obtain ⟨n, hn⟩ : ∃ n, l.length = n + 1 := ⟨l.length - 1, by omega⟩
    rw [hn] at c0 c1 c2 c3 ⊢
    have e1 : n + 1 - 1 = n := rfl
    rw [e1] at c0 c1 c2 c3
    have hn2 : n ≤ 1048577 := by omega
    have hc : t.kind = 1 ∨ t.kind = 2 ∨ t.kind = 3 ∨ t.kind = 4 ∨ t.kind = 7 ∨ ((t.kind == 1) = false ∧ (t.kind == 2) = false ∧ (t.kind == 3) = false ∧ (t.kind == 4) = false ∧ (t.kind == 7) = false) := by
      simp only [beq_eq_false_iff_ne]; omega
    obtain ⟨tk, ts, tn, tp⟩ := t
    simp only at hc c0 c1 c2 c3 HO
    have hA : Below w.heap.size w w := Below.refl _ _
    rcases hc with rfl | rfl | rfl | rfl | rfl | ⟨k1, k2, k3, k4, k7⟩
    · go_enter Tryz.func25, Tryz.ntmps25
      go_wp2_with fail
      go_ret
      exact ⟨retB HO.out.symm, hA.alloc (Nat.le_refl _) _⟩
    · go_enter Tryz.func25, Tryz.ntmps25
      go_wp2_with fail
      go_ret
      exact ⟨retB HO.out.symm, hA.alloc (Nat.le_refl _) _⟩
    · go_enter Tryz.func25, Tryz.ntmps25
      go_wp2_with fail
      go_ret
      exact ⟨retB HO.out.symm, hA.alloc (Nat.le_refl _) _⟩
    · go_enter Tryz.func25, Tryz.ntmps25
      go_wp2_with fail
      go_ret
      exact ⟨retB HO.out.symm, hA.alloc (Nat.le_refl _) _⟩
    · by_cases hs1 : ts = ⟨#[41]⟩
      · have hq := lit_yes hs1
        have HP : Hid (opnd l = true) := by show opnd l = true; rw [HO.out, decide_eq_true hs1]; rfl
        clear hs1
        go_enter Tryz.func25, Tryz.ntmps25
        go_wp2_with fail
        go_ret
        exact ⟨retB HP.out.symm, hA.alloc (Nat.le_refl _) _⟩
      · have hq := lit_no hs1
        by_cases hs2 : ts = ⟨#[93]⟩
        · have hq2 := lit_yes hs2
          have HP : Hid (opnd l = true) := by show opnd l = true; rw [HO.out, decide_eq_true hs2]; simp
          clear hs1 hs2
          go_enter Tryz.func25, Tryz.ntmps25
          go_wp2_with fail
          go_ret
          exact ⟨retB HP.out.symm, hA.alloc (Nat.le_refl _) _⟩
        · have hq2 := lit_no hs2
          have HP : Hid (opnd l = false) := by show opnd l = false; rw [HO.out, decide_eq_false hs1, decide_eq_false hs2]; rfl
          clear hs1 hs2
          go_enter Tryz.func25, Tryz.ntmps25
          go_wp2_with fail
          go_ret
          exact ⟨retB (by rw [HP.out]; simp [hq, hq2]), hA.alloc (Nat.le_refl _) _⟩
    · have HP : Hid (opnd l = false) := by show opnd l = false; rw [HO.out, k1, k2, k3, k4, k7]; rfl
      go_enter Tryz.func25, Tryz.ntmps25
      go_wp2_with fail
      go_ret
      exact ⟨retB HP.out.symm, hA.alloc (Nat.le_refl _) _⟩

end Go.Proofs.YtlfmiikpbdhemaaGreatDoor.Lex
