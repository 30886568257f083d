/-
  Words are alive: what the laws' little program of words returns.
-/
import Derived.Test.YtlfmiikpbdhemaaGreatDoorLexer7
import Derived.Test.YtlfmiikpbdhemaaGreatDoorNameOk
namespace Go.Proofs.YtlfmiikpbdhemaaGreatDoor.Alive
open Go.ChangeShapes Go.WideShapes Go.ChangeAt Go.RowKit Go.PlainAid Go.Maps
open Go.Proofs.YtlfmiikpbdhemaaGreatDoor.Dec Go.Proofs.YtlfmiikpbdhemaaGreatDoor.Lex
open Go.Proofs.YtlfmiikpbdhemaaGreatDoor.DecPure Go.Proofs.YtlfmiikpbdhemaaGreatDoor.ReadPure Go.Proofs.YtlfmiikpbdhemaaGreatDoor.LexPure
set_option linter.unusedVariables false

def s0 : ByteArray := ⟨#[120, 32, 61, 32, 102, 40, 49, 41, 32, 35, 32, 101, 110, 100]⟩
set_option maxRecDepth 100000 in
theorem lex0 : (lexP s0).2 = -1 ∧ (lexP s0).1.length = 6 ∧ (tth (lexP s0).1 0).kind = 4 ∧ (tth (lexP s0).1 0).s = ⟨#[120]⟩ ∧ (tth (lexP s0).1 2).kind = 5 ∧ (tth (lexP s0).1 4).n = 1000000 := by decide +kernel
theorem wd0 : isWd ⟨#[112, 114, 105, 110, 116]⟩ = true := by decide +kernel
theorem nm0 : nmOk ⟨#[120]⟩ = true := by decide +kernel

set_option maxHeartbeats 1000000 in
theorem tok_name (t : ByteArray) (n a : Int) (w : World) (hl : t.size ≤ 281474976710656) :
    Calls Tryz.prog 8 #[.agg #[.int .i64 4, .string t, .int .i64 n, .int .i64 a]] w fun e w' => e = .returned (.string t) ∧ Below w.heap.size w w' := by
  have hb : ∀ o, Below w.heap.size w (w.alloc o) := fun o => (Below.refl w.heap.size w).alloc (Nat.le_refl _) o
  go_enter Tryz.func8, Tryz.ntmps8
  go_wp2_with fail
  refine (clone_ok t _ hl).mono ?_
  rintro e w1 ⟨rfl, hB⟩
  have hB1 := (hb _).trans (hB.mono (hb _).size)
  clear hB hb
  go_wp2_with fail
  go_ret
  exact ⟨rfl, hB1⟩

set_option maxHeartbeats 1000000 in
theorem words_alive (w : World) : Calls Tryz.prog 7 #[] w fun e w' => e = .returned (.bool true) ∧ Below w.heap.size w w' := by
  obtain ⟨l0, l1, l2, l3, l4, l5⟩ := lex0
  go_enter Tryz.func7, Tryz.ntmps7
  go_wp2_with fail
  refine (impl_Lex s0 (by decide) w).mono ?_
  rintro e w1 ⟨v, rfl, hT, hB1⟩
  obtain ⟨g, cap, rfl, a0, a1, a2, a3, -⟩ := hT.at (i := 0) (by omega)
  obtain ⟨g', cap', e', b0, b1, b2, b3, -⟩ := hT.at (i := 2) (by omega)
  simp only [Value.slice.injEq, Option.some.injEq, Addr.mk.injEq, and_true, true_and] at e'
  obtain ⟨rfl, rfl⟩ := e'
  obtain ⟨g', cap', e', c0, c1, c2, c3, -⟩ := hT.at (i := 4) (by omega)
  simp only [Value.slice.injEq, Option.some.injEq, Addr.mk.injEq, and_true, true_and] at e'
  obtain ⟨rfl, rfl⟩ := e'
  rw [l1, l0]
  rw [l2] at a0
  rw [l3] at a1
  rw [l4] at b0
  rw [l5] at c2
  have hlt := (hT.lt g rfl).2
  clear hT l0 l1 l2 l3 l4 l5
  go_wp2_with fail
  refine (impl_IsWord _ (by decide) w1).mono ?_
  rw [wd0]
  rintro e w2 ⟨rfl, hB2⟩
  have hB3 := hB1.trans (hB2.mono hB1.size)
  have a0' := (hB2.cell (p := ⟨g, 0 * 4, none⟩) hlt).trans a0
  have a1' := (hB2.cell (p := ⟨g, 0 * 4 + 1, none⟩) hlt).trans a1
  have a2' := (hB2.cell (p := ⟨g, 0 * 4 + 2, none⟩) hlt).trans a2
  have a3' := (hB2.cell (p := ⟨g, 0 * 4 + 3, none⟩) hlt).trans a3
  have hlt2 := Nat.lt_of_lt_of_le hlt hB2.size
  clear a0 a1 a2 a3 b0 b1 b2 b3 c0 c1 c2 c3 hB1 hB2 hlt
  go_wp2_with fail
  refine (impl_NameOk _ (by decide) w2).mono ?_
  rw [nm0]
  rintro e w3 ⟨rfl, hB4⟩
  have hB5 := hB3.trans (hB4.mono hB3.size)
  have a0 := (hB4.cell (p := ⟨g, 0 * 4, none⟩) hlt2).trans a0'
  have a1 := (hB4.cell (p := ⟨g, 0 * 4 + 1, none⟩) hlt2).trans a1'
  have a2 := (hB4.cell (p := ⟨g, 0 * 4 + 2, none⟩) hlt2).trans a2'
  have a3 := (hB4.cell (p := ⟨g, 0 * 4 + 3, none⟩) hlt2).trans a3'
  clear a0' a1' a2' a3' hB3 hB4
  simp only [Nat.zero_mul, Nat.zero_add] at a0 a1 a2 a3
  go_wp2_with fail
  refine (tok_name _ _ _ w3 (by decide)).mono ?_
  rintro e w4 ⟨rfl, hB6⟩
  have hB7 := hB5.trans (hB6.mono hB5.size)
  clear hB5 hB6
  go_wp2_with fail
  go_ret
  exact ⟨rfl, hB7⟩

end Go.Proofs.YtlfmiikpbdhemaaGreatDoor.Alive
