/-
  For every two programs the exact law of SameProg returns true: the program's function answers as its model does, and leaves the programs as they were.
-/
import Derived.Test.YtngiidocgjbooaaRows
import Derived.WalkKit
import Derived.ProofKit
import Derived.OpenShut
import Derived.ShutString
import Derived.Carry
import Derived.Test.YtngiidocgjbooaaPgOpen
import Derived.BigQuiet
import Derived.Deep.RegionHeld3
import Derived.Test.YtngiidocgjbooaaPgSame3
namespace Go.Proofs.Ytngiidocgjbooaa.fnExactSameProg
open Go.ChangeShapes Go.WideShapes Go.ChangeAt Go.RowKit
open Go.ChangeMaps (open_string shut_string)
open Go.Proofs.Ytngiidocgjbooaa.PgPure Go.Proofs.Ytngiidocgjbooaa.Pg
set_option linter.unusedVariables false

theorem own : ownKnob Try.prog.godebug = none := by kernel_rfl
theorem laidOut : laidOutB Try.prog = true := by kernel_rfl

set_option maxRecDepth 100000 in
set_option maxHeartbeats 2000000 in
theorem walk (x0 y0 : Value) (V0 U0 : Nat → Value) (p0 : Pg) (x1 y1 : Value) (V1 U1 : Nat → Value) (p1 : Pg) (w : World) (n0 : PgAt w.heap.size w x0 y0 V0 U0 p0) (n1 : PgAt w.heap.size w x1 y1 V1 U1 p1) :
    Calls Try.prog 3 #[.agg #[x0, y0], .agg #[x1, y1]] w fun e w' => e = .returned (.bool true) ∧ Below w.heap.size w w' := by
  go_enter Try.func3, Try.ntmps3
  have HB : Below w.heap.size w ((w.alloc (Obj.cells #[x0, y0] 25)).alloc (Obj.cells #[x1, y1] 25)) := (((Below.refl w.heap.size w).alloc (by first | exact Nat.le_refl _ | (simp; done) | (simp; omega)) (Obj.cells #[x0, y0] 25)).alloc (by first | exact Nat.le_refl _ | (simp; done) | (simp; omega)) (Obj.cells #[x1, y1] 25))
  have bx0 : Bx ((w.alloc (Obj.cells #[x0, y0] 25)).alloc (Obj.cells #[x1, y1] 25)) (w.heap.size) x0 y0 := ⟨by first | (simp; done) | (simp; omega), by go_simp, by go_simp⟩
  replace n0 := n0.below HB HB.size
  have bx1 : Bx ((w.alloc (Obj.cells #[x0, y0] 25)).alloc (Obj.cells #[x1, y1] 25)) (w.heap.size + 1) x1 y1 := ⟨by first | (simp; done) | (simp; omega), by go_simp, by go_simp⟩
  replace n1 := n1.below HB HB.size
  by_cases ht0 : (wtP p0 : Int) ≤ 1048576
  · have hr0 : ¬ (1048576 : Int) - (wtP p0 : Int) < 0 := by omega
    have bx0l := bx0.lt
    have bx0i := bx0.c0
    have bx0j := bx0.c1
    have bx1l := bx1.lt
    have bx1i := bx1.c0
    have bx1j := bx1.c1
    go_wp2_with fail
    clear bx0l bx0i bx0j bx1l bx1i bx1j
    refine (sz_prog ((w.alloc (Obj.cells #[x0, y0] 25)).alloc (Obj.cells #[x1, y1] 25)).heap.size _ _ _ _ p0 (1048576) ((w.alloc (Obj.cells #[x0, y0] 25)).alloc (Obj.cells #[x1, y1] 25)) (Nat.le_refl _) n0 (by omega) (by omega)).mono ?_
    rw [szR_pos ht0]
    rintro e w21 ⟨rfl, hB⟩
    replace n0 := n0.below hB hB.size
    replace n1 := n1.below hB hB.size
    replace bx0 := bx0.next hB
    replace bx1 := bx1.next hB
    replace HB := HB.trans (hB.mono HB.size)
    clear hB
    by_cases ht1 : (wtP p1 : Int) ≤ 1048576 - (wtP p0 : Int)
    · have hr1 : ¬ (1048576 - (wtP p0 : Int) : Int) - (wtP p1 : Int) < 0 := by omega
      have bx0l := bx0.lt
      have bx0i := bx0.c0
      have bx0j := bx0.c1
      have bx1l := bx1.lt
      have bx1i := bx1.c0
      have bx1j := bx1.c1
      go_wp2_with fail
      clear bx0l bx0i bx0j bx1l bx1i bx1j
      refine (sz_prog w21.heap.size _ _ _ _ p1 (1048576 - (wtP p0 : Int)) w21 (Nat.le_refl _) n1 (by omega) (by omega)).mono ?_
      rw [szR_pos ht1]
      rintro e w22 ⟨rfl, hB⟩
      replace n0 := n0.below hB hB.size
      replace n1 := n1.below hB hB.size
      replace bx0 := bx0.next hB
      replace bx1 := bx1.next hB
      replace HB := HB.trans (hB.mono HB.size)
      clear hB
      have bx0l := bx0.lt
      have bx0i := bx0.c0
      have bx0j := bx0.c1
      have bx1l := bx1.lt
      have bx1i := bx1.c0
      have bx1j := bx1.c1
      go_wp2_with fail
      have hD : Below w22.heap.size w22 w22.drew := (Below.refl _ _).drew
      have nd0 := n0.below hD (Nat.le_refl _)
      have hw0 : wtP p0 ≤ 1048576 := by omega
      have nd1 := n1.below hD (Nat.le_refl _)
      have hw1 : wtP p1 ≤ 1048576 := by omega
      go_region_held3 (fun w' => Below w22.heap.size w22 w' ∧ w'.cell? ⟨w.heap.size, 0, none⟩ = some (x0) ∧ w'.cell? ⟨w.heap.size, 1, none⟩ = some (y0) ∧ w'.cell? ⟨w.heap.size + 1, 0, none⟩ = some (x1) ∧ w'.cell? ⟨w.heap.size + 1, 1, none⟩ = some (y1))
        (first | exact ⟨hD, bx0i, bx0j, bx1i, bx1j⟩ | exact ⟨hBp, (hBp.cell bx0l).trans bx0i, (hBp.cell bx0l).trans bx0j, (hBp.cell bx1l).trans bx1i, (hBp.cell bx1l).trans bx1j⟩ | exact ⟨hBq, (hBq.cell bx0l).trans bx0i, (hBq.cell bx0l).trans bx0j, (hBq.cell bx1l).trans bx1i, (hBq.cell bx1l).trans bx1j⟩ | exact ⟨hBr, (hBr.cell bx0l).trans bx0i, (hBr.cell bx0l).trans bx0j, (hBr.cell bx1l).trans bx1i, (hBr.cell bx1l).trans bx1j⟩)
        (first
          | (go_at_call_of 7 (Value.agg #[x0, y0]); refine (to_prog w22.drew.heap.size _ _ _ _ p0 w22.drew (Nat.le_refl _) nd0 hw0).mono ?_; rintro e wp ⟨sb0, sc0, sV0, sU0, rfl, so0, hB⟩; have hBp : Below w22.heap.size w22 wp := hD.trans hB)
          | (go_at_call_of 7 (Value.agg #[x1, y1]); refine (to_prog wp.heap.size _ _ _ _ p1 wp (Nat.le_refl _) (n1.below hBp hBp.size) hw1).mono ?_; rintro e wq ⟨sb1, sc1, sV1, sU1, rfl, so1, hB⟩; have hBq : Below w22.heap.size w22 wq := hBp.trans (hB.mono hBp.size); replace so0 := so0.below hB hB.size)
          | (go_at_call 6; refine (spec_SameProg wq.heap.size _ _ sV0 sU0 p0 _ _ sV1 sU1 p1 wq (Nat.le_refl _) so0 so1).mono ?_; rintro e w23 ⟨r, rfl, hr, hB2⟩; have hBr : Below w22.heap.size w22 w23 := hBq.trans (hB2.mono hBq.size)))
      clear hD nd0 nd1 so0 so1 hB2 hBq hBp
      clear bx0l bx0i bx0j bx1l bx1i bx1j
      replace n0 := n0.below hBr hBr.size
      replace n1 := n1.below hBr hBr.size
      replace bx0 := bx0.next hBr
      replace bx1 := bx1.next hBr
      replace HB := HB.trans (hBr.mono HB.size)
      clear hBr
      have HR := Lib.hid hr; clear hr
      have bx0l := bx0.lt
      have bx0i := bx0.c0
      have bx0j := bx0.c1
      have bx1l := bx1.lt
      have bx1i := bx1.c0
      have bx1j := bx1.c1
      go_wp2_with fail
      clear bx0l bx0i bx0j bx1l bx1i bx1j
      refine (to_prog w23.heap.size _ _ _ _ p0 w23 (Nat.le_refl _) n0 (by omega)).mono ?_
      rintro e w24 ⟨tb0, tc0, tV0, tU0, rfl, to0, hB⟩
      replace n0 := n0.below hB hB.size
      replace n1 := n1.below hB hB.size
      replace bx0 := bx0.next hB
      replace bx1 := bx1.next hB
      replace HB := HB.trans (hB.mono HB.size)
      clear hB
      have bx0l := bx0.lt
      have bx0i := bx0.c0
      have bx0j := bx0.c1
      have bx1l := bx1.lt
      have bx1i := bx1.c0
      have bx1j := bx1.c1
      go_wp2_with fail
      clear bx0l bx0i bx0j bx1l bx1i bx1j
      have hA := (Below.refl w24.heap.size w24).alloc (Nat.le_refl _) (Obj.cells #[.slice (some ⟨tb0, 0, none⟩) p0.l.length p0.l.length, .slice (some ⟨tc0, 0, none⟩) p0.items.length p0.items.length] 31)
      have vx0 : Bx (w24.alloc (Obj.cells #[.slice (some ⟨tb0, 0, none⟩) p0.l.length p0.l.length, .slice (some ⟨tc0, 0, none⟩) p0.items.length p0.items.length] 31)) w24.heap.size (.slice (some ⟨tb0, 0, none⟩) p0.l.length p0.l.length) (.slice (some ⟨tc0, 0, none⟩) p0.items.length p0.items.length) := ⟨by simp, by go_simp, by go_simp⟩
      replace n0 := n0.below hA hA.size
      replace n1 := n1.below hA hA.size
      replace to0 := to0.below hA hA.size
      replace bx0 := bx0.next hA
      replace bx1 := bx1.next hA
      replace HB := HB.trans (hA.mono HB.size)
      clear hA
      refine (to_prog (w24.alloc (Obj.cells #[.slice (some ⟨tb0, 0, none⟩) p0.l.length p0.l.length, .slice (some ⟨tc0, 0, none⟩) p0.items.length p0.items.length] 31)).heap.size _ _ _ _ p1 (w24.alloc (Obj.cells #[.slice (some ⟨tb0, 0, none⟩) p0.l.length p0.l.length, .slice (some ⟨tc0, 0, none⟩) p0.items.length p0.items.length] 31)) (Nat.le_refl _) n1 (by omega)).mono ?_
      rintro e w25 ⟨tb1, tc1, tV1, tU1, rfl, to1, hB⟩
      replace n0 := n0.below hB hB.size
      replace n1 := n1.below hB hB.size
      replace to0 := to0.below hB hB.size
      replace bx0 := bx0.next hB
      replace bx1 := bx1.next hB
      replace vx0 := vx0.next hB
      replace HB := HB.trans (hB.mono HB.size)
      clear hB
      have bx0l := bx0.lt
      have bx0i := bx0.c0
      have bx0j := bx0.c1
      have bx1l := bx1.lt
      have bx1i := bx1.c0
      have bx1j := bx1.c1
      have vx0l := vx0.lt
      have vx0i := vx0.c0
      have vx0j := vx0.c1
      go_wp2_with fail
      clear bx0l bx0i bx0j bx1l bx1i bx1j vx0l vx0i vx0j
      have hA := (Below.refl w25.heap.size w25).alloc (Nat.le_refl _) (Obj.cells #[.slice (some ⟨tb1, 0, none⟩) p1.l.length p1.l.length, .slice (some ⟨tc1, 0, none⟩) p1.items.length p1.items.length] 31)
      have vx1 : Bx (w25.alloc (Obj.cells #[.slice (some ⟨tb1, 0, none⟩) p1.l.length p1.l.length, .slice (some ⟨tc1, 0, none⟩) p1.items.length p1.items.length] 31)) w25.heap.size (.slice (some ⟨tb1, 0, none⟩) p1.l.length p1.l.length) (.slice (some ⟨tc1, 0, none⟩) p1.items.length p1.items.length) := ⟨by simp, by go_simp, by go_simp⟩
      replace n0 := n0.below hA hA.size
      replace n1 := n1.below hA hA.size
      replace to0 := to0.below hA hA.size
      replace to1 := to1.below hA hA.size
      replace bx0 := bx0.next hA
      replace bx1 := bx1.next hA
      replace vx0 := vx0.next hA
      replace HB := HB.trans (hA.mono HB.size)
      clear hA
      refine (impl_SameProg (w25.alloc (Obj.cells #[.slice (some ⟨tb1, 0, none⟩) p1.l.length p1.l.length, .slice (some ⟨tc1, 0, none⟩) p1.items.length p1.items.length] 31)).heap.size _ _ tV0 tU0 p0 _ _ tV1 tU1 p1 (w25.alloc (Obj.cells #[.slice (some ⟨tb1, 0, none⟩) p1.l.length p1.l.length, .slice (some ⟨tc1, 0, none⟩) p1.items.length p1.items.length] 31)) (Nat.le_refl _) to0 to1).mono ?_
      rintro e w26 ⟨r2, rfl, hr2, hB⟩
      replace n0 := n0.below hB hB.size
      replace n1 := n1.below hB hB.size
      replace to0 := to0.below hB hB.size
      replace to1 := to1.below hB hB.size
      replace bx0 := bx0.next hB
      replace bx1 := bx1.next hB
      replace vx0 := vx0.next hB
      replace vx1 := vx1.next hB
      replace HB := HB.trans (hB.mono HB.size)
      clear hB
      have he : r2 = r := by
        have h1 := HR.out
        cases r <;> cases r2 <;> simp_all
      subst he
      clear hr2 HR
      have hrr : (r2 != r2) = false := by cases r2 <;> rfl
      have bx0l := bx0.lt
      have bx0i := bx0.c0
      have bx0j := bx0.c1
      have bx1l := bx1.lt
      have bx1i := bx1.c0
      have bx1j := bx1.c1
      have vx0l := vx0.lt
      have vx0i := vx0.c0
      have vx0j := vx0.c1
      have vx1l := vx1.lt
      have vx1i := vx1.c0
      have vx1j := vx1.c1
      go_wp2_with fail
      have hD : Below w26.heap.size w26 w26.drew := (Below.refl _ _).drew
      have nd0 := n0.below hD (Nat.le_refl _)
      go_region_held3 (fun w' => Below w26.heap.size w26 w' ∧ w'.cell? ⟨w.heap.size, 0, none⟩ = some (x0) ∧ w'.cell? ⟨w.heap.size, 1, none⟩ = some (y0) ∧ w'.cell? ⟨w.heap.size + 1, 0, none⟩ = some (x1) ∧ w'.cell? ⟨w.heap.size + 1, 1, none⟩ = some (y1) ∧ w'.cell? ⟨w24.heap.size, 0, none⟩ = some (.slice (some ⟨tb0, 0, none⟩) p0.l.length p0.l.length) ∧ w'.cell? ⟨w24.heap.size, 1, none⟩ = some (.slice (some ⟨tc0, 0, none⟩) p0.items.length p0.items.length) ∧ w'.cell? ⟨w25.heap.size, 0, none⟩ = some (.slice (some ⟨tb1, 0, none⟩) p1.l.length p1.l.length) ∧ w'.cell? ⟨w25.heap.size, 1, none⟩ = some (.slice (some ⟨tc1, 0, none⟩) p1.items.length p1.items.length))
        (first | exact ⟨hD, bx0i, bx0j, bx1i, bx1j, vx0i, vx0j, vx1i, vx1j⟩ | exact ⟨hBq, (hBq.cell bx0l).trans bx0i, (hBq.cell bx0l).trans bx0j, (hBq.cell bx1l).trans bx1i, (hBq.cell bx1l).trans bx1j, (hBq.cell vx0l).trans vx0i, (hBq.cell vx0l).trans vx0j, (hBq.cell vx1l).trans vx1i, (hBq.cell vx1l).trans vx1j⟩ | exact ⟨hBr, (hBr.cell bx0l).trans bx0i, (hBr.cell bx0l).trans bx0j, (hBr.cell bx1l).trans bx1i, (hBr.cell bx1l).trans bx1j, (hBr.cell vx0l).trans vx0i, (hBr.cell vx0l).trans vx0j, (hBr.cell vx1l).trans vx1i, (hBr.cell vx1l).trans vx1j⟩)
        (first
          | (go_at_call 7; refine (to_prog w26.drew.heap.size _ _ _ _ p0 w26.drew (Nat.le_refl _) nd0 (by omega)).mono ?_; rintro e wq ⟨ub, uc, uV, uU, rfl, uo, hB⟩; have hBq : Below w26.heap.size w26 wq := hD.trans hB)
          | (go_at_call 9; refine (eq_prog wq.heap.size _ _ _ _ _ _ _ _ p0 wq (Nat.le_refl _) (to0.below hBq hBq.size) uo).mono ?_; rintro e w27 ⟨rfl, hB2⟩; have hBr : Below w26.heap.size w26 w27 := hBq.trans (hB2.mono hBq.size)))
      clear nd0 hD uo hB2 hBq
      clear bx0l bx0i bx0j bx1l bx1i bx1j vx0l vx0i vx0j vx1l vx1i vx1j
      clear to0
      clear vx0
      replace n0 := n0.below hBr hBr.size
      replace n1 := n1.below hBr hBr.size
      replace to1 := to1.below hBr hBr.size
      replace bx0 := bx0.next hBr
      replace bx1 := bx1.next hBr
      replace vx1 := vx1.next hBr
      replace HB := HB.trans (hBr.mono HB.size)
      clear hBr
      have bx0l := bx0.lt
      have bx0i := bx0.c0
      have bx0j := bx0.c1
      have bx1l := bx1.lt
      have bx1i := bx1.c0
      have bx1j := bx1.c1
      have vx1l := vx1.lt
      have vx1i := vx1.c0
      have vx1j := vx1.c1
      go_wp2_with fail
      have hD : Below w27.heap.size w27 w27.drew := (Below.refl _ _).drew
      have nd1 := n1.below hD (Nat.le_refl _)
      go_region_held3 (fun w' => Below w27.heap.size w27 w' ∧ w'.cell? ⟨w.heap.size, 0, none⟩ = some (x0) ∧ w'.cell? ⟨w.heap.size, 1, none⟩ = some (y0) ∧ w'.cell? ⟨w.heap.size + 1, 0, none⟩ = some (x1) ∧ w'.cell? ⟨w.heap.size + 1, 1, none⟩ = some (y1) ∧ w'.cell? ⟨w25.heap.size, 0, none⟩ = some (.slice (some ⟨tb1, 0, none⟩) p1.l.length p1.l.length) ∧ w'.cell? ⟨w25.heap.size, 1, none⟩ = some (.slice (some ⟨tc1, 0, none⟩) p1.items.length p1.items.length))
        (first | exact ⟨hD, bx0i, bx0j, bx1i, bx1j, vx1i, vx1j⟩ | exact ⟨hBq, (hBq.cell bx0l).trans bx0i, (hBq.cell bx0l).trans bx0j, (hBq.cell bx1l).trans bx1i, (hBq.cell bx1l).trans bx1j, (hBq.cell vx1l).trans vx1i, (hBq.cell vx1l).trans vx1j⟩ | exact ⟨hBr, (hBr.cell bx0l).trans bx0i, (hBr.cell bx0l).trans bx0j, (hBr.cell bx1l).trans bx1i, (hBr.cell bx1l).trans bx1j, (hBr.cell vx1l).trans vx1i, (hBr.cell vx1l).trans vx1j⟩)
        (first
          | (go_at_call 7; refine (to_prog w27.drew.heap.size _ _ _ _ p1 w27.drew (Nat.le_refl _) nd1 (by omega)).mono ?_; rintro e wq ⟨ub, uc, uV, uU, rfl, uo, hB⟩; have hBq : Below w27.heap.size w27 wq := hD.trans hB)
          | (go_at_call 9; refine (eq_prog wq.heap.size _ _ _ _ _ _ _ _ p1 wq (Nat.le_refl _) (to1.below hBq hBq.size) uo).mono ?_; rintro e w28 ⟨rfl, hB2⟩; have hBr : Below w27.heap.size w27 w28 := hBq.trans (hB2.mono hBq.size)))
      clear nd1 hD uo hB2 hBq
      clear bx0l bx0i bx0j bx1l bx1i bx1j vx1l vx1i vx1j
      clear to1
      clear vx1
      replace n0 := n0.below hBr hBr.size
      replace n1 := n1.below hBr hBr.size
      replace bx0 := bx0.next hBr
      replace bx1 := bx1.next hBr
      replace HB := HB.trans (hBr.mono HB.size)
      clear hBr
      go_wp2_with fail
      go_ret
      exact ⟨rfl, HB⟩
    · have HE := szR_neg ht1
      have bx0l := bx0.lt
      have bx0i := bx0.c0
      have bx0j := bx0.c1
      have bx1l := bx1.lt
      have bx1i := bx1.c0
      have bx1j := bx1.c1
      go_wp2_with fail
      refine (sz_prog w21.heap.size _ _ _ _ p1 (1048576 - (wtP p0 : Int)) w21 (Nat.le_refl _) n1 (by omega) (by omega)).mono ?_
      rw [HE]
      rintro e w' ⟨rfl, hB⟩
      replace HB := HB.trans (hB.mono HB.size)
      clear hB
      go_wp2_with fail
      go_ret
      exact ⟨rfl, HB⟩
  · have HE := szR_neg ht0
    have bx0l := bx0.lt
    have bx0i := bx0.c0
    have bx0j := bx0.c1
    have bx1l := bx1.lt
    have bx1i := bx1.c0
    have bx1j := bx1.c1
    go_wp2_with fail
    refine (sz_prog ((w.alloc (Obj.cells #[x0, y0] 25)).alloc (Obj.cells #[x1, y1] 25)).heap.size _ _ _ _ p0 (1048576) ((w.alloc (Obj.cells #[x0, y0] 25)).alloc (Obj.cells #[x1, y1] 25)) (Nat.le_refl _) n0 (by omega) (by omega)).mono ?_
    rw [HE]
    rintro e w' ⟨rfl, hB⟩
    replace HB := HB.trans (hB.mono HB.size)
    clear hB
    go_wp2_with fail
    go_ret
    exact ⟨rfl, HB⟩

set_option maxRecDepth 100000 in
theorem lifted (os : Os) (started : os.Started) (H : Type) (enc : TypeId × Value → H) :
    ReturnsInHanded {} Try.checked os 3 .any (Rows.fnExactSameProgSpec.pre6 enc Try.prog Try.f3 Rows.fnExactSameProgRow.domain false) (Rows.fnExactSameProgSpec.post enc Try.prog Try.f3 false true false false) := by
  refine returnsInHanded_of_change (C := Try.checked) own started (by kernel_rfl) Try.func3
    (ChangeSpec.witness6 (enc := enc) (C := Try.checked) false ⟨#[], #[.agg #[.slice none 0 0, .slice none 0 0], .agg #[.slice none 0 0, .slice none 0 0]], []⟩ 8 (by kernel_rfl) (by kernel_rfl) (by kernel_rfl) (by kernel_rfl)) ?_
  intro W base args ds gs before hval0 hW hcnd _
  have hval : ∀ (j : Nat) t v, Try.f3.params[j]? = some t → args[j]? = some v → Value.okWide Try.prog W .any base t v := hval0
  have hW' := hW
  obtain ⟨p, q, hA0, hV, rfl, hfz, hnd⟩ := hW
  have hA : DataW.TrodAll enc Try.prog W 0 (fun _ => true) true Try.f3.params.toList args.toList ds p := hA0
  rw [Try.params3] at hA hval
  obtain ⟨v0, vs0, d0, ds0, p0, q0, hargs, rfl, rfl, h0, r0⟩ := trodAll_cons hA
  obtain ⟨v1, vs1, d1, ds1, p1, q1, rfl, rfl, rfl, h1, r1⟩ := trodAll_cons r0
  obtain ⟨rfl, rfl, rfl⟩ := trodAll_nil r1
  obtain rfl : args = #[v0, v1] := by cases args; simp_all
  obtain ⟨rfl, rfl⟩ := trodVars_none hV
  have hlt : ∀ x ∈ p0 ++ (p1 ++ []), x.block < W.heap.size := fun x hx => by simpa using hW'.lt x (by simpa using hx)
  have hk0 := h0
  have hlt0 : ∀ x ∈ p0, x.block < W.heap.size := fun x hx => hlt x (by simp [hx])
  have hk1 := h1
  have hlt1 : ∀ x ∈ p1, x.block < W.heap.size := fun x hx => hlt x (by simp [hx])
  obtain ⟨x0, y0, V0, U0, g0, rfl, n0⟩ := open_prog (w := W) (hval 0 25 v0 rfl rfl) h0
  obtain ⟨x1, y1, V1, U1, g1, rfl, n1⟩ := open_prog (w := W) (hval 1 25 v1 rfl rfl) h1
  clear hA0 hval0
  simp only [List.append_nil] at hW' hlt
  refine (walk x0 y0 V0 U0 g0 x1 y1 V1 U1 g1 W n0 n1).mono fun e W' ⟨he, hb⟩ => ?_
  subst he
  exact ⟨_, rfl, _, _, _, [], _, [], hW', (trodAll_cons_mk (shut_bool Try.underlying4 _) trodAll_mk0), (trodAll_cons_mk (Below.trod laidOut (by kernel_rfl) (of_decide_eq_true (by kernel_rfl)) hk0 hb hlt0) (trodAll_cons_mk (Below.trod laidOut (by kernel_rfl) (of_decide_eq_true (by kernel_rfl)) hk1 hb hlt1) trodAll_mk0)), rfl, hb.frame _, fun h => by cases h⟩

theorem over : Rows.fnExactSameProgRow.holds Try.pinned (OpenSpec.ofChange Rows.fnExactSameProgSpec) :=
  OpenClaim.holds_of_wide 3 Try.f3 rfl rfl rfl rfl rfl rfl rfl ⟨rfl, rfl, rfl, rfl, rfl⟩ rfl rfl rfl rfl rfl (by kernel_rfl) Try.func3 (by kernel_rfl)
    (of_decide_eq_true (by kernel_rfl)) (by unfold Func.isWrapper; first | (rw [if_pos (by decide +kernel)]; kernel_rfl) | (rw [if_neg (by decide +kernel)]; exact ⟨rfl, rfl⟩))
    (fun os started H enc _ => lifted os started H enc)

theorem proved : Rows.FnExactSameProgSaid :=
  over
end Go.Proofs.Ytngiidocgjbooaa.fnExactSameProg
