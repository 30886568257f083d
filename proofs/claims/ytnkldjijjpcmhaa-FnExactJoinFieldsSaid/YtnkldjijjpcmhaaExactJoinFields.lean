/-
  For every list of strings the exact law of JoinFields returns true: the program's function answers as its model does and leaves its argument as it was.
-/
import Derived.Test.YtnkldjijjpcmhaaRows
import Derived.WalkKit
import Derived.ProofKit
import Derived.OpenShut
import Derived.Below
import Derived.ShutString
import Derived.Lib.SmallJoins
import Derived.Test.YtnkldjijjpcmhaaRecPure
import Derived.Test.YtnkldjijjpcmhaaStrArg
import Derived.Test.YtnkldjijjpcmhaaJoin
namespace Go.Proofs.Ytnkldjijjpcmhaa.fnExactJoinFields
open Go.ChangeShapes Go.WideShapes Go.ChangeAt Go.RowKit
open Go.ChangeMaps (open_string shut_string)
open Go.Proofs.Ytnkldjijjpcmhaa.Dec
open Go.Proofs.Ytnkldjijjpcmhaa.DecPure
open Go.Proofs.Ytnkldjijjpcmhaa.ReadPure
open Go.Proofs.Ytnkldjijjpcmhaa.RecPure
open Go.Proofs.Ytnkldjijjpcmhaa.Strs
open Go.Proofs.Ytnkldjijjpcmhaa.PgPure
open Go.Proofs.Ytnkldjijjpcmhaa.Pg
set_option linter.unusedVariables false

theorem own : ownKnob Try.prog.godebug = none := by kernel_rfl
theorem laidOut : laidOutB Try.prog = true := by kernel_rfl

set_option maxRecDepth 100000 in
set_option maxHeartbeats 2000000 in
theorem walk (v0 : Value) (l0 : List ByteArray)  (w : World) (w0 : StrsAt w.heap.size w v0 l0) :
    Calls Try.prog 10 #[v0] w fun e w' => e = .returned (.bool true) ∧ Below w.heap.size w w' := by
  have HW := Lib.hid w0; clear w0
  go_enter Try.func10, Try.ntmps10
  go_wp2_with fail
  refine (sz_strs w.heap.size v0 l0 1048576 w (Nat.le_refl _) HW.out (by omega) (by omega)).mono ?_
  rintro e w1 ⟨rfl, hB⟩
  have HB1 := Lib.hid hB; clear hB
  by_cases hT : (totS l0 l0.length : Int) ≤ 1048576
  · rw [szR_pos hT]
    have hl := totS_ge l0 l0.length
    have hl1 : l0.length ≤ 1048576 := by omega
    have hsz : ∀ i, i < l0.length → (gs l0 i).size ≤ 1048576 := fun i hi => by have := tot_at l0 hi; omega
    have HSZ := Lib.hid hsz; clear hsz
    have hsp := fun v W h => spec_join v l0 hl1 W h
    have him := fun v W h => impl_join v l0 hl1 W h
    have HSP := Lib.hid hsp; clear hsp
    have HIM := Lib.hid him; clear him
    generalize joinP l0 = res at *
    have hz0 : ¬ (1048576 : Int) - (totS l0 l0.length : Int) < 0 := by omega
    go_wp2_with fail
    refine (to_strs w.heap.size v0 l0 w1 HB1.out.size (HW.out.below HB1.out (Nat.le_refl _)) hl1).mono ?_
    rintro e w2 ⟨rfl, r2, z2, hB⟩
    have HR2 := Lib.hid (read_row r2 HSZ.out)
    have HB2 := Lib.hid (HB1.out.trans (hB.mono HB1.out.size)); clear r2 z2 hB
    go_wp2_with fail
    refine (HSP.out _ w2 HR2.out).mono ?_
    rintro e w' ⟨rfl, rfl⟩
    go_wp2_with fail
    refine (to_strs w.heap.size v0 l0 w2 HB2.out.size (HW.out.below HB2.out (Nat.le_refl _)) hl1).mono ?_
    rintro e w3 ⟨rfl, r3, z3, hB⟩
    have HR3 := Lib.hid (read_row r3 HSZ.out)
    have HQ3 := Lib.hid r3
    have hlt3 : w2.heap.size < w3.heap.size := by omega
    have HB3 := Lib.hid (HB2.out.trans (hB.mono HB2.out.size)); clear r3 z3 hB
    go_wp2_with fail
    refine (HIM.out _ w3 HR3.out).mono ?_
    rintro e w4 ⟨rfl, hB⟩
    have HQ4 := Lib.hid (rowIs_below HQ3.out hB hlt3)
    have hlt4 : w2.heap.size < w4.heap.size := by have := hB.size; omega
    have HB4 := Lib.hid (HB3.out.trans (hB.mono HB3.out.size)); clear hB
    go_wp2_with fail
    refine (to_strs w.heap.size v0 l0 w4 HB4.out.size (HW.out.below HB4.out (Nat.le_refl _)) hl1).mono ?_
    rintro e w5 ⟨rfl, r5, z5, hB⟩
    have HQ5 := Lib.hid (rowIs_below HQ4.out hB hlt4)
    have HP5 := Lib.hid r5
    have hlt5 : w4.heap.size < w5.heap.size := by omega
    have HB5 := Lib.hid (HB4.out.trans (hB.mono HB4.out.size)); clear r5 z5 hB
    have hml : l0.length ≤ maxLen := by unfold maxLen; omega
    have hms : ∀ i, i < l0.length → (gs l0 i).size ≤ maxLen := fun i hi => by have := HSZ.out i hi; unfold maxLen; omega
    have HA := Lib.hid (strsAt_row (B := w5.heap.size) HQ5.out (by omega) hml hms)
    have HC := Lib.hid (strsAt_row (B := w5.heap.size) HP5.out (by omega) hml hms)
    clear hms
    go_wp2_with fail
    refine (eq_strs w5.heap.size _ _ l0 w5 (Nat.le_refl _) HA.out HC.out).mono ?_
    rintro e w6 ⟨rfl, hB⟩
    have HB6 := Lib.hid (HB5.out.trans (hB.mono HB5.out.size)); clear hB
    go_wp2_with fail
    go_ret
    exact ⟨rfl, HB6.out⟩
  · rw [szR_neg hT]
    go_wp2_with fail
    go_ret
    exact ⟨rfl, HB1.out⟩


set_option maxRecDepth 100000 in
theorem lifted (os : Os) (started : os.Started) (H : Type) (enc : TypeId × Value → H) :
    ReturnsInHanded {} Try.checked os 10 .any (Rows.fnExactJoinFieldsSpec.pre6 enc Try.prog Try.f10 Rows.fnExactJoinFieldsRow.domain false) (Rows.fnExactJoinFieldsSpec.post enc Try.prog Try.f10 false true false false) := by
  refine returnsInHanded_of_change (C := Try.checked) own started (by kernel_rfl) Try.func10
    (ChangeSpec.witness6 (enc := enc) (C := Try.checked) false ⟨#[], #[.slice none 0 0], []⟩ 8 (by kernel_rfl) (by kernel_rfl) (by kernel_rfl) (by kernel_rfl)) ?_
  intro W base args ds gs before hval0 hW hcnd _
  have hval : ∀ (j : Nat) t v, Try.f10.params[j]? = some t → args[j]? = some v → Value.okWide Try.prog W .any base t v := hval0
  have hW' := hW
  obtain ⟨p, q, hA0, hV, rfl, hfz, hnd⟩ := hW
  have hA : DataW.TrodAll enc Try.prog W 0 (fun _ => true) true Try.f10.params.toList args.toList ds p := hA0
  rw [Try.params10] at hA hval
  obtain ⟨v0, vs0, d0, ds0, p0, q0, hargs, rfl, rfl, h0, r0⟩ := trodAll_cons hA
  obtain ⟨rfl, rfl, rfl⟩ := trodAll_nil r0
  obtain rfl : args = #[v0] := by cases args; simp_all
  obtain ⟨rfl, rfl⟩ := trodVars_none hV
  have hlt0 : ∀ x ∈ p0, x.block < W.heap.size := fun x hx => hW'.lt x (by simp [hx])
  have hk0 := h0
  obtain ⟨so0, sl0, sc0, rfl⟩ := okWide_slice Try.underlying24 (hval 0 24 v0 rfl rfl)
  obtain ⟨fuel0, hf0⟩ := h0
  obtain ⟨u0, l0, hcs, w0⟩ := strs_open hf0
  simp [Value.cells] at hcs
  subst hcs
  clear hf0
  clear hA0 hval0
  simp only [List.append_nil] at hW'
  refine (walk _ l0  W w0).mono fun e W' ⟨he, hg⟩ => ?_
  subst he
  exact ⟨_, rfl, _, _, _, [], _, [], hW', (trodAll_cons_mk (shut_bool Try.underlying4 _) trodAll_mk0), (trodAll_cons_mk (Below.trod laidOut (by kernel_rfl) (of_decide_eq_true (by kernel_rfl)) hk0 hg hlt0) trodAll_mk0), rfl, hg.frame _, fun h => by cases h⟩

theorem over : Rows.fnExactJoinFieldsRow.holds Try.pinned (OpenSpec.ofChange Rows.fnExactJoinFieldsSpec) :=
  OpenClaim.holds_of_wide 10 Try.f10 rfl rfl rfl rfl rfl rfl rfl ⟨rfl, rfl, rfl, rfl, rfl⟩ rfl rfl rfl rfl rfl (by kernel_rfl) Try.func10 (by kernel_rfl)
    (of_decide_eq_true (by kernel_rfl)) (by unfold Func.isWrapper; first | (rw [if_pos (by decide +kernel)]; kernel_rfl) | (rw [if_neg (by decide +kernel)]; exact ⟨rfl, rfl⟩))
    (fun os started H enc _ => lifted os started H enc)

theorem proved : Rows.FnExactJoinFieldsSaid :=
  over
end Go.Proofs.Ytnkldjijjpcmhaa.fnExactJoinFields
