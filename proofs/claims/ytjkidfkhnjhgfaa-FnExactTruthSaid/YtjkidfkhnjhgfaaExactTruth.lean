/-
  For every value the exact law of Truth returns true: the program's function answers as its model does.
-/
import Derived.Test.YtjkidfkhnjhgfaaRows
import Derived.WalkKit
import Derived.ProofKit
import Derived.OpenShut
import Derived.Below
import Derived.ShutString
import Derived.Lib.SmallJoins
import Derived.Test.YtjkidfkhnjhgfaaCell2
namespace Go.Proofs.Ytjkidfkhnjhgfaa.fnExactTruth
open Go.ChangeShapes Go.WideShapes Go.ChangeAt Go.RowKit
open Go.ChangeMaps (open_string shut_string)
open Go.Proofs.Ytjkidfkhnjhgfaa.Dec
open Go.Proofs.Ytjkidfkhnjhgfaa.DecPure
open Go.Proofs.Ytjkidfkhnjhgfaa.ReadPure
open Go.Proofs.Ytjkidfkhnjhgfaa.TextPure
open Go.Proofs.Ytjkidfkhnjhgfaa.CellPure
open Go.Proofs.Ytjkidfkhnjhgfaa.Cell
set_option linter.unusedVariables false

theorem own : ownKnob Try.prog.godebug = none := by kernel_rfl
theorem laidOut : laidOutB Try.prog = true := by kernel_rfl

set_option maxRecDepth 100000 in
theorem walk (t0 n0 : Int) (s0 : ByteArray) (wt0 : (Lit.int .i64 t0).wf = true) (wn0 : (Lit.int .i64 n0).wf = true) (w0 : s0.size ≤ maxLen) (w : World) :
    Calls Try.prog 6 #[.agg #[.int .i64 t0, .int .i64 n0, .string s0]] w fun e w' => e = .returned (.bool true) ∧ Below w.heap.size w w' := by
  have hs0 : s0.size ≤ 9223372036854775807 := by unfold maxLen at w0; omega
  have HL := Lib.hid (LB.new w (.int .i64 t0) (.int .i64 n0) (.string s0))
  have HB0 := Lib.hid ((Below.refl w.heap.size w).alloc (Nat.le_refl _) (.cells #[.int .i64 t0, .int .i64 n0, .string s0] 23))
  have hlt0 : w.heap.size < (w.alloc (.cells #[.int .i64 t0, .int .i64 n0, .string s0] 23)).heap.size := by simp
  go_enter Try.func6, Try.ntmps6
  go_wp2_with fail
  refine (sz_cell t0 n0 s0 1048576 hs0 (by omega) (by omega) _).mono ?_
  rintro e w1 ⟨⟨r, rfl, hr⟩, hB⟩
  have HR := Lib.hid hr; clear hr
  have hl := HL.out.next hB
  obtain ⟨c0, c1, c2⟩ := hl.cells
  have HL1 := Lib.hid hl; clear hl
  have HB1 := Lib.hid (HB0.out.trans (hB.mono (by omega))); clear hB
  by_cases hr0 : r < 0
  · go_wp2_with fail
    go_ret
    exact ⟨rfl, HB1.out⟩
  · have hsz : s0.size ≤ 1048576 := by have := HR.out (by omega); omega
    go_wp2_with fail
    refine (to_cell t0 n0 s0 _).mono ?_
    rintro e w2 ⟨rfl, hB⟩
    have HL2 := Lib.hid (HL1.out.next hB)
    have HB2 := Lib.hid (HB1.out.trans (hB.mono HB1.out.size)); clear hB
    clear c0 c1 c2
    go_wp2_with fail
    refine (spec_truth t0 n0 s0 hsz w2).mono ?_
    rintro e w3 ⟨rfl, hB⟩
    have hl := HL2.out.next hB
    obtain ⟨c0, c1, c2⟩ := hl.cells
    have HL3 := Lib.hid hl; clear hl
    have HB3 := Lib.hid (HB2.out.trans (hB.mono HB2.out.size)); clear hB
    go_wp2_with fail
    refine (to_cell t0 n0 s0 _).mono ?_
    rintro e w4 ⟨rfl, hB⟩
    have HB4 := Lib.hid (HB3.out.trans (hB.mono HB3.out.size)); clear hB
    clear c0 c1 c2
    have HC := Lib.hid (impl_truth t0 n0 s0 hsz w4)
    go_wp2_with fail
    refine HC.out.mono ?_
    rintro e w5 ⟨rfl, hB⟩
    have HB5 := Lib.hid (HB4.out.trans (hB.mono HB4.out.size)); clear hB
    go_wp2_with fail
    go_ret
    exact ⟨rfl, HB5.out⟩


set_option maxRecDepth 100000 in
theorem lifted (os : Os) (started : os.Started) (H : Type) (enc : TypeId × Value → H) :
    ReturnsInHanded {} Try.checked os 6 .any (Rows.fnExactTruthSpec.pre6 enc Try.prog Try.f6 Rows.fnExactTruthRow.domain false) (Rows.fnExactTruthSpec.post enc Try.prog Try.f6 false true false false) := by
  refine returnsInHanded_of_change (C := Try.checked) own started (by kernel_rfl) Try.func6
    (ChangeSpec.witness6 (enc := enc) (C := Try.checked) false ⟨#[], #[.agg #[.int .i64 0, .int .i64 0, .string ⟨#[]⟩]], []⟩ 8 (by kernel_rfl) (by kernel_rfl) (by kernel_rfl) (by kernel_rfl)) ?_
  intro W base args ds gs before hval0 hW hcnd _
  have hval : ∀ (j : Nat) t v, Try.f6.params[j]? = some t → args[j]? = some v → Value.okWide Try.prog W .any base t v := hval0
  have hW' := hW
  obtain ⟨p, q, hA0, hV, rfl, hfz, hnd⟩ := hW
  have hA : DataW.TrodAll enc Try.prog W 0 (fun _ => true) true Try.f6.params.toList args.toList ds p := hA0
  rw [Try.params6] at hA hval
  obtain ⟨v0, vs0, d0, ds0, p0, q0, hargs, rfl, rfl, h0, r0⟩ := trodAll_cons hA
  obtain ⟨rfl, rfl, rfl⟩ := trodAll_nil r0
  obtain rfl : args = #[v0] := by cases args; simp_all
  obtain ⟨rfl, rfl⟩ := trodVars_none hV
  have hlt0 : ∀ x ∈ p0, x.block < W.heap.size := fun x hx => hW'.lt x (by simp [hx])
  have hk0 := h0
  obtain ⟨c0, c1, c2, y0, y1, y2, m, rfl, -, -, g0, g1, g2⟩ := Go.Joins.open_agg3 Try.underlying23 (by kernel_rfl) (by kernel_rfl) (hval 0 23 v0 rfl rfl) h0
  obtain ⟨t0, e0, -, wt0⟩ := DataW.trod_int Try.underlying3 g0
  obtain ⟨n0, e1, -, wn0⟩ := DataW.trod_int Try.underlying3 g1
  obtain ⟨s0, e2, -, w0⟩ := DataW.trod_string Try.underlying9 g2
  simp only [List.cons.injEq, and_true] at e0 e1 e2
  subst e0 e1 e2
  clear g0 g1 g2
  clear hA0 hval0
  simp only [List.append_nil] at hW'
  refine (walk t0 n0 s0 wt0 wn0 w0 W).mono fun e W' ⟨he, hg⟩ => ?_
  subst he
  exact ⟨_, rfl, _, _, _, [], _, [], hW', (trodAll_cons_mk (shut_bool Try.underlying4 _) trodAll_mk0), (trodAll_cons_mk (Below.trod laidOut (by kernel_rfl) (of_decide_eq_true (by kernel_rfl)) hk0 hg hlt0) trodAll_mk0), rfl, hg.frame _, fun h => by cases h⟩

theorem over : Rows.fnExactTruthRow.holds Try.pinned (OpenSpec.ofChange Rows.fnExactTruthSpec) :=
  OpenClaim.holds_of_wide 6 Try.f6 rfl rfl rfl rfl rfl rfl rfl ⟨rfl, rfl, rfl, rfl, rfl⟩ rfl rfl rfl rfl rfl (by kernel_rfl) Try.func6 (by kernel_rfl)
    (of_decide_eq_true (by kernel_rfl)) (by unfold Func.isWrapper; first | (rw [if_pos (by decide +kernel)]; kernel_rfl) | (rw [if_neg (by decide +kernel)]; exact ⟨rfl, rfl⟩))
    (fun os started H enc _ => lifted os started H enc)

theorem proved : Rows.FnExactTruthSaid :=
  over
end Go.Proofs.Ytjkidfkhnjhgfaa.fnExactTruth
