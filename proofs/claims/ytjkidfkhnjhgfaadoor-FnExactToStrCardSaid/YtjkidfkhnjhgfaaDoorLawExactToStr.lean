/-
  For every value the exact law of ToStr returns true: the program's function answers as its model does.
-/
import Derived.Test.YtjkidfkhnjhgfaaDoorFrame
import Derived.ShutString
import Derived.Lib.SmallJoins
import Derived.Test.YtjkidfkhnjhgfaaDoorCellText
import Derived.Test.YtjkidfkhnjhgfaaDoorTables
namespace Go.Proofs.YtjkidfkhnjhgfaaDoor.fnExactToStr
open Go.ChangeShapes Go.WideShapes Go.ChangeAt Go.RowKit
open Go.ChangeMaps (open_string shut_string)
open Go.Proofs.YtjkidfkhnjhgfaaDoor.Dec
open Go.Proofs.YtjkidfkhnjhgfaaDoor.DecPure
open Go.Proofs.YtjkidfkhnjhgfaaDoor.ReadPure
open Go.Proofs.YtjkidfkhnjhgfaaDoor.TextPure
open Go.Proofs.YtjkidfkhnjhgfaaDoor.CellPure
open Go.Proofs.YtjkidfkhnjhgfaaDoor.Cell
open Go.Proofs.YtjkidfkhnjhgfaaDoor.Frame
set_option linter.unusedVariables false

set_option maxRecDepth 100000 in
set_option maxHeartbeats 2000000 in
theorem walk (t0 n0 : Int) (s0 : ByteArray) (wt0 : (Lit.int .i64 t0).wf = true) (wn0 : (Lit.int .i64 n0).wf = true) (w0 : s0.size ≤ maxLen) (w : World) (htab : Go.Proofs.YtjkidfkhnjhgfaaDoor.Dec.Tables w) :
    Calls Tryd.prog 7 #[.agg #[.int .i64 t0, .int .i64 n0, .string s0]] w fun e w' => e = .returned (.bool true) ∧ Below w.heap.size w w' := by
  have hs0 : s0.size ≤ 9223372036854775807 := by unfold maxLen at w0; omega
  have HL := Lib.hid (LB.new w (.int .i64 t0) (.int .i64 n0) (.string s0))
  have HB0 := Lib.hid ((Below.refl w.heap.size w).alloc (Nat.le_refl _) (.cells #[.int .i64 t0, .int .i64 n0, .string s0] 51))
  have hlt0 : w.heap.size < (w.alloc (.cells #[.int .i64 t0, .int .i64 n0, .string s0] 51)).heap.size := by simp
  have HT := Lib.hid htab; clear htab
  go_enter Tryd.func7, Tryd.ntmps7
  go_wp2_with fail
  refine (sz_cell t0 n0 s0 1048576 hs0 (by omega) (by omega) _).mono ?_
  rintro e w1 ⟨⟨r, rfl, hr⟩, hB⟩
  have HR := Lib.hid hr; clear hr
  have hl := HL.out.next hB
  obtain ⟨c0, c1, c2⟩ := hl.cells
  have HL1 := Lib.hid hl; clear hl
  have HB1 := Lib.hid (HB0.out.trans (hB.mono (by omega))); clear hB
  by_cases hr0 : r < 0
  · go_wp2_with fail
    go_ret
    exact ⟨rfl, HB1.out⟩
  · have hsz : s0.size ≤ 1048576 := by have := HR.out (by omega); omega
    go_wp2_with fail
    refine (to_cell t0 n0 s0 _).mono ?_
    rintro e w2 ⟨rfl, hB⟩
    have HL2 := Lib.hid (HL1.out.next hB)
    have HB2 := Lib.hid (HB1.out.trans (hB.mono HB1.out.size)); clear hB
    clear c0 c1 c2
    go_wp2_with fail
    refine (spec_toStr t0 n0 s0 hsz w2).mono ?_
    rintro e w3 ⟨rfl, hB⟩
    have hl := HL2.out.next hB
    obtain ⟨c0, c1, c2⟩ := hl.cells
    have HL3 := Lib.hid hl; clear hl
    have HB3 := Lib.hid (HB2.out.trans (hB.mono HB2.out.size)); clear hB
    go_wp2_with fail
    refine (to_cell t0 n0 s0 _).mono ?_
    rintro e w4 ⟨rfl, hB⟩
    have HB4 := Lib.hid (HB3.out.trans (hB.mono HB3.out.size)); clear hB
    clear c0 c1 c2
    have hT4 := HT.out.below HB4.out
    have HC := Lib.hid (impl_toStr t0 n0 s0 hsz w4 hT4); clear hT4
    go_wp2_with fail
    refine HC.out.mono ?_
    rintro e w5 ⟨rfl, hB⟩
    have HB5 := Lib.hid (HB4.out.trans (hB.mono HB4.out.size)); clear hB
    go_wp2_with fail
    go_ret
    exact ⟨rfl, HB5.out⟩


set_option maxRecDepth 100000 in
theorem contract (H : Type) (enc : TypeId × Value → H) (W : World) (base : Nat) (args : Array Value) (ds gs : List (DataW H)) (before : List MemPlace)
    (hval : ∀ (j : Nat) t v, Tryd.f7.params[j]? = some t → args[j]? = some v → Value.okWide Tryd.prog W .any base t v)
    (hW : DataW.Whole enc Tryd.prog Tryd.f7.params.toList Rows.fnExactToStrSpec.vars false W args.toList ds gs before) (hL : laidMetH Tryd.prog Rows.fnExactToStrRow.laid W) :
    Calls Tryd.prog 7 args W fun e W' => ∃ v, e = .returned v ∧ Rows.fnExactToStrSpec.post enc Tryd.prog Tryd.f7 false true false false W args v W' := by
  have hW' := hW
  obtain ⟨p, q, hA0, hV, rfl, hfz, hnd⟩ := hW
  have hA : DataW.TrodAll enc Tryd.prog W 0 (fun _ => true) true Tryd.f7.params.toList args.toList ds p := hA0
  rw [Tryd.params7] at hA hval
  obtain ⟨v0, vs0, d0, ds0, p0, q0, hargs, rfl, rfl, h0, r0⟩ := trodAll_cons hA
  obtain ⟨rfl, rfl, rfl⟩ := trodAll_nil r0
  obtain rfl : args = #[v0] := by cases args; simp_all
  obtain ⟨rfl, rfl⟩ := trodVars_none hV
  have hlt0 : ∀ x ∈ p0, x.block < W.heap.size := fun x hx => hW'.lt x (by simp [hx])
  have hk0 := h0
  obtain ⟨c0, c1, c2, y0, y1, y2, m, rfl, -, -, g0, g1, g2⟩ := Go.Joins.open_agg3 Tryd.underlying51 (by kernel_rfl) (by kernel_rfl) (hval 0 51 v0 rfl rfl) h0
  obtain ⟨t0, e0, -, wt0⟩ := DataW.trod_int Tryd.underlying3 g0
  obtain ⟨n0, e1, -, wn0⟩ := DataW.trod_int Tryd.underlying3 g1
  obtain ⟨s0, e2, -, w0⟩ := DataW.trod_string Tryd.underlying9 g2
  simp only [List.cons.injEq, and_true] at e0 e1 e2
  subst e0 e1 e2
  clear g0 g1 g2
  clear hA0
  simp only [List.append_nil] at hW'
  refine (walk t0 n0 s0 wt0 wn0 w0 W (tabs hL)).mono fun e W' ⟨he, hg⟩ => ?_
  subst he
  exact ⟨_, rfl, _, _, _, [], _, [], hW', trodAll_cons_mk (shut_bool Tryd.underlying4 _) trodAll_mk0, (trodAll_cons_mk (Below.trod laidOut (by kernel_rfl) (of_decide_eq_true (by kernel_rfl)) hk0 hg hlt0) trodAll_mk0), rfl, hg.frame _, fun h => by cases h⟩

theorem laid_met (os : Os) : laidMet Tryd.prog Rows.fnExactToStrRow.laid ((laidWorld os).forCall (fun _ _ => 0) ⟨#[], #[.agg #[.int .i64 0, .int .i64 0, .string ⟨#[]⟩]], []⟩).memory :=
  laidMet_of_run' 80 (by kernel_rfl) (by kernel_rfl)
theorem reads (os : Os) {H : Type} (enc : TypeId × Value → H) : ∃ places, DataW.whole enc Tryd.prog ((laidWorld os).forCall (fun _ _ => 0) ⟨#[], #[.agg #[.int .i64 0, .int .i64 0, .string ⟨#[]⟩]], []⟩).memory Tryd.f7.params.toList Rows.fnExactToStrSpec.vars false (#[.agg #[.int .i64 0, .int .i64 0, .string ⟨#[]⟩]] : Array Value).toList 8 = some ([.agg [.lit (.int .i64 0), .lit (.int .i64 0), .lit (.string [])]], [], places) :=
  ⟨[], by kernel_rfl⟩

set_option maxRecDepth 100000 in
theorem lifted (os : Os) (started : os.Started) (H : Type) (enc : TypeId × Value → H) (F : Stop.Interp) :
    ReturnsInHanded {} Tryd.checked os 7 .any ((OpenSpec.ofChange Rows.fnExactToStrSpec).preRow enc Tryd.prog Tryd.f7 Rows.fnExactToStrRow.domain false Rows.fnExactToStrRow.laid) (((OpenSpec.ofChange Rows.fnExactToStrSpec).at F).post enc Tryd.prog Tryd.f7 false true false false) := by
  obtain ⟨places, hx⟩ := reads os enc
  refine returnsInHanded_of_row (C := Tryd.checked) (s := OpenSpec.ofChange Rows.fnExactToStrSpec) own started (by kernel_rfl) Tryd.func7
    (witness_row_at (enc := enc) (C := Tryd.checked) false (laidWorld os) #[.agg #[.int .i64 0, .int .i64 0, .string ⟨#[]⟩]] rfl (by kernel_rfl) (by kernel_rfl) (by kernel_rfl)
      (OpenSpec.preRow_of_cond 8 hx (by kernel_rfl) (fun k hk => by cases hk) (by kernel_rfl) (laid_met os))) ?_
  intro W base args ds gs before hval hW _ _ _ hL _ _
  exact contract H enc W base args ds gs before hval hW hL

theorem said : Rows.FnExactToStrSaid :=
  OpenClaim.holds_of_cond 7 Tryd.f7 rfl rfl rfl rfl rfl rfl rfl ⟨rfl, rfl, rfl, rfl, rfl⟩ rfl rfl rfl rfl rfl (by kernel_rfl) Tryd.func7 (by kernel_rfl)
    (of_decide_eq_true (by kernel_rfl)) (by unfold Func.isWrapper; first | (rw [if_pos (by decide +kernel)]; kernel_rfl) | (rw [if_neg (by decide +kernel)]; exact ⟨rfl, rfl⟩))
    (fun os started H enc _ F => by rw [OpenClaim.pre_eq_preRow]; exact lifted os started H enc F)

theorem plain (f : FuncId) (fn : Func) (hf : Tryd.pinned.checked.prog.funcNamed "loop.example/g00700/laws.FnExactToStr" = some f) (hfn : Tryd.pinned.checked.prog.funcs[f]? = some fn) :
    false = Tryd.pinned.checked.prog.looks [] ∧ ∀ (j : Nat) t, fn.params[j]? = some t → Tryd.pinned.checked.prog.wantsStandIn t = false := by
  obtain rfl : f = 7 := Option.some.inj ((show Tryd.prog.funcNamed "loop.example/g00700/laws.FnExactToStr" = some 7 by kernel_rfl).symm.trans hf) |>.symm
  obtain rfl : fn = Tryd.f7 := (Option.some.inj (Tryd.func7.symm.trans hfn)).symm
  refine ⟨by kernel_rfl, fun j t ht => ?_⟩
  rw [Tryd.params7] at ht
  obtain rfl : t = 51 := by simpa using Array.mem_of_getElem? ht
  exact (show Tryd.prog.wantsStandIn 51 = false by kernel_rfl)

theorem card : Rows.FnExactToStrCardSaid :=
  Claim7.holds_tied_plain_at .later [] _ _ _ _ said (fun _ h => by cases h) (by kernel_rfl) (fun _ h => by cases h) fnExactToStr_row_tie rfl ⟨rfl, rfl⟩ (by kernel_rfl) rfl plain (by kernel_rfl)
end Go.Proofs.YtjkidfkhnjhgfaaDoor.fnExactToStr
