/-
  For every kind and every two values the exact law of Relate returns true: the program's function answers as its model does.
-/
import Derived.Test.YtofinndkbjcgbaaDoorFrame
import Derived.ShutString
import Derived.Lib.SmallJoins
import Derived.Test.YtofinndkbjcgbaaDoorCellRel
import Derived.Test.YtofinndkbjcgbaaDoorTables
import Derived.Deep.RegionHeld3
namespace Go.Proofs.YtofinndkbjcgbaaDoor.fnExactRelate
open Go.ChangeShapes Go.WideShapes Go.ChangeAt Go.RowKit
open Go.ChangeMaps (open_string shut_string)
open Go.Proofs.YtofinndkbjcgbaaDoor.Dec
open Go.Proofs.YtofinndkbjcgbaaDoor.DecPure
open Go.Proofs.YtofinndkbjcgbaaDoor.ReadPure
open Go.Proofs.YtofinndkbjcgbaaDoor.TextPure
open Go.Proofs.YtofinndkbjcgbaaDoor.CellPure
open Go.Proofs.YtofinndkbjcgbaaDoor.Cell
open Go.Proofs.YtofinndkbjcgbaaDoor.Frame
set_option linter.unusedVariables false

set_option maxRecDepth 100000 in
set_option maxHeartbeats 2000000 in
theorem walk (a0 : Int) (t1 n1 : Int) (s1 : ByteArray) (t2 n2 : Int) (s2 : ByteArray) (w0 : (Lit.int .i64 a0).wf = true) (wt1 : (Lit.int .i64 t1).wf = true) (wn1 : (Lit.int .i64 n1).wf = true) (w1 : s1.size ≤ maxLen) (wt2 : (Lit.int .i64 t2).wf = true) (wn2 : (Lit.int .i64 n2).wf = true) (w2 : s2.size ≤ maxLen) (w : World) (htab : Go.Proofs.YtofinndkbjcgbaaDoor.Dec.Tables w) :
    Calls Tryd.prog 7 #[.int .i64 a0, .agg #[.int .i64 t1, .int .i64 n1, .string s1], .agg #[.int .i64 t2, .int .i64 n2, .string s2]] w fun e w' => e = .returned (.bool true) ∧ Below w.heap.size w w' := by
  have hs0 : s1.size ≤ 9223372036854775807 := by unfold maxLen at w1; omega
  have hs1 : s2.size ≤ 9223372036854775807 := by unfold maxLen at w2; omega
  have HA := Lib.hid ((LB.new w (.int .i64 t1) (.int .i64 n1) (.string s1)).next ((Below.refl _ _).alloc (Nat.le_refl _) (.cells #[.int .i64 t2, .int .i64 n2, .string s2] 35)))
  have hb3 := LB.new (w.alloc (.cells #[.int .i64 t1, .int .i64 n1, .string s1] 35)) (.int .i64 t2) (.int .i64 n2) (.string s2)
  simp only [World.size_alloc] at hb3
  have HL := Lib.hid hb3; clear hb3
  have HB0 := Lib.hid (((Below.refl w.heap.size w).alloc (Nat.le_refl _) (.cells #[.int .i64 t1, .int .i64 n1, .string s1] 35)).alloc (by simp) (.cells #[.int .i64 t2, .int .i64 n2, .string s2] 35))
  have hlt0 : w.heap.size < ((w.alloc (.cells #[.int .i64 t1, .int .i64 n1, .string s1] 35)).alloc (.cells #[.int .i64 t2, .int .i64 n2, .string s2] 35)).heap.size := by simp; omega
  have HT := Lib.hid htab; clear htab
  go_enter Tryd.func7, Tryd.ntmps7
  go_wp2_with fail
  refine (sz_cell t1 n1 s1 1048576 hs0 (by omega) (by omega) _).mono ?_
  rintro e w1 ⟨⟨r, rfl, hr⟩, hB⟩
  have HR := Lib.hid hr; clear hr
  have HA1 := Lib.hid (HA.out.next hB)
  have HL1 := Lib.hid (HL.out.next hB)
  obtain ⟨ca0, ca1, ca2⟩ := HA1.out.cells
  obtain ⟨cb0, cb1, cb2⟩ := HL1.out.cells
  have HB1 := Lib.hid (HB0.out.trans (hB.mono (by omega))); clear hB
  by_cases hr0 : r < 0
  · go_wp2_with fail
    go_ret
    exact ⟨rfl, HB1.out⟩
  · have hsz0 : s1.size ≤ 1048576 := by have := HR.out (by omega); omega
    have hrl : r ≤ 1048576 := (HR.out (by omega)).2
    go_wp2_with fail
    refine (sz_cell t2 n2 s2 r hs1 (by omega) hrl _).mono ?_
    rintro e w2 ⟨⟨r2, rfl, hr⟩, hB⟩
    have HR2 := Lib.hid hr; clear hr
    have HA2 := Lib.hid (HA1.out.next hB)
    have HL2 := Lib.hid (HL1.out.next hB)
    clear ca0 ca1 ca2 cb0 cb1 cb2
    obtain ⟨ca0, ca1, ca2⟩ := HA2.out.cells
    obtain ⟨cb0, cb1, cb2⟩ := HL2.out.cells
    have HB2 := Lib.hid (HB1.out.trans (hB.mono HB1.out.size)); clear hB
    by_cases hr2 : r2 < 0
    · go_wp2_with fail
      go_ret
      exact ⟨rfl, HB2.out⟩
    have hsz1 : s2.size ≤ 1048576 := by have := HR2.out (by omega); omega
    clear hs0 hs1 HR HR2 hr0 hrl
    have hsp : ∀ W, Calls Tryd.prog 23 #[.int .i64 a0, cel t1 n1 s1, cel t2 n2 s2] W fun e w' => e = .returned (.bool (cRel a0 t1 n1 s1 t2 n2 s2)) ∧ Below W.heap.size W w' := fun W => spec_relate a0 t1 n1 s1 t2 n2 s2 hsz0 hsz1 W
    have him : ∀ W, Go.Proofs.YtofinndkbjcgbaaDoor.Dec.Tables W → Calls Tryd.prog 24 #[.int .i64 a0, cel t1 n1 s1, cel t2 n2 s2] W fun e w' => e = .returned (.bool (cRel a0 t1 n1 s1 t2 n2 s2)) ∧ Below W.heap.size W w' := fun W hW => impl_relate a0 t1 n1 s1 t2 n2 s2 hsz0 hsz1 W hW
    generalize cRel a0 t1 n1 s1 t2 n2 s2 = z at hsp him
    have HSP := Lib.hid hsp; clear hsp
    have HIM := Lib.hid him; clear him
    go_wp2_with fail
    have la := HA2.out.lt
    have lb := HL2.out.lt
    have hD : Below w2.heap.size w2 w2.drew := (Below.refl _ _).drew
    have hk : ∀ w', Below w2.heap.size w2 w' → Below w2.heap.size w2 w' ∧ w'.cell? ⟨w.heap.size, 0, none⟩ = some (.int .i64 t1) ∧ w'.cell? ⟨w.heap.size, 1, none⟩ = some (.int .i64 n1) ∧ w'.cell? ⟨w.heap.size, 2, none⟩ = some (.string s1) ∧ w'.cell? ⟨w.heap.size + 1, 0, none⟩ = some (.int .i64 t2) ∧ w'.cell? ⟨w.heap.size + 1, 1, none⟩ = some (.int .i64 n2) ∧ w'.cell? ⟨w.heap.size + 1, 2, none⟩ = some (.string s2) := fun w' h => ⟨h, (h.cell (p := ⟨w.heap.size, 0, none⟩) la).trans ca0, (h.cell (p := ⟨w.heap.size, 1, none⟩) la).trans ca1, (h.cell (p := ⟨w.heap.size, 2, none⟩) la).trans ca2, (h.cell (p := ⟨w.heap.size + 1, 0, none⟩) lb).trans cb0, (h.cell (p := ⟨w.heap.size + 1, 1, none⟩) lb).trans cb1, (h.cell (p := ⟨w.heap.size + 1, 2, none⟩) lb).trans cb2⟩
    have HK := Lib.hid hk; clear hk
    go_region_held3 (fun w' => Below w2.heap.size w2 w' ∧ w'.cell? ⟨w.heap.size, 0, none⟩ = some (.int .i64 t1) ∧ w'.cell? ⟨w.heap.size, 1, none⟩ = some (.int .i64 n1) ∧ w'.cell? ⟨w.heap.size, 2, none⟩ = some (.string s1) ∧ w'.cell? ⟨w.heap.size + 1, 0, none⟩ = some (.int .i64 t2) ∧ w'.cell? ⟨w.heap.size + 1, 1, none⟩ = some (.int .i64 n2) ∧ w'.cell? ⟨w.heap.size + 1, 2, none⟩ = some (.string s2))
      (first | exact HK.out _ hD | exact HK.out _ hw3 | exact HK.out _ hwq | exact HK.out _ hwp | exact HK.out _ (hD.alloc hD.size _) | exact HK.out _ (hwp.alloc hwp.size _) | exact HK.out _ (hwq.alloc hwq.size _) | exact HK.out _ (hw3.alloc hw3.size _) | exact HK.out _ (below_set3 hw3 hzl _ _ _))
      (first
        | (go_at_call_of 21 (Value.agg #[Value.int IntKind.i64 t1, Value.int IntKind.i64 n1, Value.string s1]); refine (to_cell t1 n1 s1 w2.drew).mono ?_; rintro e wp ⟨rfl, hB⟩; have hwp : Below w2.heap.size w2 wp := below_go hD hB; try (replace hZ := hZ.next hB); clear hB)
        | (go_at_call_of 21 (Value.agg #[Value.int IntKind.i64 t2, Value.int IntKind.i64 n2, Value.string s2]); refine (to_cell t2 n2 s2 wp).mono ?_; rintro e wq ⟨rfl, hB⟩; have hwq : Below w2.heap.size w2 wq := below_go hwp hB; try (replace hZ := hZ.next hB); clear hB)
        | (go_at_call 23; refine (HSP.out wq).mono ?_; rintro e w3 ⟨rfl, hB⟩; have hw3 : Below w2.heap.size w2 w3 := below_go hwq hB; try (replace hZ := hZ.next hB); clear hB)
      )
    have hB := hw3
    clear hw3 hwp hwq hD la lb HK
    have HA3 := Lib.hid (HA2.out.next hB)
    have HL3 := Lib.hid (HL2.out.next hB)
    have HB3 := Lib.hid (HB2.out.trans (hB.mono HB2.out.size)); clear hB
    clear ca0 ca1 ca2 cb0 cb1 cb2
    obtain ⟨ca0, ca1, ca2⟩ := HA3.out.cells
    obtain ⟨cb0, cb1, cb2⟩ := HL3.out.cells
    go_wp2_with fail
    have la := HA3.out.lt
    have lb := HL3.out.lt
    have hD : Below w3.heap.size w3 w3.drew := (Below.refl _ _).drew
    have hk : ∀ w', Below w3.heap.size w3 w' → Below w3.heap.size w3 w' ∧ w'.cell? ⟨w.heap.size, 0, none⟩ = some (.int .i64 t1) ∧ w'.cell? ⟨w.heap.size, 1, none⟩ = some (.int .i64 n1) ∧ w'.cell? ⟨w.heap.size, 2, none⟩ = some (.string s1) ∧ w'.cell? ⟨w.heap.size + 1, 0, none⟩ = some (.int .i64 t2) ∧ w'.cell? ⟨w.heap.size + 1, 1, none⟩ = some (.int .i64 n2) ∧ w'.cell? ⟨w.heap.size + 1, 2, none⟩ = some (.string s2) := fun w' h => ⟨h, (h.cell (p := ⟨w.heap.size, 0, none⟩) la).trans ca0, (h.cell (p := ⟨w.heap.size, 1, none⟩) la).trans ca1, (h.cell (p := ⟨w.heap.size, 2, none⟩) la).trans ca2, (h.cell (p := ⟨w.heap.size + 1, 0, none⟩) lb).trans cb0, (h.cell (p := ⟨w.heap.size + 1, 1, none⟩) lb).trans cb1, (h.cell (p := ⟨w.heap.size + 1, 2, none⟩) lb).trans cb2⟩
    have HK := Lib.hid hk; clear hk
    go_region_held3 (fun w' => Below w3.heap.size w3 w' ∧ w'.cell? ⟨w.heap.size, 0, none⟩ = some (.int .i64 t1) ∧ w'.cell? ⟨w.heap.size, 1, none⟩ = some (.int .i64 n1) ∧ w'.cell? ⟨w.heap.size, 2, none⟩ = some (.string s1) ∧ w'.cell? ⟨w.heap.size + 1, 0, none⟩ = some (.int .i64 t2) ∧ w'.cell? ⟨w.heap.size + 1, 1, none⟩ = some (.int .i64 n2) ∧ w'.cell? ⟨w.heap.size + 1, 2, none⟩ = some (.string s2))
      (first | exact HK.out _ hD | exact HK.out _ hw4 | exact HK.out _ hwq | exact HK.out _ hwp | exact HK.out _ (hD.alloc hD.size _) | exact HK.out _ (hwp.alloc hwp.size _) | exact HK.out _ (hwq.alloc hwq.size _) | exact HK.out _ (hw4.alloc hw4.size _) | exact HK.out _ (below_set3 hw4 hzl _ _ _))
      (first
        | (go_at_call_of 21 (Value.agg #[Value.int IntKind.i64 t1, Value.int IntKind.i64 n1, Value.string s1]); refine (to_cell t1 n1 s1 w3.drew).mono ?_; rintro e wp ⟨rfl, hB⟩; have hwp : Below w3.heap.size w3 wp := below_go hD hB; try (replace hZ := hZ.next hB); clear hB)
        | (go_at_call_of 21 (Value.agg #[Value.int IntKind.i64 t2, Value.int IntKind.i64 n2, Value.string s2]); refine (to_cell t2 n2 s2 wp).mono ?_; rintro e wq ⟨rfl, hB⟩; have hwq : Below w3.heap.size w3 wq := below_go hwp hB; try (replace hZ := hZ.next hB); clear hB)
        | (go_at_call 24; refine (HIM.out wq (HT.out.below (HB3.out.trans (hwq.mono HB3.out.size)))).mono ?_; rintro e w4 ⟨rfl, hB⟩; have hw4 : Below w3.heap.size w3 w4 := below_go hwq hB; try (replace hZ := hZ.next hB); clear hB)
      )
    have hB := hw4
    clear hw4 hwp hwq hD la lb HK
    have HB4 := Lib.hid (HB3.out.trans (hB.mono HB3.out.size)); clear hB
    clear ca0 ca1 ca2 cb0 cb1 cb2
    go_wp2_with fail
    go_ret
    exact ⟨rfl, HB4.out⟩


set_option maxRecDepth 100000 in
theorem contract (H : Type) (enc : TypeId × Value → H) (W : World) (base : Nat) (args : Array Value) (ds gs : List (DataW H)) (before : List MemPlace)
    (hval : ∀ (j : Nat) t v, Tryd.f7.params[j]? = some t → args[j]? = some v → Value.okWide Tryd.prog W .any base t v)
    (hW : DataW.Whole enc Tryd.prog Tryd.f7.params.toList Rows.fnExactRelateSpec.vars false W args.toList ds gs before) (hL : laidMetH Tryd.prog Rows.fnExactRelateRow.laid W) :
    Calls Tryd.prog 7 args W fun e W' => ∃ v, e = .returned v ∧ Rows.fnExactRelateSpec.post enc Tryd.prog Tryd.f7 false true false false W args v W' := by
  have hW' := hW
  obtain ⟨p, q, hA0, hV, rfl, hfz, hnd⟩ := hW
  have hA : DataW.TrodAll enc Tryd.prog W 0 (fun _ => true) true Tryd.f7.params.toList args.toList ds p := hA0
  rw [Tryd.params7] at hA hval
  obtain ⟨v0, vs0, d0, ds0, p0, q0, hargs, rfl, rfl, h0, r0⟩ := trodAll_cons hA
  obtain ⟨v1, vs1, d1, ds1, p1, q1, rfl, rfl, rfl, h1, r1⟩ := trodAll_cons r0
  obtain ⟨v2, vs2, d2, ds2, p2, q2, rfl, rfl, rfl, h2, r2⟩ := trodAll_cons r1
  obtain ⟨rfl, rfl, rfl⟩ := trodAll_nil r2
  obtain rfl : args = #[v0, v1, v2] := by cases args; simp_all
  obtain ⟨rfl, rfl⟩ := trodVars_none hV
  have hlt1 : ∀ x ∈ p1, x.block < W.heap.size := fun x hx => hW'.lt x (by simp [hx])
  have hk1 := h1
  have hlt2 : ∀ x ∈ p2, x.block < W.heap.size := fun x hx => hW'.lt x (by simp [hx])
  have hk2 := h2
  obtain ⟨a0, rfl, rfl, rfl, w0⟩ := open_int Tryd.underlying3 (hval 0 3 v0 rfl rfl) h0
  obtain ⟨c0, c1, c2, y0, y1, y2, m, rfl, -, -, g0, g1, g2⟩ := Go.Joins.open_agg3 Tryd.underlying35 (by kernel_rfl) (by kernel_rfl) (hval 1 35 v1 rfl rfl) h1
  obtain ⟨t1, e0, -, wt1⟩ := DataW.trod_int Tryd.underlying3 g0
  obtain ⟨n1, e1, -, wn1⟩ := DataW.trod_int Tryd.underlying3 g1
  obtain ⟨s1, e2, -, w1⟩ := DataW.trod_string Tryd.underlying9 g2
  simp only [List.cons.injEq, and_true] at e0 e1 e2
  subst e0 e1 e2
  clear g0 g1 g2
  obtain ⟨c0, c1, c2, y0, y1, y2, m, rfl, -, -, g0, g1, g2⟩ := Go.Joins.open_agg3 Tryd.underlying35 (by kernel_rfl) (by kernel_rfl) (hval 2 35 v2 rfl rfl) h2
  obtain ⟨t2, e0, -, wt2⟩ := DataW.trod_int Tryd.underlying3 g0
  obtain ⟨n2, e1, -, wn2⟩ := DataW.trod_int Tryd.underlying3 g1
  obtain ⟨s2, e2, -, w2⟩ := DataW.trod_string Tryd.underlying9 g2
  simp only [List.cons.injEq, and_true] at e0 e1 e2
  subst e0 e1 e2
  clear g0 g1 g2
  clear hA0
  simp only [List.append_nil] at hW'
  refine (walk a0 t1 n1 s1 t2 n2 s2 w0 wt1 wn1 w1 wt2 wn2 w2 W (tabs hL)).mono fun e W' ⟨he, hg⟩ => ?_
  subst he
  exact ⟨_, rfl, _, _, _, [], _, [], hW', trodAll_cons_mk (shut_bool Tryd.underlying4 _) trodAll_mk0, (trodAll_cons_mk (shut_int Tryd.underlying3 w0) (trodAll_cons_mk (Below.trod laidOut (by kernel_rfl) (of_decide_eq_true (by kernel_rfl)) hk1 hg hlt1) (trodAll_cons_mk (Below.trod laidOut (by kernel_rfl) (of_decide_eq_true (by kernel_rfl)) hk2 hg hlt2) trodAll_mk0))), rfl, hg.frame _, fun h => by cases h⟩

theorem laid_met (os : Os) : laidMet Tryd.prog Rows.fnExactRelateRow.laid ((laidWorld os).forCall (fun _ _ => 0) ⟨#[], #[.int .i64 0, .agg #[.int .i64 0, .int .i64 0, .string ⟨#[]⟩], .agg #[.int .i64 0, .int .i64 0, .string ⟨#[]⟩]], []⟩).memory :=
  laidMet_of_run' 80 (by kernel_rfl) (by kernel_rfl)
theorem reads (os : Os) {H : Type} (enc : TypeId × Value → H) : ∃ places, DataW.whole enc Tryd.prog ((laidWorld os).forCall (fun _ _ => 0) ⟨#[], #[.int .i64 0, .agg #[.int .i64 0, .int .i64 0, .string ⟨#[]⟩], .agg #[.int .i64 0, .int .i64 0, .string ⟨#[]⟩]], []⟩).memory Tryd.f7.params.toList Rows.fnExactRelateSpec.vars false (#[.int .i64 0, .agg #[.int .i64 0, .int .i64 0, .string ⟨#[]⟩], .agg #[.int .i64 0, .int .i64 0, .string ⟨#[]⟩]] : Array Value).toList 8 = some ([.lit (.int .i64 0), .agg [.lit (.int .i64 0), .lit (.int .i64 0), .lit (.string [])], .agg [.lit (.int .i64 0), .lit (.int .i64 0), .lit (.string [])]], [], places) :=
  ⟨[], by kernel_rfl⟩

set_option maxRecDepth 100000 in
theorem lifted (os : Os) (started : os.Started) (H : Type) (enc : TypeId × Value → H) (F : Stop.Interp) :
    ReturnsInHanded {} Tryd.checked os 7 .any ((OpenSpec.ofChange Rows.fnExactRelateSpec).preRow enc Tryd.prog Tryd.f7 Rows.fnExactRelateRow.domain false Rows.fnExactRelateRow.laid) (((OpenSpec.ofChange Rows.fnExactRelateSpec).at F).post enc Tryd.prog Tryd.f7 false true false false) := by
  obtain ⟨places, hx⟩ := reads os enc
  refine returnsInHanded_of_row (C := Tryd.checked) (s := OpenSpec.ofChange Rows.fnExactRelateSpec) own started (by kernel_rfl) Tryd.func7
    (witness_row_at (enc := enc) (C := Tryd.checked) false (laidWorld os) #[.int .i64 0, .agg #[.int .i64 0, .int .i64 0, .string ⟨#[]⟩], .agg #[.int .i64 0, .int .i64 0, .string ⟨#[]⟩]] rfl (by kernel_rfl) (by kernel_rfl) (by kernel_rfl)
      (OpenSpec.preRow_of_cond 8 hx (by kernel_rfl) (fun k hk => by cases hk) (by kernel_rfl) (laid_met os))) ?_
  intro W base args ds gs before hval hW _ _ _ hL _ _
  exact contract H enc W base args ds gs before hval hW hL

theorem said : Rows.FnExactRelateSaid :=
  OpenClaim.holds_of_cond 7 Tryd.f7 rfl rfl rfl rfl rfl rfl rfl ⟨rfl, rfl, rfl, rfl, rfl⟩ rfl rfl rfl rfl rfl (by kernel_rfl) Tryd.func7 (by kernel_rfl)
    (of_decide_eq_true (by kernel_rfl)) (by unfold Func.isWrapper; first | (rw [if_pos (by decide +kernel)]; kernel_rfl) | (rw [if_neg (by decide +kernel)]; exact ⟨rfl, rfl⟩))
    (fun os started H enc _ F => by rw [OpenClaim.pre_eq_preRow]; exact lifted os started H enc F)

theorem plain (f : FuncId) (fn : Func) (hf : Tryd.pinned.checked.prog.funcNamed "loop.example/g00700/laws.FnExactRelate" = some f) (hfn : Tryd.pinned.checked.prog.funcs[f]? = some fn) :
    false = Tryd.pinned.checked.prog.looks [] ∧ ∀ (j : Nat) t, fn.params[j]? = some t → Tryd.pinned.checked.prog.wantsStandIn t = false := by
  obtain rfl : f = 7 := Option.some.inj ((show Tryd.prog.funcNamed "loop.example/g00700/laws.FnExactRelate" = some 7 by kernel_rfl).symm.trans hf) |>.symm
  obtain rfl : fn = Tryd.f7 := (Option.some.inj (Tryd.func7.symm.trans hfn)).symm
  refine ⟨by kernel_rfl, fun j t ht => ?_⟩
  rw [Tryd.params7] at ht
  have hm : t = 3 ∨ t = 35 := by simpa using Array.mem_of_getElem? ht
  rcases hm with rfl | rfl
  · exact (show Tryd.prog.wantsStandIn 3 = false by kernel_rfl)
  · exact (show Tryd.prog.wantsStandIn 35 = false by kernel_rfl)

theorem card : Rows.FnExactRelateCardSaid :=
  Claim7.holds_tied_plain_at .later [] _ _ _ _ said (fun _ h => by cases h) (by kernel_rfl) (fun _ h => by cases h) fnExactRelate_row_tie rfl ⟨rfl, rfl⟩ (by kernel_rfl) rfl plain (by kernel_rfl)
end Go.Proofs.YtofinndkbjcgbaaDoor.fnExactRelate
