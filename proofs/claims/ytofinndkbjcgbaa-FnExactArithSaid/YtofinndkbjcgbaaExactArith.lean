/-
  For every kind and every two values the exact law of Arith returns true: the program's function answers as its model does.
-/
import Derived.Test.YtofinndkbjcgbaaRows
import Derived.WalkKit
import Derived.ProofKit
import Derived.OpenShut
import Derived.Below
import Derived.ShutString
import Derived.Lib.SmallJoins
import Derived.Test.YtofinndkbjcgbaaCellArith2
import Derived.Deep.DeepCutAuto
import Derived.Deep.RegionHeld3
namespace Go.Proofs.Ytofinndkbjcgbaa.fnExactArith
open Go.ChangeShapes Go.WideShapes Go.ChangeAt Go.RowKit
open Go.ChangeMaps (open_string shut_string)
open Go.Proofs.Ytofinndkbjcgbaa.Dec
open Go.Proofs.Ytofinndkbjcgbaa.DecPure
open Go.Proofs.Ytofinndkbjcgbaa.ReadPure
open Go.Proofs.Ytofinndkbjcgbaa.TextPure
open Go.Proofs.Ytofinndkbjcgbaa.CellPure
open Go.Proofs.Ytofinndkbjcgbaa.Cell
set_option linter.unusedVariables false

theorem own : ownKnob Try.prog.godebug = none := by kernel_rfl
theorem laidOut : laidOutB Try.prog = true := by kernel_rfl

set_option maxRecDepth 100000 in
set_option maxHeartbeats 2000000 in
theorem walk (a0 : Int) (t1 n1 : Int) (s1 : ByteArray) (t2 n2 : Int) (s2 : ByteArray) (w0 : (Lit.int .i64 a0).wf = true) (wt1 : (Lit.int .i64 t1).wf = true) (wn1 : (Lit.int .i64 n1).wf = true) (w1 : s1.size ≤ maxLen) (wt2 : (Lit.int .i64 t2).wf = true) (wn2 : (Lit.int .i64 n2).wf = true) (w2 : s2.size ≤ maxLen) (w : World) :
    Calls Try.prog 3 #[.int .i64 a0, .agg #[.int .i64 t1, .int .i64 n1, .string s1], .agg #[.int .i64 t2, .int .i64 n2, .string s2]] w fun e w' => e = .returned (.bool true) ∧ Below w.heap.size w w' := by
  have hs0 : s1.size ≤ 9223372036854775807 := by unfold maxLen at w1; omega
  have hs1 : s2.size ≤ 9223372036854775807 := by unfold maxLen at w2; omega
  have HA := Lib.hid ((LB.new w (.int .i64 t1) (.int .i64 n1) (.string s1)).next ((Below.refl _ _).alloc (Nat.le_refl _) (.cells #[.int .i64 t2, .int .i64 n2, .string s2] 23)))
  have hb3 := LB.new (w.alloc (.cells #[.int .i64 t1, .int .i64 n1, .string s1] 23)) (.int .i64 t2) (.int .i64 n2) (.string s2)
  simp only [World.size_alloc] at hb3
  have HL := Lib.hid hb3; clear hb3
  have HB0 := Lib.hid (((Below.refl w.heap.size w).alloc (Nat.le_refl _) (.cells #[.int .i64 t1, .int .i64 n1, .string s1] 23)).alloc (by simp) (.cells #[.int .i64 t2, .int .i64 n2, .string s2] 23))
  have hlt0 : w.heap.size < ((w.alloc (.cells #[.int .i64 t1, .int .i64 n1, .string s1] 23)).alloc (.cells #[.int .i64 t2, .int .i64 n2, .string s2] 23)).heap.size := by simp; omega
  go_enter Try.func3, Try.ntmps3
  go_wp2_with fail
  refine (sz_cell t1 n1 s1 1048576 hs0 (by omega) (by omega) _).mono ?_
  rintro e w1 ⟨⟨r, rfl, hr⟩, hB⟩
  have HR := Lib.hid hr; clear hr
  have HA1 := Lib.hid (HA.out.next hB)
  have HL1 := Lib.hid (HL.out.next hB)
  obtain ⟨ca0, ca1, ca2⟩ := HA1.out.cells
  obtain ⟨cb0, cb1, cb2⟩ := HL1.out.cells
  have HB1 := Lib.hid (HB0.out.trans (hB.mono (by omega))); clear hB
  by_cases hr0 : r < 0
  · go_wp2_with fail
    go_ret
    exact ⟨rfl, HB1.out⟩
  · have hsz0 : s1.size ≤ 1048576 := by have := HR.out (by omega); omega
    have hrl : r ≤ 1048576 := (HR.out (by omega)).2
    go_wp2_with fail
    refine (sz_cell t2 n2 s2 r hs1 (by omega) hrl _).mono ?_
    rintro e w2 ⟨⟨r2, rfl, hr⟩, hB⟩
    have HR2 := Lib.hid hr; clear hr
    have HA2 := Lib.hid (HA1.out.next hB)
    have HL2 := Lib.hid (HL1.out.next hB)
    clear ca0 ca1 ca2 cb0 cb1 cb2
    obtain ⟨ca0, ca1, ca2⟩ := HA2.out.cells
    obtain ⟨cb0, cb1, cb2⟩ := HL2.out.cells
    have HB2 := Lib.hid (HB1.out.trans (hB.mono HB1.out.size)); clear hB
    by_cases hr2 : r2 < 0
    · go_wp2_with fail
      go_ret
      exact ⟨rfl, HB2.out⟩
    have hsz1 : s2.size ≤ 1048576 := by have := HR2.out (by omega); omega
    clear hs0 hs1 HR HR2 hr0 hrl
    have hsp : ∀ W, Calls Try.prog 5 #[.int .i64 a0, cel t1 n1 s1, cel t2 n2 s2] W (ArIs a0 t1 n1 s1 t2 n2 s2 W) := fun W => spec_arith a0 t1 n1 s1 t2 n2 s2 hsz0 hsz1 W
    have him : ∀ W, Calls Try.prog 7 #[.int .i64 a0, cel t1 n1 s1, cel t2 n2 s2] W (ArIs a0 t1 n1 s1 t2 n2 s2 W) := fun W => impl_arith a0 t1 n1 s1 t2 n2 s2 hsz0 hsz1 W
    unfold ArIs at hsp him
    generalize arT a0 t1 n1 s1 t2 n2 s2 = x at hsp him
    generalize arN a0 t1 n1 s1 t2 n2 s2 = y at hsp him
    generalize arC a0 t1 n1 s1 t2 n2 s2 = z at hsp him
    have HSP := Lib.hid hsp; clear hsp
    have HIM := Lib.hid him; clear him
    go_upto_region 8 with fail
    go_cut [8, 9] (fun p q wx => ∃ g : Nat, p = .pointer (some ⟨g, 0, none⟩) ∧ q = .int .i64 z ∧ Hid (CB wx g (.int .i64 x) (.int .i64 y) (.string ⟨#[]⟩)) ∧ Hid (Below w2.heap.size w2 wx))
    case first =>
      have la := HA2.out.lt
      have lb := HL2.out.lt
      have hD : Below w2.heap.size w2 w2.drew := (Below.refl _ _).drew
      have hk : ∀ w', Below w2.heap.size w2 w' → Below w2.heap.size w2 w' ∧ w'.cell? ⟨w.heap.size, 0, none⟩ = some (.int .i64 t1) ∧ w'.cell? ⟨w.heap.size, 1, none⟩ = some (.int .i64 n1) ∧ w'.cell? ⟨w.heap.size, 2, none⟩ = some (.string s1) ∧ w'.cell? ⟨w.heap.size + 1, 0, none⟩ = some (.int .i64 t2) ∧ w'.cell? ⟨w.heap.size + 1, 1, none⟩ = some (.int .i64 n2) ∧ w'.cell? ⟨w.heap.size + 1, 2, none⟩ = some (.string s2) := fun w' h => ⟨h, (h.cell (p := ⟨w.heap.size, 0, none⟩) la).trans ca0, (h.cell (p := ⟨w.heap.size, 1, none⟩) la).trans ca1, (h.cell (p := ⟨w.heap.size, 2, none⟩) la).trans ca2, (h.cell (p := ⟨w.heap.size + 1, 0, none⟩) lb).trans cb0, (h.cell (p := ⟨w.heap.size + 1, 1, none⟩) lb).trans cb1, (h.cell (p := ⟨w.heap.size + 1, 2, none⟩) lb).trans cb2⟩
      have HK := Lib.hid hk; clear hk
      go_region_held3 (fun w' => Below w2.heap.size w2 w' ∧ w'.cell? ⟨w.heap.size, 0, none⟩ = some (.int .i64 t1) ∧ w'.cell? ⟨w.heap.size, 1, none⟩ = some (.int .i64 n1) ∧ w'.cell? ⟨w.heap.size, 2, none⟩ = some (.string s1) ∧ w'.cell? ⟨w.heap.size + 1, 0, none⟩ = some (.int .i64 t2) ∧ w'.cell? ⟨w.heap.size + 1, 1, none⟩ = some (.int .i64 n2) ∧ w'.cell? ⟨w.heap.size + 1, 2, none⟩ = some (.string s2))
        (first | exact HK.out _ hD | exact HK.out _ hw3 | exact HK.out _ hwq | exact HK.out _ hwp | exact HK.out _ (hD.alloc hD.size _) | exact HK.out _ (hwp.alloc hwp.size _) | exact HK.out _ (hwq.alloc hwq.size _) | exact HK.out _ (hw3.alloc hw3.size _) | exact HK.out _ (below_set3 hw3 hzl _ _ _))
        (first
          | (go_at_call_of 6 (Value.agg #[Value.int IntKind.i64 t1, Value.int IntKind.i64 n1, Value.string s1]); refine (to_cell t1 n1 s1 w2.drew).mono ?_; rintro e wp ⟨rfl, hB⟩; have hwp : Below w2.heap.size w2 wp := below_go hD hB; try (replace hZ := hZ.next hB); clear hB)
          | (go_at_call_of 6 (Value.agg #[Value.int IntKind.i64 t1, Value.int IntKind.i64 n1, Value.string s1]); refine (to_cell t1 n1 s1 (w2.drew.alloc (.cells #[.int .i64 0, .int .i64 0, .string ⟨#[]⟩] 25))).mono ?_; rintro e wp ⟨rfl, hB⟩; have hwp : Below w2.heap.size w2 wp := below_go (hD.alloc hD.size _) hB; have hZ : CB wp w2.heap.size (.int .i64 0) (.int .i64 0) (.string ⟨#[]⟩) := (CB.new w2.drew (.int .i64 0) (.int .i64 0) (.string ⟨#[]⟩)).next hB; have hzl : w2.heap.size ≤ w2.heap.size := hD.size; clear hB)
          | (go_at_call_of 6 (Value.agg #[Value.int IntKind.i64 t2, Value.int IntKind.i64 n2, Value.string s2]); refine (to_cell t2 n2 s2 wp).mono ?_; rintro e wq ⟨rfl, hB⟩; have hwq : Below w2.heap.size w2 wq := below_go hwp hB; try (replace hZ := hZ.next hB); clear hB)
          | (go_at_call_of 6 (Value.agg #[Value.int IntKind.i64 t2, Value.int IntKind.i64 n2, Value.string s2]); refine (to_cell t2 n2 s2 (wp.alloc (.cells #[.int .i64 0, .int .i64 0, .string ⟨#[]⟩] 25))).mono ?_; rintro e wq ⟨rfl, hB⟩; have hwq : Below w2.heap.size w2 wq := below_go (hwp.alloc hwp.size _) hB; have hZ : CB wq wp.heap.size (.int .i64 0) (.int .i64 0) (.string ⟨#[]⟩) := (CB.new wp (.int .i64 0) (.int .i64 0) (.string ⟨#[]⟩)).next hB; have hzl : w2.heap.size ≤ wp.heap.size := hwp.size; clear hB)
          | (go_at_call 5; refine (HSP.out wq).mono ?_; rintro e w3 ⟨rfl, hB⟩; have hw3 : Below w2.heap.size w2 w3 := below_go hwq hB; try (replace hZ := hZ.next hB); try (obtain ⟨z0, z1, z2⟩ := hZ.cells; obtain ⟨m0, m1, m2⟩ := hZ.marks); clear hB)
          | (go_at_call 5; refine (HSP.out (wq.alloc (.cells #[.int .i64 0, .int .i64 0, .string ⟨#[]⟩] 25))).mono ?_; rintro e w3 ⟨rfl, hB⟩; have hw3 : Below w2.heap.size w2 w3 := below_go (hwq.alloc hwq.size _) hB; have hZ : CB w3 wq.heap.size (.int .i64 0) (.int .i64 0) (.string ⟨#[]⟩) := (CB.new wq (.int .i64 0) (.int .i64 0) (.string ⟨#[]⟩)).next hB; have hzl : w2.heap.size ≤ wq.heap.size := hwq.size; try (obtain ⟨z0, z1, z2⟩ := hZ.cells; obtain ⟨m0, m1, m2⟩ := hZ.marks); clear hB)
        )
      all_goals
        go_wp2_with fail
        go_meet
        first
          | exact ⟨_, rfl, rfl, Lib.hid (hZ.set3 _ _ _), Lib.hid (below_set3 hw3 hzl _ _ _)⟩
          | exact ⟨_, rfl, rfl, Lib.hid (CB.new w3 _ _ _), Lib.hid (hw3.alloc hw3.size _)⟩
    case rest =>
    obtain ⟨g1, rfl, rfl, HZ1, HBx⟩ := hcut
    obtain ⟨wk, hwk⟩ : ∃ wk, wk = wc := ⟨_, rfl⟩
    subst hwk
    have HAk := Lib.hid (HA2.out.next HBx.out)
    have HLk := Lib.hid (HL2.out.next HBx.out)
    clear ca0 ca1 ca2 cb0 cb1 cb2
    obtain ⟨ca0, ca1, ca2⟩ := HAk.out.cells
    obtain ⟨cb0, cb1, cb2⟩ := HLk.out.cells
    go_upto_region 9 with fail
    go_cut [10, 11] (fun p q wx => ∃ g : Nat, p = .pointer (some ⟨g, 0, none⟩) ∧ q = .int .i64 z ∧ Hid (CB wx g (.int .i64 x) (.int .i64 y) (.string ⟨#[]⟩)) ∧ Hid (Below wk.heap.size wk wx))
    case first =>
      have la := HAk.out.lt
      have lb := HLk.out.lt
      have hD : Below wk.heap.size wk wk.drew := (Below.refl _ _).drew
      have hk : ∀ w', Below wk.heap.size wk w' → Below wk.heap.size wk w' ∧ w'.cell? ⟨w.heap.size, 0, none⟩ = some (.int .i64 t1) ∧ w'.cell? ⟨w.heap.size, 1, none⟩ = some (.int .i64 n1) ∧ w'.cell? ⟨w.heap.size, 2, none⟩ = some (.string s1) ∧ w'.cell? ⟨w.heap.size + 1, 0, none⟩ = some (.int .i64 t2) ∧ w'.cell? ⟨w.heap.size + 1, 1, none⟩ = some (.int .i64 n2) ∧ w'.cell? ⟨w.heap.size + 1, 2, none⟩ = some (.string s2) := fun w' h => ⟨h, (h.cell (p := ⟨w.heap.size, 0, none⟩) la).trans ca0, (h.cell (p := ⟨w.heap.size, 1, none⟩) la).trans ca1, (h.cell (p := ⟨w.heap.size, 2, none⟩) la).trans ca2, (h.cell (p := ⟨w.heap.size + 1, 0, none⟩) lb).trans cb0, (h.cell (p := ⟨w.heap.size + 1, 1, none⟩) lb).trans cb1, (h.cell (p := ⟨w.heap.size + 1, 2, none⟩) lb).trans cb2⟩
      have HK := Lib.hid hk; clear hk
      go_region_held3 (fun w' => Below wk.heap.size wk w' ∧ w'.cell? ⟨w.heap.size, 0, none⟩ = some (.int .i64 t1) ∧ w'.cell? ⟨w.heap.size, 1, none⟩ = some (.int .i64 n1) ∧ w'.cell? ⟨w.heap.size, 2, none⟩ = some (.string s1) ∧ w'.cell? ⟨w.heap.size + 1, 0, none⟩ = some (.int .i64 t2) ∧ w'.cell? ⟨w.heap.size + 1, 1, none⟩ = some (.int .i64 n2) ∧ w'.cell? ⟨w.heap.size + 1, 2, none⟩ = some (.string s2))
        (first | exact HK.out _ hD | exact HK.out _ hw4 | exact HK.out _ hwq | exact HK.out _ hwp | exact HK.out _ (hD.alloc hD.size _) | exact HK.out _ (hwp.alloc hwp.size _) | exact HK.out _ (hwq.alloc hwq.size _) | exact HK.out _ (hw4.alloc hw4.size _) | exact HK.out _ (below_set3 hw4 hzl _ _ _))
        (first
          | (go_at_call_of 6 (Value.agg #[Value.int IntKind.i64 t1, Value.int IntKind.i64 n1, Value.string s1]); refine (to_cell t1 n1 s1 wk.drew).mono ?_; rintro e wp ⟨rfl, hB⟩; have hwp : Below wk.heap.size wk wp := below_go hD hB; try (replace hZ := hZ.next hB); clear hB)
          | (go_at_call_of 6 (Value.agg #[Value.int IntKind.i64 t1, Value.int IntKind.i64 n1, Value.string s1]); refine (to_cell t1 n1 s1 (wk.drew.alloc (.cells #[.int .i64 0, .int .i64 0, .string ⟨#[]⟩] 25))).mono ?_; rintro e wp ⟨rfl, hB⟩; have hwp : Below wk.heap.size wk wp := below_go (hD.alloc hD.size _) hB; have hZ : CB wp wk.heap.size (.int .i64 0) (.int .i64 0) (.string ⟨#[]⟩) := (CB.new wk.drew (.int .i64 0) (.int .i64 0) (.string ⟨#[]⟩)).next hB; have hzl : wk.heap.size ≤ wk.heap.size := hD.size; clear hB)
          | (go_at_call_of 6 (Value.agg #[Value.int IntKind.i64 t2, Value.int IntKind.i64 n2, Value.string s2]); refine (to_cell t2 n2 s2 wp).mono ?_; rintro e wq ⟨rfl, hB⟩; have hwq : Below wk.heap.size wk wq := below_go hwp hB; try (replace hZ := hZ.next hB); clear hB)
          | (go_at_call_of 6 (Value.agg #[Value.int IntKind.i64 t2, Value.int IntKind.i64 n2, Value.string s2]); refine (to_cell t2 n2 s2 (wp.alloc (.cells #[.int .i64 0, .int .i64 0, .string ⟨#[]⟩] 25))).mono ?_; rintro e wq ⟨rfl, hB⟩; have hwq : Below wk.heap.size wk wq := below_go (hwp.alloc hwp.size _) hB; have hZ : CB wq wp.heap.size (.int .i64 0) (.int .i64 0) (.string ⟨#[]⟩) := (CB.new wp (.int .i64 0) (.int .i64 0) (.string ⟨#[]⟩)).next hB; have hzl : wk.heap.size ≤ wp.heap.size := hwp.size; clear hB)
          | (go_at_call 7; refine (HIM.out wq).mono ?_; rintro e w4 ⟨rfl, hB⟩; have hw4 : Below wk.heap.size wk w4 := below_go hwq hB; try (replace hZ := hZ.next hB); try (obtain ⟨z0, z1, z2⟩ := hZ.cells; obtain ⟨m0, m1, m2⟩ := hZ.marks); clear hB)
          | (go_at_call 7; refine (HIM.out (wq.alloc (.cells #[.int .i64 0, .int .i64 0, .string ⟨#[]⟩] 25))).mono ?_; rintro e w4 ⟨rfl, hB⟩; have hw4 : Below wk.heap.size wk w4 := below_go (hwq.alloc hwq.size _) hB; have hZ : CB w4 wq.heap.size (.int .i64 0) (.int .i64 0) (.string ⟨#[]⟩) := (CB.new wq (.int .i64 0) (.int .i64 0) (.string ⟨#[]⟩)).next hB; have hzl : wk.heap.size ≤ wq.heap.size := hwq.size; try (obtain ⟨z0, z1, z2⟩ := hZ.cells; obtain ⟨m0, m1, m2⟩ := hZ.marks); clear hB)
        )
      all_goals
        go_wp2_with fail
        go_meet
        first
          | exact ⟨_, rfl, rfl, Lib.hid (hZ.set3 _ _ _), Lib.hid (below_set3 hw4 hzl _ _ _)⟩
          | exact ⟨_, rfl, rfl, Lib.hid (CB.new w4 _ _ _), Lib.hid (hw4.alloc hw4.size _)⟩
    case rest =>
    obtain ⟨g2, rfl, rfl, HZ2, HBy⟩ := hcut
    clear ca0 ca1 ca2 cb0 cb1 cb2
    obtain ⟨ca0, ca1, ca2⟩ := (HZ1.out.next HBy.out).cells
    obtain ⟨cb0, cb1, cb2⟩ := HZ2.out.cells
    have HB3 := Lib.hid ((HB2.out.trans (HBx.out.mono HB2.out.size)))
    have HB4 := Lib.hid ((HB3.out.trans (HBy.out.mono HB3.out.size)))
    go_wp2_with fail
    refine (eq_cell x y ⟨#[]⟩ _).mono ?_
    rintro e w9 ⟨rfl, hB⟩
    have HB5 := Lib.hid (HB4.out.trans (hB.mono HB4.out.size)); clear hB
    go_wp2_with fail
    go_ret
    exact ⟨rfl, HB5.out⟩


set_option maxRecDepth 100000 in
theorem lifted (os : Os) (started : os.Started) (H : Type) (enc : TypeId × Value → H) :
    ReturnsInHanded {} Try.checked os 3 .any (Rows.fnExactArithSpec.pre6 enc Try.prog Try.f3 Rows.fnExactArithRow.domain false) (Rows.fnExactArithSpec.post enc Try.prog Try.f3 false true false false) := by
  refine returnsInHanded_of_change (C := Try.checked) own started (by kernel_rfl) Try.func3
    (ChangeSpec.witness6 (enc := enc) (C := Try.checked) false ⟨#[], #[.int .i64 0, .agg #[.int .i64 0, .int .i64 0, .string ⟨#[]⟩], .agg #[.int .i64 0, .int .i64 0, .string ⟨#[]⟩]], []⟩ 8 (by kernel_rfl) (by kernel_rfl) (by kernel_rfl) (by kernel_rfl)) ?_
  intro W base args ds gs before hval0 hW hcnd _
  have hval : ∀ (j : Nat) t v, Try.f3.params[j]? = some t → args[j]? = some v → Value.okWide Try.prog W .any base t v := hval0
  have hW' := hW
  obtain ⟨p, q, hA0, hV, rfl, hfz, hnd⟩ := hW
  have hA : DataW.TrodAll enc Try.prog W 0 (fun _ => true) true Try.f3.params.toList args.toList ds p := hA0
  rw [Try.params3] at hA hval
  obtain ⟨v0, vs0, d0, ds0, p0, q0, hargs, rfl, rfl, h0, r0⟩ := trodAll_cons hA
  obtain ⟨v1, vs1, d1, ds1, p1, q1, rfl, rfl, rfl, h1, r1⟩ := trodAll_cons r0
  obtain ⟨v2, vs2, d2, ds2, p2, q2, rfl, rfl, rfl, h2, r2⟩ := trodAll_cons r1
  obtain ⟨rfl, rfl, rfl⟩ := trodAll_nil r2
  obtain rfl : args = #[v0, v1, v2] := by cases args; simp_all
  obtain ⟨rfl, rfl⟩ := trodVars_none hV
  have hlt1 : ∀ x ∈ p1, x.block < W.heap.size := fun x hx => hW'.lt x (by simp [hx])
  have hk1 := h1
  have hlt2 : ∀ x ∈ p2, x.block < W.heap.size := fun x hx => hW'.lt x (by simp [hx])
  have hk2 := h2
  obtain ⟨a0, rfl, rfl, rfl, w0⟩ := open_int Try.underlying3 (hval 0 3 v0 rfl rfl) h0
  obtain ⟨c0, c1, c2, y0, y1, y2, m, rfl, -, -, g0, g1, g2⟩ := Go.Joins.open_agg3 Try.underlying23 (by kernel_rfl) (by kernel_rfl) (hval 1 23 v1 rfl rfl) h1
  obtain ⟨t1, e0, -, wt1⟩ := DataW.trod_int Try.underlying3 g0
  obtain ⟨n1, e1, -, wn1⟩ := DataW.trod_int Try.underlying3 g1
  obtain ⟨s1, e2, -, w1⟩ := DataW.trod_string Try.underlying9 g2
  simp only [List.cons.injEq, and_true] at e0 e1 e2
  subst e0 e1 e2
  clear g0 g1 g2
  obtain ⟨c0, c1, c2, y0, y1, y2, m, rfl, -, -, g0, g1, g2⟩ := Go.Joins.open_agg3 Try.underlying23 (by kernel_rfl) (by kernel_rfl) (hval 2 23 v2 rfl rfl) h2
  obtain ⟨t2, e0, -, wt2⟩ := DataW.trod_int Try.underlying3 g0
  obtain ⟨n2, e1, -, wn2⟩ := DataW.trod_int Try.underlying3 g1
  obtain ⟨s2, e2, -, w2⟩ := DataW.trod_string Try.underlying9 g2
  simp only [List.cons.injEq, and_true] at e0 e1 e2
  subst e0 e1 e2
  clear g0 g1 g2
  clear hA0 hval0
  simp only [List.append_nil] at hW'
  refine (walk a0 t1 n1 s1 t2 n2 s2 w0 wt1 wn1 w1 wt2 wn2 w2 W).mono fun e W' ⟨he, hg⟩ => ?_
  subst he
  exact ⟨_, rfl, _, _, _, [], _, [], hW', (trodAll_cons_mk (shut_bool Try.underlying4 _) trodAll_mk0), (trodAll_cons_mk (shut_int Try.underlying3 w0) (trodAll_cons_mk (Below.trod laidOut (by kernel_rfl) (of_decide_eq_true (by kernel_rfl)) hk1 hg hlt1) (trodAll_cons_mk (Below.trod laidOut (by kernel_rfl) (of_decide_eq_true (by kernel_rfl)) hk2 hg hlt2) trodAll_mk0))), rfl, hg.frame _, fun h => by cases h⟩

theorem over : Rows.fnExactArithRow.holds Try.pinned (OpenSpec.ofChange Rows.fnExactArithSpec) :=
  OpenClaim.holds_of_wide 3 Try.f3 rfl rfl rfl rfl rfl rfl rfl ⟨rfl, rfl, rfl, rfl, rfl⟩ rfl rfl rfl rfl rfl (by kernel_rfl) Try.func3 (by kernel_rfl)
    (of_decide_eq_true (by kernel_rfl)) (by unfold Func.isWrapper; first | (rw [if_pos (by decide +kernel)]; kernel_rfl) | (rw [if_neg (by decide +kernel)]; exact ⟨rfl, rfl⟩))
    (fun os started H enc _ => lifted os started H enc)

theorem proved : Rows.FnExactArithSaid :=
  over
end Go.Proofs.Ytofinndkbjcgbaa.fnExactArith
