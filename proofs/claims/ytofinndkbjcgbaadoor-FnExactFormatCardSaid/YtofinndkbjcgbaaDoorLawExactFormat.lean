/-
  For every format and every list of values the exact law of Format returns true: the program's function answers as its model does.
-/
import Derived.Test.YtofinndkbjcgbaaDoorFrame
import Derived.ShutString
import Derived.Lib.SmallJoins
import Derived.Test.YtofinndkbjcgbaaDoorFormatSpec
import Derived.Test.YtofinndkbjcgbaaDoorCellRow
import Derived.Test.YtofinndkbjcgbaaDoorFmtForm
import Derived.Shelf.Vars
namespace Go.Proofs.YtofinndkbjcgbaaDoor.fnExactFormat
open Go.ChangeShapes Go.WideShapes Go.ChangeAt Go.RowKit
open Go.ChangeMaps (open_string shut_string)
open Go.Proofs.YtofinndkbjcgbaaDoor.Seqs
open Go.Proofs.YtofinndkbjcgbaaDoor.Dec
open Go.Proofs.YtofinndkbjcgbaaDoor.DecPure
open Go.Proofs.YtofinndkbjcgbaaDoor.ReadPure
open Go.Proofs.YtofinndkbjcgbaaDoor.Strs
open Go.Proofs.YtofinndkbjcgbaaDoor.PgPure
open Go.Proofs.YtofinndkbjcgbaaDoor.Pg
open Go.Proofs.YtofinndkbjcgbaaDoor.CellPure
open Go.Proofs.YtofinndkbjcgbaaDoor.Cell
open Go.Proofs.YtofinndkbjcgbaaDoor.Frame
set_option linter.unusedVariables false

set_option maxRecDepth 100000 in
set_option maxHeartbeats 2000000 in
theorem walk (a0 : ByteArray) (v1 : Value) (l1 : List Ce) (w0 : a0.size ≤ maxLen) (w : World) (w1 : CsAt w.heap.size w v1 l1) (htab : Go.Proofs.YtofinndkbjcgbaaDoor.Dec.Tables w) (hm : Go.Proofs.YtofinndkbjcgbaaDoor.Seqs.Held w) :
    Calls Tryd.prog 4 #[.string a0, v1] w fun e w' => e = .returned (.bool true) ∧ Below w.heap.size w w' := by
  by_cases hc0 : (1048576 : Int) < (a0.size : Int)
  · go_enter Tryd.func4, Tryd.ntmps4
    go_wp2_with fail
    go_ret
    exact ⟨rfl, Below.refl _ _⟩
  have hz0 : a0.size ≤ 1048576 := by omega
  have HT := Lib.hid htab; clear htab
  have HM := Lib.hid hm; clear hm
  have HW := Lib.hid w1; clear w1
  go_enter Tryd.func4, Tryd.ntmps4
  go_wp2_with fail
  refine (sz_cs w.heap.size v1 l1 1048576 w (Nat.le_refl _) HW.out (by omega) (by omega)).mono ?_
  rintro e w1 ⟨rfl, hB⟩
  have HB1 := Lib.hid hB; clear hB
  by_cases hT : (totC l1 l1.length : Int) ≤ 1048576
  · rw [szR_pos hT]
    have hl := totC_ge l1 l1.length
    have hl1 : l1.length ≤ 1048576 := by omega
    have hsz : ∀ i, i < l1.length → (nthC l1 i).s.size ≤ 1048576 := fun i hi => by have := totC_at l1 hi; omega
    have HSZ := Lib.hid hsz; clear hsz
    have hsp := fun B v W hB hx => spec_format B a0 v l1 hz0 hl1 HSZ.out W hB hx
    have him := fun B v W hB hx hT hM => imp_format B a0 v l1 hz0 hl1 HSZ.out W hB hx hT hM
    rcases fmtP a0 l1 with ⟨rs, rk⟩
    unfold FmtEnd at hsp him
    try simp only at hsp him
    have HSP := Lib.hid hsp; clear hsp
    have HIM := Lib.hid him; clear him
    have hml : l1.length ≤ maxLen := by unfold maxLen; omega
    have hz1 : ¬ (1048576 : Int) - (totC l1 l1.length : Int) < 0 := by omega
    go_wp2_with fail
    refine (to_cs w.heap.size v1 l1 w1 HB1.out.size (HW.out.below HB1.out (Nat.le_refl _)) hl1).mono ?_
    rintro e w2 ⟨rfl, r2, hB⟩
    have HR2 := Lib.hid r2
    have HB2 := Lib.hid (HB1.out.trans (hB.mono HB1.out.size)); clear r2 hB
    go_wp2_with fail
    refine (HSP.out w2.heap.size _ w2 (Nat.le_refl _) (own_cs HR2.out hml)).mono ?_
    rintro e w3 ⟨rfl, hB⟩
    have HB3 := Lib.hid (HB2.out.trans (hB.mono HB2.out.size)); clear hB
    go_wp2_with fail
    refine (to_cs w.heap.size v1 l1 w3 HB3.out.size (HW.out.below HB3.out (Nat.le_refl _)) hl1).mono ?_
    rintro e w4 ⟨rfl, r4, hB⟩
    have HR4 := Lib.hid r4
    have HB4 := Lib.hid (HB3.out.trans (hB.mono HB3.out.size)); clear r4 hB
    go_wp2_with fail
    refine (HIM.out w4.heap.size _ w4 (Nat.le_refl _) (own_cs HR4.out hml) (HT.out.below HB4.out) (HM.out.below HB4.out (Nat.le_refl _))).mono ?_
    rintro e w5 ⟨rfl, hB⟩
    have HR5 := Lib.hid (HR4.out.below hB)
    have HB5 := Lib.hid (HB4.out.trans (hB.mono HB4.out.size)); clear hB
    go_wp2_with fail
    refine (to_cs w.heap.size v1 l1 w5 HB5.out.size (HW.out.below HB5.out (Nat.le_refl _)) hl1).mono ?_
    rintro e w6 ⟨rfl, r6, hB⟩
    have HR6 := Lib.hid r6
    have HR5b := Lib.hid (HR5.out.below hB)
    have HB6 := Lib.hid (HB5.out.trans (hB.mono HB5.out.size)); clear r6 hB
    go_wp2_with fail
    refine (eq_cs w6.heap.size _ _ l1 w6 (Nat.le_refl _) (own_cs HR5b.out hml) (own_cs HR6.out hml)).mono ?_
    rintro e w7 ⟨rfl, hB⟩
    have HB7 := Lib.hid (HB6.out.trans (hB.mono HB6.out.size)); clear hB
    go_wp2_with fail
    go_ret
    exact ⟨rfl, HB7.out⟩
  · rw [szR_neg hT]
    have hz1 : (1048576 : Int) - (totC l1 l1.length : Int) < 0 := by omega
    go_wp2_with fail
    go_ret
    exact ⟨rfl, HB1.out⟩


set_option maxRecDepth 100000 in
theorem contract (H : Type) (enc : TypeId × Value → H) (W : World) (base : Nat) (args : Array Value) (ds gs : List (DataW H)) (before : List MemPlace)
    (hval : ∀ (j : Nat) t v, Tryd.f4.params[j]? = some t → args[j]? = some v → Value.okWide Tryd.prog W .any base t v)
    (hW : DataW.Whole enc Tryd.prog Tryd.f4.params.toList Rows.fnExactFormatSpec.vars false W args.toList ds gs before) (hL : laidMetH Tryd.prog Rows.fnExactFormatRow.laid W) (hsh : W.ShapedOpen Tryd.prog) :
    Calls Tryd.prog 4 args W fun e W' => ∃ v, e = .returned v ∧ Rows.fnExactFormatSpec.post enc Tryd.prog Tryd.f4 false true false false W args v W' := by
  have hHeld : Go.Proofs.YtofinndkbjcgbaaDoor.Seqs.Held W := by
    obtain ⟨m, hm⟩ := cell_of_shapedOpen_int (P := Tryd.prog) (g := 0) (t := 3) (zero := #[.int .i64 0]) (k := .i64) hsh (of_decide_eq_true (by kernel_rfl)) (by kernel_rfl) rfl (by kernel_rfl) (by kernel_rfl) Tryd.underlying3
    exact Go.Proofs.YtofinndkbjcgbaaDoor.Seqs.held_of hm
  have hW' := hW
  obtain ⟨p, q, hA0, hV, rfl, hfz, hnd⟩ := hW
  have hA : DataW.TrodAll enc Tryd.prog W 0 (fun _ => true) true Tryd.f4.params.toList args.toList ds p := hA0
  rw [Tryd.params4] at hA hval
  obtain ⟨v0, vs0, d0, ds0, p0, q0, hargs, rfl, rfl, h0, r0⟩ := trodAll_cons hA
  obtain ⟨v1, vs1, d1, ds1, p1, q1, rfl, rfl, rfl, h1, r1⟩ := trodAll_cons r0
  obtain ⟨rfl, rfl, rfl⟩ := trodAll_nil r1
  obtain rfl : args = #[v0, v1] := by cases args; simp_all
  obtain ⟨rfl, rfl⟩ := trodVars_none hV
  have hlt1 : ∀ x ∈ p1, x.block < W.heap.size := fun x hx => hW'.lt x (by simp [hx])
  have hk1 := h1
  obtain ⟨a0, rfl, rfl, rfl, w0⟩ := open_string Tryd.underlying9 (hval 0 9 v0 rfl rfl) h0
  obtain ⟨so1, sl1, sc1, rfl⟩ := okWide_slice Tryd.underlying25 (hval 1 25 v1 rfl rfl)
  obtain ⟨fuel1, hf1⟩ := h1
  obtain ⟨u1, l1, hcs, w1⟩ := cells_open hf1
  simp [Value.cells] at hcs
  subst hcs
  clear hf1
  clear hA0
  simp only [List.append_nil] at hW'
  refine (walk a0 _ l1 w0 W w1 (tabs hL) hHeld).mono fun e W' ⟨he, hg⟩ => ?_
  subst he
  exact ⟨_, rfl, _, _, _, [], _, [], hW', trodAll_cons_mk (shut_bool Tryd.underlying4 _) trodAll_mk0, (trodAll_cons_mk (shut_string Tryd.underlying9 w0) (trodAll_cons_mk (Below.trod laidOut (by kernel_rfl) (of_decide_eq_true (by kernel_rfl)) hk1 hg hlt1) trodAll_mk0)), rfl, hg.frame _, fun h => by cases h⟩

theorem laid_met (os : Os) : laidMet Tryd.prog Rows.fnExactFormatRow.laid ((laidWorld os).forCall (fun _ _ => 0) ⟨#[], #[.string ⟨#[]⟩, .slice none 0 0], []⟩).memory :=
  laidMet_of_run' 80 (by kernel_rfl) (by kernel_rfl)
theorem reads (os : Os) {H : Type} (enc : TypeId × Value → H) : ∃ places, DataW.whole enc Tryd.prog ((laidWorld os).forCall (fun _ _ => 0) ⟨#[], #[.string ⟨#[]⟩, .slice none 0 0], []⟩).memory Tryd.f4.params.toList Rows.fnExactFormatSpec.vars false (#[.string ⟨#[]⟩, .slice none 0 0] : Array Value).toList 8 = some ([.lit (.string []), .nil], [], places) :=
  ⟨[], by kernel_rfl⟩

set_option maxRecDepth 100000 in
theorem lifted (os : Os) (started : os.Started) (H : Type) (enc : TypeId × Value → H) (F : Stop.Interp) :
    ReturnsInHanded {} Tryd.checked os 4 .any ((OpenSpec.ofChange Rows.fnExactFormatSpec).preRow enc Tryd.prog Tryd.f4 Rows.fnExactFormatRow.domain false Rows.fnExactFormatRow.laid) (((OpenSpec.ofChange Rows.fnExactFormatSpec).at F).post enc Tryd.prog Tryd.f4 false true false false) := by
  obtain ⟨places, hx⟩ := reads os enc
  refine returnsInHanded_of_row (C := Tryd.checked) (s := OpenSpec.ofChange Rows.fnExactFormatSpec) own started (by kernel_rfl) Tryd.func4
    (witness_row_at (enc := enc) (C := Tryd.checked) false (laidWorld os) #[.string ⟨#[]⟩, .slice none 0 0] rfl (by kernel_rfl) (by kernel_rfl) (by kernel_rfl)
      (OpenSpec.preRow_of_cond 8 hx (by kernel_rfl) (fun k hk => by cases hk) (by kernel_rfl) (laid_met os))) ?_
  intro W base args ds gs before hval hW _ _ _ hL hsh _
  exact contract H enc W base args ds gs before hval hW hL hsh

theorem said : Rows.FnExactFormatSaid :=
  OpenClaim.holds_of_cond 4 Tryd.f4 rfl rfl rfl rfl rfl rfl rfl ⟨rfl, rfl, rfl, rfl, rfl⟩ rfl rfl rfl rfl rfl (by kernel_rfl) Tryd.func4 (by kernel_rfl)
    (of_decide_eq_true (by kernel_rfl)) (by unfold Func.isWrapper; first | (rw [if_pos (by decide +kernel)]; kernel_rfl) | (rw [if_neg (by decide +kernel)]; exact ⟨rfl, rfl⟩))
    (fun os started H enc _ F => by rw [OpenClaim.pre_eq_preRow]; exact lifted os started H enc F)

theorem plain (f : FuncId) (fn : Func) (hf : Tryd.pinned.checked.prog.funcNamed "loop.example/g00700/laws.FnExactFormat" = some f) (hfn : Tryd.pinned.checked.prog.funcs[f]? = some fn) :
    false = Tryd.pinned.checked.prog.looks [] ∧ ∀ (j : Nat) t, fn.params[j]? = some t → Tryd.pinned.checked.prog.wantsStandIn t = false := by
  obtain rfl : f = 4 := Option.some.inj ((show Tryd.prog.funcNamed "loop.example/g00700/laws.FnExactFormat" = some 4 by kernel_rfl).symm.trans hf) |>.symm
  obtain rfl : fn = Tryd.f4 := (Option.some.inj (Tryd.func4.symm.trans hfn)).symm
  refine ⟨by kernel_rfl, fun j t ht => ?_⟩
  rw [Tryd.params4] at ht
  have hm : t = 9 ∨ t = 25 := by simpa using Array.mem_of_getElem? ht
  rcases hm with rfl | rfl
  · exact (show Tryd.prog.wantsStandIn 9 = false by kernel_rfl)
  · exact (show Tryd.prog.wantsStandIn 25 = false by kernel_rfl)

theorem card : Rows.FnExactFormatCardSaid :=
  Claim7.holds_tied_plain_at .later [] _ _ _ _ said (fun _ h => by cases h) (by kernel_rfl) (fun _ h => by cases h) fnExactFormat_row_tie rfl ⟨rfl, rfl⟩ (by kernel_rfl) rfl plain (by kernel_rfl)
end Go.Proofs.YtofinndkbjcgbaaDoor.fnExactFormat
