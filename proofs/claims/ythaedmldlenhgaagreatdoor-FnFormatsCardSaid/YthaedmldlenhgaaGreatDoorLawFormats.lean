/-
  For every list of bytes the law of formats returns true: a format wants as many values as it has places, and further ones change nothing.
-/
import Derived.Test.YthaedmldlenhgaaGreatDoorFrame
import Derived.ShutString
import Derived.Lib.SmallJoins
import Derived.Test.YthaedmldlenhgaaGreatDoorFormsAlive
import Derived.Test.YthaedmldlenhgaaGreatDoorDrawFmt
import Derived.Test.YthaedmldlenhgaaGreatDoorFmtLaw
import Derived.Shelf.Vars
namespace Go.Proofs.YthaedmldlenhgaaGreatDoor.fnFormats
open Go.ChangeShapes Go.WideShapes Go.ChangeAt Go.RowKit
open Go.ChangeMaps (open_string shut_string)
open Go.Proofs.YthaedmldlenhgaaGreatDoor.Seqs
open Go.Proofs.YthaedmldlenhgaaGreatDoor.Dec
open Go.Proofs.YthaedmldlenhgaaGreatDoor.DecPure
open Go.Proofs.YthaedmldlenhgaaGreatDoor.ReadPure
open Go.Proofs.YthaedmldlenhgaaGreatDoor.Strs
open Go.Proofs.YthaedmldlenhgaaGreatDoor.Draw
open Go.Proofs.YthaedmldlenhgaaGreatDoor.CellPure
open Go.Proofs.YthaedmldlenhgaaGreatDoor.Cell
open Go.Proofs.YthaedmldlenhgaaGreatDoor.Frame
set_option linter.unusedVariables false

set_option maxRecDepth 100000 in
set_option maxHeartbeats 2000000 in
theorem walk (A : Option Addr) (n cap : Nat) (Z : Nat → Int) (hn : n ≤ 9223372036854775807) (w : World) (hby : Bytes w w.heap.size A n Z) (htab : Go.Proofs.YthaedmldlenhgaaGreatDoor.Dec.Tables w) (hm : Go.Proofs.YthaedmldlenhgaaGreatDoor.Seqs.Held w) :
    Calls Tryz.prog 3 #[.slice A n cap] w fun e w' => e = .returned (.bool true) ∧ Below w.heap.size w w' := by
  have HT := Lib.hid htab; clear htab
  have HM := Lib.hid hm; clear hm
  have HBY := Lib.hid hby; clear hby
  go_enter Tryz.func3, Tryz.ntmps3
  go_wp2_with fail
  refine (draw_format w A n cap Z hn HBY.out).mono ?_
  rintro e w1 ⟨f, v, l, rfl, hf, hr, hl, hsz, hB⟩
  have hfz : f.size ≤ 1048576 := by omega
  have hl1 : l.length ≤ 1048576 := by omega
  have hsm : ∀ c ∈ l, c.s.size ≤ maxLen := fun c hc => by have := hsz c hc; unfold maxLen; omega
  have HR1 := Lib.hid hr; clear hr
  have HB1 := Lib.hid hB; clear hB
  have hsi : ∀ i, i < l.length → (nthC l i).s.size ≤ 1048576 := fun i hi => by
    have : nthC l i ∈ l := by simp only [nthC, List.getD, List.getElem?_eq_getElem hi, Option.getD_some]; exact List.getElem_mem _
    have := hsz _ this; omega
  have him := fun B v W hB hx hT hM => imp_format B f v l hfz hl1 hsi W hB hx hT hM
  have hsp := fun B v W hB hx => spec_format B f v l hfz hl1 hsi W hB hx
  have hpl := imp_places f hfz
  have hkd := imp_kinds f hfz
  have hks := kinds_size f
  have hnot := fmt_not (f := f) (l := l)
  have hmore := fmt_more (f := f) (l := l)
  have hag := fun v W hx hT hM => imp_format W.heap.size f v (l ++ [zeroC]) hfz (by rw [List.length_append, List.length_singleton]; omega) (fun i hi => by
    have hm : nthC (l ++ [zeroC]) i ∈ l ++ [zeroC] := by simp only [nthC, List.getD, List.getElem?_eq_getElem hi, Option.getD_some]; exact List.getElem_mem _
    have := ce_mem (c := zeroC) hsz (by decide) _ hm
    omega) W (Nat.le_refl _) hx hT hM
  generalize fmtP f l = p1 at *
  generalize placesP f = p2 at *
  obtain ⟨s, r⟩ := p1
  obtain ⟨pn, pb⟩ := p2
  generalize strOfNums (kindsP f) = ks at *
  unfold FmtEnd at him hsp hag
  unfold PlsEnd at hpl
  try simp only at hks
  try simp only at hnot
  try simp only at hmore
  subst hks
  have HIM := Lib.hid him; clear him
  have HSP := Lib.hid hsp; clear hsp
  have HPL := Lib.hid hpl; clear hpl
  have HKD := Lib.hid hkd; clear hkd
  have HAG := Lib.hid hag; clear hag
  obtain ⟨ao, cp, rfl⟩ := HR1.out.form
  go_wp2_with fail
  refine (HIM.out w1.heap.size _ w1 (Nat.le_refl _) (HR1.out.at hsm) (HT.out.below HB1.out) (HM.out.below HB1.out (Nat.le_refl _))).mono ?_
  rintro e w2 ⟨rfl, hB⟩
  have HR2 := Lib.hid (HR1.out.below hB (Nat.le_refl _))
  have HB2 := Lib.hid (HB1.out.trans (hB.mono HB1.out.size)); clear hB
  go_wp2_with fail
  refine (HSP.out w2.heap.size _ w2 (Nat.le_refl _) (HR2.out.at hsm)).mono ?_
  rintro e w3 ⟨rfl, hB⟩
  have HR3 := Lib.hid (HR2.out.below hB (Nat.le_refl _))
  have HB3 := Lib.hid (HB2.out.trans (hB.mono HB2.out.size)); clear hB
  go_wp2_with fail
  refine (HPL.out w3 (HM.out.below HB3.out (Nat.le_refl _))).mono ?_
  rintro e w4 ⟨rfl, hB⟩
  have HR4 := Lib.hid (HR3.out.below hB (Nat.le_refl _))
  have HB4 := Lib.hid (HB3.out.trans (hB.mono HB3.out.size)); clear hB
  go_wp2_with fail
  refine (HKD.out w4 (HM.out.below HB4.out (Nat.le_refl _))).mono ?_
  rintro e w5 ⟨rfl, hB⟩
  have HR5 := Lib.hid (HR4.out.below hB (Nat.le_refl _))
  have HB5 := Lib.hid (HB4.out.trans (hB.mono HB4.out.size)); clear hB
  by_cases hr0 : r = 0
  · subst hr0
    obtain ⟨hfm, hpn, hs5⟩ := hmore rfl
    clear hnot hmore
    have HFM := Lib.hid hfm; clear hfm
    have CE0 := Lib.hid (cr_empty w5)
    have CE1 := Lib.hid (HR5.out.alloc (.cells #[] 33))
    have hz5 := HB5.out.size
    have hl8 : 0 + l.length ≤ 10000000 := by omega
    go_wp2_with (at_builtin; first
      | (refine ce_append w5.heap.size w.heap.size (w5.alloc (.cells #[] 33)) _ _ [] l rfl _ _ rfl rfl rfl CE0.out CE1.out hl8 (by simp) ?_; intro v6 w6 hr6 hg6; obtain ⟨ao6, cp6, rfl⟩ := hr6.form; have hz6 : w5.heap.size ≤ w6.heap.size := Nat.le_trans (by simp) hg6.size)
      | (refine ce_push w5.heap.size _ _ ([] ++ l) 0 0 ⟨#[]⟩ rfl _ _ rfl rfl rfl hr6 (by rw [List.nil_append]; omega) hz6 ?_; intro v7 w7 hr7 hg7; rw [List.nil_append] at hr7))
    have hB6 : Below w.heap.size w w6 := ((HB5.out.alloc hz5 (.cells #[] 33))).grown hg6 (by simp; omega) (fun x hx => (CE0.out.lt x hx).1 |> Nat.le_trans hz5)
    have HB7 := Lib.hid (hB6.grown hg7 hB6.size (fun x hx => Nat.le_trans hz5 (hr6.lt x hx).1))
    have HR7 := Lib.hid hr7
    have hsm7 : ∀ c ∈ l ++ [zeroC], c.s.size ≤ maxLen := fun c hc => by have := ce_mem (c := zeroC) hsz (by decide) c hc; unfold maxLen; omega
    have HSM7 := Lib.hid hsm7
    obtain ⟨ao7, cp7, rfl⟩ := hr7.form
    clear hr6 hg6 hB6 hr7 hg7 hsm7
    refine (HAG.out _ w7 (HR7.out.at HSM7.out) (HT.out.below HB7.out) (HM.out.below HB7.out (Nat.le_refl _))).mono ?_
    rw [HFM.out]
    rintro e w8 ⟨rfl, hB⟩
    have HB8 := Lib.hid (HB7.out.trans (hB.mono HB7.out.size)); clear hB
    have hpi : (ks.size : Int) ≤ (l.length : Int) := by omega
    have hsi5 : (s.size : Int) ≤ 500 := by omega
    go_wp2_with fail
    refine (forms_alive w8 (HT.out.below HB8.out) (HM.out.below HB8.out (Nat.le_refl _))).mono ?_
    rintro e w9 ⟨rfl, hB⟩
    have HB9 := Lib.hid (HB8.out.trans (hB.mono HB8.out.size)); clear hB
    go_wp2_with fail
    go_ret
    exact ⟨rfl, HB9.out⟩
  · obtain ⟨hse, hpb⟩ := hnot hr0
    subst hse
    have hrb : (r != 0) = true := by simpa using hr0
    clear hnot hmore
    cases pb with
    | true =>
      go_wp2_with fail
      refine (forms_alive w5 (HT.out.below HB5.out) (HM.out.below HB5.out (Nat.le_refl _))).mono ?_
      rintro e w6 ⟨rfl, hB⟩
      have HB6 := Lib.hid (HB5.out.trans (hB.mono HB5.out.size)); clear hB
      go_wp2_with fail
      go_ret
      exact ⟨rfl, HB6.out⟩
    | false =>
      obtain rfl : r = 1 := by rcases hpb with h | h; cases h; exact h
      go_wp2_with fail
      refine (forms_alive w5 (HT.out.below HB5.out) (HM.out.below HB5.out (Nat.le_refl _))).mono ?_
      rintro e w6 ⟨rfl, hB⟩
      have HB6 := Lib.hid (HB5.out.trans (hB.mono HB5.out.size)); clear hB
      go_wp2_with fail
      go_ret
      exact ⟨rfl, HB6.out⟩


set_option maxRecDepth 100000 in
theorem contract (H : Type) (enc : TypeId × Value → H) (W : World) (base : Nat) (args : Array Value) (ds gs : List (DataW H)) (before : List MemPlace)
    (hval : ∀ (j : Nat) t v, Tryz.f3.params[j]? = some t → args[j]? = some v → Value.okWide Tryz.prog W .any base t v)
    (hW : DataW.Whole enc Tryz.prog Tryz.f3.params.toList Rows.fnFormatsSpec.vars false W args.toList ds gs before) (hL : laidMetH Tryz.prog Rows.fnFormatsRow.laid W) (hsh : W.ShapedOpen Tryz.prog) :
    Calls Tryz.prog 3 args W fun e W' => ∃ v, e = .returned v ∧ Rows.fnFormatsSpec.post enc Tryz.prog Tryz.f3 false true false false W args v W' := by
  have hHeld : Go.Proofs.YthaedmldlenhgaaGreatDoor.Seqs.Held W := by
    obtain ⟨m, hm⟩ := cell_of_shapedOpen_int (P := Tryz.prog) (g := 0) (t := 3) (zero := #[.int .i64 0]) (k := .i64) hsh (of_decide_eq_true (by kernel_rfl)) (by kernel_rfl) rfl (by kernel_rfl) (by kernel_rfl) Tryz.underlying3
    exact Go.Proofs.YthaedmldlenhgaaGreatDoor.Seqs.held_of hm
  have hW' := hW
  obtain ⟨p, q, hA0, hV, rfl, hfz, hnd⟩ := hW
  have hA : DataW.TrodAll enc Tryz.prog W 0 (fun _ => true) true Tryz.f3.params.toList args.toList ds p := hA0
  rw [Tryz.params3] at hA hval
  obtain ⟨v0, vs0, d0, ds0, p0, q0, hargs, rfl, rfl, h0, r0⟩ := trodAll_cons hA
  obtain ⟨rfl, rfl, rfl⟩ := trodAll_nil r0
  obtain rfl : args = #[v0] := by cases args; simp_all
  obtain ⟨rfl, rfl⟩ := trodVars_none hV
  have hlt0 : ∀ x ∈ p0, x.block < W.heap.size := fun x hx => hW'.lt x (by simp [hx])
  have hk0 := h0
  obtain ⟨a0, len, cap, rfl⟩ := okWide_slice Tryz.underlying22 (hval 0 22 v0 rfl rfl)
  obtain ⟨fuel0, hf⟩ := h0
  have hby : ∃ Z : Nat → Int, len ≤ 9223372036854775807 ∧ Bytes W W.heap.size a0 len Z := by
    rcases open_ints Tryz.underlying22 Tryz.underlying5 (by kernel_rfl : Tryz.prog.cellsOf 5 = 1) hf with ⟨hcs, hx⟩ | ⟨a, len', cap', zs, hcs, _, hl, hm, hz, hx, hcell, hwz⟩
    · simp [Value.cells] at hcs
      obtain ⟨rfl, rfl, rfl⟩ := hcs
      exact ⟨fun _ => 0, by omega, fun j hj => by omega⟩
    · simp [Value.cells] at hcs
      obtain ⟨rfl, rfl, rfl⟩ := hcs
      simp only [if_true] at hz
      unfold maxLen at hm
      refine ⟨fun j => zs.getD j 0, by omega, fun j hj => ?_⟩
      obtain ⟨b, off, rfl, hc⟩ := ints_at hcell (by omega)
      have h1 := hc j (by omega)
      have h2 := bounds_u8 (hwz (zs.getD j 0) (by simp [List.getD, List.getElem?_eq_getElem (show j < zs.length by omega)]))
      exact ⟨b, off, rfl, World.block_lt_of_cell? W ⟨b, off + j, none⟩ h1, h1, h2.1, h2.2⟩
  obtain ⟨Z, hn, hZ⟩ := hby
  clear hA0
  simp only [List.append_nil] at hW'
  refine (walk a0 len cap Z hn W hZ (tabs hL) hHeld).mono fun e W' ⟨he, hg⟩ => ?_
  subst he
  exact ⟨_, rfl, _, _, _, [], _, [], hW', trodAll_cons_mk (shut_bool Tryz.underlying4 _) trodAll_mk0, (trodAll_cons_mk (Below.trod laidOut (by kernel_rfl) (of_decide_eq_true (by kernel_rfl)) hk0 hg hlt0) trodAll_mk0), rfl, hg.frame _, fun h => by cases h⟩

theorem laid_met (os : Os) : laidMet Tryz.prog Rows.fnFormatsRow.laid ((laidWorld os).forCall (fun _ _ => 0) ⟨#[], #[.slice none 0 0], []⟩).memory :=
  laidMet_of_run' 80 (by kernel_rfl) (by kernel_rfl)
theorem reads (os : Os) {H : Type} (enc : TypeId × Value → H) : ∃ places, DataW.whole enc Tryz.prog ((laidWorld os).forCall (fun _ _ => 0) ⟨#[], #[.slice none 0 0], []⟩).memory Tryz.f3.params.toList Rows.fnFormatsSpec.vars false (#[.slice none 0 0] : Array Value).toList 8 = some ([.nil], [], places) :=
  ⟨[], by kernel_rfl⟩

set_option maxRecDepth 100000 in
theorem lifted (os : Os) (started : os.Started) (H : Type) (enc : TypeId × Value → H) (F : Stop.Interp) :
    ReturnsInHanded {} Tryz.checked os 3 .any ((OpenSpec.ofChange Rows.fnFormatsSpec).preRow enc Tryz.prog Tryz.f3 Rows.fnFormatsRow.domain false Rows.fnFormatsRow.laid) (((OpenSpec.ofChange Rows.fnFormatsSpec).at F).post enc Tryz.prog Tryz.f3 false true false false) := by
  obtain ⟨places, hx⟩ := reads os enc
  refine returnsInHanded_of_row (C := Tryz.checked) (s := OpenSpec.ofChange Rows.fnFormatsSpec) own started (by kernel_rfl) Tryz.func3
    (witness_row_at (enc := enc) (C := Tryz.checked) false (laidWorld os) #[.slice none 0 0] rfl (by kernel_rfl) (by kernel_rfl) (by kernel_rfl)
      (OpenSpec.preRow_of_cond 8 hx (by kernel_rfl) (fun k hk => by cases hk) (by kernel_rfl) (laid_met os))) ?_
  intro W base args ds gs before hval hW _ _ _ hL hsh _
  exact contract H enc W base args ds gs before hval hW hL hsh

theorem said : Rows.FnFormatsSaid :=
  OpenClaim.holds_of_cond 3 Tryz.f3 rfl rfl rfl rfl rfl rfl rfl ⟨rfl, rfl, rfl, rfl, rfl⟩ rfl rfl rfl rfl rfl (by kernel_rfl) Tryz.func3 (by kernel_rfl)
    (of_decide_eq_true (by kernel_rfl)) (by unfold Func.isWrapper; first | (rw [if_pos (by decide +kernel)]; kernel_rfl) | (rw [if_neg (by decide +kernel)]; exact ⟨rfl, rfl⟩))
    (fun os started H enc _ F => by rw [OpenClaim.pre_eq_preRow]; exact lifted os started H enc F)

theorem plain (f : FuncId) (fn : Func) (hf : Tryz.pinned.checked.prog.funcNamed "loop.example/g00700/laws.FnFormats" = some f) (hfn : Tryz.pinned.checked.prog.funcs[f]? = some fn) :
    true = Tryz.pinned.checked.prog.looks [] ∧ ∀ (j : Nat) t, fn.params[j]? = some t → Tryz.pinned.checked.prog.wantsStandIn t = false := by
  obtain rfl : f = 3 := Option.some.inj ((show Tryz.prog.funcNamed "loop.example/g00700/laws.FnFormats" = some 3 by kernel_rfl).symm.trans hf) |>.symm
  obtain rfl : fn = Tryz.f3 := (Option.some.inj (Tryz.func3.symm.trans hfn)).symm
  refine ⟨by kernel_rfl, fun j t ht => ?_⟩
  rw [Tryz.params3] at ht
  obtain rfl : t = 22 := by simpa using Array.mem_of_getElem? ht
  exact (show Tryz.prog.wantsStandIn 22 = false by kernel_rfl)

theorem card : Rows.FnFormatsCardSaid :=
  Claim7.holds_tied_plain_at .later [] _ _ _ _ said (fun _ h => by cases h) (by kernel_rfl) (fun _ h => by cases h) fnFormats_row_tie rfl ⟨rfl, rfl⟩ (by kernel_rfl) rfl plain (by kernel_rfl)
end Go.Proofs.YthaedmldlenhgaaGreatDoor.fnFormats
