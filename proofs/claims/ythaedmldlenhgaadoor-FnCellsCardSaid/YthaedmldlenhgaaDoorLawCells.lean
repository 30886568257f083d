/-
  For every list of bytes the law of values from outside returns true: a text from outside is a number just where it looks like one; a number comes back from its text.
-/
import Derived.Test.YthaedmldlenhgaaDoorFrame
import Derived.Test.YthaedmldlenhgaaDoorCellsAlive
import Derived.Test.YthaedmldlenhgaaDoorDrawCell
import Derived.Test.YthaedmldlenhgaaDoorTables
import Derived.Test.YthaedmldlenhgaaDoorDrawFields
import Derived.Deep.RegionHeld3
import Derived.Shelf.Vars
namespace Go.Proofs.YthaedmldlenhgaaDoor.fnCells
open Go.ChangeShapes Go.WideShapes Go.ChangeAt Go.RowKit
open Go.PlainAid
open Go.Proofs.YthaedmldlenhgaaDoor.Dec
open Go.Proofs.YthaedmldlenhgaaDoor.DecPure
open Go.Proofs.YthaedmldlenhgaaDoor.TextPure
open Go.Proofs.YthaedmldlenhgaaDoor.ReadPure
open Go.Proofs.YthaedmldlenhgaaDoor.CellPure
open Go.Proofs.YthaedmldlenhgaaDoor.SubPure
open Go.Proofs.YthaedmldlenhgaaDoor.Cell
open Go.Proofs.YthaedmldlenhgaaDoor.Draw
open Go.Proofs.YthaedmldlenhgaaDoor.Frame
set_option linter.unusedVariables false

set_option maxRecDepth 100000 in
set_option maxHeartbeats 4000000 in
theorem walk (A : Option Addr) (n cap : Nat) (Z : Nat → Int) (hn : n ≤ 9223372036854775807) (w : World) (hby : Bytes w w.heap.size A n Z) (htab : Go.Proofs.YthaedmldlenhgaaDoor.Dec.Tables w) (hm : Held w) :
    Calls Tryd.prog 3 #[.slice A n cap] w fun e w' => e = .returned (.bool true) ∧ Below w.heap.size w w' := by
  have HT := Lib.hid htab; clear htab
  have HM := Lib.hid hm; clear hm
  have HB0 := Lib.hid (Below.refl w.heap.size w)
  have hal : ∀ W, Go.Proofs.YthaedmldlenhgaaDoor.Dec.Tables W → Held W → Calls Tryd.prog 7 #[] W fun e w' => e = .returned (.bool true) ∧ Below W.heap.size W w' := fun W hW hH => cells_alive W hW hH
  have HAL := Lib.hid hal; clear hal
  have HD := Lib.hid (drawFieldCell w A n cap Z hn hby); clear hby
  go_enter Tryd.func3, Tryd.ntmps3
  go_wp2_with fail
  refine HD.out.mono ?_
  rintro e w1 ⟨s, rfl, hs, hB⟩
  have HB1 := Lib.hid (HB0.out.trans (hB.mono HB0.out.size)); clear hB
  by_cases hz : 500 < s.size
  · obtain ⟨e1, e2, e3⟩ := f_big hz
    have hfc : ∀ W, Calls Tryd.prog 6 #[.string s] W fun e w' => e = .returned (cel 0 0 ⟨#[]⟩) ∧ Below W.heap.size W w' := fun W => by have := impl_field s (by omega) W; rw [e1, e2, e3] at this; exact this
    have HF := Lib.hid hfc; clear hfc e1 e2 e3
    have hzi : (500 : Int) < (s.size : Int) := by omega
    have heq : ∀ W, (Op.equalIn 10000 25 (.agg #[.int .i64 0, .int .i64 0, .string ⟨#[]⟩]) (.agg #[.int .i64 0, .int .i64 0, .string ⟨#[]⟩])).run Tryd.prog W = .ok true W := fun W => by
      rw [eq_cells, show cellsSame 0 0 ⟨#[]⟩ 0 0 ⟨#[]⟩ = true from decide_eq_true ⟨rfl, rfl, rfl⟩]
    have hgu := eq_guard
    go_wp2_with fail
    refine (HF.out _).mono ?_
    rintro e w2 ⟨rfl, hB⟩
    have hB2 := HB1.out.trans (hB.mono HB1.out.size)
    have HB2 := Lib.hid (hB2.alloc hB2.size (.cells #[.int .i64 0, .int .i64 0, .string ⟨#[]⟩] 25)); clear hB hB2
    go_wp2_with fail
    refine (HAL.out _ (HT.out.below HB2.out) (HM.out.below HB2.out)).mono ?_
    rintro e w3 ⟨rfl, hB⟩
    have HB3 := Lib.hid (HB2.out.trans (hB.mono HB2.out.size)); clear hB
    go_wp2_with fail
    go_ret
    exact ⟨rfl, HB3.out⟩
  · have hzi : ¬ (500 : Int) < (s.size : Int) := by omega
    have hzn : decide (500 < s.size) = false := by simpa using hz
    have hz5 : s.size ≤ 500 := by omega
    have hm5 : s.size ≤ maxLen := by unfold maxLen; omega
    obtain ⟨g1, g2, g3, g4⟩ := f_facts hz5
    have hsz := fS_size s
    have hfc := fun W => impl_field s (by omega) W
    have hok : ∀ W, Calls Tryd.prog 10 #[cel (fT s) (fN s) (fS s)] W fun e w' => e = .returned (.bool true) ∧ Below W.heap.size W w' := fun W => by have := impl_cellOk (fT s) (fN s) (fS s) (by omega) W; rw [g1] at this; exact this
    have hst : ∀ W, Go.Proofs.YthaedmldlenhgaaDoor.Dec.Tables W → Calls Tryd.prog 11 #[cel (fT s) (fN s) (fS s)] W fun e w' => e = .returned (.string s) ∧ Below W.heap.size W w' := fun W hW => by have := impl_toStr (fT s) (fN s) (fS s) (by omega) W hW; rw [g2] at this; exact this
    have hnu : ∀ W, Calls Tryd.prog 12 #[cel (fT s) (fN s) (fS s)] W fun e w' => e = .returned (.int .i64 (rdN s)) ∧ Below W.heap.size W w' := fun W => by have := impl_toNum (fT s) (fN s) (fS s) (by omega) W; rw [g3] at this; exact this
    have hlo : ∀ W, Calls Tryd.prog 13 #[.string s] W fun e w' => e = .returned (.bool (looksB s)) ∧ W = w' := fun W => spec_looks s hm5 W
    have hrd : ∀ W, Calls Tryd.prog 8 #[.string s] W fun e w' => e = .returned (.tuple #[.int .i64 (rdN s), .int .i64 (rdK s)]) ∧ W = w' := fun W => spec_readDec s hm5 W
    have hno := rdN_ok s
    rw [← g4] at hlo
    obtain ⟨d1, d2⟩ := dt_back hno
    have hdz := dt_size (rdN s)
    have hdt := fun W => spec_text (rdN s) W
    obtain ⟨i1, i2, i3⟩ := f_num (s := dtB (rdN s)) (by omega) d2
    rw [d1] at i2
    have hfd : ∀ W, Calls Tryd.prog 6 #[.string (dtB (rdN s))] W fun e w' => e = .returned (cel 3 (rdN s) (dtB (rdN s))) ∧ Below W.heap.size W w' := fun W => by have := impl_field (dtB (rdN s)) (by omega) W; rw [i1, i2, i3] at this; exact this
    have hnd : ∀ W, Calls Tryd.prog 12 #[cel 3 (rdN s) (dtB (rdN s))] W fun e w' => e = .returned (.int .i64 (rdN s)) ∧ Below W.heap.size W w' := fun W => by
      have h := (f_facts (s := dtB (rdN s)) (by omega)).2.2.1
      rw [i1, i2, i3, d1] at h
      have := impl_toNum 3 (rdN s) (dtB (rdN s)) (by omega) W
      rw [h] at this; exact this
    clear g1 g2 g3 g4 d1 d2 i1 i2 i3 hno hdz
    generalize fT s = ft at *
    generalize fN s = fn at *
    generalize fS s = fs at *
    generalize dtB (rdN s) = d at *
    generalize rdN s = nn at *
    generalize rdK s = kk at *
    have HFC := Lib.hid hfc; clear hfc
    have HOK := Lib.hid hok; clear hok
    have HST := Lib.hid hst; clear hst
    have HNU := Lib.hid hnu; clear hnu
    have HLO := Lib.hid hlo; clear hlo
    have HRD := Lib.hid hrd; clear hrd
    have HDT := Lib.hid hdt; clear hdt
    have HFD := Lib.hid hfd; clear hfd
    have HND := Lib.hid hnd; clear hnd
    go_wp2_with fail
    refine (HFC.out _).mono ?_
    rintro e w2 ⟨rfl, hB⟩
    have HX2 := Lib.hid (CB.new w2 (.int .i64 ft) (.int .i64 fn) (.string fs))
    have hB2 := HB1.out.trans (hB.mono HB1.out.size)
    have HB2 := Lib.hid (hB2.alloc hB2.size (.cells #[.int .i64 ft, .int .i64 fn, .string fs] 25)); clear hB hB2
    go_wp2_with fail
    generalize w2.alloc (.cells #[.int .i64 ft, .int .i64 fn, .string fs] 25) = v2 at *
    generalize w2.heap.size = gc at *
    refine (HRD.out _).mono ?_
    rintro e w' ⟨rfl, rfl⟩
    go_wp2_with fail
    refine (HDT.out _).mono ?_
    rintro e w3 ⟨rfl, hB⟩
    have HX3 := Lib.hid (HX2.out.next hB)
    have HB3 := Lib.hid (HB2.out.trans (hB.mono HB2.out.size)); clear hB
    go_wp2_with fail
    refine (HFD.out _).mono ?_
    rintro e w4 ⟨rfl, hB⟩
    have hx4 := HX3.out.next hB
    have HX4 := Lib.hid (hx4.keep ((Below.refl w4.heap.size w4).alloc (Nat.le_refl _) (.cells #[.int .i64 3, .int .i64 nn, .string d] 25)) hx4.lt); clear hx4
    have HY4 := Lib.hid (CB.new w4 (.int .i64 3) (.int .i64 nn) (.string d))
    have hB4 := HB3.out.trans (hB.mono HB3.out.size)
    have HB4 := Lib.hid (hB4.alloc hB4.size (.cells #[.int .i64 3, .int .i64 nn, .string d] 25)); clear hB hB4
    go_wp2_with fail
    generalize w4.alloc (.cells #[.int .i64 3, .int .i64 nn, .string d] 25) = w5 at *
    generalize w4.heap.size = gd at *
    have HB5 := Lib.hid HB4.out
    obtain ⟨a0, a1, a2⟩ := HX4.out.cells
    obtain ⟨b0, b1, b2⟩ := HY4.out.cells
    have la := HX4.out.lt
    have lb := HY4.out.lt
    have hD : Below w5.heap.size w5 w5.drew := (Below.refl _ _).drew
    have hk : ∀ w', Below w5.heap.size w5 w' → Below w5.heap.size w5 w' ∧ w'.cell? ⟨gc, 0, none⟩ = some (.int .i64 ft) ∧ w'.cell? ⟨gc, 1, none⟩ = some (.int .i64 fn) ∧ w'.cell? ⟨gc, 2, none⟩ = some (.string fs) ∧ w'.cell? ⟨gd, 0, none⟩ = some (.int .i64 3) ∧ w'.cell? ⟨gd, 1, none⟩ = some (.int .i64 nn) ∧ w'.cell? ⟨gd, 2, none⟩ = some (.string d) := fun w' h => ⟨h, (h.cell (p := ⟨gc, 0, none⟩) la).trans a0, (h.cell (p := ⟨gc, 1, none⟩) la).trans a1, (h.cell (p := ⟨gc, 2, none⟩) la).trans a2, (h.cell (p := ⟨gd, 0, none⟩) lb).trans b0, (h.cell (p := ⟨gd, 1, none⟩) lb).trans b1, (h.cell (p := ⟨gd, 2, none⟩) lb).trans b2⟩
    have HK := Lib.hid hk; clear hk
    go_region_held3 (fun w' => Below w5.heap.size w5 w' ∧ w'.cell? ⟨gc, 0, none⟩ = some (.int .i64 ft) ∧ w'.cell? ⟨gc, 1, none⟩ = some (.int .i64 fn) ∧ w'.cell? ⟨gc, 2, none⟩ = some (.string fs) ∧ w'.cell? ⟨gd, 0, none⟩ = some (.int .i64 3) ∧ w'.cell? ⟨gd, 1, none⟩ = some (.int .i64 nn) ∧ w'.cell? ⟨gd, 2, none⟩ = some (.string d))
      (first | exact HK.out _ hD | exact HK.out _ hwx0 | exact HK.out _ hwx1 | exact HK.out _ hwx2 | exact HK.out _ hwx4 | exact HK.out _ hwx5)
      (first
        | (go_at_call 10; refine (HOK.out w5.drew).mono ?_; rintro e wx0 ⟨rfl, hB⟩; have hwx0 : Below w5.heap.size w5 wx0 := below_go hD hB; clear hB)
        | (go_at_call 11; refine (HST.out wx0 (HT.out.below (HB5.out.trans (hwx0.mono HB5.out.size)))).mono ?_; rintro e wx1 ⟨rfl, hB⟩; have hwx1 : Below w5.heap.size w5 wx1 := below_go hwx0 hB; clear hB)
        | (go_at_call_of 12 (Value.agg #[Value.int IntKind.i64 ft, Value.int IntKind.i64 fn, Value.string fs]); refine (HNU.out wx1).mono ?_; rintro e wx2 ⟨rfl, hB⟩; have hwx2 : Below w5.heap.size w5 wx2 := below_go hwx1 hB; clear hB)
        | (go_at_call 13; refine (HLO.out wx2).mono ?_; rintro e w' ⟨rfl, rfl⟩)
        | (go_at_call_of 12 (Value.agg #[Value.int IntKind.i64 3, Value.int IntKind.i64 nn, Value.string d]); refine (HND.out wx2).mono ?_; rintro e wx4 ⟨rfl, hB⟩; have hwx4 : Below w5.heap.size w5 wx4 := below_go hwx2 hB; clear hB)
        | (go_at_call 7; refine (HAL.out wx4 (HT.out.below (HB5.out.trans (hwx4.mono HB5.out.size))) (HM.out.below (HB5.out.trans (hwx4.mono HB5.out.size)))).mono ?_; rintro e wx5 ⟨rfl, hB⟩; have hwx5 : Below w5.heap.size w5 wx5 := below_go hwx4 hB; clear hB)
      )
    have HBf := Lib.hid (HB5.out.trans (hwx5.mono HB5.out.size))
    go_wp2_with fail
    go_ret
    exact ⟨rfl, HBf.out⟩


set_option maxRecDepth 100000 in
theorem contract (H : Type) (enc : TypeId × Value → H) (W : World) (base : Nat) (args : Array Value) (ds gs : List (DataW H)) (before : List MemPlace)
    (hval : ∀ (j : Nat) t v, Tryd.f3.params[j]? = some t → args[j]? = some v → Value.okWide Tryd.prog W .any base t v)
    (hW : DataW.Whole enc Tryd.prog Tryd.f3.params.toList Rows.fnCellsSpec.vars false W args.toList ds gs before) (hL : laidMetH Tryd.prog Rows.fnCellsRow.laid W) (hsh : W.ShapedOpen Tryd.prog) :
    Calls Tryd.prog 3 args W fun e W' => ∃ v, e = .returned v ∧ Rows.fnCellsSpec.post enc Tryd.prog Tryd.f3 false true false false W args v W' := by
  have hHeld : Held W := cell_of_shapedOpen_int (P := Tryd.prog) (g := 0) (t := 3) (zero := #[.int .i64 0]) (k := .i64) hsh (of_decide_eq_true (by kernel_rfl)) (by kernel_rfl) rfl (by kernel_rfl) (by kernel_rfl) Tryd.underlying3
  have hW' := hW
  obtain ⟨p, q, hA0, hV, rfl, hfz, hnd⟩ := hW
  have hA : DataW.TrodAll enc Tryd.prog W 0 (fun _ => true) true Tryd.f3.params.toList args.toList ds p := hA0
  rw [Tryd.params3] at hA hval
  obtain ⟨v0, vs0, d0, ds0, p0, q0, hargs, rfl, rfl, h0, r0⟩ := trodAll_cons hA
  obtain ⟨rfl, rfl, rfl⟩ := trodAll_nil r0
  obtain rfl : args = #[v0] := by cases args; simp_all
  obtain ⟨rfl, rfl⟩ := trodVars_none hV
  have h0k := h0
  have hlt : ∀ x ∈ p0 ++ [], x.block < W.heap.size := fun x hx => by simpa using hW'.lt x (by simpa using hx)
  obtain ⟨a0, len, cap, rfl⟩ := okWide_slice Tryd.underlying22 (hval 0 22 v0 rfl rfl)
  obtain ⟨fuel, hf⟩ := h0
  have hby : ∃ Z : Nat → Int, len ≤ 9223372036854775807 ∧ Bytes W W.heap.size a0 len Z := by
    rcases open_ints Tryd.underlying22 Tryd.underlying5 (by kernel_rfl : Tryd.prog.cellsOf 5 = 1) hf with ⟨hcs, hx⟩ | ⟨a, len', cap', zs, hcs, _, hl, hm, hz, hx, hcell, hwz⟩
    · simp [Value.cells] at hcs
      obtain ⟨rfl, rfl, rfl⟩ := hcs
      exact ⟨fun _ => 0, by omega, fun j hj => by omega⟩
    · simp [Value.cells] at hcs
      obtain ⟨rfl, rfl, rfl⟩ := hcs
      simp only [if_true] at hz
      unfold maxLen at hm
      refine ⟨fun j => zs.getD j 0, by omega, fun j hj => ?_⟩
      obtain ⟨b, off, rfl, hc⟩ := ints_at hcell (by omega)
      have h1 := hc j (by omega)
      have h2 := bounds_u8 (hwz (zs.getD j 0) (by simp [List.getD, List.getElem?_eq_getElem (show j < zs.length by omega)]))
      exact ⟨b, off, rfl, World.block_lt_of_cell? W ⟨b, off + j, none⟩ h1, h1, h2.1, h2.2⟩
  obtain ⟨Z, hn, hZ⟩ := hby
  clear hA0
  simp only [List.append_nil] at hW' hlt
  refine (walk a0 len cap Z hn W hZ (tabs hL) hHeld).mono fun e W' ⟨he, hb⟩ => ?_
  subst he
  exact ⟨_, rfl, _, _, _, [], _, [], hW', trodAll_cons_mk (shut_bool Tryd.underlying4 _) trodAll_mk0, trodAll_mk1 (Below.trod laidOut (by kernel_rfl) (of_decide_eq_true (by kernel_rfl)) h0k hb hlt), rfl, hb.frame _, fun h => by cases h⟩

theorem laid_met (os : Os) : laidMet Tryd.prog Rows.fnCellsRow.laid ((laidWorld os).forCall (fun _ _ => 0) ⟨#[], #[.slice none 0 0], []⟩).memory :=
  laidMet_of_run' 80 (by kernel_rfl) (by kernel_rfl)
theorem reads (os : Os) {H : Type} (enc : TypeId × Value → H) : ∃ places, DataW.whole enc Tryd.prog ((laidWorld os).forCall (fun _ _ => 0) ⟨#[], #[.slice none 0 0], []⟩).memory Tryd.f3.params.toList Rows.fnCellsSpec.vars false #[Value.slice none 0 0].toList 8 = some ([.nil], [], places) :=
  ⟨[], by kernel_rfl⟩

set_option maxRecDepth 100000 in
theorem lifted (os : Os) (started : os.Started) (H : Type) (enc : TypeId × Value → H) (F : Stop.Interp) :
    ReturnsInHanded {} Tryd.checked os 3 .any ((OpenSpec.ofChange Rows.fnCellsSpec).preRow enc Tryd.prog Tryd.f3 Rows.fnCellsRow.domain false Rows.fnCellsRow.laid) (((OpenSpec.ofChange Rows.fnCellsSpec).at F).post enc Tryd.prog Tryd.f3 false true false false) := by
  obtain ⟨places, hx⟩ := reads os enc
  refine returnsInHanded_of_row (C := Tryd.checked) (s := OpenSpec.ofChange Rows.fnCellsSpec) own started (by kernel_rfl) Tryd.func3
    (witness_row_at (enc := enc) (C := Tryd.checked) false (laidWorld os) #[.slice none 0 0] rfl (by kernel_rfl) (by kernel_rfl) (by kernel_rfl)
      (OpenSpec.preRow_of_cond 8 hx (by kernel_rfl) (fun k hk => by cases hk) (by kernel_rfl) (laid_met os))) ?_
  intro W base args ds gs before hval hW _ _ _ hL hsh _
  exact contract H enc W base args ds gs before hval hW hL hsh

theorem said : Rows.FnCellsSaid :=
  OpenClaim.holds_of_cond 3 Tryd.f3 rfl rfl rfl rfl rfl rfl rfl ⟨rfl, rfl, rfl, rfl, rfl⟩ rfl rfl rfl rfl rfl (by kernel_rfl) Tryd.func3 (by kernel_rfl)
    (of_decide_eq_true (by kernel_rfl)) (by unfold Func.isWrapper; first | (rw [if_pos (by decide +kernel)]; kernel_rfl) | (rw [if_neg (by decide +kernel)]; exact ⟨rfl, rfl⟩))
    (fun os started H enc _ F => by rw [OpenClaim.pre_eq_preRow]; exact lifted os started H enc F)

theorem plain (f : FuncId) (fn : Func) (hf : Tryd.pinned.checked.prog.funcNamed "loop.example/g00700/laws.FnCells" = some f) (hfn : Tryd.pinned.checked.prog.funcs[f]? = some fn) :
    false = Tryd.pinned.checked.prog.looks [] ∧ ∀ (j : Nat) t, fn.params[j]? = some t → Tryd.pinned.checked.prog.wantsStandIn t = false := by
  obtain rfl : f = 3 := Option.some.inj ((show Tryd.prog.funcNamed "loop.example/g00700/laws.FnCells" = some 3 by kernel_rfl).symm.trans hf) |>.symm
  obtain rfl : fn = Tryd.f3 := (Option.some.inj (Tryd.func3.symm.trans hfn)).symm
  refine ⟨by kernel_rfl, fun j t ht => ?_⟩
  rw [Tryd.params3] at ht
  obtain rfl : t = 22 := by simpa using Array.mem_of_getElem? ht
  exact (show Tryd.prog.wantsStandIn 22 = false by kernel_rfl)

theorem card : Rows.FnCellsCardSaid :=
  Claim7.holds_tied_plain_at .later [] _ _ _ _ said (fun _ h => by cases h) (by kernel_rfl) (fun _ h => by cases h) fnCells_row_tie rfl ⟨rfl, rfl⟩ (by kernel_rfl) rfl plain (by kernel_rfl)
end Go.Proofs.YthaedmldlenhgaaDoor.fnCells
