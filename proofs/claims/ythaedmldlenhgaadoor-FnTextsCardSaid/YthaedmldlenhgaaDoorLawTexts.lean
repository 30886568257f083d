/-
  For every list of bytes the law of texts returns true: what stands in a text is found, and is the part that stands there; great letters stay so.
-/
import Derived.Test.YthaedmldlenhgaaDoorFrame
import Derived.Test.YthaedmldlenhgaaDoorCellsAlive
import Derived.Test.YthaedmldlenhgaaDoorDrawCell
import Derived.Test.YthaedmldlenhgaaDoorTables
import Derived.Test.YthaedmldlenhgaaDoorDrawTexts
import Derived.Test.YthaedmldlenhgaaDoorTextsPure
import Derived.Shelf.Vars
namespace Go.Proofs.YthaedmldlenhgaaDoor.fnTexts
open Go.ChangeShapes Go.WideShapes Go.ChangeAt Go.RowKit
open Go.PlainAid
open Go.Proofs.YthaedmldlenhgaaDoor.Dec
open Go.Proofs.YthaedmldlenhgaaDoor.DecPure
open Go.Proofs.YthaedmldlenhgaaDoor.TextPure
open Go.Proofs.YthaedmldlenhgaaDoor.ReadPure
open Go.Proofs.YthaedmldlenhgaaDoor.CellPure
open Go.Proofs.YthaedmldlenhgaaDoor.SubPure
open Go.Proofs.YthaedmldlenhgaaDoor.Cell
open Go.Proofs.YthaedmldlenhgaaDoor.Draw
open Go.Proofs.YthaedmldlenhgaaDoor.Frame
set_option linter.unusedVariables false

set_option maxRecDepth 100000 in
set_option maxHeartbeats 4000000 in
theorem walk (A : Option Addr) (n cap : Nat) (Z : Nat → Int) (hn : n ≤ 9223372036854775807) (w : World) (hby : Bytes w w.heap.size A n Z) (htab : Go.Proofs.YthaedmldlenhgaaDoor.Dec.Tables w) (hm : Held w) :
    Calls Tryd.prog 4 #[.slice A n cap] w fun e w' => e = .returned (.bool true) ∧ Below w.heap.size w w' := by
  have HT := Lib.hid htab; clear htab
  have HM := Lib.hid hm; clear hm
  have HB0 := Lib.hid (Below.refl w.heap.size w)
  have hd1 := drawIndexOf w A n cap Z hn hby
  have hd2 : ∀ W, Below w.heap.size w W → Calls Tryd.prog 18 #[.slice A n cap] W (TxtOne 20 W) := fun W hW => drawUpper W A n cap Z hn (fun j hj => by
    obtain ⟨b, off, e, hlt, hc, hz⟩ := hby j hj
    exact ⟨b, off, e, Nat.lt_of_lt_of_le hlt hW.size, (hW.cell (p := ⟨b, off + j, none⟩) hlt).trans hc, hz⟩)
  have hd3 : ∀ W, Below w.heap.size w W → Calls Tryd.prog 19 #[.slice A n cap] W (TxtNums W) := fun W hW => drawSubText W A n cap Z hn (fun j hj => by
    obtain ⟨b, off, e, hlt, hc, hz⟩ := hby j hj
    exact ⟨b, off, e, Nat.lt_of_lt_of_le hlt hW.size, (hW.cell (p := ⟨b, off + j, none⟩) hlt).trans hc, hz⟩)
  have HD1 := Lib.hid hd1; clear hd1
  have HD2 := Lib.hid hd2; clear hd2
  have HD3 := Lib.hid hd3; clear hd3 hby
  have hal : ∀ W, Go.Proofs.YthaedmldlenhgaaDoor.Dec.Tables W → Held W → Calls Tryd.prog 7 #[] W fun e w' => e = .returned (.bool true) ∧ Below W.heap.size W w' := fun W hW hH => cells_alive W hW hH
  have HAL := Lib.hid hal; clear hal
  go_enter Tryd.func4, Tryd.ntmps4
  go_wp2_with fail
  refine HD1.out.mono ?_
  rintro e w1 ⟨s, t, rfl, hs, ht, hB⟩
  have HB1 := Lib.hid (HB0.out.trans (hB.mono HB0.out.size)); clear hB
  have hix : ∀ W, Held W → Calls Tryd.prog 15 #[.string s, .string t] W fun e w' => e = .returned (.int .i64 (ixN s t)) ∧ W = w' := fun W hW => by
    obtain ⟨m, hW⟩ := hW
    exact impl_index s t m (by omega) (by omega) W hW
  have hiy : ∀ W, Calls Tryd.prog 16 #[.string s, .string t] W fun e w' => e = .returned (.int .i64 (ixN s t)) ∧ W = w' := fun W => spec_index s t (by omega) (by omega) W
  have hbd := ix_bd s t
  have hsb : 0 < ixN s t → ∀ W, Calls Tryd.prog 17 #[.string s, .int .i64 (ixN s t), .int .i64 t.size] W fun e w' => e = .returned (.string t) ∧ Below W.heap.size W w' := fun h W => by
    have := impl_sub s (ixN s t) t.size (by omega) (by omega) (by omega) (by omega) W
    rw [ix_sub (by omega) h] at this
    exact this
  generalize ixN s t = k at *
  have HIX := Lib.hid hix; clear hix
  have HIY := Lib.hid hiy; clear hiy
  have HSB := Lib.hid hsb; clear hsb
  go_wp2_with fail
  refine (HIX.out _ (HM.out.below HB1.out)).mono ?_
  rintro e w' ⟨rfl, rfl⟩
  go_wp2_with fail
  refine (HIY.out _).mono ?_
  rintro e w' ⟨rfl, rfl⟩
  by_cases hk : 0 < k
  · have hsb := HSB.out hk
    have HS2 := Lib.hid hsb; clear hsb
    go_wp2_with fail
    refine (HS2.out _).mono ?_
    rintro e w2 ⟨rfl, hB⟩
    have HBn := Lib.hid (HB1.out.trans (hB.mono HB1.out.size)); clear hB
    go_wp2_with fail
    refine (HD2.out _ HBn.out).mono ?_
    rintro e w3 ⟨u, rfl, hu, hB⟩
    have HB3 := Lib.hid (HBn.out.trans (hB.mono HBn.out.size)); clear hB
    go_wp2_with fail
    refine (HD3.out _ HB3.out).mono ?_
    rintro e w4 ⟨x, f, l, rfl, hx, hf, hl, hB⟩
    have HB4 := Lib.hid (HB3.out.trans (hB.mono HB3.out.size)); clear hB
    have hp : ∀ W, Calls Tryd.prog 17 #[.string x, .int .i64 f, .int .i64 l] W fun e w' => e = .returned (.string (subS x f l)) ∧ Below W.heap.size W w' := fun W => impl_sub x f l (by omega) hl.2 hf.1 hf.2 W
    have hq : ∀ W, Calls Tryd.prog 20 #[.string x, .int .i64 f, .int .i64 l] W fun e w' => e = .returned (.string (subS x f l)) ∧ Below W.heap.size W w' := fun W => spec_sub x f l (by omega) hl.2 W
    have hsz := subS_size x f l
    have hw1 : ∀ W, Calls Tryd.prog 17 #[.string x, .int .i64 1, .int .i64 x.size] W fun e w' => e = .returned (.string x) ∧ Below W.heap.size W w' := fun W => by
      have := impl_sub x 1 x.size (by omega) (by omega) (by omega) (by omega) W
      rw [subS_whole x x.size (.inr ⟨rfl, by omega⟩)] at this
      exact this
    have hw2 : ∀ W, Calls Tryd.prog 17 #[.string x, .int .i64 1, .int .i64 9000000000000] W fun e w' => e = .returned (.string x) ∧ Below W.heap.size W w' := fun W => by
      have := impl_sub x 1 9000000000000 (by omega) (by omega) (by omega) (by omega) W
      rw [subS_whole x 9000000000000 (.inl rfl)] at this
      exact this
    generalize subS x f l = p at *
    have hvz := up_size u
    have hu1 : ∀ W, Calls Tryd.prog 21 #[.string u] W fun e w' => e = .returned (.string (strOfNums (upL u))) ∧ Below W.heap.size W w' := fun W => impl_upper u (by omega) W
    have hu2 : ∀ W, Calls Tryd.prog 21 #[.string (strOfNums (upL u))] W fun e w' => e = .returned (.string (strOfNums (upL u))) ∧ Below W.heap.size W w' := fun W => by
      have := impl_upper (strOfNums (upL u)) (by omega) W
      rw [up_twice] at this
      exact this
    generalize strOfNums (upL u) = v at *
    have HP := Lib.hid hp; clear hp
    have HQ := Lib.hid hq; clear hq
    have HW1 := Lib.hid hw1; clear hw1
    have HW2 := Lib.hid hw2; clear hw2
    have HU1 := Lib.hid hu1; clear hu1
    have HU2 := Lib.hid hu2; clear hu2
    have hvi : ((v.size : Int) == (u.size : Int)) = true := by rw [hvz]; exact beq_self_eq_true _
    have HVZ := Lib.hid hvz; clear hvz
    have hpz : (p.size : Int) ≤ (x.size : Int) := by omega
    clear hf hl
    go_wp2_with fail
    refine (HP.out _).mono ?_
    rintro e w5 ⟨rfl, hB⟩
    have HB5 := Lib.hid (HB4.out.trans (hB.mono HB4.out.size)); clear hB
    go_wp2_with fail
    refine (HW1.out _).mono ?_
    rintro e w6 ⟨rfl, hB⟩
    have HB6 := Lib.hid (HB5.out.trans (hB.mono HB5.out.size)); clear hB
    go_wp2_with fail
    refine (HW2.out _).mono ?_
    rintro e w7 ⟨rfl, hB⟩
    have HB7 := Lib.hid (HB6.out.trans (hB.mono HB6.out.size)); clear hB
    go_wp2_with fail
    refine (HQ.out _).mono ?_
    rintro e w8 ⟨rfl, hB⟩
    have HB8 := Lib.hid (HB7.out.trans (hB.mono HB7.out.size)); clear hB
    go_wp2_with fail
    refine (HU1.out _).mono ?_
    rintro e w9 ⟨rfl, hB⟩
    have HB9 := Lib.hid (HB8.out.trans (hB.mono HB8.out.size)); clear hB
    go_wp2_with fail
    refine (HU2.out _).mono ?_
    rintro e w10 ⟨rfl, hB⟩
    have HB10 := Lib.hid (HB9.out.trans (hB.mono HB9.out.size)); clear hB
    go_wp2_with fail
    refine (HU1.out _).mono ?_
    rintro e w11 ⟨rfl, hB⟩
    have HB11 := Lib.hid (HB10.out.trans (hB.mono HB10.out.size)); clear hB
    go_wp2_with fail
    refine (HU1.out _).mono ?_
    rintro e w12 ⟨rfl, hB⟩
    have HB12 := Lib.hid (HB11.out.trans (hB.mono HB11.out.size)); clear hB
    go_wp2_with fail
    refine (HAL.out _ (HT.out.below HB12.out) (HM.out.below HB12.out)).mono ?_
    rintro e w13 ⟨rfl, hB⟩
    have HB13 := Lib.hid (HB12.out.trans (hB.mono HB12.out.size)); clear hB
    go_wp2_with fail
    go_ret
    exact ⟨rfl, HB13.out⟩
  · have hkd : decide (0 < k) = false := by simpa using hk
    have HBn := Lib.hid HB1.out
    go_wp2_with fail
    refine (HD2.out _ HBn.out).mono ?_
    rintro e w3 ⟨u, rfl, hu, hB⟩
    have HB3 := Lib.hid (HBn.out.trans (hB.mono HBn.out.size)); clear hB
    go_wp2_with fail
    refine (HD3.out _ HB3.out).mono ?_
    rintro e w4 ⟨x, f, l, rfl, hx, hf, hl, hB⟩
    have HB4 := Lib.hid (HB3.out.trans (hB.mono HB3.out.size)); clear hB
    have hp : ∀ W, Calls Tryd.prog 17 #[.string x, .int .i64 f, .int .i64 l] W fun e w' => e = .returned (.string (subS x f l)) ∧ Below W.heap.size W w' := fun W => impl_sub x f l (by omega) hl.2 hf.1 hf.2 W
    have hq : ∀ W, Calls Tryd.prog 20 #[.string x, .int .i64 f, .int .i64 l] W fun e w' => e = .returned (.string (subS x f l)) ∧ Below W.heap.size W w' := fun W => spec_sub x f l (by omega) hl.2 W
    have hsz := subS_size x f l
    have hw1 : ∀ W, Calls Tryd.prog 17 #[.string x, .int .i64 1, .int .i64 x.size] W fun e w' => e = .returned (.string x) ∧ Below W.heap.size W w' := fun W => by
      have := impl_sub x 1 x.size (by omega) (by omega) (by omega) (by omega) W
      rw [subS_whole x x.size (.inr ⟨rfl, by omega⟩)] at this
      exact this
    have hw2 : ∀ W, Calls Tryd.prog 17 #[.string x, .int .i64 1, .int .i64 9000000000000] W fun e w' => e = .returned (.string x) ∧ Below W.heap.size W w' := fun W => by
      have := impl_sub x 1 9000000000000 (by omega) (by omega) (by omega) (by omega) W
      rw [subS_whole x 9000000000000 (.inl rfl)] at this
      exact this
    generalize subS x f l = p at *
    have hvz := up_size u
    have hu1 : ∀ W, Calls Tryd.prog 21 #[.string u] W fun e w' => e = .returned (.string (strOfNums (upL u))) ∧ Below W.heap.size W w' := fun W => impl_upper u (by omega) W
    have hu2 : ∀ W, Calls Tryd.prog 21 #[.string (strOfNums (upL u))] W fun e w' => e = .returned (.string (strOfNums (upL u))) ∧ Below W.heap.size W w' := fun W => by
      have := impl_upper (strOfNums (upL u)) (by omega) W
      rw [up_twice] at this
      exact this
    generalize strOfNums (upL u) = v at *
    have HP := Lib.hid hp; clear hp
    have HQ := Lib.hid hq; clear hq
    have HW1 := Lib.hid hw1; clear hw1
    have HW2 := Lib.hid hw2; clear hw2
    have HU1 := Lib.hid hu1; clear hu1
    have HU2 := Lib.hid hu2; clear hu2
    have hvi : ((v.size : Int) == (u.size : Int)) = true := by rw [hvz]; exact beq_self_eq_true _
    have HVZ := Lib.hid hvz; clear hvz
    have hpz : (p.size : Int) ≤ (x.size : Int) := by omega
    clear hf hl
    go_wp2_with fail
    refine (HP.out _).mono ?_
    rintro e w5 ⟨rfl, hB⟩
    have HB5 := Lib.hid (HB4.out.trans (hB.mono HB4.out.size)); clear hB
    go_wp2_with fail
    refine (HW1.out _).mono ?_
    rintro e w6 ⟨rfl, hB⟩
    have HB6 := Lib.hid (HB5.out.trans (hB.mono HB5.out.size)); clear hB
    go_wp2_with fail
    refine (HW2.out _).mono ?_
    rintro e w7 ⟨rfl, hB⟩
    have HB7 := Lib.hid (HB6.out.trans (hB.mono HB6.out.size)); clear hB
    go_wp2_with fail
    refine (HQ.out _).mono ?_
    rintro e w8 ⟨rfl, hB⟩
    have HB8 := Lib.hid (HB7.out.trans (hB.mono HB7.out.size)); clear hB
    go_wp2_with fail
    refine (HU1.out _).mono ?_
    rintro e w9 ⟨rfl, hB⟩
    have HB9 := Lib.hid (HB8.out.trans (hB.mono HB8.out.size)); clear hB
    go_wp2_with fail
    refine (HU2.out _).mono ?_
    rintro e w10 ⟨rfl, hB⟩
    have HB10 := Lib.hid (HB9.out.trans (hB.mono HB9.out.size)); clear hB
    go_wp2_with fail
    refine (HU1.out _).mono ?_
    rintro e w11 ⟨rfl, hB⟩
    have HB11 := Lib.hid (HB10.out.trans (hB.mono HB10.out.size)); clear hB
    go_wp2_with fail
    refine (HU1.out _).mono ?_
    rintro e w12 ⟨rfl, hB⟩
    have HB12 := Lib.hid (HB11.out.trans (hB.mono HB11.out.size)); clear hB
    go_wp2_with fail
    refine (HAL.out _ (HT.out.below HB12.out) (HM.out.below HB12.out)).mono ?_
    rintro e w13 ⟨rfl, hB⟩
    have HB13 := Lib.hid (HB12.out.trans (hB.mono HB12.out.size)); clear hB
    go_wp2_with fail
    go_ret
    exact ⟨rfl, HB13.out⟩


set_option maxRecDepth 100000 in
theorem contract (H : Type) (enc : TypeId × Value → H) (W : World) (base : Nat) (args : Array Value) (ds gs : List (DataW H)) (before : List MemPlace)
    (hval : ∀ (j : Nat) t v, Tryd.f4.params[j]? = some t → args[j]? = some v → Value.okWide Tryd.prog W .any base t v)
    (hW : DataW.Whole enc Tryd.prog Tryd.f4.params.toList Rows.fnTextsSpec.vars false W args.toList ds gs before) (hL : laidMetH Tryd.prog Rows.fnTextsRow.laid W) (hsh : W.ShapedOpen Tryd.prog) :
    Calls Tryd.prog 4 args W fun e W' => ∃ v, e = .returned v ∧ Rows.fnTextsSpec.post enc Tryd.prog Tryd.f4 false true false false W args v W' := by
  have hHeld : Held W := cell_of_shapedOpen_int (P := Tryd.prog) (g := 0) (t := 3) (zero := #[.int .i64 0]) (k := .i64) hsh (of_decide_eq_true (by kernel_rfl)) (by kernel_rfl) rfl (by kernel_rfl) (by kernel_rfl) Tryd.underlying3
  have hW' := hW
  obtain ⟨p, q, hA0, hV, rfl, hfz, hnd⟩ := hW
  have hA : DataW.TrodAll enc Tryd.prog W 0 (fun _ => true) true Tryd.f4.params.toList args.toList ds p := hA0
  rw [Tryd.params4] at hA hval
  obtain ⟨v0, vs0, d0, ds0, p0, q0, hargs, rfl, rfl, h0, r0⟩ := trodAll_cons hA
  obtain ⟨rfl, rfl, rfl⟩ := trodAll_nil r0
  obtain rfl : args = #[v0] := by cases args; simp_all
  obtain ⟨rfl, rfl⟩ := trodVars_none hV
  have h0k := h0
  have hlt : ∀ x ∈ p0 ++ [], x.block < W.heap.size := fun x hx => by simpa using hW'.lt x (by simpa using hx)
  obtain ⟨a0, len, cap, rfl⟩ := okWide_slice Tryd.underlying22 (hval 0 22 v0 rfl rfl)
  obtain ⟨fuel, hf⟩ := h0
  have hby : ∃ Z : Nat → Int, len ≤ 9223372036854775807 ∧ Bytes W W.heap.size a0 len Z := by
    rcases open_ints Tryd.underlying22 Tryd.underlying5 (by kernel_rfl : Tryd.prog.cellsOf 5 = 1) hf with ⟨hcs, hx⟩ | ⟨a, len', cap', zs, hcs, _, hl, hm, hz, hx, hcell, hwz⟩
    · simp [Value.cells] at hcs
      obtain ⟨rfl, rfl, rfl⟩ := hcs
      exact ⟨fun _ => 0, by omega, fun j hj => by omega⟩
    · simp [Value.cells] at hcs
      obtain ⟨rfl, rfl, rfl⟩ := hcs
      simp only [if_true] at hz
      unfold maxLen at hm
      refine ⟨fun j => zs.getD j 0, by omega, fun j hj => ?_⟩
      obtain ⟨b, off, rfl, hc⟩ := ints_at hcell (by omega)
      have h1 := hc j (by omega)
      have h2 := bounds_u8 (hwz (zs.getD j 0) (by simp [List.getD, List.getElem?_eq_getElem (show j < zs.length by omega)]))
      exact ⟨b, off, rfl, World.block_lt_of_cell? W ⟨b, off + j, none⟩ h1, h1, h2.1, h2.2⟩
  obtain ⟨Z, hn, hZ⟩ := hby
  clear hA0
  simp only [List.append_nil] at hW' hlt
  refine (walk a0 len cap Z hn W hZ (tabs hL) hHeld).mono fun e W' ⟨he, hb⟩ => ?_
  subst he
  exact ⟨_, rfl, _, _, _, [], _, [], hW', trodAll_cons_mk (shut_bool Tryd.underlying4 _) trodAll_mk0, trodAll_mk1 (Below.trod laidOut (by kernel_rfl) (of_decide_eq_true (by kernel_rfl)) h0k hb hlt), rfl, hb.frame _, fun h => by cases h⟩

theorem laid_met (os : Os) : laidMet Tryd.prog Rows.fnTextsRow.laid ((laidWorld os).forCall (fun _ _ => 0) ⟨#[], #[.slice none 0 0], []⟩).memory :=
  laidMet_of_run' 80 (by kernel_rfl) (by kernel_rfl)
theorem reads (os : Os) {H : Type} (enc : TypeId × Value → H) : ∃ places, DataW.whole enc Tryd.prog ((laidWorld os).forCall (fun _ _ => 0) ⟨#[], #[.slice none 0 0], []⟩).memory Tryd.f4.params.toList Rows.fnTextsSpec.vars false #[Value.slice none 0 0].toList 8 = some ([.nil], [], places) :=
  ⟨[], by kernel_rfl⟩

set_option maxRecDepth 100000 in
theorem lifted (os : Os) (started : os.Started) (H : Type) (enc : TypeId × Value → H) (F : Stop.Interp) :
    ReturnsInHanded {} Tryd.checked os 4 .any ((OpenSpec.ofChange Rows.fnTextsSpec).preRow enc Tryd.prog Tryd.f4 Rows.fnTextsRow.domain false Rows.fnTextsRow.laid) (((OpenSpec.ofChange Rows.fnTextsSpec).at F).post enc Tryd.prog Tryd.f4 false true false false) := by
  obtain ⟨places, hx⟩ := reads os enc
  refine returnsInHanded_of_row (C := Tryd.checked) (s := OpenSpec.ofChange Rows.fnTextsSpec) own started (by kernel_rfl) Tryd.func4
    (witness_row_at (enc := enc) (C := Tryd.checked) false (laidWorld os) #[.slice none 0 0] rfl (by kernel_rfl) (by kernel_rfl) (by kernel_rfl)
      (OpenSpec.preRow_of_cond 8 hx (by kernel_rfl) (fun k hk => by cases hk) (by kernel_rfl) (laid_met os))) ?_
  intro W base args ds gs before hval hW _ _ _ hL hsh _
  exact contract H enc W base args ds gs before hval hW hL hsh

theorem said : Rows.FnTextsSaid :=
  OpenClaim.holds_of_cond 4 Tryd.f4 rfl rfl rfl rfl rfl rfl rfl ⟨rfl, rfl, rfl, rfl, rfl⟩ rfl rfl rfl rfl rfl (by kernel_rfl) Tryd.func4 (by kernel_rfl)
    (of_decide_eq_true (by kernel_rfl)) (by unfold Func.isWrapper; first | (rw [if_pos (by decide +kernel)]; kernel_rfl) | (rw [if_neg (by decide +kernel)]; exact ⟨rfl, rfl⟩))
    (fun os started H enc _ F => by rw [OpenClaim.pre_eq_preRow]; exact lifted os started H enc F)

theorem plain (f : FuncId) (fn : Func) (hf : Tryd.pinned.checked.prog.funcNamed "loop.example/g00700/laws.FnTexts" = some f) (hfn : Tryd.pinned.checked.prog.funcs[f]? = some fn) :
    false = Tryd.pinned.checked.prog.looks [] ∧ ∀ (j : Nat) t, fn.params[j]? = some t → Tryd.pinned.checked.prog.wantsStandIn t = false := by
  obtain rfl : f = 4 := Option.some.inj ((show Tryd.prog.funcNamed "loop.example/g00700/laws.FnTexts" = some 4 by kernel_rfl).symm.trans hf) |>.symm
  obtain rfl : fn = Tryd.f4 := (Option.some.inj (Tryd.func4.symm.trans hfn)).symm
  refine ⟨by kernel_rfl, fun j t ht => ?_⟩
  rw [Tryd.params4] at ht
  obtain rfl : t = 22 := by simpa using Array.mem_of_getElem? ht
  exact (show Tryd.prog.wantsStandIn 22 = false by kernel_rfl)

theorem card : Rows.FnTextsCardSaid :=
  Claim7.holds_tied_plain_at .later [] _ _ _ _ said (fun _ h => by cases h) (by kernel_rfl) (fun _ h => by cases h) fnTexts_row_tie rfl ⟨rfl, rfl⟩ (by kernel_rfl) rfl plain (by kernel_rfl)
end Go.Proofs.YthaedmldlenhgaaDoor.fnTexts
