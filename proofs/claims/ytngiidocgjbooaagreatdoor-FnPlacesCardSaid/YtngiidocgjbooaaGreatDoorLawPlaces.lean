/-
  For every list of bytes the law of places returns true: a byte behind an end of line is the first one of the next line, any other stands one further on.
-/
import Derived.Test.YtngiidocgjbooaaGreatDoorFrame
import Derived.Test.YtngiidocgjbooaaGreatDoorDrawText
import Derived.Test.YtngiidocgjbooaaGreatDoorPlace
import Derived.Test.YtngiidocgjbooaaGreatDoorAlive
namespace Go.Proofs.YtngiidocgjbooaaGreatDoor.fnPlaces
open Go.ChangeShapes Go.WideShapes Go.ChangeAt Go.RowKit
open Go.PlainAid
open Go.Proofs.YtngiidocgjbooaaGreatDoor.Dec
open Go.Proofs.YtngiidocgjbooaaGreatDoor.DecPure
open Go.Proofs.YtngiidocgjbooaaGreatDoor.Draw
open Go.Proofs.YtngiidocgjbooaaGreatDoor.Place
open Go.Proofs.YtngiidocgjbooaaGreatDoor.PlacePure
open Go.Proofs.YtngiidocgjbooaaGreatDoor.Alive
open Go.Proofs.YtngiidocgjbooaaGreatDoor.Frame
set_option linter.unusedVariables false

theorem walk (A : Option Addr) (n cap : Nat) (Z : Nat → Int) (hn : n ≤ 9223372036854775807) (w : World) (hby : Bytes w w.heap.size A n Z) :
    Calls Tryz.prog 4 #[.slice A n cap] w fun e w' => e = .returned (.bool true) ∧ Below w.heap.size w w' := by
  go_enter Tryz.func4, Tryz.ntmps4
  go_wp2_with fail
  refine (drawPlace w A n cap Z hn hby).mono ?_
  rintro e w1 ⟨s, k, rfl, hs, hk0, hk1, hB1⟩
  clear hby
  have HB1 := Lib.hid hB1; clear hB1
  have hs2 : s.size ≤ 1048576 := by omega
  have HP := fun (a : Int) (v : World) => impl_place s a hs2 v
  have hgb := get_bt s
  by_cases hneg : k < 0
  · obtain ⟨e1, e2⟩ := pl_out (s := s) (a := k) (.inl hneg)
    have HK := HP k w1
    rw [e1, e2] at HK
    clear HP e1 e2
    go_wp2_with fail
    refine HK.mono ?_
    rintro e w2 ⟨rfl, rfl⟩
    clear HK
    go_wp2_with (go_at_call 11; refine (words_alive _).mono ?_; rintro e w9 ⟨rfl, hB9⟩)
    go_ret
    exact ⟨rfl, HB1.out.trans (hB9.mono HB1.out.size)⟩
  · by_cases hbig : (s.size : Int) < k
    · obtain ⟨e1, e2⟩ := pl_out (s := s) (a := k) (.inr hbig)
      have HK := HP k w1
      rw [e1, e2] at HK
      clear HP e1 e2
      go_wp2_with fail
      refine HK.mono ?_
      rintro e w2 ⟨rfl, rfl⟩
      clear HK
      go_wp2_with (go_at_call 11; refine (words_alive _).mono ?_; rintro e w9 ⟨rfl, hB9⟩)
      go_ret
      exact ⟨rfl, HB1.out.trans (hB9.mono HB1.out.size)⟩
    · obtain ⟨m, rfl⟩ : ∃ m : Nat, k = m := ⟨k.toNat, by omega⟩
      have hm : m ≤ s.size := by omega
      obtain ⟨e1, e2⟩ := pl_in hm
      match m, hm, e1, e2 with
      | 0, hm, e1, e2 =>
        have HK := HP ((0 : Nat) : Int) w1
        rw [e1, e2, show ((0 : Nat) : Int) - (fromN s 0 : Int) + 1 = 1 from rfl, show (lineN s 0 : Int) = 1 from rfl] at HK
        clear HP e1 e2 hneg hbig
        go_wp2_with fail
        refine HK.mono ?_
        rintro e w2 ⟨rfl, rfl⟩
        clear HK
        go_wp2_with (go_at_call 11; refine (words_alive _).mono ?_; rintro e w9 ⟨rfl, hB9⟩)
        go_ret
        exact ⟨rfl, HB1.out.trans (hB9.mono HB1.out.size)⟩
      | j + 1, hm, e1, e2 =>
        obtain ⟨d1, d2⟩ := pl_in (s := s) (k := j) (by omega)
        obtain ⟨l, hl⟩ : ∃ l : Nat, l = lineN s j := ⟨_, rfl⟩
        obtain ⟨c, hc⟩ : ∃ c : Int, c = (j : Int) - fromN s j + 1 := ⟨_, rfl⟩
        have hl1 := lineN_le s j
        have hf1 := fromN_le s j
        rw [← hl] at hl1
        have hc1 : -1000 ≤ c ∧ c ≤ 1000 := by omega
        rw [← hl] at d1
        rw [← hc] at d2
        have b0 := bt_nonneg s j
        have b1 := bt_le s j
        have hjs : j < s.size := by omega
        have hjs1 : (j : Int) < (s.size : Int) := by omega
        have hq1 : ¬ ((j : Int) + 1 < 0) := by omega
        have hq2 : ¬ ((s.size : Int) < (j : Int) + 1) := by omega
        have hq3 : ((j : Int) + 1 == 0) = false := by simp; omega
        have HK := HP (((j + 1 : Nat)) : Int) w1
        have HJ := HP (j : Int) w1
        rw [d1, d2] at HJ
        rw [e1, e2] at HK
        clear HP hneg hbig hk0 hk1
        by_cases hb : bt s j = 10
        · rw [show (lineN s (j + 1) : Int) = (l : Int) + 1 from by rw [lineN, if_pos hb, ← hl]; push_cast; rfl, show ((j + 1 : Nat) : Int) - (fromN s (j + 1) : Int) + 1 = 1 from by rw [fromN, if_pos hb]; omega] at HK
          have hbb : (bt s j == 10) = true := by simpa using hb
          clear hl hc e1 e2 d1 d2 hf1 hb
          rw [show (((j + 1 : Nat)) : Int) = (j : Int) + 1 from by push_cast; rfl] at HK ⊢
          go_wp2_with fail
          refine HK.mono ?_
          rintro e w2 ⟨rfl, rfl⟩
          clear HK
          go_wp2_with fail
          refine HJ.mono ?_
          rintro e w2 ⟨rfl, rfl⟩
          clear HJ
          go_wp2_with (go_at_call 11; refine (words_alive _).mono ?_; rintro e w9 ⟨rfl, hB9⟩)
          go_ret
          exact ⟨rfl, HB1.out.trans (hB9.mono HB1.out.size)⟩
        · rw [show (lineN s (j + 1) : Int) = (l : Int) from by rw [lineN, if_neg hb, ← hl], show ((j + 1 : Nat) : Int) - (fromN s (j + 1) : Int) + 1 = c + 1 from by rw [fromN, if_neg hb]; omega] at HK
          have hbb : (bt s j == 10) = false := by simpa using hb
          clear hl hc e1 e2 d1 d2 hf1 hb
          rw [show (((j + 1 : Nat)) : Int) = (j : Int) + 1 from by push_cast; rfl] at HK ⊢
          go_wp2_with fail
          refine HK.mono ?_
          rintro e w2 ⟨rfl, rfl⟩
          clear HK
          go_wp2_with fail
          refine HJ.mono ?_
          rintro e w2 ⟨rfl, rfl⟩
          clear HJ
          go_wp2_with (go_at_call 11; refine (words_alive _).mono ?_; rintro e w9 ⟨rfl, hB9⟩)
          go_ret
          exact ⟨rfl, HB1.out.trans (hB9.mono HB1.out.size)⟩

set_option maxRecDepth 100000 in
theorem contract (H : Type) (enc : TypeId × Value → H) (W : World) (base : Nat) (args : Array Value) (ds gs : List (DataW H)) (before : List MemPlace)
    (hval : ∀ (j : Nat) t v, Tryz.f4.params[j]? = some t → args[j]? = some v → Value.okWide Tryz.prog W .any base t v)
    (hW : DataW.Whole enc Tryz.prog Tryz.f4.params.toList Rows.fnPlacesSpec.vars false W args.toList ds gs before) (hL : laidMetH Tryz.prog Rows.fnPlacesRow.laid W) :
    Calls Tryz.prog 4 args W fun e W' => ∃ v, e = .returned v ∧ Rows.fnPlacesSpec.post enc Tryz.prog Tryz.f4 false true false false W args v W' := by
  have hW' := hW
  obtain ⟨p, q, hA0, hV, rfl, hfz, hnd⟩ := hW
  have hA : DataW.TrodAll enc Tryz.prog W 0 (fun _ => true) true Tryz.f4.params.toList args.toList ds p := hA0
  rw [Tryz.params4] at hA hval
  obtain ⟨v0, vs0, d0, ds0, p0, q0, hargs, rfl, rfl, h0, r0⟩ := trodAll_cons hA
  obtain ⟨rfl, rfl, rfl⟩ := trodAll_nil r0
  obtain rfl : args = #[v0] := by cases args; simp_all
  obtain ⟨rfl, rfl⟩ := trodVars_none hV
  have h0k := h0
  have hlt : ∀ x ∈ p0 ++ [], x.block < W.heap.size := fun x hx => by simpa using hW'.lt x (by simpa using hx)
  obtain ⟨a0, len, cap, rfl⟩ := okWide_slice Tryz.underlying22 (hval 0 22 v0 rfl rfl)
  obtain ⟨fuel, hf⟩ := h0
  have hby : ∃ Z : Nat → Int, len ≤ 9223372036854775807 ∧ Bytes W W.heap.size a0 len Z := by
    rcases open_ints Tryz.underlying22 Tryz.underlying5 (by kernel_rfl : Tryz.prog.cellsOf 5 = 1) hf with ⟨hcs, hx⟩ | ⟨a, len', cap', zs, hcs, _, hl, hm, hz, hx, hcell, hwz⟩
    · simp [Value.cells] at hcs
      obtain ⟨rfl, rfl, rfl⟩ := hcs
      exact ⟨fun _ => 0, by omega, fun j hj => by omega⟩
    · simp [Value.cells] at hcs
      obtain ⟨rfl, rfl, rfl⟩ := hcs
      simp only [if_true] at hz
      unfold maxLen at hm
      refine ⟨fun j => zs.getD j 0, by omega, fun j hj => ?_⟩
      obtain ⟨b, off, rfl, hc⟩ := ints_at hcell (by omega)
      have h1 := hc j (by omega)
      have h2 := bounds_u8 (hwz (zs.getD j 0) (by simp [List.getD, List.getElem?_eq_getElem (show j < zs.length by omega)]))
      exact ⟨b, off, rfl, World.block_lt_of_cell? W ⟨b, off + j, none⟩ h1, h1, h2.1, h2.2⟩
  obtain ⟨Z, hn, hZ⟩ := hby
  clear hA0
  simp only [List.append_nil] at hW' hlt
  refine (walk a0 len cap Z hn W hZ).mono fun e W' ⟨he, hb⟩ => ?_
  subst he
  exact ⟨_, rfl, _, _, _, [], _, [], hW', trodAll_cons_mk (shut_bool Tryz.underlying4 _) trodAll_mk0, trodAll_mk1 (Below.trod laidOut (by kernel_rfl) (of_decide_eq_true (by kernel_rfl)) h0k hb hlt), rfl, hb.frame _, fun h => by cases h⟩

theorem laid_met (os : Os) : laidMet Tryz.prog Rows.fnPlacesRow.laid ((laidWorld os).forCall (fun _ _ => 0) ⟨#[], #[.slice none 0 0], []⟩).memory :=
  laidMet_of_run' 80 (by kernel_rfl) (by kernel_rfl)
theorem reads (os : Os) {H : Type} (enc : TypeId × Value → H) : ∃ places, DataW.whole enc Tryz.prog ((laidWorld os).forCall (fun _ _ => 0) ⟨#[], #[.slice none 0 0], []⟩).memory Tryz.f4.params.toList Rows.fnPlacesSpec.vars false #[Value.slice none 0 0].toList 8 = some ([.nil], [], places) :=
  ⟨[], by kernel_rfl⟩

set_option maxRecDepth 100000 in
theorem lifted (os : Os) (started : os.Started) (H : Type) (enc : TypeId × Value → H) (F : Stop.Interp) :
    ReturnsInHanded {} Tryz.checked os 4 .any ((OpenSpec.ofChange Rows.fnPlacesSpec).preRow enc Tryz.prog Tryz.f4 Rows.fnPlacesRow.domain false Rows.fnPlacesRow.laid) (((OpenSpec.ofChange Rows.fnPlacesSpec).at F).post enc Tryz.prog Tryz.f4 false true false false) := by
  obtain ⟨places, hx⟩ := reads os enc
  refine returnsInHanded_of_row (C := Tryz.checked) (s := OpenSpec.ofChange Rows.fnPlacesSpec) own started (by kernel_rfl) Tryz.func4
    (witness_row_at (enc := enc) (C := Tryz.checked) false (laidWorld os) #[.slice none 0 0] rfl (by kernel_rfl) (by kernel_rfl) (by kernel_rfl)
      (OpenSpec.preRow_of_cond 8 hx (by kernel_rfl) (fun k hk => by cases hk) (by kernel_rfl) (laid_met os))) ?_
  intro W base args ds gs before hval hW _ _ _ hL _ _
  exact contract H enc W base args ds gs before hval hW hL

theorem said : Rows.FnPlacesSaid :=
  OpenClaim.holds_of_cond 4 Tryz.f4 rfl rfl rfl rfl rfl rfl rfl ⟨rfl, rfl, rfl, rfl, rfl⟩ rfl rfl rfl rfl rfl (by kernel_rfl) Tryz.func4 (by kernel_rfl)
    (of_decide_eq_true (by kernel_rfl)) (by unfold Func.isWrapper; first | (rw [if_pos (by decide +kernel)]; kernel_rfl) | (rw [if_neg (by decide +kernel)]; exact ⟨rfl, rfl⟩))
    (fun os started H enc _ F => by rw [OpenClaim.pre_eq_preRow]; exact lifted os started H enc F)

theorem plain (f : FuncId) (fn : Func) (hf : Tryz.pinned.checked.prog.funcNamed "loop.example/g00700/laws.FnPlaces" = some f) (hfn : Tryz.pinned.checked.prog.funcs[f]? = some fn) :
    true = Tryz.pinned.checked.prog.looks [] ∧ ∀ (j : Nat) t, fn.params[j]? = some t → Tryz.pinned.checked.prog.wantsStandIn t = false := by
  obtain rfl : f = 4 := Option.some.inj ((show Tryz.prog.funcNamed "loop.example/g00700/laws.FnPlaces" = some 4 by kernel_rfl).symm.trans hf) |>.symm
  obtain rfl : fn = Tryz.f4 := (Option.some.inj (Tryz.func4.symm.trans hfn)).symm
  refine ⟨by kernel_rfl, fun j t ht => ?_⟩
  rw [Tryz.params4] at ht
  obtain rfl : t = 22 := by simpa using Array.mem_of_getElem? ht
  exact (show Tryz.prog.wantsStandIn 22 = false by kernel_rfl)

theorem card : Rows.FnPlacesCardSaid :=
  Claim7.holds_tied_plain_at .later [] _ _ _ _ said (fun _ h => by cases h) (by kernel_rfl) (fun _ h => by cases h) fnPlaces_row_tie rfl ⟨rfl, rfl⟩ (by kernel_rfl) rfl plain (by kernel_rfl)
end Go.Proofs.YtngiidocgjbooaaGreatDoor.fnPlaces
