/-
  PlaceKinds of the model.
-/
import Derived.Test.YtofinndkbjcgbaaDoorPlacesSpec
import Derived.Test.YtofinndkbjcgbaaDoorFmtFacts
import Derived.Test.YtofinndkbjcgbaaDoorRowB
namespace Go.Proofs.YtofinndkbjcgbaaDoor.Strs
open Go.ChangeShapes Go.WideShapes Go.ChangeAt Go.RowKit Go.PlainAid
open Go.Proofs.YtofinndkbjcgbaaDoor.Dec Go.Proofs.YtofinndkbjcgbaaDoor.Cell
open Go.Proofs.YtofinndkbjcgbaaDoor.DecPure Go.Proofs.YtofinndkbjcgbaaDoor.ReadPure
set_option linter.unusedVariables false


set_option maxRecDepth 100000 in
set_option maxHeartbeats 8000000 in
theorem spec_kinds (f : ByteArray) (hf : f.size ≤ 1048576) (w : World) : Calls Tryd.prog 17 #[.string f] w fun e w' => e = .returned (.string (strOfNums (kindsP f))) ∧ Below w.heap.size w w' := by
  have hb := get_bt f
  have hpls := spec_places f hf w
  have hnone := kinds_none (f := f)
  have hsome := places_true (f := f)
  rcases hpe : placesP f with ⟨pn, pb⟩
  rw [hpe] at hpls hnone hsome
  unfold PlsEnd at hpls
  simp only at hpls hnone hsome
  have HPS := Lib.hid hpls; clear hpls hpe
  cases pb with
  | false =>
    have HK := Lib.hid (hnone rfl); clear hnone hsome
    go_enter Tryd.func17, Tryd.ntmps17
    go_wp2_with fail
    refine HPS.out.mono ?_
    rintro e w1 ⟨rfl, hB⟩
    have HB := Lib.hid hB; clear hB
    go_wp2_with fail
    go_ret
    exact ⟨by rw [HK.out]; rfl, HB.out⟩
  | true =>
  obtain ⟨L, hz, hL⟩ := hsome rfl
  have HL := Lib.hid hL; clear hnone hsome hL
  go_enter Tryd.func17, Tryd.ntmps17
  go_wp2_with fail
  refine HPS.out.mono ?_
  rintro e w1 ⟨rfl, hB1⟩
  have HB1 := Lib.hid hB1
  have hw1 := hB1.size; clear hB1
  go_wp2_with fail
  go_loopw [5, 6] (fun v i wr => ∃ (k : Nat) (pre : List It), k ≤ f.size ∧ i = .int .i64 k ∧ (kindL pre).length ≤ k ∧ Hid (RowB w.heap.size wr v (kindL pre)) ∧ Hid (its f 0 = (its f k).map (pre ++ ·)) ∧ Hid (Below w.heap.size w wr)) (fun _ i _ => f.size - (intOf i).toNat)
  case atStart => exact ⟨0, [], Nat.zero_le _, rfl, Nat.le_refl _, Lib.hid (RowB.nil _ _), Lib.hid (by simp), HB1⟩
  case round =>
    obtain ⟨k, pre, hk, rfl, hck, HR, HI, HB⟩ := hrel
    have hbz := HB.out.size
    by_cases hlt : k < f.size
    · have b0 := bt_nonneg f k
      have b1 := bt_le f k
      have hki : (k : Int) < (f.size : Int) := by omega
      by_cases hc : bt f k = 37
      · have hcb : (bt f k == 37) = true := by rw [hc]; rfl
        have hcn : (bt f k != 37) = false := by rw [hc]; rfl
        have hpl := spec_place f k hlt hf wr
        have hfact := plc_fact (f := f) hlt
        have hbad := its_bad hlt hc
        have hpct := its_pct hlt hc
        have hcv := its_cv hlt hc
        rcases hpe : plc f k with ⟨kd, wd, lf, st⟩
        rw [hpe] at hpl hfact hbad hpct hcv
        unfold PlcEnd Plc.val at hpl
        simp only at hpl hfact hbad hpct hcv
        have HPL := Lib.hid hpl; clear hpl hpe
        rcases hfact with h0 | ⟨hkd, h1, h2, h3, h4⟩
        · exact absurd (by rw [← HL.out, HI.out, hbad h0]; rfl : (none : Option (List It)) = some L) (by simp)
        · obtain ⟨q, rfl⟩ : ∃ q : Nat, st = (q : Int) := ⟨st.toNat, by omega⟩
          rw [Int.toNat_natCast] at hpct hcv
          have hq1 : (q : Int) - 1 + 1 = (q : Int) := by omega
          by_cases hpc : kd = 37
          · subst hpc
            have HN := Lib.hid (hpct rfl)
            clear hbad hpct hcv hkd
            go_wp2_with fail
            refine HPL.out.mono ?_
            rintro e w2 ⟨rfl, hB⟩
            have HX := Lib.hid (PB.new w2 37 wd lf q)
            obtain ⟨c0, c1, c2, c3⟩ := HX.out.cells
            have hB2 := HB.out.trans (hB.mono hbz)
            have HR2 := Lib.hid (row_kept (w' := w2.alloc (.cells #[.int .u8 37, .int .i64 wd, .bool lf, .int .i64 (q : Int)] 55)) HR.out (fun x hx => by have h1 := HR.out.lt x hx; have h2 := hB.size; exact (Below.heap_alloc w2 _ x (by omega)).trans (hB.block x h1.2)))
            have HB2 := Lib.hid (hB2.alloc hB2.size (.cells #[.int .u8 37, .int .i64 wd, .bool lf, .int .i64 (q : Int)] 55))
            clear hB hB2
            go_wp2_with fail
            go_roundw
            case rel => exact ⟨q, pre ++ [⟨0, ⟨#[37]⟩, 0, false⟩], by omega, by go_num, by rw [kind_snoc, if_pos rfl, List.append_nil]; omega, Lib.hid (by rw [kind_snoc, if_pos rfl, List.append_nil]; exact HR2.out), Lib.hid (its_step HI.out HN.out), HB2⟩
            case measure => simp [intOf]; omega
          · have h0 : kd ≠ 0 := by omega
            have HN := Lib.hid (hcv h0 hpc)
            have k2 : (kd != 37) = true := by simpa using hpc
            clear hbad hpct hcv
            go_wp2_with fail
            refine HPL.out.mono ?_
            rintro e w2 ⟨rfl, hB⟩
            have HX := Lib.hid (PB.new w2 kd wd lf q)
            obtain ⟨c0, c1, c2, c3⟩ := HX.out.cells
            have hown := fun x hx => Nat.lt_of_lt_of_le (HR.out.lt x hx).2 hB.size
            have hB2 := HB.out.trans (hB.mono hbz)
            have HR2 := Lib.hid (row_kept (w' := w2.alloc (.cells #[.int .u8 kd, .int .i64 wd, .bool lf, .int .i64 (q : Int)] 55)) HR.out (fun x hx => by have h1 := HR.out.lt x hx; have h2 := hB.size; exact (Below.heap_alloc w2 _ x (by omega)).trans (hB.block x h1.2)))
            have HB2 := Lib.hid (hB2.alloc hB2.size (.cells #[.int .u8 kd, .int .i64 wd, .bool lf, .int .i64 (q : Int)] 55))
            clear hB hB2
            have hsz2 := HB2.out.size
            go_wp2_with (at_builtin; refine rowB_push_at w.heap.size (w2.alloc (.cells #[.int .u8 kd, .int .i64 wd, .bool lf, .int .i64 (q : Int)] 55)) _ (kindL pre) kd (w2.heap.size + 1) (by simp) rfl _ _ rfl rfl rfl HR2.out (by omega) (by omega) ?_; intro v4 w4 hrow4 hgrow4; have hX4 : PB w4 w2.heap.size kd wd lf q := (hgrow4.block w2.heap.size (by simp) (fun e => by have := hown _ e.symm; omega)).trans HX.out; obtain ⟨d0, d1, d2, d3⟩ := hX4.cells; have hB4 := HB2.out.grown hgrow4 hsz2 (fun x hx => (HR2.out.lt x hx).1); clear hX4 hgrow4)
            go_roundw
            case rel => exact ⟨q, pre ++ [⟨kd, ⟨#[]⟩, wd, lf⟩], by omega, by go_num, by rw [kind_snoc, if_neg h0, List.length_append]; simp; omega, Lib.hid (by rw [kind_snoc, if_neg h0]; exact hrow4), Lib.hid (its_step HI.out HN.out), Lib.hid hB4⟩
            case measure => simp [intOf]; omega
      · have hcb : (bt f k != 37) = true := by simpa using hc
        have HN := Lib.hid (its_lit hlt hc)
        go_wp2_with fail
        go_roundw
        case rel => exact ⟨k + 1, pre ++ [⟨0, f.extract k (k + 1), 0, false⟩], by omega, by go_num, by rw [kind_snoc, if_pos rfl, List.append_nil]; omega, Lib.hid (by rw [kind_snoc, if_pos rfl, List.append_nil]; exact HR.out), Lib.hid (its_step HI.out HN.out), HB⟩
        case measure => simp [intOf]; omega
    · have HN := Lib.hid (its_end hlt)
      obtain rfl : k = f.size := by omega
      have hcv := rowB_conv HR.out
      have HK := Lib.hid (kinds_some (l := pre) hz (by rw [HI.out, HN.out]; simp))
      clear hlt
      go_wp2_with (first | rw [hcv] | fail)
      go_ret
      exact ⟨by rw [HK.out]; rfl, HB.out⟩

end Go.Proofs.YtofinndkbjcgbaaDoor.Strs
