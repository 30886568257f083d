/-
  Places of the model.
  PlaceKinds of the model.
-/
import Derived.Test.YthaedmldlenhgaaGreatDoorPures
import Derived.Test.YthaedmldlenhgaaGreatDoorFmtFacts
import Derived.Test.YthaedmldlenhgaaGreatDoorPlcSpec
import Derived.Test.YthaedmldlenhgaaGreatDoorRowB
namespace Go.Proofs.YthaedmldlenhgaaGreatDoor.Strs
open Go.ChangeShapes Go.WideShapes Go.ChangeAt Go.RowKit Go.PlainAid
open Go.Proofs.YthaedmldlenhgaaGreatDoor.Dec
open Go.Proofs.YthaedmldlenhgaaGreatDoor.DecPure Go.Proofs.YthaedmldlenhgaaGreatDoor.ReadPure
set_option linter.unusedVariables false


set_option maxRecDepth 100000 in
set_option maxHeartbeats 8000000 in
theorem spec_places (f : ByteArray) (hf : f.size ≤ 1048576) (w : World) : Calls Tryz.prog 30 #[.string f] w (PlsEnd (placesP f) w) := by
  have hb := get_bt f
  by_cases hz : 500 < f.size
  · have E : Hid (placesP f = (0, false)) := Lib.hid (by unfold placesP; rw [if_pos hz])
    have hzi : (500 : Int) < (f.size : Int) := by omega
    go_enter Tryz.func30, Tryz.ntmps30
    go_wp2_with fail
    go_ret2
    exact ⟨by rw [E.out]; rfl, Below.refl _ _⟩
  have hzi : ¬ (500 : Int) < (f.size : Int) := by omega
  have hzn : decide (500 < f.size) = false := by simpa using hz
  go_enter Tryz.func30, Tryz.ntmps30
  go_wp2_with fail
  go_loopw [4, 5] (fun n i wr => ∃ (k c : Nat) (pre : List It), k ≤ f.size ∧ i = .int .i64 k ∧ n = .int .i64 c ∧ Hid (c = nCv pre) ∧ c ≤ k ∧ Hid (its f 0 = (its f k).map (pre ++ ·)) ∧ Hid (Below w.heap.size w wr)) (fun _ i _ => f.size - (intOf i).toNat)
  case atStart => exact ⟨0, 0, [], Nat.zero_le _, rfl, rfl, rfl, Nat.le_refl _, Lib.hid (by simp), Below.refl _ _⟩
  case round =>
    obtain ⟨k, c, pre, hk, rfl, rfl, HC, hck, HI, HB⟩ := hrel
    have hbz := HB.out.size
    by_cases hlt : k < f.size
    · have b0 := bt_nonneg f k
      have b1 := bt_le f k
      have hki : (k : Int) < (f.size : Int) := by omega
      by_cases hc : bt f k = 37
      · have hcb : (bt f k == 37) = true := by rw [hc]; rfl
        have hcn : (bt f k != 37) = false := by rw [hc]; rfl
        have hpl := spec_place f k hlt hf wr
        have hfact := plc_fact (f := f) hlt
        have hbad := its_bad hlt hc
        have hpct := its_pct hlt hc
        have hcv := its_cv hlt hc
        rcases hpe : plc f k with ⟨kd, wd, lf, st⟩
        rw [hpe] at hpl hfact hbad hpct hcv
        unfold PlcEnd Plc.val at hpl
        simp only at hpl hfact hbad hpct hcv
        have HPL := Lib.hid hpl; clear hpl hpe
        rcases hfact with h0 | ⟨hkd, h1, h2, h3, h4⟩
        · subst h0
          have HN := Lib.hid (hbad rfl)
          clear hbad hpct hcv
          go_wp2_with fail
          refine HPL.out.mono ?_
          rintro e w2 ⟨rfl, hB⟩
          have HX := Lib.hid (PB.new w2 0 wd lf st)
          obtain ⟨c0, c1, c2, c3⟩ := HX.out.cells
          have hB2 := HB.out.trans (hB.mono hbz)
          have HB2 := Lib.hid (hB2.alloc hB2.size (.cells #[.int .u8 0, .int .i64 wd, .bool lf, .int .i64 st] 70))
          clear hB hB2
          go_wp2_with fail
          go_ret2
          exact ⟨by rw [pls_none hz (by rw [HI.out, HN.out]; rfl)]; rfl, HB2.out⟩
        · obtain ⟨q, rfl⟩ : ∃ q : Nat, st = (q : Int) := ⟨st.toNat, by omega⟩
          rw [Int.toNat_natCast] at hpct hcv
          have hq1 : (q : Int) - 1 + 1 = (q : Int) := by omega
          by_cases hpc : kd = 37
          · subst hpc
            have HN := Lib.hid (hpct rfl)
            clear hbad hpct hcv hkd
            go_wp2_with fail
            refine HPL.out.mono ?_
            rintro e w2 ⟨rfl, hB⟩
            have HX := Lib.hid (PB.new w2 37 wd lf q)
            obtain ⟨c0, c1, c2, c3⟩ := HX.out.cells
            have hB2 := HB.out.trans (hB.mono hbz)
            have HB2 := Lib.hid (hB2.alloc hB2.size (.cells #[.int .u8 37, .int .i64 wd, .bool lf, .int .i64 (q : Int)] 70))
            clear hB hB2
            go_wp2_with fail
            go_roundw
            case rel => exact ⟨q, c, pre ++ [⟨0, ⟨#[37]⟩, 0, false⟩], by omega, by go_num, rfl, Lib.hid (by rw [cv_snoc, if_pos rfl]; exact HC.out), by omega, Lib.hid (its_step HI.out HN.out), HB2⟩
            case measure => simp [intOf]; omega
          · have h0 : kd ≠ 0 := by omega
            have HN := Lib.hid (hcv h0 hpc)
            have k0 : (kd == 0) = false := by simpa using h0
            have k1 : (kd == 37) = false := by simpa using hpc
            have k2 : (kd != 37) = true := by simpa using hpc
            clear hbad hpct hcv
            go_wp2_with fail
            refine HPL.out.mono ?_
            rintro e w2 ⟨rfl, hB⟩
            have HX := Lib.hid (PB.new w2 kd wd lf q)
            obtain ⟨c0, c1, c2, c3⟩ := HX.out.cells
            have hB2 := HB.out.trans (hB.mono hbz)
            have HB2 := Lib.hid (hB2.alloc hB2.size (.cells #[.int .u8 kd, .int .i64 wd, .bool lf, .int .i64 (q : Int)] 70))
            clear hB hB2
            go_wp2_with fail
            go_roundw
            case rel => exact ⟨q, c + 1, pre ++ [⟨kd, ⟨#[]⟩, wd, lf⟩], by omega, by go_num, by go_num, Lib.hid (by rw [cv_snoc, if_neg h0, ← HC.out]), by omega, Lib.hid (its_step HI.out HN.out), HB2⟩
            case measure => simp [intOf]; omega
      · have hcb : (bt f k == 37) = false := by simpa using hc
        have HN := Lib.hid (its_lit hlt hc)
        go_wp2_with fail
        go_roundw
        case rel => exact ⟨k + 1, c, pre ++ [⟨0, f.extract k (k + 1), 0, false⟩], by omega, by go_num, rfl, Lib.hid (by rw [cv_snoc, if_pos rfl]; exact HC.out), by omega, Lib.hid (its_step HI.out HN.out), HB⟩
        case measure => simp [intOf]; omega
    · have HN := Lib.hid (its_end hlt)
      obtain rfl : k = f.size := by omega
      clear hlt
      go_wp2_with fail
      go_ret2
      exact ⟨by rw [pls_some (l := pre) hz (by rw [HI.out, HN.out]; simp), ← HC.out]; rfl, HB.out⟩

def szV : Value → Nat
  | .string s => s.size
  | _ => 0
theorem pad_left (s : ByteArray) (j : Nat) : s ++ blS j ++ ⟨#[32]⟩ = s ++ blS (j + 1) := by
  rw [← bl_app j 1]
  apply ByteArray.ext
  simp [ByteArray.data_append, blS]
theorem pad_right (s : ByteArray) (j : Nat) : (⟨#[32]⟩ : ByteArray) ++ (blS j ++ s) = blS (j + 1) ++ s := by
  rw [Nat.add_comm j 1, ← bl_app 1 j]
  apply ByteArray.ext
  simp [ByteArray.data_append, blS]

set_option maxRecDepth 100000 in
set_option maxHeartbeats 2000000 in
theorem spec_pad (s : ByteArray) (kd wd : Int) (lf : Bool) (st : Int) (hs : s.size ≤ 1048576) (hw : 0 ≤ wd ∧ wd ≤ 99) (w : World) :
    Calls Tryz.prog 33 #[.string s, .agg #[.int .u8 kd, .int .i64 wd, .bool lf, .int .i64 st]] w fun e w' => e = .returned (.string (padP s wd lf)) ∧ Below w.heap.size w w' := by
  obtain ⟨W, rfl⟩ := Int.eq_ofNat_of_zero_le hw.1
  have hW : W ≤ 99 := by omega
  have HX := Lib.hid (PB.new w kd W lf st)
  obtain ⟨c0, c1, c2, c3⟩ := HX.out.cells
  have HB := Lib.hid ((Below.refl w.heap.size w).alloc (Nat.le_refl _) (.cells #[.int .u8 kd, .int .i64 (W : Int), .bool lf, .int .i64 st] 70))
  clear hw
  go_enter Tryz.func33, Tryz.ntmps33
  go_wp2_with fail
  generalize w.alloc (.cells #[.int .u8 kd, .int .i64 (W : Int), .bool lf, .int .i64 st] 70) = w1 at *
  cases lf with
  | true =>
    go_loop [0] (fun v => ∃ j : Nat, v = .string (s ++ blS j) ∧ (j = 0 ∨ s.size + j ≤ W)) (fun v => W - szV v)
    case atStart => exact ⟨0, by congr 1; apply ByteArray.ext; simp [ByteArray.data_append, blS], .inl rfl⟩
    case round =>
      obtain ⟨j, rfl, hj⟩ := hrel
      have hyz : (s ++ blS j).size = s.size + j := by rw [ByteArray.size_append, blS_size]
      have hst := pad_left s j
      have hp : padP s W true = s ++ blS (W - s.size) := by unfold padP; rw [if_pos rfl, Int.toNat_natCast]
      have HP := Lib.hid hp; clear hp
      by_cases hlt : s.size + j < W
      · have HZ := Lib.hid hyz
        generalize hy : s ++ blS j = y at *
        have hyi : (y.size : Int) < (W : Int) := by omega
        have hy2 : y.size ≤ 1048576 := by omega
        have HST := Lib.hid hst
        clear hst hyz hy
        go_wp2_with fail
        go_round
        case rel => exact ⟨j + 1, by rw [HST.out], by omega⟩
        case measure =>
          have h1 := HZ.out
          show W - (y ++ ⟨#[32]⟩ : ByteArray).size < W - y.size
          rw [ByteArray.size_append]
          have : (⟨#[32]⟩ : ByteArray).size = 1 := rfl
          omega
      · have e : Hid (padP s W true = s ++ blS j) := Lib.hid (by rw [HP.out, show W - s.size = j by omega])
        generalize s ++ blS j = y at *
        have hyi : ¬ (y.size : Int) < (W : Int) := by omega
        have hyd : decide (y.size < W) = false := decide_eq_false (by omega)
        clear hst
        go_wp2_with fail
        go_ret
        exact ⟨by rw [e.out]; rfl, HB.out⟩
  | false =>
    go_loop [0] (fun v => ∃ j : Nat, v = .string (blS j ++ s) ∧ (j = 0 ∨ s.size + j ≤ W)) (fun v => W - szV v)
    case atStart => exact ⟨0, by congr 1, .inl rfl⟩
    case round =>
      obtain ⟨j, rfl, hj⟩ := hrel
      have hyz : (blS j ++ s).size = s.size + j := by rw [ByteArray.size_append, blS_size]; omega
      have hst := pad_right s j
      have hp : padP s W false = blS (W - s.size) ++ s := by unfold padP; rw [if_neg (by simp), Int.toNat_natCast]
      have HP := Lib.hid hp; clear hp
      by_cases hlt : s.size + j < W
      · have HZ := Lib.hid hyz
        generalize hy : blS j ++ s = y at *
        have hyi : (y.size : Int) < (W : Int) := by omega
        have hy2 : y.size ≤ 1048576 := by omega
        have HST := Lib.hid hst
        clear hst hyz hy
        go_wp2_with fail
        go_round
        case rel => exact ⟨j + 1, by rw [HST.out], by omega⟩
        case measure =>
          have h1 := HZ.out
          show W - ((⟨#[32]⟩ : ByteArray) ++ y).size < W - y.size
          rw [ByteArray.size_append]
          have : (⟨#[32]⟩ : ByteArray).size = 1 := rfl
          omega
      · have e : Hid (padP s W false = blS j ++ s) := Lib.hid (by rw [HP.out, show W - s.size = j by omega])
        generalize blS j ++ s = y at *
        have hyi : ¬ (y.size : Int) < (W : Int) := by omega
        have hyd : decide (y.size < W) = false := decide_eq_false (by omega)
        clear hst
        go_wp2_with fail
        go_ret
        exact ⟨by rw [e.out]; rfl, HB.out⟩

end Go.Proofs.YthaedmldlenhgaaGreatDoor.Strs

namespace Go.Proofs.YthaedmldlenhgaaGreatDoor.Strs
open Go.ChangeShapes Go.WideShapes Go.ChangeAt Go.RowKit Go.PlainAid
open Go.Proofs.YthaedmldlenhgaaGreatDoor.Dec Go.Proofs.YthaedmldlenhgaaGreatDoor.Cell
open Go.Proofs.YthaedmldlenhgaaGreatDoor.DecPure Go.Proofs.YthaedmldlenhgaaGreatDoor.ReadPure
set_option linter.unusedVariables false


end Go.Proofs.YthaedmldlenhgaaGreatDoor.Strs
