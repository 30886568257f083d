/-
  What follows a % in a format, of the model: with a sign.
-/
import Derived.Test.YthaedmldlenhgaaGreatDoorPlcBase
namespace Go.Proofs.YthaedmldlenhgaaGreatDoor.Strs
open Go.ChangeShapes Go.WideShapes Go.ChangeAt Go.RowKit Go.PlainAid
open Go.Proofs.YthaedmldlenhgaaGreatDoor.Dec Go.Proofs.YthaedmldlenhgaaGreatDoor.Cell
open Go.Proofs.YthaedmldlenhgaaGreatDoor.DecPure Go.Proofs.YthaedmldlenhgaaGreatDoor.ReadPure
set_option linter.unusedVariables false

set_option maxRecDepth 100000 in
set_option maxHeartbeats 40000000 in
theorem place_minus (f : ByteArray) (a : Nat) (ha : a < f.size) (hf : f.size ≤ 1048576) (h1 : a + 1 < f.size) (c1 : bt f (a + 1) ≠ 37) (c2 : bt f (a + 1) = 45) (w : World) : Calls Tryz.prog 32 #[.string f, .int .i64 a] w (PlcEnd (plc f a) w) := by
  have hb := get_bt f
  have b0 := bt_nonneg f (a + 1)
  have b1 := bt_le f (a + 1)
  have h1i : (a : Int) + 1 < (f.size : Int) := by omega
  have c1b : (bt f (a + 1) == 37) = false := by simpa using c1
  have HE : Hid (plc f a = plE f (plD f 2 (a + 2) 0) true) := Lib.hid (by unfold plc; rw [if_neg (fun q => c1 q.2), if_pos ⟨h1, c2⟩])
  have hxn : PB ((w.alloc (.cells #[.int .u8 0, .int .i64 0, .bool false, .int .i64 0] 70)).alloc (.cells #[.int .u8 0, .int .i64 0, .bool true, .int .i64 0] 70)) (w.heap.size + 1) 0 0 true 0 := by
    have := PB.new (w.alloc (.cells #[.int .u8 0, .int .i64 0, .bool false, .int .i64 0] 70)) 0 0 true 0
    simpa using this
  have hrn := (PB.new w 0 0 false 0).alloc (.cells #[.int .u8 0, .int .i64 0, .bool true, .int .i64 0] 70)
  have HX0 := Lib.hid hxn
  have HR0 := Lib.hid hrn
  have HB0 : Hid (Below w.heap.size w ((w.alloc (.cells #[.int .u8 0, .int .i64 0, .bool false, .int .i64 0] 70)).alloc (.cells #[.int .u8 0, .int .i64 0, .bool true, .int .i64 0] 70))) := ((Below.refl w.heap.size w).alloc (Nat.le_refl _) _).alloc (by simp) _
  clear hxn hrn
  go_enter Tryz.func32, Tryz.ntmps32
  go_wp2_with fail
  obtain ⟨k0, hk0e⟩ : ∃ k0 : Nat, k0 = a + 2 := ⟨_, rfl⟩
  have HK0 : Hid (((a : Int) + 1 + 1) = (k0 : Int)) := Lib.hid (by omega)
  have hk0 : k0 ≤ f.size := by omega
  have EE : Hid (plc f a = plE f (plD f 2 k0 0) true) := Lib.hid (by rw [hk0e]; exact HE.out)
  go_loopw [6, 7] (fun i c wr => ∃ (m k : Nat) (v : Int), m ≤ 2 ∧ i = .int .i64 k ∧ c = .int .i64 ((2 - m : Nat) : Int) ∧ k ≤ f.size ∧ Hid (plD f m k v = plD f 2 k0 0) ∧ (0 ≤ v ∧ v ≤ 99 ∧ (m = 1 → v ≤ 9) ∧ (m = 2 → v = 0)) ∧ Hid (PB wr (w.heap.size + 1) 0 v true 0) ∧ Hid (PB wr w.heap.size 0 0 false 0) ∧ Hid (Below w.heap.size w wr)) (fun _ c _ => 2 - (intOf c).toNat)
  case atStart => exact ⟨2, k0, 0, Nat.le_refl _, by rw [HK0.out], rfl, hk0, rfl, ⟨by omega, by omega, by omega, fun _ => rfl⟩, HX0, HR0, HB0⟩
  case round =>
    obtain ⟨m, k, v, hm, rfl, rfl, hk1, HP, hv, HX, HR, HB⟩ := hrel
    obtain ⟨hv0, hv99, hv1, hv2⟩ := hv
    by_cases h0 : m = 0
    · subst h0
      have hst := plD_stop (f := f) (m := 0) (k := k) (v := v) (.inl rfl)
      by_cases hk : k < f.size
      · have b0 := bt_nonneg f k
        have b1 := bt_le f k
        have hki : (k : Int) < (f.size : Int) := by omega
        by_cases hc : bt f k = 100
        · have E : Hid (plE f (plD f 2 k0 0) true = ⟨100, v, true, (k : Int) + 1⟩) := Lib.hid (by rw [← HP.out, hst]; unfold plE; rw [if_pos ⟨hk, .inl hc⟩, hc])
          obtain ⟨c0, c1, c2, c3⟩ := HX.out.cells
          obtain ⟨d0, d1, d2, d3⟩ := HR.out.cells
          have n0 := HX.out.marks 0
          have n3 := HX.out.marks 3
          have m0 := HR.out.marks 0
          have m1 := HR.out.marks 1
          have m2 := HR.out.marks 2
          have m3 := HR.out.marks 3
          have HR2 := Lib.hid ((HR.out.other (h := w.heap.size + 1) (by omega) 0 (.int .u8 100)).other (h := w.heap.size + 1) (by omega) 3 (.int .i64 ((k : Int) + 1)))
          go_wp2_with fail
          exact bodyPost_ret ((HR2.out.all _ _ _ _).results rfl rfl) rfl ⟨by rw [EE.out, E.out]; rfl, below_all (((HB.out.setCell (by simp) _).setCell (by simp) _)) (Nat.le_refl _) _ _ _ _⟩
        by_cases hc' : bt f k = 115
        · have hcd : (bt f k == 100) = false := by simpa using hc
          clear hc
          rename bt f k = 115 => hc
          have E : Hid (plE f (plD f 2 k0 0) true = ⟨115, v, true, (k : Int) + 1⟩) := Lib.hid (by rw [← HP.out, hst]; unfold plE; rw [if_pos ⟨hk, .inr hc⟩, hc])
          obtain ⟨c0, c1, c2, c3⟩ := HX.out.cells
          obtain ⟨d0, d1, d2, d3⟩ := HR.out.cells
          have n0 := HX.out.marks 0
          have n3 := HX.out.marks 3
          have m0 := HR.out.marks 0
          have m1 := HR.out.marks 1
          have m2 := HR.out.marks 2
          have m3 := HR.out.marks 3
          have HR2 := Lib.hid ((HR.out.other (h := w.heap.size + 1) (by omega) 0 (.int .u8 115)).other (h := w.heap.size + 1) (by omega) 3 (.int .i64 ((k : Int) + 1)))
          go_wp2_with fail
          exact bodyPost_ret ((HR2.out.all _ _ _ _).results rfl rfl) rfl ⟨by rw [EE.out, E.out]; rfl, below_all (((HB.out.setCell (by simp) _).setCell (by simp) _)) (Nat.le_refl _) _ _ _ _⟩
        have hcd : (bt f k == 100) = false := by simpa using hc
        have hcd2 : (bt f k == 115) = false := by simpa using hc'
        have E : Hid (plE f (plD f 2 k0 0) true = ⟨0, v, true, 0⟩) := Lib.hid (by rw [← HP.out, hst]; unfold plE; rw [if_neg]; exact fun q => q.2.elim hc hc')
        obtain ⟨c0, c1, c2, c3⟩ := HX.out.cells
        obtain ⟨d0, d1, d2, d3⟩ := HR.out.cells
        have n0 := HX.out.marks 0
        have n3 := HX.out.marks 3
        have m0 := HR.out.marks 0
        have m1 := HR.out.marks 1
        have m2 := HR.out.marks 2
        have m3 := HR.out.marks 3
        have HR2 := Lib.hid (HR.out)
        go_wp2_with fail
        exact bodyPost_ret ((HR2.out.all _ _ _ _).results rfl rfl) rfl ⟨by rw [EE.out, E.out]; rfl, below_all (HB.out) (Nat.le_refl _) _ _ _ _⟩
      · have hki : ¬ (k : Int) < (f.size : Int) := by omega
        have hkd : decide (k < f.size) = false := by simpa using hk
        have E : Hid (plE f (plD f 2 k0 0) true = ⟨0, v, true, 0⟩) := Lib.hid (by rw [← HP.out, hst]; unfold plE; rw [if_neg]; exact fun q => hk q.1)
        obtain ⟨c0, c1, c2, c3⟩ := HX.out.cells
        obtain ⟨d0, d1, d2, d3⟩ := HR.out.cells
        have n0 := HX.out.marks 0
        have n3 := HX.out.marks 3
        have m0 := HR.out.marks 0
        have m1 := HR.out.marks 1
        have m2 := HR.out.marks 2
        have m3 := HR.out.marks 3
        have HR2 := Lib.hid (HR.out)
        go_wp2_with fail
        exact bodyPost_ret ((HR2.out.all _ _ _ _).results rfl rfl) rfl ⟨by rw [EE.out, E.out]; rfl, below_all (HB.out) (Nat.le_refl _) _ _ _ _⟩
    · have hmi : ((2 - m : Nat) : Int) < 2 := by omega
      by_cases hk : k < f.size
      · have b0 := bt_nonneg f k
        have b1 := bt_le f k
        have hki : (k : Int) < (f.size : Int) := by omega
        cases hd : dgB (bt f k) with
        | true =>
          obtain ⟨m, rfl⟩ : ∃ q, m = q + 1 := ⟨m - 1, by omega⟩
          have hon := plD_on (m := m) (v := v) hk hd
          have HP2 : Hid (plD f m (k + 1) (10 * v + (bt f k - 48)) = plD f 2 k0 0) := Lib.hid (by rw [← HP.out, hon])
          have hdr := dgB_yes hd
          have hsb : bt f k - 48 ≤ 255 := by omega
          have hmk : (2 - (m + 1) : Nat) + 1 = 2 - m := by omega
          have hdig := spec_digit (bt f k) b0 b1
          rw [hd] at hdig
          have HD := Lib.hid hdig
          obtain ⟨c0, c1, c2, c3⟩ := HX.out.cells
          have m1 := HX.out.marks 1
          clear hon hd hdig
          go_wp2_with (go_at_call 66; refine (HD.out _).mono ?_; rintro e w' ⟨rfl, rfl⟩)
          go_region_with (fail)
          all_goals
            go_wp2_with fail
            go_roundw
            case rel => exact ⟨m, k + 1, 10 * v + (bt f k - 48), by omega, by go_num, by go_num, by omega, HP2, ⟨by omega, by omega, by omega, by omega⟩, Lib.hid (HX.out.set1 _), Lib.hid (HR.out.other (by omega) _ _), Lib.hid (HB.out.setCell (by simp) _).drew⟩
            case measure => simp [intOf]; omega
        | false =>
          have hst := plD_stop (f := f) (m := m) (k := k) (v := v) (.inr (.inr hd))
          have hdig := spec_digit (bt f k) b0 b1
          rw [hd] at hdig
          have HD := Lib.hid hdig
          clear hd hdig
          have hki : (k : Int) < (f.size : Int) := by omega
          by_cases hc : bt f k = 100
          · have E : Hid (plE f (plD f 2 k0 0) true = ⟨100, v, true, (k : Int) + 1⟩) := Lib.hid (by rw [← HP.out, hst]; unfold plE; rw [if_pos ⟨hk, .inl hc⟩, hc])
            have hdq := HD.out
            rw [hc] at hdq
            clear HD
            have HD := Lib.hid hdq
            clear hdq
            obtain ⟨c0, c1, c2, c3⟩ := HX.out.cells
            obtain ⟨d0, d1, d2, d3⟩ := HR.out.cells
            have n0 := HX.out.marks 0
            have n3 := HX.out.marks 3
            have m0 := HR.out.marks 0
            have m1 := HR.out.marks 1
            have m2 := HR.out.marks 2
            have m3 := HR.out.marks 3
            have HR2 := Lib.hid ((HR.out.other (h := w.heap.size + 1) (by omega) 0 (.int .u8 100)).other (h := w.heap.size + 1) (by omega) 3 (.int .i64 ((k : Int) + 1)))
            go_wp2_with (go_at_call 66; refine (HD.out _).mono ?_; rintro e w' ⟨rfl, rfl⟩)
            exact bodyPost_ret ((HR2.out.all _ _ _ _).results rfl rfl) rfl ⟨by rw [EE.out, E.out]; rfl, below_all (((HB.out.setCell (by simp) _).setCell (by simp) _)) (Nat.le_refl _) _ _ _ _⟩
          by_cases hc' : bt f k = 115
          · have hcd : (bt f k == 100) = false := by simpa using hc
            clear hc
            rename bt f k = 115 => hc
            have E : Hid (plE f (plD f 2 k0 0) true = ⟨115, v, true, (k : Int) + 1⟩) := Lib.hid (by rw [← HP.out, hst]; unfold plE; rw [if_pos ⟨hk, .inr hc⟩, hc])
            have hdq := HD.out
            rw [hc] at hdq
            clear HD
            have HD := Lib.hid hdq
            clear hdq
            obtain ⟨c0, c1, c2, c3⟩ := HX.out.cells
            obtain ⟨d0, d1, d2, d3⟩ := HR.out.cells
            have n0 := HX.out.marks 0
            have n3 := HX.out.marks 3
            have m0 := HR.out.marks 0
            have m1 := HR.out.marks 1
            have m2 := HR.out.marks 2
            have m3 := HR.out.marks 3
            have HR2 := Lib.hid ((HR.out.other (h := w.heap.size + 1) (by omega) 0 (.int .u8 115)).other (h := w.heap.size + 1) (by omega) 3 (.int .i64 ((k : Int) + 1)))
            go_wp2_with (go_at_call 66; refine (HD.out _).mono ?_; rintro e w' ⟨rfl, rfl⟩)
            exact bodyPost_ret ((HR2.out.all _ _ _ _).results rfl rfl) rfl ⟨by rw [EE.out, E.out]; rfl, below_all (((HB.out.setCell (by simp) _).setCell (by simp) _)) (Nat.le_refl _) _ _ _ _⟩
          have hcd : (bt f k == 100) = false := by simpa using hc
          have hcd2 : (bt f k == 115) = false := by simpa using hc'
          have E : Hid (plE f (plD f 2 k0 0) true = ⟨0, v, true, 0⟩) := Lib.hid (by rw [← HP.out, hst]; unfold plE; rw [if_neg]; exact fun q => q.2.elim hc hc')
          obtain ⟨c0, c1, c2, c3⟩ := HX.out.cells
          obtain ⟨d0, d1, d2, d3⟩ := HR.out.cells
          have n0 := HX.out.marks 0
          have n3 := HX.out.marks 3
          have m0 := HR.out.marks 0
          have m1 := HR.out.marks 1
          have m2 := HR.out.marks 2
          have m3 := HR.out.marks 3
          have HR2 := Lib.hid (HR.out)
          go_wp2_with (go_at_call 66; refine (HD.out _).mono ?_; rintro e w' ⟨rfl, rfl⟩)
          exact bodyPost_ret ((HR2.out.all _ _ _ _).results rfl rfl) rfl ⟨by rw [EE.out, E.out]; rfl, below_all (HB.out) (Nat.le_refl _) _ _ _ _⟩
      · have hst := plD_stop (f := f) (m := m) (k := k) (v := v) (.inr (.inl hk))
        have hki : ¬ (k : Int) < (f.size : Int) := by omega
        have hkd : decide (k < f.size) = false := by simpa using hk
        have E : Hid (plE f (plD f 2 k0 0) true = ⟨0, v, true, 0⟩) := Lib.hid (by rw [← HP.out, hst]; unfold plE; rw [if_neg]; exact fun q => hk q.1)
        obtain ⟨c0, c1, c2, c3⟩ := HX.out.cells
        obtain ⟨d0, d1, d2, d3⟩ := HR.out.cells
        have n0 := HX.out.marks 0
        have n3 := HX.out.marks 3
        have m0 := HR.out.marks 0
        have m1 := HR.out.marks 1
        have m2 := HR.out.marks 2
        have m3 := HR.out.marks 3
        have HR2 := Lib.hid (HR.out)
        go_wp2_with fail
        exact bodyPost_ret ((HR2.out.all _ _ _ _).results rfl rfl) rfl ⟨by rw [EE.out, E.out]; rfl, below_all (HB.out) (Nat.le_refl _) _ _ _ _⟩


end Go.Proofs.YthaedmldlenhgaaGreatDoor.Strs
