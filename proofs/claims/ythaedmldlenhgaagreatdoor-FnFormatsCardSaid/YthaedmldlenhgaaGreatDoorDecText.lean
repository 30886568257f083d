/-
  What DecText of the program and of its model return: the same text.
-/
import Derived.Test.YthaedmldlenhgaaGreatDoorFmt
import Derived.Test.YthaedmldlenhgaaGreatDoorPures
import Derived.Test.YthaedmldlenhgaaGreatDoorText
import Derived.Laws.Concat
namespace Go.Proofs.YthaedmldlenhgaaGreatDoor.Dec
open Go.ChangeShapes Go.WideShapes Go.ChangeAt Go.RowKit
open Go.Proofs.YthaedmldlenhgaaGreatDoor.DecPure Go.Proofs.YthaedmldlenhgaaGreatDoor.TextPure Go.Proofs.YthaedmldlenhgaaGreatDoor.Fmt
set_option linter.unusedVariables false

def Tables (w : World) : Prop := Lib.TabIs Tryz.prog w "internal/strconv.uint64pow10" .u64 Lib.pow10Tab
/-- A text of at most so many bytes is returned; only new blocks come. -/
def StrEnd (m : Nat) (s0 : ByteArray) (w : World) (e : Ending) (w' : World) : Prop := ∃ s : ByteArray, e = .returned (.string s) ∧ s = s0 ∧ s.size ≤ m ∧ Below w.heap.size w w'

theorem dec_text (n : Int) (hn : dOk n = true) (w : World) (htab : Tables w) : Calls Tryz.prog 139 #[.int .i64 n] w fun e w' => e = .returned (.string (textB n)) ∧ Below w.heap.size w w' := by
  have ha := absV_bd hn
  have HN := Lib.hid hn; clear hn
  have HT := Lib.hid htab; clear htab
  obtain ⟨u, hu⟩ := Int.eq_ofNat_of_zero_le (show 0 ≤ absV n / 1000000 by omega)
  have hbn : u ≤ 9000000 := by omega
  have hfm : Calls Tryz.prog 186 #[.int .u64 (absV n / 1000000), .int .i64 10] w (StrEnd 20 (digB u) w) := by
    rw [hu]; exact (fmt_any u (by omega) w HT.out).mono fun e w' ⟨a, b⟩ => ⟨_, a, rfl, digB_size (by omega), b⟩
  have hfr : ∀ W : World, Calls Tryz.prog 188 #[.int .i64 n] W (StrEnd 7 (strOfNums (fracL n)) W) := fun W =>
    (frac_text n HN.out W).mono fun e w' ⟨a, b⟩ => ⟨_, a, rfl, fracL_size n, b⟩
  have HFM := Lib.hid hfm; clear hfm
  have HFR := Lib.hid hfr; clear hfr
  have hun : u = (absV n / 1000000).toNat := by omega
  have HU := Lib.hid hun; clear hun hu
  by_cases h0 : n < 0
  · have ht : textB n = ⟨#[45]⟩ ++ digB u ++ strOfNums (fracL n) := by rw [textB, if_pos h0, HU.out]
    have HX := Lib.hid ht; clear ht
    go_enter Tryz.func139, Tryz.ntmps139
    go_wp2_with fail
    refine (dec_size _ HN.out _).mono ?_
    rintro e w' ⟨rfl, rfl⟩
    go_wp2_with fail
    refine HFM.out.mono ?_
    rintro e w1 ⟨s1, rfl, hs1, hz1, hB1⟩
    have HS1 := Lib.hid hs1; clear hs1
    go_wp2_with fail
    refine (HFR.out _).mono ?_
    rintro e w2 ⟨s2, rfl, hs2, hz2, hB2⟩
    have HS2 := Lib.hid hs2; clear hs2
    go_wp2_with fail
    go_ret
    exact ⟨strs (by rw [HX.out, HS1.out, HS2.out]), hB1.trans (hB2.mono hB1.size)⟩
  · have ht : textB n = digB u ++ strOfNums (fracL n) := by rw [textB, if_neg h0, HU.out]
    have HX := Lib.hid ht; clear ht
    have hd0 : decide (n < 0) = false := by simpa using h0
    go_enter Tryz.func139, Tryz.ntmps139
    go_wp2_with fail
    refine (dec_size _ HN.out _).mono ?_
    rintro e w' ⟨rfl, rfl⟩
    go_wp2_with fail
    refine HFM.out.mono ?_
    rintro e w1 ⟨s1, rfl, hs1, hz1, hB1⟩
    have HS1 := Lib.hid hs1; clear hs1
    go_wp2_with fail
    refine (HFR.out _).mono ?_
    rintro e w2 ⟨s2, rfl, hs2, hz2, hB2⟩
    have HS2 := Lib.hid hs2; clear hs2
    go_wp2_with fail
    go_ret
    exact ⟨strs (by rw [HX.out, HS1.out, HS2.out, join_nil]), hB1.trans (hB2.mono hB1.size)⟩

theorem impl_text (n : Int) (w : World) (htab : Tables w) : Calls Tryz.prog 94 #[.int .i64 n] w fun e w' => e = .returned (.string (dtB n)) ∧ Below w.heap.size w w' := by
  by_cases h : dOk n = true
  · have ht : dtB n = textB n := by rw [dtB, if_pos h]
    have HX := Lib.hid ht; clear ht
    have HC := Lib.hid (dec_text n h w htab); clear htab
    go_enter Tryz.func94, Tryz.ntmps94
    go_wp2_with (first | (go_at_call 137; refine (impl_ok _ _).mono ?_; rintro e w' ⟨rfl, rfl⟩) | (go_at_call 139; refine HC.out.mono ?_; rintro e w' ⟨rfl, hB⟩))
    go_ret
    exact ⟨strs (by rw [HX.out]), hB⟩
  · have ht : dtB n = ⟨#[]⟩ := by rw [dtB, if_neg h]
    have HX := Lib.hid ht; clear ht
    have hf := no_eq h
    clear h htab
    go_enter Tryz.func94, Tryz.ntmps94
    go_wp2_with (first | (go_at_call 137; refine (impl_ok _ _).mono ?_; rintro e w' ⟨rfl, rfl⟩))
    go_ret
    exact ⟨strs HX.out.symm, Below.refl _ _⟩

set_option maxRecDepth 100000 in
set_option maxHeartbeats 1000000 in
theorem spec_dec (m : Nat) : ∀ (n : Nat) (w : World), n ≤ m → n < 9223372036854775807 → Calls Tryz.prog 67 #[.int .i64 n] w (StrEnd 20 (digB n) w) := by
  induction m with
  | zero =>
    intro n w hm hn
    obtain rfl : n = 0 := by omega
    have hcv := run_convert_bytes_arg (P := Tryz.prog) (w.alloc (.cells #[.int .u8 48] 5)) 22 5 Tryz.underlying22 Tryz.underlying5 w.heap.size 0 1 1 [48] rfl (fun i hi => by
      obtain rfl : i = 0 := by omega
      rw [World.cell?_alloc_new]; rfl) 9 Tryz.underlying9
    obtain ⟨d, hd⟩ : ∃ d, d = strOfNums [48] := ⟨_, rfl⟩
    rw [← hd] at hcv
    have HD := Lib.hid hd; clear hd
    go_enter Tryz.func67, Tryz.ntmps67
    go_wp2_with fail
    go_ret
    exact ⟨d, rfl, by rw [HD.out]; exact (digB_one (i := 0) (by omega)).symm, by rw [HD.out, strOfNums_size]; simp, (Below.refl _ _).alloc (Nat.le_refl _) _⟩
  | succ m ih =>
    intro n w hm hn
    have hcv := run_convert_bytes_arg (P := Tryz.prog) (w.alloc (.cells #[.int .u8 (48 + (n : Int) % 10)] 5)) 22 5 Tryz.underlying22 Tryz.underlying5 w.heap.size 0 1 1 [48 + (n : Int) % 10] rfl (fun i hi => by
      obtain rfl : i = 0 := by omega
      rw [World.cell?_alloc_new]; rfl) 9 Tryz.underlying9
    obtain ⟨d, hd⟩ : ∃ d, d = strOfNums [48 + (n : Int) % 10] := ⟨_, rfl⟩
    rw [← hd] at hcv
    have hdz : d.size ≤ 1 := by rw [hd, strOfNums_size]; simp
    have HD := Lib.hid hd; clear hd
    by_cases h10 : n < 10
    · clear ih
      go_enter Tryz.func67, Tryz.ntmps67
      go_wp2_with fail
      go_ret
      exact ⟨d, rfl, by rw [HD.out, digB_one h10]; congr 2; omega, by omega, (Below.refl _ _).alloc (Nat.le_refl _) _⟩
    · have hI := ih (n / 10) (w.alloc (.cells #[.int .u8 (48 + (n : Int) % 10)] 5)) (by omega) (by omega)
      clear ih
      have e : ((n / 10 : Nat) : Int) = (n : Int) / 10 := by omega
      rw [e] at hI
      clear e
      have HI := Lib.hid hI; clear hI
      have hd10 : decide ((n : Int) < 10) = false := by simp; omega
      go_enter Tryz.func67, Tryz.ntmps67
      go_wp2_with fail
      refine HI.out.mono ?_
      rintro e w1 ⟨s1, rfl, hs1, hz1, hB1⟩
      have HS1 := Lib.hid hs1; clear hs1
      go_wp2_with fail
      go_ret
      exact ⟨s1 ++ d, rfl, by rw [HS1.out, HD.out]; exact digB_more (by omega), by rw [HS1.out, HD.out, digB_more (by omega)]; exact digB_size (by omega), ((Below.refl _ _).alloc (Nat.le_refl _) _).trans (hB1.mono (by simp))⟩

theorem spec_dec_int (m : Int) (h0 : 0 ≤ m) (h1 : m < 9223372036854775807) (w : World) : Calls Tryz.prog 67 #[.int .i64 m] w (StrEnd 20 (digB m.toNat) w) := by
  obtain ⟨k, rfl⟩ := Int.eq_ofNat_of_zero_le h0
  exact spec_dec k k w (Nat.le_refl _) (by omega)

set_option maxHeartbeats 1000000 in
theorem spec_loop (n : Int) (hn : dOk n = true) (hr0 : absV n % 1000000 ≠ 0) (w : World) (sg : Bool) (hsg : decide (n < 0) = sg) : Calls Tryz.prog 35 #[.int .i64 n] w (StrEnd 40 (textB n) w) := by
  have ha := absV_bd hn
  have hh := head_size n hn
  have HN := Lib.hid hn
  have ht : textB n = headB n ++ strOfNums (46 :: fracD 6 (absV n % 1000000)) := by rw [textB_head, fracL, if_neg hr0]
  have HX := Lib.hid ht; clear ht
  have hrb : (absV n % 1000000 == 0) = false := by simpa using hr0
  have hdc := fun W => spec_dec_int (absV n / 1000000) (by omega) (by omega) W
  have HDC := Lib.hid hdc; clear hdc
  have hr : 0 < absV n % 1000000 ∧ absV n % 1000000 < 1000000 := by omega
  clear hr0
  cases sg
  · have hd : headB n = digB (absV n / 1000000).toNat := by rw [headB, if_neg (by simpa using hsg)]
    have HH := Lib.hid hd; clear hd
    go_enter Tryz.func35, Tryz.ntmps35
    go_wp2_with (first | (go_at_call 63; refine (spec_ok _ _).mono ?_; rintro e w' ⟨rfl, rfl⟩) | (go_at_call 68; refine (spec_abs _ HN.out _).mono ?_; rintro e w' ⟨rfl, rfl⟩) | (go_at_call 67; refine (HDC.out _).mono ?_; rintro e w1 ⟨s1, rfl, hs1, hz1, hB1⟩; have HS1 := Lib.hid hs1; clear hs1))
    have HST : Hid (s1 ++ ⟨#[46]⟩ = headB n ++ strOfNums (46 :: [])) := by show _ = _; rw [HH.out, HS1.out]; rfl
    go_loopw [3, 4, 5] (fun v r u wr => ∃ (k : Nat) (t : ByteArray) (q : Int) (acc : List Int), k ≤ 6 ∧ v = .string t ∧ r = .int .i64 q ∧ u = .int .i64 (unT k) ∧ 0 ≤ q ∧ q < 1000000 ∧ t.size ≤ 22 + k ∧ Hid (q * upT k < 1000000 ∧ t = headB n ++ strOfNums (46 :: acc) ∧ acc ++ fracD (6 - k) (q * upT k) = fracD 6 (absV n % 1000000)) ∧ Below w.heap.size w wr)
      (fun _ _ u _ => (intOf u).toNat)
    case atStart => exact ⟨0, _, _, [], by omega, rfl, rfl, rfl, by omega, hr.2, by rw [HST.out, ByteArray.size_append, strOfNums_size]; simp; omega, ⟨by simp [upT]; omega, HST.out, by simp [upT]⟩, hB1⟩
    case round =>
      obtain ⟨k, t, q, acc, hk, rfl, rfl, rfl, hq0, hq1, htz, HI, hB⟩ := hrel
      by_cases hq : 0 < q
      · have hk6 : k < 6 := by
          rcases Nat.lt_or_ge k 6 with h | h
          · exact h
          · obtain rfl : k = 6 := by omega
            have := up_six hq0 HI.out.1; omega
        obtain ⟨e1, e2, e3, e4, e5, e6⟩ := step_unit hk6 hq0 HI.out.1
        have hu := unT_bd hk6
        have hun : unT (k + 1) = unT k / 10 := rfl
        have hne : unT k ≠ 0 := by omega
        have hdg := spec_dec_int (q / unT k) e4 (by omega) wr
        have hdB : digB (q / unT k).toNat = strOfNums [48 + q / unT k] := by
          rw [digB_one (by omega)]; congr 2; omega
        rw [hdB] at hdg
        have hst : acc ++ [48 + q / unT k] ++ fracD (6 - (k + 1)) (q % unT k * upT (k + 1)) = fracD 6 (absV n % 1000000) := by
          have h3 := HI.out.2.2
          rw [show 6 - k = (6 - (k + 1)) + 1 from by omega, fracD_step _ (up_zero hq), e1, e2] at h3
          rw [← h3]; simp
        have hqm : q % unT k < 1000000 := by have := Int.emod_lt_of_pos q (show 0 < unT k by omega); omega
        have HG := Lib.hid hdg; clear hdg
        have HST2 := Lib.hid hst; clear hst hdB e1 e2
        have H3 := Lib.hid e3; clear e3
        have HUN := Lib.hid hun; clear hun
        have hbz := hB.size
        go_wp2_with fail
        refine HG.out.mono ?_
        rintro e w2 ⟨s2, rfl, hs2, _, hB2⟩
        have hz2 : s2.size ≤ 1 := by rw [hs2, strOfNums_size]; simp
        have HS2 := Lib.hid hs2; clear hs2
        go_wp2_with fail
        go_roundw
        case rel => exact ⟨k + 1, t ++ s2, _, acc ++ [48 + q / unT k], by omega, rfl, rfl, by rw [HUN.out], e6, hqm, by rw [ByteArray.size_append]; omega, ⟨H3.out, by rw [HI.out.2.1, HS2.out, join_assoc, join_nums]; rfl, HST2.out⟩, hB.trans (hB2.mono hbz)⟩
        case measure => simp [intOf]; omega
      · obtain rfl : q = 0 := by omega
        have hfin : t = textB n := by
          have h3 := HI.out.2.2
          rw [Int.zero_mul, fracD_zero, List.append_nil] at h3
          rw [HX.out, ← h3]; exact HI.out.2.1
        have HF := Lib.hid hfin; clear hfin
        go_wp2_with fail
        go_ret
        exact ⟨t, rfl, HF.out, by omega, hB⟩
  · have hd : headB n = ⟨#[45]⟩ ++ digB (absV n / 1000000).toNat := by rw [headB, if_pos (by simpa using hsg)]
    have HH := Lib.hid hd; clear hd
    go_enter Tryz.func35, Tryz.ntmps35
    go_wp2_with (first | (go_at_call 63; refine (spec_ok _ _).mono ?_; rintro e w' ⟨rfl, rfl⟩) | (go_at_call 68; refine (spec_abs _ HN.out _).mono ?_; rintro e w' ⟨rfl, rfl⟩) | (go_at_call 67; refine (HDC.out _).mono ?_; rintro e w1 ⟨s1, rfl, hs1, hz1, hB1⟩; have HS1 := Lib.hid hs1; clear hs1))
    have HST : Hid (⟨#[45]⟩ ++ s1 ++ ⟨#[46]⟩ = headB n ++ strOfNums (46 :: [])) := by show _ = _; rw [HH.out, HS1.out]; rfl
    go_loopw [3, 4, 5] (fun v r u wr => ∃ (k : Nat) (t : ByteArray) (q : Int) (acc : List Int), k ≤ 6 ∧ v = .string t ∧ r = .int .i64 q ∧ u = .int .i64 (unT k) ∧ 0 ≤ q ∧ q < 1000000 ∧ t.size ≤ 22 + k ∧ Hid (q * upT k < 1000000 ∧ t = headB n ++ strOfNums (46 :: acc) ∧ acc ++ fracD (6 - k) (q * upT k) = fracD 6 (absV n % 1000000)) ∧ Below w.heap.size w wr)
      (fun _ _ u _ => (intOf u).toNat)
    case atStart => exact ⟨0, _, _, [], by omega, rfl, rfl, rfl, by omega, hr.2, by rw [HST.out, ByteArray.size_append, strOfNums_size]; simp; omega, ⟨by simp [upT]; omega, HST.out, by simp [upT]⟩, hB1⟩
    case round =>
      obtain ⟨k, t, q, acc, hk, rfl, rfl, rfl, hq0, hq1, htz, HI, hB⟩ := hrel
      by_cases hq : 0 < q
      · have hk6 : k < 6 := by
          rcases Nat.lt_or_ge k 6 with h | h
          · exact h
          · obtain rfl : k = 6 := by omega
            have := up_six hq0 HI.out.1; omega
        obtain ⟨e1, e2, e3, e4, e5, e6⟩ := step_unit hk6 hq0 HI.out.1
        have hu := unT_bd hk6
        have hun : unT (k + 1) = unT k / 10 := rfl
        have hne : unT k ≠ 0 := by omega
        have hdg := spec_dec_int (q / unT k) e4 (by omega) wr
        have hdB : digB (q / unT k).toNat = strOfNums [48 + q / unT k] := by
          rw [digB_one (by omega)]; congr 2; omega
        rw [hdB] at hdg
        have hst : acc ++ [48 + q / unT k] ++ fracD (6 - (k + 1)) (q % unT k * upT (k + 1)) = fracD 6 (absV n % 1000000) := by
          have h3 := HI.out.2.2
          rw [show 6 - k = (6 - (k + 1)) + 1 from by omega, fracD_step _ (up_zero hq), e1, e2] at h3
          rw [← h3]; simp
        have hqm : q % unT k < 1000000 := by have := Int.emod_lt_of_pos q (show 0 < unT k by omega); omega
        have HG := Lib.hid hdg; clear hdg
        have HST2 := Lib.hid hst; clear hst hdB e1 e2
        have H3 := Lib.hid e3; clear e3
        have HUN := Lib.hid hun; clear hun
        have hbz := hB.size
        go_wp2_with fail
        refine HG.out.mono ?_
        rintro e w2 ⟨s2, rfl, hs2, _, hB2⟩
        have hz2 : s2.size ≤ 1 := by rw [hs2, strOfNums_size]; simp
        have HS2 := Lib.hid hs2; clear hs2
        go_wp2_with fail
        go_roundw
        case rel => exact ⟨k + 1, t ++ s2, _, acc ++ [48 + q / unT k], by omega, rfl, rfl, by rw [HUN.out], e6, hqm, by rw [ByteArray.size_append]; omega, ⟨H3.out, by rw [HI.out.2.1, HS2.out, join_assoc, join_nums]; rfl, HST2.out⟩, hB.trans (hB2.mono hbz)⟩
        case measure => simp [intOf]; omega
      · obtain rfl : q = 0 := by omega
        have hfin : t = textB n := by
          have h3 := HI.out.2.2
          rw [Int.zero_mul, fracD_zero, List.append_nil] at h3
          rw [HX.out, ← h3]; exact HI.out.2.1
        have HF := Lib.hid hfin; clear hfin
        go_wp2_with fail
        go_ret
        exact ⟨t, rfl, HF.out, by omega, hB⟩

set_option maxHeartbeats 1000000 in
theorem spec_whole (n : Int) (hn : dOk n = true) (hr0 : absV n % 1000000 = 0) (w : World) (sg : Bool) (hsg : decide (n < 0) = sg) : Calls Tryz.prog 35 #[.int .i64 n] w (StrEnd 40 (textB n) w) := by
  have ha := absV_bd hn
  have hh := head_size n hn
  have HN := Lib.hid hn
  have ht : textB n = headB n ++ strOfNums [] := by rw [textB_head, fracL, if_pos hr0]
  have HX := Lib.hid ht; clear ht
  have hrb : (absV n % 1000000 == 0) = true := by simpa using hr0
  have hdc := fun W => spec_dec_int (absV n / 1000000) (by omega) (by omega) W
  have HDC := Lib.hid hdc; clear hdc
  clear hr0
  cases sg
  · have hd : headB n = digB (absV n / 1000000).toNat := by rw [headB, if_neg (by simpa using hsg)]
    have HH := Lib.hid hd; clear hd
    go_enter Tryz.func35, Tryz.ntmps35
    go_wp2_with (first | (go_at_call 63; refine (spec_ok _ _).mono ?_; rintro e w' ⟨rfl, rfl⟩) | (go_at_call 68; refine (spec_abs _ HN.out _).mono ?_; rintro e w' ⟨rfl, rfl⟩) | (go_at_call 67; refine (HDC.out _).mono ?_; rintro e w1 ⟨s1, rfl, hs1, hz1, hB1⟩; have HS1 := Lib.hid hs1; clear hs1))
    go_ret
    exact ⟨_, rfl, by rw [HX.out, HH.out, HS1.out]; exact (join_end _).symm, by omega, hB1⟩
  · have hd : headB n = ⟨#[45]⟩ ++ digB (absV n / 1000000).toNat := by rw [headB, if_pos (by simpa using hsg)]
    have HH := Lib.hid hd; clear hd
    go_enter Tryz.func35, Tryz.ntmps35
    go_wp2_with (first | (go_at_call 63; refine (spec_ok _ _).mono ?_; rintro e w' ⟨rfl, rfl⟩) | (go_at_call 68; refine (spec_abs _ HN.out _).mono ?_; rintro e w' ⟨rfl, rfl⟩) | (go_at_call 67; refine (HDC.out _).mono ?_; rintro e w1 ⟨s1, rfl, hs1, hz1, hB1⟩; have HS1 := Lib.hid hs1; clear hs1))
    go_ret
    exact ⟨_, rfl, by rw [HX.out, HH.out, HS1.out]; exact (join_end _).symm, by rw [HS1.out, ← HH.out]; omega, hB1⟩

theorem spec_text (n : Int) (w : World) : Calls Tryz.prog 35 #[.int .i64 n] w fun e w' => e = .returned (.string (dtB n)) ∧ Below w.heap.size w w' := by
  by_cases h : dOk n = true
  · have ht : dtB n = textB n := by rw [dtB, if_pos h]
    rw [ht]
    have hc : Calls Tryz.prog 35 #[.int .i64 n] w (StrEnd 40 (textB n) w) := by
      by_cases hr0 : absV n % 1000000 = 0
      · exact spec_whole n h hr0 w _ rfl
      · exact spec_loop n h hr0 w _ rfl
    exact hc.mono fun e w' ⟨s, he, hs, _, hb⟩ => ⟨by rw [he, hs], hb⟩
  · have ht : dtB n = ⟨#[]⟩ := by rw [dtB, if_neg h]
    have HX := Lib.hid ht; clear ht
    have hf := no_eq h
    clear h
    go_enter Tryz.func35, Tryz.ntmps35
    go_wp2_with (first | (go_at_call 63; refine (spec_ok _ _).mono ?_; rintro e w' ⟨rfl, rfl⟩))
    go_ret
    exact ⟨strs HX.out.symm, Below.refl _ _⟩

end Go.Proofs.YthaedmldlenhgaaGreatDoor.Dec
