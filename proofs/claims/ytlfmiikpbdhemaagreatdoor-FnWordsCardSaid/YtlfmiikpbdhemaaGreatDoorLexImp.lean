/-
  The program's lexer: gaps, numbers, signs, and what stands behind a backslash.
-/
import Derived.Test.YtlfmiikpbdhemaaGreatDoorLexSign
import Derived.Test.YtlfmiikpbdhemaaGreatDoorLexOper
import Derived.Test.YtlfmiikpbdhemaaGreatDoorLexQuote
import Derived.Test.YtlfmiikpbdhemaaGreatDoorShelf
import Derived.Test.YtlfmiikpbdhemaaGreatDoorReadImpl
import Derived.Lib.Bytealg
namespace Go.Proofs.YtlfmiikpbdhemaaGreatDoor.Lex
open Go.ChangeShapes Go.WideShapes Go.ChangeAt Go.RowKit Go.PlainAid Go.Maps
open Go.Proofs.YtlfmiikpbdhemaaGreatDoor.Dec
open Go.Proofs.YtlfmiikpbdhemaaGreatDoor.DecPure Go.Proofs.YtlfmiikpbdhemaaGreatDoor.ReadPure Go.Proofs.YtlfmiikpbdhemaaGreatDoor.LexPure
set_option linter.unusedVariables false

set_option maxHeartbeats 2000000 in
theorem impl_gap (s : ByteArray) (a : Nat) (hs : s.size ≤ 1048576) (ha : a ≤ s.size) (w : World) : Calls Tryz.prog 17 #[.string s, .int .i64 a] w fun e w' => e = .returned (.int .i64 (gap s a)) ∧ w = w' := by
  have hb := get_bt s
  have hm : s.size ≤ maxLen := by unfold maxLen; omega
  have HM := Lib.hid hm; clear hm
  go_enter Tryz.func17, Tryz.ntmps17
  go_wp2_with fail
  refine (impl_spaceEnd s a HM.out ha _).mono ?_; rintro e w' ⟨rfl, rfl⟩
  go_wp2_with fail
  go_loop [1] (fun i => ∃ k : Nat, k ≤ s.size ∧ Hid (gap s k = gap s a) ∧ Hid (endOf spB s k = k) ∧ i = .int .i64 k) (fun i => s.size - (intOf i).toNat)
  case atStart => exact ⟨endOf spB s a, endOf_le _ _ _ ha, gap_space s a, endOf_idem s a, rfl⟩
  case round =>
    obtain ⟨k, hk, HE, HI, rfl⟩ := hrel
    have b0 := bt_nonneg s k
    have b1 := bt_le s k
    by_cases hlt : k < s.size
    · by_cases hc : bt s k = 35
      · have hq : (bt s k == 35) = true := by simpa using hc
        have hg := gap_hash hlt hc
        have hgt := endOf_next (p := nnB) hlt (nn_hash hc)
        have HG := Lib.hid hg; clear hg
        have HGT := Lib.hid hgt; clear hgt hc
        go_wp2_with fail
        go_loop [1] (fun i => ∃ j : Nat, k ≤ j ∧ j ≤ s.size ∧ Hid (endOf nnB s j = endOf nnB s k) ∧ i = .int .i64 j) (fun i => s.size - (intOf i).toNat)
        case atStart => exact ⟨k, Nat.le_refl _, hk, rfl, rfl⟩
        case round =>
          obtain ⟨j, hkj, hj, HJ, rfl⟩ := hrel
          by_cases hjl : j < s.size
          · by_cases hn : bt s j = 10
            · have hst := endOf_stop (p := nnB) (s := s) (a := j) (fun h => by rw [hn] at h; cases h.2)
              have HS := Lib.hid hst; clear hst
              have hq3 : (bt s j != 10) = false := by simpa using hn
              clear hn
              go_wp2_with fail
              refine (impl_spaceEnd s j HM.out hj _).mono ?_; rintro e w' ⟨rfl, rfl⟩
              go_wp2_with fail
              go_round
              case rel => exact ⟨endOf spB s j, endOf_le _ _ _ hj, by show gap s _ = gap s a; rw [gap_space, ← HE.out, HG.out, ← HJ.out, HS.out], endOf_idem s j, rfl⟩
              case measure =>
                have h1 := HGT.out
                rw [← HJ.out, HS.out] at h1
                have h2 := endOf_ge spB s j
                simp [intOf]; omega
            · have hst := endOf_step (p := nnB) hjl (nn_ne hn)
              have HS := Lib.hid hst; clear hst
              have hq2 : (bt s j == 10) = false := by simpa using hn
              have hq3 : (bt s j != 10) = true := by simpa using hn
              clear hn
              go_wp2_with fail
              go_round
              case rel => exact ⟨j + 1, by omega, by omega, by show endOf nnB s (j + 1) = _; rw [← HS.out]; exact HJ.out, by go_num⟩
              case measure => simp [intOf]; omega
          · have hst := endOf_stop (p := nnB) (s := s) (a := j) (fun h => hjl h.1)
            have HS := Lib.hid hst; clear hst
            have hd : decide (j < s.size) = false := by simpa using hjl
            go_wp2_with fail
            refine (impl_spaceEnd s j HM.out hj _).mono ?_; rintro e w' ⟨rfl, rfl⟩
            go_wp2_with fail
            go_round
            case rel => exact ⟨endOf spB s j, endOf_le _ _ _ hj, by show gap s _ = gap s a; rw [gap_space, ← HE.out, HG.out, ← HJ.out, HS.out], endOf_idem s j, rfl⟩
            case measure =>
              have h1 := HGT.out
              rw [← HJ.out, HS.out] at h1
              have h2 := endOf_ge spB s j
              simp [intOf]; omega
      · have hq : (bt s k == 35) = false := by simpa using hc
        have HG : Hid (gap s k = k) := gap_stop (s := s) (a := k) (fun h => hc h.2) (fun h => by
          have := endOf_next (p := spB) h.1 h.2
          rw [HI.out] at this; omega)
        clear hc
        go_wp2_with fail
        go_ret
        exact ⟨retI (by rw [← HE.out, HG.out]), rfl⟩
    · have hg := gap_stop (s := s) (a := k) (fun h => hlt h.1) (fun h => hlt h.1)
      have HG := Lib.hid hg; clear hg
      have hd : decide (k < s.size) = false := by simpa using hlt
      go_wp2_with fail
      go_ret
      exact ⟨retI (by rw [← HE.out, HG.out]), rfl⟩

set_option maxHeartbeats 2000000 in
theorem impl_numE (s : ByteArray) (a : Nat) (hs : s.size ≤ 1048576) (ha : a ≤ s.size) (w : World) : Calls Tryz.prog 56 #[.string s, .int .i64 a] w fun e w' => e = .returned (.int .i64 (numE s a)) ∧ w = w' := by
  have hb := get_bt s
  have hm : s.size ≤ maxLen := by unfold maxLen; omega
  have HM := Lib.hid hm; clear hm
  obtain ⟨p, hp⟩ : ∃ p, p = endOf dgB s a := ⟨_, rfl⟩
  have hle := endOf_le dgB s a ha
  have hn : numE s a = if p + 1 < s.size ∧ bt s p = 46 ∧ dgB (bt s (p + 1)) = true then endOf dgB s (p + 1) else p := by unfold numE; rw [← hp]
  rw [← hp] at hle
  have HP := Lib.hid hp; clear hp
  have b0 := bt_nonneg s p
  have b1 := bt_le s p
  by_cases hz : p = s.size
  · have HN : Hid (numE s a = p) := by show numE s a = p; rw [hn, if_neg (fun h => by omega)]
    have hq : ((p : Int) == (s.size : Int)) = true := by simp; omega
    clear hn
    go_enter Tryz.func56, Tryz.ntmps56
    go_wp2_with fail
    refine (impl_digitsEnd s a HM.out ha _).mono ?_; rw [← HP.out]; rintro e w' ⟨rfl, rfl⟩
    go_wp2_with fail
    go_ret
    exact ⟨retI (by first | (rw [HN.out]; done) | (rw [HN.out]; omega)), rfl⟩
  · have hq : ((p : Int) == (s.size : Int)) = false := by simp; omega
    have hlt : p < s.size := by omega
    by_cases h46 : bt s p = 46
    · have hq2 : (bt s p == 46) = true := by simpa using h46
      have hq3 : (bt s p != 46) = false := by simpa using h46
      obtain ⟨r, hr⟩ : ∃ r, r = endOf dgB s (p + 1) := ⟨_, rfl⟩
      have hrl := endOf_le dgB s (p + 1) (by omega)
      have hrg := endOf_ge dgB s (p + 1)
      rw [← hr] at hrl hrg hn
      by_cases hrp : r = p + 1
      · have HN : Hid (numE s a = p) := by
          show numE s a = p
          rw [hn, if_neg]
          rintro ⟨h1, _, h2⟩
          have := endOf_next (p := dgB) h1 h2
          omega
        have hq4 : ((r : Int) == (p : Int) + 1) = true := by simp; omega
        have HR := Lib.hid hr
        clear hn hr h46
        go_enter Tryz.func56, Tryz.ntmps56
        go_wp2_with fail
        refine (impl_digitsEnd s a HM.out ha _).mono ?_; rw [← HP.out]; rintro e w' ⟨rfl, rfl⟩
        go_wp2_with fail
        refine (impl_digitsEnd s (p + 1) HM.out (by omega) _).mono ?_; rw [← HR.out]; rintro e w' ⟨rfl, rfl⟩
        go_wp2_with fail
        go_ret
        exact ⟨retI (by first | (rw [HN.out]; done) | (rw [HN.out]; omega)), rfl⟩
      · have HN : Hid (numE s a = r) := by
          show numE s a = r
          rw [hn, if_pos]
          have hx : p + 1 < s.size ∧ dgB (bt s (p + 1)) = true := Decidable.byContradiction fun h => hrp (by rw [hr, endOf_stop h])
          exact ⟨hx.1, h46, hx.2⟩
        have hq4 : ((r : Int) == (p : Int) + 1) = false := by simp; omega
        have HR := Lib.hid hr
        clear hn hr h46
        go_enter Tryz.func56, Tryz.ntmps56
        go_wp2_with fail
        refine (impl_digitsEnd s a HM.out ha _).mono ?_; rw [← HP.out]; rintro e w' ⟨rfl, rfl⟩
        go_wp2_with fail
        refine (impl_digitsEnd s (p + 1) HM.out (by omega) _).mono ?_; rw [← HR.out]; rintro e w' ⟨rfl, rfl⟩
        go_wp2_with fail
        go_ret
        exact ⟨retI (by first | (rw [HN.out]; done) | (rw [HN.out]; omega)), rfl⟩
    · have hq2 : (bt s p == 46) = false := by simpa using h46
      have hq3 : (bt s p != 46) = true := by simpa using h46
      have HN : Hid (numE s a = p) := by show numE s a = p; rw [hn, if_neg (fun h => h46 h.2.1)]
      clear hn h46
      go_enter Tryz.func56, Tryz.ntmps56
      go_wp2_with fail
      refine (impl_digitsEnd s a HM.out ha _).mono ?_; rw [← HP.out]; rintro e w' ⟨rfl, rfl⟩
      go_wp2_with fail
      go_ret
      exact ⟨retI (by first | (rw [HN.out]; done) | (rw [HN.out]; omega)), rfl⟩

/-- What a backslash and b stand for. -/
def unP (qt b : Int) : ByteArray × Bool := if qt = 47 then (strOfNums [92, b], !(b == 10)) else match escB b with | none => (⟨#[]⟩, false) | some c => (strOfNums [c], true)
def PairIs (x : ByteArray × Bool) (e : Ending) : Prop := ∃ (s : ByteArray) (b : Bool), e = .returned (.tuple #[.string s, .bool b]) ∧ s = x.1 ∧ b = x.2
theorem pairIs {x : ByteArray × Bool} {s : ByteArray} {b : Bool} (h1 : s = x.1) (h2 : b = x.2) : PairIs x (.returned (.tuple #[.string s, .bool b])) := ⟨s, b, rfl, h1, h2⟩

set_option maxHeartbeats 2000000 in
theorem impl_unescaped (qt b : Int) (hq : qt = 34 ∨ qt = 47) (h0 : 0 ≤ b) (h1 : b ≤ 255) (w : World) : Calls Tryz.prog 73 #[.int .u8 qt, .int .u8 b] w fun e w' => PairIs (unP qt b) e ∧ Below w.heap.size w w' := by
  have hB0 : ∀ o, Below w.heap.size w (w.alloc o) := fun o => (Below.refl w.heap.size w).alloc (Nat.le_refl _) o
  rcases hq with rfl | rfl
  · rcases esc_cases b with rfl | rfl | rfl | rfl | ⟨e1, e2, e3, e4, he⟩
    · go_enter Tryz.func73, Tryz.ntmps73
      go_wp2_with fail
      go_ret2
      exact ⟨pairIs rfl rfl, Below.refl _ _⟩
    · go_enter Tryz.func73, Tryz.ntmps73
      go_wp2_with fail
      go_ret2
      exact ⟨pairIs rfl rfl, Below.refl _ _⟩
    · have hcv := buf_conv (B := w.heap.size) (w := w.alloc (.cells #[.int .u8 34] 5)) (v := .slice (some ⟨w.heap.size, 0, none⟩) 1 1) (L := [34]) (World.ownsRow_lit w #[.int .u8 34] 1 (Nat.le_refl _) (by decide) rfl)
      go_enter Tryz.func73, Tryz.ntmps73
      go_wp2_with fail
      go_ret2
      exact ⟨pairIs rfl rfl, hB0 _⟩
    · have hcv := buf_conv (B := w.heap.size) (w := w.alloc (.cells #[.int .u8 92] 5)) (v := .slice (some ⟨w.heap.size, 0, none⟩) 1 1) (L := [92]) (World.ownsRow_lit w #[.int .u8 92] 1 (Nat.le_refl _) (by decide) rfl)
      go_enter Tryz.func73, Tryz.ntmps73
      go_wp2_with fail
      go_ret2
      exact ⟨pairIs rfl rfl, hB0 _⟩
    · have HU : Hid (unP 34 b = (⟨#[]⟩, false)) := by show unP 34 b = _; unfold unP; rw [if_neg (by decide), he]
      clear he
      go_enter Tryz.func73, Tryz.ntmps73
      go_wp2_with fail
      go_ret2
      exact ⟨pairIs (by rw [HU.out]) (by rw [HU.out]), Below.refl _ _⟩
  · have hcv := buf_conv (B := w.heap.size) (w := w.alloc (.cells #[.int .u8 92, .int .u8 b] 5)) (v := .slice (some ⟨w.heap.size, 0, none⟩) 2 2) (L := [92, b]) (World.ownsRow_lit w #[.int .u8 92, .int .u8 b] 2 (Nat.le_refl _) (by decide) rfl)
    have HU : Hid (unP 47 b = (strOfNums [92, b], !(b == 10))) := rfl
    go_enter Tryz.func73, Tryz.ntmps73
    go_wp2_with fail
    go_ret2
    exact ⟨pairIs (by rw [HU.out]) (by rw [HU.out]; rfl), hB0 _⟩

theorem ext2 {t : ByteArray} (h : 2 ≤ t.size) (x y : UInt8) : (t.extract 0 2).toList = [x, y] ↔ bt t 0 = (x.toNat : Int) ∧ bt t 1 = (y.toNat : Int) := by
  rw [lit_iff]
  have := mt2 (s := t) (a := 0) x y
  unfold mt at this
  have hz : (ByteArray.mk #[x, y]).size = 2 := rfl
  rw [hz, Nat.zero_add] at this
  constructor
  · intro e
    exact ((this.1 ⟨h, e⟩).2)
  · intro e
    exact (this.2 ⟨by omega, e⟩).2
theorem ind_fin : ∀ n : Fin 256, decide (0 ≤ Lib.indexByte oneS.data.toList (n.val : Nat).toUInt8) = oneB (n.val : Int) := by decide +kernel
theorem ind_one (b : Int) (h0 : 0 ≤ b) (h1 : b ≤ 255) : decide (0 ≤ Lib.indexByte oneS.data.toList b.toNat.toUInt8) = oneB b := by
  obtain ⟨n, rfl⟩ := Int.eq_ofNat_of_zero_le h0
  exact ind_fin ⟨n, by omega⟩

set_option maxHeartbeats 4000000 in
theorem impl_signSize (t : ByteArray) (hz : 0 < t.size) (hs : t.size ≤ 1048576) (w : World) : Calls Tryz.prog 62 #[.string t] w fun e w' => e = .returned (.int .i64 (sgn t 0)) ∧ w = w' := by
  have hb := get_bt t
  have b0 := bt_nonneg t 0
  have b1 := bt_le t 0
  by_cases h2 : 2 ≤ t.size
  · have hg : (2 : Int) ≤ (t.size : Int) := by omega
    by_cases htw : twoB (bt t 0) (bt t 1) = true
    · have HS : Hid (sgn t 0 = 2) := by show sgn t 0 = 2; unfold sgn; rw [if_pos ⟨by omega, htw⟩]
      rcases two_of htw with ⟨h3, h4⟩ | ⟨h3, h4⟩ | ⟨h3, h4⟩ | ⟨h3, h4⟩ | ⟨h3, h4⟩ | ⟨h3, h4⟩ | ⟨h3, h4⟩
      · have q0 : (t.extract 0 2).toList = [38, 38] := (ext2 h2 38 38).2 ⟨h3, h4⟩
        clear h3 h4 htw
        go_enter Tryz.func62, Tryz.ntmps62
        go_wp2_with fail
        go_ret
        exact ⟨retI (by rw [HS.out]; rfl), rfl⟩
      · have q0 : ((t.extract 0 2).toList == [38, 38]) = false := beq_eq_false_iff_ne.2 fun e => by have h5 := (ext2 h2 38 38).1 e; rw [h3, h4] at h5; exact absurd h5 (by decide)
        have q1 : (t.extract 0 2).toList = [124, 124] := (ext2 h2 124 124).2 ⟨h3, h4⟩
        clear h3 h4 htw
        go_enter Tryz.func62, Tryz.ntmps62
        go_wp2_with fail
        go_ret
        exact ⟨retI (by rw [HS.out]; rfl), rfl⟩
      · have q0 : ((t.extract 0 2).toList == [38, 38]) = false := beq_eq_false_iff_ne.2 fun e => by have h5 := (ext2 h2 38 38).1 e; rw [h3, h4] at h5; exact absurd h5 (by decide)
        have q1 : ((t.extract 0 2).toList == [124, 124]) = false := beq_eq_false_iff_ne.2 fun e => by have h5 := (ext2 h2 124 124).1 e; rw [h3, h4] at h5; exact absurd h5 (by decide)
        have q2 : (t.extract 0 2).toList = [61, 61] := (ext2 h2 61 61).2 ⟨h3, h4⟩
        clear h3 h4 htw
        go_enter Tryz.func62, Tryz.ntmps62
        go_wp2_with fail
        go_ret
        exact ⟨retI (by rw [HS.out]; rfl), rfl⟩
      · have q0 : ((t.extract 0 2).toList == [38, 38]) = false := beq_eq_false_iff_ne.2 fun e => by have h5 := (ext2 h2 38 38).1 e; rw [h3, h4] at h5; exact absurd h5 (by decide)
        have q1 : ((t.extract 0 2).toList == [124, 124]) = false := beq_eq_false_iff_ne.2 fun e => by have h5 := (ext2 h2 124 124).1 e; rw [h3, h4] at h5; exact absurd h5 (by decide)
        have q2 : ((t.extract 0 2).toList == [61, 61]) = false := beq_eq_false_iff_ne.2 fun e => by have h5 := (ext2 h2 61 61).1 e; rw [h3, h4] at h5; exact absurd h5 (by decide)
        have q3 : (t.extract 0 2).toList = [33, 61] := (ext2 h2 33 61).2 ⟨h3, h4⟩
        clear h3 h4 htw
        go_enter Tryz.func62, Tryz.ntmps62
        go_wp2_with fail
        go_ret
        exact ⟨retI (by rw [HS.out]; rfl), rfl⟩
      · have q0 : ((t.extract 0 2).toList == [38, 38]) = false := beq_eq_false_iff_ne.2 fun e => by have h5 := (ext2 h2 38 38).1 e; rw [h3, h4] at h5; exact absurd h5 (by decide)
        have q1 : ((t.extract 0 2).toList == [124, 124]) = false := beq_eq_false_iff_ne.2 fun e => by have h5 := (ext2 h2 124 124).1 e; rw [h3, h4] at h5; exact absurd h5 (by decide)
        have q2 : ((t.extract 0 2).toList == [61, 61]) = false := beq_eq_false_iff_ne.2 fun e => by have h5 := (ext2 h2 61 61).1 e; rw [h3, h4] at h5; exact absurd h5 (by decide)
        have q3 : ((t.extract 0 2).toList == [33, 61]) = false := beq_eq_false_iff_ne.2 fun e => by have h5 := (ext2 h2 33 61).1 e; rw [h3, h4] at h5; exact absurd h5 (by decide)
        have q4 : (t.extract 0 2).toList = [33, 126] := (ext2 h2 33 126).2 ⟨h3, h4⟩
        clear h3 h4 htw
        go_enter Tryz.func62, Tryz.ntmps62
        go_wp2_with fail
        go_ret
        exact ⟨retI (by rw [HS.out]; rfl), rfl⟩
      · have q0 : ((t.extract 0 2).toList == [38, 38]) = false := beq_eq_false_iff_ne.2 fun e => by have h5 := (ext2 h2 38 38).1 e; rw [h3, h4] at h5; exact absurd h5 (by decide)
        have q1 : ((t.extract 0 2).toList == [124, 124]) = false := beq_eq_false_iff_ne.2 fun e => by have h5 := (ext2 h2 124 124).1 e; rw [h3, h4] at h5; exact absurd h5 (by decide)
        have q2 : ((t.extract 0 2).toList == [61, 61]) = false := beq_eq_false_iff_ne.2 fun e => by have h5 := (ext2 h2 61 61).1 e; rw [h3, h4] at h5; exact absurd h5 (by decide)
        have q3 : ((t.extract 0 2).toList == [33, 61]) = false := beq_eq_false_iff_ne.2 fun e => by have h5 := (ext2 h2 33 61).1 e; rw [h3, h4] at h5; exact absurd h5 (by decide)
        have q4 : ((t.extract 0 2).toList == [33, 126]) = false := beq_eq_false_iff_ne.2 fun e => by have h5 := (ext2 h2 33 126).1 e; rw [h3, h4] at h5; exact absurd h5 (by decide)
        have q5 : (t.extract 0 2).toList = [60, 61] := (ext2 h2 60 61).2 ⟨h3, h4⟩
        clear h3 h4 htw
        go_enter Tryz.func62, Tryz.ntmps62
        go_wp2_with fail
        go_ret
        exact ⟨retI (by rw [HS.out]; rfl), rfl⟩
      · have q0 : ((t.extract 0 2).toList == [38, 38]) = false := beq_eq_false_iff_ne.2 fun e => by have h5 := (ext2 h2 38 38).1 e; rw [h3, h4] at h5; exact absurd h5 (by decide)
        have q1 : ((t.extract 0 2).toList == [124, 124]) = false := beq_eq_false_iff_ne.2 fun e => by have h5 := (ext2 h2 124 124).1 e; rw [h3, h4] at h5; exact absurd h5 (by decide)
        have q2 : ((t.extract 0 2).toList == [61, 61]) = false := beq_eq_false_iff_ne.2 fun e => by have h5 := (ext2 h2 61 61).1 e; rw [h3, h4] at h5; exact absurd h5 (by decide)
        have q3 : ((t.extract 0 2).toList == [33, 61]) = false := beq_eq_false_iff_ne.2 fun e => by have h5 := (ext2 h2 33 61).1 e; rw [h3, h4] at h5; exact absurd h5 (by decide)
        have q4 : ((t.extract 0 2).toList == [33, 126]) = false := beq_eq_false_iff_ne.2 fun e => by have h5 := (ext2 h2 33 126).1 e; rw [h3, h4] at h5; exact absurd h5 (by decide)
        have q5 : ((t.extract 0 2).toList == [60, 61]) = false := beq_eq_false_iff_ne.2 fun e => by have h5 := (ext2 h2 60 61).1 e; rw [h3, h4] at h5; exact absurd h5 (by decide)
        have q6 : (t.extract 0 2).toList = [43, 61] := (ext2 h2 43 61).2 ⟨h3, h4⟩
        clear h3 h4 htw
        go_enter Tryz.func62, Tryz.ntmps62
        go_wp2_with fail
        go_ret
        exact ⟨retI (by rw [HS.out]; rfl), rfl⟩
    · have HS : Hid (sgn t 0 = if oneB (bt t 0) = true then 1 else 0) := by show sgn t 0 = _; unfold sgn; rw [if_neg (fun h => htw h.2)]
      have q0 : ((t.extract 0 2).toList == [38, 38]) = false := beq_eq_false_iff_ne.2 fun e => by have h5 := (ext2 h2 38 38).1 e; rw [h5.1, h5.2] at htw; exact htw (by decide)
      have q1 : ((t.extract 0 2).toList == [124, 124]) = false := beq_eq_false_iff_ne.2 fun e => by have h5 := (ext2 h2 124 124).1 e; rw [h5.1, h5.2] at htw; exact htw (by decide)
      have q2 : ((t.extract 0 2).toList == [61, 61]) = false := beq_eq_false_iff_ne.2 fun e => by have h5 := (ext2 h2 61 61).1 e; rw [h5.1, h5.2] at htw; exact htw (by decide)
      have q3 : ((t.extract 0 2).toList == [33, 61]) = false := beq_eq_false_iff_ne.2 fun e => by have h5 := (ext2 h2 33 61).1 e; rw [h5.1, h5.2] at htw; exact htw (by decide)
      have q4 : ((t.extract 0 2).toList == [33, 126]) = false := beq_eq_false_iff_ne.2 fun e => by have h5 := (ext2 h2 33 126).1 e; rw [h5.1, h5.2] at htw; exact htw (by decide)
      have q5 : ((t.extract 0 2).toList == [60, 61]) = false := beq_eq_false_iff_ne.2 fun e => by have h5 := (ext2 h2 60 61).1 e; rw [h5.1, h5.2] at htw; exact htw (by decide)
      have q6 : ((t.extract 0 2).toList == [43, 61]) = false := beq_eq_false_iff_ne.2 fun e => by have h5 := (ext2 h2 43 61).1 e; rw [h5.1, h5.2] at htw; exact htw (by decide)
      clear htw
      obtain ⟨q, hq⟩ : ∃ q, q = Lib.indexByte oneS.data.toList (bt t 0).toNat.toUInt8 := ⟨_, rfl⟩
      have hi := ind_one (bt t 0) b0 b1
      rw [← hq] at hi
      have HQ := Lib.hid hq; clear hq
      cases ho : oneB (bt t 0) with
      | true =>
        rw [ho] at hi
        have h0q : 0 ≤ q := of_decide_eq_true hi
        have HT : Hid (sgn t 0 = 1) := by show sgn t 0 = 1; rw [HS.out, ho]; rfl
        clear hi ho
        go_enter Tryz.func62, Tryz.ntmps62
        go_wp2_with fail
        refine (Tryz.strings_IndexByte _ _ _).mono ?_
        rintro e w' ⟨rfl, rfl⟩
        rw [show Lib.indexByte (ByteArray.mk #[123, 125, 40, 41, 91, 93, 59, 44, 61, 33, 60, 43, 45, 42, 47, 37, 126, 63, 58, 36]).data.toList (bt t 0).toNat.toUInt8 = q from HQ.out.symm]
        go_wp2_with fail
        go_ret
        exact ⟨retI (by rw [HT.out]; rfl), rfl⟩
      | false =>
        rw [ho] at hi
        have h0q : ¬ 0 ≤ q := of_decide_eq_false hi
        have HT : Hid (sgn t 0 = 0) := by show sgn t 0 = 0; rw [HS.out, ho]; rfl
        clear hi ho
        go_enter Tryz.func62, Tryz.ntmps62
        go_wp2_with fail
        refine (Tryz.strings_IndexByte _ _ _).mono ?_
        rintro e w' ⟨rfl, rfl⟩
        rw [show Lib.indexByte (ByteArray.mk #[123, 125, 40, 41, 91, 93, 59, 44, 61, 33, 60, 43, 45, 42, 47, 37, 126, 63, 58, 36]).data.toList (bt t 0).toNat.toUInt8 = q from HQ.out.symm]
        go_wp2_with fail
        go_ret
        exact ⟨retI (by rw [HT.out]; rfl), rfl⟩
  · have hg : ¬ (2 : Int) ≤ (t.size : Int) := by omega
    have HS : Hid (sgn t 0 = if oneB (bt t 0) = true then 1 else 0) := by show sgn t 0 = _; unfold sgn; rw [if_neg (fun h => by omega)]
    obtain ⟨q, hq⟩ : ∃ q, q = Lib.indexByte oneS.data.toList (bt t 0).toNat.toUInt8 := ⟨_, rfl⟩
    have hi := ind_one (bt t 0) b0 b1
    rw [← hq] at hi
    have HQ := Lib.hid hq; clear hq
    cases ho : oneB (bt t 0) with
    | true =>
      rw [ho] at hi
      have h0q : 0 ≤ q := of_decide_eq_true hi
      have HT : Hid (sgn t 0 = 1) := by show sgn t 0 = 1; rw [HS.out, ho]; rfl
      clear hi ho
      go_enter Tryz.func62, Tryz.ntmps62
      go_wp2_with fail
      refine (Tryz.strings_IndexByte _ _ _).mono ?_
      rintro e w' ⟨rfl, rfl⟩
      rw [show Lib.indexByte (ByteArray.mk #[123, 125, 40, 41, 91, 93, 59, 44, 61, 33, 60, 43, 45, 42, 47, 37, 126, 63, 58, 36]).data.toList (bt t 0).toNat.toUInt8 = q from HQ.out.symm]
      go_wp2_with fail
      go_ret
      exact ⟨retI (by rw [HT.out]; rfl), rfl⟩
    | false =>
      rw [ho] at hi
      have h0q : ¬ 0 ≤ q := of_decide_eq_false hi
      have HT : Hid (sgn t 0 = 0) := by show sgn t 0 = 0; rw [HS.out, ho]; rfl
      clear hi ho
      go_enter Tryz.func62, Tryz.ntmps62
      go_wp2_with fail
      refine (Tryz.strings_IndexByte _ _ _).mono ?_
      rintro e w' ⟨rfl, rfl⟩
      rw [show Lib.indexByte (ByteArray.mk #[123, 125, 40, 41, 91, 93, 59, 44, 61, 33, 60, 43, 45, 42, 47, 37, 126, 63, 58, 36]).data.toList (bt t 0).toNat.toUInt8 = q from HQ.out.symm]
      go_wp2_with fail
      go_ret
      exact ⟨retI (by rw [HT.out]; rfl), rfl⟩

end Go.Proofs.YtlfmiikpbdhemaaGreatDoor.Lex
