/-
  The model's lexer: gaps, numbers and names.
-/
import Derived.Test.YtlfmiikpbdhemaaGreatDoorNameOk
import Derived.Test.YtlfmiikpbdhemaaGreatDoorReadLaws
import Derived.Laws.ResultCell
namespace Go.Proofs.YtlfmiikpbdhemaaGreatDoor.Lex
open Go.ChangeShapes Go.WideShapes Go.ChangeAt Go.RowKit Go.PlainAid Go.Maps
open Go.Proofs.YtlfmiikpbdhemaaGreatDoor.Dec
open Go.Proofs.YtlfmiikpbdhemaaGreatDoor.DecPure Go.Proofs.YtlfmiikpbdhemaaGreatDoor.ReadPure Go.Proofs.YtlfmiikpbdhemaaGreatDoor.LexPure
set_option linter.unusedVariables false

theorem nn_ne {b : Int} (h : b ≠ 10) : nnB b = true := by unfold nnB; simp [h]

set_option maxHeartbeats 2000000 in
theorem spec_blank (s : ByteArray) (a : Nat) (hs : s.size ≤ 1048576) (ha : a ≤ s.size) (w : World) : Calls Tryz.prog 19 #[.string s, .int .i64 a] w fun e w' => e = .returned (.int .i64 (gap s a)) ∧ w = w' := by
  have hb := get_bt s
  go_enter Tryz.func19, Tryz.ntmps19
  go_wp2_with fail
  go_loop [1] (fun i => ∃ k : Nat, k ≤ s.size ∧ Hid (gap s k = gap s a) ∧ i = .int .i64 k) (fun i => s.size - (intOf i).toNat)
  case atStart => exact ⟨a, ha, rfl, rfl⟩
  case round =>
    obtain ⟨k, hk, HE, rfl⟩ := hrel
    have b0 := bt_nonneg s k
    have b1 := bt_le s k
    by_cases hlt : k < s.size
    · by_cases hc : bt s k = 35
      · have hq : (bt s k == 35) = true := by simpa using hc
        have hg := gap_hash hlt hc
        have hgt := endOf_next (p := nnB) hlt (nn_hash hc)
        have HG := Lib.hid hg; clear hg
        have HGT := Lib.hid hgt; clear hgt hc
        go_wp2_with fail
        go_loop [1] (fun i => ∃ j : Nat, k ≤ j ∧ j ≤ s.size ∧ Hid (endOf nnB s j = endOf nnB s k) ∧ i = .int .i64 j) (fun i => s.size - (intOf i).toNat)
        case atStart => exact ⟨k, Nat.le_refl _, hk, rfl, rfl⟩
        case round =>
          obtain ⟨j, hkj, hj, HJ, rfl⟩ := hrel
          by_cases hjl : j < s.size
          · by_cases hn : bt s j = 10
            · have hst := endOf_stop (p := nnB) (s := s) (a := j) (fun h => by rw [hn] at h; cases h.2)
              have HS := Lib.hid hst; clear hst
              go_wp2_with fail
              go_round
              case rel => exact ⟨j, by omega, by show gap s j = gap s a; rw [← HE.out, HG.out, ← HJ.out, HS.out], by go_num⟩
              case measure =>
                have h1 := HGT.out
                rw [← HJ.out, HS.out] at h1
                simp [intOf]; omega
            · have hst := endOf_step (p := nnB) hjl (nn_ne hn)
              have HS := Lib.hid hst; clear hst
              have hq2 : (bt s j == 10) = false := by simpa using hn
              have hq3 : (bt s j != 10) = true := by simpa using hn
              clear hn
              go_wp2_with fail
              go_round
              case rel => exact ⟨j + 1, by omega, by omega, by show endOf nnB s (j + 1) = _; rw [← HS.out]; exact HJ.out, by go_num⟩
              case measure => simp [intOf]; omega
          · have hst := endOf_stop (p := nnB) (s := s) (a := j) (fun h => hjl h.1)
            have HS := Lib.hid hst; clear hst
            have hd : decide (j < s.size) = false := by simpa using hjl
            go_wp2_with fail
            go_round
            case rel => exact ⟨j, by omega, by show gap s j = gap s a; rw [← HE.out, HG.out, ← HJ.out, HS.out], by go_num⟩
            case measure =>
              have h1 := HGT.out
              rw [← HJ.out, HS.out] at h1
              simp [intOf]; omega
      · have hq : (bt s k == 35) = false := by simpa using hc
        cases hw : spB (bt s k) with
        | true =>
          have hg := gap_sp hlt hw
          have HG := Lib.hid hg; clear hg hc
          go_wp2_with fail
          refine (spec_white _ (by omega) (by omega) _).mono ?_; rw [hw]; rintro e w' ⟨rfl, rfl⟩
          go_wp2_with fail
          go_round
          case rel => exact ⟨k + 1, by omega, by show gap s (k + 1) = _; rw [← HG.out]; exact HE.out, by go_num⟩
          case measure => simp [intOf]; omega
        | false =>
          have hg := gap_stop (s := s) (a := k) (fun h => hc h.2) (fun h => by rw [hw] at h; cases h.2)
          have HG := Lib.hid hg; clear hg hc
          go_wp2_with fail
          refine (spec_white _ (by omega) (by omega) _).mono ?_; rw [hw]; rintro e w' ⟨rfl, rfl⟩
          go_wp2_with fail
          go_ret
          exact ⟨retI (by rw [← HE.out, HG.out]), rfl⟩
    · have hg := gap_stop (s := s) (a := k) (fun h => hlt h.1) (fun h => hlt h.1)
      have HG := Lib.hid hg; clear hg
      have hd : decide (k < s.size) = false := by simpa using hlt
      go_wp2_with fail
      go_ret
      exact ⟨retI (by rw [← HE.out, HG.out]), rfl⟩

/-- A token's value, and what a function that reads one returns. -/
def tval (t : Tk) : Value := .agg #[.int .i64 t.kind, .string t.s, .int .i64 t.n, .int .i64 t.pos]
def TokRes (r : Option (Tk × Nat)) (e : Ending) : Prop :=
  match r with
  | none => e = .returned (.tuple #[.agg #[.int .i64 0, .string ⟨#[]⟩, .int .i64 0, .int .i64 0], .int .i64 (-1)])
  | some q => e = .returned (.tuple #[tval q.1, .int .i64 q.2])
theorem tokRes_yes {k n p x : Int} {t : ByteArray} {q : Tk} {y : Nat} (h1 : k = q.kind) (h2 : t = q.s) (h3 : n = q.n) (h4 : p = q.pos) (h5 : x = y) :
    TokRes (some (q, y)) (.returned (.tuple #[.agg #[.int .i64 k, .string t, .int .i64 n, .int .i64 p], .int .i64 x])) := by subst h1 h2 h3 h4 h5; rfl

set_option maxHeartbeats 4000000 in
theorem spec_num (s : ByteArray) (a : Nat) (hs : s.size ≤ 1048576) (ha : a ≤ s.size) (w : World) : Calls Tryz.prog 21 #[.string s, .int .i64 a] w fun e w' => TokRes (some (⟨1, ⟨#[]⟩, rdN (s.extract a (numE s a)), a⟩, numE s a)) e ∧ Below w.heap.size w w' := by
  have hb := get_bt s
  go_enter Tryz.func21, Tryz.ntmps21
  go_wp2_with fail
  go_loop [6] (fun i => ∃ k : Nat, a ≤ k ∧ k ≤ s.size ∧ Hid (endOf dgB s k = endOf dgB s a) ∧ i = .int .i64 k) (fun i => s.size - (intOf i).toNat)
  case atStart => exact ⟨a, Nat.le_refl _, ha, rfl, rfl⟩
  case round =>
    obtain ⟨k, hak, hk, HE, rfl⟩ := hrel
    have b0 := bt_nonneg s k
    have b1 := bt_le s k
    by_cases hlt : k < s.size
    · cases hd : dgB (bt s k) with
      | true =>
        have hst := endOf_step hlt hd
        have HS := Lib.hid hst; clear hst
        go_wp2_with fail
        refine (spec_digit _ (by omega) (by omega) _).mono ?_; rw [hd]; rintro e w' ⟨rfl, rfl⟩
        go_wp2_with fail
        go_round
        case rel => exact ⟨k + 1, by omega, by omega, by show endOf dgB s (k + 1) = _; rw [← HS.out]; exact HE.out, by go_num⟩
        case measure => simp [intOf]; omega
      | false =>
        have hst := endOf_stop (p := dgB) (s := s) (a := k) (fun h => by rw [hd] at h; cases h.2)
        have HK : Hid (endOf dgB s a = k) := by show endOf dgB s a = k; rw [← HE.out, hst]
        clear hst
        go_wp2_with fail
        refine (spec_digit _ (by omega) (by omega) _).mono ?_; rw [hd]; rintro e w' ⟨rfl, rfl⟩
        by_cases hp : k + 1 < s.size
        · by_cases h46 : bt s k = 46
          · have c0 := bt_nonneg s (k + 1)
            have c1 := bt_le s (k + 1)
            have hq : (bt s k == 46) = true := by simpa using h46
            cases hd2 : dgB (bt s (k + 1)) with
            | true =>
              have HN : Hid (numE s a = endOf dgB s (k + 1)) := by
                show numE s a = _
                unfold numE
                rw [HK.out, if_pos ⟨hp, h46, hd2⟩]
              clear h46
              go_wp2_with fail
              refine (spec_digit _ (by omega) (by omega) _).mono ?_; rw [hd2]; rintro e w' ⟨rfl, rfl⟩
              go_wp2_with fail
              go_loop [6] (fun i => ∃ j : Nat, k + 1 ≤ j ∧ j ≤ s.size ∧ Hid (endOf dgB s j = endOf dgB s (k + 1)) ∧ i = .int .i64 j) (fun i => s.size - (intOf i).toNat)
              case atStart => exact ⟨k + 1, Nat.le_refl _, by omega, rfl, by go_num⟩
              case round =>
                obtain ⟨j, hkj, hj, HJ, rfl⟩ := hrel
                have e0 := bt_nonneg s j
                have e1 := bt_le s j
                by_cases hjl : j < s.size
                · cases hd3 : dgB (bt s j) with
                  | true =>
                    have hst := endOf_step hjl hd3
                    have HS := Lib.hid hst; clear hst
                    go_wp2_with fail
                    refine (spec_digit _ (by omega) (by omega) _).mono ?_; rw [hd3]; rintro e w' ⟨rfl, rfl⟩
                    go_wp2_with fail
                    go_round
                    case rel => exact ⟨j + 1, by omega, by omega, by show endOf dgB s (j + 1) = _; rw [← HS.out]; exact HJ.out, by go_num⟩
                    case measure => simp [intOf]; omega
                  | false =>
                    have hst := endOf_stop (p := dgB) (s := s) (a := j) (fun h => by rw [hd3] at h; cases h.2)
                    have HTO : Hid (numE s a = j) := by show numE s a = j; rw [HN.out, ← HJ.out, hst]
                    clear hst
                    go_wp2_with fail
                    refine (spec_digit _ (by omega) (by omega) _).mono ?_; rw [hd3]; rintro e w' ⟨rfl, rfl⟩
                    have ha1 : (a : Int) ≤ ((j : Nat) : Int) := by omega
                    have ha2 : ((j : Nat) : Int) ≤ (s.size : Int) := by omega
                    have hlim : (s.extract a j).size ≤ maxLen := by rw [size_ext s a j (by omega)]; unfold maxLen; omega
                    go_wp2_with fail
                    refine (spec_readDec _ hlim _).mono ?_; rintro e w' ⟨rfl, rfl⟩
                    go_wp2_with fail
                    go_returns
                    exact ⟨tokRes_yes rfl rfl (by rw [HTO.out]) rfl (by rw [HTO.out]), (Below.refl _ _).alloc (Nat.le_refl _) _⟩
                · have hst := endOf_stop (p := dgB) (s := s) (a := j) (fun h => hjl h.1)
                  have HTO : Hid (numE s a = j) := by show numE s a = j; rw [HN.out, ← HJ.out, hst]
                  have hd : decide (j < s.size) = false := by simpa using hjl
                  clear hst
                  have ha1 : (a : Int) ≤ ((j : Nat) : Int) := by omega
                  have ha2 : ((j : Nat) : Int) ≤ (s.size : Int) := by omega
                  have hlim : (s.extract a j).size ≤ maxLen := by rw [size_ext s a j (by omega)]; unfold maxLen; omega
                  go_wp2_with fail
                  refine (spec_readDec _ hlim _).mono ?_; rintro e w' ⟨rfl, rfl⟩
                  go_wp2_with fail
                  go_returns
                  exact ⟨tokRes_yes rfl rfl (by rw [HTO.out]) rfl (by rw [HTO.out]), (Below.refl _ _).alloc (Nat.le_refl _) _⟩
            | false =>
              have HTO : Hid (numE s a = k) := by
                show numE s a = k
                unfold numE
                rw [HK.out, if_neg (fun h => by rw [hd2] at h; cases h.2.2)]
              clear h46
              go_wp2_with fail
              refine (spec_digit _ (by omega) (by omega) _).mono ?_; rw [hd2]; rintro e w' ⟨rfl, rfl⟩
              have ha1 : (a : Int) ≤ ((k : Nat) : Int) := by omega
              have ha2 : ((k : Nat) : Int) ≤ (s.size : Int) := by omega
              have hlim : (s.extract a k).size ≤ maxLen := by rw [size_ext s a k (by omega)]; unfold maxLen; omega
              go_wp2_with fail
              refine (spec_readDec _ hlim _).mono ?_; rintro e w' ⟨rfl, rfl⟩
              go_wp2_with fail
              go_returns
              exact ⟨tokRes_yes rfl rfl (by rw [HTO.out]) rfl (by rw [HTO.out]), (Below.refl _ _).alloc (Nat.le_refl _) _⟩
          · have HTO : Hid (numE s a = k) := by
              show numE s a = k
              unfold numE
              rw [HK.out, if_neg (fun h => h46 h.2.1)]
            have hq : (bt s k == 46) = false := by simpa using h46
            clear h46
            have ha1 : (a : Int) ≤ ((k : Nat) : Int) := by omega
            have ha2 : ((k : Nat) : Int) ≤ (s.size : Int) := by omega
            have hlim : (s.extract a k).size ≤ maxLen := by rw [size_ext s a k (by omega)]; unfold maxLen; omega
            go_wp2_with fail
            refine (spec_readDec _ hlim _).mono ?_; rintro e w' ⟨rfl, rfl⟩
            go_wp2_with fail
            go_returns
            exact ⟨tokRes_yes rfl rfl (by rw [HTO.out]) rfl (by rw [HTO.out]), (Below.refl _ _).alloc (Nat.le_refl _) _⟩
        · have HTO : Hid (numE s a = k) := by
            show numE s a = k
            unfold numE
            rw [HK.out, if_neg (fun h => hp h.1)]
          have hq : ¬ ((k : Int) + 1 < (s.size : Int)) := by omega
          clear hp
          have ha1 : (a : Int) ≤ ((k : Nat) : Int) := by omega
          have ha2 : ((k : Nat) : Int) ≤ (s.size : Int) := by omega
          have hlim : (s.extract a k).size ≤ maxLen := by rw [size_ext s a k (by omega)]; unfold maxLen; omega
          go_wp2_with fail
          refine (spec_readDec _ hlim _).mono ?_; rintro e w' ⟨rfl, rfl⟩
          go_wp2_with fail
          go_returns
          exact ⟨tokRes_yes rfl rfl (by rw [HTO.out]) rfl (by rw [HTO.out]), (Below.refl _ _).alloc (Nat.le_refl _) _⟩
    · have hst := endOf_stop (p := dgB) (s := s) (a := k) (fun h => hlt h.1)
      have HK : Hid (endOf dgB s a = k) := by show endOf dgB s a = k; rw [← HE.out, hst]
      have hd : decide (k < s.size) = false := by simpa using hlt
      have hq : ¬ ((k : Int) + 1 < (s.size : Int)) := by omega
      have HTO : Hid (numE s a = k) := by
        show numE s a = k
        unfold numE
        rw [HK.out, if_neg (fun h => by omega)]
      clear hst
      have ha1 : (a : Int) ≤ ((k : Nat) : Int) := by omega
      have ha2 : ((k : Nat) : Int) ≤ (s.size : Int) := by omega
      have hlim : (s.extract a k).size ≤ maxLen := by rw [size_ext s a k (by omega)]; unfold maxLen; omega
      go_wp2_with fail
      refine (spec_readDec _ hlim _).mono ?_; rintro e w' ⟨rfl, rfl⟩
      go_wp2_with fail
      go_returns
      exact ⟨tokRes_yes rfl rfl (by rw [HTO.out]) rfl (by rw [HTO.out]), (Below.refl _ _).alloc (Nat.le_refl _) _⟩

end Go.Proofs.YtlfmiikpbdhemaaGreatDoor.Lex
