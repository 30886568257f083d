/-
  SubText and IndexOf of the program and of its model.
-/
import Derived.Test.YthaedmldlenhgaaDoorSubPure
import Derived.Test.YthaedmldlenhgaaDoorRead
import Derived.Test.YthaedmldlenhgaaDoorCell
import Derived.Test.YthaedmldlenhgaaDoorRowB
import Derived.Deep.AppendLies
import Derived.Laws.OwnMore
import Derived.Laws.BytesArg
import Derived.OwnWalk
import Derived.Deep.OwnRows
import Derived.IntWalk
namespace Go.Proofs.YthaedmldlenhgaaDoor.Cell
open Go.ChangeShapes Go.WideShapes Go.ChangeAt Go.RowKit Go.PlainAid
open Go.Proofs.YthaedmldlenhgaaDoor.Dec
open Go.Proofs.YthaedmldlenhgaaDoor.DecPure Go.Proofs.YthaedmldlenhgaaDoor.TextPure Go.Proofs.YthaedmldlenhgaaDoor.ReadPure Go.Proofs.YthaedmldlenhgaaDoor.CellPure Go.Proofs.YthaedmldlenhgaaDoor.SubPure
set_option linter.unusedVariables false

set_option maxRecDepth 100000 in
set_option maxHeartbeats 1000000 in
theorem spec_sub (s : ByteArray) (f n : Int) (hs : s.size ≤ 1048576) (hn : n ≤ 9223372036854775807) (w : World) : Calls Tryd.prog 20 #[.string s, .int .i64 f, .int .i64 n] w fun e w' => e = .returned (.string (subS s f n)) ∧ Below w.heap.size w w' := by
  have hb := get_bt s
  go_enter Tryd.func20, Tryd.ntmps20
  go_wp2_with fail
  go_loopw [7, 8] (fun v i wr => ∃ k : Nat, k ≤ s.size ∧ i = .int .i64 ((k : Int) + 1) ∧ Hid (RowB w.heap.size wr v (subA s f n k)) ∧ Hid (Below w.heap.size w wr)) (fun _ i _ => s.size + 1 - (intOf i).toNat)
  case atStart => exact ⟨0, Nat.zero_le _, rfl, RowB.nil _ _, Below.refl _ _⟩
  case round =>
    obtain ⟨k, hk, rfl, HBF, HB⟩ := hrel
    have hlen := subA_len s f n k
    have hsz := HB.out.size
    by_cases hlt : k < s.size
    · have hle : (k : Int) + 1 ≤ (s.size : Int) := by omega
      have b0 := bt_nonneg s k
      have b1 := bt_le s k
      by_cases h1 : f ≤ (k : Int) + 1
      · by_cases h2 : n = 9000000000000
        · subst h2
          have HU : Hid (subA s f 9000000000000 (k + 1) = subA s f 9000000000000 k ++ [bt s k]) := Lib.hid (by rw [subA, if_pos]; unfold inB; simp; omega)
          go_wp2_with (at_builtin; refine rowB_push w.heap.size wr _ (subA s f 9000000000000 k) (bt s k) rfl _ _ rfl rfl rfl HBF.out (by omega) (by omega) ?_; intro v2 w2 hbuf2 hgrow2)
          have hB2 := HB.out.grown hgrow2 hsz (fun x hx => (HBF.out.lt x hx).1)
          clear hgrow2
          go_roundw
          case rel => exact ⟨k + 1, by omega, by go_num, Lib.hid (by rw [HU.out]; exact hbuf2), Lib.hid hB2⟩
          case measure => simp [intOf]; omega
        · have h2b : (n == 9000000000000) = false := by simpa using h2
          by_cases h3 : 0 < n
          · by_cases h4 : (k : Int) + 1 - n < f
            · have HU : Hid (subA s f n (k + 1) = subA s f n k ++ [bt s k]) := Lib.hid (by rw [subA, if_pos]; unfold inB; simp; omega)
              clear h2
              go_wp2_with (at_builtin; refine rowB_push w.heap.size wr _ (subA s f n k) (bt s k) rfl _ _ rfl rfl rfl HBF.out (by omega) (by omega) ?_; intro v2 w2 hbuf2 hgrow2)
              have hB2 := HB.out.grown hgrow2 hsz (fun x hx => (HBF.out.lt x hx).1)
              clear hgrow2
              go_roundw
              case rel => exact ⟨k + 1, by omega, by go_num, Lib.hid (by rw [HU.out]; exact hbuf2), Lib.hid hB2⟩
              case measure => simp [intOf]; omega
            · have HU : Hid (subA s f n (k + 1) = subA s f n k) := Lib.hid (by rw [subA, if_neg]; unfold inB; simp; omega)
              have h4d : decide ((k : Int) + 1 - n < f) = false := by simpa using h4
              clear h2
              go_wp2_with fail
              go_roundw
              case rel => exact ⟨k + 1, by omega, by go_num, Lib.hid (by rw [HU.out]; exact HBF.out), HB⟩
              case measure => simp [intOf]; omega
          · have HU : Hid (subA s f n (k + 1) = subA s f n k) := Lib.hid (by rw [subA, if_neg]; unfold inB; simp; omega)
            have h3d : decide (0 < n) = false := by simpa using h3
            clear h2
            go_wp2_with fail
            go_roundw
            case rel => exact ⟨k + 1, by omega, by go_num, Lib.hid (by rw [HU.out]; exact HBF.out), HB⟩
            case measure => simp [intOf]; omega
      · have HU : Hid (subA s f n (k + 1) = subA s f n k) := Lib.hid (by rw [subA, if_neg]; unfold inB; simp; omega)
        have h1d : decide (f ≤ (k : Int) + 1) = false := by simpa using h1
        go_wp2_with fail
        go_roundw
        case rel => exact ⟨k + 1, by omega, by go_num, Lib.hid (by rw [HU.out]; exact HBF.out), HB⟩
        case measure => simp [intOf]; omega
    · obtain rfl : k = s.size := by omega
      have hcv := rowB_conv HBF.out
      have HS := Lib.hid (subA_str s f n)
      have hd : decide ((s.size : Int) + 1 ≤ (s.size : Int)) = false := by simp; omega
      clear hlt
      go_wp2_with fail
      go_ret
      exact ⟨strs HS.out, HB.out⟩

/-- Where a part ends, as the program reckons it. -/
def epV (z : Nat) (f n : Int) : Int := if n = 9000000000000 then (z : Int) + 1 else if 0 < f ∧ (z : Int) < n then (z : Int) + 1 else min (IntKind.i64.wrap (f + n)) ((z : Int) + 1)
theorem ep_same {z : Nat} {f n : Int} (hz : z ≤ 1048576) (hn0 : 0 < n) (hf : -9223372036854775808 ≤ f) (hs : f + n ≤ 9223372036854775807) (h1 : n ≠ 9000000000000) : epV z f n = min (f + n) ((z : Int) + 1) := by
  unfold epV
  rw [if_neg h1]
  split
  · omega
  · rw [IntWalk.i64_in (f + n) (by constructor <;> omega)]
theorem wrap_over {a : Int} (h1 : 9223372036854775807 < a) (h2 : a ≤ 18446744073709551615) : IntKind.i64.wrap a < 0 := by
  have e : IntKind.i64.wrap a = a - 18446744073709551616 := by
    simp [IntKind.wrap, IntKind.bits, IntKind.signed]
    omega
  rw [e]; omega
theorem ep_facts {z : Nat} {f n : Int} (hz : z ≤ 1048576) (hn0 : 0 < n) (hn : n ≤ 9223372036854775807) (hf : -9223372036854775808 ≤ f) (hf2 : f ≤ 9223372036854775807) :
    (max f 1 < epV z f n → loN f < hiN z f n ∧ (loN f : Int) = max f 1 - 1 ∧ (hiN z f n : Int) = epV z f n - 1) ∧ (epV z f n ≤ max f 1 → ¬ loN f < hiN z f n) := by
  unfold loN hiN
  rw [if_neg (by omega)]
  by_cases h1 : n = 9000000000000
  · have e : epV z f n = (z : Int) + 1 := by unfold epV; rw [if_pos h1]
    rw [e, if_pos h1]
    constructor <;> intro h <;> omega
  · rw [if_neg h1]
    by_cases h2 : f + n ≤ 9223372036854775807
    · rw [ep_same hz hn0 hf h2 h1]
      constructor <;> intro h <;> omega
    · have e : epV z f n ≤ (z : Int) + 1 := by
        unfold epV; rw [if_neg h1]; split
        · omega
        · omega
      by_cases h3 : 0 < f ∧ (z : Int) < n
      · have e2 : epV z f n = (z : Int) + 1 := by unfold epV; rw [if_neg h1, if_pos h3]
        rw [e2]
        constructor <;> intro h <;> omega
      · constructor <;> intro h <;> omega

theorem i64_bd {a : Int} (h : (Lit.int .i64 a).wf = true) : -9223372036854775808 ≤ a ∧ a ≤ 9223372036854775807 := by
  have := bounds_i64 h
  omega

set_option maxRecDepth 100000 in
theorem end_position (z : Nat) (f n : Int) (hz : z ≤ 1048576) (hn0 : 0 < n) (hn : n ≤ 9223372036854775807) (hf : -9223372036854775808 ≤ f) (hf2 : f ≤ 9223372036854775807) (w : World) :
    Calls Tryd.prog 42 #[.int .i64 z, .int .i64 f, .int .i64 n] w fun e w' => e = .returned (.int .i64 (epV z f n)) ∧ w = w' := by
  by_cases h1 : n = 9000000000000
  · have E : Hid (epV z f n = (z : Int) + 1) := Lib.hid (by unfold epV; rw [if_pos h1])
    subst h1
    go_enter Tryd.func42, Tryd.ntmps42
    go_wp2_with fail
    go_ret
    exact ⟨retI E.out.symm, rfl⟩
  · have h1b : (n == 9000000000000) = false := by simpa using h1
    by_cases h2 : 0 < f
    · by_cases h3 : (z : Int) < n
      · have E : Hid (epV z f n = (z : Int) + 1) := Lib.hid (by unfold epV; rw [if_neg h1, if_pos ⟨h2, h3⟩])
        clear h1
        go_enter Tryd.func42, Tryd.ntmps42
        go_wp2_with fail
        go_ret
        exact ⟨retI E.out.symm, rfl⟩
      · have E : Hid (epV z f n = min (IntKind.i64.wrap (f + n)) ((z : Int) + 1)) := Lib.hid (by unfold epV; rw [if_neg h1, if_neg (fun h => h3 h.2)])
        have h3d : decide ((z : Int) < n) = false := by simpa using h3
        clear h1
        generalize hx : IntKind.i64.wrap (f + n) = x at *
        go_enter Tryd.func42, Tryd.ntmps42
        go_wp2_with fail
        go_ret
        exact ⟨retI (by rw [E.out]), rfl⟩
    · have E : Hid (epV z f n = min (IntKind.i64.wrap (f + n)) ((z : Int) + 1)) := Lib.hid (by unfold epV; rw [if_neg h1, if_neg (fun h => h2 h.1)])
      have h2d : decide (0 < f) = false := by simpa using h2
      clear h1
      go_enter Tryd.func42, Tryd.ntmps42
      go_wp2_with fail
      go_ret
      exact ⟨retI (by rw [E.out, IntWalk.i64_in (f + n) (by constructor <;> omega)]), rfl⟩

set_option maxRecDepth 100000 in
set_option maxHeartbeats 1000000 in
theorem impl_sub (s : ByteArray) (f n : Int) (hs : s.size ≤ 1048576) (hn : n ≤ 9223372036854775807) (hf : -9223372036854775808 ≤ f) (hf2 : f ≤ 9223372036854775807) (w : World) : Calls Tryd.prog 17 #[.string s, .int .i64 f, .int .i64 n] w fun e w' => e = .returned (.string (subS s f n)) ∧ Below w.heap.size w w' := by
  by_cases h0 : n ≤ 0
  · have E : Hid (subS s f n = ⟨#[]⟩) := Lib.hid (by unfold subS hiN; rw [if_pos h0, if_neg (by omega)])
    go_enter Tryd.func17, Tryd.ntmps17
    go_wp2_with fail
    go_ret
    exact ⟨strs E.out.symm, Below.refl _ _⟩
  · have h0d : decide (n ≤ 0) = false := by simpa using h0
    obtain ⟨g1, g2⟩ := ep_facts (z := s.size) (f := f) (n := n) hs (by omega) hn hf hf2
    have hep := end_position s.size f n hs (by omega) hn hf hf2
    generalize epV s.size f n = ep at *
    have HEP := Lib.hid hep; clear hep
    generalize hst : max f 1 = st at *
    have h1st : 1 ≤ st := by omega
    have hstu : st ≤ 9223372036854775807 := by omega
    by_cases hlt : ep ≤ st
    · have E : Hid (subS s f n = ⟨#[]⟩) := Lib.hid (by unfold subS; rw [if_neg (g2 hlt)])
      clear g1 g2
      go_enter Tryd.func17, Tryd.ntmps17
      go_wp2_with fail
      refine (HEP.out _).mono ?_
      rintro e w' ⟨rfl, rfl⟩
      go_wp2_with fail
      go_ret
      exact ⟨strs E.out.symm, Below.refl _ _⟩
    · obtain ⟨k1, k2, k3⟩ := g1 (by omega)
      have hh := hiN_le s.size f n
      have E : Hid (subS s f n = s.extract (loN f) (hiN s.size f n)) := Lib.hid (by unfold subS; rw [if_pos k1])
      have hz : (s.extract (loN f) (hiN s.size f n)).size ≤ s.size := by rw [size_ext s _ _ hh]; omega
      generalize hlo : loN f = lo at *
      generalize hhi : hiN s.size f n = hi at *
      have e1 : st - 1 = (lo : Int) := by omega
      have e2 : ep - 1 = (hi : Int) := by omega
      have u1 : 1 ≤ ep := by omega
      have u2 : ep ≤ 1048577 := by omega
      have HLO := Lib.hid hlo; have HHI := Lib.hid hhi; clear hlo hhi g1 g2 k2 k3
      have hd : decide (ep ≤ st) = false := by simp; omega
      have hlh : lo ≤ hi := by omega
      clear k1 hlt
      have HE1 := Lib.hid e1; clear e1
      have HE2 := Lib.hid e2; clear e2
      go_enter Tryd.func17, Tryd.ntmps17
      go_wp2_with fail
      refine (HEP.out _).mono ?_
      rintro e w' ⟨rfl, rfl⟩
      have e1 := HE1.out
      have e2 := HE2.out
      clear hst
      go_wp2_with fail
      refine (clone_cell _ _ (by omega)).mono ?_
      rintro e w1 ⟨rfl, hB⟩
      have HB := Lib.hid hB; clear hB
      go_wp2_with fail
      go_ret
      exact ⟨strs E.out.symm, HB.out⟩

theorem index_up (l x : List UInt8) : Lib.index l x ≤ l.length := by
  induction l with
  | nil => unfold Lib.index; split <;> simp
  | cons b l ih =>
    unfold Lib.index
    split
    · simp; omega
    · split
      · simp; omega
      · simp; omega

set_option maxRecDepth 100000 in
set_option maxHeartbeats 1000000 in
theorem impl_index (s t : ByteArray) (m : Int) (hs : s.size ≤ 1048576) (ht : t.size ≤ 1048576) (w : World) (hm : w.cell? ⟨0, 0, none⟩ = some (.int .i64 m)) :
    Calls Tryd.prog 15 #[.string s, .string t] w fun e w' => e = .returned (.int .i64 (ixN s t)) ∧ w = w' := by
  have HM := Lib.hid hm; clear hm
  cases hn : t.toList.isEmpty with
  | true =>
    have E : Hid (ixN s t = 0) := Lib.hid (by unfold ixN; rw [if_pos (show nilB t = true from hn)])
    have hl : t.toList = [] := List.isEmpty_iff.1 hn
    have HN := Lib.hid hn; clear hn
    go_enter Tryd.func15, Tryd.ntmps15
    go_wp2_with fail
    go_ret
    exact ⟨retI E.out.symm, rfl⟩
  | false =>
    have E : Hid (ixN s t = Lib.index s.data.toList t.data.toList + 1) := Lib.hid (by unfold ixN; rw [if_neg (by unfold nilB; rw [hn]; simp)])
    have hl : (t.toList == []) = false := by
      cases h : t.toList with
      | nil => rw [h] at hn; cases hn
      | cons a x => rfl
    have h1 := Lib.index_ge s.data.toList t.data.toList
    have h2 := index_up s.data.toList t.data.toList
    rw [len_data] at h2
    have hc := fun W hW => Tryd.strings_Index s t m W (by omega) hW
    generalize Lib.index s.data.toList t.data.toList = x at *
    have HC := Lib.hid hc; clear hc
    go_enter Tryd.func15, Tryd.ntmps15
    go_wp2_with fail
    refine (HC.out _ HM.out).mono ?_
    rintro e w' ⟨rfl, rfl⟩
    go_wp2_with fail
    go_ret
    exact ⟨retI E.out.symm, rfl⟩

set_option maxRecDepth 100000 in
set_option maxHeartbeats 1000000 in
theorem spec_index (s t : ByteArray) (hs : s.size ≤ 1048576) (ht : t.size ≤ 1048576) (w : World) :
    Calls Tryd.prog 16 #[.string s, .string t] w fun e w' => e = .returned (.int .i64 (ixN s t)) ∧ w = w' := by
  cases hn : t.toList.isEmpty with
  | true =>
    have E : Hid (ixN s t = 0) := Lib.hid (by unfold ixN; rw [if_pos (show nilB t = true from hn)])
    have hl : t.toList = [] := List.isEmpty_iff.1 hn
    have hn2 : (!t.toList.isEmpty) = false := by rw [hn]; rfl
    have HN := Lib.hid hn; clear hn
    go_enter Tryd.func16, Tryd.ntmps16
    go_wp2_with fail
    go_loop [5] (fun i => i = .int .i64 0) (fun i => 0)
    case atStart => rfl
    case round =>
      subst hrel
      go_wp2_with fail
      go_ret
      exact ⟨retI E.out.symm, rfl⟩
  | false =>
    have hn2 : (!t.toList.isEmpty) = true := by rw [hn]; rfl
    have hl : (t.toList == []) = false := by
      cases h : t.toList with
      | nil => rw [h] at hn; cases hn
      | cons a x => rfl
    have HN : Hid (nilB t = false) := Lib.hid hn
    clear hn
    go_enter Tryd.func16, Tryd.ntmps16
    go_wp2_with fail
    go_loop [5] (fun i => ∃ k : Nat, k ≤ s.size + 1 ∧ i = .int .i64 k ∧ Hid (∀ j, j < k → occ s t j = false)) (fun i => s.size + 1 - (intOf i).toNat)
    case atStart => exact ⟨0, Nat.zero_le _, rfl, Lib.hid (fun j hj => by omega)⟩
    case round =>
      obtain ⟨k, hk, rfl, HK⟩ := hrel
      by_cases hlt : k + t.size ≤ s.size
      · have hd : decide ((t.size : Int) ≤ (s.size : Int) - (k : Int)) = true := by simp; omega
        have hd2 : (t.size : Int) ≤ (s.size : Int) - (k : Int) := by omega
        have ho := occ_eq hlt
        cases hoc : occ s t k with
        | true =>
          rw [hoc] at ho
          have E := Lib.hid (ix_first HN.out hoc HK.out)
          have HO := Lib.hid hoc; clear hoc
          go_wp2_with fail
          go_ret
          exact ⟨retI E.out.symm, rfl⟩
        | false =>
          rw [hoc] at ho
          have HO := Lib.hid hoc; clear hoc
          go_wp2_with fail
          go_round
          case rel =>
            refine ⟨k + 1, by omega, by go_num, Lib.hid fun j hj => ?_⟩
            by_cases e : j = k
            · subst e; exact HO.out
            · exact HK.out j (by omega)
          case measure => simp [intOf]; omega
      · have hd : decide ((t.size : Int) ≤ (s.size : Int) - (k : Int)) = false := by simp; omega
        have hd2 : ¬ (t.size : Int) ≤ (s.size : Int) - (k : Int) := by omega
        have E := Lib.hid (ix_none (s := s) HN.out (fun j hj => HK.out j (by omega)))
        go_wp2_with fail
        go_ret
        exact ⟨retI E.out.symm, rfl⟩

end Go.Proofs.YthaedmldlenhgaaDoor.Cell
