/-
  Lines and Fields of the model.
-/
import Derived.Test.YtnkldjijjpcmhaaStrs
import Derived.Test.YtnkldjijjpcmhaaRecPure
namespace Go.Proofs.Ytnkldjijjpcmhaa.Strs
open Go.ChangeShapes Go.WideShapes Go.ChangeAt Go.RowKit Go.PlainAid
open Go.Proofs.Ytnkldjijjpcmhaa.Dec
open Go.Proofs.Ytnkldjijjpcmhaa.DecPure Go.Proofs.Ytnkldjijjpcmhaa.ReadPure Go.Proofs.Ytnkldjijjpcmhaa.RecPure
set_option linter.unusedVariables false

set_option maxRecDepth 100000 in
set_option maxHeartbeats 2000000 in
theorem spec_lines (s : ByteArray) (hs : s.size ≤ 1048576) (w : World) : Calls Try.prog 26 #[.string s] w (Made w (linesP s)) := by
  have hb := get_bt s
  by_cases hz : 3000 < s.size
  · have E : Hid (linesP s = []) := Lib.hid (by unfold linesP; rw [if_pos hz])
    have hzi : (3000 : Int) < (s.size : Int) := by omega
    go_enter Try.func26, Try.ntmps26
    go_wp2_with fail
    go_ret
    exact ⟨_, rfl, by rw [E.out]; exact SR.nil _ _, Below.refl _ _⟩
  have hzi : ¬ (3000 : Int) < (s.size : Int) := by omega
  have hzn : decide (3000 < s.size) = false := by simpa using hz
  go_enter Try.func26, Try.ntmps26
  go_wp2_with fail
  go_loopw [3, 4, 5] (fun v f i wr => ∃ k : Nat, k ≤ s.size ∧ i = .int .i64 k ∧ f = .int .i64 (lnF s k) ∧ Hid (SR w.heap.size wr v (lnO s k)) ∧ Hid (Below w.heap.size w wr)) (fun _ _ i _ => s.size - (intOf i).toNat)
  case atStart => exact ⟨0, Nat.zero_le _, rfl, rfl, SR.nil _ _, Below.refl _ _⟩
  case round =>
    obtain ⟨k, hk, rfl, rfl, HS, HB⟩ := hrel
    have hlen := lnO_len s k
    have hfl := lnF_le s k
    have hsz := HB.out.size
    by_cases hlt : k < s.size
    · have b0 := bt_nonneg s k
      have b1 := bt_le s k
      by_cases hc : bt s k = 10
      · obtain ⟨e1, e2⟩ := lnO_yes hc
        have E1 := Lib.hid e1
        have E2 := Lib.hid e2
        clear e1 e2
        generalize hf : lnF s k = f at *
        have HF := Lib.hid hf; clear hf
        have hfi : (f : Int) ≤ (k : Int) := by omega
        have hki : (k : Int) ≤ (s.size : Int) := by omega
        go_wp2_with (at_builtin; refine sr_push w.heap.size wr _ (lnO s k) (s.extract f k) rfl _ _ rfl rfl rfl HS.out (by omega) (by omega) ?_; intro v2 w2 hrow2 hgrow2)
        have hB2 := HB.out.grown hgrow2 hsz (fun x hx => (HS.out.lt x hx).1)
        clear hgrow2
        go_roundw
        case rel => exact ⟨k + 1, by omega, by go_num, by rw [E2.out]; go_num, Lib.hid (by rw [E1.out]; exact hrow2), Lib.hid hB2⟩
        case measure => simp [intOf]; omega
      · obtain ⟨e1, e2⟩ := lnO_no hc
        have E1 := Lib.hid e1
        have E2 := Lib.hid e2
        clear e1 e2
        have hcb : (bt s k == 10) = false := by simpa using hc
        go_wp2_with fail
        go_roundw
        case rel => exact ⟨k + 1, by omega, by go_num, by rw [E2.out], Lib.hid (by rw [E1.out]; exact HS.out), HB⟩
        case measure => simp [intOf]; omega
    · obtain rfl : k = s.size := by omega
      clear hlt
      by_cases hl : lnF s s.size < s.size
      · have E : Hid (linesP s = lnO s s.size ++ [s.extract (lnF s s.size) s.size]) := Lib.hid (by unfold linesP; rw [if_neg hz, if_pos hl])
        generalize hf : lnF s s.size = f at *
        have HF := Lib.hid hf; clear hf
        have hfi : (f : Int) < (s.size : Int) := by omega
        go_wp2_with (at_builtin; refine sr_push w.heap.size wr _ (lnO s s.size) (s.extract f s.size) rfl _ _ rfl rfl rfl HS.out (by omega) (by omega) ?_; intro v2 w2 hrow2 hgrow2)
        have hB2 := HB.out.grown hgrow2 hsz (fun x hx => (HS.out.lt x hx).1)
        clear hgrow2
        go_ret
        exact ⟨_, rfl, by rw [E.out]; exact hrow2, hB2⟩
      · have E : Hid (linesP s = lnO s s.size) := Lib.hid (by unfold linesP; rw [if_neg hz, if_neg hl])
        have hld : decide (lnF s s.size < s.size) = false := by simpa using hl
        go_wp2_with fail
        go_ret
        exact ⟨_, rfl, by rw [E.out]; exact HS.out, HB.out⟩

theorem end_twice (s : ByteArray) (a : Nat) : endOf spB s (endOf spB s a) = endOf spB s a :=
  endOf_stop (fun h => by have := endOf_out h.1; rw [h.2] at this; cases this)
theorem fld_skip (s : ByteArray) (a : Nat) : fld s (endOf spB s a) = fld s a := by
  by_cases h : endOf spB s a < s.size
  · rw [fld_yes h, fld_yes (by rw [end_twice]; exact h), end_twice]
  · rw [fld_no h, fld_no (by rw [end_twice]; exact h)]

def Most (B : Nat) (w : World) (L : List ByteArray) (e : Ending) (w' : World) : Prop := (∃ v, e = .returned v ∧ SR B w v L) ∧ w = w'
theorem spec_most (B : Nat) (v : Value) (L : List ByteArray) (w : World) (h : SR B w v L) (hl : L.length ≤ 1000000) : Calls Try.prog 45 #[v] w (Most B w (L.take 50)) := by
  obtain ⟨ao, cap, rfl⟩ := h.form
  by_cases hz : 50 < L.length
  · have hzi : (50 : Int) < (L.length : Int) := by omega
    obtain ⟨g, c, e1, _, _⟩ := h.at (i := 0) (by omega)
    simp only [Value.slice.injEq, true_and] at e1
    obtain ⟨rfl, rfl⟩ := e1
    have hcap : L.length ≤ cap := by
      rcases h.2 with ⟨q, _⟩ | ⟨g', cap', cur, hv, hb, hg, hnc, _⟩
      · cases q
      · simp only [Value.slice.injEq, Option.some.injEq, Addr.mk.injEq, and_true, true_and] at hv
        obtain ⟨rfl, rfl⟩ := hv
        exact hnc
    have hci : (50 : Int) ≤ (cap : Int) := by omega
    have HS := Lib.hid (h.take rfl (m := 50) (by omega)); clear h
    go_enter Try.func45, Try.ntmps45
    go_wp2_with fail
    go_ret
    exact ⟨⟨_, rfl, HS.out⟩, rfl⟩
  · have hzi : ¬ (50 : Int) < (L.length : Int) := by omega
    have hzn : decide (50 < L.length) = false := by simpa using hz
    have hT : L.take 50 = L := List.take_of_length_le (by omega)
    rw [hT]; clear hT
    have HS := Lib.hid h; clear h
    go_enter Try.func45, Try.ntmps45
    go_wp2_with fail
    go_ret
    exact ⟨⟨_, rfl, HS.out⟩, rfl⟩

set_option maxRecDepth 100000 in
set_option maxHeartbeats 4000000 in
theorem spec_fields (s : ByteArray) (hs : s.size ≤ 1048576) (w : World) : Calls Try.prog 17 #[.string s] w (Made w (fieldsP s)) := by
  have hb := get_bt s
  have hm : s.size ≤ maxLen := by unfold maxLen; omega
  by_cases hz : 500 < s.size
  · have E : Hid (fieldsP s = []) := Lib.hid (by unfold fieldsP; rw [if_pos hz])
    have hzi : (500 : Int) < (s.size : Int) := by omega
    go_enter Try.func17, Try.ntmps17
    go_wp2_with fail
    go_ret
    exact ⟨_, rfl, by rw [E.out]; exact SR.nil _ _, Below.refl _ _⟩
  have hzi : ¬ (500 : Int) < (s.size : Int) := by omega
  have hzn : decide (500 < s.size) = false := by simpa using hz
  have E : Hid (fieldsP s = (fld s 0).take 50) := Lib.hid (by unfold fieldsP; rw [if_neg hz])
  have hs0 := spec_skip s 0 hm (Nat.zero_le _) w
  have hk0 := end_twice s 0
  have hf0 := fld_skip s 0
  have hl0 := endOf_le spB s 0 (Nat.zero_le _)
  generalize endOf spB s 0 = k0 at *
  have HK0 := Lib.hid hk0; clear hk0
  have HF0 := Lib.hid hf0; clear hf0
  have HS0 := Lib.hid hs0; clear hs0
  go_enter Try.func17, Try.ntmps17
  go_wp2_with fail
  refine HS0.out.mono ?_
  rintro e w' ⟨rfl, rfl⟩
  go_wp2_with fail
  go_loopw [3, 4] (fun v a wr => ∃ (k : Nat) (L : List ByteArray), k ≤ s.size ∧ a = .int .i64 k ∧ Hid (endOf spB s k = k) ∧ Hid (SR w.heap.size wr v L) ∧ Hid (L ++ fld s k = fld s 0) ∧ L.length ≤ k ∧ Hid (Below w.heap.size w wr)) (fun _ a _ => s.size - (intOf a).toNat)
  case atStart => exact ⟨k0, [], hl0, rfl, HK0, SR.nil _ _, Lib.hid HF0.out, Nat.zero_le _, Below.refl _ _⟩
  case round =>
    obtain ⟨k, L, hk, rfl, HK, HS, HF, hL, HB⟩ := hrel
    have hsz := HB.out.size
    by_cases hlt : k < s.size
    · have hfy := fld_yes (s := s) (a := k) (by rw [HK.out]; exact hlt)
      have hnx := fld_next (s := s) (a := k) (by rw [HK.out]; exact hlt)
      rw [HK.out] at hfy hnx
      have hel := endOf_le nwB s k (by omega)
      have hes : ∀ j, endOf nwB s j = endOf nwB s k → j ≤ s.size → endOf nwB s k = j ∨ (j < s.size ∧ nwB (bt s j) = true) := fun j hj hjs => by
        by_cases q : j < s.size ∧ nwB (bt s j) = true
        · exact .inr q
        · left; rw [← hj]; exact endOf_stop q
      generalize hen : endOf nwB s k = en at *
      have HEN := Lib.hid hen; clear hen
      have HFY := Lib.hid hfy; clear hfy
      have HES := Lib.hid hes; clear hes
      have hne := hnx.1
      clear hnx
      go_wp2_with fail
      obtain ⟨wo, hwo⟩ : ∃ wo, wo = wr := ⟨_, rfl⟩
      subst hwo
      go_loop [4] (fun a => ∃ j : Nat, k ≤ j ∧ j ≤ en ∧ a = .int .i64 j ∧ Hid (endOf nwB s j = en)) (fun a => s.size - (intOf a).toNat)
      case atStart => exact ⟨k, Nat.le_refl _, by omega, rfl, HEN⟩
      case round =>
        obtain ⟨j, hkj, hje, rfl, HJ⟩ := hrel
        by_cases hjl : j < s.size
        · have b0 := bt_nonneg s j
          have b1 := bt_le s j
          cases hnw : nwB (bt s j) with
          | true =>
            have hst := endOf_step hjl hnw
            have hge := endOf_ge nwB s (j + 1)
            rw [HJ.out] at hst
            have HST := Lib.hid hst.symm
            rw [← hst] at hge
            have hsp : spB (bt s j) = false := by unfold nwB at hnw; simpa using hnw
            have HSP := Lib.hid hsp
            clear hst hnw hsp
            have hjc : (j : Int) < (s.size : Int) := by omega
            go_wp2_with fail
            refine (spec_white _ b0 b1 _).mono ?_
            rw [HSP.out]
            rintro e w' ⟨rfl, rfl⟩
            go_wp2_with fail
            go_round
            case rel => exact ⟨j + 1, by omega, hge, by go_num, HST⟩
            case measure => simp [intOf]; omega
          | false =>
            have hst := endOf_stop (p := nwB) (s := s) (a := j) (fun h => by rw [hnw] at h; cases h.2)
            rw [HJ.out] at hst
            have hsp : spB (bt s j) = true := by unfold nwB at hnw; simpa using hnw
            clear hnw
            obtain rfl : j = en := by omega
            have hsk := fun W => spec_skip s j hm hel W
            have hk2 := end_twice s j
            have hf2 := fld_skip s j
            have hg2 := endOf_ge spB s j
            have hl2 := endOf_le spB s j hel
            generalize endOf spB s j = k2 at *
            have HSK := Lib.hid hsk; clear hsk
            have HK2 := Lib.hid hk2; clear hk2
            have HF2 : Hid ((L ++ [s.extract k j]) ++ fld s k2 = fld s 0) := Lib.hid (by rw [hf2, ← HF.out, HFY.out, List.append_assoc]; rfl)
            clear hf2
            have i1 : (k : Int) ≤ (j : Int) := by omega
            have i2 : (j : Int) ≤ (s.size : Int) := by omega
            go_wp2_with (first | (go_at_call 44; refine (spec_white _ (bt_nonneg s j) (bt_le s j) _).mono ?_; rintro e w' ⟨rfl, rfl⟩) | (at_builtin; refine sr_push w.heap.size wo _ L (s.extract k j) rfl _ _ rfl rfl rfl HS.out (by omega) (by omega) ?_; intro v2 w2 hrow2 hgrow2))
            have hB2 := HB.out.grown hgrow2 hsz (fun x hx => (HS.out.lt x hx).1)
            have HB2 := Lib.hid hB2
            have HR2 := Lib.hid hrow2
            clear hgrow2 hB2 hrow2
            refine (HSK.out _).mono ?_
            rintro e w' ⟨rfl, rfl⟩
            go_wp2_with fail
            go_roundw
            case rel => exact ⟨k2, L ++ [s.extract k j], hl2, rfl, HK2, HR2, HF2, by rw [List.length_append, List.length_singleton]; omega, HB2⟩
            case measure => simp [intOf]; omega
        · have hst := endOf_stop (p := nwB) (s := s) (a := j) (fun h => hjl h.1)
          rw [HJ.out] at hst
          have hjd : decide (j < s.size) = false := by simpa using hjl
          obtain rfl : j = en := by omega
          have hsk := fun W => spec_skip s j hm hel W
          have hk2 := end_twice s j
          have hf2 := fld_skip s j
          have hg2 := endOf_ge spB s j
          have hl2 := endOf_le spB s j hel
          generalize endOf spB s j = k2 at *
          have HSK := Lib.hid hsk; clear hsk
          have HK2 := Lib.hid hk2; clear hk2
          have HF2 : Hid ((L ++ [s.extract k j]) ++ fld s k2 = fld s 0) := Lib.hid (by rw [hf2, ← HF.out, HFY.out, List.append_assoc]; rfl)
          clear hf2
          have i1 : (k : Int) ≤ (j : Int) := by omega
          have i2 : (j : Int) ≤ (s.size : Int) := by omega
          go_wp2_with (first | (go_at_call 44; refine (spec_white _ (bt_nonneg s j) (bt_le s j) _).mono ?_; rintro e w' ⟨rfl, rfl⟩) | (at_builtin; refine sr_push w.heap.size wo _ L (s.extract k j) rfl _ _ rfl rfl rfl HS.out (by omega) (by omega) ?_; intro v2 w2 hrow2 hgrow2))
          have hB2 := HB.out.grown hgrow2 hsz (fun x hx => (HS.out.lt x hx).1)
          have HB2 := Lib.hid hB2
          have HR2 := Lib.hid hrow2
          clear hgrow2 hB2 hrow2
          refine (HSK.out _).mono ?_
          rintro e w' ⟨rfl, rfl⟩
          go_wp2_with fail
          go_roundw
          case rel => exact ⟨k2, L ++ [s.extract k j], hl2, rfl, HK2, HR2, HF2, by rw [List.length_append, List.length_singleton]; omega, HB2⟩
          case measure => simp [intOf]; omega
    · have hkd : decide (k < s.size) = false := by simpa using hlt
      have hfn := fld_no (s := s) (a := k) (by rw [HK.out]; exact hlt)
      have hLf : L = fld s 0 := by rw [← HF.out, hfn, List.append_nil]
      have HLF := Lib.hid hLf
      clear hLf hfn
      go_wp2_with fail
      refine (spec_most w.heap.size _ L _ HS.out (by omega)).mono ?_
      rintro e w' ⟨⟨v2, rfl, h2⟩, rfl⟩
      have H2 := Lib.hid h2; clear h2
      go_wp2_with fail
      go_ret
      exact ⟨_, rfl, by rw [E.out, ← HLF.out]; exact H2.out, HB.out⟩

end Go.Proofs.Ytnkldjijjpcmhaa.Strs
