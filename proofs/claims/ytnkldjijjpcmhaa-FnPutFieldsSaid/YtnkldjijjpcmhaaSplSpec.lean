/-
  SplitBy of the model.
-/
import Derived.Test.YtnkldjijjpcmhaaLinesSpec
import Derived.Test.YtnkldjijjpcmhaaSplPure
namespace Go.Proofs.Ytnkldjijjpcmhaa.Strs
open Go.ChangeShapes Go.WideShapes Go.ChangeAt Go.RowKit Go.PlainAid
open Go.Proofs.Ytnkldjijjpcmhaa.Dec
open Go.Proofs.Ytnkldjijjpcmhaa.DecPure Go.Proofs.Ytnkldjijjpcmhaa.ReadPure Go.Proofs.Ytnkldjijjpcmhaa.RecPure
set_option linter.unusedVariables false

theorem nil_no {t : ByteArray} (h : t.toList.isEmpty = false) : (t.toList == []) = false := by
  cases e : t.toList with
  | nil => rw [e] at h; cases h
  | cons a x => rfl

set_option maxRecDepth 100000 in
set_option maxHeartbeats 4000000 in
theorem spec_split (s t : ByteArray) (hs : s.size ≤ 1048576) (ht : t.size ≤ 1048576) (w : World) : Calls Try.prog 22 #[.string s, .string t] w (Made w (splitP s t)) := by
  cases hb : (t.toList == [32]) with
  | true =>
    have E : Hid (splitP s t = fieldsP s) := Lib.hid (by unfold splitP; rw [if_pos hb])
    have hl : t.toList = [32] := by simpa using hb
    have hf := spec_fields s hs w
    have HF := Lib.hid hf; clear hf
    clear hb
    go_enter Try.func22, Try.ntmps22
    go_wp2_with fail
    refine HF.out.mono ?_
    rintro e w1 ⟨v, rfl, h1, hB⟩
    have H1 := Lib.hid h1
    have HB := Lib.hid hB
    clear h1 hB
    go_wp2_with fail
    go_ret
    exact ⟨v, rfl, by rw [E.out]; exact H1.out, HB.out⟩
  | false =>
    by_cases hz : 500 < s.size
    · have E : Hid (splitP s t = []) := Lib.hid (by unfold splitP; rw [if_neg (by rw [hb]; simp), if_pos (.inl hz)])
      have hzi : (500 : Int) < (s.size : Int) := by omega
      go_enter Try.func22, Try.ntmps22
      go_wp2_with fail
      go_ret
      exact ⟨_, rfl, by rw [E.out]; exact SR.nil _ _, Below.refl _ _⟩
    have hzi : ¬ (500 : Int) < (s.size : Int) := by omega
    have hzn : decide (500 < s.size) = false := by simpa using hz
    cases hsn : s.toList.isEmpty with
    | true =>
      have E : Hid (splitP s t = []) := Lib.hid (by unfold splitP; rw [if_neg (by rw [hb]; simp), if_pos (.inr hsn)])
      have hsl : s.toList = [] := List.isEmpty_iff.1 hsn
      clear hsn
      go_enter Try.func22, Try.ntmps22
      go_wp2_with fail
      go_ret
      exact ⟨_, rfl, by rw [E.out]; exact SR.nil _ _, Below.refl _ _⟩
    | false =>
      have hsl := nil_no hsn
      cases htn : t.toList.isEmpty with
      | true =>
        have E : Hid (splitP s t = [s]) := Lib.hid (by unfold splitP; rw [if_neg (by rw [hb]; simp), if_neg (by rw [hsn]; simp; omega), if_pos htn])
        have htl : t.toList = [] := List.isEmpty_iff.1 htn
        have htn2 : (!t.toList.isEmpty) = false := by rw [htn]; rfl
        clear htn
        have HN : Hid (SR w.heap.size w (.slice none 0 0) []) := Lib.hid (SR.nil _ _)
        go_enter Try.func22, Try.ntmps22
        go_wp2_with fail
        go_loop [5, 6, 7] (fun v fr i => v = .slice none 0 0 ∧ fr = .int .i64 0 ∧ i = .int .i64 0) (fun _ _ _ => 0)
        case atStart => exact ⟨rfl, rfl, rfl⟩
        case round =>
          obtain ⟨rfl, rfl, rfl⟩ := hrel
          go_wp2_with (at_builtin; refine sr_push w.heap.size w _ [] s rfl _ _ rfl rfl rfl HN.out (by simp) (Nat.le_refl _) ?_; intro v2 w2 hrow2 hgrow2)
          have hB2 := Lib.hid ((Below.refl w.heap.size w).grown hgrow2 (Nat.le_refl _) (fun x hx => by cases hx))
          have HR2 := Lib.hid hrow2
          clear hgrow2 hrow2
          refine (spec_most w.heap.size _ _ _ HR2.out (by simp)).mono ?_
          rintro e w' ⟨⟨v3, rfl, h3⟩, rfl⟩
          have H3 := Lib.hid h3; clear h3
          go_wp2_with fail
          go_ret
          exact ⟨_, rfl, by rw [E.out]; exact H3.out, hB2.out⟩
      | false =>
        have E : Hid (splitP s t = (spl s t 0 0).take 50) := Lib.hid (by unfold splitP; rw [if_neg (by rw [hb]; simp), if_neg (by rw [hsn]; simp; omega), if_neg (by rw [htn]; simp)])
        have htl := nil_no htn
        have htn2 : (!t.toList.isEmpty) = true := by rw [htn]; rfl
        have ht1 : 1 ≤ t.size := by
          have := size_nil t
          rw [htn] at this
          have : ¬ t.size = 0 := by simpa using this.symm
          omega
        go_enter Try.func22, Try.ntmps22
        go_wp2_with fail
        go_loopw [5, 6, 7] (fun v fr i wr => ∃ (k f : Nat) (L : List ByteArray), k ≤ s.size ∧ f ≤ k ∧ i = .int .i64 k ∧ fr = .int .i64 f ∧ Hid (SR w.heap.size wr v L) ∧ Hid (L ++ spl s t k f = spl s t 0 0) ∧ L.length ≤ k ∧ Hid (Below w.heap.size w wr)) (fun _ _ i _ => s.size - (intOf i).toNat)
        case atStart => exact ⟨0, 0, [], Nat.zero_le _, Nat.le_refl _, rfl, rfl, SR.nil _ _, Lib.hid rfl, Nat.zero_le _, Below.refl _ _⟩
        case round =>
          obtain ⟨k, f, L, hk, hfk, rfl, rfl, HS, HF, hL, HB⟩ := hrel
          have hsz := HB.out.size
          by_cases hlt : k + t.size ≤ s.size
          · have hc1 : (k : Int) + (t.size : Int) ≤ (s.size : Int) := by omega
            have hc2 : (k : Int) ≤ (k : Int) + (t.size : Int) := by omega
            have hc3 : (0 : Int) ≤ (k : Int) + (t.size : Int) := by omega
            have hc4 : ((k : Int) + (t.size : Int)).toNat = k + t.size := by omega
            cases hm : mtB s t k with
            | true =>
              have hy := spl_yes ht1 hlt hm (f := f)
              have HY : Hid ((L ++ [s.extract f k]) ++ spl s t (k + t.size) (k + t.size) = spl s t 0 0) := Lib.hid (by rw [← HF.out, hy, List.append_assoc]; rfl)
              have hmm : ((s.extract k (k + t.size)).toList == t.toList) = true := hm
              have hml : (s.extract k (k + t.size)).toList = t.toList := by simpa using hmm
              have i1 : (f : Int) ≤ (k : Int) := by omega
              have i2 : (k : Int) ≤ (s.size : Int) := by omega
              clear hy hm hmm
              go_wp2_with (at_builtin; refine sr_push w.heap.size wr _ L (s.extract f k) rfl _ _ rfl rfl rfl HS.out (by omega) (by omega) ?_; intro v2 w2 hrow2 hgrow2)
              have hB2 := HB.out.grown hgrow2 hsz (fun x hx => (HS.out.lt x hx).1)
              clear hgrow2
              go_roundw
              case rel => exact ⟨k + t.size, k + t.size, L ++ [s.extract f k], hlt, Nat.le_refl _, by first | go_num | (congr 1; omega), by go_num, Lib.hid hrow2, HY, by rw [List.length_append, List.length_singleton]; omega, Lib.hid hB2⟩
              case measure => simp [intOf]; omega
            | false =>
              have hn := spl_no ht1 hlt hm (f := f)
              have HY : Hid (L ++ spl s t (k + 1) f = spl s t 0 0) := Lib.hid (by rw [← HF.out, hn])
              have hmm : ((s.extract k (k + t.size)).toList == t.toList) = false := hm
              clear hn hm
              go_wp2_with fail
              go_roundw
              case rel => exact ⟨k + 1, f, L, by omega, by omega, by go_num, rfl, HS, HY, by omega, HB⟩
              case measure => simp [intOf]; omega
          · have hcd : decide ((k : Int) + (t.size : Int) ≤ (s.size : Int)) = false := by simp; omega
            have hE := spl_end (s := s) (t := t) (i := k) (f := f) hlt
            have HY : Hid (L ++ [s.extract f s.size] = spl s t 0 0) := Lib.hid (by rw [← HF.out, hE])
            have i1 : (f : Int) ≤ (s.size : Int) := by omega
            clear hE
            go_wp2_with (at_builtin; refine sr_push w.heap.size wr _ L (s.extract f s.size) rfl _ _ rfl rfl rfl HS.out (by omega) (by omega) ?_; intro v2 w2 hrow2 hgrow2)
            have hB2 := Lib.hid (HB.out.grown hgrow2 hsz (fun x hx => (HS.out.lt x hx).1))
            have HR2 := Lib.hid hrow2
            clear hgrow2 hrow2
            refine (spec_most w.heap.size _ _ _ HR2.out (by rw [List.length_append, List.length_singleton]; omega)).mono ?_
            rintro e w' ⟨⟨v3, rfl, h3⟩, rfl⟩
            have H3 := Lib.hid h3; clear h3
            go_wp2_with fail
            go_ret
            exact ⟨_, rfl, by rw [E.out, ← HY.out]; exact H3.out, hB2.out⟩

end Go.Proofs.Ytnkldjijjpcmhaa.Strs
