/-
  Lines, Fields and SplitBy of the program.
-/
import Derived.Test.YtnkldjijjpcmhaaFirst
import Derived.Test.YtnkldjijjpcmhaaSplSpec
namespace Go.Proofs.Ytnkldjijjpcmhaa.Seqs
open Go.ChangeShapes Go.WideShapes Go.ChangeAt Go.RowKit Go.PlainAid Go.Shelf
open Go.Proofs.Ytnkldjijjpcmhaa.Dec Go.Proofs.Ytnkldjijjpcmhaa.Strs
open Go.Proofs.Ytnkldjijjpcmhaa.DecPure Go.Proofs.Ytnkldjijjpcmhaa.ReadPure Go.Proofs.Ytnkldjijjpcmhaa.RecPure
set_option linter.unusedVariables false

theorem ext_le (s : ByteArray) (a b : Nat) : (s.extract a b).size ≤ s.size := by rw [ByteArray.size_extract]; omega
theorem fld_sizes (s : ByteArray) : ∀ (m a : Nat), ∀ x ∈ fldF s m a, x.size ≤ s.size
  | 0, _, x, hx => by cases hx
  | m + 1, a, x, hx => by
    rw [fldF] at hx
    split at hx
    · rcases List.mem_cons.1 hx with rfl | hx
      · exact ext_le _ _ _
      · exact fld_sizes s m _ x hx
    · cases hx
theorem spl_sizes (s t : ByteArray) : ∀ (m i f : Nat), ∀ x ∈ splF s t m i f, x.size ≤ s.size
  | 0, i, f, x, hx => by
    rw [splF, List.mem_singleton] at hx
    subst hx; exact ext_le _ _ _
  | m + 1, i, f, x, hx => by
    rw [splF] at hx
    split at hx
    · split at hx
      · rcases List.mem_cons.1 hx with rfl | hx
        · exact ext_le _ _ _
        · exact spl_sizes s t m _ _ x hx
      · exact spl_sizes s t m _ _ x hx
    · rw [List.mem_singleton] at hx
      subst hx; exact ext_le _ _ _
theorem SR.lower {B C : Nat} {w : World} {v : Value} {l : List ByteArray} (h : SR C w v l) (hB : B ≤ C) : SR B w v l := by
  rcases h with ⟨q1, q2 | ⟨x, cap, cur, rfl, q3, q4⟩⟩
  · exact ⟨q1, Or.inl q2⟩
  · exact ⟨q1, Or.inr ⟨x, cap, cur, rfl, by omega, q4⟩⟩
theorem Made.from_ {w w1 w' : World} {l : List ByteArray} {e : Ending} (h : Made w1 l e w') (hb : Below w.heap.size w w1) : Made w l e w' := by
  obtain ⟨v, he, hr, hB⟩ := h
  exact ⟨v, he, SR.lower hr hb.size, hb.trans (hB.mono hb.size)⟩

theorem ent_words : ∀ args w, (callFunc 58 args).run Try.prog w = .ok (.enter 58 args) w := enters_of Try.func58 (by kernel_rfl) rfl
theorem ent_pieces : ∀ args w, (callFunc 55 args).run Try.prog w = .ok (.enter 55 args) w := enters_of Try.func55 (by kernel_rfl) rfl

set_option maxHeartbeats 1000000 in
theorem impl_fields (s : ByteArray) (hs : s.size ≤ 1048576) (w : World) : Calls Try.prog 16 #[.string s] w (Made w (fieldsP s)) := by
  by_cases hz : 500 < s.size
  · have E : Hid (fieldsP s = []) := Lib.hid (by unfold fieldsP; rw [if_pos hz])
    have hzi : (500 : Int) < (s.size : Int) := by omega
    go_enter Try.func16, Try.ntmps16
    go_wp2_with fail
    go_ret
    exact ⟨_, rfl, by rw [E.out]; exact SR.nil _ _, Below.refl _ _⟩
  have E : Hid (fieldsP s = (fld s 0).take 50) := Lib.hid (by unfold fieldsP; rw [if_neg hz])
  have hzi : ¬ (500 : Int) < (s.size : Int) := by omega
  have hzn : decide (500 < s.size) = false := by simpa using hz
  obtain ⟨xs, hxs⟩ := small_list (fld s 0) (fun x hx => Nat.le_trans (fld_sizes s _ _ x hx) hs)
  have hw1 : Below w.heap.size w (w.alloc (.cells #[.string s] 9)) := (Below.refl _ _).alloc (Nat.le_refl _) _
  have hbx : TxBox (w.alloc (.cells #[.string s] 9)) w.heap.size s := ⟨by simp, cell_of_row _ _ 0 _ _ _ (heap_alloc_new w _)⟩
  have hfirst := first_of 58 ent_words _ xs 50 (by omega) _ (words_seq 2 (by omega) w.heap.size s hs xs hxs _ hbx)
  rw [hxs] at hfirst
  have HF := Lib.hid hfirst
  clear hfirst hbx
  go_enter Try.func16, Try.ntmps16
  go_wp2_with (go_at_call 42; refine (words_in s _).mono ?_; rintro e w' ⟨rfl, rfl⟩)
  refine HF.out.mono ?_
  rintro e w2 hm
  obtain ⟨v, rfl, h1, hB⟩ := Made.from_ hm hw1
  have H1 := Lib.hid h1
  have HB := Lib.hid hB
  clear hm h1 hB
  go_wp2_with fail
  go_ret
  exact ⟨v, rfl, by rw [E.out]; exact H1.out, HB.out⟩

set_option maxHeartbeats 1000000 in
theorem impl_lines (s : ByteArray) (hs : s.size ≤ 1048576) (w : World) (hH : Held w) : Calls Try.prog 13 #[.string s] w (Made w (linesP s)) := by
  cases hsn : s.toList.isEmpty with
  | true =>
    have E : Hid (linesP s = []) := Lib.hid (lines_nil (by rw [size_nil] at hsn; simpa using hsn))
    have hsl : s.toList = [] := List.isEmpty_iff.1 hsn
    clear hsn
    go_enter Try.func13, Try.ntmps13
    go_wp2_with fail
    go_ret
    exact ⟨_, rfl, by rw [E.out]; exact SR.nil _ _, Below.refl _ _⟩
  | false =>
  have hsl := nil_no hsn
  have h0 : 0 < s.size := by
    rw [size_nil] at hsn
    have := of_decide_eq_false hsn
    omega
  clear hsn
  by_cases hz : 3000 < s.size
  · have E : Hid (linesP s = []) := Lib.hid (by unfold linesP; rw [if_pos hz])
    have hzi : (3000 : Int) < (s.size : Int) := by omega
    go_enter Try.func13, Try.ntmps13
    go_wp2_with fail
    go_ret
    exact ⟨_, rfl, by rw [E.out]; exact SR.nil _ _, Below.refl _ _⟩
  have hzi : ¬ (3000 : Int) < (s.size : Int) := by omega
  have hzn : decide (3000 < s.size) = false := by simpa using hz
  obtain ⟨e1, e2⟩ := lines_trim h0 (by omega)
  have hts := trim_size s
  have htr : ∀ W, Calls Try.prog 40 #[.string s, .string ⟨#[10]⟩] W fun e w' => e = .returned (.string (trimB s)) ∧ w' = W := fun W => Try.strings_TrimSuffix s ⟨#[10]⟩ W (by omega)
  generalize trimB s = t at *
  obtain ⟨xs, hxs⟩ := small_list (spl t nlB 0 0) (fun x hx => Nat.le_trans (spl_sizes t nlB _ _ _ x hx) (by omega))
  have hB0 : Below w.heap.size w ((w.alloc (.cells #[.string t] 9)).alloc (.cells #[.string nlB] 9)) := ((Below.refl _ w).alloc (Nat.le_refl _) _).alloc (by simp) _
  have hb1 : TxBox ((w.alloc (.cells #[.string t] 9)).alloc (.cells #[.string nlB] 9)) w.heap.size t :=
    TxBox.below (w := w.alloc (.cells #[.string t] 9)) ⟨by simp, cell_of_row _ _ 0 _ _ _ (heap_alloc_new w _)⟩ ((Below.refl _ _).alloc (Nat.le_refl _) _)
  have hb2 : TxBox ((w.alloc (.cells #[.string t] 9)).alloc (.cells #[.string nlB] 9)) (w.heap.size + 1) nlB := by
    have := heap_alloc_new (w.alloc (.cells #[.string t] 9)) (.cells #[.string nlB] 9)
    rw [World.size_alloc] at this
    exact ⟨by simp, cell_of_row _ _ 0 _ _ _ this⟩
  have hfirst := first_of 55 ent_pieces _ xs 3000 (by omega) _ (pieces_seq 2 (by omega) w.heap.size (w.heap.size + 1) t nlB (by omega) (by decide) xs hxs _ hb1 hb2 (hH.below hB0 (Nat.le_refl _)))
  rw [hxs, e1, List.take_of_length_le e2] at hfirst
  have HF := Lib.hid hfirst
  clear hfirst hb1 hb2 e1 e2 hxs
  go_enter Try.func13, Try.ntmps13
  go_wp2_with (first | (go_at_call 40; refine (htr _).mono ?_; rintro e w' ⟨rfl, rfl⟩) | (go_at_call 39; refine (pieces_in t nlB _).mono ?_; rintro e w' ⟨rfl, rfl⟩))
  refine HF.out.mono ?_
  rintro e w2 hm
  obtain ⟨v, rfl, h1, hB⟩ := Made.from_ hm hB0
  have H1 := Lib.hid h1
  have HB := Lib.hid hB
  clear hm h1 hB
  go_wp2_with fail
  go_ret
  exact ⟨v, rfl, H1.out, HB.out⟩

set_option maxHeartbeats 1000000 in
theorem impl_split (s t : ByteArray) (hs : s.size ≤ 1048576) (ht : t.size ≤ 1048576) (w : World) (hH : Held w) : Calls Try.prog 21 #[.string s, .string t] w (Made w (splitP s t)) := by
  cases hsn : s.toList.isEmpty with
  | true =>
    have E : Hid (splitP s t = []) := Lib.hid (by
      unfold splitP
      split
      · exact fields_nil (by rw [size_nil] at hsn; simpa using hsn)
      · rw [if_pos (.inr hsn)])
    have hsl : s.toList = [] := List.isEmpty_iff.1 hsn
    clear hsn
    go_enter Try.func21, Try.ntmps21
    go_wp2_with fail
    go_ret
    exact ⟨_, rfl, by rw [E.out]; exact SR.nil _ _, Below.refl _ _⟩
  | false =>
  have hsl := nil_no hsn
  by_cases hz : 500 < s.size
  · have E : Hid (splitP s t = []) := Lib.hid (by
      unfold splitP fieldsP
      rw [if_pos hz]
      split
      · rfl
      · rw [if_pos (.inl hz)])
    have hzi : (500 : Int) < (s.size : Int) := by omega
    clear hsn
    go_enter Try.func21, Try.ntmps21
    go_wp2_with fail
    go_ret
    exact ⟨_, rfl, by rw [E.out]; exact SR.nil _ _, Below.refl _ _⟩
  have hzi : ¬ (500 : Int) < (s.size : Int) := by omega
  have hzn : decide (500 < s.size) = false := by simpa using hz
  cases hb : (t.toList == [32]) with
  | true =>
    have E : Hid (splitP s t = fieldsP s) := Lib.hid (by unfold splitP; rw [if_pos hb])
    have hl : t.toList = [32] := by simpa using hb
    have hf := impl_fields s hs w
    have HF := Lib.hid hf; clear hf
    clear hb hsn
    go_enter Try.func21, Try.ntmps21
    go_wp2_with fail
    refine HF.out.mono ?_
    rintro e w1 ⟨v, rfl, h1, hB⟩
    have H1 := Lib.hid h1
    have HB := Lib.hid hB
    clear h1 hB
    go_wp2_with fail
    go_ret
    exact ⟨v, rfl, by rw [E.out]; exact H1.out, HB.out⟩
  | false =>
    cases htn : t.toList.isEmpty with
    | true =>
      have E : Hid (splitP s t = [s]) := Lib.hid (by unfold splitP; rw [if_neg (by rw [hb]; simp), if_neg (by rw [hsn]; simp; omega), if_pos htn])
      have htl : t.toList = [] := List.isEmpty_iff.1 htn
      clear htn hb hsn
      have hcl := clone_in s hs
      have HC := Lib.hid hcl; clear hcl
      go_enter Try.func21, Try.ntmps21
      go_wp2_with (go_at_call 47; refine (HC.out _).mono ?_; rintro e w1 ⟨rfl, hB⟩; have HB := Lib.hid hB; clear hB)
      go_ret
      have hrow : SR w1.heap.size (w1.alloc (.cells #[.string s] 9)) (.slice (some ⟨w1.heap.size, 0, none⟩) 1 1) [s] := World.ownsRow_lit w1 #[.string s] 1 (Nat.le_refl _) (by decide) rfl
      exact ⟨_, rfl, by rw [E.out]; exact SR.lower hrow HB.out.size, HB.out.alloc HB.out.size _⟩
    | false =>
      have htl := nil_no htn
      have ht1 : 1 ≤ t.size := by
        rw [size_nil] at htn
        have := of_decide_eq_false htn
        omega
      have E : Hid (splitP s t = (spl s t 0 0).take 50) := Lib.hid (by unfold splitP; rw [if_neg (by rw [hb]; simp), if_neg (by rw [hsn]; simp; omega), if_neg (by rw [htn]; simp)])
      clear htn hsn
      obtain ⟨xs, hxs⟩ := small_list (spl s t 0 0) (fun x hx => Nat.le_trans (spl_sizes s t _ _ _ x hx) hs)
      have hB0 : Below w.heap.size w ((w.alloc (.cells #[.string s] 9)).alloc (.cells #[.string t] 9)) := ((Below.refl _ w).alloc (Nat.le_refl _) _).alloc (by simp) _
      have hb1 : TxBox ((w.alloc (.cells #[.string s] 9)).alloc (.cells #[.string t] 9)) w.heap.size s :=
        TxBox.below (w := w.alloc (.cells #[.string s] 9)) ⟨by simp, cell_of_row _ _ 0 _ _ _ (heap_alloc_new w _)⟩ ((Below.refl _ _).alloc (Nat.le_refl _) _)
      have hb2 : TxBox ((w.alloc (.cells #[.string s] 9)).alloc (.cells #[.string t] 9)) (w.heap.size + 1) t := by
        have := heap_alloc_new (w.alloc (.cells #[.string s] 9)) (.cells #[.string t] 9)
        rw [World.size_alloc] at this
        exact ⟨by simp, cell_of_row _ _ 0 _ _ _ this⟩
      have hfirst := first_of 55 ent_pieces _ xs 50 (by omega) _ (pieces_seq 2 (by omega) w.heap.size (w.heap.size + 1) s t hs ht1 xs hxs _ hb1 hb2 (hH.below hB0 (Nat.le_refl _)))
      rw [hxs] at hfirst
      have HF := Lib.hid hfirst
      clear hfirst hb1 hb2 hxs
      go_enter Try.func21, Try.ntmps21
      go_wp2_with (go_at_call 39; refine (pieces_in s t _).mono ?_; rintro e w' ⟨rfl, rfl⟩)
      refine HF.out.mono ?_
      rintro e w2 hm
      obtain ⟨v, rfl, h1, hB⟩ := Made.from_ hm hB0
      have H1 := Lib.hid h1
      have HB := Lib.hid hB
      clear hm h1 hB
      go_wp2_with fail
      go_ret
      exact ⟨v, rfl, by rw [E.out]; exact H1.out, HB.out⟩

end Go.Proofs.Ytnkldjijjpcmhaa.Seqs
