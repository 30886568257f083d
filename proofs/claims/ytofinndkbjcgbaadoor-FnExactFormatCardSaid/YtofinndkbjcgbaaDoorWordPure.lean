/-
  A text's words found byte by byte; parts cut off at a text; lines out of them: plain.
-/
import Derived.Test.YtofinndkbjcgbaaDoorSplPure
import Derived.Test.YtofinndkbjcgbaaDoorSubPure
import Derived.Lib.IndexMore
import Derived.Laws.RangeAny
namespace Go.Proofs.YtofinndkbjcgbaaDoor.RecPure
open Go Go.RowKit Go.PlainAid
open Go.Proofs.YtofinndkbjcgbaaDoor.DecPure Go.Proofs.YtofinndkbjcgbaaDoor.ReadPure Go.Proofs.YtofinndkbjcgbaaDoor.TextPure Go.Proofs.YtofinndkbjcgbaaDoor.CellPure Go.Proofs.YtofinndkbjcgbaaDoor.SubPure
set_option linter.unusedVariables false

/-- The words from place i on, where the word at hand began at f. -/
def wdF (s : ByteArray) : Nat → Nat → Nat → List ByteArray
  | 0, _, _ => []
  | m + 1, i, f => if i < s.size then (if spB (bt s i) = true then (if f < i then s.extract f i :: wdF s m (i + 1) (i + 1) else wdF s m (i + 1) (i + 1)) else wdF s m (i + 1) f) else (if f < s.size then [s.extract f s.size] else [])
theorem wdF_more (s : ByteArray) : ∀ (m n i f : Nat), s.size < i + m → s.size < i + n → i ≤ s.size → wdF s m i f = wdF s n i f
  | 0, 0, _, _, _, _, _ => rfl
  | 0, n + 1, i, f, h, _, hi => by omega
  | m + 1, 0, i, f, _, h, hi => by omega
  | m + 1, n + 1, i, f, h1, h2, hi => by
    rw [wdF, wdF]
    by_cases hl : i < s.size
    · rw [if_pos hl, if_pos hl, wdF_more s m n (i + 1) (i + 1) (by omega) (by omega) (by omega), wdF_more s m n (i + 1) f (by omega) (by omega) (by omega)]
    · rw [if_neg hl, if_neg hl]
def wd (s : ByteArray) (i f : Nat) : List ByteArray := wdF s (s.size + 1) i f
theorem wd_eq {s : ByteArray} {i f : Nat} (h : i ≤ s.size) : wd s i f = wdF s (s.size + 2) i f := wdF_more s _ _ i f (by omega) (by omega) h
theorem wd_cut {s : ByteArray} {i f : Nat} (h : i < s.size) (hw : spB (bt s i) = true) (hf : f < i) : wd s i f = s.extract f i :: wd s (i + 1) (i + 1) := by
  rw [wd_eq (by omega), wdF, if_pos h, if_pos hw, if_pos hf]
  rfl
theorem wd_skip {s : ByteArray} {i f : Nat} (h : i < s.size) (hw : spB (bt s i) = true) (hf : ¬ f < i) : wd s i f = wd s (i + 1) (i + 1) := by
  rw [wd_eq (by omega), wdF, if_pos h, if_pos hw, if_neg hf]
  rfl
theorem wd_in {s : ByteArray} {i f : Nat} (h : i < s.size) (hw : spB (bt s i) = false) : wd s i f = wd s (i + 1) f := by
  rw [wd_eq (by omega), wdF, if_pos h, if_neg (by rw [hw]; simp)]
  rfl
theorem wd_last {s : ByteArray} {f : Nat} (hf : f < s.size) : wd s s.size f = [s.extract f s.size] := by
  rw [wd, wdF, if_neg (by omega), if_pos hf]
theorem wd_end {s : ByteArray} {f : Nat} (hf : ¬ f < s.size) : wd s s.size f = [] := by
  rw [wd, wdF, if_neg (by omega), if_neg hf]
theorem wd_fld (s : ByteArray) : ∀ (m i f : Nat), s.size = i + m → f ≤ i →
    wd s i f = if f < i then s.extract f (endOf nwB s i) :: fld s (endOf nwB s i) else fld s i
  | 0, i, f, hm, hf => by
    obtain rfl : i = s.size := by omega
    have e1 : endOf nwB s s.size = s.size := endOf_stop (fun h => by omega)
    have e2 : endOf spB s s.size = s.size := endOf_stop (fun h => by omega)
    have e3 : fld s s.size = [] := fld_no (by rw [e2]; omega)
    rw [e1, e3]
    by_cases h : f < s.size
    · rw [wd_last h, if_pos h]
    · rw [wd_end h, if_neg h]
  | m + 1, i, f, hm, hf => by
    have hi : i < s.size := by omega
    by_cases hw : spB (bt s i) = true
    · have e1 : endOf nwB s i = i := endOf_stop (fun h => by have := h.2; unfold nwB at this; rw [hw] at this; cases this)
      have e2 : endOf spB s i = endOf spB s (i + 1) := endOf_step hi hw
      have ih := wd_fld s m (i + 1) (i + 1) (by omega) (Nat.le_refl _)
      rw [if_neg (by omega)] at ih
      have e3 : fld s i = fld s (i + 1) := by
        by_cases hx : endOf spB s i < s.size
        · exact (fld_yes hx).trans (by rw [e2]; exact (fld_yes (by rw [← e2]; exact hx)).symm)
        · rw [fld_no hx, fld_no (by rw [← e2]; exact hx)]
      rw [e1, e3]
      by_cases h : f < i
      · rw [wd_cut hi hw h, if_pos h, ih]
      · rw [wd_skip hi hw h, if_neg h, ih]
    · have hw' : spB (bt s i) = false := by simpa using hw
      have e1 : endOf nwB s i = endOf nwB s (i + 1) := endOf_step hi (by unfold nwB; rw [hw']; rfl)
      have ih := wd_fld s m (i + 1) f (by omega) (by omega)
      rw [if_pos (by omega)] at ih
      rw [wd_in hi hw', ih, ← e1]
      by_cases h : f < i
      · rw [if_pos h]
      · obtain rfl : f = i := by omega
        have e2 : endOf spB s f = f := endOf_stop (fun h => by rw [hw'] at h; cases h.2)
        have e4 := fld_yes (s := s) (a := f) (by rw [e2]; exact hi)
        rw [e2] at e4
        rw [if_neg h]
        exact e4.symm
theorem wd_all (s : ByteArray) : wd s 0 0 = fld s 0 := by
  rw [wd_fld s s.size 0 0 (by omega) (Nat.le_refl _), if_neg (by omega)]
theorem wd_jump {s : ByteArray} {f : Nat} : ∀ {m i : Nat}, i + m ≤ s.size → (∀ k, k < m → spB (bt s (i + k)) = false) → wd s i f = wd s (i + m) f
  | 0, i, _, _ => rfl
  | m + 1, i, h, hw => by
    have h0 : spB (bt s i) = false := hw 0 (by omega)
    rw [wd_in (by omega) h0, wd_jump (m := m) (i := i + 1) (by omega) (fun k hk => by have := hw (k + 1) (by omega); rwa [show i + 1 + k = i + (k + 1) by omega]), show i + 1 + m = i + (m + 1) by omega]
/-- A letter of more than one byte holds no white one behind its first. -/
theorem dec_fact (s : ByteArray) (i : Nat) (h : i < s.size) : 1 ≤ (Utf8.decode s i).2 ∧ i + (Utf8.decode s i).2 ≤ s.size ∧ ∀ k, 1 ≤ k → k < (Utf8.decode s i).2 → spB (bt s (i + k)) = false := by
  have hg : ∀ k, i + k < s.size → bt s (i + k) = ((s.get! (i + k)).toNat : Int) := fun k hk => by
    rw [← get_bt s (i + k) hk]
    have : s.get! (i + k) = s[i + k]'hk := by
      show s.get! (i + k) = _
      simp [ByteArray.get!, getElem!_pos, hk]
      rfl
    rw [this]
  have hsp : ∀ k, i + k < s.size → (s.get! (i + k)).toNat / 64 = 2 → spB (bt s (i + k)) = false := fun k hk h2 => by
    rw [hg k hk]
    unfold spB
    simp
    omega
  have key : ∀ w : Nat, (w = 1 ∨ (w = 2 ∧ i + 1 < s.size ∧ (s.get! (i + 1)).toNat / 64 = 2) ∨ (w = 3 ∧ (i + 1 < s.size ∧ (s.get! (i + 1)).toNat / 64 = 2) ∧ i + 2 < s.size ∧ (s.get! (i + 2)).toNat / 64 = 2) ∨ (w = 4 ∧ ((i + 1 < s.size ∧ (s.get! (i + 1)).toNat / 64 = 2) ∧ i + 2 < s.size ∧ (s.get! (i + 2)).toNat / 64 = 2) ∧ i + 3 < s.size ∧ (s.get! (i + 3)).toNat / 64 = 2)) →
      1 ≤ w ∧ i + w ≤ s.size ∧ ∀ k, 1 ≤ k → k < w → spB (bt s (i + k)) = false := by
    intro w hw
    rcases hw with rfl | ⟨rfl, h1, g1⟩ | ⟨rfl, ⟨h1, g1⟩, h2, g2⟩ | ⟨rfl, ⟨⟨h1, g1⟩, h2, g2⟩, h3, g3⟩
    · exact ⟨by omega, by omega, fun k h1 h2 => by omega⟩
    · refine ⟨by omega, by omega, fun k hk1 hk2 => ?_⟩
      obtain rfl : k = 1 := by omega
      exact hsp 1 h1 g1
    · refine ⟨by omega, by omega, fun k hk1 hk2 => ?_⟩
      have : k = 1 ∨ k = 2 := by omega
      rcases this with rfl | rfl
      · exact hsp 1 h1 g1
      · exact hsp 2 h2 g2
    · refine ⟨by omega, by omega, fun k hk1 hk2 => ?_⟩
      have : k = 1 ∨ k = 2 ∨ k = 3 := by omega
      rcases this with rfl | rfl | rfl
      · exact hsp 1 h1 g1
      · exact hsp 2 h2 g2
      · exact hsp 3 h3 g3
  apply key
  unfold Utf8.decode
  simp only
  split
  · exact .inl rfl
  · split
    · rename_i hc
      simp only [Bool.and_eq_true, beq_iff_eq, decide_eq_true_eq] at hc
      split
      · exact .inr (.inl ⟨rfl, hc.2.1, hc.2.2⟩)
      · exact .inl rfl
    · split
      · rename_i hc
        simp only [Bool.and_eq_true, beq_iff_eq, decide_eq_true_eq] at hc
        split
        · exact .inr (.inr (.inl ⟨rfl, hc.1.2, hc.2⟩))
        · exact .inl rfl
      · split
        · rename_i hc
          simp only [Bool.and_eq_true, beq_iff_eq, decide_eq_true_eq] at hc
          split
          · exact .inr (.inr (.inr ⟨rfl, ⟨hc.1.1.2, hc.1.2⟩, hc.2⟩))
          · exact .inl rfl
        · exact .inl rfl

theorem spl_none {s t : ByteArray} (ht : 1 ≤ t.size) {f : Nat} : ∀ {m i : Nat}, s.size < i + m → (∀ j, i ≤ j → j + t.size ≤ s.size → mtB s t j = false) → spl s t i f = [s.extract f s.size]
  | 0, i, h, _ => spl_end (by omega)
  | m + 1, i, h, hn => by
    by_cases hr : i + t.size ≤ s.size
    · rw [spl_no ht hr (hn i (Nat.le_refl _) hr)]
      exact spl_none ht (m := m) (by omega) (fun j h1 h2 => hn j (by omega) h2)
    · exact spl_end hr
theorem spl_first {s t : ByteArray} (ht : 1 ≤ t.size) {f k : Nat} (hk : k + t.size ≤ s.size) (hm : mtB s t k = true) : ∀ {d i : Nat}, k = i + d → (∀ j, i ≤ j → j < k → mtB s t j = false) → spl s t i f = s.extract f k :: spl s t (k + t.size) (k + t.size)
  | 0, i, h, _ => by
    obtain rfl : k = i := by omega
    exact spl_yes ht hk hm
  | d + 1, i, h, hn => by
    rw [spl_no ht (by omega) (hn i (Nat.le_refl _) (by omega))]
    exact spl_first ht hk hm (d := d) (by omega) (fun j h1 h2 => hn j (by omega) h2)
theorem drop_data (s : ByteArray) (f : Nat) : (s.extract f s.size).data.toList = s.data.toList.drop f := by
  rw [ext_data, List.take_of_length_le (by rw [List.length_drop, len_data]; exact Nat.le_refl _)]
theorem mk_ext {s : ByteArray} {l : List UInt8} {a b : Nat} (h : l = (s.data.toList.drop a).take (b - a)) : (⟨l.toArray⟩ : ByteArray) = s.extract a b := by
  rw [h, ← ext_data]
/-- What cutting the rest off gives. -/
def cutB (x t : ByteArray) : List UInt8 × List UInt8 × Bool := Lib.cut x.data.toList t.data.toList
theorem spl_cut (s t : ByteArray) (ht : 1 ≤ t.size) (f : Nat) (hf : f ≤ s.size) :
    (∃ k, f ≤ k ∧ k + t.size ≤ s.size ∧ cutB (s.extract f s.size) t = ((s.extract f k).data.toList, (s.extract (k + t.size) s.size).data.toList, true) ∧ spl s t f f = s.extract f k :: spl s t (k + t.size) (k + t.size)) ∨
    (cutB (s.extract f s.size) t = ((s.extract f s.size).data.toList, [], false) ∧ spl s t f f = [s.extract f s.size]) := by
  have hn : nilB t = false := by
    rw [nilB_size]
    exact decide_eq_false (by omega)
  have ho : ∀ j, Lib.occAt (s.data.toList.drop f) t.data.toList j = occ s t (f + j) := fun j => by
    unfold occ Lib.occAt
    rw [List.drop_drop]
  have hdl : (s.data.toList.drop f).length = s.size - f := by rw [List.length_drop, len_data]
  rcases Lib.index_spec (s.data.toList.drop f) t.data.toList with ⟨h1, h2⟩ | ⟨i, h1, h2, h3, h4⟩
  · refine .inr ⟨?_, spl_none ht (m := s.size + 1) (by omega) (fun j hj hr => ?_)⟩
    · unfold cutB Lib.cut
      rw [drop_data, h1]
      rfl
    · have := h2 (j - f) (by rw [hdl]; omega)
      rw [ho, show f + (j - f) = j by omega] at this
      unfold mtB
      rw [occ_eq hr]
      exact this
  · rw [ho] at h3
    have hr := occ_room hn h3
    refine .inl ⟨f + i, by omega, hr, ?_, spl_first ht hr (by unfold mtB; rw [occ_eq hr]; exact h3) (d := i) (by omega) (fun j hj1 hj2 => ?_)⟩
    · unfold cutB Lib.cut
      rw [drop_data, h1, if_pos (by omega), ext_data, drop_data]
      simp only [Int.toNat_natCast, List.drop_drop, Prod.mk.injEq, and_true]
      refine ⟨?_, ?_⟩
      · rw [show f + i - f = i by omega]
      · rw [len_data, Nat.add_assoc]
    · have := h4 (j - f) (by omega)
      rw [ho, show f + (j - f) = j by omega] at this
      unfold mtB
      rw [occ_eq (by omega)]
      exact this

def nlB : ByteArray := ⟨#[10]⟩
theorem mt_nl {s : ByteArray} {k : Nat} (h : k < s.size) : mtB s nlB k = decide (bt s k = 10) := by
  unfold mtB
  have hs : nlB.size = 1 := rfl
  have hl : k < s.data.toList.length := by rw [len_data]; exact h
  rw [ByteArray.toList_eq, ByteArray.toList_eq, ext_data, hs, show k + 1 - k = 1 by omega, List.drop_eq_getElem_cons hl]
  have e : bt s k = ((s.data.toList[k]'hl).toNat : Int) := by
    rw [← get_bt s k h, Array.getElem_toList]
    rfl
  rw [e]
  show (([s.data.toList[k]'hl] : List UInt8) == [10]) = _
  generalize s.data.toList[k]'hl = b
  rw [Bool.eq_iff_iff, beq_iff_eq, decide_eq_true_eq]
  constructor
  · intro q
    simp only [List.cons.injEq, and_true] at q
    subst q; rfl
  · intro q
    have : b.toNat = (10 : UInt8).toNat := by
      have : (10 : UInt8).toNat = 10 := rfl
      omega
    rw [UInt8.toNat_inj.mp this]
theorem spl_lines (s : ByteArray) : ∀ k, k ≤ s.size → spl s nlB 0 0 = lnO s k ++ spl s nlB k (lnF s k)
  | 0, _ => rfl
  | k + 1, h => by
    rw [spl_lines s k (by omega)]
    have hs : nlB.size = 1 := rfl
    have hm := mt_nl (s := s) (k := k) (by omega)
    by_cases hb : bt s k = 10
    · obtain ⟨e1, e2⟩ := lnO_yes hb
      rw [e1, e2, spl_yes (by rw [hs]; exact Nat.le_refl _) (by rw [hs]; omega) (by rw [hm]; exact decide_eq_true hb), hs, List.append_assoc]
      rfl
    · obtain ⟨e1, e2⟩ := lnO_no hb
      rw [e1, e2, spl_no (by rw [hs]; exact Nat.le_refl _) (by rw [hs]; omega) (by rw [hm]; exact decide_eq_false hb)]
theorem spl_nl (s : ByteArray) : spl s nlB 0 0 = lnO s s.size ++ [s.extract (lnF s s.size) s.size] := by
  rw [spl_lines s s.size (Nat.le_refl _), spl_end (by have : nlB.size = 1 := rfl; omega)]
/-- The text without a last newline. -/
def trimB (s : ByteArray) : ByteArray := ⟨(Lib.trimSuffix s.data.toList [10]).toArray⟩
theorem last_byte {s : ByteArray} (h : 0 < s.size) : Lib.hasSuffix s.data.toList [10] = decide (bt s (s.size - 1) = 10) := by
  have hl : s.size - 1 < s.data.toList.length := by rw [len_data]; omega
  have e : bt s (s.size - 1) = ((s.data.toList[s.size - 1]'hl).toNat : Int) := by
    rw [← get_bt s (s.size - 1) (by omega), Array.getElem_toList]
    rfl
  have hsp : s.data.toList = s.data.toList.take (s.size - 1) ++ [s.data.toList[s.size - 1]'hl] := by
    have h1 := List.take_append_drop (s.size - 1) s.data.toList
    rw [List.drop_eq_getElem_cons hl, List.drop_eq_nil_of_le (by rw [len_data]; omega)] at h1
    exact h1.symm
  rw [e]
  unfold Lib.hasSuffix
  rw [Bool.eq_iff_iff, List.isSuffixOf_iff_suffix, decide_eq_true_eq]
  generalize s.data.toList[s.size - 1]'hl = b at *
  constructor
  · rintro ⟨r, hr⟩
    have h2 := congrArg List.getLast? (hr.trans hsp)
    simp at h2
    subst h2; rfl
  · intro q
    have : b.toNat = (10 : UInt8).toNat := by
      have : (10 : UInt8).toNat = 10 := rfl
      omega
    rw [UInt8.toNat_inj.mp this] at hsp
    exact ⟨_, hsp.symm⟩
theorem trim_yes {s : ByteArray} (h : 0 < s.size) (hb : bt s (s.size - 1) = 10) : trimB s = s.extract 0 (s.size - 1) := by
  unfold trimB Lib.trimSuffix
  rw [last_byte h, if_pos (decide_eq_true hb)]
  refine mk_ext ?_
  rw [len_data]
  rfl
theorem trim_no {s : ByteArray} (h : 0 < s.size) (hb : bt s (s.size - 1) ≠ 10) : trimB s = s := by
  unfold trimB Lib.trimSuffix
  rw [last_byte h, if_neg (by simp [hb])]
theorem trim_size (s : ByteArray) : (trimB s).size ≤ s.size := by
  have : (trimB s).size = (Lib.trimSuffix s.data.toList [10]).length := by unfold trimB; rw [← len_data]
  rw [this, ← len_data s]
  unfold Lib.trimSuffix
  split
  · rw [List.length_take]; omega
  · exact Nat.le_refl _
theorem ln_part {s : ByteArray} {n : Nat} (hn : n ≤ s.size) : ∀ k, k ≤ n → lnO (s.extract 0 n) k = lnO s k ∧ lnF (s.extract 0 n) k = lnF s k
  | 0, _ => ⟨rfl, rfl⟩
  | k + 1, h => by
    obtain ⟨h1, h2⟩ := ln_part hn k (by omega)
    have hb : bt (s.extract 0 n) k = bt s k := by rw [bt_ext s 0 n k hn (by omega), Nat.zero_add]
    by_cases q : bt s k = 10
    · obtain ⟨e1, e2⟩ := lnO_yes q
      obtain ⟨d1, d2⟩ := lnO_yes (hb.trans q)
      refine ⟨?_, by rw [d2, e2]⟩
      rw [d1, e1, h1, h2]
      have hf := lnF_le s k
      rw [ByteArray.extract_extract, show 0 + lnF s k = lnF s k by omega, show min (0 + k) n = k by omega]
    · obtain ⟨e1, e2⟩ := lnO_no q
      obtain ⟨d1, d2⟩ := lnO_no (fun g => q (hb.symm.trans g))
      exact ⟨by rw [d1, e1, h1], by rw [d2, e2, h2]⟩
theorem lines_trim {s : ByteArray} (h : 0 < s.size) (h3 : s.size ≤ 3000) : spl (trimB s) nlB 0 0 = linesP s ∧ (linesP s).length ≤ 3000 := by
  obtain ⟨n, hn⟩ : ∃ n, s.size = n + 1 := ⟨s.size - 1, by omega⟩
  have hl := lnO_len s
  unfold linesP
  rw [if_neg (by omega)]
  by_cases hb : bt s (s.size - 1) = 10
  · rw [trim_yes h hb, spl_nl]
    have hz : (s.extract 0 (s.size - 1)).size = n := by rw [size_ext s 0 _ (by omega)]; omega
    rw [hn, Nat.add_sub_cancel] at hb
    obtain ⟨e1, e2⟩ := lnO_yes hb
    obtain ⟨p1, p2⟩ := ln_part (s := s) (n := s.size - 1) (by omega) n (by omega)
    rw [hz, p1, p2, hn, e2, if_neg (by omega), e1, ByteArray.extract_extract]
    have hf := lnF_le s n
    refine ⟨by rw [show 0 + lnF s n = lnF s n by omega, show min (0 + n) (n + 1 - 1) = n by omega], ?_⟩
    have := hl n
    rw [List.length_append, List.length_singleton]
    omega
  · rw [trim_no h hb, spl_nl]
    rw [hn, Nat.add_sub_cancel] at hb
    obtain ⟨e1, e2⟩ := lnO_no hb
    have hf := lnF_le s n
    rw [hn, e2, if_pos (by omega), e1]
    refine ⟨rfl, ?_⟩
    have := hl n
    rw [List.length_append, List.length_singleton]
    omega
theorem lines_nil {s : ByteArray} (h : s.size = 0) : linesP s = [] := by
  unfold linesP
  rw [h]
  rfl
theorem fields_nil {s : ByteArray} (h : s.size = 0) : fieldsP s = [] := by
  unfold fieldsP
  have e2 : endOf spB s 0 = 0 := endOf_stop (fun q => by omega)
  rw [if_neg (by omega), fld_no (by rw [e2]; omega)]
  rfl
end Go.Proofs.YtofinndkbjcgbaaDoor.RecPure
