/-
  Lines put together again, fields of joined fields, parts joined by what parted them: plain.
-/
import Derived.Test.YtnkldjijjpcmhaaWordPure
import Derived.Test.YtnkldjijjpcmhaaJoinSpec
namespace Go.Proofs.Ytnkldjijjpcmhaa.RecPure
open Go Go.RowKit Go.PlainAid
open Go.Proofs.Ytnkldjijjpcmhaa.DecPure Go.Proofs.Ytnkldjijjpcmhaa.ReadPure Go.Proofs.Ytnkldjijjpcmhaa.TextPure Go.Proofs.Ytnkldjijjpcmhaa.CellPure Go.Proofs.Ytnkldjijjpcmhaa.SubPure Go.Proofs.Ytnkldjijjpcmhaa.Strs
set_option linter.unusedVariables false

theorem ext_join (s : ByteArray) {a b c : Nat} (h1 : a ≤ b) (h2 : b ≤ c) : s.extract a b ++ s.extract b c = s.extract a c := by
  apply ByteArray.ext
  apply Array.ext'
  rw [ByteArray.data_append, Array.toList_append, ext_data, ext_data, ext_data]
  rw [show c - a = (b - a) + (c - b) by omega, List.take_add, List.drop_drop, show a + (b - a) = b by omega]
theorem ext_all (s : ByteArray) : s.extract 0 s.size = s := by simp
theorem sat_left {l r : List ByteArray} {k : Nat} (h : k < l.length) : sat (l ++ r) k = sat l k := by
  simp [sat, List.getD, List.getElem?_append_left h]
theorem sat_end (l : List ByteArray) (x : ByteArray) : sat (l ++ [x]) l.length = x := by
  simp [sat, List.getD]
theorem sat_next (x : ByteArray) (r : List ByteArray) (k : Nat) : sat (x :: r) (k + 1) = sat r k := by
  simp [sat, List.getD]
theorem sat_mem {l : List ByteArray} {k : Nat} (h : k < l.length) : sat l k ∈ l := by
  simp [sat, List.getD, h]

/-- Lines with their ends behind them. -/
def lnJ (l : List ByteArray) : Nat → ByteArray
  | 0 => ⟨#[]⟩
  | k + 1 => lnJ l k ++ sat l k ++ ⟨#[10]⟩
theorem lnJ_left {l r : List ByteArray} : ∀ {k : Nat}, k ≤ l.length → lnJ (l ++ r) k = lnJ l k
  | 0, _ => rfl
  | k + 1, h => by rw [lnJ, lnJ, lnJ_left (k := k) (by omega), sat_left (by omega)]
theorem lnJ_snoc (l : List ByteArray) (x : ByteArray) : lnJ (l ++ [x]) (l ++ [x]).length = lnJ l l.length ++ x ++ ⟨#[10]⟩ := by
  rw [List.length_append, List.length_singleton, lnJ, lnJ_left (Nat.le_refl _), sat_end]
theorem nl_at {s : ByteArray} {i : Nat} (h : i < s.size) (hb : bt s i = 10) : s.extract i (i + 1) = ⟨#[10]⟩ := by
  refine ba_same (by rw [size_ext s i _ (by omega)]; show i + 1 - i = 1; omega) fun k hk => ?_
  rw [size_ext s i _ (by omega)] at hk
  obtain rfl : k = 0 := by omega
  rw [bt_ext s i _ 0 (by omega) (by omega), Nat.add_zero, hb]
  decide
theorem lnO_back (s : ByteArray) : ∀ i, i ≤ s.size → lnJ (lnO s i) (lnO s i).length = s.extract 0 (lnF s i)
  | 0, _ => by
    show (⟨#[]⟩ : ByteArray) = s.extract 0 0
    simp
    rfl
  | i + 1, h => by
    have ih := lnO_back s i (by omega)
    have hf := lnF_le s i
    by_cases hb : bt s i = 10
    · obtain ⟨e1, e2⟩ := lnO_yes hb
      rw [e1, e2, lnJ_snoc, ih, ext_join s (Nat.zero_le _) hf, ← nl_at (s := s) (i := i) (by omega) hb, ext_join s (Nat.zero_le _) (by omega)]
    · obtain ⟨e1, e2⟩ := lnO_no hb
      rw [e1, e2, ih]
theorem lines_back {s : ByteArray} (h : s.size ≤ 3000) : lnJ (linesP s) (linesP s).length = s ∨ (lnJ (linesP s) (linesP s).length = s ++ ⟨#[10]⟩ ∧ 0 < s.size ∧ bt s (s.size - 1) ≠ 10) := by
  have hb := lnO_back s s.size (Nat.le_refl _)
  have hf := lnF_le s s.size
  unfold linesP
  rw [if_neg (by omega)]
  by_cases hl : lnF s s.size < s.size
  · right
    rw [if_pos hl, lnJ_snoc, hb, ext_join s (Nat.zero_le _) hf, ext_all]
    refine ⟨rfl, by omega, fun q => ?_⟩
    obtain ⟨n, hn⟩ : ∃ n, s.size = n + 1 := ⟨s.size - 1, by omega⟩
    rw [hn, Nat.add_sub_cancel] at q
    obtain ⟨_, e2⟩ := lnO_yes q
    rw [hn, e2] at hl
    omega
  · left
    rw [if_neg hl, hb, show lnF s s.size = s.size by omega, ext_all]

/-- Parts with t between them. -/
def spJ (t : ByteArray) (l : List ByteArray) : Nat → ByteArray
  | 0 => ⟨#[]⟩
  | k + 1 => if 0 < k then spJ t l k ++ t ++ sat l k else spJ t l k ++ sat l k
theorem nil_app (x : ByteArray) : (⟨#[]⟩ : ByteArray) ++ x = x := by
  apply ByteArray.ext
  rw [ByteArray.data_append]
  simp
theorem app_nil (x : ByteArray) : x ++ (⟨#[]⟩ : ByteArray) = x := by
  apply ByteArray.ext
  rw [ByteArray.data_append]
  simp
theorem app_assoc (x y z : ByteArray) : x ++ y ++ z = x ++ (y ++ z) := by
  apply ByteArray.ext
  simp [ByteArray.data_append]
theorem spJ_first (t : ByteArray) (l : List ByteArray) : spJ t l 1 = sat l 0 := by
  show (⟨#[]⟩ : ByteArray) ++ sat l 0 = _
  exact nil_app _
theorem spJ_succ (t : ByteArray) (l : List ByteArray) {k : Nat} (h : 0 < k) : spJ t l (k + 1) = spJ t l k ++ t ++ sat l k := by
  show (if 0 < k then spJ t l k ++ t ++ sat l k else spJ t l k ++ sat l k) = _
  rw [if_pos h]
theorem spJ_cons (t x : ByteArray) (r : List ByteArray) : ∀ k, spJ t (x :: r) (k + 1) = if k = 0 then x else x ++ t ++ spJ t r k
  | 0 => by
    rw [spJ_first, if_pos rfl]
    rfl
  | k + 1 => by
    rw [spJ_succ t _ (Nat.succ_pos k), spJ_cons t x r k, sat_next, if_neg (Nat.succ_ne_zero k)]
    by_cases hk : k = 0
    · subst hk
      rw [if_pos rfl, spJ_first]
    · rw [if_neg hk, spJ_succ t r (by omega)]
      simp only [app_assoc]
theorem splF_some (s t : ByteArray) : ∀ (m i f : Nat), 0 < (splF s t m i f).length
  | 0, i, f => by simp [splF]
  | m + 1, i, f => by
    rw [splF]
    split
    · split
      · simp
      · exact splF_some s t m _ _
    · simp
theorem mt_eq {s t : ByteArray} {i : Nat} (h : mtB s t i = true) : s.extract i (i + t.size) = t := by
  unfold mtB at h
  have h2 := eq_of_beq h
  rw [ByteArray.toList_eq, ByteArray.toList_eq] at h2
  exact ByteArray.ext (Array.ext' h2)
theorem splF_back (s t : ByteArray) : ∀ (m i f : Nat), f ≤ i → f ≤ s.size → spJ t (splF s t m i f) (splF s t m i f).length = s.extract f s.size
  | 0, i, f, _, _ => by
    rw [splF]
    show spJ t [s.extract f s.size] (0 + 1) = _
    rw [spJ_cons, if_pos rfl]
  | m + 1, i, f, h1, h2 => by
    rw [splF]
    split
    · rename_i hr
      split
      · rename_i hm
        have ih := splF_back s t m (i + t.size) (i + t.size) (Nat.le_refl _) hr
        have hs := splF_some s t m (i + t.size) (i + t.size)
        rw [List.length_cons, spJ_cons, if_neg (by omega), ih]
        have e := mt_eq hm
        have e2 : s.extract f i ++ t = s.extract f (i + t.size) := by
          have := ext_join s h1 (show i ≤ i + t.size by omega)
          rw [e] at this
          exact this
        rw [e2, ext_join s (by omega) hr]
      · exact splF_back s t m _ _ (by omega) h2
    · show spJ t [s.extract f s.size] (0 + 1) = _
      rw [spJ_cons, if_pos rfl]
theorem split_back {s t : ByteArray} (hz : s.size ≤ 500) (ht : (t.toList == [32]) = false) : (splitP s t).length = 50 ∨ spJ t (splitP s t) (splitP s t).length = s := by
  unfold splitP
  rw [if_neg (by rw [ht]; simp)]
  by_cases hs : s.toList.isEmpty = true
  · rw [if_pos (.inr hs)]
    right
    rw [size_nil] at hs
    have : s.size = 0 := of_decide_eq_true hs
    exact (ba_same (by show (0 : Nat) = s.size; omega) (fun i hi => by have : i < 0 := hi; omega))
  · rw [if_neg (by rintro (h | h); omega; exact hs h)]
    by_cases he : t.toList.isEmpty = true
    · rw [if_pos he]
      right
      show spJ t [s] (0 + 1) = s
      rw [spJ_cons, if_pos rfl]
    · rw [if_neg he]
      by_cases hl : 50 ≤ (spl s t 0 0).length
      · left
        rw [List.length_take]; omega
      · right
        rw [List.take_of_length_le (by omega)]
        have := splF_back s t (s.size + 1) 0 0 (Nat.le_refl _) (Nat.zero_le _)
        rw [ext_all] at this
        exact this

/-- The words that have ended among the first bytes, and where the one at hand began. -/
def wS (s : ByteArray) : Nat → Nat
  | 0 => 0
  | i + 1 => if spB (bt s i) = true then i + 1 else wS s i
def wO (s : ByteArray) : Nat → List ByteArray
  | 0 => []
  | i + 1 => if spB (bt s i) = true then (if wS s i < i then wO s i ++ [s.extract (wS s i) i] else wO s i) else wO s i
theorem wS_le (s : ByteArray) : ∀ i, wS s i ≤ i
  | 0 => Nat.le_refl _
  | i + 1 => by
    have := wS_le s i
    rw [wS]; split <;> omega
theorem wO_wd (s : ByteArray) : ∀ i, i ≤ s.size → fld s 0 = wO s i ++ wd s i (wS s i)
  | 0, _ => (wd_all s).symm
  | i + 1, h => by
    rw [wO_wd s i (by omega), wO, wS]
    by_cases hw : spB (bt s i) = true
    · rw [if_pos hw, if_pos hw]
      by_cases hf : wS s i < i
      · rw [if_pos hf, wd_cut (by omega) hw hf, List.append_assoc]
        rfl
      · rw [if_neg hf, wd_skip (by omega) hw hf]
    · rw [if_neg hw, if_neg hw, wd_in (by omega) (by simpa using hw)]
theorem fld_acc (s : ByteArray) : fld s 0 = wO s s.size ++ (if wS s s.size < s.size then [s.extract (wS s s.size) s.size] else []) := by
  rw [wO_wd s s.size (Nat.le_refl _)]
  by_cases h : wS s s.size < s.size
  · rw [wd_last h, if_pos h]
  · rw [wd_end h, if_neg h]
theorem w_part {y z : ByteArray} : ∀ i, i ≤ y.size → wO (y ++ z) i = wO y i ∧ wS (y ++ z) i = wS y i
  | 0, _ => ⟨rfl, rfl⟩
  | i + 1, h => by
    obtain ⟨h1, h2⟩ := w_part (y := y) (z := z) i (by omega)
    have hf := wS_le y i
    have hb : bt (y ++ z) i = bt y i := by
      unfold bt
      rw [dif_pos (show i < (y ++ z).size by rw [ByteArray.size_append]; omega), dif_pos (show i < y.size by omega)]
      rw [ByteArray.getElem_append_left (by omega)]
    have he : (y ++ z).extract (wS y i) i = y.extract (wS y i) i := by
      apply ByteArray.ext
      apply Array.ext'
      rw [ext_data, ext_data, ByteArray.data_append, Array.toList_append, List.drop_append_of_le_length (by rw [len_data]; omega), List.take_append_of_le_length (by rw [List.length_drop, len_data]; omega)]
    rw [wO, wO, wS, wS, hb, h1, h2, he]
    exact ⟨rfl, rfl⟩
theorem w_run {s : ByteArray} {i : Nat} : ∀ {m : Nat}, (∀ k, k < m → spB (bt s (i + k)) = false) → wO s (i + m) = wO s i ∧ wS s (i + m) = wS s i
  | 0, _ => ⟨rfl, rfl⟩
  | m + 1, h => by
    obtain ⟨h1, h2⟩ := w_run (s := s) (i := i) (m := m) (fun k hk => h k (by omega))
    have h0 := h m (by omega)
    rw [← Nat.add_assoc, wO, wS, if_neg (by rw [h0]; simp), if_neg (by rw [h0]; simp)]
    exact ⟨h1, h2⟩
/-- A word: some bytes, none of them white. -/
def Word (x : ByteArray) : Prop := 0 < x.size ∧ ∀ j, j < x.size → spB (bt x j) = false
theorem bt_right {y z : ByteArray} {k : Nat} (h : k < z.size) : bt (y ++ z) (y.size + k) = bt z k := by
  unfold bt
  rw [dif_pos (show y.size + k < (y ++ z).size by rw [ByteArray.size_append]; omega), dif_pos h]
  rw [ByteArray.getElem_append_right (by omega)]
  simp
theorem fld_one {x : ByteArray} (h : Word x) : fld x 0 = [x] := by
  obtain ⟨h1, h2⟩ := w_run (s := x) (i := 0) (m := x.size) (fun k hk => by rw [Nat.zero_add]; exact h.2 k hk)
  rw [Nat.zero_add] at h1 h2
  rw [fld_acc, h1, h2, if_pos (show wS x 0 < x.size from h.1)]
  show [] ++ [x.extract 0 x.size] = _
  rw [ext_all]
  rfl
theorem fld_snoc (y x : ByteArray) (h : Word x) : fld (y ++ ⟨#[32]⟩ ++ x) 0 = fld y 0 ++ [x] := by
  obtain ⟨h1, h2⟩ := w_part (y := y) (z := ⟨#[32]⟩ ++ x) y.size (Nat.le_refl _)
  rw [← app_assoc] at h1 h2
  have hz : (y ++ ⟨#[32]⟩ ++ x).size = y.size + 1 + x.size := by rw [ByteArray.size_append, ByteArray.size_append]; rfl
  have hb : bt (y ++ ⟨#[32]⟩ ++ x) y.size = 32 := by
    rw [app_assoc]
    have := bt_right (y := y) (z := ⟨#[32]⟩ ++ x) (k := 0) (by rw [ByteArray.size_append]; have : (⟨#[32]⟩ : ByteArray).size = 1 := rfl; omega)
    rw [Nat.add_zero] at this
    rw [this]
    unfold bt
    rw [dif_pos (show 0 < ((⟨#[32]⟩ : ByteArray) ++ x).size by rw [ByteArray.size_append]; have : (⟨#[32]⟩ : ByteArray).size = 1 := rfl; omega), ByteArray.getElem_append_left (show 0 < (⟨#[32]⟩ : ByteArray).size from Nat.one_pos)]
    rfl
  have hw : spB (bt (y ++ ⟨#[32]⟩ ++ x) y.size) = true := by rw [hb]; decide
  have hxs : ∀ k, k < x.size → spB (bt (y ++ ⟨#[32]⟩ ++ x) (y.size + 1 + k)) = false := fun k hk => by
    have := bt_right (y := y ++ ⟨#[32]⟩) (z := x) hk
    rw [ByteArray.size_append] at this
    have e1 : (⟨#[32]⟩ : ByteArray).size = 1 := rfl
    rw [e1] at this
    rw [this]
    exact h.2 k hk
  obtain ⟨r1, r2⟩ := w_run (s := y ++ ⟨#[32]⟩ ++ x) (i := y.size + 1) (m := x.size) hxs
  have hx : (y ++ ⟨#[32]⟩ ++ x).extract (y.size + 1) (y.size + 1 + x.size) = x := by
    refine ba_same (by rw [size_ext _ _ _ (by rw [hz]; omega)]; omega) fun k hk => ?_
    rw [size_ext _ _ _ (by rw [hz]; omega)] at hk
    rw [bt_ext _ _ _ k (by rw [hz]; omega) (by omega)]
    have := bt_right (y := y ++ ⟨#[32]⟩) (z := x) (k := k) (by omega)
    rw [ByteArray.size_append] at this
    exact this
  rw [fld_acc, hz, r1, r2, wO, wS, if_pos hw, if_pos hw, h1, h2, if_pos (show y.size + 1 < y.size + 1 + x.size by have := h.1; omega), hx, fld_acc y]
  have he : (y ++ ⟨#[32]⟩ ++ x).extract (wS y y.size) y.size = y.extract (wS y y.size) y.size := by
    apply ByteArray.ext
    apply Array.ext'
    rw [app_assoc, ext_data, ext_data, ByteArray.data_append, Array.toList_append, List.drop_append_of_le_length (by rw [len_data]; exact wS_le _ _), List.take_append_of_le_length (by rw [List.length_drop, len_data]; exact Nat.le_refl _)]
  rw [he]
  by_cases hf : wS y y.size < y.size
  · rw [if_pos hf, if_pos hf]
  · rw [if_neg hf, if_neg hf, List.append_nil]
theorem fld_join (L : List ByteArray) (h : ∀ x ∈ L, Word x) : ∀ k, k ≤ L.length → fld (jnS L k) 0 = L.take k
  | 0, _ => by
    show fld ⟨#[]⟩ 0 = _
    rw [fld_acc]
    rfl
  | k + 1, hk => by
    have ih := fld_join L h k (by omega)
    have hw := h _ (sat_mem (l := L) (k := k) (by omega))
    have ht : L.take (k + 1) = L.take k ++ [sat L k] := by
      rw [List.take_add_one, List.getElem?_eq_getElem (show k < L.length by omega)]
      simp [sat, List.getD, show k < L.length by omega]
    rw [jnS, ht, ← ih]
    by_cases h0 : 0 < k
    · rw [if_pos h0, fld_snoc _ _ hw]
    · obtain rfl : k = 0 := by omega
      rw [if_neg h0]
      show fld ((⟨#[]⟩ : ByteArray) ++ sat L 0) 0 = fld ⟨#[]⟩ 0 ++ _
      rw [nil_app, fld_one hw, fld_acc ⟨#[]⟩]
      rfl
theorem fldF_words (s : ByteArray) : ∀ (m a : Nat), ∀ x ∈ fldF s m a, Word x
  | 0, _, x, hx => by cases hx
  | m + 1, a, x, hx => by
    rw [fldF] at hx
    split at hx
    · rename_i hb
      have hn := fld_next hb
      have hle := endOf_le nwB s (endOf spB s a) (by omega)
      rcases List.mem_cons.1 hx with rfl | hx
      · refine ⟨by rw [size_ext s _ _ hle]; omega, fun j hj => ?_⟩
        rw [size_ext s _ _ hle] at hj
        rw [bt_ext s _ _ j hle hj]
        have := (endOf_at (p := nwB) (s := s) (a := endOf spB s a) (k := endOf spB s a + j) (by omega) (by omega)).2
        unfold nwB at this
        simpa using this
      · exact fldF_words s m _ x hx
    · cases hx
theorem szJ_left {l r : List ByteArray} : ∀ {k : Nat}, k ≤ l.length → szJ (l ++ r) k = szJ l k
  | 0, _ => rfl
  | k + 1, h => by rw [szJ, szJ, szJ_left (k := k) (by omega), sat_left (by omega)]
theorem w_size (s : ByteArray) : ∀ i, i ≤ s.size → szJ (wO s i) (wO s i).length + (if 0 < (wO s i).length then 1 else 0) ≤ wS s i
  | 0, _ => Nat.le_refl _
  | i + 1, h => by
    have ih := w_size s i (by omega)
    have hf := wS_le s i
    rw [wO, wS]
    by_cases hw : spB (bt s i) = true
    · rw [if_pos hw, if_pos hw]
      by_cases hl : wS s i < i
      · rw [if_pos hl, List.length_append, List.length_singleton, if_pos (Nat.succ_pos _), szJ, szJ_left (Nat.le_refl _), sat_end, size_ext s _ _ (by omega)]
        omega
      · rw [if_neg hl]; omega
    · rw [if_neg hw, if_neg hw]; exact ih
theorem fld_size (s : ByteArray) : szJ (fld s 0) (fld s 0).length ≤ s.size := by
  have h := w_size s s.size (Nat.le_refl _)
  have hf := wS_le s s.size
  rw [fld_acc]
  by_cases hl : wS s s.size < s.size
  · rw [if_pos hl, List.length_append, List.length_singleton, szJ, szJ_left (Nat.le_refl _), sat_end, size_ext s _ _ (Nat.le_refl _)]
    omega
  · rw [if_neg hl, List.append_nil]; omega
theorem fields_words (s : ByteArray) : ∀ x ∈ fieldsP s, Word x := by
  unfold fieldsP
  split
  · intro x hx; cases hx
  · intro x hx; exact fldF_words s _ _ x (List.mem_of_mem_take hx)
theorem fields_size (s : ByteArray) : szJ (fieldsP s) (fieldsP s).length ≤ 500 := by
  unfold fieldsP
  split
  · exact Nat.zero_le _
  · have h := fld_size s
    have hm := szJ_mono (fld s 0) (show min 50 (fld s 0).length ≤ (fld s 0).length by omega)
    have e : fld s 0 = (fld s 0).take 50 ++ (fld s 0).drop 50 := (List.take_append_drop 50 _).symm
    rw [List.length_take]
    have h2 := szJ_left (l := (fld s 0).take 50) (r := (fld s 0).drop 50) (k := min 50 (fld s 0).length) (by rw [List.length_take]; exact Nat.le_refl _)
    rw [← e] at h2
    omega
theorem fields_again (s : ByteArray) : fieldsP (joinP (fieldsP s)) = fieldsP s := by
  have h1 := fieldsP_len s
  have h2 := fields_size s
  have h3 := fld_join (fieldsP s) (fields_words s) _ (Nat.le_refl _)
  have h4 := jnS_size (fieldsP s) (fieldsP s).length
  rw [List.take_length] at h3
  unfold joinP
  rw [if_neg (by omega)]
  generalize hL : fieldsP s = L at *
  unfold fieldsP
  rw [if_neg (by omega), h3, List.take_of_length_le h1]
theorem word_white {x : ByteArray} (h : Word x) {k : Nat} (hk : k < x.size) : bt x k ≠ 32 ∧ bt x k ≠ 9 ∧ bt x k ≠ 10 := by
  have := h.2 k hk
  unfold spB at this
  simp at this
  exact ⟨this.1.1, this.1.2, this.2⟩
theorem ln_le (s : ByteArray) (a b : Nat) : (s.extract a b).size ≤ s.size := by rw [ByteArray.size_extract]; omega
theorem lnO_small (s : ByteArray) : ∀ i, ∀ x ∈ lnO s i, x.size ≤ s.size
  | 0, x, hx => by cases hx
  | i + 1, x, hx => by
    rw [lnO] at hx
    split at hx
    · rcases List.mem_append.1 hx with hx | hx
      · exact lnO_small s i x hx
      · rw [List.mem_singleton] at hx
        subst hx; exact ln_le _ _ _
    · exact lnO_small s i x hx
theorem str_longer (s x : ByteArray) (h : 0 < x.size) : ((s ++ x).toList == s.toList) = false := by
  rw [beq_eq_false_iff_ne]
  intro q
  rw [ByteArray.toList_eq, ByteArray.toList_eq] at q
  have := congrArg List.length q
  rw [len_data, len_data, ByteArray.size_append] at this
  omega
theorem lines_mem (s : ByteArray) : ∀ x ∈ linesP s, x.size ≤ 3000 := by
  intro x hm
  unfold linesP at hm
  split at hm
  · cases hm
  · split at hm
    · rcases List.mem_append.1 hm with hx | hx
      · have := lnO_small s _ _ hx
        omega
      · rw [List.mem_singleton] at hx
        have := ln_le s (lnF s s.size) s.size
        rw [← hx] at this
        omega
    · have := lnO_small s _ _ hm
      omega
theorem lines_small (s : ByteArray) : ∀ k, k < (linesP s).length → (sat (linesP s) k).size ≤ 3000 := fun k hk => lines_mem s _ (sat_mem hk)
theorem str_some {x : ByteArray} (h : 0 < x.size) : (x.toList == []) = false := by
  rw [beq_eq_false_iff_ne]
  intro q
  rw [ByteArray.toList_eq] at q
  have e := len_data x
  rw [q, List.length_nil] at e
  omega
theorem str_none {x : ByteArray} (h : 0 < x.size) : (([] : List UInt8) == x.toList) = false := by
  rw [beq_eq_false_iff_ne]
  intro q
  rw [ByteArray.toList_eq] at q
  have e := len_data x
  rw [← q, List.length_nil] at e
  omega
theorem joinP_size (l : List ByteArray) : (joinP l).size ≤ 500 := by
  unfold joinP
  split
  · exact Nat.zero_le _
  · rw [jnS_size]; omega
theorem fldF_small (s : ByteArray) : ∀ (m a : Nat), ∀ x ∈ fldF s m a, x.size ≤ s.size
  | 0, _, x, hx => by cases hx
  | m + 1, a, x, hx => by
    rw [fldF] at hx
    split at hx
    · rcases List.mem_cons.1 hx with rfl | hx
      · exact ln_le _ _ _
      · exact fldF_small s m _ x hx
    · cases hx
theorem fields_mem (s : ByteArray) : ∀ x ∈ fieldsP s, x.size ≤ 500 := by
  intro x hx
  unfold fieldsP at hx
  split at hx
  · cases hx
  · have := fldF_small s _ _ x (List.mem_of_mem_take hx)
    omega
theorem fields_small (s : ByteArray) : ∀ k, k < (fieldsP s).length → (sat (fieldsP s) k).size ≤ 1048576 := fun k hk => Nat.le_trans (fields_mem s _ (sat_mem hk)) (by omega)
theorem splF_small (s t : ByteArray) : ∀ (m i f : Nat), ∀ x ∈ splF s t m i f, x.size ≤ s.size
  | 0, i, f, x, hx => by
    rw [splF, List.mem_singleton] at hx
    subst hx; exact ln_le _ _ _
  | m + 1, i, f, x, hx => by
    rw [splF] at hx
    split at hx
    · split at hx
      · rcases List.mem_cons.1 hx with rfl | hx
        · exact ln_le _ _ _
        · exact splF_small s t m _ _ x hx
      · exact splF_small s t m _ _ x hx
    · rw [List.mem_singleton] at hx
      subst hx; exact ln_le _ _ _
theorem split_small (s t : ByteArray) : ∀ x ∈ splitP s t, x.size ≤ 500 := by
  intro x hx
  unfold splitP at hx
  split at hx
  · exact fields_mem s x hx
  · split at hx
    · cases hx
    · rename_i h
      split at hx
      · rw [List.mem_singleton] at hx
        subst hx; omega
      · have := splF_small s t _ _ _ x (List.mem_of_mem_take hx)
        omega
end Go.Proofs.Ytnkldjijjpcmhaa.RecPure
