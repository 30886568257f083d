/-
  What a lexer does, in plain words: gaps, numbers, names, strings, regular expressions, signs, and the tokens one after another.
-/
import Derived.Test.YtngiidocgjbooaaGreatDoorReadPure
import Derived.Laws.BytesArg
namespace Go.Proofs.YtngiidocgjbooaaGreatDoor.LexPure
open Go Go.RowKit Go.PlainAid
open Go.Proofs.YtngiidocgjbooaaGreatDoor.DecPure Go.Proofs.YtngiidocgjbooaaGreatDoor.ReadPure
set_option linter.unusedVariables false

def wordsL : List ByteArray := [⟨#[66, 69, 71, 73, 78]⟩, ⟨#[69, 78, 68]⟩, ⟨#[102, 117, 110, 99, 116, 105, 111, 110]⟩, ⟨#[105, 102]⟩, ⟨#[101, 108, 115, 101]⟩, ⟨#[119, 104, 105, 108, 101]⟩, ⟨#[102, 111, 114]⟩, ⟨#[105, 110]⟩, ⟨#[98, 114, 101, 97, 107]⟩, ⟨#[99, 111, 110, 116, 105, 110, 117, 101]⟩, ⟨#[110, 101, 120, 116]⟩, ⟨#[101, 120, 105, 116]⟩, ⟨#[114, 101, 116, 117, 114, 110]⟩, ⟨#[100, 101, 108, 101, 116, 101]⟩, ⟨#[112, 114, 105, 110, 116]⟩, ⟨#[112, 114, 105, 110, 116, 102]⟩, ⟨#[108, 101, 110, 103, 116, 104]⟩, ⟨#[115, 117, 98, 115, 116, 114]⟩, ⟨#[105, 110, 100, 101, 120]⟩, ⟨#[115, 112, 108, 105, 116]⟩, ⟨#[116, 111, 117, 112, 112, 101, 114]⟩, ⟨#[105, 110, 116]⟩]
def signsL : List ByteArray := [⟨#[38, 38]⟩, ⟨#[124, 124]⟩, ⟨#[61, 61]⟩, ⟨#[33, 61]⟩, ⟨#[33, 126]⟩, ⟨#[60, 61]⟩, ⟨#[43, 61]⟩, ⟨#[123]⟩, ⟨#[125]⟩, ⟨#[40]⟩, ⟨#[41]⟩, ⟨#[91]⟩, ⟨#[93]⟩, ⟨#[59]⟩, ⟨#[44]⟩, ⟨#[61]⟩, ⟨#[33]⟩, ⟨#[60]⟩, ⟨#[43]⟩, ⟨#[45]⟩, ⟨#[42]⟩, ⟨#[47]⟩, ⟨#[37]⟩, ⟨#[126]⟩, ⟨#[63]⟩, ⟨#[58]⟩, ⟨#[36]⟩]

def isWd (s : ByteArray) : Bool := wordsL.any fun x => decide (x = s)
theorem isWd_mem {s : ByteArray} : isWd s = true ↔ s ∈ wordsL := by simp [isWd]
theorem same_yes {a b : ByteArray} (h : a = b) : (a.toList == b.toList) = true := by subst h; simp
theorem same_no {a b : ByteArray} (h : a ≠ b) : (a.toList == b.toList) = false := by
  cases hq : (a.toList == b.toList) with
  | false => rfl
  | true =>
    have e : a.toList = b.toList := by simpa using hq
    rw [ByteArray.toList_eq, ByteArray.toList_eq] at e
    exact absurd (ByteArray.ext (Array.toList_inj.1 e)) h
theorem noText (s : ByteArray) : s.toList.isEmpty = true ↔ s.size = 0 := by
  rw [ByteArray.toList_eq]
  simp only [List.isEmpty_iff_length_eq_zero, Array.length_toList]
  exact Iff.rfl
theorem noText_no {s : ByteArray} (h : 0 < s.size) : s.toList.isEmpty = false := by
  cases hb : s.toList.isEmpty with
  | false => rfl
  | true => have := (noText s).1 hb; omega
def letB (b : Int) : Bool := decide (65 ≤ b ∧ b ≤ 90) || decide (97 ≤ b ∧ b ≤ 122) || b == 95
def innB (b : Int) : Bool := letB b || dgB b
def nnB (b : Int) : Bool := !(b == 10)
def nmOk (s : ByteArray) : Bool := decide (1 ≤ s.size ∧ s.size ≤ 40) && letB (bt s 0) && (endOf innB s 0 == s.size) && !isWd s

/-- One step lemma for all ends: it stays the same along the way. -/
theorem endOf_next {p : Int → Bool} {s : ByteArray} {a : Nat} (h : a < s.size) (hp : p (bt s a) = true) : a < endOf p s a := by
  rw [endOf_step h hp]
  exact Nat.lt_of_lt_of_le (Nat.lt_succ_self a) (endOf_ge _ _ _)

theorem endF_idem (p : Int → Bool) (s : ByteArray) : ∀ (m a : Nat), s.size ≤ a + m → endOf p s (endF p s m a) = endF p s m a := fun m a h => endOf_stop (fun q => endF_out p s m a h q)
theorem endOf_idem {p : Int → Bool} (s : ByteArray) (a : Nat) : endOf p s (endOf p s a) = endOf p s a := endF_idem p s _ a (by omega)
/-- Over whitespace and comments. -/
def gapF (s : ByteArray) : Nat → Nat → Nat
  | 0, a => a
  | m + 1, a => if a < s.size ∧ bt s a = 35 then gapF s m (endOf nnB s a) else if a < s.size ∧ spB (bt s a) = true then gapF s m (a + 1) else a
def gap (s : ByteArray) (a : Nat) : Nat := gapF s (s.size - a) a
theorem nn_hash {b : Int} (h : b = 35) : nnB b = true := by subst h; rfl
theorem gapF_more (s : ByteArray) : ∀ (m k a : Nat), s.size - a ≤ m → s.size - a ≤ k → gapF s m a = gapF s k a
  | 0, 0, a, _, _ => rfl
  | 0, k + 1, a, h, _ => by
    have : ¬ a < s.size := by omega
    rw [gapF, gapF, if_neg (fun h => this h.1), if_neg (fun h => this h.1)]
  | m + 1, 0, a, _, h => by
    have : ¬ a < s.size := by omega
    rw [gapF, gapF, if_neg (fun h => this h.1), if_neg (fun h => this h.1)]
  | m + 1, k + 1, a, h1, h2 => by
    rw [gapF, gapF]
    by_cases c1 : a < s.size ∧ bt s a = 35
    · rw [if_pos c1, if_pos c1]
      have := endOf_next (p := nnB) c1.1 (nn_hash c1.2)
      exact gapF_more s m k _ (by omega) (by omega)
    · rw [if_neg c1, if_neg c1]
      by_cases c2 : a < s.size ∧ spB (bt s a) = true
      · rw [if_pos c2, if_pos c2]
        exact gapF_more s m k _ (by omega) (by omega)
      · rw [if_neg c2, if_neg c2]
theorem gap_hash {s : ByteArray} {a : Nat} (h : a < s.size) (hb : bt s a = 35) : gap s a = gap s (endOf nnB s a) := by
  have := endOf_next (p := nnB) h (nn_hash hb)
  unfold gap
  obtain ⟨m, hm⟩ : ∃ m, s.size - a = m + 1 := ⟨s.size - a - 1, by omega⟩
  rw [hm, gapF, if_pos ⟨h, hb⟩]
  exact gapF_more s _ _ _ (by omega) (by omega)
theorem sp_not_hash {b : Int} (h : spB b = true) : b ≠ 35 := by rintro rfl; cases h
theorem gap_sp {s : ByteArray} {a : Nat} (h : a < s.size) (hb : spB (bt s a) = true) : gap s a = gap s (a + 1) := by
  unfold gap
  obtain ⟨m, hm⟩ : ∃ m, s.size - a = m + 1 := ⟨s.size - a - 1, by omega⟩
  rw [hm, gapF, if_neg (fun q => sp_not_hash hb q.2), if_pos ⟨h, hb⟩]
  exact gapF_more s _ _ _ (by omega) (by omega)
theorem gap_stop {s : ByteArray} {a : Nat} (h : ¬ (a < s.size ∧ bt s a = 35)) (h2 : ¬ (a < s.size ∧ spB (bt s a) = true)) : gap s a = a := by
  unfold gap
  cases s.size - a with
  | zero => rfl
  | succ m => rw [gapF, if_neg h, if_neg h2]
theorem gapF_ge (s : ByteArray) : ∀ (m a : Nat), a ≤ gapF s m a
  | 0, a => Nat.le_refl _
  | m + 1, a => by
    rw [gapF]; split
    · exact Nat.le_trans (endOf_ge _ _ _) (gapF_ge s m _)
    · split
      · exact Nat.le_trans (Nat.le_succ _) (gapF_ge s m _)
      · exact Nat.le_refl _
theorem gap_ge (s : ByteArray) (a : Nat) : a ≤ gap s a := gapF_ge s _ a
theorem gapF_le (s : ByteArray) : ∀ (m a : Nat), a ≤ s.size → gapF s m a ≤ s.size
  | 0, a, h => h
  | m + 1, a, h => by
    rw [gapF]; split
    · exact gapF_le s m _ (endOf_le _ _ _ h)
    · split
      · rename_i q; exact gapF_le s m _ (by omega)
      · exact h
theorem gap_le (s : ByteArray) (a : Nat) (h : a ≤ s.size) : gap s a ≤ s.size := gapF_le s _ a h
theorem gapF_out (s : ByteArray) : ∀ (m a : Nat), s.size - a ≤ m → gapF s m a < s.size → bt s (gapF s m a) ≠ 35 ∧ spB (bt s (gapF s m a)) = false
  | 0, a, h, h2 => by have h3 : a < s.size := h2; omega
  | m + 1, a, h, h2 => by
    rw [gapF] at h2 ⊢
    by_cases c1 : a < s.size ∧ bt s a = 35
    · rw [if_pos c1] at h2 ⊢
      have := endOf_next (p := nnB) c1.1 (nn_hash c1.2)
      exact gapF_out s m _ (by omega) h2
    · rw [if_neg c1] at h2 ⊢
      by_cases c2 : a < s.size ∧ spB (bt s a) = true
      · rw [if_pos c2] at h2 ⊢
        exact gapF_out s m _ (by omega) h2
      · rw [if_neg c2] at h2 ⊢
        refine ⟨fun q => c1 ⟨h2, q⟩, ?_⟩
        cases hq : spB (bt s a) with
        | false => rfl
        | true => exact absurd ⟨h2, hq⟩ c2
theorem gap_out {s : ByteArray} {a : Nat} (h : gap s a < s.size) : bt s (gap s a) ≠ 35 ∧ spB (bt s (gap s a)) = false := gapF_out s _ a (Nat.le_refl _) h
theorem gap_spaces (s : ByteArray) : ∀ (m a : Nat), gap s (endF spB s m a) = gap s a
  | 0, a => rfl
  | m + 1, a => by
    rw [endF]
    by_cases c : a < s.size ∧ spB (bt s a) = true
    · rw [if_pos c, gap_spaces s m (a + 1), gap_sp c.1 c.2]
    · rw [if_neg c]
theorem gap_space (s : ByteArray) (a : Nat) : gap s (endOf spB s a) = gap s a := gap_spaces s _ a

/-- A number's end. -/
def numE (s : ByteArray) (a : Nat) : Nat := if endOf dgB s a + 1 < s.size ∧ bt s (endOf dgB s a) = 46 ∧ dgB (bt s (endOf dgB s a + 1)) = true then endOf dgB s (endOf dgB s a + 1) else endOf dgB s a
theorem numE_ge (s : ByteArray) (a : Nat) : endOf dgB s a ≤ numE s a := by
  unfold numE; split
  · exact Nat.le_trans (Nat.le_succ _) (endOf_ge _ _ _)
  · exact Nat.le_refl _
theorem numE_le (s : ByteArray) (a : Nat) (h : a ≤ s.size) : numE s a ≤ s.size := by
  have := endOf_le dgB s a h
  unfold numE; split
  · exact endOf_le _ _ _ (by omega)
  · exact this

/-- What stands behind a backslash in a string. -/
def escB (b : Int) : Option Int := if b = 110 then some 10 else if b = 116 then some 9 else if b = 34 then some 34 else if b = 92 then some 92 else none
/-- A string's content from offset a, and the offset behind it. -/
def strF (s : ByteArray) : Nat → Nat → List Int → Option (List Int × Nat)
  | 0, _, _ => none
  | m + 1, a, l =>
    if a < s.size then
      if bt s a = 34 then some (l, a + 1)
      else if bt s a = 10 then none
      else if bt s a = 92 then
        if a + 1 < s.size then
          match escB (bt s (a + 1)) with
          | none => none
          | some c => strF s m (a + 2) (l ++ [c])
        else none
      else strF s m (a + 1) (l ++ [bt s a])
    else none
def strS (s : ByteArray) (a : Nat) (l : List Int) : Option (List Int × Nat) := strF s (s.size + 1 - a) a l
theorem strF_more (s : ByteArray) : ∀ (m k a : Nat) (l : List Int), s.size + 1 - a ≤ m → s.size + 1 - a ≤ k → strF s m a l = strF s k a l
  | 0, 0, a, l, _, _ => rfl
  | 0, k + 1, a, l, h, _ => by
    have : ¬ a < s.size := by omega
    rw [strF, strF, if_neg this]
  | m + 1, 0, a, l, _, h => by
    have : ¬ a < s.size := by omega
    rw [strF, strF, if_neg this]
  | m + 1, k + 1, a, l, h1, h2 => by
    rw [strF, strF]
    by_cases c1 : a < s.size
    · rw [if_pos c1, if_pos c1]
      by_cases c2 : bt s a = 34
      · rw [if_pos c2, if_pos c2]
      · rw [if_neg c2, if_neg c2]
        by_cases c3 : bt s a = 10
        · rw [if_pos c3, if_pos c3]
        · rw [if_neg c3, if_neg c3]
          by_cases c4 : bt s a = 92
          · rw [if_pos c4, if_pos c4]
            by_cases c5 : a + 1 < s.size
            · rw [if_pos c5, if_pos c5]
              cases escB (bt s (a + 1)) with
              | none => rfl
              | some c => exact strF_more s m k _ _ (by omega) (by omega)
            · rw [if_neg c5, if_neg c5]
          · rw [if_neg c4, if_neg c4]
            exact strF_more s m k _ _ (by omega) (by omega)
    · rw [if_neg c1, if_neg c1]
theorem strS_unf (s : ByteArray) (a : Nat) (l : List Int) (h : a < s.size) : strS s a l =
      if bt s a = 34 then some (l, a + 1)
      else if bt s a = 10 then none
      else if bt s a = 92 then
        if a + 1 < s.size then
          match escB (bt s (a + 1)) with
          | none => none
          | some c => strS s (a + 2) (l ++ [c])
        else none
      else strS s (a + 1) (l ++ [bt s a]) := by
  unfold strS
  obtain ⟨m, hm⟩ : ∃ m, s.size + 1 - a = m + 1 := ⟨s.size - a, by omega⟩
  rw [hm, strF, if_pos h]
  rw [strF_more s m (s.size + 1 - (a + 1)) (a + 1) (l ++ [bt s a]) (by omega) (by omega)]
  cases escB (bt s (a + 1)) with
  | none => rfl
  | some c =>
    show (if _ then _ else if _ then _ else if _ then if _ then strF s m (a + 2) (l ++ [c]) else _ else _) = _
    rw [strF_more s m (s.size + 1 - (a + 2)) (a + 2) (l ++ [c]) (by omega) (by omega)]
theorem strS_out {s : ByteArray} {a : Nat} (l : List Int) (h : ¬ a < s.size) : strS s a l = none := by
  unfold strS
  cases s.size + 1 - a with
  | zero => rfl
  | succ m => rw [strF, if_neg h]
theorem strF_end (s : ByteArray) : ∀ (m a : Nat) (l r : List Int) (e : Nat), strF s m a l = some (r, e) → a < e ∧ e ≤ s.size ∧ r.length ≤ l.length + (e - a - 1)
  | 0, _, _, _, _, h => by cases h
  | m + 1, a, l, r, e, h => by
    rw [strF] at h
    by_cases c1 : a < s.size
    · rw [if_pos c1] at h
      by_cases c2 : bt s a = 34
      · rw [if_pos c2] at h
        cases h; exact ⟨by omega, by omega, by omega⟩
      · rw [if_neg c2] at h
        by_cases c3 : bt s a = 10
        · rw [if_pos c3] at h; cases h
        · rw [if_neg c3] at h
          by_cases c4 : bt s a = 92
          · rw [if_pos c4] at h
            by_cases c5 : a + 1 < s.size
            · rw [if_pos c5] at h
              cases hc : escB (bt s (a + 1)) with
              | none => rw [hc] at h; cases h
              | some c =>
                rw [hc] at h
                obtain ⟨h1, h2, h3⟩ := strF_end s m _ _ r e h
                rw [List.length_append, List.length_singleton] at h3
                exact ⟨by omega, h2, by omega⟩
            · rw [if_neg c5] at h; cases h
          · rw [if_neg c4] at h
            obtain ⟨h1, h2, h3⟩ := strF_end s m _ _ r e h
            rw [List.length_append, List.length_singleton] at h3
            exact ⟨by omega, h2, by omega⟩
    · rw [if_neg c1] at h; cases h
theorem strS_end {s : ByteArray} {a : Nat} {l r : List Int} {e : Nat} (h : strS s a l = some (r, e)) : a < e ∧ e ≤ s.size ∧ r.length ≤ l.length + (e - a - 1) := strF_end s _ a l r e h

/-- The offset of the slash that ends a regular expression. -/
def reF (s : ByteArray) : Nat → Nat → Option Nat
  | 0, _ => none
  | m + 1, a =>
    if a < s.size then
      if bt s a = 47 then some a
      else if bt s a = 92 then
        if a + 1 < s.size ∧ bt s (a + 1) ≠ 10 then reF s m (a + 2) else none
      else if bt s a = 10 then none
      else reF s m (a + 1)
    else none
def reS (s : ByteArray) (a : Nat) : Option Nat := reF s (s.size + 1 - a) a
theorem reF_more (s : ByteArray) : ∀ (m k a : Nat), s.size + 1 - a ≤ m → s.size + 1 - a ≤ k → reF s m a = reF s k a
  | 0, 0, a, _, _ => rfl
  | 0, k + 1, a, h, _ => by
    have : ¬ a < s.size := by omega
    rw [reF, reF, if_neg this]
  | m + 1, 0, a, _, h => by
    have : ¬ a < s.size := by omega
    rw [reF, reF, if_neg this]
  | m + 1, k + 1, a, h1, h2 => by
    rw [reF, reF]
    by_cases c1 : a < s.size
    · rw [if_pos c1, if_pos c1, reF_more s m k (a + 2) (by omega) (by omega), reF_more s m k (a + 1) (by omega) (by omega)]
    · rw [if_neg c1, if_neg c1]
theorem reS_unf (s : ByteArray) (a : Nat) (h : a < s.size) : reS s a =
      if bt s a = 47 then some a
      else if bt s a = 92 then
        if a + 1 < s.size ∧ bt s (a + 1) ≠ 10 then reS s (a + 2) else none
      else if bt s a = 10 then none
      else reS s (a + 1) := by
  unfold reS
  obtain ⟨m, hm⟩ : ∃ m, s.size + 1 - a = m + 1 := ⟨s.size - a, by omega⟩
  rw [hm, reF, if_pos h, reF_more s m (s.size + 1 - (a + 2)) (a + 2) (by omega) (by omega), reF_more s m (s.size + 1 - (a + 1)) (a + 1) (by omega) (by omega)]
theorem reS_out {s : ByteArray} {a : Nat} (h : ¬ a < s.size) : reS s a = none := by
  unfold reS
  cases s.size + 1 - a with
  | zero => rfl
  | succ m => rw [reF, if_neg h]
theorem reF_end (s : ByteArray) : ∀ (m a e : Nat), reF s m a = some e → a ≤ e ∧ e < s.size
  | 0, _, _, h => by cases h
  | m + 1, a, e, h => by
    rw [reF] at h
    by_cases c1 : a < s.size
    · rw [if_pos c1] at h
      by_cases c2 : bt s a = 47
      · rw [if_pos c2] at h
        cases h; exact ⟨by omega, by omega⟩
      · rw [if_neg c2] at h
        by_cases c4 : bt s a = 92
        · rw [if_pos c4] at h
          by_cases c5 : a + 1 < s.size ∧ bt s (a + 1) ≠ 10
          · rw [if_pos c5] at h
            obtain ⟨h1, h2⟩ := reF_end s m _ e h
            exact ⟨by omega, h2⟩
          · rw [if_neg c5] at h; cases h
        · rw [if_neg c4] at h
          by_cases c3 : bt s a = 10
          · rw [if_pos c3] at h; cases h
          · rw [if_neg c3] at h
            obtain ⟨h1, h2⟩ := reF_end s m _ e h
            exact ⟨by omega, h2⟩
    · rw [if_neg c1] at h; cases h
theorem reS_end {s : ByteArray} {a e : Nat} (h : reS s a = some e) : a ≤ e ∧ e < s.size := reF_end s _ a e h

/-- Signs of two letters, and of one. -/
def twoB (x y : Int) : Bool := (x == 38 && y == 38) || (x == 124 && y == 124) || (x == 61 && y == 61) || (x == 33 && y == 61) || (x == 33 && y == 126) || (x == 60 && y == 61) || (x == 43 && y == 61)
def oneS : ByteArray := ⟨#[123, 125, 40, 41, 91, 93, 59, 44, 61, 33, 60, 43, 45, 42, 47, 37, 126, 63, 58, 36]⟩
def oneL : List Int := [123, 125, 40, 41, 91, 93, 59, 44, 61, 33, 60, 43, 45, 42, 47, 37, 126, 63, 58, 36]
def oneB (x : Int) : Bool := decide (x ∈ oneL)
def sgn (s : ByteArray) (a : Nat) : Nat := if a + 1 < s.size ∧ twoB (bt s a) (bt s (a + 1)) = true then 2 else if oneB (bt s a) = true then 1 else 0
theorem sgn_le {s : ByteArray} {a : Nat} (h : a < s.size) : a + sgn s a ≤ s.size := by
  unfold sgn; split
  · omega
  · split <;> omega
theorem sgn_two (s : ByteArray) (a : Nat) : sgn s a ≤ 2 := by
  unfold sgn; split
  · omega
  · split <;> omega

/-- A token, read. -/
structure Tk where
  kind : Int
  s : ByteArray
  n : Int
  pos : Nat

def tk0 : Tk := ⟨0, ⟨#[]⟩, 0, 0⟩
def tth (l : List Tk) (i : Nat) : Tk := l.getD i tk0
/-- Does the last token end an operand? -/
def opnd (l : List Tk) : Bool := !l.isEmpty && ((tth l (l.length - 1)).kind == 1 || (tth l (l.length - 1)).kind == 2 || (tth l (l.length - 1)).kind == 3 || (tth l (l.length - 1)).kind == 4 || ((tth l (l.length - 1)).kind == 7 && (decide ((tth l (l.length - 1)).s = ⟨#[41]⟩) || decide ((tth l (l.length - 1)).s = ⟨#[93]⟩))))
/-- What a name is. -/
def nmK (s : ByteArray) (a e : Nat) : Int := if isWd (s.extract a e) = true then 6 else if e < s.size ∧ bt s e = 40 then 5 else 4
/-- The token at a, and the offset behind it. -/
def tokP (s : ByteArray) (o : Bool) (a : Nat) : Option (Tk × Nat) :=
  if dgB (bt s a) = true then some (⟨1, ⟨#[]⟩, rdN (s.extract a (numE s a)), a⟩, numE s a)
  else if letB (bt s a) = true then (if endOf innB s a - a ≤ 40 then some (⟨nmK s a (endOf innB s a), s.extract a (endOf innB s a), 0, a⟩, endOf innB s a) else none)
  else if bt s a = 34 then (match strS s (a + 1) [] with | none => none | some q => some (⟨2, strOfNums q.1, 0, a⟩, q.2))
  else if bt s a = 47 ∧ o = false then (match reS s (a + 1) with | none => none | some e => some (⟨3, s.extract (a + 1) e, 0, a⟩, e + 1))
  else if sgn s a = 0 then none else some (⟨7, s.extract a (a + sgn s a), 0, a⟩, a + sgn s a)
theorem tokP_end {s : ByteArray} {o : Bool} {a e : Nat} {t : Tk} (h : a < s.size) (ht : tokP s o a = some (t, e)) : a < e ∧ e ≤ s.size ∧ t.s.size ≤ s.size ∧ t.pos = a := by
  unfold tokP at ht
  by_cases c1 : dgB (bt s a) = true
  · rw [if_pos c1] at ht
    cases ht
    have h1 := endOf_next (p := dgB) h c1
    have h2 := numE_ge s a
    exact ⟨by omega, numE_le s a (by omega), Nat.zero_le _, rfl⟩
  · rw [if_neg c1] at ht
    by_cases c2 : letB (bt s a) = true
    · rw [if_pos c2] at ht
      have hi : innB (bt s a) = true := by unfold innB; rw [c2]; rfl
      have h1 := endOf_next (p := innB) h hi
      have h2 := endOf_le innB s a (by omega)
      by_cases c3 : endOf innB s a - a ≤ 40
      · rw [if_pos c3] at ht
        cases ht
        exact ⟨h1, h2, by show (s.extract _ _).size ≤ _; rw [size_ext s _ _ h2]; omega, rfl⟩
      · rw [if_neg c3] at ht; cases ht
    · rw [if_neg c2] at ht
      by_cases c3 : bt s a = 34
      · rw [if_pos c3] at ht
        cases hq : strS s (a + 1) [] with
        | none => rw [hq] at ht; cases ht
        | some q =>
          rw [hq] at ht
          obtain ⟨r, e'⟩ := q
          cases ht
          obtain ⟨h1, h2, h3⟩ := strS_end hq
          refine ⟨by omega, h2, ?_, rfl⟩
          show (strOfNums r).size ≤ _
          rw [strOfNums_size]
          simp at h3
          omega
      · rw [if_neg c3] at ht
        by_cases c4 : bt s a = 47 ∧ o = false
        · rw [if_pos c4] at ht
          cases hq : reS s (a + 1) with
          | none => rw [hq] at ht; cases ht
          | some q =>
            rw [hq] at ht
            cases ht
            obtain ⟨h1, h2⟩ := reS_end hq
            exact ⟨by omega, by omega, by show (s.extract _ _).size ≤ _; rw [size_ext s _ _ (by omega)]; omega, rfl⟩
        · rw [if_neg c4] at ht
          by_cases c5 : sgn s a = 0
          · rw [if_pos c5] at ht; cases ht
          · rw [if_neg c5] at ht
            cases ht
            have := sgn_le h
            exact ⟨by omega, by omega, by show (s.extract _ _).size ≤ _; rw [size_ext s _ _ this]; omega, rfl⟩

/-- The tokens from offset a on, behind those that there are. -/
def lexF (s : ByteArray) : Nat → Nat → List Tk → List Tk × Int
  | 0, _, l => (l, -1)
  | m + 1, a, l =>
    if gap s a < s.size then
      match tokP s (opnd l) (gap s a) with
      | none => ([], gap s a)
      | some q => lexF s m q.2 (l ++ [q.1])
    else (l, -1)
def lexS (s : ByteArray) (a : Nat) (l : List Tk) : List Tk × Int := lexF s (s.size + 1 - a) a l
theorem lexF_more (s : ByteArray) : ∀ (m k a : Nat) (l : List Tk), s.size + 1 - a ≤ m → s.size + 1 - a ≤ k → lexF s m a l = lexF s k a l
  | 0, 0, a, l, _, _ => rfl
  | 0, k + 1, a, l, h, _ => by
    have := gap_ge s a
    have : ¬ gap s a < s.size := by omega
    rw [lexF, lexF, if_neg this]
  | m + 1, 0, a, l, _, h => by
    have := gap_ge s a
    have : ¬ gap s a < s.size := by omega
    rw [lexF, lexF, if_neg this]
  | m + 1, k + 1, a, l, h1, h2 => by
    rw [lexF, lexF]
    by_cases c1 : gap s a < s.size
    · rw [if_pos c1, if_pos c1]
      have := gap_ge s a
      cases hq : tokP s (opnd l) (gap s a) with
      | none => rfl
      | some q =>
        have := (tokP_end (t := q.1) (e := q.2) c1 hq).1
        exact lexF_more s m k _ _ (by omega) (by omega)
    · rw [if_neg c1, if_neg c1]
theorem lexS_unf (s : ByteArray) (a : Nat) (l : List Tk) : lexS s a l =
    (if gap s a < s.size then
      match tokP s (opnd l) (gap s a) with
      | none => ([], (gap s a : Int))
      | some q => lexS s q.2 (l ++ [q.1])
    else (l, -1) : List Tk × Int) := by
  have hg := gap_ge s a
  unfold lexS
  by_cases c1 : gap s a < s.size
  · obtain ⟨m, hm⟩ : ∃ m, s.size + 1 - a = m + 1 := ⟨s.size - a, by omega⟩
    rw [hm, lexF, if_pos c1, if_pos c1]
    cases hq : tokP s (opnd l) (gap s a) with
    | none => rfl
    | some q =>
      have := (tokP_end (t := q.1) (e := q.2) c1 hq).1
      exact lexF_more s m _ _ _ (by omega) (by omega)
  · rw [if_neg c1]
    cases s.size + 1 - a with
    | zero => rfl
    | succ m => rw [lexF, if_neg c1]
def lexP (s : ByteArray) : List Tk × Int := if 4000 < s.size then ([], 0) else lexS s 0 []

end Go.Proofs.YtngiidocgjbooaaGreatDoor.LexPure
