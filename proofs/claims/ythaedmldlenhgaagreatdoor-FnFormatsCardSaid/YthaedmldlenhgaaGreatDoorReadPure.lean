/-
  Plain facts on reading a decimal from a text: where whitespace and digits end, what the digits come to, and what the two ways of reckoning share.
-/
import Derived.Test.YthaedmldlenhgaaGreatDoorDecPure
import Derived.PlainAid
namespace Go.Proofs.YthaedmldlenhgaaGreatDoor.ReadPure
open Go Go.RowKit Go.PlainAid
open Go.Proofs.YthaedmldlenhgaaGreatDoor.DecPure
set_option linter.unusedVariables false

def dgB (b : Int) : Bool := decide (48 ≤ b ∧ b ≤ 57)
def spB (b : Int) : Bool := b == 32 || b == 9 || b == 10
theorem dgB_yes {b : Int} (h : dgB b = true) : 48 ≤ b ∧ b ≤ 57 := by simpa [dgB] using h

def endF (p : Int → Bool) (s : ByteArray) : Nat → Nat → Nat
  | 0, a => a
  | k + 1, a => if a < s.size ∧ p (bt s a) = true then endF p s k (a + 1) else a
def endOf (p : Int → Bool) (s : ByteArray) (a : Nat) : Nat := endF p s (s.size - a) a
theorem endOf_step {p : Int → Bool} {s : ByteArray} {a : Nat} (h : a < s.size) (hp : p (bt s a) = true) : endOf p s a = endOf p s (a + 1) := by
  unfold endOf
  obtain ⟨m, hm⟩ : ∃ m, s.size - a = m + 1 := ⟨s.size - a - 1, by omega⟩
  rw [hm, endF, if_pos ⟨h, hp⟩, show s.size - (a + 1) = m from by omega]
theorem endOf_stop {p : Int → Bool} {s : ByteArray} {a : Nat} (h : ¬ (a < s.size ∧ p (bt s a) = true)) : endOf p s a = a := by
  unfold endOf
  cases hm : s.size - a with
  | zero => rw [endF]
  | succ m => rw [endF, if_neg h]
theorem endF_ge (p : Int → Bool) (s : ByteArray) : ∀ (k a : Nat), a ≤ endF p s k a
  | 0, a => by rw [endF]; exact Nat.le_refl _
  | k + 1, a => by
    rw [endF]; split
    · have := endF_ge p s k (a + 1); omega
    · exact Nat.le_refl _
theorem endOf_ge (p : Int → Bool) (s : ByteArray) (a : Nat) : a ≤ endOf p s a := endF_ge p s _ a
theorem endF_le (p : Int → Bool) (s : ByteArray) : ∀ (k a : Nat), a ≤ s.size → endF p s k a ≤ s.size
  | 0, a, h => by rw [endF]; exact h
  | k + 1, a, h => by
    rw [endF]; split
    · rename_i hc; exact endF_le p s k (a + 1) (by omega)
    · exact h
theorem endOf_le (p : Int → Bool) (s : ByteArray) (a : Nat) (h : a ≤ s.size) : endOf p s a ≤ s.size := endF_le p s _ a h
theorem endF_at (p : Int → Bool) (s : ByteArray) : ∀ (m a k : Nat), a ≤ k → k < endF p s m a → k < s.size ∧ p (bt s k) = true
  | 0, a, k, h1, h2 => by rw [endF] at h2; omega
  | m + 1, a, k, h1, h2 => by
    rw [endF] at h2
    by_cases hc : a < s.size ∧ p (bt s a) = true
    · rw [if_pos hc] at h2
      by_cases e : k = a
      · subst e; exact hc
      · exact endF_at p s m (a + 1) k (by omega) h2
    · rw [if_neg hc] at h2; omega
theorem endOf_at {p : Int → Bool} {s : ByteArray} {a k : Nat} (h1 : a ≤ k) (h2 : k < endOf p s a) : k < s.size ∧ p (bt s k) = true := endF_at p s _ a k h1 h2
theorem endF_out (p : Int → Bool) (s : ByteArray) : ∀ (m a : Nat), s.size ≤ a + m → ¬ (endF p s m a < s.size ∧ p (bt s (endF p s m a)) = true)
  | 0, a, h => by rw [endF]; omega
  | m + 1, a, h => by
    rw [endF]
    by_cases hc : a < s.size ∧ p (bt s a) = true
    · rw [if_pos hc]; exact endF_out p s m (a + 1) (by omega)
    · rw [if_neg hc]; exact hc
theorem endOf_out {p : Int → Bool} {s : ByteArray} {a : Nat} (h : endOf p s a < s.size) : p (bt s (endOf p s a)) = false := by
  have := endF_out p s (s.size - a) a (by omega)
  cases hb : p (bt s (endOf p s a)) with
  | false => rfl
  | true => exact absurd ⟨h, hb⟩ this

theorem size_ext (s : ByteArray) (a b : Nat) (h : b ≤ s.size) : (s.extract a b).size = b - a := by
  rw [ByteArray.size_extract]; omega
theorem bt_ext (s : ByteArray) (a b k : Nat) (h : b ≤ s.size) (hk : k < b - a) : bt (s.extract a b) k = bt s (a + k) := by
  unfold bt
  rw [dif_pos (by rw [size_ext s a b h]; exact hk), dif_pos (by omega)]
  congr 2
  simp [ByteArray.getElem_extract]

/-- The value of k digits from a on. -/
def valF (s : ByteArray) (a : Nat) : Nat → Int
  | 0 => 0
  | k + 1 => valF s a k * 10 + (bt s (a + k) - 48)
/-- The digits behind the point as millionths: six places. -/
def frS (s : ByteArray) (a n : Nat) : Nat → Int
  | 0 => 0
  | k + 1 => frS s a n k * 10 + (if k < n then bt s (a + k) - 48 else 0)
def unS : Nat → Int
  | 0 => 100000
  | k + 1 => unS k / 10
def sumS (s : ByteArray) (a : Nat) : Nat → Int
  | 0 => 0
  | k + 1 => sumS s a k + (bt s (a + k) - 48) * unS k
/-- What is said of a run of digits. -/
def Digs (s : ByteArray) (a n : Nat) : Prop := ∀ k, k < n → 48 ≤ bt s (a + k) ∧ bt s (a + k) ≤ 57
theorem Digs.less {s : ByteArray} {a n m : Nat} (h : Digs s a n) (hm : m ≤ n) : Digs s a m := fun k hk => h k (by omega)
theorem digs_end (s : ByteArray) (a : Nat) : Digs s a (endOf dgB s a - a) := fun k hk => dgB_yes (endOf_at (p := dgB) (s := s) (a := a) (k := a + k) (by omega) (by omega)).2
theorem valF_nn {s : ByteArray} {a : Nat} : ∀ {n : Nat}, Digs s a n → 0 ≤ valF s a n
  | 0, _ => by simp [valF]
  | n + 1, h => by
    have h1 := valF_nn (h.less (Nat.le_succ n))
    have h2 := h n (by omega)
    simp only [valF]; omega
theorem valF_ext (s : ByteArray) (a b : Nat) (hb : b ≤ s.size) : ∀ k, k ≤ b - a → valF (s.extract a b) 0 k = valF s a k
  | 0, _ => rfl
  | k + 1, h => by
    simp only [valF, Nat.zero_add]
    rw [valF_ext s a b hb k (by omega), bt_ext s a b k hb (by omega)]
theorem frS_ext (s : ByteArray) (a b : Nat) (hb : b ≤ s.size) : ∀ k, frS (s.extract a b) 0 (b - a) k = frS s a (b - a) k
  | 0 => rfl
  | k + 1 => by
    simp only [frS, Nat.zero_add]
    rw [frS_ext s a b hb k]
    by_cases h : k < b - a
    · rw [if_pos h, if_pos h, bt_ext s a b k hb h]
    · rw [if_neg h, if_neg h]
theorem digs_ext (s : ByteArray) (a b : Nat) (hb : b ≤ s.size) (h : Digs s a (b - a)) : Digs (s.extract a b) 0 (b - a) := fun k hk => by
  rw [Nat.zero_add, bt_ext s a b k hb hk]; exact h k hk
theorem frS_big (s : ByteArray) (a n m : Nat) : ∀ k, k ≤ n → k ≤ m → frS s a n k = frS s a m k
  | 0, _, _ => rfl
  | k + 1, h, h' => by
    simp only [frS]
    rw [frS_big s a n m k (by omega) (by omega), if_pos (by omega), if_pos (by omega)]
theorem unS_zero : ∀ j, unS (j + 6) = 0
  | 0 => by decide
  | j + 1 => by show unS (j + 6) / 10 = 0; rw [unS_zero j]; rfl
theorem sumS_six (s : ByteArray) (a : Nat) : ∀ j, sumS s a (j + 6) = sumS s a 6
  | 0 => rfl
  | j + 1 => by
    show sumS s a (j + 6) + _ * unS (j + 6) = _
    rw [unS_zero j, sumS_six s a j, Int.mul_zero, Int.add_zero]
theorem sum_fr (s : ByteArray) (a : Nat) : ∀ n, sumS s a n = frS s a n 6
  | 0 => by simp [sumS, frS]
  | 1 => by simp [sumS, frS, unS]; omega
  | 2 => by simp [sumS, frS, unS]; omega
  | 3 => by simp [sumS, frS, unS]; omega
  | 4 => by simp [sumS, frS, unS]; omega
  | 5 => by simp [sumS, frS, unS]; omega
  | n + 6 => by
    rw [sumS_six s a n, frS_big s a (n + 6) 6 6 (by omega) (by omega)]
    simp [sumS, frS, unS]; omega
theorem frS_bd (s : ByteArray) (a n : Nat) (h : Digs s a n) : 0 ≤ frS s a n 6 ∧ frS s a n 6 ≤ 999999 := by
  have e : ∀ k, 0 ≤ (if k < n then bt s (a + k) - 48 else 0) ∧ (if k < n then bt s (a + k) - 48 else 0) ≤ 9 := fun k => by
    by_cases hk : k < n
    · have := h k hk; rw [if_pos hk]; omega
    · rw [if_neg hk]; omega
  have e0 := e 0; have e1 := e 1; have e2 := e 2; have e3 := e 3; have e4 := e 4; have e5 := e 5
  simp only [frS]
  omega
theorem frS_step (s : ByteArray) (a n : Nat) (k : Nat) (hk : k < 6) (h : Digs s a n) : 0 ≤ frS s a n (k + 1) ∧ frS s a n (k + 1) ≤ 999999 := by
  have e : ∀ k, 0 ≤ (if k < n then bt s (a + k) - 48 else 0) ∧ (if k < n then bt s (a + k) - 48 else 0) ≤ 9 := fun k => by
    by_cases hk : k < n
    · have := h k hk; rw [if_pos hk]; omega
    · rw [if_neg hk]; omega
  have e0 := e 0; have e1 := e 1; have e2 := e 2; have e3 := e 3; have e4 := e 4; have e5 := e 5
  have hc : k = 0 ∨ k = 1 ∨ k = 2 ∨ k = 3 ∨ k = 4 ∨ k = 5 := by omega
  rcases hc with rfl | rfl | rfl | rfl | rfl | rfl <;> simp only [frS] <;> omega
theorem sumS_bd (s : ByteArray) (a n : Nat) (h : Digs s a n) : 0 ≤ sumS s a n ∧ sumS s a n ≤ 999999 := by
  rw [sum_fr]; exact frS_bd s a n h
theorem unS_bd : ∀ k, 0 ≤ unS k ∧ unS k ≤ 100000
  | 0 => by simp [unS]
  | k + 1 => by have := unS_bd k; simp only [unS]; omega

/-- The model's whole part: one too many stands for all that is too great. -/
def satS (v : Int) : Int := if v ≤ 9000000 then v * 1000000 else 9000000000001
theorem satS_bd {v : Int} (h : 0 ≤ v) : 0 ≤ satS v ∧ satS v ≤ 9000000000001 := by unfold satS; split <;> omega
theorem satS_big {v d : Int} (h : 0 ≤ v) (hd : 0 ≤ d ∧ d ≤ 9) (hx : 9000000000000 < satS v * 10 + d * 1000000) : satS (v * 10 + d) = 9000000000001 := by
  unfold satS at *; split at hx <;> split <;> omega
theorem satS_small {v d : Int} (h : 0 ≤ v) (hd : 0 ≤ d ∧ d ≤ 9) (hx : ¬ 9000000000000 < satS v * 10 + d * 1000000) : satS (v * 10 + d) = satS v * 10 + d * 1000000 := by
  unfold satS at *; split at hx <;> split <;> omega
/-- What both come to: the whole part and the millionths, no more than the greatest decimal. -/
def capV (v f : Int) : Int := min (min v 9000000 * 1000000 + f) 9000000000000
theorem cap_big {v f : Int} (h : 0 ≤ v) (hf : 0 ≤ f ∧ f ≤ 999999) (hx : 9000000000000 < satS v + f) : capV v f = 9000000000000 := by
  unfold capV satS at *; split at hx <;> omega
theorem cap_small {v f : Int} (h : 0 ≤ v) (hf : 0 ≤ f ∧ f ≤ 999999) (hx : ¬ 9000000000000 < satS v + f) : capV v f = satS v + f := by
  unfold capV satS at *; split at hx <;> split <;> omega
theorem capV_bd {v f : Int} (h : 0 ≤ v) (hf : 0 ≤ f ∧ f ≤ 999999) : 0 ≤ capV v f ∧ capV v f ≤ 9000000000000 := by unfold capV; omega

/-! The parts of a text that is read as a number. -/
def rA0 (s : ByteArray) : Nat := endOf spB s 0
def rNeg (s : ByteArray) : Bool := decide (rA0 s < s.size) && (bt s (rA0 s) == 45)
def rSgn (s : ByteArray) : Bool := decide (rA0 s < s.size) && (bt s (rA0 s) == 45 || bt s (rA0 s) == 43)
def rA1 (s : ByteArray) : Nat := if rSgn s = true then rA0 s + 1 else rA0 s
def rB (s : ByteArray) : Nat := endOf dgB s (rA1 s)
def rPt (s : ByteArray) : Bool := decide (rB s < s.size) && (bt s (rB s) == 46)
def rC (s : ByteArray) : Nat := if rPt s = true then endOf dgB s (rB s + 1) else rB s
/-- How many digits stand behind the point. -/
def rF (s : ByteArray) : Nat := if rPt s = true then rC s - (rB s + 1) else 0
def rNo (s : ByteArray) : Bool := rB s == rA1 s && rF s == 0
def rV (s : ByteArray) : Int := capV (valF s (rA1 s) (rB s - rA1 s)) (frS s (rB s + 1) (rF s) 6)
def rdN (s : ByteArray) : Int := if rNo s = true then 0 else if rNeg s = true then -rV s else rV s
def rdK (s : ByteArray) : Int := if rNo s = true then 0 else (rC s : Int)
theorem rA0_le (s : ByteArray) : rA0 s ≤ s.size := endOf_le _ _ _ (Nat.zero_le _)
theorem rA1_le (s : ByteArray) : rA1 s ≤ s.size := by
  unfold rA1; split
  · rename_i h; simp [rSgn] at h; omega
  · exact rA0_le s
theorem rB_le (s : ByteArray) : rA1 s ≤ rB s ∧ rB s ≤ s.size := ⟨endOf_ge _ _ _, endOf_le _ _ _ (rA1_le s)⟩
theorem rPt_lt {s : ByteArray} (h : rPt s = true) : rB s < s.size := by simp [rPt] at h; exact h.1
theorem rC_le (s : ByteArray) : rB s ≤ rC s ∧ rC s ≤ s.size := by
  have h1 := rB_le s
  unfold rC; split
  · rename_i h
    have h2 := rPt_lt h
    have h3 := endOf_ge dgB s (rB s + 1)
    have h4 := endOf_le dgB s (rB s + 1) (by omega)
    omega
  · omega
theorem rC_ge {s : ByteArray} (h : rPt s = true) : rB s + 1 ≤ rC s := by
  rw [rC, if_pos h]; exact endOf_ge _ _ _
theorem rDigs (s : ByteArray) : Digs s (rA1 s) (rB s - rA1 s) := digs_end s _
theorem rFrac (s : ByteArray) : Digs s (rB s + 1) (rF s) := by
  unfold rF; split
  · rename_i h
    have e : rC s = endOf dgB s (rB s + 1) := by rw [rC, if_pos h]
    rw [e]; exact digs_end s _
  · exact fun k hk => absurd hk (by omega)
def wV (s : ByteArray) : Int := min (valF s (rA1 s) (rB s - rA1 s)) 9000000 * 1000000
def fV (s : ByteArray) : Int := frS s (rB s + 1) (rF s) 6
theorem wV_bd (s : ByteArray) : 0 ≤ wV s ∧ wV s ≤ 9000000000000 := by
  have := valF_nn (rDigs s); unfold wV; omega
theorem fV_bd (s : ByteArray) : 0 ≤ fV s ∧ fV s ≤ 999999 := frS_bd _ _ _ (rFrac s)
theorem rV_eq (s : ByteArray) : rV s = if 9000000000000 < wV s + fV s then 9000000000000 else wV s + fV s := by
  unfold rV capV wV fV; split <;> omega
theorem rV_bd (s : ByteArray) : 0 ≤ rV s ∧ rV s ≤ 9000000000000 := capV_bd (valF_nn (rDigs s)) (frS_bd _ _ _ (rFrac s))
theorem rd_no {s : ByteArray} (h : rNo s = true) : rdN s = 0 ∧ rdK s = 0 := by simp [rdN, rdK, h]
theorem rd_neg {s : ByteArray} (h : rNo s = false) (hn : rNeg s = true) : rdN s = -(if 9000000000000 < wV s + fV s then 9000000000000 else wV s + fV s) ∧ rdK s = rC s := by
  rw [← rV_eq]; simp [rdN, rdK, h, hn]
theorem rd_pos {s : ByteArray} (h : rNo s = false) (hn : rNeg s = false) : rdN s = (if 9000000000000 < wV s + fV s then 9000000000000 else wV s + fV s) ∧ rdK s = rC s := by
  rw [← rV_eq]; simp [rdN, rdK, h, hn]
theorem rdK_bd (s : ByteArray) : 0 ≤ rdK s ∧ rdK s ≤ s.size := by
  have := rC_le s
  unfold rdK; split <;> omega
def satV (s : ByteArray) : Int := satS (valF s (rA1 s) (rB s - rA1 s))
theorem satV_bd (s : ByteArray) : 0 ≤ satV s ∧ satV s ≤ 9000000000001 := satS_bd (valF_nn (rDigs s))
theorem rV_sat (s : ByteArray) : rV s = if 9000000000000 < satV s + fV s then 9000000000000 else satV s + fV s := by
  split
  · rename_i h; exact cap_big (valF_nn (rDigs s)) (fV_bd s) h
  · rename_i h; exact cap_small (valF_nn (rDigs s)) (fV_bd s) h
theorem rs_neg {s : ByteArray} (h : rNo s = false) (hn : rNeg s = true) : rdN s = -(if 9000000000000 < satV s + fV s then 9000000000000 else satV s + fV s) ∧ rdK s = rC s := by
  rw [← rV_sat]; simp [rdN, rdK, h, hn]
theorem rs_pos {s : ByteArray} (h : rNo s = false) (hn : rNeg s = false) : rdN s = (if 9000000000000 < satV s + fV s then 9000000000000 else satV s + fV s) ∧ rdK s = rC s := by
  rw [← rV_sat]; simp [rdN, rdK, h, hn]
theorem fV_none {s : ByteArray} (h : rF s = 0) : fV s = 0 := by simp [fV, h, frS]
theorem valF_next (s : ByteArray) (a j : Nat) (h : a ≤ j) : valF s a (j + 1 - a) = valF s a (j - a) * 10 + (bt s j - 48) := by
  rw [show j + 1 - a = (j - a) + 1 from by omega]
  simp only [valF]
  rw [show a + (j - a) = j from by omega]
theorem sumS_next (s : ByteArray) (a j : Nat) (h : a ≤ j) : sumS s a (j + 1 - a) = sumS s a (j - a) + (bt s j - 48) * unS (j - a) := by
  rw [show j + 1 - a = (j - a) + 1 from by omega]
  simp only [sumS]
  rw [show a + (j - a) = j from by omega]
theorem unS_next (a j : Nat) (h : a ≤ j) : unS (j + 1 - a) = unS (j - a) / 10 := by
  rw [show j + 1 - a = (j - a) + 1 from by omega]; rfl
theorem prod_bd {d u : Int} (h1 : 0 ≤ d ∧ d ≤ 9) (h2 : 0 ≤ u ∧ u ≤ 100000) : 0 ≤ d * u ∧ d * u ≤ 900000 := by
  refine ⟨Int.mul_nonneg h1.1 h2.1, ?_⟩
  have := Int.mul_le_mul h1.2 h2.2 h2.1 (by omega)
  omega
theorem rdig {s : ByteArray} {j : Nat} (h1 : rA1 s ≤ j) (h2 : j < rB s) : j < s.size ∧ dgB (bt s j) = true := endOf_at (p := dgB) (s := s) (a := rA1 s) h1 h2
theorem rdigC {s : ByteArray} {j : Nat} (hp : rPt s = true) (h1 : rB s + 1 ≤ j) (h2 : j < rC s) : j < s.size ∧ dgB (bt s j) = true := by
  rw [rC, if_pos hp] at h2
  exact endOf_at (p := dgB) (s := s) (a := rB s + 1) h1 h2
theorem rB_out {s : ByteArray} (h : rB s < s.size) : dgB (bt s (rB s)) = false := endOf_out (p := dgB) (s := s) (a := rA1 s) h
theorem rC_out {s : ByteArray} (hp : rPt s = true) (h : rC s < s.size) : dgB (bt s (rC s)) = false := by
  have e : rC s = endOf dgB s (rB s + 1) := by rw [rC, if_pos hp]
  rw [e] at h ⊢
  exact endOf_out h
/-- Does it look like a number, and is nothing else there? -/
def looksB (s : ByteArray) : Bool := decide (0 < rdK s) && (endOf spB s (rdK s).toNat == s.size)
theorem tupI {a b c d : Int} (h : a = b) (g : c = d) : Ending.returned (.tuple #[.int .i64 a, .int .i64 c]) = .returned (.tuple #[.int .i64 b, .int .i64 d]) := by rw [h, g]
theorem ext_empty (s : ByteArray) (a b : Nat) (h : b ≤ s.size) : (s.extract a b).toList.isEmpty = decide (b - a = 0) := by
  rw [ByteArray.toList_eq]
  have e := size_ext s a b h
  rw [Bool.eq_iff_iff, List.isEmpty_iff_length_eq_zero]
  simp only [decide_eq_true_eq]
  rw [← e]; rfl
end Go.Proofs.YthaedmldlenhgaaGreatDoor.ReadPure
