/-
  Plain facts on decimals as integers: what each function of the first chapter comes to, without any Go text.
  Plain facts on reading a decimal from a text: where whitespace and digits end, what the digits come to, and what the two ways of reckoning share.
  Plain facts on products of decimals: the product by sizes and signs, and its parts of 64 bits.
  Plain facts on the digits of a decimal: behind the point, as the program prints them and as the model does.
  Plain facts on the text of a decimal: its numeral, the digits behind the point, their lengths, and how texts are joined.
  Plain facts: reading the printed text of a decimal gives it back, whatever whitespace stands around it.
  Reading the printed text of a decimal gives it back: the three readings that the law asks for.
  What a lexer does, in plain words: gaps, numbers, names, strings, regular expressions, signs, and the tokens one after another.
-/
import Derived.WalkKit
import Derived.RowKit3
import Derived.Deep.QuietTactic
import Derived.PlainAid
import Derived.Shelf.Bits.Mul64
import Derived.Laws.BytesArg
import Derived.Lib.ItoaMem
namespace Go.Proofs.YtlfmiikpbdhemaaGreatDoor.DecPure
open Go Go.RowKit
set_option linter.unusedVariables false

def dOk (n : Int) : Bool := decide (-9000000000000 ≤ n ∧ n ≤ 9000000000000)
theorem dOk_yes {n : Int} (h : dOk n = true) : -9000000000000 ≤ n ∧ n ≤ 9000000000000 := by
  simpa [dOk] using h
theorem dOk_no {n : Int} (h : ¬ dOk n = true) : n < -9000000000000 ∨ 9000000000000 < n := by
  simp [dOk] at h; omega
theorem dOk_of {n : Int} (h : -9000000000000 ≤ n ∧ n ≤ 9000000000000) : dOk n = true := by
  simp [dOk, h]
theorem dOk_not {n : Int} (h : n < -9000000000000 ∨ 9000000000000 < n) : dOk n = false := by
  simp [dOk]; omega
theorem no_eq {b : Bool} (h : ¬ b = true) : b = false := by simpa using h
theorem tup2 {k : IntKind} {a b : Int} {c d : Bool} (h : a = b) (g : c = d) : Ending.returned (.tuple #[.int k a, .bool c]) = .returned (.tuple #[.int k b, .bool d]) := by rw [h, g]
theorem retI {k : IntKind} {a b : Int} (h : a = b) : Ending.returned (.int k a) = .returned (.int k b) := by rw [h]
theorem retB {a b : Bool} (h : a = b) : Ending.returned (.bool a) = .returned (.bool b) := by rw [h]

/-- A number if it is a decimal, else 0. -/
def mkV (n : Int) : Int := if dOk n = true then n else 0
theorem mkV_yes {n : Int} (h : dOk n = true) : mkV n = n := by simp [mkV, h]
theorem mkV_no {n : Int} (h : dOk n = false) : mkV n = 0 := by simp [mkV, h]

def addV (a b : Int) : Int := if (dOk a && dOk b) = true then mkV (a + b) else 0
def addB (a b : Int) : Bool := dOk a && dOk b && dOk (a + b)
def subV (a b : Int) : Int := if (dOk a && dOk b) = true then mkV (a - b) else 0
def subB (a b : Int) : Bool := dOk a && dOk b && dOk (a - b)
def divV (a b : Int) : Int := if (dOk a && dOk b && !(b == 0)) = true then mkV ((a * 1000000).tdiv b) else 0
def divB (a b : Int) : Bool := dOk a && dOk b && !(b == 0) && dOk ((a * 1000000).tdiv b)
def modV (a b : Int) : Int := if (dOk a && dOk b && !(b == 0)) = true then a.tmod b else 0
def modB (a b : Int) : Bool := dOk a && dOk b && !(b == 0)
def intV (n : Int) : Int := if dOk n = true then n - n.tmod 1000000 else 0
def negV (n : Int) : Int := if dOk n = true then -n else 0
def fracV (n : Int) : Int := if dOk n = true then n.tmod 1000000 else 0
def cmp3 (a b : Int) : Int := if a < b then -1 else if b < a then 1 else 0
def cmpV (a b : Int) : Int := if (dOk a && dOk b) = true then cmp3 a b else 0
theorem tdiv_tmod (n : Int) : n.tdiv 1000000 * 1000000 = n - n.tmod 1000000 := by
  have := Int.mul_tdiv_add_tmod n 1000000; omega
theorem tmod_bd (n : Int) : -1000000 < n.tmod 1000000 ∧ n.tmod 1000000 < 1000000 := by
  rcases Int.le_total 0 n with h | h
  · rw [Int.tmod_eq_emod_of_nonneg h]; omega
  · have : n.tmod 1000000 = -((-n).tmod 1000000) := by rw [Int.neg_tmod]; omega
    rw [this, Int.tmod_eq_emod_of_nonneg (by omega)]; omega
theorem tmod_le (n : Int) : (0 ≤ n → 0 ≤ n.tmod 1000000 ∧ n.tmod 1000000 ≤ n) ∧ (n ≤ 0 → n ≤ n.tmod 1000000 ∧ n.tmod 1000000 ≤ 0) := by
  constructor
  · intro h; rw [Int.tmod_eq_emod_of_nonneg h]; omega
  · intro h
    have : n.tmod 1000000 = -((-n).tmod 1000000) := by rw [Int.neg_tmod]; omega
    rw [this, Int.tmod_eq_emod_of_nonneg (by omega)]; omega
theorem intV_bd (n : Int) : -9000000000000 ≤ intV n ∧ intV n ≤ 9000000000000 := by
  unfold intV; split
  · rename_i h
    have h1 := dOk_yes h
    have h2 := tmod_le n
    omega
  · omega
theorem mkV_bd (n : Int) : -9000000000000 ≤ mkV n ∧ mkV n ≤ 9000000000000 := by
  unfold mkV; split
  · rename_i h; exact dOk_yes h
  · omega
theorem tdiv_bd (a b : Int) (h : b ≠ 0) (L : Int) (h1 : -L ≤ a) (h2 : a ≤ L) : -L ≤ a.tdiv b ∧ a.tdiv b ≤ L := by
  have e := Int.natAbs_tdiv_le_natAbs a b
  omega
theorem grown_drewN (w : World) (n : Nat) : Grown w (w.drewN n) := by
  induction n with
  | zero => exact Grown.refl _
  | succ n ih => exact ih.drew
end Go.Proofs.YtlfmiikpbdhemaaGreatDoor.DecPure

namespace Go.Proofs.YtlfmiikpbdhemaaGreatDoor.ReadPure
open Go Go.RowKit Go.PlainAid
open Go.Proofs.YtlfmiikpbdhemaaGreatDoor.DecPure
set_option linter.unusedVariables false

def dgB (b : Int) : Bool := decide (48 ≤ b ∧ b ≤ 57)
def spB (b : Int) : Bool := b == 32 || b == 9 || b == 10
theorem dgB_yes {b : Int} (h : dgB b = true) : 48 ≤ b ∧ b ≤ 57 := by simpa [dgB] using h

def endF (p : Int → Bool) (s : ByteArray) : Nat → Nat → Nat
  | 0, a => a
  | k + 1, a => if a < s.size ∧ p (bt s a) = true then endF p s k (a + 1) else a
def endOf (p : Int → Bool) (s : ByteArray) (a : Nat) : Nat := endF p s (s.size - a) a
theorem endOf_step {p : Int → Bool} {s : ByteArray} {a : Nat} (h : a < s.size) (hp : p (bt s a) = true) : endOf p s a = endOf p s (a + 1) := by
  unfold endOf
  obtain ⟨m, hm⟩ : ∃ m, s.size - a = m + 1 := ⟨s.size - a - 1, by omega⟩
  rw [hm, endF, if_pos ⟨h, hp⟩, show s.size - (a + 1) = m from by omega]
theorem endOf_stop {p : Int → Bool} {s : ByteArray} {a : Nat} (h : ¬ (a < s.size ∧ p (bt s a) = true)) : endOf p s a = a := by
  unfold endOf
  cases hm : s.size - a with
  | zero => rw [endF]
  | succ m => rw [endF, if_neg h]
theorem endF_ge (p : Int → Bool) (s : ByteArray) : ∀ (k a : Nat), a ≤ endF p s k a
  | 0, a => by rw [endF]; exact Nat.le_refl _
  | k + 1, a => by
    rw [endF]; split
    · have := endF_ge p s k (a + 1); omega
    · exact Nat.le_refl _
theorem endOf_ge (p : Int → Bool) (s : ByteArray) (a : Nat) : a ≤ endOf p s a := endF_ge p s _ a
theorem endF_le (p : Int → Bool) (s : ByteArray) : ∀ (k a : Nat), a ≤ s.size → endF p s k a ≤ s.size
  | 0, a, h => by rw [endF]; exact h
  | k + 1, a, h => by
    rw [endF]; split
    · rename_i hc; exact endF_le p s k (a + 1) (by omega)
    · exact h
theorem endOf_le (p : Int → Bool) (s : ByteArray) (a : Nat) (h : a ≤ s.size) : endOf p s a ≤ s.size := endF_le p s _ a h
theorem endF_at (p : Int → Bool) (s : ByteArray) : ∀ (m a k : Nat), a ≤ k → k < endF p s m a → k < s.size ∧ p (bt s k) = true
  | 0, a, k, h1, h2 => by rw [endF] at h2; omega
  | m + 1, a, k, h1, h2 => by
    rw [endF] at h2
    by_cases hc : a < s.size ∧ p (bt s a) = true
    · rw [if_pos hc] at h2
      by_cases e : k = a
      · subst e; exact hc
      · exact endF_at p s m (a + 1) k (by omega) h2
    · rw [if_neg hc] at h2; omega
theorem endOf_at {p : Int → Bool} {s : ByteArray} {a k : Nat} (h1 : a ≤ k) (h2 : k < endOf p s a) : k < s.size ∧ p (bt s k) = true := endF_at p s _ a k h1 h2
theorem endF_out (p : Int → Bool) (s : ByteArray) : ∀ (m a : Nat), s.size ≤ a + m → ¬ (endF p s m a < s.size ∧ p (bt s (endF p s m a)) = true)
  | 0, a, h => by rw [endF]; omega
  | m + 1, a, h => by
    rw [endF]
    by_cases hc : a < s.size ∧ p (bt s a) = true
    · rw [if_pos hc]; exact endF_out p s m (a + 1) (by omega)
    · rw [if_neg hc]; exact hc
theorem endOf_out {p : Int → Bool} {s : ByteArray} {a : Nat} (h : endOf p s a < s.size) : p (bt s (endOf p s a)) = false := by
  have := endF_out p s (s.size - a) a (by omega)
  cases hb : p (bt s (endOf p s a)) with
  | false => rfl
  | true => exact absurd ⟨h, hb⟩ this

theorem size_ext (s : ByteArray) (a b : Nat) (h : b ≤ s.size) : (s.extract a b).size = b - a := by
  rw [ByteArray.size_extract]; omega
theorem bt_ext (s : ByteArray) (a b k : Nat) (h : b ≤ s.size) (hk : k < b - a) : bt (s.extract a b) k = bt s (a + k) := by
  unfold bt
  rw [dif_pos (by rw [size_ext s a b h]; exact hk), dif_pos (by omega)]
  congr 2
  simp [ByteArray.getElem_extract]

/-- The value of k digits from a on. -/
def valF (s : ByteArray) (a : Nat) : Nat → Int
  | 0 => 0
  | k + 1 => valF s a k * 10 + (bt s (a + k) - 48)
/-- The digits behind the point as millionths: six places. -/
def frS (s : ByteArray) (a n : Nat) : Nat → Int
  | 0 => 0
  | k + 1 => frS s a n k * 10 + (if k < n then bt s (a + k) - 48 else 0)
def unS : Nat → Int
  | 0 => 100000
  | k + 1 => unS k / 10
def sumS (s : ByteArray) (a : Nat) : Nat → Int
  | 0 => 0
  | k + 1 => sumS s a k + (bt s (a + k) - 48) * unS k
/-- What is said of a run of digits. -/
def Digs (s : ByteArray) (a n : Nat) : Prop := ∀ k, k < n → 48 ≤ bt s (a + k) ∧ bt s (a + k) ≤ 57
theorem Digs.less {s : ByteArray} {a n m : Nat} (h : Digs s a n) (hm : m ≤ n) : Digs s a m := fun k hk => h k (by omega)
theorem digs_end (s : ByteArray) (a : Nat) : Digs s a (endOf dgB s a - a) := fun k hk => dgB_yes (endOf_at (p := dgB) (s := s) (a := a) (k := a + k) (by omega) (by omega)).2
theorem valF_nn {s : ByteArray} {a : Nat} : ∀ {n : Nat}, Digs s a n → 0 ≤ valF s a n
  | 0, _ => by simp [valF]
  | n + 1, h => by
    have h1 := valF_nn (h.less (Nat.le_succ n))
    have h2 := h n (by omega)
    simp only [valF]; omega
theorem valF_ext (s : ByteArray) (a b : Nat) (hb : b ≤ s.size) : ∀ k, k ≤ b - a → valF (s.extract a b) 0 k = valF s a k
  | 0, _ => rfl
  | k + 1, h => by
    simp only [valF, Nat.zero_add]
    rw [valF_ext s a b hb k (by omega), bt_ext s a b k hb (by omega)]
theorem frS_ext (s : ByteArray) (a b : Nat) (hb : b ≤ s.size) : ∀ k, frS (s.extract a b) 0 (b - a) k = frS s a (b - a) k
  | 0 => rfl
  | k + 1 => by
    simp only [frS, Nat.zero_add]
    rw [frS_ext s a b hb k]
    by_cases h : k < b - a
    · rw [if_pos h, if_pos h, bt_ext s a b k hb h]
    · rw [if_neg h, if_neg h]
theorem digs_ext (s : ByteArray) (a b : Nat) (hb : b ≤ s.size) (h : Digs s a (b - a)) : Digs (s.extract a b) 0 (b - a) := fun k hk => by
  rw [Nat.zero_add, bt_ext s a b k hb hk]; exact h k hk
theorem frS_big (s : ByteArray) (a n m : Nat) : ∀ k, k ≤ n → k ≤ m → frS s a n k = frS s a m k
  | 0, _, _ => rfl
  | k + 1, h, h' => by
    simp only [frS]
    rw [frS_big s a n m k (by omega) (by omega), if_pos (by omega), if_pos (by omega)]
theorem unS_zero : ∀ j, unS (j + 6) = 0
  | 0 => by decide
  | j + 1 => by show unS (j + 6) / 10 = 0; rw [unS_zero j]; rfl
theorem sumS_six (s : ByteArray) (a : Nat) : ∀ j, sumS s a (j + 6) = sumS s a 6
  | 0 => rfl
  | j + 1 => by
    show sumS s a (j + 6) + _ * unS (j + 6) = _
    rw [unS_zero j, sumS_six s a j, Int.mul_zero, Int.add_zero]
theorem sum_fr (s : ByteArray) (a : Nat) : ∀ n, sumS s a n = frS s a n 6
  | 0 => by simp [sumS, frS]
  | 1 => by simp [sumS, frS, unS]; omega
  | 2 => by simp [sumS, frS, unS]; omega
  | 3 => by simp [sumS, frS, unS]; omega
  | 4 => by simp [sumS, frS, unS]; omega
  | 5 => by simp [sumS, frS, unS]; omega
  | n + 6 => by
    rw [sumS_six s a n, frS_big s a (n + 6) 6 6 (by omega) (by omega)]
    simp [sumS, frS, unS]; omega
theorem frS_bd (s : ByteArray) (a n : Nat) (h : Digs s a n) : 0 ≤ frS s a n 6 ∧ frS s a n 6 ≤ 999999 := by
  have e : ∀ k, 0 ≤ (if k < n then bt s (a + k) - 48 else 0) ∧ (if k < n then bt s (a + k) - 48 else 0) ≤ 9 := fun k => by
    by_cases hk : k < n
    · have := h k hk; rw [if_pos hk]; omega
    · rw [if_neg hk]; omega
  have e0 := e 0; have e1 := e 1; have e2 := e 2; have e3 := e 3; have e4 := e 4; have e5 := e 5
  simp only [frS]
  omega
theorem frS_step (s : ByteArray) (a n : Nat) (k : Nat) (hk : k < 6) (h : Digs s a n) : 0 ≤ frS s a n (k + 1) ∧ frS s a n (k + 1) ≤ 999999 := by
  have e : ∀ k, 0 ≤ (if k < n then bt s (a + k) - 48 else 0) ∧ (if k < n then bt s (a + k) - 48 else 0) ≤ 9 := fun k => by
    by_cases hk : k < n
    · have := h k hk; rw [if_pos hk]; omega
    · rw [if_neg hk]; omega
  have e0 := e 0; have e1 := e 1; have e2 := e 2; have e3 := e 3; have e4 := e 4; have e5 := e 5
  have hc : k = 0 ∨ k = 1 ∨ k = 2 ∨ k = 3 ∨ k = 4 ∨ k = 5 := by omega
  rcases hc with rfl | rfl | rfl | rfl | rfl | rfl <;> simp only [frS] <;> omega
theorem sumS_bd (s : ByteArray) (a n : Nat) (h : Digs s a n) : 0 ≤ sumS s a n ∧ sumS s a n ≤ 999999 := by
  rw [sum_fr]; exact frS_bd s a n h
theorem unS_bd : ∀ k, 0 ≤ unS k ∧ unS k ≤ 100000
  | 0 => by simp [unS]
  | k + 1 => by have := unS_bd k; simp only [unS]; omega

/-- The model's whole part: one too many stands for all that is too great. -/
def satS (v : Int) : Int := if v ≤ 9000000 then v * 1000000 else 9000000000001
theorem satS_bd {v : Int} (h : 0 ≤ v) : 0 ≤ satS v ∧ satS v ≤ 9000000000001 := by unfold satS; split <;> omega
theorem satS_big {v d : Int} (h : 0 ≤ v) (hd : 0 ≤ d ∧ d ≤ 9) (hx : 9000000000000 < satS v * 10 + d * 1000000) : satS (v * 10 + d) = 9000000000001 := by
  unfold satS at *; split at hx <;> split <;> omega
theorem satS_small {v d : Int} (h : 0 ≤ v) (hd : 0 ≤ d ∧ d ≤ 9) (hx : ¬ 9000000000000 < satS v * 10 + d * 1000000) : satS (v * 10 + d) = satS v * 10 + d * 1000000 := by
  unfold satS at *; split at hx <;> split <;> omega
/-- What both come to: the whole part and the millionths, no more than the greatest decimal. -/
def capV (v f : Int) : Int := min (min v 9000000 * 1000000 + f) 9000000000000
theorem cap_big {v f : Int} (h : 0 ≤ v) (hf : 0 ≤ f ∧ f ≤ 999999) (hx : 9000000000000 < satS v + f) : capV v f = 9000000000000 := by
  unfold capV satS at *; split at hx <;> omega
theorem cap_small {v f : Int} (h : 0 ≤ v) (hf : 0 ≤ f ∧ f ≤ 999999) (hx : ¬ 9000000000000 < satS v + f) : capV v f = satS v + f := by
  unfold capV satS at *; split at hx <;> split <;> omega
theorem capV_bd {v f : Int} (h : 0 ≤ v) (hf : 0 ≤ f ∧ f ≤ 999999) : 0 ≤ capV v f ∧ capV v f ≤ 9000000000000 := by unfold capV; omega

/-! The parts of a text that is read as a number. -/
def rA0 (s : ByteArray) : Nat := endOf spB s 0
def rNeg (s : ByteArray) : Bool := decide (rA0 s < s.size) && (bt s (rA0 s) == 45)
def rSgn (s : ByteArray) : Bool := decide (rA0 s < s.size) && (bt s (rA0 s) == 45 || bt s (rA0 s) == 43)
def rA1 (s : ByteArray) : Nat := if rSgn s = true then rA0 s + 1 else rA0 s
def rB (s : ByteArray) : Nat := endOf dgB s (rA1 s)
def rPt (s : ByteArray) : Bool := decide (rB s < s.size) && (bt s (rB s) == 46)
def rC (s : ByteArray) : Nat := if rPt s = true then endOf dgB s (rB s + 1) else rB s
/-- How many digits stand behind the point. -/
def rF (s : ByteArray) : Nat := if rPt s = true then rC s - (rB s + 1) else 0
def rNo (s : ByteArray) : Bool := rB s == rA1 s && rF s == 0
def rV (s : ByteArray) : Int := capV (valF s (rA1 s) (rB s - rA1 s)) (frS s (rB s + 1) (rF s) 6)
def rdN (s : ByteArray) : Int := if rNo s = true then 0 else if rNeg s = true then -rV s else rV s
def rdK (s : ByteArray) : Int := if rNo s = true then 0 else (rC s : Int)
theorem rA0_le (s : ByteArray) : rA0 s ≤ s.size := endOf_le _ _ _ (Nat.zero_le _)
theorem rA1_le (s : ByteArray) : rA1 s ≤ s.size := by
  unfold rA1; split
  · rename_i h; simp [rSgn] at h; omega
  · exact rA0_le s
theorem rB_le (s : ByteArray) : rA1 s ≤ rB s ∧ rB s ≤ s.size := ⟨endOf_ge _ _ _, endOf_le _ _ _ (rA1_le s)⟩
theorem rPt_lt {s : ByteArray} (h : rPt s = true) : rB s < s.size := by simp [rPt] at h; exact h.1
theorem rC_le (s : ByteArray) : rB s ≤ rC s ∧ rC s ≤ s.size := by
  have h1 := rB_le s
  unfold rC; split
  · rename_i h
    have h2 := rPt_lt h
    have h3 := endOf_ge dgB s (rB s + 1)
    have h4 := endOf_le dgB s (rB s + 1) (by omega)
    omega
  · omega
theorem rC_ge {s : ByteArray} (h : rPt s = true) : rB s + 1 ≤ rC s := by
  rw [rC, if_pos h]; exact endOf_ge _ _ _
theorem rDigs (s : ByteArray) : Digs s (rA1 s) (rB s - rA1 s) := digs_end s _
theorem rFrac (s : ByteArray) : Digs s (rB s + 1) (rF s) := by
  unfold rF; split
  · rename_i h
    have e : rC s = endOf dgB s (rB s + 1) := by rw [rC, if_pos h]
    rw [e]; exact digs_end s _
  · exact fun k hk => absurd hk (by omega)
def wV (s : ByteArray) : Int := min (valF s (rA1 s) (rB s - rA1 s)) 9000000 * 1000000
def fV (s : ByteArray) : Int := frS s (rB s + 1) (rF s) 6
theorem wV_bd (s : ByteArray) : 0 ≤ wV s ∧ wV s ≤ 9000000000000 := by
  have := valF_nn (rDigs s); unfold wV; omega
theorem fV_bd (s : ByteArray) : 0 ≤ fV s ∧ fV s ≤ 999999 := frS_bd _ _ _ (rFrac s)
theorem rV_eq (s : ByteArray) : rV s = if 9000000000000 < wV s + fV s then 9000000000000 else wV s + fV s := by
  unfold rV capV wV fV; split <;> omega
theorem rV_bd (s : ByteArray) : 0 ≤ rV s ∧ rV s ≤ 9000000000000 := capV_bd (valF_nn (rDigs s)) (frS_bd _ _ _ (rFrac s))
theorem rd_no {s : ByteArray} (h : rNo s = true) : rdN s = 0 ∧ rdK s = 0 := by simp [rdN, rdK, h]
theorem rd_neg {s : ByteArray} (h : rNo s = false) (hn : rNeg s = true) : rdN s = -(if 9000000000000 < wV s + fV s then 9000000000000 else wV s + fV s) ∧ rdK s = rC s := by
  rw [← rV_eq]; simp [rdN, rdK, h, hn]
theorem rd_pos {s : ByteArray} (h : rNo s = false) (hn : rNeg s = false) : rdN s = (if 9000000000000 < wV s + fV s then 9000000000000 else wV s + fV s) ∧ rdK s = rC s := by
  rw [← rV_eq]; simp [rdN, rdK, h, hn]
theorem rdK_bd (s : ByteArray) : 0 ≤ rdK s ∧ rdK s ≤ s.size := by
  have := rC_le s
  unfold rdK; split <;> omega
def satV (s : ByteArray) : Int := satS (valF s (rA1 s) (rB s - rA1 s))
theorem satV_bd (s : ByteArray) : 0 ≤ satV s ∧ satV s ≤ 9000000000001 := satS_bd (valF_nn (rDigs s))
theorem rV_sat (s : ByteArray) : rV s = if 9000000000000 < satV s + fV s then 9000000000000 else satV s + fV s := by
  split
  · rename_i h; exact cap_big (valF_nn (rDigs s)) (fV_bd s) h
  · rename_i h; exact cap_small (valF_nn (rDigs s)) (fV_bd s) h
theorem rs_neg {s : ByteArray} (h : rNo s = false) (hn : rNeg s = true) : rdN s = -(if 9000000000000 < satV s + fV s then 9000000000000 else satV s + fV s) ∧ rdK s = rC s := by
  rw [← rV_sat]; simp [rdN, rdK, h, hn]
theorem rs_pos {s : ByteArray} (h : rNo s = false) (hn : rNeg s = false) : rdN s = (if 9000000000000 < satV s + fV s then 9000000000000 else satV s + fV s) ∧ rdK s = rC s := by
  rw [← rV_sat]; simp [rdN, rdK, h, hn]
theorem fV_none {s : ByteArray} (h : rF s = 0) : fV s = 0 := by simp [fV, h, frS]
theorem valF_next (s : ByteArray) (a j : Nat) (h : a ≤ j) : valF s a (j + 1 - a) = valF s a (j - a) * 10 + (bt s j - 48) := by
  rw [show j + 1 - a = (j - a) + 1 from by omega]
  simp only [valF]
  rw [show a + (j - a) = j from by omega]
theorem sumS_next (s : ByteArray) (a j : Nat) (h : a ≤ j) : sumS s a (j + 1 - a) = sumS s a (j - a) + (bt s j - 48) * unS (j - a) := by
  rw [show j + 1 - a = (j - a) + 1 from by omega]
  simp only [sumS]
  rw [show a + (j - a) = j from by omega]
theorem unS_next (a j : Nat) (h : a ≤ j) : unS (j + 1 - a) = unS (j - a) / 10 := by
  rw [show j + 1 - a = (j - a) + 1 from by omega]; rfl
theorem prod_bd {d u : Int} (h1 : 0 ≤ d ∧ d ≤ 9) (h2 : 0 ≤ u ∧ u ≤ 100000) : 0 ≤ d * u ∧ d * u ≤ 900000 := by
  refine ⟨Int.mul_nonneg h1.1 h2.1, ?_⟩
  have := Int.mul_le_mul h1.2 h2.2 h2.1 (by omega)
  omega
theorem rdig {s : ByteArray} {j : Nat} (h1 : rA1 s ≤ j) (h2 : j < rB s) : j < s.size ∧ dgB (bt s j) = true := endOf_at (p := dgB) (s := s) (a := rA1 s) h1 h2
theorem rdigC {s : ByteArray} {j : Nat} (hp : rPt s = true) (h1 : rB s + 1 ≤ j) (h2 : j < rC s) : j < s.size ∧ dgB (bt s j) = true := by
  rw [rC, if_pos hp] at h2
  exact endOf_at (p := dgB) (s := s) (a := rB s + 1) h1 h2
theorem rB_out {s : ByteArray} (h : rB s < s.size) : dgB (bt s (rB s)) = false := endOf_out (p := dgB) (s := s) (a := rA1 s) h
theorem rC_out {s : ByteArray} (hp : rPt s = true) (h : rC s < s.size) : dgB (bt s (rC s)) = false := by
  have e : rC s = endOf dgB s (rB s + 1) := by rw [rC, if_pos hp]
  rw [e] at h ⊢
  exact endOf_out h
/-- Does it look like a number, and is nothing else there? -/
def looksB (s : ByteArray) : Bool := decide (0 < rdK s) && (endOf spB s (rdK s).toNat == s.size)
theorem tupI {a b c d : Int} (h : a = b) (g : c = d) : Ending.returned (.tuple #[.int .i64 a, .int .i64 c]) = .returned (.tuple #[.int .i64 b, .int .i64 d]) := by rw [h, g]
theorem ext_empty (s : ByteArray) (a b : Nat) (h : b ≤ s.size) : (s.extract a b).toList.isEmpty = decide (b - a = 0) := by
  rw [ByteArray.toList_eq]
  have e := size_ext s a b h
  rw [Bool.eq_iff_iff, List.isEmpty_iff_length_eq_zero]
  simp only [decide_eq_true_eq]
  rw [← e]; rfl
end Go.Proofs.YtlfmiikpbdhemaaGreatDoor.ReadPure

namespace Go.Proofs.YtlfmiikpbdhemaaGreatDoor.DecPure
open Go Go.RowKit
set_option linter.unusedVariables false

def absV (n : Int) : Int := if n < 0 then -n else n
theorem absV_neg {n : Int} (h : n < 0) : absV n = -n := by simp [absV, h]
theorem absV_pos {n : Int} (h : 0 ≤ n) : absV n = n := by unfold absV; rw [if_neg (by omega)]
theorem absV_bd {n : Int} (h : dOk n = true) : 0 ≤ absV n ∧ absV n ≤ 9000000000000 := by
  have := dOk_yes h
  unfold absV; split <;> omega
def sizQ (a b : Int) : Int := absV a * absV b / 1000000
theorem sizQ_nn (a b : Int) : 0 ≤ sizQ a b := by
  unfold sizQ
  have h : ∀ n : Int, 0 ≤ absV n := fun n => by unfold absV; split <;> omega
  have := Int.mul_nonneg (h a) (h b)
  omega
def mulQ (a b : Int) : Int := (a * b).tdiv 1000000
theorem mulQ_same {a b : Int} (h : (a < 0 ∧ b < 0) ∨ (0 ≤ a ∧ 0 ≤ b)) : mulQ a b = sizQ a b := by
  unfold mulQ sizQ
  rcases h with ⟨ha, hb⟩ | ⟨ha, hb⟩
  · rw [absV_neg ha, absV_neg hb, Int.neg_mul_neg]
    exact Int.tdiv_eq_ediv_of_nonneg (Int.mul_nonneg_of_nonpos_of_nonpos (by omega) (by omega))
  · rw [absV_pos ha, absV_pos hb]
    exact Int.tdiv_eq_ediv_of_nonneg (Int.mul_nonneg ha hb)
theorem mulQ_diff {a b : Int} (h : (a < 0 ∧ 0 ≤ b) ∨ (0 ≤ a ∧ b < 0)) : mulQ a b = -sizQ a b := by
  unfold mulQ sizQ
  rcases h with ⟨ha, hb⟩ | ⟨ha, hb⟩
  · rw [absV_neg ha, absV_pos hb]
    have e : a * b = -(-a * b) := by rw [Int.neg_mul, Int.neg_neg]
    rw [e, Int.neg_tdiv, Int.tdiv_eq_ediv_of_nonneg (Int.mul_nonneg (by omega) hb)]
  · rw [absV_pos ha, absV_neg hb]
    have e : a * b = -(a * -b) := by rw [Int.mul_neg, Int.neg_neg]
    rw [e, Int.neg_tdiv, Int.tdiv_eq_ediv_of_nonneg (Int.mul_nonneg ha (by omega))]
def mulV (a b : Int) : Int := if (dOk a && dOk b) = true then mkV (mulQ a b) else 0
def mulB (a b : Int) : Bool := dOk a && dOk b && dOk (mulQ a b)

/-- The model's way: whole units first, then the rest. -/
theorem parts_eq (x y : Int) (hx : 0 ≤ x) (hy : 0 ≤ y) : x * y / 1000000 = x / 1000000 * y + x % 1000000 * y / 1000000 := by
  have e : x * y = (x / 1000000 * y) * 1000000 + x % 1000000 * y := by
    rw [show (x / 1000000 * y) * 1000000 = (1000000 * (x / 1000000)) * y from by rw [Int.mul_comm 1000000, Int.mul_assoc, Int.mul_assoc, Int.mul_comm y], ← Int.add_mul, Int.mul_ediv_add_emod]
  rw [e]
  omega
theorem rest_bd (x y : Int) (hx : 0 ≤ x) (hy : 0 ≤ y) (h : y ≤ 9000000000000) : 0 ≤ x % 1000000 * y ∧ x % 1000000 * y ≤ 8999991000000000000 := by
  have h0 : 0 ≤ x % 1000000 := by omega
  have h1 : x % 1000000 ≤ 999999 := by omega
  refine ⟨Int.mul_nonneg h0 hy, ?_⟩
  have a := Int.mul_le_mul h1 h (by omega) (by omega)
  omega
theorem whole_big (x y : Int) (hx : 0 ≤ x) (hy : 0 ≤ y) (h1 : 0 < x / 1000000) (h2 : 9000000000000 / (x / 1000000) < y) : 9000000000000 < x * y / 1000000 := by
  rw [parts_eq x y hx hy]
  have h3 := (Int.ediv_lt_iff_lt_mul h1).1 h2
  have h4 : 0 ≤ x % 1000000 * y := Int.mul_nonneg (by omega) hy
  rw [Int.mul_comm y] at h3
  generalize x / 1000000 * y = p at *
  generalize x % 1000000 * y = q at *
  omega
theorem whole_small (x y : Int) (hx : 0 ≤ x) (hy : 0 ≤ y) (h1 : 0 < x / 1000000) (h2 : y ≤ 9000000000000 / (x / 1000000)) : 0 ≤ x / 1000000 * y ∧ x / 1000000 * y ≤ 9000000000000 := by
  refine ⟨Int.mul_nonneg (by omega) hy, ?_⟩
  have := (Int.le_ediv_iff_mul_le h1).1 h2
  rw [Int.mul_comm]; exact this

/-- The halves of a product, as 64-bit numbers. -/
def hiV (x y : Int) : Int := x * y / 18446744073709551616
def loV (x y : Int) : Int := x * y % 18446744073709551616
/-- The quotient of a number of 128 bits by a million. -/
def dQ (h l : Int) : Int := (h * 18446744073709551616 + l) / 1000000
def dR (h l : Int) : Int := (h * 18446744073709551616 + l) % 1000000
theorem dQ_hilo (x y : Int) : dQ (hiV x y) (loV x y) = x * y / 1000000 := by
  unfold dQ hiV loV
  generalize x * y = p
  omega
theorem loV_bd (x y : Int) : 0 ≤ loV x y ∧ loV x y ≤ 18446744073709551615 := by
  unfold loV; generalize x * y = p; omega
theorem hiV_nn (x y : Int) (hx : 0 ≤ x) (hy : 0 ≤ y) : 0 ≤ hiV x y := by
  have := Int.mul_nonneg hx hy
  unfold hiV; generalize x * y = p at *; omega
theorem hi_big (x y : Int) (h : 1000000 ≤ hiV x y) : 9000000000000 < x * y / 1000000 := by
  unfold hiV at h; generalize x * y = p at *; omega
theorem hi_bd (x y : Int) (hx : 0 ≤ x) (hy : 0 ≤ y) (h1 : x ≤ 9000000000000) (h2 : y ≤ 9000000000000) : hiV x y ≤ 18446744073709551615 := by
  have := Int.mul_le_mul h1 h2 hy (by omega)
  unfold hiV; generalize x * y = p at *; omega

theorem tupU {a b c d : Int} (h : a = b) (g : c = d) : Ending.returned (.tuple #[.int .u64 a, .int .u64 c]) = .returned (.tuple #[.int .u64 b, .int .u64 d]) := by rw [h, g]
theorem castHi (x y : Nat) : ((x * y / 18446744073709551616 : Nat) : Int) = hiV (x : Int) (y : Int) := by
  unfold hiV; rw [Mul64.mulN]; omega
theorem castLo (x y : Nat) : ((x * y % 18446744073709551616 : Nat) : Int) = loV (x : Int) (y : Int) := by
  unfold loV; rw [Mul64.mulN]; omega

/-! The division of a number of 128 bits by a million: its steps. -/
theorem or_eq (h l : Int) (h0 : 0 ≤ h) (h1 : h < 1000000) (h2 : 0 ≤ l) (h3 : l ≤ 18446744073709551615) :
    bits .or .u64 (h * 17592186044416) (l / 1048576) = h * 17592186044416 + l / 1048576 := by
  obtain ⟨a, rfl⟩ := Int.eq_ofNat_of_zero_le h0
  obtain ⟨b, rfl⟩ := Int.eq_ofNat_of_zero_le h2
  have e1 : (a : Int) * 17592186044416 = ((a * 17592186044416 : Nat) : Int) := by omega
  have e2 : (b : Int) / 1048576 = ((b / 1048576 : Nat) : Int) := by omega
  rw [e1, e2, bits_or_u64_nat _ _ (by omega) (by omega)]
  have e3 := Nat.two_pow_add_eq_or_of_lt (i := 44) (b := b / 1048576) (by omega) a
  rw [Nat.mul_comm (2 ^ 44) a] at e3
  have e4 : (2 : Nat) ^ 44 = 17592186044416 := by decide
  rw [e4] at e3
  rw [← e3]
  omega
theorem shl_eq (l : Int) (h2 : 0 ≤ l) (h3 : l ≤ 18446744073709551615) : IntKind.u64.wrap (l * 17592186044416) = (l % 1048576) * 17592186044416 := by
  rw [IntKind.wrap_u64]; omega
theorem and_zero (v : Int) (k : Int) (hk : 0 ≤ k) (hk2 : k ≤ 1048575) (hv : v = k * 17592186044416) : bits .and .u64 v 4294967295 = 0 := by
  obtain ⟨a, rfl⟩ := Int.eq_ofNat_of_zero_le hk
  have e : (a : Int) * 17592186044416 = ((a * 17592186044416 : Nat) : Int) := by omega
  rw [hv, e, Mul64.maskN _ (by omega)]
  omega
theorem and_y : bits .and .u64 17592186044416000000 4294967295 = 0 := by
  have h := Mul64.maskN 17592186044416000000 (by omega)
  have e : ((17592186044416000000 % 4294967296 : Nat) : Int) = 0 := by decide
  rw [e] at h
  exact h
theorem step2 (u v : Int) (h0 : 0 ≤ u) (h1 : u ≤ 17592186044415999999) (h2 : 0 ≤ v) (h3 : v ≤ 18446744073709551615) :
    IntKind.u64.wrap (IntKind.u64.wrap (IntKind.u64.wrap (u * 4294967296) + v / 4294967296) - IntKind.u64.wrap (u / 4096000000 * 17592186044416000000)) = u % 4096000000 * 4294967296 + v / 4294967296 := by
  simp only [IntKind.wrap_u64]; omega
theorem quo_eq (h l : Int) (h0 : 0 ≤ h) (h1 : h < 1000000) (h2 : 0 ≤ l) (h3 : l ≤ 18446744073709551615) (u v x : Int) (hu : u = h * 17592186044416 + l / 1048576) (hv : v = (l % 1048576) * 17592186044416)
    (hx : x = u % 4096000000 * 4294967296 + v / 4294967296) : u / 4096000000 * 4294967296 + x / 4096000000 = dQ h l := by
  unfold dQ; omega
/-- The quotient, whatever the rest. -/
def Quo (q : Int) (e : Ending) : Prop := ∃ r : Int, e = .returned (.tuple #[.int .u64 q, .int .u64 r])
end Go.Proofs.YtlfmiikpbdhemaaGreatDoor.DecPure

namespace Go.Proofs.YtlfmiikpbdhemaaGreatDoor.TextPure
open Go Go.RowKit
open Go.Proofs.YtlfmiikpbdhemaaGreatDoor.DecPure
set_option linter.unusedVariables false

/-- The digits behind the point, from a rest of less than a million on: none where nothing is left. -/
def fracD : Nat → Int → List Int
  | 0, _ => []
  | k + 1, r => if r = 0 then [] else (48 + r * 10 / 1000000) :: fracD k (r * 10 % 1000000)
theorem fracD_zero (k : Nat) : fracD k 0 = [] := by cases k <;> simp [fracD]
theorem fracD_step (k : Nat) {r : Int} (h : r ≠ 0) : fracD (k + 1) r = (48 + r * 10 / 1000000) :: fracD k (r * 10 % 1000000) := by rw [fracD, if_neg h]
/-- The rest after k digits. -/
def fracR (r : Int) : Nat → Int
  | 0 => r
  | k + 1 => fracR r k * 10 % 1000000
theorem fracR_six (r : Int) : fracR r 6 = 0 := by simp only [fracR]; omega
theorem fracR_bd (r : Int) (h : 0 ≤ r ∧ r < 1000000) : ∀ k, 0 ≤ fracR r k ∧ fracR r k < 1000000
  | 0 => h
  | k + 1 => by have := fracR_bd r h k; simp only [fracR]; omega
/-- The text behind the point, with it. -/
def fracL (n : Int) : List Int := if absV n % 1000000 = 0 then [] else 46 :: fracD 6 (absV n % 1000000)
theorem strs {a b : ByteArray} (h : a = b) : Ending.returned (.string a) = .returned (.string b) := by rw [h]
end Go.Proofs.YtlfmiikpbdhemaaGreatDoor.TextPure

namespace Go.Proofs.YtlfmiikpbdhemaaGreatDoor.TextPure
open Go Go.RowKit
open Go.Proofs.YtlfmiikpbdhemaaGreatDoor.DecPure
set_option linter.unusedVariables false

def digB (u : Nat) : ByteArray := ⟨(Lib.decDigits u).toArray⟩
theorem join (a b : List UInt8) : (⟨a.toArray⟩ : ByteArray) ++ ⟨b.toArray⟩ = ⟨(a ++ b).toArray⟩ := by
  apply ByteArray.ext
  simp
theorem join_nil (s : ByteArray) : (⟨#[]⟩ : ByteArray) ++ s = s := by
  apply ByteArray.ext
  simp
theorem join_end (s : ByteArray) : s ++ strOfNums [] = s := by
  apply ByteArray.ext
  simp [strOfNums]
theorem join_nums (a b : List Int) : strOfNums a ++ strOfNums b = strOfNums (a ++ b) := by
  unfold strOfNums; rw [join, List.map_append]
theorem join_assoc (a b c : ByteArray) : a ++ b ++ c = a ++ (b ++ c) := ByteArray.append_assoc
theorem digB_one {i : Nat} (h : i < 10) : digB i = strOfNums [48 + (i : Int)] := by
  unfold digB strOfNums
  rw [Lib.decDigits_one h]
  have e : (48 + (i : Int)).toNat = 48 + i := by omega
  simp [e]
theorem digB_more {n : Nat} (h : 10 ≤ n) : digB (n / 10) ++ strOfNums [48 + (n : Int) % 10] = digB n := by
  unfold digB strOfNums
  rw [join, Lib.decDigits.eq_def n, dif_neg (by omega)]
  have e : (48 + (n : Int) % 10).toNat = 48 + n % 10 := by omega
  simp [e]
theorem digB_size {u : Nat} (h : u < 18446744073709551616) : (digB u).size ≤ 20 := by
  have e : (digB u).size = Lib.nDigits u := by unfold digB; rw [← Lib.decDigits_length]; simp [ByteArray.size]
  rw [e]
  by_cases h0 : u = 0
  · subst h0; rw [Lib.nDigits_small (by omega)]; omega
  · have := Lib.numDigits_eq u (by omega) h
    split at this <;> omega
theorem fracD_len : ∀ (k : Nat) (r : Int), (fracD k r).length ≤ k
  | 0, r => by simp [fracD]
  | k + 1, r => by
    rw [fracD]; split
    · simp
    · have := fracD_len k (r * 10 % 1000000); simp; omega
theorem fracL_size (n : Int) : (strOfNums (fracL n)).size ≤ 7 := by
  rw [strOfNums_size]; unfold fracL; split
  · simp
  · have := fracD_len 6 (absV n % 1000000); simp; omega
/-- The text of a decimal. -/
def textB (n : Int) : ByteArray := if n < 0 then ⟨#[45]⟩ ++ digB (absV n / 1000000).toNat ++ strOfNums (fracL n) else digB (absV n / 1000000).toNat ++ strOfNums (fracL n)
def headB (n : Int) : ByteArray := if n < 0 then ⟨#[45]⟩ ++ digB (absV n / 1000000).toNat else digB (absV n / 1000000).toNat
theorem textB_head (n : Int) : textB n = headB n ++ strOfNums (fracL n) := by unfold textB headB; split <;> rfl
/-- What DecText gives. -/
def dtB (n : Int) : ByteArray := if dOk n = true then textB n else ⟨#[]⟩

/-- The model's units: 100000, 10000 and so on; and what its rest is multiplied by. -/
def unT : Nat → Int
  | 0 => 100000
  | k + 1 => unT k / 10
def upT : Nat → Int
  | 0 => 1
  | k + 1 => upT k * 10
theorem unT_bd {k : Nat} (h : k < 6) : 1 ≤ unT k ∧ unT k ≤ 100000 := by
  have hc : k = 0 ∨ k = 1 ∨ k = 2 ∨ k = 3 ∨ k = 4 ∨ k = 5 := by omega
  rcases hc with rfl | rfl | rfl | rfl | rfl | rfl <;> simp [unT]
/-- A step of the model's printing, in the program's measure. -/
theorem step_unit {k : Nat} (h : k < 6) {q : Int} (h0 : 0 ≤ q) (h1 : q * upT k < 1000000) :
    q * upT k * 10 / 1000000 = q / unT k ∧ q * upT k * 10 % 1000000 = q % unT k * upT (k + 1) ∧ q % unT k * upT (k + 1) < 1000000 ∧ 0 ≤ q / unT k ∧ q / unT k ≤ 9 ∧ 0 ≤ q % unT k := by
  have hc : k = 0 ∨ k = 1 ∨ k = 2 ∨ k = 3 ∨ k = 4 ∨ k = 5 := by omega
  rcases hc with rfl | rfl | rfl | rfl | rfl | rfl <;> simp [unT, upT] at * <;> omega
theorem up_pos {k : Nat} : 1 ≤ upT k := by
  induction k with
  | zero => simp [upT]
  | succ k ih => simp only [upT]; omega
theorem up_zero {k : Nat} {q : Int} (h : 0 < q) : q * upT k ≠ 0 := by
  have := Int.mul_pos h (show 0 < upT k by have := up_pos (k := k); omega)
  omega
theorem head_size (n : Int) (h : dOk n = true) : (headB n).size ≤ 21 := by
  have ha := absV_bd h
  have hb := digB_size (u := (absV n / 1000000).toNat) (by omega)
  unfold headB; split
  · rw [ByteArray.size_append]
    have h1 : (⟨#[45]⟩ : ByteArray).size = 1 := rfl
    omega
  · omega
theorem up_six {q : Int} (h0 : 0 ≤ q) (h1 : q * upT 6 < 1000000) : q = 0 := by simp [upT] at h1; omega
end Go.Proofs.YtlfmiikpbdhemaaGreatDoor.TextPure

namespace Go.Proofs.YtlfmiikpbdhemaaGreatDoor.RoundPure
open Go Go.RowKit Go.PlainAid
open Go.Proofs.YtlfmiikpbdhemaaGreatDoor.DecPure Go.Proofs.YtlfmiikpbdhemaaGreatDoor.TextPure Go.Proofs.YtlfmiikpbdhemaaGreatDoor.ReadPure
set_option linter.unusedVariables false

theorem endOf_eq {p : Int → Bool} {s : ByteArray} : ∀ (m a : Nat), (∀ k, a ≤ k → k < a + m → k < s.size ∧ p (bt s k) = true) → ¬ (a + m < s.size ∧ p (bt s (a + m)) = true) → endOf p s a = a + m
  | 0, a, _, h2 => endOf_stop h2
  | m + 1, a, h1, h2 => by
    have h := h1 a (Nat.le_refl _) (by omega)
    rw [endOf_step h.1 h.2, endOf_eq m (a + 1) (fun k hk1 hk2 => h1 k (by omega) (by omega)) (by rw [show a + 1 + m = a + (m + 1) from by omega]; exact h2)]
    omega

/-! Texts as lists of numbers. -/
def Byt (xs : List Int) : Prop := ∀ x ∈ xs, 0 ≤ x ∧ x ≤ 255
theorem bt_nums {xs : List Int} (h : Byt xs) {k : Nat} (hk : k < xs.length) : bt (strOfNums xs) k = xs[k] := by
  have hs : k < (strOfNums xs).size := by rw [strOfNums_size]; exact hk
  unfold bt
  rw [dif_pos hs]
  have hb := h xs[k] (List.getElem_mem _)
  have e : (strOfNums xs)[k]'hs = UInt8.ofNat (xs[k]).toNat := by
    show (strOfNums xs).data[k]'hs = _
    simp [strOfNums]
  rw [e]
  simp
  omega
/-- The numeral as numbers. -/
def decI (m : Nat) : List Int := (Lib.decDigits m).map fun b => (b.toNat : Int)
theorem digB_nums (m : Nat) : digB m = strOfNums (decI m) := by
  unfold digB strOfNums decI
  rw [List.map_map]
  have e : ((fun n : Int => UInt8.ofNat n.toNat) ∘ fun b : UInt8 => (b.toNat : Int)) = id := by
    funext b; simp
  rw [e, List.map_id]
theorem decI_one {i : Nat} (h : i < 10) : decI i = [48 + (i : Int)] := by
  unfold decI; rw [Lib.decDigits_one h]; simp; omega
theorem decI_more {m : Nat} (h : 10 ≤ m) : decI m = decI (m / 10) ++ [48 + (m : Int) % 10] := by
  unfold decI; rw [Lib.decDigits.eq_def m, dif_neg (by omega)]; simp; omega
theorem decI_dig (m : Nat) : ∀ x ∈ decI m, 48 ≤ x ∧ x ≤ 57 := by
  induction m using Nat.strongRecOn with
  | _ m ih =>
    by_cases h : m < 10
    · rw [decI_one h]; intro x hx; simp at hx; omega
    · rw [decI_more (by omega)]
      intro x hx
      rcases List.mem_append.1 hx with hx | hx
      · exact ih (m / 10) (by omega) x hx
      · simp at hx; omega
theorem decI_len (m : Nat) : 1 ≤ (decI m).length := by
  by_cases h : m < 10
  · rw [decI_one h]; simp
  · rw [decI_more (by omega)]; simp
theorem decI_val (s : ByteArray) (a : Nat) (m : Nat) : (∀ k, (hk : k < (decI m).length) → bt s (a + k) = (decI m)[k]) → valF s a (decI m).length = m := by
  induction m using Nat.strongRecOn with
  | _ m ih =>
    intro h
    by_cases h10 : m < 10
    · have h0 := h 0 (by have := decI_len m; omega)
      simp only [decI_one h10] at h0 ⊢
      simp only [List.length_cons, List.length_nil, valF]
      simp at h0 ⊢
      omega
    · have e := decI_more (show 10 ≤ m by omega)
      have hl : (decI m).length = (decI (m / 10)).length + 1 := by rw [e]; simp
      have h1 := ih (m / 10) (by omega) (fun k hk => by
        rw [h k (by omega)]
        simp only [e]
        rw [List.getElem_append_left hk])
      have h2 := h (decI (m / 10)).length (by omega)
      simp only [e] at h2
      rw [List.getElem_append_right (Nat.le_refl _)] at h2
      simp at h2
      rw [hl]
      simp only [valF]
      rw [h1, h2]
      omega
theorem fracD_dig : ∀ (k : Nat) (r : Int), 0 ≤ r → r < 1000000 → ∀ x ∈ fracD k r, 48 ≤ x ∧ x ≤ 57
  | 0, r, _, _, x, hx => by simp [fracD] at hx
  | k + 1, r, h0, h1, x, hx => by
    rw [fracD] at hx
    split at hx
    · cases hx
    · rcases List.mem_cons.1 hx with hx | hx
      · omega
      · exact fracD_dig k _ (by omega) (by omega) x hx
theorem fracD_val (s : ByteArray) (c : Nat) (r : Int) (h0 : 0 < r) (h1 : r < 1000000) (h : ∀ k, (hk : k < (fracD 6 r).length) → bt s (c + k) = (fracD 6 r)[k]) : 1 ≤ (fracD 6 r).length ∧ frS s c (fracD 6 r).length 6 = r := by
  have e0 : r ≠ 0 := by omega
  by_cases e1 : r * 10 % 1000000 = 0
  · have hl : fracD 6 r = [48 + r * 10 / 1000000] := by rw [fracD_step _ e0, e1, fracD_zero]
    simp only [hl] at h ⊢
    have g0 := h 0 (by simp)
    simp at g0
    simp [frS, g0]; omega
  · by_cases e2 : r * 10 % 1000000 * 10 % 1000000 = 0
    · have hl : fracD 6 r = [48 + r * 10 / 1000000, 48 + r * 10 % 1000000 * 10 / 1000000] := by rw [fracD_step _ e0, fracD_step _ e1, e2, fracD_zero]
      simp only [hl] at h ⊢
      have g0 := h 0 (by simp); have g1 := h 1 (by simp)
      simp at g0 g1
      simp [frS, g0, g1]; omega
    · by_cases e3 : r * 10 % 1000000 * 10 % 1000000 * 10 % 1000000 = 0
      · have hl : fracD 6 r = [48 + r * 10 / 1000000, 48 + r * 10 % 1000000 * 10 / 1000000, 48 + r * 10 % 1000000 * 10 % 1000000 * 10 / 1000000] := by rw [fracD_step _ e0, fracD_step _ e1, fracD_step _ e2, e3, fracD_zero]
        simp only [hl] at h ⊢
        have g0 := h 0 (by simp); have g1 := h 1 (by simp); have g2 := h 2 (by simp)
        simp at g0 g1 g2
        simp [frS, g0, g1, g2]; omega
      · by_cases e4 : r * 10 % 1000000 * 10 % 1000000 * 10 % 1000000 * 10 % 1000000 = 0
        · have hl : fracD 6 r = [48 + r * 10 / 1000000, 48 + r * 10 % 1000000 * 10 / 1000000, 48 + r * 10 % 1000000 * 10 % 1000000 * 10 / 1000000, 48 + r * 10 % 1000000 * 10 % 1000000 * 10 % 1000000 * 10 / 1000000] := by rw [fracD_step _ e0, fracD_step _ e1, fracD_step _ e2, fracD_step _ e3, e4, fracD_zero]
          simp only [hl] at h ⊢
          have g0 := h 0 (by simp); have g1 := h 1 (by simp); have g2 := h 2 (by simp); have g3 := h 3 (by simp)
          simp at g0 g1 g2 g3
          simp [frS, g0, g1, g2, g3]; omega
        · by_cases e5 : r * 10 % 1000000 * 10 % 1000000 * 10 % 1000000 * 10 % 1000000 * 10 % 1000000 = 0
          · have hl : fracD 6 r = [48 + r * 10 / 1000000, 48 + r * 10 % 1000000 * 10 / 1000000, 48 + r * 10 % 1000000 * 10 % 1000000 * 10 / 1000000, 48 + r * 10 % 1000000 * 10 % 1000000 * 10 % 1000000 * 10 / 1000000, 48 + r * 10 % 1000000 * 10 % 1000000 * 10 % 1000000 * 10 % 1000000 * 10 / 1000000] := by rw [fracD_step _ e0, fracD_step _ e1, fracD_step _ e2, fracD_step _ e3, fracD_step _ e4, e5, fracD_zero]
            simp only [hl] at h ⊢
            have g0 := h 0 (by simp); have g1 := h 1 (by simp); have g2 := h 2 (by simp); have g3 := h 3 (by simp); have g4 := h 4 (by simp)
            simp at g0 g1 g2 g3 g4
            simp [frS, g0, g1, g2, g3, g4]; omega
          · have hl : fracD 6 r = [48 + r * 10 / 1000000, 48 + r * 10 % 1000000 * 10 / 1000000, 48 + r * 10 % 1000000 * 10 % 1000000 * 10 / 1000000, 48 + r * 10 % 1000000 * 10 % 1000000 * 10 % 1000000 * 10 / 1000000, 48 + r * 10 % 1000000 * 10 % 1000000 * 10 % 1000000 * 10 % 1000000 * 10 / 1000000, 48 + r * 10 % 1000000 * 10 % 1000000 * 10 % 1000000 * 10 % 1000000 * 10 % 1000000 * 10 / 1000000] := by rw [fracD_step _ e0, fracD_step _ e1, fracD_step _ e2, fracD_step _ e3, fracD_step _ e4, fracD_step _ e5, fracD]
            simp only [hl] at h ⊢
            have g0 := h 0 (by simp); have g1 := h 1 (by simp); have g2 := h 2 (by simp); have g3 := h 3 (by simp); have g4 := h 4 (by simp); have g5 := h 5 (by simp)
            simp at g0 g1 g2 g3 g4 g5
            simp [frS, g0, g1, g2, g3, g4, g5]; omega

/-- The text of a decimal as numbers. -/
def sgL (n : Int) : List Int := if n < 0 then [45] else []
def tL (n : Int) : List Int := sgL n ++ decI (absV n / 1000000).toNat ++ fracL n
theorem textB_nums (n : Int) : textB n = strOfNums (tL n) := by
  unfold textB tL sgL
  rw [digB_nums]
  split
  · have e : (⟨#[45]⟩ : ByteArray) = strOfNums [45] := rfl
    rw [e, join_nums, join_nums]
  · rw [join_nums]; rfl
theorem fracL_dig (n : Int) (h : dOk n = true) : ∀ x ∈ fracL n, 46 ≤ x ∧ x ≤ 57 := by
  have ha := absV_bd h
  unfold fracL; split
  · intro x hx; cases hx
  · intro x hx
    rcases List.mem_cons.1 hx with hx | hx
    · omega
    · have := fracD_dig 6 _ (by omega) (by omega) x hx; omega
theorem tL_byt (n : Int) (h : dOk n = true) : Byt (tL n) := by
  intro x hx
  unfold tL at hx
  rcases List.mem_append.1 hx with hx | hx
  · rcases List.mem_append.1 hx with hx | hx
    · unfold sgL at hx; split at hx <;> simp at hx; omega
    · have := decI_dig _ x hx; omega
  · have := fracL_dig n h x hx; omega
/-- Where a part of a list stands. -/
theorem seg (A B C : List Int) (k : Nat) (h : k < B.length) : (A ++ B ++ C)[A.length + k]? = some B[k] := by
  rw [List.append_assoc, List.getElem?_append_right (by omega), Nat.add_sub_cancel_left, List.getElem?_append_left h, List.getElem?_eq_getElem h]
theorem bt_get {xs : List Int} (h : Byt xs) {k : Nat} {v : Int} (hk : xs[k]? = some v) : k < (strOfNums xs).size ∧ bt (strOfNums xs) k = v := by
  obtain ⟨hl, hv⟩ := List.getElem?_eq_some_iff.1 hk
  exact ⟨by rw [strOfNums_size]; exact hl, by rw [bt_nums h hl]; exact hv⟩
theorem sp_not {b : Int} (h : spB b = true) : dgB b = false ∧ b ≠ 46 ∧ b ≠ 45 ∧ b ≠ 43 := by
  simp [spB] at h; simp [dgB]; omega
theorem dg_not {b : Int} (h : 48 ≤ b ∧ b ≤ 57) : spB b = false ∧ b ≠ 46 ∧ b ≠ 45 ∧ b ≠ 43 ∧ dgB b = true := by
  simp [spB, dgB]; omega

/-- READ BACK: whitespace, the text of a decimal, whitespace. -/
theorem read_back (pre post : List Int) (hpre : ∀ x ∈ pre, spB x = true) (hpost : ∀ x ∈ post, spB x = true) (n : Int) (hn : dOk n = true) (s : ByteArray) (hs : s = strOfNums (pre ++ tL n ++ post)) :
    rdN s = n ∧ rdK s = (pre.length + (tL n).length : Nat) ∧ endOf spB s (pre.length + (tL n).length) = s.size ∧ 0 < (tL n).length := by
  have spb : ∀ x : Int, spB x = true → 0 ≤ x ∧ x ≤ 255 := fun x h => by simp [spB] at h; omega
  have hb : Byt (pre ++ tL n ++ post) := by
    intro x hx
    rcases List.mem_append.1 hx with hx | hx
    · rcases List.mem_append.1 hx with hx | hx
      · exact spb x (hpre x hx)
      · exact tL_byt n hn x hx
    · exact spb x (hpost x hx)
  have ha := absV_bd hn
  have hno := dOk_yes hn
  obtain ⟨m, hm⟩ : ∃ m : Nat, m = (absV n / 1000000).toNat := ⟨_, rfl⟩
  have hL := decI_len m
  have hlen : (tL n).length = (sgL n).length + (decI m).length + (fracL n).length := by unfold tL; rw [← hm]; simp; omega
  have hsz : s.size = pre.length + ((sgL n).length + (decI m).length + (fracL n).length) + post.length := by rw [hs, strOfNums_size, ← hlen]; simp; omega
  have hx : pre ++ tL n ++ post = pre ++ sgL n ++ (decI m) ++ (fracL n ++ post) := by unfold tL; rw [← hm]; simp
  have at0 : ∀ k, (hk : k < pre.length) → k < s.size ∧ bt s k = pre[k] := fun k hk => by
    rw [hs]; apply bt_get hb
    have := seg [] pre (tL n ++ post) k hk
    simpa using this
  have atD : ∀ k, (hk : k < (decI m).length) → pre.length + (sgL n).length + k < s.size ∧ bt s (pre.length + (sgL n).length + k) = (decI m)[k] := fun k hk => by
    rw [hs]; apply bt_get hb
    rw [hx]
    have := seg (pre ++ sgL n) (decI m) (fracL n ++ post) k hk
    rw [List.length_append] at this
    exact this
  have atF : ∀ k, (hk : k < (fracL n).length) → pre.length + (sgL n).length + (decI m).length + k < s.size ∧ bt s (pre.length + (sgL n).length + (decI m).length + k) = (fracL n)[k] := fun k hk => by
    rw [hs]; apply bt_get hb
    rw [hx]
    have := seg (pre ++ sgL n ++ decI m) (fracL n) post k hk
    rw [List.length_append, List.length_append] at this
    simpa using this
  have atP : ∀ k, (hk : k < post.length) → bt s (pre.length + (tL n).length + k) = post[k] := fun k hk => by
    rw [hs]; refine (bt_get hb ?_).2
    have := seg (pre ++ tL n) post [] k hk
    rw [List.length_append] at this
    simpa using this
  have dD : ∀ k, (hk : k < (decI m).length) → 48 ≤ (decI m)[k] ∧ (decI m)[k] ≤ 57 := fun k hk => decI_dig m _ (List.getElem_mem hk)
  have d0 := atD 0 (by omega)
  have e0 := dD 0 (by omega)
  rw [← d0.2, Nat.add_zero] at e0
  rw [Nat.add_zero] at d0
  -- where the whitespace ends
  have hA0 : rA0 s = pre.length := by
    unfold rA0
    have h := endOf_eq (p := spB) (s := s) pre.length 0 (fun k _ hk => ⟨(at0 k (by omega)).1, by rw [(at0 k (by omega)).2]; exact hpre _ (List.getElem_mem _)⟩) (by
      rw [Nat.zero_add]
      intro hc
      by_cases hneg : n < 0
      · have h1 : bt s pre.length = 45 := by
          rw [hs]; refine (bt_get hb ?_).2
          have := seg pre (tL n) post 0 (by omega)
          rw [Nat.add_zero] at this
          rw [this]; simp [tL, sgL, hneg]
        rw [h1] at hc; simp [spB] at hc
      · have hs0 : (sgL n).length = 0 := by simp [sgL, hneg]
        rw [hs0, Nat.add_zero] at e0
        rw [(dg_not e0).1] at hc; cases hc.2)
    rw [h, Nat.zero_add]
  -- the sign
  have hsign : rNeg s = decide (n < 0) ∧ rA1 s = pre.length + (sgL n).length := by
    by_cases hneg : n < 0
    · have h1 : pre.length < s.size ∧ bt s pre.length = 45 := by
        rw [hs]; apply bt_get hb
        have := seg pre (tL n) post 0 (by omega)
        rw [Nat.add_zero] at this
        rw [this]; simp [tL, sgL, hneg]
      have hs1 : (sgL n).length = 1 := by simp [sgL, hneg]
      refine ⟨by simp [rNeg, hA0, h1, hneg], ?_⟩
      rw [hs1]; simp [rA1, rSgn, hA0, h1]
    · have hs0 : (sgL n).length = 0 := by simp [sgL, hneg]
      rw [hs0, Nat.add_zero] at e0 d0
      have hd := dg_not e0
      refine ⟨by simp [rNeg, hA0, hd.2.2.1, hneg], ?_⟩
      rw [hs0]; simp [rA1, rSgn, hA0, hd.2.2.1, hd.2.2.2.1]
  obtain ⟨hNeg, hA1⟩ := hsign
  have hB : rB s = pre.length + (sgL n).length + (decI m).length := by
    unfold rB
    rw [hA1]
    refine endOf_eq _ _ (fun k hk1 hk2 => ?_) (fun hc => ?_)
    · have h := atD (k - (pre.length + (sgL n).length)) (by omega)
      rw [show pre.length + (sgL n).length + (k - (pre.length + (sgL n).length)) = k from by omega] at h
      exact ⟨h.1, by rw [h.2]; exact (dg_not (dD _ (by omega))).2.2.2.2⟩
    · by_cases hF : 0 < (fracL n).length
      · have h := (atF 0 hF).2
        have h46 : (fracL n)[0] = 46 := by
          by_cases hr : absV n % 1000000 = 0
          · simp [fracL, hr] at hF
          · simp [fracL, hr]
        rw [Nat.add_zero, h46] at h
        rw [h] at hc; simp [dgB] at hc
      · by_cases hQ : 0 < post.length
        · have h := atP 0 hQ
          rw [hlen, Nat.add_zero, show pre.length + ((sgL n).length + (decI m).length + (fracL n).length) = pre.length + (sgL n).length + (decI m).length from by omega] at h
          rw [h, (sp_not (hpost _ (List.getElem_mem _))).1] at hc
          cases hc.2
        · omega
  have hval : valF s (rA1 s) (rB s - rA1 s) = m := by
    rw [hA1, hB, show pre.length + (sgL n).length + (decI m).length - (pre.length + (sgL n).length) = (decI m).length from by omega]
    exact decI_val s _ m (fun k hk => (atD k hk).2)
  have hmi : (m : Int) = absV n / 1000000 := by omega
  -- the point and what is behind it
  have hend : ∀ e, e = pre.length + (tL n).length → ¬ (e < s.size ∧ dgB (bt s e) = true) := fun e he hc => by
    subst he
    by_cases hQ : 0 < post.length
    · have h := atP 0 hQ
      rw [Nat.add_zero] at h
      rw [h, (sp_not (hpost _ (List.getElem_mem _))).1] at hc
      cases hc.2
    · omega
  have hpt : rC s = pre.length + (tL n).length ∧ frS s (rB s + 1) (rF s) 6 = absV n % 1000000 := by
    by_cases hr : absV n % 1000000 = 0
    · have hF0 : fracL n = [] := by rw [fracL, if_pos hr]
      have hFl : (fracL n).length = 0 := by rw [hF0]; rfl
      have hp : rPt s = false := by
        unfold rPt
        rw [hB]
        by_cases hQ : 0 < post.length
        · have h := atP 0 hQ
          rw [hlen, Nat.add_zero, show pre.length + ((sgL n).length + (decI m).length + (fracL n).length) = pre.length + (sgL n).length + (decI m).length from by omega] at h
          rw [h]
          have := (sp_not (hpost _ (List.getElem_mem (show 0 < post.length from hQ)))).2.1
          simp [this]
        · have : ¬ pre.length + (sgL n).length + (decI m).length < s.size := by omega
          simp [this]
      have hf : rF s = 0 := by rw [rF, hp]; rfl
      refine ⟨by rw [rC, hp, hlen, hFl]; simp [hB]; omega, by rw [hf, hr]; simp [frS]⟩
    · have hF0 : fracL n = 46 :: fracD 6 (absV n % 1000000) := by rw [fracL, if_neg hr]
      have hFl : (fracL n).length = (fracD 6 (absV n % 1000000)).length + 1 := by rw [hF0]; simp
      have h0 := atF 0 (by omega)
      rw [Nat.add_zero] at h0
      have hp : rPt s = true := by
        unfold rPt
        rw [hB]
        simp [h0.1, h0.2, hF0]
      have hfd : ∀ k, (hk : k < (fracD 6 (absV n % 1000000)).length) → rB s + 1 + k < s.size ∧ bt s (rB s + 1 + k) = (fracD 6 (absV n % 1000000))[k] := fun k hk => by
        have h := atF (k + 1) (by omega)
        rw [hB]
        rw [show pre.length + (sgL n).length + (decI m).length + 1 + k = pre.length + (sgL n).length + (decI m).length + (k + 1) from by omega]
        refine ⟨h.1, h.2.trans ?_⟩
        simp [hF0]
      have hv := fracD_val s (rB s + 1) (absV n % 1000000) (by omega) (by omega) (fun k hk => (hfd k hk).2)
      have hC : rC s = rB s + 1 + (fracD 6 (absV n % 1000000)).length := by
        rw [rC, if_pos hp]
        refine endOf_eq _ _ (fun k hk1 hk2 => ?_) (hend _ (by rw [hB, hlen, hFl]; omega))
        have h := hfd (k - (rB s + 1)) (by omega)
        rw [show rB s + 1 + (k - (rB s + 1)) = k from by omega] at h
        exact ⟨h.1, by rw [h.2]; exact (dg_not (fracD_dig 6 _ (by omega) (by omega) _ (List.getElem_mem _))).2.2.2.2⟩
      have hf : rF s = (fracD 6 (absV n % 1000000)).length := by rw [rF, if_pos hp, hC]; omega
      exact ⟨by rw [hC, hB, hlen, hFl]; omega, by rw [hf]; exact hv.2⟩
  have hNo : rNo s = false := by
    unfold rNo
    have : ¬ rB s = rA1 s := by rw [hB, hA1]; omega
    simp [this]
  have hV : rV s = absV n := by
    unfold rV capV
    rw [hval, hpt.2, hmi]
    omega
  refine ⟨?_, by rw [rdK, hNo]; simp [hpt.1], ?_, by omega⟩
  · rw [rdN, hNo, hNeg, hV]
    by_cases hneg : n < 0
    · simp [hneg, absV_neg hneg]
    · simp [hneg, absV_pos (show 0 ≤ n by omega)]
  · have h := endOf_eq (p := spB) (s := s) post.length (pre.length + (tL n).length) (fun k hk1 hk2 => by
      have h := atP (k - (pre.length + (tL n).length)) (by omega)
      rw [show pre.length + (tL n).length + (k - (pre.length + (tL n).length)) = k from by omega] at h
      exact ⟨by omega, by rw [h]; exact hpost _ (List.getElem_mem _)⟩) (by omega)
    rw [h]; omega
end Go.Proofs.YtlfmiikpbdhemaaGreatDoor.RoundPure

namespace Go.Proofs.YtlfmiikpbdhemaaGreatDoor.RoundPure
open Go Go.RowKit Go.PlainAid
open Go.Proofs.YtlfmiikpbdhemaaGreatDoor.DecPure Go.Proofs.YtlfmiikpbdhemaaGreatDoor.TextPure Go.Proofs.YtlfmiikpbdhemaaGreatDoor.ReadPure
set_option linter.unusedVariables false

theorem looks_of {s : ByteArray} {k : Nat} (h0 : 0 < k) (h1 : rdK s = (k : Nat)) (h2 : endOf spB s k = s.size) : looksB s = true := by
  unfold looksB
  rw [h1, Int.toNat_natCast, h2]
  simp; omega
theorem back {n : Int} (hn : dOk n = true) {s : ByteArray} (hs : s = dtB n) :
    s.size ≤ 28 ∧ rdN (s ++ ⟨#[32]⟩) = n ∧ rdK (s ++ ⟨#[32]⟩) = (s.size : Int) ∧ looksB s = true ∧ looksB (⟨#[9]⟩ ++ s ++ ⟨#[32]⟩) = true := by
  have e : s = strOfNums (tL n) := by rw [hs, dtB, if_pos hn, textB_nums]
  have hz : s.size = (tL n).length := by rw [e, strOfNums_size]
  have hsz : s.size ≤ 28 := by
    have h1 := head_size n hn
    have h2 := fracL_size n
    have h3 : s = headB n ++ strOfNums (fracL n) := by rw [hs, dtB, if_pos hn, textB_head]
    rw [h3, ByteArray.size_append]; omega
  have e1 : s ++ ⟨#[32]⟩ = strOfNums ([] ++ tL n ++ [32]) := by
    have : (⟨#[32]⟩ : ByteArray) = strOfNums [32] := rfl
    rw [this, e, join_nums]; rfl
  have e2 : ⟨#[9]⟩ ++ s ++ ⟨#[32]⟩ = strOfNums ([9] ++ tL n ++ [32]) := by
    have h1 : (⟨#[32]⟩ : ByteArray) = strOfNums [32] := rfl
    have h2 : (⟨#[9]⟩ : ByteArray) = strOfNums [9] := rfl
    rw [h1, h2, e, join_nums, join_nums]
  have e3 : s = strOfNums ([] ++ tL n ++ []) := by rw [e]; simp
  have sp32 : ∀ x ∈ ([32] : List Int), spB x = true := by intro x hx; simp at hx; subst hx; rfl
  have sp9 : ∀ x ∈ ([9] : List Int), spB x = true := by intro x hx; simp at hx; subst hx; rfl
  have sp0 : ∀ x ∈ ([] : List Int), spB x = true := by intro x hx; cases hx
  obtain ⟨a1, a2, a3, a4⟩ := read_back [] [32] sp0 sp32 n hn _ e1
  obtain ⟨b1, b2, b3, b4⟩ := read_back [9] [32] sp9 sp32 n hn _ e2
  obtain ⟨c1, c2, c3, c4⟩ := read_back [] [] sp0 sp0 n hn _ e3
  refine ⟨hsz, a1, by rw [a2, hz]; simp, looks_of (by simp; omega) c2 c3, looks_of (by simp; omega) b2 b3⟩
end Go.Proofs.YtlfmiikpbdhemaaGreatDoor.RoundPure

namespace Go.Proofs.YtlfmiikpbdhemaaGreatDoor.LexPure
open Go Go.RowKit Go.PlainAid
open Go.Proofs.YtlfmiikpbdhemaaGreatDoor.DecPure Go.Proofs.YtlfmiikpbdhemaaGreatDoor.ReadPure
set_option linter.unusedVariables false

def wordsL : List ByteArray := [⟨#[66, 69, 71, 73, 78]⟩, ⟨#[69, 78, 68]⟩, ⟨#[102, 117, 110, 99, 116, 105, 111, 110]⟩, ⟨#[105, 102]⟩, ⟨#[101, 108, 115, 101]⟩, ⟨#[119, 104, 105, 108, 101]⟩, ⟨#[102, 111, 114]⟩, ⟨#[105, 110]⟩, ⟨#[98, 114, 101, 97, 107]⟩, ⟨#[99, 111, 110, 116, 105, 110, 117, 101]⟩, ⟨#[110, 101, 120, 116]⟩, ⟨#[101, 120, 105, 116]⟩, ⟨#[114, 101, 116, 117, 114, 110]⟩, ⟨#[100, 101, 108, 101, 116, 101]⟩, ⟨#[112, 114, 105, 110, 116]⟩, ⟨#[112, 114, 105, 110, 116, 102]⟩, ⟨#[108, 101, 110, 103, 116, 104]⟩, ⟨#[115, 117, 98, 115, 116, 114]⟩, ⟨#[105, 110, 100, 101, 120]⟩, ⟨#[115, 112, 108, 105, 116]⟩, ⟨#[116, 111, 117, 112, 112, 101, 114]⟩, ⟨#[105, 110, 116]⟩]
def signsL : List ByteArray := [⟨#[38, 38]⟩, ⟨#[124, 124]⟩, ⟨#[61, 61]⟩, ⟨#[33, 61]⟩, ⟨#[33, 126]⟩, ⟨#[60, 61]⟩, ⟨#[43, 61]⟩, ⟨#[123]⟩, ⟨#[125]⟩, ⟨#[40]⟩, ⟨#[41]⟩, ⟨#[91]⟩, ⟨#[93]⟩, ⟨#[59]⟩, ⟨#[44]⟩, ⟨#[61]⟩, ⟨#[33]⟩, ⟨#[60]⟩, ⟨#[43]⟩, ⟨#[45]⟩, ⟨#[42]⟩, ⟨#[47]⟩, ⟨#[37]⟩, ⟨#[126]⟩, ⟨#[63]⟩, ⟨#[58]⟩, ⟨#[36]⟩]

def isWd (s : ByteArray) : Bool := wordsL.any fun x => decide (x = s)
theorem isWd_mem {s : ByteArray} : isWd s = true ↔ s ∈ wordsL := by simp [isWd]
theorem same_yes {a b : ByteArray} (h : a = b) : (a.toList == b.toList) = true := by subst h; simp
theorem same_no {a b : ByteArray} (h : a ≠ b) : (a.toList == b.toList) = false := by
  cases hq : (a.toList == b.toList) with
  | false => rfl
  | true =>
    have e : a.toList = b.toList := by simpa using hq
    rw [ByteArray.toList_eq, ByteArray.toList_eq] at e
    exact absurd (ByteArray.ext (Array.toList_inj.1 e)) h
theorem noText (s : ByteArray) : s.toList.isEmpty = true ↔ s.size = 0 := by
  rw [ByteArray.toList_eq]
  simp only [List.isEmpty_iff_length_eq_zero, Array.length_toList]
  exact Iff.rfl
theorem noText_no {s : ByteArray} (h : 0 < s.size) : s.toList.isEmpty = false := by
  cases hb : s.toList.isEmpty with
  | false => rfl
  | true => have := (noText s).1 hb; omega
def letB (b : Int) : Bool := decide (65 ≤ b ∧ b ≤ 90) || decide (97 ≤ b ∧ b ≤ 122) || b == 95
def innB (b : Int) : Bool := letB b || dgB b
def nnB (b : Int) : Bool := !(b == 10)
def nmOk (s : ByteArray) : Bool := decide (1 ≤ s.size ∧ s.size ≤ 40) && letB (bt s 0) && (endOf innB s 0 == s.size) && !isWd s

/-- One step lemma for all ends: it stays the same along the way. -/
theorem endOf_next {p : Int → Bool} {s : ByteArray} {a : Nat} (h : a < s.size) (hp : p (bt s a) = true) : a < endOf p s a := by
  rw [endOf_step h hp]
  exact Nat.lt_of_lt_of_le (Nat.lt_succ_self a) (endOf_ge _ _ _)

theorem endF_idem (p : Int → Bool) (s : ByteArray) : ∀ (m a : Nat), s.size ≤ a + m → endOf p s (endF p s m a) = endF p s m a := fun m a h => endOf_stop (fun q => endF_out p s m a h q)
theorem endOf_idem {p : Int → Bool} (s : ByteArray) (a : Nat) : endOf p s (endOf p s a) = endOf p s a := endF_idem p s _ a (by omega)
/-- Over whitespace and comments. -/
def gapF (s : ByteArray) : Nat → Nat → Nat
  | 0, a => a
  | m + 1, a => if a < s.size ∧ bt s a = 35 then gapF s m (endOf nnB s a) else if a < s.size ∧ spB (bt s a) = true then gapF s m (a + 1) else a
def gap (s : ByteArray) (a : Nat) : Nat := gapF s (s.size - a) a
theorem nn_hash {b : Int} (h : b = 35) : nnB b = true := by subst h; rfl
theorem gapF_more (s : ByteArray) : ∀ (m k a : Nat), s.size - a ≤ m → s.size - a ≤ k → gapF s m a = gapF s k a
  | 0, 0, a, _, _ => rfl
  | 0, k + 1, a, h, _ => by
    have : ¬ a < s.size := by omega
    rw [gapF, gapF, if_neg (fun h => this h.1), if_neg (fun h => this h.1)]
  | m + 1, 0, a, _, h => by
    have : ¬ a < s.size := by omega
    rw [gapF, gapF, if_neg (fun h => this h.1), if_neg (fun h => this h.1)]
  | m + 1, k + 1, a, h1, h2 => by
    rw [gapF, gapF]
    by_cases c1 : a < s.size ∧ bt s a = 35
    · rw [if_pos c1, if_pos c1]
      have := endOf_next (p := nnB) c1.1 (nn_hash c1.2)
      exact gapF_more s m k _ (by omega) (by omega)
    · rw [if_neg c1, if_neg c1]
      by_cases c2 : a < s.size ∧ spB (bt s a) = true
      · rw [if_pos c2, if_pos c2]
        exact gapF_more s m k _ (by omega) (by omega)
      · rw [if_neg c2, if_neg c2]
theorem gap_hash {s : ByteArray} {a : Nat} (h : a < s.size) (hb : bt s a = 35) : gap s a = gap s (endOf nnB s a) := by
  have := endOf_next (p := nnB) h (nn_hash hb)
  unfold gap
  obtain ⟨m, hm⟩ : ∃ m, s.size - a = m + 1 := ⟨s.size - a - 1, by omega⟩
  rw [hm, gapF, if_pos ⟨h, hb⟩]
  exact gapF_more s _ _ _ (by omega) (by omega)
theorem sp_not_hash {b : Int} (h : spB b = true) : b ≠ 35 := by rintro rfl; cases h
theorem gap_sp {s : ByteArray} {a : Nat} (h : a < s.size) (hb : spB (bt s a) = true) : gap s a = gap s (a + 1) := by
  unfold gap
  obtain ⟨m, hm⟩ : ∃ m, s.size - a = m + 1 := ⟨s.size - a - 1, by omega⟩
  rw [hm, gapF, if_neg (fun q => sp_not_hash hb q.2), if_pos ⟨h, hb⟩]
  exact gapF_more s _ _ _ (by omega) (by omega)
theorem gap_stop {s : ByteArray} {a : Nat} (h : ¬ (a < s.size ∧ bt s a = 35)) (h2 : ¬ (a < s.size ∧ spB (bt s a) = true)) : gap s a = a := by
  unfold gap
  cases s.size - a with
  | zero => rfl
  | succ m => rw [gapF, if_neg h, if_neg h2]
theorem gapF_ge (s : ByteArray) : ∀ (m a : Nat), a ≤ gapF s m a
  | 0, a => Nat.le_refl _
  | m + 1, a => by
    rw [gapF]; split
    · exact Nat.le_trans (endOf_ge _ _ _) (gapF_ge s m _)
    · split
      · exact Nat.le_trans (Nat.le_succ _) (gapF_ge s m _)
      · exact Nat.le_refl _
theorem gap_ge (s : ByteArray) (a : Nat) : a ≤ gap s a := gapF_ge s _ a
theorem gapF_le (s : ByteArray) : ∀ (m a : Nat), a ≤ s.size → gapF s m a ≤ s.size
  | 0, a, h => h
  | m + 1, a, h => by
    rw [gapF]; split
    · exact gapF_le s m _ (endOf_le _ _ _ h)
    · split
      · rename_i q; exact gapF_le s m _ (by omega)
      · exact h
theorem gap_le (s : ByteArray) (a : Nat) (h : a ≤ s.size) : gap s a ≤ s.size := gapF_le s _ a h
theorem gapF_out (s : ByteArray) : ∀ (m a : Nat), s.size - a ≤ m → gapF s m a < s.size → bt s (gapF s m a) ≠ 35 ∧ spB (bt s (gapF s m a)) = false
  | 0, a, h, h2 => by have h3 : a < s.size := h2; omega
  | m + 1, a, h, h2 => by
    rw [gapF] at h2 ⊢
    by_cases c1 : a < s.size ∧ bt s a = 35
    · rw [if_pos c1] at h2 ⊢
      have := endOf_next (p := nnB) c1.1 (nn_hash c1.2)
      exact gapF_out s m _ (by omega) h2
    · rw [if_neg c1] at h2 ⊢
      by_cases c2 : a < s.size ∧ spB (bt s a) = true
      · rw [if_pos c2] at h2 ⊢
        exact gapF_out s m _ (by omega) h2
      · rw [if_neg c2] at h2 ⊢
        refine ⟨fun q => c1 ⟨h2, q⟩, ?_⟩
        cases hq : spB (bt s a) with
        | false => rfl
        | true => exact absurd ⟨h2, hq⟩ c2
theorem gap_out {s : ByteArray} {a : Nat} (h : gap s a < s.size) : bt s (gap s a) ≠ 35 ∧ spB (bt s (gap s a)) = false := gapF_out s _ a (Nat.le_refl _) h
theorem gap_spaces (s : ByteArray) : ∀ (m a : Nat), gap s (endF spB s m a) = gap s a
  | 0, a => rfl
  | m + 1, a => by
    rw [endF]
    by_cases c : a < s.size ∧ spB (bt s a) = true
    · rw [if_pos c, gap_spaces s m (a + 1), gap_sp c.1 c.2]
    · rw [if_neg c]
theorem gap_space (s : ByteArray) (a : Nat) : gap s (endOf spB s a) = gap s a := gap_spaces s _ a

/-- A number's end. -/
def numE (s : ByteArray) (a : Nat) : Nat := if endOf dgB s a + 1 < s.size ∧ bt s (endOf dgB s a) = 46 ∧ dgB (bt s (endOf dgB s a + 1)) = true then endOf dgB s (endOf dgB s a + 1) else endOf dgB s a
theorem numE_ge (s : ByteArray) (a : Nat) : endOf dgB s a ≤ numE s a := by
  unfold numE; split
  · exact Nat.le_trans (Nat.le_succ _) (endOf_ge _ _ _)
  · exact Nat.le_refl _
theorem numE_le (s : ByteArray) (a : Nat) (h : a ≤ s.size) : numE s a ≤ s.size := by
  have := endOf_le dgB s a h
  unfold numE; split
  · exact endOf_le _ _ _ (by omega)
  · exact this

/-- What stands behind a backslash in a string. -/
def escB (b : Int) : Option Int := if b = 110 then some 10 else if b = 116 then some 9 else if b = 34 then some 34 else if b = 92 then some 92 else none
/-- A string's content from offset a, and the offset behind it. -/
def strF (s : ByteArray) : Nat → Nat → List Int → Option (List Int × Nat)
  | 0, _, _ => none
  | m + 1, a, l =>
    if a < s.size then
      if bt s a = 34 then some (l, a + 1)
      else if bt s a = 10 then none
      else if bt s a = 92 then
        if a + 1 < s.size then
          match escB (bt s (a + 1)) with
          | none => none
          | some c => strF s m (a + 2) (l ++ [c])
        else none
      else strF s m (a + 1) (l ++ [bt s a])
    else none
def strS (s : ByteArray) (a : Nat) (l : List Int) : Option (List Int × Nat) := strF s (s.size + 1 - a) a l
theorem strF_more (s : ByteArray) : ∀ (m k a : Nat) (l : List Int), s.size + 1 - a ≤ m → s.size + 1 - a ≤ k → strF s m a l = strF s k a l
  | 0, 0, a, l, _, _ => rfl
  | 0, k + 1, a, l, h, _ => by
    have : ¬ a < s.size := by omega
    rw [strF, strF, if_neg this]
  | m + 1, 0, a, l, _, h => by
    have : ¬ a < s.size := by omega
    rw [strF, strF, if_neg this]
  | m + 1, k + 1, a, l, h1, h2 => by
    rw [strF, strF]
    by_cases c1 : a < s.size
    · rw [if_pos c1, if_pos c1]
      by_cases c2 : bt s a = 34
      · rw [if_pos c2, if_pos c2]
      · rw [if_neg c2, if_neg c2]
        by_cases c3 : bt s a = 10
        · rw [if_pos c3, if_pos c3]
        · rw [if_neg c3, if_neg c3]
          by_cases c4 : bt s a = 92
          · rw [if_pos c4, if_pos c4]
            by_cases c5 : a + 1 < s.size
            · rw [if_pos c5, if_pos c5]
              cases escB (bt s (a + 1)) with
              | none => rfl
              | some c => exact strF_more s m k _ _ (by omega) (by omega)
            · rw [if_neg c5, if_neg c5]
          · rw [if_neg c4, if_neg c4]
            exact strF_more s m k _ _ (by omega) (by omega)
    · rw [if_neg c1, if_neg c1]
theorem strS_unf (s : ByteArray) (a : Nat) (l : List Int) (h : a < s.size) : strS s a l =
      if bt s a = 34 then some (l, a + 1)
      else if bt s a = 10 then none
      else if bt s a = 92 then
        if a + 1 < s.size then
          match escB (bt s (a + 1)) with
          | none => none
          | some c => strS s (a + 2) (l ++ [c])
        else none
      else strS s (a + 1) (l ++ [bt s a]) := by
  unfold strS
  obtain ⟨m, hm⟩ : ∃ m, s.size + 1 - a = m + 1 := ⟨s.size - a, by omega⟩
  rw [hm, strF, if_pos h]
  rw [strF_more s m (s.size + 1 - (a + 1)) (a + 1) (l ++ [bt s a]) (by omega) (by omega)]
  cases escB (bt s (a + 1)) with
  | none => rfl
  | some c =>
    show (if _ then _ else if _ then _ else if _ then if _ then strF s m (a + 2) (l ++ [c]) else _ else _) = _
    rw [strF_more s m (s.size + 1 - (a + 2)) (a + 2) (l ++ [c]) (by omega) (by omega)]
theorem strS_out {s : ByteArray} {a : Nat} (l : List Int) (h : ¬ a < s.size) : strS s a l = none := by
  unfold strS
  cases s.size + 1 - a with
  | zero => rfl
  | succ m => rw [strF, if_neg h]
theorem strF_end (s : ByteArray) : ∀ (m a : Nat) (l r : List Int) (e : Nat), strF s m a l = some (r, e) → a < e ∧ e ≤ s.size ∧ r.length ≤ l.length + (e - a - 1)
  | 0, _, _, _, _, h => by cases h
  | m + 1, a, l, r, e, h => by
    rw [strF] at h
    by_cases c1 : a < s.size
    · rw [if_pos c1] at h
      by_cases c2 : bt s a = 34
      · rw [if_pos c2] at h
        cases h; exact ⟨by omega, by omega, by omega⟩
      · rw [if_neg c2] at h
        by_cases c3 : bt s a = 10
        · rw [if_pos c3] at h; cases h
        · rw [if_neg c3] at h
          by_cases c4 : bt s a = 92
          · rw [if_pos c4] at h
            by_cases c5 : a + 1 < s.size
            · rw [if_pos c5] at h
              cases hc : escB (bt s (a + 1)) with
              | none => rw [hc] at h; cases h
              | some c =>
                rw [hc] at h
                obtain ⟨h1, h2, h3⟩ := strF_end s m _ _ r e h
                rw [List.length_append, List.length_singleton] at h3
                exact ⟨by omega, h2, by omega⟩
            · rw [if_neg c5] at h; cases h
          · rw [if_neg c4] at h
            obtain ⟨h1, h2, h3⟩ := strF_end s m _ _ r e h
            rw [List.length_append, List.length_singleton] at h3
            exact ⟨by omega, h2, by omega⟩
    · rw [if_neg c1] at h; cases h
theorem strS_end {s : ByteArray} {a : Nat} {l r : List Int} {e : Nat} (h : strS s a l = some (r, e)) : a < e ∧ e ≤ s.size ∧ r.length ≤ l.length + (e - a - 1) := strF_end s _ a l r e h

/-- The offset of the slash that ends a regular expression. -/
def reF (s : ByteArray) : Nat → Nat → Option Nat
  | 0, _ => none
  | m + 1, a =>
    if a < s.size then
      if bt s a = 47 then some a
      else if bt s a = 92 then
        if a + 1 < s.size ∧ bt s (a + 1) ≠ 10 then reF s m (a + 2) else none
      else if bt s a = 10 then none
      else reF s m (a + 1)
    else none
def reS (s : ByteArray) (a : Nat) : Option Nat := reF s (s.size + 1 - a) a
theorem reF_more (s : ByteArray) : ∀ (m k a : Nat), s.size + 1 - a ≤ m → s.size + 1 - a ≤ k → reF s m a = reF s k a
  | 0, 0, a, _, _ => rfl
  | 0, k + 1, a, h, _ => by
    have : ¬ a < s.size := by omega
    rw [reF, reF, if_neg this]
  | m + 1, 0, a, _, h => by
    have : ¬ a < s.size := by omega
    rw [reF, reF, if_neg this]
  | m + 1, k + 1, a, h1, h2 => by
    rw [reF, reF]
    by_cases c1 : a < s.size
    · rw [if_pos c1, if_pos c1, reF_more s m k (a + 2) (by omega) (by omega), reF_more s m k (a + 1) (by omega) (by omega)]
    · rw [if_neg c1, if_neg c1]
theorem reS_unf (s : ByteArray) (a : Nat) (h : a < s.size) : reS s a =
      if bt s a = 47 then some a
      else if bt s a = 92 then
        if a + 1 < s.size ∧ bt s (a + 1) ≠ 10 then reS s (a + 2) else none
      else if bt s a = 10 then none
      else reS s (a + 1) := by
  unfold reS
  obtain ⟨m, hm⟩ : ∃ m, s.size + 1 - a = m + 1 := ⟨s.size - a, by omega⟩
  rw [hm, reF, if_pos h, reF_more s m (s.size + 1 - (a + 2)) (a + 2) (by omega) (by omega), reF_more s m (s.size + 1 - (a + 1)) (a + 1) (by omega) (by omega)]
theorem reS_out {s : ByteArray} {a : Nat} (h : ¬ a < s.size) : reS s a = none := by
  unfold reS
  cases s.size + 1 - a with
  | zero => rfl
  | succ m => rw [reF, if_neg h]
theorem reF_end (s : ByteArray) : ∀ (m a e : Nat), reF s m a = some e → a ≤ e ∧ e < s.size
  | 0, _, _, h => by cases h
  | m + 1, a, e, h => by
    rw [reF] at h
    by_cases c1 : a < s.size
    · rw [if_pos c1] at h
      by_cases c2 : bt s a = 47
      · rw [if_pos c2] at h
        cases h; exact ⟨by omega, by omega⟩
      · rw [if_neg c2] at h
        by_cases c4 : bt s a = 92
        · rw [if_pos c4] at h
          by_cases c5 : a + 1 < s.size ∧ bt s (a + 1) ≠ 10
          · rw [if_pos c5] at h
            obtain ⟨h1, h2⟩ := reF_end s m _ e h
            exact ⟨by omega, h2⟩
          · rw [if_neg c5] at h; cases h
        · rw [if_neg c4] at h
          by_cases c3 : bt s a = 10
          · rw [if_pos c3] at h; cases h
          · rw [if_neg c3] at h
            obtain ⟨h1, h2⟩ := reF_end s m _ e h
            exact ⟨by omega, h2⟩
    · rw [if_neg c1] at h; cases h
theorem reS_end {s : ByteArray} {a e : Nat} (h : reS s a = some e) : a ≤ e ∧ e < s.size := reF_end s _ a e h

/-- Signs of two letters, and of one. -/
def twoB (x y : Int) : Bool := (x == 38 && y == 38) || (x == 124 && y == 124) || (x == 61 && y == 61) || (x == 33 && y == 61) || (x == 33 && y == 126) || (x == 60 && y == 61) || (x == 43 && y == 61)
def oneS : ByteArray := ⟨#[123, 125, 40, 41, 91, 93, 59, 44, 61, 33, 60, 43, 45, 42, 47, 37, 126, 63, 58, 36]⟩
def oneL : List Int := [123, 125, 40, 41, 91, 93, 59, 44, 61, 33, 60, 43, 45, 42, 47, 37, 126, 63, 58, 36]
def oneB (x : Int) : Bool := decide (x ∈ oneL)
def sgn (s : ByteArray) (a : Nat) : Nat := if a + 1 < s.size ∧ twoB (bt s a) (bt s (a + 1)) = true then 2 else if oneB (bt s a) = true then 1 else 0
theorem sgn_le {s : ByteArray} {a : Nat} (h : a < s.size) : a + sgn s a ≤ s.size := by
  unfold sgn; split
  · omega
  · split <;> omega
theorem sgn_two (s : ByteArray) (a : Nat) : sgn s a ≤ 2 := by
  unfold sgn; split
  · omega
  · split <;> omega

/-- A token, read. -/
structure Tk where
  kind : Int
  s : ByteArray
  n : Int
  pos : Nat

def tk0 : Tk := ⟨0, ⟨#[]⟩, 0, 0⟩
def tth (l : List Tk) (i : Nat) : Tk := l.getD i tk0
/-- Does the last token end an operand? -/
def opnd (l : List Tk) : Bool := !l.isEmpty && ((tth l (l.length - 1)).kind == 1 || (tth l (l.length - 1)).kind == 2 || (tth l (l.length - 1)).kind == 3 || (tth l (l.length - 1)).kind == 4 || ((tth l (l.length - 1)).kind == 7 && (decide ((tth l (l.length - 1)).s = ⟨#[41]⟩) || decide ((tth l (l.length - 1)).s = ⟨#[93]⟩))))
/-- What a name is. -/
def nmK (s : ByteArray) (a e : Nat) : Int := if isWd (s.extract a e) = true then 6 else if e < s.size ∧ bt s e = 40 then 5 else 4
/-- The token at a, and the offset behind it. -/
def tokP (s : ByteArray) (o : Bool) (a : Nat) : Option (Tk × Nat) :=
  if dgB (bt s a) = true then some (⟨1, ⟨#[]⟩, rdN (s.extract a (numE s a)), a⟩, numE s a)
  else if letB (bt s a) = true then (if endOf innB s a - a ≤ 40 then some (⟨nmK s a (endOf innB s a), s.extract a (endOf innB s a), 0, a⟩, endOf innB s a) else none)
  else if bt s a = 34 then (match strS s (a + 1) [] with | none => none | some q => some (⟨2, strOfNums q.1, 0, a⟩, q.2))
  else if bt s a = 47 ∧ o = false then (match reS s (a + 1) with | none => none | some e => some (⟨3, s.extract (a + 1) e, 0, a⟩, e + 1))
  else if sgn s a = 0 then none else some (⟨7, s.extract a (a + sgn s a), 0, a⟩, a + sgn s a)
theorem tokP_end {s : ByteArray} {o : Bool} {a e : Nat} {t : Tk} (h : a < s.size) (ht : tokP s o a = some (t, e)) : a < e ∧ e ≤ s.size ∧ t.s.size ≤ s.size ∧ t.pos = a := by
  unfold tokP at ht
  by_cases c1 : dgB (bt s a) = true
  · rw [if_pos c1] at ht
    cases ht
    have h1 := endOf_next (p := dgB) h c1
    have h2 := numE_ge s a
    exact ⟨by omega, numE_le s a (by omega), Nat.zero_le _, rfl⟩
  · rw [if_neg c1] at ht
    by_cases c2 : letB (bt s a) = true
    · rw [if_pos c2] at ht
      have hi : innB (bt s a) = true := by unfold innB; rw [c2]; rfl
      have h1 := endOf_next (p := innB) h hi
      have h2 := endOf_le innB s a (by omega)
      by_cases c3 : endOf innB s a - a ≤ 40
      · rw [if_pos c3] at ht
        cases ht
        exact ⟨h1, h2, by show (s.extract _ _).size ≤ _; rw [size_ext s _ _ h2]; omega, rfl⟩
      · rw [if_neg c3] at ht; cases ht
    · rw [if_neg c2] at ht
      by_cases c3 : bt s a = 34
      · rw [if_pos c3] at ht
        cases hq : strS s (a + 1) [] with
        | none => rw [hq] at ht; cases ht
        | some q =>
          rw [hq] at ht
          obtain ⟨r, e'⟩ := q
          cases ht
          obtain ⟨h1, h2, h3⟩ := strS_end hq
          refine ⟨by omega, h2, ?_, rfl⟩
          show (strOfNums r).size ≤ _
          rw [strOfNums_size]
          simp at h3
          omega
      · rw [if_neg c3] at ht
        by_cases c4 : bt s a = 47 ∧ o = false
        · rw [if_pos c4] at ht
          cases hq : reS s (a + 1) with
          | none => rw [hq] at ht; cases ht
          | some q =>
            rw [hq] at ht
            cases ht
            obtain ⟨h1, h2⟩ := reS_end hq
            exact ⟨by omega, by omega, by show (s.extract _ _).size ≤ _; rw [size_ext s _ _ (by omega)]; omega, rfl⟩
        · rw [if_neg c4] at ht
          by_cases c5 : sgn s a = 0
          · rw [if_pos c5] at ht; cases ht
          · rw [if_neg c5] at ht
            cases ht
            have := sgn_le h
            exact ⟨by omega, by omega, by show (s.extract _ _).size ≤ _; rw [size_ext s _ _ this]; omega, rfl⟩

/-- The tokens from offset a on, behind those that there are. -/
def lexF (s : ByteArray) : Nat → Nat → List Tk → List Tk × Int
  | 0, _, l => (l, -1)
  | m + 1, a, l =>
    if gap s a < s.size then
      match tokP s (opnd l) (gap s a) with
      | none => ([], gap s a)
      | some q => lexF s m q.2 (l ++ [q.1])
    else (l, -1)
def lexS (s : ByteArray) (a : Nat) (l : List Tk) : List Tk × Int := lexF s (s.size + 1 - a) a l
theorem lexF_more (s : ByteArray) : ∀ (m k a : Nat) (l : List Tk), s.size + 1 - a ≤ m → s.size + 1 - a ≤ k → lexF s m a l = lexF s k a l
  | 0, 0, a, l, _, _ => rfl
  | 0, k + 1, a, l, h, _ => by
    have := gap_ge s a
    have : ¬ gap s a < s.size := by omega
    rw [lexF, lexF, if_neg this]
  | m + 1, 0, a, l, _, h => by
    have := gap_ge s a
    have : ¬ gap s a < s.size := by omega
    rw [lexF, lexF, if_neg this]
  | m + 1, k + 1, a, l, h1, h2 => by
    rw [lexF, lexF]
    by_cases c1 : gap s a < s.size
    · rw [if_pos c1, if_pos c1]
      have := gap_ge s a
      cases hq : tokP s (opnd l) (gap s a) with
      | none => rfl
      | some q =>
        have := (tokP_end (t := q.1) (e := q.2) c1 hq).1
        exact lexF_more s m k _ _ (by omega) (by omega)
    · rw [if_neg c1, if_neg c1]
theorem lexS_unf (s : ByteArray) (a : Nat) (l : List Tk) : lexS s a l =
    (if gap s a < s.size then
      match tokP s (opnd l) (gap s a) with
      | none => ([], (gap s a : Int))
      | some q => lexS s q.2 (l ++ [q.1])
    else (l, -1) : List Tk × Int) := by
  have hg := gap_ge s a
  unfold lexS
  by_cases c1 : gap s a < s.size
  · obtain ⟨m, hm⟩ : ∃ m, s.size + 1 - a = m + 1 := ⟨s.size - a, by omega⟩
    rw [hm, lexF, if_pos c1, if_pos c1]
    cases hq : tokP s (opnd l) (gap s a) with
    | none => rfl
    | some q =>
      have := (tokP_end (t := q.1) (e := q.2) c1 hq).1
      exact lexF_more s m _ _ _ (by omega) (by omega)
  · rw [if_neg c1]
    cases s.size + 1 - a with
    | zero => rfl
    | succ m => rw [lexF, if_neg c1]
def lexP (s : ByteArray) : List Tk × Int := if 4000 < s.size then ([], 0) else lexS s 0 []

end Go.Proofs.YtlfmiikpbdhemaaGreatDoor.LexPure
