/-
  A text with its four special bytes written behind a backslash: plain facts.
-/
import Derived.Test.YtlfmiikpbdhemaaGreatDoorGotos
namespace Go.Proofs.YtlfmiikpbdhemaaGreatDoor.Esc
open Go.RowKit Go.PlainAid
open Go.Proofs.YtlfmiikpbdhemaaGreatDoor.DecPure Go.Proofs.YtlfmiikpbdhemaaGreatDoor.ReadPure Go.Proofs.YtlfmiikpbdhemaaGreatDoor.LexPure Go.Proofs.YtlfmiikpbdhemaaGreatDoor.Lex
set_option linter.unusedVariables false

def escb (b : Int) : List Int := if b = 10 then [92, 110] else if b = 9 then [92, 116] else if b = 34 then [92, 34] else if b = 92 then [92, 92] else [b]
def spc (b : Int) : Prop := b = 10 ∨ b = 9 ∨ b = 34 ∨ b = 92
instance (b : Int) : Decidable (spc b) := by unfold spc; infer_instance
theorem escb_no {b : Int} (h : ¬ spc b) : escb b = [b] := by
  unfold spc at h
  unfold escb
  rw [if_neg (by omega), if_neg (by omega), if_neg (by omega), if_neg (by omega)]
theorem escb_two {b : Int} (h : spc b) : (escb b).length = 2 := by
  rcases h with rfl | rfl | rfl | rfl <;> rfl
def escL (s : ByteArray) : Nat → List Int
  | 0 => []
  | k + 1 => escL s k ++ escb (bt s k)
def cntS (s : ByteArray) : Nat → Nat
  | 0 => 0
  | k + 1 => cntS s k + if spc (bt s k) then 1 else 0
theorem escL_len (s : ByteArray) : ∀ k, (escL s k).length = k + cntS s k
  | 0 => rfl
  | k + 1 => by
    rw [escL, cntS, List.length_append, escL_len s k]
    by_cases h : spc (bt s k)
    · rw [if_pos h, escb_two h]; omega
    · rw [if_neg h, escb_no h]; simp; omega
theorem cntS_le (s : ByteArray) : ∀ k, cntS s k ≤ k
  | 0 => Nat.le_refl _
  | k + 1 => by have := cntS_le s k; rw [cntS]; split <;> omega
theorem cntS_mono (s : ByteArray) (i : Nat) : ∀ j, cntS s i ≤ cntS s (i + j)
  | 0 => Nat.le_refl _
  | j + 1 => by have := cntS_mono s i j; rw [← Nat.add_assoc, cntS]; omega
theorem cntS_yes {s : ByteArray} {k : Nat} (h : spc (bt s k)) : cntS s (k + 1) = cntS s k + 1 := by rw [cntS, if_pos h]
theorem cntS_no {s : ByteArray} {k : Nat} (h : ¬ spc (bt s k)) : cntS s (k + 1) = cntS s k := by rw [cntS, if_neg h]; rfl
theorem escL_pz (s : ByteArray) : ∀ k, cntS s k = 0 → escL s k = pz s 0 k
  | 0, _ => rfl
  | k + 1, h => by
    rw [cntS] at h
    have hn : ¬ spc (bt s k) := fun hs => by rw [if_pos hs] at h; omega
    rw [escL, escL_pz s k (by omega), escb_no hn, pz_step, Nat.zero_add]
/-- The text, written. -/
def escS (s : ByteArray) : ByteArray := strOfNums (escL s s.size)
theorem escS_none {s : ByteArray} (h : cntS s s.size = 0) : escS s = s := by
  unfold escS
  rw [escL_pz s _ h, str_pz (by omega), Nat.zero_add]
  simp
theorem escS_size (s : ByteArray) : (escS s).size = s.size + cntS s s.size := by unfold escS; rw [strOfNums_size, escL_len]
theorem escb_range {b : Int} (h0 : 0 ≤ b) (h1 : b ≤ 255) : ∀ x ∈ escb b, 0 ≤ x ∧ x ≤ 255 := by
  intro x hx
  by_cases h : spc b
  · rcases h with rfl | rfl | rfl | rfl <;> (simp [escb] at hx; omega)
  · rw [escb_no h] at hx; simp at hx; omega
theorem escL_range (s : ByteArray) : ∀ k, ∀ x ∈ escL s k, 0 ≤ x ∧ x ≤ 255
  | 0, x, hx => by simp [escL] at hx
  | k + 1, x, hx => by
    rw [escL, List.mem_append] at hx
    rcases hx with hx | hx
    · exact escL_range s k x hx
    · exact escb_range (bt_nonneg s k) (bt_le s k) x hx

/-- How many of the first bytes are c. -/
def cntB (s : ByteArray) (c : Int) : Nat → Nat
  | 0 => 0
  | k + 1 => cntB s c k + if bt s k = c then 1 else 0
theorem bt_data (s : ByteArray) (k : Nat) (h : k < s.size) : bt s k = ((s.data[k]!).toNat : Int) := by
  unfold bt
  rw [dif_pos h]
  have h2 : k < s.data.size := h
  rw [getElem!_pos s.data k h2]
  rfl
theorem cntB_take (s : ByteArray) (c : UInt8) : ∀ k, k ≤ s.size → Lib.countByte (s.data.toList.take k) c = cntB s (c.toNat : Int) k
  | 0, _ => by simp [Lib.countByte, cntB]
  | k + 1, h => by
    have ih := cntB_take s c k (by omega)
    have hl : k < s.data.toList.length := by rw [Array.length_toList]; exact h
    have h2 : k < s.data.size := h
    have hb := bt_data s k (by omega)
    rw [List.take_add_one, List.getElem?_eq_getElem hl]
    unfold Lib.countByte at ih ⊢
    rw [List.count_append, cntB]
    simp only [getElem!_pos, h2] at hb
    by_cases hc : bt s k = (c.toNat : Int)
    · rw [if_pos hc]
      have : s.data[k] = c := by
        have h10 : (s.data[k].toNat : Int) = c.toNat := by rw [← hb]; exact hc
        exact UInt8.toNat_inj.mp (by omega)
      push_cast
      rw [← ih]
      simp [this]
    · rw [if_neg hc]
      have : ¬ s.data[k] = c := by
        intro he; apply hc; rw [hb, he]
      push_cast
      rw [← ih]
      simp [this]
theorem cntB_all (s : ByteArray) (c : UInt8) : Lib.countByte s.data.toList c = cntB s (c.toNat : Int) s.size := by
  have := cntB_take s c s.size (Nat.le_refl _)
  rw [List.take_of_length_le (by rw [Array.length_toList]; exact Nat.le_refl _)] at this
  exact this
theorem cntS_sum (s : ByteArray) : ∀ k, cntS s k = cntB s 92 k + cntB s 34 k + cntB s 9 k + cntB s 10 k
  | 0 => rfl
  | k + 1 => by
    have ih := cntS_sum s k
    simp only [cntS, cntB]
    by_cases h : spc (bt s k)
    · rw [if_pos h]
      rcases h with h | h | h | h <;> (rw [h]; simp; omega)
    · rw [if_neg h]
      unfold spc at h
      rw [if_neg (by omega), if_neg (by omega), if_neg (by omega), if_neg (by omega)]
      omega
theorem cntB_le (s : ByteArray) (c : Int) : ∀ k, cntB s c k ≤ k
  | 0 => Nat.le_refl _
  | k + 1 => by have := cntB_le s c k; rw [cntB]; split <;> omega

theorem strOf_app (a b : List Int) : strOfNums (a ++ b) = strOfNums a ++ strOfNums b := by
  apply ByteArray.ext
  apply Array.toList_inj.1
  rw [ByteArray.data_append, Array.toList_append, strOfNums_data, strOfNums_data, strOfNums_data, List.map_append]

end Go.Proofs.YtlfmiikpbdhemaaGreatDoor.Esc
