/-
  Plain facts on places: the line of an offset and where that line begins, against counting newlines and finding the last one.
-/
import Derived.Test.YtngiidocgjbooaaGreatDoorReadPure
import Derived.Lib.Bytealg
import Derived.Lib.LastIndexByte
namespace Go.Proofs.YtngiidocgjbooaaGreatDoor.PlacePure
open Go Go.RowKit Go.PlainAid
open Go.Proofs.YtngiidocgjbooaaGreatDoor.DecPure Go.Proofs.YtngiidocgjbooaaGreatDoor.ReadPure
set_option linter.unusedVariables false

def lineN (s : ByteArray) : Nat → Nat
  | 0 => 1
  | k + 1 => if bt s k = 10 then lineN s k + 1 else lineN s k
def fromN (s : ByteArray) : Nat → Nat
  | 0 => 0
  | k + 1 => if bt s k = 10 then k + 1 else fromN s k
theorem lineN_pos (s : ByteArray) : ∀ k, 1 ≤ lineN s k
  | 0 => Nat.le_refl _
  | k + 1 => by have := lineN_pos s k; rw [lineN]; split <;> omega
theorem lineN_le (s : ByteArray) : ∀ k, lineN s k ≤ k + 1
  | 0 => Nat.le_refl _
  | k + 1 => by have := lineN_le s k; rw [lineN]; split <;> omega
theorem fromN_le (s : ByteArray) : ∀ k, fromN s k ≤ k
  | 0 => Nat.le_refl _
  | k + 1 => by have := fromN_le s k; rw [fromN]; split <;> omega

theorem data_toList_ext (s : ByteArray) (a : Nat) : (s.extract 0 a).data.toList = s.data.toList.take a := by
  rw [ByteArray.data_extract]; simp
theorem bt_data (s : ByteArray) (k : Nat) (h : k < s.size) : bt s k = ((s.data[k]!).toNat : Int) := by
  unfold bt
  rw [dif_pos h]
  have h2 : k < s.data.size := h
  rw [getElem!_pos s.data k h2]
  rfl

theorem count_take (s : ByteArray) : ∀ k, k ≤ s.size → Lib.countByte (s.data.toList.take k) 10 + 1 = lineN s k
  | 0, _ => by simp [Lib.countByte, lineN]
  | k + 1, h => by
    have ih := count_take s k (by omega)
    have hl : k < s.data.toList.length := by rw [Array.length_toList]; exact h
    have h2 : k < s.data.size := h
    have hb := bt_data s k (by omega)
    rw [List.take_add_one, List.getElem?_eq_getElem hl]
    unfold Lib.countByte at ih ⊢
    rw [List.count_append, lineN]
    simp only [getElem!_pos, h2] at hb
    by_cases hc : bt s k = 10
    · rw [if_pos hc, ← ih]
      have : s.data[k] = 10 := by
        have h10 : (s.data[k].toNat : Int) = 10 := by rw [← hb]; exact hc
        have h11 : s.data[k].toNat = 10 := by omega
        exact UInt8.toNat_inj.mp h11
      simp [this]
    · rw [if_neg hc, ← ih]
      have : ¬ s.data[k] = 10 := by
        intro he; apply hc; rw [hb, he]; rfl
      simp [this]

theorem lastIdx_same (s t : ByteArray) (c : Int) : ∀ k, (∀ j, j < k → bt s j = bt t j) → k ≤ s.size → k ≤ t.size → Lib.lastIdx s c k = Lib.lastIdx t c k
  | 0, _, _, _ => rfl
  | k + 1, h, hs, ht => by
    rw [Lib.lastIdx, Lib.lastIdx, lastIdx_same s t c k (fun j hj => h j (by omega)) (by omega) (by omega), ← bt_data s k hs, ← bt_data t k ht, h k (by omega)]

theorem last_take (s : ByteArray) : ∀ k, k ≤ s.size → Lib.lastIdx s 10 k = (fromN s k : Int) - 1
  | 0, _ => rfl
  | k + 1, h => by
    have ih := last_take s k (by omega)
    rw [Lib.lastIdx, fromN, ← bt_data s k h, ih]
    by_cases hc : bt s k = 10
    · rw [if_pos hc, if_pos hc]; omega
    · rw [if_neg hc, if_neg hc]

theorem place_count (s : ByteArray) (k : Nat) (h : k ≤ s.size) : Lib.countByte (s.extract 0 k).data.toList 10 + 1 = lineN s k := by
  rw [data_toList_ext]; exact count_take s k h
theorem place_last (s : ByteArray) (k : Nat) (h : k ≤ s.size) : Lib.lastIndexByte (s.extract 0 k) 10 = (fromN s k : Int) - 1 := by
  unfold Lib.lastIndexByte
  rw [size_ext s 0 k h, Nat.sub_zero, ← last_take s k h]
  exact lastIdx_same _ _ _ _ (fun j hj => by rw [bt_ext s 0 k j h (by omega), Nat.zero_add]) (by rw [size_ext s 0 k h]; omega) h

end Go.Proofs.YtngiidocgjbooaaGreatDoor.PlacePure
