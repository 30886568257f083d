/-
  Plain facts of formats: what Places, PlaceKinds and Format say of one another.
-/
import Derived.Test.YthaedmldlenhgaaGreatDoorPures
import Derived.Test.YthaedmldlenhgaaGreatDoorRead
namespace Go.Proofs.YthaedmldlenhgaaGreatDoor.Strs
open Go.Proofs.YthaedmldlenhgaaGreatDoor.Dec
open Go.Proofs.YthaedmldlenhgaaGreatDoor.DecPure Go.Proofs.YthaedmldlenhgaaGreatDoor.ReadPure Go.Proofs.YthaedmldlenhgaaGreatDoor.TextPure Go.Proofs.YthaedmldlenhgaaGreatDoor.CellPure
set_option linter.unusedVariables false

theorem kinds_size (f : ByteArray) : (strOfNums (kindsP f)).size = (placesP f).1 := by
  have e : ∀ L : List Int, (strOfNums L).size = L.length := fun L => by simp [strOfNums, ByteArray.size]
  rw [e]
  unfold kindsP placesP
  split
  · rfl
  · cases its f 0 with
    | none => rfl
    | some l => exact kindL_len l
theorem fmt_not {f : ByteArray} {l : List Ce} (h : (fmtP f l).2 ≠ 0) : (fmtP f l).1 = ⟨#[]⟩ ∧ ((placesP f).2 = true ∨ (fmtP f l).2 = 1) := by
  unfold fmtP at h ⊢
  by_cases h1 : (placesP f).2 = false ∨ okL l = false
  · rw [if_pos h1]; exact ⟨rfl, .inr rfl⟩
  · have hp : (placesP f).2 = true := by
      cases hq : (placesP f).2 with
      | true => rfl
      | false => exact absurd (.inl hq) h1
    rw [if_neg h1] at h ⊢
    by_cases h2 : l.length < (placesP f).1
    · rw [if_pos h2]; exact ⟨rfl, .inl hp⟩
    · rw [if_neg h2] at h ⊢
      by_cases h3 : 500 < (outP ((its f 0).getD []) l).size
      · rw [if_pos h3]; exact ⟨rfl, .inl hp⟩
      · rw [if_neg h3] at h; exact absurd rfl h
def zeroC : Ce := ⟨0, 0, ⟨#[]⟩⟩
theorem nth_more {l : List Ce} {i : Nat} (h : i < l.length) (z : Ce) : nthC (l ++ [z]) i = nthC l i := by
  simp [nthC, List.getD, List.getElem?_append_left h]
theorem out_more (z : Ce) : ∀ (a : List It) (l : List Ce), nCv a ≤ l.length → outP a (l ++ [z]) = outP a l
  | [], l, _ => rfl
  | x :: a, l, h => by
    rw [outP, outP]
    rw [nCv] at h
    by_cases hk : x.kind = 0
    · rw [if_pos hk] at h
      rw [if_pos hk, if_pos hk, out_more z a l (by omega)]
      congr 1
      unfold pieceP
      rw [if_pos hk, if_pos hk]
    · rw [if_neg hk] at h
      rw [if_neg hk, if_neg hk, nth_more (by omega), List.drop_append_of_le_length (by omega), out_more z a _ (by rw [List.length_drop]; omega)]
theorem fmt_more {f : ByteArray} {l : List Ce} (h : (fmtP f l).2 = 0) : fmtP f (l ++ [zeroC]) = fmtP f l ∧ (placesP f).1 ≤ l.length ∧ (fmtP f l).1.size ≤ 500 := by
  unfold fmtP at h ⊢
  by_cases h1 : (placesP f).2 = false ∨ okL l = false
  · rw [if_pos h1] at h; cases h
  · rw [if_neg h1] at h ⊢
    by_cases h2 : l.length < (placesP f).1
    · rw [if_pos h2] at h; cases h
    · rw [if_neg h2] at h ⊢
      by_cases h3 : 500 < (outP ((its f 0).getD []) l).size
      · rw [if_pos h3] at h; cases h
      · rw [if_neg h3]
        have hok : okL (l ++ [zeroC]) = okL l := by
          unfold okL
          rw [List.all_append]
          have : [zeroC].all (fun c => cOk c.t c.n c.s) = true := by decide +kernel
          rw [this, Bool.and_true]
        have hcv : nCv ((its f 0).getD []) ≤ l.length := by
          have : (placesP f).1 = nCv ((its f 0).getD []) := by
            by_cases hz : 500 < f.size
            · exact absurd (.inl (by unfold placesP; rw [if_pos hz])) h1
            · unfold placesP
              rw [if_neg hz]
              cases its f 0 with
              | none => rfl
              | some a => rfl
          omega
        refine ⟨?_, by omega, by show (outP _ l).size ≤ 500; omega⟩
        rw [hok, if_neg h1, if_neg (by rw [List.length_append]; simp; omega), out_more zeroC _ l hcv, if_neg h3]
end Go.Proofs.YthaedmldlenhgaaGreatDoor.Strs
