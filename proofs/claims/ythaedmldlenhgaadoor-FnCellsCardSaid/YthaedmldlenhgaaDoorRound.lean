/-
  Reading the printed text of a decimal gives it back: the three readings that the law asks for.
-/
import Derived.Test.YthaedmldlenhgaaDoorRoundPure
namespace Go.Proofs.YthaedmldlenhgaaDoor.RoundPure
open Go Go.RowKit Go.PlainAid
open Go.Proofs.YthaedmldlenhgaaDoor.DecPure Go.Proofs.YthaedmldlenhgaaDoor.TextPure Go.Proofs.YthaedmldlenhgaaDoor.ReadPure
set_option linter.unusedVariables false

theorem looks_of {s : ByteArray} {k : Nat} (h0 : 0 < k) (h1 : rdK s = (k : Nat)) (h2 : endOf spB s k = s.size) : looksB s = true := by
  unfold looksB
  rw [h1, Int.toNat_natCast, h2]
  simp; omega
theorem back {n : Int} (hn : dOk n = true) {s : ByteArray} (hs : s = dtB n) :
    s.size ≤ 28 ∧ rdN (s ++ ⟨#[32]⟩) = n ∧ rdK (s ++ ⟨#[32]⟩) = (s.size : Int) ∧ looksB s = true ∧ looksB (⟨#[9]⟩ ++ s ++ ⟨#[32]⟩) = true := by
  have e : s = strOfNums (tL n) := by rw [hs, dtB, if_pos hn, textB_nums]
  have hz : s.size = (tL n).length := by rw [e, strOfNums_size]
  have hsz : s.size ≤ 28 := by
    have h1 := head_size n hn
    have h2 := fracL_size n
    have h3 : s = headB n ++ strOfNums (fracL n) := by rw [hs, dtB, if_pos hn, textB_head]
    rw [h3, ByteArray.size_append]; omega
  have e1 : s ++ ⟨#[32]⟩ = strOfNums ([] ++ tL n ++ [32]) := by
    have : (⟨#[32]⟩ : ByteArray) = strOfNums [32] := rfl
    rw [this, e, join_nums]; rfl
  have e2 : ⟨#[9]⟩ ++ s ++ ⟨#[32]⟩ = strOfNums ([9] ++ tL n ++ [32]) := by
    have h1 : (⟨#[32]⟩ : ByteArray) = strOfNums [32] := rfl
    have h2 : (⟨#[9]⟩ : ByteArray) = strOfNums [9] := rfl
    rw [h1, h2, e, join_nums, join_nums]
  have e3 : s = strOfNums ([] ++ tL n ++ []) := by rw [e]; simp
  have sp32 : ∀ x ∈ ([32] : List Int), spB x = true := by intro x hx; simp at hx; subst hx; rfl
  have sp9 : ∀ x ∈ ([9] : List Int), spB x = true := by intro x hx; simp at hx; subst hx; rfl
  have sp0 : ∀ x ∈ ([] : List Int), spB x = true := by intro x hx; cases hx
  obtain ⟨a1, a2, a3, a4⟩ := read_back [] [32] sp0 sp32 n hn _ e1
  obtain ⟨b1, b2, b3, b4⟩ := read_back [9] [32] sp9 sp32 n hn _ e2
  obtain ⟨c1, c2, c3, c4⟩ := read_back [] [] sp0 sp0 n hn _ e3
  refine ⟨hsz, a1, by rw [a2, hz]; simp, looks_of (by simp; omega) c2 c3, looks_of (by simp; omega) b2 b3⟩
end Go.Proofs.YthaedmldlenhgaaDoor.RoundPure
