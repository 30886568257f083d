/-
  An argument that is a slice of strings: what its reading says of the memory; rows of a call's own and copies as slices that can be read.
-/
import Derived.Test.YtnkldjijjpcmhaaPgInts
import Derived.Test.YtnkldjijjpcmhaaJoinSpec
import Derived.Lib.SmallJoins
import Derived.Deep.Slices
import Derived.Deep.Strs
import Derived.ChangeSlices
namespace Go.Proofs.Ytnkldjijjpcmhaa.Strs
open Go.ChangeShapes Go.WideShapes Go.ChangeAt Go.RowKit Go.PlainAid Go.Deep
open Go.Proofs.Ytnkldjijjpcmhaa.PgPure Go.Proofs.Ytnkldjijjpcmhaa.Pg
set_option linter.unusedVariables false

theorem strs_open {H : Type} {enc : TypeId × Value → H} {w : World} {fuel : Nat} {cs : List Value} {x : DataW H × List MemPlace}
    (h : DataW.trod enc Try.prog w 0 (fun _ => true) true fuel 24 cs = some x) : ∃ v l, cs = [v] ∧ StrsAt w.heap.size w v l := by
  rcases open_strs Try.underlying24 Try.underlying9 (by kernel_rfl : (Try.prog).cellsOf 9 = 1) h with ⟨rfl, _⟩ | ⟨a, len, cap, m, Sx, rfl, _, hl, hm, hmm, _, hcell⟩
  · exact ⟨_, [], rfl, none, 0, rfl, Nat.le_refl _, Nat.zero_le _, fun i hi => by simp at hi⟩
  · simp only [if_true] at hmm
    refine ⟨_, (List.range len).map Sx, rfl, some a, cap, by simp, by simpa using hl, hm, fun i hi => ?_⟩
    have hi' : i < len := by simpa using hi
    obtain ⟨b, off, spot⟩ := a
    obtain ⟨h1, h2⟩ := hcell i (by omega)
    have hs : spot = none := by simpa [Addr.add] using World.cell?_spot (hcell 0 (by omega)).1
    subst hs
    rw [add_plain] at h1
    rw [show gs ((List.range len).map Sx) i = Sx i from by simp [gs, List.getD, hi']]
    exact ⟨b, off, rfl, World.block_lt_of_cell? w ⟨b, off + i, none⟩ h1, h1, h2⟩

theorem tot_at (l : List ByteArray) {i n : Nat} (h : i < n) : (gs l i).size + l.length ≤ totS l n := by
  have h1 := totS_mono l (i + 1) (n - (i + 1))
  rw [show i + 1 + (n - (i + 1)) = n by omega] at h1
  have h2 : totS l (i + 1) = totS l i + (gs l i).size := rfl
  have h3 := totS_ge l i
  omega
theorem sat_gs (l : List ByteArray) (i : Nat) : sat l i = gs l i := rfl
/-- A copy that was made can be read. -/
theorem read_row {w : World} {g : Nat} {l : List ByteArray} (h : w.rowIs g 9 l.length (fun j => .string (gs l j))) (hs : ∀ i, i < l.length → (gs l i).size ≤ 1048576) : RdS w (.slice (some ⟨g, 0, none⟩) l.length l.length) l :=
  ⟨_, _, rfl, Nat.le_refl _, fun i hi => ⟨g, 0, rfl, by rw [Nat.zero_add]; exact h.cell hi, hs i hi⟩⟩
/-- A copy that was made is a row of the call's own. -/
theorem sr_row {w : World} {g B : Nat} {l : List ByteArray} (h : w.rowIs g 9 l.length (fun j => .string (gs l j))) (hB : B ≤ g) (hl : l.length ≤ maxLen) : SR B w (.slice (some ⟨g, 0, none⟩) l.length l.length) l := by
  obtain ⟨c, hc, hs, hi⟩ := h
  refine ⟨by simp, .inr ⟨g, l.length, c, rfl, hB, hc, Nat.le_refl _, hl, by rw [hs, Nat.mul_one], ?_⟩⟩
  rw [Nat.mul_one, List.take_of_length_le (by rw [Array.length_toList, hs]; exact Nat.le_refl _)]
  apply List.ext_getElem?
  intro i
  by_cases hlt : i < l.length
  · rw [Array.getElem?_toList, hi i hlt, List.getElem?_map, List.getElem?_eq_getElem hlt]
    simp [gs, List.getD, hlt]
  · rw [Array.getElem?_toList, Array.getElem?_eq_none (by omega), List.getElem?_eq_none (by simp; omega)]

end Go.Proofs.Ytnkldjijjpcmhaa.Strs
