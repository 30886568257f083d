/-
  Slices of values, read in a world; what measures, copies and compares them; such an argument.
-/
import Derived.Test.YthaedmldlenhgaaGreatDoorPgInts
import Derived.Test.YthaedmldlenhgaaGreatDoorCellsOk
import Derived.Test.YthaedmldlenhgaaGreatDoorPures
import Derived.Lib.SmallJoins
import Derived.Deep.Slices
import Derived.Deep.Strs
import Derived.ChangeSlices
namespace Go.Proofs.YthaedmldlenhgaaGreatDoor.Cell
open Go.ChangeShapes Go.WideShapes Go.ChangeAt Go.RowKit Go.PlainAid Go.Deep
open Go.Proofs.YthaedmldlenhgaaGreatDoor.DecPure Go.Proofs.YthaedmldlenhgaaGreatDoor.ReadPure Go.Proofs.YthaedmldlenhgaaGreatDoor.CellPure Go.Proofs.YthaedmldlenhgaaGreatDoor.PgPure Go.Proofs.YthaedmldlenhgaaGreatDoor.Pg Go.Proofs.YthaedmldlenhgaaGreatDoor.Strs
set_option linter.unusedVariables false

/-- How much the first k values weigh. -/
def totC (l : List Ce) : Nat → Nat
  | 0 => l.length
  | k + 1 => totC l k + (nthC l k).s.size
theorem totC_mono (l : List Ce) (k : Nat) : ∀ n, totC l k ≤ totC l (k + n)
  | 0 => Nat.le_refl _
  | n + 1 => by
    have := totC_mono l k n
    rw [← Nat.add_assoc, totC]; omega
theorem totC_ge (l : List Ce) (k : Nat) : l.length ≤ totC l k := by
  have := totC_mono l 0 k
  rw [Nat.zero_add] at this
  exact this
theorem totC_at (l : List Ce) {i n : Nat} (h : i < n) : (nthC l i).s.size + l.length ≤ totC l n := by
  have h1 := totC_mono l (i + 1) (n - (i + 1))
  rw [show i + 1 + (n - (i + 1)) = n by omega] at h1
  have h2 : totC l (i + 1) = totC l i + (nthC l i).s.size := rfl
  have h3 := totC_ge l i
  omega



theorem infoC : (Tryz.prog.info? 33).map (fun i => (i.zero, i.size, i.bytes)) = some (some (.agg #[.int .i64 0, .int .i64 0, .string ⟨#[]⟩]), 3, 32) := by kernel_rfl

/-- A block of the call's own: n values' cells, the first m of them laid. -/
structure OwnC (B : Nat) (w : World) (b : Nat) (l : List Ce) (n m : Nat) : Prop where
  lo : B ≤ b
  hi : b < w.heap.size
  cells : ∃ f, w.rowIs b 33 (n * 3) f
  node : ∀ i, i < m → CeAt w b (i * 3) (nthC l i)
theorem OwnC.below {B : Nat} {w w' : World} {b : Nat} {l : List Ce} {n m : Nat} (h : OwnC B w b l n m) (hb : Below w.heap.size w w') : OwnC B w' b l n m := by
  obtain ⟨f, hf⟩ := h.cells
  have hi := h.hi
  refine ⟨h.lo, Nat.lt_of_lt_of_le hi hb.size, ⟨f, rowIs_below hf hb hi⟩, fun i hi2 => ?_⟩
  have hn := h.node i hi2
  exact ⟨(hb.cell (p := ⟨b, i * 3, none⟩) hi).trans hn.c0, (hb.cell (p := ⟨b, i * 3 + 1, none⟩) hi).trans hn.c1, (hb.cell (p := ⟨b, i * 3 + 2, none⟩) hi).trans hn.c2, hn.z⟩
theorem OwnC.step {B : Nat} {w : World} {b : Nat} {l : List Ce} {n k : Nat} (h : OwnC B w b l n k) (hk : k < n) (hs : (nthC l k).s.size ≤ maxLen) :
    OwnC B (((w.setCell ⟨b, k * 3, none⟩ (.int .i64 (nthC l k).t)).setCell ⟨b, k * 3 + 1, none⟩ (.int .i64 (nthC l k).n)).setCell ⟨b, k * 3 + 2, none⟩ (.string (nthC l k).s)) b l n (k + 1) := by
  obtain ⟨f, hf⟩ := h.cells
  have hf2 := (((hf.set (k * 3) (.int .i64 (nthC l k).t)).set (k * 3 + 1) (.int .i64 (nthC l k).n)).set (k * 3 + 2) (.string (nthC l k).s))
  have hcell : ∀ j, j < n * 3 → ¬ (k * 3 ≤ j ∧ j < k * 3 + 3) → (((w.setCell ⟨b, k * 3, none⟩ (.int .i64 (nthC l k).t)).setCell ⟨b, k * 3 + 1, none⟩ (.int .i64 (nthC l k).n)).setCell ⟨b, k * 3 + 2, none⟩ (.string (nthC l k).s)).cell? ⟨b, j, none⟩ = w.cell? ⟨b, j, none⟩ := by
    intro j hj hn
    rw [hf2.cell hj, hf.cell hj]
    rw [if_neg (by omega), if_neg (by omega), if_neg (by omega)]
  refine ⟨h.lo, by simp; exact h.hi, ⟨_, hf2⟩, fun i hi => ?_⟩
  by_cases e : i = k
  · subst e
    exact ⟨by rw [hf2.cell (by omega)]; simp, by rw [hf2.cell (by omega)]; simp, by rw [hf2.cell (by omega)]; simp, hs⟩
  · have hn := h.node i (by omega)
    exact ⟨by rw [hcell _ (by omega) (by omega)]; exact hn.c0, by rw [hcell _ (by omega) (by omega)]; exact hn.c1, by rw [hcell _ (by omega) (by omega)]; exact hn.c2, hn.z⟩
theorem own_cs {B : Nat} {w : World} {b : Nat} {l : List Ce} (h : OwnC B w b l l.length l.length) (hl : l.length ≤ maxLen) : CsAt w.heap.size w (.slice (some ⟨b, 0, none⟩) l.length l.length) l :=
  ⟨_, _, rfl, Nat.le_refl _, hl, fun i hi => ⟨b, 0, rfl, h.hi, by rw [Nat.zero_add]; exact h.node i hi⟩⟩



theorem trod_struct3 {H : Type} {enc : TypeId × Value → H} {P : Program} {w : World} {base : Nat} {spare : Nat → Bool} {held : Bool} {t : TypeId} {f0 f1 f2 : Field} {fuel : Nat} {cs : List Value} {x : DataW H × List MemPlace}
    (ht : P.underlying t = some (.struct #[f0, f1, f2])) (h : DataW.trod enc P w base spare held fuel t cs = some x) :
    ∃ y0 y1 y2 n, DataW.trod enc P w base spare held n f0.type ((cs.drop f0.offset).take (P.cellsOf f0.type)) = some y0 ∧
      DataW.trod enc P w base spare held n f1.type ((cs.drop f1.offset).take (P.cellsOf f1.type)) = some y1 ∧ DataW.trod enc P w base spare held n f2.type ((cs.drop f2.offset).take (P.cellsOf f2.type)) = some y2 := by
  obtain ⟨xs, n, _, rfl, hl, hlen, hf⟩ := DataW.trod_struct ht h
  match xs, hlen with
  | [y0, y1, y2], _ => exact ⟨y0, y1, y2, n, by simpa using hf 0 f0 rfl, by simpa using hf 1 f1 rfl, by simpa using hf 2 f2 rfl⟩
theorem list3 {α : Type} {l : List α} (h : l.length = 3) : ∃ a b c, l = [a, b, c] := by
  match l, h with
  | [a, b, c], _ => exact ⟨a, b, c, rfl⟩



end Go.Proofs.YthaedmldlenhgaaGreatDoor.Cell
