/-
  Go's strings.Replacer over eight fixed texts: the table that its building lays.
-/
import Derived.Test.YtlfmiikpbdhemaaGreatDoorOnce
import Derived.Lib.ConvBytes
import Derived.Deep.OwnRows
namespace Go.Proofs.YtlfmiikpbdhemaaGreatDoor.Esc
open Go.ChangeShapes Go.WideShapes Go.ChangeAt Go.RowKit Go.PlainAid Go.Maps Go.Lib
open Go.Proofs.YtlfmiikpbdhemaaGreatDoor.Dec Go.Proofs.YtlfmiikpbdhemaaGreatDoor.Lex
open Go.Proofs.YtlfmiikpbdhemaaGreatDoor.DecPure Go.Proofs.YtlfmiikpbdhemaaGreatDoor.ReadPure Go.Proofs.YtlfmiikpbdhemaaGreatDoor.LexPure
set_option linter.unusedVariables false

def ordS : List ByteArray := [⟨#[92]⟩, ⟨#[34]⟩, ⟨#[9]⟩, ⟨#[10]⟩]
def sndB (i : Nat) : Int := if i = 92 then 92 else if i = 34 then 34 else if i = 9 then 116 else 110
def dn (m i : Nat) : Prop := (1 ≤ m ∧ i = 92) ∨ (2 ≤ m ∧ i = 34) ∨ (3 ≤ m ∧ i = 9) ∨ (4 ≤ m ∧ i = 10)

/-- The table of replacements in block b, the first m of them laid; the texts to replace in v. -/
structure Tab (lo : Nat) (w : World) (b m : Nat) (f : Nat → Value) (v : Value) : Prop where
  base : lo ≤ b
  row : w.rowIs b 116 257 f
  last : f 256 = v
  own : w.ownsRow lo 9 1 v m ((ordS.take m).map Value.string)
  no : ∀ i, i < 256 → ¬ dn m i → f i = .slice none 0 0
  yes : ∀ i, dn m i → ∃ g cap, lo ≤ g ∧ f i = .slice (some ⟨g, 0, none⟩) 2 cap ∧ (∃ C fz, w.heap[g]? = some (.cells C 5 fz)) ∧ w.cell? ⟨g, 0, none⟩ = some (.int .u8 92) ∧ w.cell? ⟨g, 1, none⟩ = some (.int .u8 (sndB i))

theorem own_same {B : Nat} {w w' : World} {t : TypeId} {v : Value} {n : Nat} {L : List Value} (h : w.ownsRow B t 1 v n L) (hb : ∀ x, v.ownBlock = some x → w'.heap[x]? = w.heap[x]?) : w'.ownsRow B t 1 v n L := by
  rcases h with ⟨q1, q2 | ⟨x, cap, cur, rfl, q3, q4, q5⟩⟩
  · exact ⟨q1, Or.inl q2⟩
  · exact ⟨q1, Or.inr ⟨x, cap, cur, rfl, q3, by rw [hb x rfl]; exact q4, q5⟩⟩
theorem own_ne {B : Nat} {w : World} {t t' : TypeId} {v : Value} {n : Nat} {L : List Value} (h : w.ownsRow B t 1 v n L) {x : Nat} {C : Array Value} {fz : Nat × Nat} (hx : w.heap[x]? = some (.cells C t' fz)) (ht : t' ≠ t) : some x ≠ v.ownBlock := by
  intro e
  rcases h with ⟨q1, ⟨q2, _⟩ | ⟨y, cap, cur, q2, q3, q4, q5⟩⟩
  · subst q2; cases e
  · subst q2
    simp only [Value.ownBlock, Option.some.injEq] at e
    subst e
    rw [q4] at hx
    simp only [Option.some.injEq, Obj.cells.injEq] at hx
    exact ht hx.2.1.symm
theorem row_heap {w : World} {b n : Nat} {t : TypeId} {f : Nat → Value} (h : w.rowIs b t n f) : ∃ C fz, w.heap[b]? = some (.cells C t fz) := by
  obtain ⟨C, hC, _⟩ := h
  exact ⟨C, _, hC⟩
theorem cellOf {w w' : World} {g i : Nat} {x : Value} (h : w'.heap[g]? = w.heap[g]?) (c : w.cell? ⟨g, i, none⟩ = some x) : w'.cell? ⟨g, i, none⟩ = some x := (World.cell?_of_block (w := w) (w' := w') (a := ⟨g, i, none⟩) h).trans c
theorem heap_lt {w : World} {x : Nat} {o : Obj} (h : w.heap[x]? = some o) : x < w.heap.size := (Array.getElem?_eq_some_iff.1 h).1

theorem Tab.same {lo b m : Nat} {w w' : World} {f : Nat → Value} {v : Value} (h : Tab lo w b m f v) (hk : ∀ x, lo ≤ x → x < w.heap.size → w'.heap[x]? = w.heap[x]?) : Tab lo w' b m f v := by
  obtain ⟨C, fz, hC⟩ := row_heap h.row
  refine ⟨h.base, h.row.of_block (hk b h.base (heap_lt hC)), h.last, own_same h.own (fun x hx => ?_), h.no, fun i hi => ?_⟩
  · have := World.ownsRow.lt h.own x hx
    exact hk x this.1 this.2
  · obtain ⟨g, cap, hg, hf, ⟨D, gz, hD⟩, c0, c1⟩ := h.yes i hi
    have hb := hk g hg (heap_lt hD)
    exact ⟨g, cap, hg, hf, ⟨D, gz, hb.trans hD⟩, (World.cell?_of_block (w := w) hb).trans c0, (World.cell?_of_block (w := w) hb).trans c1⟩

theorem Tab.step {lo b m : Nat} {w w1 : World} {f : Nat → Value} {v v1 : Value} (h : Tab lo w b m f v) (hg : w.grownBy w1 v.ownBlock)
    (hown : w1.ownsRow lo 9 1 v1 (m + 1) ((ordS.take (m + 1)).map Value.string)) (o : Nat) (ho : o < 256) (hdn : ∀ i, dn (m + 1) i ↔ (dn m i ∨ i = o))
    (t : ByteArray) (ht : t.size = 2) (h0 : ((t.data.toList.getD 0 0).toNat : Int) = 92) (h1 : ((t.data.toList.getD 1 0).toNat : Int) = sndB o) (hlo : lo ≤ w.heap.size) (cap : Nat) (s : Nat) (hs : s = (w1.setCell ⟨b, 256, none⟩ v1).heap.size) :
    Tab lo ((bytesWorld (w1.setCell ⟨b, 256, none⟩ v1) 5 t).setCell ⟨b, o, none⟩ (.slice (some ⟨s, 0, none⟩) 2 cap)) b (m + 1)
      (fun i => if i = o then .slice (some ⟨s, 0, none⟩) 2 cap else if i = 256 then v1 else f i) v1 := by
  obtain ⟨C, fz, hC⟩ := row_heap h.row
  have hbne := own_ne h.own hC (by decide)
  have hb1 := hg.block b (heap_lt hC) hbne
  have hC1 := hb1.trans hC
  have hsz : (w1.setCell ⟨b, 256, none⟩ v1).heap.size = w1.heap.size := by simp [World.setCell]
  have hbl : b < w1.heap.size := heap_lt hC1
  have hr1 := h.row.of_block hb1
  have hr2 := hr1.set 256 v1
  have hr3 := hr2.of_block (bytesWorld_at_old (w1.setCell ⟨b, 256, none⟩ v1) 5 t b (by rw [hsz]; exact hbl))
  have hr4 := hr3.set o (.slice (some ⟨s, 0, none⟩) 2 cap)
  -- a block that is not b and was there holds what it held
  have keep : ∀ x, x < w1.heap.size → x ≠ b → ((bytesWorld (w1.setCell ⟨b, 256, none⟩ v1) 5 t).setCell ⟨b, o, none⟩ (.slice (some ⟨s, 0, none⟩) 2 cap)).heap[x]? = w1.heap[x]? := fun x hx hne =>
    (Below.heap_setCell _ _ _ x hne).trans ((bytesWorld_at_old _ _ _ x (by rw [hsz]; exact hx)).trans (Below.heap_setCell _ _ _ x hne))
  refine ⟨h.base, hr4, by show (if (256 : Nat) = o then _ else _) = _; rw [if_neg (by omega), if_pos rfl], own_same hown (fun x hx => ?_), fun i hi hn => ?_, fun i hi => ?_⟩
  · have hl := (World.ownsRow.lt hown x hx).2
    exact keep x hl (fun e => by subst e; exact own_ne hown hC1 (by decide) hx.symm)
  · have hno : ¬ dn m i ∧ i ≠ o := by
      refine ⟨fun hd => hn ((hdn i).2 (.inl hd)), fun e => hn ((hdn i).2 (.inr e))⟩
    show (if i = o then _ else if i = 256 then _ else f i) = _
    rw [if_neg hno.2, if_neg (by omega)]
    exact h.no i hi hno.1
  · by_cases e : i = o
    · subst e
      have hb3 : ((bytesWorld (w1.setCell ⟨b, 256, none⟩ v1) 5 t).setCell ⟨b, i, none⟩ (.slice (some ⟨s, 0, none⟩) 2 cap)).heap[s]? = (bytesWorld (w1.setCell ⟨b, 256, none⟩ v1) 5 t).heap[s]? := Below.heap_setCell _ _ _ s (by rw [hs, hsz]; show w1.heap.size ≠ b; omega)
      have hnew := bytesWorld_at_new (w1.setCell ⟨b, 256, none⟩ v1) 5 t
      rw [← hs] at hnew
      refine ⟨s, cap, by have := hg.size; omega, by simp, ⟨_, _, hb3.trans hnew⟩, ?_, ?_⟩
      · refine (World.cell?_of_block (w := bytesWorld (w1.setCell ⟨b, 256, none⟩ v1) 5 t) hb3).trans ?_
        rw [hs, bytesWorld_cell _ _ _ 0 (by omega)]
        simpa using h0
      · refine (World.cell?_of_block (w := bytesWorld (w1.setCell ⟨b, 256, none⟩ v1) 5 t) hb3).trans ?_
        rw [hs, bytesWorld_cell _ _ _ 1 (by omega)]
        simpa using h1
    · have hd : dn m i := by
        rcases (hdn i).1 hi with hd | hd
        · exact hd
        · exact absurd hd e
      obtain ⟨g, cap', hlg, hf, ⟨D, gz, hD⟩, c0, c1⟩ := h.yes i hd
      have hgo := own_ne h.own hD (by decide)
      have hg1 := hg.block g (heap_lt hD) hgo
      have hgb : g ≠ b := by
        intro e2
        subst e2
        rw [hC] at hD
        simp only [Option.some.injEq, Obj.cells.injEq] at hD
        exact absurd hD.2.1 (by decide)
      have hb3 := (keep g (heap_lt (hg1.trans hD)) hgb).trans hg1
      have hi256 : i ≠ 256 := by unfold dn at hd; omega
      refine ⟨g, cap', hlg, by rw [if_neg e, if_neg hi256]; exact hf, ⟨D, gz, hb3.trans hD⟩, cellOf hb3 c0, cellOf hb3 c1⟩

end Go.Proofs.YtlfmiikpbdhemaaGreatDoor.Esc
