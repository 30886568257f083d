/-
  A row of a format's pieces that a call has made: reading it, appending to it.
-/
import Derived.Test.YthaedmldlenhgaaGreatDoorPures
import Derived.Test.YthaedmldlenhgaaGreatDoorRowB
import Derived.Deep.AppendLies
import Derived.Deep.Upon
import Derived.Lib.AppendZeros
namespace Go.Proofs.YthaedmldlenhgaaGreatDoor.Cell
open Go.ChangeShapes Go.WideShapes Go.ChangeAt Go.RowKit Go.PlainAid
open Go.Proofs.YthaedmldlenhgaaGreatDoor.Dec
open Go.Proofs.YthaedmldlenhgaaGreatDoor.DecPure Go.Proofs.YthaedmldlenhgaaGreatDoor.ReadPure Go.Proofs.YthaedmldlenhgaaGreatDoor.CellPure Go.Proofs.YthaedmldlenhgaaGreatDoor.Strs
set_option linter.unusedVariables false

def it4 (x : It) : List Value := [.string x.txt, .int .u8 x.kind, .bool x.left, .int .i64 x.wide]
def itCells (l : List It) : List Value := l.flatMap it4
def nthI (l : List It) (i : Nat) : It := l.getD i ⟨0, ⟨#[]⟩, 0, false⟩
theorem itCells_len : ∀ l : List It, (itCells l).length = l.length * 4
  | [] => rfl
  | t :: l => by
    have ih := itCells_len l
    unfold itCells at ih ⊢
    rw [List.flatMap_cons, List.length_append, ih, List.length_cons]
    show 4 + l.length * 4 = _
    omega
theorem itCells_at : ∀ (l : List It) (i f : Nat), i < l.length → f < 4 → (itCells l)[i * 4 + f]? = (it4 (nthI l i))[f]?
  | [], i, f, h, _ => by simp at h
  | t :: l, 0, f, _, hf => by
    unfold itCells
    rw [List.flatMap_cons, List.getElem?_append_left (by show 0 * 4 + f < 4; omega)]
    simp [nthI]
  | t :: l, i + 1, f, h, hf => by
    have ih := itCells_at l i f (by simpa using h) hf
    unfold itCells at ih ⊢
    rw [List.flatMap_cons, List.getElem?_append_right (by show 4 ≤ (i + 1) * 4 + f; omega)]
    rw [show (i + 1) * 4 + f - (it4 t).length = i * 4 + f from by show (i + 1) * 4 + f - 4 = _; omega, ih]
    simp [nthI]
theorem itCells_add (l k : List It) : itCells (l ++ k) = itCells l ++ itCells k := by simp [itCells]
theorem infoIt : (Tryz.prog.info? 59).map (fun i => (i.zero, i.size, i.bytes)) = some (some (.agg #[.string ⟨#[]⟩, .int .u8 0, .bool false, .int .i64 0]), 4, 32) := by kernel_rfl

def PtR (B : Nat) (w : World) (v : Value) (l : List It) : Prop := w.ownsRow B 59 4 v l.length (itCells l)
theorem PtR.nil (B : Nat) (w : World) : PtR B w (.slice none 0 0) [] := World.ownsRow_nil _ _ _ _
theorem PtR.lt {B : Nat} {w : World} {v : Value} {l : List It} (h : PtR B w v l) (x : Nat) (hx : v.ownBlock = some x) : B ≤ x ∧ x < w.heap.size := World.ownsRow.lt h x hx
theorem PtR.same {B : Nat} {w w' : World} {v : Value} {l : List It} (h : PtR B w v l) (hb : ∀ x, v.ownBlock = some x → w'.heap[x]? = w.heap[x]?) : PtR B w' v l := by
  rcases h with ⟨q1, q2 | ⟨x, cap, cur, rfl, q3, q4, q5⟩⟩
  · exact ⟨q1, Or.inl q2⟩
  · exact ⟨q1, Or.inr ⟨x, cap, cur, rfl, q3, by rw [hb x rfl]; exact q4, q5⟩⟩
theorem PtR.below {B C : Nat} {w w' : World} {v : Value} {l : List It} (h : PtR B w v l) (hb : Below C w w') (hC : w.heap.size ≤ C) : PtR B w' v l :=
  h.same fun x hx => hb.block x (by have := (h.lt x hx).2; omega)
theorem PtR.alloc {B : Nat} {w : World} {v : Value} {l : List It} (h : PtR B w v l) (o : Obj) : PtR B (w.alloc o) v l := World.ownsRow.alloc h o
theorem PtR.low {B C : Nat} {w : World} {v : Value} {l : List It} (h : PtR B w v l) (hC : C ≤ B) : PtR C w v l := by
  rcases h with ⟨q1, q2 | ⟨x, cap, cur, rfl, q3, q4, q5⟩⟩
  · exact ⟨q1, Or.inl q2⟩
  · exact ⟨q1, Or.inr ⟨x, cap, cur, rfl, Nat.le_trans hC q3, q4, q5⟩⟩
theorem PtR.form {B : Nat} {w : World} {v : Value} {l : List It} (h : PtR B w v l) : ∃ ao cap, v = .slice ao l.length cap := by
  rcases h.2 with ⟨q, q0⟩ | ⟨_, _, _, q, _⟩
  · exact ⟨none, 0, by rw [q, q0]⟩
  · exact ⟨_, _, q⟩
/-- Its pieces, one by one. -/
theorem PtR.at {B : Nat} {w : World} {v : Value} {l : List It} (h : PtR B w v l) : ∃ ao cap, v = .slice ao l.length cap ∧ ∀ i, i < l.length → ∃ g, ao = some ⟨g, 0, none⟩ ∧ B ≤ g ∧ g < w.heap.size ∧
    w.cell? ⟨g, i * 4, none⟩ = some (.string (nthI l i).txt) ∧ w.cell? ⟨g, i * 4 + 1, none⟩ = some (.int .u8 (nthI l i).kind) ∧ w.cell? ⟨g, i * 4 + 2, none⟩ = some (.bool (nthI l i).left) ∧ w.cell? ⟨g, i * 4 + 3, none⟩ = some (.int .i64 (nthI l i).wide) := by
  have h' := h
  rcases h.2 with ⟨q, q0⟩ | ⟨g, cap, cur, rfl, hg, hcur, hcap, hmax, _, _⟩
  · exact ⟨none, 0, by rw [q, q0], fun i hi => by omega⟩
  · refine ⟨_, cap, rfl, fun i hi => ⟨g, rfl, hg, (Array.getElem?_eq_some_iff.1 hcur).1, ?_⟩⟩
    refine ⟨?_, ?_, ?_, ?_⟩
    · rw [World.ownsRow.cellAt h' _ (by omega)]; exact itCells_at l i 0 hi (by omega)
    · rw [World.ownsRow.cellAt h' _ (by omega)]; exact itCells_at l i 1 hi (by omega)
    · rw [World.ownsRow.cellAt h' _ (by omega)]; exact itCells_at l i 2 hi (by omega)
    · rw [World.ownsRow.cellAt h' _ (by omega)]; exact itCells_at l i 3 hi (by omega)

theorem pt_push {ops : Array Oper} {rest : List Oper} {o : Oper} {a : Act} {Q : Exit → Act → World → Prop} (B : Nat) (w : World) (v : Value) (l : List It) (x : It) (n : Nat) (hn : w.heap.size = n)
    (hgd : o.guard = none) (s y : Operand) (ho : o.op = .call { callee := .builtin .append, args := #[s, y], argTypes := #[50, 50] }) (hs : a.eval s = v) (hy : a.eval y = .slice (some ⟨n, 0, none⟩) 1 1)
    (h : PtR B w v l) (hl : l.length ≤ 10000000) (hB : B ≤ w.heap.size)
    (hK : ∀ v1 w1, PtR B w1 v1 (l ++ [x]) → w.grownBy w1 v.ownBlock → wpList Tryz.prog ops Q rest (a.put o.dst v1) w1) :
    wpList Tryz.prog ops Q (o :: rest) a (w.alloc (.cells #[.string x.txt, .int .u8 x.kind, .bool x.left, .int .i64 x.wide] 59)) := by
  subst hn
  obtain ⟨i0, hi, hz0, hz1, hz2⟩ := info_parts infoIt
  refine wpList_append_lies _ hgd s y 50 ho B 59 i0 _ 4 32 Tryz.underlying50 hi hz0 hz1 hz2 rfl (by omega) v l.length _ hs (World.ownsRow.alloc h _) ⟨w.heap.size, 0, none⟩ 1 1 (it4 x) hy rfl ?_ ?_ (by omega) (by unfold maxLen; omega) (by omega) (by simp; omega) _ rfl ?_
  · exact World.news_of_block (Go.Deep.blk_alloc_new w (.cells #[.string x.txt, .int .u8 x.kind, .bool x.left, .int .i64 x.wide] 59))
  · intro u hu
    simp only [it4, List.mem_cons, List.not_mem_nil, or_false] at hu
    rcases hu with rfl | rfl | rfl | rfl <;> rfl
  · intro g cap w1 hown hgrow _ _
    refine hK _ w1 ?_ ((World.grownBy_alloc w _ _).trans hgrow)
    unfold PtR
    rw [List.length_append, List.length_singleton, itCells_add]
    exact hown

end Go.Proofs.YthaedmldlenhgaaGreatDoor.Cell
