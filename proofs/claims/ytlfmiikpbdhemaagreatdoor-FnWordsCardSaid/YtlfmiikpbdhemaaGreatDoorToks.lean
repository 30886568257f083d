/-
  A row of tokens that a call has made: reading it, appending a token to it.
-/
import Derived.Test.YtlfmiikpbdhemaaGreatDoorBuf
namespace Go.Proofs.YtlfmiikpbdhemaaGreatDoor.Lex
open Go.ChangeShapes Go.WideShapes Go.ChangeAt Go.RowKit Go.PlainAid Go.Maps
open Go.Proofs.YtlfmiikpbdhemaaGreatDoor.Dec
open Go.Proofs.YtlfmiikpbdhemaaGreatDoor.DecPure Go.Proofs.YtlfmiikpbdhemaaGreatDoor.ReadPure Go.Proofs.YtlfmiikpbdhemaaGreatDoor.LexPure
set_option linter.unusedVariables false

def tc4 (t : Tk) : List Value := [.int .i64 t.kind, .string t.s, .int .i64 t.n, .int .i64 t.pos]
def tokCells (l : List Tk) : List Value := l.flatMap tc4
theorem tokCells_len : ∀ l : List Tk, (tokCells l).length = l.length * 4
  | [] => rfl
  | t :: l => by
    have ih := tokCells_len l
    unfold tokCells at ih ⊢
    rw [List.flatMap_cons, List.length_append, ih, List.length_cons]
    show 4 + l.length * 4 = _
    omega
theorem tokCells_at : ∀ (l : List Tk) (i f : Nat), i < l.length → f < 4 → (tokCells l)[i * 4 + f]? = (tc4 (tth l i))[f]?
  | [], i, f, h, _ => by simp at h
  | t :: l, 0, f, _, hf => by
    unfold tokCells
    rw [List.flatMap_cons, List.getElem?_append_left (by show 0 * 4 + f < 4; omega)]
    simp [tth]
  | t :: l, i + 1, f, h, hf => by
    have ih := tokCells_at l i f (by simpa using h) hf
    unfold tokCells at ih ⊢
    rw [List.flatMap_cons, List.getElem?_append_right (by show 4 ≤ (i + 1) * 4 + f; omega)]
    rw [show (i + 1) * 4 + f - (tc4 t).length = i * 4 + f from by show (i + 1) * 4 + f - 4 = _; omega, ih]
    simp [tth]
theorem tokCells_add (l : List Tk) (t : Tk) : tokCells (l ++ [t]) = tokCells l ++ tc4 t := by simp [tokCells]

def TR (B : Nat) (w : World) (v : Value) (l : List Tk) : Prop := w.ownsRow B 30 4 v l.length (tokCells l)
theorem TR.nil (B : Nat) (w : World) : TR B w (.slice none 0 0) [] := World.ownsRow_nil _ _ _ _
theorem TR.lt {B : Nat} {w : World} {v : Value} {l : List Tk} (h : TR B w v l) (x : Nat) (hx : v.ownBlock = some x) : B ≤ x ∧ x < w.heap.size := World.ownsRow.lt h x hx
theorem TR.same {B : Nat} {w w' : World} {v : Value} {l : List Tk} (h : TR B w v l) (hb : ∀ x, v.ownBlock = some x → w'.heap[x]? = w.heap[x]?) : TR B w' v l := by
  rcases h with ⟨q1, q2 | ⟨x, cap, cur, rfl, q3, q4, q5⟩⟩
  · exact ⟨q1, Or.inl q2⟩
  · exact ⟨q1, Or.inr ⟨x, cap, cur, rfl, q3, by rw [hb x rfl]; exact q4, q5⟩⟩
theorem TR.below {B C : Nat} {w w' : World} {v : Value} {l : List Tk} (h : TR B w v l) (hb : Below C w w') (hC : w.heap.size ≤ C) : TR B w' v l :=
  h.same fun x hx => hb.block x (by have := (h.lt x hx).2; omega)
theorem TR.alloc {B : Nat} {w : World} {v : Value} {l : List Tk} (h : TR B w v l) (o : Obj) : TR B (w.alloc o) v l := World.ownsRow.alloc h o
theorem TR.setCell {B : Nat} {w : World} {v : Value} {l : List Tk} (h : TR B w v l) {p : Addr} (hp : v.ownBlock ≠ some p.block) (u : Value) : TR B (w.setCell p u) v l :=
  h.same fun x hx => Below.heap_setCell w p u x (fun e => hp (by rw [hx, e]))
theorem TR.form {B : Nat} {w : World} {v : Value} {l : List Tk} (h : TR B w v l) : ∃ ao cap, v = .slice ao l.length cap := by
  rcases h.2 with ⟨q, q0⟩ | ⟨_, _, _, q, _⟩
  · exact ⟨none, 0, by rw [q, q0]⟩
  · exact ⟨_, _, q⟩
theorem TR.at {B : Nat} {w : World} {v : Value} {l : List Tk} (h : TR B w v l) {i : Nat} (hi : i < l.length) :
    ∃ g cap, v = .slice (some ⟨g, 0, none⟩) l.length cap ∧ w.cell? ⟨g, i * 4, none⟩ = some (.int .i64 (tth l i).kind) ∧ w.cell? ⟨g, i * 4 + 1, none⟩ = some (.string (tth l i).s) ∧
      w.cell? ⟨g, i * 4 + 2, none⟩ = some (.int .i64 (tth l i).n) ∧ w.cell? ⟨g, i * 4 + 3, none⟩ = some (.int .i64 (tth l i).pos) ∧ ∀ j, w.frozen? ⟨g, j, none⟩ = false := by
  rcases h.2 with ⟨q, q0⟩ | ⟨g, cap, _, rfl, _⟩
  · omega
  · refine ⟨g, cap, rfl, ?_, ?_, ?_, ?_, fun j => World.ownsRow.frozenAt h j⟩
    · rw [World.ownsRow.cellAt h _ (by omega)]; exact tokCells_at l i 0 hi (by omega)
    · rw [World.ownsRow.cellAt h _ (by omega)]; exact tokCells_at l i 1 hi (by omega)
    · rw [World.ownsRow.cellAt h _ (by omega)]; exact tokCells_at l i 2 hi (by omega)
    · rw [World.ownsRow.cellAt h _ (by omega)]; exact tokCells_at l i 3 hi (by omega)
theorem infoTok : (Tryz.prog.info? 30).map (fun i => (i.zero, i.size, i.bytes)) = some (some (.agg #[.int .i64 0, .string ⟨#[]⟩, .int .i64 0, .int .i64 0]), 4, 40) := by kernel_rfl

theorem tok_push {ops : Array Oper} {rest : List Oper} {o : Oper} {a : Act} {Q : Exit → Act → World → Prop} (B : Nat) (w : World) (v : Value) (l : List Tk) (t : Tk)
    (hgd : o.guard = none) (s y : Operand) (ho : o.op = .call { callee := .builtin .append, args := #[s, y], argTypes := #[24, 24] }) (hs : a.eval s = v) (hy : a.eval y = .slice (some ⟨w.heap.size, 0, none⟩) 1 1)
    (h : TR B w v l) (hl : l.length ≤ 10000000) (hB : B ≤ w.heap.size)
    (hK : ∀ v1 w1, TR B w1 v1 (l ++ [t]) → w.grownBy w1 v.ownBlock → wpList Tryz.prog ops Q rest (a.put o.dst v1) w1) :
    wpList Tryz.prog ops Q (o :: rest) a (w.alloc (.cells #[.int .i64 t.kind, .string t.s, .int .i64 t.n, .int .i64 t.pos] 30)) := by
  obtain ⟨i0, hi, hz0, hz1, hz2⟩ := info_parts infoTok
  refine wpList_append_lies _ hgd s y 24 ho B 30 i0 _ 4 40 Tryz.underlying24 hi hz0 hz1 hz2 rfl (by omega) v l.length _ hs (World.ownsRow.alloc h _) ⟨w.heap.size, 0, none⟩ 1 1 (tc4 t) hy rfl ?_ ?_ (by omega) (by unfold maxLen; omega) (by omega) (by simp; omega) _ rfl ?_
  · exact World.news_of_block (Go.Deep.blk_alloc_new w (.cells #[.int .i64 t.kind, .string t.s, .int .i64 t.n, .int .i64 t.pos] 30))
  · intro u hu
    simp only [tc4, List.mem_cons, List.not_mem_nil, or_false] at hu
    rcases hu with rfl | rfl | rfl | rfl <;> rfl
  · intro g cap w1 hown hgrow _ _
    refine hK _ w1 ?_ ((World.grownBy_alloc w _ _).trans hgrow)
    unfold TR
    rw [List.length_append, List.length_singleton, tokCells_add]
    exact hown

end Go.Proofs.YtlfmiikpbdhemaaGreatDoor.Lex
