/-
  A row of values that a call has made: reading it, appending to it.
-/
import Derived.Test.YthaedmldlenhgaaGreatDoorCellRow
import Derived.Deep.AppendLies
import Derived.Deep.Upon
import Derived.Lib.AppendZeros
namespace Go.Proofs.YthaedmldlenhgaaGreatDoor.Cell
open Go.ChangeShapes Go.WideShapes Go.ChangeAt Go.RowKit Go.PlainAid Go.Maps
open Go.Proofs.YthaedmldlenhgaaGreatDoor.Dec
open Go.Proofs.YthaedmldlenhgaaGreatDoor.DecPure Go.Proofs.YthaedmldlenhgaaGreatDoor.ReadPure Go.Proofs.YthaedmldlenhgaaGreatDoor.CellPure Go.Proofs.YthaedmldlenhgaaGreatDoor.Strs
set_option linter.unusedVariables false

def ce3 (c : Ce) : List Value := [.int .i64 c.t, .int .i64 c.n, .string c.s]
def ceCells (l : List Ce) : List Value := l.flatMap ce3
theorem ceCells_len : ∀ l : List Ce, (ceCells l).length = l.length * 3
  | [] => rfl
  | t :: l => by
    have ih := ceCells_len l
    unfold ceCells at ih ⊢
    rw [List.flatMap_cons, List.length_append, ih, List.length_cons]
    show 3 + l.length * 3 = _
    omega
theorem ceCells_at : ∀ (l : List Ce) (i f : Nat), i < l.length → f < 3 → (ceCells l)[i * 3 + f]? = (ce3 (nthC l i))[f]?
  | [], i, f, h, _ => by simp at h
  | t :: l, 0, f, _, hf => by
    unfold ceCells
    rw [List.flatMap_cons, List.getElem?_append_left (by show 0 * 3 + f < 3; omega)]
    simp [nthC]
  | t :: l, i + 1, f, h, hf => by
    have ih := ceCells_at l i f (by simpa using h) hf
    unfold ceCells at ih ⊢
    rw [List.flatMap_cons, List.getElem?_append_right (by show 3 ≤ (i + 1) * 3 + f; omega)]
    rw [show (i + 1) * 3 + f - (ce3 t).length = i * 3 + f from by show (i + 1) * 3 + f - 3 = _; omega, ih]
    simp [nthC]
theorem ceCells_add (l k : List Ce) : ceCells (l ++ k) = ceCells l ++ ceCells k := by simp [ceCells]
theorem ceCells_one (l : List Ce) : ∀ u ∈ ceCells l, u.oneCell' = true := by
  intro u hu
  unfold ceCells at hu
  obtain ⟨c, _, hc⟩ := List.mem_flatMap.1 hu
  simp only [ce3, List.mem_cons, List.not_mem_nil, or_false] at hc
  rcases hc with rfl | rfl | rfl <;> rfl

def CR (B : Nat) (w : World) (v : Value) (l : List Ce) : Prop := w.ownsRow B 33 3 v l.length (ceCells l)
theorem CR.nil (B : Nat) (w : World) : CR B w (.slice none 0 0) [] := World.ownsRow_nil _ _ _ _
theorem CR.lt {B : Nat} {w : World} {v : Value} {l : List Ce} (h : CR B w v l) (x : Nat) (hx : v.ownBlock = some x) : B ≤ x ∧ x < w.heap.size := World.ownsRow.lt h x hx
theorem CR.same {B : Nat} {w w' : World} {v : Value} {l : List Ce} (h : CR B w v l) (hb : ∀ x, v.ownBlock = some x → w'.heap[x]? = w.heap[x]?) : CR B w' v l := by
  rcases h with ⟨q1, q2 | ⟨x, cap, cur, rfl, q3, q4, q5⟩⟩
  · exact ⟨q1, Or.inl q2⟩
  · exact ⟨q1, Or.inr ⟨x, cap, cur, rfl, q3, by rw [hb x rfl]; exact q4, q5⟩⟩
theorem CR.below {B C : Nat} {w w' : World} {v : Value} {l : List Ce} (h : CR B w v l) (hb : Below C w w') (hC : w.heap.size ≤ C) : CR B w' v l :=
  h.same fun x hx => hb.block x (by have := (h.lt x hx).2; omega)
theorem CR.alloc {B : Nat} {w : World} {v : Value} {l : List Ce} (h : CR B w v l) (o : Obj) : CR B (w.alloc o) v l := World.ownsRow.alloc h o
theorem CR.form {B : Nat} {w : World} {v : Value} {l : List Ce} (h : CR B w v l) : ∃ ao cap, v = .slice ao l.length cap := by
  rcases h.2 with ⟨q, q0⟩ | ⟨_, _, _, q, _⟩
  · exact ⟨none, 0, by rw [q, q0]⟩
  · exact ⟨_, _, q⟩
/-- Such a row is a slice of values. -/
theorem CR.at {B : Nat} {w : World} {v : Value} {l : List Ce} (h : CR B w v l) (hs : ∀ c ∈ l, c.s.size ≤ maxLen) : CsAt w.heap.size w v l := by
  have h' := h
  rcases h.2 with ⟨q, q0⟩ | ⟨g, cap, cur, rfl, hg, hcur, hcap, hmax, _, _⟩
  · exact ⟨none, 0, by rw [q, q0], by omega, by unfold maxLen; omega, fun i hi => by omega⟩
  · refine ⟨_, cap, rfl, hcap, hmax, fun i hi => ⟨g, 0, rfl, (Array.getElem?_eq_some_iff.1 hcur).1, ?_⟩⟩
    rw [Nat.zero_add]
    refine ⟨?_, ?_, ?_, ?_⟩
    · rw [World.ownsRow.cellAt h' _ (by omega)]; exact ceCells_at l i 0 hi (by omega)
    · rw [World.ownsRow.cellAt h' _ (by omega)]; exact ceCells_at l i 1 hi (by omega)
    · rw [World.ownsRow.cellAt h' _ (by omega)]; exact ceCells_at l i 2 hi (by omega)
    · refine hs _ ?_
      simp only [nthC, List.getD, List.getElem?_eq_getElem hi, Option.getD_some]
      exact List.getElem_mem _

theorem ce_push {ops : Array Oper} {rest : List Oper} {o : Oper} {a : Act} {Q : Exit → Act → World → Prop} (B : Nat) (w : World) (v : Value) (l : List Ce) (t n : Int) (s0 : ByteArray)
    (hgd : o.guard = none) (s y : Operand) (ho : o.op = .call { callee := .builtin .append, args := #[s, y], argTypes := #[23, 23] }) (hs : a.eval s = v) (hy : a.eval y = .slice (some ⟨w.heap.size, 0, none⟩) 1 1)
    (h : CR B w v l) (hl : l.length ≤ 10000000) (hB : B ≤ w.heap.size)
    (hK : ∀ v1 w1, CR B w1 v1 (l ++ [⟨t, n, s0⟩]) → w.grownBy w1 v.ownBlock → wpList Tryz.prog ops Q rest (a.put o.dst v1) w1) :
    wpList Tryz.prog ops Q (o :: rest) a (w.alloc (.cells #[.int .i64 t, .int .i64 n, .string s0] 33)) := by
  obtain ⟨i0, hi, hz0, hz1, hz2⟩ := info_parts infoC
  refine wpList_append_lies _ hgd s y 23 ho B 33 i0 _ 3 32 Tryz.underlying23 hi hz0 hz1 hz2 rfl (by omega) v l.length _ hs (World.ownsRow.alloc h _) ⟨w.heap.size, 0, none⟩ 1 1 (ce3 ⟨t, n, s0⟩) hy rfl ?_ ?_ (by omega) (by unfold maxLen; omega) (by omega) (by simp; omega) _ rfl ?_
  · exact World.news_of_block (Go.Deep.blk_alloc_new w (.cells #[.int .i64 t, .int .i64 n, .string s0] 33))
  · intro u hu
    simp only [ce3, List.mem_cons, List.not_mem_nil, or_false] at hu
    rcases hu with rfl | rfl | rfl <;> rfl
  · intro g cap w1 hown hgrow _ _
    refine hK _ w1 ?_ ((World.grownBy_alloc w _ _).trans hgrow)
    unfold CR
    rw [List.length_append, List.length_singleton, ceCells_add]
    exact hown

/-- An empty list of values, written out. -/
theorem cr_empty (w : World) : CR w.heap.size (w.alloc (.cells #[] 33)) (.slice (some ⟨w.heap.size, 0, none⟩) 0 0) [] := World.ownsRow_lit w #[] 0 (Nat.le_refl _) (by decide) rfl
theorem cr_two (w : World) (t n : Int) (s : ByteArray) (t' n' : Int) (s' : ByteArray) :
    CR w.heap.size (w.alloc (.cells #[.int .i64 t, .int .i64 n, .string s, .int .i64 t', .int .i64 n', .string s'] 33)) (.slice (some ⟨w.heap.size, 0, none⟩) 2 2) [⟨t, n, s⟩, ⟨t', n', s'⟩] :=
  World.ownsRow_lit w #[.int .i64 t, .int .i64 n, .string s, .int .i64 t', .int .i64 n', .string s'] 2 (Nat.le_refl _) (by decide) rfl
/-- A list of values behind another. -/
theorem ce_append {ops : Array Oper} {rest : List Oper} {o : Oper} {a : Act} {Q : Exit → Act → World → Prop} (B C : Nat) (w : World) (v u : Value) (l k : List Ce)
    (hgd : o.guard = none) (s y : Operand) (ho : o.op = .call { callee := .builtin .append, args := #[s, y], argTypes := #[23, 23] }) (hs : a.eval s = v) (hy : a.eval y = u)
    (h : CR B w v l) (hk : CR C w u k) (hl : l.length + k.length ≤ 10000000) (hB : B ≤ w.heap.size)
    (hK : ∀ v1 w1, CR B w1 v1 (l ++ k) → w.grownBy w1 v.ownBlock → wpList Tryz.prog ops Q rest (a.put o.dst v1) w1) :
    wpList Tryz.prog ops Q (o :: rest) a w := by
  obtain ⟨i0, hi, hz0, hz1, hz2⟩ := info_parts infoC
  by_cases h0 : k.length = 0
  · obtain rfl : k = [] := List.length_eq_zero_iff.1 h0
    obtain ⟨ao, cap, rfl⟩ := h.form
    have hcap : l.length ≤ cap := by
      rcases h.2 with ⟨q, q0⟩ | ⟨g, c, cur, q, _, _, hc, _⟩
      · omega
      · simp only [Value.slice.injEq] at q; omega
    obtain ⟨bo, cp, rfl⟩ := hk.form
    have hsrc : Go.Src Tryz.prog i0.size 23 (.slice bo 0 cp) 0 [] w :=
      ⟨.inl ⟨_, Tryz.underlying23⟩, fun _ => rfl, by cases bo <;> simp [Builtin.firstCells, loadCells, loadCellsFrom], by cases bo <;> simp [Builtin.firstCells, loadCells, loadCellsFrom], by simp, fun u hu => by cases hu⟩
    have hrun := run_append_nothing (P := Tryz.prog) w 23 23 o.type 33 i0 Tryz.underlying23 hi ao l.length cap hcap _ hsrc
    refine Go.Lib.wpList_append_run _ hgd s y _ _ ho _ _ hs hy _ _ hrun ?_
    exact hK _ w (by rw [List.append_nil]; exact h) ⟨rfl, rfl, rfl, Nat.le_refl _, fun _ _ _ => rfl⟩
  · obtain ⟨g, cap, rfl, hg, hlt⟩ := World.ownsRow.form hk (by omega)
    refine wpList_append_lies _ hgd s y 23 ho B 33 i0 _ 3 32 Tryz.underlying23 hi hz0 hz1 hz2 rfl (by omega) v l.length _ hs h ⟨g, 0, none⟩ k.length cap (ceCells k) hy (ceCells_len k) ?_ (ceCells_one k) (by omega) (by unfold maxLen; omega) (by omega) hB _ rfl ?_
    · intro j u hj
      have hjl : j < k.length * 3 := by
        rw [← ceCells_len k]
        exact (List.getElem?_eq_some_iff.1 hj).1
      have := World.ownsRow.cellAt hk j hjl
      rw [add_plain, Nat.zero_add]
      exact this.trans hj
    · intro g cap w1 hown hgrow _ _
      refine hK _ w1 ?_ hgrow
      unfold CR
      rw [List.length_append, ceCells_add]
      exact hown

end Go.Proofs.YthaedmldlenhgaaGreatDoor.Cell
