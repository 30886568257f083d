/-
  The model's quoting of a text.
-/
import Derived.Test.YtlfmiikpbdhemaaGreatDoorEscPure
namespace Go.Proofs.YtlfmiikpbdhemaaGreatDoor.Esc
open Go.ChangeShapes Go.WideShapes Go.ChangeAt Go.RowKit Go.PlainAid Go.Maps
open Go.Proofs.YtlfmiikpbdhemaaGreatDoor.Dec Go.Proofs.YtlfmiikpbdhemaaGreatDoor.Lex
open Go.Proofs.YtlfmiikpbdhemaaGreatDoor.DecPure Go.Proofs.YtlfmiikpbdhemaaGreatDoor.ReadPure Go.Proofs.YtlfmiikpbdhemaaGreatDoor.LexPure
set_option linter.unusedVariables false

/-- Appending a literal of two bytes. -/
theorem buf_push2 {ops : Array Oper} {rest : List Oper} {o : Oper} {a : Act} {Q : Exit → Act → World → Prop} (B : Nat) (w : World) (v : Value) (L : List Int) (x z : Int)
    (hgd : o.guard = none) (s y : Operand) (ho : o.op = .call { callee := .builtin .append, args := #[s, y], argTypes := #[22, 22] }) (hs : a.eval s = v) (hy : a.eval y = .slice (some ⟨w.heap.size, 0, none⟩) 2 2)
    (h : Buf B w v L) (hL : L.length ≤ 100000000) (hB : B ≤ w.heap.size)
    (hK : ∀ v1 w1, Buf B w1 v1 (L ++ [x, z]) → w.grownBy w1 v.ownBlock → wpList Tryz.prog ops Q rest (a.put o.dst v1) w1) :
    wpList Tryz.prog ops Q (o :: rest) a (w.alloc (.cells #[.int .u8 x, .int .u8 z] 5)) := by
  obtain ⟨i0, hi, hz0, hz1, hz2⟩ := info_parts infoB
  refine wpList_append_lies _ hgd s y 22 ho B 5 i0 (.int .u8 0) 1 1 Tryz.underlying22 hi hz0 hz1 hz2 rfl (by omega) v L.length _ hs (h.alloc _) ⟨w.heap.size, 0, none⟩ 2 2 [.int .u8 x, .int .u8 z] hy rfl ?_ ?_ (by omega) (by unfold maxLen; omega) (by omega) (by simp; omega) _ rfl ?_
  · intro j u hj
    match j, hj with
    | 0, hj => simp at hj; subst hj; simp [Addr.add]
    | 1, hj => simp at hj; subst hj; simp [Addr.add]
  · intro u hu
    simp at hu
    rcases hu with rfl | rfl <;> rfl
  · intro g cap w1 hown hgrow _ _
    refine hK _ w1 ?_ ((World.grownBy_alloc w _ _).trans hgrow)
    unfold Buf
    rw [List.length_append, List.map_append]
    exact hown


end Go.Proofs.YtlfmiikpbdhemaaGreatDoor.Esc
