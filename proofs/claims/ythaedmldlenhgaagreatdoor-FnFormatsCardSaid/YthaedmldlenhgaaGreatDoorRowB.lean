/-
  A row of bytes that a call has made: appending a byte to it, making a string of it.
-/
import Derived.Test.YthaedmldlenhgaaGreatDoorRead
import Derived.Deep.AppendLies
import Derived.Laws.OwnMore
import Derived.Laws.BytesArg
import Derived.OwnWalk
import Derived.Deep.OwnRows
import Derived.BigQuiet
import Derived.StillTailTactics
namespace Go.Proofs.YthaedmldlenhgaaGreatDoor.Cell
open Go.ChangeShapes Go.WideShapes Go.ChangeAt Go.RowKit Go.PlainAid
open Go.Proofs.YthaedmldlenhgaaGreatDoor.Dec
open Go.Proofs.YthaedmldlenhgaaGreatDoor.DecPure Go.Proofs.YthaedmldlenhgaaGreatDoor.ReadPure
set_option linter.unusedVariables false

/-- A row of bytes that a call has made. -/
def RowB (B : Nat) (w : World) (v : Value) (L : List Int) : Prop := w.ownsRow B 5 1 v L.length (L.map (Value.int .u8))
theorem RowB.nil (B : Nat) (w : World) : RowB B w (.slice none 0 0) [] := World.ownsRow_nil _ _ _ _
theorem RowB.lt {B : Nat} {w : World} {v : Value} {L : List Int} (h : RowB B w v L) (x : Nat) (hx : v.ownBlock = some x) : B ≤ x ∧ x < w.heap.size := World.ownsRow.lt h x hx
theorem infoU : (Tryz.prog.info? 5).map (fun i => (i.zero, i.size, i.bytes)) = some (some (.int .u8 0), 1, 1) := by kernel_rfl
theorem rowB_push {ops : Array Oper} {rest : List Oper} {o : Oper} {a : Act} {Q : Exit → Act → World → Prop} (B : Nat) (w : World) (v : Value) (L : List Int) (x : Int)
    (hgd : o.guard = none) (s y : Operand) (ho : o.op = .call { callee := .builtin .append, args := #[s, y], argTypes := #[22, 22] }) (hs : a.eval s = v) (hy : a.eval y = .slice (some ⟨w.heap.size, 0, none⟩) 1 1)
    (h : RowB B w v L) (hL : L.length ≤ 100000000) (hB : B ≤ w.heap.size)
    (hK : ∀ v1 w1, RowB B w1 v1 (L ++ [x]) → w.grownBy w1 v.ownBlock → wpList Tryz.prog ops Q rest (a.put o.dst v1) w1) :
    wpList Tryz.prog ops Q (o :: rest) a (w.alloc (.cells #[.int .u8 x] 5)) := by
  obtain ⟨i0, hi, hz0, hz1, hz2⟩ := info_parts infoU
  refine wpList_append_lies _ hgd s y 22 ho B 5 i0 (.int .u8 0) 1 1 Tryz.underlying22 hi hz0 hz1 hz2 rfl (by omega) v L.length _ hs (World.ownsRow.alloc h _) ⟨w.heap.size, 0, none⟩ 1 1 [.int .u8 x] hy rfl ?_ ?_ (by omega) (by unfold maxLen; omega) (by omega) (by simp; omega) _ rfl ?_
  · intro j u hj
    match j, hj with
    | 0, hj => simp at hj; subst hj; simp [Addr.add]
  · intro u hu; simp at hu; subst hu; rfl
  · intro g cap w1 hown hgrow _ _
    refine hK _ w1 ?_ ((World.grownBy_alloc w _ _).trans hgrow)
    unfold RowB
    rw [List.length_append, List.length_singleton, List.map_append]
    exact hown
theorem rowB_conv {B : Nat} {w : World} {v : Value} {L : List Int} (h : RowB B w v L) : (convert 22 9 v).run Tryz.prog w = .ok (.string (strOfNums L)) w := by
  rcases h.2 with ⟨rfl, h0⟩ | ⟨g, cap, cur, hv, _, hg, hn, _, hc, ht⟩
  · obtain rfl : L = [] := List.length_eq_zero_iff.1 h0
    exact run_convert_bytes_nil w 22 5 Tryz.underlying22 Tryz.underlying5 0 0 9 Tryz.underlying9
  · subst hv
    refine run_convert_bytes_arg (P := Tryz.prog) w 22 5 Tryz.underlying22 Tryz.underlying5 g 0 L.length cap L rfl (fun i hi => ?_) 9 Tryz.underlying9
    rw [Nat.zero_add, World.ownsRow.cellAt h i (by omega)]
    simp [List.getElem?_eq_getElem hi]

end Go.Proofs.YthaedmldlenhgaaGreatDoor.Cell
