/-
  The replacer's buffer: a block of bytes that is filled from the left.
-/
import Derived.Test.YtlfmiikpbdhemaaGreatDoorBuild
import Derived.Laws.CopyOwn
import Derived.Laws.BytesArg
namespace Go.Proofs.YtlfmiikpbdhemaaGreatDoor.Esc
open Go.ChangeShapes Go.WideShapes Go.ChangeAt Go.RowKit Go.PlainAid Go.Maps
open Go.Proofs.YtlfmiikpbdhemaaGreatDoor.Dec Go.Proofs.YtlfmiikpbdhemaaGreatDoor.Lex
open Go.Proofs.YtlfmiikpbdhemaaGreatDoor.DecPure Go.Proofs.YtlfmiikpbdhemaaGreatDoor.ReadPure Go.Proofs.YtlfmiikpbdhemaaGreatDoor.LexPure
set_option linter.unusedVariables false

def fillC (L : List Int) (N : Nat) : List Value := L.map (Value.int .u8) ++ List.replicate (N - L.length) (.int .u8 0)
theorem fillC_len {L : List Int} {N : Nat} (h : L.length ≤ N) : (fillC L N).length = N := by unfold fillC; simp; omega
/-- The buffer in block g: L is laid, the rest is zero. -/
def Fill (w : World) (g : Nat) (L : List Int) (N : Nat) : Prop := L.length ≤ N ∧ w.heap[g]? = some (.cells (fillC L N).toArray 5 (0, 0))
theorem Fill.same {w w' : World} {g : Nat} {L : List Int} {N : Nat} (h : Fill w g L N) (hb : w'.heap[g]? = w.heap[g]?) : Fill w' g L N := ⟨h.1, hb.trans h.2⟩
theorem Fill.lt {w : World} {g : Nat} {L : List Int} {N : Nat} (h : Fill w g L N) : g < w.heap.size := heap_lt h.2
theorem Fill.there {w : World} {g : Nat} {L : List Int} {N : Nat} (h : Fill w g L N) {j : Nat} (hj : j < N) : ∃ x, w.cell? ⟨g, j, none⟩ = some (.int .u8 x) := by
  rw [cell_of_row w g j _ 5 (0, 0) h.2]
  have hl := fillC_len h.1
  unfold fillC at hl ⊢
  rw [List.getElem?_toArray]
  by_cases e : j < L.length
  · exact ⟨L[j], by rw [List.getElem?_append_left (by simpa using e)]; simp [e]⟩
  · exact ⟨0, by rw [List.getElem?_append_right (by simp; omega), List.getElem?_replicate, if_pos (by simp; omega)]⟩
theorem Fill.frozen {w : World} {g : Nat} {L : List Int} {N : Nat} (h : Fill w g L N) (j : Nat) : w.frozen? ⟨g, j, none⟩ = false := by
  have h2 := h.2
  simp [World.frozen?, h2]
theorem fill_splice {L : List Int} {N : Nat} (M : List Int) (h : L.length + M.length ≤ N) : splice (fillC L N) L.length (M.map (Value.int .u8)) = fillC (L ++ M) N := by
  unfold splice fillC
  simp only [List.length_map, List.map_append, List.length_append]
  rw [List.take_left' (by simp), ]
  rw [List.drop_append, List.drop_of_length_le (by simp), List.drop_replicate]
  simp
  omega
theorem Fill.push {w : World} {g : Nat} {L : List Int} {N : Nat} (h : Fill w g L N) (hl : L.length < N) (x : Int) : Fill (w.setCell ⟨g, L.length, none⟩ (.int .u8 x)) g (L ++ [x]) N := by
  refine ⟨by simp; omega, ?_⟩
  have h2 := h.2
  have e : (fillC L N).toArray.setIfInBounds L.length (.int .u8 x) = (fillC (L ++ [x]) N).toArray := by
    rw [List.setIfInBounds_toArray]
    congr 1
    unfold fillC
    rw [List.set_append, if_neg (by simp)]
    simp only [List.length_map, Nat.sub_self, List.map_append, List.map_cons, List.map_nil, List.length_append, List.length_singleton, List.append_assoc, List.singleton_append]
    congr 1
    obtain ⟨k, hk⟩ : ∃ k, N - L.length = k + 1 := ⟨N - L.length - 1, by omega⟩
    rw [hk, show N - (L.length + 1) = k from by omega, List.replicate_succ]
    rfl
  rw [← e]
  simp [World.setCell, Array.getElem?_modify, h2]
theorem Fill.new (w : World) (N : Nat) : Fill (w.alloc (.cells (madeCells #[.int .u8 0] N) 5)) w.heap.size [] N := by
  obtain ⟨c, h1, h2, h3⟩ := World.rowIs_made w (.int .u8 0) N 5
  refine ⟨Nat.zero_le _, h1.trans ?_⟩
  congr 2
  apply Array.ext
  · simp [fillC, h2]
  · intro i hi _
    have := h3 i (by omega)
    rw [Array.getElem?_eq_getElem hi] at this
    injection this with e
    rw [e]
    simp [fillC]
theorem Fill.conv {w : World} {g : Nat} {L : List Int} (h : Fill w g L L.length) (cap : Nat) : (convert 22 9 (.slice (some ⟨g, 0, none⟩) L.length cap)).run Tryz.prog w = .ok (.string (strOfNums L)) w := by
  refine run_convert_bytes_arg (P := Tryz.prog) w 22 5 Tryz.underlying22 Tryz.underlying5 g 0 L.length cap L rfl (fun i hi => ?_) 9 Tryz.underlying9
  rw [Nat.zero_add, cell_of_row w g i _ 5 (0, 0) h.2, List.getElem?_toArray]
  unfold fillC
  rw [List.getElem?_append_left (by simpa using hi)]
  simp [List.getElem?_eq_getElem hi]

theorem Tab.below {lo b m : Nat} {w w' : World} {f : Nat → Value} {v : Value} (h : Tab lo w b m f v) (hb : Below w.heap.size w w') : Tab lo w' b m f v := h.same fun x _ hx => hb.block x hx
/-- What the whole table says. -/
theorem Tab.texts {lo b : Nat} {w : World} {f : Nat → Value} {v : Value} (h : Tab lo w b 4 f v) : ∃ t cap, v = .slice (some ⟨t, 0, none⟩) 4 cap ∧ w.cell? ⟨t, 0, none⟩ = some (.string ⟨#[92]⟩) ∧ w.cell? ⟨t, 1, none⟩ = some (.string ⟨#[34]⟩) ∧ w.cell? ⟨t, 2, none⟩ = some (.string ⟨#[9]⟩) ∧ w.cell? ⟨t, 3, none⟩ = some (.string ⟨#[10]⟩) := by
  have ho := h.own
  rcases ho.2 with ⟨q, q0⟩ | ⟨t, cap, cur, q, _⟩
  · omega
  · subst q
    exact ⟨t, cap, rfl, by rw [World.ownsRow.cellAt ho 0 (by omega)]; rfl, by rw [World.ownsRow.cellAt ho 1 (by omega)]; rfl, by rw [World.ownsRow.cellAt ho 2 (by omega)]; rfl, by rw [World.ownsRow.cellAt ho 3 (by omega)]; rfl⟩
theorem dn_spc (i : Nat) : dn 4 i ↔ spc (i : Int) := by unfold dn spc; omega
theorem escb_snd {i : Nat} (h : spc (i : Int)) : escb (i : Int) = [92, sndB i] := by
  unfold spc at h
  have h4 : i = 10 ∨ i = 9 ∨ i = 34 ∨ i = 92 := by omega
  rcases h4 with rfl | rfl | rfl | rfl <;> rfl

end Go.Proofs.YtlfmiikpbdhemaaGreatDoor.Esc
