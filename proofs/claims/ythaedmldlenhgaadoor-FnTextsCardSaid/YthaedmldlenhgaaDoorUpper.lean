/-
  Upper of the program and of its model: small letters are great ones.
-/
import Derived.Test.YthaedmldlenhgaaDoorRead
import Derived.Test.YthaedmldlenhgaaDoorCellPure
import Derived.Laws.IdiomStrings
import Derived.Laws.BytesArg
import Derived.Lib.Hide
namespace Go.Proofs.YthaedmldlenhgaaDoor.Cell
open Go.ChangeShapes Go.WideShapes Go.ChangeAt Go.RowKit Go.PlainAid
open Go.Proofs.YthaedmldlenhgaaDoor.Dec
open Go.Proofs.YthaedmldlenhgaaDoor.DecPure Go.Proofs.YthaedmldlenhgaaDoor.TextPure Go.Proofs.YthaedmldlenhgaaDoor.ReadPure Go.Proofs.YthaedmldlenhgaaDoor.CellPure
set_option linter.unusedVariables false

def upc (b : Int) : Int := if 97 ≤ b ∧ b ≤ 122 then b - 32 else b
def upN (s : ByteArray) (j i : Nat) : Int := if i < j then upc (bt s i) else bt s i
def upL (s : ByteArray) : List Int := (List.range s.size).map (fun i => upc (bt s i))
theorem upL_len (s : ByteArray) : (upL s).length = s.size := by simp [upL]
theorem upL_at {s : ByteArray} {i : Nat} (h : i < s.size) : (upL s).getD i 0 = upc (bt s i) := by
  unfold upL
  rw [List.getD_eq_getElem?_getD, List.getElem?_map, List.getElem?_range h]
  rfl
/-- A block of the bytes of s, the first j of them turned. -/
def RowU (w : World) (g : Nat) (s : ByteArray) (j : Nat) : Prop := ∀ i, i < s.size → w.cell? ⟨g, i, none⟩ = some (.int .u8 (upN s j i)) ∧ w.frozen? ⟨g, i, none⟩ = false
theorem RowU.skip {w : World} {g : Nat} {s : ByteArray} {j : Nat} (h : RowU w g s j) (hn : ¬ (97 ≤ bt s j ∧ bt s j ≤ 122)) : RowU w g s (j + 1) := fun i hi => by
  have e : upN s (j + 1) i = upN s j i := by
    unfold upN
    by_cases h1 : i < j
    · rw [if_pos (by omega), if_pos h1]
    · by_cases h2 : i = j
      · subst h2
        rw [if_pos (by omega), if_neg (by omega), upc, if_neg hn]
      · rw [if_neg (by omega), if_neg h1]
  rw [e]; exact h i hi
theorem RowU.turn {w : World} {g : Nat} {s : ByteArray} {j : Nat} (h : RowU w g s j) (hj : j < s.size) (hy : 97 ≤ bt s j ∧ bt s j ≤ 122) {x : Int} (hx : x = bt s j - 32) : RowU (w.setCell ⟨g, j, none⟩ (.int .u8 x)) g s (j + 1) := fun i hi => by
  obtain ⟨a, b⟩ := h i hi
  subst hx
  refine ⟨?_, by rw [World.frozen?_setCell]; exact b⟩
  by_cases h2 : i = j
  · subst h2
    rw [World.cell?_setCell_same _ _ _ a, upN, if_pos (by omega), upc, if_pos hy]
  · rw [World.cell?_setCell_other _ _ _ _ (fun h => h2 (by cases h; rfl)), a]
    unfold upN
    by_cases h1 : i < j
    · rw [if_pos h1, if_pos (by omega)]
    · rw [if_neg h1, if_neg (by omega)]

/-- What the bytes of a string, laid into a new block, are. -/
theorem conv_bytes (s : ByteArray) (w : World) : ∃ (cap : Nat) (w1 : World), (convert 9 22 (.string s)).run Tryd.prog w = .ok (.slice (some ⟨w.heap.size, 0, none⟩) s.size cap) w1 ∧ RowU w1 w.heap.size s 0 ∧ Below w.heap.size w w1 := by
  refine ⟨_, _, run_bytes_of_string w 9 22 5 s Tryd.underlying9 Tryd.underlying22 Tryd.underlying5, fun i hi => ⟨?_, ?_⟩, (Below.refl _ _).drew.alloc (Nat.le_refl _) _⟩
  · have e := World.cell?_alloc_mark w.drew (bytesRow s (grownCap w s.size 0 5)) 5 ((bytesRow s (grownCap w s.size 0 5)).size, (bytesRow s (grownCap w s.size 0 5)).size + 1) i
    refine e.trans ?_
    rw [bytesRow_at s _ i hi, upN, if_neg (by omega)]
    rw [← get_bt s i hi]; rfl
  · have e := World.frozen?_alloc_mark w.drew (bytesRow s (grownCap w s.size 0 5)) 5 (bytesRow s (grownCap w s.size 0 5)).size ((bytesRow s (grownCap w s.size 0 5)).size + 1) i
    refine e.trans ?_
    have : i < (bytesRow s (grownCap w s.size 0 5)).size := by
      have h1 := bytesRow_at s (grownCap w s.size 0 5) i hi
      exact (Array.getElem?_eq_some_iff.1 h1).1
    simp; omega
theorem conv_back {w : World} {g : Nat} {s : ByteArray} (h : RowU w g s s.size) (cap : Nat) : (convert 22 9 (.slice (some ⟨g, 0, none⟩) s.size cap)).run Tryd.prog w = .ok (.string (strOfNums (upL s))) w :=
  run_convert_bytes_arg (P := Tryd.prog) w 22 5 Tryd.underlying22 Tryd.underlying5 g 0 s.size cap (upL s) (upL_len s) (fun i hi => by
    rw [Nat.zero_add, (h i hi).1, upL_at hi, upN, if_pos hi]) 9 Tryd.underlying9

set_option maxRecDepth 100000 in
set_option maxHeartbeats 1000000 in
theorem impl_upper (s : ByteArray) (hs : s.size ≤ 1048576) (w : World) : Calls Tryd.prog 21 #[.string s] w fun e w' => e = .returned (.string (strOfNums (upL s))) ∧ Below w.heap.size w w' := by
  obtain ⟨cap, w1, hconv, hrow, hB⟩ := conv_bytes s w
  have HROW := Lib.hid hrow; clear hrow
  have HB := Lib.hid hB; clear hB
  obtain ⟨g, hg⟩ : ∃ g, g = w.heap.size := ⟨_, rfl⟩
  rw [← hg] at hconv HROW
  have HG := Lib.hid hg; clear hg
  go_enter Tryd.func21, Tryd.ntmps21
  go_wp2_with fail
  clear hconv
  go_loopw [10] (fun i wr => ∃ j : Nat, j ≤ s.size ∧ i = .int .i64 j ∧ Hid (RowU wr g s j) ∧ Hid (Below w.heap.size w wr)) (fun i _ => s.size - (intOf i).toNat)
  case atStart => exact ⟨0, Nat.zero_le _, rfl, HROW, HB⟩
  case round =>
    obtain ⟨j, hj, rfl, HR, HBr⟩ := hrel
    by_cases hlt : j < s.size
    · have b0 := bt_nonneg s j
      have b1 := bt_le s j
      obtain ⟨hc, hm⟩ := HR.out j hlt
      have e : upN s j j = bt s j := by unfold upN; rw [if_neg (by omega)]
      rw [e] at hc; clear e
      generalize hbj : bt s j = b at *
      have HBJ := Lib.hid hbj; clear hbj
      have hgle : w.heap.size ≤ g := by rw [HG.out]; exact Nat.le_refl _
      by_cases h1 : 97 ≤ b
      · by_cases h2 : b ≤ 122
        · go_wp2_with fail
          go_roundw
          case rel => exact ⟨j + 1, by omega, by go_num, Lib.hid (HR.out.turn hlt (by rw [HBJ.out]; exact ⟨h1, h2⟩) (by first | (rw [HBJ.out]; done) | (rw [HBJ.out]; omega))), Lib.hid (HBr.out.setCell (by simpa using hgle) _)⟩
          case measure => simp [intOf]; omega
        · have d2 : decide (b ≤ 122) = false := by simpa using h2
          go_wp2_with fail
          go_roundw
          case rel => exact ⟨j + 1, by omega, by go_num, Lib.hid (HR.out.skip (by rw [HBJ.out]; omega)), HBr⟩
          case measure => simp [intOf]; omega
      · have d1 : decide (97 ≤ b) = false := by simpa using h1
        go_wp2_with fail
        go_roundw
        case rel => exact ⟨j + 1, by omega, by go_num, Lib.hid (HR.out.skip (by rw [HBJ.out]; omega)), HBr⟩
        case measure => simp [intOf]; omega
    · obtain rfl : j = s.size := by omega
      have hback := conv_back HR.out cap
      clear hlt
      go_wp2_with fail
      go_ret
      exact ⟨rfl, HBr.out⟩


end Go.Proofs.YthaedmldlenhgaaDoor.Cell
