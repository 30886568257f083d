/-
  What strings.Cut returns, where the machine's greatest length is some number.
-/
import Derived.Test.YthaedmldlenhgaaGreatDoorPures
import Derived.Test.YthaedmldlenhgaaGreatDoorRowB
import Derived.Test.YthaedmldlenhgaaGreatDoorShelf
namespace Go.Proofs.YthaedmldlenhgaaGreatDoor.Seqs
open Go.ChangeShapes Go.WideShapes Go.ChangeAt Go.RowKit Go.PlainAid Go.Shelf
open Go.Proofs.YthaedmldlenhgaaGreatDoor.Dec
open Go.Proofs.YthaedmldlenhgaaGreatDoor.DecPure Go.Proofs.YthaedmldlenhgaaGreatDoor.ReadPure Go.Proofs.YthaedmldlenhgaaGreatDoor.RecPure
set_option linter.unusedVariables false

/-- The greatest length of a text that is searched by the machine is some number. -/
def Held (w : World) : Prop := ∃ m : Int, w.cell? ⟨0, 0, none⟩ = some (.int .i64 m) ∧ 0 < w.heap.size
theorem Held.below {B : Nat} {w w' : World} (h : Held w) (hb : Below B w w') (hB : w.heap.size ≤ B) : Held w' := by
  obtain ⟨m, h1, h2⟩ := h
  exact ⟨m, (hb.cell (p := ⟨0, 0, none⟩) (Nat.lt_of_lt_of_le h2 hB)).trans h1, Nat.lt_of_lt_of_le h2 hb.size⟩
theorem held_of {w : World} {m : Int} (h : w.cell? ⟨0, 0, none⟩ = some (.int .i64 m)) : Held w := ⟨m, h, World.block_lt_of_cell? w ⟨0, 0, none⟩ h⟩
theorem mk_back (x : ByteArray) : (⟨x.data.toList.toArray⟩ : ByteArray) = x := by simp

theorem cut_yes {x t a b : ByteArray} (hx : x.size ≤ 1048576) (h : cutB x t = (a.data.toList, b.data.toList, true)) (w : World) (hw : Held w) :
    Calls Tryz.prog 56 #[.string x, .string t] w fun e w' => e = .returned (.tuple #[.string a, .string b, .bool true]) ∧ ∃ n, w' = w.drewN n := by
  obtain ⟨m, hm, _⟩ := hw
  refine (Tryz.strings_Cut x t m w (by omega) hm).mono fun e w' ⟨he, hn⟩ => ⟨?_, hn⟩
  unfold cutB at h
  rw [he, h]

theorem cut_no {x t : ByteArray} (hx : x.size ≤ 1048576) (h : cutB x t = (x.data.toList, [], false)) (w : World) (hw : Held w) :
    Calls Tryz.prog 56 #[.string x, .string t] w fun e w' => e = .returned (.tuple #[.string x, .string ⟨#[]⟩, .bool false]) ∧ ∃ n, w' = w.drewN n := by
  obtain ⟨m, hm, _⟩ := hw
  refine (Tryz.strings_Cut x t m w (by omega) hm).mono fun e w' ⟨he, hn⟩ => ⟨?_, hn⟩
  unfold cutB at h
  rw [he, h]

end Go.Proofs.YthaedmldlenhgaaGreatDoor.Seqs
