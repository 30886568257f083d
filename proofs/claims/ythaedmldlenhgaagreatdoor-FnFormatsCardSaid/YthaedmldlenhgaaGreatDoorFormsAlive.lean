/-
  The laws' own look at formats: it returns true.
-/
import Derived.Test.YthaedmldlenhgaaGreatDoorFmtForm
import Derived.Test.YthaedmldlenhgaaGreatDoorCeRow
import Derived.Test.YthaedmldlenhgaaGreatDoorPlsKinds
import Derived.Test.YthaedmldlenhgaaGreatDoorTables
import Derived.Test.YthaedmldlenhgaaGreatDoorFormatSpec
namespace Go.Proofs.YthaedmldlenhgaaGreatDoor.Cell
open Go.ChangeShapes Go.WideShapes Go.ChangeAt Go.RowKit Go.PlainAid
open Go.Proofs.YthaedmldlenhgaaGreatDoor.Dec
open Go.Proofs.YthaedmldlenhgaaGreatDoor.DecPure Go.Proofs.YthaedmldlenhgaaGreatDoor.ReadPure Go.Proofs.YthaedmldlenhgaaGreatDoor.CellPure Go.Proofs.YthaedmldlenhgaaGreatDoor.Strs Go.Proofs.YthaedmldlenhgaaGreatDoor.Seqs
set_option linter.unusedVariables false

def lookF : ByteArray := ⟨#[37, 51, 115, 124, 37, 45, 50, 100, 124, 37, 37]⟩
def lookL : List Ce := [⟨2, 0, ⟨#[97]⟩⟩, ⟨1, 2500000, ⟨#[]⟩⟩]
theorem look_fmt : fmtP lookF lookL = (⟨#[32, 32, 97, 124, 50, 32, 124, 37]⟩, 0) := by decide +kernel
theorem look_kinds : strOfNums (kindsP ⟨#[37, 115, 37, 100]⟩) = ⟨#[115, 100]⟩ := by decide +kernel

set_option maxRecDepth 100000 in
set_option maxHeartbeats 4000000 in
theorem forms_alive (w : World) (hT : Go.Proofs.YthaedmldlenhgaaGreatDoor.Dec.Tables w) (hM : Held w) : Calls Tryz.prog 10 #[] w fun e w' => e = .returned (.bool true) ∧ Below w.heap.size w w' := by
  have h1 : ∀ W, Go.Proofs.YthaedmldlenhgaaGreatDoor.Dec.Tables W → Held W → Calls Tryz.prog 6 #[.string ⟨#[37, 51, 115, 124, 37, 45, 50, 100, 124, 37, 37]⟩, .slice (some ⟨W.heap.size, 0, none⟩) 2 2] (W.alloc (.cells #[.int .i64 2, .int .i64 0, .string ⟨#[97]⟩, .int .i64 1, .int .i64 2500000, .string ⟨#[]⟩] 33)) (FmtEnd (⟨#[32, 32, 97, 124, 50, 32, 124, 37]⟩, 0) (W.alloc (.cells #[.int .i64 2, .int .i64 0, .string ⟨#[97]⟩, .int .i64 1, .int .i64 2500000, .string ⟨#[]⟩] 33))) := fun W hW hW2 => by
    have h := imp_format _ lookF _ lookL (by decide) (by decide) (by decide) _ (Nat.le_refl _) ((cr_two W 2 0 ⟨#[97]⟩ 1 2500000 ⟨#[]⟩).at (by decide)) (hW.below ((Below.refl _ W).alloc (Nat.le_refl _) _)) (hW2.below ((Below.refl W.heap.size W).alloc (Nat.le_refl _) _) (Nat.le_refl _))
    rw [look_fmt] at h
    exact h
  have h2 : ∀ W, Held W → Calls Tryz.prog 9 #[.string ⟨#[37, 115, 37, 100]⟩] W fun e w' => e = .returned (.string ⟨#[115, 100]⟩) ∧ Below W.heap.size W w' := fun W hW => by
    have h := imp_kinds ⟨#[37, 115, 37, 100]⟩ (by decide) W hW
    rw [look_kinds] at h
    exact h
  unfold FmtEnd at h1
  have H1 := Lib.hid h1; clear h1
  have H2 := Lib.hid h2; clear h2
  go_enter Tryz.func10, Tryz.ntmps10
  go_wp2_with fail
  refine (H1.out w hT hM).mono ?_
  rintro e w1 ⟨rfl, hB⟩
  have HB1 := Lib.hid (((Below.refl w.heap.size w).alloc (Nat.le_refl _) (.cells #[.int .i64 2, .int .i64 0, .string ⟨#[97]⟩, .int .i64 1, .int .i64 2500000, .string ⟨#[]⟩] 33)).trans (hB.mono (by simp))); clear hB
  go_wp2_with fail
  refine (H2.out w1 (hM.below HB1.out (Nat.le_refl _))).mono ?_
  rintro e w2 ⟨rfl, hB⟩
  have HB2 := Lib.hid (HB1.out.trans (hB.mono HB1.out.size)); clear hB
  go_wp2_with fail
  go_ret
  exact ⟨rfl, HB2.out⟩

end Go.Proofs.YthaedmldlenhgaaGreatDoor.Cell
