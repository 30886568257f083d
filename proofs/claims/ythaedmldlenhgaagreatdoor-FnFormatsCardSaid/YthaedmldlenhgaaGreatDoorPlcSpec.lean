/-
  What follows a % in a format, of the model.
-/
import Derived.Test.YthaedmldlenhgaaGreatDoorPlcA
import Derived.Test.YthaedmldlenhgaaGreatDoorPlcB
import Derived.Test.YthaedmldlenhgaaGreatDoorPlcC
namespace Go.Proofs.YthaedmldlenhgaaGreatDoor.Strs
open Go.ChangeShapes Go.WideShapes Go.ChangeAt Go.RowKit Go.PlainAid
open Go.Proofs.YthaedmldlenhgaaGreatDoor.Dec Go.Proofs.YthaedmldlenhgaaGreatDoor.Cell
open Go.Proofs.YthaedmldlenhgaaGreatDoor.DecPure Go.Proofs.YthaedmldlenhgaaGreatDoor.ReadPure
set_option linter.unusedVariables false

set_option maxRecDepth 100000 in
set_option maxHeartbeats 40000000 in
theorem spec_place (f : ByteArray) (a : Nat) (ha : a < f.size) (hf : f.size ≤ 1048576) (w : World) : Calls Tryz.prog 32 #[.string f, .int .i64 a] w (PlcEnd (plc f a) w) := by
  have hb := get_bt f
  by_cases h1 : a + 1 < f.size
  · by_cases c1 : bt f (a + 1) = 37
    · have b0 := bt_nonneg f (a + 1)
      have b1 := bt_le f (a + 1)
      have h1i : (a : Int) + 1 < (f.size : Int) := by omega
      have E : Hid (plc f a = ⟨37, 0, false, (a : Int) + 1 + 1⟩) := Lib.hid (by unfold plc; rw [if_pos ⟨h1, c1⟩])
      have hrn := (PB.new w 37 0 false ((a : Int) + 1 + 1)).alloc (.cells #[.int .u8 0, .int .i64 0, .bool false, .int .i64 0] 70)
      have HRN := Lib.hid hrn; clear hrn
      go_enter Tryz.func32, Tryz.ntmps32
      go_wp2_with fail
      exact bodyPost_ret (HRN.out.results rfl rfl) rfl ⟨by rw [E.out]; rfl, ((Below.refl w.heap.size w).alloc (Nat.le_refl _) _).alloc (by simp) _⟩
    by_cases c2 : bt f (a + 1) = 45
    · exact place_minus f a ha hf h1 c1 c2 w
    · exact place_bare f a ha hf h1 c1 c2 w
  · exact place_end f a ha hf h1 w


end Go.Proofs.YthaedmldlenhgaaGreatDoor.Strs
