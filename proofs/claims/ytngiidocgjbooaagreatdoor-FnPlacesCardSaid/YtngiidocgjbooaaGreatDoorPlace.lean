/-
  What PlaceOf returns, of the model and of the program: the line and the place on it.
-/
import Derived.Test.YtngiidocgjbooaaGreatDoorRead
import Derived.Test.YtngiidocgjbooaaGreatDoorPlacePure
import Derived.Test.YtngiidocgjbooaaGreatDoorShelf
namespace Go.Proofs.YtngiidocgjbooaaGreatDoor.Place
open Go.ChangeShapes Go.WideShapes Go.ChangeAt Go.RowKit Go.PlainAid
open Go.Proofs.YtngiidocgjbooaaGreatDoor.Dec
open Go.Proofs.YtngiidocgjbooaaGreatDoor.DecPure Go.Proofs.YtngiidocgjbooaaGreatDoor.ReadPure Go.Proofs.YtngiidocgjbooaaGreatDoor.PlacePure
set_option linter.unusedVariables false

def plL (s : ByteArray) (a : Int) : Int := if a < 0 ∨ (s.size : Int) < a then 0 else lineN s a.toNat
def plC (s : ByteArray) (a : Int) : Int := if a < 0 ∨ (s.size : Int) < a then 0 else a - fromN s a.toNat + 1
theorem pl_out {s : ByteArray} {a : Int} (h : a < 0 ∨ (s.size : Int) < a) : plL s a = 0 ∧ plC s a = 0 := by simp [plL, plC, h]
theorem pl_in {s : ByteArray} {k : Nat} (h : k ≤ s.size) : plL s k = lineN s k ∧ plC s k = (k : Int) - fromN s k + 1 := by
  have : ¬ ((k : Int) < 0 ∨ (s.size : Int) < (k : Int)) := by omega
  unfold plL plC
  rw [if_neg this, if_neg this]
  exact ⟨rfl, rfl⟩


set_option maxHeartbeats 1000000 in
theorem impl_place (s : ByteArray) (a : Int) (hs : s.size ≤ 1048576) (w : World) : Calls Tryz.prog 14 #[.string s, .int .i64 a] w fun e w' => e = .returned (.tuple #[.int .i64 (plL s a), .int .i64 (plC s a)]) ∧ w = w' := by
  have hb := get_bt s
  by_cases h0 : a < 0
  · obtain ⟨e1, e2⟩ := pl_out (s := s) (a := a) (.inl h0)
    have E1 := Lib.hid e1; clear e1
    have E2 := Lib.hid e2; clear e2
    go_enter Tryz.func14, Tryz.ntmps14
    go_wp2_with fail
    go_ret2
    exact ⟨tupI E1.out.symm E2.out.symm, rfl⟩
  · by_cases h1 : (s.size : Int) < a
    · obtain ⟨e1, e2⟩ := pl_out (s := s) (a := a) (.inr h1)
      have E1 := Lib.hid e1; clear e1
      have E2 := Lib.hid e2; clear e2
      go_enter Tryz.func14, Tryz.ntmps14
      go_wp2_with fail
      go_ret2
      exact ⟨tupI E1.out.symm E2.out.symm, rfl⟩
    · obtain ⟨n, rfl⟩ : ∃ n : Nat, a = n := ⟨a.toNat, by omega⟩
      have hn : n ≤ s.size := by omega
      obtain ⟨e1, e2⟩ := pl_in hn
      have l1 := lineN_le s n
      have l2 := fromN_le s n
      have c1 := place_count s n hn
      have c2 := place_last s n hn
      have z1 := size_ext s 0 n hn
      have E1 := Lib.hid e1; clear e1
      have E2 := Lib.hid e2; clear e2
      clear h0 h1
      have h0 : ¬ (n : Int) < 0 := by omega
      have h1 : ¬ (s.size : Int) < (n : Int) := by omega
      obtain ⟨t, ht⟩ : ∃ t, t = s.extract 0 n := ⟨_, rfl⟩
      rw [← ht] at c1 c2 z1
      have C1 := Lib.hid c1; clear c1
      have C2 := Lib.hid c2; clear c2
      have T := Lib.hid ht; clear ht
      go_enter Tryz.func14, Tryz.ntmps14
      go_wp2_with fail
      refine (Tryz.strings_Count_one (s.extract 0 n) 10 _).mono ?_
      rw [← T.out]
      obtain ⟨q, hq⟩ : ∃ q : Nat, q = Lib.countByte t.data.toList 10 := ⟨_, rfl⟩
      rw [← hq]
      have HQ := Lib.hid hq; clear hq
      rintro e w' ⟨rfl, rfl⟩
      have hl2 : (q : Int) + 1 = lineN s n := by rw [HQ.out]; have := C1.out; omega
      have hz2 : t.size < 4611686018427387904 := by rw [z1]; omega
      have hqb : q ≤ 1048577 := by omega
      have HL := Lib.hid hl2; clear hl2
      go_wp2_with fail
      refine (Tryz.strings_LastIndexByte t 10 hz2 _).mono ?_
      rw [C2.out]
      rintro e w' ⟨rfl, rfl⟩
      have hl2 := HL.out
      go_wp2_with fail
      go_ret2
      exact ⟨tupI (by rw [E1.out, ← HL.out]) (by rw [E2.out]; omega), rfl⟩

end Go.Proofs.YtngiidocgjbooaaGreatDoor.Place
