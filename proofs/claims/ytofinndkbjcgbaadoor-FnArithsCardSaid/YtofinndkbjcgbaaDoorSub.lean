/-
  SubText and IndexOf of the program and of its model.
-/
import Derived.Test.YtofinndkbjcgbaaDoorSubPure
import Derived.Test.YtofinndkbjcgbaaDoorRead
import Derived.Test.YtofinndkbjcgbaaDoorCell
import Derived.Test.YtofinndkbjcgbaaDoorRowB
import Derived.Deep.AppendLies
import Derived.Laws.OwnMore
import Derived.Laws.BytesArg
import Derived.OwnWalk
import Derived.Deep.OwnRows
import Derived.IntWalk
namespace Go.Proofs.YtofinndkbjcgbaaDoor.Cell
open Go.ChangeShapes Go.WideShapes Go.ChangeAt Go.RowKit Go.PlainAid
open Go.Proofs.YtofinndkbjcgbaaDoor.Dec
open Go.Proofs.YtofinndkbjcgbaaDoor.DecPure Go.Proofs.YtofinndkbjcgbaaDoor.TextPure Go.Proofs.YtofinndkbjcgbaaDoor.ReadPure Go.Proofs.YtofinndkbjcgbaaDoor.CellPure Go.Proofs.YtofinndkbjcgbaaDoor.SubPure
set_option linter.unusedVariables false


/-- Where a part ends, as the program reckons it. -/
def epV (z : Nat) (f n : Int) : Int := if n = 9000000000000 then (z : Int) + 1 else if 0 < f ∧ (z : Int) < n then (z : Int) + 1 else min (IntKind.i64.wrap (f + n)) ((z : Int) + 1)
theorem ep_same {z : Nat} {f n : Int} (hz : z ≤ 1048576) (hn0 : 0 < n) (hf : -9223372036854775808 ≤ f) (hs : f + n ≤ 9223372036854775807) (h1 : n ≠ 9000000000000) : epV z f n = min (f + n) ((z : Int) + 1) := by
  unfold epV
  rw [if_neg h1]
  split
  · omega
  · rw [IntWalk.i64_in (f + n) (by constructor <;> omega)]
theorem wrap_over {a : Int} (h1 : 9223372036854775807 < a) (h2 : a ≤ 18446744073709551615) : IntKind.i64.wrap a < 0 := by
  have e : IntKind.i64.wrap a = a - 18446744073709551616 := by
    simp [IntKind.wrap, IntKind.bits, IntKind.signed]
    omega
  rw [e]; omega
theorem ep_facts {z : Nat} {f n : Int} (hz : z ≤ 1048576) (hn0 : 0 < n) (hn : n ≤ 9223372036854775807) (hf : -9223372036854775808 ≤ f) (hf2 : f ≤ 9223372036854775807) :
    (max f 1 < epV z f n → loN f < hiN z f n ∧ (loN f : Int) = max f 1 - 1 ∧ (hiN z f n : Int) = epV z f n - 1) ∧ (epV z f n ≤ max f 1 → ¬ loN f < hiN z f n) := by
  unfold loN hiN
  rw [if_neg (by omega)]
  by_cases h1 : n = 9000000000000
  · have e : epV z f n = (z : Int) + 1 := by unfold epV; rw [if_pos h1]
    rw [e, if_pos h1]
    constructor <;> intro h <;> omega
  · rw [if_neg h1]
    by_cases h2 : f + n ≤ 9223372036854775807
    · rw [ep_same hz hn0 hf h2 h1]
      constructor <;> intro h <;> omega
    · have e : epV z f n ≤ (z : Int) + 1 := by
        unfold epV; rw [if_neg h1]; split
        · omega
        · omega
      by_cases h3 : 0 < f ∧ (z : Int) < n
      · have e2 : epV z f n = (z : Int) + 1 := by unfold epV; rw [if_neg h1, if_pos h3]
        rw [e2]
        constructor <;> intro h <;> omega
      · constructor <;> intro h <;> omega

theorem i64_bd {a : Int} (h : (Lit.int .i64 a).wf = true) : -9223372036854775808 ≤ a ∧ a ≤ 9223372036854775807 := by
  have := bounds_i64 h
  omega



theorem index_up (l x : List UInt8) : Lib.index l x ≤ l.length := by
  induction l with
  | nil => unfold Lib.index; split <;> simp
  | cons b l ih =>
    unfold Lib.index
    split
    · simp; omega
    · split
      · simp; omega
      · simp; omega

set_option maxRecDepth 100000 in
set_option maxHeartbeats 1000000 in
theorem impl_index (s t : ByteArray) (m : Int) (hs : s.size ≤ 1048576) (ht : t.size ≤ 1048576) (w : World) (hm : w.cell? ⟨0, 0, none⟩ = some (.int .i64 m)) :
    Calls Tryd.prog 60 #[.string s, .string t] w fun e w' => e = .returned (.int .i64 (ixN s t)) ∧ w = w' := by
  have HM := Lib.hid hm; clear hm
  cases hn : t.toList.isEmpty with
  | true =>
    have E : Hid (ixN s t = 0) := Lib.hid (by unfold ixN; rw [if_pos (show nilB t = true from hn)])
    have hl : t.toList = [] := List.isEmpty_iff.1 hn
    have HN := Lib.hid hn; clear hn
    go_enter Tryd.func60, Tryd.ntmps60
    go_wp2_with fail
    go_ret
    exact ⟨retI E.out.symm, rfl⟩
  | false =>
    have E : Hid (ixN s t = Lib.index s.data.toList t.data.toList + 1) := Lib.hid (by unfold ixN; rw [if_neg (by unfold nilB; rw [hn]; simp)])
    have hl : (t.toList == []) = false := by
      cases h : t.toList with
      | nil => rw [h] at hn; cases hn
      | cons a x => rfl
    have h1 := Lib.index_ge s.data.toList t.data.toList
    have h2 := index_up s.data.toList t.data.toList
    rw [len_data] at h2
    have hc := fun W hW => Tryd.strings_Index s t m W (by omega) hW
    generalize Lib.index s.data.toList t.data.toList = x at *
    have HC := Lib.hid hc; clear hc
    go_enter Tryd.func60, Tryd.ntmps60
    go_wp2_with fail
    refine (HC.out _ HM.out).mono ?_
    rintro e w' ⟨rfl, rfl⟩
    go_wp2_with fail
    go_ret
    exact ⟨retI E.out.symm, rfl⟩


end Go.Proofs.YtofinndkbjcgbaaDoor.Cell
