/-
  What TokText of the program and of its model return: the same text.
-/
import Derived.Test.YtlfmiikpbdhemaaGreatDoorEscaped
import Derived.Test.YtlfmiikpbdhemaaGreatDoorEscModel
import Derived.Test.YtlfmiikpbdhemaaGreatDoorDecText
import Derived.Test.YtlfmiikpbdhemaaGreatDoorTables
namespace Go.Proofs.YtlfmiikpbdhemaaGreatDoor.TokText
open Go.ChangeShapes Go.WideShapes Go.ChangeAt Go.RowKit Go.PlainAid Go.Maps
open Go.Proofs.YtlfmiikpbdhemaaGreatDoor.Dec Go.Proofs.YtlfmiikpbdhemaaGreatDoor.Lex Go.Proofs.YtlfmiikpbdhemaaGreatDoor.Esc
open Go.Proofs.YtlfmiikpbdhemaaGreatDoor.DecPure Go.Proofs.YtlfmiikpbdhemaaGreatDoor.TextPure Go.Proofs.YtlfmiikpbdhemaaGreatDoor.ReadPure Go.Proofs.YtlfmiikpbdhemaaGreatDoor.LexPure
set_option linter.unusedVariables false

/-- A token's text. -/
def tokT (k : Int) (s : ByteArray) (n : Int) : ByteArray :=
  if k = 1 then dtB n else if k = 2 then strOfNums (34 :: (escL s s.size ++ [34])) else if k = 3 then ⟨#[47]⟩ ++ s ++ ⟨#[47]⟩ else if 4 ≤ k ∧ k ≤ 7 then s else ⟨#[]⟩
theorem quote_eq (s : ByteArray) : ⟨#[34]⟩ ++ escS s ++ ⟨#[34]⟩ = strOfNums (34 :: (escL s s.size ++ [34])) := by
  have e : strOfNums [34] = ⟨#[34]⟩ := by decide +kernel
  rw [show (34 : Int) :: (escL s s.size ++ [34]) = [34] ++ escL s s.size ++ [34] from rfl, strOf_app, strOf_app, e]
  rfl

theorem clone_tok (t : ByteArray) (w : World) (hlim : t.size ≤ 281474976710656) : Calls Tryz.prog 32 #[.string t] w fun x w' => x = .returned (.string t) ∧ Below w.heap.size w w' := by
  go_enter Tryz.func32, Tryz.ntmps32
  go_wp2_with fail
  refine (Tryz.stringslite_Clone _ _ hlim).mono ?_
  rintro x w3 ⟨rfl, hB⟩
  go_wp2_with fail
  go_ret
  exact ⟨rfl, hB⟩

/-- A text that is kept behind a name. -/
def TextIs (w : World) (t : ByteArray) (m : Nat) (e : Ending) (w' : World) : Prop := ∃ s : ByteArray, e = .returned (.string s) ∧ s = t ∧ s.size ≤ m ∧ Below w.heap.size w w'
theorem escaped_is (s : ByteArray) (hs : s.size ≤ 1048576) (w : World) : Calls Tryz.prog 31 #[.string s] w (TextIs w (escS s) 3000000) :=
  (escaped_text s hs w).mono fun e w' ⟨he, hb⟩ => ⟨_, he, rfl, by rw [escS_size]; have := cntS_le s s.size; omega, hb⟩


set_option maxRecDepth 100000 in
set_option maxHeartbeats 2000000 in
theorem impl_tok (k : Int) (s : ByteArray) (n a : Int) (hs : s.size ≤ 1048576) (w : World) (htab : Go.Proofs.YtlfmiikpbdhemaaGreatDoor.Dec.Tables w) : Calls Tryz.prog 8 #[.agg #[.int .i64 k, .string s, .int .i64 n, .int .i64 a]] w fun e w' => e = .returned (.string (tokT k s n)) ∧ Below w.heap.size w w' := by
  have HT := Lib.hid htab
  clear htab
  by_cases h1 : k = 1
  · subst h1
    have HX : Hid (tokT 1 s n = dtB n) := Lib.hid (by unfold tokT; rfl)
    go_enter Tryz.func8, Tryz.ntmps8
    go_wp2_with fail
    refine (impl_text n _ (HT.out.below ((Below.refl w.heap.size w).alloc (Nat.le_refl _) _))).mono ?_
    rintro e w1 ⟨rfl, hB1⟩
    go_wp2_with fail
    go_ret
    exact ⟨strs HX.out.symm, ((Below.refl w.heap.size w).alloc (Nat.le_refl _) _).trans (hB1.mono (by simp))⟩
  by_cases h2 : k = 2
  · subst h2
    have HX : Hid (tokT 2 s n = strOfNums (34 :: (escL s s.size ++ [34]))) := Lib.hid (by unfold tokT; rw [if_neg (by omega), if_pos (by omega)])
    clear h1
    go_enter Tryz.func8, Tryz.ntmps8
    go_wp2_with fail
    refine (escaped_is s hs _).mono ?_
    rintro e w1 ⟨t, rfl, ht, htz, hB1⟩
    have HS := Lib.hid ht
    clear ht
    go_wp2_with fail
    go_ret
    exact ⟨strs (by rw [HX.out, HS.out, quote_eq]), ((Below.refl w.heap.size w).alloc (Nat.le_refl _) _).trans (hB1.mono (by simp))⟩
  by_cases h3 : k = 3
  · subst h3
    have HX : Hid (tokT 3 s n = ⟨#[47]⟩ ++ s ++ ⟨#[47]⟩) := Lib.hid (by unfold tokT; rw [if_neg (by omega), if_neg (by omega), if_pos (by omega)])
    clear h1 h2
    go_enter Tryz.func8, Tryz.ntmps8
    go_wp2_with fail
    go_ret
    exact ⟨strs HX.out.symm, ((Below.refl w.heap.size w).alloc (Nat.le_refl _) _)⟩
  by_cases h4 : k = 4
  · subst h4
    have HX : Hid (tokT 4 s n = s) := Lib.hid (by unfold tokT; rw [if_neg (by omega), if_neg (by omega), if_neg (by omega), if_pos (by omega)])
    clear h1 h2 h3
    go_enter Tryz.func8, Tryz.ntmps8
    go_wp2_with fail
    refine (clone_tok s _ (by omega)).mono ?_
    rintro e w1 ⟨rfl, hB1⟩
    go_wp2_with fail
    go_ret
    exact ⟨strs HX.out.symm, ((Below.refl w.heap.size w).alloc (Nat.le_refl _) _).trans (hB1.mono (by simp))⟩
  by_cases h5 : k = 5
  · subst h5
    have HX : Hid (tokT 5 s n = s) := Lib.hid (by unfold tokT; rw [if_neg (by omega), if_neg (by omega), if_neg (by omega), if_pos (by omega)])
    clear h1 h2 h3 h4
    go_enter Tryz.func8, Tryz.ntmps8
    go_wp2_with fail
    refine (clone_tok s _ (by omega)).mono ?_
    rintro e w1 ⟨rfl, hB1⟩
    go_wp2_with fail
    go_ret
    exact ⟨strs HX.out.symm, ((Below.refl w.heap.size w).alloc (Nat.le_refl _) _).trans (hB1.mono (by simp))⟩
  by_cases h6 : k = 6
  · subst h6
    have HX : Hid (tokT 6 s n = s) := Lib.hid (by unfold tokT; rw [if_neg (by omega), if_neg (by omega), if_neg (by omega), if_pos (by omega)])
    clear h1 h2 h3 h4 h5
    go_enter Tryz.func8, Tryz.ntmps8
    go_wp2_with fail
    refine (clone_tok s _ (by omega)).mono ?_
    rintro e w1 ⟨rfl, hB1⟩
    go_wp2_with fail
    go_ret
    exact ⟨strs HX.out.symm, ((Below.refl w.heap.size w).alloc (Nat.le_refl _) _).trans (hB1.mono (by simp))⟩
  by_cases h7 : k = 7
  · subst h7
    have HX : Hid (tokT 7 s n = s) := Lib.hid (by unfold tokT; rw [if_neg (by omega), if_neg (by omega), if_neg (by omega), if_pos (by omega)])
    clear h1 h2 h3 h4 h5 h6
    go_enter Tryz.func8, Tryz.ntmps8
    go_wp2_with fail
    refine (clone_tok s _ (by omega)).mono ?_
    rintro e w1 ⟨rfl, hB1⟩
    go_wp2_with fail
    go_ret
    exact ⟨strs HX.out.symm, ((Below.refl w.heap.size w).alloc (Nat.le_refl _) _).trans (hB1.mono (by simp))⟩
  have HX : Hid (tokT k s n = ⟨#[]⟩) := Lib.hid (by unfold tokT; rw [if_neg (by omega), if_neg (by omega), if_neg (by omega), if_neg (by omega)])
  have e1 : (k == 1) = false := by simpa using h1
  have e2 : (k == 2) = false := by simpa using h2
  have e3 : (k == 3) = false := by simpa using h3
  have e4 : (k == 4) = false := by simpa using h4
  have e5 : (k == 5) = false := by simpa using h5
  have e6 : (k == 6) = false := by simpa using h6
  have e7 : (k == 7) = false := by simpa using h7
  clear h1 h2 h3 h4 h5 h6 h7
  go_enter Tryz.func8, Tryz.ntmps8
  go_wp2_with fail
  go_ret
  exact ⟨strs HX.out.symm, ((Below.refl w.heap.size w).alloc (Nat.le_refl _) _)⟩


end Go.Proofs.YtlfmiikpbdhemaaGreatDoor.TokText
