/-
  The text of a token that was read, as the program writes it; what a lexer's two results are.
-/
import Derived.Test.YtlfmiikpbdhemaaGreatDoorAgain
import Derived.Test.YtlfmiikpbdhemaaGreatDoorTokText
namespace Go.Proofs.YtlfmiikpbdhemaaGreatDoor.Relex
open Go.RowKit Go.PlainAid
open Go.Proofs.YtlfmiikpbdhemaaGreatDoor.DecPure Go.Proofs.YtlfmiikpbdhemaaGreatDoor.TextPure Go.Proofs.YtlfmiikpbdhemaaGreatDoor.ReadPure Go.Proofs.YtlfmiikpbdhemaaGreatDoor.LexPure Go.Proofs.YtlfmiikpbdhemaaGreatDoor.Esc Go.Proofs.YtlfmiikpbdhemaaGreatDoor.TokText
open Go.Proofs.YtlfmiikpbdhemaaGreatDoor.RoundPure (tL textB_nums)
open Go.Proofs.YtlfmiikpbdhemaaGreatDoor.Lex (pz str_pz)
set_option linter.unusedVariables false

theorem pz_whole (s : ByteArray) : strOfNums (pz s 0 s.size) = s := by
  rw [str_pz (by omega), Nat.zero_add]
  simp
theorem tok_text {t : Tk} (h : 1 ≤ t.kind ∧ t.kind ≤ 7) (hn : t.kind = 1 → dOk t.n = true) : tokT t.kind t.s t.n = strOfNums (tkL t) := by
  unfold tokT tkL
  by_cases h1 : t.kind = 1
  · rw [if_pos h1, if_pos h1, dtB, if_pos (hn h1), textB_nums]
  rw [if_neg h1, if_neg h1]
  by_cases h2 : t.kind = 2
  · rw [if_pos h2, if_pos h2]
  rw [if_neg h2, if_neg h2]
  by_cases h3 : t.kind = 3
  · rw [if_pos h3, if_pos h3]
    have e : strOfNums [47] = ⟨#[47]⟩ := by decide +kernel
    rw [show (47 : Int) :: (pz t.s 0 t.s.size ++ [47]) = [47] ++ pz t.s 0 t.s.size ++ [47] from rfl, strOf_app, strOf_app, e, pz_whole]
  rw [if_neg h3, if_neg h3, if_pos (by omega), pz_whole]
theorem sep_text (t : Tk) : strOfNums (sepL t) = if t.kind = 5 then ⟨#[]⟩ else ⟨#[32]⟩ := by
  unfold sepL
  split
  · rfl
  · decide +kernel
theorem txL_take (l : List Tk) (i : Nat) (h : i < l.length) : txL (l.take (i + 1)) = txL (l.take i) ++ tkL (tth l i) ++ sepL (tth l i) := by
  have e : tth l i = l[i] := by simp [tth, List.getD, List.getElem?_eq_getElem h]
  rw [List.take_succ_eq_append_getElem h, txL_add, e]
  simp [txL]
theorem txL_le (l : List Tk) (i : Nat) : (txL (l.take i)).length ≤ (txL l).length := by
  have h := txL_add (l.take i) (l.drop i)
  rw [List.take_append_drop] at h
  rw [h, List.length_append]; omega
theorem tth_mem (l : List Tk) (i : Nat) (h : i < l.length) : tth l i ∈ l := by
  have e : tth l i = l[i] := by simp [tth, List.getD, List.getElem?_eq_getElem h]
  rw [e]; exact List.getElem_mem h

theorem lexF_two (s : ByteArray) : ∀ (m a : Nat) (l : List Tk), (lexF s m a l).2 = -1 ∨ (0 ≤ (lexF s m a l).2 ∧ (lexF s m a l).1 = [])
  | 0, a, l => .inl rfl
  | m + 1, a, l => by
    rw [lexF]
    split
    · cases hq : tokP s (opnd l) (gap s a) with
      | none => exact .inr ⟨Int.natCast_nonneg _, rfl⟩
      | some q => exact lexF_two s m _ _
    · exact .inl rfl
theorem lexP_two (s : ByteArray) : (lexP s).2 = -1 ∨ (0 ≤ (lexP s).2 ∧ (lexP s).1 = []) := by
  unfold lexP
  split
  · exact .inr ⟨Int.le_refl _, rfl⟩
  · exact lexF_two s _ _ _

end Go.Proofs.YtlfmiikpbdhemaaGreatDoor.Relex
