/-
  What a program of nodes and items is: plain facts.
-/
import Derived.Test.YthaedmldlenhgaaGreatDoorRows
import Derived.WalkKit
import Derived.PlainAid
namespace Go.Proofs.YthaedmldlenhgaaGreatDoor.PgPure
open Go Go.RowKit Go.PlainAid
set_option linter.unusedVariables false

/-- A node, read. -/
structure Nd where
  kind : Int
  s : ByteArray
  t : ByteArray
  n : Int
  kids : List Int

/-- An item, read. -/
structure It where
  when : Int
  name : ByteArray
  params : List ByteArray
  cond : Int
  body : Int

/-- A program, read. -/
structure Pg where
  l : List Nd
  items : List It

def e0 : ByteArray := ⟨#[]⟩
def nd0 : Nd := ⟨0, e0, e0, 0, []⟩
def it0 : It := ⟨0, e0, [], 0, 0⟩
def nthN (l : List Nd) (i : Nat) : Nd := l.getD i nd0
def nthT (l : List It) (i : Nat) : It := l.getD i it0
def gi (l : List Int) (i : Nat) : Int := l.getD i 0
def gs (l : List ByteArray) (i : Nat) : ByteArray := l.getD i e0
theorem nthN_eq {l : List Nd} {i : Nat} (h : i < l.length) : nthN l i = l[i] := by simp [nthN, List.getD, List.getElem?_eq_getElem h]
theorem nthT_eq {l : List It} {i : Nat} (h : i < l.length) : nthT l i = l[i] := by simp [nthT, List.getD, List.getElem?_eq_getElem h]
theorem gi_eq {l : List Int} {i : Nat} (h : i < l.length) : gi l i = l[i] := by simp [gi, List.getD, List.getElem?_eq_getElem h]
theorem gs_eq {l : List ByteArray} {i : Nat} (h : i < l.length) : gs l i = l[i] := by simp [gs, List.getD, List.getElem?_eq_getElem h]

theorem same_yes {a b : ByteArray} (h : a = b) : (a.toList == b.toList) = true := by subst h; simp
theorem same_no {a b : ByteArray} (h : a ≠ b) : (a.toList == b.toList) = false := by
  cases hq : (a.toList == b.toList) with
  | false => rfl
  | true =>
    have e : a.toList = b.toList := by simpa using hq
    rw [ByteArray.toList_eq, ByteArray.toList_eq] at e
    exact absurd (ByteArray.ext (Array.toList_inj.1 e)) h

/-- What a slice of texts counts, its first i texts measured. -/
def totS (l : List ByteArray) : Nat → Nat
  | 0 => l.length
  | i + 1 => totS l i + (gs l i).size
theorem totS_ge (l : List ByteArray) : ∀ i, l.length ≤ totS l i
  | 0 => Nat.le_refl _
  | i + 1 => by have := totS_ge l i; rw [totS]; omega
theorem totS_mono (l : List ByteArray) (i : Nat) : ∀ j, totS l i ≤ totS l (i + j)
  | 0 => Nat.le_refl _
  | j + 1 => by have := totS_mono l i j; rw [← Nat.add_assoc, totS]; omega

def wtN (n : Nd) : Nat := n.s.size + n.t.size + n.kids.length
def wtT (n : It) : Nat := n.name.size + totS n.params n.params.length
def totN (l : List Nd) : Nat → Nat
  | 0 => l.length
  | i + 1 => totN l i + wtN (nthN l i)
theorem totN_ge (l : List Nd) : ∀ i, l.length ≤ totN l i
  | 0 => Nat.le_refl _
  | i + 1 => by have := totN_ge l i; rw [totN]; omega
theorem totN_mono (l : List Nd) (i : Nat) : ∀ j, totN l i ≤ totN l (i + j)
  | 0 => Nat.le_refl _
  | j + 1 => by have := totN_mono l i j; rw [← Nat.add_assoc, totN]; omega
def totT (l : List It) : Nat → Nat
  | 0 => l.length
  | i + 1 => totT l i + wtT (nthT l i)
theorem totT_ge (l : List It) : ∀ i, l.length ≤ totT l i
  | 0 => Nat.le_refl _
  | i + 1 => by have := totT_ge l i; rw [totT]; omega
theorem totT_mono (l : List It) (i : Nat) : ∀ j, totT l i ≤ totT l (i + j)
  | 0 => Nat.le_refl _
  | j + 1 => by have := totT_mono l i j; rw [← Nat.add_assoc, totT]; omega
/-- What a program counts. -/
def wtP (p : Pg) : Nat := totN p.l p.l.length + totT p.items p.items.length

end Go.Proofs.YthaedmldlenhgaaGreatDoor.PgPure
