/-
  Slices of integers and of texts, read in a world; what measures, copies and compares them.
-/
import Derived.Test.YtofinndkbjcgbaaGreatDoorPgPure
import Derived.WalkKit
import Derived.ProofKit
import Derived.OpenShut
import Derived.Lib.Hide
import Derived.Outline
import Derived.RegionTactic
import Derived.Deep.QuietTactic
import Derived.BigQuiet
import Derived.OwnWalk
import Derived.Below
import Derived.Laws.OwnMore
import Derived.Deep.OwnRows
import Derived.Handy
import Derived.StillTailTactics
namespace Go.Proofs.YtofinndkbjcgbaaGreatDoor.Pg
open Go.ChangeShapes Go.WideShapes Go.ChangeAt Go.RowKit Go.PlainAid
open Go.Proofs.YtofinndkbjcgbaaGreatDoor.PgPure
set_option linter.unusedVariables false

/-- A slice of integers in blocks below B, read. -/
def IntsAt (B : Nat) (w : World) (v : Value) (l : List Int) : Prop :=
  ∃ (ao : Option Addr) (cap : Nat), v = .slice ao l.length cap ∧ l.length ≤ cap ∧ cap ≤ maxLen ∧
    ∀ i, i < l.length → ∃ b off, ao = some ⟨b, off, none⟩ ∧ b < B ∧ w.cell? ⟨b, off + i, none⟩ = some (.int .i64 (gi l i))

/-- A slice of texts in blocks below B, read. -/
def StrsAt (B : Nat) (w : World) (v : Value) (l : List ByteArray) : Prop :=
  ∃ (ao : Option Addr) (cap : Nat), v = .slice ao l.length cap ∧ l.length ≤ cap ∧ cap ≤ maxLen ∧
    ∀ i, i < l.length → ∃ b off, ao = some ⟨b, off, none⟩ ∧ b < B ∧ w.cell? ⟨b, off + i, none⟩ = some (.string (gs l i)) ∧ (gs l i).size ≤ maxLen

theorem IntsAt.below {B B' : Nat} {w w' : World} {v : Value} {l : List Int} (h : IntsAt B w v l) (hb : Below B w w') (hB : B ≤ B') : IntsAt B' w' v l := by
  obtain ⟨ao, cap, e, h1, h2, h3⟩ := h
  refine ⟨ao, cap, e, h1, h2, fun i hi => ?_⟩
  obtain ⟨b, off, ea, hb1, hc⟩ := h3 i hi
  exact ⟨b, off, ea, by omega, by rw [hb.cell hb1]; exact hc⟩
theorem StrsAt.below {B B' : Nat} {w w' : World} {v : Value} {l : List ByteArray} (h : StrsAt B w v l) (hb : Below B w w') (hB : B ≤ B') : StrsAt B' w' v l := by
  obtain ⟨ao, cap, e, h1, h2, h3⟩ := h
  refine ⟨ao, cap, e, h1, h2, fun i hi => ?_⟩
  obtain ⟨b, off, ea, hb1, hc, hs⟩ := h3 i hi
  exact ⟨b, off, ea, by omega, by rw [hb.cell hb1]; exact hc, hs⟩
theorem rowIs_below {B : Nat} {w w' : World} {b n : Nat} {t : TypeId} {f : Nat → Value} (h : w.rowIs b t n f) (hb : Below B w w') (hB : b < B) : w'.rowIs b t n f := h.of_block (hb.block b hB)
theorem intsAt_row {B : Nat} {w : World} {g : Nat} {l : List Int} (h : w.rowIs g 3 l.length (fun j => .int .i64 (gi l j))) (hg : g < B) (hl : l.length ≤ maxLen) : IntsAt B w (.slice (some ⟨g, 0, none⟩) l.length l.length) l :=
  ⟨_, _, rfl, Nat.le_refl _, hl, fun i hi => ⟨g, 0, rfl, hg, by rw [Nat.zero_add]; exact h.cell hi⟩⟩
theorem strsAt_row {B : Nat} {w : World} {g : Nat} {l : List ByteArray} (h : w.rowIs g 9 l.length (fun j => .string (gs l j))) (hg : g < B) (hl : l.length ≤ maxLen) (hs : ∀ i, i < l.length → (gs l i).size ≤ maxLen) : StrsAt B w (.slice (some ⟨g, 0, none⟩) l.length l.length) l :=
  ⟨_, _, rfl, Nat.le_refl _, hl, fun i hi => ⟨g, 0, rfl, hg, by rw [Nat.zero_add]; exact h.cell hi, hs i hi⟩⟩
theorem IntsAt.len {B : Nat} {w : World} {v : Value} {l : List Int} (h : IntsAt B w v l) : l.length ≤ maxLen := by obtain ⟨_, cap, _, h1, h2, _⟩ := h; omega
theorem StrsAt.len {B : Nat} {w : World} {v : Value} {l : List ByteArray} (h : StrsAt B w v l) : l.length ≤ maxLen := by obtain ⟨_, cap, _, h1, h2, _⟩ := h; omega
theorem StrsAt.sizes {B : Nat} {w : World} {v : Value} {l : List ByteArray} (h : StrsAt B w v l) (i : Nat) (hi : i < l.length) : (gs l i).size ≤ maxLen := by
  obtain ⟨_, _, _, _, _, h3⟩ := h
  obtain ⟨_, _, _, _, _, hs⟩ := h3 i hi
  exact hs

/-- What is left when n is taken away: less than nothing is -1. -/
def szR (left : Int) (n : Nat) : Int := if (n : Int) ≤ left then left - n else -1
theorem szR_pos {left : Int} {n : Nat} (h : (n : Int) ≤ left) : szR left n = left - n := if_pos h
theorem szR_neg {left : Int} {n : Nat} (h : ¬ (n : Int) ≤ left) : szR left n = -1 := if_neg h

theorem infoInt : (Tryz.prog.info? 3).map (fun i => (i.zero, i.size, i.bytes)) = some (some (.int .i64 0), 1, 8) := by kernel_rfl
theorem infoStr : (Tryz.prog.info? 9).map (fun i => (i.zero, i.size, i.bytes)) = some (some (.string ⟨#[]⟩), 1, 16) := by kernel_rfl







end Go.Proofs.YtofinndkbjcgbaaGreatDoor.Pg
