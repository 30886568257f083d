/-
  Slices of integers and of texts, read in a world; what measures, copies and compares them.
-/
import Derived.Test.YthaedmldlenhgaaGreatDoorPgPure
import Derived.WalkKit
import Derived.ProofKit
import Derived.OpenShut
import Derived.Lib.Hide
import Derived.Outline
import Derived.RegionTactic
import Derived.Deep.QuietTactic
import Derived.BigQuiet
import Derived.OwnWalk
import Derived.Below
import Derived.Laws.OwnMore
import Derived.Deep.OwnRows
import Derived.Handy
import Derived.StillTailTactics
namespace Go.Proofs.YthaedmldlenhgaaGreatDoor.Pg
open Go.ChangeShapes Go.WideShapes Go.ChangeAt Go.RowKit Go.PlainAid
open Go.Proofs.YthaedmldlenhgaaGreatDoor.PgPure
set_option linter.unusedVariables false

/-- A slice of integers in blocks below B, read. -/
def IntsAt (B : Nat) (w : World) (v : Value) (l : List Int) : Prop :=
  ∃ (ao : Option Addr) (cap : Nat), v = .slice ao l.length cap ∧ l.length ≤ cap ∧ cap ≤ maxLen ∧
    ∀ i, i < l.length → ∃ b off, ao = some ⟨b, off, none⟩ ∧ b < B ∧ w.cell? ⟨b, off + i, none⟩ = some (.int .i64 (gi l i))

/-- A slice of texts in blocks below B, read. -/
def StrsAt (B : Nat) (w : World) (v : Value) (l : List ByteArray) : Prop :=
  ∃ (ao : Option Addr) (cap : Nat), v = .slice ao l.length cap ∧ l.length ≤ cap ∧ cap ≤ maxLen ∧
    ∀ i, i < l.length → ∃ b off, ao = some ⟨b, off, none⟩ ∧ b < B ∧ w.cell? ⟨b, off + i, none⟩ = some (.string (gs l i)) ∧ (gs l i).size ≤ maxLen

theorem IntsAt.below {B B' : Nat} {w w' : World} {v : Value} {l : List Int} (h : IntsAt B w v l) (hb : Below B w w') (hB : B ≤ B') : IntsAt B' w' v l := by
  obtain ⟨ao, cap, e, h1, h2, h3⟩ := h
  refine ⟨ao, cap, e, h1, h2, fun i hi => ?_⟩
  obtain ⟨b, off, ea, hb1, hc⟩ := h3 i hi
  exact ⟨b, off, ea, by omega, by rw [hb.cell hb1]; exact hc⟩
theorem StrsAt.below {B B' : Nat} {w w' : World} {v : Value} {l : List ByteArray} (h : StrsAt B w v l) (hb : Below B w w') (hB : B ≤ B') : StrsAt B' w' v l := by
  obtain ⟨ao, cap, e, h1, h2, h3⟩ := h
  refine ⟨ao, cap, e, h1, h2, fun i hi => ?_⟩
  obtain ⟨b, off, ea, hb1, hc, hs⟩ := h3 i hi
  exact ⟨b, off, ea, by omega, by rw [hb.cell hb1]; exact hc, hs⟩
theorem rowIs_below {B : Nat} {w w' : World} {b n : Nat} {t : TypeId} {f : Nat → Value} (h : w.rowIs b t n f) (hb : Below B w w') (hB : b < B) : w'.rowIs b t n f := h.of_block (hb.block b hB)
theorem intsAt_row {B : Nat} {w : World} {g : Nat} {l : List Int} (h : w.rowIs g 3 l.length (fun j => .int .i64 (gi l j))) (hg : g < B) (hl : l.length ≤ maxLen) : IntsAt B w (.slice (some ⟨g, 0, none⟩) l.length l.length) l :=
  ⟨_, _, rfl, Nat.le_refl _, hl, fun i hi => ⟨g, 0, rfl, hg, by rw [Nat.zero_add]; exact h.cell hi⟩⟩
theorem strsAt_row {B : Nat} {w : World} {g : Nat} {l : List ByteArray} (h : w.rowIs g 9 l.length (fun j => .string (gs l j))) (hg : g < B) (hl : l.length ≤ maxLen) (hs : ∀ i, i < l.length → (gs l i).size ≤ maxLen) : StrsAt B w (.slice (some ⟨g, 0, none⟩) l.length l.length) l :=
  ⟨_, _, rfl, Nat.le_refl _, hl, fun i hi => ⟨g, 0, rfl, hg, by rw [Nat.zero_add]; exact h.cell hi, hs i hi⟩⟩
theorem IntsAt.len {B : Nat} {w : World} {v : Value} {l : List Int} (h : IntsAt B w v l) : l.length ≤ maxLen := by obtain ⟨_, cap, _, h1, h2, _⟩ := h; omega
theorem StrsAt.len {B : Nat} {w : World} {v : Value} {l : List ByteArray} (h : StrsAt B w v l) : l.length ≤ maxLen := by obtain ⟨_, cap, _, h1, h2, _⟩ := h; omega
theorem StrsAt.sizes {B : Nat} {w : World} {v : Value} {l : List ByteArray} (h : StrsAt B w v l) (i : Nat) (hi : i < l.length) : (gs l i).size ≤ maxLen := by
  obtain ⟨_, _, _, _, _, h3⟩ := h
  obtain ⟨_, _, _, _, _, hs⟩ := h3 i hi
  exact hs

/-- What is left when n is taken away: less than nothing is -1. -/
def szR (left : Int) (n : Nat) : Int := if (n : Int) ≤ left then left - n else -1
theorem szR_pos {left : Int} {n : Nat} (h : (n : Int) ≤ left) : szR left n = left - n := if_pos h
theorem szR_neg {left : Int} {n : Nat} (h : ¬ (n : Int) ≤ left) : szR left n = -1 := if_neg h

theorem infoInt : (Tryz.prog.info? 3).map (fun i => (i.zero, i.size, i.bytes)) = some (some (.int .i64 0), 1, 8) := by kernel_rfl
theorem infoStr : (Tryz.prog.info? 9).map (fun i => (i.zero, i.size, i.bytes)) = some (some (.string ⟨#[]⟩), 1, 16) := by kernel_rfl





set_option maxHeartbeats 1000000 in
theorem eq_ints (B : Nat) (v v' : Value) (l : List Int) (w : World) (hB : B ≤ w.heap.size) (hv : IntsAt B w v l) (hv' : IntsAt B w v' l) :
    Calls Tryz.prog 133 #[v, v'] w fun e w' => e = .returned (.bool true) ∧ Below w.heap.size w w' := by
  obtain ⟨ao, cap, rfl, hc1, hc2, hc3⟩ := hv
  obtain ⟨ao', cap', rfl, hd1, hd2, hd3⟩ := hv'
  have HC := Lib.hid hc3; clear hc3
  have HD := Lib.hid hd3; clear hd3
  unfold maxLen at hc2 hd2
  go_enter Tryz.func133, Tryz.ntmps133
  go_wp2_with fail
  go_loopw [5] (fun i wr => ∃ (k : Nat), k ≤ l.length ∧ i = .int .i64 k ∧ Below w.heap.size w wr)
    (fun i _ => l.length - (intOf i).toNat)
  case atStart => exact ⟨0, Nat.zero_le _, rfl, Below.refl _ _⟩
  case round =>
    obtain ⟨k, hk, rfl, hB1⟩ := hrel
    by_cases hkl : k < l.length
    · obtain ⟨b, off, rfl, hb, hN⟩ := HC.out k hkl
      obtain ⟨b', off', rfl, hb', hN'⟩ := HD.out k hkl
      have c0 := (hB1.cell (p := ⟨b, off + k, none⟩) (show b < _ by omega)).trans hN
      have c1 := (hB1.cell (p := ⟨b', off' + k, none⟩) (show b' < _ by omega)).trans hN'
      have hki : (k : Int) < (l.length : Int) := by omega
      clear hN hN'
      go_wp2_with fail
      go_quiet (fail)
      go_wp2_with fail
      go_roundw
      case rel => exact ⟨k + 1, by omega, by go_num, hB1.trans ⟨rfl, rfl, rfl, Nat.le_refl _, fun _ _ => rfl⟩⟩
      case measure => simp [intOf]; omega
    · have e : k = l.length := by omega
      subst e
      go_wp2_with fail
      go_ret
      exact ⟨rfl, hB1⟩

set_option maxHeartbeats 1000000 in
theorem eq_strs (B : Nat) (v v' : Value) (l : List ByteArray) (w : World) (hB : B ≤ w.heap.size) (hv : StrsAt B w v l) (hv' : StrsAt B w v' l) :
    Calls Tryz.prog 134 #[v, v'] w fun e w' => e = .returned (.bool true) ∧ Below w.heap.size w w' := by
  obtain ⟨ao, cap, rfl, hc1, hc2, hc3⟩ := hv
  obtain ⟨ao', cap', rfl, hd1, hd2, hd3⟩ := hv'
  have HC := Lib.hid hc3; clear hc3
  have HD := Lib.hid hd3; clear hd3
  unfold maxLen at hc2 hd2
  go_enter Tryz.func134, Tryz.ntmps134
  go_wp2_with fail
  go_loopw [5] (fun i wr => ∃ (k : Nat), k ≤ l.length ∧ i = .int .i64 k ∧ Below w.heap.size w wr)
    (fun i _ => l.length - (intOf i).toNat)
  case atStart => exact ⟨0, Nat.zero_le _, rfl, Below.refl _ _⟩
  case round =>
    obtain ⟨k, hk, rfl, hB1⟩ := hrel
    by_cases hkl : k < l.length
    · obtain ⟨b, off, rfl, hb, hN, hs⟩ := HC.out k hkl
      obtain ⟨b', off', rfl, hb', hN', hs'⟩ := HD.out k hkl
      have c0 := (hB1.cell (p := ⟨b, off + k, none⟩) (show b < _ by omega)).trans hN
      have c1 := (hB1.cell (p := ⟨b', off' + k, none⟩) (show b' < _ by omega)).trans hN'
      have hki : (k : Int) < (l.length : Int) := by omega
      clear hN hN'
      go_wp2_with fail
      go_quiet (fail)
      go_wp2_with fail
      go_roundw
      case rel => exact ⟨k + 1, by omega, by go_num, hB1.trans ⟨rfl, rfl, rfl, Nat.le_refl _, fun _ _ => rfl⟩⟩
      case measure => simp [intOf]; omega
    · have e : k = l.length := by omega
      subst e
      go_wp2_with fail
      go_ret
      exact ⟨rfl, hB1⟩

end Go.Proofs.YthaedmldlenhgaaGreatDoor.Pg
