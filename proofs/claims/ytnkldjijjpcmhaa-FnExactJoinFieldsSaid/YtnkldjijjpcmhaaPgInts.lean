/-
  Slices of integers and of texts, read in a world; what measures, copies and compares them.
-/
import Derived.Test.YtnkldjijjpcmhaaPgPure
import Derived.WalkKit
import Derived.ProofKit
import Derived.OpenShut
import Derived.Lib.Hide
import Derived.Outline
import Derived.RegionTactic
import Derived.Deep.QuietTactic
import Derived.BigQuiet
import Derived.OwnWalk
import Derived.Below
import Derived.Laws.OwnMore
import Derived.Deep.OwnRows
import Derived.Handy
import Derived.StillTailTactics
namespace Go.Proofs.Ytnkldjijjpcmhaa.Pg
open Go.ChangeShapes Go.WideShapes Go.ChangeAt Go.RowKit Go.PlainAid
open Go.Proofs.Ytnkldjijjpcmhaa.PgPure
set_option linter.unusedVariables false

/-- A slice of integers in blocks below B, read. -/
def IntsAt (B : Nat) (w : World) (v : Value) (l : List Int) : Prop :=
  ∃ (ao : Option Addr) (cap : Nat), v = .slice ao l.length cap ∧ l.length ≤ cap ∧ cap ≤ maxLen ∧
    ∀ i, i < l.length → ∃ b off, ao = some ⟨b, off, none⟩ ∧ b < B ∧ w.cell? ⟨b, off + i, none⟩ = some (.int .i64 (gi l i))

/-- A slice of texts in blocks below B, read. -/
def StrsAt (B : Nat) (w : World) (v : Value) (l : List ByteArray) : Prop :=
  ∃ (ao : Option Addr) (cap : Nat), v = .slice ao l.length cap ∧ l.length ≤ cap ∧ cap ≤ maxLen ∧
    ∀ i, i < l.length → ∃ b off, ao = some ⟨b, off, none⟩ ∧ b < B ∧ w.cell? ⟨b, off + i, none⟩ = some (.string (gs l i)) ∧ (gs l i).size ≤ maxLen

theorem IntsAt.below {B B' : Nat} {w w' : World} {v : Value} {l : List Int} (h : IntsAt B w v l) (hb : Below B w w') (hB : B ≤ B') : IntsAt B' w' v l := by
  obtain ⟨ao, cap, e, h1, h2, h3⟩ := h
  refine ⟨ao, cap, e, h1, h2, fun i hi => ?_⟩
  obtain ⟨b, off, ea, hb1, hc⟩ := h3 i hi
  exact ⟨b, off, ea, by omega, by rw [hb.cell hb1]; exact hc⟩
theorem StrsAt.below {B B' : Nat} {w w' : World} {v : Value} {l : List ByteArray} (h : StrsAt B w v l) (hb : Below B w w') (hB : B ≤ B') : StrsAt B' w' v l := by
  obtain ⟨ao, cap, e, h1, h2, h3⟩ := h
  refine ⟨ao, cap, e, h1, h2, fun i hi => ?_⟩
  obtain ⟨b, off, ea, hb1, hc, hs⟩ := h3 i hi
  exact ⟨b, off, ea, by omega, by rw [hb.cell hb1]; exact hc, hs⟩
theorem rowIs_below {B : Nat} {w w' : World} {b n : Nat} {t : TypeId} {f : Nat → Value} (h : w.rowIs b t n f) (hb : Below B w w') (hB : b < B) : w'.rowIs b t n f := h.of_block (hb.block b hB)
theorem intsAt_row {B : Nat} {w : World} {g : Nat} {l : List Int} (h : w.rowIs g 3 l.length (fun j => .int .i64 (gi l j))) (hg : g < B) (hl : l.length ≤ maxLen) : IntsAt B w (.slice (some ⟨g, 0, none⟩) l.length l.length) l :=
  ⟨_, _, rfl, Nat.le_refl _, hl, fun i hi => ⟨g, 0, rfl, hg, by rw [Nat.zero_add]; exact h.cell hi⟩⟩
theorem strsAt_row {B : Nat} {w : World} {g : Nat} {l : List ByteArray} (h : w.rowIs g 9 l.length (fun j => .string (gs l j))) (hg : g < B) (hl : l.length ≤ maxLen) (hs : ∀ i, i < l.length → (gs l i).size ≤ maxLen) : StrsAt B w (.slice (some ⟨g, 0, none⟩) l.length l.length) l :=
  ⟨_, _, rfl, Nat.le_refl _, hl, fun i hi => ⟨g, 0, rfl, hg, by rw [Nat.zero_add]; exact h.cell hi, hs i hi⟩⟩
theorem IntsAt.len {B : Nat} {w : World} {v : Value} {l : List Int} (h : IntsAt B w v l) : l.length ≤ maxLen := by obtain ⟨_, cap, _, h1, h2, _⟩ := h; omega
theorem StrsAt.len {B : Nat} {w : World} {v : Value} {l : List ByteArray} (h : StrsAt B w v l) : l.length ≤ maxLen := by obtain ⟨_, cap, _, h1, h2, _⟩ := h; omega
theorem StrsAt.sizes {B : Nat} {w : World} {v : Value} {l : List ByteArray} (h : StrsAt B w v l) (i : Nat) (hi : i < l.length) : (gs l i).size ≤ maxLen := by
  obtain ⟨_, _, _, _, _, h3⟩ := h
  obtain ⟨_, _, _, _, _, hs⟩ := h3 i hi
  exact hs

/-- What is left when n is taken away: less than nothing is -1. -/
def szR (left : Int) (n : Nat) : Int := if (n : Int) ≤ left then left - n else -1
theorem szR_pos {left : Int} {n : Nat} (h : (n : Int) ≤ left) : szR left n = left - n := if_pos h
theorem szR_neg {left : Int} {n : Nat} (h : ¬ (n : Int) ≤ left) : szR left n = -1 := if_neg h

theorem infoInt : (Try.prog.info? 3).map (fun i => (i.zero, i.size, i.bytes)) = some (some (.int .i64 0), 1, 8) := by kernel_rfl
theorem infoStr : (Try.prog.info? 9).map (fun i => (i.zero, i.size, i.bytes)) = some (some (.string ⟨#[]⟩), 1, 16) := by kernel_rfl


set_option maxHeartbeats 1000000 in
theorem sz_strs (B : Nat) (v : Value) (l : List ByteArray) (left : Int) (w : World) (hB : B ≤ w.heap.size) (hv : StrsAt B w v l) (h0 : 0 ≤ left) (h1 : left ≤ 1048576) :
    Calls Try.prog 30 #[v, .int .i64 left] w fun e w' => e = .returned (.int .i64 (szR left (totS l l.length))) ∧ Below B w w' := by
  obtain ⟨ao, cap, rfl, hc1, hc2, hc3⟩ := hv
  have HC := Lib.hid hc3; clear hc3
  unfold maxLen at hc2
  by_cases hl : (l.length : Int) ≤ left
  · have hl2 : ¬ left - (l.length : Int) < 0 := by omega
    go_enter Try.func30, Try.ntmps30
    go_wp2_with fail
    go_loopw [1, 5] (fun r i wr => ∃ (k : Nat), k ≤ l.length ∧ i = .int .i64 k ∧ r = .int .i64 (left - (totS l k : Int)) ∧ (totS l k : Int) ≤ left ∧ Below B w wr)
      (fun _ i _ => l.length - (intOf i).toNat)
    case atStart => exact ⟨0, Nat.zero_le _, rfl, rfl, hl, Below.refl _ _⟩
    case round =>
      obtain ⟨k, hk, rfl, rfl, ht, hB1⟩ := hrel
      by_cases hkl : k < l.length
      · obtain ⟨b, off, rfl, hb, hN, hs⟩ := HC.out k hkl
        have c0 := (hB1.cell (p := ⟨b, off + k, none⟩) hb).trans hN
        clear hN
        unfold maxLen at hs
        have ht1 : totS l (k + 1) = totS l k + (gs l k).size := rfl
        by_cases hT : (totS l (k + 1) : Int) ≤ left
        · have hr : ¬ left - (totS l k : Int) - ((gs l k).size : Int) < 0 := by omega
          have HT := Lib.hid ht1; clear ht1
          go_wp2_with fail
          go_roundw
          case rel => exact ⟨k + 1, by omega, by go_num, by rw [HT.out]; congr 1; omega, hT, hB1⟩
          case measure => simp [intOf]; omega
        · have hr : left - (totS l k : Int) - ((gs l k).size : Int) < 0 := by omega
          have hend : ¬ (totS l l.length : Int) ≤ left := by
            have := totS_mono l (k + 1) (l.length - (k + 1))
            rw [show k + 1 + (l.length - (k + 1)) = l.length from by omega] at this
            omega
          have HE := szR_neg hend; clear hend hT ht1
          go_wp2_with fail
          go_ret
          exact ⟨by rw [HE]; rfl, hB1⟩
      · have e : k = l.length := by omega
        subst e
        have HT := szR_pos ht
        go_wp2_with fail
        go_ret
        exact ⟨by rw [HT]; rfl, hB1⟩
  · have hl2 : left - (l.length : Int) < 0 := by omega
    rw [szR_neg (by have := totS_ge l l.length; omega)]
    go_enter Try.func30, Try.ntmps30
    go_wp2_with fail
    go_ret
    exact ⟨rfl, Below.refl _ _⟩


set_option maxHeartbeats 1000000 in
theorem to_strs (B : Nat) (v : Value) (l : List ByteArray) (w : World) (hB : B ≤ w.heap.size) (hv : StrsAt B w v l) (hl : l.length ≤ 1048576) :
    Calls Try.prog 32 #[v] w fun e w' => e = .returned (.slice (some ⟨w.heap.size, 0, none⟩) l.length l.length) ∧ w'.rowIs w.heap.size 9 l.length (fun i => .string (gs l i)) ∧ w'.heap.size = w.heap.size + 1 ∧ Below w.heap.size w w' := by
  obtain ⟨ao, cap, rfl, hc1, hc2, hc3⟩ := hv
  have HC := Lib.hid hc3; clear hc3
  unfold maxLen at hc2
  have hmk := run_make_row' (P := Try.prog) 24 9 (.string ⟨#[]⟩) 16 Try.underlying24 infoStr rfl .i64 .i64 l.length (by omega) (by omega)
  go_enter Try.func32, Try.ntmps32
  go_wp2
  go_loopw [4] (fun i wr => ∃ (k : Nat), k ≤ l.length ∧ i = .int .i64 k ∧ wr.rowIs w.heap.size 9 l.length (fun j => .string (if j < k then gs l j else ⟨#[]⟩)) ∧ wr.heap.size = w.heap.size + 1 ∧ Below w.heap.size w wr)
    (fun i _ => l.length - (intOf i).toNat)
  case atStart => exact ⟨0, Nat.zero_le _, rfl, by simpa using World.rowIs_made w (.string ⟨#[]⟩) l.length 9, by show (w.heap.push _).size = _; simp, (Below.refl _ _).alloc (Nat.le_refl _) _⟩
  case round =>
    obtain ⟨k, hk, rfl, hrow, hsz, hB1⟩ := hrel
    by_cases hkl : k < l.length
    · obtain ⟨b, off, rfl, hb, hN, hs⟩ := HC.out k hkl
      have c0 := (hB1.cell (p := ⟨b, off + k, none⟩) (show b < _ by omega)).trans hN
      have c1 := hrow.cell hkl
      have f1 := hrow.frozen k
      have hrow2 := hrow.set k (.string (gs l k))
      have hB2 := hB1.setCell (p := ⟨w.heap.size, k, none⟩) (Nat.le_refl _) (.string (gs l k))
      have hs2 : (wr.setCell ⟨w.heap.size, k, none⟩ (.string (gs l k))).heap.size = w.heap.size + 1 := by rw [← hsz]; simp [World.setCell]
      have HR := Lib.hid hrow2; clear hrow2 hrow
      go_wp2_with fail
      go_roundw
      case rel =>
        refine ⟨k + 1, by omega, by go_num, HR.out.congr fun j hj => ?_, hs2, hB2⟩
        by_cases e : j = k
        · subst e; simp
        · by_cases e2 : j < k
          · rw [if_neg e, if_pos e2, if_pos (by omega)]
          · rw [if_neg e, if_neg e2, if_neg (by omega)]
      case measure => simp [intOf]; omega
    · have e : k = l.length := by omega
      subst e
      have hr := hrow.congr (g := fun i => .string (gs l i)) (fun i hi => by simp [hi])
      have HR := Lib.hid hr; clear hr hrow
      go_wp2_with fail
      go_ret
      exact ⟨rfl, HR.out, hsz, hB1⟩


set_option maxHeartbeats 1000000 in
theorem eq_strs (B : Nat) (v v' : Value) (l : List ByteArray) (w : World) (hB : B ≤ w.heap.size) (hv : StrsAt B w v l) (hv' : StrsAt B w v' l) :
    Calls Try.prog 27 #[v, v'] w fun e w' => e = .returned (.bool true) ∧ Below w.heap.size w w' := by
  obtain ⟨ao, cap, rfl, hc1, hc2, hc3⟩ := hv
  obtain ⟨ao', cap', rfl, hd1, hd2, hd3⟩ := hv'
  have HC := Lib.hid hc3; clear hc3
  have HD := Lib.hid hd3; clear hd3
  unfold maxLen at hc2 hd2
  go_enter Try.func27, Try.ntmps27
  go_wp2_with fail
  go_loopw [5] (fun i wr => ∃ (k : Nat), k ≤ l.length ∧ i = .int .i64 k ∧ Below w.heap.size w wr)
    (fun i _ => l.length - (intOf i).toNat)
  case atStart => exact ⟨0, Nat.zero_le _, rfl, Below.refl _ _⟩
  case round =>
    obtain ⟨k, hk, rfl, hB1⟩ := hrel
    by_cases hkl : k < l.length
    · obtain ⟨b, off, rfl, hb, hN, hs⟩ := HC.out k hkl
      obtain ⟨b', off', rfl, hb', hN', hs'⟩ := HD.out k hkl
      have c0 := (hB1.cell (p := ⟨b, off + k, none⟩) (show b < _ by omega)).trans hN
      have c1 := (hB1.cell (p := ⟨b', off' + k, none⟩) (show b' < _ by omega)).trans hN'
      have hki : (k : Int) < (l.length : Int) := by omega
      clear hN hN'
      go_wp2_with fail
      go_quiet (fail)
      go_wp2_with fail
      go_roundw
      case rel => exact ⟨k + 1, by omega, by go_num, hB1.trans ⟨rfl, rfl, rfl, Nat.le_refl _, fun _ _ => rfl⟩⟩
      case measure => simp [intOf]; omega
    · have e : k = l.length := by omega
      subst e
      go_wp2_with fail
      go_ret
      exact ⟨rfl, hB1⟩

end Go.Proofs.Ytnkldjijjpcmhaa.Pg
