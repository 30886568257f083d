/-
  Comparing two slices of integers, two nodes, two slices of nodes that read alike: true.
-/
import Derived.Test.YtdgbbgkdoekfkaaNodes
import Derived.StillTailTactics
namespace Go.Proofs.Ytdgbbgkdoekfkaa.Re
open Go.ChangeShapes Go.WideShapes Go.ChangeAt Go.RowKit Go.PlainAid
open Go.Proofs.Ytdgbbgkdoekfkaa.RePure
set_option linter.unusedVariables false

/-- Nodes of the call's own read as the list. -/
theorem own_nodes {A B : Nat} {w : World} {b : Nat} {G : Nat → Nat} {l : List Nd} (h : OwnNodes A B w b G l l.length l.length) (ht : total l l.length ≤ 1048576) :
    NodesAt B w (.slice (some ⟨b, 0, none⟩) l.length l.length) (fun i => .slice (some ⟨G i, 0, none⟩) (nth l i).kids.length (nth l i).kids.length) l :=
  ⟨_, _, rfl, Nat.le_refl _, by have := total_ge l l.length; unfold maxLen; omega, fun i hi => ⟨b, 0, rfl, h.hi, by rw [Nat.zero_add]; exact h.node i hi⟩⟩

set_option maxHeartbeats 1000000 in
theorem eq_ints (B : Nat) (v v' : Value) (l : List Int) (w : World) (hB : B ≤ w.heap.size) (hv : IntsAt B w v l) (hv' : IntsAt B w v' l) :
    Calls Try.prog 22 #[v, v'] w fun e w' => e = .returned (.bool true) ∧ Below w.heap.size w w' := by
  obtain ⟨ao, cap, rfl, hc1, hc2, hc3⟩ := hv
  obtain ⟨ao', cap', rfl, hd1, hd2, hd3⟩ := hv'
  have HC := Lib.hid hc3; clear hc3
  have HD := Lib.hid hd3; clear hd3
  unfold maxLen at hc2 hd2
  go_enter Try.func22, Try.ntmps22
  go_wp2_with fail
  go_loopw [5] (fun i wr => ∃ (k : Nat), k ≤ l.length ∧ i = .int .i64 k ∧ Below w.heap.size w wr)
    (fun i _ => l.length - (intOf i).toNat)
  case atStart => exact ⟨0, Nat.zero_le _, rfl, Below.refl _ _⟩
  case round =>
    obtain ⟨k, hk, rfl, hB1⟩ := hrel
    by_cases hkl : k < l.length
    · obtain ⟨b, off, rfl, hb, hN⟩ := HC.out k hkl
      obtain ⟨b', off', rfl, hb', hN'⟩ := HD.out k hkl
      have c0 := (hB1.cell (p := ⟨b, off + k, none⟩) (show b < _ by omega)).trans hN
      have c1 := (hB1.cell (p := ⟨b', off' + k, none⟩) (show b' < _ by omega)).trans hN'
      have hki : (k : Int) < (l.length : Int) := by omega
      clear hN hN'
      go_wp2_with fail
      go_quiet (fail)
      go_wp2_with fail
      go_roundw
      case rel => exact ⟨k + 1, by omega, by go_num, hB1.trans ⟨rfl, rfl, rfl, Nat.le_refl _, fun _ _ => rfl⟩⟩
      case measure => simp [intOf]; omega
    · have e : k = l.length := by omega
      subst e
      go_wp2_with fail
      go_ret
      exact ⟨rfl, hB1⟩

set_option maxHeartbeats 1000000 in
theorem eq_node (B : Nat) (n : Nd) (v v' : Value) (w : World) (hB : B ≤ w.heap.size) (hv : IntsAt B w v n.kids) (hv' : IntsAt B w v' n.kids) :
    Calls Try.prog 37 #[nval n v, nval n v'] w fun e w' => e = .returned (.bool true) ∧ Below w.heap.size w w' := by
  unfold nval
  have hb2 : ∀ o1 o2, Below B w ((w.alloc o1).alloc o2) := fun o1 o2 => ((Below.refl B w).alloc hB o1).alloc (by simp; omega) o2
  have hb4 : ∀ o1 o2, Below w.heap.size w ((w.alloc o1).alloc o2) := fun o1 o2 => ((Below.refl w.heap.size w).alloc (Nat.le_refl _) o1).alloc (by simp) o2
  go_enter Try.func37, Try.ntmps37
  go_wp2_with fail
  refine (eq_ints B _ _ n.kids _ (by simp; omega) (hv.below (hb2 _ _) (Nat.le_refl _)) (hv'.below (hb2 _ _) (Nat.le_refl _))).mono ?_
  rintro e w' ⟨rfl, hB1⟩
  have hBw := (hb4 _ _).trans (hB1.mono (by simp; omega))
  clear hB1 hb2 hb4
  go_wp2_with fail
  go_ret
  exact ⟨rfl, hBw⟩

set_option maxRecDepth 100000 in
set_option maxHeartbeats 1000000 in
theorem eq_nodes (B : Nat) (x x' : Value) (V V' : Nat → Value) (l : List Nd) (w : World) (hB : B ≤ w.heap.size) (hx : NodesAt B w x V l) (hx' : NodesAt B w x' V' l) :
    Calls Try.prog 13 #[x, x'] w fun e w' => e = .returned (.bool true) ∧ Below w.heap.size w w' := by
  obtain ⟨ao, cap, rfl, hc1, hc2, hc3⟩ := hx
  obtain ⟨ao', cap', rfl, hd1, hd2, hd3⟩ := hx'
  have HC := Lib.hid hc3; clear hc3
  have HD := Lib.hid hd3; clear hd3
  unfold maxLen at hc2 hd2
  go_enter Try.func13, Try.ntmps13
  go_wp2_with fail
  go_loopw [5] (fun i wr => ∃ (k : Nat), k ≤ l.length ∧ i = .int .i64 k ∧ Below w.heap.size w wr)
    (fun i _ => l.length - (intOf i).toNat)
  case atStart => exact ⟨0, Nat.zero_le _, rfl, Below.refl _ _⟩
  case round =>
    obtain ⟨k, hk, rfl, hB1⟩ := hrel
    by_cases hkl : k < l.length
    · obtain ⟨b, off, rfl, hb, hN⟩ := HC.out k hkl
      obtain ⟨b', off', rfl, hb', hN'⟩ := HD.out k hkl
      have hbw : b < w.heap.size := by omega
      have hbw' : b' < w.heap.size := by omega
      have c0 := (hB1.cell (p := ⟨b, off + k * 4, none⟩) hbw).trans hN.kind
      have c1 := (hB1.cell (p := ⟨b, off + k * 4 + 1, none⟩) hbw).trans hN.neg
      have c2 := (hB1.cell (p := ⟨b, off + k * 4 + 2, none⟩) hbw).trans hN.set
      have c3 := (hB1.cell (p := ⟨b, off + k * 4 + 3, none⟩) hbw).trans hN.kidc
      have d0 := (hB1.cell (p := ⟨b', off' + k * 4, none⟩) hbw').trans hN'.kind
      have d1 := (hB1.cell (p := ⟨b', off' + k * 4 + 1, none⟩) hbw').trans hN'.neg
      have d2 := (hB1.cell (p := ⟨b', off' + k * 4 + 2, none⟩) hbw').trans hN'.set
      have d3 := (hB1.cell (p := ⟨b', off' + k * 4 + 3, none⟩) hbw').trans hN'.kidc
      have hk3 := hN.kids.below (hB1.mono hB) (Nat.le_refl _)
      have hk3' := hN'.kids.below (hB1.mono hB) (Nat.le_refl _)
      have hki : (k : Int) < (l.length : Int) := by omega
      clear hN hN'
      go_wp2_with fail
      go_still_tail 8, (by kernel_rfl)
      change wpList _ _ _ _ _ wr.drew
      have hBd : Below w.heap.size w wr.drew := hB1.drew
      have hq3 : IntsAt B wr.drew (V k) (nth l k).kids := hk3
      have hq3' : IntsAt B wr.drew (V' k) (nth l k).kids := hk3'
      generalize wr.drew = w2 at *
      go_wp2_with (go_at_call 37; refine (eq_node B _ _ _ _ (Nat.le_trans hB hBd.size) hq3 hq3').mono ?_; rintro e w' ⟨rfl, hB2⟩)
      go_roundw
      case rel => exact ⟨k + 1, by omega, by go_num, hBd.trans (hB2.mono hBd.size)⟩
      case measure => simp [intOf]; omega
    · have e : k = l.length := by omega
      subst e
      go_wp2_with fail
      go_ret
      exact ⟨rfl, hB1⟩

end Go.Proofs.Ytdgbbgkdoekfkaa.Re
