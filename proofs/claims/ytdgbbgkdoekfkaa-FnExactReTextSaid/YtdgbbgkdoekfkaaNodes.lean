/-
  Slices of integers and of nodes, read in a world; what measures, copies and compares them.
-/
import Derived.Test.YtdgbbgkdoekfkaaRePure
import Derived.WalkKit
import Derived.ProofKit
import Derived.OpenShut
import Derived.Lib.Hide
import Derived.Outline
import Derived.RegionTactic
import Derived.Deep.QuietTactic
import Derived.BigQuiet
import Derived.OwnWalk
import Derived.Below
import Derived.Laws.OwnMore
import Derived.Deep.OwnRows
import Derived.Handy
namespace Go.Proofs.Ytdgbbgkdoekfkaa.Re
open Go.ChangeShapes Go.WideShapes Go.ChangeAt Go.RowKit Go.PlainAid
open Go.Proofs.Ytdgbbgkdoekfkaa.RePure
set_option linter.unusedVariables false

/-- A slice of integers in blocks below B, read. -/
def IntsAt (B : Nat) (w : World) (v : Value) (l : List Int) : Prop :=
  ∃ (ao : Option Addr) (cap : Nat), v = .slice ao l.length cap ∧ l.length ≤ cap ∧ cap ≤ maxLen ∧
    ∀ i, i < l.length → ∃ b off, ao = some ⟨b, off, none⟩ ∧ b < B ∧ w.cell? ⟨b, off + i, none⟩ = some (.int .i64 (gi l i))

/-- The four cells of a node. -/
structure NodeAt (B : Nat) (w : World) (b o : Nat) (v : Value) (n : Nd) : Prop where
  kind : w.cell? ⟨b, o, none⟩ = some (.int .i64 n.kind)
  neg : w.cell? ⟨b, o + 1, none⟩ = some (.bool n.neg)
  set : w.cell? ⟨b, o + 2, none⟩ = some (.string n.set)
  kidc : w.cell? ⟨b, o + 3, none⟩ = some v
  kids : IntsAt B w v n.kids
  size : n.set.size ≤ maxLen

/-- A slice of nodes in blocks below B, read; the kids' slices by a function. -/
def NodesAt (B : Nat) (w : World) (v : Value) (V : Nat → Value) (l : List Nd) : Prop :=
  ∃ (ao : Option Addr) (cap : Nat), v = .slice ao l.length cap ∧ l.length ≤ cap ∧ cap ≤ maxLen ∧
    ∀ i, i < l.length → ∃ b off, ao = some ⟨b, off, none⟩ ∧ b < B ∧ NodeAt B w b (off + i * 4) (V i) (nth l i)

theorem IntsAt.below {B B' : Nat} {w w' : World} {v : Value} {l : List Int} (h : IntsAt B w v l) (hb : Below B w w') (hB : B ≤ B') : IntsAt B' w' v l := by
  obtain ⟨ao, cap, e, h1, h2, h3⟩ := h
  refine ⟨ao, cap, e, h1, h2, fun i hi => ?_⟩
  obtain ⟨b, off, ea, hb1, hc⟩ := h3 i hi
  exact ⟨b, off, ea, by omega, by rw [hb.cell hb1]; exact hc⟩
theorem NodesAt.below {B B' : Nat} {w w' : World} {v : Value} {V : Nat → Value} {l : List Nd} (h : NodesAt B w v V l) (hb : Below B w w') (hB : B ≤ B') : NodesAt B' w' v V l := by
  obtain ⟨ao, cap, e, h1, h2, h3⟩ := h
  refine ⟨ao, cap, e, h1, h2, fun i hi => ?_⟩
  obtain ⟨b, off, ea, hb1, hc⟩ := h3 i hi
  exact ⟨b, off, ea, by omega, by rw [hb.cell hb1]; exact hc.kind, by rw [hb.cell hb1]; exact hc.neg, by rw [hb.cell hb1]; exact hc.set, by rw [hb.cell hb1]; exact hc.kidc, hc.kids.below hb hB, hc.size⟩

/-- A node's value. -/
def nval (n : Nd) (v : Value) : Value := .agg #[.int .i64 n.kind, .bool n.neg, .string n.set, v]

def wt (n : Nd) : Nat := n.set.size + n.kids.length
def total (l : List Nd) : Nat → Nat
  | 0 => l.length
  | i + 1 => total l i + wt (nth l i)
theorem total_ge (l : List Nd) : ∀ i, l.length ≤ total l i
  | 0 => Nat.le_refl _
  | i + 1 => by have := total_ge l i; rw [total]; omega
theorem total_mono (l : List Nd) (i : Nat) : ∀ j, total l i ≤ total l (i + j)
  | 0 => Nat.le_refl _
  | j + 1 => by have := total_mono l i j; rw [← Nat.add_assoc, total]; omega

set_option maxHeartbeats 1000000 in
theorem sz_ints (n : Nat) (ao : Option Addr) (cap : Nat) (left : Int) (w : World) (hn : n ≤ 9223372036854775807) (h0 : 0 ≤ left) (h1 : left ≤ 1048576) :
    Calls Try.prog 62 #[.slice ao n cap, .int .i64 left] w fun e w' => e = .returned (.int .i64 (if (n : Int) ≤ left then left - n else -1)) ∧ w = w' := by
  by_cases h : (n : Int) ≤ left
  · rw [if_pos h]
    have h2 : ¬ left - (n : Int) < 0 := by omega
    go_enter Try.func62, Try.ntmps62
    go_wp2_with fail
    go_ret
    exact ⟨rfl, rfl⟩
  · rw [if_neg h]
    have h2 : left - (n : Int) < 0 := by omega
    go_enter Try.func62, Try.ntmps62
    go_wp2_with fail
    go_ret
    exact ⟨rfl, rfl⟩

set_option maxHeartbeats 1000000 in
theorem sz_node (B : Nat) (n : Nd) (v : Value) (left : Int) (w : World) (hB : B ≤ w.heap.size) (hv : IntsAt B w v n.kids) (hs : n.set.size ≤ maxLen) (h0 : 0 ≤ left) (h1 : left ≤ 1048576) :
    Calls Try.prog 39 #[nval n v, .int .i64 left] w fun e w' => e = .returned (.int .i64 (if (wt n : Int) ≤ left then left - wt n else -1)) ∧ Below B w w' := by
  obtain ⟨ao, cap, rfl, hc1, hc2, hc3⟩ := hv
  clear hc3
  unfold maxLen at hs hc2
  unfold wt nval
  have hc4 : n.kids.length ≤ 9223372036854775807 := by omega
  by_cases ha : (n.set.size : Int) ≤ left
  · have ha2 : ¬ left - (n.set.size : Int) < 0 := by omega
    by_cases hb : (n.kids.length : Int) ≤ left - n.set.size
    · rw [if_pos (by omega)]
      have hb2 : ¬ left - (n.set.size : Int) - (n.kids.length : Int) < 0 := by omega
      go_enter Try.func39, Try.ntmps39
      go_wp2_with (go_at_call 62; refine (sz_ints _ _ _ _ _ (by omega) (by omega) (by omega)).mono ?_; rw [if_pos (by omega)]; rintro e w' ⟨rfl, rfl⟩)
      go_ret
      exact ⟨by simp; omega, (Below.refl _ _).alloc hB _⟩
    · rw [if_neg (by omega)]
      go_enter Try.func39, Try.ntmps39
      go_wp2_with (go_at_call 62; refine (sz_ints _ _ _ _ _ (by omega) (by omega) (by omega)).mono ?_; rw [if_neg (by omega)]; rintro e w' ⟨rfl, rfl⟩)
      go_ret
      exact ⟨rfl, (Below.refl _ _).alloc hB _⟩
  · rw [if_neg (by omega)]
    have ha2 : left - (n.set.size : Int) < 0 := by omega
    go_enter Try.func39, Try.ntmps39
    go_wp2_with fail
    go_ret
    exact ⟨rfl, (Below.refl _ _).alloc hB _⟩

set_option maxHeartbeats 1000000 in
theorem sz_nodes (B : Nat) (x : Value) (V : Nat → Value) (l : List Nd) (w : World) (hB : B ≤ w.heap.size) (hx : NodesAt B w x V l) :
    Calls Try.prog 16 #[x, .int .i64 1048576] w fun e w' => e = .returned (.int .i64 (if total l l.length ≤ 1048576 then 1048576 - (total l l.length : Int) else -1)) ∧ Below B w w' := by
  obtain ⟨ao, cap, rfl, hc1, hc2, hc3⟩ := hx
  have HC := Lib.hid hc3; clear hc3
  unfold maxLen at hc2
  by_cases hl : l.length ≤ 1048576
  · have hl2 : ¬ (1048576 : Int) - (l.length : Int) < 0 := by omega
    go_enter Try.func16, Try.ntmps16
    go_wp2_with fail
    go_loopw [1, 5] (fun r i wr => ∃ (k : Nat), k ≤ l.length ∧ i = .int .i64 k ∧ r = .int .i64 (1048576 - (total l k : Int)) ∧ total l k ≤ 1048576 ∧ Below B w wr)
      (fun _ i _ => l.length - (intOf i).toNat)
    case atStart => exact ⟨0, Nat.zero_le _, rfl, rfl, hl, Below.refl _ _⟩
    case round =>
      obtain ⟨k, hk, rfl, rfl, ht, hB1⟩ := hrel
      by_cases hkl : k < l.length
      · obtain ⟨b, off, rfl, hb, hN⟩ := HC.out k hkl
        have hN1 := (show NodesAt B w (.slice (some ⟨b, off, none⟩) l.length cap) V l from ⟨_, _, rfl, hc1, hc2, HC.out⟩)
        have c0 := (hB1.cell (p := ⟨b, off + k * 4, none⟩) hb).trans hN.kind
        have c1 := (hB1.cell (p := ⟨b, off + k * 4 + 1, none⟩) hb).trans hN.neg
        have c2 := (hB1.cell (p := ⟨b, off + k * 4 + 2, none⟩) hb).trans hN.set
        have c3 := (hB1.cell (p := ⟨b, off + k * 4 + 3, none⟩) hb).trans hN.kidc
        have hk3 := hN.kids.below hB1 (Nat.le_refl _)
        have hs := hN.size
        clear hN hN1
        have hw : wt (nth l k) = (nth l k).set.size + (nth l k).kids.length := rfl
        have ht1 : total l (k + 1) = total l k + wt (nth l k) := rfl
        by_cases hT : total l (k + 1) ≤ 1048576
        · have hq : ((wt (nth l k) : Nat) : Int) ≤ 1048576 - (total l k : Int) := by omega
          have hr : ¬ 1048576 - (total l k : Int) - (wt (nth l k) : Int) < 0 := by omega
          have HT := Lib.hid ht1; clear ht1
          have HW := Lib.hid hw; clear hw
          go_wp2_with (go_at_call 39; refine (sz_node B _ _ _ _ (Nat.le_trans hB hB1.size) hk3 hs (by omega) (by omega)).mono ?_; rw [if_pos hq]; rintro e w' ⟨rfl, hB2⟩)
          go_roundw
          case rel => exact ⟨k + 1, by omega, by go_num, by rw [HT.out]; congr 1; omega, hT, hB1.trans hB2⟩
          case measure => simp [intOf]; omega
        · have hq : ¬ ((wt (nth l k) : Nat) : Int) ≤ 1048576 - (total l k : Int) := by omega
          have hend : ¬ total l l.length ≤ 1048576 := by
            have := total_mono l (k + 1) (l.length - (k + 1))
            rw [show k + 1 + (l.length - (k + 1)) = l.length from by omega] at this
            omega
          have HE := Lib.hid hend; clear hend hT ht1
          go_wp2_with (go_at_call 39; refine (sz_node B _ _ _ _ (Nat.le_trans hB hB1.size) hk3 hs (by omega) (by omega)).mono ?_; rw [if_neg hq]; rintro e w' ⟨rfl, hB2⟩)
          go_ret
          exact ⟨by first | rfl | (rw [if_neg HE.out]; rfl), hB1.trans hB2⟩
      · have e : k = l.length := by omega
        subst e
        have HT := Lib.hid ht
        go_wp2_with fail
        go_ret
        exact ⟨by first | rfl | (rw [if_pos HT.out]; rfl), hB1⟩
  · have hl2 : (1048576 : Int) - (l.length : Int) < 0 := by omega
    rw [if_neg (by have := total_ge l l.length; omega)]
    go_enter Try.func16, Try.ntmps16
    go_wp2_with fail
    go_ret
    exact ⟨rfl, Below.refl _ _⟩

theorem infoInt : (Try.prog.info? 3).map (fun i => (i.zero, i.size, i.bytes)) = some (some (.int .i64 0), 1, 8) := by kernel_rfl

set_option maxHeartbeats 1000000 in
theorem to_ints (B : Nat) (v : Value) (l : List Int) (w : World) (hB : B ≤ w.heap.size) (hv : IntsAt B w v l) (hl : l.length ≤ 1048576) :
    Calls Try.prog 64 #[v] w fun e w' => e = .returned (.slice (some ⟨w.heap.size, 0, none⟩) l.length l.length) ∧ w'.rowIs w.heap.size 3 l.length (fun i => .int .i64 (gi l i)) ∧ w'.heap.size = w.heap.size + 1 ∧ Below w.heap.size w w' := by
  obtain ⟨ao, cap, rfl, hc1, hc2, hc3⟩ := hv
  have HC := Lib.hid hc3; clear hc3
  unfold maxLen at hc2
  have hmk := run_make_row' (P := Try.prog) 33 3 (.int .i64 0) 8 Try.underlying33 infoInt rfl .i64 .i64 l.length (by omega) (by omega)
  go_enter Try.func64, Try.ntmps64
  go_wp2
  go_loopw [4] (fun i wr => ∃ (k : Nat), k ≤ l.length ∧ i = .int .i64 k ∧ wr.rowIs w.heap.size 3 l.length (fun j => .int .i64 (if j < k then gi l j else 0)) ∧ wr.heap.size = w.heap.size + 1 ∧ Below w.heap.size w wr)
    (fun i _ => l.length - (intOf i).toNat)
  case atStart => exact ⟨0, Nat.zero_le _, rfl, by simpa using World.rowIs_made w (.int .i64 0) l.length 3, by show (w.heap.push _).size = _; simp, (Below.refl _ _).alloc (Nat.le_refl _) _⟩
  case round =>
    obtain ⟨k, hk, rfl, hrow, hsz, hB1⟩ := hrel
    by_cases hkl : k < l.length
    · obtain ⟨b, off, rfl, hb, hN⟩ := HC.out k hkl
      have c0 := (hB1.cell (p := ⟨b, off + k, none⟩) (show b < _ by omega)).trans hN
      have c1 := hrow.cell hkl
      have f1 := hrow.frozen k
      have hrow2 := hrow.set k (.int .i64 (gi l k))
      have hB2 := hB1.setCell (p := ⟨w.heap.size, k, none⟩) (Nat.le_refl _) (.int .i64 (gi l k))
      have hs2 : (wr.setCell ⟨w.heap.size, k, none⟩ (.int .i64 (gi l k))).heap.size = w.heap.size + 1 := by rw [← hsz]; simp [World.setCell]
      have HR := Lib.hid hrow2; clear hrow2 hrow
      go_wp2_with fail
      go_roundw
      case rel =>
        refine ⟨k + 1, by omega, by go_num, HR.out.congr fun j hj => ?_, hs2, hB2⟩
        by_cases e : j = k
        · subst e; simp
        · by_cases e2 : j < k
          · rw [if_neg e, if_pos e2, if_pos (by omega)]
          · rw [if_neg e, if_neg e2, if_neg (by omega)]
      case measure => simp [intOf]; omega
    · have e : k = l.length := by omega
      subst e
      have hr := hrow.congr (g := fun i => .int .i64 (gi l i)) (fun i hi => by simp [hi])
      have HR := Lib.hid hr; clear hr hrow
      go_wp2_with fail
      go_ret
      exact ⟨rfl, HR.out, hsz, hB1⟩

set_option maxHeartbeats 1000000 in
theorem to_node (B : Nat) (n : Nd) (v : Value) (w : World) (hB : B ≤ w.heap.size) (hv : IntsAt B w v n.kids) (hs : n.set.size ≤ maxLen) (hl : n.kids.length ≤ 1048576) :
    Calls Try.prog 41 #[nval n v] w fun e w' => ∃ g, e = .returned (nval n (.slice (some ⟨g, 0, none⟩) n.kids.length n.kids.length)) ∧ w.heap.size ≤ g ∧ g < w'.heap.size ∧ w'.rowIs g 3 n.kids.length (fun i => .int .i64 (gi n.kids i)) ∧ Below w.heap.size w w' := by
  unfold nval
  have hb3 : ∀ o1 o2 o3, Below B w (((w.alloc o1).alloc o2).alloc o3) := fun o1 o2 o3 => (((Below.refl B w).alloc hB o1).alloc (by simp; omega) o2).alloc (by simp; omega) o3
  have hb4 : ∀ o1 o2 o3, Below w.heap.size w (((w.alloc o1).alloc o2).alloc o3) := fun o1 o2 o3 => (((Below.refl w.heap.size w).alloc (Nat.le_refl _) o1).alloc (by simp) o2).alloc (by simp; omega) o3
  go_enter Try.func41, Try.ntmps41
  go_wp2_with fail
  refine (to_ints B v n.kids _ (by simp; omega) (hv.below (hb3 _ _ _) (Nat.le_refl _)) hl).mono ?_
  rintro e w' ⟨rfl, hrow, hsz, hB1⟩
  have hBw := (hb4 _ _ _).trans (hB1.mono (by simp; omega))
  simp only [World.size_alloc] at hrow hsz
  have f20 := (hB1.cell (p := ⟨w.heap.size + 1 + 1, 0, none⟩) (by simp)).trans (show _ = some (Value.int .i64 n.kind) by go_simp)
  have f21 := (hB1.cell (p := ⟨w.heap.size + 1 + 1, 1, none⟩) (by simp)).trans (show _ = some (Value.bool n.neg) by go_simp)
  have f22 := (hB1.cell (p := ⟨w.heap.size + 1 + 1, 2, none⟩) (by simp)).trans (show _ = some (Value.string n.set) by go_simp)
  have f23 := (hB1.cell (p := ⟨w.heap.size + 1 + 1, 3, none⟩) (by simp)).trans (show _ = some (Value.slice none 0 0) by go_simp)
  have g23 := (hB1.frozen (p := ⟨w.heap.size + 1 + 1, 3, none⟩) (by simp)).trans (show _ = false by go_simp)
  have f10 := (hB1.cell (p := ⟨w.heap.size + 1, 0, none⟩) (by simp)).trans (show _ = some (Value.int .i64 0) by go_simp)
  have f11 := (hB1.cell (p := ⟨w.heap.size + 1, 1, none⟩) (by simp)).trans (show _ = some (Value.bool false) by go_simp)
  have f12 := (hB1.cell (p := ⟨w.heap.size + 1, 2, none⟩) (by simp)).trans (show _ = some (Value.string ⟨#[]⟩) by go_simp)
  have f13 := (hB1.cell (p := ⟨w.heap.size + 1, 3, none⟩) (by simp)).trans (show _ = some (Value.slice none 0 0) by go_simp)
  have g10 := (hB1.frozen (p := ⟨w.heap.size + 1, 0, none⟩) (by simp)).trans (show _ = false by go_simp)
  have g11 := (hB1.frozen (p := ⟨w.heap.size + 1, 1, none⟩) (by simp)).trans (show _ = false by go_simp)
  have g12 := (hB1.frozen (p := ⟨w.heap.size + 1, 2, none⟩) (by simp)).trans (show _ = false by go_simp)
  have g13 := (hB1.frozen (p := ⟨w.heap.size + 1, 3, none⟩) (by simp)).trans (show _ = false by go_simp)
  have hblk : w'.heap[w.heap.size + 1]? = some (.cells #[.int .i64 0, .bool false, .string ⟨#[]⟩, .slice none 0 0] 57) :=
    (hB1.block _ (by simp)).trans ((Below.heap_alloc _ _ _ (by simp)).trans (by have := Go.Deep.blk_alloc_new (w.alloc (Obj.cells #[Value.int IntKind.i64 n.kind, Value.bool n.neg, Value.string n.set, v] 60)) (.cells #[.int .i64 0, .bool false, .string ⟨#[]⟩, .slice none 0 0] 57); simpa using this))
  have HK := Lib.hid hblk; clear hblk
  have HR := Lib.hid hrow; clear hrow
  have HW := Lib.hid hBw; clear hBw hB1 hb3 hb4
  go_wp2_with fail
  refine bodyPost_ret (results_cell_row rfl _ _ (w.heap.size + 1) 57 #[.int .i64 n.kind, .bool n.neg, .string n.set, .slice (some ⟨w.heap.size + 1 + 1 + 1, 0, none⟩) n.kids.length n.kids.length] (0, 0) _ rfl (by simp [World.setCell, Array.getElem?_modify, HK.out]) Try.underlying57 rfl (by kernel_rfl)) rfl ?_
  refine ⟨_, rfl, by omega, by simp; omega, ?_, ?_⟩
  · exact ((((HR.out.setOther (by simp) _).setOther (by simp; omega) _).setOther (by simp; omega) _).setOther (by simp; omega) _).setOther (by simp; omega) _
  · exact ((((HW.out.setCell (by simp; omega) _).setCell (by simp) _).setCell (by simp) _).setCell (by simp) _).setCell (by simp) _

theorem infoNode : (Try.prog.info? 57).map (fun i => (i.zero, i.size, i.bytes)) = some (some (.agg #[.int .i64 0, .bool false, .string ⟨#[]⟩, .slice none 0 0]), 4, 56) := by kernel_rfl

/-- Nodes of the call's own: a block of n nodes' cells, the first m of them laid, and a block for each node's kids. -/
structure OwnNodes (A B : Nat) (w : World) (b : Nat) (G : Nat → Nat) (l : List Nd) (n m : Nat) : Prop where
  lo : A ≤ b
  hi : b < B
  cells : ∃ f, w.rowIs b 57 (n * 4) f
  node : ∀ i, i < m → NodeAt B w b (i * 4) (.slice (some ⟨G i, 0, none⟩) (nth l i).kids.length (nth l i).kids.length) (nth l i)
  kids : ∀ i, i < m → A ≤ G i ∧ G i < B ∧ G i ≠ b ∧ w.rowIs (G i) 3 (nth l i).kids.length (fun j => .int .i64 (gi (nth l i).kids j))

theorem rowIs_below {B : Nat} {w w' : World} {b n : Nat} {t : TypeId} {f : Nat → Value} (h : w.rowIs b t n f) (hb : Below B w w') (hB : b < B) : w'.rowIs b t n f := h.of_block (hb.block b hB)
theorem intsAt_row {B : Nat} {w : World} {g : Nat} {l : List Int} (h : w.rowIs g 3 l.length (fun j => .int .i64 (gi l j))) (hg : g < B) (hl : l.length ≤ maxLen) : IntsAt B w (.slice (some ⟨g, 0, none⟩) l.length l.length) l :=
  ⟨_, _, rfl, Nat.le_refl _, hl, fun i hi => ⟨g, 0, rfl, hg, by rw [Nat.zero_add]; exact h.cell hi⟩⟩

/-- One node more is laid: what was made for it lies in new blocks, and its four cells are stored. -/
theorem own_step {A B : Nat} {w w' : World} {b g : Nat} {G : Nat → Nat} {l : List Nd} {n k : Nat} (h : OwnNodes A B w b G l n k) (hk : k < n) (hB : B ≤ w.heap.size) (hb : Below w.heap.size w w') (hg0 : w.heap.size ≤ g) (hg1 : g < w'.heap.size)
    (hr : w'.rowIs g 3 (nth l k).kids.length (fun i => .int .i64 (gi (nth l k).kids i))) (hs : (nth l k).set.size ≤ maxLen) (hl : (nth l k).kids.length ≤ maxLen) :
    OwnNodes A w'.heap.size ((((w'.setCell ⟨b, k * 4, none⟩ (.int .i64 (nth l k).kind)).setCell ⟨b, k * 4 + 1, none⟩ (.bool (nth l k).neg)).setCell ⟨b, k * 4 + 2, none⟩ (.string (nth l k).set)).setCell ⟨b, k * 4 + 3, none⟩ (.slice (some ⟨g, 0, none⟩) (nth l k).kids.length (nth l k).kids.length)) b (fun i => if i = k then g else G i) l n (k + 1) := by
  obtain ⟨f, hf⟩ := h.cells
  have hbw : b < w.heap.size := Nat.lt_of_lt_of_le h.hi hB
  have hgb : g ≠ b := by omega
  have hf1 := rowIs_below hf hb hbw
  have hf2 := (((hf1.set (k * 4) (.int .i64 (nth l k).kind)).set (k * 4 + 1) (.bool (nth l k).neg)).set (k * 4 + 2) (.string (nth l k).set)).set (k * 4 + 3) (.slice (some ⟨g, 0, none⟩) (nth l k).kids.length (nth l k).kids.length)
  have hsz : ∀ (v : World) (a : Addr) (u : Value), (v.setCell a u).heap.size = v.heap.size := fun v a u => by simp [World.setCell]
  have hoth : ∀ (x : Nat) (t : TypeId) (m : Nat) (q : Nat → Value), w'.rowIs x t m q → x ≠ b → ((((w'.setCell ⟨b, k * 4, none⟩ (.int .i64 (nth l k).kind)).setCell ⟨b, k * 4 + 1, none⟩ (.bool (nth l k).neg)).setCell ⟨b, k * 4 + 2, none⟩ (.string (nth l k).set)).setCell ⟨b, k * 4 + 3, none⟩ (.slice (some ⟨g, 0, none⟩) (nth l k).kids.length (nth l k).kids.length)).rowIs x t m q :=
    fun x t m q hq hx => (((hq.setOther hx _).setOther hx _).setOther hx _).setOther hx _
  have hcell : ∀ j, j < n * 4 → ¬ (k * 4 ≤ j ∧ j < k * 4 + 4) → ((((w'.setCell ⟨b, k * 4, none⟩ (.int .i64 (nth l k).kind)).setCell ⟨b, k * 4 + 1, none⟩ (.bool (nth l k).neg)).setCell ⟨b, k * 4 + 2, none⟩ (.string (nth l k).set)).setCell ⟨b, k * 4 + 3, none⟩ (.slice (some ⟨g, 0, none⟩) (nth l k).kids.length (nth l k).kids.length)).cell? ⟨b, j, none⟩ = w.cell? ⟨b, j, none⟩ := by
    intro j hj hn
    rw [hf2.cell hj, hf.cell hj]
    rw [if_neg (by omega), if_neg (by omega), if_neg (by omega), if_neg (by omega)]
  refine ⟨h.lo, by omega, ⟨_, hf2⟩, fun i hi => ?_, fun i hi => ?_⟩
  · by_cases e : i = k
    · subst e
      have hkid : IntsAt w'.heap.size _ _ (nth l i).kids := intsAt_row (hoth g _ _ _ hr hgb) hg1 hl
      simp only [if_true]
      exact ⟨by rw [hf2.cell (by omega)]; simp, by rw [hf2.cell (by omega)]; simp, by rw [hf2.cell (by omega)]; simp, by rw [hf2.cell (by omega)]; simp, hkid, hs⟩
    · have hi' : i < k := by omega
      have hn := h.node i hi'
      obtain ⟨k1, k2, k3, k4⟩ := h.kids i hi'
      have hkl : (nth l i).kids.length ≤ maxLen := by
        obtain ⟨_, _, e1, q1, q2, _⟩ := hn.kids
        simp only [Value.slice.injEq] at e1
        omega
      simp only [if_neg e]
      exact ⟨by rw [hcell _ (by omega) (by omega)]; exact hn.kind, by rw [hcell _ (by omega) (by omega)]; exact hn.neg, by rw [hcell _ (by omega) (by omega)]; exact hn.set, by rw [hcell _ (by omega) (by omega)]; exact hn.kidc,
        intsAt_row (hoth _ _ _ _ (rowIs_below k4 hb (by omega)) k3) (by have := hb.size; omega) hkl, hn.size⟩
  · by_cases e : i = k
    · subst e
      simp only [if_true]
      exact ⟨by have := h.lo; have := h.hi; omega, hg1, hgb, hoth g _ _ _ hr hgb⟩
    · obtain ⟨k1, k2, k3, k4⟩ := h.kids i (by omega)
      simp only [if_neg e]
      exact ⟨k1, by have := hb.size; omega, k3, hoth _ _ _ _ (rowIs_below k4 hb (by omega)) k3⟩

set_option maxHeartbeats 2000000 in
theorem to_nodes (B : Nat) (x : Value) (V : Nat → Value) (l : List Nd) (w : World) (hB : B ≤ w.heap.size) (hx : NodesAt B w x V l) (ht : total l l.length ≤ 1048576) :
    Calls Try.prog 18 #[x] w fun e w' => e = .returned (.slice (some ⟨w.heap.size, 0, none⟩) l.length l.length) ∧ (∃ G, OwnNodes w.heap.size w'.heap.size w' w.heap.size G l l.length l.length) ∧ Below w.heap.size w w' := by
  obtain ⟨ao, cap, rfl, hc1, hc2, hc3⟩ := hx
  have HC := Lib.hid hc3; clear hc3
  unfold maxLen at hc2
  have hl := total_ge l l.length
  obtain ⟨i0, hi, hz0, hz1, hz2⟩ := info_parts infoNode
  go_enter Try.func18, Try.ntmps18
  go_wp2_with (at_make; refine wpList_make_full _ rfl _ _ 22 rfl w.heap.size 57 i0 _ 4 Try.underlying22 hi hz0 hz1 _ _ _ _ l.length rfl rfl rfl rfl (by rw [hz2]; omega) (by unfold maxLen; omega) (Nat.le_refl _) ?_)
  intro w1 hown hgrow
  have hlt1 : w.heap.size < w1.heap.size := by
    rcases hown.2 with ⟨h0, _⟩ | ⟨g, cap', cur, h0, _, hc, _⟩
    · cases h0
    · simp only [Value.slice.injEq, Option.some.injEq, Addr.mk.injEq] at h0
      obtain ⟨⟨rfl, -⟩, -, -⟩ := h0
      exact (Array.getElem?_eq_some_iff.1 hc).1
  have hrow : ∃ f, w1.rowIs w.heap.size 57 (l.length * 4) f := by
    rcases hown.2 with ⟨h0, _⟩ | ⟨g, cap', cur, h0, _, hc, _, _, hcs, _⟩
    · cases h0
    · simp only [Value.slice.injEq, Option.some.injEq, Addr.mk.injEq] at h0
      obtain ⟨⟨rfl, -⟩, -, rfl⟩ := h0
      exact ⟨fun i => cur.getD i (.bool false), cur, hc, hcs, fun i hi => by simp [Array.getElem?_eq_getElem (show i < cur.size by omega)]⟩
  have hbel : Below w.heap.size w w1 := (Below.refl _ _).grown hgrow (Nat.le_refl _) (fun k hk => by cases hk)
  have hown1 : OwnNodes w.heap.size w1.heap.size w1 w.heap.size (fun _ => 0) l l.length 0 := ⟨Nat.le_refl _, hlt1, hrow, fun i hi => by omega, fun i hi => by omega⟩
  have HO := Lib.hid hown1
  clear hown hgrow hrow hown1
  go_wp2_with fail
  go_loopw [4] (fun i wr => ∃ (k : Nat), k ≤ l.length ∧ i = .int .i64 k ∧ (∃ G, OwnNodes w.heap.size wr.heap.size wr w.heap.size G l l.length k) ∧ Below w.heap.size w wr)
    (fun i _ => l.length - (intOf i).toNat)
  case atStart => exact ⟨0, Nat.zero_le _, rfl, ⟨_, HO.out⟩, hbel⟩
  case round =>
    obtain ⟨k, hk, rfl, ⟨G, hG⟩, hB1⟩ := hrel
    by_cases hkl : k < l.length
    · obtain ⟨b, off, rfl, hb, hN⟩ := HC.out k hkl
      have hbw : b < w.heap.size := by omega
      have c0 := (hB1.cell (p := ⟨b, off + k * 4, none⟩) hbw).trans hN.kind
      have c1 := (hB1.cell (p := ⟨b, off + k * 4 + 1, none⟩) hbw).trans hN.neg
      have c2 := (hB1.cell (p := ⟨b, off + k * 4 + 2, none⟩) hbw).trans hN.set
      have c3 := (hB1.cell (p := ⟨b, off + k * 4 + 3, none⟩) hbw).trans hN.kidc
      have hk3 := hN.kids.below (hB1.mono hB) (Nat.le_refl _)
      have hs := hN.size
      have hkl2 : (nth l k).kids.length ≤ 1048576 := by
        have h1 : total l (k + 1) = total l k + wt (nth l k) := rfl
        have h2 := total_mono l (k + 1) (l.length - (k + 1))
        rw [show k + 1 + (l.length - (k + 1)) = l.length from by omega] at h2
        unfold wt at h1
        omega
      have HG := Lib.hid hG; clear hN hG
      go_wp2_with fail
      refine (to_node B _ _ _ (Nat.le_trans hB hB1.size) hk3 hs hkl2).mono ?_
      rintro e w' ⟨g, rfl, hg0, hg1, hrow, hB2⟩
      have hG2 := own_step HG.out hkl (Nat.le_refl _) hB2 hg0 hg1 hrow hs (by unfold maxLen; omega)
      obtain ⟨f, hf⟩ := HG.out.cells
      have hf1 := rowIs_below hf hB2 HG.out.hi
      have e0 := hf1.cell (i := k * 4) (by omega)
      have e1 := hf1.cell (i := k * 4 + 1) (by omega)
      have e2 := hf1.cell (i := k * 4 + 2) (by omega)
      have e3 := hf1.cell (i := k * 4 + 3) (by omega)
      have z0 := hf1.frozen (k * 4)
      have z1 := hf1.frozen (k * 4 + 1)
      have z2 := hf1.frozen (k * 4 + 2)
      have z3 := hf1.frozen (k * 4 + 3)
      have hB3 := hB1.trans (hB2.mono hB1.size)
      have HG2 := Lib.hid hG2; clear hG2 HG hf hf1 hrow
      unfold nval
      go_wp2_with fail
      go_roundw
      case rel =>
        refine ⟨k + 1, by omega, by go_num, ⟨(fun i => if i = k then g else G i), ?_⟩, ?_⟩
        · have := HG2.out
          simpa [World.setCell] using this
        · exact (((hB3.setCell (Nat.le_refl _) _).setCell (Nat.le_refl _) _).setCell (Nat.le_refl _) _).setCell (Nat.le_refl _) _
      case measure => simp [intOf]; omega
    · have e : k = l.length := by omega
      subst e
      have HG := Lib.hid hG; clear hG
      go_wp2_with fail
      go_ret
      exact ⟨rfl, ⟨G, HG.out⟩, hB1⟩

end Go.Proofs.Ytdgbbgkdoekfkaa.Re
