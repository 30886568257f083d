/-
  Slices of items, read in a world; what measures, copies and compares them.
-/
import Derived.Test.YtngiidocgjbooaaPgInts
namespace Go.Proofs.Ytngiidocgjbooaa.Pg
open Go.ChangeShapes Go.WideShapes Go.ChangeAt Go.RowKit Go.PlainAid
open Go.Proofs.Ytngiidocgjbooaa.PgPure
set_option linter.unusedVariables false

structure ItAt (B : Nat) (w : World) (b o : Nat) (v : Value) (n : It) : Prop where
  c0 : w.cell? ⟨b, o, none⟩ = some (.int .i64 n.when)
  c1 : w.cell? ⟨b, o + 1, none⟩ = some (.string n.name)
  c2 : w.cell? ⟨b, o + 2, none⟩ = some (v)
  c3 : w.cell? ⟨b, o + 3, none⟩ = some (.int .i64 n.cond)
  c4 : w.cell? ⟨b, o + 4, none⟩ = some (.int .i64 n.body)
  sub : StrsAt B w v n.params
  z1 : n.name.size ≤ maxLen

def ItsAt (B : Nat) (w : World) (v : Value) (V : Nat → Value) (l : List It) : Prop :=
  ∃ (ao : Option Addr) (cap : Nat), v = .slice ao l.length cap ∧ l.length ≤ cap ∧ cap ≤ maxLen ∧
    ∀ i, i < l.length → ∃ b off, ao = some ⟨b, off, none⟩ ∧ b < B ∧ ItAt B w b (off + i * 5) (V i) (nthT l i)

theorem ItsAt.below {B B' : Nat} {w w' : World} {v : Value} {V : Nat → Value} {l : List It} (h : ItsAt B w v V l) (hb : Below B w w') (hB : B ≤ B') : ItsAt B' w' v V l := by
  obtain ⟨ao, cap, e, h1, h2, h3⟩ := h
  refine ⟨ao, cap, e, h1, h2, fun i hi => ?_⟩
  obtain ⟨b, off, ea, hb1, hc⟩ := h3 i hi
  exact ⟨b, off, ea, by omega, by rw [hb.cell hb1]; exact hc.c0, by rw [hb.cell hb1]; exact hc.c1, by rw [hb.cell hb1]; exact hc.c2, by rw [hb.cell hb1]; exact hc.c3, by rw [hb.cell hb1]; exact hc.c4, hc.sub.below hb hB, hc.z1⟩

/-- Such a struct's value. -/
def valT (n : It) (v : Value) : Value := .agg #[.int .i64 n.when, .string n.name, v, .int .i64 n.cond, .int .i64 n.body]

set_option maxHeartbeats 1000000 in
theorem sz_T (B : Nat) (n : It) (v : Value) (left : Int) (w : World) (hB : B ≤ w.heap.size) (hsub : StrsAt B w v n.params) (hs1 : n.name.size ≤ maxLen) (h0 : 0 ≤ left) (h1 : left ≤ 1048576) :
    Calls Try.prog 25 #[valT n v, .int .i64 left] w fun e w' => e = .returned (.int .i64 (szR left (wtT n))) ∧ Below B w w' := by
  have hlen := hsub.len
  obtain ⟨ao, cap, rfl, hc⟩ := id hsub
  clear hc
  unfold maxLen at hlen hs1
  unfold valT
  by_cases h1 : (n.name.size : Int) ≤ left
  · have g1 : ¬ left - (n.name.size : Int) < 0 := by omega
    by_cases h2 : (totS n.params n.params.length : Int) ≤ left - (n.name.size : Int)
    · have hw : left - (wtT n : Int) = left - (n.name.size : Int) - (totS n.params n.params.length : Int) := by unfold wtT; omega
      rw [szR_pos (by omega), hw]
      have g2 : ¬ left - (n.name.size : Int) - (totS n.params n.params.length : Int) < 0 := by omega
      have HW := Lib.hid hw; clear hw
      go_enter Try.func25, Try.ntmps25
      go_wp2_with (go_at_call 33; refine (sz_strs B _ _ _ _ (by simp; omega) (hsub.below ((Below.refl _ _).alloc hB _) (Nat.le_refl _)) (by omega) (by omega)).mono ?_; rw [szR_pos (by omega)]; rintro e w' ⟨rfl, hB2⟩)
      go_ret
      exact ⟨rfl, ((Below.refl B w).alloc hB _).trans hB2⟩
    · rw [szR_neg (by unfold wtT; omega)]
      go_enter Try.func25, Try.ntmps25
      go_wp2_with (go_at_call 33; refine (sz_strs B _ _ _ _ (by simp; omega) (hsub.below ((Below.refl _ _).alloc hB _) (Nat.le_refl _)) (by omega) (by omega)).mono ?_; rw [szR_neg (by omega)]; rintro e w' ⟨rfl, hB2⟩)
      go_ret
      exact ⟨rfl, ((Below.refl B w).alloc hB _).trans hB2⟩
  · rw [szR_neg (by unfold wtT; omega)]
    have g1 : left - (n.name.size : Int) < 0 := by omega
    go_enter Try.func25, Try.ntmps25
    go_wp2_with fail
    go_ret
    exact ⟨rfl, (Below.refl _ _).alloc hB _⟩

set_option maxHeartbeats 2000000 in
theorem sz_Ts (B : Nat) (x : Value) (V : Nat → Value) (l : List It) (left : Int) (w : World) (hB : B ≤ w.heap.size) (hx : ItsAt B w x V l) (h0 : 0 ≤ left) (h1 : left ≤ 1048576) :
    Calls Try.prog 13 #[x, .int .i64 left] w fun e w' => e = .returned (.int .i64 (szR left (totT l l.length))) ∧ Below B w w' := by
  obtain ⟨ao, cap, rfl, hc1, hc2, hc3⟩ := hx
  have HC := Lib.hid hc3; clear hc3
  unfold maxLen at hc2
  by_cases hl : (l.length : Int) ≤ left
  · have hl2 : ¬ left - (l.length : Int) < 0 := by omega
    go_enter Try.func13, Try.ntmps13
    go_wp2_with fail
    go_loopw [1, 5] (fun r i wr => ∃ (k : Nat), k ≤ l.length ∧ i = .int .i64 k ∧ r = .int .i64 (left - (totT l k : Int)) ∧ (totT l k : Int) ≤ left ∧ Below B w wr)
      (fun _ i _ => l.length - (intOf i).toNat)
    case atStart => exact ⟨0, Nat.zero_le _, rfl, rfl, hl, Below.refl _ _⟩
    case round =>
      obtain ⟨k, hk, rfl, rfl, ht, hB1⟩ := hrel
      by_cases hkl : k < l.length
      · obtain ⟨b, off, rfl, hb, hN⟩ := HC.out k hkl
        have c0 := (hB1.cell (p := ⟨b, off + k * 5, none⟩) hb).trans hN.c0
        have c1 := (hB1.cell (p := ⟨b, off + k * 5 + 1, none⟩) hb).trans hN.c1
        have c2 := (hB1.cell (p := ⟨b, off + k * 5 + 2, none⟩) hb).trans hN.c2
        have c3 := (hB1.cell (p := ⟨b, off + k * 5 + 3, none⟩) hb).trans hN.c3
        have c4 := (hB1.cell (p := ⟨b, off + k * 5 + 4, none⟩) hb).trans hN.c4
        have hk3 := hN.sub.below hB1 (Nat.le_refl _)
        have hs1 := hN.z1
        clear hN
        have ht1 : totT l (k + 1) = totT l k + wtT (nthT l k) := rfl
        by_cases hT : (totT l (k + 1) : Int) ≤ left
        · have hq : (wtT (nthT l k) : Int) ≤ left - (totT l k : Int) := by omega
          have hr : ¬ left - (totT l k : Int) - (wtT (nthT l k) : Int) < 0 := by omega
          have HT := Lib.hid ht1; clear ht1
          go_wp2_with (go_at_call 25; refine (sz_T B _ _ _ _ (Nat.le_trans hB hB1.size) hk3 hs1 (by omega) (by omega)).mono ?_; rw [szR_pos hq]; rintro e w' ⟨rfl, hB2⟩)
          go_roundw
          case rel => exact ⟨k + 1, by omega, by go_num, by rw [HT.out]; congr 1; omega, hT, hB1.trans hB2⟩
          case measure => simp [intOf]; omega
        · have hq : ¬ (wtT (nthT l k) : Int) ≤ left - (totT l k : Int) := by omega
          have hend : ¬ (totT l l.length : Int) ≤ left := by
            have := totT_mono l (k + 1) (l.length - (k + 1))
            rw [show k + 1 + (l.length - (k + 1)) = l.length from by omega] at this
            omega
          have HE := szR_neg hend; clear hend hT ht1
          go_wp2_with (go_at_call 25; refine (sz_T B _ _ _ _ (Nat.le_trans hB hB1.size) hk3 hs1 (by omega) (by omega)).mono ?_; rw [szR_neg hq]; rintro e w' ⟨rfl, hB2⟩)
          go_ret
          exact ⟨by rw [HE]; rfl, hB1.trans hB2⟩
      · have e : k = l.length := by omega
        subst e
        have HT := szR_pos ht
        go_wp2_with fail
        go_ret
        exact ⟨by rw [HT]; rfl, hB1⟩
  · have hl2 : left - (l.length : Int) < 0 := by omega
    rw [szR_neg (by have := totT_ge l l.length; omega)]
    go_enter Try.func13, Try.ntmps13
    go_wp2_with fail
    go_ret
    exact ⟨rfl, Below.refl _ _⟩

set_option maxHeartbeats 2000000 in
theorem to_T (B : Nat) (n : It) (v : Value) (w : World) (hB : B ≤ w.heap.size) (hv : StrsAt B w v n.params) (hl : n.params.length ≤ 1048576) :
    Calls Try.prog 27 #[valT n v] w fun e w' => ∃ g, e = .returned (valT n (.slice (some ⟨g, 0, none⟩) n.params.length n.params.length)) ∧ w.heap.size ≤ g ∧ g < w'.heap.size ∧ w'.rowIs g 9 n.params.length (fun i => .string (gs n.params i)) ∧ Below w.heap.size w w' := by
  unfold valT
  have hb3 : ∀ o1 o2 o3, Below B w (((w.alloc o1).alloc o2).alloc o3) := fun o1 o2 o3 => (((Below.refl B w).alloc hB o1).alloc (by simp; omega) o2).alloc (by simp; omega) o3
  have hb4 : ∀ o1 o2 o3, Below w.heap.size w (((w.alloc o1).alloc o2).alloc o3) := fun o1 o2 o3 => (((Below.refl w.heap.size w).alloc (Nat.le_refl _) o1).alloc (by simp) o2).alloc (by simp; omega) o3
  go_enter Try.func27, Try.ntmps27
  go_wp2_with fail
  refine (to_strs B v n.params _ (by simp; omega) (hv.below (hb3 _ _ _) (Nat.le_refl _)) hl).mono ?_
  rintro e w' ⟨rfl, hrow, hsz, hB1⟩
  have hBw := (hb4 _ _ _).trans (hB1.mono (by simp; omega))
  simp only [World.size_alloc] at hrow hsz
  have f20 := (hB1.cell (p := ⟨w.heap.size + 1 + 1, 0, none⟩) (by simp)).trans (show _ = some (Value.int .i64 n.when) by go_simp)
  have f10 := (hB1.cell (p := ⟨w.heap.size + 1, 0, none⟩) (by simp)).trans (show _ = some (Value.int .i64 0) by go_simp)
  have g10 := (hB1.frozen (p := ⟨w.heap.size + 1, 0, none⟩) (by simp)).trans (show _ = false by go_simp)
  have f21 := (hB1.cell (p := ⟨w.heap.size + 1 + 1, 1, none⟩) (by simp)).trans (show _ = some (Value.string n.name) by go_simp)
  have f11 := (hB1.cell (p := ⟨w.heap.size + 1, 1, none⟩) (by simp)).trans (show _ = some (Value.string ⟨#[]⟩) by go_simp)
  have g11 := (hB1.frozen (p := ⟨w.heap.size + 1, 1, none⟩) (by simp)).trans (show _ = false by go_simp)
  have f22 := (hB1.cell (p := ⟨w.heap.size + 1 + 1, 2, none⟩) (by simp)).trans (show _ = some (Value.slice none 0 0) by go_simp)
  have g22 := (hB1.frozen (p := ⟨w.heap.size + 1 + 1, 2, none⟩) (by simp)).trans (show _ = false by go_simp)
  have f12 := (hB1.cell (p := ⟨w.heap.size + 1, 2, none⟩) (by simp)).trans (show _ = some (Value.slice none 0 0) by go_simp)
  have g12 := (hB1.frozen (p := ⟨w.heap.size + 1, 2, none⟩) (by simp)).trans (show _ = false by go_simp)
  have f03 := (hB1.cell (p := ⟨w.heap.size, 3, none⟩) (by first | (simp; done) | (simp; omega))).trans (show _ = some (Value.int .i64 n.cond) by go_simp)
  have f23 := (hB1.cell (p := ⟨w.heap.size + 1 + 1, 3, none⟩) (by simp)).trans (show _ = some (Value.int .i64 0) by go_simp)
  have g23 := (hB1.frozen (p := ⟨w.heap.size + 1 + 1, 3, none⟩) (by simp)).trans (show _ = false by go_simp)
  have f13 := (hB1.cell (p := ⟨w.heap.size + 1, 3, none⟩) (by simp)).trans (show _ = some (Value.int .i64 0) by go_simp)
  have g13 := (hB1.frozen (p := ⟨w.heap.size + 1, 3, none⟩) (by simp)).trans (show _ = false by go_simp)
  have f04 := (hB1.cell (p := ⟨w.heap.size, 4, none⟩) (by first | (simp; done) | (simp; omega))).trans (show _ = some (Value.int .i64 n.body) by go_simp)
  have f24 := (hB1.cell (p := ⟨w.heap.size + 1 + 1, 4, none⟩) (by simp)).trans (show _ = some (Value.int .i64 0) by go_simp)
  have g24 := (hB1.frozen (p := ⟨w.heap.size + 1 + 1, 4, none⟩) (by simp)).trans (show _ = false by go_simp)
  have f14 := (hB1.cell (p := ⟨w.heap.size + 1, 4, none⟩) (by simp)).trans (show _ = some (Value.int .i64 0) by go_simp)
  have g14 := (hB1.frozen (p := ⟨w.heap.size + 1, 4, none⟩) (by simp)).trans (show _ = false by go_simp)
  have hblk : w'.heap[w.heap.size + 1]? = some (.cells #[.int .i64 0, .string ⟨#[]⟩, .slice none 0 0, .int .i64 0, .int .i64 0] 44) :=
    (hB1.block _ (by simp)).trans ((Below.heap_alloc _ _ _ (by simp)).trans (by have := Go.Deep.blk_alloc_new (w.alloc (Obj.cells #[Value.int IntKind.i64 n.when, Value.string n.name, v, Value.int IntKind.i64 n.cond, Value.int IntKind.i64 n.body] 57)) (.cells #[.int .i64 0, .string ⟨#[]⟩, .slice none 0 0, .int .i64 0, .int .i64 0] 44); simpa using this))
  have HK := Lib.hid hblk; clear hblk
  have HR := Lib.hid hrow; clear hrow
  have HW := Lib.hid hBw; clear hBw hB1 hb3 hb4
  go_wp2_with fail
  refine bodyPost_ret (results_cell_row rfl _ _ (w.heap.size + 1) 44 #[.int .i64 n.when, .string n.name, .slice (some ⟨w.heap.size + 1 + 1 + 1, 0, none⟩) n.params.length n.params.length, .int .i64 n.cond, .int .i64 n.body] (0, 0) _ rfl (by simp [World.setCell, Array.getElem?_modify, HK.out]) Try.underlying44 rfl (by kernel_rfl)) rfl ?_
  refine ⟨_, rfl, by omega, by simp; omega, ?_, ?_⟩
  · exact ((((((((HR.out.setOther (by first | (simp; done) | (simp; omega)) _).setOther (by first | (simp; done) | (simp; omega)) _).setOther (by first | (simp; done) | (simp; omega)) _).setOther (by first | (simp; done) | (simp; omega)) _).setOther (by first | (simp; done) | (simp; omega)) _).setOther (by first | (simp; done) | (simp; omega)) _).setOther (by first | (simp; done) | (simp; omega)) _).setOther (by first | (simp; done) | (simp; omega)) _)
  · exact ((((((((HW.out.setCell (by first | (simp; done) | (simp; omega)) _).setCell (by first | (simp; done) | (simp; omega)) _).setCell (by first | (simp; done) | (simp; omega)) _).setCell (by first | (simp; done) | (simp; omega)) _).setCell (by first | (simp; done) | (simp; omega)) _).setCell (by first | (simp; done) | (simp; omega)) _).setCell (by first | (simp; done) | (simp; omega)) _).setCell (by first | (simp; done) | (simp; omega)) _)

theorem infoT : (Try.prog.info? 44).map (fun i => (i.zero, i.size, i.bytes)) = some (some (.agg #[.int .i64 0, .string ⟨#[]⟩, .slice none 0 0, .int .i64 0, .int .i64 0]), 5, 64) := by kernel_rfl

/-- Blocks of the call's own: a block of n structs' cells, the first m of them laid, and a block for each one's slice. -/
structure OwnT (A B : Nat) (w : World) (b : Nat) (G : Nat → Nat) (l : List It) (n m : Nat) : Prop where
  lo : A ≤ b
  hi : b < B
  cells : ∃ f, w.rowIs b 44 (n * 5) f
  node : ∀ i, i < m → ItAt B w b (i * 5) (.slice (some ⟨G i, 0, none⟩) (nthT l i).params.length (nthT l i).params.length) (nthT l i)
  kids : ∀ i, i < m → A ≤ G i ∧ G i < B ∧ G i ≠ b ∧ w.rowIs (G i) 9 (nthT l i).params.length (fun j => .string (gs (nthT l i).params j))

theorem own_T_step {A B : Nat} {w w' : World} {b g : Nat} {G : Nat → Nat} {l : List It} {n k : Nat} (h : OwnT A B w b G l n k) (hk : k < n) (hB : B ≤ w.heap.size) (hb : Below w.heap.size w w') (hg0 : w.heap.size ≤ g) (hg1 : g < w'.heap.size)
    (hr : w'.rowIs g 9 (nthT l k).params.length (fun i => .string (gs (nthT l k).params i))) (hs1 : (nthT l k).name.size ≤ maxLen) (hl : (nthT l k).params.length ≤ maxLen) (hz : ∀ i, i < (nthT l k).params.length → (gs (nthT l k).params i).size ≤ maxLen) :
    OwnT A w'.heap.size (((((w'.setCell ⟨b, k * 5, none⟩ (.int .i64 (nthT l k).when)).setCell ⟨b, k * 5 + 1, none⟩ (.string (nthT l k).name)).setCell ⟨b, k * 5 + 2, none⟩ (.slice (some ⟨g, 0, none⟩) (nthT l k).params.length (nthT l k).params.length)).setCell ⟨b, k * 5 + 3, none⟩ (.int .i64 (nthT l k).cond)).setCell ⟨b, k * 5 + 4, none⟩ (.int .i64 (nthT l k).body)) b (fun i => if i = k then g else G i) l n (k + 1) := by
  obtain ⟨f, hf⟩ := h.cells
  have hbw : b < w.heap.size := Nat.lt_of_lt_of_le h.hi hB
  have hgb : g ≠ b := by omega
  have hf1 := rowIs_below hf hb hbw
  have hf2 := (((((hf1.set (k * 5) (.int .i64 (nthT l k).when)).set (k * 5 + 1) (.string (nthT l k).name)).set (k * 5 + 2) (.slice (some ⟨g, 0, none⟩) (nthT l k).params.length (nthT l k).params.length)).set (k * 5 + 3) (.int .i64 (nthT l k).cond)).set (k * 5 + 4) (.int .i64 (nthT l k).body))
  have hoth : ∀ (x : Nat) (t : TypeId) (m : Nat) (q : Nat → Value), w'.rowIs x t m q → x ≠ b → (((((w'.setCell ⟨b, k * 5, none⟩ (.int .i64 (nthT l k).when)).setCell ⟨b, k * 5 + 1, none⟩ (.string (nthT l k).name)).setCell ⟨b, k * 5 + 2, none⟩ (.slice (some ⟨g, 0, none⟩) (nthT l k).params.length (nthT l k).params.length)).setCell ⟨b, k * 5 + 3, none⟩ (.int .i64 (nthT l k).cond)).setCell ⟨b, k * 5 + 4, none⟩ (.int .i64 (nthT l k).body)).rowIs x t m q :=
    fun x t m q hq hx => (((((hq.setOther hx _).setOther hx _).setOther hx _).setOther hx _).setOther hx _)
  have hcell : ∀ j, j < n * 5 → ¬ (k * 5 ≤ j ∧ j < k * 5 + 5) → (((((w'.setCell ⟨b, k * 5, none⟩ (.int .i64 (nthT l k).when)).setCell ⟨b, k * 5 + 1, none⟩ (.string (nthT l k).name)).setCell ⟨b, k * 5 + 2, none⟩ (.slice (some ⟨g, 0, none⟩) (nthT l k).params.length (nthT l k).params.length)).setCell ⟨b, k * 5 + 3, none⟩ (.int .i64 (nthT l k).cond)).setCell ⟨b, k * 5 + 4, none⟩ (.int .i64 (nthT l k).body)).cell? ⟨b, j, none⟩ = w.cell? ⟨b, j, none⟩ := by
    intro j hj hn
    rw [hf2.cell hj, hf.cell hj]
    rw [if_neg (by omega), if_neg (by omega), if_neg (by omega), if_neg (by omega), if_neg (by omega)]
  refine ⟨h.lo, by omega, ⟨_, hf2⟩, fun i hi => ?_, fun i hi => ?_⟩
  · by_cases e : i = k
    · subst e
      have hkid : StrsAt w'.heap.size _ _ (nthT l i).params := strsAt_row (hoth g _ _ _ hr hgb) hg1 hl hz
      simp only [if_true]
      exact ⟨by rw [hf2.cell (by omega)]; simp, by rw [hf2.cell (by omega)]; simp, by rw [hf2.cell (by omega)]; simp, by rw [hf2.cell (by omega)]; simp, by rw [hf2.cell (by omega)]; simp, hkid, hs1⟩
    · have hi' : i < k := by omega
      have hn := h.node i hi'
      obtain ⟨k1, k2, k3, k4⟩ := h.kids i hi'
      have hkl : (nthT l i).params.length ≤ maxLen := hn.sub.len
      simp only [if_neg e]
      exact ⟨by rw [hcell _ (by omega) (by omega)]; exact hn.c0, by rw [hcell _ (by omega) (by omega)]; exact hn.c1, by rw [hcell _ (by omega) (by omega)]; exact hn.c2, by rw [hcell _ (by omega) (by omega)]; exact hn.c3, by rw [hcell _ (by omega) (by omega)]; exact hn.c4,
        strsAt_row (hoth _ _ _ _ (rowIs_below k4 hb (by omega)) k3) (by have := hb.size; omega) hkl hn.sub.sizes, hn.z1⟩
  · by_cases e : i = k
    · subst e
      simp only [if_true]
      exact ⟨by have := h.lo; have := h.hi; omega, hg1, hgb, hoth g _ _ _ hr hgb⟩
    · obtain ⟨k1, k2, k3, k4⟩ := h.kids i (by omega)
      simp only [if_neg e]
      exact ⟨k1, by have := hb.size; omega, k3, hoth _ _ _ _ (rowIs_below k4 hb (by omega)) k3⟩

theorem own_T_move {A B B' : Nat} {w w' : World} {b : Nat} {G : Nat → Nat} {l : List It} {n m : Nat} (h : OwnT A B w b G l n m) (hB : B ≤ B') (hk : ∀ x, A ≤ x → x < B → w'.heap[x]? = w.heap[x]?) : OwnT A B' w' b G l n m := by
  have hbb := hk b h.lo h.hi
  have hhi := h.hi
  obtain ⟨f, hf⟩ := h.cells
  refine ⟨h.lo, by omega, ⟨f, hf.of_block hbb⟩, fun i hi => ?_, fun i hi => ?_⟩
  · have hn := h.node i hi
    obtain ⟨k1, k2, k3, k4⟩ := h.kids i hi
    exact ⟨(World.cell?_of_block (w := w) hbb).trans hn.c0, (World.cell?_of_block (w := w) hbb).trans hn.c1, (World.cell?_of_block (w := w) hbb).trans hn.c2, (World.cell?_of_block (w := w) hbb).trans hn.c3, (World.cell?_of_block (w := w) hbb).trans hn.c4, strsAt_row (k4.of_block (hk _ k1 k2)) (by omega) hn.sub.len hn.sub.sizes, hn.z1⟩
  · obtain ⟨k1, k2, k3, k4⟩ := h.kids i hi
    exact ⟨k1, by omega, k3, k4.of_block (hk _ k1 k2)⟩

set_option maxHeartbeats 2000000 in
theorem to_Ts (B : Nat) (x : Value) (V : Nat → Value) (l : List It) (w : World) (hB : B ≤ w.heap.size) (hx : ItsAt B w x V l) (ht : totT l l.length ≤ 1048576) :
    Calls Try.prog 17 #[x] w fun e w' => e = .returned (.slice (some ⟨w.heap.size, 0, none⟩) l.length l.length) ∧ (∃ G, OwnT w.heap.size w'.heap.size w' w.heap.size G l l.length l.length) ∧ Below w.heap.size w w' := by
  obtain ⟨ao, cap, rfl, hc1, hc2, hc3⟩ := hx
  have HC := Lib.hid hc3; clear hc3
  unfold maxLen at hc2
  have hl := totT_ge l l.length
  obtain ⟨i0, hi, hz0, hz1, hz2⟩ := info_parts infoT
  go_enter Try.func17, Try.ntmps17
  go_wp2_with (at_make; refine wpList_make_full _ rfl _ _ 29 rfl w.heap.size 44 i0 _ 5 Try.underlying29 hi hz0 hz1 _ _ _ _ l.length rfl rfl rfl rfl (by rw [hz2]; omega) (by unfold maxLen; omega) (Nat.le_refl _) ?_)
  intro w1 hown hgrow
  have hlt1 : w.heap.size < w1.heap.size := by
    rcases hown.2 with ⟨h0, _⟩ | ⟨g, cap', cur, h0, _, hc, _⟩
    · cases h0
    · simp only [Value.slice.injEq, Option.some.injEq, Addr.mk.injEq] at h0
      obtain ⟨⟨rfl, -⟩, -, -⟩ := h0
      exact (Array.getElem?_eq_some_iff.1 hc).1
  have hrow : ∃ f, w1.rowIs w.heap.size 44 (l.length * 5) f := by
    rcases hown.2 with ⟨h0, _⟩ | ⟨g, cap', cur, h0, _, hc, _, _, hcs, _⟩
    · cases h0
    · simp only [Value.slice.injEq, Option.some.injEq, Addr.mk.injEq] at h0
      obtain ⟨⟨rfl, -⟩, -, rfl⟩ := h0
      exact ⟨fun i => cur.getD i (.bool false), cur, hc, hcs, fun i hi => by simp [Array.getElem?_eq_getElem (show i < cur.size by omega)]⟩
  have hbel : Below w.heap.size w w1 := (Below.refl _ _).grown hgrow (Nat.le_refl _) (fun k hk => by cases hk)
  have hown1 : OwnT w.heap.size w1.heap.size w1 w.heap.size (fun _ => 0) l l.length 0 := ⟨Nat.le_refl _, hlt1, hrow, fun i hi => by omega, fun i hi => by omega⟩
  have HO := Lib.hid hown1
  clear hown hgrow hrow hown1
  go_wp2_with fail
  go_loopw [4] (fun i wr => ∃ (k : Nat), k ≤ l.length ∧ i = .int .i64 k ∧ (∃ G, OwnT w.heap.size wr.heap.size wr w.heap.size G l l.length k) ∧ Below w.heap.size w wr)
    (fun i _ => l.length - (intOf i).toNat)
  case atStart => exact ⟨0, Nat.zero_le _, rfl, ⟨_, HO.out⟩, hbel⟩
  case round =>
    obtain ⟨k, hk, rfl, ⟨G, hG⟩, hB1⟩ := hrel
    by_cases hkl : k < l.length
    · obtain ⟨b, off, rfl, hb, hN⟩ := HC.out k hkl
      have hbw : b < w.heap.size := by omega
      have c0 := (hB1.cell (p := ⟨b, off + k * 5, none⟩) hbw).trans hN.c0
      have c1 := (hB1.cell (p := ⟨b, off + k * 5 + 1, none⟩) hbw).trans hN.c1
      have c2 := (hB1.cell (p := ⟨b, off + k * 5 + 2, none⟩) hbw).trans hN.c2
      have c3 := (hB1.cell (p := ⟨b, off + k * 5 + 3, none⟩) hbw).trans hN.c3
      have c4 := (hB1.cell (p := ⟨b, off + k * 5 + 4, none⟩) hbw).trans hN.c4
      have hk3 := hN.sub.below (hB1.mono hB) (Nat.le_refl _)
      have hs1 := hN.z1
      have hzz := Lib.hid hN.sub.sizes
      have hkl2 : (nthT l k).params.length ≤ 1048576 := by
        have h1 : totT l (k + 1) = totT l k + wtT (nthT l k) := rfl
        have h2 := totT_mono l (k + 1) (l.length - (k + 1))
        rw [show k + 1 + (l.length - (k + 1)) = l.length from by omega] at h2
        unfold wtT at h1
        have h3 := totS_ge (nthT l k).params (nthT l k).params.length
        omega
      have HG := Lib.hid hG; clear hN hG
      go_wp2_with fail
      refine (to_T B _ _ _ (Nat.le_trans hB hB1.size) hk3 hkl2).mono ?_
      rintro e w' ⟨g, rfl, hg0, hg1, hrow, hB2⟩
      have hG2 := own_T_step HG.out hkl (Nat.le_refl _) hB2 hg0 hg1 hrow hs1 (by unfold maxLen; omega) hzz.out
      obtain ⟨f, hf⟩ := HG.out.cells
      have hf1 := rowIs_below hf hB2 HG.out.hi
      have e0 := hf1.cell (i := k * 5) (by omega)
      have z0 := hf1.frozen (k * 5)
      have e1 := hf1.cell (i := k * 5 + 1) (by omega)
      have z1 := hf1.frozen (k * 5 + 1)
      have e2 := hf1.cell (i := k * 5 + 2) (by omega)
      have z2 := hf1.frozen (k * 5 + 2)
      have e3 := hf1.cell (i := k * 5 + 3) (by omega)
      have z3 := hf1.frozen (k * 5 + 3)
      have e4 := hf1.cell (i := k * 5 + 4) (by omega)
      have z4 := hf1.frozen (k * 5 + 4)
      have hB3 := hB1.trans (hB2.mono hB1.size)
      have HG2 := Lib.hid hG2; clear hG2 HG hf hf1 hrow
      unfold valT
      go_wp2_with fail
      go_roundw
      case rel =>
        refine ⟨k + 1, by omega, by go_num, ⟨(fun i => if i = k then g else G i), ?_⟩, ?_⟩
        · have := HG2.out
          simpa [World.setCell] using this
        · exact (((((hB3.setCell (Nat.le_refl _) _).setCell (Nat.le_refl _) _).setCell (Nat.le_refl _) _).setCell (Nat.le_refl _) _).setCell (Nat.le_refl _) _)
      case measure => simp [intOf]; omega
    · have e : k = l.length := by omega
      subst e
      have HG := Lib.hid hG; clear hG
      go_wp2_with fail
      go_ret
      exact ⟨rfl, ⟨G, HG.out⟩, hB1⟩

/-- Such blocks read as the list. -/
theorem own_Ts {A B : Nat} {w : World} {b : Nat} {G : Nat → Nat} {l : List It} (h : OwnT A B w b G l l.length l.length) (ht : totT l l.length ≤ 1048576) :
    ItsAt B w (.slice (some ⟨b, 0, none⟩) l.length l.length) (fun i => .slice (some ⟨G i, 0, none⟩) (nthT l i).params.length (nthT l i).params.length) l :=
  ⟨_, _, rfl, Nat.le_refl _, by have := totT_ge l l.length; unfold maxLen; omega, fun i hi => ⟨b, 0, rfl, h.hi, by rw [Nat.zero_add]; exact h.node i hi⟩⟩

set_option maxHeartbeats 1000000 in
theorem eq_T (B : Nat) (n : It) (v v' : Value) (w : World) (hB : B ≤ w.heap.size) (hv : StrsAt B w v n.params) (hv' : StrsAt B w v' n.params) :
    Calls Try.prog 31 #[valT n v, valT n v'] w fun e w' => e = .returned (.bool true) ∧ Below w.heap.size w w' := by
  unfold valT
  have hb2 : ∀ o1 o2, Below B w ((w.alloc o1).alloc o2) := fun o1 o2 => ((Below.refl B w).alloc hB o1).alloc (by simp; omega) o2
  have hb4 : ∀ o1 o2, Below w.heap.size w ((w.alloc o1).alloc o2) := fun o1 o2 => ((Below.refl w.heap.size w).alloc (Nat.le_refl _) o1).alloc (by simp) o2
  go_enter Try.func31, Try.ntmps31
  go_wp2_with fail
  refine (eq_strs B _ _ n.params _ (by simp; omega) (hv.below (hb2 _ _) (Nat.le_refl _)) (hv'.below (hb2 _ _) (Nat.le_refl _))).mono ?_
  rintro e w' ⟨rfl, hB1⟩
  have f03 := (hB1.cell (p := ⟨w.heap.size, 3, none⟩) (by first | (simp; done) | (simp; omega))).trans (show _ = some (Value.int .i64 n.cond) by go_simp)
  have f13 := (hB1.cell (p := ⟨w.heap.size + 1, 3, none⟩) (by first | (simp; done) | (simp; omega))).trans (show _ = some (Value.int .i64 n.cond) by go_simp)
  have f04 := (hB1.cell (p := ⟨w.heap.size, 4, none⟩) (by first | (simp; done) | (simp; omega))).trans (show _ = some (Value.int .i64 n.body) by go_simp)
  have f14 := (hB1.cell (p := ⟨w.heap.size + 1, 4, none⟩) (by first | (simp; done) | (simp; omega))).trans (show _ = some (Value.int .i64 n.body) by go_simp)
  have hBw := (hb4 _ _).trans (hB1.mono (by simp; omega))
  clear hB1 hb2 hb4
  go_wp2_with fail
  go_ret
  exact ⟨rfl, hBw⟩

set_option maxRecDepth 100000 in
set_option maxHeartbeats 2000000 in
theorem eq_Ts (B : Nat) (x x' : Value) (V V' : Nat → Value) (l : List It) (w : World) (hB : B ≤ w.heap.size) (hx : ItsAt B w x V l) (hx' : ItsAt B w x' V' l) :
    Calls Try.prog 23 #[x, x'] w fun e w' => e = .returned (.bool true) ∧ Below w.heap.size w w' := by
  obtain ⟨ao, cap, rfl, hc1, hc2, hc3⟩ := hx
  obtain ⟨ao', cap', rfl, hd1, hd2, hd3⟩ := hx'
  have HC := Lib.hid hc3; clear hc3
  have HD := Lib.hid hd3; clear hd3
  unfold maxLen at hc2 hd2
  go_enter Try.func23, Try.ntmps23
  go_wp2_with fail
  go_loopw [5] (fun i wr => ∃ (k : Nat), k ≤ l.length ∧ i = .int .i64 k ∧ Below w.heap.size w wr)
    (fun i _ => l.length - (intOf i).toNat)
  case atStart => exact ⟨0, Nat.zero_le _, rfl, Below.refl _ _⟩
  case round =>
    obtain ⟨k, hk, rfl, hB1⟩ := hrel
    by_cases hkl : k < l.length
    · obtain ⟨b, off, rfl, hb, hN⟩ := HC.out k hkl
      obtain ⟨b', off', rfl, hb', hN'⟩ := HD.out k hkl
      have hbw : b < w.heap.size := by omega
      have hbw' : b' < w.heap.size := by omega
      have c0 := (hB1.cell (p := ⟨b, off + k * 5, none⟩) hbw).trans hN.c0
      have c1 := (hB1.cell (p := ⟨b, off + k * 5 + 1, none⟩) hbw).trans hN.c1
      have c2 := (hB1.cell (p := ⟨b, off + k * 5 + 2, none⟩) hbw).trans hN.c2
      have c3 := (hB1.cell (p := ⟨b, off + k * 5 + 3, none⟩) hbw).trans hN.c3
      have c4 := (hB1.cell (p := ⟨b, off + k * 5 + 4, none⟩) hbw).trans hN.c4
      have d0 := (hB1.cell (p := ⟨b', off' + k * 5, none⟩) hbw').trans hN'.c0
      have d1 := (hB1.cell (p := ⟨b', off' + k * 5 + 1, none⟩) hbw').trans hN'.c1
      have d2 := (hB1.cell (p := ⟨b', off' + k * 5 + 2, none⟩) hbw').trans hN'.c2
      have d3 := (hB1.cell (p := ⟨b', off' + k * 5 + 3, none⟩) hbw').trans hN'.c3
      have d4 := (hB1.cell (p := ⟨b', off' + k * 5 + 4, none⟩) hbw').trans hN'.c4
      have hk3 := hN.sub.below (hB1.mono hB) (Nat.le_refl _)
      have hk3' := hN'.sub.below (hB1.mono hB) (Nat.le_refl _)
      have hki : (k : Int) < (l.length : Int) := by omega
      clear hN hN'
      go_wp2_with fail
      go_still_tail 8, (by kernel_rfl)
      change wpList _ _ _ _ _ wr.drew
      have hBd : Below w.heap.size w wr.drew := hB1.drew
      have hq3 : StrsAt B wr.drew (V k) (nthT l k).params := hk3
      have hq3' : StrsAt B wr.drew (V' k) (nthT l k).params := hk3'
      generalize wr.drew = w2 at *
      go_wp2_with (go_at_call 31; refine (eq_T B _ _ _ _ (Nat.le_trans hB hBd.size) hq3 hq3').mono ?_; rintro e w' ⟨rfl, hB2⟩)
      go_roundw
      case rel => exact ⟨k + 1, by omega, by go_num, hBd.trans (hB2.mono hBd.size)⟩
      case measure => simp [intOf]; omega
    · have e : k = l.length := by omega
      subst e
      go_wp2_with fail
      go_ret
      exact ⟨rfl, hB1⟩

end Go.Proofs.Ytngiidocgjbooaa.Pg
