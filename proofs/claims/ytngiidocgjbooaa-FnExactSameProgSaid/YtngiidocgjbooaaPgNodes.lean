/-
  Slices of nodes, read in a world; what measures, copies and compares them.
-/
import Derived.Test.YtngiidocgjbooaaPgInts
namespace Go.Proofs.Ytngiidocgjbooaa.Pg
open Go.ChangeShapes Go.WideShapes Go.ChangeAt Go.RowKit Go.PlainAid
open Go.Proofs.Ytngiidocgjbooaa.PgPure
set_option linter.unusedVariables false

structure NdAt (B : Nat) (w : World) (b o : Nat) (v : Value) (n : Nd) : Prop where
  c0 : w.cell? ⟨b, o, none⟩ = some (.int .i64 n.kind)
  c1 : w.cell? ⟨b, o + 1, none⟩ = some (.string n.s)
  c2 : w.cell? ⟨b, o + 2, none⟩ = some (.string n.t)
  c3 : w.cell? ⟨b, o + 3, none⟩ = some (.int .i64 n.n)
  c4 : w.cell? ⟨b, o + 4, none⟩ = some (v)
  sub : IntsAt B w v n.kids
  z1 : n.s.size ≤ maxLen
  z2 : n.t.size ≤ maxLen

def NdsAt (B : Nat) (w : World) (v : Value) (V : Nat → Value) (l : List Nd) : Prop :=
  ∃ (ao : Option Addr) (cap : Nat), v = .slice ao l.length cap ∧ l.length ≤ cap ∧ cap ≤ maxLen ∧
    ∀ i, i < l.length → ∃ b off, ao = some ⟨b, off, none⟩ ∧ b < B ∧ NdAt B w b (off + i * 5) (V i) (nthN l i)

theorem NdsAt.below {B B' : Nat} {w w' : World} {v : Value} {V : Nat → Value} {l : List Nd} (h : NdsAt B w v V l) (hb : Below B w w') (hB : B ≤ B') : NdsAt B' w' v V l := by
  obtain ⟨ao, cap, e, h1, h2, h3⟩ := h
  refine ⟨ao, cap, e, h1, h2, fun i hi => ?_⟩
  obtain ⟨b, off, ea, hb1, hc⟩ := h3 i hi
  exact ⟨b, off, ea, by omega, by rw [hb.cell hb1]; exact hc.c0, by rw [hb.cell hb1]; exact hc.c1, by rw [hb.cell hb1]; exact hc.c2, by rw [hb.cell hb1]; exact hc.c3, by rw [hb.cell hb1]; exact hc.c4, hc.sub.below hb hB, hc.z1, hc.z2⟩

/-- Such a struct's value. -/
def valN (n : Nd) (v : Value) : Value := .agg #[.int .i64 n.kind, .string n.s, .string n.t, .int .i64 n.n, v]

set_option maxHeartbeats 1000000 in
theorem sz_N (B : Nat) (n : Nd) (v : Value) (left : Int) (w : World) (hB : B ≤ w.heap.size) (hsub : IntsAt B w v n.kids) (hs1 : n.s.size ≤ maxLen) (hs2 : n.t.size ≤ maxLen) (h0 : 0 ≤ left) (h1 : left ≤ 1048576) :
    Calls Try.prog 24 #[valN n v, .int .i64 left] w fun e w' => e = .returned (.int .i64 (szR left (wtN n))) ∧ Below B w w' := by
  have hlen := hsub.len
  obtain ⟨ao, cap, rfl, hc1, hc2, hc3⟩ := hsub
  clear hc3
  unfold maxLen at hc2
  unfold maxLen at hlen hs1 hs2
  unfold valN
  by_cases h1 : (n.s.size : Int) ≤ left
  · have g1 : ¬ left - (n.s.size : Int) < 0 := by omega
    by_cases h2 : (n.t.size : Int) ≤ left - (n.s.size : Int)
    · have g2 : ¬ left - (n.s.size : Int) - (n.t.size : Int) < 0 := by omega
      by_cases h4 : (n.kids.length : Int) ≤ left - (n.s.size : Int) - (n.t.size : Int)
      · have hw : left - (wtN n : Int) = left - (n.s.size : Int) - (n.t.size : Int) - (n.kids.length : Int) := by unfold wtN; omega
        rw [szR_pos (by omega), hw]
        have g4 : ¬ left - (n.s.size : Int) - (n.t.size : Int) - (n.kids.length : Int) < 0 := by omega
        have HW := Lib.hid hw; clear hw
        go_enter Try.func24, Try.ntmps24
        go_wp2_with (go_at_call 32; refine (sz_ints _ _ _ _ _ (by omega) (by omega) (by omega)).mono ?_; rw [szR_pos (by omega)]; rintro e w' ⟨rfl, rfl⟩)
        go_ret
        exact ⟨rfl, (Below.refl _ _).alloc hB _⟩
      · rw [szR_neg (by unfold wtN; omega)]
        go_enter Try.func24, Try.ntmps24
        go_wp2_with (go_at_call 32; refine (sz_ints _ _ _ _ _ (by omega) (by omega) (by omega)).mono ?_; rw [szR_neg (by omega)]; rintro e w' ⟨rfl, rfl⟩)
        go_ret
        exact ⟨rfl, (Below.refl _ _).alloc hB _⟩
    · rw [szR_neg (by unfold wtN; omega)]
      have g2 : left - (n.s.size : Int) - (n.t.size : Int) < 0 := by omega
      go_enter Try.func24, Try.ntmps24
      go_wp2_with fail
      go_ret
      exact ⟨rfl, (Below.refl _ _).alloc hB _⟩
  · rw [szR_neg (by unfold wtN; omega)]
    have g1 : left - (n.s.size : Int) < 0 := by omega
    go_enter Try.func24, Try.ntmps24
    go_wp2_with fail
    go_ret
    exact ⟨rfl, (Below.refl _ _).alloc hB _⟩

set_option maxHeartbeats 2000000 in
theorem sz_Ns (B : Nat) (x : Value) (V : Nat → Value) (l : List Nd) (left : Int) (w : World) (hB : B ≤ w.heap.size) (hx : NdsAt B w x V l) (h0 : 0 ≤ left) (h1 : left ≤ 1048576) :
    Calls Try.prog 12 #[x, .int .i64 left] w fun e w' => e = .returned (.int .i64 (szR left (totN l l.length))) ∧ Below B w w' := by
  obtain ⟨ao, cap, rfl, hc1, hc2, hc3⟩ := hx
  have HC := Lib.hid hc3; clear hc3
  unfold maxLen at hc2
  by_cases hl : (l.length : Int) ≤ left
  · have hl2 : ¬ left - (l.length : Int) < 0 := by omega
    go_enter Try.func12, Try.ntmps12
    go_wp2_with fail
    go_loopw [1, 5] (fun r i wr => ∃ (k : Nat), k ≤ l.length ∧ i = .int .i64 k ∧ r = .int .i64 (left - (totN l k : Int)) ∧ (totN l k : Int) ≤ left ∧ Below B w wr)
      (fun _ i _ => l.length - (intOf i).toNat)
    case atStart => exact ⟨0, Nat.zero_le _, rfl, rfl, hl, Below.refl _ _⟩
    case round =>
      obtain ⟨k, hk, rfl, rfl, ht, hB1⟩ := hrel
      by_cases hkl : k < l.length
      · obtain ⟨b, off, rfl, hb, hN⟩ := HC.out k hkl
        have c0 := (hB1.cell (p := ⟨b, off + k * 5, none⟩) hb).trans hN.c0
        have c1 := (hB1.cell (p := ⟨b, off + k * 5 + 1, none⟩) hb).trans hN.c1
        have c2 := (hB1.cell (p := ⟨b, off + k * 5 + 2, none⟩) hb).trans hN.c2
        have c3 := (hB1.cell (p := ⟨b, off + k * 5 + 3, none⟩) hb).trans hN.c3
        have c4 := (hB1.cell (p := ⟨b, off + k * 5 + 4, none⟩) hb).trans hN.c4
        have hk3 := hN.sub.below hB1 (Nat.le_refl _)
        have hs1 := hN.z1
        have hs2 := hN.z2
        clear hN
        have ht1 : totN l (k + 1) = totN l k + wtN (nthN l k) := rfl
        by_cases hT : (totN l (k + 1) : Int) ≤ left
        · have hq : (wtN (nthN l k) : Int) ≤ left - (totN l k : Int) := by omega
          have hr : ¬ left - (totN l k : Int) - (wtN (nthN l k) : Int) < 0 := by omega
          have HT := Lib.hid ht1; clear ht1
          go_wp2_with (go_at_call 24; refine (sz_N B _ _ _ _ (Nat.le_trans hB hB1.size) hk3 hs1 hs2 (by omega) (by omega)).mono ?_; rw [szR_pos hq]; rintro e w' ⟨rfl, hB2⟩)
          go_roundw
          case rel => exact ⟨k + 1, by omega, by go_num, by rw [HT.out]; congr 1; omega, hT, hB1.trans hB2⟩
          case measure => simp [intOf]; omega
        · have hq : ¬ (wtN (nthN l k) : Int) ≤ left - (totN l k : Int) := by omega
          have hend : ¬ (totN l l.length : Int) ≤ left := by
            have := totN_mono l (k + 1) (l.length - (k + 1))
            rw [show k + 1 + (l.length - (k + 1)) = l.length from by omega] at this
            omega
          have HE := szR_neg hend; clear hend hT ht1
          go_wp2_with (go_at_call 24; refine (sz_N B _ _ _ _ (Nat.le_trans hB hB1.size) hk3 hs1 hs2 (by omega) (by omega)).mono ?_; rw [szR_neg hq]; rintro e w' ⟨rfl, hB2⟩)
          go_ret
          exact ⟨by rw [HE]; rfl, hB1.trans hB2⟩
      · have e : k = l.length := by omega
        subst e
        have HT := szR_pos ht
        go_wp2_with fail
        go_ret
        exact ⟨by rw [HT]; rfl, hB1⟩
  · have hl2 : left - (l.length : Int) < 0 := by omega
    rw [szR_neg (by have := totN_ge l l.length; omega)]
    go_enter Try.func12, Try.ntmps12
    go_wp2_with fail
    go_ret
    exact ⟨rfl, Below.refl _ _⟩

set_option maxHeartbeats 2000000 in
theorem to_N (B : Nat) (n : Nd) (v : Value) (w : World) (hB : B ≤ w.heap.size) (hv : IntsAt B w v n.kids) (hl : n.kids.length ≤ 1048576) :
    Calls Try.prog 26 #[valN n v] w fun e w' => ∃ g, e = .returned (valN n (.slice (some ⟨g, 0, none⟩) n.kids.length n.kids.length)) ∧ w.heap.size ≤ g ∧ g < w'.heap.size ∧ w'.rowIs g 3 n.kids.length (fun i => .int .i64 (gi n.kids i)) ∧ Below w.heap.size w w' := by
  unfold valN
  have hb3 : ∀ o1 o2 o3, Below B w (((w.alloc o1).alloc o2).alloc o3) := fun o1 o2 o3 => (((Below.refl B w).alloc hB o1).alloc (by simp; omega) o2).alloc (by simp; omega) o3
  have hb4 : ∀ o1 o2 o3, Below w.heap.size w (((w.alloc o1).alloc o2).alloc o3) := fun o1 o2 o3 => (((Below.refl w.heap.size w).alloc (Nat.le_refl _) o1).alloc (by simp) o2).alloc (by simp; omega) o3
  go_enter Try.func26, Try.ntmps26
  go_wp2_with fail
  refine (to_ints B v n.kids _ (by simp; omega) (hv.below (hb3 _ _ _) (Nat.le_refl _)) hl).mono ?_
  rintro e w' ⟨rfl, hrow, hsz, hB1⟩
  have hBw := (hb4 _ _ _).trans (hB1.mono (by simp; omega))
  simp only [World.size_alloc] at hrow hsz
  have f20 := (hB1.cell (p := ⟨w.heap.size + 1 + 1, 0, none⟩) (by simp)).trans (show _ = some (Value.int .i64 n.kind) by go_simp)
  have f10 := (hB1.cell (p := ⟨w.heap.size + 1, 0, none⟩) (by simp)).trans (show _ = some (Value.int .i64 0) by go_simp)
  have g10 := (hB1.frozen (p := ⟨w.heap.size + 1, 0, none⟩) (by simp)).trans (show _ = false by go_simp)
  have f21 := (hB1.cell (p := ⟨w.heap.size + 1 + 1, 1, none⟩) (by simp)).trans (show _ = some (Value.string n.s) by go_simp)
  have f11 := (hB1.cell (p := ⟨w.heap.size + 1, 1, none⟩) (by simp)).trans (show _ = some (Value.string ⟨#[]⟩) by go_simp)
  have g11 := (hB1.frozen (p := ⟨w.heap.size + 1, 1, none⟩) (by simp)).trans (show _ = false by go_simp)
  have f22 := (hB1.cell (p := ⟨w.heap.size + 1 + 1, 2, none⟩) (by simp)).trans (show _ = some (Value.string n.t) by go_simp)
  have f12 := (hB1.cell (p := ⟨w.heap.size + 1, 2, none⟩) (by simp)).trans (show _ = some (Value.string ⟨#[]⟩) by go_simp)
  have g12 := (hB1.frozen (p := ⟨w.heap.size + 1, 2, none⟩) (by simp)).trans (show _ = false by go_simp)
  have f23 := (hB1.cell (p := ⟨w.heap.size + 1 + 1, 3, none⟩) (by simp)).trans (show _ = some (Value.int .i64 n.n) by go_simp)
  have f13 := (hB1.cell (p := ⟨w.heap.size + 1, 3, none⟩) (by simp)).trans (show _ = some (Value.int .i64 0) by go_simp)
  have g13 := (hB1.frozen (p := ⟨w.heap.size + 1, 3, none⟩) (by simp)).trans (show _ = false by go_simp)
  have f24 := (hB1.cell (p := ⟨w.heap.size + 1 + 1, 4, none⟩) (by simp)).trans (show _ = some (Value.slice none 0 0) by go_simp)
  have g24 := (hB1.frozen (p := ⟨w.heap.size + 1 + 1, 4, none⟩) (by simp)).trans (show _ = false by go_simp)
  have f14 := (hB1.cell (p := ⟨w.heap.size + 1, 4, none⟩) (by simp)).trans (show _ = some (Value.slice none 0 0) by go_simp)
  have g14 := (hB1.frozen (p := ⟨w.heap.size + 1, 4, none⟩) (by simp)).trans (show _ = false by go_simp)
  have hblk : w'.heap[w.heap.size + 1]? = some (.cells #[.int .i64 0, .string ⟨#[]⟩, .string ⟨#[]⟩, .int .i64 0, .slice none 0 0] 40) :=
    (hB1.block _ (by simp)).trans ((Below.heap_alloc _ _ _ (by simp)).trans (by have := Go.Deep.blk_alloc_new (w.alloc (Obj.cells #[Value.int IntKind.i64 n.kind, Value.string n.s, Value.string n.t, Value.int IntKind.i64 n.n, v] 55)) (.cells #[.int .i64 0, .string ⟨#[]⟩, .string ⟨#[]⟩, .int .i64 0, .slice none 0 0] 40); simpa using this))
  have HK := Lib.hid hblk; clear hblk
  have HR := Lib.hid hrow; clear hrow
  have HW := Lib.hid hBw; clear hBw hB1 hb3 hb4
  go_wp2_with fail
  refine bodyPost_ret (results_cell_row rfl _ _ (w.heap.size + 1) 40 #[.int .i64 n.kind, .string n.s, .string n.t, .int .i64 n.n, .slice (some ⟨w.heap.size + 1 + 1 + 1, 0, none⟩) n.kids.length n.kids.length] (0, 0) _ rfl (by simp [World.setCell, Array.getElem?_modify, HK.out]) Try.underlying40 rfl (by kernel_rfl)) rfl ?_
  refine ⟨_, rfl, by omega, by simp; omega, ?_, ?_⟩
  · exact ((((((HR.out.setOther (by first | (simp; done) | (simp; omega)) _).setOther (by first | (simp; done) | (simp; omega)) _).setOther (by first | (simp; done) | (simp; omega)) _).setOther (by first | (simp; done) | (simp; omega)) _).setOther (by first | (simp; done) | (simp; omega)) _).setOther (by first | (simp; done) | (simp; omega)) _)
  · exact ((((((HW.out.setCell (by first | (simp; done) | (simp; omega)) _).setCell (by first | (simp; done) | (simp; omega)) _).setCell (by first | (simp; done) | (simp; omega)) _).setCell (by first | (simp; done) | (simp; omega)) _).setCell (by first | (simp; done) | (simp; omega)) _).setCell (by first | (simp; done) | (simp; omega)) _)

theorem infoN : (Try.prog.info? 40).map (fun i => (i.zero, i.size, i.bytes)) = some (some (.agg #[.int .i64 0, .string ⟨#[]⟩, .string ⟨#[]⟩, .int .i64 0, .slice none 0 0]), 5, 72) := by kernel_rfl

/-- Blocks of the call's own: a block of n structs' cells, the first m of them laid, and a block for each one's slice. -/
structure OwnN (A B : Nat) (w : World) (b : Nat) (G : Nat → Nat) (l : List Nd) (n m : Nat) : Prop where
  lo : A ≤ b
  hi : b < B
  cells : ∃ f, w.rowIs b 40 (n * 5) f
  node : ∀ i, i < m → NdAt B w b (i * 5) (.slice (some ⟨G i, 0, none⟩) (nthN l i).kids.length (nthN l i).kids.length) (nthN l i)
  kids : ∀ i, i < m → A ≤ G i ∧ G i < B ∧ G i ≠ b ∧ w.rowIs (G i) 3 (nthN l i).kids.length (fun j => .int .i64 (gi (nthN l i).kids j))

theorem own_N_step {A B : Nat} {w w' : World} {b g : Nat} {G : Nat → Nat} {l : List Nd} {n k : Nat} (h : OwnN A B w b G l n k) (hk : k < n) (hB : B ≤ w.heap.size) (hb : Below w.heap.size w w') (hg0 : w.heap.size ≤ g) (hg1 : g < w'.heap.size)
    (hr : w'.rowIs g 3 (nthN l k).kids.length (fun i => .int .i64 (gi (nthN l k).kids i))) (hs1 : (nthN l k).s.size ≤ maxLen) (hs2 : (nthN l k).t.size ≤ maxLen) (hl : (nthN l k).kids.length ≤ maxLen) :
    OwnN A w'.heap.size (((((w'.setCell ⟨b, k * 5, none⟩ (.int .i64 (nthN l k).kind)).setCell ⟨b, k * 5 + 1, none⟩ (.string (nthN l k).s)).setCell ⟨b, k * 5 + 2, none⟩ (.string (nthN l k).t)).setCell ⟨b, k * 5 + 3, none⟩ (.int .i64 (nthN l k).n)).setCell ⟨b, k * 5 + 4, none⟩ (.slice (some ⟨g, 0, none⟩) (nthN l k).kids.length (nthN l k).kids.length)) b (fun i => if i = k then g else G i) l n (k + 1) := by
  obtain ⟨f, hf⟩ := h.cells
  have hbw : b < w.heap.size := Nat.lt_of_lt_of_le h.hi hB
  have hgb : g ≠ b := by omega
  have hf1 := rowIs_below hf hb hbw
  have hf2 := (((((hf1.set (k * 5) (.int .i64 (nthN l k).kind)).set (k * 5 + 1) (.string (nthN l k).s)).set (k * 5 + 2) (.string (nthN l k).t)).set (k * 5 + 3) (.int .i64 (nthN l k).n)).set (k * 5 + 4) (.slice (some ⟨g, 0, none⟩) (nthN l k).kids.length (nthN l k).kids.length))
  have hoth : ∀ (x : Nat) (t : TypeId) (m : Nat) (q : Nat → Value), w'.rowIs x t m q → x ≠ b → (((((w'.setCell ⟨b, k * 5, none⟩ (.int .i64 (nthN l k).kind)).setCell ⟨b, k * 5 + 1, none⟩ (.string (nthN l k).s)).setCell ⟨b, k * 5 + 2, none⟩ (.string (nthN l k).t)).setCell ⟨b, k * 5 + 3, none⟩ (.int .i64 (nthN l k).n)).setCell ⟨b, k * 5 + 4, none⟩ (.slice (some ⟨g, 0, none⟩) (nthN l k).kids.length (nthN l k).kids.length)).rowIs x t m q :=
    fun x t m q hq hx => (((((hq.setOther hx _).setOther hx _).setOther hx _).setOther hx _).setOther hx _)
  have hcell : ∀ j, j < n * 5 → ¬ (k * 5 ≤ j ∧ j < k * 5 + 5) → (((((w'.setCell ⟨b, k * 5, none⟩ (.int .i64 (nthN l k).kind)).setCell ⟨b, k * 5 + 1, none⟩ (.string (nthN l k).s)).setCell ⟨b, k * 5 + 2, none⟩ (.string (nthN l k).t)).setCell ⟨b, k * 5 + 3, none⟩ (.int .i64 (nthN l k).n)).setCell ⟨b, k * 5 + 4, none⟩ (.slice (some ⟨g, 0, none⟩) (nthN l k).kids.length (nthN l k).kids.length)).cell? ⟨b, j, none⟩ = w.cell? ⟨b, j, none⟩ := by
    intro j hj hn
    rw [hf2.cell hj, hf.cell hj]
    rw [if_neg (by omega), if_neg (by omega), if_neg (by omega), if_neg (by omega), if_neg (by omega)]
  refine ⟨h.lo, by omega, ⟨_, hf2⟩, fun i hi => ?_, fun i hi => ?_⟩
  · by_cases e : i = k
    · subst e
      have hkid : IntsAt w'.heap.size _ _ (nthN l i).kids := intsAt_row (hoth g _ _ _ hr hgb) hg1 hl
      simp only [if_true]
      exact ⟨by rw [hf2.cell (by omega)]; simp, by rw [hf2.cell (by omega)]; simp, by rw [hf2.cell (by omega)]; simp, by rw [hf2.cell (by omega)]; simp, by rw [hf2.cell (by omega)]; simp, hkid, hs1, hs2⟩
    · have hi' : i < k := by omega
      have hn := h.node i hi'
      obtain ⟨k1, k2, k3, k4⟩ := h.kids i hi'
      have hkl : (nthN l i).kids.length ≤ maxLen := hn.sub.len
      simp only [if_neg e]
      exact ⟨by rw [hcell _ (by omega) (by omega)]; exact hn.c0, by rw [hcell _ (by omega) (by omega)]; exact hn.c1, by rw [hcell _ (by omega) (by omega)]; exact hn.c2, by rw [hcell _ (by omega) (by omega)]; exact hn.c3, by rw [hcell _ (by omega) (by omega)]; exact hn.c4,
        intsAt_row (hoth _ _ _ _ (rowIs_below k4 hb (by omega)) k3) (by have := hb.size; omega) hkl, hn.z1, hn.z2⟩
  · by_cases e : i = k
    · subst e
      simp only [if_true]
      exact ⟨by have := h.lo; have := h.hi; omega, hg1, hgb, hoth g _ _ _ hr hgb⟩
    · obtain ⟨k1, k2, k3, k4⟩ := h.kids i (by omega)
      simp only [if_neg e]
      exact ⟨k1, by have := hb.size; omega, k3, hoth _ _ _ _ (rowIs_below k4 hb (by omega)) k3⟩

theorem own_N_move {A B B' : Nat} {w w' : World} {b : Nat} {G : Nat → Nat} {l : List Nd} {n m : Nat} (h : OwnN A B w b G l n m) (hB : B ≤ B') (hk : ∀ x, A ≤ x → x < B → w'.heap[x]? = w.heap[x]?) : OwnN A B' w' b G l n m := by
  have hbb := hk b h.lo h.hi
  have hhi := h.hi
  obtain ⟨f, hf⟩ := h.cells
  refine ⟨h.lo, by omega, ⟨f, hf.of_block hbb⟩, fun i hi => ?_, fun i hi => ?_⟩
  · have hn := h.node i hi
    obtain ⟨k1, k2, k3, k4⟩ := h.kids i hi
    exact ⟨(World.cell?_of_block (w := w) hbb).trans hn.c0, (World.cell?_of_block (w := w) hbb).trans hn.c1, (World.cell?_of_block (w := w) hbb).trans hn.c2, (World.cell?_of_block (w := w) hbb).trans hn.c3, (World.cell?_of_block (w := w) hbb).trans hn.c4, intsAt_row (k4.of_block (hk _ k1 k2)) (by omega) hn.sub.len, hn.z1, hn.z2⟩
  · obtain ⟨k1, k2, k3, k4⟩ := h.kids i hi
    exact ⟨k1, by omega, k3, k4.of_block (hk _ k1 k2)⟩

set_option maxHeartbeats 2000000 in
theorem to_Ns (B : Nat) (x : Value) (V : Nat → Value) (l : List Nd) (w : World) (hB : B ≤ w.heap.size) (hx : NdsAt B w x V l) (ht : totN l l.length ≤ 1048576) :
    Calls Try.prog 16 #[x] w fun e w' => e = .returned (.slice (some ⟨w.heap.size, 0, none⟩) l.length l.length) ∧ (∃ G, OwnN w.heap.size w'.heap.size w' w.heap.size G l l.length l.length) ∧ Below w.heap.size w w' := by
  obtain ⟨ao, cap, rfl, hc1, hc2, hc3⟩ := hx
  have HC := Lib.hid hc3; clear hc3
  unfold maxLen at hc2
  have hl := totN_ge l l.length
  obtain ⟨i0, hi, hz0, hz1, hz2⟩ := info_parts infoN
  go_enter Try.func16, Try.ntmps16
  go_wp2_with (at_make; refine wpList_make_full _ rfl _ _ 28 rfl w.heap.size 40 i0 _ 5 Try.underlying28 hi hz0 hz1 _ _ _ _ l.length rfl rfl rfl rfl (by rw [hz2]; omega) (by unfold maxLen; omega) (Nat.le_refl _) ?_)
  intro w1 hown hgrow
  have hlt1 : w.heap.size < w1.heap.size := by
    rcases hown.2 with ⟨h0, _⟩ | ⟨g, cap', cur, h0, _, hc, _⟩
    · cases h0
    · simp only [Value.slice.injEq, Option.some.injEq, Addr.mk.injEq] at h0
      obtain ⟨⟨rfl, -⟩, -, -⟩ := h0
      exact (Array.getElem?_eq_some_iff.1 hc).1
  have hrow : ∃ f, w1.rowIs w.heap.size 40 (l.length * 5) f := by
    rcases hown.2 with ⟨h0, _⟩ | ⟨g, cap', cur, h0, _, hc, _, _, hcs, _⟩
    · cases h0
    · simp only [Value.slice.injEq, Option.some.injEq, Addr.mk.injEq] at h0
      obtain ⟨⟨rfl, -⟩, -, rfl⟩ := h0
      exact ⟨fun i => cur.getD i (.bool false), cur, hc, hcs, fun i hi => by simp [Array.getElem?_eq_getElem (show i < cur.size by omega)]⟩
  have hbel : Below w.heap.size w w1 := (Below.refl _ _).grown hgrow (Nat.le_refl _) (fun k hk => by cases hk)
  have hown1 : OwnN w.heap.size w1.heap.size w1 w.heap.size (fun _ => 0) l l.length 0 := ⟨Nat.le_refl _, hlt1, hrow, fun i hi => by omega, fun i hi => by omega⟩
  have HO := Lib.hid hown1
  clear hown hgrow hrow hown1
  go_wp2_with fail
  go_loopw [4] (fun i wr => ∃ (k : Nat), k ≤ l.length ∧ i = .int .i64 k ∧ (∃ G, OwnN w.heap.size wr.heap.size wr w.heap.size G l l.length k) ∧ Below w.heap.size w wr)
    (fun i _ => l.length - (intOf i).toNat)
  case atStart => exact ⟨0, Nat.zero_le _, rfl, ⟨_, HO.out⟩, hbel⟩
  case round =>
    obtain ⟨k, hk, rfl, ⟨G, hG⟩, hB1⟩ := hrel
    by_cases hkl : k < l.length
    · obtain ⟨b, off, rfl, hb, hN⟩ := HC.out k hkl
      have hbw : b < w.heap.size := by omega
      have c0 := (hB1.cell (p := ⟨b, off + k * 5, none⟩) hbw).trans hN.c0
      have c1 := (hB1.cell (p := ⟨b, off + k * 5 + 1, none⟩) hbw).trans hN.c1
      have c2 := (hB1.cell (p := ⟨b, off + k * 5 + 2, none⟩) hbw).trans hN.c2
      have c3 := (hB1.cell (p := ⟨b, off + k * 5 + 3, none⟩) hbw).trans hN.c3
      have c4 := (hB1.cell (p := ⟨b, off + k * 5 + 4, none⟩) hbw).trans hN.c4
      have hk3 := hN.sub.below (hB1.mono hB) (Nat.le_refl _)
      have hs1 := hN.z1
      have hs2 := hN.z2
      have hkl2 : (nthN l k).kids.length ≤ 1048576 := by
        have h1 : totN l (k + 1) = totN l k + wtN (nthN l k) := rfl
        have h2 := totN_mono l (k + 1) (l.length - (k + 1))
        rw [show k + 1 + (l.length - (k + 1)) = l.length from by omega] at h2
        unfold wtN at h1
        skip
        omega
      have HG := Lib.hid hG; clear hN hG
      go_wp2_with fail
      refine (to_N B _ _ _ (Nat.le_trans hB hB1.size) hk3 hkl2).mono ?_
      rintro e w' ⟨g, rfl, hg0, hg1, hrow, hB2⟩
      have hG2 := own_N_step HG.out hkl (Nat.le_refl _) hB2 hg0 hg1 hrow hs1 hs2 (by unfold maxLen; omega)
      obtain ⟨f, hf⟩ := HG.out.cells
      have hf1 := rowIs_below hf hB2 HG.out.hi
      have e0 := hf1.cell (i := k * 5) (by omega)
      have z0 := hf1.frozen (k * 5)
      have e1 := hf1.cell (i := k * 5 + 1) (by omega)
      have z1 := hf1.frozen (k * 5 + 1)
      have e2 := hf1.cell (i := k * 5 + 2) (by omega)
      have z2 := hf1.frozen (k * 5 + 2)
      have e3 := hf1.cell (i := k * 5 + 3) (by omega)
      have z3 := hf1.frozen (k * 5 + 3)
      have e4 := hf1.cell (i := k * 5 + 4) (by omega)
      have z4 := hf1.frozen (k * 5 + 4)
      have hB3 := hB1.trans (hB2.mono hB1.size)
      have HG2 := Lib.hid hG2; clear hG2 HG hf hf1 hrow
      unfold valN
      go_wp2_with fail
      go_roundw
      case rel =>
        refine ⟨k + 1, by omega, by go_num, ⟨(fun i => if i = k then g else G i), ?_⟩, ?_⟩
        · have := HG2.out
          simpa [World.setCell] using this
        · exact (((((hB3.setCell (Nat.le_refl _) _).setCell (Nat.le_refl _) _).setCell (Nat.le_refl _) _).setCell (Nat.le_refl _) _).setCell (Nat.le_refl _) _)
      case measure => simp [intOf]; omega
    · have e : k = l.length := by omega
      subst e
      have HG := Lib.hid hG; clear hG
      go_wp2_with fail
      go_ret
      exact ⟨rfl, ⟨G, HG.out⟩, hB1⟩

/-- Such blocks read as the list. -/
theorem own_Ns {A B : Nat} {w : World} {b : Nat} {G : Nat → Nat} {l : List Nd} (h : OwnN A B w b G l l.length l.length) (ht : totN l l.length ≤ 1048576) :
    NdsAt B w (.slice (some ⟨b, 0, none⟩) l.length l.length) (fun i => .slice (some ⟨G i, 0, none⟩) (nthN l i).kids.length (nthN l i).kids.length) l :=
  ⟨_, _, rfl, Nat.le_refl _, by have := totN_ge l l.length; unfold maxLen; omega, fun i hi => ⟨b, 0, rfl, h.hi, by rw [Nat.zero_add]; exact h.node i hi⟩⟩

set_option maxHeartbeats 1000000 in
theorem eq_N (B : Nat) (n : Nd) (v v' : Value) (w : World) (hB : B ≤ w.heap.size) (hv : IntsAt B w v n.kids) (hv' : IntsAt B w v' n.kids) :
    Calls Try.prog 30 #[valN n v, valN n v'] w fun e w' => e = .returned (.bool true) ∧ Below w.heap.size w w' := by
  unfold valN
  have hb2 : ∀ o1 o2, Below B w ((w.alloc o1).alloc o2) := fun o1 o2 => ((Below.refl B w).alloc hB o1).alloc (by simp; omega) o2
  have hb4 : ∀ o1 o2, Below w.heap.size w ((w.alloc o1).alloc o2) := fun o1 o2 => ((Below.refl w.heap.size w).alloc (Nat.le_refl _) o1).alloc (by simp) o2
  go_enter Try.func30, Try.ntmps30
  go_wp2_with fail
  refine (eq_ints B _ _ n.kids _ (by simp; omega) (hv.below (hb2 _ _) (Nat.le_refl _)) (hv'.below (hb2 _ _) (Nat.le_refl _))).mono ?_
  rintro e w' ⟨rfl, hB1⟩
  have hBw := (hb4 _ _).trans (hB1.mono (by simp; omega))
  clear hB1 hb2 hb4
  go_wp2_with fail
  go_ret
  exact ⟨rfl, hBw⟩

set_option maxRecDepth 100000 in
set_option maxHeartbeats 2000000 in
theorem eq_Ns (B : Nat) (x x' : Value) (V V' : Nat → Value) (l : List Nd) (w : World) (hB : B ≤ w.heap.size) (hx : NdsAt B w x V l) (hx' : NdsAt B w x' V' l) :
    Calls Try.prog 22 #[x, x'] w fun e w' => e = .returned (.bool true) ∧ Below w.heap.size w w' := by
  obtain ⟨ao, cap, rfl, hc1, hc2, hc3⟩ := hx
  obtain ⟨ao', cap', rfl, hd1, hd2, hd3⟩ := hx'
  have HC := Lib.hid hc3; clear hc3
  have HD := Lib.hid hd3; clear hd3
  unfold maxLen at hc2 hd2
  go_enter Try.func22, Try.ntmps22
  go_wp2_with fail
  go_loopw [5] (fun i wr => ∃ (k : Nat), k ≤ l.length ∧ i = .int .i64 k ∧ Below w.heap.size w wr)
    (fun i _ => l.length - (intOf i).toNat)
  case atStart => exact ⟨0, Nat.zero_le _, rfl, Below.refl _ _⟩
  case round =>
    obtain ⟨k, hk, rfl, hB1⟩ := hrel
    by_cases hkl : k < l.length
    · obtain ⟨b, off, rfl, hb, hN⟩ := HC.out k hkl
      obtain ⟨b', off', rfl, hb', hN'⟩ := HD.out k hkl
      have hbw : b < w.heap.size := by omega
      have hbw' : b' < w.heap.size := by omega
      have c0 := (hB1.cell (p := ⟨b, off + k * 5, none⟩) hbw).trans hN.c0
      have c1 := (hB1.cell (p := ⟨b, off + k * 5 + 1, none⟩) hbw).trans hN.c1
      have c2 := (hB1.cell (p := ⟨b, off + k * 5 + 2, none⟩) hbw).trans hN.c2
      have c3 := (hB1.cell (p := ⟨b, off + k * 5 + 3, none⟩) hbw).trans hN.c3
      have c4 := (hB1.cell (p := ⟨b, off + k * 5 + 4, none⟩) hbw).trans hN.c4
      have d0 := (hB1.cell (p := ⟨b', off' + k * 5, none⟩) hbw').trans hN'.c0
      have d1 := (hB1.cell (p := ⟨b', off' + k * 5 + 1, none⟩) hbw').trans hN'.c1
      have d2 := (hB1.cell (p := ⟨b', off' + k * 5 + 2, none⟩) hbw').trans hN'.c2
      have d3 := (hB1.cell (p := ⟨b', off' + k * 5 + 3, none⟩) hbw').trans hN'.c3
      have d4 := (hB1.cell (p := ⟨b', off' + k * 5 + 4, none⟩) hbw').trans hN'.c4
      have hk3 := hN.sub.below (hB1.mono hB) (Nat.le_refl _)
      have hk3' := hN'.sub.below (hB1.mono hB) (Nat.le_refl _)
      have hki : (k : Int) < (l.length : Int) := by omega
      clear hN hN'
      go_wp2_with fail
      go_still_tail 8, (by kernel_rfl)
      change wpList _ _ _ _ _ wr.drew
      have hBd : Below w.heap.size w wr.drew := hB1.drew
      have hq3 : IntsAt B wr.drew (V k) (nthN l k).kids := hk3
      have hq3' : IntsAt B wr.drew (V' k) (nthN l k).kids := hk3'
      generalize wr.drew = w2 at *
      go_wp2_with (go_at_call 30; refine (eq_N B _ _ _ _ (Nat.le_trans hB hBd.size) hq3 hq3').mono ?_; rintro e w' ⟨rfl, hB2⟩)
      go_roundw
      case rel => exact ⟨k + 1, by omega, by go_num, hBd.trans (hB2.mono hBd.size)⟩
      case measure => simp [intOf]; omega
    · have e : k = l.length := by omega
      subst e
      go_wp2_with fail
      go_ret
      exact ⟨rfl, hB1⟩

end Go.Proofs.Ytngiidocgjbooaa.Pg
