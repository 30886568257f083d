/-
  A program of nodes and items, read in a world; what measures, copies and compares it.
-/
import Derived.Test.YtngiidocgjbooaaPgNodes
import Derived.Test.YtngiidocgjbooaaPgItems
namespace Go.Proofs.Ytngiidocgjbooaa.Pg
open Go.ChangeShapes Go.WideShapes Go.ChangeAt Go.RowKit Go.PlainAid
open Go.Proofs.Ytngiidocgjbooaa.PgPure
set_option linter.unusedVariables false

/-- A program, read: its two slices. -/
def PgAt (B : Nat) (w : World) (lv iv : Value) (V U : Nat → Value) (p : Pg) : Prop := NdsAt B w lv V p.l ∧ ItsAt B w iv U p.items
theorem PgAt.below {B B' : Nat} {w w' : World} {lv iv : Value} {V U : Nat → Value} {p : Pg} (h : PgAt B w lv iv V U p) (hb : Below B w w') (hB : B ≤ B') : PgAt B' w' lv iv V U p := ⟨h.1.below hb hB, h.2.below hb hB⟩

set_option maxHeartbeats 2000000 in
theorem sz_prog (B : Nat) (lv iv : Value) (V U : Nat → Value) (p : Pg) (left : Int) (w : World) (hB : B ≤ w.heap.size) (hp : PgAt B w lv iv V U p) (h0 : 0 ≤ left) (h1 : left ≤ 1048576) :
    Calls Try.prog 5 #[.agg #[lv, iv], .int .i64 left] w fun e w' => e = .returned (.int .i64 (szR left (wtP p))) ∧ Below B w w' := by
  obtain ⟨hN, hT⟩ := hp
  have hb1 : ∀ o, Below B w (w.alloc o) := fun o => (Below.refl B w).alloc hB o
  by_cases ha : (totN p.l p.l.length : Int) ≤ left
  · have hn1 : ¬ left - (totN p.l p.l.length : Int) < 0 := by omega
    by_cases hb : (totT p.items p.items.length : Int) ≤ left - (totN p.l p.l.length : Int)
    · have hw : left - (wtP p : Int) = left - (totN p.l p.l.length : Int) - (totT p.items p.items.length : Int) := by unfold wtP; omega
      have hn2 : ¬ left - (totN p.l p.l.length : Int) - (totT p.items p.items.length : Int) < 0 := by omega
      rw [szR_pos (by unfold wtP; omega), hw]
      have HW := Lib.hid hw; clear hw
      go_enter Try.func5, Try.ntmps5
      go_wp2_with fail
      refine (sz_Ns _ lv V p.l _ _ (Nat.le_refl _) (hN.below (hb1 _) (by simp; omega)) (by omega) (by omega)).mono ?_
      rw [szR_pos ha]
      rintro e w1 ⟨rfl, hB1⟩
      have f1 := (hB1.cell (p := ⟨w.heap.size, 1, none⟩) (by simp)).trans (show _ = some (iv : Value) by go_simp)
      have hBw := (hb1 _).trans (hB1.mono (by simp; omega))
      have hT1 := hT.below hBw (Nat.le_refl _)
      have hsz := Nat.le_trans hB hBw.size
      clear hB1
      go_wp2_with fail
      refine (sz_Ts B iv U p.items _ _ hsz hT1 (by omega) (by omega)).mono ?_
      rw [szR_pos hb]
      rintro e w2 ⟨rfl, hB2⟩
      go_wp2_with fail
      go_ret
      exact ⟨rfl, hBw.trans hB2⟩
    · have HE := szR_neg hb
      rw [szR_neg (by unfold wtP; omega)]
      go_enter Try.func5, Try.ntmps5
      go_wp2_with fail
      refine (sz_Ns _ lv V p.l _ _ (Nat.le_refl _) (hN.below (hb1 _) (by simp; omega)) (by omega) (by omega)).mono ?_
      rw [szR_pos ha]
      rintro e w1 ⟨rfl, hB1⟩
      have f1 := (hB1.cell (p := ⟨w.heap.size, 1, none⟩) (by simp)).trans (show _ = some (iv : Value) by go_simp)
      have hBw := (hb1 _).trans (hB1.mono (by simp; omega))
      have hT1 := hT.below hBw (Nat.le_refl _)
      have hsz := Nat.le_trans hB hBw.size
      clear hB1
      go_wp2_with fail
      refine (sz_Ts B iv U p.items _ _ hsz hT1 (by omega) (by omega)).mono ?_
      rw [HE]
      rintro e w2 ⟨rfl, hB2⟩
      go_wp2_with fail
      go_ret
      exact ⟨rfl, hBw.trans hB2⟩
  · have HE := szR_neg ha
    rw [szR_neg (by unfold wtP; omega)]
    go_enter Try.func5, Try.ntmps5
    go_wp2_with fail
    refine (sz_Ns _ lv V p.l _ _ (Nat.le_refl _) (hN.below (hb1 _) (by simp; omega)) (by omega) (by omega)).mono ?_
    rw [HE]
    rintro e w1 ⟨rfl, hB1⟩
    have hBw := (hb1 _).trans (hB1.mono (by simp; omega))
    clear hB1
    go_wp2_with fail
    go_ret
    exact ⟨rfl, hBw⟩

set_option maxHeartbeats 2000000 in
theorem to_prog (B : Nat) (lv iv : Value) (V U : Nat → Value) (p : Pg) (w : World) (hB : B ≤ w.heap.size) (hp : PgAt B w lv iv V U p) (ht : wtP p ≤ 1048576) :
    Calls Try.prog 7 #[.agg #[lv, iv]] w fun e w' => ∃ b c V' U', e = .returned (.agg #[.slice (some ⟨b, 0, none⟩) p.l.length p.l.length, .slice (some ⟨c, 0, none⟩) p.items.length p.items.length]) ∧ PgAt w'.heap.size w' (.slice (some ⟨b, 0, none⟩) p.l.length p.l.length) (.slice (some ⟨c, 0, none⟩) p.items.length p.items.length) V' U' p ∧ Below w.heap.size w w' := by
  obtain ⟨hN, hT⟩ := hp
  have ht1 : totN p.l p.l.length ≤ 1048576 := by unfold wtP at ht; omega
  have ht2 : totT p.items p.items.length ≤ 1048576 := by unfold wtP at ht; omega
  have hb3 : ∀ o1 o2 o3, Below B w (((w.alloc o1).alloc o2).alloc o3) := fun o1 o2 o3 => (((Below.refl B w).alloc hB o1).alloc (by simp; omega) o2).alloc (by simp; omega) o3
  have hb4 : ∀ o1 o2 o3, Below w.heap.size w (((w.alloc o1).alloc o2).alloc o3) := fun o1 o2 o3 => (((Below.refl w.heap.size w).alloc (Nat.le_refl _) o1).alloc (by simp) o2).alloc (by simp; omega) o3
  go_enter Try.func7, Try.ntmps7
  go_wp2_with fail
  refine (to_Ns B lv V p.l _ (by simp; omega) (hN.below (hb3 _ _ _) (Nat.le_refl _)) ht1).mono ?_
  rintro e w1 ⟨rfl, ⟨G, hG⟩, hB1⟩
  have hBw := (hb4 _ _ _).trans (hB1.mono (by simp; omega))
  have hs1 := hB1.size
  simp only [World.size_alloc] at hG hs1
  have f01 := (hB1.cell (p := ⟨w.heap.size, 1, none⟩) (by simp; omega)).trans (show _ = some (iv : Value) by go_simp)
  have f20 := (hB1.cell (p := ⟨w.heap.size + 1 + 1, 0, none⟩) (by simp)).trans (show _ = some (Value.slice none 0 0) by go_simp)
  have f21 := (hB1.cell (p := ⟨w.heap.size + 1 + 1, 1, none⟩) (by simp)).trans (show _ = some (Value.slice none 0 0) by go_simp)
  have g20 := (hB1.frozen (p := ⟨w.heap.size + 1 + 1, 0, none⟩) (by simp)).trans (show _ = false by go_simp)
  have g21 := (hB1.frozen (p := ⟨w.heap.size + 1 + 1, 1, none⟩) (by simp)).trans (show _ = false by go_simp)
  have f10 := (hB1.cell (p := ⟨w.heap.size + 1, 0, none⟩) (by simp)).trans (show _ = some (Value.slice none 0 0) by go_simp)
  have f11 := (hB1.cell (p := ⟨w.heap.size + 1, 1, none⟩) (by simp)).trans (show _ = some (Value.slice none 0 0) by go_simp)
  have g10 := (hB1.frozen (p := ⟨w.heap.size + 1, 0, none⟩) (by simp)).trans (show _ = false by go_simp)
  have g11 := (hB1.frozen (p := ⟨w.heap.size + 1, 1, none⟩) (by simp)).trans (show _ = false by go_simp)
  have hblk : w1.heap[w.heap.size + 1]? = some (.cells #[.slice none 0 0, .slice none 0 0] 31) :=
    (hB1.block _ (by simp)).trans ((Below.heap_alloc _ _ _ (by simp)).trans (by have := Go.Deep.blk_alloc_new (w.alloc (Obj.cells #[lv, iv] 25)) (.cells #[.slice none 0 0, .slice none 0 0] 31); simpa using this))
  have hT1 := hT.below (hBw.mono hB) (Nat.le_refl _)
  have HK := Lib.hid hblk; clear hblk
  have HG := Lib.hid hG; clear hG
  have HW := Lib.hid hBw; clear hBw hB1 hb3 hb4
  go_wp2_with fail
  refine (to_Ts B iv U p.items _ (by simp; omega) (hT1.below ((Below.refl B _).setCell (by simp; omega) _) (Nat.le_refl _)) ht2).mono ?_
  rintro e w2 ⟨rfl, ⟨H, hH⟩, hB2⟩
  have hsz1 : (w1.setCell ⟨w.heap.size + 1 + 1, 0, none⟩ (.slice (some ⟨w.heap.size + 1 + 1 + 1, 0, none⟩) p.l.length p.l.length)).heap.size = w1.heap.size := by simp [World.setCell]
  rw [hsz1] at hH hB2
  have hs2 : w1.heap.size ≤ w2.heap.size := by have := hB2.size; rw [hsz1] at this; exact this
  have k20 := (hB2.cell (p := ⟨w.heap.size + 1 + 1, 0, none⟩) (by simp; omega)).trans (World.cell?_setCell_same _ _ _ f20)
  have k21 := (hB2.cell (p := ⟨w.heap.size + 1 + 1, 1, none⟩) (by simp; omega)).trans (show _ = some (Value.slice none 0 0) by go_simp)
  have j20 := (hB2.frozen (p := ⟨w.heap.size + 1 + 1, 0, none⟩) (by simp; omega)).trans (show _ = false by go_simp)
  have j21 := (hB2.frozen (p := ⟨w.heap.size + 1 + 1, 1, none⟩) (by simp; omega)).trans (show _ = false by go_simp)
  have k10 := (hB2.cell (p := ⟨w.heap.size + 1, 0, none⟩) (by simp; omega)).trans (show _ = some (Value.slice none 0 0) by go_simp)
  have k11 := (hB2.cell (p := ⟨w.heap.size + 1, 1, none⟩) (by simp; omega)).trans (show _ = some (Value.slice none 0 0) by go_simp)
  have j10 := (hB2.frozen (p := ⟨w.heap.size + 1, 0, none⟩) (by simp; omega)).trans (show _ = false by go_simp)
  have j11 := (hB2.frozen (p := ⟨w.heap.size + 1, 1, none⟩) (by simp; omega)).trans (show _ = false by go_simp)
  have hblk2 : w2.heap[w.heap.size + 1]? = some (.cells #[.slice none 0 0, .slice none 0 0] 31) :=
    (hB2.block _ (by omega)).trans ((Below.heap_setCell _ _ _ _ (by simp)).trans HK.out)
  have hG2 := own_N_move HG.out hs2 (fun x hx hx2 => (hB2.block x hx2).trans (Below.heap_setCell _ _ _ _ (by simp; omega)))
  have HK2 := Lib.hid hblk2
  have HG2 := Lib.hid hG2
  have HH := Lib.hid hH
  have HB2 := Lib.hid hB2
  clear hblk2 hG2 hH hB2 hT1 HK HG f20 f21 g20 g21 f10 f11 g10 g11 f01
  go_wp2_with fail
  refine bodyPost_ret (results_cell_row rfl _ _ (w.heap.size + 1) 31 #[.slice (some ⟨w.heap.size + 1 + 1 + 1, 0, none⟩) p.l.length p.l.length, .slice (some ⟨w1.heap.size, 0, none⟩) p.items.length p.items.length] (0, 0) _ rfl (by simp [World.setCell, Array.getElem?_modify, HK2.out]) Try.underlying31 rfl (by kernel_rfl)) rfl ?_
  have hset : ∀ (v : World) (a : Addr) (u : Value), (v.setCell a u).heap.size = v.heap.size := fun v a u => by simp [World.setCell]
  have hoth : ∀ x, w.heap.size + 1 + 1 + 1 ≤ x → ∀ (v : World) (i : Nat) (u : Value), (v.setCell ⟨w.heap.size + 1 + 1, i, none⟩ u).heap[x]? = v.heap[x]? := fun x hx v i u => Below.heap_setCell _ _ _ _ (by simp; omega)
  have hoth2 : ∀ x, w.heap.size + 1 + 1 + 1 ≤ x → ∀ (v : World) (i : Nat) (u : Value), (v.setCell ⟨w.heap.size + 1, i, none⟩ u).heap[x]? = v.heap[x]? := fun x hx v i u => Below.heap_setCell _ _ _ _ (by simp; omega)
  refine ⟨_, _, _, _, rfl, ⟨own_Ns (own_N_move HG2.out (by simp only [hset]; exact Nat.le_refl _) (fun x hx hx2 => ?_)) ht1, own_Ts (own_T_move HH.out (by simp only [hset]; exact Nat.le_refl _) (fun x hx hx2 => ?_)) ht2⟩, ?_⟩
  · rw [hoth2 x hx, hoth2 x hx, hoth x hx]
  · rw [hoth2 x (by omega), hoth2 x (by omega), hoth x (by omega)]
  · have hB0 := HW.out.setCell (p := ⟨w.heap.size + 1 + 1, 0, none⟩) (by first | (simp; done) | (simp; omega)) (.slice (some ⟨w.heap.size + 1 + 1 + 1, 0, none⟩) p.l.length p.l.length)
    have hB3 := hB0.trans (HB2.out.mono (by omega))
    exact ((hB3.setCell (by first | (simp; done) | (simp; omega)) _).setCell (by first | (simp; done) | (simp; omega)) _).setCell (by first | (simp; done) | (simp; omega)) _

set_option maxHeartbeats 1000000 in
theorem eq_prog (B : Nat) (lv iv lv' iv' : Value) (V U V' U' : Nat → Value) (p : Pg) (w : World) (hB : B ≤ w.heap.size) (hp : PgAt B w lv iv V U p) (hp' : PgAt B w lv' iv' V' U' p) :
    Calls Try.prog 9 #[.agg #[lv, iv], .agg #[lv', iv']] w fun e w' => e = .returned (.bool true) ∧ Below w.heap.size w w' := by
  obtain ⟨hN, hT⟩ := hp
  obtain ⟨hN', hT'⟩ := hp'
  have hb2 : ∀ o1 o2, Below B w ((w.alloc o1).alloc o2) := fun o1 o2 => ((Below.refl B w).alloc hB o1).alloc (by simp; omega) o2
  have hb4 : ∀ o1 o2, Below w.heap.size w ((w.alloc o1).alloc o2) := fun o1 o2 => ((Below.refl w.heap.size w).alloc (Nat.le_refl _) o1).alloc (by simp) o2
  go_enter Try.func9, Try.ntmps9
  go_wp2_with fail
  refine (eq_Ns B _ _ _ _ p.l _ (by simp; omega) (hN.below (hb2 _ _) (Nat.le_refl _)) (hN'.below (hb2 _ _) (Nat.le_refl _))).mono ?_
  rintro e w1 ⟨rfl, hB1⟩
  have hBw := (hb4 _ _).trans (hB1.mono (by simp; omega))
  have f0 := (hB1.cell (p := ⟨w.heap.size, 1, none⟩) (by first | (simp; done) | (simp; omega))).trans (show _ = some (iv : Value) by go_simp)
  have f1 := (hB1.cell (p := ⟨w.heap.size + 1, 1, none⟩) (by first | (simp; done) | (simp; omega))).trans (show _ = some (iv' : Value) by go_simp)
  have hT1 := hT.below (hBw.mono hB) (Nat.le_refl _)
  have hT1' := hT'.below (hBw.mono hB) (Nat.le_refl _)
  have hsz := Nat.le_trans hB hBw.size
  clear hB1 hb2 hb4
  go_wp2_with fail
  refine (eq_Ts B _ _ _ _ p.items _ hsz hT1 hT1').mono ?_
  rintro e w2 ⟨rfl, hB2⟩
  go_wp2_with fail
  go_ret
  exact ⟨rfl, hBw.trans (hB2.mono hBw.size)⟩

/-- A program's two cells in a block. -/
structure Bx (w : World) (b : Nat) (x y : Value) : Prop where
  lt : b < w.heap.size
  c0 : w.cell? ⟨b, 0, none⟩ = some x
  c1 : w.cell? ⟨b, 1, none⟩ = some y
theorem Bx.next {w w' : World} {b : Nat} {x y : Value} (h : Bx w b x y) (hb : Below w.heap.size w w') : Bx w' b x y :=
  ⟨Nat.lt_of_lt_of_le h.lt hb.size, (hb.cell (p := ⟨b, 0, none⟩) h.lt).trans h.c0, (hb.cell (p := ⟨b, 1, none⟩) h.lt).trans h.c1⟩

end Go.Proofs.Ytngiidocgjbooaa.Pg
