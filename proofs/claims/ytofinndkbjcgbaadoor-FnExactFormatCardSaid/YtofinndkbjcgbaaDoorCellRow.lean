/-
  Slices of values, read in a world; what measures, copies and compares them; such an argument.
-/
import Derived.Test.YtofinndkbjcgbaaDoorPgInts
import Derived.Test.YtofinndkbjcgbaaDoorCellsOk
import Derived.Test.YtofinndkbjcgbaaDoorFmtPlain
import Derived.Lib.SmallJoins
import Derived.Deep.Slices
import Derived.Deep.Strs
import Derived.ChangeSlices
namespace Go.Proofs.YtofinndkbjcgbaaDoor.Cell
open Go.ChangeShapes Go.WideShapes Go.ChangeAt Go.RowKit Go.PlainAid Go.Deep
open Go.Proofs.YtofinndkbjcgbaaDoor.DecPure Go.Proofs.YtofinndkbjcgbaaDoor.ReadPure Go.Proofs.YtofinndkbjcgbaaDoor.CellPure Go.Proofs.YtofinndkbjcgbaaDoor.PgPure Go.Proofs.YtofinndkbjcgbaaDoor.Pg Go.Proofs.YtofinndkbjcgbaaDoor.Strs
set_option linter.unusedVariables false

/-- How much the first k values weigh. -/
def totC (l : List Ce) : Nat → Nat
  | 0 => l.length
  | k + 1 => totC l k + (nthC l k).s.size
theorem totC_mono (l : List Ce) (k : Nat) : ∀ n, totC l k ≤ totC l (k + n)
  | 0 => Nat.le_refl _
  | n + 1 => by
    have := totC_mono l k n
    rw [← Nat.add_assoc, totC]; omega
theorem totC_ge (l : List Ce) (k : Nat) : l.length ≤ totC l k := by
  have := totC_mono l 0 k
  rw [Nat.zero_add] at this
  exact this
theorem totC_at (l : List Ce) {i n : Nat} (h : i < n) : (nthC l i).s.size + l.length ≤ totC l n := by
  have h1 := totC_mono l (i + 1) (n - (i + 1))
  rw [show i + 1 + (n - (i + 1)) = n by omega] at h1
  have h2 : totC l (i + 1) = totC l i + (nthC l i).s.size := rfl
  have h3 := totC_ge l i
  omega

set_option maxRecDepth 100000 in
theorem sz_c (t n : Int) (s : ByteArray) (left : Int) (hs : s.size ≤ maxLen) (h0 : 0 ≤ left) (h1 : left ≤ 1048576) (w : World) : Calls Tryd.prog 19 #[cel t n s, .int .i64 left] w fun e w' => e = .returned (.int .i64 (szR left s.size)) ∧ Below w.heap.size w w' := by
  unfold maxLen at hs
  by_cases h : (s.size : Int) ≤ left
  · rw [szR_pos h]
    have g : ¬ left - (s.size : Int) < 0 := by omega
    go_enter Tryd.func19, Tryd.ntmps19
    go_wp2_with fail
    go_ret
    exact ⟨rfl, (Below.refl _ _).alloc (Nat.le_refl _) _⟩
  · rw [szR_neg h]
    have g : left - (s.size : Int) < 0 := by omega
    go_enter Tryd.func19, Tryd.ntmps19
    go_wp2_with fail
    go_ret
    exact ⟨rfl, (Below.refl _ _).alloc (Nat.le_refl _) _⟩

set_option maxRecDepth 100000 in
set_option maxHeartbeats 2000000 in
theorem sz_cs (B : Nat) (x : Value) (l : List Ce) (left : Int) (w : World) (hB : B ≤ w.heap.size) (hx : CsAt B w x l) (h0 : 0 ≤ left) (h1 : left ≤ 1048576) :
    Calls Tryd.prog 12 #[x, .int .i64 left] w fun e w' => e = .returned (.int .i64 (szR left (totC l l.length))) ∧ Below B w w' := by
  obtain ⟨ao, cap, rfl, hc1, hc2, hc3⟩ := hx
  have HC := Lib.hid hc3; clear hc3
  unfold maxLen at hc2
  by_cases hl : (l.length : Int) ≤ left
  · have hl2 : ¬ left - (l.length : Int) < 0 := by omega
    go_enter Tryd.func12, Tryd.ntmps12
    go_wp2_with fail
    go_loopw [1, 5] (fun r i wr => ∃ (k : Nat), k ≤ l.length ∧ i = .int .i64 k ∧ r = .int .i64 (left - (totC l k : Int)) ∧ (totC l k : Int) ≤ left ∧ Below B w wr)
      (fun _ i _ => l.length - (intOf i).toNat)
    case atStart => exact ⟨0, Nat.zero_le _, rfl, rfl, hl, Below.refl _ _⟩
    case round =>
      obtain ⟨k, hk, rfl, rfl, ht, hB1⟩ := hrel
      by_cases hkl : k < l.length
      · obtain ⟨b, off, rfl, hb, hN⟩ := HC.out k hkl
        have c0 := (hB1.cell (p := ⟨b, off + k * 3, none⟩) hb).trans hN.c0
        have c1 := (hB1.cell (p := ⟨b, off + k * 3 + 1, none⟩) hb).trans hN.c1
        have c2 := (hB1.cell (p := ⟨b, off + k * 3 + 2, none⟩) hb).trans hN.c2
        have hs := hN.z
        clear hN
        have ht1 : totC l (k + 1) = totC l k + (nthC l k).s.size := rfl
        by_cases hT : (totC l (k + 1) : Int) ≤ left
        · have hq : ((nthC l k).s.size : Int) ≤ left - (totC l k : Int) := by omega
          have hr : ¬ left - (totC l k : Int) - ((nthC l k).s.size : Int) < 0 := by omega
          have HT := Lib.hid ht1; clear ht1
          go_wp2_with (go_at_call 19; refine (sz_c _ _ _ _ hs (by omega) (by omega) _).mono ?_; rw [szR_pos hq]; rintro e w' ⟨rfl, hB2⟩)
          go_roundw
          case rel => exact ⟨k + 1, by omega, by go_num, by rw [HT.out]; congr 1; omega, hT, hB1.trans (hB2.mono (Nat.le_trans hB hB1.size))⟩
          case measure => simp [intOf]; omega
        · have hq : ¬ ((nthC l k).s.size : Int) ≤ left - (totC l k : Int) := by omega
          have hend : ¬ (totC l l.length : Int) ≤ left := by
            have := totC_mono l (k + 1) (l.length - (k + 1))
            rw [show k + 1 + (l.length - (k + 1)) = l.length from by omega] at this
            omega
          have HE := szR_neg hend; clear hend hT ht1
          go_wp2_with (go_at_call 19; refine (sz_c _ _ _ _ hs (by omega) (by omega) _).mono ?_; rw [szR_neg hq]; rintro e w' ⟨rfl, hB2⟩)
          go_ret
          exact ⟨by rw [HE]; rfl, hB1.trans (hB2.mono (Nat.le_trans hB hB1.size))⟩
      · have e : k = l.length := by omega
        subst e
        have HT := szR_pos ht
        go_wp2_with fail
        go_ret
        exact ⟨by rw [HT]; rfl, hB1⟩
  · have hl2 : left - (l.length : Int) < 0 := by omega
    rw [szR_neg (by have := totC_ge l l.length; omega)]
    go_enter Tryd.func12, Tryd.ntmps12
    go_wp2_with fail
    go_ret
    exact ⟨rfl, Below.refl _ _⟩

theorem infoC : (Tryd.prog.info? 38).map (fun i => (i.zero, i.size, i.bytes)) = some (some (.agg #[.int .i64 0, .int .i64 0, .string ⟨#[]⟩]), 3, 32) := by kernel_rfl

/-- A block of the call's own: n values' cells, the first m of them laid. -/
structure OwnC (B : Nat) (w : World) (b : Nat) (l : List Ce) (n m : Nat) : Prop where
  lo : B ≤ b
  hi : b < w.heap.size
  cells : ∃ f, w.rowIs b 38 (n * 3) f
  node : ∀ i, i < m → CeAt w b (i * 3) (nthC l i)
theorem OwnC.below {B : Nat} {w w' : World} {b : Nat} {l : List Ce} {n m : Nat} (h : OwnC B w b l n m) (hb : Below w.heap.size w w') : OwnC B w' b l n m := by
  obtain ⟨f, hf⟩ := h.cells
  have hi := h.hi
  refine ⟨h.lo, Nat.lt_of_lt_of_le hi hb.size, ⟨f, rowIs_below hf hb hi⟩, fun i hi2 => ?_⟩
  have hn := h.node i hi2
  exact ⟨(hb.cell (p := ⟨b, i * 3, none⟩) hi).trans hn.c0, (hb.cell (p := ⟨b, i * 3 + 1, none⟩) hi).trans hn.c1, (hb.cell (p := ⟨b, i * 3 + 2, none⟩) hi).trans hn.c2, hn.z⟩
theorem OwnC.step {B : Nat} {w : World} {b : Nat} {l : List Ce} {n k : Nat} (h : OwnC B w b l n k) (hk : k < n) (hs : (nthC l k).s.size ≤ maxLen) :
    OwnC B (((w.setCell ⟨b, k * 3, none⟩ (.int .i64 (nthC l k).t)).setCell ⟨b, k * 3 + 1, none⟩ (.int .i64 (nthC l k).n)).setCell ⟨b, k * 3 + 2, none⟩ (.string (nthC l k).s)) b l n (k + 1) := by
  obtain ⟨f, hf⟩ := h.cells
  have hf2 := (((hf.set (k * 3) (.int .i64 (nthC l k).t)).set (k * 3 + 1) (.int .i64 (nthC l k).n)).set (k * 3 + 2) (.string (nthC l k).s))
  have hcell : ∀ j, j < n * 3 → ¬ (k * 3 ≤ j ∧ j < k * 3 + 3) → (((w.setCell ⟨b, k * 3, none⟩ (.int .i64 (nthC l k).t)).setCell ⟨b, k * 3 + 1, none⟩ (.int .i64 (nthC l k).n)).setCell ⟨b, k * 3 + 2, none⟩ (.string (nthC l k).s)).cell? ⟨b, j, none⟩ = w.cell? ⟨b, j, none⟩ := by
    intro j hj hn
    rw [hf2.cell hj, hf.cell hj]
    rw [if_neg (by omega), if_neg (by omega), if_neg (by omega)]
  refine ⟨h.lo, by simp; exact h.hi, ⟨_, hf2⟩, fun i hi => ?_⟩
  by_cases e : i = k
  · subst e
    exact ⟨by rw [hf2.cell (by omega)]; simp, by rw [hf2.cell (by omega)]; simp, by rw [hf2.cell (by omega)]; simp, hs⟩
  · have hn := h.node i (by omega)
    exact ⟨by rw [hcell _ (by omega) (by omega)]; exact hn.c0, by rw [hcell _ (by omega) (by omega)]; exact hn.c1, by rw [hcell _ (by omega) (by omega)]; exact hn.c2, hn.z⟩
theorem own_cs {B : Nat} {w : World} {b : Nat} {l : List Ce} (h : OwnC B w b l l.length l.length) (hl : l.length ≤ maxLen) : CsAt w.heap.size w (.slice (some ⟨b, 0, none⟩) l.length l.length) l :=
  ⟨_, _, rfl, Nat.le_refl _, hl, fun i hi => ⟨b, 0, rfl, h.hi, by rw [Nat.zero_add]; exact h.node i hi⟩⟩

set_option maxRecDepth 100000 in
set_option maxHeartbeats 2000000 in
theorem to_cs (B : Nat) (x : Value) (l : List Ce) (w : World) (hB : B ≤ w.heap.size) (hx : CsAt B w x l) (ht : l.length ≤ 1048576) :
    Calls Tryd.prog 14 #[x] w fun e w' => e = .returned (.slice (some ⟨w.heap.size, 0, none⟩) l.length l.length) ∧ OwnC w.heap.size w' w.heap.size l l.length l.length ∧ Below w.heap.size w w' := by
  obtain ⟨ao, cap, rfl, hc1, hc2, hc3⟩ := hx
  have HC := Lib.hid hc3; clear hc3
  unfold maxLen at hc2
  obtain ⟨i0, hi, hz0, hz1, hz2⟩ := info_parts infoC
  go_enter Tryd.func14, Tryd.ntmps14
  go_wp2_with (at_make; refine wpList_make_full _ rfl _ _ 29 rfl w.heap.size 38 i0 _ 3 Tryd.underlying29 hi hz0 hz1 _ _ _ _ l.length rfl rfl rfl rfl (by rw [hz2]; omega) (by unfold maxLen; omega) (Nat.le_refl _) ?_)
  intro w1 hown hgrow
  have hlt1 : w.heap.size < w1.heap.size := by
    rcases hown.2 with ⟨h0, _⟩ | ⟨g, cap', cur, h0, _, hc, _⟩
    · cases h0
    · simp only [Value.slice.injEq, Option.some.injEq, Addr.mk.injEq] at h0
      obtain ⟨⟨rfl, -⟩, -, -⟩ := h0
      exact (Array.getElem?_eq_some_iff.1 hc).1
  have hrow : ∃ f, w1.rowIs w.heap.size 38 (l.length * 3) f := by
    rcases hown.2 with ⟨h0, _⟩ | ⟨g, cap', cur, h0, _, hc, _, _, hcs, _⟩
    · cases h0
    · simp only [Value.slice.injEq, Option.some.injEq, Addr.mk.injEq] at h0
      obtain ⟨⟨rfl, -⟩, -, rfl⟩ := h0
      exact ⟨fun i => cur.getD i (.bool false), cur, hc, hcs, fun i hi => by simp [Array.getElem?_eq_getElem (show i < cur.size by omega)]⟩
  have hbel : Below w.heap.size w w1 := (Below.refl _ _).grown hgrow (Nat.le_refl _) (fun k hk => by cases hk)
  have hown1 : OwnC w.heap.size w1 w.heap.size l l.length 0 := ⟨Nat.le_refl _, hlt1, hrow, fun i hi => by omega⟩
  have HO := Lib.hid hown1
  clear hown hgrow hrow hown1
  go_wp2_with fail
  go_loopw [4] (fun i wr => ∃ (k : Nat), k ≤ l.length ∧ i = .int .i64 k ∧ Hid (OwnC w.heap.size wr w.heap.size l l.length k) ∧ Below w.heap.size w wr)
    (fun i _ => l.length - (intOf i).toNat)
  case atStart => exact ⟨0, Nat.zero_le _, rfl, HO, hbel⟩
  case round =>
    obtain ⟨k, hk, rfl, HG, hB1⟩ := hrel
    by_cases hkl : k < l.length
    · obtain ⟨b, off, rfl, hb, hN⟩ := HC.out k hkl
      have hbw : b < w.heap.size := by omega
      have c0 := (hB1.cell (p := ⟨b, off + k * 3, none⟩) hbw).trans hN.c0
      have c1 := (hB1.cell (p := ⟨b, off + k * 3 + 1, none⟩) hbw).trans hN.c1
      have c2 := (hB1.cell (p := ⟨b, off + k * 3 + 2, none⟩) hbw).trans hN.c2
      have hs := hN.z
      clear hN
      go_wp2_with fail
      refine (to_cell (nthC l k).t (nthC l k).n (nthC l k).s _).mono ?_
      rintro e w' ⟨rfl, hB2⟩
      have hG1 := HG.out.below hB2
      have hG2 := hG1.step hkl hs
      obtain ⟨f, hf1⟩ := hG1.cells
      have e0 := hf1.cell (i := k * 3) (by omega)
      have z0 := hf1.frozen (k * 3)
      have e1 := hf1.cell (i := k * 3 + 1) (by omega)
      have z1 := hf1.frozen (k * 3 + 1)
      have e2 := hf1.cell (i := k * 3 + 2) (by omega)
      have z2 := hf1.frozen (k * 3 + 2)
      have hB3 := hB1.trans (hB2.mono hB1.size)
      have HG2 := Lib.hid hG2; clear hG2 hG1 HG hf1
      go_wp2_with fail
      go_roundw
      case rel =>
        refine ⟨k + 1, by omega, by go_num, ?_, ?_⟩
        · have := HG2.out
          exact Lib.hid (by simpa [World.setCell] using this)
        · exact (((hB3.setCell (Nat.le_refl _) _).setCell (Nat.le_refl _) _).setCell (Nat.le_refl _) _)
      case measure => simp [intOf]; omega
    · have e : k = l.length := by omega
      subst e
      go_wp2_with fail
      go_ret
      exact ⟨rfl, HG.out, hB1⟩

set_option maxRecDepth 100000 in
set_option maxHeartbeats 2000000 in
theorem eq_cs (B : Nat) (x x' : Value) (l : List Ce) (w : World) (hB : B ≤ w.heap.size) (hx : CsAt B w x l) (hx' : CsAt B w x' l) :
    Calls Tryd.prog 16 #[x, x'] w fun e w' => e = .returned (.bool true) ∧ Below w.heap.size w w' := by
  obtain ⟨ao, cap, rfl, hc1, hc2, hc3⟩ := hx
  obtain ⟨ao', cap', rfl, hd1, hd2, hd3⟩ := hx'
  have HC := Lib.hid hc3; clear hc3
  have HD := Lib.hid hd3; clear hd3
  unfold maxLen at hc2 hd2
  go_enter Tryd.func16, Tryd.ntmps16
  go_wp2_with fail
  go_loopw [5] (fun i wr => ∃ (k : Nat), k ≤ l.length ∧ i = .int .i64 k ∧ Below w.heap.size w wr)
    (fun i _ => l.length - (intOf i).toNat)
  case atStart => exact ⟨0, Nat.zero_le _, rfl, Below.refl _ _⟩
  case round =>
    obtain ⟨k, hk, rfl, hB1⟩ := hrel
    by_cases hkl : k < l.length
    · obtain ⟨b, off, rfl, hb, hN⟩ := HC.out k hkl
      obtain ⟨b', off', rfl, hb', hN'⟩ := HD.out k hkl
      have hbw : b < w.heap.size := by omega
      have hbw' : b' < w.heap.size := by omega
      have c0 := (hB1.cell (p := ⟨b, off + k * 3, none⟩) hbw).trans hN.c0
      have c1 := (hB1.cell (p := ⟨b, off + k * 3 + 1, none⟩) hbw).trans hN.c1
      have c2 := (hB1.cell (p := ⟨b, off + k * 3 + 2, none⟩) hbw).trans hN.c2
      have d0 := (hB1.cell (p := ⟨b', off' + k * 3, none⟩) hbw').trans hN'.c0
      have d1 := (hB1.cell (p := ⟨b', off' + k * 3 + 1, none⟩) hbw').trans hN'.c1
      have d2 := (hB1.cell (p := ⟨b', off' + k * 3 + 2, none⟩) hbw').trans hN'.c2
      have hki : (k : Int) < (l.length : Int) := by omega
      clear hN hN'
      go_wp2_with fail
      go_still_tail 8, (by kernel_rfl)
      change wpList _ _ _ _ _ wr.drew
      have hBd : Below w.heap.size w wr.drew := hB1.drew
      generalize wr.drew = w2 at *
      go_wp2_with (go_at_call 48; refine (eq_cell (nthC l k).t (nthC l k).n (nthC l k).s _).mono ?_; rintro e w' ⟨rfl, hB2⟩)
      go_roundw
      case rel => exact ⟨k + 1, by omega, by go_num, hBd.trans (hB2.mono hBd.size)⟩
      case measure => simp [intOf]; omega
    · have e : k = l.length := by omega
      subst e
      go_wp2_with fail
      go_ret
      exact ⟨rfl, hB1⟩

theorem trod_struct3 {H : Type} {enc : TypeId × Value → H} {P : Program} {w : World} {base : Nat} {spare : Nat → Bool} {held : Bool} {t : TypeId} {f0 f1 f2 : Field} {fuel : Nat} {cs : List Value} {x : DataW H × List MemPlace}
    (ht : P.underlying t = some (.struct #[f0, f1, f2])) (h : DataW.trod enc P w base spare held fuel t cs = some x) :
    ∃ y0 y1 y2 n, DataW.trod enc P w base spare held n f0.type ((cs.drop f0.offset).take (P.cellsOf f0.type)) = some y0 ∧
      DataW.trod enc P w base spare held n f1.type ((cs.drop f1.offset).take (P.cellsOf f1.type)) = some y1 ∧ DataW.trod enc P w base spare held n f2.type ((cs.drop f2.offset).take (P.cellsOf f2.type)) = some y2 := by
  obtain ⟨xs, n, _, rfl, hl, hlen, hf⟩ := DataW.trod_struct ht h
  match xs, hlen with
  | [y0, y1, y2], _ => exact ⟨y0, y1, y2, n, by simpa using hf 0 f0 rfl, by simpa using hf 1 f1 rfl, by simpa using hf 2 f2 rfl⟩
theorem list3 {α : Type} {l : List α} (h : l.length = 3) : ∃ a b c, l = [a, b, c] := by
  match l, h with
  | [a, b, c], _ => exact ⟨a, b, c, rfl⟩

theorem Ce_cells {H : Type} {enc : TypeId × Value → H} {w : World} {fuel : Nat} {a : Addr} {cs : List Value} {x : DataW H × List MemPlace}
    (hc : w.cells? 0 a 3 = some cs) (h : DataW.trod enc Tryd.prog w 0 (fun _ => true) true fuel 35 cs = some x) :
    a.spot = none ∧ a.block < w.heap.size ∧ ∃ c, CeAt w a.block a.off c ∧ (Lit.int .i64 c.t).wf = true ∧ (Lit.int .i64 c.n).wf = true := by
  obtain ⟨b, o, spot⟩ := a
  obtain ⟨_, hl, hcell⟩ := World.cells?_some hc
  obtain ⟨y0, y1, y2, m, h0, h1, h2⟩ := trod_struct3 Tryd.underlying35 h
  obtain ⟨c0, c1, c2, rfl⟩ := list3 hl
  have e0 : w.cell? ((⟨b, o, spot⟩ : Addr).add 0) = some c0 := hcell 0 (by omega)
  have hs : spot = none := by simpa [Addr.add] using World.cell?_spot e0
  subst hs
  have e1 : w.cell? ((⟨b, o, none⟩ : Addr).add 1) = some c1 := hcell 1 (by omega)
  have e2 : w.cell? ((⟨b, o, none⟩ : Addr).add 2) = some c2 := hcell 2 (by omega)
  rw [add_plain] at e0 e1 e2
  have fi : (Tryd.prog).cellsOf 3 = 1 := by kernel_rfl
  have fs : (Tryd.prog).cellsOf 9 = 1 := by kernel_rfl
  simp only [fi, fs, List.drop_zero, List.drop_succ_cons, List.take_succ_cons, List.take_zero] at h0 h1 h2
  obtain ⟨k0, q0, -, w0⟩ := DataW.trod_int Tryd.underlying3 h0
  obtain ⟨k1, q1, -, w1⟩ := DataW.trod_int Tryd.underlying3 h1
  obtain ⟨k2, q2, -, hs2⟩ := DataW.trod_string Tryd.underlying9 h2
  simp only [List.cons.injEq, and_true] at q0 q1 q2
  subst q0 q1 q2
  exact ⟨rfl, World.block_lt_of_cell? w _ e0, ⟨k0, k1, k2⟩, ⟨e0, e1, e2, hs2⟩, w0, w1⟩

theorem cells_open {H : Type} {enc : TypeId × Value → H} {w : World} {fuel : Nat} {cs : List Value} {x : DataW H × List MemPlace}
    (h : DataW.trod enc Tryd.prog w 0 (fun _ => true) true fuel 25 cs = some x) : ∃ v l, cs = [v] ∧ CsAt w.heap.size w v l := by
  have hc4 : (Tryd.prog).cellsOf 35 = 3 := by kernel_rfl
  rcases open_slice Tryd.underlying25 h with ⟨q, _⟩ | ⟨a, len, cap, m, n, D, Pl, q, _, hl, hm, hmm, _, hx⟩
  · exact ⟨_, [], q, none, 0, rfl, Nat.le_refl _, Nat.zero_le _, fun i hi => by simp at hi⟩
  · simp only [if_true] at hmm
    subst hmm
    rw [hc4] at hx
    obtain ⟨b, off, spot⟩ := a
    have hsp : 0 < len → spot = none := by
      intro h0
      obtain ⟨cs', h1, h2⟩ := hx 0 (by omega)
      obtain ⟨s1, _⟩ := Ce_cells h1 h2
      simpa [Addr.add] using s1
    have each : ∀ i, i < len → ∃ y : Ce, spot = none ∧ b < w.heap.size ∧ CeAt w b (off + i * 3) y := by
      intro i hi
      obtain ⟨cs', h1, h2⟩ := hx i (by omega)
      obtain ⟨s1, s2, nd, hn, _⟩ := Ce_cells h1 h2
      have hsn := hsp (by omega)
      subst hsn
      rw [add_plain] at s2 hn
      exact ⟨nd, rfl, s2, hn⟩
    have : Inhabited Ce := ⟨⟨0, 0, ⟨#[]⟩⟩⟩
    obtain ⟨y, hy⟩ := choose_lt each
    refine ⟨_, (List.range len).map fun i => y i, q, some ⟨b, off, spot⟩, m, by simp, by simpa using hl, hm, fun i hi => ?_⟩
    have hi' : i < len := by simpa using hi
    obtain ⟨s0, s2, hn⟩ := hy i hi'
    refine ⟨b, off, by rw [s0], s2, ?_⟩
    rw [show nthC ((List.range len).map fun i => y i) i = y i from by simp [nthC, List.getD, hi']]
    exact hn

end Go.Proofs.YtofinndkbjcgbaaDoor.Cell
