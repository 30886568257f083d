/-
  The model's functions that draw values and texts of chapter 7: they write into their own cursor alone.
-/
import Derived.Test.YthaedmldlenhgaaGreatDoorDrawT
import Derived.Test.YthaedmldlenhgaaGreatDoorCellArith
import Derived.Test.YthaedmldlenhgaaGreatDoorDecText
import Derived.Deep.RegionWith
namespace Go.Proofs.YthaedmldlenhgaaGreatDoor.Draw
open Go.ChangeShapes Go.WideShapes Go.ChangeAt Go.RowKit
open Go.PlainAid Go.Proofs.YthaedmldlenhgaaGreatDoor.Dec
open Go.Proofs.YthaedmldlenhgaaGreatDoor.DecPure Go.Proofs.YthaedmldlenhgaaGreatDoor.ReadPure Go.Proofs.YthaedmldlenhgaaGreatDoor.TextPure Go.Proofs.YthaedmldlenhgaaGreatDoor.CellPure Go.Proofs.YthaedmldlenhgaaGreatDoor.Cell
set_option linter.unusedVariables false

theorem cb_only {w w' : World} {g h : Nat} {a b c : Value} (k : CB w h a b c) (ho : Only w w' g) (hne : h ≠ g) : CB w' h a b c := (ho.block h k.lt (by simpa using hne)).trans k
/-- A drawn value, and the cursor again. -/
def CellDrawn (w : World) (B g : Nat) (A : Option Addr) (n cap : Nat) (Z : Nat → Int) (e : Ending) (w' : World) : Prop := ∃ (t k : Int) (s : ByteArray), e = .returned (cel t k s) ∧ s.size ≤ 600 ∧ Cur w' B g A n cap Z ∧ Only w w' g
theorem CellDrawn.mk {w w' : World} {B g : Nat} {A : Option Addr} {n cap : Nat} {Z : Nat → Int} (t k : Int) (s : ByteArray) (hs : s.size ≤ 600) (hc : Cur w' B g A n cap Z) (ho : Only w w' g) : CellDrawn w B g A n cap Z (.returned (cel t k s)) w' := ⟨t, k, s, rfl, hs, hc, ho⟩
theorem Cur.set {w : World} {B g h : Nat} {A : Option Addr} {n cap : Nat} {Z : Nat → Int} (hc : Cur w B g A n cap Z) (hg : g < h) (i : Nat) (u : Value) : Cur (w.setCell ⟨h, i, none⟩ u) B g A n cap Z :=
  hc.same fun x hx => by simp only [World.setCell, Array.getElem?_modify]; rw [if_neg (by omega)]
theorem Only.setNew {w w' : World} {g h : Nat} (ho : Only w w' g) (hh : w.heap.size ≤ h) (i : Nat) (u : Value) : Only w (w'.setCell ⟨h, i, none⟩ u) g :=
  ⟨ho.os, ho.tape, ho.output, by simpa [World.setCell] using ho.size, fun j hj hne => (Below.heap_setCell w' ⟨h, i, none⟩ u j (by show j ≠ h; omega)).trans (ho.block j hj hne)⟩
theorem Cur.set3 {w : World} {B g h : Nat} {A : Option Addr} {n cap : Nat} {Z : Nat → Int} (hc : Cur w B g A n cap Z) (hg : g < h) (x y z : Value) : Cur (((w.setCell ⟨h, 0, none⟩ x).setCell ⟨h, 1, none⟩ y).setCell ⟨h, 2, none⟩ z) B g A n cap Z :=
  ((hc.set hg 0 x).set hg 1 y).set hg 2 z
theorem Only.set3 {w w' : World} {g h : Nat} (ho : Only w w' g) (hh : w.heap.size ≤ h) (x y z : Value) : Only w (((w'.setCell ⟨h, 0, none⟩ x).setCell ⟨h, 1, none⟩ y).setCell ⟨h, 2, none⟩ z) g :=
  ((ho.setNew hh 0 x).setNew hh 1 y).setNew hh 2 z

def numsT : List ByteArray := [⟨#[51]⟩, ⟨#[32, 51, 32]⟩, ⟨#[45, 49, 46, 53]⟩, ⟨#[120]⟩, ⟨#[]⟩, ⟨#[51, 120]⟩, ⟨#[49, 48]⟩]
def strsT : List ByteArray := [⟨#[]⟩, ⟨#[51]⟩, ⟨#[97]⟩, ⟨#[97, 98]⟩, ⟨#[49, 48]⟩, ⟨#[32, 50]⟩]
theorem numsT_small : ∀ x ∈ numsT, x.size ≤ 11 := by decide +kernel
theorem strsT_small : ∀ x ∈ strsT, x.size ≤ 11 := by decide +kernel

set_option maxRecDepth 100000 in
set_option maxHeartbeats 2000000 in
theorem cell_drawn (w : World) (B g : Nat) (A : Option Addr) (n cap : Nat) (Z : Nat → Int) (hc : Cur w B g A n cap Z) :
    Calls Tryz.prog 19 #[.pointer (some ⟨g, 0, none⟩)] w (CellDrawn w B g A n cap Z) := by
  have hgl := hc.lt
  have HZ := Lib.hid (CB.new w (.int .i64 0) (.int .i64 0) (.string ⟨#[]⟩))
  have HC0 := Lib.hid (hc.alloc (.cells #[.int .i64 0, .int .i64 0, .string ⟨#[]⟩] 33))
  have HO0 := Lib.hid ((Only.refl w g).alloc (.cells #[.int .i64 0, .int .i64 0, .string ⟨#[]⟩] 33))
  clear hc
  go_enter Tryz.func19, Tryz.ntmps19
  go_wp2_with fail
  refine (below_any _ B g A n cap Z HC0.out 4 (by omega) (by omega)).mono ?_
  rintro e w1 ⟨x, rfl, hx, hc1, ho1⟩
  have hz1 := cb_only HZ.out ho1 (by omega)
  have HC1 := Lib.hid hc1; clear hc1
  have HO1 := Lib.hid (HO0.out.trans ho1); clear ho1
  obtain ⟨z0, z1, z2⟩ := hz1.cells
  obtain ⟨m0, m1, m2⟩ := hz1.marks
  have HZ1 := Lib.hid hz1; clear hz1
  have hcs : x = 0 ∨ x = 1 ∨ x = 2 ∨ 3 ≤ x := by omega
  rcases hcs with rfl | rfl | rfl | hx3
  · go_wp2_with fail
    exact bodyPost_ret ((HZ1.out.set3 _ _ _).results rfl rfl) rfl (CellDrawn.mk 0 0 ⟨#[]⟩ (by decide) (HC1.out.set3 hgl _ _ _) (HO1.out.set3 (Nat.le_refl _) _ _ _))
  · go_wp2_with fail
    refine (below_any _ B g A n cap Z HC1.out 20 (by omega) (by omega)).mono ?_
    rintro e w2 ⟨y, rfl, hy, hc2, ho2⟩
    have hz2 := cb_only HZ1.out ho2 (by omega)
    have HC2 := Lib.hid hc2; clear hc2
    have HO2 := Lib.hid (HO1.out.trans ho2); clear ho2
    have HZ2 := Lib.hid hz2; clear hz2
    clear z0 z1 z2 m0 m1 m2
    go_wp2_with fail
    refine (below_any _ B g A n cap Z HC2.out 2 (by omega) (by omega)).mono ?_
    rintro e w3 ⟨u, rfl, hu, hc3, ho3⟩
    have hz3 := cb_only HZ2.out ho3 (by omega)
    have HC3 := Lib.hid hc3; clear hc3
    have HO3 := Lib.hid (HO2.out.trans ho3); clear ho3
    obtain ⟨z0, z1, z2⟩ := hz3.cells
    obtain ⟨m0, m1, m2⟩ := hz3.marks
    have HZ3 := Lib.hid hz3; clear hz3
    go_wp2_with fail
    exact bodyPost_ret ((HZ3.out.set3 _ _ _).results rfl rfl) rfl (CellDrawn.mk _ _ ⟨#[]⟩ (by decide) (HC3.out.set3 hgl _ _ _) (HO3.out.set3 (Nat.le_refl _) _ _ _))
  · clear z0 z1 z2 m0 m1 m2
    go_wp2_with fail
    refine (text_new w1 B g A n cap Z HC1.out numsT _ rfl 7 rfl (by omega) (by omega) 11 numsT_small).mono ?_
    rintro e w2 ⟨s, rfl, hs, hc2, ho2⟩
    have HC2 := Lib.hid hc2; clear hc2
    have hz2 := cb_only HZ1.out ho2 (by omega)
    have HO2 := Lib.hid (HO1.out.trans ho2); clear ho2
    have HZ2 := Lib.hid hz2; clear hz2
    have hsf := fS_size s
    have hfc := fun W => spec_field s (by omega) W
    generalize fT s = ft at *
    generalize fN s = fn at *
    generalize fS s = fs at *
    have HF := Lib.hid hfc; clear hfc
    go_wp2_with fail
    refine (HF.out _).mono ?_
    rintro e w3 ⟨rfl, hB⟩
    have hz3 := HZ2.out.next hB
    obtain ⟨z0, z1, z2⟩ := hz3.cells
    obtain ⟨m0, m1, m2⟩ := hz3.marks
    have HZ3 := Lib.hid hz3; clear hz3
    have HC3 := Lib.hid (HC2.out.below hB)
    have HO3 := Lib.hid (HO2.out.trans (Only.of_below hB)); clear hB
    go_wp2_with fail
    exact bodyPost_ret ((HZ3.out.set3 _ _ _).results rfl rfl) rfl (CellDrawn.mk _ _ _ (by omega) (HC3.out.set3 hgl _ _ _) (HO3.out.set3 (Nat.le_refl _) _ _ _))
  · clear z0 z1 z2 m0 m1 m2
    have e0 : (x == 0) = false := by simp; omega
    have e1 : (x == 1) = false := by simp; omega
    have e2 : (x == 2) = false := by simp; omega
    go_wp2_with fail
    refine (text_new w1 B g A n cap Z HC1.out strsT _ rfl 6 rfl (by omega) (by omega) 11 strsT_small).mono ?_
    rintro e w2 ⟨s, rfl, hs, hc2, ho2⟩
    have HC2 := Lib.hid hc2; clear hc2
    have hz2 := cb_only HZ1.out ho2 (by omega)
    have HO2 := Lib.hid (HO1.out.trans ho2); clear ho2
    obtain ⟨z0, z1, z2⟩ := hz2.cells
    obtain ⟨m0, m1, m2⟩ := hz2.marks
    have HZ2 := Lib.hid hz2; clear hz2
    go_wp2_with fail
    exact bodyPost_ret ((HZ2.out.set3 _ _ _).results rfl rfl) rfl (CellDrawn.mk _ _ s (by omega) (HC2.out.set3 hgl _ _ _) (HO2.out.set3 (Nat.le_refl _) _ _ _))

theorem cb_other {w : World} {g h i : Nat} {a b c : Value} (k : CB w g a b c) (hne : h ≠ g) (x : Value) : CB (w.setCell ⟨h, i, none⟩ x) g a b c := by
  have h' : w.heap[g]? = some (.cells #[a, b, c] 33 (0, 0)) := k
  unfold CB
  simp [World.setCell, Array.getElem?_modify, h', hne]

set_option maxRecDepth 100000 in
set_option maxHeartbeats 2000000 in
theorem cell_bent (w : World) (B g : Nat) (A : Option Addr) (n cap : Nat) (Z : Nat → Int) (hc : Cur w B g A n cap Z) :
    Calls Tryz.prog 21 #[.pointer (some ⟨g, 0, none⟩)] w (CellDrawn w B g A n cap Z) := by
  have hgl := hc.lt
  have HZ := Lib.hid (CB.new w (.int .i64 0) (.int .i64 0) (.string ⟨#[]⟩))
  have HC0 := Lib.hid (hc.alloc (.cells #[.int .i64 0, .int .i64 0, .string ⟨#[]⟩] 33))
  have HO0 := Lib.hid ((Only.refl w g).alloc (.cells #[.int .i64 0, .int .i64 0, .string ⟨#[]⟩] 33))
  clear hc
  go_enter Tryz.func21, Tryz.ntmps21
  go_wp2_with fail
  refine (cell_drawn _ B g A n cap Z HC0.out).mono ?_
  rintro e w1 ⟨t, k, s, rfl, hs, hc1, ho1⟩
  have hz1 := cb_only HZ.out ho1 (by omega)
  have hzl := hz1.lt
  have HZ1 := Lib.hid (hz1.keep ((Below.refl w1.heap.size w1).alloc (Nat.le_refl _) (.cells #[.int .i64 t, .int .i64 k, .string s] 33)) hzl)
  have HX1 := Lib.hid (CB.new w1 (.int .i64 t) (.int .i64 k) (.string s))
  have HC1 := Lib.hid (hc1.alloc (.cells #[.int .i64 t, .int .i64 k, .string s] 33)); clear hc1
  have HO1 := Lib.hid ((HO0.out.trans ho1).alloc (.cells #[.int .i64 t, .int .i64 k, .string s] 33)); clear ho1 hz1
  go_wp2_with fail
  generalize w1.alloc (.cells #[.int .i64 t, .int .i64 k, .string s] 33) = w2 at *
  generalize hh : w1.heap.size = h at *
  have HH := Lib.hid hh; clear hh
  refine (below_any w2 B g A n cap Z HC1.out 16 (by omega) (by omega)).mono ?_
  rintro e w3 ⟨x, rfl, hx, hc3, ho3⟩
  have hz3 := cb_only HZ1.out ho3 (by omega)
  have hx3 := cb_only HX1.out ho3 (by omega)
  have HC3 := Lib.hid hc3; clear hc3
  have HO3 := Lib.hid (HO1.out.trans ho3); clear ho3
  obtain ⟨z0, z1, z2⟩ := hz3.cells
  obtain ⟨m0, m1, m2⟩ := hz3.marks
  obtain ⟨x0, x1, x2⟩ := hx3.cells
  obtain ⟨v0, v1, v2⟩ := hx3.marks
  have HZ3 := Lib.hid hz3; clear hz3
  have HX3 := Lib.hid hx3; clear hx3
  have hcs : x = 0 ∨ x = 1 ∨ x = 2 ∨ 3 ≤ x := by omega
  have hwh : w.heap.size < h := hzl
  rcases hcs with rfl | rfl | rfl | hx4
  · clear z0 z1 z2 m0 m1 m2 x0 x1 x2 v0 v1 v2
    go_wp2_with fail
    refine (below_any w3 B g A n cap Z HC3.out 6 (by omega) (by omega)).mono ?_
    rintro e w4 ⟨y, rfl, hy, hc4, ho4⟩
    have hz4 := cb_only HZ3.out ho4 (by omega)
    have hx4 := cb_only HX3.out ho4 (by omega)
    have HC4 := Lib.hid hc4; clear hc4
    have HO4 := Lib.hid (HO3.out.trans ho4); clear ho4
    obtain ⟨z0, z1, z2⟩ := hz4.cells
    obtain ⟨m0, m1, m2⟩ := hz4.marks
    obtain ⟨x0, x1, x2⟩ := hx4.cells
    obtain ⟨v0, v1, v2⟩ := hx4.marks
    have HZ4 := Lib.hid (cb_other hz4 (h := h) (i := 0) (by omega) (.int .i64 (y - 1))); clear hz4 hx4
    have hlh : w.heap.size ≠ h := by omega
    have hhl : h ≠ w.heap.size := by omega
    go_wp2_with fail
    exact bodyPost_ret ((HZ4.out.set3 _ _ _).results rfl rfl) rfl (CellDrawn.mk _ _ s hs ((HC4.out.set (by omega) 0 _).set3 hgl _ _ _) ((HO4.out.setNew (by omega) 0 _).set3 (Nat.le_refl _) _ _ _))
  · clear z0 z1 z2 m0 m1 m2 x0 x1 x2 v0 v1 v2
    go_wp2_with fail
    refine (num_any w3 B g A n cap Z HC3.out).mono ?_
    rintro e w4 ⟨y, rfl, hy, hc4, ho4⟩
    have hz4 := cb_only HZ3.out ho4 (by omega)
    have hx4 := cb_only HX3.out ho4 (by omega)
    have HC4 := Lib.hid hc4; clear hc4
    have HO4 := Lib.hid (HO3.out.trans ho4); clear ho4
    obtain ⟨z0, z1, z2⟩ := hz4.cells
    obtain ⟨m0, m1, m2⟩ := hz4.marks
    obtain ⟨x0, x1, x2⟩ := hx4.cells
    obtain ⟨v0, v1, v2⟩ := hx4.marks
    have HZ4 := Lib.hid (cb_other hz4 (h := h) (i := 1) (by omega) (.int .i64 y)); clear hz4 hx4
    have hlh : w.heap.size ≠ h := by omega
    have hhl : h ≠ w.heap.size := by omega
    go_wp2_with fail
    exact bodyPost_ret ((HZ4.out.set3 _ _ _).results rfl rfl) rfl (CellDrawn.mk _ _ s hs ((HC4.out.set (by omega) 1 _).set3 hgl _ _ _) ((HO4.out.setNew (by omega) 1 _).set3 (Nat.le_refl _) _ _ _))
  · clear z0 z1 z2 m0 m1 m2 x0 x1 x2 v0 v1 v2
    go_wp2_with fail
    refine (below_any w3 B g A n cap Z HC3.out 2 (by omega) (by omega)).mono ?_
    rintro e w4 ⟨y, rfl, hy, hc4, ho4⟩
    obtain ⟨q, rfl⟩ := Int.eq_ofNat_of_zero_le hy.1
    have hz4 := cb_only HZ3.out ho4 (by omega)
    have hx4 := cb_only HX3.out ho4 (by omega)
    have HC4 := Lib.hid hc4; clear hc4
    have HO4 := Lib.hid (HO3.out.trans ho4); clear ho4
    have HZ4 := Lib.hid hz4; clear hz4
    have HX4 := Lib.hid hx4; clear hx4
    have htx := text_of w4 B g A n cap Z HC4.out (500 + q) (by omega) ⟨#[97]⟩ (by decide) (by decide)
    rw [show ((500 + q : Nat) : Int) = 500 + (q : Int) by omega] at htx
    have HTX := Lib.hid htx; clear htx
    go_wp2_with fail
    refine HTX.out.mono ?_
    rintro e w5 ⟨s', rfl, hs', hc5, ho5⟩
    have hsz : s'.size ≤ 600 := by omega
    have HS' := Lib.hid hs'; clear hs'
    have hz5 := cb_only HZ4.out ho5 (by omega)
    have hx5 := cb_only HX4.out ho5 (by omega)
    have HC5 := Lib.hid hc5; clear hc5
    have HO5 := Lib.hid (HO4.out.trans ho5); clear ho5
    obtain ⟨z0, z1, z2⟩ := hz5.cells
    obtain ⟨m0, m1, m2⟩ := hz5.marks
    obtain ⟨x0, x1, x2⟩ := hx5.cells
    obtain ⟨v0, v1, v2⟩ := hx5.marks
    have HZ5 := Lib.hid (cb_other hz5 (h := h) (i := 2) (by omega) (.string s')); clear hz5 hx5
    have hlh : w.heap.size ≠ h := by omega
    have hhl : h ≠ w.heap.size := by omega
    go_wp2_with fail
    exact bodyPost_ret ((HZ5.out.set3 _ _ _).results rfl rfl) rfl (CellDrawn.mk _ _ s' hsz ((HC5.out.set (by omega) 2 _).set3 hgl _ _ _) ((HO5.out.setNew (by omega) 2 _).set3 (Nat.le_refl _) _ _ _))
  · have e0 : (x == 0) = false := by simp; omega
    have e1 : (x == 1) = false := by simp; omega
    have e2 : (x == 2) = false := by simp; omega
    have hlh : w.heap.size ≠ h := by omega
    have hhl : h ≠ w.heap.size := by omega
    go_wp2_with fail
    exact bodyPost_ret ((HZ3.out.set3 _ _ _).results rfl rfl) rfl (CellDrawn.mk _ _ s hs (HC3.out.set3 hgl _ _ _) (HO3.out.set3 (Nat.le_refl _) _ _ _))

/-- Two drawn values. -/
def TwoCells (w : World) (e : Ending) (w' : World) : Prop := ∃ (t k : Int) (s : ByteArray) (t' k' : Int) (s' : ByteArray), e = .returned (.tuple #[cel t k s, cel t' k' s']) ∧ s.size ≤ 600 ∧ s'.size ≤ 600 ∧ Below w.heap.size w w'
theorem cells_results2 {fn : Func} {p u : Tmp} (h : fn.results = #[.cell p 33, .cell u 33]) {tmps : Array Value} {w : World} {g g' : Nat} {a b c a' b' c' : Value} (T : CB w g a b c) (T' : CB w g' a' b' c')
    (hp : tmps.getD p undef = .pointer (some ⟨g, 0, none⟩)) (hu : tmps.getD u undef = .pointer (some ⟨g', 0, none⟩)) : (results fn tmps).run Tryz.prog w = .ok (.tuple #[.agg #[a, b, c], .agg #[a', b', c']]) w := by
  obtain ⟨r0, r1, r2⟩ := T.cells
  obtain ⟨q0, q1, q2⟩ := T'.cells
  rw [Array.getD_eq_getD_getElem?] at hp hu
  unfold results
  rw [h]
  simp [go_sem, hp, hu, r0, r1, r2, q0, q1, q2]


end Go.Proofs.YthaedmldlenhgaaGreatDoor.Draw
