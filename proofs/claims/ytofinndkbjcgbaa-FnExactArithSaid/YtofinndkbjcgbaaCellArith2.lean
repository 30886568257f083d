/-
  Reckoning with values, the model's side: what Arith returns, kind by kind.
-/
import Derived.Test.YtofinndkbjcgbaaCellArith
namespace Go.Proofs.Ytofinndkbjcgbaa.Cell
open Go.ChangeShapes Go.WideShapes Go.ChangeAt Go.RowKit Go.PlainAid
open Go.Proofs.Ytofinndkbjcgbaa.Dec
open Go.Proofs.Ytofinndkbjcgbaa.DecPure Go.Proofs.Ytofinndkbjcgbaa.TextPure Go.Proofs.Ytofinndkbjcgbaa.ReadPure Go.Proofs.Ytofinndkbjcgbaa.CellPure
set_option linter.unusedVariables false

set_option maxRecDepth 100000 in
theorem spec_add_good (t n : Int) (s : ByteArray) (t' n' : Int) (s' : ByteArray) (hs : s.size ≤ 1048576) (hs' : s'.size ≤ 1048576) (ha : cOk t n s = true) (hb : cOk t' n' s' = true) (ho : arB 20 (cNum t n s) (cNum t' n' s') = true) (w : World) : Calls Try.prog 5 #[.int .i64 20, cel t n s, cel t' n' s'] w (ArIs 20 t n s t' n' s' w) := by
  have hg : (decide ((20 : Int) ≤ 20 ∧ (20 : Int) ≤ 24) && (cOk t n s && cOk t' n' s')) = true := by rw [ha, hb]; rfl
  obtain ⟨e1, e2, e3⟩ := ar_good hg ho
  unfold ArIs
  rw [e1, e2, e3]; clear e1 e2 e3 hg
  have hna : ∀ W, Calls Try.prog 10 #[cel t n s] W fun e w' => e = .returned (.int .i64 (cNum t n s)) ∧ Below W.heap.size W w' := fun W => spec_toNum t n s hs W
  have hnb : ∀ W, Calls Try.prog 10 #[cel t' n' s'] W fun e w' => e = .returned (.int .i64 (cNum t' n' s')) ∧ Below W.heap.size W w' := fun W => spec_toNum t' n' s' hs' W
  generalize cNum t n s = x at *
  generalize cNum t' n' s' = y at *
  have hca : ∀ W, Calls Try.prog 11 #[.int .i64 x, .int .i64 y] W fun e w' => e = .returned (.tuple #[.int .i64 (arV 20 x y), .bool true]) ∧ W = w' := fun W => by
    have e1 : arV 20 x y = addV x y := by unfold arV; simp
    have e2 : addB x y = true := by rw [← ho]; unfold arB; simp
    have := spec_add x y W
    rw [e2] at this
    rw [e1]; exact this
  generalize arV 20 x y = z at *
  have HCA := Lib.hid hca; clear hca ho
  have HA := Lib.hid (((CB.new w (.int .i64 t) (.int .i64 n) (.string s)).keep ((Below.refl _ _).alloc (Nat.le_refl _) (.cells #[.int .i64 t', .int .i64 n', .string s'] 25)) (by simp)).keep ((Below.refl _ _).alloc (Nat.le_refl _) (.cells #[.int .i64 0, .int .i64 0, .string ⟨#[]⟩] 25)) (by simp; omega))
  have hb3 := (CB.new (w.alloc (.cells #[.int .i64 t, .int .i64 n, .string s] 25)) (.int .i64 t') (.int .i64 n') (.string s')).keep ((Below.refl _ _).alloc (Nat.le_refl _) (.cells #[.int .i64 0, .int .i64 0, .string ⟨#[]⟩] 25)) (by simp)
  simp only [World.size_alloc] at hb3
  have HBb := Lib.hid hb3; clear hb3
  have hz3 := CB.new ((w.alloc (.cells #[.int .i64 t, .int .i64 n, .string s] 25)).alloc (.cells #[.int .i64 t', .int .i64 n', .string s'] 25)) (.int .i64 0) (.int .i64 0) (.string ⟨#[]⟩)
  simp only [World.size_alloc] at hz3
  have HZ := Lib.hid hz3; clear hz3
  have HB0 := Lib.hid (below3 w (.cells #[.int .i64 t, .int .i64 n, .string s] 25) (.cells #[.int .i64 t', .int .i64 n', .string s'] 25) (.cells #[.int .i64 0, .int .i64 0, .string ⟨#[]⟩] 25))
  have HNA := Lib.hid hna; clear hna
  have HNB := Lib.hid hnb; clear hnb
  have HAK := Lib.hid ha; clear ha
  have HBK := Lib.hid hb; clear hb
  go_enter Try.func5, Try.ntmps5
  go_wp2_with fail
  refine (spec_cellOk t n s hs _).mono ?_
  rw [HAK.out]
  rintro e w1 ⟨rfl, hB⟩
  have HA1 := Lib.hid (HA.out.next hB)
  have HBb1 := Lib.hid (HBb.out.next hB)
  have HZ1 := Lib.hid (HZ.out.next hB)
  have HB1 := Lib.hid (HB0.out.trans (hB.mono HB0.out.size)); clear hB
  obtain ⟨a0, a1, a2⟩ := HA1.out.cells
  obtain ⟨b0, b1, b2⟩ := HBb1.out.cells
  go_wp2_with fail
  refine (spec_cellOk t' n' s' hs' _).mono ?_
  rw [HBK.out]
  rintro e w2 ⟨rfl, hB⟩
  have HA2 := Lib.hid (HA1.out.next hB)
  have HBb2 := Lib.hid (HBb1.out.next hB)
  have HZ2 := Lib.hid (HZ1.out.next hB)
  have HB2 := Lib.hid (HB1.out.trans (hB.mono HB1.out.size)); clear hB
  clear a0 a1 a2 b0 b1 b2
  obtain ⟨a0, a1, a2⟩ := HA2.out.cells
  obtain ⟨b0, b1, b2⟩ := HBb2.out.cells
  go_wp2_with fail
  refine (HNA.out _).mono ?_
  rintro e w3 ⟨rfl, hB⟩
  have HA3 := Lib.hid (HA2.out.next hB)
  have HBb3 := Lib.hid (HBb2.out.next hB)
  have HZ3 := Lib.hid (HZ2.out.next hB)
  have HB3 := Lib.hid (HB2.out.trans (hB.mono HB2.out.size)); clear hB
  clear a0 a1 a2 b0 b1 b2
  obtain ⟨a0, a1, a2⟩ := HA3.out.cells
  obtain ⟨b0, b1, b2⟩ := HBb3.out.cells
  go_wp2_with fail
  refine (HNB.out _).mono ?_
  rintro e w4 ⟨rfl, hB⟩
  have HA4 := Lib.hid (HA3.out.next hB)
  have HBb4 := Lib.hid (HBb3.out.next hB)
  have HZ4 := Lib.hid (HZ3.out.next hB)
  have HB4 := Lib.hid (HB3.out.trans (hB.mono HB3.out.size)); clear hB
  clear a0 a1 a2 b0 b1 b2
  obtain ⟨a0, a1, a2⟩ := HA4.out.cells
  obtain ⟨b0, b1, b2⟩ := HBb4.out.cells
  obtain ⟨z0, z1, z2⟩ := HZ4.out.cells
  obtain ⟨m0, m1, m2⟩ := HZ4.out.marks
  go_wp2_with fail
  refine (HCA.out _).mono ?_
  rintro e w5 ⟨rfl, rfl⟩
  go_wp2_with fail
  exact bodyPost_ret (cell_results2 rfl (HZ4.out.set3 _ _ _) rfl rfl) rfl ⟨rfl, below_set3 HB4.out (by omega) _ _ _⟩

set_option maxRecDepth 100000 in
theorem spec_add_over0 (t n : Int) (s : ByteArray) (t' n' : Int) (s' : ByteArray) (hs : s.size ≤ 1048576) (hs' : s'.size ≤ 1048576) (ha : cOk t n s = true) (hb : cOk t' n' s' = true) (hy : cNum t' n' s' = 0) (ho : arB 20 (cNum t n s) (cNum t' n' s') = false) (w : World) : Calls Try.prog 5 #[.int .i64 20, cel t n s, cel t' n' s'] w (ArIs 20 t n s t' n' s' w) := by
  have hg : (decide ((20 : Int) ≤ 20 ∧ (20 : Int) ≤ 24) && (cOk t n s && cOk t' n' s')) = true := by rw [ha, hb]; rfl
  obtain ⟨e1, e2, e3⟩ := ar_over hg (fun h => by omega) ho
  unfold ArIs
  rw [e1, e2, e3]; clear e1 e2 e3 hg
  have hna : ∀ W, Calls Try.prog 10 #[cel t n s] W fun e w' => e = .returned (.int .i64 (cNum t n s)) ∧ Below W.heap.size W w' := fun W => spec_toNum t n s hs W
  have hnb : ∀ W, Calls Try.prog 10 #[cel t' n' s'] W fun e w' => e = .returned (.int .i64 (cNum t' n' s')) ∧ Below W.heap.size W w' := fun W => spec_toNum t' n' s' hs' W
  generalize cNum t n s = x at *
  generalize cNum t' n' s' = y at *
  subst hy
  have hca : ∀ W, Calls Try.prog 11 #[.int .i64 x, .int .i64 0] W fun e w' => e = .returned (.tuple #[.int .i64 (arV 20 x 0), .bool false]) ∧ W = w' := fun W => by
    have e1 : arV 20 x 0 = addV x 0 := by unfold arV; simp
    have e2 : addB x 0 = false := by rw [← ho]; unfold arB; simp
    have := spec_add x 0 W
    rw [e2] at this
    rw [e1]; exact this
  generalize arV 20 x 0 = z at *
  have HCA := Lib.hid hca; clear hca ho
  have HA := Lib.hid (((CB.new w (.int .i64 t) (.int .i64 n) (.string s)).keep ((Below.refl _ _).alloc (Nat.le_refl _) (.cells #[.int .i64 t', .int .i64 n', .string s'] 25)) (by simp)).keep ((Below.refl _ _).alloc (Nat.le_refl _) (.cells #[.int .i64 0, .int .i64 0, .string ⟨#[]⟩] 25)) (by simp; omega))
  have hb3 := (CB.new (w.alloc (.cells #[.int .i64 t, .int .i64 n, .string s] 25)) (.int .i64 t') (.int .i64 n') (.string s')).keep ((Below.refl _ _).alloc (Nat.le_refl _) (.cells #[.int .i64 0, .int .i64 0, .string ⟨#[]⟩] 25)) (by simp)
  simp only [World.size_alloc] at hb3
  have HBb := Lib.hid hb3; clear hb3
  have hz3 := CB.new ((w.alloc (.cells #[.int .i64 t, .int .i64 n, .string s] 25)).alloc (.cells #[.int .i64 t', .int .i64 n', .string s'] 25)) (.int .i64 0) (.int .i64 0) (.string ⟨#[]⟩)
  simp only [World.size_alloc] at hz3
  have HZ := Lib.hid hz3; clear hz3
  have HB0 := Lib.hid (below3 w (.cells #[.int .i64 t, .int .i64 n, .string s] 25) (.cells #[.int .i64 t', .int .i64 n', .string s'] 25) (.cells #[.int .i64 0, .int .i64 0, .string ⟨#[]⟩] 25))
  have HNA := Lib.hid hna; clear hna
  have HNB := Lib.hid hnb; clear hnb
  have HAK := Lib.hid ha; clear ha
  have HBK := Lib.hid hb; clear hb
  go_enter Try.func5, Try.ntmps5
  go_wp2_with fail
  refine (spec_cellOk t n s hs _).mono ?_
  rw [HAK.out]
  rintro e w1 ⟨rfl, hB⟩
  have HA1 := Lib.hid (HA.out.next hB)
  have HBb1 := Lib.hid (HBb.out.next hB)
  have HZ1 := Lib.hid (HZ.out.next hB)
  have HB1 := Lib.hid (HB0.out.trans (hB.mono HB0.out.size)); clear hB
  obtain ⟨a0, a1, a2⟩ := HA1.out.cells
  obtain ⟨b0, b1, b2⟩ := HBb1.out.cells
  go_wp2_with fail
  refine (spec_cellOk t' n' s' hs' _).mono ?_
  rw [HBK.out]
  rintro e w2 ⟨rfl, hB⟩
  have HA2 := Lib.hid (HA1.out.next hB)
  have HBb2 := Lib.hid (HBb1.out.next hB)
  have HZ2 := Lib.hid (HZ1.out.next hB)
  have HB2 := Lib.hid (HB1.out.trans (hB.mono HB1.out.size)); clear hB
  clear a0 a1 a2 b0 b1 b2
  obtain ⟨a0, a1, a2⟩ := HA2.out.cells
  obtain ⟨b0, b1, b2⟩ := HBb2.out.cells
  go_wp2_with fail
  refine (HNA.out _).mono ?_
  rintro e w3 ⟨rfl, hB⟩
  have HA3 := Lib.hid (HA2.out.next hB)
  have HBb3 := Lib.hid (HBb2.out.next hB)
  have HZ3 := Lib.hid (HZ2.out.next hB)
  have HB3 := Lib.hid (HB2.out.trans (hB.mono HB2.out.size)); clear hB
  clear a0 a1 a2 b0 b1 b2
  obtain ⟨a0, a1, a2⟩ := HA3.out.cells
  obtain ⟨b0, b1, b2⟩ := HBb3.out.cells
  go_wp2_with fail
  refine (HNB.out _).mono ?_
  rintro e w4 ⟨rfl, hB⟩
  have HA4 := Lib.hid (HA3.out.next hB)
  have HBb4 := Lib.hid (HBb3.out.next hB)
  have HZ4 := Lib.hid (HZ3.out.next hB)
  have HB4 := Lib.hid (HB3.out.trans (hB.mono HB3.out.size)); clear hB
  clear a0 a1 a2 b0 b1 b2
  obtain ⟨a0, a1, a2⟩ := HA4.out.cells
  obtain ⟨b0, b1, b2⟩ := HBb4.out.cells
  obtain ⟨z0, z1, z2⟩ := HZ4.out.cells
  obtain ⟨m0, m1, m2⟩ := HZ4.out.marks
  go_wp2_with fail
  refine (HCA.out _).mono ?_
  rintro e w5 ⟨rfl, rfl⟩
  go_wp2_with fail
  exact bodyPost_ret (cell_results2 rfl (HZ4.out.set3 _ _ _) rfl rfl) rfl ⟨rfl, below_set3 HB4.out (by omega) _ _ _⟩

set_option maxRecDepth 100000 in
theorem spec_add_over (t n : Int) (s : ByteArray) (t' n' : Int) (s' : ByteArray) (hs : s.size ≤ 1048576) (hs' : s'.size ≤ 1048576) (ha : cOk t n s = true) (hb : cOk t' n' s' = true) (hy : cNum t' n' s' ≠ 0) (ho : arB 20 (cNum t n s) (cNum t' n' s') = false) (w : World) : Calls Try.prog 5 #[.int .i64 20, cel t n s, cel t' n' s'] w (ArIs 20 t n s t' n' s' w) := by
  have hg : (decide ((20 : Int) ≤ 20 ∧ (20 : Int) ≤ 24) && (cOk t n s && cOk t' n' s')) = true := by rw [ha, hb]; rfl
  obtain ⟨e1, e2, e3⟩ := ar_over hg (fun h => hy h.2) ho
  unfold ArIs
  rw [e1, e2, e3]; clear e1 e2 e3 hg
  have hna : ∀ W, Calls Try.prog 10 #[cel t n s] W fun e w' => e = .returned (.int .i64 (cNum t n s)) ∧ Below W.heap.size W w' := fun W => spec_toNum t n s hs W
  have hnb : ∀ W, Calls Try.prog 10 #[cel t' n' s'] W fun e w' => e = .returned (.int .i64 (cNum t' n' s')) ∧ Below W.heap.size W w' := fun W => spec_toNum t' n' s' hs' W
  generalize cNum t n s = x at *
  generalize cNum t' n' s' = y at *
  have hyb : (y == 0) = false := by simpa using hy
  have hca : ∀ W, Calls Try.prog 11 #[.int .i64 x, .int .i64 y] W fun e w' => e = .returned (.tuple #[.int .i64 (arV 20 x y), .bool false]) ∧ W = w' := fun W => by
    have e1 : arV 20 x y = addV x y := by unfold arV; simp
    have e2 : addB x y = false := by rw [← ho]; unfold arB; simp
    have := spec_add x y W
    rw [e2] at this
    rw [e1]; exact this
  generalize arV 20 x y = z at *
  have HCA := Lib.hid hca; clear hca ho
  have HA := Lib.hid (((CB.new w (.int .i64 t) (.int .i64 n) (.string s)).keep ((Below.refl _ _).alloc (Nat.le_refl _) (.cells #[.int .i64 t', .int .i64 n', .string s'] 25)) (by simp)).keep ((Below.refl _ _).alloc (Nat.le_refl _) (.cells #[.int .i64 0, .int .i64 0, .string ⟨#[]⟩] 25)) (by simp; omega))
  have hb3 := (CB.new (w.alloc (.cells #[.int .i64 t, .int .i64 n, .string s] 25)) (.int .i64 t') (.int .i64 n') (.string s')).keep ((Below.refl _ _).alloc (Nat.le_refl _) (.cells #[.int .i64 0, .int .i64 0, .string ⟨#[]⟩] 25)) (by simp)
  simp only [World.size_alloc] at hb3
  have HBb := Lib.hid hb3; clear hb3
  have hz3 := CB.new ((w.alloc (.cells #[.int .i64 t, .int .i64 n, .string s] 25)).alloc (.cells #[.int .i64 t', .int .i64 n', .string s'] 25)) (.int .i64 0) (.int .i64 0) (.string ⟨#[]⟩)
  simp only [World.size_alloc] at hz3
  have HZ := Lib.hid hz3; clear hz3
  have HB0 := Lib.hid (below3 w (.cells #[.int .i64 t, .int .i64 n, .string s] 25) (.cells #[.int .i64 t', .int .i64 n', .string s'] 25) (.cells #[.int .i64 0, .int .i64 0, .string ⟨#[]⟩] 25))
  have HNA := Lib.hid hna; clear hna
  have HNB := Lib.hid hnb; clear hnb
  have HAK := Lib.hid ha; clear ha
  have HBK := Lib.hid hb; clear hb
  go_enter Try.func5, Try.ntmps5
  go_wp2_with fail
  refine (spec_cellOk t n s hs _).mono ?_
  rw [HAK.out]
  rintro e w1 ⟨rfl, hB⟩
  have HA1 := Lib.hid (HA.out.next hB)
  have HBb1 := Lib.hid (HBb.out.next hB)
  have HZ1 := Lib.hid (HZ.out.next hB)
  have HB1 := Lib.hid (HB0.out.trans (hB.mono HB0.out.size)); clear hB
  obtain ⟨a0, a1, a2⟩ := HA1.out.cells
  obtain ⟨b0, b1, b2⟩ := HBb1.out.cells
  go_wp2_with fail
  refine (spec_cellOk t' n' s' hs' _).mono ?_
  rw [HBK.out]
  rintro e w2 ⟨rfl, hB⟩
  have HA2 := Lib.hid (HA1.out.next hB)
  have HBb2 := Lib.hid (HBb1.out.next hB)
  have HZ2 := Lib.hid (HZ1.out.next hB)
  have HB2 := Lib.hid (HB1.out.trans (hB.mono HB1.out.size)); clear hB
  clear a0 a1 a2 b0 b1 b2
  obtain ⟨a0, a1, a2⟩ := HA2.out.cells
  obtain ⟨b0, b1, b2⟩ := HBb2.out.cells
  go_wp2_with fail
  refine (HNA.out _).mono ?_
  rintro e w3 ⟨rfl, hB⟩
  have HA3 := Lib.hid (HA2.out.next hB)
  have HBb3 := Lib.hid (HBb2.out.next hB)
  have HZ3 := Lib.hid (HZ2.out.next hB)
  have HB3 := Lib.hid (HB2.out.trans (hB.mono HB2.out.size)); clear hB
  clear a0 a1 a2 b0 b1 b2
  obtain ⟨a0, a1, a2⟩ := HA3.out.cells
  obtain ⟨b0, b1, b2⟩ := HBb3.out.cells
  go_wp2_with fail
  refine (HNB.out _).mono ?_
  rintro e w4 ⟨rfl, hB⟩
  have HA4 := Lib.hid (HA3.out.next hB)
  have HBb4 := Lib.hid (HBb3.out.next hB)
  have HZ4 := Lib.hid (HZ3.out.next hB)
  have HB4 := Lib.hid (HB3.out.trans (hB.mono HB3.out.size)); clear hB
  clear a0 a1 a2 b0 b1 b2
  obtain ⟨a0, a1, a2⟩ := HA4.out.cells
  obtain ⟨b0, b1, b2⟩ := HBb4.out.cells
  obtain ⟨z0, z1, z2⟩ := HZ4.out.cells
  obtain ⟨m0, m1, m2⟩ := HZ4.out.marks
  go_wp2_with fail
  refine (HCA.out _).mono ?_
  rintro e w5 ⟨rfl, rfl⟩
  go_wp2_with fail
  exact bodyPost_ret (cell_results2 rfl (HZ4.out.set3 _ _ _) rfl rfl) rfl ⟨rfl, below_set3 HB4.out (by omega) _ _ _⟩

set_option maxRecDepth 100000 in
theorem spec_sub_good (t n : Int) (s : ByteArray) (t' n' : Int) (s' : ByteArray) (hs : s.size ≤ 1048576) (hs' : s'.size ≤ 1048576) (ha : cOk t n s = true) (hb : cOk t' n' s' = true) (ho : arB 21 (cNum t n s) (cNum t' n' s') = true) (w : World) : Calls Try.prog 5 #[.int .i64 21, cel t n s, cel t' n' s'] w (ArIs 21 t n s t' n' s' w) := by
  have hg : (decide ((20 : Int) ≤ 21 ∧ (21 : Int) ≤ 24) && (cOk t n s && cOk t' n' s')) = true := by rw [ha, hb]; rfl
  obtain ⟨e1, e2, e3⟩ := ar_good hg ho
  unfold ArIs
  rw [e1, e2, e3]; clear e1 e2 e3 hg
  have hna : ∀ W, Calls Try.prog 10 #[cel t n s] W fun e w' => e = .returned (.int .i64 (cNum t n s)) ∧ Below W.heap.size W w' := fun W => spec_toNum t n s hs W
  have hnb : ∀ W, Calls Try.prog 10 #[cel t' n' s'] W fun e w' => e = .returned (.int .i64 (cNum t' n' s')) ∧ Below W.heap.size W w' := fun W => spec_toNum t' n' s' hs' W
  generalize cNum t n s = x at *
  generalize cNum t' n' s' = y at *
  have hca : ∀ W, Calls Try.prog 12 #[.int .i64 x, .int .i64 y] W fun e w' => e = .returned (.tuple #[.int .i64 (arV 21 x y), .bool true]) ∧ W = w' := fun W => by
    have e1 : arV 21 x y = subV x y := by unfold arV; simp
    have e2 : subB x y = true := by rw [← ho]; unfold arB; simp
    have := spec_sub x y W
    rw [e2] at this
    rw [e1]; exact this
  generalize arV 21 x y = z at *
  have HCA := Lib.hid hca; clear hca ho
  have HA := Lib.hid (((CB.new w (.int .i64 t) (.int .i64 n) (.string s)).keep ((Below.refl _ _).alloc (Nat.le_refl _) (.cells #[.int .i64 t', .int .i64 n', .string s'] 25)) (by simp)).keep ((Below.refl _ _).alloc (Nat.le_refl _) (.cells #[.int .i64 0, .int .i64 0, .string ⟨#[]⟩] 25)) (by simp; omega))
  have hb3 := (CB.new (w.alloc (.cells #[.int .i64 t, .int .i64 n, .string s] 25)) (.int .i64 t') (.int .i64 n') (.string s')).keep ((Below.refl _ _).alloc (Nat.le_refl _) (.cells #[.int .i64 0, .int .i64 0, .string ⟨#[]⟩] 25)) (by simp)
  simp only [World.size_alloc] at hb3
  have HBb := Lib.hid hb3; clear hb3
  have hz3 := CB.new ((w.alloc (.cells #[.int .i64 t, .int .i64 n, .string s] 25)).alloc (.cells #[.int .i64 t', .int .i64 n', .string s'] 25)) (.int .i64 0) (.int .i64 0) (.string ⟨#[]⟩)
  simp only [World.size_alloc] at hz3
  have HZ := Lib.hid hz3; clear hz3
  have HB0 := Lib.hid (below3 w (.cells #[.int .i64 t, .int .i64 n, .string s] 25) (.cells #[.int .i64 t', .int .i64 n', .string s'] 25) (.cells #[.int .i64 0, .int .i64 0, .string ⟨#[]⟩] 25))
  have HNA := Lib.hid hna; clear hna
  have HNB := Lib.hid hnb; clear hnb
  have HAK := Lib.hid ha; clear ha
  have HBK := Lib.hid hb; clear hb
  go_enter Try.func5, Try.ntmps5
  go_wp2_with fail
  refine (spec_cellOk t n s hs _).mono ?_
  rw [HAK.out]
  rintro e w1 ⟨rfl, hB⟩
  have HA1 := Lib.hid (HA.out.next hB)
  have HBb1 := Lib.hid (HBb.out.next hB)
  have HZ1 := Lib.hid (HZ.out.next hB)
  have HB1 := Lib.hid (HB0.out.trans (hB.mono HB0.out.size)); clear hB
  obtain ⟨a0, a1, a2⟩ := HA1.out.cells
  obtain ⟨b0, b1, b2⟩ := HBb1.out.cells
  go_wp2_with fail
  refine (spec_cellOk t' n' s' hs' _).mono ?_
  rw [HBK.out]
  rintro e w2 ⟨rfl, hB⟩
  have HA2 := Lib.hid (HA1.out.next hB)
  have HBb2 := Lib.hid (HBb1.out.next hB)
  have HZ2 := Lib.hid (HZ1.out.next hB)
  have HB2 := Lib.hid (HB1.out.trans (hB.mono HB1.out.size)); clear hB
  clear a0 a1 a2 b0 b1 b2
  obtain ⟨a0, a1, a2⟩ := HA2.out.cells
  obtain ⟨b0, b1, b2⟩ := HBb2.out.cells
  go_wp2_with fail
  refine (HNA.out _).mono ?_
  rintro e w3 ⟨rfl, hB⟩
  have HA3 := Lib.hid (HA2.out.next hB)
  have HBb3 := Lib.hid (HBb2.out.next hB)
  have HZ3 := Lib.hid (HZ2.out.next hB)
  have HB3 := Lib.hid (HB2.out.trans (hB.mono HB2.out.size)); clear hB
  clear a0 a1 a2 b0 b1 b2
  obtain ⟨a0, a1, a2⟩ := HA3.out.cells
  obtain ⟨b0, b1, b2⟩ := HBb3.out.cells
  go_wp2_with fail
  refine (HNB.out _).mono ?_
  rintro e w4 ⟨rfl, hB⟩
  have HA4 := Lib.hid (HA3.out.next hB)
  have HBb4 := Lib.hid (HBb3.out.next hB)
  have HZ4 := Lib.hid (HZ3.out.next hB)
  have HB4 := Lib.hid (HB3.out.trans (hB.mono HB3.out.size)); clear hB
  clear a0 a1 a2 b0 b1 b2
  obtain ⟨a0, a1, a2⟩ := HA4.out.cells
  obtain ⟨b0, b1, b2⟩ := HBb4.out.cells
  obtain ⟨z0, z1, z2⟩ := HZ4.out.cells
  obtain ⟨m0, m1, m2⟩ := HZ4.out.marks
  go_wp2_with fail
  refine (HCA.out _).mono ?_
  rintro e w5 ⟨rfl, rfl⟩
  go_wp2_with fail
  exact bodyPost_ret (cell_results2 rfl (HZ4.out.set3 _ _ _) rfl rfl) rfl ⟨rfl, below_set3 HB4.out (by omega) _ _ _⟩

set_option maxRecDepth 100000 in
theorem spec_sub_over0 (t n : Int) (s : ByteArray) (t' n' : Int) (s' : ByteArray) (hs : s.size ≤ 1048576) (hs' : s'.size ≤ 1048576) (ha : cOk t n s = true) (hb : cOk t' n' s' = true) (hy : cNum t' n' s' = 0) (ho : arB 21 (cNum t n s) (cNum t' n' s') = false) (w : World) : Calls Try.prog 5 #[.int .i64 21, cel t n s, cel t' n' s'] w (ArIs 21 t n s t' n' s' w) := by
  have hg : (decide ((20 : Int) ≤ 21 ∧ (21 : Int) ≤ 24) && (cOk t n s && cOk t' n' s')) = true := by rw [ha, hb]; rfl
  obtain ⟨e1, e2, e3⟩ := ar_over hg (fun h => by omega) ho
  unfold ArIs
  rw [e1, e2, e3]; clear e1 e2 e3 hg
  have hna : ∀ W, Calls Try.prog 10 #[cel t n s] W fun e w' => e = .returned (.int .i64 (cNum t n s)) ∧ Below W.heap.size W w' := fun W => spec_toNum t n s hs W
  have hnb : ∀ W, Calls Try.prog 10 #[cel t' n' s'] W fun e w' => e = .returned (.int .i64 (cNum t' n' s')) ∧ Below W.heap.size W w' := fun W => spec_toNum t' n' s' hs' W
  generalize cNum t n s = x at *
  generalize cNum t' n' s' = y at *
  subst hy
  have hca : ∀ W, Calls Try.prog 12 #[.int .i64 x, .int .i64 0] W fun e w' => e = .returned (.tuple #[.int .i64 (arV 21 x 0), .bool false]) ∧ W = w' := fun W => by
    have e1 : arV 21 x 0 = subV x 0 := by unfold arV; simp
    have e2 : subB x 0 = false := by rw [← ho]; unfold arB; simp
    have := spec_sub x 0 W
    rw [e2] at this
    rw [e1]; exact this
  generalize arV 21 x 0 = z at *
  have HCA := Lib.hid hca; clear hca ho
  have HA := Lib.hid (((CB.new w (.int .i64 t) (.int .i64 n) (.string s)).keep ((Below.refl _ _).alloc (Nat.le_refl _) (.cells #[.int .i64 t', .int .i64 n', .string s'] 25)) (by simp)).keep ((Below.refl _ _).alloc (Nat.le_refl _) (.cells #[.int .i64 0, .int .i64 0, .string ⟨#[]⟩] 25)) (by simp; omega))
  have hb3 := (CB.new (w.alloc (.cells #[.int .i64 t, .int .i64 n, .string s] 25)) (.int .i64 t') (.int .i64 n') (.string s')).keep ((Below.refl _ _).alloc (Nat.le_refl _) (.cells #[.int .i64 0, .int .i64 0, .string ⟨#[]⟩] 25)) (by simp)
  simp only [World.size_alloc] at hb3
  have HBb := Lib.hid hb3; clear hb3
  have hz3 := CB.new ((w.alloc (.cells #[.int .i64 t, .int .i64 n, .string s] 25)).alloc (.cells #[.int .i64 t', .int .i64 n', .string s'] 25)) (.int .i64 0) (.int .i64 0) (.string ⟨#[]⟩)
  simp only [World.size_alloc] at hz3
  have HZ := Lib.hid hz3; clear hz3
  have HB0 := Lib.hid (below3 w (.cells #[.int .i64 t, .int .i64 n, .string s] 25) (.cells #[.int .i64 t', .int .i64 n', .string s'] 25) (.cells #[.int .i64 0, .int .i64 0, .string ⟨#[]⟩] 25))
  have HNA := Lib.hid hna; clear hna
  have HNB := Lib.hid hnb; clear hnb
  have HAK := Lib.hid ha; clear ha
  have HBK := Lib.hid hb; clear hb
  go_enter Try.func5, Try.ntmps5
  go_wp2_with fail
  refine (spec_cellOk t n s hs _).mono ?_
  rw [HAK.out]
  rintro e w1 ⟨rfl, hB⟩
  have HA1 := Lib.hid (HA.out.next hB)
  have HBb1 := Lib.hid (HBb.out.next hB)
  have HZ1 := Lib.hid (HZ.out.next hB)
  have HB1 := Lib.hid (HB0.out.trans (hB.mono HB0.out.size)); clear hB
  obtain ⟨a0, a1, a2⟩ := HA1.out.cells
  obtain ⟨b0, b1, b2⟩ := HBb1.out.cells
  go_wp2_with fail
  refine (spec_cellOk t' n' s' hs' _).mono ?_
  rw [HBK.out]
  rintro e w2 ⟨rfl, hB⟩
  have HA2 := Lib.hid (HA1.out.next hB)
  have HBb2 := Lib.hid (HBb1.out.next hB)
  have HZ2 := Lib.hid (HZ1.out.next hB)
  have HB2 := Lib.hid (HB1.out.trans (hB.mono HB1.out.size)); clear hB
  clear a0 a1 a2 b0 b1 b2
  obtain ⟨a0, a1, a2⟩ := HA2.out.cells
  obtain ⟨b0, b1, b2⟩ := HBb2.out.cells
  go_wp2_with fail
  refine (HNA.out _).mono ?_
  rintro e w3 ⟨rfl, hB⟩
  have HA3 := Lib.hid (HA2.out.next hB)
  have HBb3 := Lib.hid (HBb2.out.next hB)
  have HZ3 := Lib.hid (HZ2.out.next hB)
  have HB3 := Lib.hid (HB2.out.trans (hB.mono HB2.out.size)); clear hB
  clear a0 a1 a2 b0 b1 b2
  obtain ⟨a0, a1, a2⟩ := HA3.out.cells
  obtain ⟨b0, b1, b2⟩ := HBb3.out.cells
  go_wp2_with fail
  refine (HNB.out _).mono ?_
  rintro e w4 ⟨rfl, hB⟩
  have HA4 := Lib.hid (HA3.out.next hB)
  have HBb4 := Lib.hid (HBb3.out.next hB)
  have HZ4 := Lib.hid (HZ3.out.next hB)
  have HB4 := Lib.hid (HB3.out.trans (hB.mono HB3.out.size)); clear hB
  clear a0 a1 a2 b0 b1 b2
  obtain ⟨a0, a1, a2⟩ := HA4.out.cells
  obtain ⟨b0, b1, b2⟩ := HBb4.out.cells
  obtain ⟨z0, z1, z2⟩ := HZ4.out.cells
  obtain ⟨m0, m1, m2⟩ := HZ4.out.marks
  go_wp2_with fail
  refine (HCA.out _).mono ?_
  rintro e w5 ⟨rfl, rfl⟩
  go_wp2_with fail
  exact bodyPost_ret (cell_results2 rfl (HZ4.out.set3 _ _ _) rfl rfl) rfl ⟨rfl, below_set3 HB4.out (by omega) _ _ _⟩

set_option maxRecDepth 100000 in
theorem spec_sub_over (t n : Int) (s : ByteArray) (t' n' : Int) (s' : ByteArray) (hs : s.size ≤ 1048576) (hs' : s'.size ≤ 1048576) (ha : cOk t n s = true) (hb : cOk t' n' s' = true) (hy : cNum t' n' s' ≠ 0) (ho : arB 21 (cNum t n s) (cNum t' n' s') = false) (w : World) : Calls Try.prog 5 #[.int .i64 21, cel t n s, cel t' n' s'] w (ArIs 21 t n s t' n' s' w) := by
  have hg : (decide ((20 : Int) ≤ 21 ∧ (21 : Int) ≤ 24) && (cOk t n s && cOk t' n' s')) = true := by rw [ha, hb]; rfl
  obtain ⟨e1, e2, e3⟩ := ar_over hg (fun h => hy h.2) ho
  unfold ArIs
  rw [e1, e2, e3]; clear e1 e2 e3 hg
  have hna : ∀ W, Calls Try.prog 10 #[cel t n s] W fun e w' => e = .returned (.int .i64 (cNum t n s)) ∧ Below W.heap.size W w' := fun W => spec_toNum t n s hs W
  have hnb : ∀ W, Calls Try.prog 10 #[cel t' n' s'] W fun e w' => e = .returned (.int .i64 (cNum t' n' s')) ∧ Below W.heap.size W w' := fun W => spec_toNum t' n' s' hs' W
  generalize cNum t n s = x at *
  generalize cNum t' n' s' = y at *
  have hyb : (y == 0) = false := by simpa using hy
  have hca : ∀ W, Calls Try.prog 12 #[.int .i64 x, .int .i64 y] W fun e w' => e = .returned (.tuple #[.int .i64 (arV 21 x y), .bool false]) ∧ W = w' := fun W => by
    have e1 : arV 21 x y = subV x y := by unfold arV; simp
    have e2 : subB x y = false := by rw [← ho]; unfold arB; simp
    have := spec_sub x y W
    rw [e2] at this
    rw [e1]; exact this
  generalize arV 21 x y = z at *
  have HCA := Lib.hid hca; clear hca ho
  have HA := Lib.hid (((CB.new w (.int .i64 t) (.int .i64 n) (.string s)).keep ((Below.refl _ _).alloc (Nat.le_refl _) (.cells #[.int .i64 t', .int .i64 n', .string s'] 25)) (by simp)).keep ((Below.refl _ _).alloc (Nat.le_refl _) (.cells #[.int .i64 0, .int .i64 0, .string ⟨#[]⟩] 25)) (by simp; omega))
  have hb3 := (CB.new (w.alloc (.cells #[.int .i64 t, .int .i64 n, .string s] 25)) (.int .i64 t') (.int .i64 n') (.string s')).keep ((Below.refl _ _).alloc (Nat.le_refl _) (.cells #[.int .i64 0, .int .i64 0, .string ⟨#[]⟩] 25)) (by simp)
  simp only [World.size_alloc] at hb3
  have HBb := Lib.hid hb3; clear hb3
  have hz3 := CB.new ((w.alloc (.cells #[.int .i64 t, .int .i64 n, .string s] 25)).alloc (.cells #[.int .i64 t', .int .i64 n', .string s'] 25)) (.int .i64 0) (.int .i64 0) (.string ⟨#[]⟩)
  simp only [World.size_alloc] at hz3
  have HZ := Lib.hid hz3; clear hz3
  have HB0 := Lib.hid (below3 w (.cells #[.int .i64 t, .int .i64 n, .string s] 25) (.cells #[.int .i64 t', .int .i64 n', .string s'] 25) (.cells #[.int .i64 0, .int .i64 0, .string ⟨#[]⟩] 25))
  have HNA := Lib.hid hna; clear hna
  have HNB := Lib.hid hnb; clear hnb
  have HAK := Lib.hid ha; clear ha
  have HBK := Lib.hid hb; clear hb
  go_enter Try.func5, Try.ntmps5
  go_wp2_with fail
  refine (spec_cellOk t n s hs _).mono ?_
  rw [HAK.out]
  rintro e w1 ⟨rfl, hB⟩
  have HA1 := Lib.hid (HA.out.next hB)
  have HBb1 := Lib.hid (HBb.out.next hB)
  have HZ1 := Lib.hid (HZ.out.next hB)
  have HB1 := Lib.hid (HB0.out.trans (hB.mono HB0.out.size)); clear hB
  obtain ⟨a0, a1, a2⟩ := HA1.out.cells
  obtain ⟨b0, b1, b2⟩ := HBb1.out.cells
  go_wp2_with fail
  refine (spec_cellOk t' n' s' hs' _).mono ?_
  rw [HBK.out]
  rintro e w2 ⟨rfl, hB⟩
  have HA2 := Lib.hid (HA1.out.next hB)
  have HBb2 := Lib.hid (HBb1.out.next hB)
  have HZ2 := Lib.hid (HZ1.out.next hB)
  have HB2 := Lib.hid (HB1.out.trans (hB.mono HB1.out.size)); clear hB
  clear a0 a1 a2 b0 b1 b2
  obtain ⟨a0, a1, a2⟩ := HA2.out.cells
  obtain ⟨b0, b1, b2⟩ := HBb2.out.cells
  go_wp2_with fail
  refine (HNA.out _).mono ?_
  rintro e w3 ⟨rfl, hB⟩
  have HA3 := Lib.hid (HA2.out.next hB)
  have HBb3 := Lib.hid (HBb2.out.next hB)
  have HZ3 := Lib.hid (HZ2.out.next hB)
  have HB3 := Lib.hid (HB2.out.trans (hB.mono HB2.out.size)); clear hB
  clear a0 a1 a2 b0 b1 b2
  obtain ⟨a0, a1, a2⟩ := HA3.out.cells
  obtain ⟨b0, b1, b2⟩ := HBb3.out.cells
  go_wp2_with fail
  refine (HNB.out _).mono ?_
  rintro e w4 ⟨rfl, hB⟩
  have HA4 := Lib.hid (HA3.out.next hB)
  have HBb4 := Lib.hid (HBb3.out.next hB)
  have HZ4 := Lib.hid (HZ3.out.next hB)
  have HB4 := Lib.hid (HB3.out.trans (hB.mono HB3.out.size)); clear hB
  clear a0 a1 a2 b0 b1 b2
  obtain ⟨a0, a1, a2⟩ := HA4.out.cells
  obtain ⟨b0, b1, b2⟩ := HBb4.out.cells
  obtain ⟨z0, z1, z2⟩ := HZ4.out.cells
  obtain ⟨m0, m1, m2⟩ := HZ4.out.marks
  go_wp2_with fail
  refine (HCA.out _).mono ?_
  rintro e w5 ⟨rfl, rfl⟩
  go_wp2_with fail
  exact bodyPost_ret (cell_results2 rfl (HZ4.out.set3 _ _ _) rfl rfl) rfl ⟨rfl, below_set3 HB4.out (by omega) _ _ _⟩

set_option maxRecDepth 100000 in
theorem spec_mul_good (t n : Int) (s : ByteArray) (t' n' : Int) (s' : ByteArray) (hs : s.size ≤ 1048576) (hs' : s'.size ≤ 1048576) (ha : cOk t n s = true) (hb : cOk t' n' s' = true) (ho : arB 22 (cNum t n s) (cNum t' n' s') = true) (w : World) : Calls Try.prog 5 #[.int .i64 22, cel t n s, cel t' n' s'] w (ArIs 22 t n s t' n' s' w) := by
  have hg : (decide ((20 : Int) ≤ 22 ∧ (22 : Int) ≤ 24) && (cOk t n s && cOk t' n' s')) = true := by rw [ha, hb]; rfl
  obtain ⟨e1, e2, e3⟩ := ar_good hg ho
  unfold ArIs
  rw [e1, e2, e3]; clear e1 e2 e3 hg
  have hna : ∀ W, Calls Try.prog 10 #[cel t n s] W fun e w' => e = .returned (.int .i64 (cNum t n s)) ∧ Below W.heap.size W w' := fun W => spec_toNum t n s hs W
  have hnb : ∀ W, Calls Try.prog 10 #[cel t' n' s'] W fun e w' => e = .returned (.int .i64 (cNum t' n' s')) ∧ Below W.heap.size W w' := fun W => spec_toNum t' n' s' hs' W
  generalize cNum t n s = x at *
  generalize cNum t' n' s' = y at *
  have hca : ∀ W, Calls Try.prog 13 #[.int .i64 x, .int .i64 y] W fun e w' => e = .returned (.tuple #[.int .i64 (arV 22 x y), .bool true]) ∧ W = w' := fun W => by
    have e1 : arV 22 x y = mulV x y := by unfold arV; simp
    have e2 : mulB x y = true := by rw [← ho]; unfold arB; simp
    have := spec_mul x y W
    rw [e2] at this
    rw [e1]; exact this
  generalize arV 22 x y = z at *
  have HCA := Lib.hid hca; clear hca ho
  have HA := Lib.hid (((CB.new w (.int .i64 t) (.int .i64 n) (.string s)).keep ((Below.refl _ _).alloc (Nat.le_refl _) (.cells #[.int .i64 t', .int .i64 n', .string s'] 25)) (by simp)).keep ((Below.refl _ _).alloc (Nat.le_refl _) (.cells #[.int .i64 0, .int .i64 0, .string ⟨#[]⟩] 25)) (by simp; omega))
  have hb3 := (CB.new (w.alloc (.cells #[.int .i64 t, .int .i64 n, .string s] 25)) (.int .i64 t') (.int .i64 n') (.string s')).keep ((Below.refl _ _).alloc (Nat.le_refl _) (.cells #[.int .i64 0, .int .i64 0, .string ⟨#[]⟩] 25)) (by simp)
  simp only [World.size_alloc] at hb3
  have HBb := Lib.hid hb3; clear hb3
  have hz3 := CB.new ((w.alloc (.cells #[.int .i64 t, .int .i64 n, .string s] 25)).alloc (.cells #[.int .i64 t', .int .i64 n', .string s'] 25)) (.int .i64 0) (.int .i64 0) (.string ⟨#[]⟩)
  simp only [World.size_alloc] at hz3
  have HZ := Lib.hid hz3; clear hz3
  have HB0 := Lib.hid (below3 w (.cells #[.int .i64 t, .int .i64 n, .string s] 25) (.cells #[.int .i64 t', .int .i64 n', .string s'] 25) (.cells #[.int .i64 0, .int .i64 0, .string ⟨#[]⟩] 25))
  have HNA := Lib.hid hna; clear hna
  have HNB := Lib.hid hnb; clear hnb
  have HAK := Lib.hid ha; clear ha
  have HBK := Lib.hid hb; clear hb
  go_enter Try.func5, Try.ntmps5
  go_wp2_with fail
  refine (spec_cellOk t n s hs _).mono ?_
  rw [HAK.out]
  rintro e w1 ⟨rfl, hB⟩
  have HA1 := Lib.hid (HA.out.next hB)
  have HBb1 := Lib.hid (HBb.out.next hB)
  have HZ1 := Lib.hid (HZ.out.next hB)
  have HB1 := Lib.hid (HB0.out.trans (hB.mono HB0.out.size)); clear hB
  obtain ⟨a0, a1, a2⟩ := HA1.out.cells
  obtain ⟨b0, b1, b2⟩ := HBb1.out.cells
  go_wp2_with fail
  refine (spec_cellOk t' n' s' hs' _).mono ?_
  rw [HBK.out]
  rintro e w2 ⟨rfl, hB⟩
  have HA2 := Lib.hid (HA1.out.next hB)
  have HBb2 := Lib.hid (HBb1.out.next hB)
  have HZ2 := Lib.hid (HZ1.out.next hB)
  have HB2 := Lib.hid (HB1.out.trans (hB.mono HB1.out.size)); clear hB
  clear a0 a1 a2 b0 b1 b2
  obtain ⟨a0, a1, a2⟩ := HA2.out.cells
  obtain ⟨b0, b1, b2⟩ := HBb2.out.cells
  go_wp2_with fail
  refine (HNA.out _).mono ?_
  rintro e w3 ⟨rfl, hB⟩
  have HA3 := Lib.hid (HA2.out.next hB)
  have HBb3 := Lib.hid (HBb2.out.next hB)
  have HZ3 := Lib.hid (HZ2.out.next hB)
  have HB3 := Lib.hid (HB2.out.trans (hB.mono HB2.out.size)); clear hB
  clear a0 a1 a2 b0 b1 b2
  obtain ⟨a0, a1, a2⟩ := HA3.out.cells
  obtain ⟨b0, b1, b2⟩ := HBb3.out.cells
  go_wp2_with fail
  refine (HNB.out _).mono ?_
  rintro e w4 ⟨rfl, hB⟩
  have HA4 := Lib.hid (HA3.out.next hB)
  have HBb4 := Lib.hid (HBb3.out.next hB)
  have HZ4 := Lib.hid (HZ3.out.next hB)
  have HB4 := Lib.hid (HB3.out.trans (hB.mono HB3.out.size)); clear hB
  clear a0 a1 a2 b0 b1 b2
  obtain ⟨a0, a1, a2⟩ := HA4.out.cells
  obtain ⟨b0, b1, b2⟩ := HBb4.out.cells
  obtain ⟨z0, z1, z2⟩ := HZ4.out.cells
  obtain ⟨m0, m1, m2⟩ := HZ4.out.marks
  go_wp2_with fail
  refine (HCA.out _).mono ?_
  rintro e w5 ⟨rfl, rfl⟩
  go_wp2_with fail
  exact bodyPost_ret (cell_results2 rfl (HZ4.out.set3 _ _ _) rfl rfl) rfl ⟨rfl, below_set3 HB4.out (by omega) _ _ _⟩

set_option maxRecDepth 100000 in
theorem spec_mul_over0 (t n : Int) (s : ByteArray) (t' n' : Int) (s' : ByteArray) (hs : s.size ≤ 1048576) (hs' : s'.size ≤ 1048576) (ha : cOk t n s = true) (hb : cOk t' n' s' = true) (hy : cNum t' n' s' = 0) (ho : arB 22 (cNum t n s) (cNum t' n' s') = false) (w : World) : Calls Try.prog 5 #[.int .i64 22, cel t n s, cel t' n' s'] w (ArIs 22 t n s t' n' s' w) := by
  have hg : (decide ((20 : Int) ≤ 22 ∧ (22 : Int) ≤ 24) && (cOk t n s && cOk t' n' s')) = true := by rw [ha, hb]; rfl
  obtain ⟨e1, e2, e3⟩ := ar_over hg (fun h => by omega) ho
  unfold ArIs
  rw [e1, e2, e3]; clear e1 e2 e3 hg
  have hna : ∀ W, Calls Try.prog 10 #[cel t n s] W fun e w' => e = .returned (.int .i64 (cNum t n s)) ∧ Below W.heap.size W w' := fun W => spec_toNum t n s hs W
  have hnb : ∀ W, Calls Try.prog 10 #[cel t' n' s'] W fun e w' => e = .returned (.int .i64 (cNum t' n' s')) ∧ Below W.heap.size W w' := fun W => spec_toNum t' n' s' hs' W
  generalize cNum t n s = x at *
  generalize cNum t' n' s' = y at *
  subst hy
  have hca : ∀ W, Calls Try.prog 13 #[.int .i64 x, .int .i64 0] W fun e w' => e = .returned (.tuple #[.int .i64 (arV 22 x 0), .bool false]) ∧ W = w' := fun W => by
    have e1 : arV 22 x 0 = mulV x 0 := by unfold arV; simp
    have e2 : mulB x 0 = false := by rw [← ho]; unfold arB; simp
    have := spec_mul x 0 W
    rw [e2] at this
    rw [e1]; exact this
  generalize arV 22 x 0 = z at *
  have HCA := Lib.hid hca; clear hca ho
  have HA := Lib.hid (((CB.new w (.int .i64 t) (.int .i64 n) (.string s)).keep ((Below.refl _ _).alloc (Nat.le_refl _) (.cells #[.int .i64 t', .int .i64 n', .string s'] 25)) (by simp)).keep ((Below.refl _ _).alloc (Nat.le_refl _) (.cells #[.int .i64 0, .int .i64 0, .string ⟨#[]⟩] 25)) (by simp; omega))
  have hb3 := (CB.new (w.alloc (.cells #[.int .i64 t, .int .i64 n, .string s] 25)) (.int .i64 t') (.int .i64 n') (.string s')).keep ((Below.refl _ _).alloc (Nat.le_refl _) (.cells #[.int .i64 0, .int .i64 0, .string ⟨#[]⟩] 25)) (by simp)
  simp only [World.size_alloc] at hb3
  have HBb := Lib.hid hb3; clear hb3
  have hz3 := CB.new ((w.alloc (.cells #[.int .i64 t, .int .i64 n, .string s] 25)).alloc (.cells #[.int .i64 t', .int .i64 n', .string s'] 25)) (.int .i64 0) (.int .i64 0) (.string ⟨#[]⟩)
  simp only [World.size_alloc] at hz3
  have HZ := Lib.hid hz3; clear hz3
  have HB0 := Lib.hid (below3 w (.cells #[.int .i64 t, .int .i64 n, .string s] 25) (.cells #[.int .i64 t', .int .i64 n', .string s'] 25) (.cells #[.int .i64 0, .int .i64 0, .string ⟨#[]⟩] 25))
  have HNA := Lib.hid hna; clear hna
  have HNB := Lib.hid hnb; clear hnb
  have HAK := Lib.hid ha; clear ha
  have HBK := Lib.hid hb; clear hb
  go_enter Try.func5, Try.ntmps5
  go_wp2_with fail
  refine (spec_cellOk t n s hs _).mono ?_
  rw [HAK.out]
  rintro e w1 ⟨rfl, hB⟩
  have HA1 := Lib.hid (HA.out.next hB)
  have HBb1 := Lib.hid (HBb.out.next hB)
  have HZ1 := Lib.hid (HZ.out.next hB)
  have HB1 := Lib.hid (HB0.out.trans (hB.mono HB0.out.size)); clear hB
  obtain ⟨a0, a1, a2⟩ := HA1.out.cells
  obtain ⟨b0, b1, b2⟩ := HBb1.out.cells
  go_wp2_with fail
  refine (spec_cellOk t' n' s' hs' _).mono ?_
  rw [HBK.out]
  rintro e w2 ⟨rfl, hB⟩
  have HA2 := Lib.hid (HA1.out.next hB)
  have HBb2 := Lib.hid (HBb1.out.next hB)
  have HZ2 := Lib.hid (HZ1.out.next hB)
  have HB2 := Lib.hid (HB1.out.trans (hB.mono HB1.out.size)); clear hB
  clear a0 a1 a2 b0 b1 b2
  obtain ⟨a0, a1, a2⟩ := HA2.out.cells
  obtain ⟨b0, b1, b2⟩ := HBb2.out.cells
  go_wp2_with fail
  refine (HNA.out _).mono ?_
  rintro e w3 ⟨rfl, hB⟩
  have HA3 := Lib.hid (HA2.out.next hB)
  have HBb3 := Lib.hid (HBb2.out.next hB)
  have HZ3 := Lib.hid (HZ2.out.next hB)
  have HB3 := Lib.hid (HB2.out.trans (hB.mono HB2.out.size)); clear hB
  clear a0 a1 a2 b0 b1 b2
  obtain ⟨a0, a1, a2⟩ := HA3.out.cells
  obtain ⟨b0, b1, b2⟩ := HBb3.out.cells
  go_wp2_with fail
  refine (HNB.out _).mono ?_
  rintro e w4 ⟨rfl, hB⟩
  have HA4 := Lib.hid (HA3.out.next hB)
  have HBb4 := Lib.hid (HBb3.out.next hB)
  have HZ4 := Lib.hid (HZ3.out.next hB)
  have HB4 := Lib.hid (HB3.out.trans (hB.mono HB3.out.size)); clear hB
  clear a0 a1 a2 b0 b1 b2
  obtain ⟨a0, a1, a2⟩ := HA4.out.cells
  obtain ⟨b0, b1, b2⟩ := HBb4.out.cells
  obtain ⟨z0, z1, z2⟩ := HZ4.out.cells
  obtain ⟨m0, m1, m2⟩ := HZ4.out.marks
  go_wp2_with fail
  refine (HCA.out _).mono ?_
  rintro e w5 ⟨rfl, rfl⟩
  go_wp2_with fail
  exact bodyPost_ret (cell_results2 rfl (HZ4.out.set3 _ _ _) rfl rfl) rfl ⟨rfl, below_set3 HB4.out (by omega) _ _ _⟩

set_option maxRecDepth 100000 in
theorem spec_mul_over (t n : Int) (s : ByteArray) (t' n' : Int) (s' : ByteArray) (hs : s.size ≤ 1048576) (hs' : s'.size ≤ 1048576) (ha : cOk t n s = true) (hb : cOk t' n' s' = true) (hy : cNum t' n' s' ≠ 0) (ho : arB 22 (cNum t n s) (cNum t' n' s') = false) (w : World) : Calls Try.prog 5 #[.int .i64 22, cel t n s, cel t' n' s'] w (ArIs 22 t n s t' n' s' w) := by
  have hg : (decide ((20 : Int) ≤ 22 ∧ (22 : Int) ≤ 24) && (cOk t n s && cOk t' n' s')) = true := by rw [ha, hb]; rfl
  obtain ⟨e1, e2, e3⟩ := ar_over hg (fun h => hy h.2) ho
  unfold ArIs
  rw [e1, e2, e3]; clear e1 e2 e3 hg
  have hna : ∀ W, Calls Try.prog 10 #[cel t n s] W fun e w' => e = .returned (.int .i64 (cNum t n s)) ∧ Below W.heap.size W w' := fun W => spec_toNum t n s hs W
  have hnb : ∀ W, Calls Try.prog 10 #[cel t' n' s'] W fun e w' => e = .returned (.int .i64 (cNum t' n' s')) ∧ Below W.heap.size W w' := fun W => spec_toNum t' n' s' hs' W
  generalize cNum t n s = x at *
  generalize cNum t' n' s' = y at *
  have hyb : (y == 0) = false := by simpa using hy
  have hca : ∀ W, Calls Try.prog 13 #[.int .i64 x, .int .i64 y] W fun e w' => e = .returned (.tuple #[.int .i64 (arV 22 x y), .bool false]) ∧ W = w' := fun W => by
    have e1 : arV 22 x y = mulV x y := by unfold arV; simp
    have e2 : mulB x y = false := by rw [← ho]; unfold arB; simp
    have := spec_mul x y W
    rw [e2] at this
    rw [e1]; exact this
  generalize arV 22 x y = z at *
  have HCA := Lib.hid hca; clear hca ho
  have HA := Lib.hid (((CB.new w (.int .i64 t) (.int .i64 n) (.string s)).keep ((Below.refl _ _).alloc (Nat.le_refl _) (.cells #[.int .i64 t', .int .i64 n', .string s'] 25)) (by simp)).keep ((Below.refl _ _).alloc (Nat.le_refl _) (.cells #[.int .i64 0, .int .i64 0, .string ⟨#[]⟩] 25)) (by simp; omega))
  have hb3 := (CB.new (w.alloc (.cells #[.int .i64 t, .int .i64 n, .string s] 25)) (.int .i64 t') (.int .i64 n') (.string s')).keep ((Below.refl _ _).alloc (Nat.le_refl _) (.cells #[.int .i64 0, .int .i64 0, .string ⟨#[]⟩] 25)) (by simp)
  simp only [World.size_alloc] at hb3
  have HBb := Lib.hid hb3; clear hb3
  have hz3 := CB.new ((w.alloc (.cells #[.int .i64 t, .int .i64 n, .string s] 25)).alloc (.cells #[.int .i64 t', .int .i64 n', .string s'] 25)) (.int .i64 0) (.int .i64 0) (.string ⟨#[]⟩)
  simp only [World.size_alloc] at hz3
  have HZ := Lib.hid hz3; clear hz3
  have HB0 := Lib.hid (below3 w (.cells #[.int .i64 t, .int .i64 n, .string s] 25) (.cells #[.int .i64 t', .int .i64 n', .string s'] 25) (.cells #[.int .i64 0, .int .i64 0, .string ⟨#[]⟩] 25))
  have HNA := Lib.hid hna; clear hna
  have HNB := Lib.hid hnb; clear hnb
  have HAK := Lib.hid ha; clear ha
  have HBK := Lib.hid hb; clear hb
  go_enter Try.func5, Try.ntmps5
  go_wp2_with fail
  refine (spec_cellOk t n s hs _).mono ?_
  rw [HAK.out]
  rintro e w1 ⟨rfl, hB⟩
  have HA1 := Lib.hid (HA.out.next hB)
  have HBb1 := Lib.hid (HBb.out.next hB)
  have HZ1 := Lib.hid (HZ.out.next hB)
  have HB1 := Lib.hid (HB0.out.trans (hB.mono HB0.out.size)); clear hB
  obtain ⟨a0, a1, a2⟩ := HA1.out.cells
  obtain ⟨b0, b1, b2⟩ := HBb1.out.cells
  go_wp2_with fail
  refine (spec_cellOk t' n' s' hs' _).mono ?_
  rw [HBK.out]
  rintro e w2 ⟨rfl, hB⟩
  have HA2 := Lib.hid (HA1.out.next hB)
  have HBb2 := Lib.hid (HBb1.out.next hB)
  have HZ2 := Lib.hid (HZ1.out.next hB)
  have HB2 := Lib.hid (HB1.out.trans (hB.mono HB1.out.size)); clear hB
  clear a0 a1 a2 b0 b1 b2
  obtain ⟨a0, a1, a2⟩ := HA2.out.cells
  obtain ⟨b0, b1, b2⟩ := HBb2.out.cells
  go_wp2_with fail
  refine (HNA.out _).mono ?_
  rintro e w3 ⟨rfl, hB⟩
  have HA3 := Lib.hid (HA2.out.next hB)
  have HBb3 := Lib.hid (HBb2.out.next hB)
  have HZ3 := Lib.hid (HZ2.out.next hB)
  have HB3 := Lib.hid (HB2.out.trans (hB.mono HB2.out.size)); clear hB
  clear a0 a1 a2 b0 b1 b2
  obtain ⟨a0, a1, a2⟩ := HA3.out.cells
  obtain ⟨b0, b1, b2⟩ := HBb3.out.cells
  go_wp2_with fail
  refine (HNB.out _).mono ?_
  rintro e w4 ⟨rfl, hB⟩
  have HA4 := Lib.hid (HA3.out.next hB)
  have HBb4 := Lib.hid (HBb3.out.next hB)
  have HZ4 := Lib.hid (HZ3.out.next hB)
  have HB4 := Lib.hid (HB3.out.trans (hB.mono HB3.out.size)); clear hB
  clear a0 a1 a2 b0 b1 b2
  obtain ⟨a0, a1, a2⟩ := HA4.out.cells
  obtain ⟨b0, b1, b2⟩ := HBb4.out.cells
  obtain ⟨z0, z1, z2⟩ := HZ4.out.cells
  obtain ⟨m0, m1, m2⟩ := HZ4.out.marks
  go_wp2_with fail
  refine (HCA.out _).mono ?_
  rintro e w5 ⟨rfl, rfl⟩
  go_wp2_with fail
  exact bodyPost_ret (cell_results2 rfl (HZ4.out.set3 _ _ _) rfl rfl) rfl ⟨rfl, below_set3 HB4.out (by omega) _ _ _⟩

set_option maxRecDepth 100000 in
theorem spec_div_good (t n : Int) (s : ByteArray) (t' n' : Int) (s' : ByteArray) (hs : s.size ≤ 1048576) (hs' : s'.size ≤ 1048576) (ha : cOk t n s = true) (hb : cOk t' n' s' = true) (ho : arB 23 (cNum t n s) (cNum t' n' s') = true) (w : World) : Calls Try.prog 5 #[.int .i64 23, cel t n s, cel t' n' s'] w (ArIs 23 t n s t' n' s' w) := by
  have hg : (decide ((20 : Int) ≤ 23 ∧ (23 : Int) ≤ 24) && (cOk t n s && cOk t' n' s')) = true := by rw [ha, hb]; rfl
  obtain ⟨e1, e2, e3⟩ := ar_good hg ho
  unfold ArIs
  rw [e1, e2, e3]; clear e1 e2 e3 hg
  have hna : ∀ W, Calls Try.prog 10 #[cel t n s] W fun e w' => e = .returned (.int .i64 (cNum t n s)) ∧ Below W.heap.size W w' := fun W => spec_toNum t n s hs W
  have hnb : ∀ W, Calls Try.prog 10 #[cel t' n' s'] W fun e w' => e = .returned (.int .i64 (cNum t' n' s')) ∧ Below W.heap.size W w' := fun W => spec_toNum t' n' s' hs' W
  generalize cNum t n s = x at *
  generalize cNum t' n' s' = y at *
  have hca : ∀ W, Calls Try.prog 14 #[.int .i64 x, .int .i64 y] W fun e w' => e = .returned (.tuple #[.int .i64 (arV 23 x y), .bool true]) ∧ W = w' := fun W => by
    have e1 : arV 23 x y = divV x y := by unfold arV; simp
    have e2 : divB x y = true := by rw [← ho]; unfold arB; simp
    have := spec_div x y W
    rw [e2] at this
    rw [e1]; exact this
  generalize arV 23 x y = z at *
  have HCA := Lib.hid hca; clear hca ho
  have HA := Lib.hid (((CB.new w (.int .i64 t) (.int .i64 n) (.string s)).keep ((Below.refl _ _).alloc (Nat.le_refl _) (.cells #[.int .i64 t', .int .i64 n', .string s'] 25)) (by simp)).keep ((Below.refl _ _).alloc (Nat.le_refl _) (.cells #[.int .i64 0, .int .i64 0, .string ⟨#[]⟩] 25)) (by simp; omega))
  have hb3 := (CB.new (w.alloc (.cells #[.int .i64 t, .int .i64 n, .string s] 25)) (.int .i64 t') (.int .i64 n') (.string s')).keep ((Below.refl _ _).alloc (Nat.le_refl _) (.cells #[.int .i64 0, .int .i64 0, .string ⟨#[]⟩] 25)) (by simp)
  simp only [World.size_alloc] at hb3
  have HBb := Lib.hid hb3; clear hb3
  have hz3 := CB.new ((w.alloc (.cells #[.int .i64 t, .int .i64 n, .string s] 25)).alloc (.cells #[.int .i64 t', .int .i64 n', .string s'] 25)) (.int .i64 0) (.int .i64 0) (.string ⟨#[]⟩)
  simp only [World.size_alloc] at hz3
  have HZ := Lib.hid hz3; clear hz3
  have HB0 := Lib.hid (below3 w (.cells #[.int .i64 t, .int .i64 n, .string s] 25) (.cells #[.int .i64 t', .int .i64 n', .string s'] 25) (.cells #[.int .i64 0, .int .i64 0, .string ⟨#[]⟩] 25))
  have HNA := Lib.hid hna; clear hna
  have HNB := Lib.hid hnb; clear hnb
  have HAK := Lib.hid ha; clear ha
  have HBK := Lib.hid hb; clear hb
  go_enter Try.func5, Try.ntmps5
  go_wp2_with fail
  refine (spec_cellOk t n s hs _).mono ?_
  rw [HAK.out]
  rintro e w1 ⟨rfl, hB⟩
  have HA1 := Lib.hid (HA.out.next hB)
  have HBb1 := Lib.hid (HBb.out.next hB)
  have HZ1 := Lib.hid (HZ.out.next hB)
  have HB1 := Lib.hid (HB0.out.trans (hB.mono HB0.out.size)); clear hB
  obtain ⟨a0, a1, a2⟩ := HA1.out.cells
  obtain ⟨b0, b1, b2⟩ := HBb1.out.cells
  go_wp2_with fail
  refine (spec_cellOk t' n' s' hs' _).mono ?_
  rw [HBK.out]
  rintro e w2 ⟨rfl, hB⟩
  have HA2 := Lib.hid (HA1.out.next hB)
  have HBb2 := Lib.hid (HBb1.out.next hB)
  have HZ2 := Lib.hid (HZ1.out.next hB)
  have HB2 := Lib.hid (HB1.out.trans (hB.mono HB1.out.size)); clear hB
  clear a0 a1 a2 b0 b1 b2
  obtain ⟨a0, a1, a2⟩ := HA2.out.cells
  obtain ⟨b0, b1, b2⟩ := HBb2.out.cells
  go_wp2_with fail
  refine (HNA.out _).mono ?_
  rintro e w3 ⟨rfl, hB⟩
  have HA3 := Lib.hid (HA2.out.next hB)
  have HBb3 := Lib.hid (HBb2.out.next hB)
  have HZ3 := Lib.hid (HZ2.out.next hB)
  have HB3 := Lib.hid (HB2.out.trans (hB.mono HB2.out.size)); clear hB
  clear a0 a1 a2 b0 b1 b2
  obtain ⟨a0, a1, a2⟩ := HA3.out.cells
  obtain ⟨b0, b1, b2⟩ := HBb3.out.cells
  go_wp2_with fail
  refine (HNB.out _).mono ?_
  rintro e w4 ⟨rfl, hB⟩
  have HA4 := Lib.hid (HA3.out.next hB)
  have HBb4 := Lib.hid (HBb3.out.next hB)
  have HZ4 := Lib.hid (HZ3.out.next hB)
  have HB4 := Lib.hid (HB3.out.trans (hB.mono HB3.out.size)); clear hB
  clear a0 a1 a2 b0 b1 b2
  obtain ⟨a0, a1, a2⟩ := HA4.out.cells
  obtain ⟨b0, b1, b2⟩ := HBb4.out.cells
  obtain ⟨z0, z1, z2⟩ := HZ4.out.cells
  obtain ⟨m0, m1, m2⟩ := HZ4.out.marks
  go_wp2_with fail
  refine (HCA.out _).mono ?_
  rintro e w5 ⟨rfl, rfl⟩
  go_wp2_with fail
  exact bodyPost_ret (cell_results2 rfl (HZ4.out.set3 _ _ _) rfl rfl) rfl ⟨rfl, below_set3 HB4.out (by omega) _ _ _⟩

set_option maxRecDepth 100000 in
theorem spec_div_zero (t n : Int) (s : ByteArray) (t' n' : Int) (s' : ByteArray) (hs : s.size ≤ 1048576) (hs' : s'.size ≤ 1048576) (ha : cOk t n s = true) (hb : cOk t' n' s' = true) (hy : cNum t' n' s' = 0) (w : World) : Calls Try.prog 5 #[.int .i64 23, cel t n s, cel t' n' s'] w (ArIs 23 t n s t' n' s' w) := by
  have hg : (decide ((20 : Int) ≤ 23 ∧ (23 : Int) ≤ 24) && (cOk t n s && cOk t' n' s')) = true := by rw [ha, hb]; rfl
  obtain ⟨e1, e2, e3⟩ := ar_zero hg (by omega) hy
  unfold ArIs
  rw [e1, e2, e3]; clear e1 e2 e3 hg
  have hna : ∀ W, Calls Try.prog 10 #[cel t n s] W fun e w' => e = .returned (.int .i64 (cNum t n s)) ∧ Below W.heap.size W w' := fun W => spec_toNum t n s hs W
  have hnb : ∀ W, Calls Try.prog 10 #[cel t' n' s'] W fun e w' => e = .returned (.int .i64 (cNum t' n' s')) ∧ Below W.heap.size W w' := fun W => spec_toNum t' n' s' hs' W
  have ho := arB_zero (k := 23) (a := cNum t n s) (by omega)
  generalize cNum t n s = x at *
  generalize cNum t' n' s' = y at *
  subst hy
  have hca : ∀ W, Calls Try.prog 14 #[.int .i64 x, .int .i64 0] W fun e w' => e = .returned (.tuple #[.int .i64 (arV 23 x 0), .bool false]) ∧ W = w' := fun W => by
    have e1 : arV 23 x 0 = divV x 0 := by unfold arV; simp
    have e2 : divB x 0 = false := by rw [← ho]; unfold arB; simp
    have := spec_div x 0 W
    rw [e2] at this
    rw [e1]; exact this
  generalize arV 23 x 0 = z at *
  have HCA := Lib.hid hca; clear hca ho
  have HA := Lib.hid (((CB.new w (.int .i64 t) (.int .i64 n) (.string s)).keep ((Below.refl _ _).alloc (Nat.le_refl _) (.cells #[.int .i64 t', .int .i64 n', .string s'] 25)) (by simp)).keep ((Below.refl _ _).alloc (Nat.le_refl _) (.cells #[.int .i64 0, .int .i64 0, .string ⟨#[]⟩] 25)) (by simp; omega))
  have hb3 := (CB.new (w.alloc (.cells #[.int .i64 t, .int .i64 n, .string s] 25)) (.int .i64 t') (.int .i64 n') (.string s')).keep ((Below.refl _ _).alloc (Nat.le_refl _) (.cells #[.int .i64 0, .int .i64 0, .string ⟨#[]⟩] 25)) (by simp)
  simp only [World.size_alloc] at hb3
  have HBb := Lib.hid hb3; clear hb3
  have hz3 := CB.new ((w.alloc (.cells #[.int .i64 t, .int .i64 n, .string s] 25)).alloc (.cells #[.int .i64 t', .int .i64 n', .string s'] 25)) (.int .i64 0) (.int .i64 0) (.string ⟨#[]⟩)
  simp only [World.size_alloc] at hz3
  have HZ := Lib.hid hz3; clear hz3
  have HB0 := Lib.hid (below3 w (.cells #[.int .i64 t, .int .i64 n, .string s] 25) (.cells #[.int .i64 t', .int .i64 n', .string s'] 25) (.cells #[.int .i64 0, .int .i64 0, .string ⟨#[]⟩] 25))
  have HNA := Lib.hid hna; clear hna
  have HNB := Lib.hid hnb; clear hnb
  have HAK := Lib.hid ha; clear ha
  have HBK := Lib.hid hb; clear hb
  go_enter Try.func5, Try.ntmps5
  go_wp2_with fail
  refine (spec_cellOk t n s hs _).mono ?_
  rw [HAK.out]
  rintro e w1 ⟨rfl, hB⟩
  have HA1 := Lib.hid (HA.out.next hB)
  have HBb1 := Lib.hid (HBb.out.next hB)
  have HZ1 := Lib.hid (HZ.out.next hB)
  have HB1 := Lib.hid (HB0.out.trans (hB.mono HB0.out.size)); clear hB
  obtain ⟨a0, a1, a2⟩ := HA1.out.cells
  obtain ⟨b0, b1, b2⟩ := HBb1.out.cells
  go_wp2_with fail
  refine (spec_cellOk t' n' s' hs' _).mono ?_
  rw [HBK.out]
  rintro e w2 ⟨rfl, hB⟩
  have HA2 := Lib.hid (HA1.out.next hB)
  have HBb2 := Lib.hid (HBb1.out.next hB)
  have HZ2 := Lib.hid (HZ1.out.next hB)
  have HB2 := Lib.hid (HB1.out.trans (hB.mono HB1.out.size)); clear hB
  clear a0 a1 a2 b0 b1 b2
  obtain ⟨a0, a1, a2⟩ := HA2.out.cells
  obtain ⟨b0, b1, b2⟩ := HBb2.out.cells
  go_wp2_with fail
  refine (HNA.out _).mono ?_
  rintro e w3 ⟨rfl, hB⟩
  have HA3 := Lib.hid (HA2.out.next hB)
  have HBb3 := Lib.hid (HBb2.out.next hB)
  have HZ3 := Lib.hid (HZ2.out.next hB)
  have HB3 := Lib.hid (HB2.out.trans (hB.mono HB2.out.size)); clear hB
  clear a0 a1 a2 b0 b1 b2
  obtain ⟨a0, a1, a2⟩ := HA3.out.cells
  obtain ⟨b0, b1, b2⟩ := HBb3.out.cells
  go_wp2_with fail
  refine (HNB.out _).mono ?_
  rintro e w4 ⟨rfl, hB⟩
  have HA4 := Lib.hid (HA3.out.next hB)
  have HBb4 := Lib.hid (HBb3.out.next hB)
  have HZ4 := Lib.hid (HZ3.out.next hB)
  have HB4 := Lib.hid (HB3.out.trans (hB.mono HB3.out.size)); clear hB
  clear a0 a1 a2 b0 b1 b2
  obtain ⟨a0, a1, a2⟩ := HA4.out.cells
  obtain ⟨b0, b1, b2⟩ := HBb4.out.cells
  obtain ⟨z0, z1, z2⟩ := HZ4.out.cells
  obtain ⟨m0, m1, m2⟩ := HZ4.out.marks
  go_wp2_with fail
  refine (HCA.out _).mono ?_
  rintro e w5 ⟨rfl, rfl⟩
  go_wp2_with fail
  exact bodyPost_ret (cell_results2 rfl (HZ4.out.set3 _ _ _) rfl rfl) rfl ⟨rfl, below_set3 HB4.out (by omega) _ _ _⟩

set_option maxRecDepth 100000 in
theorem spec_div_over (t n : Int) (s : ByteArray) (t' n' : Int) (s' : ByteArray) (hs : s.size ≤ 1048576) (hs' : s'.size ≤ 1048576) (ha : cOk t n s = true) (hb : cOk t' n' s' = true) (hy : cNum t' n' s' ≠ 0) (ho : arB 23 (cNum t n s) (cNum t' n' s') = false) (w : World) : Calls Try.prog 5 #[.int .i64 23, cel t n s, cel t' n' s'] w (ArIs 23 t n s t' n' s' w) := by
  have hg : (decide ((20 : Int) ≤ 23 ∧ (23 : Int) ≤ 24) && (cOk t n s && cOk t' n' s')) = true := by rw [ha, hb]; rfl
  obtain ⟨e1, e2, e3⟩ := ar_over hg (fun h => hy h.2) ho
  unfold ArIs
  rw [e1, e2, e3]; clear e1 e2 e3 hg
  have hna : ∀ W, Calls Try.prog 10 #[cel t n s] W fun e w' => e = .returned (.int .i64 (cNum t n s)) ∧ Below W.heap.size W w' := fun W => spec_toNum t n s hs W
  have hnb : ∀ W, Calls Try.prog 10 #[cel t' n' s'] W fun e w' => e = .returned (.int .i64 (cNum t' n' s')) ∧ Below W.heap.size W w' := fun W => spec_toNum t' n' s' hs' W
  generalize cNum t n s = x at *
  generalize cNum t' n' s' = y at *
  have hyb : (y == 0) = false := by simpa using hy
  have hca : ∀ W, Calls Try.prog 14 #[.int .i64 x, .int .i64 y] W fun e w' => e = .returned (.tuple #[.int .i64 (arV 23 x y), .bool false]) ∧ W = w' := fun W => by
    have e1 : arV 23 x y = divV x y := by unfold arV; simp
    have e2 : divB x y = false := by rw [← ho]; unfold arB; simp
    have := spec_div x y W
    rw [e2] at this
    rw [e1]; exact this
  generalize arV 23 x y = z at *
  have HCA := Lib.hid hca; clear hca ho
  have HA := Lib.hid (((CB.new w (.int .i64 t) (.int .i64 n) (.string s)).keep ((Below.refl _ _).alloc (Nat.le_refl _) (.cells #[.int .i64 t', .int .i64 n', .string s'] 25)) (by simp)).keep ((Below.refl _ _).alloc (Nat.le_refl _) (.cells #[.int .i64 0, .int .i64 0, .string ⟨#[]⟩] 25)) (by simp; omega))
  have hb3 := (CB.new (w.alloc (.cells #[.int .i64 t, .int .i64 n, .string s] 25)) (.int .i64 t') (.int .i64 n') (.string s')).keep ((Below.refl _ _).alloc (Nat.le_refl _) (.cells #[.int .i64 0, .int .i64 0, .string ⟨#[]⟩] 25)) (by simp)
  simp only [World.size_alloc] at hb3
  have HBb := Lib.hid hb3; clear hb3
  have hz3 := CB.new ((w.alloc (.cells #[.int .i64 t, .int .i64 n, .string s] 25)).alloc (.cells #[.int .i64 t', .int .i64 n', .string s'] 25)) (.int .i64 0) (.int .i64 0) (.string ⟨#[]⟩)
  simp only [World.size_alloc] at hz3
  have HZ := Lib.hid hz3; clear hz3
  have HB0 := Lib.hid (below3 w (.cells #[.int .i64 t, .int .i64 n, .string s] 25) (.cells #[.int .i64 t', .int .i64 n', .string s'] 25) (.cells #[.int .i64 0, .int .i64 0, .string ⟨#[]⟩] 25))
  have HNA := Lib.hid hna; clear hna
  have HNB := Lib.hid hnb; clear hnb
  have HAK := Lib.hid ha; clear ha
  have HBK := Lib.hid hb; clear hb
  go_enter Try.func5, Try.ntmps5
  go_wp2_with fail
  refine (spec_cellOk t n s hs _).mono ?_
  rw [HAK.out]
  rintro e w1 ⟨rfl, hB⟩
  have HA1 := Lib.hid (HA.out.next hB)
  have HBb1 := Lib.hid (HBb.out.next hB)
  have HZ1 := Lib.hid (HZ.out.next hB)
  have HB1 := Lib.hid (HB0.out.trans (hB.mono HB0.out.size)); clear hB
  obtain ⟨a0, a1, a2⟩ := HA1.out.cells
  obtain ⟨b0, b1, b2⟩ := HBb1.out.cells
  go_wp2_with fail
  refine (spec_cellOk t' n' s' hs' _).mono ?_
  rw [HBK.out]
  rintro e w2 ⟨rfl, hB⟩
  have HA2 := Lib.hid (HA1.out.next hB)
  have HBb2 := Lib.hid (HBb1.out.next hB)
  have HZ2 := Lib.hid (HZ1.out.next hB)
  have HB2 := Lib.hid (HB1.out.trans (hB.mono HB1.out.size)); clear hB
  clear a0 a1 a2 b0 b1 b2
  obtain ⟨a0, a1, a2⟩ := HA2.out.cells
  obtain ⟨b0, b1, b2⟩ := HBb2.out.cells
  go_wp2_with fail
  refine (HNA.out _).mono ?_
  rintro e w3 ⟨rfl, hB⟩
  have HA3 := Lib.hid (HA2.out.next hB)
  have HBb3 := Lib.hid (HBb2.out.next hB)
  have HZ3 := Lib.hid (HZ2.out.next hB)
  have HB3 := Lib.hid (HB2.out.trans (hB.mono HB2.out.size)); clear hB
  clear a0 a1 a2 b0 b1 b2
  obtain ⟨a0, a1, a2⟩ := HA3.out.cells
  obtain ⟨b0, b1, b2⟩ := HBb3.out.cells
  go_wp2_with fail
  refine (HNB.out _).mono ?_
  rintro e w4 ⟨rfl, hB⟩
  have HA4 := Lib.hid (HA3.out.next hB)
  have HBb4 := Lib.hid (HBb3.out.next hB)
  have HZ4 := Lib.hid (HZ3.out.next hB)
  have HB4 := Lib.hid (HB3.out.trans (hB.mono HB3.out.size)); clear hB
  clear a0 a1 a2 b0 b1 b2
  obtain ⟨a0, a1, a2⟩ := HA4.out.cells
  obtain ⟨b0, b1, b2⟩ := HBb4.out.cells
  obtain ⟨z0, z1, z2⟩ := HZ4.out.cells
  obtain ⟨m0, m1, m2⟩ := HZ4.out.marks
  go_wp2_with fail
  refine (HCA.out _).mono ?_
  rintro e w5 ⟨rfl, rfl⟩
  go_wp2_with fail
  exact bodyPost_ret (cell_results2 rfl (HZ4.out.set3 _ _ _) rfl rfl) rfl ⟨rfl, below_set3 HB4.out (by omega) _ _ _⟩

set_option maxRecDepth 100000 in
theorem spec_mod_good (t n : Int) (s : ByteArray) (t' n' : Int) (s' : ByteArray) (hs : s.size ≤ 1048576) (hs' : s'.size ≤ 1048576) (ha : cOk t n s = true) (hb : cOk t' n' s' = true) (ho : arB 24 (cNum t n s) (cNum t' n' s') = true) (w : World) : Calls Try.prog 5 #[.int .i64 24, cel t n s, cel t' n' s'] w (ArIs 24 t n s t' n' s' w) := by
  have hg : (decide ((20 : Int) ≤ 24 ∧ (24 : Int) ≤ 24) && (cOk t n s && cOk t' n' s')) = true := by rw [ha, hb]; rfl
  obtain ⟨e1, e2, e3⟩ := ar_good hg ho
  unfold ArIs
  rw [e1, e2, e3]; clear e1 e2 e3 hg
  have hna : ∀ W, Calls Try.prog 10 #[cel t n s] W fun e w' => e = .returned (.int .i64 (cNum t n s)) ∧ Below W.heap.size W w' := fun W => spec_toNum t n s hs W
  have hnb : ∀ W, Calls Try.prog 10 #[cel t' n' s'] W fun e w' => e = .returned (.int .i64 (cNum t' n' s')) ∧ Below W.heap.size W w' := fun W => spec_toNum t' n' s' hs' W
  generalize cNum t n s = x at *
  generalize cNum t' n' s' = y at *
  have hca : ∀ W, Calls Try.prog 15 #[.int .i64 x, .int .i64 y] W fun e w' => e = .returned (.tuple #[.int .i64 (arV 24 x y), .bool true]) ∧ W = w' := fun W => by
    have e1 : arV 24 x y = modV x y := by unfold arV; simp
    have e2 : modB x y = true := by rw [← ho]; unfold arB; simp
    have := spec_mod x y W
    rw [e2] at this
    rw [e1]; exact this
  generalize arV 24 x y = z at *
  have HCA := Lib.hid hca; clear hca ho
  have HA := Lib.hid (((CB.new w (.int .i64 t) (.int .i64 n) (.string s)).keep ((Below.refl _ _).alloc (Nat.le_refl _) (.cells #[.int .i64 t', .int .i64 n', .string s'] 25)) (by simp)).keep ((Below.refl _ _).alloc (Nat.le_refl _) (.cells #[.int .i64 0, .int .i64 0, .string ⟨#[]⟩] 25)) (by simp; omega))
  have hb3 := (CB.new (w.alloc (.cells #[.int .i64 t, .int .i64 n, .string s] 25)) (.int .i64 t') (.int .i64 n') (.string s')).keep ((Below.refl _ _).alloc (Nat.le_refl _) (.cells #[.int .i64 0, .int .i64 0, .string ⟨#[]⟩] 25)) (by simp)
  simp only [World.size_alloc] at hb3
  have HBb := Lib.hid hb3; clear hb3
  have hz3 := CB.new ((w.alloc (.cells #[.int .i64 t, .int .i64 n, .string s] 25)).alloc (.cells #[.int .i64 t', .int .i64 n', .string s'] 25)) (.int .i64 0) (.int .i64 0) (.string ⟨#[]⟩)
  simp only [World.size_alloc] at hz3
  have HZ := Lib.hid hz3; clear hz3
  have HB0 := Lib.hid (below3 w (.cells #[.int .i64 t, .int .i64 n, .string s] 25) (.cells #[.int .i64 t', .int .i64 n', .string s'] 25) (.cells #[.int .i64 0, .int .i64 0, .string ⟨#[]⟩] 25))
  have HNA := Lib.hid hna; clear hna
  have HNB := Lib.hid hnb; clear hnb
  have HAK := Lib.hid ha; clear ha
  have HBK := Lib.hid hb; clear hb
  go_enter Try.func5, Try.ntmps5
  go_wp2_with fail
  refine (spec_cellOk t n s hs _).mono ?_
  rw [HAK.out]
  rintro e w1 ⟨rfl, hB⟩
  have HA1 := Lib.hid (HA.out.next hB)
  have HBb1 := Lib.hid (HBb.out.next hB)
  have HZ1 := Lib.hid (HZ.out.next hB)
  have HB1 := Lib.hid (HB0.out.trans (hB.mono HB0.out.size)); clear hB
  obtain ⟨a0, a1, a2⟩ := HA1.out.cells
  obtain ⟨b0, b1, b2⟩ := HBb1.out.cells
  go_wp2_with fail
  refine (spec_cellOk t' n' s' hs' _).mono ?_
  rw [HBK.out]
  rintro e w2 ⟨rfl, hB⟩
  have HA2 := Lib.hid (HA1.out.next hB)
  have HBb2 := Lib.hid (HBb1.out.next hB)
  have HZ2 := Lib.hid (HZ1.out.next hB)
  have HB2 := Lib.hid (HB1.out.trans (hB.mono HB1.out.size)); clear hB
  clear a0 a1 a2 b0 b1 b2
  obtain ⟨a0, a1, a2⟩ := HA2.out.cells
  obtain ⟨b0, b1, b2⟩ := HBb2.out.cells
  go_wp2_with fail
  refine (HNA.out _).mono ?_
  rintro e w3 ⟨rfl, hB⟩
  have HA3 := Lib.hid (HA2.out.next hB)
  have HBb3 := Lib.hid (HBb2.out.next hB)
  have HZ3 := Lib.hid (HZ2.out.next hB)
  have HB3 := Lib.hid (HB2.out.trans (hB.mono HB2.out.size)); clear hB
  clear a0 a1 a2 b0 b1 b2
  obtain ⟨a0, a1, a2⟩ := HA3.out.cells
  obtain ⟨b0, b1, b2⟩ := HBb3.out.cells
  go_wp2_with fail
  refine (HNB.out _).mono ?_
  rintro e w4 ⟨rfl, hB⟩
  have HA4 := Lib.hid (HA3.out.next hB)
  have HBb4 := Lib.hid (HBb3.out.next hB)
  have HZ4 := Lib.hid (HZ3.out.next hB)
  have HB4 := Lib.hid (HB3.out.trans (hB.mono HB3.out.size)); clear hB
  clear a0 a1 a2 b0 b1 b2
  obtain ⟨a0, a1, a2⟩ := HA4.out.cells
  obtain ⟨b0, b1, b2⟩ := HBb4.out.cells
  obtain ⟨z0, z1, z2⟩ := HZ4.out.cells
  obtain ⟨m0, m1, m2⟩ := HZ4.out.marks
  go_wp2_with fail
  refine (HCA.out _).mono ?_
  rintro e w5 ⟨rfl, rfl⟩
  go_wp2_with fail
  exact bodyPost_ret (cell_results2 rfl (HZ4.out.set3 _ _ _) rfl rfl) rfl ⟨rfl, below_set3 HB4.out (by omega) _ _ _⟩

set_option maxRecDepth 100000 in
theorem spec_mod_zero (t n : Int) (s : ByteArray) (t' n' : Int) (s' : ByteArray) (hs : s.size ≤ 1048576) (hs' : s'.size ≤ 1048576) (ha : cOk t n s = true) (hb : cOk t' n' s' = true) (hy : cNum t' n' s' = 0) (w : World) : Calls Try.prog 5 #[.int .i64 24, cel t n s, cel t' n' s'] w (ArIs 24 t n s t' n' s' w) := by
  have hg : (decide ((20 : Int) ≤ 24 ∧ (24 : Int) ≤ 24) && (cOk t n s && cOk t' n' s')) = true := by rw [ha, hb]; rfl
  obtain ⟨e1, e2, e3⟩ := ar_zero hg (by omega) hy
  unfold ArIs
  rw [e1, e2, e3]; clear e1 e2 e3 hg
  have hna : ∀ W, Calls Try.prog 10 #[cel t n s] W fun e w' => e = .returned (.int .i64 (cNum t n s)) ∧ Below W.heap.size W w' := fun W => spec_toNum t n s hs W
  have hnb : ∀ W, Calls Try.prog 10 #[cel t' n' s'] W fun e w' => e = .returned (.int .i64 (cNum t' n' s')) ∧ Below W.heap.size W w' := fun W => spec_toNum t' n' s' hs' W
  have ho := arB_zero (k := 24) (a := cNum t n s) (by omega)
  generalize cNum t n s = x at *
  generalize cNum t' n' s' = y at *
  subst hy
  have hca : ∀ W, Calls Try.prog 15 #[.int .i64 x, .int .i64 0] W fun e w' => e = .returned (.tuple #[.int .i64 (arV 24 x 0), .bool false]) ∧ W = w' := fun W => by
    have e1 : arV 24 x 0 = modV x 0 := by unfold arV; simp
    have e2 : modB x 0 = false := by rw [← ho]; unfold arB; simp
    have := spec_mod x 0 W
    rw [e2] at this
    rw [e1]; exact this
  generalize arV 24 x 0 = z at *
  have HCA := Lib.hid hca; clear hca ho
  have HA := Lib.hid (((CB.new w (.int .i64 t) (.int .i64 n) (.string s)).keep ((Below.refl _ _).alloc (Nat.le_refl _) (.cells #[.int .i64 t', .int .i64 n', .string s'] 25)) (by simp)).keep ((Below.refl _ _).alloc (Nat.le_refl _) (.cells #[.int .i64 0, .int .i64 0, .string ⟨#[]⟩] 25)) (by simp; omega))
  have hb3 := (CB.new (w.alloc (.cells #[.int .i64 t, .int .i64 n, .string s] 25)) (.int .i64 t') (.int .i64 n') (.string s')).keep ((Below.refl _ _).alloc (Nat.le_refl _) (.cells #[.int .i64 0, .int .i64 0, .string ⟨#[]⟩] 25)) (by simp)
  simp only [World.size_alloc] at hb3
  have HBb := Lib.hid hb3; clear hb3
  have hz3 := CB.new ((w.alloc (.cells #[.int .i64 t, .int .i64 n, .string s] 25)).alloc (.cells #[.int .i64 t', .int .i64 n', .string s'] 25)) (.int .i64 0) (.int .i64 0) (.string ⟨#[]⟩)
  simp only [World.size_alloc] at hz3
  have HZ := Lib.hid hz3; clear hz3
  have HB0 := Lib.hid (below3 w (.cells #[.int .i64 t, .int .i64 n, .string s] 25) (.cells #[.int .i64 t', .int .i64 n', .string s'] 25) (.cells #[.int .i64 0, .int .i64 0, .string ⟨#[]⟩] 25))
  have HNA := Lib.hid hna; clear hna
  have HNB := Lib.hid hnb; clear hnb
  have HAK := Lib.hid ha; clear ha
  have HBK := Lib.hid hb; clear hb
  go_enter Try.func5, Try.ntmps5
  go_wp2_with fail
  refine (spec_cellOk t n s hs _).mono ?_
  rw [HAK.out]
  rintro e w1 ⟨rfl, hB⟩
  have HA1 := Lib.hid (HA.out.next hB)
  have HBb1 := Lib.hid (HBb.out.next hB)
  have HZ1 := Lib.hid (HZ.out.next hB)
  have HB1 := Lib.hid (HB0.out.trans (hB.mono HB0.out.size)); clear hB
  obtain ⟨a0, a1, a2⟩ := HA1.out.cells
  obtain ⟨b0, b1, b2⟩ := HBb1.out.cells
  go_wp2_with fail
  refine (spec_cellOk t' n' s' hs' _).mono ?_
  rw [HBK.out]
  rintro e w2 ⟨rfl, hB⟩
  have HA2 := Lib.hid (HA1.out.next hB)
  have HBb2 := Lib.hid (HBb1.out.next hB)
  have HZ2 := Lib.hid (HZ1.out.next hB)
  have HB2 := Lib.hid (HB1.out.trans (hB.mono HB1.out.size)); clear hB
  clear a0 a1 a2 b0 b1 b2
  obtain ⟨a0, a1, a2⟩ := HA2.out.cells
  obtain ⟨b0, b1, b2⟩ := HBb2.out.cells
  go_wp2_with fail
  refine (HNA.out _).mono ?_
  rintro e w3 ⟨rfl, hB⟩
  have HA3 := Lib.hid (HA2.out.next hB)
  have HBb3 := Lib.hid (HBb2.out.next hB)
  have HZ3 := Lib.hid (HZ2.out.next hB)
  have HB3 := Lib.hid (HB2.out.trans (hB.mono HB2.out.size)); clear hB
  clear a0 a1 a2 b0 b1 b2
  obtain ⟨a0, a1, a2⟩ := HA3.out.cells
  obtain ⟨b0, b1, b2⟩ := HBb3.out.cells
  go_wp2_with fail
  refine (HNB.out _).mono ?_
  rintro e w4 ⟨rfl, hB⟩
  have HA4 := Lib.hid (HA3.out.next hB)
  have HBb4 := Lib.hid (HBb3.out.next hB)
  have HZ4 := Lib.hid (HZ3.out.next hB)
  have HB4 := Lib.hid (HB3.out.trans (hB.mono HB3.out.size)); clear hB
  clear a0 a1 a2 b0 b1 b2
  obtain ⟨a0, a1, a2⟩ := HA4.out.cells
  obtain ⟨b0, b1, b2⟩ := HBb4.out.cells
  obtain ⟨z0, z1, z2⟩ := HZ4.out.cells
  obtain ⟨m0, m1, m2⟩ := HZ4.out.marks
  go_wp2_with fail
  refine (HCA.out _).mono ?_
  rintro e w5 ⟨rfl, rfl⟩
  go_wp2_with fail
  exact bodyPost_ret (cell_results2 rfl (HZ4.out.set3 _ _ _) rfl rfl) rfl ⟨rfl, below_set3 HB4.out (by omega) _ _ _⟩

set_option maxRecDepth 100000 in
theorem spec_mod_over (t n : Int) (s : ByteArray) (t' n' : Int) (s' : ByteArray) (hs : s.size ≤ 1048576) (hs' : s'.size ≤ 1048576) (ha : cOk t n s = true) (hb : cOk t' n' s' = true) (hy : cNum t' n' s' ≠ 0) (ho : arB 24 (cNum t n s) (cNum t' n' s') = false) (w : World) : Calls Try.prog 5 #[.int .i64 24, cel t n s, cel t' n' s'] w (ArIs 24 t n s t' n' s' w) := by
  have hg : (decide ((20 : Int) ≤ 24 ∧ (24 : Int) ≤ 24) && (cOk t n s && cOk t' n' s')) = true := by rw [ha, hb]; rfl
  obtain ⟨e1, e2, e3⟩ := ar_over hg (fun h => hy h.2) ho
  unfold ArIs
  rw [e1, e2, e3]; clear e1 e2 e3 hg
  have hna : ∀ W, Calls Try.prog 10 #[cel t n s] W fun e w' => e = .returned (.int .i64 (cNum t n s)) ∧ Below W.heap.size W w' := fun W => spec_toNum t n s hs W
  have hnb : ∀ W, Calls Try.prog 10 #[cel t' n' s'] W fun e w' => e = .returned (.int .i64 (cNum t' n' s')) ∧ Below W.heap.size W w' := fun W => spec_toNum t' n' s' hs' W
  generalize cNum t n s = x at *
  generalize cNum t' n' s' = y at *
  have hyb : (y == 0) = false := by simpa using hy
  have hca : ∀ W, Calls Try.prog 15 #[.int .i64 x, .int .i64 y] W fun e w' => e = .returned (.tuple #[.int .i64 (arV 24 x y), .bool false]) ∧ W = w' := fun W => by
    have e1 : arV 24 x y = modV x y := by unfold arV; simp
    have e2 : modB x y = false := by rw [← ho]; unfold arB; simp
    have := spec_mod x y W
    rw [e2] at this
    rw [e1]; exact this
  generalize arV 24 x y = z at *
  have HCA := Lib.hid hca; clear hca ho
  have HA := Lib.hid (((CB.new w (.int .i64 t) (.int .i64 n) (.string s)).keep ((Below.refl _ _).alloc (Nat.le_refl _) (.cells #[.int .i64 t', .int .i64 n', .string s'] 25)) (by simp)).keep ((Below.refl _ _).alloc (Nat.le_refl _) (.cells #[.int .i64 0, .int .i64 0, .string ⟨#[]⟩] 25)) (by simp; omega))
  have hb3 := (CB.new (w.alloc (.cells #[.int .i64 t, .int .i64 n, .string s] 25)) (.int .i64 t') (.int .i64 n') (.string s')).keep ((Below.refl _ _).alloc (Nat.le_refl _) (.cells #[.int .i64 0, .int .i64 0, .string ⟨#[]⟩] 25)) (by simp)
  simp only [World.size_alloc] at hb3
  have HBb := Lib.hid hb3; clear hb3
  have hz3 := CB.new ((w.alloc (.cells #[.int .i64 t, .int .i64 n, .string s] 25)).alloc (.cells #[.int .i64 t', .int .i64 n', .string s'] 25)) (.int .i64 0) (.int .i64 0) (.string ⟨#[]⟩)
  simp only [World.size_alloc] at hz3
  have HZ := Lib.hid hz3; clear hz3
  have HB0 := Lib.hid (below3 w (.cells #[.int .i64 t, .int .i64 n, .string s] 25) (.cells #[.int .i64 t', .int .i64 n', .string s'] 25) (.cells #[.int .i64 0, .int .i64 0, .string ⟨#[]⟩] 25))
  have HNA := Lib.hid hna; clear hna
  have HNB := Lib.hid hnb; clear hnb
  have HAK := Lib.hid ha; clear ha
  have HBK := Lib.hid hb; clear hb
  go_enter Try.func5, Try.ntmps5
  go_wp2_with fail
  refine (spec_cellOk t n s hs _).mono ?_
  rw [HAK.out]
  rintro e w1 ⟨rfl, hB⟩
  have HA1 := Lib.hid (HA.out.next hB)
  have HBb1 := Lib.hid (HBb.out.next hB)
  have HZ1 := Lib.hid (HZ.out.next hB)
  have HB1 := Lib.hid (HB0.out.trans (hB.mono HB0.out.size)); clear hB
  obtain ⟨a0, a1, a2⟩ := HA1.out.cells
  obtain ⟨b0, b1, b2⟩ := HBb1.out.cells
  go_wp2_with fail
  refine (spec_cellOk t' n' s' hs' _).mono ?_
  rw [HBK.out]
  rintro e w2 ⟨rfl, hB⟩
  have HA2 := Lib.hid (HA1.out.next hB)
  have HBb2 := Lib.hid (HBb1.out.next hB)
  have HZ2 := Lib.hid (HZ1.out.next hB)
  have HB2 := Lib.hid (HB1.out.trans (hB.mono HB1.out.size)); clear hB
  clear a0 a1 a2 b0 b1 b2
  obtain ⟨a0, a1, a2⟩ := HA2.out.cells
  obtain ⟨b0, b1, b2⟩ := HBb2.out.cells
  go_wp2_with fail
  refine (HNA.out _).mono ?_
  rintro e w3 ⟨rfl, hB⟩
  have HA3 := Lib.hid (HA2.out.next hB)
  have HBb3 := Lib.hid (HBb2.out.next hB)
  have HZ3 := Lib.hid (HZ2.out.next hB)
  have HB3 := Lib.hid (HB2.out.trans (hB.mono HB2.out.size)); clear hB
  clear a0 a1 a2 b0 b1 b2
  obtain ⟨a0, a1, a2⟩ := HA3.out.cells
  obtain ⟨b0, b1, b2⟩ := HBb3.out.cells
  go_wp2_with fail
  refine (HNB.out _).mono ?_
  rintro e w4 ⟨rfl, hB⟩
  have HA4 := Lib.hid (HA3.out.next hB)
  have HBb4 := Lib.hid (HBb3.out.next hB)
  have HZ4 := Lib.hid (HZ3.out.next hB)
  have HB4 := Lib.hid (HB3.out.trans (hB.mono HB3.out.size)); clear hB
  clear a0 a1 a2 b0 b1 b2
  obtain ⟨a0, a1, a2⟩ := HA4.out.cells
  obtain ⟨b0, b1, b2⟩ := HBb4.out.cells
  obtain ⟨z0, z1, z2⟩ := HZ4.out.cells
  obtain ⟨m0, m1, m2⟩ := HZ4.out.marks
  go_wp2_with fail
  refine (HCA.out _).mono ?_
  rintro e w5 ⟨rfl, rfl⟩
  go_wp2_with fail
  exact bodyPost_ret (cell_results2 rfl (HZ4.out.set3 _ _ _) rfl rfl) rfl ⟨rfl, below_set3 HB4.out (by omega) _ _ _⟩

theorem spec_arith (k t n : Int) (s : ByteArray) (t' n' : Int) (s' : ByteArray) (hs : s.size ≤ 1048576) (hs' : s'.size ≤ 1048576) (w : World) : Calls Try.prog 5 #[.int .i64 k, cel t n s, cel t' n' s'] w (ArIs k t n s t' n' s' w) := by
  by_cases h : k < 20 ∨ 24 < k
  · exact spec_arith_low k t n s t' n' s' hs hs' h w
  have h1 : 20 ≤ k := by omega
  have h2 : k ≤ 24 := by omega
  cases ha : cOk t n s with
  | false => exact spec_arith_first k t n s t' n' s' hs hs' h1 h2 ha w
  | true =>
    cases hb : cOk t' n' s' with
    | false => exact spec_arith_second k t n s t' n' s' hs hs' h1 h2 ha hb w
    | true =>
      have hk : k = 20 ∨ k = 21 ∨ k = 22 ∨ k = 23 ∨ k = 24 := by omega
      clear h h1 h2
      rcases hk with rfl | rfl | rfl | rfl | rfl
      · cases ho : arB 20 (cNum t n s) (cNum t' n' s') with
        | true => exact spec_add_good t n s t' n' s' hs hs' ha hb ho w
        | false =>
          by_cases hy : cNum t' n' s' = 0
          · exact spec_add_over0 t n s t' n' s' hs hs' ha hb hy ho w
          · exact spec_add_over t n s t' n' s' hs hs' ha hb hy ho w
      · cases ho : arB 21 (cNum t n s) (cNum t' n' s') with
        | true => exact spec_sub_good t n s t' n' s' hs hs' ha hb ho w
        | false =>
          by_cases hy : cNum t' n' s' = 0
          · exact spec_sub_over0 t n s t' n' s' hs hs' ha hb hy ho w
          · exact spec_sub_over t n s t' n' s' hs hs' ha hb hy ho w
      · cases ho : arB 22 (cNum t n s) (cNum t' n' s') with
        | true => exact spec_mul_good t n s t' n' s' hs hs' ha hb ho w
        | false =>
          by_cases hy : cNum t' n' s' = 0
          · exact spec_mul_over0 t n s t' n' s' hs hs' ha hb hy ho w
          · exact spec_mul_over t n s t' n' s' hs hs' ha hb hy ho w
      · by_cases hy : cNum t' n' s' = 0
        · exact spec_div_zero t n s t' n' s' hs hs' ha hb hy w
        · cases ho : arB 23 (cNum t n s) (cNum t' n' s') with
          | true => exact spec_div_good t n s t' n' s' hs hs' ha hb ho w
          | false => exact spec_div_over t n s t' n' s' hs hs' ha hb hy ho w
      · by_cases hy : cNum t' n' s' = 0
        · exact spec_mod_zero t n s t' n' s' hs hs' ha hb hy w
        · cases ho : arB 24 (cNum t n s) (cNum t' n' s') with
          | true => exact spec_mod_good t n s t' n' s' hs hs' ha hb ho w
          | false => exact spec_mod_over t n s t' n' s' hs hs' ha hb hy ho w

theorem impl_arith (k t n : Int) (s : ByteArray) (t' n' : Int) (s' : ByteArray) (hs : s.size ≤ 1048576) (hs' : s'.size ≤ 1048576) (w : World) : Calls Try.prog 7 #[.int .i64 k, cel t n s, cel t' n' s'] w (ArIs k t n s t' n' s' w) := by
  by_cases h : k < 20 ∨ 24 < k
  · exact impl_arith_low k t n s t' n' s' hs hs' h w
  have h1 : 20 ≤ k := by omega
  have h2 : k ≤ 24 := by omega
  cases ha : cOk t n s with
  | false => exact impl_arith_bad k t n s t' n' s' hs hs' h1 h2 (by rw [ha, Bool.false_and]) w
  | true =>
    cases hb : cOk t' n' s' with
    | false => exact impl_arith_bad k t n s t' n' s' hs hs' h1 h2 (by rw [hb, Bool.and_false]) w
    | true =>
      cases hd : ((k == 23) || (k == 24)) with
      | true =>
        by_cases hy : cNum t' n' s' = 0
        · exact impl_arith_zero k t n s t' n' s' hs hs' h1 h2 ha hb hd hy w
        · cases ho : arB k (cNum t n s) (cNum t' n' s') with
          | true => exact impl_arith_dgood k t n s t' n' s' hs hs' h1 h2 ha hb hd hy ho w
          | false => exact impl_arith_dover k t n s t' n' s' hs hs' h1 h2 ha hb hd hy ho w
      | false =>
        cases ho : arB k (cNum t n s) (cNum t' n' s') with
        | true => exact impl_arith_ngood k t n s t' n' s' hs hs' h1 h2 ha hb hd ho w
        | false => exact impl_arith_nover k t n s t' n' s' hs hs' h1 h2 ha hb hd ho w

end Go.Proofs.Ytofinndkbjcgbaa.Cell
