/-
  Reckoning with values: what Arith of the program and of its model return.
-/
import Derived.Test.YthaedmldlenhgaaDoorCellsOk
import Derived.Test.YthaedmldlenhgaaDoorMul
import Derived.Test.YthaedmldlenhgaaDoorDiv64
namespace Go.Proofs.YthaedmldlenhgaaDoor.Cell
open Go.ChangeShapes Go.WideShapes Go.ChangeAt Go.RowKit Go.PlainAid
open Go.Proofs.YthaedmldlenhgaaDoor.Dec
open Go.Proofs.YthaedmldlenhgaaDoor.DecPure Go.Proofs.YthaedmldlenhgaaDoor.TextPure Go.Proofs.YthaedmldlenhgaaDoor.ReadPure Go.Proofs.YthaedmldlenhgaaDoor.CellPure
set_option linter.unusedVariables false

abbrev two (t n : Int) (s : ByteArray) (c : Int) : Value := .tuple #[cel t n s, .int .i64 c]
theorem cell_results2 {fn : Func} {p u : Tmp} (h : fn.results = #[.cell p 25, .tmp u]) {tmps : Array Value} {w : World} {g : Nat} {a b c : Value} (T : CB w g a b c)
    (hp : tmps.getD p undef = .pointer (some ⟨g, 0, none⟩)) {x : Value} (hx : tmps.getD u undef = x) : (results fn tmps).run Tryd.prog w = .ok (.tuple #[.agg #[a, b, c], x]) w := by
  obtain ⟨r0, r1, r2⟩ := T.cells
  rw [results_cell_tmp h, hp, hx]
  simp [go_sem, r0, r1, r2]
theorem ret4 {a b c d i j : Int} {s t : ByteArray} (h : a = b) (g : c = d) (f : s = t) (k : i = j) : Ending.returned (two a c s i) = .returned (two b d t j) := by rw [h, g, f, k]

theorem divides_any (k : Int) (w : World) : Calls Tryd.prog 53 #[.int .i64 k] w fun e w' => e = .returned (.bool ((k == 23) || (k == 24))) ∧ w = w' := by
  by_cases h : k = 23
  · subst h
    go_enter Tryd.func53, Tryd.ntmps53
    go_wp2_with fail
    go_ret
    exact ⟨rfl, rfl⟩
  · have hb : (k == 23) = false := by simpa using h
    go_enter Tryd.func53, Tryd.ntmps53
    go_wp2_with fail
    go_ret
    exact ⟨retB (by rw [hb, Bool.false_or]), rfl⟩

theorem below_go {a b c : World} (h : Below a.heap.size a b) (k : Below b.heap.size b c) : Below a.heap.size a c := h.trans (k.mono h.size)
theorem drewN_below (w : World) (n : Nat) : Below w.heap.size w (w.drewN n) := ⟨rfl, rfl, rfl, Nat.le_refl _, fun _ _ => rfl⟩

theorem calculate_any (k a b : Int) (h1 : 20 ≤ k) (h2 : k ≤ 24) (w : World) : Calls Tryd.prog 54 #[.int .i64 k, .int .i64 a, .int .i64 b] w fun e w' => e = .returned (.tuple #[.int .i64 (arV k a b), .bool (arB k a b)]) ∧ Below w.heap.size w w' := by
  have hk : k = 20 ∨ k = 21 ∨ k = 22 ∨ k = 23 ∨ k = 24 := by omega
  clear h1 h2
  rcases hk with rfl | rfl | rfl | rfl | rfl
  · have E1 : Hid (arV 20 a b = addV a b) := Lib.hid (by unfold arV; simp)
    have E2 : Hid (arB 20 a b = addB a b) := Lib.hid (by unfold arB; simp)
    go_enter Tryd.func54, Tryd.ntmps54
    go_wp2_with fail
    refine (impl_add a b _).mono ?_
    rintro e w' ⟨rfl, rfl⟩
    go_wp2_with fail
    go_ret2
    exact ⟨tup2 E1.out.symm E2.out.symm, Below.refl _ _⟩
  · have E1 : Hid (arV 21 a b = subV a b) := Lib.hid (by unfold arV; simp)
    have E2 : Hid (arB 21 a b = subB a b) := Lib.hid (by unfold arB; simp)
    go_enter Tryd.func54, Tryd.ntmps54
    go_wp2_with fail
    refine (impl_sub a b _).mono ?_
    rintro e w' ⟨rfl, rfl⟩
    go_wp2_with fail
    go_ret2
    exact ⟨tup2 E1.out.symm E2.out.symm, Below.refl _ _⟩
  · have E1 : Hid (arV 22 a b = mulV a b) := Lib.hid (by unfold arV; simp)
    have E2 : Hid (arB 22 a b = mulB a b) := Lib.hid (by unfold arB; simp)
    go_enter Tryd.func54, Tryd.ntmps54
    go_wp2_with fail
    refine (impl_mul a b _).mono ?_
    rintro e w' ⟨rfl, nq, rfl⟩
    go_wp2_with fail
    go_ret2
    exact ⟨tup2 E1.out.symm E2.out.symm, drewN_below _ _⟩
  · have E1 : Hid (arV 23 a b = divV a b) := Lib.hid (by unfold arV; simp)
    have E2 : Hid (arB 23 a b = divB a b) := Lib.hid (by unfold arB; simp)
    go_enter Tryd.func54, Tryd.ntmps54
    go_wp2_with fail
    refine (impl_div a b _).mono ?_
    rintro e w' ⟨rfl, rfl⟩
    go_wp2_with fail
    go_ret2
    exact ⟨tup2 E1.out.symm E2.out.symm, Below.refl _ _⟩
  · have E1 : Hid (arV 24 a b = modV a b) := Lib.hid (by unfold arV; simp)
    have E2 : Hid (arB 24 a b = modB a b) := Lib.hid (by unfold arB; simp)
    go_enter Tryd.func54, Tryd.ntmps54
    go_wp2_with fail
    refine (impl_mod a b _).mono ?_
    rintro e w' ⟨rfl, rfl⟩
    go_wp2_with fail
    go_ret2
    exact ⟨tup2 E1.out.symm E2.out.symm, Below.refl _ _⟩

theorem ar_form {k t n : Int} {s : ByteArray} {t' n' : Int} {s' : ByteArray} (h : (decide (20 ≤ k ∧ k ≤ 24) && (cOk t n s && cOk t' n' s')) = false) :
    arT k t n s t' n' s' = 0 ∧ arN k t n s t' n' s' = 0 ∧ arC k t n s t' n' s' = 3 := by
  have e : arC k t n s t' n' s' = 3 := by unfold arC; rw [if_pos h]
  unfold arT arN; rw [e]; simp
theorem ar_zero {k t n : Int} {s : ByteArray} {t' n' : Int} {s' : ByteArray} (h : (decide (20 ≤ k ∧ k ≤ 24) && (cOk t n s && cOk t' n' s')) = true) (h2 : 23 ≤ k) (h3 : cNum t' n' s' = 0) :
    arT k t n s t' n' s' = 0 ∧ arN k t n s t' n' s' = 0 ∧ arC k t n s t' n' s' = 2 := by
  have e : arC k t n s t' n' s' = 2 := by unfold arC; rw [if_neg (by rw [h]; simp), if_pos ⟨h2, h3⟩]
  unfold arT arN; rw [e]; simp
theorem ar_over {k t n : Int} {s : ByteArray} {t' n' : Int} {s' : ByteArray} (h : (decide (20 ≤ k ∧ k ≤ 24) && (cOk t n s && cOk t' n' s')) = true) (h2 : ¬ (23 ≤ k ∧ cNum t' n' s' = 0)) (h3 : arB k (cNum t n s) (cNum t' n' s') = false) :
    arT k t n s t' n' s' = 0 ∧ arN k t n s t' n' s' = 0 ∧ arC k t n s t' n' s' = 1 := by
  have e : arC k t n s t' n' s' = 1 := by unfold arC; rw [if_neg (by rw [h]; simp), if_neg h2, if_neg (by rw [h3]; simp)]
  unfold arT arN; rw [e]; simp
theorem ar_good {k t n : Int} {s : ByteArray} {t' n' : Int} {s' : ByteArray} (h : (decide (20 ≤ k ∧ k ≤ 24) && (cOk t n s && cOk t' n' s')) = true) (h3 : arB k (cNum t n s) (cNum t' n' s') = true) :
    arT k t n s t' n' s' = 1 ∧ arN k t n s t' n' s' = arV k (cNum t n s) (cNum t' n' s') ∧ arC k t n s t' n' s' = 0 := by
  have h2 : ¬ (23 ≤ k ∧ cNum t' n' s' = 0) := fun ⟨a, b⟩ => by rw [b, arB_zero a] at h3; cases h3
  have e : arC k t n s t' n' s' = 0 := by unfold arC; rw [if_neg (by rw [h]; simp), if_neg h2, if_pos h3]
  unfold arT arN; rw [e]; simp

/-- What Arith answers. -/
def ArIs (k t n : Int) (s : ByteArray) (t' n' : Int) (s' : ByteArray) (w : World) (e : Ending) (w' : World) : Prop :=
  e = .returned (two (arT k t n s t' n' s') (arN k t n s t' n' s') ⟨#[]⟩ (arC k t n s t' n' s')) ∧ Below w.heap.size w w'
theorem below3 (w : World) (x y z : Obj) : Below w.heap.size w (((w.alloc x).alloc y).alloc z) :=
  (((Below.refl _ _).alloc (Nat.le_refl _) _).alloc (by simp) _).alloc (by simp; omega) _

set_option maxRecDepth 100000 in
theorem impl_arith_low (k t n : Int) (s : ByteArray) (t' n' : Int) (s' : ByteArray) (hs : s.size ≤ 1048576) (hs' : s'.size ≤ 1048576) (h : k < 20 ∨ 24 < k) (w : World) : Calls Tryd.prog 30 #[.int .i64 k, cel t n s, cel t' n' s'] w (ArIs k t n s t' n' s' w) := by
  obtain ⟨e1, e2, e3⟩ := ar_form (k := k) (t := t) (n := n) (s := s) (t' := t') (n' := n') (s' := s') (by rw [decide_eq_false (by omega), Bool.false_and])
  unfold ArIs
  rw [e1, e2, e3]; clear e1 e2 e3
  have hz3 := CB.new ((w.alloc (.cells #[.int .i64 t, .int .i64 n, .string s] 25)).alloc (.cells #[.int .i64 t', .int .i64 n', .string s'] 25)) (.int .i64 0) (.int .i64 0) (.string ⟨#[]⟩)
  simp only [World.size_alloc] at hz3
  have HZ := Lib.hid hz3; clear hz3
  rcases h with h | h
  · go_enter Tryd.func30, Tryd.ntmps30
    go_wp2_with fail
    exact bodyPost_ret (cell_results2 rfl HZ.out rfl rfl) rfl ⟨rfl, below3 w _ _ _⟩
  · have h1 : decide (k < 20) = false := by simp; omega
    go_enter Tryd.func30, Tryd.ntmps30
    go_wp2_with fail
    exact bodyPost_ret (cell_results2 rfl HZ.out rfl rfl) rfl ⟨rfl, below3 w _ _ _⟩


set_option maxRecDepth 100000 in
theorem impl_arith_bad (k t n : Int) (s : ByteArray) (t' n' : Int) (s' : ByteArray) (hs : s.size ≤ 1048576) (hs' : s'.size ≤ 1048576) (h1 : 20 ≤ k) (h2 : k ≤ 24) (h : (cOk t n s && cOk t' n' s') = false) (w : World) : Calls Tryd.prog 30 #[.int .i64 k, cel t n s, cel t' n' s'] w (ArIs k t n s t' n' s' w) := by
  obtain ⟨e1, e2, e3⟩ := ar_form (k := k) (t := t) (n := n) (s := s) (t' := t') (n' := n') (s' := s') (by rw [h, Bool.and_false])
  unfold ArIs
  rw [e1, e2, e3]; clear e1 e2 e3
  have HA := Lib.hid (((CB.new w (.int .i64 t) (.int .i64 n) (.string s)).keep ((Below.refl _ _).alloc (Nat.le_refl _) (.cells #[.int .i64 t', .int .i64 n', .string s'] 25)) (by simp)).keep ((Below.refl _ _).alloc (Nat.le_refl _) (.cells #[.int .i64 0, .int .i64 0, .string ⟨#[]⟩] 25)) (by simp; omega))
  have hb3 := (CB.new (w.alloc (.cells #[.int .i64 t, .int .i64 n, .string s] 25)) (.int .i64 t') (.int .i64 n') (.string s')).keep ((Below.refl _ _).alloc (Nat.le_refl _) (.cells #[.int .i64 0, .int .i64 0, .string ⟨#[]⟩] 25)) (by simp)
  simp only [World.size_alloc] at hb3
  have HBb := Lib.hid hb3; clear hb3
  have hz3 := CB.new ((w.alloc (.cells #[.int .i64 t, .int .i64 n, .string s] 25)).alloc (.cells #[.int .i64 t', .int .i64 n', .string s'] 25)) (.int .i64 0) (.int .i64 0) (.string ⟨#[]⟩)
  simp only [World.size_alloc] at hz3
  have HZ := Lib.hid hz3; clear hz3
  have HB0 := Lib.hid (below3 w (.cells #[.int .i64 t, .int .i64 n, .string s] 25) (.cells #[.int .i64 t', .int .i64 n', .string s'] 25) (.cells #[.int .i64 0, .int .i64 0, .string ⟨#[]⟩] 25))
  have H := Lib.hid h; clear h
  have d1 : decide (k < 20) = false := by simp; omega
  have d2 : decide (24 < k) = false := by simp; omega
  go_enter Tryd.func30, Tryd.ntmps30
  go_wp2_with fail
  refine (cells_ok t n s t' n' s' hs hs' _ _ (by simp)).mono ?_
  rw [H.out]
  rintro e w1 ⟨rfl, hB⟩
  have hz := HZ.out.next hB
  obtain ⟨z0, z1, z2⟩ := hz.cells
  obtain ⟨m0, m1, m2⟩ := hz.marks
  have HZ1 := Lib.hid hz; clear hz
  have HB1 := Lib.hid (HB0.out.trans (hB.mono HB0.out.size)); clear hB
  go_wp2_with fail
  exact bodyPost_ret (cell_results2 rfl (HZ1.out.set3 _ _ _) rfl rfl) rfl ⟨rfl, below_set3 HB1.out (by omega) _ _ _⟩



set_option maxRecDepth 100000 in
set_option maxHeartbeats 1000000 in
theorem impl_arith_zero (k t n : Int) (s : ByteArray) (t' n' : Int) (s' : ByteArray) (hs : s.size ≤ 1048576) (hs' : s'.size ≤ 1048576) (h1 : 20 ≤ k) (h2 : k ≤ 24) (ha : cOk t n s = true) (hb : cOk t' n' s' = true) (hd : ((k == 23) || (k == 24)) = true) (hy : cNum t' n' s' = 0) (w : World) : Calls Tryd.prog 30 #[.int .i64 k, cel t n s, cel t' n' s'] w (ArIs k t n s t' n' s' w) := by
  have hg : (decide (20 ≤ k ∧ k ≤ 24) && (cOk t n s && cOk t' n' s')) = true := by rw [ha, hb, decide_eq_true ⟨h1, h2⟩]; rfl
  obtain ⟨e1, e2, e3⟩ := ar_zero hg (by simp at hd; omega) hy
  unfold ArIs
  rw [e1, e2, e3]; clear e1 e2 e3 hg
  have hna : ∀ W, Calls Tryd.prog 40 #[cel t n s] W fun e w' => e = .returned (.int .i64 (cNum t n s)) ∧ Below W.heap.size W w' := fun W => by rw [cNum_yes ha]; exact the_number t n s hs W
  have hnb : ∀ W, Calls Tryd.prog 40 #[cel t' n' s'] W fun e w' => e = .returned (.int .i64 (cNum t' n' s')) ∧ Below W.heap.size W w' := fun W => by rw [cNum_yes hb]; exact the_number t' n' s' hs' W
  have hco : ∀ (W : World) (g : Nat), W.heap.size = g → Calls Tryd.prog 52 #[.slice (some ⟨g, 0, none⟩) 2 2] (W.alloc (.cells #[.int .i64 t, .int .i64 n, .string s, .int .i64 t', .int .i64 n', .string s'] 25)) fun e w' => e = .returned (.bool true) ∧ Below W.heap.size W w' := fun W g hg => by have := cells_ok t n s t' n' s' hs hs' W g hg; rw [ha, hb] at this; exact this
  generalize cNum t n s = x at *
  generalize cNum t' n' s' = y at *
  have HA := Lib.hid (((CB.new w (.int .i64 t) (.int .i64 n) (.string s)).keep ((Below.refl _ _).alloc (Nat.le_refl _) (.cells #[.int .i64 t', .int .i64 n', .string s'] 25)) (by simp)).keep ((Below.refl _ _).alloc (Nat.le_refl _) (.cells #[.int .i64 0, .int .i64 0, .string ⟨#[]⟩] 25)) (by simp; omega))
  have hb3 := (CB.new (w.alloc (.cells #[.int .i64 t, .int .i64 n, .string s] 25)) (.int .i64 t') (.int .i64 n') (.string s')).keep ((Below.refl _ _).alloc (Nat.le_refl _) (.cells #[.int .i64 0, .int .i64 0, .string ⟨#[]⟩] 25)) (by simp)
  simp only [World.size_alloc] at hb3
  have HBb := Lib.hid hb3; clear hb3
  have hz3 := CB.new ((w.alloc (.cells #[.int .i64 t, .int .i64 n, .string s] 25)).alloc (.cells #[.int .i64 t', .int .i64 n', .string s'] 25)) (.int .i64 0) (.int .i64 0) (.string ⟨#[]⟩)
  simp only [World.size_alloc] at hz3
  have HZ := Lib.hid hz3; clear hz3
  have HB0 := Lib.hid (below3 w (.cells #[.int .i64 t, .int .i64 n, .string s] 25) (.cells #[.int .i64 t', .int .i64 n', .string s'] 25) (.cells #[.int .i64 0, .int .i64 0, .string ⟨#[]⟩] 25))
  have HNA := Lib.hid hna; clear hna
  have HNB := Lib.hid hnb; clear hnb
  have HCO := Lib.hid hco; clear hco
  have HD := Lib.hid hd; clear hd ha hb
  have d1 : decide (k < 20) = false := by simp; omega
  have d2 : decide (24 < k) = false := by simp; omega
  go_enter Tryd.func30, Tryd.ntmps30
  go_wp2_with fail
  refine (HCO.out _ _ (by simp)).mono ?_
  rintro e w1 ⟨rfl, hB⟩
  have HA1 := Lib.hid (HA.out.next hB)
  have HBb1 := Lib.hid (HBb.out.next hB)
  have HZ1 := Lib.hid (HZ.out.next hB)
  have HB1 := Lib.hid (HB0.out.trans (hB.mono HB0.out.size)); clear hB
  obtain ⟨a0, a1, a2⟩ := HA1.out.cells
  obtain ⟨b0, b1, b2⟩ := HBb1.out.cells
  go_wp2_with fail
  refine (divides_any k _).mono ?_
  rw [HD.out]
  rintro e w' ⟨rfl, rfl⟩
  go_wp2_with fail
  refine (HNB.out _).mono ?_
  rintro e w2 ⟨rfl, hB⟩
  have HA2 := Lib.hid (HA1.out.next hB)
  have HBb2 := Lib.hid (HBb1.out.next hB)
  have HZ2 := Lib.hid (HZ1.out.next hB)
  have HB2 := Lib.hid (HB1.out.trans (hB.mono HB1.out.size)); clear hB
  clear a0 a1 a2 b0 b1 b2
  obtain ⟨a0, a1, a2⟩ := HA2.out.cells
  obtain ⟨b0, b1, b2⟩ := HBb2.out.cells
  subst hy
  obtain ⟨z0, z1, z2⟩ := HZ2.out.cells
  obtain ⟨m0, m1, m2⟩ := HZ2.out.marks
  go_wp2_with fail
  exact bodyPost_ret (cell_results2 rfl (HZ2.out.set3 _ _ _) rfl rfl) rfl ⟨rfl, below_set3 HB2.out (by omega) _ _ _⟩

set_option maxRecDepth 100000 in
set_option maxHeartbeats 1000000 in
theorem impl_arith_dgood (k t n : Int) (s : ByteArray) (t' n' : Int) (s' : ByteArray) (hs : s.size ≤ 1048576) (hs' : s'.size ≤ 1048576) (h1 : 20 ≤ k) (h2 : k ≤ 24) (ha : cOk t n s = true) (hb : cOk t' n' s' = true) (hd : ((k == 23) || (k == 24)) = true) (hy : cNum t' n' s' ≠ 0) (ho : arB k (cNum t n s) (cNum t' n' s') = true) (w : World) : Calls Tryd.prog 30 #[.int .i64 k, cel t n s, cel t' n' s'] w (ArIs k t n s t' n' s' w) := by
  have hg : (decide (20 ≤ k ∧ k ≤ 24) && (cOk t n s && cOk t' n' s')) = true := by rw [ha, hb, decide_eq_true ⟨h1, h2⟩]; rfl
  obtain ⟨e1, e2, e3⟩ := ar_good hg ho
  unfold ArIs
  rw [e1, e2, e3]; clear e1 e2 e3 hg
  have hna : ∀ W, Calls Tryd.prog 40 #[cel t n s] W fun e w' => e = .returned (.int .i64 (cNum t n s)) ∧ Below W.heap.size W w' := fun W => by rw [cNum_yes ha]; exact the_number t n s hs W
  have hnb : ∀ W, Calls Tryd.prog 40 #[cel t' n' s'] W fun e w' => e = .returned (.int .i64 (cNum t' n' s')) ∧ Below W.heap.size W w' := fun W => by rw [cNum_yes hb]; exact the_number t' n' s' hs' W
  have hco : ∀ (W : World) (g : Nat), W.heap.size = g → Calls Tryd.prog 52 #[.slice (some ⟨g, 0, none⟩) 2 2] (W.alloc (.cells #[.int .i64 t, .int .i64 n, .string s, .int .i64 t', .int .i64 n', .string s'] 25)) fun e w' => e = .returned (.bool true) ∧ Below W.heap.size W w' := fun W g hg => by have := cells_ok t n s t' n' s' hs hs' W g hg; rw [ha, hb] at this; exact this
  generalize cNum t n s = x at *
  generalize cNum t' n' s' = y at *
  have hca : ∀ W, Calls Tryd.prog 54 #[.int .i64 k, .int .i64 x, .int .i64 y] W fun e w' => e = .returned (.tuple #[.int .i64 (arV k x y), .bool true]) ∧ Below W.heap.size W w' := fun W => by have := calculate_any k x y h1 h2 W; rw [ho] at this; exact this
  generalize arV k x y = z at *
  have HCA := Lib.hid hca; clear hca ho
  have HA := Lib.hid (((CB.new w (.int .i64 t) (.int .i64 n) (.string s)).keep ((Below.refl _ _).alloc (Nat.le_refl _) (.cells #[.int .i64 t', .int .i64 n', .string s'] 25)) (by simp)).keep ((Below.refl _ _).alloc (Nat.le_refl _) (.cells #[.int .i64 0, .int .i64 0, .string ⟨#[]⟩] 25)) (by simp; omega))
  have hb3 := (CB.new (w.alloc (.cells #[.int .i64 t, .int .i64 n, .string s] 25)) (.int .i64 t') (.int .i64 n') (.string s')).keep ((Below.refl _ _).alloc (Nat.le_refl _) (.cells #[.int .i64 0, .int .i64 0, .string ⟨#[]⟩] 25)) (by simp)
  simp only [World.size_alloc] at hb3
  have HBb := Lib.hid hb3; clear hb3
  have hz3 := CB.new ((w.alloc (.cells #[.int .i64 t, .int .i64 n, .string s] 25)).alloc (.cells #[.int .i64 t', .int .i64 n', .string s'] 25)) (.int .i64 0) (.int .i64 0) (.string ⟨#[]⟩)
  simp only [World.size_alloc] at hz3
  have HZ := Lib.hid hz3; clear hz3
  have HB0 := Lib.hid (below3 w (.cells #[.int .i64 t, .int .i64 n, .string s] 25) (.cells #[.int .i64 t', .int .i64 n', .string s'] 25) (.cells #[.int .i64 0, .int .i64 0, .string ⟨#[]⟩] 25))
  have HNA := Lib.hid hna; clear hna
  have HNB := Lib.hid hnb; clear hnb
  have HCO := Lib.hid hco; clear hco
  have HD := Lib.hid hd; clear hd ha hb
  have d1 : decide (k < 20) = false := by simp; omega
  have d2 : decide (24 < k) = false := by simp; omega
  go_enter Tryd.func30, Tryd.ntmps30
  go_wp2_with fail
  refine (HCO.out _ _ (by simp)).mono ?_
  rintro e w1 ⟨rfl, hB⟩
  have HA1 := Lib.hid (HA.out.next hB)
  have HBb1 := Lib.hid (HBb.out.next hB)
  have HZ1 := Lib.hid (HZ.out.next hB)
  have HB1 := Lib.hid (HB0.out.trans (hB.mono HB0.out.size)); clear hB
  obtain ⟨a0, a1, a2⟩ := HA1.out.cells
  obtain ⟨b0, b1, b2⟩ := HBb1.out.cells
  go_wp2_with fail
  refine (divides_any k _).mono ?_
  rw [HD.out]
  rintro e w' ⟨rfl, rfl⟩
  go_wp2_with fail
  refine (HNB.out _).mono ?_
  rintro e w2 ⟨rfl, hB⟩
  have HA2 := Lib.hid (HA1.out.next hB)
  have HBb2 := Lib.hid (HBb1.out.next hB)
  have HZ2 := Lib.hid (HZ1.out.next hB)
  have HB2 := Lib.hid (HB1.out.trans (hB.mono HB1.out.size)); clear hB
  clear a0 a1 a2 b0 b1 b2
  obtain ⟨a0, a1, a2⟩ := HA2.out.cells
  obtain ⟨b0, b1, b2⟩ := HBb2.out.cells
  have hyb : (y == 0) = false := by simpa using hy
  go_wp2_with fail
  have la := HA2.out.lt
  have lb := HBb2.out.lt
  have hD : Below w2.heap.size w2 w2.drew := (Below.refl _ _).drew
  go_region_held3 (fun w' => Below w2.heap.size w2 w' ∧ w'.cell? ⟨w.heap.size, 0, none⟩ = some (.int .i64 t) ∧ w'.cell? ⟨w.heap.size, 1, none⟩ = some (.int .i64 n) ∧ w'.cell? ⟨w.heap.size, 2, none⟩ = some (.string s) ∧ w'.cell? ⟨w.heap.size + 1, 0, none⟩ = some (.int .i64 t') ∧ w'.cell? ⟨w.heap.size + 1, 1, none⟩ = some (.int .i64 n') ∧ w'.cell? ⟨w.heap.size + 1, 2, none⟩ = some (.string s'))
    (first | exact ⟨hD, a0, a1, a2, b0, b1, b2⟩ | exact ⟨hBp, (hBp.cell (p := ⟨w.heap.size, 0, none⟩) la).trans a0, (hBp.cell (p := ⟨w.heap.size, 1, none⟩) la).trans a1, (hBp.cell (p := ⟨w.heap.size, 2, none⟩) la).trans a2, (hBp.cell (p := ⟨w.heap.size + 1, 0, none⟩) lb).trans b0, (hBp.cell (p := ⟨w.heap.size + 1, 1, none⟩) lb).trans b1, (hBp.cell (p := ⟨w.heap.size + 1, 2, none⟩) lb).trans b2⟩ | exact ⟨hBq, (hBq.cell (p := ⟨w.heap.size, 0, none⟩) la).trans a0, (hBq.cell (p := ⟨w.heap.size, 1, none⟩) la).trans a1, (hBq.cell (p := ⟨w.heap.size, 2, none⟩) la).trans a2, (hBq.cell (p := ⟨w.heap.size + 1, 0, none⟩) lb).trans b0, (hBq.cell (p := ⟨w.heap.size + 1, 1, none⟩) lb).trans b1, (hBq.cell (p := ⟨w.heap.size + 1, 2, none⟩) lb).trans b2⟩ | exact ⟨hBr, (hBr.cell (p := ⟨w.heap.size, 0, none⟩) la).trans a0, (hBr.cell (p := ⟨w.heap.size, 1, none⟩) la).trans a1, (hBr.cell (p := ⟨w.heap.size, 2, none⟩) la).trans a2, (hBr.cell (p := ⟨w.heap.size + 1, 0, none⟩) lb).trans b0, (hBr.cell (p := ⟨w.heap.size + 1, 1, none⟩) lb).trans b1, (hBr.cell (p := ⟨w.heap.size + 1, 2, none⟩) lb).trans b2⟩)
    (first
      | (go_at_call_of 40 (Value.agg #[Value.int IntKind.i64 t, Value.int IntKind.i64 n, Value.string s]); refine (HNA.out w2.drew).mono ?_; rintro e wp ⟨rfl, hB⟩; have hBp : Below w2.heap.size w2 wp := hD.trans hB; clear hB)
      | (go_at_call_of 40 (Value.agg #[Value.int IntKind.i64 t', Value.int IntKind.i64 n', Value.string s']); refine (HNB.out wp).mono ?_; rintro e wq ⟨rfl, hB⟩; have hBq : Below w2.heap.size w2 wq := hBp.trans (hB.mono hBp.size); clear hB)
      | (go_at_call 54; refine (HCA.out wq).mono ?_; rintro e w3 ⟨rfl, hB⟩; have hBr : Below w2.heap.size w2 w3 := hBq.trans (hB.mono hBq.size); clear hB))
  have hB := hBr
  clear hBr hBq hBp hD la lb
  have HA3 := Lib.hid (HA2.out.next hB)
  have HBb3 := Lib.hid (HBb2.out.next hB)
  have HZ3 := Lib.hid (HZ2.out.next hB)
  have HB3 := Lib.hid (HB2.out.trans (hB.mono HB2.out.size)); clear hB
  clear a0 a1 a2 b0 b1 b2
  obtain ⟨z0, z1, z2⟩ := HZ3.out.cells
  obtain ⟨m0, m1, m2⟩ := HZ3.out.marks
  go_wp2_with fail
  exact bodyPost_ret (cell_results2 rfl (HZ3.out.set3 _ _ _) rfl rfl) rfl ⟨rfl, below_set3 HB3.out (by omega) _ _ _⟩

set_option maxRecDepth 100000 in
set_option maxHeartbeats 1000000 in
theorem impl_arith_dover (k t n : Int) (s : ByteArray) (t' n' : Int) (s' : ByteArray) (hs : s.size ≤ 1048576) (hs' : s'.size ≤ 1048576) (h1 : 20 ≤ k) (h2 : k ≤ 24) (ha : cOk t n s = true) (hb : cOk t' n' s' = true) (hd : ((k == 23) || (k == 24)) = true) (hy : cNum t' n' s' ≠ 0) (ho : arB k (cNum t n s) (cNum t' n' s') = false) (w : World) : Calls Tryd.prog 30 #[.int .i64 k, cel t n s, cel t' n' s'] w (ArIs k t n s t' n' s' w) := by
  have hg : (decide (20 ≤ k ∧ k ≤ 24) && (cOk t n s && cOk t' n' s')) = true := by rw [ha, hb, decide_eq_true ⟨h1, h2⟩]; rfl
  obtain ⟨e1, e2, e3⟩ := ar_over hg (fun h => hy h.2) ho
  unfold ArIs
  rw [e1, e2, e3]; clear e1 e2 e3 hg
  have hna : ∀ W, Calls Tryd.prog 40 #[cel t n s] W fun e w' => e = .returned (.int .i64 (cNum t n s)) ∧ Below W.heap.size W w' := fun W => by rw [cNum_yes ha]; exact the_number t n s hs W
  have hnb : ∀ W, Calls Tryd.prog 40 #[cel t' n' s'] W fun e w' => e = .returned (.int .i64 (cNum t' n' s')) ∧ Below W.heap.size W w' := fun W => by rw [cNum_yes hb]; exact the_number t' n' s' hs' W
  have hco : ∀ (W : World) (g : Nat), W.heap.size = g → Calls Tryd.prog 52 #[.slice (some ⟨g, 0, none⟩) 2 2] (W.alloc (.cells #[.int .i64 t, .int .i64 n, .string s, .int .i64 t', .int .i64 n', .string s'] 25)) fun e w' => e = .returned (.bool true) ∧ Below W.heap.size W w' := fun W g hg => by have := cells_ok t n s t' n' s' hs hs' W g hg; rw [ha, hb] at this; exact this
  generalize cNum t n s = x at *
  generalize cNum t' n' s' = y at *
  have hca : ∀ W, Calls Tryd.prog 54 #[.int .i64 k, .int .i64 x, .int .i64 y] W fun e w' => e = .returned (.tuple #[.int .i64 (arV k x y), .bool false]) ∧ Below W.heap.size W w' := fun W => by have := calculate_any k x y h1 h2 W; rw [ho] at this; exact this
  generalize arV k x y = z at *
  have HCA := Lib.hid hca; clear hca ho
  have HA := Lib.hid (((CB.new w (.int .i64 t) (.int .i64 n) (.string s)).keep ((Below.refl _ _).alloc (Nat.le_refl _) (.cells #[.int .i64 t', .int .i64 n', .string s'] 25)) (by simp)).keep ((Below.refl _ _).alloc (Nat.le_refl _) (.cells #[.int .i64 0, .int .i64 0, .string ⟨#[]⟩] 25)) (by simp; omega))
  have hb3 := (CB.new (w.alloc (.cells #[.int .i64 t, .int .i64 n, .string s] 25)) (.int .i64 t') (.int .i64 n') (.string s')).keep ((Below.refl _ _).alloc (Nat.le_refl _) (.cells #[.int .i64 0, .int .i64 0, .string ⟨#[]⟩] 25)) (by simp)
  simp only [World.size_alloc] at hb3
  have HBb := Lib.hid hb3; clear hb3
  have hz3 := CB.new ((w.alloc (.cells #[.int .i64 t, .int .i64 n, .string s] 25)).alloc (.cells #[.int .i64 t', .int .i64 n', .string s'] 25)) (.int .i64 0) (.int .i64 0) (.string ⟨#[]⟩)
  simp only [World.size_alloc] at hz3
  have HZ := Lib.hid hz3; clear hz3
  have HB0 := Lib.hid (below3 w (.cells #[.int .i64 t, .int .i64 n, .string s] 25) (.cells #[.int .i64 t', .int .i64 n', .string s'] 25) (.cells #[.int .i64 0, .int .i64 0, .string ⟨#[]⟩] 25))
  have HNA := Lib.hid hna; clear hna
  have HNB := Lib.hid hnb; clear hnb
  have HCO := Lib.hid hco; clear hco
  have HD := Lib.hid hd; clear hd ha hb
  have d1 : decide (k < 20) = false := by simp; omega
  have d2 : decide (24 < k) = false := by simp; omega
  go_enter Tryd.func30, Tryd.ntmps30
  go_wp2_with fail
  refine (HCO.out _ _ (by simp)).mono ?_
  rintro e w1 ⟨rfl, hB⟩
  have HA1 := Lib.hid (HA.out.next hB)
  have HBb1 := Lib.hid (HBb.out.next hB)
  have HZ1 := Lib.hid (HZ.out.next hB)
  have HB1 := Lib.hid (HB0.out.trans (hB.mono HB0.out.size)); clear hB
  obtain ⟨a0, a1, a2⟩ := HA1.out.cells
  obtain ⟨b0, b1, b2⟩ := HBb1.out.cells
  go_wp2_with fail
  refine (divides_any k _).mono ?_
  rw [HD.out]
  rintro e w' ⟨rfl, rfl⟩
  go_wp2_with fail
  refine (HNB.out _).mono ?_
  rintro e w2 ⟨rfl, hB⟩
  have HA2 := Lib.hid (HA1.out.next hB)
  have HBb2 := Lib.hid (HBb1.out.next hB)
  have HZ2 := Lib.hid (HZ1.out.next hB)
  have HB2 := Lib.hid (HB1.out.trans (hB.mono HB1.out.size)); clear hB
  clear a0 a1 a2 b0 b1 b2
  obtain ⟨a0, a1, a2⟩ := HA2.out.cells
  obtain ⟨b0, b1, b2⟩ := HBb2.out.cells
  have hyb : (y == 0) = false := by simpa using hy
  go_wp2_with fail
  have la := HA2.out.lt
  have lb := HBb2.out.lt
  have hD : Below w2.heap.size w2 w2.drew := (Below.refl _ _).drew
  go_region_held3 (fun w' => Below w2.heap.size w2 w' ∧ w'.cell? ⟨w.heap.size, 0, none⟩ = some (.int .i64 t) ∧ w'.cell? ⟨w.heap.size, 1, none⟩ = some (.int .i64 n) ∧ w'.cell? ⟨w.heap.size, 2, none⟩ = some (.string s) ∧ w'.cell? ⟨w.heap.size + 1, 0, none⟩ = some (.int .i64 t') ∧ w'.cell? ⟨w.heap.size + 1, 1, none⟩ = some (.int .i64 n') ∧ w'.cell? ⟨w.heap.size + 1, 2, none⟩ = some (.string s'))
    (first | exact ⟨hD, a0, a1, a2, b0, b1, b2⟩ | exact ⟨hBp, (hBp.cell (p := ⟨w.heap.size, 0, none⟩) la).trans a0, (hBp.cell (p := ⟨w.heap.size, 1, none⟩) la).trans a1, (hBp.cell (p := ⟨w.heap.size, 2, none⟩) la).trans a2, (hBp.cell (p := ⟨w.heap.size + 1, 0, none⟩) lb).trans b0, (hBp.cell (p := ⟨w.heap.size + 1, 1, none⟩) lb).trans b1, (hBp.cell (p := ⟨w.heap.size + 1, 2, none⟩) lb).trans b2⟩ | exact ⟨hBq, (hBq.cell (p := ⟨w.heap.size, 0, none⟩) la).trans a0, (hBq.cell (p := ⟨w.heap.size, 1, none⟩) la).trans a1, (hBq.cell (p := ⟨w.heap.size, 2, none⟩) la).trans a2, (hBq.cell (p := ⟨w.heap.size + 1, 0, none⟩) lb).trans b0, (hBq.cell (p := ⟨w.heap.size + 1, 1, none⟩) lb).trans b1, (hBq.cell (p := ⟨w.heap.size + 1, 2, none⟩) lb).trans b2⟩ | exact ⟨hBr, (hBr.cell (p := ⟨w.heap.size, 0, none⟩) la).trans a0, (hBr.cell (p := ⟨w.heap.size, 1, none⟩) la).trans a1, (hBr.cell (p := ⟨w.heap.size, 2, none⟩) la).trans a2, (hBr.cell (p := ⟨w.heap.size + 1, 0, none⟩) lb).trans b0, (hBr.cell (p := ⟨w.heap.size + 1, 1, none⟩) lb).trans b1, (hBr.cell (p := ⟨w.heap.size + 1, 2, none⟩) lb).trans b2⟩)
    (first
      | (go_at_call_of 40 (Value.agg #[Value.int IntKind.i64 t, Value.int IntKind.i64 n, Value.string s]); refine (HNA.out w2.drew).mono ?_; rintro e wp ⟨rfl, hB⟩; have hBp : Below w2.heap.size w2 wp := hD.trans hB; clear hB)
      | (go_at_call_of 40 (Value.agg #[Value.int IntKind.i64 t', Value.int IntKind.i64 n', Value.string s']); refine (HNB.out wp).mono ?_; rintro e wq ⟨rfl, hB⟩; have hBq : Below w2.heap.size w2 wq := hBp.trans (hB.mono hBp.size); clear hB)
      | (go_at_call 54; refine (HCA.out wq).mono ?_; rintro e w3 ⟨rfl, hB⟩; have hBr : Below w2.heap.size w2 w3 := hBq.trans (hB.mono hBq.size); clear hB))
  have hB := hBr
  clear hBr hBq hBp hD la lb
  have HA3 := Lib.hid (HA2.out.next hB)
  have HBb3 := Lib.hid (HBb2.out.next hB)
  have HZ3 := Lib.hid (HZ2.out.next hB)
  have HB3 := Lib.hid (HB2.out.trans (hB.mono HB2.out.size)); clear hB
  clear a0 a1 a2 b0 b1 b2
  obtain ⟨z0, z1, z2⟩ := HZ3.out.cells
  obtain ⟨m0, m1, m2⟩ := HZ3.out.marks
  go_wp2_with fail
  exact bodyPost_ret (cell_results2 rfl (HZ3.out.set3 _ _ _) rfl rfl) rfl ⟨rfl, below_set3 HB3.out (by omega) _ _ _⟩

set_option maxRecDepth 100000 in
set_option maxHeartbeats 1000000 in
theorem impl_arith_ngood (k t n : Int) (s : ByteArray) (t' n' : Int) (s' : ByteArray) (hs : s.size ≤ 1048576) (hs' : s'.size ≤ 1048576) (h1 : 20 ≤ k) (h2 : k ≤ 24) (ha : cOk t n s = true) (hb : cOk t' n' s' = true) (hd : ((k == 23) || (k == 24)) = false) (ho : arB k (cNum t n s) (cNum t' n' s') = true) (w : World) : Calls Tryd.prog 30 #[.int .i64 k, cel t n s, cel t' n' s'] w (ArIs k t n s t' n' s' w) := by
  have hg : (decide (20 ≤ k ∧ k ≤ 24) && (cOk t n s && cOk t' n' s')) = true := by rw [ha, hb, decide_eq_true ⟨h1, h2⟩]; rfl
  obtain ⟨e1, e2, e3⟩ := ar_good hg ho
  unfold ArIs
  rw [e1, e2, e3]; clear e1 e2 e3 hg
  have hna : ∀ W, Calls Tryd.prog 40 #[cel t n s] W fun e w' => e = .returned (.int .i64 (cNum t n s)) ∧ Below W.heap.size W w' := fun W => by rw [cNum_yes ha]; exact the_number t n s hs W
  have hnb : ∀ W, Calls Tryd.prog 40 #[cel t' n' s'] W fun e w' => e = .returned (.int .i64 (cNum t' n' s')) ∧ Below W.heap.size W w' := fun W => by rw [cNum_yes hb]; exact the_number t' n' s' hs' W
  have hco : ∀ (W : World) (g : Nat), W.heap.size = g → Calls Tryd.prog 52 #[.slice (some ⟨g, 0, none⟩) 2 2] (W.alloc (.cells #[.int .i64 t, .int .i64 n, .string s, .int .i64 t', .int .i64 n', .string s'] 25)) fun e w' => e = .returned (.bool true) ∧ Below W.heap.size W w' := fun W g hg => by have := cells_ok t n s t' n' s' hs hs' W g hg; rw [ha, hb] at this; exact this
  generalize cNum t n s = x at *
  generalize cNum t' n' s' = y at *
  have hca : ∀ W, Calls Tryd.prog 54 #[.int .i64 k, .int .i64 x, .int .i64 y] W fun e w' => e = .returned (.tuple #[.int .i64 (arV k x y), .bool true]) ∧ Below W.heap.size W w' := fun W => by have := calculate_any k x y h1 h2 W; rw [ho] at this; exact this
  generalize arV k x y = z at *
  have HCA := Lib.hid hca; clear hca ho
  have HA := Lib.hid (((CB.new w (.int .i64 t) (.int .i64 n) (.string s)).keep ((Below.refl _ _).alloc (Nat.le_refl _) (.cells #[.int .i64 t', .int .i64 n', .string s'] 25)) (by simp)).keep ((Below.refl _ _).alloc (Nat.le_refl _) (.cells #[.int .i64 0, .int .i64 0, .string ⟨#[]⟩] 25)) (by simp; omega))
  have hb3 := (CB.new (w.alloc (.cells #[.int .i64 t, .int .i64 n, .string s] 25)) (.int .i64 t') (.int .i64 n') (.string s')).keep ((Below.refl _ _).alloc (Nat.le_refl _) (.cells #[.int .i64 0, .int .i64 0, .string ⟨#[]⟩] 25)) (by simp)
  simp only [World.size_alloc] at hb3
  have HBb := Lib.hid hb3; clear hb3
  have hz3 := CB.new ((w.alloc (.cells #[.int .i64 t, .int .i64 n, .string s] 25)).alloc (.cells #[.int .i64 t', .int .i64 n', .string s'] 25)) (.int .i64 0) (.int .i64 0) (.string ⟨#[]⟩)
  simp only [World.size_alloc] at hz3
  have HZ := Lib.hid hz3; clear hz3
  have HB0 := Lib.hid (below3 w (.cells #[.int .i64 t, .int .i64 n, .string s] 25) (.cells #[.int .i64 t', .int .i64 n', .string s'] 25) (.cells #[.int .i64 0, .int .i64 0, .string ⟨#[]⟩] 25))
  have HNA := Lib.hid hna; clear hna
  have HNB := Lib.hid hnb; clear hnb
  have HCO := Lib.hid hco; clear hco
  have HD := Lib.hid hd; clear hd ha hb
  have d1 : decide (k < 20) = false := by simp; omega
  have d2 : decide (24 < k) = false := by simp; omega
  go_enter Tryd.func30, Tryd.ntmps30
  go_wp2_with fail
  refine (HCO.out _ _ (by simp)).mono ?_
  rintro e w1 ⟨rfl, hB⟩
  have HA1 := Lib.hid (HA.out.next hB)
  have HBb1 := Lib.hid (HBb.out.next hB)
  have HZ1 := Lib.hid (HZ.out.next hB)
  have HB1 := Lib.hid (HB0.out.trans (hB.mono HB0.out.size)); clear hB
  obtain ⟨a0, a1, a2⟩ := HA1.out.cells
  obtain ⟨b0, b1, b2⟩ := HBb1.out.cells
  go_wp2_with fail
  refine (divides_any k _).mono ?_
  rw [HD.out]
  rintro e w' ⟨rfl, rfl⟩
  go_wp2_with fail
  have la := HA1.out.lt
  have lb := HBb1.out.lt
  have hD : Below w1.heap.size w1 w1.drew := (Below.refl _ _).drew
  go_region_held3 (fun w' => Below w1.heap.size w1 w' ∧ w'.cell? ⟨w.heap.size, 0, none⟩ = some (.int .i64 t) ∧ w'.cell? ⟨w.heap.size, 1, none⟩ = some (.int .i64 n) ∧ w'.cell? ⟨w.heap.size, 2, none⟩ = some (.string s) ∧ w'.cell? ⟨w.heap.size + 1, 0, none⟩ = some (.int .i64 t') ∧ w'.cell? ⟨w.heap.size + 1, 1, none⟩ = some (.int .i64 n') ∧ w'.cell? ⟨w.heap.size + 1, 2, none⟩ = some (.string s'))
    (first | exact ⟨hD, a0, a1, a2, b0, b1, b2⟩ | exact ⟨hBp, (hBp.cell (p := ⟨w.heap.size, 0, none⟩) la).trans a0, (hBp.cell (p := ⟨w.heap.size, 1, none⟩) la).trans a1, (hBp.cell (p := ⟨w.heap.size, 2, none⟩) la).trans a2, (hBp.cell (p := ⟨w.heap.size + 1, 0, none⟩) lb).trans b0, (hBp.cell (p := ⟨w.heap.size + 1, 1, none⟩) lb).trans b1, (hBp.cell (p := ⟨w.heap.size + 1, 2, none⟩) lb).trans b2⟩ | exact ⟨hBq, (hBq.cell (p := ⟨w.heap.size, 0, none⟩) la).trans a0, (hBq.cell (p := ⟨w.heap.size, 1, none⟩) la).trans a1, (hBq.cell (p := ⟨w.heap.size, 2, none⟩) la).trans a2, (hBq.cell (p := ⟨w.heap.size + 1, 0, none⟩) lb).trans b0, (hBq.cell (p := ⟨w.heap.size + 1, 1, none⟩) lb).trans b1, (hBq.cell (p := ⟨w.heap.size + 1, 2, none⟩) lb).trans b2⟩ | exact ⟨hBr, (hBr.cell (p := ⟨w.heap.size, 0, none⟩) la).trans a0, (hBr.cell (p := ⟨w.heap.size, 1, none⟩) la).trans a1, (hBr.cell (p := ⟨w.heap.size, 2, none⟩) la).trans a2, (hBr.cell (p := ⟨w.heap.size + 1, 0, none⟩) lb).trans b0, (hBr.cell (p := ⟨w.heap.size + 1, 1, none⟩) lb).trans b1, (hBr.cell (p := ⟨w.heap.size + 1, 2, none⟩) lb).trans b2⟩)
    (first
      | (go_at_call_of 40 (Value.agg #[Value.int IntKind.i64 t, Value.int IntKind.i64 n, Value.string s]); refine (HNA.out w1.drew).mono ?_; rintro e wp ⟨rfl, hB⟩; have hBp : Below w1.heap.size w1 wp := hD.trans hB; clear hB)
      | (go_at_call_of 40 (Value.agg #[Value.int IntKind.i64 t', Value.int IntKind.i64 n', Value.string s']); refine (HNB.out wp).mono ?_; rintro e wq ⟨rfl, hB⟩; have hBq : Below w1.heap.size w1 wq := hBp.trans (hB.mono hBp.size); clear hB)
      | (go_at_call 54; refine (HCA.out wq).mono ?_; rintro e w2 ⟨rfl, hB⟩; have hBr : Below w1.heap.size w1 w2 := hBq.trans (hB.mono hBq.size); clear hB))
  have hB := hBr
  clear hBr hBq hBp hD la lb
  have HA2 := Lib.hid (HA1.out.next hB)
  have HBb2 := Lib.hid (HBb1.out.next hB)
  have HZ2 := Lib.hid (HZ1.out.next hB)
  have HB2 := Lib.hid (HB1.out.trans (hB.mono HB1.out.size)); clear hB
  clear a0 a1 a2 b0 b1 b2
  obtain ⟨z0, z1, z2⟩ := HZ2.out.cells
  obtain ⟨m0, m1, m2⟩ := HZ2.out.marks
  go_wp2_with fail
  exact bodyPost_ret (cell_results2 rfl (HZ2.out.set3 _ _ _) rfl rfl) rfl ⟨rfl, below_set3 HB2.out (by omega) _ _ _⟩

set_option maxRecDepth 100000 in
set_option maxHeartbeats 1000000 in
theorem impl_arith_nover (k t n : Int) (s : ByteArray) (t' n' : Int) (s' : ByteArray) (hs : s.size ≤ 1048576) (hs' : s'.size ≤ 1048576) (h1 : 20 ≤ k) (h2 : k ≤ 24) (ha : cOk t n s = true) (hb : cOk t' n' s' = true) (hd : ((k == 23) || (k == 24)) = false) (ho : arB k (cNum t n s) (cNum t' n' s') = false) (w : World) : Calls Tryd.prog 30 #[.int .i64 k, cel t n s, cel t' n' s'] w (ArIs k t n s t' n' s' w) := by
  have hg : (decide (20 ≤ k ∧ k ≤ 24) && (cOk t n s && cOk t' n' s')) = true := by rw [ha, hb, decide_eq_true ⟨h1, h2⟩]; rfl
  obtain ⟨e1, e2, e3⟩ := ar_over hg (fun h => by simp at hd; omega) ho
  unfold ArIs
  rw [e1, e2, e3]; clear e1 e2 e3 hg
  have hna : ∀ W, Calls Tryd.prog 40 #[cel t n s] W fun e w' => e = .returned (.int .i64 (cNum t n s)) ∧ Below W.heap.size W w' := fun W => by rw [cNum_yes ha]; exact the_number t n s hs W
  have hnb : ∀ W, Calls Tryd.prog 40 #[cel t' n' s'] W fun e w' => e = .returned (.int .i64 (cNum t' n' s')) ∧ Below W.heap.size W w' := fun W => by rw [cNum_yes hb]; exact the_number t' n' s' hs' W
  have hco : ∀ (W : World) (g : Nat), W.heap.size = g → Calls Tryd.prog 52 #[.slice (some ⟨g, 0, none⟩) 2 2] (W.alloc (.cells #[.int .i64 t, .int .i64 n, .string s, .int .i64 t', .int .i64 n', .string s'] 25)) fun e w' => e = .returned (.bool true) ∧ Below W.heap.size W w' := fun W g hg => by have := cells_ok t n s t' n' s' hs hs' W g hg; rw [ha, hb] at this; exact this
  generalize cNum t n s = x at *
  generalize cNum t' n' s' = y at *
  have hca : ∀ W, Calls Tryd.prog 54 #[.int .i64 k, .int .i64 x, .int .i64 y] W fun e w' => e = .returned (.tuple #[.int .i64 (arV k x y), .bool false]) ∧ Below W.heap.size W w' := fun W => by have := calculate_any k x y h1 h2 W; rw [ho] at this; exact this
  generalize arV k x y = z at *
  have HCA := Lib.hid hca; clear hca ho
  have HA := Lib.hid (((CB.new w (.int .i64 t) (.int .i64 n) (.string s)).keep ((Below.refl _ _).alloc (Nat.le_refl _) (.cells #[.int .i64 t', .int .i64 n', .string s'] 25)) (by simp)).keep ((Below.refl _ _).alloc (Nat.le_refl _) (.cells #[.int .i64 0, .int .i64 0, .string ⟨#[]⟩] 25)) (by simp; omega))
  have hb3 := (CB.new (w.alloc (.cells #[.int .i64 t, .int .i64 n, .string s] 25)) (.int .i64 t') (.int .i64 n') (.string s')).keep ((Below.refl _ _).alloc (Nat.le_refl _) (.cells #[.int .i64 0, .int .i64 0, .string ⟨#[]⟩] 25)) (by simp)
  simp only [World.size_alloc] at hb3
  have HBb := Lib.hid hb3; clear hb3
  have hz3 := CB.new ((w.alloc (.cells #[.int .i64 t, .int .i64 n, .string s] 25)).alloc (.cells #[.int .i64 t', .int .i64 n', .string s'] 25)) (.int .i64 0) (.int .i64 0) (.string ⟨#[]⟩)
  simp only [World.size_alloc] at hz3
  have HZ := Lib.hid hz3; clear hz3
  have HB0 := Lib.hid (below3 w (.cells #[.int .i64 t, .int .i64 n, .string s] 25) (.cells #[.int .i64 t', .int .i64 n', .string s'] 25) (.cells #[.int .i64 0, .int .i64 0, .string ⟨#[]⟩] 25))
  have HNA := Lib.hid hna; clear hna
  have HNB := Lib.hid hnb; clear hnb
  have HCO := Lib.hid hco; clear hco
  have HD := Lib.hid hd; clear hd ha hb
  have d1 : decide (k < 20) = false := by simp; omega
  have d2 : decide (24 < k) = false := by simp; omega
  go_enter Tryd.func30, Tryd.ntmps30
  go_wp2_with fail
  refine (HCO.out _ _ (by simp)).mono ?_
  rintro e w1 ⟨rfl, hB⟩
  have HA1 := Lib.hid (HA.out.next hB)
  have HBb1 := Lib.hid (HBb.out.next hB)
  have HZ1 := Lib.hid (HZ.out.next hB)
  have HB1 := Lib.hid (HB0.out.trans (hB.mono HB0.out.size)); clear hB
  obtain ⟨a0, a1, a2⟩ := HA1.out.cells
  obtain ⟨b0, b1, b2⟩ := HBb1.out.cells
  go_wp2_with fail
  refine (divides_any k _).mono ?_
  rw [HD.out]
  rintro e w' ⟨rfl, rfl⟩
  go_wp2_with fail
  have la := HA1.out.lt
  have lb := HBb1.out.lt
  have hD : Below w1.heap.size w1 w1.drew := (Below.refl _ _).drew
  go_region_held3 (fun w' => Below w1.heap.size w1 w' ∧ w'.cell? ⟨w.heap.size, 0, none⟩ = some (.int .i64 t) ∧ w'.cell? ⟨w.heap.size, 1, none⟩ = some (.int .i64 n) ∧ w'.cell? ⟨w.heap.size, 2, none⟩ = some (.string s) ∧ w'.cell? ⟨w.heap.size + 1, 0, none⟩ = some (.int .i64 t') ∧ w'.cell? ⟨w.heap.size + 1, 1, none⟩ = some (.int .i64 n') ∧ w'.cell? ⟨w.heap.size + 1, 2, none⟩ = some (.string s'))
    (first | exact ⟨hD, a0, a1, a2, b0, b1, b2⟩ | exact ⟨hBp, (hBp.cell (p := ⟨w.heap.size, 0, none⟩) la).trans a0, (hBp.cell (p := ⟨w.heap.size, 1, none⟩) la).trans a1, (hBp.cell (p := ⟨w.heap.size, 2, none⟩) la).trans a2, (hBp.cell (p := ⟨w.heap.size + 1, 0, none⟩) lb).trans b0, (hBp.cell (p := ⟨w.heap.size + 1, 1, none⟩) lb).trans b1, (hBp.cell (p := ⟨w.heap.size + 1, 2, none⟩) lb).trans b2⟩ | exact ⟨hBq, (hBq.cell (p := ⟨w.heap.size, 0, none⟩) la).trans a0, (hBq.cell (p := ⟨w.heap.size, 1, none⟩) la).trans a1, (hBq.cell (p := ⟨w.heap.size, 2, none⟩) la).trans a2, (hBq.cell (p := ⟨w.heap.size + 1, 0, none⟩) lb).trans b0, (hBq.cell (p := ⟨w.heap.size + 1, 1, none⟩) lb).trans b1, (hBq.cell (p := ⟨w.heap.size + 1, 2, none⟩) lb).trans b2⟩ | exact ⟨hBr, (hBr.cell (p := ⟨w.heap.size, 0, none⟩) la).trans a0, (hBr.cell (p := ⟨w.heap.size, 1, none⟩) la).trans a1, (hBr.cell (p := ⟨w.heap.size, 2, none⟩) la).trans a2, (hBr.cell (p := ⟨w.heap.size + 1, 0, none⟩) lb).trans b0, (hBr.cell (p := ⟨w.heap.size + 1, 1, none⟩) lb).trans b1, (hBr.cell (p := ⟨w.heap.size + 1, 2, none⟩) lb).trans b2⟩)
    (first
      | (go_at_call_of 40 (Value.agg #[Value.int IntKind.i64 t, Value.int IntKind.i64 n, Value.string s]); refine (HNA.out w1.drew).mono ?_; rintro e wp ⟨rfl, hB⟩; have hBp : Below w1.heap.size w1 wp := hD.trans hB; clear hB)
      | (go_at_call_of 40 (Value.agg #[Value.int IntKind.i64 t', Value.int IntKind.i64 n', Value.string s']); refine (HNB.out wp).mono ?_; rintro e wq ⟨rfl, hB⟩; have hBq : Below w1.heap.size w1 wq := hBp.trans (hB.mono hBp.size); clear hB)
      | (go_at_call 54; refine (HCA.out wq).mono ?_; rintro e w2 ⟨rfl, hB⟩; have hBr : Below w1.heap.size w1 w2 := hBq.trans (hB.mono hBq.size); clear hB))
  have hB := hBr
  clear hBr hBq hBp hD la lb
  have HA2 := Lib.hid (HA1.out.next hB)
  have HBb2 := Lib.hid (HBb1.out.next hB)
  have HZ2 := Lib.hid (HZ1.out.next hB)
  have HB2 := Lib.hid (HB1.out.trans (hB.mono HB1.out.size)); clear hB
  clear a0 a1 a2 b0 b1 b2
  obtain ⟨z0, z1, z2⟩ := HZ2.out.cells
  obtain ⟨m0, m1, m2⟩ := HZ2.out.marks
  go_wp2_with fail
  exact bodyPost_ret (cell_results2 rfl (HZ2.out.set3 _ _ _) rfl rfl) rfl ⟨rfl, below_set3 HB2.out (by omega) _ _ _⟩


end Go.Proofs.YthaedmldlenhgaaDoor.Cell
