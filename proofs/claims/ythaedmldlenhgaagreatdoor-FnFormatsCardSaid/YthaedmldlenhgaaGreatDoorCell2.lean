/-
  Which values are valid, for the program and for its model.
-/
import Derived.Test.YthaedmldlenhgaaGreatDoorCell
import Derived.BigQuiet
import Derived.Deep.QuietTactic
import Derived.Deep.RegionHeld3
import Derived.Laws.StructEq
namespace Go.Proofs.YthaedmldlenhgaaGreatDoor.Cell
open Go.ChangeShapes Go.WideShapes Go.ChangeAt Go.RowKit Go.PlainAid
open Go.Proofs.YthaedmldlenhgaaGreatDoor.Dec
open Go.Proofs.YthaedmldlenhgaaGreatDoor.DecPure Go.Proofs.YthaedmldlenhgaaGreatDoor.TextPure Go.Proofs.YthaedmldlenhgaaGreatDoor.ReadPure Go.Proofs.YthaedmldlenhgaaGreatDoor.CellPure
set_option linter.unusedVariables false

set_option maxRecDepth 100000 in
theorem spec_cellOk (t n : Int) (s : ByteArray) (hs : s.size ≤ 1048576) (w : World) : Calls Tryz.prog 31 #[cel t n s] w fun e w' => e = .returned (.bool (cOk t n s)) ∧ Below w.heap.size w w' := by
  have HB := Lib.hid ((Below.refl w.heap.size w).alloc (Nat.le_refl _) (.cells #[.int .i64 t, .int .i64 n, .string s] 33))
  have hm : s.size ≤ maxLen := by unfold maxLen; omega
  by_cases hz : 500 < s.size
  · have E := Lib.hid (cOk_big (t := t) (n := n) hz)
    have hzi : (500 : Int) < (s.size : Int) := by omega
    go_enter Tryz.func31, Tryz.ntmps31
    go_wp2_with fail
    go_ret
    exact ⟨retB E.out.symm, HB.out⟩
  have hz' : s.size ≤ 500 := by omega
  have hzi : ¬ (500 : Int) < (s.size : Int) := by omega
  have hzn : decide (500 < s.size) = false := by simpa using hz
  by_cases h0 : t = 0
  · subst h0
    have E := Lib.hid (cOk_0 (n := n) hz')
    cases hn : s.toList.isEmpty with
    | true =>
      have hl : s.toList = [] := List.isEmpty_iff.1 hn
      have hn2 : (!s.toList.isEmpty) = false := by rw [hn]; rfl
      have HN := Lib.hid hn; clear hn
      go_enter Tryz.func31, Tryz.ntmps31
      go_wp2_with fail
      go_ret
      exact ⟨retB (by rw [E.out]; unfold nilB; rw [HN.out, Bool.true_and]), HB.out⟩
    | false =>
      have hl : (s.toList == []) = false := by
        cases h : s.toList with
        | nil => rw [h] at hn; cases hn
        | cons a x => rfl
      have hn2 : (!s.toList.isEmpty) = true := by rw [hn]; rfl
      go_enter Tryz.func31, Tryz.ntmps31
      go_wp2_with fail
      go_ret
      exact ⟨retB (by rw [E.out]; unfold nilB; rw [hn]; rfl), HB.out⟩
  by_cases h1 : t = 1
  · subst h1
    have E := Lib.hid (cOk_1 (n := n) hz')
    clear h0
    cases hn : s.toList.isEmpty with
    | true =>
      have hl : s.toList = [] := List.isEmpty_iff.1 hn
      have hn2 : (!s.toList.isEmpty) = false := by rw [hn]; rfl
      have HN := Lib.hid hn; clear hn
      go_enter Tryz.func31, Tryz.ntmps31
      go_wp2_with (go_at_call 63; refine (spec_ok _ _).mono ?_; rintro e w' ⟨rfl, rfl⟩)
      go_ret
      exact ⟨retB (by rw [E.out]; unfold nilB; rw [HN.out, Bool.true_and]), HB.out⟩
    | false =>
      have hl : (s.toList == []) = false := by
        cases h : s.toList with
        | nil => rw [h] at hn; cases hn
        | cons a x => rfl
      have hn2 : (!s.toList.isEmpty) = true := by rw [hn]; rfl
      go_enter Tryz.func31, Tryz.ntmps31
      go_wp2_with fail
      go_ret
      exact ⟨retB (by rw [E.out]; unfold nilB; rw [hn]; rfl), HB.out⟩
  by_cases h2 : t = 2
  · subst h2
    have E := Lib.hid (cOk_2 (n := n) hz')
    clear h0 h1
    go_enter Tryz.func31, Tryz.ntmps31
    go_wp2_with fail
    go_ret
    exact ⟨retB E.out.symm, HB.out⟩
  by_cases h3 : t = 3
  · subst h3
    have E := Lib.hid (cOk_3 (n := n) hz')
    clear h0 h1 h2
    cases hl : looksB s with
    | true =>
      have HL := Lib.hid hl; clear hl
      go_enter Tryz.func31, Tryz.ntmps31
      go_wp2_with fail
      refine (spec_readDec s hm _).mono ?_
      rintro e w' ⟨rfl, rfl⟩
      go_wp2_with fail
      refine (spec_looks s hm _).mono ?_
      rw [HL.out]
      rintro e w' ⟨rfl, rfl⟩
      go_wp2_with fail
      go_ret
      exact ⟨retB (by rw [E.out, HL.out, Bool.true_and]), HB.out⟩
    | false =>
      have HL := Lib.hid hl; clear hl
      go_enter Tryz.func31, Tryz.ntmps31
      go_wp2_with fail
      refine (spec_readDec s hm _).mono ?_
      rintro e w' ⟨rfl, rfl⟩
      go_wp2_with fail
      refine (spec_looks s hm _).mono ?_
      rw [HL.out]
      rintro e w' ⟨rfl, rfl⟩
      go_wp2_with fail
      go_ret
      exact ⟨retB (by rw [E.out, HL.out, Bool.false_and]), HB.out⟩
  have E := Lib.hid (cOk_no (n := n) (s := s) h0 h1 h2 h3)
  have b0 : (t == 0) = false := by simpa using h0
  have b1 : (t == 1) = false := by simpa using h1
  have b2 : (t == 2) = false := by simpa using h2
  have b3 : (t == 3) = false := by simpa using h3
  clear h0 h1 h2 h3
  go_enter Tryz.func31, Tryz.ntmps31
  go_wp2_with fail
  go_ret
  exact ⟨retB E.out.symm, HB.out⟩

set_option maxRecDepth 100000 in
theorem of_tag (t n : Int) (s : ByteArray) (hs : s.size ≤ 1048576) (w : World) : Calls Tryz.prog 92 #[.int .i64 t, .int .i64 n, .string s] w fun e w' => e = .returned (cel (oT t n s) (oN t n s) (oS t n s)) ∧ Below w.heap.size w w' := by
  have hno : (t = 1 → dOk n = false) → (t = 2 → 500 < s.size) → t ≠ 3 → oT t n s = 0 ∧ oN t n s = 0 ∧ oS t n s = ⟨#[]⟩ := o_no
  have HNO := Lib.hid hno; clear hno
  by_cases h1 : t = 1
  · subst h1
    cases hd : dOk n with
    | true =>
      obtain ⟨e1, e2, e3⟩ := o_1 (s := s) hd
      rw [e1, e2, e3]; clear e1 e2 e3 HNO
      have HD := Lib.hid hd; clear hd
      go_enter Tryz.func92, Tryz.ntmps92
      go_wp2_with fail
      refine (impl_ok n _).mono ?_
      rw [HD.out]
      rintro e w' ⟨rfl, rfl⟩
      go_wp2_with fail
      exact bodyPost_ret ((CB.new w _ _ _).results rfl rfl) rfl ⟨rfl, (Below.refl w.heap.size w).alloc (Nat.le_refl _) _⟩
    | false =>
      obtain ⟨e1, e2, e3⟩ := HNO.out (fun _ => hd) (fun h => by omega) (by omega)
      rw [e1, e2, e3]; clear e1 e2 e3 HNO
      have HD := Lib.hid hd; clear hd
      go_enter Tryz.func92, Tryz.ntmps92
      go_wp2_with fail
      refine (impl_ok n _).mono ?_
      rw [HD.out]
      rintro e w' ⟨rfl, rfl⟩
      go_wp2_with fail
      exact bodyPost_ret ((CB.new w _ _ _).results rfl rfl) rfl ⟨rfl, (Below.refl w.heap.size w).alloc (Nat.le_refl _) _⟩
  have b1 : (t == 1) = false := by simpa using h1
  by_cases h2 : t = 2
  · subst h2
    by_cases hz : 500 < s.size
    · obtain ⟨e1, e2, e3⟩ := HNO.out (fun h => by omega) (fun _ => hz) (by omega)
      rw [e1, e2, e3]; clear e1 e2 e3 HNO h1
      have hz1 : ¬ s.size ≤ 500 := by omega
      have hz2 : ¬ (s.size : Int) ≤ 500 := by omega
      go_enter Tryz.func92, Tryz.ntmps92
      go_wp2_with fail
      exact bodyPost_ret ((CB.new w _ _ _).results rfl rfl) rfl ⟨rfl, (Below.refl w.heap.size w).alloc (Nat.le_refl _) _⟩
    · have hz1 : s.size ≤ 500 := by omega
      have hz2 : (s.size : Int) ≤ 500 := by omega
      obtain ⟨e1, e2, e3⟩ := o_2 (n := n) hz1
      rw [e1, e2, e3]; clear e1 e2 e3 HNO h1
      go_enter Tryz.func92, Tryz.ntmps92
      go_wp2_with fail
      exact bodyPost_ret ((CB.new w _ _ _).results rfl rfl) rfl ⟨rfl, (Below.refl w.heap.size w).alloc (Nat.le_refl _) _⟩
  have b2 : (t == 2) = false := by simpa using h2
  by_cases h3 : t = 3
  · subst h3
    obtain ⟨e1, e2, e3⟩ := o_3 (n := n) (s := s)
    rw [e1, e2, e3]; clear e1 e2 e3 HNO h1 h2
    have HCB := Lib.hid (CB.new w (.int .i64 0) (.int .i64 0) (.string ⟨#[]⟩))
    obtain ⟨x, hx⟩ : ∃ x, x = fT s := ⟨_, rfl⟩
    obtain ⟨y, hy⟩ : ∃ y, y = fN s := ⟨_, rfl⟩
    obtain ⟨z, hz⟩ : ∃ z, z = fS s := ⟨_, rfl⟩
    have HF : ∀ W, Calls Tryz.prog 138 #[.string s] W fun e w' => e = .returned (cel x y z) ∧ Below W.heap.size W w' := fun W => by
      rw [hx, hy, hz]; exact impl_field s hs W
    rw [← hx, ← hy, ← hz]; clear hx hy hz
    have HFC := Lib.hid HF; clear HF
    go_enter Tryz.func92, Tryz.ntmps92
    go_wp2_with fail
    refine (HFC.out _).mono ?_
    rintro e w1 ⟨rfl, hB⟩
    have hk := HCB.out.keep hB (by simp)
    obtain ⟨c0, c1, c2⟩ := hk.cells
    obtain ⟨m0, m1, m2⟩ := hk.marks
    have HK := Lib.hid hk; clear hk
    have HB := Lib.hid (below_new hB); clear hB
    go_wp2_with fail
    exact bodyPost_ret ((HK.out.set3 _ _ _).results rfl rfl) rfl ⟨rfl, below_set3 HB.out (Nat.le_refl _) _ _ _⟩
  have b3 : (t == 3) = false := by simpa using h3
  obtain ⟨e1, e2, e3⟩ := HNO.out (fun h => absurd h h1) (fun h => absurd h h2) h3
  rw [e1, e2, e3]; clear e1 e2 e3 HNO h1 h2 h3
  go_enter Tryz.func92, Tryz.ntmps92
  go_wp2_with fail
  exact bodyPost_ret ((CB.new w _ _ _).results rfl rfl) rfl ⟨rfl, (Below.refl w.heap.size w).alloc (Nat.le_refl _) _⟩

/-- When two values are the same. -/
def cellsSame (a b : Int) (c : ByteArray) (x y : Int) (z : ByteArray) : Bool := decide (a = x ∧ b = y ∧ c = z)
theorem eq_cells (a b : Int) (c : ByteArray) (x y : Int) (z : ByteArray) (w : World) :
    (Op.equalIn 10000 33 (.agg #[.int .i64 a, .int .i64 b, .string c]) (.agg #[.int .i64 x, .int .i64 y, .string z])).run Tryz.prog w = .ok (cellsSame a b c x y z) w := by
  have u3 := Tryz.underlying3
  have a3 := Tryz.isAgg3
  have z3 := Tryz.sizeOf3
  have u9 := Tryz.underlying9
  have a9 := Tryz.isAgg9
  have z9 := Tryz.sizeOf9
  have hS : (Tryz.prog).underlying 33 = some (.struct ((Tryz.prog).fieldsOf 33)) := by kernel_rfl
  have hp : (Tryz.prog).stoodInHeld 33 = false := by kernel_rfl
  rw [show (10000 : Nat) = 9999 + 1 from rfl, run_equalIn_agg w 9999 33 _ _ hS hp]
  simp only [Program.fieldsOf, Tryz.underlying33]
  go_simp
  have e : c.toList = z.toList ↔ c = z := by
    have := sameB_iff (a := c) (b := z)
    rw [← this]; unfold sameB; rw [beq_iff_eq]
  unfold cellsSame
  by_cases h1 : a = x
  · by_cases h2 : b = y
    · by_cases h3 : c = z
      · simp [h1, h2, h3]
      · simp [h1, h2, h3, e]
    · simp [h1, h2]
  · simp [h1]

theorem eq_guard (x y : Operand) (xs ys : Array Value) (w : World) : (eqGuard .eql 33 x y (.agg xs) (.agg ys)).run Tryz.prog w = .ok () w :=
  run_eqGuard_agg w .eql 33 x y xs ys (by kernel_rfl)

set_option maxRecDepth 100000 in
set_option maxHeartbeats 1000000 in
theorem impl_cellOk (t n : Int) (s : ByteArray) (hs : s.size ≤ 1048576) (w : World) : Calls Tryz.prog 58 #[cel t n s] w fun e w' => e = .returned (.bool (cOk t n s)) ∧ Below w.heap.size w w' := by
  have HC := Lib.hid (CB.new w (.int .i64 t) (.int .i64 n) (.string s))
  have HO := Lib.hid (o_same t n s)
  obtain ⟨x, hx⟩ : ∃ x, x = oT t n s := ⟨_, rfl⟩
  obtain ⟨y, hy⟩ : ∃ y, y = oN t n s := ⟨_, rfl⟩
  obtain ⟨z, hz⟩ : ∃ z, z = oS t n s := ⟨_, rfl⟩
  have HF : ∀ W, Calls Tryz.prog 92 #[.int .i64 t, .int .i64 n, .string s] W fun e w' => e = .returned (cel x y z) ∧ Below W.heap.size W w' := fun W => by
    rw [hx, hy, hz]; exact of_tag t n s hs W
  have HO2 : Hid (cellsSame t n s x y z = cOk t n s) := Lib.hid (by rw [hx, hy, hz]; exact HO.out)
  clear HO hx hy hz
  have HFC := Lib.hid HF; clear HF
  go_enter Tryz.func58, Tryz.ntmps58
  go_wp2_with fail
  obtain ⟨c0, c1, c2⟩ := HC.out.cells
  have hgl : w.heap.size < (w.alloc (.cells #[.int .i64 t, .int .i64 n, .string s] 33)).heap.size := by simp
  have HB5 := Lib.hid ((Below.refl w.heap.size w).alloc (Nat.le_refl _) (.cells #[.int .i64 t, .int .i64 n, .string s] 33)); clear HC
  generalize w.alloc (.cells #[.int .i64 t, .int .i64 n, .string s] 33) = w5 at *
  generalize hg : w.heap.size = g at *
  have HG := Lib.hid hg; clear hg
  have hD : Below w5.heap.size w5 w5.drew := (Below.refl _ _).drew
  have heq := eq_cells t n s x y z
  have hgu := eq_guard
  go_region_held3 (fun w' => Below w5.heap.size w5 w' ∧ w'.cell? ⟨g, 0, none⟩ = some (.int .i64 t) ∧ w'.cell? ⟨g, 1, none⟩ = some (.int .i64 n) ∧ w'.cell? ⟨g, 2, none⟩ = some (.string s))
    (first | exact ⟨hD, c0, c1, c2⟩ | exact ⟨hBr, (hBr.cell (p := ⟨g, 0, none⟩) hgl).trans c0, (hBr.cell (p := ⟨g, 1, none⟩) hgl).trans c1, (hBr.cell (p := ⟨g, 2, none⟩) hgl).trans c2⟩)
    (first | (go_at_call 92; refine (HFC.out w5.drew).mono ?_; rintro e w' ⟨rfl, hB⟩; have hBr : Below w5.heap.size w5 w' := hD.trans hB))
  go_wp2_with fail
  go_ret
  exact ⟨retB HO2.out, by rw [HG.out]; exact HB5.out.trans (hBr.mono (by omega))⟩





set_option maxRecDepth 100000 in
theorem is_text (t n : Int) (s : ByteArray) (w : World) : Calls Tryz.prog 189 #[cel t n s] w fun e w' => e = .returned (.bool (t == 2)) ∧ Below w.heap.size w w' := by
  go_enter Tryz.func189, Tryz.ntmps189
  go_wp2_with fail
  go_ret
  exact ⟨rfl, (Below.refl w.heap.size w).alloc (Nat.le_refl _) _⟩

/-- The cells of a value that lies in a block, behind a call that makes only new blocks. -/
theorem CB.next {w w1 : World} {g : Nat} {a b c : Value} (h : CB w g a b c) (hB : Below w.heap.size w w1) : CB w1 g a b c := h.keep hB h.lt

set_option maxRecDepth 100000 in
theorem the_number (t n : Int) (s : ByteArray) (hs : s.size ≤ 1048576) (w : World) : Calls Tryz.prog 141 #[cel t n s] w fun e w' => e = .returned (.int .i64 (numOf t n s)) ∧ Below w.heap.size w w' := by
  have hm : s.size ≤ maxLen := by unfold maxLen; omega
  have HC := Lib.hid (CB.new w (.int .i64 t) (.int .i64 n) (.string s))
  have HB0 := Lib.hid ((Below.refl w.heap.size w).alloc (Nat.le_refl _) (.cells #[.int .i64 t, .int .i64 n, .string s] 33))
  by_cases h : t = 2
  · subst h
    rw [numOf_2]
    go_enter Tryz.func141, Tryz.ntmps141
    go_wp2_with fail
    refine (is_text 2 n s _).mono ?_
    rintro e w1 ⟨rfl, hB⟩
    obtain ⟨c0, c1, c2⟩ := (HC.out.next hB).cells
    have HB := Lib.hid (HB0.out.trans (hB.mono (by simp))); clear hB
    go_wp2_with fail
    refine (impl_readDec s hm _).mono ?_
    rintro e w' ⟨rfl, rfl⟩
    go_wp2_with fail
    go_ret
    exact ⟨rfl, HB.out⟩
  · rw [numOf_n h]
    have hb : (t == 2) = false := by simpa using h
    go_enter Tryz.func141, Tryz.ntmps141
    go_wp2_with fail
    refine (is_text t n s _).mono ?_
    rw [hb]
    rintro e w1 ⟨rfl, hB⟩
    obtain ⟨c0, c1, c2⟩ := (HC.out.next hB).cells
    have HB := Lib.hid (HB0.out.trans (hB.mono (by simp))); clear hB
    go_wp2_with fail
    go_ret
    exact ⟨rfl, HB.out⟩

set_option maxRecDepth 100000 in
theorem impl_toNum (t n : Int) (s : ByteArray) (hs : s.size ≤ 1048576) (w : World) : Calls Tryz.prog 96 #[cel t n s] w fun e w' => e = .returned (.int .i64 (cNum t n s)) ∧ Below w.heap.size w w' := by
  have HC := Lib.hid (CB.new w (.int .i64 t) (.int .i64 n) (.string s))
  have HB0 := Lib.hid ((Below.refl w.heap.size w).alloc (Nat.le_refl _) (.cells #[.int .i64 t, .int .i64 n, .string s] 33))
  cases hk : cOk t n s with
  | true =>
    have E := Lib.hid (cNum_yes hk)
    have HK := Lib.hid hk; clear hk
    go_enter Tryz.func96, Tryz.ntmps96
    go_wp2_with fail
    refine (impl_cellOk t n s hs _).mono ?_
    rw [HK.out]
    rintro e w1 ⟨rfl, hB⟩
    have hn := HC.out.next hB
    obtain ⟨c0, c1, c2⟩ := hn.cells
    have HN := Lib.hid hn; clear hn
    have HB := Lib.hid (HB0.out.trans (hB.mono (by simp))); clear hB
    go_wp2_with fail
    refine (the_number t n s hs _).mono ?_
    rintro e w2 ⟨rfl, hB⟩
    have HB2 := Lib.hid (HB.out.trans (hB.mono HB.out.size)); clear hB
    go_wp2_with fail
    go_ret
    exact ⟨retI E.out.symm, HB2.out⟩
  | false =>
    have E := Lib.hid (cNum_no hk)
    have HK := Lib.hid hk; clear hk
    go_enter Tryz.func96, Tryz.ntmps96
    go_wp2_with fail
    refine (impl_cellOk t n s hs _).mono ?_
    rw [HK.out]
    rintro e w1 ⟨rfl, hB⟩
    have HB := Lib.hid (HB0.out.trans (hB.mono (by simp))); clear hB
    go_wp2_with fail
    go_ret
    exact ⟨retI E.out.symm, HB.out⟩

set_option maxRecDepth 100000 in
theorem spec_toNum (t n : Int) (s : ByteArray) (hs : s.size ≤ 1048576) (w : World) : Calls Tryz.prog 37 #[cel t n s] w fun e w' => e = .returned (.int .i64 (cNum t n s)) ∧ Below w.heap.size w w' := by
  have hm : s.size ≤ maxLen := by unfold maxLen; omega
  have HC := Lib.hid (CB.new w (.int .i64 t) (.int .i64 n) (.string s))
  have HB0 := Lib.hid ((Below.refl w.heap.size w).alloc (Nat.le_refl _) (.cells #[.int .i64 t, .int .i64 n, .string s] 33))
  cases hk : cOk t n s with
  | true =>
    have E := Lib.hid (cNum_yes hk)
    have HK := Lib.hid hk; clear hk
    by_cases h : t = 2
    · subst h
      go_enter Tryz.func37, Tryz.ntmps37
      go_wp2_with fail
      refine (spec_cellOk 2 n s hs _).mono ?_
      rw [HK.out]
      rintro e w1 ⟨rfl, hB⟩
      obtain ⟨c0, c1, c2⟩ := (HC.out.next hB).cells
      have HB := Lib.hid (HB0.out.trans (hB.mono (by simp))); clear hB
      go_wp2_with fail
      refine (spec_readDec s hm _).mono ?_
      rintro e w' ⟨rfl, rfl⟩
      go_wp2_with fail
      go_ret
      exact ⟨retI (by rw [E.out, numOf_2]), HB.out⟩
    · have hb : (t == 2) = false := by simpa using h
      go_enter Tryz.func37, Tryz.ntmps37
      go_wp2_with fail
      refine (spec_cellOk t n s hs _).mono ?_
      rw [HK.out]
      rintro e w1 ⟨rfl, hB⟩
      obtain ⟨c0, c1, c2⟩ := (HC.out.next hB).cells
      have HB := Lib.hid (HB0.out.trans (hB.mono (by simp))); clear hB
      go_wp2_with fail
      go_ret
      exact ⟨retI (by rw [E.out, numOf_n h]), HB.out⟩
  | false =>
    have E := Lib.hid (cNum_no hk)
    have HK := Lib.hid hk; clear hk
    go_enter Tryz.func37, Tryz.ntmps37
    go_wp2_with fail
    refine (spec_cellOk t n s hs _).mono ?_
    rw [HK.out]
    rintro e w1 ⟨rfl, hB⟩
    have HB := Lib.hid (HB0.out.trans (hB.mono (by simp))); clear hB
    go_wp2_with fail
    go_ret
    exact ⟨retI E.out.symm, HB.out⟩



end Go.Proofs.YthaedmldlenhgaaGreatDoor.Cell
