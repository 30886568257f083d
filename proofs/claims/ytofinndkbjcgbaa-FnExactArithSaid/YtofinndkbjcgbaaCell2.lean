/-
  Which values are valid, for the program and for its model.
-/
import Derived.Test.YtofinndkbjcgbaaCell
import Derived.BigQuiet
import Derived.Deep.QuietTactic
import Derived.Deep.RegionHeld3
import Derived.Laws.StructEq
namespace Go.Proofs.Ytofinndkbjcgbaa.Cell
open Go.ChangeShapes Go.WideShapes Go.ChangeAt Go.RowKit Go.PlainAid
open Go.Proofs.Ytofinndkbjcgbaa.Dec
open Go.Proofs.Ytofinndkbjcgbaa.DecPure Go.Proofs.Ytofinndkbjcgbaa.TextPure Go.Proofs.Ytofinndkbjcgbaa.ReadPure Go.Proofs.Ytofinndkbjcgbaa.CellPure
set_option linter.unusedVariables false

set_option maxRecDepth 100000 in
theorem spec_cellOk (t n : Int) (s : ByteArray) (hs : s.size ≤ 1048576) (w : World) : Calls Try.prog 9 #[cel t n s] w fun e w' => e = .returned (.bool (cOk t n s)) ∧ Below w.heap.size w w' := by
  have HB := Lib.hid ((Below.refl w.heap.size w).alloc (Nat.le_refl _) (.cells #[.int .i64 t, .int .i64 n, .string s] 25))
  have hm : s.size ≤ maxLen := by unfold maxLen; omega
  by_cases hz : 500 < s.size
  · have E := Lib.hid (cOk_big (t := t) (n := n) hz)
    have hzi : (500 : Int) < (s.size : Int) := by omega
    go_enter Try.func9, Try.ntmps9
    go_wp2_with fail
    go_ret
    exact ⟨retB E.out.symm, HB.out⟩
  have hz' : s.size ≤ 500 := by omega
  have hzi : ¬ (500 : Int) < (s.size : Int) := by omega
  have hzn : decide (500 < s.size) = false := by simpa using hz
  by_cases h0 : t = 0
  · subst h0
    have E := Lib.hid (cOk_0 (n := n) hz')
    cases hn : s.toList.isEmpty with
    | true =>
      have hl : s.toList = [] := List.isEmpty_iff.1 hn
      have hn2 : (!s.toList.isEmpty) = false := by rw [hn]; rfl
      have HN := Lib.hid hn; clear hn
      go_enter Try.func9, Try.ntmps9
      go_wp2_with fail
      go_ret
      exact ⟨retB (by rw [E.out]; unfold nilB; rw [HN.out, Bool.true_and]), HB.out⟩
    | false =>
      have hl : (s.toList == []) = false := by
        cases h : s.toList with
        | nil => rw [h] at hn; cases hn
        | cons a x => rfl
      have hn2 : (!s.toList.isEmpty) = true := by rw [hn]; rfl
      go_enter Try.func9, Try.ntmps9
      go_wp2_with fail
      go_ret
      exact ⟨retB (by rw [E.out]; unfold nilB; rw [hn]; rfl), HB.out⟩
  by_cases h1 : t = 1
  · subst h1
    have E := Lib.hid (cOk_1 (n := n) hz')
    clear h0
    cases hn : s.toList.isEmpty with
    | true =>
      have hl : s.toList = [] := List.isEmpty_iff.1 hn
      have hn2 : (!s.toList.isEmpty) = false := by rw [hn]; rfl
      have HN := Lib.hid hn; clear hn
      go_enter Try.func9, Try.ntmps9
      go_wp2_with (go_at_call 20; refine (spec_ok _ _).mono ?_; rintro e w' ⟨rfl, rfl⟩)
      go_ret
      exact ⟨retB (by rw [E.out]; unfold nilB; rw [HN.out, Bool.true_and]), HB.out⟩
    | false =>
      have hl : (s.toList == []) = false := by
        cases h : s.toList with
        | nil => rw [h] at hn; cases hn
        | cons a x => rfl
      have hn2 : (!s.toList.isEmpty) = true := by rw [hn]; rfl
      go_enter Try.func9, Try.ntmps9
      go_wp2_with fail
      go_ret
      exact ⟨retB (by rw [E.out]; unfold nilB; rw [hn]; rfl), HB.out⟩
  by_cases h2 : t = 2
  · subst h2
    have E := Lib.hid (cOk_2 (n := n) hz')
    clear h0 h1
    go_enter Try.func9, Try.ntmps9
    go_wp2_with fail
    go_ret
    exact ⟨retB E.out.symm, HB.out⟩
  by_cases h3 : t = 3
  · subst h3
    have E := Lib.hid (cOk_3 (n := n) hz')
    clear h0 h1 h2
    cases hl : looksB s with
    | true =>
      have HL := Lib.hid hl; clear hl
      go_enter Try.func9, Try.ntmps9
      go_wp2_with fail
      refine (spec_readDec s hm _).mono ?_
      rintro e w' ⟨rfl, rfl⟩
      go_wp2_with fail
      refine (spec_looks s hm _).mono ?_
      rw [HL.out]
      rintro e w' ⟨rfl, rfl⟩
      go_wp2_with fail
      go_ret
      exact ⟨retB (by rw [E.out, HL.out, Bool.true_and]), HB.out⟩
    | false =>
      have HL := Lib.hid hl; clear hl
      go_enter Try.func9, Try.ntmps9
      go_wp2_with fail
      refine (spec_readDec s hm _).mono ?_
      rintro e w' ⟨rfl, rfl⟩
      go_wp2_with fail
      refine (spec_looks s hm _).mono ?_
      rw [HL.out]
      rintro e w' ⟨rfl, rfl⟩
      go_wp2_with fail
      go_ret
      exact ⟨retB (by rw [E.out, HL.out, Bool.false_and]), HB.out⟩
  have E := Lib.hid (cOk_no (n := n) (s := s) h0 h1 h2 h3)
  have b0 : (t == 0) = false := by simpa using h0
  have b1 : (t == 1) = false := by simpa using h1
  have b2 : (t == 2) = false := by simpa using h2
  have b3 : (t == 3) = false := by simpa using h3
  clear h0 h1 h2 h3
  go_enter Try.func9, Try.ntmps9
  go_wp2_with fail
  go_ret
  exact ⟨retB E.out.symm, HB.out⟩

set_option maxRecDepth 100000 in
theorem of_tag (t n : Int) (s : ByteArray) (hs : s.size ≤ 1048576) (w : World) : Calls Try.prog 35 #[.int .i64 t, .int .i64 n, .string s] w fun e w' => e = .returned (cel (oT t n s) (oN t n s) (oS t n s)) ∧ Below w.heap.size w w' := by
  have hno : (t = 1 → dOk n = false) → (t = 2 → 500 < s.size) → t ≠ 3 → oT t n s = 0 ∧ oN t n s = 0 ∧ oS t n s = ⟨#[]⟩ := o_no
  have HNO := Lib.hid hno; clear hno
  by_cases h1 : t = 1
  · subst h1
    cases hd : dOk n with
    | true =>
      obtain ⟨e1, e2, e3⟩ := o_1 (s := s) hd
      rw [e1, e2, e3]; clear e1 e2 e3 HNO
      have HD := Lib.hid hd; clear hd
      go_enter Try.func35, Try.ntmps35
      go_wp2_with fail
      refine (impl_ok n _).mono ?_
      rw [HD.out]
      rintro e w' ⟨rfl, rfl⟩
      go_wp2_with fail
      exact bodyPost_ret ((CB.new w _ _ _).results rfl rfl) rfl ⟨rfl, (Below.refl w.heap.size w).alloc (Nat.le_refl _) _⟩
    | false =>
      obtain ⟨e1, e2, e3⟩ := HNO.out (fun _ => hd) (fun h => by omega) (by omega)
      rw [e1, e2, e3]; clear e1 e2 e3 HNO
      have HD := Lib.hid hd; clear hd
      go_enter Try.func35, Try.ntmps35
      go_wp2_with fail
      refine (impl_ok n _).mono ?_
      rw [HD.out]
      rintro e w' ⟨rfl, rfl⟩
      go_wp2_with fail
      exact bodyPost_ret ((CB.new w _ _ _).results rfl rfl) rfl ⟨rfl, (Below.refl w.heap.size w).alloc (Nat.le_refl _) _⟩
  have b1 : (t == 1) = false := by simpa using h1
  by_cases h2 : t = 2
  · subst h2
    by_cases hz : 500 < s.size
    · obtain ⟨e1, e2, e3⟩ := HNO.out (fun h => by omega) (fun _ => hz) (by omega)
      rw [e1, e2, e3]; clear e1 e2 e3 HNO h1
      have hz1 : ¬ s.size ≤ 500 := by omega
      have hz2 : ¬ (s.size : Int) ≤ 500 := by omega
      go_enter Try.func35, Try.ntmps35
      go_wp2_with fail
      exact bodyPost_ret ((CB.new w _ _ _).results rfl rfl) rfl ⟨rfl, (Below.refl w.heap.size w).alloc (Nat.le_refl _) _⟩
    · have hz1 : s.size ≤ 500 := by omega
      have hz2 : (s.size : Int) ≤ 500 := by omega
      obtain ⟨e1, e2, e3⟩ := o_2 (n := n) hz1
      rw [e1, e2, e3]; clear e1 e2 e3 HNO h1
      go_enter Try.func35, Try.ntmps35
      go_wp2_with fail
      exact bodyPost_ret ((CB.new w _ _ _).results rfl rfl) rfl ⟨rfl, (Below.refl w.heap.size w).alloc (Nat.le_refl _) _⟩
  have b2 : (t == 2) = false := by simpa using h2
  by_cases h3 : t = 3
  · subst h3
    obtain ⟨e1, e2, e3⟩ := o_3 (n := n) (s := s)
    rw [e1, e2, e3]; clear e1 e2 e3 HNO h1 h2
    have HCB := Lib.hid (CB.new w (.int .i64 0) (.int .i64 0) (.string ⟨#[]⟩))
    obtain ⟨x, hx⟩ : ∃ x, x = fT s := ⟨_, rfl⟩
    obtain ⟨y, hy⟩ : ∃ y, y = fN s := ⟨_, rfl⟩
    obtain ⟨z, hz⟩ : ∃ z, z = fS s := ⟨_, rfl⟩
    have HF : ∀ W, Calls Try.prog 45 #[.string s] W fun e w' => e = .returned (cel x y z) ∧ Below W.heap.size W w' := fun W => by
      rw [hx, hy, hz]; exact impl_field s hs W
    rw [← hx, ← hy, ← hz]; clear hx hy hz
    have HFC := Lib.hid HF; clear HF
    go_enter Try.func35, Try.ntmps35
    go_wp2_with fail
    refine (HFC.out _).mono ?_
    rintro e w1 ⟨rfl, hB⟩
    have hk := HCB.out.keep hB (by simp)
    obtain ⟨c0, c1, c2⟩ := hk.cells
    obtain ⟨m0, m1, m2⟩ := hk.marks
    have HK := Lib.hid hk; clear hk
    have HB := Lib.hid (below_new hB); clear hB
    go_wp2_with fail
    exact bodyPost_ret ((HK.out.set3 _ _ _).results rfl rfl) rfl ⟨rfl, below_set3 HB.out (Nat.le_refl _) _ _ _⟩
  have b3 : (t == 3) = false := by simpa using h3
  obtain ⟨e1, e2, e3⟩ := HNO.out (fun h => absurd h h1) (fun h => absurd h h2) h3
  rw [e1, e2, e3]; clear e1 e2 e3 HNO h1 h2 h3
  go_enter Try.func35, Try.ntmps35
  go_wp2_with fail
  exact bodyPost_ret ((CB.new w _ _ _).results rfl rfl) rfl ⟨rfl, (Below.refl w.heap.size w).alloc (Nat.le_refl _) _⟩

/-- When two values are the same. -/
def cellsSame (a b : Int) (c : ByteArray) (x y : Int) (z : ByteArray) : Bool := decide (a = x ∧ b = y ∧ c = z)
theorem eq_cells (a b : Int) (c : ByteArray) (x y : Int) (z : ByteArray) (w : World) :
    (Op.equalIn 10000 25 (.agg #[.int .i64 a, .int .i64 b, .string c]) (.agg #[.int .i64 x, .int .i64 y, .string z])).run Try.prog w = .ok (cellsSame a b c x y z) w := by
  have u3 := Try.underlying3
  have a3 := Try.isAgg3
  have z3 := Try.sizeOf3
  have u9 := Try.underlying9
  have a9 := Try.isAgg9
  have z9 := Try.sizeOf9
  have hS : (Try.prog).underlying 25 = some (.struct ((Try.prog).fieldsOf 25)) := by kernel_rfl
  have hp : (Try.prog).stoodInHeld 25 = false := by kernel_rfl
  rw [show (10000 : Nat) = 9999 + 1 from rfl, run_equalIn_agg w 9999 25 _ _ hS hp]
  simp only [Program.fieldsOf, Try.underlying25]
  go_simp
  have e : c.toList = z.toList ↔ c = z := by
    have := sameB_iff (a := c) (b := z)
    rw [← this]; unfold sameB; rw [beq_iff_eq]
  unfold cellsSame
  by_cases h1 : a = x
  · by_cases h2 : b = y
    · by_cases h3 : c = z
      · simp [h1, h2, h3]
      · simp [h1, h2, h3, e]
    · simp [h1, h2]
  · simp [h1]

theorem eq_guard (x y : Operand) (xs ys : Array Value) (w : World) : (eqGuard .eql 25 x y (.agg xs) (.agg ys)).run Try.prog w = .ok () w :=
  run_eqGuard_agg w .eql 25 x y xs ys (by kernel_rfl)

set_option maxRecDepth 100000 in
set_option maxHeartbeats 1000000 in
theorem impl_cellOk (t n : Int) (s : ByteArray) (hs : s.size ≤ 1048576) (w : World) : Calls Try.prog 25 #[cel t n s] w fun e w' => e = .returned (.bool (cOk t n s)) ∧ Below w.heap.size w w' := by
  have HC := Lib.hid (CB.new w (.int .i64 t) (.int .i64 n) (.string s))
  have HO := Lib.hid (o_same t n s)
  obtain ⟨x, hx⟩ : ∃ x, x = oT t n s := ⟨_, rfl⟩
  obtain ⟨y, hy⟩ : ∃ y, y = oN t n s := ⟨_, rfl⟩
  obtain ⟨z, hz⟩ : ∃ z, z = oS t n s := ⟨_, rfl⟩
  have HF : ∀ W, Calls Try.prog 35 #[.int .i64 t, .int .i64 n, .string s] W fun e w' => e = .returned (cel x y z) ∧ Below W.heap.size W w' := fun W => by
    rw [hx, hy, hz]; exact of_tag t n s hs W
  have HO2 : Hid (cellsSame t n s x y z = cOk t n s) := Lib.hid (by rw [hx, hy, hz]; exact HO.out)
  clear HO hx hy hz
  have HFC := Lib.hid HF; clear HF
  go_enter Try.func25, Try.ntmps25
  go_wp2_with fail
  obtain ⟨c0, c1, c2⟩ := HC.out.cells
  have hgl : w.heap.size < (w.alloc (.cells #[.int .i64 t, .int .i64 n, .string s] 25)).heap.size := by simp
  have HB5 := Lib.hid ((Below.refl w.heap.size w).alloc (Nat.le_refl _) (.cells #[.int .i64 t, .int .i64 n, .string s] 25)); clear HC
  generalize w.alloc (.cells #[.int .i64 t, .int .i64 n, .string s] 25) = w5 at *
  generalize hg : w.heap.size = g at *
  have HG := Lib.hid hg; clear hg
  have hD : Below w5.heap.size w5 w5.drew := (Below.refl _ _).drew
  have heq := eq_cells t n s x y z
  have hgu := eq_guard
  go_region_held3 (fun w' => Below w5.heap.size w5 w' ∧ w'.cell? ⟨g, 0, none⟩ = some (.int .i64 t) ∧ w'.cell? ⟨g, 1, none⟩ = some (.int .i64 n) ∧ w'.cell? ⟨g, 2, none⟩ = some (.string s))
    (first | exact ⟨hD, c0, c1, c2⟩ | exact ⟨hBr, (hBr.cell (p := ⟨g, 0, none⟩) hgl).trans c0, (hBr.cell (p := ⟨g, 1, none⟩) hgl).trans c1, (hBr.cell (p := ⟨g, 2, none⟩) hgl).trans c2⟩)
    (first | (go_at_call 35; refine (HFC.out w5.drew).mono ?_; rintro e w' ⟨rfl, hB⟩; have hBr : Below w5.heap.size w5 w' := hD.trans hB))
  go_wp2_with fail
  go_ret
  exact ⟨retB HO2.out, by rw [HG.out]; exact HB5.out.trans (hBr.mono (by omega))⟩

/-- A value of the laws' own that lies in a block. -/
def LB (w : World) (g : Nat) (a b c : Value) : Prop := w.heap[g]? = some (.cells #[a, b, c] 23 (0, 0))
theorem LB.new (w : World) (a b c : Value) : LB (w.alloc (.cells #[a, b, c] 23)) w.heap.size a b c := heap_alloc_new w _
theorem LB.lt {w : World} {g : Nat} {a b c : Value} (h : LB w g a b c) : g < w.heap.size := by
  have h' : w.heap[g]? = some (.cells #[a, b, c] 23 (0, 0)) := h
  exact (Array.getElem?_eq_some_iff.1 h').1
theorem LB.next {w w1 : World} {g : Nat} {a b c : Value} (h : LB w g a b c) (hB : Below w.heap.size w w1) : LB w1 g a b c := (hB.block _ h.lt).trans h
theorem LB.cells {w : World} {g : Nat} {a b c : Value} (h : LB w g a b c) : w.cell? ⟨g, 0, none⟩ = some a ∧ w.cell? ⟨g, 1, none⟩ = some b ∧ w.cell? ⟨g, 2, none⟩ = some c :=
  ⟨cell_of_row w g 0 _ _ _ h, cell_of_row w g 1 _ _ _ h, cell_of_row w g 2 _ _ _ h⟩

set_option maxRecDepth 100000 in
theorem to_cell (t n : Int) (s : ByteArray) (w : World) : Calls Try.prog 6 #[cel t n s] w fun e w' => e = .returned (cel t n s) ∧ Below w.heap.size w w' := by
  go_enter Try.func6, Try.ntmps6
  go_wp2_with fail
  refine bodyPost_ret (v := cel t n s) (by simp [results, Try.results6, go_sem]) rfl ⟨rfl, ?_⟩
  exact (((Below.refl w.heap.size w).alloc (Nat.le_refl _) _).alloc (by simp) _).alloc (by simp; omega) _

/-- What is left of a budget, and what that says of the text. -/
def Left (s : ByteArray) (l : Int) (w : World) (e : Ending) (w' : World) : Prop := (∃ r : Int, e = .returned (.int .i64 r) ∧ (0 ≤ r → (s.size : Int) ≤ l ∧ r ≤ l)) ∧ Below w.heap.size w w'
set_option maxRecDepth 100000 in
theorem sz_cell (t n : Int) (s : ByteArray) (l : Int) (hs : s.size ≤ 9223372036854775807) (hl0 : 0 ≤ l) (hl : l ≤ 1048576) (w : World) : Calls Try.prog 4 #[cel t n s, .int .i64 l] w (Left s l w) := by
  by_cases h : l - (s.size : Int) < 0
  · go_enter Try.func4, Try.ntmps4
    go_wp2_with fail
    go_ret
    exact ⟨⟨-1, rfl, by omega⟩, (Below.refl _ _).alloc (Nat.le_refl _) _⟩
  · go_enter Try.func4, Try.ntmps4
    go_wp2_with fail
    go_ret
    exact ⟨⟨l - s.size, rfl, by omega⟩, (Below.refl _ _).alloc (Nat.le_refl _) _⟩

set_option maxRecDepth 100000 in
theorem eq_cell (t n : Int) (s : ByteArray) (w : World) : Calls Try.prog 8 #[cel t n s, cel t n s] w fun e w' => e = .returned (.bool true) ∧ Below w.heap.size w w' := by
  go_enter Try.func8, Try.ntmps8
  go_wp2_with fail
  go_ret
  exact ⟨rfl, ((Below.refl w.heap.size w).alloc (Nat.le_refl _) _).alloc (by simp) _⟩

set_option maxRecDepth 100000 in
theorem is_text (t n : Int) (s : ByteArray) (w : World) : Calls Try.prog 26 #[cel t n s] w fun e w' => e = .returned (.bool (t == 2)) ∧ Below w.heap.size w w' := by
  go_enter Try.func26, Try.ntmps26
  go_wp2_with fail
  go_ret
  exact ⟨rfl, (Below.refl w.heap.size w).alloc (Nat.le_refl _) _⟩

/-- The cells of a value that lies in a block, behind a call that makes only new blocks. -/
theorem CB.next {w w1 : World} {g : Nat} {a b c : Value} (h : CB w g a b c) (hB : Below w.heap.size w w1) : CB w1 g a b c := h.keep hB h.lt

set_option maxRecDepth 100000 in
theorem the_number (t n : Int) (s : ByteArray) (hs : s.size ≤ 1048576) (w : World) : Calls Try.prog 18 #[cel t n s] w fun e w' => e = .returned (.int .i64 (numOf t n s)) ∧ Below w.heap.size w w' := by
  have hm : s.size ≤ maxLen := by unfold maxLen; omega
  have HC := Lib.hid (CB.new w (.int .i64 t) (.int .i64 n) (.string s))
  have HB0 := Lib.hid ((Below.refl w.heap.size w).alloc (Nat.le_refl _) (.cells #[.int .i64 t, .int .i64 n, .string s] 25))
  by_cases h : t = 2
  · subst h
    rw [numOf_2]
    go_enter Try.func18, Try.ntmps18
    go_wp2_with fail
    refine (is_text 2 n s _).mono ?_
    rintro e w1 ⟨rfl, hB⟩
    obtain ⟨c0, c1, c2⟩ := (HC.out.next hB).cells
    have HB := Lib.hid (HB0.out.trans (hB.mono (by simp))); clear hB
    go_wp2_with fail
    refine (impl_readDec s hm _).mono ?_
    rintro e w' ⟨rfl, rfl⟩
    go_wp2_with fail
    go_ret
    exact ⟨rfl, HB.out⟩
  · rw [numOf_n h]
    have hb : (t == 2) = false := by simpa using h
    go_enter Try.func18, Try.ntmps18
    go_wp2_with fail
    refine (is_text t n s _).mono ?_
    rw [hb]
    rintro e w1 ⟨rfl, hB⟩
    obtain ⟨c0, c1, c2⟩ := (HC.out.next hB).cells
    have HB := Lib.hid (HB0.out.trans (hB.mono (by simp))); clear hB
    go_wp2_with fail
    go_ret
    exact ⟨rfl, HB.out⟩


set_option maxRecDepth 100000 in
theorem spec_toNum (t n : Int) (s : ByteArray) (hs : s.size ≤ 1048576) (w : World) : Calls Try.prog 10 #[cel t n s] w fun e w' => e = .returned (.int .i64 (cNum t n s)) ∧ Below w.heap.size w w' := by
  have hm : s.size ≤ maxLen := by unfold maxLen; omega
  have HC := Lib.hid (CB.new w (.int .i64 t) (.int .i64 n) (.string s))
  have HB0 := Lib.hid ((Below.refl w.heap.size w).alloc (Nat.le_refl _) (.cells #[.int .i64 t, .int .i64 n, .string s] 25))
  cases hk : cOk t n s with
  | true =>
    have E := Lib.hid (cNum_yes hk)
    have HK := Lib.hid hk; clear hk
    by_cases h : t = 2
    · subst h
      go_enter Try.func10, Try.ntmps10
      go_wp2_with fail
      refine (spec_cellOk 2 n s hs _).mono ?_
      rw [HK.out]
      rintro e w1 ⟨rfl, hB⟩
      obtain ⟨c0, c1, c2⟩ := (HC.out.next hB).cells
      have HB := Lib.hid (HB0.out.trans (hB.mono (by simp))); clear hB
      go_wp2_with fail
      refine (spec_readDec s hm _).mono ?_
      rintro e w' ⟨rfl, rfl⟩
      go_wp2_with fail
      go_ret
      exact ⟨retI (by rw [E.out, numOf_2]), HB.out⟩
    · have hb : (t == 2) = false := by simpa using h
      go_enter Try.func10, Try.ntmps10
      go_wp2_with fail
      refine (spec_cellOk t n s hs _).mono ?_
      rw [HK.out]
      rintro e w1 ⟨rfl, hB⟩
      obtain ⟨c0, c1, c2⟩ := (HC.out.next hB).cells
      have HB := Lib.hid (HB0.out.trans (hB.mono (by simp))); clear hB
      go_wp2_with fail
      go_ret
      exact ⟨retI (by rw [E.out, numOf_n h]), HB.out⟩
  | false =>
    have E := Lib.hid (cNum_no hk)
    have HK := Lib.hid hk; clear hk
    go_enter Try.func10, Try.ntmps10
    go_wp2_with fail
    refine (spec_cellOk t n s hs _).mono ?_
    rw [HK.out]
    rintro e w1 ⟨rfl, hB⟩
    have HB := Lib.hid (HB0.out.trans (hB.mono (by simp))); clear hB
    go_wp2_with fail
    go_ret
    exact ⟨retI E.out.symm, HB.out⟩



end Go.Proofs.Ytofinndkbjcgbaa.Cell
