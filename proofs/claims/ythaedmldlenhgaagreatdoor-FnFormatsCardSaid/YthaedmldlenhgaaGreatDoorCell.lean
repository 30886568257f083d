/-
  Values: which are valid, and their numbers, for the program and for its model.
-/
import Derived.Test.YthaedmldlenhgaaGreatDoorPures
import Derived.Test.YthaedmldlenhgaaGreatDoorReadLaws
import Derived.Test.YthaedmldlenhgaaGreatDoorShelf
import Derived.Lib.SmallJoins
namespace Go.Proofs.YthaedmldlenhgaaGreatDoor.Cell
open Go.ChangeShapes Go.WideShapes Go.ChangeAt Go.RowKit Go.PlainAid
open Go.Proofs.YthaedmldlenhgaaGreatDoor.Dec
open Go.Proofs.YthaedmldlenhgaaGreatDoor.DecPure Go.Proofs.YthaedmldlenhgaaGreatDoor.TextPure Go.Proofs.YthaedmldlenhgaaGreatDoor.ReadPure Go.Proofs.YthaedmldlenhgaaGreatDoor.CellPure
set_option linter.unusedVariables false

abbrev cel (t n : Int) (s : ByteArray) : Value := .agg #[.int .i64 t, .int .i64 n, .string s]
theorem retC {a b c d : Int} {s t : ByteArray} (h : a = b) (g : c = d) (f : s = t) : Ending.returned (.agg #[.int .i64 a, .int .i64 c, .string s]) = .returned (.agg #[.int .i64 b, .int .i64 d, .string t]) := by rw [h, g, f]
theorem nil_len {s : ByteArray} : s.toList.isEmpty = nilB s := rfl

theorem clone_cell (t : ByteArray) (w : World) (hlim : t.size ≤ 281474976710656) : Calls Tryz.prog 97 #[.string t] w fun x w' => x = .returned (.string t) ∧ Below w.heap.size w w' := by
  go_enter Tryz.func97, Tryz.ntmps97
  go_wp2_with fail
  refine (Tryz.stringslite_Clone _ _ hlim).mono ?_
  rintro x w3 ⟨rfl, hB⟩
  go_wp2_with fail
  go_ret
  exact ⟨rfl, hB⟩

/-- A value that lies in a block of its own. -/
def CB (w : World) (g : Nat) (a b c : Value) : Prop := w.heap[g]? = some (.cells #[a, b, c] 33 (0, 0))
theorem CB.new (w : World) (a b c : Value) : CB (w.alloc (.cells #[a, b, c] 33)) w.heap.size a b c := heap_alloc_new w _
theorem CB.keep {B g : Nat} {w w' : World} {a b c : Value} (h : CB w g a b c) (hB : Below B w w') (hg : g < B) : CB w' g a b c := (hB.block _ hg).trans h
theorem CB.cells {w : World} {g : Nat} {a b c : Value} (h : CB w g a b c) : w.cell? ⟨g, 0, none⟩ = some a ∧ w.cell? ⟨g, 1, none⟩ = some b ∧ w.cell? ⟨g, 2, none⟩ = some c :=
  ⟨cell_of_row w g 0 _ _ _ h, cell_of_row w g 1 _ _ _ h, cell_of_row w g 2 _ _ _ h⟩
theorem CB.marks {w : World} {g : Nat} {a b c : Value} (h : CB w g a b c) : w.frozen? ⟨g, 0, none⟩ = false ∧ w.frozen? ⟨g, 1, none⟩ = false ∧ w.frozen? ⟨g, 2, none⟩ = false := by
  have e : ∀ i, w.frozen? ⟨g, i, none⟩ = false := fun i => by
    unfold World.frozen?
    have h' : w.heap[g]? = some (.cells #[a, b, c] 33 (0, 0)) := h
    rw [h']; simp
  exact ⟨e 0, e 1, e 2⟩
theorem CB.set3 {w : World} {g : Nat} {a b c : Value} (h : CB w g a b c) (x y z : Value) : CB (((w.setCell ⟨g, 0, none⟩ x).setCell ⟨g, 1, none⟩ y).setCell ⟨g, 2, none⟩ z) g x y z := by
  have h' : w.heap[g]? = some (.cells #[a, b, c] 33 (0, 0)) := h
  unfold CB
  simp [World.setCell, Array.getElem?_modify, h']
theorem CB.drew {w : World} {g : Nat} {a b c : Value} (h : CB w g a b c) : CB w.drew g a b c := h
theorem CB.lt {w : World} {g : Nat} {a b c : Value} (h : CB w g a b c) : g < w.heap.size := by
  have h' : w.heap[g]? = some (.cells #[a, b, c] 33 (0, 0)) := h
  exact (Array.getElem?_eq_some_iff.1 h').1
theorem CB.results {fn : Func} {p : Tmp} (h : fn.results = #[.cell p 33]) {tmps : Array Value} {w : World} {g : Nat} {a b c : Value} (T : CB w g a b c)
    (hp : tmps.getD p undef = .pointer (some ⟨g, 0, none⟩)) : (results fn tmps).run Tryz.prog w = .ok (.agg #[a, b, c]) w :=
  results_cell_row h _ _ g 33 #[a, b, c] (0, 0) _ hp T Tryz.underlying33 rfl (by kernel_rfl)
theorem below_new {w w1 : World} {o : Obj} (h : Below (w.alloc o).heap.size (w.alloc o) w1) : Below w.heap.size w w1 :=
  ((Below.refl _ _).alloc (Nat.le_refl _) _).trans (h.mono (by simp))
theorem below_set3 {B g : Nat} {w w1 : World} (h : Below B w w1) (hg : B ≤ g) (x y z : Value) : Below B w (((w1.setCell ⟨g, 0, none⟩ x).setCell ⟨g, 1, none⟩ y).setCell ⟨g, 2, none⟩ z) :=
  ((h.setCell (by simpa using hg) _).setCell (by simpa using hg) _).setCell (by simpa using hg) _

set_option maxRecDepth 100000 in
theorem impl_field (s : ByteArray) (hs : s.size ≤ 1048576) (w : World) : Calls Tryz.prog 138 #[.string s] w fun e w' => e = .returned (cel (fT s) (fN s) (fS s)) ∧ Below w.heap.size w w' := by
  have hcb := CB.new w (.int .i64 0) (.int .i64 0) (.string ⟨#[]⟩)
  by_cases hz : 500 < s.size
  · obtain ⟨e1, e2, e3⟩ := f_big hz
    rw [e1, e2, e3]; clear e1 e2 e3 hcb
    have hzi : (500 : Int) < (s.size : Int) := by omega
    go_enter Tryz.func138, Tryz.ntmps138
    go_wp2_with fail
    refine bodyPost_ret (v := cel 0 0 ⟨#[]⟩) (by simp [results, Tryz.results138, go_sem]) rfl ⟨rfl, ?_⟩
    exact (Below.refl w.heap.size w).alloc (Nat.le_refl _) _
  · have hzi : ¬ (500 : Int) < (s.size : Int) := by omega
    have hzn : decide (500 < s.size) = false := by simpa using hz
    have HCB := Lib.hid hcb; clear hcb
    cases hl : looksB s with
    | false =>
      obtain ⟨e1, e2, e3⟩ := f_str (by omega) hl
      rw [e1, e2, e3]; clear e1 e2 e3
      have HL := Lib.hid hl; clear hl
      have hm : s.size ≤ maxLen := by unfold maxLen; omega
      go_enter Tryz.func138, Tryz.ntmps138
      go_wp2_with fail
      refine (impl_looks s hm _).mono ?_
      rw [HL.out]
      rintro e w' ⟨rfl, rfl⟩
      go_wp2_with fail
      refine (clone_cell s _ (by omega)).mono ?_
      rintro e w1 ⟨rfl, hB⟩
      have hk := HCB.out.keep hB (by simp)
      obtain ⟨c0, c1, c2⟩ := hk.cells
      obtain ⟨m0, m1, m2⟩ := hk.marks
      have HK := Lib.hid hk; clear hk
      have HB := Lib.hid (below_new hB); clear hB
      go_wp2_with fail
      exact bodyPost_ret ((HK.out.set3 _ _ _).results rfl rfl) rfl ⟨rfl, below_set3 HB.out (Nat.le_refl _) _ _ _⟩
    | true =>
      obtain ⟨e1, e2, e3⟩ := f_num (by omega) hl
      rw [e1, e2, e3]; clear e1 e2 e3
      have HL := Lib.hid hl; clear hl
      have hm : s.size ≤ maxLen := by unfold maxLen; omega
      go_enter Tryz.func138, Tryz.ntmps138
      go_wp2_with fail
      refine (impl_looks s hm _).mono ?_
      rw [HL.out]
      rintro e w' ⟨rfl, rfl⟩
      go_wp2_with fail
      refine (impl_readDec s hm _).mono ?_
      rintro e w' ⟨rfl, rfl⟩
      go_wp2_with fail
      refine (clone_cell s _ (by omega)).mono ?_
      rintro e w1 ⟨rfl, hB⟩
      have hk := HCB.out.keep hB (by simp)
      obtain ⟨c0, c1, c2⟩ := hk.cells
      obtain ⟨m0, m1, m2⟩ := hk.marks
      have HK := Lib.hid hk; clear hk
      have HB := Lib.hid (below_new hB); clear hB
      go_wp2_with fail
      exact bodyPost_ret ((HK.out.set3 _ _ _).results rfl rfl) rfl ⟨rfl, below_set3 HB.out (Nat.le_refl _) _ _ _⟩

set_option maxRecDepth 100000 in
theorem spec_field (s : ByteArray) (hs : s.size ≤ 1048576) (w : World) : Calls Tryz.prog 54 #[.string s] w fun e w' => e = .returned (cel (fT s) (fN s) (fS s)) ∧ Below w.heap.size w w' := by
  have hcb := CB.new w (.int .i64 0) (.int .i64 0) (.string ⟨#[]⟩)
  by_cases hz : 500 < s.size
  · obtain ⟨e1, e2, e3⟩ := f_big hz
    rw [e1, e2, e3]; clear e1 e2 e3 hcb
    have hzi : (500 : Int) < (s.size : Int) := by omega
    go_enter Tryz.func54, Tryz.ntmps54
    go_wp2_with fail
    refine bodyPost_ret (v := cel 0 0 ⟨#[]⟩) (by simp [results, Tryz.results54, go_sem]) rfl ⟨rfl, ?_⟩
    exact (Below.refl w.heap.size w).alloc (Nat.le_refl _) _
  · have hzi : ¬ (500 : Int) < (s.size : Int) := by omega
    have hzn : decide (500 < s.size) = false := by simpa using hz
    have HCB := Lib.hid hcb; clear hcb
    cases hl : looksB s with
    | false =>
      obtain ⟨e1, e2, e3⟩ := f_str (by omega) hl
      rw [e1, e2, e3]; clear e1 e2 e3
      have HL := Lib.hid hl; clear hl
      have hm : s.size ≤ maxLen := by unfold maxLen; omega
      go_enter Tryz.func54, Tryz.ntmps54
      go_wp2_with fail
      refine (spec_looks s hm _).mono ?_
      rw [HL.out]
      rintro e w' ⟨rfl, rfl⟩
      go_wp2_with fail
      exact bodyPost_ret ((CB.new w _ _ _).results rfl rfl) rfl ⟨rfl, (Below.refl w.heap.size w).alloc (Nat.le_refl _) _⟩
    | true =>
      obtain ⟨e1, e2, e3⟩ := f_num (by omega) hl
      rw [e1, e2, e3]; clear e1 e2 e3
      have HL := Lib.hid hl; clear hl
      have hm : s.size ≤ maxLen := by unfold maxLen; omega
      go_enter Tryz.func54, Tryz.ntmps54
      go_wp2_with fail
      refine (spec_looks s hm _).mono ?_
      rw [HL.out]
      rintro e w' ⟨rfl, rfl⟩
      go_wp2_with fail
      refine (spec_readDec s hm _).mono ?_
      rintro e w' ⟨rfl, rfl⟩
      go_wp2_with fail
      exact bodyPost_ret ((CB.new w _ _ _).results rfl rfl) rfl ⟨rfl, (Below.refl w.heap.size w).alloc (Nat.le_refl _) _⟩

end Go.Proofs.YthaedmldlenhgaaGreatDoor.Cell
