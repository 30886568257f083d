/-
  The model's function that draws a kind and two values; what reckoning with their numbers gives.
-/
import Derived.Test.YtofinndkbjcgbaaDoorDrawCell
import Derived.Test.YtofinndkbjcgbaaDoorCellArith2
namespace Go.Proofs.YtofinndkbjcgbaaDoor.Draw
open Go.ChangeShapes Go.WideShapes Go.ChangeAt Go.RowKit
open Go.PlainAid Go.Proofs.YtofinndkbjcgbaaDoor.Dec
open Go.Proofs.YtofinndkbjcgbaaDoor.DecPure Go.Proofs.YtofinndkbjcgbaaDoor.ReadPure Go.Proofs.YtofinndkbjcgbaaDoor.TextPure Go.Proofs.YtofinndkbjcgbaaDoor.CellPure Go.Proofs.YtofinndkbjcgbaaDoor.Cell
set_option linter.unusedVariables false

theorem mkV_ok (n : Int) : dOk (mkV n) = true := by
  unfold mkV; split
  · assumption
  · decide
theorem arV_ok {k a b : Int} (h : arB k a b = true) : dOk (arV k a b) = true := by
  unfold arV
  split
  · unfold addV; split
    · exact mkV_ok _
    · decide
  · split
    · unfold subV; split
      · exact mkV_ok _
      · decide
    · split
      · unfold mulV; split
        · exact mkV_ok _
        · decide
      · split
        · unfold divV; split
          · exact mkV_ok _
          · decide
        · rename_i h1 h2 h3 h4
          unfold arB at h
          rw [if_neg h1, if_neg h2, if_neg h3, if_neg h4] at h
          unfold modV
          split
          · rename_i h5
            have ha : dOk a = true := by simp at h5; exact h5.1.1
            have hb := dOk_yes ha
            refine dOk_of ?_
            have e : (a.tmod b).natAbs = a.natAbs % b.natAbs := Int.natAbs_tmod a b
            have e2 : a.natAbs % b.natAbs ≤ a.natAbs := Nat.mod_le _ _
            omega
          · decide
/-- What is known of a good reckoning. -/
theorem ar_facts {k t n : Int} {s : ByteArray} {t' n' : Int} {s' : ByteArray} (h : arC k t n s t' n' s' = 0) :
    arT k t n s t' n' s' = 1 ∧ arC k 1 (cNum t n s) ⟨#[]⟩ 1 (cNum t' n' s') ⟨#[]⟩ = 0 ∧ arN k 1 (cNum t n s) ⟨#[]⟩ 1 (cNum t' n' s') ⟨#[]⟩ = arN k t n s t' n' s' ∧ arT k 1 (cNum t n s) ⟨#[]⟩ 1 (cNum t' n' s') ⟨#[]⟩ = 1
      ∧ cOk 1 (arN k t n s t' n' s') ⟨#[]⟩ = true := by
  have hc := h
  unfold arC at h
  split at h
  · omega
  · rename_i g1
    split at h
    · omega
    · rename_i g2
      split at h
      · rename_i g3
        have gk : decide (20 ≤ k ∧ k ≤ 24) = true := by
          cases q : decide (20 ≤ k ∧ k ≤ 24) with
          | true => rfl
          | false => rw [q] at g1; simp at g1
        have o1 : ∀ m, dOk m = true → cOk 1 m ⟨#[]⟩ = true := fun m hm => by
          rw [cOk_1 (by decide), hm, nilB_size]; rfl
        have k1 := o1 _ (cNum_ok t n s)
        have k2 := o1 _ (cNum_ok t' n' s')
        have m1 : cNum 1 (cNum t n s) ⟨#[]⟩ = cNum t n s := by rw [cNum_yes k1]; exact numOf_n (by omega)
        have m2 : cNum 1 (cNum t' n' s') ⟨#[]⟩ = cNum t' n' s' := by rw [cNum_yes k2]; exact numOf_n (by omega)
        have hg : (decide (20 ≤ k ∧ k ≤ 24) && (cOk 1 (cNum t n s) ⟨#[]⟩ && cOk 1 (cNum t' n' s') ⟨#[]⟩)) = true := by rw [gk, k1, k2]; rfl
        obtain ⟨e1, e2, e3⟩ := ar_good hg (by rw [m1, m2]; exact g3)
        have eN : arN k t n s t' n' s' = arV k (cNum t n s) (cNum t' n' s') := by unfold arN; rw [if_pos hc]
        refine ⟨by unfold arT; rw [if_pos hc], e3, by rw [e2, m1, m2, eN], e1, ?_⟩
        rw [eN]
        exact o1 _ (arV_ok g3)
      · omega
theorem ar_none {k t n : Int} {s : ByteArray} {t' n' : Int} {s' : ByteArray} (h : arC k t n s t' n' s' ≠ 0) : arT k t n s t' n' s' = 0 ∧ arN k t n s t' n' s' = 0 := by
  unfold arT arN; rw [if_neg h, if_neg h]; exact ⟨rfl, rfl⟩

/-- A drawn kind and two drawn values. -/
def KindCells (w : World) (e : Ending) (w' : World) : Prop := ∃ (q t k : Int) (s : ByteArray) (t' k' : Int) (s' : ByteArray), e = .returned (.tuple #[.int .i64 q, cel t k s, cel t' k' s']) ∧ s.size ≤ 600 ∧ s'.size ≤ 600 ∧ Below w.heap.size w w'
theorem cells_results3 {fn : Func} {r p u : Tmp} (h : fn.results = #[.tmp r, .cell p 38, .cell u 38]) {tmps : Array Value} {w : World} {g g' : Nat} {x a b c a' b' c' : Value} (T : CB w g a b c) (T' : CB w g' a' b' c')
    (hr : tmps.getD r undef = x) (hp : tmps.getD p undef = .pointer (some ⟨g, 0, none⟩)) (hu : tmps.getD u undef = .pointer (some ⟨g', 0, none⟩)) : (results fn tmps).run Tryd.prog w = .ok (.tuple #[x, .agg #[a, b, c], .agg #[a', b', c']]) w := by
  obtain ⟨r0, r1, r2⟩ := T.cells
  obtain ⟨q0, q1, q2⟩ := T'.cells
  rw [Array.getD_eq_getD_getElem?] at hp hu hr
  unfold results
  rw [h]
  simp [go_sem, hp, hu, hr, r0, r1, r2, q0, q1, q2]

set_option maxRecDepth 100000 in
set_option maxHeartbeats 2000000 in
theorem drawArith (w : World) (A : Option Addr) (n cap : Nat) (Z : Nat → Int) (hn : n ≤ 9223372036854775807) (hb : Bytes w w.heap.size A n Z) :
    Calls Tryd.prog 28 #[.slice A n cap] w (KindCells w) := by
  have hZ1 := CB.new w (.int .i64 0) (.int .i64 0) (.string ⟨#[]⟩)
  have HZ1 := Lib.hid (hZ1.keep ((Below.refl _ _).alloc (Nat.le_refl _) (.cells #[.int .i64 0, .int .i64 0, .string ⟨#[]⟩] 38)) (by simp)); clear hZ1
  have hZ2 := CB.new (w.alloc (.cells #[.int .i64 0, .int .i64 0, .string ⟨#[]⟩] 38)) (.int .i64 0) (.int .i64 0) (.string ⟨#[]⟩)
  simp only [World.size_alloc] at hZ2
  have HZ2 := Lib.hid hZ2; clear hZ2
  have hB0 : Below w.heap.size w ((w.alloc (.cells #[.int .i64 0, .int .i64 0, .string ⟨#[]⟩] 38)).alloc (.cells #[.int .i64 0, .int .i64 0, .string ⟨#[]⟩] 38)) := ((Below.refl _ _).alloc (Nat.le_refl _) _).alloc (by simp) _
  have hby : Bytes ((w.alloc (.cells #[.int .i64 0, .int .i64 0, .string ⟨#[]⟩] 38)).alloc (.cells #[.int .i64 0, .int .i64 0, .string ⟨#[]⟩] 38)) (w.heap.size + 1 + 1) A n Z := fun j hj => by
    obtain ⟨b, off, e, hlt, hc, hz⟩ := hb j hj
    exact ⟨b, off, e, by omega, (hB0.cell (p := ⟨b, off + j, none⟩) hlt).trans hc, hz⟩
  have HBY := Lib.hid hby; clear hby hb
  have HB0 := Lib.hid hB0; clear hB0
  go_enter Tryd.func28, Tryd.ntmps28
  go_wp2_with fail
  refine (new_any _ A n cap Z hn (by simpa using HBY.out)).mono ?_
  rintro e w1 ⟨g, rfl, hc1, hb1⟩
  simp only [World.size_alloc] at hc1 hb1
  have hg1 := hc1.1
  have hz1 := HZ1.out.keep hb1 (by omega)
  have hz2 := HZ2.out.keep hb1 (by omega)
  have HC1 := Lib.hid hc1; clear hc1
  have HB1 := Lib.hid (HB0.out.trans (hb1.mono (by omega))); clear hb1
  have hzl2 := hz2.lt
  have HY1 := Lib.hid hz1; clear hz1
  have HY2 := Lib.hid hz2; clear hz2
  have hgl1 := HC1.out.lt
  go_wp2_with fail
  refine (pick_new w1 _ g A n cap Z HC1.out hgl1 [20, 21, 22, 23, 24, 19, 25, -1] _ rfl 8 rfl (by omega) (by omega) I64 (by unfold I64; intro x hx; simp at hx; omega)).mono ?_
  rintro e wk ⟨qq, rfl, hqq, hck, hok⟩
  have hz1 := cb_only HY1.out hok (by omega)
  have hz2 := cb_only HY2.out hok (by omega)
  have HYa := Lib.hid hz1; clear hz1
  have HYb := Lib.hid hz2; clear hz2
  have HCk := Lib.hid hck; clear hck hqq
  have HOk := Lib.hid hok; clear hok
  go_wp2_with fail
  refine (cell_bent wk _ g A n cap Z HCk.out).mono ?_
  rintro e w2 ⟨t, k, s, rfl, hs, hc2, ho2⟩
  have hz1 := cb_only HYa.out ho2 (by omega)
  have hz2 := cb_only HYb.out ho2 (by omega)
  replace ho2 := HOk.out.trans ho2
  have HV := Lib.hid (CB.new w2 (.int .i64 t) (.int .i64 k) (.string s))
  have hB2 := ho2.below (B := w.heap.size) (by omega) HB1.out.size
  have HB2 := Lib.hid ((HB1.out.trans hB2).alloc (Below.size (HB1.out.trans hB2)) (.cells #[.int .i64 t, .int .i64 k, .string s] 38)); clear hB2
  have HC2 := Lib.hid (hc2.alloc (.cells #[.int .i64 t, .int .i64 k, .string s] 38))
  have hgl := hc2.lt
  have hl2 := hz2.lt
  have hl1 := hz1.lt
  have HY3 := Lib.hid (hz1.keep ((Below.refl w2.heap.size w2).alloc (Nat.le_refl _) (.cells #[.int .i64 t, .int .i64 k, .string s] 38)) hl1)
  have HY4 := Lib.hid (hz2.keep ((Below.refl w2.heap.size w2).alloc (Nat.le_refl _) (.cells #[.int .i64 t, .int .i64 k, .string s] 38)) hl2)
  clear hz1 hz2 hc2 ho2
  go_wp2_with fail
  generalize w2.alloc (.cells #[.int .i64 t, .int .i64 k, .string s] 38) = w3 at *
  generalize hh : w2.heap.size = h at *
  have HH := Lib.hid hh; clear hh
  obtain ⟨a0, a1, a2⟩ := HV.out.cells
  obtain ⟨y0, y1, y2⟩ := HY3.out.cells
  obtain ⟨m0, m1, m2⟩ := HY3.out.marks
  obtain ⟨u0, u1, u2⟩ := HY4.out.cells
  obtain ⟨n0, n1, n2⟩ := HY4.out.marks
  have hCd : Cur w3.drew _ g A n cap Z := HC2.out
  have HCD := Lib.hid hCd; clear hCd
  have e1 : h ≠ w.heap.size := by omega
  have e2 : h ≠ w.heap.size + 1 := by omega
  have e3 : w.heap.size ≠ h := by omega
  have e4 : w.heap.size + 1 ≠ h := by omega
  have HCT := Lib.hid (cell_bent w3.drew _ g A n cap Z HCD.out)
  have hoa : ∀ w5, Only w3.drew w5 g → CB w5 h (.int .i64 t) (.int .i64 k) (.string s) := fun w5 ho => cb_only (w := w3.drew) (HV.out.drew) ho (by omega)
  have hoy : ∀ w5, Only w3.drew w5 g → CB w5 w.heap.size (.int .i64 0) (.int .i64 0) (.string ⟨#[]⟩) := fun w5 ho => cb_only (w := w3.drew) (HY3.out.drew) ho (by omega)
  have hoz : ∀ w5, Only w3.drew w5 g → CB w5 (w.heap.size + 1) (.int .i64 0) (.int .i64 0) (.string ⟨#[]⟩) := fun w5 ho => cb_only (w := w3.drew) (HY4.out.drew) ho (by omega)
  have HOA := Lib.hid hoa; clear hoa
  have HOY := Lib.hid hoy; clear hoy
  have HOZ := Lib.hid hoz; clear hoz
  clear y0 y1 y2 m0 m1 m2 u0 u1 u2 n0 n1 n2
  go_region_with (go_at_call 54; refine (HCT.out).mono ?_; rintro e w5 ⟨t', k', s', rfl, hs', hc5, ho5⟩; obtain ⟨b0, b1, b2⟩ := (HOA.out w5 ho5).cells; have hy3 := HOY.out w5 ho5; have hy4 := HOZ.out w5 ho5; obtain ⟨y0, y1, y2⟩ := hy3.cells; obtain ⟨m0, m1, m2⟩ := hy3.marks; obtain ⟨u0, u1, u2⟩ := hy4.cells; obtain ⟨n0, n1, n2⟩ := hy4.marks; have HY5 := Lib.hid hy3; have HY6 := Lib.hid hy4; clear hy3 hy4)
  all_goals
    have hF1 := cb_other (cb_other (cb_other (HY5.out.set3 (.int .i64 t) (.int .i64 k) (.string s)) (h := w.heap.size + 1) (i := 0) (by omega) (.int .i64 t')) (h := w.heap.size + 1) (i := 1) (by omega) (.int .i64 k')) (h := w.heap.size + 1) (i := 2) (by omega) (.string s')
    have hF2 := (cb_other (cb_other (cb_other HY6.out (h := w.heap.size) (i := 0) (by omega) (.int .i64 t)) (h := w.heap.size) (i := 1) (by omega) (.int .i64 k)) (h := w.heap.size) (i := 2) (by omega) (.string s)).set3 (.int .i64 t') (.int .i64 k') (.string s')
    have HF1 := Lib.hid hF1; clear hF1
    have HF2 := Lib.hid hF2; clear hF2
    have hb5 := Only.below (w := w3.drew) (B := w.heap.size) ho5 (by omega) HB2.out.size
    have hbw := HB2.out.trans (Below.trans ((Below.refl w.heap.size w3).drew) hb5)
    have HBW := Lib.hid (below_set3 (g := w.heap.size + 1) (below_set3 (g := w.heap.size) hbw (Nat.le_refl _) (.int .i64 t) (.int .i64 k) (.string s)) (by omega) (.int .i64 t') (.int .i64 k') (.string s'))
    clear hb5 hbw b0 b1 b2 y0 y1 y2 m0 m1 m2 u0 u1 u2 n0 n1 n2 a0 a1 a2
    go_wp2_with fail
    exact bodyPost_ret (cells_results3 rfl HF1.out HF2.out rfl rfl rfl) rfl ⟨_, _, _, _, _, _, _, rfl, hs, hs', HBW.out⟩

end Go.Proofs.YtofinndkbjcgbaaDoor.Draw
