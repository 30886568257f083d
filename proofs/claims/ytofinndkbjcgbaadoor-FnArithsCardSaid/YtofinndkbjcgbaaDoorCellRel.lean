/-
  Comparing two values: the model's side; relations.
-/
import Derived.Test.YtofinndkbjcgbaaDoorCellText
import Derived.Test.YtofinndkbjcgbaaDoorDecText
import Derived.Test.YtofinndkbjcgbaaDoorTables
import Derived.Laws.Cover1
namespace Go.Proofs.YtofinndkbjcgbaaDoor.Cell
open Go.ChangeShapes Go.WideShapes Go.ChangeAt Go.RowKit Go.PlainAid
open Go.Proofs.YtofinndkbjcgbaaDoor.Dec
open Go.Proofs.YtofinndkbjcgbaaDoor.DecPure Go.Proofs.YtofinndkbjcgbaaDoor.TextPure Go.Proofs.YtofinndkbjcgbaaDoor.ReadPure Go.Proofs.YtofinndkbjcgbaaDoor.CellPure
set_option linter.unusedVariables false

set_option maxRecDepth 100000 in
theorem spec_cmp_a (t n : Int) (s : ByteArray) (t' n' : Int) (s' : ByteArray) (hs : s.size ≤ 1048576) (hs' : s'.size ≤ 1048576) (h : cOk t n s = false) (w : World) : Calls Tryd.prog 20 #[cel t n s, cel t' n' s'] w fun e w' => e = .returned (.int .i64 (cCmp t n s t' n' s')) ∧ Below w.heap.size w w' := by
  have E : cCmp t n s t' n' s' = 0 := by unfold cCmp; rw [h, Bool.false_and, if_neg (by simp)]
  rw [E]; clear E
  have HA := Lib.hid ((CB.new w (.int .i64 t) (.int .i64 n) (.string s)).keep ((Below.refl _ _).alloc (Nat.le_refl _) (.cells #[.int .i64 t', .int .i64 n', .string s'] 38)) (by simp))
  have hb3 := CB.new (w.alloc (.cells #[.int .i64 t, .int .i64 n, .string s] 38)) (.int .i64 t') (.int .i64 n') (.string s')
  simp only [World.size_alloc] at hb3
  have HBb := Lib.hid hb3; clear hb3
  have HB0 := Lib.hid (((Below.refl w.heap.size w).alloc (Nat.le_refl _) (.cells #[.int .i64 t, .int .i64 n, .string s] 38)).alloc (by simp) (.cells #[.int .i64 t', .int .i64 n', .string s'] 38))
  have H := Lib.hid h; clear h
  go_enter Tryd.func20, Tryd.ntmps20
  go_wp2_with fail
  refine (spec_cellOk t n s hs _).mono ?_
  rw [H.out]
  rintro e w1 ⟨rfl, hB⟩
  have HA1 := Lib.hid (HA.out.next hB)
  have HBb1 := Lib.hid (HBb.out.next hB)
  have HB1 := Lib.hid (HB0.out.trans (hB.mono HB0.out.size)); clear hB
  obtain ⟨a0, a1, a2⟩ := HA1.out.cells
  obtain ⟨b0, b1, b2⟩ := HBb1.out.cells
  go_wp2_with fail
  go_ret
  exact ⟨rfl, HB1.out⟩

set_option maxRecDepth 100000 in
theorem spec_cmp_b (t n : Int) (s : ByteArray) (t' n' : Int) (s' : ByteArray) (hs : s.size ≤ 1048576) (hs' : s'.size ≤ 1048576) (g : cOk t n s = true) (h : cOk t' n' s' = false) (w : World) : Calls Tryd.prog 20 #[cel t n s, cel t' n' s'] w fun e w' => e = .returned (.int .i64 (cCmp t n s t' n' s')) ∧ Below w.heap.size w w' := by
  have E : cCmp t n s t' n' s' = 0 := by unfold cCmp; rw [h, Bool.and_false, if_neg (by simp)]
  rw [E]; clear E
  have HA := Lib.hid ((CB.new w (.int .i64 t) (.int .i64 n) (.string s)).keep ((Below.refl _ _).alloc (Nat.le_refl _) (.cells #[.int .i64 t', .int .i64 n', .string s'] 38)) (by simp))
  have hb3 := CB.new (w.alloc (.cells #[.int .i64 t, .int .i64 n, .string s] 38)) (.int .i64 t') (.int .i64 n') (.string s')
  simp only [World.size_alloc] at hb3
  have HBb := Lib.hid hb3; clear hb3
  have HB0 := Lib.hid (((Below.refl w.heap.size w).alloc (Nat.le_refl _) (.cells #[.int .i64 t, .int .i64 n, .string s] 38)).alloc (by simp) (.cells #[.int .i64 t', .int .i64 n', .string s'] 38))
  have H := Lib.hid h; clear h
  have G := Lib.hid g; clear g
  go_enter Tryd.func20, Tryd.ntmps20
  go_wp2_with fail
  refine (spec_cellOk t n s hs _).mono ?_
  rw [G.out]
  rintro e w1 ⟨rfl, hB⟩
  have HA1 := Lib.hid (HA.out.next hB)
  have HBb1 := Lib.hid (HBb.out.next hB)
  have HB1 := Lib.hid (HB0.out.trans (hB.mono HB0.out.size)); clear hB
  obtain ⟨a0, a1, a2⟩ := HA1.out.cells
  obtain ⟨b0, b1, b2⟩ := HBb1.out.cells
  go_wp2_with fail
  refine (spec_cellOk t' n' s' hs' _).mono ?_
  rw [H.out]
  rintro e w2 ⟨rfl, hB⟩
  have HA2 := Lib.hid (HA1.out.next hB)
  have HBb2 := Lib.hid (HBb1.out.next hB)
  have HB2 := Lib.hid (HB1.out.trans (hB.mono HB1.out.size)); clear hB
  clear a0 a1 a2 b0 b1 b2
  obtain ⟨a0, a1, a2⟩ := HA2.out.cells
  obtain ⟨b0, b1, b2⟩ := HBb2.out.cells
  go_wp2_with fail
  go_ret
  exact ⟨rfl, HB2.out⟩

set_option maxRecDepth 100000 in
theorem spec_cmp_n_lt (t n : Int) (s : ByteArray) (t' n' : Int) (s' : ByteArray) (hs : s.size ≤ 1048576) (hs' : s'.size ≤ 1048576) (ha : cOk t n s = true) (hb : cOk t' n' s' = true) (h1 : (t == 2) = false) (h2 : (t' == 2) = false) (hc : n < n') (w : World) : Calls Tryd.prog 20 #[cel t n s, cel t' n' s'] w fun e w' => e = .returned (.int .i64 (cCmp t n s t' n' s')) ∧ Below w.heap.size w w' := by
  have E : cCmp t n s t' n' s' = -1 := by
    unfold cCmp
    rw [if_pos (by rw [ha, hb]; rfl), if_neg (by simp at h1 h2; omega)]
    unfold cmp3
    rw [if_pos hc]
  rw [E]; clear E
  have f1 : decide (n < n') = true := by simpa using hc
  have f2 : (n == n') = false := by simp; omega
  have HA := Lib.hid ((CB.new w (.int .i64 t) (.int .i64 n) (.string s)).keep ((Below.refl _ _).alloc (Nat.le_refl _) (.cells #[.int .i64 t', .int .i64 n', .string s'] 38)) (by simp))
  have hb3 := CB.new (w.alloc (.cells #[.int .i64 t, .int .i64 n, .string s] 38)) (.int .i64 t') (.int .i64 n') (.string s')
  simp only [World.size_alloc] at hb3
  have HBb := Lib.hid hb3; clear hb3
  have HB0 := Lib.hid (((Below.refl w.heap.size w).alloc (Nat.le_refl _) (.cells #[.int .i64 t, .int .i64 n, .string s] 38)).alloc (by simp) (.cells #[.int .i64 t', .int .i64 n', .string s'] 38))
  have HAK := Lib.hid ha; clear ha
  have HBK := Lib.hid hb; clear hb
  go_enter Tryd.func20, Tryd.ntmps20
  go_wp2_with fail
  refine (spec_cellOk t n s hs _).mono ?_
  rw [HAK.out]
  rintro e w1 ⟨rfl, hB⟩
  have HA1 := Lib.hid (HA.out.next hB)
  have HBb1 := Lib.hid (HBb.out.next hB)
  have HB1 := Lib.hid (HB0.out.trans (hB.mono HB0.out.size)); clear hB
  obtain ⟨a0, a1, a2⟩ := HA1.out.cells
  obtain ⟨b0, b1, b2⟩ := HBb1.out.cells
  go_wp2_with fail
  refine (spec_cellOk t' n' s' hs' _).mono ?_
  rw [HBK.out]
  rintro e w2 ⟨rfl, hB⟩
  have HA2 := Lib.hid (HA1.out.next hB)
  have HBb2 := Lib.hid (HBb1.out.next hB)
  have HB2 := Lib.hid (HB1.out.trans (hB.mono HB1.out.size)); clear hB
  clear a0 a1 a2 b0 b1 b2
  obtain ⟨a0, a1, a2⟩ := HA2.out.cells
  obtain ⟨b0, b1, b2⟩ := HBb2.out.cells
  go_wp2_with fail
  go_ret
  exact ⟨rfl, HB2.out⟩

set_option maxRecDepth 100000 in
theorem spec_cmp_n_eq (t n : Int) (s : ByteArray) (t' n' : Int) (s' : ByteArray) (hs : s.size ≤ 1048576) (hs' : s'.size ≤ 1048576) (ha : cOk t n s = true) (hb : cOk t' n' s' = true) (h1 : (t == 2) = false) (h2 : (t' == 2) = false) (hc : n = n') (w : World) : Calls Tryd.prog 20 #[cel t n s, cel t' n' s'] w fun e w' => e = .returned (.int .i64 (cCmp t n s t' n' s')) ∧ Below w.heap.size w w' := by
  have E : cCmp t n s t' n' s' = 0 := by
    unfold cCmp
    rw [if_pos (by rw [ha, hb]; rfl), if_neg (by simp at h1 h2; omega)]
    unfold cmp3
    rw [if_neg (by omega), if_neg (by omega)]
  rw [E]; clear E
  subst hc
  have HA := Lib.hid ((CB.new w (.int .i64 t) (.int .i64 n) (.string s)).keep ((Below.refl _ _).alloc (Nat.le_refl _) (.cells #[.int .i64 t', .int .i64 n, .string s'] 38)) (by simp))
  have hb3 := CB.new (w.alloc (.cells #[.int .i64 t, .int .i64 n, .string s] 38)) (.int .i64 t') (.int .i64 n) (.string s')
  simp only [World.size_alloc] at hb3
  have HBb := Lib.hid hb3; clear hb3
  have HB0 := Lib.hid (((Below.refl w.heap.size w).alloc (Nat.le_refl _) (.cells #[.int .i64 t, .int .i64 n, .string s] 38)).alloc (by simp) (.cells #[.int .i64 t', .int .i64 n, .string s'] 38))
  have HAK := Lib.hid ha; clear ha
  have HBK := Lib.hid hb; clear hb
  go_enter Tryd.func20, Tryd.ntmps20
  go_wp2_with fail
  refine (spec_cellOk t n s hs _).mono ?_
  rw [HAK.out]
  rintro e w1 ⟨rfl, hB⟩
  have HA1 := Lib.hid (HA.out.next hB)
  have HBb1 := Lib.hid (HBb.out.next hB)
  have HB1 := Lib.hid (HB0.out.trans (hB.mono HB0.out.size)); clear hB
  obtain ⟨a0, a1, a2⟩ := HA1.out.cells
  obtain ⟨b0, b1, b2⟩ := HBb1.out.cells
  go_wp2_with fail
  refine (spec_cellOk t' n s' hs' _).mono ?_
  rw [HBK.out]
  rintro e w2 ⟨rfl, hB⟩
  have HA2 := Lib.hid (HA1.out.next hB)
  have HBb2 := Lib.hid (HBb1.out.next hB)
  have HB2 := Lib.hid (HB1.out.trans (hB.mono HB1.out.size)); clear hB
  clear a0 a1 a2 b0 b1 b2
  obtain ⟨a0, a1, a2⟩ := HA2.out.cells
  obtain ⟨b0, b1, b2⟩ := HBb2.out.cells
  go_wp2_with fail
  go_ret
  exact ⟨rfl, HB2.out⟩

set_option maxRecDepth 100000 in
theorem spec_cmp_n_gt (t n : Int) (s : ByteArray) (t' n' : Int) (s' : ByteArray) (hs : s.size ≤ 1048576) (hs' : s'.size ≤ 1048576) (ha : cOk t n s = true) (hb : cOk t' n' s' = true) (h1 : (t == 2) = false) (h2 : (t' == 2) = false) (hc : n' < n) (w : World) : Calls Tryd.prog 20 #[cel t n s, cel t' n' s'] w fun e w' => e = .returned (.int .i64 (cCmp t n s t' n' s')) ∧ Below w.heap.size w w' := by
  have E : cCmp t n s t' n' s' = 1 := by
    unfold cCmp
    rw [if_pos (by rw [ha, hb]; rfl), if_neg (by simp at h1 h2; omega)]
    unfold cmp3
    rw [if_neg (by omega), if_pos hc]
  rw [E]; clear E
  have f1 : decide (n < n') = false := by simp; omega
  have f2 : (n == n') = false := by simp; omega
  have HA := Lib.hid ((CB.new w (.int .i64 t) (.int .i64 n) (.string s)).keep ((Below.refl _ _).alloc (Nat.le_refl _) (.cells #[.int .i64 t', .int .i64 n', .string s'] 38)) (by simp))
  have hb3 := CB.new (w.alloc (.cells #[.int .i64 t, .int .i64 n, .string s] 38)) (.int .i64 t') (.int .i64 n') (.string s')
  simp only [World.size_alloc] at hb3
  have HBb := Lib.hid hb3; clear hb3
  have HB0 := Lib.hid (((Below.refl w.heap.size w).alloc (Nat.le_refl _) (.cells #[.int .i64 t, .int .i64 n, .string s] 38)).alloc (by simp) (.cells #[.int .i64 t', .int .i64 n', .string s'] 38))
  have HAK := Lib.hid ha; clear ha
  have HBK := Lib.hid hb; clear hb
  go_enter Tryd.func20, Tryd.ntmps20
  go_wp2_with fail
  refine (spec_cellOk t n s hs _).mono ?_
  rw [HAK.out]
  rintro e w1 ⟨rfl, hB⟩
  have HA1 := Lib.hid (HA.out.next hB)
  have HBb1 := Lib.hid (HBb.out.next hB)
  have HB1 := Lib.hid (HB0.out.trans (hB.mono HB0.out.size)); clear hB
  obtain ⟨a0, a1, a2⟩ := HA1.out.cells
  obtain ⟨b0, b1, b2⟩ := HBb1.out.cells
  go_wp2_with fail
  refine (spec_cellOk t' n' s' hs' _).mono ?_
  rw [HBK.out]
  rintro e w2 ⟨rfl, hB⟩
  have HA2 := Lib.hid (HA1.out.next hB)
  have HBb2 := Lib.hid (HBb1.out.next hB)
  have HB2 := Lib.hid (HB1.out.trans (hB.mono HB1.out.size)); clear hB
  clear a0 a1 a2 b0 b1 b2
  obtain ⟨a0, a1, a2⟩ := HA2.out.cells
  obtain ⟨b0, b1, b2⟩ := HBb2.out.cells
  go_wp2_with fail
  go_ret
  exact ⟨rfl, HB2.out⟩

set_option maxRecDepth 100000 in
set_option maxHeartbeats 1000000 in
theorem spec_cmp_s_1eq (t n : Int) (s : ByteArray) (t' n' : Int) (s' : ByteArray) (hs : s.size ≤ 1048576) (hs' : s'.size ≤ 1048576) (ha : cOk t n s = true) (hb : cOk t' n' s' = true) (h1 : (t == 2) = true) (hq : sameB (cTxt t n s) (cTxt t' n' s') = true) (w : World) : Calls Tryd.prog 20 #[cel t n s, cel t' n' s'] w fun e w' => e = .returned (.int .i64 (cCmp t n s t' n' s')) ∧ Below w.heap.size w w' := by
  have E : cCmp t n s t' n' s' = 0 := by
    unfold cCmp
    rw [if_pos (by rw [ha, hb]; rfl), if_pos (by simp at h1; omega)]
    unfold cmpS
    rw [if_pos hq]
  rw [E]; clear E
  have hta : ∀ W, Calls Tryd.prog 38 #[cel t n s] W fun e w' => e = .returned (.string (cTxt t n s)) ∧ Below W.heap.size W w' := fun W => by have := spec_toStr t n s hs W; rw [cStr_yes ha] at this; exact this
  have htb : ∀ W, Calls Tryd.prog 38 #[cel t' n' s'] W fun e w' => e = .returned (.string (cTxt t' n' s')) ∧ Below W.heap.size W w' := fun W => by have := spec_toStr t' n' s' hs' W; rw [cStr_yes hb] at this; exact this
  generalize cTxt t n s = x at *
  generalize cTxt t' n' s' = y at *
  have fq : (x.toList == y.toList) = true := hq
  obtain rfl := sameB_iff.1 hq
  have fl : Op.bytesLess x.toList x.toList = false := bl_self _
  clear fq
  have HTA := Lib.hid hta; clear hta
  have HTB := Lib.hid htb; clear htb
  have HA := Lib.hid ((CB.new w (.int .i64 t) (.int .i64 n) (.string s)).keep ((Below.refl _ _).alloc (Nat.le_refl _) (.cells #[.int .i64 t', .int .i64 n', .string s'] 38)) (by simp))
  have hb3 := CB.new (w.alloc (.cells #[.int .i64 t, .int .i64 n, .string s] 38)) (.int .i64 t') (.int .i64 n') (.string s')
  simp only [World.size_alloc] at hb3
  have HBb := Lib.hid hb3; clear hb3
  have HB0 := Lib.hid (((Below.refl w.heap.size w).alloc (Nat.le_refl _) (.cells #[.int .i64 t, .int .i64 n, .string s] 38)).alloc (by simp) (.cells #[.int .i64 t', .int .i64 n', .string s'] 38))
  have HAK := Lib.hid ha; clear ha
  have HBK := Lib.hid hb; clear hb
  clear hq
  go_enter Tryd.func20, Tryd.ntmps20
  go_wp2_with fail
  refine (spec_cellOk t n s hs _).mono ?_
  rw [HAK.out]
  rintro e w1 ⟨rfl, hB⟩
  have HA1 := Lib.hid (HA.out.next hB)
  have HBb1 := Lib.hid (HBb.out.next hB)
  have HB1 := Lib.hid (HB0.out.trans (hB.mono HB0.out.size)); clear hB
  obtain ⟨a0, a1, a2⟩ := HA1.out.cells
  obtain ⟨b0, b1, b2⟩ := HBb1.out.cells
  go_wp2_with fail
  refine (spec_cellOk t' n' s' hs' _).mono ?_
  rw [HBK.out]
  rintro e w2 ⟨rfl, hB⟩
  have HA2 := Lib.hid (HA1.out.next hB)
  have HBb2 := Lib.hid (HBb1.out.next hB)
  have HB2 := Lib.hid (HB1.out.trans (hB.mono HB1.out.size)); clear hB
  clear a0 a1 a2 b0 b1 b2
  obtain ⟨a0, a1, a2⟩ := HA2.out.cells
  obtain ⟨b0, b1, b2⟩ := HBb2.out.cells
  go_wp2_with fail
  have la := HA2.out.lt
  have lb := HBb2.out.lt
  have hD : Below w2.heap.size w2 w2.drew := (Below.refl _ _).drew
  have hk : ∀ w', Below w2.heap.size w2 w' → Below w2.heap.size w2 w' ∧ w'.cell? ⟨w.heap.size, 0, none⟩ = some (.int .i64 t) ∧ w'.cell? ⟨w.heap.size, 1, none⟩ = some (.int .i64 n) ∧ w'.cell? ⟨w.heap.size, 2, none⟩ = some (.string s) ∧ w'.cell? ⟨w.heap.size + 1, 0, none⟩ = some (.int .i64 t') ∧ w'.cell? ⟨w.heap.size + 1, 1, none⟩ = some (.int .i64 n') ∧ w'.cell? ⟨w.heap.size + 1, 2, none⟩ = some (.string s') := fun w' h => ⟨h, (h.cell (p := ⟨w.heap.size, 0, none⟩) la).trans a0, (h.cell (p := ⟨w.heap.size, 1, none⟩) la).trans a1, (h.cell (p := ⟨w.heap.size, 2, none⟩) la).trans a2, (h.cell (p := ⟨w.heap.size + 1, 0, none⟩) lb).trans b0, (h.cell (p := ⟨w.heap.size + 1, 1, none⟩) lb).trans b1, (h.cell (p := ⟨w.heap.size + 1, 2, none⟩) lb).trans b2⟩
  have HKK := Lib.hid hk; clear hk
  go_region_held3 (fun w' => Below w2.heap.size w2 w' ∧ w'.cell? ⟨w.heap.size, 0, none⟩ = some (.int .i64 t) ∧ w'.cell? ⟨w.heap.size, 1, none⟩ = some (.int .i64 n) ∧ w'.cell? ⟨w.heap.size, 2, none⟩ = some (.string s) ∧ w'.cell? ⟨w.heap.size + 1, 0, none⟩ = some (.int .i64 t') ∧ w'.cell? ⟨w.heap.size + 1, 1, none⟩ = some (.int .i64 n') ∧ w'.cell? ⟨w.heap.size + 1, 2, none⟩ = some (.string s'))
    (first | exact HKK.out _ hD | exact HKK.out _ hwp | exact HKK.out _ hwq)
    (first
      | (go_at_call_of 38 (Value.agg #[Value.int IntKind.i64 t, Value.int IntKind.i64 n, Value.string s]); refine (HTA.out w2.drew).mono ?_; rintro e wp ⟨rfl, hB⟩; have hwp : Below w2.heap.size w2 wp := below_go hD hB; clear hB)
      | (go_at_call_of 38 (Value.agg #[Value.int IntKind.i64 t', Value.int IntKind.i64 n', Value.string s']); refine (HTB.out wp).mono ?_; rintro e wq ⟨rfl, hB⟩; have hwq : Below w2.heap.size w2 wq := below_go hwp hB; clear hB)
    )
  have hB := hwq
  clear hwq hwp hD la lb HKK
  obtain ⟨w3, hwV⟩ : ∃ w3, w3 = wq := ⟨_, rfl⟩
  subst hwV
  have HA3 := Lib.hid (HA2.out.next hB)
  have HBb3 := Lib.hid (HBb2.out.next hB)
  have HB3 := Lib.hid (HB2.out.trans (hB.mono HB2.out.size)); clear hB
  clear a0 a1 a2 b0 b1 b2
  obtain ⟨a0, a1, a2⟩ := HA3.out.cells
  obtain ⟨b0, b1, b2⟩ := HBb3.out.cells
  go_wp2_with fail
  have la := HA3.out.lt
  have lb := HBb3.out.lt
  have hD : Below w3.heap.size w3 w3.drew := (Below.refl _ _).drew
  have hk : ∀ w', Below w3.heap.size w3 w' → Below w3.heap.size w3 w' ∧ w'.cell? ⟨w.heap.size, 0, none⟩ = some (.int .i64 t) ∧ w'.cell? ⟨w.heap.size, 1, none⟩ = some (.int .i64 n) ∧ w'.cell? ⟨w.heap.size, 2, none⟩ = some (.string s) ∧ w'.cell? ⟨w.heap.size + 1, 0, none⟩ = some (.int .i64 t') ∧ w'.cell? ⟨w.heap.size + 1, 1, none⟩ = some (.int .i64 n') ∧ w'.cell? ⟨w.heap.size + 1, 2, none⟩ = some (.string s') := fun w' h => ⟨h, (h.cell (p := ⟨w.heap.size, 0, none⟩) la).trans a0, (h.cell (p := ⟨w.heap.size, 1, none⟩) la).trans a1, (h.cell (p := ⟨w.heap.size, 2, none⟩) la).trans a2, (h.cell (p := ⟨w.heap.size + 1, 0, none⟩) lb).trans b0, (h.cell (p := ⟨w.heap.size + 1, 1, none⟩) lb).trans b1, (h.cell (p := ⟨w.heap.size + 1, 2, none⟩) lb).trans b2⟩
  have HKK := Lib.hid hk; clear hk
  go_region_held3 (fun w' => Below w3.heap.size w3 w' ∧ w'.cell? ⟨w.heap.size, 0, none⟩ = some (.int .i64 t) ∧ w'.cell? ⟨w.heap.size, 1, none⟩ = some (.int .i64 n) ∧ w'.cell? ⟨w.heap.size, 2, none⟩ = some (.string s) ∧ w'.cell? ⟨w.heap.size + 1, 0, none⟩ = some (.int .i64 t') ∧ w'.cell? ⟨w.heap.size + 1, 1, none⟩ = some (.int .i64 n') ∧ w'.cell? ⟨w.heap.size + 1, 2, none⟩ = some (.string s'))
    (first | exact HKK.out _ hD | exact HKK.out _ hwp | exact HKK.out _ hwq)
    (first
      | (go_at_call_of 38 (Value.agg #[Value.int IntKind.i64 t, Value.int IntKind.i64 n, Value.string s]); refine (HTA.out w3.drew).mono ?_; rintro e wp ⟨rfl, hB⟩; have hwp : Below w3.heap.size w3 wp := below_go hD hB; clear hB)
      | (go_at_call_of 38 (Value.agg #[Value.int IntKind.i64 t', Value.int IntKind.i64 n', Value.string s']); refine (HTB.out wp).mono ?_; rintro e wq ⟨rfl, hB⟩; have hwq : Below w3.heap.size w3 wq := below_go hwp hB; clear hB)
    )
  have hB := hwq
  clear hwq hwp hD la lb HKK
  obtain ⟨w4, hwV⟩ : ∃ w4, w4 = wq := ⟨_, rfl⟩
  subst hwV
  have HA4 := Lib.hid (HA3.out.next hB)
  have HBb4 := Lib.hid (HBb3.out.next hB)
  have HB4 := Lib.hid (HB3.out.trans (hB.mono HB3.out.size)); clear hB
  clear a0 a1 a2 b0 b1 b2
  go_wp2_with fail
  go_ret
  exact ⟨rfl, HB4.out⟩

set_option maxRecDepth 100000 in
set_option maxHeartbeats 1000000 in
theorem spec_cmp_s_1lt (t n : Int) (s : ByteArray) (t' n' : Int) (s' : ByteArray) (hs : s.size ≤ 1048576) (hs' : s'.size ≤ 1048576) (ha : cOk t n s = true) (hb : cOk t' n' s' = true) (h1 : (t == 2) = true) (hq : sameB (cTxt t n s) (cTxt t' n' s') = false) (hl : lsB (cTxt t n s) (cTxt t' n' s') = true) (w : World) : Calls Tryd.prog 20 #[cel t n s, cel t' n' s'] w fun e w' => e = .returned (.int .i64 (cCmp t n s t' n' s')) ∧ Below w.heap.size w w' := by
  have E : cCmp t n s t' n' s' = -1 := by
    unfold cCmp
    rw [if_pos (by rw [ha, hb]; rfl), if_pos (by simp at h1; omega)]
    unfold cmpS
    rw [if_neg (by rw [hq]; simp), if_pos hl]
  rw [E]; clear E
  have hta : ∀ W, Calls Tryd.prog 38 #[cel t n s] W fun e w' => e = .returned (.string (cTxt t n s)) ∧ Below W.heap.size W w' := fun W => by have := spec_toStr t n s hs W; rw [cStr_yes ha] at this; exact this
  have htb : ∀ W, Calls Tryd.prog 38 #[cel t' n' s'] W fun e w' => e = .returned (.string (cTxt t' n' s')) ∧ Below W.heap.size W w' := fun W => by have := spec_toStr t' n' s' hs' W; rw [cStr_yes hb] at this; exact this
  generalize cTxt t n s = x at *
  generalize cTxt t' n' s' = y at *
  have fq : (x.toList == y.toList) = false := hq
  have fl : Op.bytesLess x.toList y.toList = true := hl
  have HTA := Lib.hid hta; clear hta
  have HTB := Lib.hid htb; clear htb
  have HA := Lib.hid ((CB.new w (.int .i64 t) (.int .i64 n) (.string s)).keep ((Below.refl _ _).alloc (Nat.le_refl _) (.cells #[.int .i64 t', .int .i64 n', .string s'] 38)) (by simp))
  have hb3 := CB.new (w.alloc (.cells #[.int .i64 t, .int .i64 n, .string s] 38)) (.int .i64 t') (.int .i64 n') (.string s')
  simp only [World.size_alloc] at hb3
  have HBb := Lib.hid hb3; clear hb3
  have HB0 := Lib.hid (((Below.refl w.heap.size w).alloc (Nat.le_refl _) (.cells #[.int .i64 t, .int .i64 n, .string s] 38)).alloc (by simp) (.cells #[.int .i64 t', .int .i64 n', .string s'] 38))
  have HAK := Lib.hid ha; clear ha
  have HBK := Lib.hid hb; clear hb
  clear hq hl
  go_enter Tryd.func20, Tryd.ntmps20
  go_wp2_with fail
  refine (spec_cellOk t n s hs _).mono ?_
  rw [HAK.out]
  rintro e w1 ⟨rfl, hB⟩
  have HA1 := Lib.hid (HA.out.next hB)
  have HBb1 := Lib.hid (HBb.out.next hB)
  have HB1 := Lib.hid (HB0.out.trans (hB.mono HB0.out.size)); clear hB
  obtain ⟨a0, a1, a2⟩ := HA1.out.cells
  obtain ⟨b0, b1, b2⟩ := HBb1.out.cells
  go_wp2_with fail
  refine (spec_cellOk t' n' s' hs' _).mono ?_
  rw [HBK.out]
  rintro e w2 ⟨rfl, hB⟩
  have HA2 := Lib.hid (HA1.out.next hB)
  have HBb2 := Lib.hid (HBb1.out.next hB)
  have HB2 := Lib.hid (HB1.out.trans (hB.mono HB1.out.size)); clear hB
  clear a0 a1 a2 b0 b1 b2
  obtain ⟨a0, a1, a2⟩ := HA2.out.cells
  obtain ⟨b0, b1, b2⟩ := HBb2.out.cells
  go_wp2_with fail
  have la := HA2.out.lt
  have lb := HBb2.out.lt
  have hD : Below w2.heap.size w2 w2.drew := (Below.refl _ _).drew
  have hk : ∀ w', Below w2.heap.size w2 w' → Below w2.heap.size w2 w' ∧ w'.cell? ⟨w.heap.size, 0, none⟩ = some (.int .i64 t) ∧ w'.cell? ⟨w.heap.size, 1, none⟩ = some (.int .i64 n) ∧ w'.cell? ⟨w.heap.size, 2, none⟩ = some (.string s) ∧ w'.cell? ⟨w.heap.size + 1, 0, none⟩ = some (.int .i64 t') ∧ w'.cell? ⟨w.heap.size + 1, 1, none⟩ = some (.int .i64 n') ∧ w'.cell? ⟨w.heap.size + 1, 2, none⟩ = some (.string s') := fun w' h => ⟨h, (h.cell (p := ⟨w.heap.size, 0, none⟩) la).trans a0, (h.cell (p := ⟨w.heap.size, 1, none⟩) la).trans a1, (h.cell (p := ⟨w.heap.size, 2, none⟩) la).trans a2, (h.cell (p := ⟨w.heap.size + 1, 0, none⟩) lb).trans b0, (h.cell (p := ⟨w.heap.size + 1, 1, none⟩) lb).trans b1, (h.cell (p := ⟨w.heap.size + 1, 2, none⟩) lb).trans b2⟩
  have HKK := Lib.hid hk; clear hk
  go_region_held3 (fun w' => Below w2.heap.size w2 w' ∧ w'.cell? ⟨w.heap.size, 0, none⟩ = some (.int .i64 t) ∧ w'.cell? ⟨w.heap.size, 1, none⟩ = some (.int .i64 n) ∧ w'.cell? ⟨w.heap.size, 2, none⟩ = some (.string s) ∧ w'.cell? ⟨w.heap.size + 1, 0, none⟩ = some (.int .i64 t') ∧ w'.cell? ⟨w.heap.size + 1, 1, none⟩ = some (.int .i64 n') ∧ w'.cell? ⟨w.heap.size + 1, 2, none⟩ = some (.string s'))
    (first | exact HKK.out _ hD | exact HKK.out _ hwp | exact HKK.out _ hwq)
    (first
      | (go_at_call_of 38 (Value.agg #[Value.int IntKind.i64 t, Value.int IntKind.i64 n, Value.string s]); refine (HTA.out w2.drew).mono ?_; rintro e wp ⟨rfl, hB⟩; have hwp : Below w2.heap.size w2 wp := below_go hD hB; clear hB)
      | (go_at_call_of 38 (Value.agg #[Value.int IntKind.i64 t', Value.int IntKind.i64 n', Value.string s']); refine (HTB.out wp).mono ?_; rintro e wq ⟨rfl, hB⟩; have hwq : Below w2.heap.size w2 wq := below_go hwp hB; clear hB)
    )
  have hB := hwq
  clear hwq hwp hD la lb HKK
  obtain ⟨w3, hwV⟩ : ∃ w3, w3 = wq := ⟨_, rfl⟩
  subst hwV
  have HA3 := Lib.hid (HA2.out.next hB)
  have HBb3 := Lib.hid (HBb2.out.next hB)
  have HB3 := Lib.hid (HB2.out.trans (hB.mono HB2.out.size)); clear hB
  clear a0 a1 a2 b0 b1 b2
  obtain ⟨a0, a1, a2⟩ := HA3.out.cells
  obtain ⟨b0, b1, b2⟩ := HBb3.out.cells
  go_wp2_with fail
  have la := HA3.out.lt
  have lb := HBb3.out.lt
  have hD : Below w3.heap.size w3 w3.drew := (Below.refl _ _).drew
  have hk : ∀ w', Below w3.heap.size w3 w' → Below w3.heap.size w3 w' ∧ w'.cell? ⟨w.heap.size, 0, none⟩ = some (.int .i64 t) ∧ w'.cell? ⟨w.heap.size, 1, none⟩ = some (.int .i64 n) ∧ w'.cell? ⟨w.heap.size, 2, none⟩ = some (.string s) ∧ w'.cell? ⟨w.heap.size + 1, 0, none⟩ = some (.int .i64 t') ∧ w'.cell? ⟨w.heap.size + 1, 1, none⟩ = some (.int .i64 n') ∧ w'.cell? ⟨w.heap.size + 1, 2, none⟩ = some (.string s') := fun w' h => ⟨h, (h.cell (p := ⟨w.heap.size, 0, none⟩) la).trans a0, (h.cell (p := ⟨w.heap.size, 1, none⟩) la).trans a1, (h.cell (p := ⟨w.heap.size, 2, none⟩) la).trans a2, (h.cell (p := ⟨w.heap.size + 1, 0, none⟩) lb).trans b0, (h.cell (p := ⟨w.heap.size + 1, 1, none⟩) lb).trans b1, (h.cell (p := ⟨w.heap.size + 1, 2, none⟩) lb).trans b2⟩
  have HKK := Lib.hid hk; clear hk
  go_region_held3 (fun w' => Below w3.heap.size w3 w' ∧ w'.cell? ⟨w.heap.size, 0, none⟩ = some (.int .i64 t) ∧ w'.cell? ⟨w.heap.size, 1, none⟩ = some (.int .i64 n) ∧ w'.cell? ⟨w.heap.size, 2, none⟩ = some (.string s) ∧ w'.cell? ⟨w.heap.size + 1, 0, none⟩ = some (.int .i64 t') ∧ w'.cell? ⟨w.heap.size + 1, 1, none⟩ = some (.int .i64 n') ∧ w'.cell? ⟨w.heap.size + 1, 2, none⟩ = some (.string s'))
    (first | exact HKK.out _ hD | exact HKK.out _ hwp | exact HKK.out _ hwq)
    (first
      | (go_at_call_of 38 (Value.agg #[Value.int IntKind.i64 t, Value.int IntKind.i64 n, Value.string s]); refine (HTA.out w3.drew).mono ?_; rintro e wp ⟨rfl, hB⟩; have hwp : Below w3.heap.size w3 wp := below_go hD hB; clear hB)
      | (go_at_call_of 38 (Value.agg #[Value.int IntKind.i64 t', Value.int IntKind.i64 n', Value.string s']); refine (HTB.out wp).mono ?_; rintro e wq ⟨rfl, hB⟩; have hwq : Below w3.heap.size w3 wq := below_go hwp hB; clear hB)
    )
  have hB := hwq
  clear hwq hwp hD la lb HKK
  obtain ⟨w4, hwV⟩ : ∃ w4, w4 = wq := ⟨_, rfl⟩
  subst hwV
  have HA4 := Lib.hid (HA3.out.next hB)
  have HBb4 := Lib.hid (HBb3.out.next hB)
  have HB4 := Lib.hid (HB3.out.trans (hB.mono HB3.out.size)); clear hB
  clear a0 a1 a2 b0 b1 b2
  go_wp2_with fail
  go_ret
  exact ⟨rfl, HB4.out⟩

set_option maxRecDepth 100000 in
set_option maxHeartbeats 1000000 in
theorem spec_cmp_s_1gt (t n : Int) (s : ByteArray) (t' n' : Int) (s' : ByteArray) (hs : s.size ≤ 1048576) (hs' : s'.size ≤ 1048576) (ha : cOk t n s = true) (hb : cOk t' n' s' = true) (h1 : (t == 2) = true) (hq : sameB (cTxt t n s) (cTxt t' n' s') = false) (hl : lsB (cTxt t n s) (cTxt t' n' s') = false) (w : World) : Calls Tryd.prog 20 #[cel t n s, cel t' n' s'] w fun e w' => e = .returned (.int .i64 (cCmp t n s t' n' s')) ∧ Below w.heap.size w w' := by
  have E : cCmp t n s t' n' s' = 1 := by
    unfold cCmp
    rw [if_pos (by rw [ha, hb]; rfl), if_pos (by simp at h1; omega)]
    unfold cmpS
    rw [if_neg (by rw [hq]; simp), if_neg (by rw [hl]; simp)]
  rw [E]; clear E
  have hta : ∀ W, Calls Tryd.prog 38 #[cel t n s] W fun e w' => e = .returned (.string (cTxt t n s)) ∧ Below W.heap.size W w' := fun W => by have := spec_toStr t n s hs W; rw [cStr_yes ha] at this; exact this
  have htb : ∀ W, Calls Tryd.prog 38 #[cel t' n' s'] W fun e w' => e = .returned (.string (cTxt t' n' s')) ∧ Below W.heap.size W w' := fun W => by have := spec_toStr t' n' s' hs' W; rw [cStr_yes hb] at this; exact this
  generalize cTxt t n s = x at *
  generalize cTxt t' n' s' = y at *
  have fq : (x.toList == y.toList) = false := hq
  have fl : Op.bytesLess x.toList y.toList = false := hl
  have HTA := Lib.hid hta; clear hta
  have HTB := Lib.hid htb; clear htb
  have HA := Lib.hid ((CB.new w (.int .i64 t) (.int .i64 n) (.string s)).keep ((Below.refl _ _).alloc (Nat.le_refl _) (.cells #[.int .i64 t', .int .i64 n', .string s'] 38)) (by simp))
  have hb3 := CB.new (w.alloc (.cells #[.int .i64 t, .int .i64 n, .string s] 38)) (.int .i64 t') (.int .i64 n') (.string s')
  simp only [World.size_alloc] at hb3
  have HBb := Lib.hid hb3; clear hb3
  have HB0 := Lib.hid (((Below.refl w.heap.size w).alloc (Nat.le_refl _) (.cells #[.int .i64 t, .int .i64 n, .string s] 38)).alloc (by simp) (.cells #[.int .i64 t', .int .i64 n', .string s'] 38))
  have HAK := Lib.hid ha; clear ha
  have HBK := Lib.hid hb; clear hb
  clear hq hl
  go_enter Tryd.func20, Tryd.ntmps20
  go_wp2_with fail
  refine (spec_cellOk t n s hs _).mono ?_
  rw [HAK.out]
  rintro e w1 ⟨rfl, hB⟩
  have HA1 := Lib.hid (HA.out.next hB)
  have HBb1 := Lib.hid (HBb.out.next hB)
  have HB1 := Lib.hid (HB0.out.trans (hB.mono HB0.out.size)); clear hB
  obtain ⟨a0, a1, a2⟩ := HA1.out.cells
  obtain ⟨b0, b1, b2⟩ := HBb1.out.cells
  go_wp2_with fail
  refine (spec_cellOk t' n' s' hs' _).mono ?_
  rw [HBK.out]
  rintro e w2 ⟨rfl, hB⟩
  have HA2 := Lib.hid (HA1.out.next hB)
  have HBb2 := Lib.hid (HBb1.out.next hB)
  have HB2 := Lib.hid (HB1.out.trans (hB.mono HB1.out.size)); clear hB
  clear a0 a1 a2 b0 b1 b2
  obtain ⟨a0, a1, a2⟩ := HA2.out.cells
  obtain ⟨b0, b1, b2⟩ := HBb2.out.cells
  go_wp2_with fail
  have la := HA2.out.lt
  have lb := HBb2.out.lt
  have hD : Below w2.heap.size w2 w2.drew := (Below.refl _ _).drew
  have hk : ∀ w', Below w2.heap.size w2 w' → Below w2.heap.size w2 w' ∧ w'.cell? ⟨w.heap.size, 0, none⟩ = some (.int .i64 t) ∧ w'.cell? ⟨w.heap.size, 1, none⟩ = some (.int .i64 n) ∧ w'.cell? ⟨w.heap.size, 2, none⟩ = some (.string s) ∧ w'.cell? ⟨w.heap.size + 1, 0, none⟩ = some (.int .i64 t') ∧ w'.cell? ⟨w.heap.size + 1, 1, none⟩ = some (.int .i64 n') ∧ w'.cell? ⟨w.heap.size + 1, 2, none⟩ = some (.string s') := fun w' h => ⟨h, (h.cell (p := ⟨w.heap.size, 0, none⟩) la).trans a0, (h.cell (p := ⟨w.heap.size, 1, none⟩) la).trans a1, (h.cell (p := ⟨w.heap.size, 2, none⟩) la).trans a2, (h.cell (p := ⟨w.heap.size + 1, 0, none⟩) lb).trans b0, (h.cell (p := ⟨w.heap.size + 1, 1, none⟩) lb).trans b1, (h.cell (p := ⟨w.heap.size + 1, 2, none⟩) lb).trans b2⟩
  have HKK := Lib.hid hk; clear hk
  go_region_held3 (fun w' => Below w2.heap.size w2 w' ∧ w'.cell? ⟨w.heap.size, 0, none⟩ = some (.int .i64 t) ∧ w'.cell? ⟨w.heap.size, 1, none⟩ = some (.int .i64 n) ∧ w'.cell? ⟨w.heap.size, 2, none⟩ = some (.string s) ∧ w'.cell? ⟨w.heap.size + 1, 0, none⟩ = some (.int .i64 t') ∧ w'.cell? ⟨w.heap.size + 1, 1, none⟩ = some (.int .i64 n') ∧ w'.cell? ⟨w.heap.size + 1, 2, none⟩ = some (.string s'))
    (first | exact HKK.out _ hD | exact HKK.out _ hwp | exact HKK.out _ hwq)
    (first
      | (go_at_call_of 38 (Value.agg #[Value.int IntKind.i64 t, Value.int IntKind.i64 n, Value.string s]); refine (HTA.out w2.drew).mono ?_; rintro e wp ⟨rfl, hB⟩; have hwp : Below w2.heap.size w2 wp := below_go hD hB; clear hB)
      | (go_at_call_of 38 (Value.agg #[Value.int IntKind.i64 t', Value.int IntKind.i64 n', Value.string s']); refine (HTB.out wp).mono ?_; rintro e wq ⟨rfl, hB⟩; have hwq : Below w2.heap.size w2 wq := below_go hwp hB; clear hB)
    )
  have hB := hwq
  clear hwq hwp hD la lb HKK
  obtain ⟨w3, hwV⟩ : ∃ w3, w3 = wq := ⟨_, rfl⟩
  subst hwV
  have HA3 := Lib.hid (HA2.out.next hB)
  have HBb3 := Lib.hid (HBb2.out.next hB)
  have HB3 := Lib.hid (HB2.out.trans (hB.mono HB2.out.size)); clear hB
  clear a0 a1 a2 b0 b1 b2
  obtain ⟨a0, a1, a2⟩ := HA3.out.cells
  obtain ⟨b0, b1, b2⟩ := HBb3.out.cells
  go_wp2_with fail
  have la := HA3.out.lt
  have lb := HBb3.out.lt
  have hD : Below w3.heap.size w3 w3.drew := (Below.refl _ _).drew
  have hk : ∀ w', Below w3.heap.size w3 w' → Below w3.heap.size w3 w' ∧ w'.cell? ⟨w.heap.size, 0, none⟩ = some (.int .i64 t) ∧ w'.cell? ⟨w.heap.size, 1, none⟩ = some (.int .i64 n) ∧ w'.cell? ⟨w.heap.size, 2, none⟩ = some (.string s) ∧ w'.cell? ⟨w.heap.size + 1, 0, none⟩ = some (.int .i64 t') ∧ w'.cell? ⟨w.heap.size + 1, 1, none⟩ = some (.int .i64 n') ∧ w'.cell? ⟨w.heap.size + 1, 2, none⟩ = some (.string s') := fun w' h => ⟨h, (h.cell (p := ⟨w.heap.size, 0, none⟩) la).trans a0, (h.cell (p := ⟨w.heap.size, 1, none⟩) la).trans a1, (h.cell (p := ⟨w.heap.size, 2, none⟩) la).trans a2, (h.cell (p := ⟨w.heap.size + 1, 0, none⟩) lb).trans b0, (h.cell (p := ⟨w.heap.size + 1, 1, none⟩) lb).trans b1, (h.cell (p := ⟨w.heap.size + 1, 2, none⟩) lb).trans b2⟩
  have HKK := Lib.hid hk; clear hk
  go_region_held3 (fun w' => Below w3.heap.size w3 w' ∧ w'.cell? ⟨w.heap.size, 0, none⟩ = some (.int .i64 t) ∧ w'.cell? ⟨w.heap.size, 1, none⟩ = some (.int .i64 n) ∧ w'.cell? ⟨w.heap.size, 2, none⟩ = some (.string s) ∧ w'.cell? ⟨w.heap.size + 1, 0, none⟩ = some (.int .i64 t') ∧ w'.cell? ⟨w.heap.size + 1, 1, none⟩ = some (.int .i64 n') ∧ w'.cell? ⟨w.heap.size + 1, 2, none⟩ = some (.string s'))
    (first | exact HKK.out _ hD | exact HKK.out _ hwp | exact HKK.out _ hwq)
    (first
      | (go_at_call_of 38 (Value.agg #[Value.int IntKind.i64 t, Value.int IntKind.i64 n, Value.string s]); refine (HTA.out w3.drew).mono ?_; rintro e wp ⟨rfl, hB⟩; have hwp : Below w3.heap.size w3 wp := below_go hD hB; clear hB)
      | (go_at_call_of 38 (Value.agg #[Value.int IntKind.i64 t', Value.int IntKind.i64 n', Value.string s']); refine (HTB.out wp).mono ?_; rintro e wq ⟨rfl, hB⟩; have hwq : Below w3.heap.size w3 wq := below_go hwp hB; clear hB)
    )
  have hB := hwq
  clear hwq hwp hD la lb HKK
  obtain ⟨w4, hwV⟩ : ∃ w4, w4 = wq := ⟨_, rfl⟩
  subst hwV
  have HA4 := Lib.hid (HA3.out.next hB)
  have HBb4 := Lib.hid (HBb3.out.next hB)
  have HB4 := Lib.hid (HB3.out.trans (hB.mono HB3.out.size)); clear hB
  clear a0 a1 a2 b0 b1 b2
  go_wp2_with fail
  go_ret
  exact ⟨rfl, HB4.out⟩

set_option maxRecDepth 100000 in
set_option maxHeartbeats 1000000 in
theorem spec_cmp_s_2eq (t n : Int) (s : ByteArray) (t' n' : Int) (s' : ByteArray) (hs : s.size ≤ 1048576) (hs' : s'.size ≤ 1048576) (ha : cOk t n s = true) (hb : cOk t' n' s' = true) (h1 : (t == 2) = false) (h2 : (t' == 2) = true) (hq : sameB (cTxt t n s) (cTxt t' n' s') = true) (w : World) : Calls Tryd.prog 20 #[cel t n s, cel t' n' s'] w fun e w' => e = .returned (.int .i64 (cCmp t n s t' n' s')) ∧ Below w.heap.size w w' := by
  have E : cCmp t n s t' n' s' = 0 := by
    unfold cCmp
    rw [if_pos (by rw [ha, hb]; rfl), if_pos (by simp at h1 h2; omega)]
    unfold cmpS
    rw [if_pos hq]
  rw [E]; clear E
  have hta : ∀ W, Calls Tryd.prog 38 #[cel t n s] W fun e w' => e = .returned (.string (cTxt t n s)) ∧ Below W.heap.size W w' := fun W => by have := spec_toStr t n s hs W; rw [cStr_yes ha] at this; exact this
  have htb : ∀ W, Calls Tryd.prog 38 #[cel t' n' s'] W fun e w' => e = .returned (.string (cTxt t' n' s')) ∧ Below W.heap.size W w' := fun W => by have := spec_toStr t' n' s' hs' W; rw [cStr_yes hb] at this; exact this
  generalize cTxt t n s = x at *
  generalize cTxt t' n' s' = y at *
  have fq : (x.toList == y.toList) = true := hq
  obtain rfl := sameB_iff.1 hq
  have fl : Op.bytesLess x.toList x.toList = false := bl_self _
  clear fq
  have HTA := Lib.hid hta; clear hta
  have HTB := Lib.hid htb; clear htb
  have HA := Lib.hid ((CB.new w (.int .i64 t) (.int .i64 n) (.string s)).keep ((Below.refl _ _).alloc (Nat.le_refl _) (.cells #[.int .i64 t', .int .i64 n', .string s'] 38)) (by simp))
  have hb3 := CB.new (w.alloc (.cells #[.int .i64 t, .int .i64 n, .string s] 38)) (.int .i64 t') (.int .i64 n') (.string s')
  simp only [World.size_alloc] at hb3
  have HBb := Lib.hid hb3; clear hb3
  have HB0 := Lib.hid (((Below.refl w.heap.size w).alloc (Nat.le_refl _) (.cells #[.int .i64 t, .int .i64 n, .string s] 38)).alloc (by simp) (.cells #[.int .i64 t', .int .i64 n', .string s'] 38))
  have HAK := Lib.hid ha; clear ha
  have HBK := Lib.hid hb; clear hb
  clear hq
  go_enter Tryd.func20, Tryd.ntmps20
  go_wp2_with fail
  refine (spec_cellOk t n s hs _).mono ?_
  rw [HAK.out]
  rintro e w1 ⟨rfl, hB⟩
  have HA1 := Lib.hid (HA.out.next hB)
  have HBb1 := Lib.hid (HBb.out.next hB)
  have HB1 := Lib.hid (HB0.out.trans (hB.mono HB0.out.size)); clear hB
  obtain ⟨a0, a1, a2⟩ := HA1.out.cells
  obtain ⟨b0, b1, b2⟩ := HBb1.out.cells
  go_wp2_with fail
  refine (spec_cellOk t' n' s' hs' _).mono ?_
  rw [HBK.out]
  rintro e w2 ⟨rfl, hB⟩
  have HA2 := Lib.hid (HA1.out.next hB)
  have HBb2 := Lib.hid (HBb1.out.next hB)
  have HB2 := Lib.hid (HB1.out.trans (hB.mono HB1.out.size)); clear hB
  clear a0 a1 a2 b0 b1 b2
  obtain ⟨a0, a1, a2⟩ := HA2.out.cells
  obtain ⟨b0, b1, b2⟩ := HBb2.out.cells
  go_wp2_with fail
  have la := HA2.out.lt
  have lb := HBb2.out.lt
  have hD : Below w2.heap.size w2 w2.drew := (Below.refl _ _).drew
  have hk : ∀ w', Below w2.heap.size w2 w' → Below w2.heap.size w2 w' ∧ w'.cell? ⟨w.heap.size, 0, none⟩ = some (.int .i64 t) ∧ w'.cell? ⟨w.heap.size, 1, none⟩ = some (.int .i64 n) ∧ w'.cell? ⟨w.heap.size, 2, none⟩ = some (.string s) ∧ w'.cell? ⟨w.heap.size + 1, 0, none⟩ = some (.int .i64 t') ∧ w'.cell? ⟨w.heap.size + 1, 1, none⟩ = some (.int .i64 n') ∧ w'.cell? ⟨w.heap.size + 1, 2, none⟩ = some (.string s') := fun w' h => ⟨h, (h.cell (p := ⟨w.heap.size, 0, none⟩) la).trans a0, (h.cell (p := ⟨w.heap.size, 1, none⟩) la).trans a1, (h.cell (p := ⟨w.heap.size, 2, none⟩) la).trans a2, (h.cell (p := ⟨w.heap.size + 1, 0, none⟩) lb).trans b0, (h.cell (p := ⟨w.heap.size + 1, 1, none⟩) lb).trans b1, (h.cell (p := ⟨w.heap.size + 1, 2, none⟩) lb).trans b2⟩
  have HKK := Lib.hid hk; clear hk
  go_region_held3 (fun w' => Below w2.heap.size w2 w' ∧ w'.cell? ⟨w.heap.size, 0, none⟩ = some (.int .i64 t) ∧ w'.cell? ⟨w.heap.size, 1, none⟩ = some (.int .i64 n) ∧ w'.cell? ⟨w.heap.size, 2, none⟩ = some (.string s) ∧ w'.cell? ⟨w.heap.size + 1, 0, none⟩ = some (.int .i64 t') ∧ w'.cell? ⟨w.heap.size + 1, 1, none⟩ = some (.int .i64 n') ∧ w'.cell? ⟨w.heap.size + 1, 2, none⟩ = some (.string s'))
    (first | exact HKK.out _ hD | exact HKK.out _ hwp | exact HKK.out _ hwq)
    (first
      | (go_at_call_of 38 (Value.agg #[Value.int IntKind.i64 t, Value.int IntKind.i64 n, Value.string s]); refine (HTA.out w2.drew).mono ?_; rintro e wp ⟨rfl, hB⟩; have hwp : Below w2.heap.size w2 wp := below_go hD hB; clear hB)
      | (go_at_call_of 38 (Value.agg #[Value.int IntKind.i64 t', Value.int IntKind.i64 n', Value.string s']); refine (HTB.out wp).mono ?_; rintro e wq ⟨rfl, hB⟩; have hwq : Below w2.heap.size w2 wq := below_go hwp hB; clear hB)
    )
  have hB := hwq
  clear hwq hwp hD la lb HKK
  obtain ⟨w3, hwV⟩ : ∃ w3, w3 = wq := ⟨_, rfl⟩
  subst hwV
  have HA3 := Lib.hid (HA2.out.next hB)
  have HBb3 := Lib.hid (HBb2.out.next hB)
  have HB3 := Lib.hid (HB2.out.trans (hB.mono HB2.out.size)); clear hB
  clear a0 a1 a2 b0 b1 b2
  obtain ⟨a0, a1, a2⟩ := HA3.out.cells
  obtain ⟨b0, b1, b2⟩ := HBb3.out.cells
  go_wp2_with fail
  have la := HA3.out.lt
  have lb := HBb3.out.lt
  have hD : Below w3.heap.size w3 w3.drew := (Below.refl _ _).drew
  have hk : ∀ w', Below w3.heap.size w3 w' → Below w3.heap.size w3 w' ∧ w'.cell? ⟨w.heap.size, 0, none⟩ = some (.int .i64 t) ∧ w'.cell? ⟨w.heap.size, 1, none⟩ = some (.int .i64 n) ∧ w'.cell? ⟨w.heap.size, 2, none⟩ = some (.string s) ∧ w'.cell? ⟨w.heap.size + 1, 0, none⟩ = some (.int .i64 t') ∧ w'.cell? ⟨w.heap.size + 1, 1, none⟩ = some (.int .i64 n') ∧ w'.cell? ⟨w.heap.size + 1, 2, none⟩ = some (.string s') := fun w' h => ⟨h, (h.cell (p := ⟨w.heap.size, 0, none⟩) la).trans a0, (h.cell (p := ⟨w.heap.size, 1, none⟩) la).trans a1, (h.cell (p := ⟨w.heap.size, 2, none⟩) la).trans a2, (h.cell (p := ⟨w.heap.size + 1, 0, none⟩) lb).trans b0, (h.cell (p := ⟨w.heap.size + 1, 1, none⟩) lb).trans b1, (h.cell (p := ⟨w.heap.size + 1, 2, none⟩) lb).trans b2⟩
  have HKK := Lib.hid hk; clear hk
  go_region_held3 (fun w' => Below w3.heap.size w3 w' ∧ w'.cell? ⟨w.heap.size, 0, none⟩ = some (.int .i64 t) ∧ w'.cell? ⟨w.heap.size, 1, none⟩ = some (.int .i64 n) ∧ w'.cell? ⟨w.heap.size, 2, none⟩ = some (.string s) ∧ w'.cell? ⟨w.heap.size + 1, 0, none⟩ = some (.int .i64 t') ∧ w'.cell? ⟨w.heap.size + 1, 1, none⟩ = some (.int .i64 n') ∧ w'.cell? ⟨w.heap.size + 1, 2, none⟩ = some (.string s'))
    (first | exact HKK.out _ hD | exact HKK.out _ hwp | exact HKK.out _ hwq)
    (first
      | (go_at_call_of 38 (Value.agg #[Value.int IntKind.i64 t, Value.int IntKind.i64 n, Value.string s]); refine (HTA.out w3.drew).mono ?_; rintro e wp ⟨rfl, hB⟩; have hwp : Below w3.heap.size w3 wp := below_go hD hB; clear hB)
      | (go_at_call_of 38 (Value.agg #[Value.int IntKind.i64 t', Value.int IntKind.i64 n', Value.string s']); refine (HTB.out wp).mono ?_; rintro e wq ⟨rfl, hB⟩; have hwq : Below w3.heap.size w3 wq := below_go hwp hB; clear hB)
    )
  have hB := hwq
  clear hwq hwp hD la lb HKK
  obtain ⟨w4, hwV⟩ : ∃ w4, w4 = wq := ⟨_, rfl⟩
  subst hwV
  have HA4 := Lib.hid (HA3.out.next hB)
  have HBb4 := Lib.hid (HBb3.out.next hB)
  have HB4 := Lib.hid (HB3.out.trans (hB.mono HB3.out.size)); clear hB
  clear a0 a1 a2 b0 b1 b2
  go_wp2_with fail
  go_ret
  exact ⟨rfl, HB4.out⟩

set_option maxRecDepth 100000 in
set_option maxHeartbeats 1000000 in
theorem spec_cmp_s_2lt (t n : Int) (s : ByteArray) (t' n' : Int) (s' : ByteArray) (hs : s.size ≤ 1048576) (hs' : s'.size ≤ 1048576) (ha : cOk t n s = true) (hb : cOk t' n' s' = true) (h1 : (t == 2) = false) (h2 : (t' == 2) = true) (hq : sameB (cTxt t n s) (cTxt t' n' s') = false) (hl : lsB (cTxt t n s) (cTxt t' n' s') = true) (w : World) : Calls Tryd.prog 20 #[cel t n s, cel t' n' s'] w fun e w' => e = .returned (.int .i64 (cCmp t n s t' n' s')) ∧ Below w.heap.size w w' := by
  have E : cCmp t n s t' n' s' = -1 := by
    unfold cCmp
    rw [if_pos (by rw [ha, hb]; rfl), if_pos (by simp at h1 h2; omega)]
    unfold cmpS
    rw [if_neg (by rw [hq]; simp), if_pos hl]
  rw [E]; clear E
  have hta : ∀ W, Calls Tryd.prog 38 #[cel t n s] W fun e w' => e = .returned (.string (cTxt t n s)) ∧ Below W.heap.size W w' := fun W => by have := spec_toStr t n s hs W; rw [cStr_yes ha] at this; exact this
  have htb : ∀ W, Calls Tryd.prog 38 #[cel t' n' s'] W fun e w' => e = .returned (.string (cTxt t' n' s')) ∧ Below W.heap.size W w' := fun W => by have := spec_toStr t' n' s' hs' W; rw [cStr_yes hb] at this; exact this
  generalize cTxt t n s = x at *
  generalize cTxt t' n' s' = y at *
  have fq : (x.toList == y.toList) = false := hq
  have fl : Op.bytesLess x.toList y.toList = true := hl
  have HTA := Lib.hid hta; clear hta
  have HTB := Lib.hid htb; clear htb
  have HA := Lib.hid ((CB.new w (.int .i64 t) (.int .i64 n) (.string s)).keep ((Below.refl _ _).alloc (Nat.le_refl _) (.cells #[.int .i64 t', .int .i64 n', .string s'] 38)) (by simp))
  have hb3 := CB.new (w.alloc (.cells #[.int .i64 t, .int .i64 n, .string s] 38)) (.int .i64 t') (.int .i64 n') (.string s')
  simp only [World.size_alloc] at hb3
  have HBb := Lib.hid hb3; clear hb3
  have HB0 := Lib.hid (((Below.refl w.heap.size w).alloc (Nat.le_refl _) (.cells #[.int .i64 t, .int .i64 n, .string s] 38)).alloc (by simp) (.cells #[.int .i64 t', .int .i64 n', .string s'] 38))
  have HAK := Lib.hid ha; clear ha
  have HBK := Lib.hid hb; clear hb
  clear hq hl
  go_enter Tryd.func20, Tryd.ntmps20
  go_wp2_with fail
  refine (spec_cellOk t n s hs _).mono ?_
  rw [HAK.out]
  rintro e w1 ⟨rfl, hB⟩
  have HA1 := Lib.hid (HA.out.next hB)
  have HBb1 := Lib.hid (HBb.out.next hB)
  have HB1 := Lib.hid (HB0.out.trans (hB.mono HB0.out.size)); clear hB
  obtain ⟨a0, a1, a2⟩ := HA1.out.cells
  obtain ⟨b0, b1, b2⟩ := HBb1.out.cells
  go_wp2_with fail
  refine (spec_cellOk t' n' s' hs' _).mono ?_
  rw [HBK.out]
  rintro e w2 ⟨rfl, hB⟩
  have HA2 := Lib.hid (HA1.out.next hB)
  have HBb2 := Lib.hid (HBb1.out.next hB)
  have HB2 := Lib.hid (HB1.out.trans (hB.mono HB1.out.size)); clear hB
  clear a0 a1 a2 b0 b1 b2
  obtain ⟨a0, a1, a2⟩ := HA2.out.cells
  obtain ⟨b0, b1, b2⟩ := HBb2.out.cells
  go_wp2_with fail
  have la := HA2.out.lt
  have lb := HBb2.out.lt
  have hD : Below w2.heap.size w2 w2.drew := (Below.refl _ _).drew
  have hk : ∀ w', Below w2.heap.size w2 w' → Below w2.heap.size w2 w' ∧ w'.cell? ⟨w.heap.size, 0, none⟩ = some (.int .i64 t) ∧ w'.cell? ⟨w.heap.size, 1, none⟩ = some (.int .i64 n) ∧ w'.cell? ⟨w.heap.size, 2, none⟩ = some (.string s) ∧ w'.cell? ⟨w.heap.size + 1, 0, none⟩ = some (.int .i64 t') ∧ w'.cell? ⟨w.heap.size + 1, 1, none⟩ = some (.int .i64 n') ∧ w'.cell? ⟨w.heap.size + 1, 2, none⟩ = some (.string s') := fun w' h => ⟨h, (h.cell (p := ⟨w.heap.size, 0, none⟩) la).trans a0, (h.cell (p := ⟨w.heap.size, 1, none⟩) la).trans a1, (h.cell (p := ⟨w.heap.size, 2, none⟩) la).trans a2, (h.cell (p := ⟨w.heap.size + 1, 0, none⟩) lb).trans b0, (h.cell (p := ⟨w.heap.size + 1, 1, none⟩) lb).trans b1, (h.cell (p := ⟨w.heap.size + 1, 2, none⟩) lb).trans b2⟩
  have HKK := Lib.hid hk; clear hk
  go_region_held3 (fun w' => Below w2.heap.size w2 w' ∧ w'.cell? ⟨w.heap.size, 0, none⟩ = some (.int .i64 t) ∧ w'.cell? ⟨w.heap.size, 1, none⟩ = some (.int .i64 n) ∧ w'.cell? ⟨w.heap.size, 2, none⟩ = some (.string s) ∧ w'.cell? ⟨w.heap.size + 1, 0, none⟩ = some (.int .i64 t') ∧ w'.cell? ⟨w.heap.size + 1, 1, none⟩ = some (.int .i64 n') ∧ w'.cell? ⟨w.heap.size + 1, 2, none⟩ = some (.string s'))
    (first | exact HKK.out _ hD | exact HKK.out _ hwp | exact HKK.out _ hwq)
    (first
      | (go_at_call_of 38 (Value.agg #[Value.int IntKind.i64 t, Value.int IntKind.i64 n, Value.string s]); refine (HTA.out w2.drew).mono ?_; rintro e wp ⟨rfl, hB⟩; have hwp : Below w2.heap.size w2 wp := below_go hD hB; clear hB)
      | (go_at_call_of 38 (Value.agg #[Value.int IntKind.i64 t', Value.int IntKind.i64 n', Value.string s']); refine (HTB.out wp).mono ?_; rintro e wq ⟨rfl, hB⟩; have hwq : Below w2.heap.size w2 wq := below_go hwp hB; clear hB)
    )
  have hB := hwq
  clear hwq hwp hD la lb HKK
  obtain ⟨w3, hwV⟩ : ∃ w3, w3 = wq := ⟨_, rfl⟩
  subst hwV
  have HA3 := Lib.hid (HA2.out.next hB)
  have HBb3 := Lib.hid (HBb2.out.next hB)
  have HB3 := Lib.hid (HB2.out.trans (hB.mono HB2.out.size)); clear hB
  clear a0 a1 a2 b0 b1 b2
  obtain ⟨a0, a1, a2⟩ := HA3.out.cells
  obtain ⟨b0, b1, b2⟩ := HBb3.out.cells
  go_wp2_with fail
  have la := HA3.out.lt
  have lb := HBb3.out.lt
  have hD : Below w3.heap.size w3 w3.drew := (Below.refl _ _).drew
  have hk : ∀ w', Below w3.heap.size w3 w' → Below w3.heap.size w3 w' ∧ w'.cell? ⟨w.heap.size, 0, none⟩ = some (.int .i64 t) ∧ w'.cell? ⟨w.heap.size, 1, none⟩ = some (.int .i64 n) ∧ w'.cell? ⟨w.heap.size, 2, none⟩ = some (.string s) ∧ w'.cell? ⟨w.heap.size + 1, 0, none⟩ = some (.int .i64 t') ∧ w'.cell? ⟨w.heap.size + 1, 1, none⟩ = some (.int .i64 n') ∧ w'.cell? ⟨w.heap.size + 1, 2, none⟩ = some (.string s') := fun w' h => ⟨h, (h.cell (p := ⟨w.heap.size, 0, none⟩) la).trans a0, (h.cell (p := ⟨w.heap.size, 1, none⟩) la).trans a1, (h.cell (p := ⟨w.heap.size, 2, none⟩) la).trans a2, (h.cell (p := ⟨w.heap.size + 1, 0, none⟩) lb).trans b0, (h.cell (p := ⟨w.heap.size + 1, 1, none⟩) lb).trans b1, (h.cell (p := ⟨w.heap.size + 1, 2, none⟩) lb).trans b2⟩
  have HKK := Lib.hid hk; clear hk
  go_region_held3 (fun w' => Below w3.heap.size w3 w' ∧ w'.cell? ⟨w.heap.size, 0, none⟩ = some (.int .i64 t) ∧ w'.cell? ⟨w.heap.size, 1, none⟩ = some (.int .i64 n) ∧ w'.cell? ⟨w.heap.size, 2, none⟩ = some (.string s) ∧ w'.cell? ⟨w.heap.size + 1, 0, none⟩ = some (.int .i64 t') ∧ w'.cell? ⟨w.heap.size + 1, 1, none⟩ = some (.int .i64 n') ∧ w'.cell? ⟨w.heap.size + 1, 2, none⟩ = some (.string s'))
    (first | exact HKK.out _ hD | exact HKK.out _ hwp | exact HKK.out _ hwq)
    (first
      | (go_at_call_of 38 (Value.agg #[Value.int IntKind.i64 t, Value.int IntKind.i64 n, Value.string s]); refine (HTA.out w3.drew).mono ?_; rintro e wp ⟨rfl, hB⟩; have hwp : Below w3.heap.size w3 wp := below_go hD hB; clear hB)
      | (go_at_call_of 38 (Value.agg #[Value.int IntKind.i64 t', Value.int IntKind.i64 n', Value.string s']); refine (HTB.out wp).mono ?_; rintro e wq ⟨rfl, hB⟩; have hwq : Below w3.heap.size w3 wq := below_go hwp hB; clear hB)
    )
  have hB := hwq
  clear hwq hwp hD la lb HKK
  obtain ⟨w4, hwV⟩ : ∃ w4, w4 = wq := ⟨_, rfl⟩
  subst hwV
  have HA4 := Lib.hid (HA3.out.next hB)
  have HBb4 := Lib.hid (HBb3.out.next hB)
  have HB4 := Lib.hid (HB3.out.trans (hB.mono HB3.out.size)); clear hB
  clear a0 a1 a2 b0 b1 b2
  go_wp2_with fail
  go_ret
  exact ⟨rfl, HB4.out⟩

set_option maxRecDepth 100000 in
set_option maxHeartbeats 1000000 in
theorem spec_cmp_s_2gt (t n : Int) (s : ByteArray) (t' n' : Int) (s' : ByteArray) (hs : s.size ≤ 1048576) (hs' : s'.size ≤ 1048576) (ha : cOk t n s = true) (hb : cOk t' n' s' = true) (h1 : (t == 2) = false) (h2 : (t' == 2) = true) (hq : sameB (cTxt t n s) (cTxt t' n' s') = false) (hl : lsB (cTxt t n s) (cTxt t' n' s') = false) (w : World) : Calls Tryd.prog 20 #[cel t n s, cel t' n' s'] w fun e w' => e = .returned (.int .i64 (cCmp t n s t' n' s')) ∧ Below w.heap.size w w' := by
  have E : cCmp t n s t' n' s' = 1 := by
    unfold cCmp
    rw [if_pos (by rw [ha, hb]; rfl), if_pos (by simp at h1 h2; omega)]
    unfold cmpS
    rw [if_neg (by rw [hq]; simp), if_neg (by rw [hl]; simp)]
  rw [E]; clear E
  have hta : ∀ W, Calls Tryd.prog 38 #[cel t n s] W fun e w' => e = .returned (.string (cTxt t n s)) ∧ Below W.heap.size W w' := fun W => by have := spec_toStr t n s hs W; rw [cStr_yes ha] at this; exact this
  have htb : ∀ W, Calls Tryd.prog 38 #[cel t' n' s'] W fun e w' => e = .returned (.string (cTxt t' n' s')) ∧ Below W.heap.size W w' := fun W => by have := spec_toStr t' n' s' hs' W; rw [cStr_yes hb] at this; exact this
  generalize cTxt t n s = x at *
  generalize cTxt t' n' s' = y at *
  have fq : (x.toList == y.toList) = false := hq
  have fl : Op.bytesLess x.toList y.toList = false := hl
  have HTA := Lib.hid hta; clear hta
  have HTB := Lib.hid htb; clear htb
  have HA := Lib.hid ((CB.new w (.int .i64 t) (.int .i64 n) (.string s)).keep ((Below.refl _ _).alloc (Nat.le_refl _) (.cells #[.int .i64 t', .int .i64 n', .string s'] 38)) (by simp))
  have hb3 := CB.new (w.alloc (.cells #[.int .i64 t, .int .i64 n, .string s] 38)) (.int .i64 t') (.int .i64 n') (.string s')
  simp only [World.size_alloc] at hb3
  have HBb := Lib.hid hb3; clear hb3
  have HB0 := Lib.hid (((Below.refl w.heap.size w).alloc (Nat.le_refl _) (.cells #[.int .i64 t, .int .i64 n, .string s] 38)).alloc (by simp) (.cells #[.int .i64 t', .int .i64 n', .string s'] 38))
  have HAK := Lib.hid ha; clear ha
  have HBK := Lib.hid hb; clear hb
  clear hq hl
  go_enter Tryd.func20, Tryd.ntmps20
  go_wp2_with fail
  refine (spec_cellOk t n s hs _).mono ?_
  rw [HAK.out]
  rintro e w1 ⟨rfl, hB⟩
  have HA1 := Lib.hid (HA.out.next hB)
  have HBb1 := Lib.hid (HBb.out.next hB)
  have HB1 := Lib.hid (HB0.out.trans (hB.mono HB0.out.size)); clear hB
  obtain ⟨a0, a1, a2⟩ := HA1.out.cells
  obtain ⟨b0, b1, b2⟩ := HBb1.out.cells
  go_wp2_with fail
  refine (spec_cellOk t' n' s' hs' _).mono ?_
  rw [HBK.out]
  rintro e w2 ⟨rfl, hB⟩
  have HA2 := Lib.hid (HA1.out.next hB)
  have HBb2 := Lib.hid (HBb1.out.next hB)
  have HB2 := Lib.hid (HB1.out.trans (hB.mono HB1.out.size)); clear hB
  clear a0 a1 a2 b0 b1 b2
  obtain ⟨a0, a1, a2⟩ := HA2.out.cells
  obtain ⟨b0, b1, b2⟩ := HBb2.out.cells
  go_wp2_with fail
  have la := HA2.out.lt
  have lb := HBb2.out.lt
  have hD : Below w2.heap.size w2 w2.drew := (Below.refl _ _).drew
  have hk : ∀ w', Below w2.heap.size w2 w' → Below w2.heap.size w2 w' ∧ w'.cell? ⟨w.heap.size, 0, none⟩ = some (.int .i64 t) ∧ w'.cell? ⟨w.heap.size, 1, none⟩ = some (.int .i64 n) ∧ w'.cell? ⟨w.heap.size, 2, none⟩ = some (.string s) ∧ w'.cell? ⟨w.heap.size + 1, 0, none⟩ = some (.int .i64 t') ∧ w'.cell? ⟨w.heap.size + 1, 1, none⟩ = some (.int .i64 n') ∧ w'.cell? ⟨w.heap.size + 1, 2, none⟩ = some (.string s') := fun w' h => ⟨h, (h.cell (p := ⟨w.heap.size, 0, none⟩) la).trans a0, (h.cell (p := ⟨w.heap.size, 1, none⟩) la).trans a1, (h.cell (p := ⟨w.heap.size, 2, none⟩) la).trans a2, (h.cell (p := ⟨w.heap.size + 1, 0, none⟩) lb).trans b0, (h.cell (p := ⟨w.heap.size + 1, 1, none⟩) lb).trans b1, (h.cell (p := ⟨w.heap.size + 1, 2, none⟩) lb).trans b2⟩
  have HKK := Lib.hid hk; clear hk
  go_region_held3 (fun w' => Below w2.heap.size w2 w' ∧ w'.cell? ⟨w.heap.size, 0, none⟩ = some (.int .i64 t) ∧ w'.cell? ⟨w.heap.size, 1, none⟩ = some (.int .i64 n) ∧ w'.cell? ⟨w.heap.size, 2, none⟩ = some (.string s) ∧ w'.cell? ⟨w.heap.size + 1, 0, none⟩ = some (.int .i64 t') ∧ w'.cell? ⟨w.heap.size + 1, 1, none⟩ = some (.int .i64 n') ∧ w'.cell? ⟨w.heap.size + 1, 2, none⟩ = some (.string s'))
    (first | exact HKK.out _ hD | exact HKK.out _ hwp | exact HKK.out _ hwq)
    (first
      | (go_at_call_of 38 (Value.agg #[Value.int IntKind.i64 t, Value.int IntKind.i64 n, Value.string s]); refine (HTA.out w2.drew).mono ?_; rintro e wp ⟨rfl, hB⟩; have hwp : Below w2.heap.size w2 wp := below_go hD hB; clear hB)
      | (go_at_call_of 38 (Value.agg #[Value.int IntKind.i64 t', Value.int IntKind.i64 n', Value.string s']); refine (HTB.out wp).mono ?_; rintro e wq ⟨rfl, hB⟩; have hwq : Below w2.heap.size w2 wq := below_go hwp hB; clear hB)
    )
  have hB := hwq
  clear hwq hwp hD la lb HKK
  obtain ⟨w3, hwV⟩ : ∃ w3, w3 = wq := ⟨_, rfl⟩
  subst hwV
  have HA3 := Lib.hid (HA2.out.next hB)
  have HBb3 := Lib.hid (HBb2.out.next hB)
  have HB3 := Lib.hid (HB2.out.trans (hB.mono HB2.out.size)); clear hB
  clear a0 a1 a2 b0 b1 b2
  obtain ⟨a0, a1, a2⟩ := HA3.out.cells
  obtain ⟨b0, b1, b2⟩ := HBb3.out.cells
  go_wp2_with fail
  have la := HA3.out.lt
  have lb := HBb3.out.lt
  have hD : Below w3.heap.size w3 w3.drew := (Below.refl _ _).drew
  have hk : ∀ w', Below w3.heap.size w3 w' → Below w3.heap.size w3 w' ∧ w'.cell? ⟨w.heap.size, 0, none⟩ = some (.int .i64 t) ∧ w'.cell? ⟨w.heap.size, 1, none⟩ = some (.int .i64 n) ∧ w'.cell? ⟨w.heap.size, 2, none⟩ = some (.string s) ∧ w'.cell? ⟨w.heap.size + 1, 0, none⟩ = some (.int .i64 t') ∧ w'.cell? ⟨w.heap.size + 1, 1, none⟩ = some (.int .i64 n') ∧ w'.cell? ⟨w.heap.size + 1, 2, none⟩ = some (.string s') := fun w' h => ⟨h, (h.cell (p := ⟨w.heap.size, 0, none⟩) la).trans a0, (h.cell (p := ⟨w.heap.size, 1, none⟩) la).trans a1, (h.cell (p := ⟨w.heap.size, 2, none⟩) la).trans a2, (h.cell (p := ⟨w.heap.size + 1, 0, none⟩) lb).trans b0, (h.cell (p := ⟨w.heap.size + 1, 1, none⟩) lb).trans b1, (h.cell (p := ⟨w.heap.size + 1, 2, none⟩) lb).trans b2⟩
  have HKK := Lib.hid hk; clear hk
  go_region_held3 (fun w' => Below w3.heap.size w3 w' ∧ w'.cell? ⟨w.heap.size, 0, none⟩ = some (.int .i64 t) ∧ w'.cell? ⟨w.heap.size, 1, none⟩ = some (.int .i64 n) ∧ w'.cell? ⟨w.heap.size, 2, none⟩ = some (.string s) ∧ w'.cell? ⟨w.heap.size + 1, 0, none⟩ = some (.int .i64 t') ∧ w'.cell? ⟨w.heap.size + 1, 1, none⟩ = some (.int .i64 n') ∧ w'.cell? ⟨w.heap.size + 1, 2, none⟩ = some (.string s'))
    (first | exact HKK.out _ hD | exact HKK.out _ hwp | exact HKK.out _ hwq)
    (first
      | (go_at_call_of 38 (Value.agg #[Value.int IntKind.i64 t, Value.int IntKind.i64 n, Value.string s]); refine (HTA.out w3.drew).mono ?_; rintro e wp ⟨rfl, hB⟩; have hwp : Below w3.heap.size w3 wp := below_go hD hB; clear hB)
      | (go_at_call_of 38 (Value.agg #[Value.int IntKind.i64 t', Value.int IntKind.i64 n', Value.string s']); refine (HTB.out wp).mono ?_; rintro e wq ⟨rfl, hB⟩; have hwq : Below w3.heap.size w3 wq := below_go hwp hB; clear hB)
    )
  have hB := hwq
  clear hwq hwp hD la lb HKK
  obtain ⟨w4, hwV⟩ : ∃ w4, w4 = wq := ⟨_, rfl⟩
  subst hwV
  have HA4 := Lib.hid (HA3.out.next hB)
  have HBb4 := Lib.hid (HBb3.out.next hB)
  have HB4 := Lib.hid (HB3.out.trans (hB.mono HB3.out.size)); clear hB
  clear a0 a1 a2 b0 b1 b2
  go_wp2_with fail
  go_ret
  exact ⟨rfl, HB4.out⟩

theorem spec_compare (t n : Int) (s : ByteArray) (t' n' : Int) (s' : ByteArray) (hs : s.size ≤ 1048576) (hs' : s'.size ≤ 1048576) (w : World) : Calls Tryd.prog 20 #[cel t n s, cel t' n' s'] w fun e w' => e = .returned (.int .i64 (cCmp t n s t' n' s')) ∧ Below w.heap.size w w' := by
  cases ha : cOk t n s with
  | false => exact spec_cmp_a t n s t' n' s' hs hs' ha w
  | true =>
    cases hb : cOk t' n' s' with
    | false => exact spec_cmp_b t n s t' n' s' hs hs' ha hb w
    | true =>
      cases h1 : (t == 2) with
      | true =>
        cases hq : sameB (cTxt t n s) (cTxt t' n' s') with
        | true => exact spec_cmp_s_1eq t n s t' n' s' hs hs' ha hb h1 hq w
        | false =>
          cases hl : lsB (cTxt t n s) (cTxt t' n' s') with
          | true => exact spec_cmp_s_1lt t n s t' n' s' hs hs' ha hb h1 hq hl w
          | false => exact spec_cmp_s_1gt t n s t' n' s' hs hs' ha hb h1 hq hl w
      | false =>
        cases h2 : (t' == 2) with
        | true =>
          cases hq : sameB (cTxt t n s) (cTxt t' n' s') with
          | true => exact spec_cmp_s_2eq t n s t' n' s' hs hs' ha hb h1 h2 hq w
          | false =>
            cases hl : lsB (cTxt t n s) (cTxt t' n' s') with
            | true => exact spec_cmp_s_2lt t n s t' n' s' hs hs' ha hb h1 h2 hq hl w
            | false => exact spec_cmp_s_2gt t n s t' n' s' hs hs' ha hb h1 h2 hq hl w
        | false =>
          rcases Int.lt_trichotomy n n' with hc | hc | hc
          · exact spec_cmp_n_lt t n s t' n' s' hs hs' ha hb h1 h2 hc w
          · exact spec_cmp_n_eq t n s t' n' s' hs hs' ha hb h1 h2 hc w
          · exact spec_cmp_n_gt t n s t' n' s' hs hs' ha hb h1 h2 hc w

set_option maxRecDepth 100000 in
theorem impl_rel_15 (t n : Int) (s : ByteArray) (t' n' : Int) (s' : ByteArray) (hs : s.size ≤ 1048576) (hs' : s'.size ≤ 1048576) (ha : cOk t n s = true) (hb : cOk t' n' s' = true) (w : World) (htab : Go.Proofs.YtofinndkbjcgbaaDoor.Dec.Tables w) : Calls Tryd.prog 24 #[.int .i64 15, cel t n s, cel t' n' s'] w fun e w' => e = .returned (.bool (cRel 15 t n s t' n' s')) ∧ Below w.heap.size w w' := by
  have E : cRel 15 t n s t' n' s' = decide ((cCmp t n s t' n' s') < 0) := by
    unfold cRel
    rw [ha, hb]
    simp
  rw [E]; clear E
  have hco : ∀ (W : World) (g : Nat), W.heap.size = g → Calls Tryd.prog 42 #[.slice (some ⟨g, 0, none⟩) 2 2] (W.alloc (.cells #[.int .i64 t, .int .i64 n, .string s, .int .i64 t', .int .i64 n', .string s'] 38)) fun e w' => e = .returned (.bool true) ∧ Below W.heap.size W w' := fun W g hg => by have := cells_ok t n s t' n' s' hs hs' W g hg; rw [ha, hb] at this; exact this
  have hcm := fun W hW => impl_compare t n s t' n' s' hs hs' W hW
  have HT := Lib.hid htab; clear htab
  have HCO := Lib.hid hco; clear hco
  generalize cCmp t n s t' n' s' = c at *
  have HCM := Lib.hid hcm; clear hcm ha hb
  have HA := Lib.hid ((CB.new w (.int .i64 t) (.int .i64 n) (.string s)).keep ((Below.refl _ _).alloc (Nat.le_refl _) (.cells #[.int .i64 t', .int .i64 n', .string s'] 38)) (by simp))
  have hb3 := CB.new (w.alloc (.cells #[.int .i64 t, .int .i64 n, .string s] 38)) (.int .i64 t') (.int .i64 n') (.string s')
  simp only [World.size_alloc] at hb3
  have HBb := Lib.hid hb3; clear hb3
  have HB0 := Lib.hid (((Below.refl w.heap.size w).alloc (Nat.le_refl _) (.cells #[.int .i64 t, .int .i64 n, .string s] 38)).alloc (by simp) (.cells #[.int .i64 t', .int .i64 n', .string s'] 38))
  go_enter Tryd.func24, Tryd.ntmps24
  go_wp2_with fail
  refine (HCO.out _ _ (by simp)).mono ?_
  rintro e w1 ⟨rfl, hB⟩
  have HA1 := Lib.hid (HA.out.next hB)
  have HBb1 := Lib.hid (HBb.out.next hB)
  have HB1 := Lib.hid (HB0.out.trans (hB.mono HB0.out.size)); clear hB
  obtain ⟨a0, a1, a2⟩ := HA1.out.cells
  obtain ⟨b0, b1, b2⟩ := HBb1.out.cells
  go_wp2_with fail
  refine (HCM.out _ (HT.out.below HB1.out)).mono ?_
  rintro e w2 ⟨rfl, hB⟩
  have HB2 := Lib.hid (HB1.out.trans (hB.mono HB1.out.size)); clear hB
  clear a0 a1 a2 b0 b1 b2
  go_wp2_with fail
  go_ret
  exact ⟨rfl, HB2.out⟩

set_option maxRecDepth 100000 in
theorem impl_rel_16 (t n : Int) (s : ByteArray) (t' n' : Int) (s' : ByteArray) (hs : s.size ≤ 1048576) (hs' : s'.size ≤ 1048576) (ha : cOk t n s = true) (hb : cOk t' n' s' = true) (w : World) (htab : Go.Proofs.YtofinndkbjcgbaaDoor.Dec.Tables w) : Calls Tryd.prog 24 #[.int .i64 16, cel t n s, cel t' n' s'] w fun e w' => e = .returned (.bool (cRel 16 t n s t' n' s')) ∧ Below w.heap.size w w' := by
  have E : cRel 16 t n s t' n' s' = decide ((cCmp t n s t' n' s') ≤ 0) := by
    unfold cRel
    rw [ha, hb]
    simp
  rw [E]; clear E
  have hco : ∀ (W : World) (g : Nat), W.heap.size = g → Calls Tryd.prog 42 #[.slice (some ⟨g, 0, none⟩) 2 2] (W.alloc (.cells #[.int .i64 t, .int .i64 n, .string s, .int .i64 t', .int .i64 n', .string s'] 38)) fun e w' => e = .returned (.bool true) ∧ Below W.heap.size W w' := fun W g hg => by have := cells_ok t n s t' n' s' hs hs' W g hg; rw [ha, hb] at this; exact this
  have hcm := fun W hW => impl_compare t n s t' n' s' hs hs' W hW
  have HT := Lib.hid htab; clear htab
  have HCO := Lib.hid hco; clear hco
  generalize cCmp t n s t' n' s' = c at *
  have HCM := Lib.hid hcm; clear hcm ha hb
  have HA := Lib.hid ((CB.new w (.int .i64 t) (.int .i64 n) (.string s)).keep ((Below.refl _ _).alloc (Nat.le_refl _) (.cells #[.int .i64 t', .int .i64 n', .string s'] 38)) (by simp))
  have hb3 := CB.new (w.alloc (.cells #[.int .i64 t, .int .i64 n, .string s] 38)) (.int .i64 t') (.int .i64 n') (.string s')
  simp only [World.size_alloc] at hb3
  have HBb := Lib.hid hb3; clear hb3
  have HB0 := Lib.hid (((Below.refl w.heap.size w).alloc (Nat.le_refl _) (.cells #[.int .i64 t, .int .i64 n, .string s] 38)).alloc (by simp) (.cells #[.int .i64 t', .int .i64 n', .string s'] 38))
  go_enter Tryd.func24, Tryd.ntmps24
  go_wp2_with fail
  refine (HCO.out _ _ (by simp)).mono ?_
  rintro e w1 ⟨rfl, hB⟩
  have HA1 := Lib.hid (HA.out.next hB)
  have HBb1 := Lib.hid (HBb.out.next hB)
  have HB1 := Lib.hid (HB0.out.trans (hB.mono HB0.out.size)); clear hB
  obtain ⟨a0, a1, a2⟩ := HA1.out.cells
  obtain ⟨b0, b1, b2⟩ := HBb1.out.cells
  go_wp2_with fail
  refine (HCM.out _ (HT.out.below HB1.out)).mono ?_
  rintro e w2 ⟨rfl, hB⟩
  have HB2 := Lib.hid (HB1.out.trans (hB.mono HB1.out.size)); clear hB
  clear a0 a1 a2 b0 b1 b2
  go_wp2_with fail
  go_ret
  exact ⟨rfl, HB2.out⟩

set_option maxRecDepth 100000 in
theorem impl_rel_17 (t n : Int) (s : ByteArray) (t' n' : Int) (s' : ByteArray) (hs : s.size ≤ 1048576) (hs' : s'.size ≤ 1048576) (ha : cOk t n s = true) (hb : cOk t' n' s' = true) (w : World) (htab : Go.Proofs.YtofinndkbjcgbaaDoor.Dec.Tables w) : Calls Tryd.prog 24 #[.int .i64 17, cel t n s, cel t' n' s'] w fun e w' => e = .returned (.bool (cRel 17 t n s t' n' s')) ∧ Below w.heap.size w w' := by
  have E : cRel 17 t n s t' n' s' = ((cCmp t n s t' n' s') == 0) := by
    unfold cRel
    rw [ha, hb]
    simp
  rw [E]; clear E
  have hco : ∀ (W : World) (g : Nat), W.heap.size = g → Calls Tryd.prog 42 #[.slice (some ⟨g, 0, none⟩) 2 2] (W.alloc (.cells #[.int .i64 t, .int .i64 n, .string s, .int .i64 t', .int .i64 n', .string s'] 38)) fun e w' => e = .returned (.bool true) ∧ Below W.heap.size W w' := fun W g hg => by have := cells_ok t n s t' n' s' hs hs' W g hg; rw [ha, hb] at this; exact this
  have hcm := fun W hW => impl_compare t n s t' n' s' hs hs' W hW
  have HT := Lib.hid htab; clear htab
  have HCO := Lib.hid hco; clear hco
  generalize cCmp t n s t' n' s' = c at *
  have HCM := Lib.hid hcm; clear hcm ha hb
  have HA := Lib.hid ((CB.new w (.int .i64 t) (.int .i64 n) (.string s)).keep ((Below.refl _ _).alloc (Nat.le_refl _) (.cells #[.int .i64 t', .int .i64 n', .string s'] 38)) (by simp))
  have hb3 := CB.new (w.alloc (.cells #[.int .i64 t, .int .i64 n, .string s] 38)) (.int .i64 t') (.int .i64 n') (.string s')
  simp only [World.size_alloc] at hb3
  have HBb := Lib.hid hb3; clear hb3
  have HB0 := Lib.hid (((Below.refl w.heap.size w).alloc (Nat.le_refl _) (.cells #[.int .i64 t, .int .i64 n, .string s] 38)).alloc (by simp) (.cells #[.int .i64 t', .int .i64 n', .string s'] 38))
  go_enter Tryd.func24, Tryd.ntmps24
  go_wp2_with fail
  refine (HCO.out _ _ (by simp)).mono ?_
  rintro e w1 ⟨rfl, hB⟩
  have HA1 := Lib.hid (HA.out.next hB)
  have HBb1 := Lib.hid (HBb.out.next hB)
  have HB1 := Lib.hid (HB0.out.trans (hB.mono HB0.out.size)); clear hB
  obtain ⟨a0, a1, a2⟩ := HA1.out.cells
  obtain ⟨b0, b1, b2⟩ := HBb1.out.cells
  go_wp2_with fail
  refine (HCM.out _ (HT.out.below HB1.out)).mono ?_
  rintro e w2 ⟨rfl, hB⟩
  have HB2 := Lib.hid (HB1.out.trans (hB.mono HB1.out.size)); clear hB
  clear a0 a1 a2 b0 b1 b2
  go_wp2_with fail
  go_ret
  exact ⟨rfl, HB2.out⟩

set_option maxRecDepth 100000 in
theorem impl_rel_18 (t n : Int) (s : ByteArray) (t' n' : Int) (s' : ByteArray) (hs : s.size ≤ 1048576) (hs' : s'.size ≤ 1048576) (ha : cOk t n s = true) (hb : cOk t' n' s' = true) (w : World) (htab : Go.Proofs.YtofinndkbjcgbaaDoor.Dec.Tables w) : Calls Tryd.prog 24 #[.int .i64 18, cel t n s, cel t' n' s'] w fun e w' => e = .returned (.bool (cRel 18 t n s t' n' s')) ∧ Below w.heap.size w w' := by
  have E : cRel 18 t n s t' n' s' = !((cCmp t n s t' n' s') == 0) := by
    unfold cRel
    rw [ha, hb]
    simp
  rw [E]; clear E
  have hco : ∀ (W : World) (g : Nat), W.heap.size = g → Calls Tryd.prog 42 #[.slice (some ⟨g, 0, none⟩) 2 2] (W.alloc (.cells #[.int .i64 t, .int .i64 n, .string s, .int .i64 t', .int .i64 n', .string s'] 38)) fun e w' => e = .returned (.bool true) ∧ Below W.heap.size W w' := fun W g hg => by have := cells_ok t n s t' n' s' hs hs' W g hg; rw [ha, hb] at this; exact this
  have hcm := fun W hW => impl_compare t n s t' n' s' hs hs' W hW
  have HT := Lib.hid htab; clear htab
  have HCO := Lib.hid hco; clear hco
  generalize cCmp t n s t' n' s' = c at *
  have HCM := Lib.hid hcm; clear hcm ha hb
  have HA := Lib.hid ((CB.new w (.int .i64 t) (.int .i64 n) (.string s)).keep ((Below.refl _ _).alloc (Nat.le_refl _) (.cells #[.int .i64 t', .int .i64 n', .string s'] 38)) (by simp))
  have hb3 := CB.new (w.alloc (.cells #[.int .i64 t, .int .i64 n, .string s] 38)) (.int .i64 t') (.int .i64 n') (.string s')
  simp only [World.size_alloc] at hb3
  have HBb := Lib.hid hb3; clear hb3
  have HB0 := Lib.hid (((Below.refl w.heap.size w).alloc (Nat.le_refl _) (.cells #[.int .i64 t, .int .i64 n, .string s] 38)).alloc (by simp) (.cells #[.int .i64 t', .int .i64 n', .string s'] 38))
  go_enter Tryd.func24, Tryd.ntmps24
  go_wp2_with fail
  refine (HCO.out _ _ (by simp)).mono ?_
  rintro e w1 ⟨rfl, hB⟩
  have HA1 := Lib.hid (HA.out.next hB)
  have HBb1 := Lib.hid (HBb.out.next hB)
  have HB1 := Lib.hid (HB0.out.trans (hB.mono HB0.out.size)); clear hB
  obtain ⟨a0, a1, a2⟩ := HA1.out.cells
  obtain ⟨b0, b1, b2⟩ := HBb1.out.cells
  go_wp2_with fail
  refine (HCM.out _ (HT.out.below HB1.out)).mono ?_
  rintro e w2 ⟨rfl, hB⟩
  have HB2 := Lib.hid (HB1.out.trans (hB.mono HB1.out.size)); clear hB
  clear a0 a1 a2 b0 b1 b2
  go_wp2_with fail
  go_ret
  exact ⟨rfl, HB2.out⟩

set_option maxRecDepth 100000 in
theorem impl_rel_no (k t n : Int) (s : ByteArray) (t' n' : Int) (s' : ByteArray) (hs : s.size ≤ 1048576) (hs' : s'.size ≤ 1048576) (ha : cOk t n s = true) (hb : cOk t' n' s' = true) (h0 : k ≠ 15) (h1 : k ≠ 16) (h2 : k ≠ 17) (h3 : k ≠ 18) (w : World) (htab : Go.Proofs.YtofinndkbjcgbaaDoor.Dec.Tables w) : Calls Tryd.prog 24 #[.int .i64 k, cel t n s, cel t' n' s'] w fun e w' => e = .returned (.bool (cRel k t n s t' n' s')) ∧ Below w.heap.size w w' := by
  have E : cRel k t n s t' n' s' = false := by
    unfold cRel
    rw [ha, hb]
    rw [if_neg h0, if_neg h1, if_neg h2, if_neg h3, Bool.and_false]
  rw [E]; clear E
  have hco : ∀ (W : World) (g : Nat), W.heap.size = g → Calls Tryd.prog 42 #[.slice (some ⟨g, 0, none⟩) 2 2] (W.alloc (.cells #[.int .i64 t, .int .i64 n, .string s, .int .i64 t', .int .i64 n', .string s'] 38)) fun e w' => e = .returned (.bool true) ∧ Below W.heap.size W w' := fun W g hg => by have := cells_ok t n s t' n' s' hs hs' W g hg; rw [ha, hb] at this; exact this
  have hcm := fun W hW => impl_compare t n s t' n' s' hs hs' W hW
  have HT := Lib.hid htab; clear htab
  have HCO := Lib.hid hco; clear hco
  have b0 : (k == 15) = false := by simpa using h0
  have b1 : (k == 16) = false := by simpa using h1
  have b2 : (k == 17) = false := by simpa using h2
  have b3 : (k == 18) = false := by simpa using h3
  clear h0 h1 h2 h3
  generalize cCmp t n s t' n' s' = c at *
  have HCM := Lib.hid hcm; clear hcm ha hb
  have HA := Lib.hid ((CB.new w (.int .i64 t) (.int .i64 n) (.string s)).keep ((Below.refl _ _).alloc (Nat.le_refl _) (.cells #[.int .i64 t', .int .i64 n', .string s'] 38)) (by simp))
  have hb3 := CB.new (w.alloc (.cells #[.int .i64 t, .int .i64 n, .string s] 38)) (.int .i64 t') (.int .i64 n') (.string s')
  simp only [World.size_alloc] at hb3
  have HBb := Lib.hid hb3; clear hb3
  have HB0 := Lib.hid (((Below.refl w.heap.size w).alloc (Nat.le_refl _) (.cells #[.int .i64 t, .int .i64 n, .string s] 38)).alloc (by simp) (.cells #[.int .i64 t', .int .i64 n', .string s'] 38))
  go_enter Tryd.func24, Tryd.ntmps24
  go_wp2_with fail
  refine (HCO.out _ _ (by simp)).mono ?_
  rintro e w1 ⟨rfl, hB⟩
  have HA1 := Lib.hid (HA.out.next hB)
  have HBb1 := Lib.hid (HBb.out.next hB)
  have HB1 := Lib.hid (HB0.out.trans (hB.mono HB0.out.size)); clear hB
  obtain ⟨a0, a1, a2⟩ := HA1.out.cells
  obtain ⟨b0, b1, b2⟩ := HBb1.out.cells
  go_wp2_with fail
  refine (HCM.out _ (HT.out.below HB1.out)).mono ?_
  rintro e w2 ⟨rfl, hB⟩
  have HB2 := Lib.hid (HB1.out.trans (hB.mono HB1.out.size)); clear hB
  clear a0 a1 a2 b0 b1 b2
  go_wp2_with fail
  go_ret
  exact ⟨rfl, HB2.out⟩

set_option maxRecDepth 100000 in
theorem impl_rel_bad (k t n : Int) (s : ByteArray) (t' n' : Int) (s' : ByteArray) (hs : s.size ≤ 1048576) (hs' : s'.size ≤ 1048576) (h : (cOk t n s && cOk t' n' s') = false) (w : World) : Calls Tryd.prog 24 #[.int .i64 k, cel t n s, cel t' n' s'] w fun e w' => e = .returned (.bool (cRel k t n s t' n' s')) ∧ Below w.heap.size w w' := by
  have E : cRel k t n s t' n' s' = false := by unfold cRel; rw [h, Bool.false_and]
  rw [E]; clear E
  have hco : ∀ (W : World) (g : Nat), W.heap.size = g → Calls Tryd.prog 42 #[.slice (some ⟨g, 0, none⟩) 2 2] (W.alloc (.cells #[.int .i64 t, .int .i64 n, .string s, .int .i64 t', .int .i64 n', .string s'] 38)) fun e w' => e = .returned (.bool false) ∧ Below W.heap.size W w' := fun W g hg => by have := cells_ok t n s t' n' s' hs hs' W g hg; rw [h] at this; exact this
  have HCO := Lib.hid hco; clear hco h
  have HA := Lib.hid ((CB.new w (.int .i64 t) (.int .i64 n) (.string s)).keep ((Below.refl _ _).alloc (Nat.le_refl _) (.cells #[.int .i64 t', .int .i64 n', .string s'] 38)) (by simp))
  have hb3 := CB.new (w.alloc (.cells #[.int .i64 t, .int .i64 n, .string s] 38)) (.int .i64 t') (.int .i64 n') (.string s')
  simp only [World.size_alloc] at hb3
  have HBb := Lib.hid hb3; clear hb3
  have HB0 := Lib.hid (((Below.refl w.heap.size w).alloc (Nat.le_refl _) (.cells #[.int .i64 t, .int .i64 n, .string s] 38)).alloc (by simp) (.cells #[.int .i64 t', .int .i64 n', .string s'] 38))
  go_enter Tryd.func24, Tryd.ntmps24
  go_wp2_with fail
  refine (HCO.out _ _ (by simp)).mono ?_
  rintro e w1 ⟨rfl, hB⟩
  have HA1 := Lib.hid (HA.out.next hB)
  have HBb1 := Lib.hid (HBb.out.next hB)
  have HB1 := Lib.hid (HB0.out.trans (hB.mono HB0.out.size)); clear hB
  go_wp2_with fail
  go_ret
  exact ⟨rfl, HB1.out⟩

theorem impl_relate (k t n : Int) (s : ByteArray) (t' n' : Int) (s' : ByteArray) (hs : s.size ≤ 1048576) (hs' : s'.size ≤ 1048576) (w : World) (htab : Go.Proofs.YtofinndkbjcgbaaDoor.Dec.Tables w) : Calls Tryd.prog 24 #[.int .i64 k, cel t n s, cel t' n' s'] w fun e w' => e = .returned (.bool (cRel k t n s t' n' s')) ∧ Below w.heap.size w w' := by
  cases ha : cOk t n s with
  | false => exact impl_rel_bad k t n s t' n' s' hs hs' (by rw [ha, Bool.false_and]) w
  | true =>
    cases hb : cOk t' n' s' with
    | false => exact impl_rel_bad k t n s t' n' s' hs hs' (by rw [hb, Bool.and_false]) w
    | true =>
      by_cases h0 : k = 15
      · subst h0; exact impl_rel_15 t n s t' n' s' hs hs' ha hb w htab
      by_cases h1 : k = 16
      · subst h1; exact impl_rel_16 t n s t' n' s' hs hs' ha hb w htab
      by_cases h2 : k = 17
      · subst h2; exact impl_rel_17 t n s t' n' s' hs hs' ha hb w htab
      by_cases h3 : k = 18
      · subst h3; exact impl_rel_18 t n s t' n' s' hs hs' ha hb w htab
      exact impl_rel_no k t n s t' n' s' hs hs' ha hb h0 h1 h2 h3 w htab

set_option maxRecDepth 100000 in
theorem spec_rel_15 (t n : Int) (s : ByteArray) (t' n' : Int) (s' : ByteArray) (hs : s.size ≤ 1048576) (hs' : s'.size ≤ 1048576) (ha : cOk t n s = true) (hb : cOk t' n' s' = true) (w : World) : Calls Tryd.prog 23 #[.int .i64 15, cel t n s, cel t' n' s'] w fun e w' => e = .returned (.bool (cRel 15 t n s t' n' s')) ∧ Below w.heap.size w w' := by
  have E : cRel 15 t n s t' n' s' = decide ((cCmp t n s t' n' s') < 0) := by
    unfold cRel
    rw [ha, hb]
    simp
  rw [E]; clear E
  have hcm := fun W => spec_compare t n s t' n' s' hs hs' W
  have HAK := Lib.hid ha
  have HBK := Lib.hid hb
  generalize cCmp t n s t' n' s' = c at *
  have HCM := Lib.hid hcm; clear hcm ha hb
  have HA := Lib.hid ((CB.new w (.int .i64 t) (.int .i64 n) (.string s)).keep ((Below.refl _ _).alloc (Nat.le_refl _) (.cells #[.int .i64 t', .int .i64 n', .string s'] 38)) (by simp))
  have hb3 := CB.new (w.alloc (.cells #[.int .i64 t, .int .i64 n, .string s] 38)) (.int .i64 t') (.int .i64 n') (.string s')
  simp only [World.size_alloc] at hb3
  have HBb := Lib.hid hb3; clear hb3
  have HB0 := Lib.hid (((Below.refl w.heap.size w).alloc (Nat.le_refl _) (.cells #[.int .i64 t, .int .i64 n, .string s] 38)).alloc (by simp) (.cells #[.int .i64 t', .int .i64 n', .string s'] 38))
  go_enter Tryd.func23, Tryd.ntmps23
  go_wp2_with fail
  refine (spec_cellOk t n s hs _).mono ?_
  rw [HAK.out]
  rintro e w1 ⟨rfl, hB⟩
  have HA1 := Lib.hid (HA.out.next hB)
  have HBb1 := Lib.hid (HBb.out.next hB)
  have HB1 := Lib.hid (HB0.out.trans (hB.mono HB0.out.size)); clear hB
  obtain ⟨a0, a1, a2⟩ := HA1.out.cells
  obtain ⟨b0, b1, b2⟩ := HBb1.out.cells
  go_wp2_with fail
  refine (spec_cellOk t' n' s' hs' _).mono ?_
  rw [HBK.out]
  rintro e w5 ⟨rfl, hB⟩
  have HA5 := Lib.hid (HA1.out.next hB)
  have HBb5 := Lib.hid (HBb1.out.next hB)
  have HB5 := Lib.hid (HB1.out.trans (hB.mono HB1.out.size)); clear hB
  clear a0 a1 a2 b0 b1 b2
  obtain ⟨a0, a1, a2⟩ := HA5.out.cells
  obtain ⟨b0, b1, b2⟩ := HBb5.out.cells
  go_wp2_with fail
  refine (HCM.out _).mono ?_
  rintro e w2 ⟨rfl, hB⟩
  have HB2 := Lib.hid (HB5.out.trans (hB.mono HB5.out.size)); clear hB
  clear a0 a1 a2 b0 b1 b2
  go_wp2_with fail
  go_ret
  exact ⟨rfl, HB2.out⟩

set_option maxRecDepth 100000 in
theorem spec_rel_16 (t n : Int) (s : ByteArray) (t' n' : Int) (s' : ByteArray) (hs : s.size ≤ 1048576) (hs' : s'.size ≤ 1048576) (ha : cOk t n s = true) (hb : cOk t' n' s' = true) (w : World) : Calls Tryd.prog 23 #[.int .i64 16, cel t n s, cel t' n' s'] w fun e w' => e = .returned (.bool (cRel 16 t n s t' n' s')) ∧ Below w.heap.size w w' := by
  have E : cRel 16 t n s t' n' s' = decide ((cCmp t n s t' n' s') ≤ 0) := by
    unfold cRel
    rw [ha, hb]
    simp
  rw [E]; clear E
  have hcm := fun W => spec_compare t n s t' n' s' hs hs' W
  have HAK := Lib.hid ha
  have HBK := Lib.hid hb
  generalize cCmp t n s t' n' s' = c at *
  have HCM := Lib.hid hcm; clear hcm ha hb
  have HA := Lib.hid ((CB.new w (.int .i64 t) (.int .i64 n) (.string s)).keep ((Below.refl _ _).alloc (Nat.le_refl _) (.cells #[.int .i64 t', .int .i64 n', .string s'] 38)) (by simp))
  have hb3 := CB.new (w.alloc (.cells #[.int .i64 t, .int .i64 n, .string s] 38)) (.int .i64 t') (.int .i64 n') (.string s')
  simp only [World.size_alloc] at hb3
  have HBb := Lib.hid hb3; clear hb3
  have HB0 := Lib.hid (((Below.refl w.heap.size w).alloc (Nat.le_refl _) (.cells #[.int .i64 t, .int .i64 n, .string s] 38)).alloc (by simp) (.cells #[.int .i64 t', .int .i64 n', .string s'] 38))
  go_enter Tryd.func23, Tryd.ntmps23
  go_wp2_with fail
  refine (spec_cellOk t n s hs _).mono ?_
  rw [HAK.out]
  rintro e w1 ⟨rfl, hB⟩
  have HA1 := Lib.hid (HA.out.next hB)
  have HBb1 := Lib.hid (HBb.out.next hB)
  have HB1 := Lib.hid (HB0.out.trans (hB.mono HB0.out.size)); clear hB
  obtain ⟨a0, a1, a2⟩ := HA1.out.cells
  obtain ⟨b0, b1, b2⟩ := HBb1.out.cells
  go_wp2_with fail
  refine (spec_cellOk t' n' s' hs' _).mono ?_
  rw [HBK.out]
  rintro e w5 ⟨rfl, hB⟩
  have HA5 := Lib.hid (HA1.out.next hB)
  have HBb5 := Lib.hid (HBb1.out.next hB)
  have HB5 := Lib.hid (HB1.out.trans (hB.mono HB1.out.size)); clear hB
  clear a0 a1 a2 b0 b1 b2
  obtain ⟨a0, a1, a2⟩ := HA5.out.cells
  obtain ⟨b0, b1, b2⟩ := HBb5.out.cells
  go_wp2_with fail
  refine (HCM.out _).mono ?_
  rintro e w2 ⟨rfl, hB⟩
  have HB2 := Lib.hid (HB5.out.trans (hB.mono HB5.out.size)); clear hB
  clear a0 a1 a2 b0 b1 b2
  go_wp2_with fail
  go_ret
  exact ⟨rfl, HB2.out⟩

set_option maxRecDepth 100000 in
theorem spec_rel_17 (t n : Int) (s : ByteArray) (t' n' : Int) (s' : ByteArray) (hs : s.size ≤ 1048576) (hs' : s'.size ≤ 1048576) (ha : cOk t n s = true) (hb : cOk t' n' s' = true) (w : World) : Calls Tryd.prog 23 #[.int .i64 17, cel t n s, cel t' n' s'] w fun e w' => e = .returned (.bool (cRel 17 t n s t' n' s')) ∧ Below w.heap.size w w' := by
  have E : cRel 17 t n s t' n' s' = ((cCmp t n s t' n' s') == 0) := by
    unfold cRel
    rw [ha, hb]
    simp
  rw [E]; clear E
  have hcm := fun W => spec_compare t n s t' n' s' hs hs' W
  have HAK := Lib.hid ha
  have HBK := Lib.hid hb
  generalize cCmp t n s t' n' s' = c at *
  have HCM := Lib.hid hcm; clear hcm ha hb
  have HA := Lib.hid ((CB.new w (.int .i64 t) (.int .i64 n) (.string s)).keep ((Below.refl _ _).alloc (Nat.le_refl _) (.cells #[.int .i64 t', .int .i64 n', .string s'] 38)) (by simp))
  have hb3 := CB.new (w.alloc (.cells #[.int .i64 t, .int .i64 n, .string s] 38)) (.int .i64 t') (.int .i64 n') (.string s')
  simp only [World.size_alloc] at hb3
  have HBb := Lib.hid hb3; clear hb3
  have HB0 := Lib.hid (((Below.refl w.heap.size w).alloc (Nat.le_refl _) (.cells #[.int .i64 t, .int .i64 n, .string s] 38)).alloc (by simp) (.cells #[.int .i64 t', .int .i64 n', .string s'] 38))
  go_enter Tryd.func23, Tryd.ntmps23
  go_wp2_with fail
  refine (spec_cellOk t n s hs _).mono ?_
  rw [HAK.out]
  rintro e w1 ⟨rfl, hB⟩
  have HA1 := Lib.hid (HA.out.next hB)
  have HBb1 := Lib.hid (HBb.out.next hB)
  have HB1 := Lib.hid (HB0.out.trans (hB.mono HB0.out.size)); clear hB
  obtain ⟨a0, a1, a2⟩ := HA1.out.cells
  obtain ⟨b0, b1, b2⟩ := HBb1.out.cells
  go_wp2_with fail
  refine (spec_cellOk t' n' s' hs' _).mono ?_
  rw [HBK.out]
  rintro e w5 ⟨rfl, hB⟩
  have HA5 := Lib.hid (HA1.out.next hB)
  have HBb5 := Lib.hid (HBb1.out.next hB)
  have HB5 := Lib.hid (HB1.out.trans (hB.mono HB1.out.size)); clear hB
  clear a0 a1 a2 b0 b1 b2
  obtain ⟨a0, a1, a2⟩ := HA5.out.cells
  obtain ⟨b0, b1, b2⟩ := HBb5.out.cells
  go_wp2_with fail
  refine (HCM.out _).mono ?_
  rintro e w2 ⟨rfl, hB⟩
  have HB2 := Lib.hid (HB5.out.trans (hB.mono HB5.out.size)); clear hB
  clear a0 a1 a2 b0 b1 b2
  go_wp2_with fail
  go_ret
  exact ⟨rfl, HB2.out⟩

set_option maxRecDepth 100000 in
theorem spec_rel_18 (t n : Int) (s : ByteArray) (t' n' : Int) (s' : ByteArray) (hs : s.size ≤ 1048576) (hs' : s'.size ≤ 1048576) (ha : cOk t n s = true) (hb : cOk t' n' s' = true) (w : World) : Calls Tryd.prog 23 #[.int .i64 18, cel t n s, cel t' n' s'] w fun e w' => e = .returned (.bool (cRel 18 t n s t' n' s')) ∧ Below w.heap.size w w' := by
  have E : cRel 18 t n s t' n' s' = !((cCmp t n s t' n' s') == 0) := by
    unfold cRel
    rw [ha, hb]
    simp
  rw [E]; clear E
  have hcm := fun W => spec_compare t n s t' n' s' hs hs' W
  have HAK := Lib.hid ha
  have HBK := Lib.hid hb
  generalize cCmp t n s t' n' s' = c at *
  have HCM := Lib.hid hcm; clear hcm ha hb
  have HA := Lib.hid ((CB.new w (.int .i64 t) (.int .i64 n) (.string s)).keep ((Below.refl _ _).alloc (Nat.le_refl _) (.cells #[.int .i64 t', .int .i64 n', .string s'] 38)) (by simp))
  have hb3 := CB.new (w.alloc (.cells #[.int .i64 t, .int .i64 n, .string s] 38)) (.int .i64 t') (.int .i64 n') (.string s')
  simp only [World.size_alloc] at hb3
  have HBb := Lib.hid hb3; clear hb3
  have HB0 := Lib.hid (((Below.refl w.heap.size w).alloc (Nat.le_refl _) (.cells #[.int .i64 t, .int .i64 n, .string s] 38)).alloc (by simp) (.cells #[.int .i64 t', .int .i64 n', .string s'] 38))
  go_enter Tryd.func23, Tryd.ntmps23
  go_wp2_with fail
  refine (spec_cellOk t n s hs _).mono ?_
  rw [HAK.out]
  rintro e w1 ⟨rfl, hB⟩
  have HA1 := Lib.hid (HA.out.next hB)
  have HBb1 := Lib.hid (HBb.out.next hB)
  have HB1 := Lib.hid (HB0.out.trans (hB.mono HB0.out.size)); clear hB
  obtain ⟨a0, a1, a2⟩ := HA1.out.cells
  obtain ⟨b0, b1, b2⟩ := HBb1.out.cells
  go_wp2_with fail
  refine (spec_cellOk t' n' s' hs' _).mono ?_
  rw [HBK.out]
  rintro e w5 ⟨rfl, hB⟩
  have HA5 := Lib.hid (HA1.out.next hB)
  have HBb5 := Lib.hid (HBb1.out.next hB)
  have HB5 := Lib.hid (HB1.out.trans (hB.mono HB1.out.size)); clear hB
  clear a0 a1 a2 b0 b1 b2
  obtain ⟨a0, a1, a2⟩ := HA5.out.cells
  obtain ⟨b0, b1, b2⟩ := HBb5.out.cells
  go_wp2_with fail
  refine (HCM.out _).mono ?_
  rintro e w2 ⟨rfl, hB⟩
  have HB2 := Lib.hid (HB5.out.trans (hB.mono HB5.out.size)); clear hB
  clear a0 a1 a2 b0 b1 b2
  go_wp2_with fail
  go_ret
  exact ⟨rfl, HB2.out⟩

set_option maxRecDepth 100000 in
theorem spec_rel_no (k t n : Int) (s : ByteArray) (t' n' : Int) (s' : ByteArray) (hs : s.size ≤ 1048576) (hs' : s'.size ≤ 1048576) (ha : cOk t n s = true) (hb : cOk t' n' s' = true) (h0 : k ≠ 15) (h1 : k ≠ 16) (h2 : k ≠ 17) (h3 : k ≠ 18) (w : World) : Calls Tryd.prog 23 #[.int .i64 k, cel t n s, cel t' n' s'] w fun e w' => e = .returned (.bool (cRel k t n s t' n' s')) ∧ Below w.heap.size w w' := by
  have E : cRel k t n s t' n' s' = false := by
    unfold cRel
    rw [ha, hb]
    rw [if_neg h0, if_neg h1, if_neg h2, if_neg h3, Bool.and_false]
  rw [E]; clear E
  have hcm := fun W => spec_compare t n s t' n' s' hs hs' W
  have HAK := Lib.hid ha
  have HBK := Lib.hid hb
  have b0 : (k == 15) = false := by simpa using h0
  have b1 : (k == 16) = false := by simpa using h1
  have b2 : (k == 17) = false := by simpa using h2
  have b3 : (k == 18) = false := by simpa using h3
  clear h0 h1 h2 h3
  generalize cCmp t n s t' n' s' = c at *
  have HCM := Lib.hid hcm; clear hcm ha hb
  have HA := Lib.hid ((CB.new w (.int .i64 t) (.int .i64 n) (.string s)).keep ((Below.refl _ _).alloc (Nat.le_refl _) (.cells #[.int .i64 t', .int .i64 n', .string s'] 38)) (by simp))
  have hb3 := CB.new (w.alloc (.cells #[.int .i64 t, .int .i64 n, .string s] 38)) (.int .i64 t') (.int .i64 n') (.string s')
  simp only [World.size_alloc] at hb3
  have HBb := Lib.hid hb3; clear hb3
  have HB0 := Lib.hid (((Below.refl w.heap.size w).alloc (Nat.le_refl _) (.cells #[.int .i64 t, .int .i64 n, .string s] 38)).alloc (by simp) (.cells #[.int .i64 t', .int .i64 n', .string s'] 38))
  go_enter Tryd.func23, Tryd.ntmps23
  go_wp2_with fail
  refine (spec_cellOk t n s hs _).mono ?_
  rw [HAK.out]
  rintro e w1 ⟨rfl, hB⟩
  have HA1 := Lib.hid (HA.out.next hB)
  have HBb1 := Lib.hid (HBb.out.next hB)
  have HB1 := Lib.hid (HB0.out.trans (hB.mono HB0.out.size)); clear hB
  obtain ⟨a0, a1, a2⟩ := HA1.out.cells
  obtain ⟨b0, b1, b2⟩ := HBb1.out.cells
  go_wp2_with fail
  refine (spec_cellOk t' n' s' hs' _).mono ?_
  rw [HBK.out]
  rintro e w5 ⟨rfl, hB⟩
  have HA5 := Lib.hid (HA1.out.next hB)
  have HBb5 := Lib.hid (HBb1.out.next hB)
  have HB5 := Lib.hid (HB1.out.trans (hB.mono HB1.out.size)); clear hB
  clear a0 a1 a2 b0 b1 b2
  obtain ⟨a0, a1, a2⟩ := HA5.out.cells
  obtain ⟨b0, b1, b2⟩ := HBb5.out.cells
  go_wp2_with fail
  refine (HCM.out _).mono ?_
  rintro e w2 ⟨rfl, hB⟩
  have HB2 := Lib.hid (HB5.out.trans (hB.mono HB5.out.size)); clear hB
  clear a0 a1 a2 b0 b1 b2
  go_wp2_with fail
  go_ret
  exact ⟨rfl, HB2.out⟩

set_option maxRecDepth 100000 in
theorem spec_rel_a (k t n : Int) (s : ByteArray) (t' n' : Int) (s' : ByteArray) (hs : s.size ≤ 1048576) (hs' : s'.size ≤ 1048576) (h : cOk t n s = false) (w : World) : Calls Tryd.prog 23 #[.int .i64 k, cel t n s, cel t' n' s'] w fun e w' => e = .returned (.bool (cRel k t n s t' n' s')) ∧ Below w.heap.size w w' := by
  have E : cRel k t n s t' n' s' = false := by unfold cRel; rw [h, Bool.false_and, Bool.false_and]
  rw [E]; clear E
  have HA := Lib.hid ((CB.new w (.int .i64 t) (.int .i64 n) (.string s)).keep ((Below.refl _ _).alloc (Nat.le_refl _) (.cells #[.int .i64 t', .int .i64 n', .string s'] 38)) (by simp))
  have hb3 := CB.new (w.alloc (.cells #[.int .i64 t, .int .i64 n, .string s] 38)) (.int .i64 t') (.int .i64 n') (.string s')
  simp only [World.size_alloc] at hb3
  have HBb := Lib.hid hb3; clear hb3
  have HB0 := Lib.hid (((Below.refl w.heap.size w).alloc (Nat.le_refl _) (.cells #[.int .i64 t, .int .i64 n, .string s] 38)).alloc (by simp) (.cells #[.int .i64 t', .int .i64 n', .string s'] 38))
  have H := Lib.hid h; clear h
  go_enter Tryd.func23, Tryd.ntmps23
  go_wp2_with fail
  refine (spec_cellOk t n s hs _).mono ?_
  rw [H.out]
  rintro e w1 ⟨rfl, hB⟩
  have HA1 := Lib.hid (HA.out.next hB)
  have HBb1 := Lib.hid (HBb.out.next hB)
  have HB1 := Lib.hid (HB0.out.trans (hB.mono HB0.out.size)); clear hB
  obtain ⟨a0, a1, a2⟩ := HA1.out.cells
  obtain ⟨b0, b1, b2⟩ := HBb1.out.cells
  go_wp2_with fail
  go_ret
  exact ⟨rfl, HB1.out⟩

set_option maxRecDepth 100000 in
theorem spec_rel_b (k t n : Int) (s : ByteArray) (t' n' : Int) (s' : ByteArray) (hs : s.size ≤ 1048576) (hs' : s'.size ≤ 1048576) (g : cOk t n s = true) (h : cOk t' n' s' = false) (w : World) : Calls Tryd.prog 23 #[.int .i64 k, cel t n s, cel t' n' s'] w fun e w' => e = .returned (.bool (cRel k t n s t' n' s')) ∧ Below w.heap.size w w' := by
  have E : cRel k t n s t' n' s' = false := by unfold cRel; rw [h, Bool.and_false, Bool.false_and]
  rw [E]; clear E
  have HA := Lib.hid ((CB.new w (.int .i64 t) (.int .i64 n) (.string s)).keep ((Below.refl _ _).alloc (Nat.le_refl _) (.cells #[.int .i64 t', .int .i64 n', .string s'] 38)) (by simp))
  have hb3 := CB.new (w.alloc (.cells #[.int .i64 t, .int .i64 n, .string s] 38)) (.int .i64 t') (.int .i64 n') (.string s')
  simp only [World.size_alloc] at hb3
  have HBb := Lib.hid hb3; clear hb3
  have HB0 := Lib.hid (((Below.refl w.heap.size w).alloc (Nat.le_refl _) (.cells #[.int .i64 t, .int .i64 n, .string s] 38)).alloc (by simp) (.cells #[.int .i64 t', .int .i64 n', .string s'] 38))
  have H := Lib.hid h; clear h
  have G := Lib.hid g; clear g
  go_enter Tryd.func23, Tryd.ntmps23
  go_wp2_with fail
  refine (spec_cellOk t n s hs _).mono ?_
  rw [G.out]
  rintro e w1 ⟨rfl, hB⟩
  have HA1 := Lib.hid (HA.out.next hB)
  have HBb1 := Lib.hid (HBb.out.next hB)
  have HB1 := Lib.hid (HB0.out.trans (hB.mono HB0.out.size)); clear hB
  obtain ⟨a0, a1, a2⟩ := HA1.out.cells
  obtain ⟨b0, b1, b2⟩ := HBb1.out.cells
  go_wp2_with fail
  refine (spec_cellOk t' n' s' hs' _).mono ?_
  rw [H.out]
  rintro e w2 ⟨rfl, hB⟩
  have HA2 := Lib.hid (HA1.out.next hB)
  have HBb2 := Lib.hid (HBb1.out.next hB)
  have HB2 := Lib.hid (HB1.out.trans (hB.mono HB1.out.size)); clear hB
  clear a0 a1 a2 b0 b1 b2
  obtain ⟨a0, a1, a2⟩ := HA2.out.cells
  obtain ⟨b0, b1, b2⟩ := HBb2.out.cells
  go_wp2_with fail
  go_ret
  exact ⟨rfl, HB2.out⟩

theorem spec_relate (k t n : Int) (s : ByteArray) (t' n' : Int) (s' : ByteArray) (hs : s.size ≤ 1048576) (hs' : s'.size ≤ 1048576) (w : World) : Calls Tryd.prog 23 #[.int .i64 k, cel t n s, cel t' n' s'] w fun e w' => e = .returned (.bool (cRel k t n s t' n' s')) ∧ Below w.heap.size w w' := by
  cases ha : cOk t n s with
  | false => exact spec_rel_a k t n s t' n' s' hs hs' ha w
  | true =>
    cases hb : cOk t' n' s' with
    | false => exact spec_rel_b k t n s t' n' s' hs hs' ha hb w
    | true =>
      by_cases h0 : k = 15
      · subst h0; exact spec_rel_15 t n s t' n' s' hs hs' ha hb w
      by_cases h1 : k = 16
      · subst h1; exact spec_rel_16 t n s t' n' s' hs hs' ha hb w
      by_cases h2 : k = 17
      · subst h2; exact spec_rel_17 t n s t' n' s' hs hs' ha hb w
      by_cases h3 : k = 18
      · subst h3; exact spec_rel_18 t n s t' n' s' hs hs' ha hb w
      exact spec_rel_no k t n s t' n' s' hs hs' ha hb h0 h1 h2 h3 w

end Go.Proofs.YtofinndkbjcgbaaDoor.Cell
