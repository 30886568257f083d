/-
  Values as texts, and how they are compared: what the program and its model return.
-/
import Derived.Test.YthaedmldlenhgaaDoorCellArith
import Derived.Test.YthaedmldlenhgaaDoorDecText
import Derived.Test.YthaedmldlenhgaaDoorTables
import Derived.Laws.Cover1
namespace Go.Proofs.YthaedmldlenhgaaDoor.Cell
open Go.ChangeShapes Go.WideShapes Go.ChangeAt Go.RowKit Go.PlainAid
open Go.Proofs.YthaedmldlenhgaaDoor.Dec
open Go.Proofs.YthaedmldlenhgaaDoor.DecPure Go.Proofs.YthaedmldlenhgaaDoor.TextPure Go.Proofs.YthaedmldlenhgaaDoor.ReadPure Go.Proofs.YthaedmldlenhgaaDoor.CellPure
set_option linter.unusedVariables false

theorem cTxt_1 {n : Int} {s : ByteArray} : cTxt 1 n s = dtB n := if_pos rfl
theorem cTxt_n {t n : Int} {s : ByteArray} (h : t ≠ 1) : cTxt t n s = s := if_neg h
theorem cStr_yes {t n : Int} {s : ByteArray} (h : cOk t n s = true) : cStr t n s = cTxt t n s := if_pos h
theorem cStr_no {t n : Int} {s : ByteArray} (h : cOk t n s = false) : cStr t n s = ⟨#[]⟩ := by unfold cStr; rw [h, if_neg (by simp)]

set_option maxRecDepth 100000 in
theorem the_text (t n : Int) (s : ByteArray) (w : World) (htab : Go.Proofs.YthaedmldlenhgaaDoor.Dec.Tables w) : Calls Tryd.prog 39 #[cel t n s] w fun e w' => e = .returned (.string (cTxt t n s)) ∧ Below w.heap.size w w' := by
  have HC := Lib.hid (CB.new w (.int .i64 t) (.int .i64 n) (.string s))
  have hB0 := (Below.refl w.heap.size w).alloc (Nat.le_refl _) (.cells #[.int .i64 t, .int .i64 n, .string s] 25)
  have HT := Lib.hid (htab.below hB0); clear htab
  have HB0 := Lib.hid hB0; clear hB0
  by_cases h : t = 1
  · subst h
    rw [cTxt_1]
    obtain ⟨d, hd⟩ : ∃ d, d = dtB n := ⟨_, rfl⟩
    have hcd : ∀ W, Go.Proofs.YthaedmldlenhgaaDoor.Dec.Tables W → Calls Tryd.prog 60 #[.int .i64 n] W fun e w' => e = .returned (.string d) ∧ Below W.heap.size W w' := fun W hW => by rw [hd]; exact impl_text n W hW
    rw [← hd]; clear hd
    have HCD := Lib.hid hcd; clear hcd
    go_enter Tryd.func39, Tryd.ntmps39
    go_wp2_with fail
    refine (HCD.out _ HT.out).mono ?_
    rintro e w1 ⟨rfl, hB⟩
    have HB := Lib.hid (HB0.out.trans (hB.mono (by simp))); clear hB
    go_wp2_with fail
    go_ret
    exact ⟨rfl, HB.out⟩
  · rw [cTxt_n h]
    have hb : (t == 1) = false := by simpa using h
    go_enter Tryd.func39, Tryd.ntmps39
    go_wp2_with fail
    go_ret
    exact ⟨rfl, HB0.out⟩

set_option maxRecDepth 100000 in
theorem impl_toStr (t n : Int) (s : ByteArray) (hs : s.size ≤ 1048576) (w : World) (htab : Go.Proofs.YthaedmldlenhgaaDoor.Dec.Tables w) : Calls Tryd.prog 11 #[cel t n s] w fun e w' => e = .returned (.string (cStr t n s)) ∧ Below w.heap.size w w' := by
  have HC := Lib.hid (CB.new w (.int .i64 t) (.int .i64 n) (.string s))
  have hB0 := (Below.refl w.heap.size w).alloc (Nat.le_refl _) (.cells #[.int .i64 t, .int .i64 n, .string s] 25)
  have HT := Lib.hid htab; clear htab
  have HB0 := Lib.hid hB0; clear hB0
  cases hk : cOk t n s with
  | true =>
    have E := Lib.hid (cStr_yes hk)
    have hz := cTxt_size hk
    have HK := Lib.hid hk; clear hk
    have htx := fun W hW => the_text t n s W hW
    generalize cTxt t n s = d at *
    have HTX := Lib.hid htx; clear htx
    go_enter Tryd.func11, Tryd.ntmps11
    go_wp2_with fail
    refine (impl_cellOk t n s hs _).mono ?_
    rw [HK.out]
    rintro e w1 ⟨rfl, hB⟩
    have hn := HC.out.next hB
    obtain ⟨c0, c1, c2⟩ := hn.cells
    have HN := Lib.hid hn; clear hn
    have HB := Lib.hid (HB0.out.trans (hB.mono (by simp))); clear hB
    have HT1 := Lib.hid (HT.out.below HB.out)
    go_wp2_with fail
    refine (HTX.out _ HT1.out).mono ?_
    rintro e w2 ⟨rfl, hB⟩
    have HB2 := Lib.hid (HB.out.trans (hB.mono HB.out.size)); clear hB
    go_wp2_with fail
    refine (clone_cell d _ (by omega)).mono ?_
    rintro e w3 ⟨rfl, hB⟩
    have HB3 := Lib.hid (HB2.out.trans (hB.mono HB2.out.size)); clear hB
    go_wp2_with fail
    go_ret
    exact ⟨strs E.out.symm, HB3.out⟩
  | false =>
    have E := Lib.hid (cStr_no hk)
    have HK := Lib.hid hk; clear hk
    go_enter Tryd.func11, Tryd.ntmps11
    go_wp2_with fail
    refine (impl_cellOk t n s hs _).mono ?_
    rw [HK.out]
    rintro e w1 ⟨rfl, hB⟩
    have HB := Lib.hid (HB0.out.trans (hB.mono (by simp))); clear hB
    go_wp2_with fail
    go_ret
    exact ⟨strs E.out.symm, HB.out⟩


theorem cmp_str (a b : ByteArray) (w : World) : Calls Tryd.prog 56 #[.string a, .string b] w fun e w' => e = .returned (.int .i64 (cmpS a b)) ∧ w = w' := by
  cases hq : sameB a b with
  | true =>
    have E : Hid (cmpS a b = 0) := Lib.hid (by unfold cmpS; rw [if_pos hq])
    obtain rfl := sameB_iff.1 hq
    have hl : Op.bytesLess a.toList a.toList = false := bl_self _
    clear hq
    go_enter Tryd.func56, Tryd.ntmps56
    go_wp2
    go_ret
    exact ⟨retI E.out.symm, rfl⟩
  | false =>
    have hs : (a.toList == b.toList) = false := hq
    have hs2 : ¬ a.toList = b.toList := by simpa using hs
    cases hl : lsB a b with
    | true =>
      have E : Hid (cmpS a b = -1) := Lib.hid (by unfold cmpS; rw [if_neg (by rw [hq]; simp), if_pos hl])
      have hl2 : Op.bytesLess a.toList b.toList = true := hl
      clear hl hq
      go_enter Tryd.func56, Tryd.ntmps56
      go_wp2
      go_ret
      exact ⟨retI E.out.symm, rfl⟩
    | false =>
      have E : Hid (cmpS a b = 1) := Lib.hid (by unfold cmpS; rw [if_neg (by rw [hq]; simp), if_neg (by rw [hl]; simp)])
      have hl2 : Op.bytesLess a.toList b.toList = false := hl
      clear hl hq
      go_enter Tryd.func56, Tryd.ntmps56
      go_wp2
      go_ret
      exact ⟨retI E.out.symm, rfl⟩

set_option maxRecDepth 100000 in
set_option maxHeartbeats 1000000 in
theorem impl_cmp_s (t n : Int) (s : ByteArray) (t' n' : Int) (s' : ByteArray) (hs : s.size ≤ 1048576) (hs' : s'.size ≤ 1048576) (ha : cOk t n s = true) (hb : cOk t' n' s' = true) (h : ((t == 2) || (t' == 2)) = true) (w : World) (htab : Go.Proofs.YthaedmldlenhgaaDoor.Dec.Tables w) : Calls Tryd.prog 32 #[cel t n s, cel t' n' s'] w fun e w' => e = .returned (.int .i64 (cCmp t n s t' n' s')) ∧ Below w.heap.size w w' := by
  have E : cCmp t n s t' n' s' = cmpS (cTxt t n s) (cTxt t' n' s') := by
    unfold cCmp
    rw [if_pos (by rw [ha, hb]; rfl), if_pos (by simpa using h)]
  rw [E]; clear E
  have hco : ∀ (W : World) (g : Nat), W.heap.size = g → Calls Tryd.prog 52 #[.slice (some ⟨g, 0, none⟩) 2 2] (W.alloc (.cells #[.int .i64 t, .int .i64 n, .string s, .int .i64 t', .int .i64 n', .string s'] 25)) fun e w' => e = .returned (.bool true) ∧ Below W.heap.size W w' := fun W g hg => by have := cells_ok t n s t' n' s' hs hs' W g hg; rw [ha, hb] at this; exact this
  have HA := Lib.hid ((CB.new w (.int .i64 t) (.int .i64 n) (.string s)).keep ((Below.refl _ _).alloc (Nat.le_refl _) (.cells #[.int .i64 t', .int .i64 n', .string s'] 25)) (by simp))
  have hb3 := CB.new (w.alloc (.cells #[.int .i64 t, .int .i64 n, .string s] 25)) (.int .i64 t') (.int .i64 n') (.string s')
  simp only [World.size_alloc] at hb3
  have HBb := Lib.hid hb3; clear hb3
  have HB0 := Lib.hid (((Below.refl w.heap.size w).alloc (Nat.le_refl _) (.cells #[.int .i64 t, .int .i64 n, .string s] 25)).alloc (by simp) (.cells #[.int .i64 t', .int .i64 n', .string s'] 25))
  have HCO := Lib.hid hco; clear hco ha hb
  have HT := Lib.hid htab; clear htab
  have HH := Lib.hid h
  have hta := fun W hW => the_text t n s W hW
  have htb := fun W hW => the_text t' n' s' W hW
  have hcc := fun W => cmp_str (cTxt t n s) (cTxt t' n' s') W
  generalize cTxt t n s = x at *
  generalize cTxt t' n' s' = y at *
  generalize cmpS x y = z at *
  have HTA := Lib.hid hta; clear hta
  have HTB := Lib.hid htb; clear htb
  have HCC := Lib.hid hcc; clear hcc
  cases h1 : (t == 2) with
  | true =>
    have H1 := Lib.hid h1; clear h1 h
    go_enter Tryd.func32, Tryd.ntmps32
    go_wp2_with fail
    refine (HCO.out _ _ (by simp)).mono ?_
    rintro e w1 ⟨rfl, hB⟩
    have HA1 := Lib.hid (HA.out.next hB)
    have HBb1 := Lib.hid (HBb.out.next hB)
    have HB1 := Lib.hid (HB0.out.trans (hB.mono HB0.out.size)); clear hB
    obtain ⟨a0, a1, a2⟩ := HA1.out.cells
    obtain ⟨b0, b1, b2⟩ := HBb1.out.cells
    go_wp2_with fail
    refine (is_text t n s _).mono ?_
    rw [H1.out]
    rintro e w2 ⟨rfl, hB⟩
    have HA2 := Lib.hid (HA1.out.next hB)
    have HBb2 := Lib.hid (HBb1.out.next hB)
    have HB2 := Lib.hid (HB1.out.trans (hB.mono HB1.out.size)); clear hB
    clear a0 a1 a2 b0 b1 b2
    obtain ⟨a0, a1, a2⟩ := HA2.out.cells
    obtain ⟨b0, b1, b2⟩ := HBb2.out.cells
    go_wp2_with fail
    have la := HA2.out.lt
    have lb := HBb2.out.lt
    have hD : Below w2.heap.size w2 w2.drew := (Below.refl _ _).drew
    have hk : ∀ w', Below w2.heap.size w2 w' → Below w2.heap.size w2 w' ∧ w'.cell? ⟨w.heap.size, 0, none⟩ = some (.int .i64 t) ∧ w'.cell? ⟨w.heap.size, 1, none⟩ = some (.int .i64 n) ∧ w'.cell? ⟨w.heap.size, 2, none⟩ = some (.string s) ∧ w'.cell? ⟨w.heap.size + 1, 0, none⟩ = some (.int .i64 t') ∧ w'.cell? ⟨w.heap.size + 1, 1, none⟩ = some (.int .i64 n') ∧ w'.cell? ⟨w.heap.size + 1, 2, none⟩ = some (.string s') := fun w' h => ⟨h, (h.cell (p := ⟨w.heap.size, 0, none⟩) la).trans a0, (h.cell (p := ⟨w.heap.size, 1, none⟩) la).trans a1, (h.cell (p := ⟨w.heap.size, 2, none⟩) la).trans a2, (h.cell (p := ⟨w.heap.size + 1, 0, none⟩) lb).trans b0, (h.cell (p := ⟨w.heap.size + 1, 1, none⟩) lb).trans b1, (h.cell (p := ⟨w.heap.size + 1, 2, none⟩) lb).trans b2⟩
    have HKK := Lib.hid hk; clear hk
    go_region_held3 (fun w' => Below w2.heap.size w2 w' ∧ w'.cell? ⟨w.heap.size, 0, none⟩ = some (.int .i64 t) ∧ w'.cell? ⟨w.heap.size, 1, none⟩ = some (.int .i64 n) ∧ w'.cell? ⟨w.heap.size, 2, none⟩ = some (.string s) ∧ w'.cell? ⟨w.heap.size + 1, 0, none⟩ = some (.int .i64 t') ∧ w'.cell? ⟨w.heap.size + 1, 1, none⟩ = some (.int .i64 n') ∧ w'.cell? ⟨w.heap.size + 1, 2, none⟩ = some (.string s'))
      (first | exact HKK.out _ hD | exact HKK.out _ hwp | exact HKK.out _ hwq)
      (first
        | (go_at_call_of 39 (Value.agg #[Value.int IntKind.i64 t, Value.int IntKind.i64 n, Value.string s]); refine (HTA.out w2.drew (HT.out.below (HB2.out.trans (hD.mono HB2.out.size)))).mono ?_; rintro e wp ⟨rfl, hB⟩; have hwp : Below w2.heap.size w2 wp := below_go hD hB; clear hB)
        | (go_at_call_of 39 (Value.agg #[Value.int IntKind.i64 t', Value.int IntKind.i64 n', Value.string s']); refine (HTB.out wp (HT.out.below (HB2.out.trans (hwp.mono HB2.out.size)))).mono ?_; rintro e wq ⟨rfl, hB⟩; have hwq : Below w2.heap.size w2 wq := below_go hwp hB; clear hB)
        | (go_at_call 56; refine (HCC.out wq).mono ?_; rintro e w' ⟨rfl, rfl⟩)
      )
    have hB := hwq
    clear hwq hwp hD la lb HKK
    obtain ⟨w3, hwV⟩ : ∃ w3, w3 = wq := ⟨_, rfl⟩
    subst hwV
    have HB3 := Lib.hid (HB2.out.trans (hB.mono HB2.out.size)); clear hB
    clear a0 a1 a2 b0 b1 b2
    go_wp2_with fail
    go_ret
    exact ⟨rfl, HB3.out⟩
  | false =>
    have H1 := Lib.hid h1; clear h1 h
    have h2 : Hid ((t' == 2) = true) := Lib.hid (by have := HH.out; rw [H1.out, Bool.false_or] at this; exact this)
    go_enter Tryd.func32, Tryd.ntmps32
    go_wp2_with fail
    refine (HCO.out _ _ (by simp)).mono ?_
    rintro e w1 ⟨rfl, hB⟩
    have HA1 := Lib.hid (HA.out.next hB)
    have HBb1 := Lib.hid (HBb.out.next hB)
    have HB1 := Lib.hid (HB0.out.trans (hB.mono HB0.out.size)); clear hB
    obtain ⟨a0, a1, a2⟩ := HA1.out.cells
    obtain ⟨b0, b1, b2⟩ := HBb1.out.cells
    go_wp2_with fail
    refine (is_text t n s _).mono ?_
    rw [H1.out]
    rintro e w2 ⟨rfl, hB⟩
    have HA2 := Lib.hid (HA1.out.next hB)
    have HBb2 := Lib.hid (HBb1.out.next hB)
    have HB2 := Lib.hid (HB1.out.trans (hB.mono HB1.out.size)); clear hB
    clear a0 a1 a2 b0 b1 b2
    obtain ⟨a0, a1, a2⟩ := HA2.out.cells
    obtain ⟨b0, b1, b2⟩ := HBb2.out.cells
    go_wp2_with fail
    refine (is_text t' n' s' _).mono ?_
    rw [h2.out]
    rintro e w3 ⟨rfl, hB⟩
    have HA3 := Lib.hid (HA2.out.next hB)
    have HBb3 := Lib.hid (HBb2.out.next hB)
    have HB3 := Lib.hid (HB2.out.trans (hB.mono HB2.out.size)); clear hB
    clear a0 a1 a2 b0 b1 b2
    obtain ⟨a0, a1, a2⟩ := HA3.out.cells
    obtain ⟨b0, b1, b2⟩ := HBb3.out.cells
    go_wp2_with fail
    have la := HA3.out.lt
    have lb := HBb3.out.lt
    have hD : Below w3.heap.size w3 w3.drew := (Below.refl _ _).drew
    have hk : ∀ w', Below w3.heap.size w3 w' → Below w3.heap.size w3 w' ∧ w'.cell? ⟨w.heap.size, 0, none⟩ = some (.int .i64 t) ∧ w'.cell? ⟨w.heap.size, 1, none⟩ = some (.int .i64 n) ∧ w'.cell? ⟨w.heap.size, 2, none⟩ = some (.string s) ∧ w'.cell? ⟨w.heap.size + 1, 0, none⟩ = some (.int .i64 t') ∧ w'.cell? ⟨w.heap.size + 1, 1, none⟩ = some (.int .i64 n') ∧ w'.cell? ⟨w.heap.size + 1, 2, none⟩ = some (.string s') := fun w' h => ⟨h, (h.cell (p := ⟨w.heap.size, 0, none⟩) la).trans a0, (h.cell (p := ⟨w.heap.size, 1, none⟩) la).trans a1, (h.cell (p := ⟨w.heap.size, 2, none⟩) la).trans a2, (h.cell (p := ⟨w.heap.size + 1, 0, none⟩) lb).trans b0, (h.cell (p := ⟨w.heap.size + 1, 1, none⟩) lb).trans b1, (h.cell (p := ⟨w.heap.size + 1, 2, none⟩) lb).trans b2⟩
    have HKK := Lib.hid hk; clear hk
    go_region_held3 (fun w' => Below w3.heap.size w3 w' ∧ w'.cell? ⟨w.heap.size, 0, none⟩ = some (.int .i64 t) ∧ w'.cell? ⟨w.heap.size, 1, none⟩ = some (.int .i64 n) ∧ w'.cell? ⟨w.heap.size, 2, none⟩ = some (.string s) ∧ w'.cell? ⟨w.heap.size + 1, 0, none⟩ = some (.int .i64 t') ∧ w'.cell? ⟨w.heap.size + 1, 1, none⟩ = some (.int .i64 n') ∧ w'.cell? ⟨w.heap.size + 1, 2, none⟩ = some (.string s'))
      (first | exact HKK.out _ hD | exact HKK.out _ hwp | exact HKK.out _ hwq)
      (first
        | (go_at_call_of 39 (Value.agg #[Value.int IntKind.i64 t, Value.int IntKind.i64 n, Value.string s]); refine (HTA.out w3.drew (HT.out.below (HB3.out.trans (hD.mono HB3.out.size)))).mono ?_; rintro e wp ⟨rfl, hB⟩; have hwp : Below w3.heap.size w3 wp := below_go hD hB; clear hB)
        | (go_at_call_of 39 (Value.agg #[Value.int IntKind.i64 t', Value.int IntKind.i64 n', Value.string s']); refine (HTB.out wp (HT.out.below (HB3.out.trans (hwp.mono HB3.out.size)))).mono ?_; rintro e wq ⟨rfl, hB⟩; have hwq : Below w3.heap.size w3 wq := below_go hwp hB; clear hB)
        | (go_at_call 56; refine (HCC.out wq).mono ?_; rintro e w' ⟨rfl, rfl⟩)
      )
    have hB := hwq
    clear hwq hwp hD la lb HKK
    obtain ⟨w4, hwV⟩ : ∃ w4, w4 = wq := ⟨_, rfl⟩
    subst hwV
    have HB4 := Lib.hid (HB3.out.trans (hB.mono HB3.out.size)); clear hB
    clear a0 a1 a2 b0 b1 b2
    go_wp2_with fail
    go_ret
    exact ⟨rfl, HB4.out⟩

set_option maxRecDepth 100000 in
set_option maxHeartbeats 1000000 in
theorem impl_cmp_n (t n : Int) (s : ByteArray) (t' n' : Int) (s' : ByteArray) (hs : s.size ≤ 1048576) (hs' : s'.size ≤ 1048576) (ha : cOk t n s = true) (hb : cOk t' n' s' = true) (h : ((t == 2) || (t' == 2)) = false) (w : World) (htab : Go.Proofs.YthaedmldlenhgaaDoor.Dec.Tables w) : Calls Tryd.prog 32 #[cel t n s, cel t' n' s'] w fun e w' => e = .returned (.int .i64 (cCmp t n s t' n' s')) ∧ Below w.heap.size w w' := by
  have E : cCmp t n s t' n' s' = cmp3 n n' := by
    unfold cCmp
    rw [if_pos (by rw [ha, hb]; rfl), if_neg (by simpa using h)]
  rw [E]; clear E
  have hco : ∀ (W : World) (g : Nat), W.heap.size = g → Calls Tryd.prog 52 #[.slice (some ⟨g, 0, none⟩) 2 2] (W.alloc (.cells #[.int .i64 t, .int .i64 n, .string s, .int .i64 t', .int .i64 n', .string s'] 25)) fun e w' => e = .returned (.bool true) ∧ Below W.heap.size W w' := fun W g hg => by have := cells_ok t n s t' n' s' hs hs' W g hg; rw [ha, hb] at this; exact this
  have HA := Lib.hid ((CB.new w (.int .i64 t) (.int .i64 n) (.string s)).keep ((Below.refl _ _).alloc (Nat.le_refl _) (.cells #[.int .i64 t', .int .i64 n', .string s'] 25)) (by simp))
  have hb3 := CB.new (w.alloc (.cells #[.int .i64 t, .int .i64 n, .string s] 25)) (.int .i64 t') (.int .i64 n') (.string s')
  simp only [World.size_alloc] at hb3
  have HBb := Lib.hid hb3; clear hb3
  have HB0 := Lib.hid (((Below.refl w.heap.size w).alloc (Nat.le_refl _) (.cells #[.int .i64 t, .int .i64 n, .string s] 25)).alloc (by simp) (.cells #[.int .i64 t', .int .i64 n', .string s'] 25))
  have HCO := Lib.hid hco; clear hco ha hb
  have HT := Lib.hid htab; clear htab
  have HH := Lib.hid h
  cases h1 : (t == 2) with
  | true =>
    exfalso; rw [h1, Bool.true_or] at h; cases h
  | false =>
    have H1 := Lib.hid h1; clear h1 h
    have h2 : Hid ((t' == 2) = false) := Lib.hid (by have := HH.out; rw [H1.out, Bool.false_or] at this; exact this)
    go_enter Tryd.func32, Tryd.ntmps32
    go_wp2_with fail
    refine (HCO.out _ _ (by simp)).mono ?_
    rintro e w1 ⟨rfl, hB⟩
    have HA1 := Lib.hid (HA.out.next hB)
    have HBb1 := Lib.hid (HBb.out.next hB)
    have HB1 := Lib.hid (HB0.out.trans (hB.mono HB0.out.size)); clear hB
    obtain ⟨a0, a1, a2⟩ := HA1.out.cells
    obtain ⟨b0, b1, b2⟩ := HBb1.out.cells
    go_wp2_with fail
    refine (is_text t n s _).mono ?_
    rw [H1.out]
    rintro e w2 ⟨rfl, hB⟩
    have HA2 := Lib.hid (HA1.out.next hB)
    have HBb2 := Lib.hid (HBb1.out.next hB)
    have HB2 := Lib.hid (HB1.out.trans (hB.mono HB1.out.size)); clear hB
    clear a0 a1 a2 b0 b1 b2
    obtain ⟨a0, a1, a2⟩ := HA2.out.cells
    obtain ⟨b0, b1, b2⟩ := HBb2.out.cells
    go_wp2_with fail
    refine (is_text t' n' s' _).mono ?_
    rw [h2.out]
    rintro e w3 ⟨rfl, hB⟩
    have HA3 := Lib.hid (HA2.out.next hB)
    have HBb3 := Lib.hid (HBb2.out.next hB)
    have HB3 := Lib.hid (HB2.out.trans (hB.mono HB2.out.size)); clear hB
    clear a0 a1 a2 b0 b1 b2
    obtain ⟨a0, a1, a2⟩ := HA3.out.cells
    obtain ⟨b0, b1, b2⟩ := HBb3.out.cells
    go_wp2_with fail
    refine (cmp_int n n' _).mono ?_
    rintro e w' ⟨rfl, rfl⟩
    go_wp2_with fail
    go_ret
    exact ⟨rfl, HB3.out⟩

set_option maxRecDepth 100000 in
theorem impl_compare (t n : Int) (s : ByteArray) (t' n' : Int) (s' : ByteArray) (hs : s.size ≤ 1048576) (hs' : s'.size ≤ 1048576) (w : World) (htab : Go.Proofs.YthaedmldlenhgaaDoor.Dec.Tables w) : Calls Tryd.prog 32 #[cel t n s, cel t' n' s'] w fun e w' => e = .returned (.int .i64 (cCmp t n s t' n' s')) ∧ Below w.heap.size w w' := by
  cases hk : (cOk t n s && cOk t' n' s') with
  | true =>
    have ha : cOk t n s = true := by simp at hk; exact hk.1
    have hb : cOk t' n' s' = true := by simp at hk; exact hk.2
    cases h : ((t == 2) || (t' == 2)) with
    | true => exact impl_cmp_s t n s t' n' s' hs hs' ha hb h w htab
    | false => exact impl_cmp_n t n s t' n' s' hs hs' ha hb h w htab
  | false =>
    have E : Hid (cCmp t n s t' n' s' = 0) := Lib.hid (by unfold cCmp; rw [hk, if_neg (by simp)])
    have hco : ∀ (W : World) (g : Nat), W.heap.size = g → Calls Tryd.prog 52 #[.slice (some ⟨g, 0, none⟩) 2 2] (W.alloc (.cells #[.int .i64 t, .int .i64 n, .string s, .int .i64 t', .int .i64 n', .string s'] 25)) fun e w' => e = .returned (.bool false) ∧ Below W.heap.size W w' := fun W g hg => by have := cells_ok t n s t' n' s' hs hs' W g hg; rw [hk] at this; exact this
    have HB0 := Lib.hid (((Below.refl w.heap.size w).alloc (Nat.le_refl _) (.cells #[.int .i64 t, .int .i64 n, .string s] 25)).alloc (by simp) (.cells #[.int .i64 t', .int .i64 n', .string s'] 25))
    have HCO := Lib.hid hco; clear hco htab hk
    go_enter Tryd.func32, Tryd.ntmps32
    go_wp2_with fail
    refine (HCO.out _ _ (by simp)).mono ?_
    rintro e w1 ⟨rfl, hB⟩
    have HB1 := Lib.hid (HB0.out.trans (hB.mono HB0.out.size)); clear hB
    go_wp2_with fail
    go_ret
    exact ⟨retI E.out.symm, HB1.out⟩

end Go.Proofs.YthaedmldlenhgaaDoor.Cell
