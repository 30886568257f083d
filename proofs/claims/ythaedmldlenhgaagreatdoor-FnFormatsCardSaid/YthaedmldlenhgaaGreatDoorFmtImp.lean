/-
  The program's formats: a format taken to pieces, its conversions.
-/
import Derived.Test.YthaedmldlenhgaaGreatDoorFmtPart
import Derived.Test.YthaedmldlenhgaaGreatDoorHeldCut
import Derived.Test.YthaedmldlenhgaaGreatDoorFmtFacts
namespace Go.Proofs.YthaedmldlenhgaaGreatDoor.Cell
open Go.ChangeShapes Go.WideShapes Go.ChangeAt Go.RowKit Go.PlainAid Go.Shelf
open Go.Proofs.YthaedmldlenhgaaGreatDoor.Dec
open Go.Proofs.YthaedmldlenhgaaGreatDoor.DecPure Go.Proofs.YthaedmldlenhgaaGreatDoor.ReadPure Go.Proofs.YthaedmldlenhgaaGreatDoor.TextPure Go.Proofs.YthaedmldlenhgaaGreatDoor.CellPure Go.Proofs.YthaedmldlenhgaaGreatDoor.Strs Go.Proofs.YthaedmldlenhgaaGreatDoor.Seqs Go.Proofs.YthaedmldlenhgaaGreatDoor.RecPure
set_option linter.unusedVariables false
set_option linter.unusedSimpArgs false

def GoodP (P : List It) : Prop := ∀ x ∈ P, ItOk x ∧ x.txt.size ≤ 500
theorem GoodP.add {P : List It} {x : It} (h : GoodP P) (hx : ItOk x) (hz : x.txt.size ≤ 500) : GoodP (P ++ [x]) := fun y hy => by
  rcases List.mem_append.1 hy with q | q
  · exact h y q
  · obtain rfl : y = x := by simpa using q
    exact ⟨hx, hz⟩
theorem GoodP.at {P : List It} (h : GoodP P) {i : Nat} (hi : i < P.length) : ItOk (nthI P i) ∧ (nthI P i).txt.size ≤ 500 := by
  have : nthI P i ∈ P := by simp [nthI, List.getD, hi]
  exact h _ this
theorem lit_ok (t : ByteArray) : ItOk ⟨0, t, 0, false⟩ := ⟨.inl rfl, Int.le_refl _, by show (0 : Int) ≤ 99; omega⟩
theorem prt_txt {r : ByteArray} {x : It} {n : Nat} (h : prtP r = some (x, n)) : x.txt.size ≤ 500 := by
  unfold prtP at h
  split at h
  · simp only [Option.some.injEq, Prod.mk.injEq] at h
    obtain ⟨rfl, rfl⟩ := h
    decide
  · have hE : ∀ s a l, prtE s a l = some (x, n) → x.txt.size ≤ 500 := fun s a l h => by
      unfold prtE at h
      split at h
      · cases h
      · simp only [Option.some.injEq, Prod.mk.injEq] at h
        obtain ⟨rfl, rfl⟩ := h
        show (⟨#[]⟩ : ByteArray).size ≤ 500
        decide
    split at h
    · exact hE _ _ _ h
    · exact hE _ _ _ h
def szS : Value → Nat
  | .string s => s.size
  | _ => 0
/-- What the program's reading of a format gives. -/
def RfBad (f : ByteArray) : Prop := 500 < f.size ∨ its f 0 = none
def RfEnd (f : ByteArray) (w : World) (e : Ending) (w' : World) : Prop := Below w.heap.size w w' ∧
  ((e = .returned (.tuple #[.slice none 0 0, .bool false]) ∧ RfBad f) ∨
   ∃ v P L, e = .returned (.tuple #[v, .bool true]) ∧ PtR w.heap.size w' v P ∧ f.size ≤ 500 ∧ its f 0 = some L ∧ Sm P L ∧ P.length ≤ 1001 ∧ GoodP P)

set_option maxRecDepth 100000 in
set_option maxHeartbeats 4000000 in
theorem impl_readFormat (f : ByteArray) (hf : f.size ≤ 1048576) (w : World) (hH : Held w) : Calls Tryz.prog 22 #[.string f] w (RfEnd f w) := by
  by_cases hz : 500 < f.size
  · have hzi : (500 : Int) < (f.size : Int) := by omega
    go_enter Tryz.func22, Tryz.ntmps22
    go_wp2_with fail
    go_ret2
    exact ⟨Below.refl _ _, .inl ⟨rfl, .inl hz⟩⟩
  have hzi : ¬ (500 : Int) < (f.size : Int) := by omega
  have hzn : decide (500 < f.size) = false := by simpa using hz
  have HH := Lib.hid hH; clear hH
  go_enter Tryz.func22, Tryz.ntmps22
  go_wp2_with fail
  go_loopw [0, 4] (fun x v wr => ∃ (k : Nat) (P : List It), x = .string (f.extract k f.size) ∧ k ≤ f.size ∧ P.length ≤ k ∧ Hid (PtR w.heap.size wr v P) ∧ Hid (Sofar f P k) ∧ Hid (GoodP P) ∧ Hid (Below w.heap.size w wr)) (fun x _ _ => szS x)
  case atStart => exact ⟨0, [], by simp, Nat.zero_le _, Nat.le_refl _, Lib.hid (PtR.nil _ _), Lib.hid (sofar_nil f), Lib.hid (fun x hx => by cases hx), Lib.hid (Below.refl _ _)⟩
  case round =>
    obtain ⟨k, P, rfl, hk, hPk, HR, HS, HG, HB⟩ := hrel
    have hbz := HB.out.size
    have hsz : (f.extract k f.size).size = f.size - k := size_ext f k _ (Nat.le_refl _)
    have hxs : (f.extract k f.size).size ≤ 1048576 := by omega
    rcases pct_cut (f.extract k f.size) with ⟨j, hj, hb, hn, hcut⟩ | ⟨hn, hcut⟩
    · rw [hsz] at hj
      rw [bt_ext f k _ j (Nat.le_refl _) (by omega)] at hb
      have ea : (f.extract k f.size).extract 0 j = f.extract k (k + j) := by
        apply ByteArray.ext
        rw [ByteArray.data_extract, ByteArray.data_extract, ByteArray.data_extract, Array.extract_extract]
        congr 1
        · show min (k + j) f.size = k + j
          omega
      have eb : (f.extract k f.size).extract (j + 1) (f.extract k f.size).size = f.extract (k + j + 1) f.size := ext_ext (by omega)
      rw [ea, eb] at hcut
      have hcall := fun W hW => cut_yes hxs hcut W hW
      have HS1 := Lib.hid (sofar_lits HS.out (n := j) (by omega) hn)
      have hta : (f.extract k (k + j)).size ≤ 500 := by rw [size_ext f _ _ (by omega)]; omega
      have HG1 := Lib.hid (HG.out.add (lit_ok (f.extract k (k + j))) hta)
      have hprt := fun W => impl_part (f.extract (k + j + 1) f.size) (by rw [size_ext f _ _ (Nat.le_refl _)]; omega) W
      have HC := Lib.hid hcall; clear hcall
      have HPR := Lib.hid hprt; clear hprt
      have hprts : ∀ x n, prtP (f.extract (k + j + 1) f.size) = some (x, n) → Sofar f (P ++ [⟨0, f.extract k (k + j), 0, false⟩] ++ [x]) (k + j + 1 + n) ∧ 0 < n ∧ ItOk x ∧ x.txt.size ≤ 500 := fun x n h => by
        obtain ⟨q1, q2⟩ := sofar_part HS1.out (by omega) hb h
        exact ⟨q1, q2, prtP_ok h, prt_txt h⟩
      have hprtn : prtP (f.extract (k + j + 1) f.size) = none → its f 0 = none := fun h => sofar_bad HS1.out (by omega) hb h
      have hrsz : (f.extract (k + j + 1) f.size).size = f.size - (k + j + 1) := size_ext f _ _ (Nat.le_refl _)
      have hrx : ∀ n, k + j + 1 + n ≤ f.size → (f.extract (k + j + 1) f.size).extract n (f.extract (k + j + 1) f.size).size = f.extract (k + j + 1 + n) f.size := fun n hn => ext_ext (by omega)
      have HSZ := Lib.hid hsz
      clear ea eb hcut hn hxs hsz
      generalize f.extract k f.size = x at *
      generalize f.extract k (k + j) = ta at *
      generalize f.extract (k + j + 1) f.size = r at *
      have HRX := Lib.hid hrx; clear hrx
      go_wp2_with fail
      refine (HC.out wr (HH.out.below HB.out (Nat.le_refl _))).mono ?_
      rintro e w1 ⟨rfl, dn, rfl⟩
      have HB1 : Hid (Below w.heap.size w (wr.drewN dn)) := Lib.hid (HB.out.trans ⟨rfl, rfl, rfl, Nat.le_refl _, fun _ _ => rfl⟩)
      have HR1 := Lib.hid (show PtR w.heap.size (wr.drewN dn) _ P from HR.out.same fun y _ => rfl)
      have hs1 : (wr.drewN dn).heap.size = wr.heap.size := rfl
      generalize wr.drewN dn = w1 at HB1 HR1 hs1 ⊢
      go_wp2_with (at_builtin; refine pt_push w.heap.size w1 _ P ⟨0, ta, 0, false⟩ _ hs1 rfl _ _ rfl rfl rfl HR1.out (by omega) (by omega) ?_; intro v2 w2 hrow2 hgrow2)
      have HB2 := Lib.hid (HB1.out.grown hgrow2 (by omega) (fun y hy => (HR1.out.lt y hy).1))
      have HR2 := Lib.hid hrow2; clear hrow2
      have hs2 := hgrow2.size; clear hgrow2
      cases hp : prtP r with
      | none =>
        have hnone := hprtn hp
        rw [hp] at HPR
        unfold PartRes PtVal it0 at HPR
        clear hprts hprtn hp
        go_wp2_with fail
        refine (HPR.out _).mono ?_
        rintro e w3 ⟨rfl, hB3⟩
        have HB3 := Lib.hid (HB2.out.trans (hB3.mono HB2.out.size)); clear hB3
        go_wp2_with fail
        go_ret2
        exact ⟨HB3.out.alloc HB3.out.size _, .inl ⟨rfl, .inr hnone⟩⟩
      | some q =>
        obtain ⟨y, n⟩ := q
        obtain ⟨hs3, hn0, hy1, hy2⟩ := hprts y n hp
        rw [hp] at HPR
        unfold PartRes PtVal at HPR
        simp only at HPR
        have hkn := hs3.1
        have hre := HRX.out n hkn
        rw [hre] at HPR
        have HS3 := Lib.hid hs3; clear hs3
        have HG3 := Lib.hid (HG1.out.add hy1 hy2)
        clear hprts hprtn hp hre hy1 hy2
        obtain ⟨kd, tx, wd, lf⟩ := y
        simp only at HPR
        go_wp2_with fail
        refine (HPR.out _).mono ?_
        rintro e w3 ⟨rfl, hB3⟩
        have HR3 := Lib.hid (HR2.out.below hB3 (Nat.le_refl _))
        have HB3 := Lib.hid (HB2.out.trans (hB3.mono HB2.out.size)); clear hB3
        have HR4 := Lib.hid (HR3.out.alloc (.cells #[.string tx, .int .u8 kd, .bool lf, .int .i64 wd] 59))
        have HB4 := Lib.hid (HB3.out.alloc HB3.out.size (.cells #[.string tx, .int .u8 kd, .bool lf, .int .i64 wd] 59))
        obtain ⟨⟨c0, c1, c2, c3⟩, z0, z1, z2, z3⟩ := part_cells (heap_alloc_new w3 (.cells #[.string tx, .int .u8 kd, .bool lf, .int .i64 wd] 59))
        have hs3w := HB3.out.size
        have hs4 := HB4.out.size
        go_wp2_with (at_builtin; refine pt_push w.heap.size (w3.alloc (.cells #[.string tx, .int .u8 kd, .bool lf, .int .i64 wd] 59)) v2 (P ++ [(⟨0, ta, 0, false⟩ : It)]) ⟨kd, tx, wd, lf⟩ (w3.heap.size + 1) (by simp) rfl _ _ rfl rfl rfl HR4.out (by rw [List.length_append, List.length_singleton]; omega) (by simp; omega) ?_; intro v5 w5 hrow5 hgrow5)
        have HB5 := Lib.hid (HB4.out.grown hgrow5 hs4 (fun y hy => (HR4.out.lt y hy).1))
        have HR5 := Lib.hid hrow5; clear hrow5 hgrow5
        go_roundw
        case rel => exact ⟨k + j + 1 + n, P ++ [⟨0, ta, 0, false⟩] ++ [⟨kd, tx, wd, lf⟩], rfl, hkn, by simp; omega, HR5, HS3, HG3, HB5⟩
        case measure =>
          have e := HSZ.out
          show (f.extract (k + j + 1 + n) f.size).size < x.size
          rw [size_ext f _ _ (Nat.le_refl _), e]
          omega
    · have hcall := fun W hW => cut_no hxs hcut W hW
      have hall := sofar_lits HS.out (n := f.size - k) (by omega) (fun j hj => hn j (by omega))
      rw [show k + (f.size - k) = f.size by omega] at hall
      obtain ⟨L, hL, hsm⟩ := sofar_end hall
      have HL := Lib.hid hL; clear hL
      have HSM := Lib.hid hsm; clear hsm
      have HG1 := Lib.hid (HG.out.add (lit_ok (f.extract k f.size)) (by show (f.extract k f.size).size ≤ 500; omega))
      have HC := Lib.hid hcall; clear hcall hall hcut hn hsz
      generalize f.extract k f.size = x at *
      go_wp2_with fail
      refine (HC.out wr (HH.out.below HB.out (Nat.le_refl _))).mono ?_
      rintro e w1 ⟨rfl, dn, rfl⟩
      have HB1 : Hid (Below w.heap.size w (wr.drewN dn)) := Lib.hid (HB.out.trans ⟨rfl, rfl, rfl, Nat.le_refl _, fun _ _ => rfl⟩)
      have HR1 := Lib.hid (show PtR w.heap.size (wr.drewN dn) _ P from HR.out.same fun y _ => rfl)
      have hs1 : (wr.drewN dn).heap.size = wr.heap.size := rfl
      generalize wr.drewN dn = w1 at HB1 HR1 hs1 ⊢
      go_wp2_with (at_builtin; refine pt_push w.heap.size w1 _ P ⟨0, x, 0, false⟩ _ hs1 rfl _ _ rfl rfl rfl HR1.out (by omega) (by omega) ?_; intro v2 w2 hrow2 hgrow2)
      have HB2 := Lib.hid (HB1.out.grown hgrow2 (by omega) (fun y hy => (HR1.out.lt y hy).1))
      have HR2 := Lib.hid hrow2; clear hrow2 hgrow2
      go_ret2
      exact ⟨HB2.out, .inr ⟨v2, P ++ [⟨0, x, 0, false⟩], L, rfl, HR2.out, by omega, HL.out, HSM.out, by simp; omega, HG1.out⟩⟩

theorem take_next (P : List It) {k : Nat} (hk : k < P.length) : P.take (k + 1) = P.take k ++ [nthI P k] := by
  rw [List.take_succ_eq_append_getElem hk]
  simp [nthI, List.getD, hk]
theorem kind_next (P : List It) {k : Nat} (hk : k < P.length) : kindL (P.take (k + 1)) = kindL (P.take k) ++ (if (nthI P k).kind = 0 then [] else [(nthI P k).kind]) := by
  rw [take_next P hk, kind_snoc]
theorem rowB_form {B : Nat} {w : World} {v : Value} {L : List Int} (h : RowB B w v L) : ∃ ao cap, v = .slice ao L.length cap := by
  rcases h.2 with ⟨q, q0⟩ | ⟨_, _, _, q, _⟩
  · exact ⟨none, 0, by rw [q, q0]⟩
  · exact ⟨_, _, q⟩

set_option maxRecDepth 100000 in
set_option maxHeartbeats 4000000 in
theorem impl_kindsIn (B : Nat) (v : Value) (P : List It) (hl : P.length ≤ 1001) (w : World) (h : PtR B w v P) : Calls Tryz.prog 24 #[v] w fun e w' => ∃ u, e = .returned u ∧ RowB w.heap.size w' u (kindL P) ∧ Below w.heap.size w w' := by
  obtain ⟨ao, cap, rfl, hat⟩ := h.at
  have HAT := Lib.hid hat; clear hat h
  go_enter Tryz.func24, Tryz.ntmps24
  go_wp2_with fail
  go_loopw [3, 8] (fun u i wr => ∃ (k : Nat), k ≤ P.length ∧ i = .int .i64 k ∧ (kindL (P.take k)).length ≤ k ∧ Hid (RowB w.heap.size wr u (kindL (P.take k))) ∧ Hid (Below w.heap.size w wr)) (fun _ i _ => P.length - (intOf i).toNat)
  case atStart => exact ⟨0, Nat.zero_le _, rfl, by simp [kindL], Lib.hid (RowB.nil _ _), Below.refl _ _⟩
  case round =>
    obtain ⟨k, hk, rfl, hkl, HR, HB⟩ := hrel
    have hbz := HB.out.size
    by_cases hlt : k < P.length
    · have hki : (k : Int) < (P.length : Int) := by omega
      obtain ⟨g, rfl, _, hg, c0, c1, c2, c3⟩ := HAT.out k hlt
      have d0 := (HB.out.cell (p := ⟨g, k * 4, none⟩) hg).trans c0
      have d1 := (HB.out.cell (p := ⟨g, k * 4 + 1, none⟩) hg).trans c1
      have d2 := (HB.out.cell (p := ⟨g, k * 4 + 2, none⟩) hg).trans c2
      have d3 := (HB.out.cell (p := ⟨g, k * 4 + 3, none⟩) hg).trans c3
      have hnx := kind_next P hlt
      clear c0 c1 c2 c3
      generalize nthI P k = x at *
      obtain ⟨kd, tx, wd, lf⟩ := x
      simp only at d0 d1 d2 d3 hnx
      have HB1 := Lib.hid (HB.out.alloc hbz (.cells #[.string tx, .int .u8 kd, .bool lf, .int .i64 wd] 59))
      have hR1 := World.ownsRow.alloc HR.out (.cells #[.string tx, .int .u8 kd, .bool lf, .int .i64 wd] 59)
      have HR1 := Lib.hid hR1; clear hR1
      obtain ⟨⟨e0, e1, e2, e3⟩, z0, z1, z2, z3⟩ := part_cells (heap_alloc_new wr (.cells #[.string tx, .int .u8 kd, .bool lf, .int .i64 wd] 59))
      by_cases h0 : kd = 0
      · rw [if_pos h0, List.append_nil] at hnx
        subst h0
        have HN := Lib.hid hnx; clear hnx
        go_wp2_with fail
        go_roundw
        case rel => exact ⟨k + 1, by omega, by go_num, by rw [HN.out]; omega, Lib.hid (by rw [HN.out]; exact HR1.out), HB1⟩
        case measure => simp [intOf]; omega
      · rw [if_neg h0] at hnx
        have h0b : (kd != 0) = true := by simpa using h0
        have HN := Lib.hid hnx; clear hnx
        have hs1 := HB1.out.size
        go_wp2_with (at_builtin; refine rowB_push_at w.heap.size (wr.alloc (.cells #[.string tx, .int .u8 kd, .bool lf, .int .i64 wd] 59)) _ (kindL (P.take k)) kd (wr.heap.size + 1) (by simp) rfl _ _ rfl rfl rfl HR1.out (by omega) hs1 ?_; intro v2 w2 hrow2 hgrow2)
        have HB2 := Lib.hid (HB1.out.grown hgrow2 hs1 (fun y hy => (HR1.out.lt y hy).1))
        have HR2 := Lib.hid hrow2; clear hrow2 hgrow2
        go_roundw
        case rel => exact ⟨k + 1, by omega, by go_num, by rw [HN.out, List.length_append, List.length_singleton]; omega, Lib.hid (by rw [HN.out]; exact HR2.out), HB2⟩
        case measure => simp [intOf]; omega
    · obtain rfl : k = P.length := by omega
      rw [List.take_length] at HR hkl
      go_wp2_with fail
      go_ret
      exact ⟨_, rfl, HR.out, HB.out⟩

theorem rf_pls {f : ByteArray} (h : RfBad f) : placesP f = (0, false) ∧ kindsP f = [] := by
  rcases h with h | h
  · exact ⟨by unfold placesP; rw [if_pos h], by unfold kindsP; rw [if_pos h]⟩
  · refine ⟨?_, ?_⟩
    · unfold placesP; split
      · rfl
      · rw [h]
    · unfold kindsP; split
      · rfl
      · rw [h]
theorem rf_two {f : ByteArray} {L P : List It} (hz : f.size ≤ 500) (h : its f 0 = some L) (hs : Sm P L) : placesP f = ((kindL P).length, true) ∧ kindsP f = kindL P := by
  refine ⟨?_, ?_⟩
  · rw [pls_some (by omega) h, kindL_len, hs.1]
  · rw [kinds_some (by omega) h, hs.2.1]

set_option maxRecDepth 100000 in
theorem imp_places (f : ByteArray) (hf : f.size ≤ 1048576) (w : World) (hH : Held w) : Calls Tryz.prog 8 #[.string f] w (PlsEnd (placesP f) w) := by
  have hrf := impl_readFormat f hf w hH
  have hkn := fun v P hl w h => impl_kindsIn w.heap.size v P hl w h
  go_enter Tryz.func8, Tryz.ntmps8
  go_wp2_with fail
  refine hrf.mono ?_
  rintro e w1 ⟨hB1, ⟨rfl, hbad⟩ | ⟨v, P, L, rfl, hR, hz, hL, hS, hl, hG⟩⟩
  · have hk := impl_kindsIn w1.heap.size (.slice none 0 0) [] (by simp) w1 (PtR.nil _ _)
    have HE := Lib.hid (rf_pls hbad).1
    have HB1 := Lib.hid hB1; clear hB1
    go_wp2_with fail
    refine hk.mono ?_
    rintro e w2 ⟨u, rfl, hR2, hB2⟩
    obtain ⟨ao, cap, rfl⟩ := rowB_form hR2
    have HB2 := Lib.hid (HB1.out.trans (hB2.mono HB1.out.size)); clear hB2 hR2
    go_wp2_with fail
    go_ret2
    exact ⟨by rw [HE.out]; rfl, HB2.out⟩
  · have hk := impl_kindsIn _ v P hl w1 hR
    have HE := Lib.hid (rf_two hz hL hS).1
    have HB1 := Lib.hid hB1; clear hB1
    clear hL hS hG hR
    go_wp2_with fail
    refine hk.mono ?_
    rintro e w2 ⟨u, rfl, hR2, hB2⟩
    obtain ⟨ao, cap, rfl⟩ := rowB_form hR2
    have HB2 := Lib.hid (HB1.out.trans (hB2.mono HB1.out.size)); clear hB2 hR2
    go_wp2_with fail
    go_ret2
    exact ⟨by rw [HE.out]; rfl, HB2.out⟩

set_option maxRecDepth 100000 in
theorem imp_kinds (f : ByteArray) (hf : f.size ≤ 1048576) (w : World) (hH : Held w) : Calls Tryz.prog 9 #[.string f] w fun e w' => e = .returned (.string (strOfNums (kindsP f))) ∧ Below w.heap.size w w' := by
  have hrf := impl_readFormat f hf w hH
  go_enter Tryz.func9, Tryz.ntmps9
  go_wp2_with fail
  refine hrf.mono ?_
  rintro e w1 ⟨hB1, ⟨rfl, hbad⟩ | ⟨v, P, L, rfl, hR, hz, hL, hS, hl, hG⟩⟩
  · have hk := impl_kindsIn w1.heap.size (.slice none 0 0) [] (by simp) w1 (PtR.nil _ _)
    have HE := Lib.hid (rf_pls hbad).2
    have HB1 := Lib.hid hB1; clear hB1
    go_wp2_with fail
    refine hk.mono ?_
    rintro e w2 ⟨u, rfl, hR2, hB2⟩
    have hcv := rowB_conv hR2
    have HB2 := Lib.hid (HB1.out.trans (hB2.mono HB1.out.size)); clear hB2 hR2
    go_wp2_with fail
    go_ret
    exact ⟨by rw [HE.out]; rfl, HB2.out⟩
  · have hk := impl_kindsIn _ v P hl w1 hR
    have HE := Lib.hid (rf_two hz hL hS).2
    have HB1 := Lib.hid hB1; clear hB1
    clear hL hS hG hR
    go_wp2_with fail
    refine hk.mono ?_
    rintro e w2 ⟨u, rfl, hR2, hB2⟩
    have hcv := rowB_conv hR2
    have HB2 := Lib.hid (HB1.out.trans (hB2.mono HB1.out.size)); clear hB2 hR2
    go_wp2_with fail
    go_ret
    exact ⟨by rw [HE.out]; rfl, HB2.out⟩

end Go.Proofs.YthaedmldlenhgaaGreatDoor.Cell
