/-
  The program's formats: values put into a format.
-/
import Derived.Test.YthaedmldlenhgaaGreatDoorFmtImp
import Derived.Test.YthaedmldlenhgaaGreatDoorCellRow
import Derived.Test.YthaedmldlenhgaaGreatDoorCellText
import Derived.Deep.RegionHeld3
import Derived.Laws.Slices
namespace Go.Proofs.YthaedmldlenhgaaGreatDoor.Cell
open Go.ChangeShapes Go.WideShapes Go.ChangeAt Go.RowKit Go.PlainAid Go.Shelf
open Go.Proofs.YthaedmldlenhgaaGreatDoor.Dec
open Go.Proofs.YthaedmldlenhgaaGreatDoor.DecPure Go.Proofs.YthaedmldlenhgaaGreatDoor.ReadPure Go.Proofs.YthaedmldlenhgaaGreatDoor.TextPure Go.Proofs.YthaedmldlenhgaaGreatDoor.CellPure Go.Proofs.YthaedmldlenhgaaGreatDoor.Strs Go.Proofs.YthaedmldlenhgaaGreatDoor.Seqs Go.Proofs.YthaedmldlenhgaaGreatDoor.RecPure
set_option linter.unusedVariables false
set_option linter.unusedSimpArgs false

/-- A list without its first value. -/
theorem cs_rest {B : Nat} {w : World} {ao : Option Addr} {n cap : Nat} {l : List Ce} (h : CsAt B w (.slice ao n cap) l) (hl : 0 < l.length) :
    n = l.length ∧ 1 ≤ n ∧ n ≤ cap ∧ CsAt B w (sliced ao 1 n cap 3) (l.drop 1) := by
  obtain ⟨ao', cap', e, h1, h2, h3⟩ := h
  cases e
  refine ⟨rfl, hl, h1, ?_⟩
  unfold sliced
  refine ⟨(if cap = 1 then ao else ao.map (fun x => x.add (1 * 3))), cap - 1, by simp, by simp; omega, by omega, fun i hi => ?_⟩
  have hi' : i + 1 < l.length := by simp at hi; omega
  obtain ⟨b, off, rfl, hb, hc⟩ := h3 (i + 1) hi'
  have hc1 : ¬ cap = 1 := by omega
  refine ⟨b, off + 3, by simp [hc1, Addr.add], hb, ?_⟩
  have e2 : nthC (l.drop 1) i = nthC l (i + 1) := by simp [nthC, List.getD, Nat.add_comm]
  rw [e2, show off + 3 + i * 3 = off + (i + 1) * 3 by omega]
  exact hc
theorem piece_size (x : It) (c : Ce) (hx : ItOk x ∧ x.txt.size ≤ 500) : (pieceP x c).size ≤ 700 := by
  unfold pieceP
  split
  · omega
  · rw [padP_size]
    have h1 := hx.1.2
    have h2 : (if x.kind = 115 then cStr c.t c.n c.s else dtB (intV (cNum c.t c.n c.s))).size ≤ 600 := by
      split
      · exact cStr_le _ _ _
      · have := dt_le (intV (cNum c.t c.n c.s)); omega
    omega
theorem nCv_take (P : List It) (k : Nat) : nCv (P.take k) ≤ nCv P := by
  have h : nCv P = nCv (P.take k) + nCv (P.drop k) := by
    rw [← nCv_app, List.take_append_drop]
  omega
theorem nCv_here (P : List It) {k : Nat} (hk : k < P.length) (h : (nthI P k).kind ≠ 0) : nCv (P.take k) + 1 ≤ nCv P := by
  have h1 := nCv_take P (k + 1)
  rw [take_next P hk, cv_snoc, if_neg h] at h1
  exact h1
theorem out_next (P : List It) (l : List Ce) {k : Nat} (hk : k < P.length) : outP (P.take (k + 1)) l = outP (P.take k) l ++ pieceP (nthI P k) (nthC l (nCv (P.take k))) := by
  rw [take_next P hk, outP_snoc]

/-- What a kind's function gives for a value. -/
theorem conv_text {kd : Int} (hk : kd = 100 ∨ kd = 115) (t n : Int) (s : ByteArray) (hs : s.size ≤ 1048576) : ∃ F : Nat,
    (∀ W, Calls Tryz.prog 26 #[.int .u8 kd] W fun e w' => e = .returned (.func (.func F) #[] #[]) ∧ W = w') ∧
    (∀ W, Go.Proofs.YthaedmldlenhgaaGreatDoor.Dec.Tables W → Calls Tryz.prog F #[cel t n s] W fun e w' => e = .returned (.string (if kd = 115 then cStr t n s else dtB (intV (cNum t n s)))) ∧ Below W.heap.size W w') ∧ (F = 60 ∨ F = 61) := by
  rcases hk with rfl | rfl
  · refine ⟨_, conv_d, fun W hW => ?_, .inl rfl⟩
    rw [if_neg (by decide)]
    exact impl_whole_text t n s hs W hW
  · refine ⟨_, conv_s, fun W hW => ?_, .inr rfl⟩
    rw [if_pos rfl]
    exact impl_toStr t n s hs W hW

set_option maxRecDepth 100000 in
set_option maxHeartbeats 8000000 in
theorem imp_format (B : Nat) (f : ByteArray) (v : Value) (l : List Ce) (hf : f.size ≤ 1048576) (hl : l.length ≤ 1048576) (hsz : ∀ i, i < l.length → (nthC l i).s.size ≤ 1048576) (w : World) (hB : B ≤ w.heap.size) (hx : CsAt B w v l)
    (htab : Go.Proofs.YthaedmldlenhgaaGreatDoor.Dec.Tables w) (hH : Held w) : Calls Tryz.prog 6 #[.string f, v] w (FmtEnd (fmtP f l) w) := by
  have hrf := impl_readFormat f hf w hH
  have hbad := fmt_bad (f := f) (l := l)
  have hX := hx
  obtain ⟨ao, cap, rfl, hc1, hc2, hc3⟩ := hx
  clear hc3
  have HX := Lib.hid hX; clear hX
  have HT := Lib.hid htab; clear htab
  have HSZ := Lib.hid hsz; clear hsz
  have HBAD := Lib.hid hbad; clear hbad
  go_enter Tryz.func6, Tryz.ntmps6
  go_wp2_with fail
  refine hrf.mono ?_
  rintro e w1 ⟨hB1, ⟨rfl, hno⟩ | ⟨u, P, L, rfl, hR, hz, hL, hS, hPl, hG⟩⟩
  · have E := Lib.hid (HBAD.out (.inl (by rw [(rf_pls hno).1])))
    have HB1 := Lib.hid hB1; clear hB1
    go_wp2_with fail
    go_ret2
    exact ⟨by rw [E.out]; rfl, HB1.out⟩
  have hpl := (rf_two hz hL hS).1
  have hck := imp_cellsOk w1.heap.size (.slice ao l.length cap) l hl HSZ.out w1 (Nat.le_refl _) (HX.out.below (hB1.mono hB) (Nat.le_trans hB hB1.size))
  cases hok : okL l with
  | false =>
    have E := Lib.hid (HBAD.out (.inr hok))
    rw [hok] at hck
    have HCK := Lib.hid hck; clear hck hok
    have HB1 := Lib.hid hB1; clear hB1
    go_wp2_with (go_at_call 23; refine HCK.out.mono ?_; rintro e w2 ⟨rfl, hB2⟩)
    go_ret2
    exact ⟨by rw [E.out]; rfl, HB1.out.trans (hB2.mono HB1.out.size)⟩
  | true =>
  have hshort := fmt_short (f := f) (l := l) (by rw [hpl]) hok
  have hlong := fmt_long (f := f) (l := l) (a := L) (by rw [hpl]) hok
  have hgood := fmt_good (f := f) (l := l) (a := L) (by rw [hpl]) hok
  rw [hpl, ← hS.2.2] at hlong hgood
  rw [hpl] at hshort
  have hnP : (kindL P).length = nCv P := kindL_len P
  rw [hok] at hck
  have HCK := Lib.hid hck; clear hck
  have HSH := Lib.hid hshort; clear hshort
  have HLO := Lib.hid hlong; clear hlong
  have HGO := Lib.hid hgood; clear hgood
  have HL := Lib.hid hL; clear hL
  have HG := Lib.hid hG; clear hG
  have HR1 := Lib.hid hR; clear hR
  have HB1 := Lib.hid hB1; clear hB1
  clear hok hS hpl
  go_wp2_with (go_at_call 23; refine HCK.out.mono ?_; rintro e w2 ⟨rfl, hB2⟩)
  have HR2 := Lib.hid (HR1.out.below hB2 (Nat.le_refl _))
  have HB2 := Lib.hid (HB1.out.trans (hB2.mono HB1.out.size)); clear hB2
  refine (impl_kindsIn w.heap.size u P hPl w2 HR2.out).mono ?_
  rintro e w3 ⟨ku, rfl, hK, hB3⟩
  obtain ⟨ko, kcap, rfl⟩ := rowB_form hK
  have HR3 := Lib.hid (HR2.out.below hB3 (Nat.le_refl _))
  have HB3 := Lib.hid (HB2.out.trans (hB3.mono HB2.out.size)); clear hB3 hK
  by_cases hsh : l.length < (kindL P).length
  · have E := Lib.hid (HSH.out hsh)
    have hshi : (l.length : Int) < ((kindL P).length : Int) := by omega
    go_wp2_with fail
    go_ret2
    exact ⟨by rw [E.out]; rfl, HB3.out⟩
  have hshi : ¬ (l.length : Int) < ((kindL P).length : Int) := by omega
  have hshb : decide (l.length < (kindL P).length) = false := by simpa using hsh
  have HLO2 := Lib.hid (HLO.out hsh HL.out)
  have HGO2 := Lib.hid (HGO.out hsh HL.out)
  rw [hnP] at hsh
  obtain ⟨po, pcap, rfl, hat⟩ := HR3.out.at
  have HAT := Lib.hid hat; clear hat
  have hbz3 := HB3.out.size
  have HBL0 := Lib.hid (Bld.new w3)
  have HB4 := Lib.hid (HB3.out.alloc hbz3 (.cells #[.pointer none, .slice none 0 0] 57))
  go_wp2_with fail
  go_loopw [1, 32] (fun r i wr => ∃ (k : Nat), k ≤ P.length ∧ i = .int .i64 k ∧ (outP (P.take k) l).size ≤ k * 700 ∧ Hid (CsAt w.heap.size w r (l.drop (nCv (P.take k)))) ∧ Hid (Bld wr w3.heap.size w3.heap.size (outP (P.take k) l)) ∧ Hid (Below w3.heap.size w3 wr)) (fun _ i _ => P.length - (intOf i).toNat)
  case atStart => exact ⟨0, Nat.zero_le _, rfl, Nat.le_refl _, Lib.hid (HX.out.below (Below.refl _ _) hB), HBL0, Lib.hid ((Below.refl _ w3).alloc (Nat.le_refl _) _)⟩
  case round =>
    obtain ⟨k, hk, rfl, hos, HC, HBL, HBr⟩ := hrel
    have hrz := HBr.out.size
    by_cases hlt : k < P.length
    · have hki : (k : Int) < (P.length : Int) := by omega
      obtain ⟨g, rfl, _, hg, c0, c1, c2, c3⟩ := HAT.out k hlt
      have d0 := (HBr.out.cell (p := ⟨g, k * 4, none⟩) hg).trans c0
      have d1 := (HBr.out.cell (p := ⟨g, k * 4 + 1, none⟩) hg).trans c1
      have d2 := (HBr.out.cell (p := ⟨g, k * 4 + 2, none⟩) hg).trans c2
      have d3 := (HBr.out.cell (p := ⟨g, k * 4 + 3, none⟩) hg).trans c3
      have hgd := HG.out.at hlt
      have hps := piece_size (nthI P k) (nthC l (nCv (P.take k))) hgd
      have hon := out_next P l hlt
      have hhere := nCv_here P hlt
      have hcn : nCv (P.take (k + 1)) = nCv (P.take k) + (if (nthI P k).kind = 0 then 0 else 1) := by rw [take_next P hlt, cv_snoc]
      clear c0 c1 c2 c3
      generalize nthI P k = x at *
      obtain ⟨kd, tx, wd, lf⟩ := x
      simp only at d0 d1 d2 d3 hhere hcn
      have HB5 := Lib.hid (HBr.out.alloc hrz (.cells #[.string tx, .int .u8 kd, .bool lf, .int .i64 wd] 59))
      have HBL5 := Lib.hid (HBL.out.below ((Below.refl _ wr).alloc (Nat.le_refl _) (.cells #[.string tx, .int .u8 kd, .bool lf, .int .i64 wd] 59)))
      have hnew := heap_alloc_new wr (.cells #[.string tx, .int .u8 kd, .bool lf, .int .i64 wd] 59)
      obtain ⟨⟨e0, e1, e2, e3⟩, z0, z1, z2, z3⟩ := part_cells hnew
      obtain ⟨W5, hW5⟩ : ∃ W5, wr.alloc (.cells #[.string tx, .int .u8 kd, .bool lf, .int .i64 wd] 59) = W5 := ⟨_, rfl⟩
      rw [hW5] at HB5 HBL5 hnew
      have HW5 := Lib.hid hW5; clear hW5
      obtain ⟨⟨f0, f1, f2, f3⟩, _⟩ := part_cells hnew
      have hs5 := HB5.out.size
      have hbl := HBL.out.lt
      by_cases h0 : kd = 0
      · subst h0
        have hpc : pieceP ⟨0, tx, wd, lf⟩ (nthC l (nCv (P.take k))) = tx := by unfold pieceP; rw [if_pos rfl]
        rw [hpc] at hon hps
        rw [if_pos rfl, Nat.add_zero] at hcn
        have hwr := bld_write tx HBL5.out (by omega) hs5
        rw [← hon] at hwr
        have hos2 : (outP (P.take (k + 1)) l).size ≤ (k + 1) * 700 := by rw [hon, ByteArray.size_append]; omega
        have HW := Lib.hid hwr; clear hwr
        have HCN := Lib.hid hcn
        clear hnew hgd hhere hon hpc hcn
        go_wp2_with (go_at_call 25; rw [HW5.out]; refine HW.out.mono ?_; rintro e w6 ⟨rfl, hbl6, hB6, _⟩)
        have HB6 := Lib.hid (HB5.out.trans hB6); clear hB6
        have HBL6 := Lib.hid hbl6; clear hbl6
        go_roundw
        case rel => exact ⟨k + 1, by omega, by go_num, hos2, Lib.hid (by rw [HCN.out]; exact HC.out), HBL6, HB6⟩
        case measure => simp [intOf]; omega
      · have hkk : kd = 100 ∨ kd = 115 := by
          rcases hgd.1.1 with q | q
          · exact absurd q h0
          · exact q.1
        have h0b : (kd == 0) = false := by simpa using h0
        have hcl : nCv (P.take k) < l.length := by have := hhere h0; omega
        have hdl : 0 < (l.drop (nCv (P.take k))).length := by simp; omega
        obtain ⟨ro, rcap, ec, h1, h2, h3⟩ := HC.out
        subst ec
        obtain ⟨_, hrn1, hrn2, hnext⟩ := cs_rest HC.out hdl
        rw [List.drop_drop] at hnext
        generalize (l.drop (nCv (P.take k))).length = rn at *
        obtain ⟨b, off, rfl, hb, hN⟩ := h3 0 hdl
        rw [nthC_drop, Nat.zero_mul, Nat.add_zero] at hN
        rw [if_neg h0] at hcn
        have hcs := HSZ.out _ hcl
        have hwd := hgd.1.2
        have hbw := HB3.out.size
        have HBw5 := Lib.hid (HB3.out.trans (HB5.out.mono hbz3))
        have a0 := (HBw5.out.cell (p := ⟨b, off, none⟩) hb).trans hN.c0
        have a1 := (HBw5.out.cell (p := ⟨b, off + 1, none⟩) hb).trans hN.c1
        have a2 := (HBw5.out.cell (p := ⟨b, off + 2, none⟩) hb).trans hN.c2
        clear h1 h2 h3 hN hgd hhere HC
        generalize nthC l (nCv (P.take k)) = ce at *
        obtain ⟨ct, cn, cs⟩ := ce
        simp only at a0 a1 a2 hcs
        have hpb : w3.heap.size < wr.heap.size := by have := HBL.out.lt; omega
        have hb3 : b < w3.heap.size := Nat.lt_of_lt_of_le hb hbz3
        have hbs5 : b < W5.heap.size := Nat.lt_of_lt_of_le hb HBw5.out.size
        have hgs5 : wr.heap.size < W5.heap.size := (Array.getElem?_eq_some_iff.1 hnew).1
        have hk := fun (w' : World) (h : Below W5.heap.size W5 w') => (show w'.cell? ⟨wr.heap.size, 0, none⟩ = some (.string tx) ∧ w'.cell? ⟨wr.heap.size, 1, none⟩ = some (.int .u8 kd) ∧ w'.cell? ⟨wr.heap.size, 2, none⟩ = some (.bool lf) ∧ w'.cell? ⟨wr.heap.size, 3, none⟩ = some (.int .i64 wd) ∧ w'.cell? ⟨b, off, none⟩ = some (.int .i64 ct) ∧ w'.cell? ⟨b, off + 1, none⟩ = some (.int .i64 cn) ∧ w'.cell? ⟨b, off + 2, none⟩ = some (.string cs) from ⟨(h.cell (p := ⟨wr.heap.size, 0, none⟩) hgs5).trans f0, (h.cell (p := ⟨wr.heap.size, 1, none⟩) hgs5).trans f1, (h.cell (p := ⟨wr.heap.size, 2, none⟩) hgs5).trans f2, (h.cell (p := ⟨wr.heap.size, 3, none⟩) hgs5).trans f3, (h.cell (p := ⟨b, off, none⟩) hbs5).trans a0, (h.cell (p := ⟨b, off + 1, none⟩) hbs5).trans a1, (h.cell (p := ⟨b, off + 2, none⟩) hbs5).trans a2⟩)
        have HK := Lib.hid hk
        have hk2 := fun (wa wb : World) (h : Below W5.heap.size W5 wa) (h2 : Below w3.heap.size wa wb) (h3 : Lib.OthersKept 5 (some w3.heap.size) wa wb) => (show wb.cell? ⟨wr.heap.size, 0, none⟩ = some (.string tx) ∧ wb.cell? ⟨wr.heap.size, 1, none⟩ = some (.int .u8 kd) ∧ wb.cell? ⟨wr.heap.size, 2, none⟩ = some (.bool lf) ∧ wb.cell? ⟨wr.heap.size, 3, none⟩ = some (.int .i64 wd) ∧ wb.cell? ⟨b, off, none⟩ = some (.int .i64 ct) ∧ wb.cell? ⟨b, off + 1, none⟩ = some (.int .i64 cn) ∧ wb.cell? ⟨b, off + 2, none⟩ = some (.string cs) from by
          have hp := h3 wr.heap.size _ ((h.block wr.heap.size hgs5).trans hnew) (by intro e; have := Option.some.inj e; omega) (by intro c fz e; cases e)
          obtain ⟨⟨q0, q1, q2, q3⟩, _⟩ := part_cells hp
          obtain ⟨_, _, _, _, p0, p1, p2⟩ := HK.out wa h
          exact ⟨q0, q1, q2, q3, (h2.cell (p := ⟨b, off, none⟩) hb3).trans p0, (h2.cell (p := ⟨b, off + 1, none⟩) hb3).trans p1, (h2.cell (p := ⟨b, off + 2, none⟩) hb3).trans p2⟩)
        have HK2 := Lib.hid hk2
        clear hk2 hk hnew
        rcases hkk with hkd | hkd
        · subst hkd
          have hcv := fun W => conv_d W
          have htx := fun W hW => impl_whole_text ct cn cs hcs W hW
          have hpc : pieceP ⟨100, tx, wd, lf⟩ ⟨ct, cn, cs⟩ = padP (dtB (intV (cNum ct cn cs))) wd lf := by unfold pieceP; simp
          have htz : (dtB (intV (cNum ct cn cs))).size ≤ 600 := by have := dt_le (intV (cNum ct cn cs)); omega
          rw [hpc] at hon hps
          generalize dtB (intV (cNum ct cn cs)) = T at *
          have hpd := fun W => impl_padded ⟨100, tx, wd, lf⟩ T hwd.1 hwd.2 (by omega) W
          simp only at hpd
          generalize padP T wd lf = pd at *
          have hos2 : (outP (P.take (k + 1)) l).size ≤ (k + 1) * 700 := by rw [hon, ByteArray.size_append]; omega
          have hpz : (outP (P.take k) l).size + pd.size ≤ 1048576 := by omega
          have HON := Lib.hid hon
          have HCV := Lib.hid hcv
          have HTX := Lib.hid htx
          have HPD := Lib.hid hpd
          have HHK := Lib.hid hk
          clear hon hcv htx hpd hpc hps htz
          go_wp2_with (go_at_call 26; refine (HCV.out _).mono ?_; rintro e w' ⟨rfl, rfl⟩)
          clear e0 e1 e2 e3 z0 z1 z2 z3
          rw [HW5.out]
          have hD : Below W5.heap.size W5 W5.drew := (Below.refl _ _).drew
          go_region_held3 (fun w' => w'.cell? ⟨wr.heap.size, 0, none⟩ = some (.string tx) ∧ w'.cell? ⟨wr.heap.size, 1, none⟩ = some (.int .u8 100) ∧ w'.cell? ⟨wr.heap.size, 2, none⟩ = some (.bool lf) ∧ w'.cell? ⟨wr.heap.size, 3, none⟩ = some (.int .i64 wd) ∧ w'.cell? ⟨b, off, none⟩ = some (.int .i64 ct) ∧ w'.cell? ⟨b, off + 1, none⟩ = some (.int .i64 cn) ∧ w'.cell? ⟨b, off + 2, none⟩ = some (.string cs))
            (first | exact HK.out _ hD | exact HK.out _ hx0 | exact HK.out _ hx1 | exact hx2)
            (first
              | (go_at_call 60; refine (HTX.out W5.drew (HT.out.below (HBw5.out.trans (hD.mono HBw5.out.size)))).mono ?_; rintro e wx0 ⟨rfl, hB⟩; have hx0 : Below W5.heap.size W5 wx0 := hD.trans hB; clear hB)
              | (go_at_call 27; refine (HPD.out wx0).mono ?_; rintro e wx1 ⟨rfl, hB⟩; have hx1 : Below W5.heap.size W5 wx1 := hx0.trans (hB.mono hx0.size); clear hB)
              | (go_at_call 25; refine (bld_write pd (HBL5.out.below hx1) hpz (Nat.le_trans hs5 hx1.size)).mono ?_; rintro e wx2 ⟨rfl, hbl6, hB6, hO6⟩; have hx2 := HK2.out wx1 wx2 hx1 hB6 hO6))
          have HB6 := Lib.hid (HB5.out.trans ((hx1.mono hs5).trans hB6))
          have HBL6 := Lib.hid hbl6
          clear hx0 hx1 hx2 hB6 hO6 hbl6
          go_wp2_with fail
          go_roundw
          case rel => exact ⟨k + 1, by omega, by go_num, hos2, Lib.hid (by rw [hcn]; exact hnext), Lib.hid (by rw [HON.out]; exact HBL6.out), HB6⟩
          case measure => simp [intOf]; omega
        · subst hkd
          have hcv := fun W => conv_s W
          have htx := fun W hW => impl_toStr ct cn cs hcs W hW
          have hpc : pieceP ⟨115, tx, wd, lf⟩ ⟨ct, cn, cs⟩ = padP (cStr ct cn cs) wd lf := by unfold pieceP; simp
          have htz : (cStr ct cn cs).size ≤ 600 := cStr_le _ _ _
          rw [hpc] at hon hps
          generalize cStr ct cn cs = T at *
          have hpd := fun W => impl_padded ⟨115, tx, wd, lf⟩ T hwd.1 hwd.2 (by omega) W
          simp only at hpd
          generalize padP T wd lf = pd at *
          have hos2 : (outP (P.take (k + 1)) l).size ≤ (k + 1) * 700 := by rw [hon, ByteArray.size_append]; omega
          have hpz : (outP (P.take k) l).size + pd.size ≤ 1048576 := by omega
          have HON := Lib.hid hon
          have HCV := Lib.hid hcv
          have HTX := Lib.hid htx
          have HPD := Lib.hid hpd
          have HHK := Lib.hid hk
          clear hon hcv htx hpd hpc hps htz
          go_wp2_with (go_at_call 26; refine (HCV.out _).mono ?_; rintro e w' ⟨rfl, rfl⟩)
          clear e0 e1 e2 e3 z0 z1 z2 z3
          rw [HW5.out]
          have hD : Below W5.heap.size W5 W5.drew := (Below.refl _ _).drew
          go_region_held3 (fun w' => w'.cell? ⟨wr.heap.size, 0, none⟩ = some (.string tx) ∧ w'.cell? ⟨wr.heap.size, 1, none⟩ = some (.int .u8 115) ∧ w'.cell? ⟨wr.heap.size, 2, none⟩ = some (.bool lf) ∧ w'.cell? ⟨wr.heap.size, 3, none⟩ = some (.int .i64 wd) ∧ w'.cell? ⟨b, off, none⟩ = some (.int .i64 ct) ∧ w'.cell? ⟨b, off + 1, none⟩ = some (.int .i64 cn) ∧ w'.cell? ⟨b, off + 2, none⟩ = some (.string cs))
            (first | exact HK.out _ hD | exact HK.out _ hx0 | exact HK.out _ hx1 | exact hx2)
            (first
              | (go_at_call 61; refine (HTX.out W5.drew (HT.out.below (HBw5.out.trans (hD.mono HBw5.out.size)))).mono ?_; rintro e wx0 ⟨rfl, hB⟩; have hx0 : Below W5.heap.size W5 wx0 := hD.trans hB; clear hB)
              | (go_at_call 27; refine (HPD.out wx0).mono ?_; rintro e wx1 ⟨rfl, hB⟩; have hx1 : Below W5.heap.size W5 wx1 := hx0.trans (hB.mono hx0.size); clear hB)
              | (go_at_call 25; refine (bld_write pd (HBL5.out.below hx1) hpz (Nat.le_trans hs5 hx1.size)).mono ?_; rintro e wx2 ⟨rfl, hbl6, hB6, hO6⟩; have hx2 := HK2.out wx1 wx2 hx1 hB6 hO6))
          have HB6 := Lib.hid (HB5.out.trans ((hx1.mono hs5).trans hB6))
          have HBL6 := Lib.hid hbl6
          clear hx0 hx1 hx2 hB6 hO6 hbl6
          go_wp2_with fail
          go_roundw
          case rel => exact ⟨k + 1, by omega, by go_num, hos2, Lib.hid (by rw [hcn]; exact hnext), Lib.hid (by rw [HON.out]; exact HBL6.out), HB6⟩
          case measure => simp [intOf]; omega
    · obtain rfl : k = P.length := by omega
      rw [List.take_length] at hos HBL
      have hln := fun W h => bld_len (B := w3.heap.size) (b := w3.heap.size) (x := outP P l) (w := W) h
      have HLN := Lib.hid (bld_len HBL.out)
      have HST := Lib.hid (bld_string HBL.out (by omega))
      have HBf := Lib.hid (HB3.out.trans (HBr.out.mono hbz3))
      clear hln
      generalize outP P l = o at *
      by_cases hbig : 500 < o.size
      · have E := Lib.hid (HLO2.out hbig)
        have hbi : (500 : Int) < (o.size : Int) := by omega
        go_wp2_with (go_at_call 28; refine HLN.out.mono ?_; rintro e w' ⟨rfl, rfl⟩)
        go_ret2
        exact ⟨by rw [E.out]; rfl, HBf.out⟩
      · have E := Lib.hid (HGO2.out hbig)
        have hbi : ¬ (500 : Int) < (o.size : Int) := by omega
        have hbd : decide (500 < o.size) = false := by simpa using hbig
        go_wp2_with (first | (go_at_call 28; refine HLN.out.mono ?_; rintro e w' ⟨rfl, rfl⟩) | (go_at_call 29; refine HST.out.mono ?_; rintro e w7 ⟨rfl, _, hB7⟩))
        go_ret2
        exact ⟨by rw [E.out]; rfl, HB3.out.trans ((HBr.out.trans hB7).mono hbz3)⟩

end Go.Proofs.YthaedmldlenhgaaGreatDoor.Cell
