/-
  Format of the model.
-/
import Derived.Test.YthaedmldlenhgaaGreatDoorPlsKinds
import Derived.Test.YthaedmldlenhgaaGreatDoorFmtFacts
import Derived.Test.YthaedmldlenhgaaGreatDoorCellRow
import Derived.Test.YthaedmldlenhgaaGreatDoorCellText
import Derived.Test.YthaedmldlenhgaaGreatDoorDecText
import Derived.Deep.RegionWith
namespace Go.Proofs.YthaedmldlenhgaaGreatDoor.Cell
open Go.ChangeShapes Go.WideShapes Go.ChangeAt Go.RowKit Go.PlainAid
open Go.Proofs.YthaedmldlenhgaaGreatDoor.Dec
open Go.Proofs.YthaedmldlenhgaaGreatDoor.DecPure Go.Proofs.YthaedmldlenhgaaGreatDoor.ReadPure Go.Proofs.YthaedmldlenhgaaGreatDoor.TextPure Go.Proofs.YthaedmldlenhgaaGreatDoor.CellPure Go.Proofs.YthaedmldlenhgaaGreatDoor.Strs
set_option linter.unusedVariables false

theorem pb_keep {B : Nat} {w w' : World} {g : Nat} {k n : Int} {l : Bool} {e : Int} (h : PB w g k n l e) (hb : Below B w w') (hg : g < B) : PB w' g k n l e := (hb.block _ hg).trans h

set_option maxRecDepth 100000 in
set_option maxHeartbeats 8000000 in
theorem spec_format (B : Nat) (f : ByteArray) (v : Value) (l : List Ce) (hf : f.size ≤ 1048576) (hl : l.length ≤ 1048576) (hsz : ∀ i, i < l.length → (nthC l i).s.size ≤ 1048576) (w : World) (hB : B ≤ w.heap.size) (hx : CsAt B w v l) :
    Calls Tryz.prog 7 #[.string f, v] w (FmtEnd (fmtP f l) w) := by
  have hgb := get_bt f
  have hpl := spec_places f hf w
  unfold PlsEnd at hpl
  obtain ⟨ao, cap, rfl, hc1, hc2, hc3⟩ := hx
  have HC := Lib.hid hc3; clear hc3
  have HSZ := Lib.hid hsz; clear hsz
  cases hok : (placesP f).2 with
  | false =>
    have E : Hid (fmtP f l = (⟨#[]⟩, 1)) := Lib.hid (fmt_bad (.inl hok))
    rw [hok] at hpl
    have HPL := Lib.hid hpl
    clear hok hpl
    go_enter Tryz.func7, Tryz.ntmps7
    go_wp2_with fail
    refine HPL.out.mono ?_
    rintro e w1 ⟨rfl, hB1⟩
    have HB1 := Lib.hid hB1; clear hB1
    go_wp2_with fail
    go_ret2
    exact ⟨by rw [E.out]; rfl, HB1.out⟩
  | true =>
    obtain ⟨hf5, a, ha, hna⟩ := places_ok hok
    have hal := its_len ha (Nat.zero_le _)
    have hcl := nCv_le a
    have hbad := fmt_bad (f := f) (l := l)
    have hshort := fmt_short (l := l) hok
    have hlong := fmt_long (l := l) (a := a) hok
    have hgood := fmt_good (l := l) (a := a) hok
    rw [hok] at hpl
    generalize hn : (placesP f).1 = n at *
    subst hna
    have HBAD := Lib.hid hbad; clear hbad
    have HSH := Lib.hid hshort; clear hshort
    have HLO := Lib.hid hlong; clear hlong
    have HGO := Lib.hid hgood; clear hgood
    have HPL := Lib.hid hpl; clear hpl hok hn
    have HA := Lib.hid ha; clear ha
    go_enter Tryz.func7, Tryz.ntmps7
    go_wp2_with fail
    refine HPL.out.mono ?_
    rintro e w1 ⟨rfl, hB1⟩
    have HB1 := Lib.hid hB1; clear hB1
    go_wp2_with fail
    go_loopw [8] (fun i wr => ∃ (k : Nat), k ≤ l.length ∧ i = .int .i64 k ∧ Hid (∀ j, j < k → cOk (nthC l j).t (nthC l j).n (nthC l j).s = true) ∧ Hid (Below w.heap.size w wr)) (fun i _ => l.length - (intOf i).toNat)
    case atStart => exact ⟨0, Nat.zero_le _, rfl, Lib.hid (fun j hj => by omega), HB1⟩
    case round =>
      obtain ⟨k, hk, rfl, HO, HB⟩ := hrel
      by_cases hkl : k < l.length
      · obtain ⟨b, off, rfl, hb, hN⟩ := HC.out k hkl
        have hbw : b < w.heap.size := by omega
        have c0 := (HB.out.cell (p := ⟨b, off + k * 3, none⟩) hbw).trans hN.c0
        have c1 := (HB.out.cell (p := ⟨b, off + k * 3 + 1, none⟩) hbw).trans hN.c1
        have c2 := (HB.out.cell (p := ⟨b, off + k * 3 + 2, none⟩) hbw).trans hN.c2
        have hs := HSZ.out k hkl
        have hki : (k : Int) < (l.length : Int) := by omega
        have hcall := spec_cellOk (nthC l k).t (nthC l k).n (nthC l k).s hs wr
        cases hck : cOk (nthC l k).t (nthC l k).n (nthC l k).s with
        | true =>
          have HO2 : Hid (∀ j, j < k + 1 → cOk (nthC l j).t (nthC l j).n (nthC l j).s = true) := Lib.hid (fun j hj => by
            by_cases e : j = k
            · subst e; exact hck
            · exact HO.out j (by omega))
          rw [hck] at hcall
          have HCA := Lib.hid hcall
          clear hN hck hcall
          go_wp2_with (go_at_call 31; refine HCA.out.mono ?_; rintro e w' ⟨rfl, hB2⟩)
          go_roundw
          case rel => exact ⟨k + 1, by omega, by go_num, HO2, Lib.hid (HB.out.trans (hB2.mono HB.out.size))⟩
          case measure => simp [intOf]; omega
        | false =>
          have E := Lib.hid (HBAD.out (.inr (okL_no hkl hck)))
          rw [hck] at hcall
          have HCA := Lib.hid hcall
          clear hN hck hcall
          go_wp2_with (go_at_call 31; refine HCA.out.mono ?_; rintro e w' ⟨rfl, hB2⟩)
          go_ret2
          exact ⟨by rw [E.out]; rfl, HB.out.trans (hB2.mono HB.out.size)⟩
      · obtain rfl : k = l.length := by omega
        have hokl := okL_at HO.out
        by_cases hsh : l.length < nCv a
        · have E := Lib.hid (HSH.out hokl hsh)
          have hshi : (l.length : Int) < (nCv a : Int) := by omega
          clear hkl hokl
          go_wp2_with fail
          go_ret2
          exact ⟨by rw [E.out]; rfl, HB.out⟩
        · have hshi : ¬ (l.length : Int) < (nCv a : Int) := by omega
          have hshd : decide (l.length < nCv a) = false := decide_eq_false hsh
          have HLO2 := Lib.hid (HLO.out hokl hsh HA.out)
          have HGO2 := Lib.hid (HGO.out hokl hsh HA.out)
          clear hkl hokl
          go_wp2_with fail
          go_loopw [9, 10, 11] (fun y c i wr => ∃ (k q : Nat) (pre rest : List It) (s : ByteArray), k ≤ f.size ∧ i = .int .i64 k ∧ c = .int .i64 q ∧ y = .string s ∧ Hid (q = nCv pre) ∧ Hid (a = pre ++ rest) ∧ Hid (its f k = some rest) ∧ Hid (s = outP pre l) ∧ s.size ≤ 500 + k ∧ Hid (Below w.heap.size w wr)) (fun _ _ i _ => f.size - (intOf i).toNat)
          case atStart => exact ⟨0, 0, [], a, ⟨#[]⟩, Nat.zero_le _, rfl, rfl, rfl, rfl, rfl, HA, rfl, Nat.zero_le _, HB⟩
          case round =>
            obtain ⟨k, q, pre, rest, s, hk, rfl, rfl, rfl, HQ, HR, HI, HS, hsz, HB⟩ := hrel
            have hbz := HB.out.size
            by_cases hlt : k < f.size
            · by_cases hc : bt f k = 37
              · have b0 := bt_nonneg f k
                have b1 := bt_le f k
                have hki : (k : Int) < (f.size : Int) := by omega
                have hcb : (bt f k == 37) = true := by rw [hc]; rfl
                have hcn : (bt f k != 37) = false := by rw [hc]; rfl
                have hpl := spec_place f k hlt hf wr
                have hfact := plc_fact (f := f) hlt
                have hbad := its_bad hlt hc
                have hpct := its_pct hlt hc
                have hcv := its_cv hlt hc
                rw [HI.out] at hbad hpct hcv
                rcases hpe : plc f k with ⟨kd, wd, lf, st⟩
                rw [hpe] at hpl hfact hbad hpct hcv
                unfold PlcEnd Plc.val at hpl
                simp only at hpl hfact hbad hpct hcv
                have HPL := Lib.hid hpl; clear hpl hpe
                rcases hfact with h0 | ⟨hkd, h1, h2, h3, h4⟩
                · cases hbad h0
                obtain ⟨sq, rfl⟩ : ∃ q : Nat, st = (q : Int) := ⟨st.toNat, by omega⟩
                rw [Int.toNat_natCast] at hpct hcv
                clear hbad
                have hq1 : (sq : Int) - 1 + 1 = (sq : Int) := by omega
                by_cases hpc : kd = 37
                · subst hpc
                  obtain ⟨r, hr, hrest⟩ := Option.map_eq_some_iff.1 (hpct rfl).symm
                  have HI2 := Lib.hid hr
                  have HR2 : Hid (a = (pre ++ [⟨0, ⟨#[37]⟩, 0, false⟩]) ++ r) := Lib.hid (by rw [HR.out, ← hrest]; simp)
                  have hsn := outP_snoc ⟨0, ⟨#[37]⟩, 0, false⟩ pre l
                  rw [show pieceP ⟨0, ⟨#[37]⟩, 0, false⟩ (nthC l (nCv pre)) = ⟨#[37]⟩ from if_pos rfl, ← HS.out] at hsn
                  clear hpct hcv hkd hr hrest
                  go_wp2_with fail
                  refine HPL.out.mono ?_
                  rintro e w2 ⟨rfl, hB⟩
                  have HX0 := Lib.hid (PB.new w2 37 wd lf sq)
                  have hB2 := HB.out.trans (hB.mono hbz)
                  have HB2 := Lib.hid (hB2.alloc hB2.size (.cells #[.int .u8 37, .int .i64 wd, .bool lf, .int .i64 (sq : Int)] 70))
                  clear hB hB2
                  obtain ⟨c0, c1, c2, c3⟩ := HX0.out.cells
                  have hyz : (s ++ (⟨#[37]⟩ : ByteArray)).size = s.size + 1 := by rw [ByteArray.size_append]; rfl
                  obtain ⟨y, hy⟩ : ∃ y, y = s ++ (⟨#[37]⟩ : ByteArray) := ⟨_, rfl⟩
                  have HYE := Lib.hid hy
                  have HY : Hid (y = outP (pre ++ [⟨0, ⟨#[37]⟩, 0, false⟩]) l) := Lib.hid (by rw [hy]; exact hsn.symm)
                  rw [← hy] at hyz
                  clear hsn hy
                  by_cases hbig : 500 < y.size
                  · have E := Lib.hid (HLO2.out (by rw [HR2.out]; have := outP_app (pre ++ [⟨0, ⟨#[37]⟩, 0, false⟩]) r l; rw [← HY.out] at this; omega))
                    have hbi : (500 : Int) < (y.size : Int) := by omega
                    go_wp2_with fail
                    go_ret2
                    exact ⟨by rw [E.out]; rfl, HB2.out⟩
                  · have hbi : ¬ (500 : Int) < (y.size : Int) := by omega
                    have hbd : decide (500 < y.size) = false := decide_eq_false hbig
                    go_wp2_with fail
                    go_roundw
                    case rel => exact ⟨sq, q, pre ++ [⟨0, ⟨#[37]⟩, 0, false⟩], r, y, by omega, by go_num, rfl, by rw [HYE.out], Lib.hid (by rw [cv_snoc, if_pos rfl]; exact HQ.out), HR2, HI2, HY, by omega, HB2⟩
                    case measure => simp [intOf]; omega
                by_cases hk115 : kd = 115
                · subst hk115
                  obtain ⟨r, hr, hrest⟩ := Option.map_eq_some_iff.1 (hcv (by omega) (by omega)).symm
                  have HI2 := Lib.hid hr
                  have HR2 : Hid (a = (pre ++ [⟨115, ⟨#[]⟩, wd, lf⟩]) ++ r) := Lib.hid (by rw [HR.out, ← hrest]; simp)
                  have hql : q < l.length := by
                    have h9 := cv_rest pre ⟨115, ⟨#[]⟩, wd, lf⟩ r (by simp)
                    rw [HR.out, ← hrest] at hsh
                    rw [HQ.out]
                    omega
                  have hsn := outP_snoc ⟨115, ⟨#[]⟩, wd, lf⟩ pre l
                  rw [← HS.out, ← HQ.out, show pieceP ⟨115, ⟨#[]⟩, wd, lf⟩ (nthC l q) = padP (cStr (nthC l q).t (nthC l q).n (nthC l q).s) wd lf from rfl] at hsn
                  clear hpct hcv hkd hr hrest
                  obtain ⟨b, off, rfl, hb, hN⟩ := HC.out q hql
                  have hbw : b < w.heap.size := by omega
                  have hqi : (q : Int) < (l.length : Int) := by omega
                  have hcs := HSZ.out q hql
                  have hts := fun W => spec_toStr (nthC l q).t (nthC l q).n (nthC l q).s hcs W
                  have htz := cStr_le (nthC l q).t (nthC l q).n (nthC l q).s
                  obtain ⟨tx, htx⟩ : ∃ tx, tx = cStr (nthC l q).t (nthC l q).n (nthC l q).s := ⟨_, rfl⟩
                  rw [← htx] at hts htz hsn
                  have hpd := fun W => spec_pad tx 115 wd lf sq (by omega) ⟨h3, h4⟩ W
                  have hpz := padP_size tx wd lf
                  generalize padP tx wd lf = pd at *
                  have hpz2 : pd.size ≤ 2000000 := by omega
                  have HTS := Lib.hid hts; clear hts
                  have HPD := Lib.hid hpd; clear hpd
                  clear htx htz hpz
                  go_wp2_with fail
                  refine HPL.out.mono ?_
                  rintro e w2 ⟨rfl, hB⟩
                  have HX0 := Lib.hid (PB.new w2 115 wd lf sq)
                  have hB2 := HB.out.trans (hB.mono hbz)
                  have HB2 := Lib.hid (hB2.alloc hB2.size (.cells #[.int .u8 115, .int .i64 wd, .bool lf, .int .i64 (sq : Int)] 70))
                  clear hB hB2
                  have HE := Lib.hid (show Below w.heap.size w (w2.alloc (.cells #[.int .u8 115, .int .i64 wd, .bool lf, .int .i64 (sq : Int)] 70)) from HB2.out)
                  obtain ⟨g, hg⟩ : ∃ g, g = w2.heap.size := ⟨_, rfl⟩
                  rw [← hg] at HX0
                  have hd0 := (HB2.out.cell (p := ⟨b, off + q * 3, none⟩) hbw).trans hN.c0
                  have hd1 := (HB2.out.cell (p := ⟨b, off + q * 3 + 1, none⟩) hbw).trans hN.c1
                  have hd2 := (HB2.out.cell (p := ⟨b, off + q * 3 + 2, none⟩) hbw).trans hN.c2
                  obtain ⟨x0, x1, x2, x3⟩ := HX0.out.cells
                  have hgl := HX0.out.lt
                  rw [hg] at x0 x1 x2 x3
                  go_wp2_with fail
                  rw [← hg] at *
                  generalize w2.alloc (.cells #[.int .u8 115, .int .i64 wd, .bool lf, .int .i64 (sq : Int)] 70) = v2 at *
                  have g0 : v2.drew.cell? ⟨b, off + q * 3, none⟩ = some (.int .i64 (nthC l q).t) := hd0
                  have g1 : v2.drew.cell? ⟨b, off + q * 3 + 1, none⟩ = some (.int .i64 (nthC l q).n) := hd1
                  have g2 : v2.drew.cell? ⟨b, off + q * 3 + 2, none⟩ = some (.string (nthC l q).s) := hd2
                  have HXD : Hid (PB v2.drew g 115 wd lf sq) := HX0
                  obtain ⟨x0d, x1d, x2d, x3d⟩ := HXD.out.cells
                  have HGL : Hid (g < v2.drew.heap.size) := hgl
                  have HED : Hid (Below w.heap.size w v2.drew) := HE.out.drew
                  clear hd0 hd1 hd2 x0 x1 x2 x3
                  go_region_with (first | (go_at_call 34; refine (HTS.out _).mono ?_; rintro e w3 ⟨rfl, hB3⟩; obtain ⟨y0, y1, y2, y3⟩ := (pb_keep HXD.out hB3 HGL.out).cells) | (go_at_call 33; refine (HPD.out _).mono ?_; rintro e w4 ⟨rfl, hB4⟩))
                  all_goals
                    have HB3 := Lib.hid (HED.out.trans (hB3.mono HED.out.size))
                    have HX3 := Lib.hid (pb_keep HXD.out hB3 HGL.out)
                    have HB4 := Lib.hid (HB3.out.trans (hB4.mono HB3.out.size))
                    obtain ⟨z0, z1, z2, z3⟩ := (pb_keep HX3.out hB4 HX3.out.lt).cells
                    have hyz : (s ++ pd).size = s.size + pd.size := ByteArray.size_append
                    obtain ⟨y, hy⟩ : ∃ y, y = s ++ pd := ⟨_, rfl⟩
                    have HYE := Lib.hid hy
                    have HY : Hid (y = outP (pre ++ [⟨115, ⟨#[]⟩, wd, lf⟩]) l) := Lib.hid (by rw [hy]; exact hsn.symm)
                    rw [← hy] at hyz
                    clear hsn hy
                    by_cases hbig : 500 < y.size
                    · have E := Lib.hid (HLO2.out (by rw [HR2.out]; have := outP_app (pre ++ [⟨115, ⟨#[]⟩, wd, lf⟩]) r l; rw [← HY.out] at this; omega))
                      have hbi : (500 : Int) < (y.size : Int) := by omega
                      go_wp2_with fail
                      go_ret2
                      exact ⟨by rw [E.out]; rfl, HB4.out⟩
                    · have hbi : ¬ (500 : Int) < (y.size : Int) := by omega
                      have hbd : decide (500 < y.size) = false := decide_eq_false hbig
                      go_wp2_with fail
                      go_roundw
                      case rel => exact ⟨sq, q + 1, pre ++ [⟨115, ⟨#[]⟩, wd, lf⟩], r, y, by omega, by go_num, by go_num, by rw [HYE.out], Lib.hid (by rw [cv_snoc, if_neg (by simp), ← HQ.out]), HR2, HI2, HY, by omega, HB4⟩
                      case measure => simp [intOf]; omega
                have hk100 : kd = 100 := by omega
                subst hk100
                obtain ⟨r, hr, hrest⟩ := Option.map_eq_some_iff.1 (hcv (by omega) (by omega)).symm
                have HI2 := Lib.hid hr
                have HR2 : Hid (a = (pre ++ [⟨100, ⟨#[]⟩, wd, lf⟩]) ++ r) := Lib.hid (by rw [HR.out, ← hrest]; simp)
                have hql : q < l.length := by
                  have h9 := cv_rest pre ⟨100, ⟨#[]⟩, wd, lf⟩ r (by simp)
                  rw [HR.out, ← hrest] at hsh
                  rw [HQ.out]
                  omega
                have hsn := outP_snoc ⟨100, ⟨#[]⟩, wd, lf⟩ pre l
                rw [← HS.out, ← HQ.out, show pieceP ⟨100, ⟨#[]⟩, wd, lf⟩ (nthC l q) = padP (dtB (intV (cNum (nthC l q).t (nthC l q).n (nthC l q).s))) wd lf from rfl] at hsn
                clear hpct hcv hkd hr hrest
                obtain ⟨b, off, rfl, hb, hN⟩ := HC.out q hql
                have hbw : b < w.heap.size := by omega
                have hqi : (q : Int) < (l.length : Int) := by omega
                have hcs := HSZ.out q hql
                have htn := fun W => spec_toNum (nthC l q).t (nthC l q).n (nthC l q).s hcs W
                have hti := fun W => spec_int (cNum (nthC l q).t (nthC l q).n (nthC l q).s) W
                have hts := fun W => spec_text (intV (cNum (nthC l q).t (nthC l q).n (nthC l q).s)) W
                have htz := dt_le (intV (cNum (nthC l q).t (nthC l q).n (nthC l q).s))
                obtain ⟨tx, htx⟩ : ∃ tx, tx = dtB (intV (cNum (nthC l q).t (nthC l q).n (nthC l q).s)) := ⟨_, rfl⟩
                rw [← htx] at hts htz hsn
                have hpd := fun W => spec_pad tx 100 wd lf sq (by omega) ⟨h3, h4⟩ W
                have hpz := padP_size tx wd lf
                generalize padP tx wd lf = pd at *
                have hpz2 : pd.size ≤ 2000000 := by omega
                have HTS := Lib.hid hts; clear hts
                have HPD := Lib.hid hpd; clear hpd
                have HTN := Lib.hid htn; clear htn
                have HTI := Lib.hid hti; clear hti
                clear htx htz hpz
                go_wp2_with fail
                refine HPL.out.mono ?_
                rintro e w2 ⟨rfl, hB⟩
                have HX0 := Lib.hid (PB.new w2 100 wd lf sq)
                have hB2 := HB.out.trans (hB.mono hbz)
                have HB2 := Lib.hid (hB2.alloc hB2.size (.cells #[.int .u8 100, .int .i64 wd, .bool lf, .int .i64 (sq : Int)] 70))
                clear hB hB2
                have HE := Lib.hid (show Below w.heap.size w (w2.alloc (.cells #[.int .u8 100, .int .i64 wd, .bool lf, .int .i64 (sq : Int)] 70)) from HB2.out)
                obtain ⟨g, hg⟩ : ∃ g, g = w2.heap.size := ⟨_, rfl⟩
                rw [← hg] at HX0
                have hd0 := (HB2.out.cell (p := ⟨b, off + q * 3, none⟩) hbw).trans hN.c0
                have hd1 := (HB2.out.cell (p := ⟨b, off + q * 3 + 1, none⟩) hbw).trans hN.c1
                have hd2 := (HB2.out.cell (p := ⟨b, off + q * 3 + 2, none⟩) hbw).trans hN.c2
                obtain ⟨x0, x1, x2, x3⟩ := HX0.out.cells
                have hgl := HX0.out.lt
                rw [hg] at x0 x1 x2 x3
                go_wp2_with fail
                rw [← hg] at *
                generalize w2.alloc (.cells #[.int .u8 100, .int .i64 wd, .bool lf, .int .i64 (sq : Int)] 70) = v2 at *
                have g0 : v2.drew.cell? ⟨b, off + q * 3, none⟩ = some (.int .i64 (nthC l q).t) := hd0
                have g1 : v2.drew.cell? ⟨b, off + q * 3 + 1, none⟩ = some (.int .i64 (nthC l q).n) := hd1
                have g2 : v2.drew.cell? ⟨b, off + q * 3 + 2, none⟩ = some (.string (nthC l q).s) := hd2
                have HXD : Hid (PB v2.drew g 100 wd lf sq) := HX0
                obtain ⟨x0d, x1d, x2d, x3d⟩ := HXD.out.cells
                have HGL : Hid (g < v2.drew.heap.size) := hgl
                have HED : Hid (Below w.heap.size w v2.drew) := HE.out.drew
                clear hd0 hd1 hd2 x0 x1 x2 x3
                go_region_with (first | (go_at_call 37; refine (HTN.out _).mono ?_; rintro e w3a ⟨rfl, hB3a⟩; obtain ⟨u0, u1, u2, u3⟩ := (pb_keep HXD.out hB3a HGL.out).cells) | (go_at_call 36; refine (HTI.out _).mono ?_; rintro e w' ⟨rfl, rfl⟩) | (go_at_call 35; refine (HTS.out _).mono ?_; rintro e w3 ⟨rfl, hB3b⟩; obtain ⟨y0, y1, y2, y3⟩ := (pb_keep (pb_keep HXD.out hB3a HGL.out) hB3b (Nat.lt_of_lt_of_le HGL.out hB3a.size)).cells) | (go_at_call 33; refine (HPD.out _).mono ?_; rintro e w4 ⟨rfl, hB4⟩))
                all_goals
                  have HB3 := Lib.hid ((HED.out.trans (hB3a.mono HED.out.size)).trans (hB3b.mono (HED.out.trans (hB3a.mono HED.out.size)).size))
                  have HX3 := Lib.hid (pb_keep (pb_keep HXD.out hB3a HGL.out) hB3b (Nat.lt_of_lt_of_le HGL.out hB3a.size))
                  have HB4 := Lib.hid (HB3.out.trans (hB4.mono HB3.out.size))
                  obtain ⟨z0, z1, z2, z3⟩ := (pb_keep HX3.out hB4 HX3.out.lt).cells
                  have hyz : (s ++ pd).size = s.size + pd.size := ByteArray.size_append
                  obtain ⟨y, hy⟩ : ∃ y, y = s ++ pd := ⟨_, rfl⟩
                  have HYE := Lib.hid hy
                  have HY : Hid (y = outP (pre ++ [⟨100, ⟨#[]⟩, wd, lf⟩]) l) := Lib.hid (by rw [hy]; exact hsn.symm)
                  rw [← hy] at hyz
                  clear hsn hy
                  by_cases hbig : 500 < y.size
                  · have E := Lib.hid (HLO2.out (by rw [HR2.out]; have := outP_app (pre ++ [⟨100, ⟨#[]⟩, wd, lf⟩]) r l; rw [← HY.out] at this; omega))
                    have hbi : (500 : Int) < (y.size : Int) := by omega
                    go_wp2_with fail
                    go_ret2
                    exact ⟨by rw [E.out]; rfl, HB4.out⟩
                  · have hbi : ¬ (500 : Int) < (y.size : Int) := by omega
                    have hbd : decide (500 < y.size) = false := decide_eq_false hbig
                    go_wp2_with fail
                    go_roundw
                    case rel => exact ⟨sq, q + 1, pre ++ [⟨100, ⟨#[]⟩, wd, lf⟩], r, y, by omega, by go_num, by go_num, by rw [HYE.out], Lib.hid (by rw [cv_snoc, if_neg (by simp), ← HQ.out]), HR2, HI2, HY, by omega, HB4⟩
                    case measure => simp [intOf]; omega
              · have hcb : (bt f k == 37) = false := by simpa using hc
                have hst := its_lit hlt hc
                rw [HI.out] at hst
                obtain ⟨r, hr, hrest⟩ := Option.map_eq_some_iff.1 hst.symm
                have HI2 := Lib.hid hr
                have HR2 : Hid (a = (pre ++ [⟨0, f.extract k (k + 1), 0, false⟩]) ++ r) := Lib.hid (by rw [HR.out, ← hrest]; simp)
                have hex := ext_one hlt
                have hsn := outP_snoc ⟨0, f.extract k (k + 1), 0, false⟩ pre l
                rw [show pieceP ⟨0, f.extract k (k + 1), 0, false⟩ (nthC l (nCv pre)) = f.extract k (k + 1) from if_pos rfl, ← HS.out] at hsn
                have HSN := Lib.hid hsn
                clear hst hr hrest hsn
                have hki : (k : Int) < (f.size : Int) := by omega
                have hk1 : (k : Int) + 1 ≤ (f.size : Int) := by omega
                go_wp2_with fail
                go_roundw
                case rel => exact ⟨k + 1, q, pre ++ [⟨0, f.extract k (k + 1), 0, false⟩], r, s ++ f.extract k (k + 1), by omega, by go_num, rfl, rfl, Lib.hid (by rw [cv_snoc, if_pos rfl]; exact HQ.out), HR2, HI2, Lib.hid HSN.out.symm, by rw [ByteArray.size_append]; omega, HB⟩
                case measure => simp [intOf]; omega
            · obtain rfl : k = f.size := by omega
              have he := its_end (f := f) (i := f.size) (by omega)
              rw [HI.out] at he
              obtain rfl : rest = [] := Option.some.inj he
              have HA3 : Hid (s = outP a l) := Lib.hid (by rw [HR.out, List.append_nil]; exact HS.out)
              clear hlt he
              by_cases hbig : 500 < s.size
              · have E := Lib.hid (HLO2.out (by rw [← HA3.out]; exact hbig))
                have hbi : (500 : Int) < (s.size : Int) := by omega
                go_wp2_with fail
                go_ret2
                exact ⟨by rw [E.out]; rfl, HB.out⟩
              · have E := Lib.hid (HGO2.out (by rw [← HA3.out]; exact hbig))
                have hbi : ¬ (500 : Int) < (s.size : Int) := by omega
                have hbd : decide (500 < s.size) = false := decide_eq_false hbig
                go_wp2_with fail
                go_ret2
                exact ⟨by rw [E.out, ← HA3.out]; rfl, HB.out⟩

end Go.Proofs.YthaedmldlenhgaaGreatDoor.Cell
