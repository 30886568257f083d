/-
  How the program's writer writes a kid.
-/
import Derived.Test.YtdgbbgkdoekfkaaParts
namespace Go.Proofs.Ytdgbbgkdoekfkaa.Re
open Go.ChangeShapes Go.WideShapes Go.ChangeAt Go.RowKit Go.PlainAid
open Go.Proofs.Ytdgbbgkdoekfkaa.RePure
set_option linter.unusedVariables false

set_option maxRecDepth 100000 in
set_option maxHeartbeats 8000000 in
theorem kid_ok (l : List Nd) (i : Nat) (hW : WriteOK l i) (S : Nat → Prop) (w : World) (v : Value) (g : Nat) (L : List Int) (nest deep bond : Int) (hp : PartAt S w l i v) (hw : WC S w g L nest deep) (h0 : 0 ≤ nest) (h1 : nest + 1 + i ≤ 1000) (h2 : nest ≤ deep) (hb : bond = 1 ∨ bond = 2) :
    Calls Try.prog 130 #[.pointer (some ⟨g, 0, none⟩), v, .int .i64 bond] w (Written S g L nest deep (pieceB bond (nth l i).kind (tx l i)) w) := by
  have HP := Lib.hid hp
  have HW := Lib.hid hw
  have HOK := Lib.hid hW; clear hW
  have HN : Hid (∀ o, WC S (w.alloc o) g L nest deep) := fun o => wc_new hw o
  have HK : Hid (∀ o, Keep S w (w.alloc o)) := fun o => Keep.alloc w o hw.1
  have hng : ¬ S g := hw.2.1
  have HNG := Lib.hid hng; clear hng
  have HD := Lib.hid h2; clear h2
  have q1 : nest + i ≤ 1000 := by omega
  have Q1 := Lib.hid q1; clear q1
  have q2 : nest + 1 + i ≤ 1000 := h1
  cases hp with
  | set hk =>
    rcases hb with rfl | rfl
    · have hpi : pieceB 1 (nth l i).kind (tx l i) = tx l i := by rw [hk]; rfl
      have HPI := Lib.hid hpi; clear hpi
      go_enter Try.func130, Try.ntmps130
      go_wp2_with fail
      refine (bond_set _ _ _).mono ?_
      rintro e w1 ⟨rfl, o, rfl⟩
      obtain ⟨f, p, hwr, hcall⟩ := HOK.out S _ _ g L nest deep (HP.out.keep (HK.out o) (fun _ h => h)) (HN.out o) h0 Q1.out HD.out
      have hfp : f = 116 ∧ p = .agg #[.bool (nth l i).neg, .string (nth l i).set] := by unfold Wr at hwr; simp only [Value.iface.injEq] at hwr; rcases hwr with ⟨⟨q, rfl⟩, rfl⟩ | ⟨⟨q, rfl⟩, rfl⟩ | ⟨⟨q, rfl⟩, rfl⟩ | ⟨⟨q, rfl⟩, rfl⟩ | ⟨⟨q, rfl⟩, rfl⟩ | ⟨⟨q, rfl⟩, rfl⟩ | ⟨⟨q, rfl⟩, rfl⟩ | ⟨⟨q, rfl⟩, rfl⟩ <;> first | exact ⟨rfl, rfl⟩ | (exact absurd q (by decide))
      obtain ⟨rfl, rfl⟩ := hfp
      have HCA := Lib.hid hcall; clear hcall hwr
      go_wp2_with fail
      refine HCA.out.mono ?_
      rintro e w2 ⟨rfl, hw2, hk2⟩
      have H2 := Lib.hid hw2
      have HK2 := Lib.hid ((HK.out o).trans hk2); clear hw2 hk2
      go_wp2_with fail
      go_end0
      exact ⟨rfl, by rw [HPI.out]; exact H2.out, HK2.out⟩
    · have hpi : pieceB 2 (nth l i).kind (tx l i) = tx l i := by rw [hk]; rfl
      have HPI := Lib.hid hpi; clear hpi
      go_enter Try.func130, Try.ntmps130
      go_wp2_with fail
      refine (bond_set _ _ _).mono ?_
      rintro e w1 ⟨rfl, o, rfl⟩
      obtain ⟨f, p, hwr, hcall⟩ := HOK.out S _ _ g L nest deep (HP.out.keep (HK.out o) (fun _ h => h)) (HN.out o) h0 Q1.out HD.out
      have hfp : f = 116 ∧ p = .agg #[.bool (nth l i).neg, .string (nth l i).set] := by unfold Wr at hwr; simp only [Value.iface.injEq] at hwr; rcases hwr with ⟨⟨q, rfl⟩, rfl⟩ | ⟨⟨q, rfl⟩, rfl⟩ | ⟨⟨q, rfl⟩, rfl⟩ | ⟨⟨q, rfl⟩, rfl⟩ | ⟨⟨q, rfl⟩, rfl⟩ | ⟨⟨q, rfl⟩, rfl⟩ | ⟨⟨q, rfl⟩, rfl⟩ | ⟨⟨q, rfl⟩, rfl⟩ <;> first | exact ⟨rfl, rfl⟩ | (exact absurd q (by decide))
      obtain ⟨rfl, rfl⟩ := hfp
      have HCA := Lib.hid hcall; clear hcall hwr
      go_wp2_with fail
      refine HCA.out.mono ?_
      rintro e w2 ⟨rfl, hw2, hk2⟩
      have H2 := Lib.hid hw2
      have HK2 := Lib.hid ((HK.out o).trans hk2); clear hw2 hk2
      go_wp2_with fail
      go_end0
      exact ⟨rfl, by rw [HPI.out]; exact H2.out, HK2.out⟩
  | beg hk =>
    rcases hb with rfl | rfl
    · have hpi : pieceB 1 (nth l i).kind (tx l i) = tx l i := by rw [hk]; rfl
      have HPI := Lib.hid hpi; clear hpi
      go_enter Try.func130, Try.ntmps130
      go_wp2_with fail
      refine (bond_beg (.bool false) (.bool false) _).mono ?_
      rintro e w1 ⟨rfl, o, rfl⟩
      obtain ⟨f, p, hwr, hcall⟩ := HOK.out S _ _ g L nest deep (HP.out.keep (HK.out o) (fun _ h => h)) (HN.out o) h0 Q1.out HD.out
      have hfp : f = 122 ∧ p = .agg #[] := by unfold Wr at hwr; simp only [Value.iface.injEq] at hwr; rcases hwr with ⟨⟨q, rfl⟩, rfl⟩ | ⟨⟨q, rfl⟩, rfl⟩ | ⟨⟨q, rfl⟩, rfl⟩ | ⟨⟨q, rfl⟩, rfl⟩ | ⟨⟨q, rfl⟩, rfl⟩ | ⟨⟨q, rfl⟩, rfl⟩ | ⟨⟨q, rfl⟩, rfl⟩ | ⟨⟨q, rfl⟩, rfl⟩ <;> first | exact ⟨rfl, rfl⟩ | (exact absurd q (by decide))
      obtain ⟨rfl, rfl⟩ := hfp
      have HCA := Lib.hid hcall; clear hcall hwr
      go_wp2_with fail
      refine HCA.out.mono ?_
      rintro e w2 ⟨rfl, hw2, hk2⟩
      have H2 := Lib.hid hw2
      have HK2 := Lib.hid ((HK.out o).trans hk2); clear hw2 hk2
      go_wp2_with fail
      go_end0
      exact ⟨rfl, by rw [HPI.out]; exact H2.out, HK2.out⟩
    · have hpi : pieceB 2 (nth l i).kind (tx l i) = tx l i := by rw [hk]; rfl
      have HPI := Lib.hid hpi; clear hpi
      go_enter Try.func130, Try.ntmps130
      go_wp2_with fail
      refine (bond_beg (.bool false) (.bool false) _).mono ?_
      rintro e w1 ⟨rfl, o, rfl⟩
      obtain ⟨f, p, hwr, hcall⟩ := HOK.out S _ _ g L nest deep (HP.out.keep (HK.out o) (fun _ h => h)) (HN.out o) h0 Q1.out HD.out
      have hfp : f = 122 ∧ p = .agg #[] := by unfold Wr at hwr; simp only [Value.iface.injEq] at hwr; rcases hwr with ⟨⟨q, rfl⟩, rfl⟩ | ⟨⟨q, rfl⟩, rfl⟩ | ⟨⟨q, rfl⟩, rfl⟩ | ⟨⟨q, rfl⟩, rfl⟩ | ⟨⟨q, rfl⟩, rfl⟩ | ⟨⟨q, rfl⟩, rfl⟩ | ⟨⟨q, rfl⟩, rfl⟩ | ⟨⟨q, rfl⟩, rfl⟩ <;> first | exact ⟨rfl, rfl⟩ | (exact absurd q (by decide))
      obtain ⟨rfl, rfl⟩ := hfp
      have HCA := Lib.hid hcall; clear hcall hwr
      go_wp2_with fail
      refine HCA.out.mono ?_
      rintro e w2 ⟨rfl, hw2, hk2⟩
      have H2 := Lib.hid hw2
      have HK2 := Lib.hid ((HK.out o).trans hk2); clear hw2 hk2
      go_wp2_with fail
      go_end0
      exact ⟨rfl, by rw [HPI.out]; exact H2.out, HK2.out⟩
  | fin hk =>
    rcases hb with rfl | rfl
    · have hpi : pieceB 1 (nth l i).kind (tx l i) = tx l i := by rw [hk]; rfl
      have HPI := Lib.hid hpi; clear hpi
      go_enter Try.func130, Try.ntmps130
      go_wp2_with fail
      refine (bond_fin (.bool false) (.bool false) _).mono ?_
      rintro e w1 ⟨rfl, o, rfl⟩
      obtain ⟨f, p, hwr, hcall⟩ := HOK.out S _ _ g L nest deep (HP.out.keep (HK.out o) (fun _ h => h)) (HN.out o) h0 Q1.out HD.out
      have hfp : f = 125 ∧ p = .agg #[] := by unfold Wr at hwr; simp only [Value.iface.injEq] at hwr; rcases hwr with ⟨⟨q, rfl⟩, rfl⟩ | ⟨⟨q, rfl⟩, rfl⟩ | ⟨⟨q, rfl⟩, rfl⟩ | ⟨⟨q, rfl⟩, rfl⟩ | ⟨⟨q, rfl⟩, rfl⟩ | ⟨⟨q, rfl⟩, rfl⟩ | ⟨⟨q, rfl⟩, rfl⟩ | ⟨⟨q, rfl⟩, rfl⟩ <;> first | exact ⟨rfl, rfl⟩ | (exact absurd q (by decide))
      obtain ⟨rfl, rfl⟩ := hfp
      have HCA := Lib.hid hcall; clear hcall hwr
      go_wp2_with fail
      refine HCA.out.mono ?_
      rintro e w2 ⟨rfl, hw2, hk2⟩
      have H2 := Lib.hid hw2
      have HK2 := Lib.hid ((HK.out o).trans hk2); clear hw2 hk2
      go_wp2_with fail
      go_end0
      exact ⟨rfl, by rw [HPI.out]; exact H2.out, HK2.out⟩
    · have hpi : pieceB 2 (nth l i).kind (tx l i) = tx l i := by rw [hk]; rfl
      have HPI := Lib.hid hpi; clear hpi
      go_enter Try.func130, Try.ntmps130
      go_wp2_with fail
      refine (bond_fin (.bool false) (.bool false) _).mono ?_
      rintro e w1 ⟨rfl, o, rfl⟩
      obtain ⟨f, p, hwr, hcall⟩ := HOK.out S _ _ g L nest deep (HP.out.keep (HK.out o) (fun _ h => h)) (HN.out o) h0 Q1.out HD.out
      have hfp : f = 125 ∧ p = .agg #[] := by unfold Wr at hwr; simp only [Value.iface.injEq] at hwr; rcases hwr with ⟨⟨q, rfl⟩, rfl⟩ | ⟨⟨q, rfl⟩, rfl⟩ | ⟨⟨q, rfl⟩, rfl⟩ | ⟨⟨q, rfl⟩, rfl⟩ | ⟨⟨q, rfl⟩, rfl⟩ | ⟨⟨q, rfl⟩, rfl⟩ | ⟨⟨q, rfl⟩, rfl⟩ | ⟨⟨q, rfl⟩, rfl⟩ <;> first | exact ⟨rfl, rfl⟩ | (exact absurd q (by decide))
      obtain ⟨rfl, rfl⟩ := hfp
      have HCA := Lib.hid hcall; clear hcall hwr
      go_wp2_with fail
      refine HCA.out.mono ?_
      rintro e w2 ⟨rfl, hw2, hk2⟩
      have H2 := Lib.hid hw2
      have HK2 := Lib.hid ((HK.out o).trans hk2); clear hw2 hk2
      go_wp2_with fail
      go_end0
      exact ⟨rfl, by rw [HPI.out]; exact H2.out, HK2.out⟩
  | @seq _ b o' cap u hk hc hu =>
    clear hc hu
    rcases hb with rfl | rfl
    · have hpi : pieceB 1 (nth l i).kind (tx l i) = tx l i := by rw [hk]; rfl
      have HPI := Lib.hid hpi; clear hpi
      go_enter Try.func130, Try.ntmps130
      go_wp2_with fail
      refine (bond_seq _ (.bool false) _).mono ?_
      rintro e w1 ⟨rfl, o, rfl⟩
      obtain ⟨f, p, hwr, hcall⟩ := HOK.out S _ _ g L nest deep (HP.out.keep (HK.out o) (fun _ h => h)) (HN.out o) h0 Q1.out HD.out
      have hfp : f = 128 ∧ p = .agg #[.slice (some ⟨b, o', none⟩) (nth l i).kids.length cap] := by unfold Wr at hwr; simp only [Value.iface.injEq] at hwr; rcases hwr with ⟨⟨q, rfl⟩, rfl⟩ | ⟨⟨q, rfl⟩, rfl⟩ | ⟨⟨q, rfl⟩, rfl⟩ | ⟨⟨q, rfl⟩, rfl⟩ | ⟨⟨q, rfl⟩, rfl⟩ | ⟨⟨q, rfl⟩, rfl⟩ | ⟨⟨q, rfl⟩, rfl⟩ | ⟨⟨q, rfl⟩, rfl⟩ <;> first | exact ⟨rfl, rfl⟩ | (exact absurd q (by decide))
      obtain ⟨rfl, rfl⟩ := hfp
      have HCA := Lib.hid hcall; clear hcall hwr
      go_wp2_with fail
      refine HCA.out.mono ?_
      rintro e w2 ⟨rfl, hw2, hk2⟩
      have H2 := Lib.hid hw2
      have HK2 := Lib.hid ((HK.out o).trans hk2); clear hw2 hk2
      go_wp2_with fail
      go_end0
      exact ⟨rfl, by rw [HPI.out]; exact H2.out, HK2.out⟩
    · have hpi : pieceB 2 (nth l i).kind (tx l i) = (40 :: (tx l i).1 ++ [41], (tx l i).2 + 1) := by rw [hk]; rfl
      have HPI := Lib.hid hpi; clear hpi
      go_enter Try.func130, Try.ntmps130
      go_wp2_with fail
      refine (bond_seq _ (.bool false) _).mono ?_
      rintro e w1 ⟨rfl, o, rfl⟩
      have hw1 := wc_new hw o
      obtain ⟨c1, c2, z1, z2⟩ := wc_cells hw1
      have hwn := wc_nest hw1 (nest + 1)
      obtain ⟨d1, d2, y1, y2⟩ := wc_cells hwn
      have HWN := Lib.hid hwn; clear hwn hw1
      go_wp2_with fail
      have hkn := (HK.out o).trans (Keep.setCell (w.alloc o) ⟨g, 1, none⟩ (.int .i64 (nest + 1)) HNG.out)
      clear c1 c2 z1 z2
      generalize hw2 : (w.alloc o).setCell ⟨g, 1, none⟩ (.int .i64 (nest + 1)) = w2 at *
      clear hw2
      go_still_tail 12, (by kernel_rfl)
      change wpList _ _ _ _ _ w2.drew
      have HWN3 := Lib.hid (wc_drew HWN.out)
      have hkn3 := hkn.trans (keep_drew w2)
      have e2 : w2.drew.cell? ⟨g, 2, none⟩ = some (.int .i64 deep) := d2
      have x2 : w2.drew.frozen? ⟨g, 2, none⟩ = false := y2
      clear hkn d1 d2 y1 y2 HWN
      generalize w2.drew = w3 at *
      have hwd := wc_deep HWN3.out (max deep (nest + 1))
      have hkd := hkn3.trans (Keep.setCell w3 ⟨g, 2, none⟩ (.int .i64 (max deep (nest + 1))) HNG.out)
      have HWD := Lib.hid hwd
      have HKD := Lib.hid hkd; clear hwd hkd hkn3 HWN3
      go_wp2_with fail
      refine (put_ok S g L (nest + 1) (max deep (nest + 1)) 40 _ HWD.out).mono ?_
      rintro e w4 ⟨rfl, hw4, hk4⟩
      have H4 := Lib.hid hw4
      have HK4 := Lib.hid (HKD.out.trans hk4); clear hw4 hk4
      obtain ⟨f, p, hwr, hcall⟩ := HOK.out S w4 _ g (L ++ [40]) (nest + 1) (max deep (nest + 1)) (HP.out.keep HK4.out (fun _ h => h)) H4.out (by omega) q2 (by omega)
      have hfp : f = 128 ∧ p = .agg #[.slice (some ⟨b, o', none⟩) (nth l i).kids.length cap] := by unfold Wr at hwr; simp only [Value.iface.injEq] at hwr; rcases hwr with ⟨⟨q, rfl⟩, rfl⟩ | ⟨⟨q, rfl⟩, rfl⟩ | ⟨⟨q, rfl⟩, rfl⟩ | ⟨⟨q, rfl⟩, rfl⟩ | ⟨⟨q, rfl⟩, rfl⟩ | ⟨⟨q, rfl⟩, rfl⟩ | ⟨⟨q, rfl⟩, rfl⟩ | ⟨⟨q, rfl⟩, rfl⟩ <;> first | exact ⟨rfl, rfl⟩ | (exact absurd q (by decide))
      obtain ⟨rfl, rfl⟩ := hfp
      have HCA := Lib.hid hcall; clear hcall hwr
      go_wp2_with fail
      refine HCA.out.mono ?_
      rintro e w5 ⟨rfl, hw5, hk5⟩
      have H5 := Lib.hid hw5
      have HK5 := Lib.hid (HK4.out.trans hk5); clear hw5 hk5
      go_wp2_with fail
      refine (put_ok S g _ (nest + 1) _ 41 _ H5.out).mono ?_
      rintro e w6 ⟨rfl, hw6, hk6⟩
      have HK6 := Lib.hid (HK5.out.trans hk6)
      obtain ⟨c1, c2, z1, z2⟩ := wc_cells hw6
      have hw7 := wc_nest hw6 nest
      have H7 := Lib.hid hw7
      have HK7 := Lib.hid (HK6.out.trans (Keep.setCell w6 ⟨g, 1, none⟩ (.int .i64 nest) HNG.out)); clear hw6 hw7 hk6
      have hn1 : nest + 1 - 1 = nest := by omega
      go_wp2_with fail
      go_end0
      refine ⟨rfl, ?_, ?_⟩
      · have h := H7.out
        rw [HPI.out]
        show WC S _ g (L ++ (40 :: (tx l i).1 ++ [41])) nest (max deep (nest + (((tx l i).2 + 1 : Nat) : Int)))
        rw [show max deep (nest + (((tx l i).2 + 1 : Nat) : Int)) = max (max deep (nest + 1)) (nest + 1 + ((tx l i).2 : Int)) from by push_cast; omega]
        simpa [hn1] using h
      · have h := HK7.out
        simpa [hn1] using h
  | @alt _ b o' cap u hk hc hu =>
    clear hc hu
    rcases hb with rfl | rfl
    · have hpi : pieceB 1 (nth l i).kind (tx l i) = (40 :: (tx l i).1 ++ [41], (tx l i).2 + 1) := by rw [hk]; rfl
      have HPI := Lib.hid hpi; clear hpi
      go_enter Try.func130, Try.ntmps130
      go_wp2_with fail
      refine (bond_alt _ (.bool false) _).mono ?_
      rintro e w1 ⟨rfl, o, rfl⟩
      have hw1 := wc_new hw o
      obtain ⟨c1, c2, z1, z2⟩ := wc_cells hw1
      have hwn := wc_nest hw1 (nest + 1)
      obtain ⟨d1, d2, y1, y2⟩ := wc_cells hwn
      have HWN := Lib.hid hwn; clear hwn hw1
      go_wp2_with fail
      have hkn := (HK.out o).trans (Keep.setCell (w.alloc o) ⟨g, 1, none⟩ (.int .i64 (nest + 1)) HNG.out)
      clear c1 c2 z1 z2
      generalize hw2 : (w.alloc o).setCell ⟨g, 1, none⟩ (.int .i64 (nest + 1)) = w2 at *
      clear hw2
      go_still_tail 12, (by kernel_rfl)
      change wpList _ _ _ _ _ w2.drew
      have HWN3 := Lib.hid (wc_drew HWN.out)
      have hkn3 := hkn.trans (keep_drew w2)
      have e2 : w2.drew.cell? ⟨g, 2, none⟩ = some (.int .i64 deep) := d2
      have x2 : w2.drew.frozen? ⟨g, 2, none⟩ = false := y2
      clear hkn d1 d2 y1 y2 HWN
      generalize w2.drew = w3 at *
      have hwd := wc_deep HWN3.out (max deep (nest + 1))
      have hkd := hkn3.trans (Keep.setCell w3 ⟨g, 2, none⟩ (.int .i64 (max deep (nest + 1))) HNG.out)
      have HWD := Lib.hid hwd
      have HKD := Lib.hid hkd; clear hwd hkd hkn3 HWN3
      go_wp2_with fail
      refine (put_ok S g L (nest + 1) (max deep (nest + 1)) 40 _ HWD.out).mono ?_
      rintro e w4 ⟨rfl, hw4, hk4⟩
      have H4 := Lib.hid hw4
      have HK4 := Lib.hid (HKD.out.trans hk4); clear hw4 hk4
      obtain ⟨f, p, hwr, hcall⟩ := HOK.out S w4 _ g (L ++ [40]) (nest + 1) (max deep (nest + 1)) (HP.out.keep HK4.out (fun _ h => h)) H4.out (by omega) q2 (by omega)
      have hfp : f = 134 ∧ p = .agg #[.slice (some ⟨b, o', none⟩) (nth l i).kids.length cap] := by unfold Wr at hwr; simp only [Value.iface.injEq] at hwr; rcases hwr with ⟨⟨q, rfl⟩, rfl⟩ | ⟨⟨q, rfl⟩, rfl⟩ | ⟨⟨q, rfl⟩, rfl⟩ | ⟨⟨q, rfl⟩, rfl⟩ | ⟨⟨q, rfl⟩, rfl⟩ | ⟨⟨q, rfl⟩, rfl⟩ | ⟨⟨q, rfl⟩, rfl⟩ | ⟨⟨q, rfl⟩, rfl⟩ <;> first | exact ⟨rfl, rfl⟩ | (exact absurd q (by decide))
      obtain ⟨rfl, rfl⟩ := hfp
      have HCA := Lib.hid hcall; clear hcall hwr
      go_wp2_with fail
      refine HCA.out.mono ?_
      rintro e w5 ⟨rfl, hw5, hk5⟩
      have H5 := Lib.hid hw5
      have HK5 := Lib.hid (HK4.out.trans hk5); clear hw5 hk5
      go_wp2_with fail
      refine (put_ok S g _ (nest + 1) _ 41 _ H5.out).mono ?_
      rintro e w6 ⟨rfl, hw6, hk6⟩
      have HK6 := Lib.hid (HK5.out.trans hk6)
      obtain ⟨c1, c2, z1, z2⟩ := wc_cells hw6
      have hw7 := wc_nest hw6 nest
      have H7 := Lib.hid hw7
      have HK7 := Lib.hid (HK6.out.trans (Keep.setCell w6 ⟨g, 1, none⟩ (.int .i64 nest) HNG.out)); clear hw6 hw7 hk6
      have hn1 : nest + 1 - 1 = nest := by omega
      go_wp2_with fail
      go_end0
      refine ⟨rfl, ?_, ?_⟩
      · have h := H7.out
        rw [HPI.out]
        show WC S _ g (L ++ (40 :: (tx l i).1 ++ [41])) nest (max deep (nest + (((tx l i).2 + 1 : Nat) : Int)))
        rw [show max deep (nest + (((tx l i).2 + 1 : Nat) : Int)) = max (max deep (nest + 1)) (nest + 1 + ((tx l i).2 : Int)) from by push_cast; omega]
        simpa [hn1] using h
      · have h := HK7.out
        simpa [hn1] using h
    · have hpi : pieceB 2 (nth l i).kind (tx l i) = (40 :: (tx l i).1 ++ [41], (tx l i).2 + 1) := by rw [hk]; rfl
      have HPI := Lib.hid hpi; clear hpi
      go_enter Try.func130, Try.ntmps130
      go_wp2_with fail
      refine (bond_alt _ (.bool false) _).mono ?_
      rintro e w1 ⟨rfl, o, rfl⟩
      have hw1 := wc_new hw o
      obtain ⟨c1, c2, z1, z2⟩ := wc_cells hw1
      have hwn := wc_nest hw1 (nest + 1)
      obtain ⟨d1, d2, y1, y2⟩ := wc_cells hwn
      have HWN := Lib.hid hwn; clear hwn hw1
      go_wp2_with fail
      have hkn := (HK.out o).trans (Keep.setCell (w.alloc o) ⟨g, 1, none⟩ (.int .i64 (nest + 1)) HNG.out)
      clear c1 c2 z1 z2
      generalize hw2 : (w.alloc o).setCell ⟨g, 1, none⟩ (.int .i64 (nest + 1)) = w2 at *
      clear hw2
      go_still_tail 12, (by kernel_rfl)
      change wpList _ _ _ _ _ w2.drew
      have HWN3 := Lib.hid (wc_drew HWN.out)
      have hkn3 := hkn.trans (keep_drew w2)
      have e2 : w2.drew.cell? ⟨g, 2, none⟩ = some (.int .i64 deep) := d2
      have x2 : w2.drew.frozen? ⟨g, 2, none⟩ = false := y2
      clear hkn d1 d2 y1 y2 HWN
      generalize w2.drew = w3 at *
      have hwd := wc_deep HWN3.out (max deep (nest + 1))
      have hkd := hkn3.trans (Keep.setCell w3 ⟨g, 2, none⟩ (.int .i64 (max deep (nest + 1))) HNG.out)
      have HWD := Lib.hid hwd
      have HKD := Lib.hid hkd; clear hwd hkd hkn3 HWN3
      go_wp2_with fail
      refine (put_ok S g L (nest + 1) (max deep (nest + 1)) 40 _ HWD.out).mono ?_
      rintro e w4 ⟨rfl, hw4, hk4⟩
      have H4 := Lib.hid hw4
      have HK4 := Lib.hid (HKD.out.trans hk4); clear hw4 hk4
      obtain ⟨f, p, hwr, hcall⟩ := HOK.out S w4 _ g (L ++ [40]) (nest + 1) (max deep (nest + 1)) (HP.out.keep HK4.out (fun _ h => h)) H4.out (by omega) q2 (by omega)
      have hfp : f = 134 ∧ p = .agg #[.slice (some ⟨b, o', none⟩) (nth l i).kids.length cap] := by unfold Wr at hwr; simp only [Value.iface.injEq] at hwr; rcases hwr with ⟨⟨q, rfl⟩, rfl⟩ | ⟨⟨q, rfl⟩, rfl⟩ | ⟨⟨q, rfl⟩, rfl⟩ | ⟨⟨q, rfl⟩, rfl⟩ | ⟨⟨q, rfl⟩, rfl⟩ | ⟨⟨q, rfl⟩, rfl⟩ | ⟨⟨q, rfl⟩, rfl⟩ | ⟨⟨q, rfl⟩, rfl⟩ <;> first | exact ⟨rfl, rfl⟩ | (exact absurd q (by decide))
      obtain ⟨rfl, rfl⟩ := hfp
      have HCA := Lib.hid hcall; clear hcall hwr
      go_wp2_with fail
      refine HCA.out.mono ?_
      rintro e w5 ⟨rfl, hw5, hk5⟩
      have H5 := Lib.hid hw5
      have HK5 := Lib.hid (HK4.out.trans hk5); clear hw5 hk5
      go_wp2_with fail
      refine (put_ok S g _ (nest + 1) _ 41 _ H5.out).mono ?_
      rintro e w6 ⟨rfl, hw6, hk6⟩
      have HK6 := Lib.hid (HK5.out.trans hk6)
      obtain ⟨c1, c2, z1, z2⟩ := wc_cells hw6
      have hw7 := wc_nest hw6 nest
      have H7 := Lib.hid hw7
      have HK7 := Lib.hid (HK6.out.trans (Keep.setCell w6 ⟨g, 1, none⟩ (.int .i64 nest) HNG.out)); clear hw6 hw7 hk6
      have hn1 : nest + 1 - 1 = nest := by omega
      go_wp2_with fail
      go_end0
      refine ⟨rfl, ?_, ?_⟩
      · have h := H7.out
        rw [HPI.out]
        show WC S _ g (L ++ (40 :: (tx l i).1 ++ [41])) nest (max deep (nest + (((tx l i).2 + 1 : Nat) : Int)))
        rw [show max deep (nest + (((tx l i).2 + 1 : Nat) : Int)) = max (max deep (nest + 1)) (nest + 1 + ((tx l i).2 : Int)) from by push_cast; omega]
        simpa [hn1] using h
      · have h := HK7.out
        simpa [hn1] using h
  | @star _ u hk hu =>
    clear hu
    rcases hb with rfl | rfl
    · have hpi : pieceB 1 (nth l i).kind (tx l i) = tx l i := by rw [hk]; rfl
      have HPI := Lib.hid hpi; clear hpi
      go_enter Try.func130, Try.ntmps130
      go_wp2_with fail
      refine (bond_star _ (.bool false) _).mono ?_
      rintro e w1 ⟨rfl, o, rfl⟩
      obtain ⟨f, p, hwr, hcall⟩ := HOK.out S _ _ g L nest deep (HP.out.keep (HK.out o) (fun _ h => h)) (HN.out o) h0 Q1.out HD.out
      have hfp : f = 137 ∧ p = .agg #[u] := by unfold Wr at hwr; simp only [Value.iface.injEq] at hwr; rcases hwr with ⟨⟨q, rfl⟩, rfl⟩ | ⟨⟨q, rfl⟩, rfl⟩ | ⟨⟨q, rfl⟩, rfl⟩ | ⟨⟨q, rfl⟩, rfl⟩ | ⟨⟨q, rfl⟩, rfl⟩ | ⟨⟨q, rfl⟩, rfl⟩ | ⟨⟨q, rfl⟩, rfl⟩ | ⟨⟨q, rfl⟩, rfl⟩ <;> first | exact ⟨rfl, rfl⟩ | (exact absurd q (by decide))
      obtain ⟨rfl, rfl⟩ := hfp
      have HCA := Lib.hid hcall; clear hcall hwr
      go_wp2_with fail
      refine HCA.out.mono ?_
      rintro e w2 ⟨rfl, hw2, hk2⟩
      have H2 := Lib.hid hw2
      have HK2 := Lib.hid ((HK.out o).trans hk2); clear hw2 hk2
      go_wp2_with fail
      go_end0
      exact ⟨rfl, by rw [HPI.out]; exact H2.out, HK2.out⟩
    · have hpi : pieceB 2 (nth l i).kind (tx l i) = tx l i := by rw [hk]; rfl
      have HPI := Lib.hid hpi; clear hpi
      go_enter Try.func130, Try.ntmps130
      go_wp2_with fail
      refine (bond_star _ (.bool false) _).mono ?_
      rintro e w1 ⟨rfl, o, rfl⟩
      obtain ⟨f, p, hwr, hcall⟩ := HOK.out S _ _ g L nest deep (HP.out.keep (HK.out o) (fun _ h => h)) (HN.out o) h0 Q1.out HD.out
      have hfp : f = 137 ∧ p = .agg #[u] := by unfold Wr at hwr; simp only [Value.iface.injEq] at hwr; rcases hwr with ⟨⟨q, rfl⟩, rfl⟩ | ⟨⟨q, rfl⟩, rfl⟩ | ⟨⟨q, rfl⟩, rfl⟩ | ⟨⟨q, rfl⟩, rfl⟩ | ⟨⟨q, rfl⟩, rfl⟩ | ⟨⟨q, rfl⟩, rfl⟩ | ⟨⟨q, rfl⟩, rfl⟩ | ⟨⟨q, rfl⟩, rfl⟩ <;> first | exact ⟨rfl, rfl⟩ | (exact absurd q (by decide))
      obtain ⟨rfl, rfl⟩ := hfp
      have HCA := Lib.hid hcall; clear hcall hwr
      go_wp2_with fail
      refine HCA.out.mono ?_
      rintro e w2 ⟨rfl, hw2, hk2⟩
      have H2 := Lib.hid hw2
      have HK2 := Lib.hid ((HK.out o).trans hk2); clear hw2 hk2
      go_wp2_with fail
      go_end0
      exact ⟨rfl, by rw [HPI.out]; exact H2.out, HK2.out⟩
  | @plus _ u hk hu =>
    clear hu
    rcases hb with rfl | rfl
    · have hpi : pieceB 1 (nth l i).kind (tx l i) = tx l i := by rw [hk]; rfl
      have HPI := Lib.hid hpi; clear hpi
      go_enter Try.func130, Try.ntmps130
      go_wp2_with fail
      refine (bond_plus _ (.bool false) _).mono ?_
      rintro e w1 ⟨rfl, o, rfl⟩
      obtain ⟨f, p, hwr, hcall⟩ := HOK.out S _ _ g L nest deep (HP.out.keep (HK.out o) (fun _ h => h)) (HN.out o) h0 Q1.out HD.out
      have hfp : f = 140 ∧ p = .agg #[u] := by unfold Wr at hwr; simp only [Value.iface.injEq] at hwr; rcases hwr with ⟨⟨q, rfl⟩, rfl⟩ | ⟨⟨q, rfl⟩, rfl⟩ | ⟨⟨q, rfl⟩, rfl⟩ | ⟨⟨q, rfl⟩, rfl⟩ | ⟨⟨q, rfl⟩, rfl⟩ | ⟨⟨q, rfl⟩, rfl⟩ | ⟨⟨q, rfl⟩, rfl⟩ | ⟨⟨q, rfl⟩, rfl⟩ <;> first | exact ⟨rfl, rfl⟩ | (exact absurd q (by decide))
      obtain ⟨rfl, rfl⟩ := hfp
      have HCA := Lib.hid hcall; clear hcall hwr
      go_wp2_with fail
      refine HCA.out.mono ?_
      rintro e w2 ⟨rfl, hw2, hk2⟩
      have H2 := Lib.hid hw2
      have HK2 := Lib.hid ((HK.out o).trans hk2); clear hw2 hk2
      go_wp2_with fail
      go_end0
      exact ⟨rfl, by rw [HPI.out]; exact H2.out, HK2.out⟩
    · have hpi : pieceB 2 (nth l i).kind (tx l i) = tx l i := by rw [hk]; rfl
      have HPI := Lib.hid hpi; clear hpi
      go_enter Try.func130, Try.ntmps130
      go_wp2_with fail
      refine (bond_plus _ (.bool false) _).mono ?_
      rintro e w1 ⟨rfl, o, rfl⟩
      obtain ⟨f, p, hwr, hcall⟩ := HOK.out S _ _ g L nest deep (HP.out.keep (HK.out o) (fun _ h => h)) (HN.out o) h0 Q1.out HD.out
      have hfp : f = 140 ∧ p = .agg #[u] := by unfold Wr at hwr; simp only [Value.iface.injEq] at hwr; rcases hwr with ⟨⟨q, rfl⟩, rfl⟩ | ⟨⟨q, rfl⟩, rfl⟩ | ⟨⟨q, rfl⟩, rfl⟩ | ⟨⟨q, rfl⟩, rfl⟩ | ⟨⟨q, rfl⟩, rfl⟩ | ⟨⟨q, rfl⟩, rfl⟩ | ⟨⟨q, rfl⟩, rfl⟩ | ⟨⟨q, rfl⟩, rfl⟩ <;> first | exact ⟨rfl, rfl⟩ | (exact absurd q (by decide))
      obtain ⟨rfl, rfl⟩ := hfp
      have HCA := Lib.hid hcall; clear hcall hwr
      go_wp2_with fail
      refine HCA.out.mono ?_
      rintro e w2 ⟨rfl, hw2, hk2⟩
      have H2 := Lib.hid hw2
      have HK2 := Lib.hid ((HK.out o).trans hk2); clear hw2 hk2
      go_wp2_with fail
      go_end0
      exact ⟨rfl, by rw [HPI.out]; exact H2.out, HK2.out⟩
  | @opt _ u hk hu =>
    clear hu
    rcases hb with rfl | rfl
    · have hpi : pieceB 1 (nth l i).kind (tx l i) = tx l i := by rw [hk]; rfl
      have HPI := Lib.hid hpi; clear hpi
      go_enter Try.func130, Try.ntmps130
      go_wp2_with fail
      refine (bond_opt _ (.bool false) _).mono ?_
      rintro e w1 ⟨rfl, o, rfl⟩
      obtain ⟨f, p, hwr, hcall⟩ := HOK.out S _ _ g L nest deep (HP.out.keep (HK.out o) (fun _ h => h)) (HN.out o) h0 Q1.out HD.out
      have hfp : f = 143 ∧ p = .agg #[u] := by unfold Wr at hwr; simp only [Value.iface.injEq] at hwr; rcases hwr with ⟨⟨q, rfl⟩, rfl⟩ | ⟨⟨q, rfl⟩, rfl⟩ | ⟨⟨q, rfl⟩, rfl⟩ | ⟨⟨q, rfl⟩, rfl⟩ | ⟨⟨q, rfl⟩, rfl⟩ | ⟨⟨q, rfl⟩, rfl⟩ | ⟨⟨q, rfl⟩, rfl⟩ | ⟨⟨q, rfl⟩, rfl⟩ <;> first | exact ⟨rfl, rfl⟩ | (exact absurd q (by decide))
      obtain ⟨rfl, rfl⟩ := hfp
      have HCA := Lib.hid hcall; clear hcall hwr
      go_wp2_with fail
      refine HCA.out.mono ?_
      rintro e w2 ⟨rfl, hw2, hk2⟩
      have H2 := Lib.hid hw2
      have HK2 := Lib.hid ((HK.out o).trans hk2); clear hw2 hk2
      go_wp2_with fail
      go_end0
      exact ⟨rfl, by rw [HPI.out]; exact H2.out, HK2.out⟩
    · have hpi : pieceB 2 (nth l i).kind (tx l i) = tx l i := by rw [hk]; rfl
      have HPI := Lib.hid hpi; clear hpi
      go_enter Try.func130, Try.ntmps130
      go_wp2_with fail
      refine (bond_opt _ (.bool false) _).mono ?_
      rintro e w1 ⟨rfl, o, rfl⟩
      obtain ⟨f, p, hwr, hcall⟩ := HOK.out S _ _ g L nest deep (HP.out.keep (HK.out o) (fun _ h => h)) (HN.out o) h0 Q1.out HD.out
      have hfp : f = 143 ∧ p = .agg #[u] := by unfold Wr at hwr; simp only [Value.iface.injEq] at hwr; rcases hwr with ⟨⟨q, rfl⟩, rfl⟩ | ⟨⟨q, rfl⟩, rfl⟩ | ⟨⟨q, rfl⟩, rfl⟩ | ⟨⟨q, rfl⟩, rfl⟩ | ⟨⟨q, rfl⟩, rfl⟩ | ⟨⟨q, rfl⟩, rfl⟩ | ⟨⟨q, rfl⟩, rfl⟩ | ⟨⟨q, rfl⟩, rfl⟩ <;> first | exact ⟨rfl, rfl⟩ | (exact absurd q (by decide))
      obtain ⟨rfl, rfl⟩ := hfp
      have HCA := Lib.hid hcall; clear hcall hwr
      go_wp2_with fail
      refine HCA.out.mono ?_
      rintro e w2 ⟨rfl, hw2, hk2⟩
      have H2 := Lib.hid hw2
      have HK2 := Lib.hid ((HK.out o).trans hk2); clear hw2 hk2
      go_wp2_with fail
      go_end0
      exact ⟨rfl, by rw [HPI.out]; exact H2.out, HK2.out⟩

end Go.Proofs.Ytdgbbgkdoekfkaa.Re
