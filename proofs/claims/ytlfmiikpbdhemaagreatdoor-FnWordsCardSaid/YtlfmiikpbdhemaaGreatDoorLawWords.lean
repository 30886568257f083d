/-
  For every list of bytes the law of words returns true: tokens are recovered from their texts.
-/
import Derived.Test.YtlfmiikpbdhemaaGreatDoorFrame
import Derived.Test.YtlfmiikpbdhemaaGreatDoorTables
import Derived.Test.YtlfmiikpbdhemaaGreatDoorDrawn
import Derived.Test.YtlfmiikpbdhemaaGreatDoorRelex3
import Derived.Test.YtlfmiikpbdhemaaGreatDoorAlive
namespace Go.Proofs.YtlfmiikpbdhemaaGreatDoor.fnWords
open Go.ChangeShapes Go.WideShapes Go.ChangeAt Go.RowKit Go.PlainAid
open Go.Proofs.YtlfmiikpbdhemaaGreatDoor.Dec Go.Proofs.YtlfmiikpbdhemaaGreatDoor.Lex
open Go.Proofs.YtlfmiikpbdhemaaGreatDoor.DecPure Go.Proofs.YtlfmiikpbdhemaaGreatDoor.ReadPure Go.Proofs.YtlfmiikpbdhemaaGreatDoor.LexPure Go.Proofs.YtlfmiikpbdhemaaGreatDoor.Esc
open Go.Proofs.YtlfmiikpbdhemaaGreatDoor.Draw Go.Proofs.YtlfmiikpbdhemaaGreatDoor.Relex Go.Proofs.YtlfmiikpbdhemaaGreatDoor.TokText
open Go.Proofs.YtlfmiikpbdhemaaGreatDoor.Alive
open Go.Proofs.YtlfmiikpbdhemaaGreatDoor.Frame
set_option linter.unusedVariables false

/-- What the first loop knows of a token. -/
theorem piece {l : List Tk} (P1 : (txL l).length ≤ 124000) (P3 : ∀ k ∈ l, (1 ≤ k.kind ∧ k.kind ≤ 7) ∧ (k.kind = 1 → dOk k.n = true) ∧ k.s.size ≤ 4000) (k : Nat) (h : k < l.length) :
    tokT (tth l k).kind (tth l k).s (tth l k).n = strOfNums (tkL (tth l k)) ∧ (tkL (tth l k)).length ≤ 124000 ∧ (tth l k).s.size ≤ 1048576 ∧
      ((tth l k).kind = 5 → strOfNums (txL (l.take k)) ++ strOfNums (tkL (tth l k)) = strOfNums (txL (l.take (k + 1)))) ∧
      ((tth l k).kind ≠ 5 → strOfNums (txL (l.take k)) ++ strOfNums (tkL (tth l k)) ++ ⟨#[32]⟩ = strOfNums (txL (l.take (k + 1)))) ∧
      (strOfNums (txL (l.take (k + 1)))).size ≤ 124000 := by
  obtain ⟨h1, h2, h3⟩ := P3 _ (tth_mem l k h)
  have e := txL_take l k h
  have hle := txL_le l (k + 1)
  refine ⟨tok_text h1 h2, ?_, by omega, fun h5 => ?_, fun h5 => ?_, by rw [strOfNums_size]; omega⟩
  · rw [e, List.length_append, List.length_append] at hle; omega
  · rw [e, strOf_app, strOf_app, sep_text, if_pos h5]
    have : ∀ x : ByteArray, x ++ ⟨#[]⟩ = x := fun x => by apply ByteArray.ext; rw [ByteArray.data_append]; exact Array.append_empty
    rw [this]
  · rw [e, strOf_app, strOf_app, sep_text, if_neg h5]

set_option maxRecDepth 100000 in
set_option maxHeartbeats 4000000 in
theorem walk (A : Option Addr) (n cap : Nat) (Z : Nat → Int) (hn : n ≤ 9223372036854775807) (w : World) (hby : Bytes w w.heap.size A n Z) (htab : Go.Proofs.YtlfmiikpbdhemaaGreatDoor.Dec.Tables w) :
    Calls Tryz.prog 3 #[.slice A n cap] w fun e w' => e = .returned (.bool true) ∧ Below w.heap.size w w' := by
  have HT := Lib.hid htab; clear htab
  go_enter Tryz.func3, Tryz.ntmps3
  go_wp2_with fail
  refine (drawLex w A n cap Z hn hby).mono ?_
  rintro e w1 ⟨s, rfl, hs, hB1⟩
  clear hby
  have HB1 := Lib.hid hB1; clear hB1
  have hs2 : s.size ≤ 1048576 := by omega
  obtain ⟨l, j, hl⟩ : ∃ l j, lexP s = (l, j) := ⟨_, _, rfl⟩
  have h2 := lexP_two s
  have hlen := lexP_len s
  have HI := Lib.hid (impl_Lex s hs2 w1)
  have HS := Lib.hid (fun v => spec_Lex s hs2 v)
  unfold LexRes at HI HS
  rw [hl] at h2 hlen HI HS
  simp only at h2 hlen HI HS
  rcases h2 with rfl | ⟨hj, rfl⟩
  · obtain ⟨p1, p2, p3, p4, p5⟩ := lex_again hl
    have P1 := Lib.hid p1
    have P3 := Lib.hid p3
    have P4 := Lib.hid p4
    have P5 := Lib.hid p5
    clear p1 p2 p3 p4 p5 hl
    go_wp2_with fail
    refine HI.out.mono ?_
    rintro e w2 ⟨v, rfl, hT, hB2⟩
    have HB2 := Lib.hid (HB1.out.trans (hB2.mono HB1.out.size)); clear HI HB1 hB2
    go_wp2_with fail
    refine (HS.out w2).mono ?_
    rintro e w3 ⟨v', rfl, -, hB3⟩
    have HTR := Lib.hid (hT.below hB3 (Nat.le_refl _))
    have HB3 := Lib.hid (HB2.out.trans (hB3.mono HB2.out.size)); clear HS HB2 hB3 hT
    obtain ⟨ao, vc, rfl⟩ := HTR.out.form
    go_wp2_with fail
    go_loopw [8, 9] (fun t i wr => ∃ (k : Nat) (tx : ByteArray), k ≤ l.length ∧ i = .int .i64 k ∧ t = .string tx ∧ tx.size ≤ 124000 ∧ Hid (tx = strOfNums (txL (l.take k))) ∧ Hid (Below w3.heap.size w3 wr)) (fun _ i _ => l.length - (intOf i).toNat)
    case atStart => exact ⟨0, ⟨#[]⟩, Nat.zero_le _, rfl, rfl, Nat.zero_le _, Lib.hid (by simp [txL]; rfl), Lib.hid (Below.refl _ _)⟩
    case round =>
      obtain ⟨k, tx, hk, rfl, rfl, htx, HTX, HBR⟩ := hrel
      by_cases hlt : k < l.length
      · obtain ⟨g, cap', e', a0, a1, a2, a3, -⟩ := (HTR.out.below HBR.out (Nat.le_refl _)).at hlt
        simp only [Value.slice.injEq, true_and] at e'
        obtain ⟨rfl, rfl⟩ := e'
        have hgl := ((HTR.out.below HBR.out (Nat.le_refl _)).lt g rfl).2
        obtain ⟨q1, q2, q3, q4, q5, q6⟩ := piece P1.out P3.out k hlt
        obtain ⟨u, hu⟩ : ∃ u, u = strOfNums (tkL (tth l k)) := ⟨_, rfl⟩
        have huz : u.size ≤ 124000 := by rw [hu, strOfNums_size]; exact q2
        obtain ⟨kd, hkd⟩ : ∃ kd, kd = (tth l k).kind := ⟨_, rfl⟩
        obtain ⟨ks, hks⟩ : ∃ ks, ks = (tth l k).s := ⟨_, rfl⟩
        obtain ⟨kn, hkn⟩ : ∃ kn, kn = (tth l k).n := ⟨_, rfl⟩
        obtain ⟨kp, hkp⟩ : ∃ kp, kp = (tth l k).pos := ⟨_, rfl⟩
        rw [← hu] at q1 q4 q5
        rw [← hkd, ← hks, ← hkn] at q1
        rw [← hkd] at a0 q4 q5
        rw [← hks] at a1 q3
        rw [← hkn] at a2
        rw [← hkp] at a3
        have HC := Lib.hid (impl_tok kd ks kn kp q3 wr (HT.out.below (HB3.out.trans (HBR.out.mono HB3.out.size))))
        rw [q1] at HC
        have Q4 := Lib.hid q4
        have Q5 := Lib.hid q5
        have HKP := Lib.hid hkp
        clear q1 q4 q5 hu hkd hks hkn hkp
        have i0 : (0 : Int) ≤ (k : Int) := by omega
        have i1 : (k : Int) < (l.length : Int) := by omega
        have hc5 : (∃ ty : ByteArray, kd = 5 ∧ ty = tx ++ u ∧ ty.size ≤ 124000 ∧ ty = strOfNums (txL (l.take (k + 1)))) ∨ (∃ ty : ByteArray, kd ≠ 5 ∧ ty = tx ++ u ++ ⟨#[32]⟩ ∧ ty.size ≤ 124000 ∧ ty = strOfNums (txL (l.take (k + 1)))) := by
          by_cases h5 : kd = 5
          · exact .inl ⟨_, h5, rfl, by rw [HTX.out, Q4.out h5]; exact q6, by rw [HTX.out, Q4.out h5]⟩
          · exact .inr ⟨_, h5, rfl, by rw [HTX.out, Q5.out h5]; exact q6, by rw [HTX.out, Q5.out h5]⟩
        clear Q4 Q5 q6
        have hk0 : k = 0 ∨ ∃ j, k = j + 1 ∧ j < l.length := by
          rcases k with _ | j
          · exact .inl rfl
          · exact .inr ⟨j, rfl, by omega⟩
        go_wp2_with fail
        refine HC.out.mono ?_
        rintro e w4 ⟨rfl, hB4⟩
        have b0 := (hB4.cell (p := ⟨g, k * 4, none⟩) hgl).trans a0
        have b3 := (hB4.cell (p := ⟨g, k * 4 + 3, none⟩) hgl).trans a3
        have HB4 := Lib.hid (HBR.out.trans (hB4.mono HBR.out.size))
        clear HC hB4 a0 a1 a2 a3
        rcases hc5 with ⟨ty, h5, hty, hyz, hyt⟩ | ⟨ty, h5, hty, hyz, hyt⟩
        · have HYT := Lib.hid hyt; clear hyt
          have h5b : (kd != 5) = false := by simp [h5]
          clear h5
          rcases hk0 with hk0 | ⟨j, hkj, hjl⟩
          · have hd : decide (0 < k) = false := by simp; omega
            clear hk0
            go_wp2_with fail
            rw [← hty]
            go_quiet (fail)
            go_wp2_with fail
            exact ⟨⟨k + 1, ty, by omega, by go_num, rfl, hyz, HYT, Lib.hid (HB4.out.trans ⟨rfl, rfl, rfl, Nat.le_refl _, fun _ _ => rfl⟩)⟩, by simp [intOf]; omega⟩
          · have hd : 0 < k := by omega
            obtain ⟨g', cap', e', -, -, -, d3, -⟩ := (HTR.out.below HB4.out (Nat.le_refl _)).at hjl
            simp only [Value.slice.injEq, Option.some.injEq, Addr.mk.injEq, and_true, true_and] at e'
            obtain ⟨rfl, rfl⟩ := e'
            have hps := P4.out j (by omega)
            rw [← hkj, ← HKP.out] at hps
            obtain ⟨jp, hjp⟩ : ∃ jp, jp = (tth l j).pos := ⟨_, rfl⟩
            rw [← hjp] at d3 hps
            have hw1 : IntKind.i64.wrap ((k : Int) - 1) = (j : Int) := by rw [IntKind.wrap_i64]; omega
            have hw2 : (k : Int) - 1 = (j : Int) := by omega
            have j0 : (0 : Int) ≤ (j : Int) := by omega
            have j1 : (j : Int) < (l.length : Int) := by omega
            have hde : decide (kp ≤ jp) = false := by simp; omega
            clear hkj hps hjp HKP
            go_wp2_with fail
            rw [← hty]
            go_quiet (fail)
            go_wp2_with fail
            exact ⟨⟨k + 1, ty, by omega, by go_num, rfl, hyz, HYT, Lib.hid (HB4.out.trans ⟨rfl, rfl, rfl, Nat.le_refl _, fun _ _ => rfl⟩)⟩, by simp [intOf]; omega⟩
        · have HYT := Lib.hid hyt; clear hyt
          have h5b : (kd != 5) = true := by simp [h5]
          clear h5
          rcases hk0 with hk0 | ⟨j, hkj, hjl⟩
          · have hd : decide (0 < k) = false := by simp; omega
            clear hk0
            go_wp2_with fail
            rw [← hty]
            go_quiet (fail)
            go_wp2_with fail
            exact ⟨⟨k + 1, ty, by omega, by go_num, rfl, hyz, HYT, Lib.hid (HB4.out.trans ⟨rfl, rfl, rfl, Nat.le_refl _, fun _ _ => rfl⟩)⟩, by simp [intOf]; omega⟩
          · have hd : 0 < k := by omega
            obtain ⟨g', cap', e', -, -, -, d3, -⟩ := (HTR.out.below HB4.out (Nat.le_refl _)).at hjl
            simp only [Value.slice.injEq, Option.some.injEq, Addr.mk.injEq, and_true, true_and] at e'
            obtain ⟨rfl, rfl⟩ := e'
            have hps := P4.out j (by omega)
            rw [← hkj, ← HKP.out] at hps
            obtain ⟨jp, hjp⟩ : ∃ jp, jp = (tth l j).pos := ⟨_, rfl⟩
            rw [← hjp] at d3 hps
            have hw1 : IntKind.i64.wrap ((k : Int) - 1) = (j : Int) := by rw [IntKind.wrap_i64]; omega
            have hw2 : (k : Int) - 1 = (j : Int) := by omega
            have j0 : (0 : Int) ≤ (j : Int) := by omega
            have j1 : (j : Int) < (l.length : Int) := by omega
            have hde : decide (kp ≤ jp) = false := by simp; omega
            clear hkj hps hjp HKP
            go_wp2_with fail
            rw [← hty]
            go_quiet (fail)
            go_wp2_with fail
            exact ⟨⟨k + 1, ty, by omega, by go_num, rfl, hyz, HYT, Lib.hid (HB4.out.trans ⟨rfl, rfl, rfl, Nat.le_refl _, fun _ _ => rfl⟩)⟩, by simp [intOf]; omega⟩
      · have hkl : k = l.length := by omega
        have htx2 : Hid (tx = strOfNums (txL l)) := Lib.hid (by rw [HTX.out, hkl, List.take_length])
        clear HTX hk
        have hgt : ¬ (k : Int) < (l.length : Int) := by omega
        clear hlt
        have HC := Lib.hid (impl_Lex tx (by omega) wr)
        unfold LexRes at HC
        by_cases hbig : 4000 < tx.size
        · have hbi : (4000 : Int) < (tx.size : Int) := by omega
          go_wp2_with fail
          refine HC.out.mono ?_
          rintro e w4 ⟨v2, rfl, hT2, hB4⟩
          have HB4 := Lib.hid (HBR.out.trans (hB4.mono HBR.out.size))
          clear HC hB4 hT2
          go_wp2_with (go_at_call 7; refine (words_alive _).mono ?_; rintro e w9 ⟨rfl, hB9⟩)
          go_ret
          exact ⟨rfl, HB3.out.trans ((HB4.out.trans (hB9.mono HB4.out.size)).mono HB3.out.size)⟩
        · have hsz : (txL l).length ≤ 4000 := by have := congrArg ByteArray.size htx2.out; rw [strOfNums_size] at this; omega
          obtain ⟨l', hl', hal⟩ := P5.out hsz
          have hll := alike_len hal
          have HAL := Lib.hid (alike_at hal)
          rw [← htx2.out] at hl'
          rw [hl'] at HC
          simp only at HC
          have hbi : ¬ (4000 : Int) < (tx.size : Int) := by omega
          clear hal hl' hbig
          go_wp2_with fail
          refine HC.out.mono ?_
          rintro e w4 ⟨v2, rfl, hT2, hB4⟩
          have HB4 := Lib.hid (HBR.out.trans (hB4.mono HBR.out.size))
          have HT2 := Lib.hid hT2
          clear HC hB4 hT2
          obtain ⟨ao2, vc2, rfl⟩ := HT2.out.form
          rw [hll]
          go_wp2_with fail
          go_loopw [12] (fun i wr => ∃ (m : Nat), m ≤ l.length ∧ i = .int .i64 m ∧ Hid (Below w4.heap.size w4 wr)) (fun i _ => l.length - (intOf i).toNat)
          case atStart => exact ⟨0, Nat.zero_le _, rfl, Lib.hid (Below.refl _ _)⟩
          case round =>
            obtain ⟨m, hm, rfl, HBM⟩ := hrel
            by_cases hml : m < l.length
            · obtain ⟨g, cap', e', a0, a1, a2, -, -⟩ := ((HTR.out.below HB4.out (Nat.le_refl _)).below HBM.out (Nat.le_refl _)).at hml
              simp only [Value.slice.injEq, true_and] at e'
              obtain ⟨rfl, rfl⟩ := e'
              obtain ⟨g2, cap2, e2, b0, b1, b2, -, -⟩ := (HT2.out.below HBM.out (Nat.le_refl _)).at (i := m) (by omega)
              rw [hll] at e2
              simp only [Value.slice.injEq, true_and] at e2
              obtain ⟨rfl, rfl⟩ := e2
              obtain ⟨f0, f1, f2⟩ := HAL.out m hml
              rw [f0] at b0
              rw [f1] at b1
              rw [f2] at b2
              obtain ⟨kd, hkd⟩ : ∃ kd, kd = (tth l m).kind := ⟨_, rfl⟩
              obtain ⟨ks, hks⟩ : ∃ ks, ks = (tth l m).s := ⟨_, rfl⟩
              obtain ⟨kn, hkn⟩ : ∃ kn, kn = (tth l m).n := ⟨_, rfl⟩
              rw [← hkd] at a0 b0
              rw [← hks] at a1 b1
              rw [← hkn] at a2 b2
              have i0 : (0 : Int) ≤ (m : Int) := by omega
              have i1 : (m : Int) < (l.length : Int) := by omega
              have n0 : (kd != kd) = false := by simp
              have n1 : (kn != kn) = false := by simp
              clear f0 f1 f2 hkd hks hkn
              go_wp2_with fail
              go_quiet (fail)
              go_wp2_with fail
              go_roundw
              case rel => exact ⟨m + 1, by omega, by go_num, Lib.hid (HBM.out.trans ⟨rfl, rfl, rfl, Nat.le_refl _, fun _ _ => rfl⟩)⟩
              case measure => simp [intOf]; omega
            · have hgt : ¬ (m : Int) < (l.length : Int) := by omega
              clear hml
              go_wp2_with (go_at_call 7; refine (words_alive _).mono ?_; rintro e w9 ⟨rfl, hB9⟩)
              go_ret
              have hB10 := HB4.out.trans (HBM.out.mono HB4.out.size)
              exact ⟨rfl, HB3.out.trans ((hB10.trans (hB9.mono hB10.size)).mono HB3.out.size)⟩
  · go_wp2_with fail
    refine HI.out.mono ?_
    rintro e w2 ⟨v, rfl, hT, hB2⟩
    have HB2 := Lib.hid (HB1.out.trans (hB2.mono HB1.out.size)); clear HI HB1 hB2
    obtain ⟨ao, vc, rfl⟩ := hT.form
    go_wp2_with fail
    refine (HS.out w2).mono ?_
    rintro e w3 ⟨v', rfl, -, hB3⟩
    have HB3 := Lib.hid (HB2.out.trans (hB3.mono HB2.out.size)); clear HS HB2 hB3 hT
    have j1 : (j != j) = false := by simp
    go_wp2_with (go_at_call 7; refine (words_alive _).mono ?_; rintro e w9 ⟨rfl, hB9⟩)
    go_ret
    exact ⟨rfl, HB3.out.trans (hB9.mono HB3.out.size)⟩

set_option maxRecDepth 100000 in
theorem contract (H : Type) (enc : TypeId × Value → H) (W : World) (base : Nat) (args : Array Value) (ds gs : List (DataW H)) (before : List MemPlace)
    (hval : ∀ (j : Nat) t v, Tryz.f3.params[j]? = some t → args[j]? = some v → Value.okWide Tryz.prog W .any base t v)
    (hW : DataW.Whole enc Tryz.prog Tryz.f3.params.toList Rows.fnWordsSpec.vars false W args.toList ds gs before) (hL : laidMetH Tryz.prog Rows.fnWordsRow.laid W) :
    Calls Tryz.prog 3 args W fun e W' => ∃ v, e = .returned v ∧ Rows.fnWordsSpec.post enc Tryz.prog Tryz.f3 false true false false W args v W' := by
  have hW' := hW
  obtain ⟨p, q, hA0, hV, rfl, hfz, hnd⟩ := hW
  have hA : DataW.TrodAll enc Tryz.prog W 0 (fun _ => true) true Tryz.f3.params.toList args.toList ds p := hA0
  rw [Tryz.params3] at hA hval
  obtain ⟨v0, vs0, d0, ds0, p0, q0, hargs, rfl, rfl, h0, r0⟩ := trodAll_cons hA
  obtain ⟨rfl, rfl, rfl⟩ := trodAll_nil r0
  obtain rfl : args = #[v0] := by cases args; simp_all
  obtain ⟨rfl, rfl⟩ := trodVars_none hV
  have h0k := h0
  have hlt : ∀ x ∈ p0 ++ [], x.block < W.heap.size := fun x hx => by simpa using hW'.lt x (by simpa using hx)
  obtain ⟨a0, len, cap, rfl⟩ := okWide_slice Tryz.underlying22 (hval 0 22 v0 rfl rfl)
  obtain ⟨fuel, hf⟩ := h0
  have hby : ∃ Z : Nat → Int, len ≤ 9223372036854775807 ∧ Bytes W W.heap.size a0 len Z := by
    rcases open_ints Tryz.underlying22 Tryz.underlying5 (by kernel_rfl : Tryz.prog.cellsOf 5 = 1) hf with ⟨hcs, hx⟩ | ⟨a, len', cap', zs, hcs, _, hl, hm, hz, hx, hcell, hwz⟩
    · simp [Value.cells] at hcs
      obtain ⟨rfl, rfl, rfl⟩ := hcs
      exact ⟨fun _ => 0, by omega, fun j hj => by omega⟩
    · simp [Value.cells] at hcs
      obtain ⟨rfl, rfl, rfl⟩ := hcs
      simp only [if_true] at hz
      unfold maxLen at hm
      refine ⟨fun j => zs.getD j 0, by omega, fun j hj => ?_⟩
      obtain ⟨b, off, rfl, hc⟩ := ints_at hcell (by omega)
      have h1 := hc j (by omega)
      have h2 := bounds_u8 (hwz (zs.getD j 0) (by simp [List.getD, List.getElem?_eq_getElem (show j < zs.length by omega)]))
      exact ⟨b, off, rfl, World.block_lt_of_cell? W ⟨b, off + j, none⟩ h1, h1, h2.1, h2.2⟩
  obtain ⟨Z, hn, hZ⟩ := hby
  clear hA0
  simp only [List.append_nil] at hW' hlt
  refine (walk a0 len cap Z hn W hZ (tabs hL)).mono fun e W' ⟨he, hb⟩ => ?_
  subst he
  exact ⟨_, rfl, _, _, _, [], _, [], hW', trodAll_cons_mk (shut_bool Tryz.underlying4 _) trodAll_mk0, trodAll_mk1 (Below.trod laidOut (by kernel_rfl) (of_decide_eq_true (by kernel_rfl)) h0k hb hlt), rfl, hb.frame _, fun h => by cases h⟩

theorem laid_met (os : Os) : laidMet Tryz.prog Rows.fnWordsRow.laid ((laidWorld os).forCall (fun _ _ => 0) ⟨#[], #[.slice none 0 0], []⟩).memory :=
  laidMet_of_run' 80 (by kernel_rfl) (by kernel_rfl)
theorem reads (os : Os) {H : Type} (enc : TypeId × Value → H) : ∃ places, DataW.whole enc Tryz.prog ((laidWorld os).forCall (fun _ _ => 0) ⟨#[], #[.slice none 0 0], []⟩).memory Tryz.f3.params.toList Rows.fnWordsSpec.vars false #[Value.slice none 0 0].toList 8 = some ([.nil], [], places) :=
  ⟨[], by kernel_rfl⟩

set_option maxRecDepth 100000 in
theorem lifted (os : Os) (started : os.Started) (H : Type) (enc : TypeId × Value → H) (F : Stop.Interp) :
    ReturnsInHanded {} Tryz.checked os 3 .any ((OpenSpec.ofChange Rows.fnWordsSpec).preRow enc Tryz.prog Tryz.f3 Rows.fnWordsRow.domain false Rows.fnWordsRow.laid) (((OpenSpec.ofChange Rows.fnWordsSpec).at F).post enc Tryz.prog Tryz.f3 false true false false) := by
  obtain ⟨places, hx⟩ := reads os enc
  refine returnsInHanded_of_row (C := Tryz.checked) (s := OpenSpec.ofChange Rows.fnWordsSpec) own started (by kernel_rfl) Tryz.func3
    (witness_row_at (enc := enc) (C := Tryz.checked) false (laidWorld os) #[.slice none 0 0] rfl (by kernel_rfl) (by kernel_rfl) (by kernel_rfl)
      (OpenSpec.preRow_of_cond 8 hx (by kernel_rfl) (fun k hk => by cases hk) (by kernel_rfl) (laid_met os))) ?_
  intro W base args ds gs before hval hW _ _ _ hL _ _
  exact contract H enc W base args ds gs before hval hW hL

theorem said : Rows.FnWordsSaid :=
  OpenClaim.holds_of_cond 3 Tryz.f3 rfl rfl rfl rfl rfl rfl rfl ⟨rfl, rfl, rfl, rfl, rfl⟩ rfl rfl rfl rfl rfl (by kernel_rfl) Tryz.func3 (by kernel_rfl)
    (of_decide_eq_true (by kernel_rfl)) (by unfold Func.isWrapper; first | (rw [if_pos (by decide +kernel)]; kernel_rfl) | (rw [if_neg (by decide +kernel)]; exact ⟨rfl, rfl⟩))
    (fun os started H enc _ F => by rw [OpenClaim.pre_eq_preRow]; exact lifted os started H enc F)

theorem plain (f : FuncId) (fn : Func) (hf : Tryz.pinned.checked.prog.funcNamed "loop.example/g00700/laws.FnWords" = some f) (hfn : Tryz.pinned.checked.prog.funcs[f]? = some fn) :
    true = Tryz.pinned.checked.prog.looks [] ∧ ∀ (j : Nat) t, fn.params[j]? = some t → Tryz.pinned.checked.prog.wantsStandIn t = false := by
  obtain rfl : f = 3 := Option.some.inj ((show Tryz.prog.funcNamed "loop.example/g00700/laws.FnWords" = some 3 by kernel_rfl).symm.trans hf) |>.symm
  obtain rfl : fn = Tryz.f3 := (Option.some.inj (Tryz.func3.symm.trans hfn)).symm
  refine ⟨by kernel_rfl, fun j t ht => ?_⟩
  rw [Tryz.params3] at ht
  obtain rfl : t = 22 := by simpa using Array.mem_of_getElem? ht
  exact (show Tryz.prog.wantsStandIn 22 = false by kernel_rfl)

theorem card : Rows.FnWordsCardSaid :=
  Claim7.holds_tied_plain_at .later [] _ _ _ _ said (fun _ h => by cases h) (by kernel_rfl) (fun _ h => by cases h) fnWords_row_tie rfl ⟨rfl, rfl⟩ (by kernel_rfl) rfl plain (by kernel_rfl)
end Go.Proofs.YtlfmiikpbdhemaaGreatDoor.fnWords
