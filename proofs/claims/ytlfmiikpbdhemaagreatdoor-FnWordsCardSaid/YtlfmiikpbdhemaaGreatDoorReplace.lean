/-
  What the built replacer returns: the text, its special bytes written behind a backslash.
-/
import Derived.Test.YtlfmiikpbdhemaaGreatDoorReplPure
import Derived.Test.YtlfmiikpbdhemaaGreatDoorShelf
import Derived.WalkSpells
import Derived.BigQuiet
import Derived.Deep.RegionLaw
namespace Go.Proofs.YtlfmiikpbdhemaaGreatDoor.Esc
open Go.ChangeShapes Go.WideShapes Go.ChangeAt Go.RowKit Go.PlainAid Go.Maps
open Go.Proofs.YtlfmiikpbdhemaaGreatDoor.Dec Go.Proofs.YtlfmiikpbdhemaaGreatDoor.Lex
open Go.Proofs.YtlfmiikpbdhemaaGreatDoor.DecPure Go.Proofs.YtlfmiikpbdhemaaGreatDoor.ReadPure Go.Proofs.YtlfmiikpbdhemaaGreatDoor.LexPure
set_option linter.unusedVariables false

theorem infoU8 : (Tryz.prog.info? 5).map (fun i => (i.zero, i.size, i.bytes)) = some (some (.int .u8 0), 1, 1) := by kernel_rfl

set_option maxRecDepth 100000 in
set_option maxHeartbeats 8000000 in
theorem replace_it (lo b : Nat) (f : Nat → Value) (v : Value) (s : ByteArray) (w : World) (hT : Tab lo w b 4 f v) (hs : s.size ≤ 1048576) :
    Calls Tryz.prog 153 #[.pointer (some ⟨b, 0, none⟩), .string s] w fun e w' => e = .returned (.string (escS s)) ∧ Below w.heap.size w w' := by
  have hgb := get_bt s
  have hneq : ∀ (a : Option Addr) (n c : Nat) (w : World), (binOp .neq 22 (.slice a n c) (.slice none 0 0)).run Tryz.prog w = .ok (.bool (!a.isNone)) w := fun a n c w => run_neq_slice_nil_any w 22 5 a n c 0 0 Tryz.underlying22
  obtain ⟨t, cap, rfl, t0, t1, t2, t3⟩ := hT.texts
  have k256 := (hT.row.cell (i := 256) (by omega)).trans (congrArg some hT.last)
  obtain ⟨Cb, fzb, hCb⟩ := row_heap hT.row
  have hbl := heap_lt hCb
  have htl : t < w.heap.size := (World.ownsRow.lt hT.own t rfl).2
  have HNO : Hid (∀ i : Nat, i < 256 → ¬ spc (i : Int) → w.cell? ⟨b, i, none⟩ = some (.slice none 0 0)) := Lib.hid fun i hi hn => (hT.row.cell (by omega)).trans (congrArg some (hT.no i hi (fun h => hn ((dn_spc i).1 h))))
  have HYES : Hid (∀ i : Nat, spc (i : Int) → ∃ g cp, g < w.heap.size ∧ w.cell? ⟨b, i, none⟩ = some (.slice (some ⟨g, 0, none⟩) 2 cp) ∧ w.cell? ⟨g, 0, none⟩ = some (.int .u8 92) ∧ w.cell? ⟨g, 1, none⟩ = some (.int .u8 (sndB i))) := Lib.hid fun i hi => by
    obtain ⟨g, cp, _, hf, ⟨D, gz, hD⟩, c0, c1⟩ := hT.yes i ((dn_spc i).2 hi)
    exact ⟨g, cp, heap_lt hD, (hT.row.cell (by unfold spc at hi; omega)).trans (congrArg some hf), c0, c1⟩
  clear hCb
  by_cases h32 : s.size < 32
  · have h32i : ¬ (32 : Int) ≤ (s.size : Int) := by omega
    go_enter Tryz.func153, Tryz.ntmps153
    go_wp2_with fail
    go_loopw [5, 6, 10] (fun n a i wr => ∃ (j N : Nat), j ≤ s.size ∧ i = .int .i64 j ∧ n = .int .i64 N ∧ a = .bool (decide (0 < cntS s j)) ∧ Hid (N = s.size + cntS s j) ∧ Hid (Below w.heap.size w wr)) (fun _ _ i _ => s.size - (intOf i).toNat)
    case atStart => exact ⟨0, s.size, Nat.zero_le _, rfl, rfl, rfl, Lib.hid rfl, Lib.hid (Below.refl _ _)⟩
    case round =>
      obtain ⟨j, N, hj, rfl, rfl, rfl, hN, HB⟩ := hrel
      by_cases hlt : j < s.size
      · have hj1 : (j : Int) < (s.size : Int) := by omega
        have b0 := bt_nonneg s j
        have b1 := bt_le s j
        obtain ⟨o, ho⟩ := Int.eq_ofNat_of_zero_le b0
        have ho1 : o < 256 := by omega
        have hcl := cntS_le s j
        have hNb := hN.out
        have hNb2 : N ≤ 2097152 := by omega
        by_cases hsp : spc (o : Int)
        · obtain ⟨g, cp, hg, kc, y0, y1⟩ := HYES.out o hsp
          have kc1 := (HB.out.cell (p := ⟨b, o, none⟩) hbl).trans kc
          have hnq := hneq (some ⟨g, 0, none⟩) 2 cp
          have hcy := cntS_yes (s := s) (k := j) (by rw [ho]; exact hsp)
          have HD : Hid (true = decide (0 < cntS s (j + 1))) := Lib.hid (by rw [hcy]; simp)
          have HN2 : Hid (N + 1 = s.size + cntS s (j + 1)) := Lib.hid (by rw [hcy]; omega)
          clear hcy hsp hcl hNb kc y0 y1
          go_wp2_with fail
          go_roundw
          case rel => exact ⟨j + 1, N + 1, by omega, by go_num, by go_num, by rw [← HD.out], HN2, HB⟩
          case measure => simp [intOf]; omega
        · have kc1 := (HB.out.cell (p := ⟨b, o, none⟩) hbl).trans (HNO.out o ho1 hsp)
          have hnq := hneq none 0 0
          have hcn := cntS_no (s := s) (k := j) (by rw [ho]; exact hsp)
          have HD : Hid (decide (0 < cntS s j) = decide (0 < cntS s (j + 1))) := Lib.hid (by rw [hcn])
          have HN2 : Hid (N = s.size + cntS s (j + 1)) := Lib.hid (by rw [hcn]; omega)
          clear hcn hsp hcl hNb
          go_wp2_with fail
          go_roundw
          case rel => exact ⟨j + 1, N, by omega, by go_num, rfl, by rw [← HD.out], HN2, HB⟩
          case measure => simp [intOf]; omega
      · have e : j = s.size := by omega
        subst e
        by_cases hc : cntS s s.size = 0
        · have he := escS_none hc
          have HE := Lib.hid he
          have hd0 : ¬ 0 < cntS s s.size := by omega
          clear he
          go_wp2_with fail
          go_ret
          exact ⟨by rw [HE.out]; rfl, HB.out⟩
        · have hd0 : 0 < cntS s s.size := by omega
          have hcl := cntS_le s s.size
          have hNb := hN.out
          have hNb2 : N ≤ 2097152 := by omega
          clear hcl hNb
          rw [show decide (0 < cntS s s.size) = true from by simpa using hd0]
          obtain ⟨w1, rfl⟩ : ∃ w1, w1 = wr := ⟨wr, rfl⟩
          have hmk := run_make_row' (P := Tryz.prog) 22 5 (.int .u8 0) 1 Tryz.underlying22 infoU8 rfl .i64 .i64 N (by omega) (by omega)
          go_wp2_with fail
          have hf0 := Fill.new w1 N
          have HF0 := Lib.hid hf0
          have hw1 := HB.out.size
          have HB1 := Lib.hid (HB.out.alloc hw1 (.cells (madeCells #[.int .u8 0] N) 5))
          clear hf0 hmk
          go_loopw [13, 14] (fun p i wr => ∃ (j P : Nat), j ≤ s.size ∧ i = .int .i64 j ∧ p = .int .i64 P ∧ P ≤ N ∧ Hid ((escL s j).length = P) ∧ Hid (Fill wr w1.heap.size (escL s j) N) ∧ Hid (Below w.heap.size w wr)) (fun _ i _ => s.size - (intOf i).toNat)
          case atStart => exact ⟨0, 0, Nat.zero_le _, rfl, rfl, Nat.zero_le _, Lib.hid rfl, HF0, HB1⟩
          case round =>
            obtain ⟨j, P, hj, rfl, rfl, hPN, hP, hF, hB⟩ := hrel
            by_cases hlt : j < s.size
            · have hj1 : (j : Int) < (s.size : Int) := by omega
              have b0 := bt_nonneg s j
              have b1 := bt_le s j
              obtain ⟨o, ho⟩ := Int.eq_ofNat_of_zero_le b0
              have ho1 : o < 256 := by omega
              have hm1 : cntS s (j + 1) ≤ cntS s s.size := by
                have := cntS_mono s (j + 1) (s.size - (j + 1))
                rwa [show j + 1 + (s.size - (j + 1)) = s.size from by omega] at this
              have hPl : P = j + cntS s j := by rw [← hP.out, escL_len]
              have hN2 := hN.out
              by_cases hsp : spc (o : Int)
              · obtain ⟨g, cp, hg, kc, y0, y1⟩ := HYES.out o hsp
                have hcy := cntS_yes (s := s) (k := j) (by rw [ho]; exact hsp)
                have hroom : P + 2 ≤ N := by omega
                have kc1 := (hB.out.cell (p := ⟨b, o, none⟩) hbl).trans kc
                have y01 := (hB.out.cell (p := ⟨g, 0, none⟩) hg).trans y0
                have y11 := (hB.out.cell (p := ⟨g, 1, none⟩) hg).trans y1
                have hnq := hneq (some ⟨g, 0, none⟩) 2 cp
                have HO := Lib.hid hsp
                have HC := Lib.hid hcy
                have hPi : (P : Int) ≤ (N : Int) := by omega
                have hoi0 : (0 : Int) ≤ (o : Int) := by omega
                have hoi1 : (o : Int) < 256 := by omega
                clear hcy hsp hm1 hPl hN2
                have hcs : [Value.int .u8 92, Value.int .u8 (sndB o)].length = Nat.min 2 (N - P) := by show 2 = Nat.min 2 (N - P); exact (Nat.min_eq_left (by omega)).symm
                have hfl := fillC_len hF.out.1
                have hNP : ¬ N = P := by omega
                have HPOS : Hid (∀ (j : Nat) (v : Value), [Value.int .u8 92, Value.int .u8 (sndB o)][j]? = some v → wr.drew.cell? ((⟨g, 0, none⟩ : Addr).add j) = some v) := Lib.hid fun j v hj => by
                  match j, hj with
                  | 0, hj => simp at hj; subst hj; simpa [Addr.add] using y01
                  | 1, hj => simp at hj; subst hj; simpa [Addr.add] using y11
                  | j + 2, hj => simp at hj
                have HONE : Hid (∀ v ∈ [Value.int .u8 92, Value.int .u8 (sndB o)], v.oneCell' = true) := Lib.hid fun v hv => by simp at hv; rcases hv with rfl | rfl <;> rfl
                have HBD : Hid (Below w.heap.size w wr.drew) := Lib.hid hB.out.drew
                have HFD : Hid (wr.drew.heap[w1.heap.size]? = some (.cells (fillC (escL s j) N).toArray 5 (0, 0))) := Lib.hid hF.out.2
                have HFIT : Hid (P + [Value.int .u8 92, Value.int .u8 (sndB o)].length ≤ (fillC (escL s j) N).length) := Lib.hid (by rw [hfl]; exact hroom)
                have HCS := Lib.hid hcs
                have HSPL : Hid (splice (fillC (escL s j) N) P [Value.int .u8 92, Value.int .u8 (sndB o)] = fillC (escL s (j + 1)) N) := Lib.hid (by
                  have := fill_splice (L := escL s j) (N := N) [92, sndB o] (by rw [hP.out]; exact hroom)
                  rw [hP.out] at this
                  rw [escL, ho, escb_snd HO.out]
                  exact this)
                have HP2 : Hid ((escL s (j + 1)).length = P + 2) := Lib.hid (by rw [escL, ho, escb_snd HO.out, List.length_append, hP.out]; rfl)
                clear hcs hfl
                go_wp2_with fail
                go_region_law (refine step_copy_splice rfl (.tmp 105) (.tmp 111) 22 22 rfl 5 Tryz.underlying22 (by kernel_rfl) (some ⟨w1.heap.size, P, none⟩) (some ⟨g, 0, none⟩) (N - P) (N - P) 2 cp (by first | rfl | simp [Act.put]) (by first | rfl | simp [Act.put]) w1.heap.size P (fillC (escL s j) N) 5 HFD.out [.int .u8 92, .int .u8 (sndB o)] HCS.out (fun _ => ⟨rfl, _, rfl, HPOS.out⟩) HFIT.out HONE.out w.heap.size w HBD.out hw1 ?_; intro w2 hrow hB2)
                have HF2 : Hid (Fill w2 w1.heap.size (escL s (j + 1)) N) := Lib.hid (And.intro (by rw [HP2.out]; exact hroom) (by rw [← HSPL.out]; exact hrow.out))
                have HB2 : Hid (Below w.heap.size w w2) := Lib.hid hB2
                clear hrow hB2
                go_wp2_with fail
                go_roundw
                case rel => exact ⟨j + 1, P + 2, by omega, by go_num, by go_num, hroom, HP2, HF2, HB2⟩
                case measure => simp [intOf]; omega
              · have kc1 := (hB.out.cell (p := ⟨b, o, none⟩) hbl).trans (HNO.out o ho1 hsp)
                have hcn := cntS_no (s := s) (k := j) (by rw [ho]; exact hsp)
                have hroom : P < N := by
                  have := cntS_le s j
                  omega
                have hPi : (P : Int) < (N : Int) := by omega
                obtain ⟨x, hx⟩ := hF.out.there hroom
                have hz := hF.out.frozen P
                have hpush : Fill (wr.setCell ⟨w1.heap.size, P, none⟩ (.int .u8 (o : Int))) w1.heap.size (escL s (j + 1)) N := by
                  have := hF.out.push (by rw [hP.out]; exact hroom) (o : Int)
                  rw [hP.out] at this
                  rw [escL, ho, escb_no hsp]
                  exact this
                have HPU := Lib.hid hpush
                have HP2 : Hid ((escL s (j + 1)).length = P + 1) := Lib.hid (by rw [escL_len, hcn, hPl]; omega)
                clear hcn hpush hsp hm1 hPl hN2
                go_wp2_with fail
                go_roundw
                case rel => exact ⟨j + 1, P + 1, by omega, by go_num, by go_num, by omega, HP2, HPU, Lib.hid (hB.out.setCell hw1 _)⟩
                case measure => simp [intOf]; omega
            · have e : j = s.size := by omega
              subst e
              have hPN2 : P = N := by rw [← hP.out, escL_len, hN.out]
              subst hPN2
              have hF2 := hF.out
              have hPP := hP.out
              have hcv := (show Fill wr w1.heap.size (escL s s.size) (escL s s.size).length from by rw [hPP]; exact hF2).conv P
              rw [hPP] at hcv
              clear hPP hF2
              go_wp2_with fail
              go_ret
              exact ⟨rfl, hB.out⟩
  · have h32i : (32 : Int) ≤ (s.size : Int) := by omega
    obtain ⟨a0, ha0⟩ : ∃ a, a = cntB s 92 s.size := ⟨_, rfl⟩
    obtain ⟨a1, ha1⟩ : ∃ a, a = cntB s 34 s.size := ⟨_, rfl⟩
    obtain ⟨a2, ha2⟩ : ∃ a, a = cntB s 9 s.size := ⟨_, rfl⟩
    obtain ⟨a3, ha3⟩ : ∃ a, a = cntB s 10 s.size := ⟨_, rfl⟩
    have hl0 := cntB_le s 92 s.size
    have hl1 := cntB_le s 34 s.size
    have hl2 := cntB_le s 9 s.size
    have hl3 := cntB_le s 10 s.size
    rw [← ha0] at hl0
    rw [← ha1] at hl1
    rw [← ha2] at hl2
    rw [← ha3] at hl3
    have HSUM : Hid (cntS s s.size = a0 + a1 + a2 + a3) := Lib.hid (by rw [cntS_sum, ← ha0, ← ha1, ← ha2, ← ha3])
    have hC0 : ∀ w, Calls Tryz.prog 155 #[.string s, .string ⟨#[92]⟩] w fun e w' => e = .returned (.int .i64 (a0 : Int)) ∧ w' = w := fun w => by rw [show a0 = Go.Lib.countByte s.data.toList 92 from by rw [ha0]; exact (cntB_all s 92).symm]; exact Tryz.strings_Count_one s 92 w
    have hC1 : ∀ w, Calls Tryz.prog 155 #[.string s, .string ⟨#[34]⟩] w fun e w' => e = .returned (.int .i64 (a1 : Int)) ∧ w' = w := fun w => by rw [show a1 = Go.Lib.countByte s.data.toList 34 from by rw [ha1]; exact (cntB_all s 34).symm]; exact Tryz.strings_Count_one s 34 w
    have hC2 : ∀ w, Calls Tryz.prog 155 #[.string s, .string ⟨#[9]⟩] w fun e w' => e = .returned (.int .i64 (a2 : Int)) ∧ w' = w := fun w => by rw [show a2 = Go.Lib.countByte s.data.toList 9 from by rw [ha2]; exact (cntB_all s 9).symm]; exact Tryz.strings_Count_one s 9 w
    have hC3 : ∀ w, Calls Tryz.prog 155 #[.string s, .string ⟨#[10]⟩] w fun e w' => e = .returned (.int .i64 (a3 : Int)) ∧ w' = w := fun w => by rw [show a3 = Go.Lib.countByte s.data.toList 10 from by rw [ha3]; exact (cntB_all s 10).symm]; exact Tryz.strings_Count_one s 10 w
    clear ha0 ha1 ha2 ha3
    have HC0 := Lib.hid hC0
    have HC1 := Lib.hid hC1
    have HC2 := Lib.hid hC2
    have HC3 := Lib.hid hC3
    clear hC0 hC1 hC2 hC3
    go_enter Tryz.func153, Tryz.ntmps153
    go_wp2_with fail
    go_loopw [5, 6, 32] (fun n a i wr => Hid (Below w.heap.size w wr) ∧ (∃ (N : Nat) (z : Bool), n = .int .i64 N ∧ a = .bool z ∧ N ≤ 8388608 ∧ ((i = .int .i64 0 ∧ Hid (N = s.size ∧ z = false)) ∨ (i = .int .i64 1 ∧ Hid (N = s.size + a0 ∧ z = decide (0 < a0))) ∨ (i = .int .i64 2 ∧ Hid (N = s.size + a0 + a1 ∧ z = decide (0 < a0 + a1))) ∨ (i = .int .i64 3 ∧ Hid (N = s.size + a0 + a1 + a2 ∧ z = decide (0 < a0 + a1 + a2))) ∨ (i = .int .i64 4 ∧ Hid (N = s.size + a0 + a1 + a2 + a3 ∧ z = decide (0 < a0 + a1 + a2 + a3)))))) (fun _ _ i _ => 4 - (intOf i).toNat)
    case atStart => exact ⟨Lib.hid (Below.refl _ _), s.size, false, rfl, rfl, by omega, .inl ⟨rfl, Lib.hid ⟨rfl, rfl⟩⟩⟩
    case round =>
      obtain ⟨HB, N, z, rfl, rfl, hNb, h | h | h | h | h⟩ := hrel <;> obtain ⟨rfl, hh⟩ := h
      · have hx0 : ∀ h, ((⟨#[92]⟩ : ByteArray)[0]'h).toNat = 92 := fun _ => rfl
        have tk := (HB.out.cell (p := ⟨t, 0, none⟩) htl).trans t0
        obtain ⟨g, cp, hg, kc, y0, y1⟩ := HYES.out 92 (by unfold spc; omega)
        have kc1 := (HB.out.cell (p := ⟨b, 92, none⟩) hbl).trans kc
        go_wp2_with fail
        refine (HC0.out _).mono ?_
        rintro e w' ⟨rfl, hww⟩
        obtain rfl : wr = w' := hww.symm
        clear hww
        by_cases hz : a0 = 0
        · have hzi : (a0 : Int) = 0 := by omega
          have HH2 : Hid (N = s.size + a0 ∧ z = decide (0 < a0)) := Lib.hid ⟨by have := hh.out.1; omega, by rw [hh.out.2]; simp [hz]⟩
          clear hh hz
          go_wp2_with fail
          go_roundw
          case rel => exact ⟨HB, N, z, by first | rfl | go_num, rfl, hNb, .inr (.inl ⟨rfl, HH2⟩)⟩
          case measure => simp [intOf]
        · have hzi : ¬ (a0 : Int) = 0 := by omega
          have hNb3 : N + a0 ≤ 8388608 := by have := hh.out.1; omega
          have HH2 : Hid (N + a0 = s.size + a0 ∧ true = decide (0 < a0)) := Lib.hid ⟨by have := hh.out.1; omega, by simp; omega⟩
          clear hh hz
          go_wp2_with fail
          go_quiet (fail)
          go_wp2_with fail
          go_roundw
          case rel => exact ⟨Lib.hid (HB.out.trans ⟨rfl, rfl, rfl, Nat.le_refl _, fun _ _ => rfl⟩), N + a0, true, by first | rfl | go_num, rfl, hNb3, .inr (.inl ⟨rfl, HH2⟩)⟩
          case measure => simp [intOf]
      · have hx0 : ∀ h, ((⟨#[34]⟩ : ByteArray)[0]'h).toNat = 34 := fun _ => rfl
        have tk := (HB.out.cell (p := ⟨t, 1, none⟩) htl).trans t1
        obtain ⟨g, cp, hg, kc, y0, y1⟩ := HYES.out 34 (by unfold spc; omega)
        have kc1 := (HB.out.cell (p := ⟨b, 34, none⟩) hbl).trans kc
        go_wp2_with fail
        refine (HC1.out _).mono ?_
        rintro e w' ⟨rfl, hww⟩
        obtain rfl : wr = w' := hww.symm
        clear hww
        by_cases hz : a1 = 0
        · have hzi : (a1 : Int) = 0 := by omega
          have HH2 : Hid (N = s.size + a0 + a1 ∧ z = decide (0 < a0 + a1)) := Lib.hid ⟨by have := hh.out.1; omega, by rw [hh.out.2]; simp [hz]⟩
          clear hh hz
          go_wp2_with fail
          go_roundw
          case rel => exact ⟨HB, N, z, by first | rfl | go_num, rfl, hNb, .inr (.inr (.inl ⟨rfl, HH2⟩))⟩
          case measure => simp [intOf]
        · have hzi : ¬ (a1 : Int) = 0 := by omega
          have hNb3 : N + a1 ≤ 8388608 := by have := hh.out.1; omega
          have HH2 : Hid (N + a1 = s.size + a0 + a1 ∧ true = decide (0 < a0 + a1)) := Lib.hid ⟨by have := hh.out.1; omega, by simp; omega⟩
          clear hh hz
          go_wp2_with fail
          go_quiet (fail)
          go_wp2_with fail
          go_roundw
          case rel => exact ⟨Lib.hid (HB.out.trans ⟨rfl, rfl, rfl, Nat.le_refl _, fun _ _ => rfl⟩), N + a1, true, by first | rfl | go_num, rfl, hNb3, .inr (.inr (.inl ⟨rfl, HH2⟩))⟩
          case measure => simp [intOf]
      · have hx0 : ∀ h, ((⟨#[9]⟩ : ByteArray)[0]'h).toNat = 9 := fun _ => rfl
        have tk := (HB.out.cell (p := ⟨t, 2, none⟩) htl).trans t2
        obtain ⟨g, cp, hg, kc, y0, y1⟩ := HYES.out 9 (by unfold spc; omega)
        have kc1 := (HB.out.cell (p := ⟨b, 9, none⟩) hbl).trans kc
        go_wp2_with fail
        refine (HC2.out _).mono ?_
        rintro e w' ⟨rfl, hww⟩
        obtain rfl : wr = w' := hww.symm
        clear hww
        by_cases hz : a2 = 0
        · have hzi : (a2 : Int) = 0 := by omega
          have HH2 : Hid (N = s.size + a0 + a1 + a2 ∧ z = decide (0 < a0 + a1 + a2)) := Lib.hid ⟨by have := hh.out.1; omega, by rw [hh.out.2]; simp [hz]⟩
          clear hh hz
          go_wp2_with fail
          go_roundw
          case rel => exact ⟨HB, N, z, by first | rfl | go_num, rfl, hNb, .inr (.inr (.inr (.inl ⟨rfl, HH2⟩)))⟩
          case measure => simp [intOf]
        · have hzi : ¬ (a2 : Int) = 0 := by omega
          have hNb3 : N + a2 ≤ 8388608 := by have := hh.out.1; omega
          have HH2 : Hid (N + a2 = s.size + a0 + a1 + a2 ∧ true = decide (0 < a0 + a1 + a2)) := Lib.hid ⟨by have := hh.out.1; omega, by simp; omega⟩
          clear hh hz
          go_wp2_with fail
          go_quiet (fail)
          go_wp2_with fail
          go_roundw
          case rel => exact ⟨Lib.hid (HB.out.trans ⟨rfl, rfl, rfl, Nat.le_refl _, fun _ _ => rfl⟩), N + a2, true, by first | rfl | go_num, rfl, hNb3, .inr (.inr (.inr (.inl ⟨rfl, HH2⟩)))⟩
          case measure => simp [intOf]
      · have hx0 : ∀ h, ((⟨#[10]⟩ : ByteArray)[0]'h).toNat = 10 := fun _ => rfl
        have tk := (HB.out.cell (p := ⟨t, 3, none⟩) htl).trans t3
        obtain ⟨g, cp, hg, kc, y0, y1⟩ := HYES.out 10 (by unfold spc; omega)
        have kc1 := (HB.out.cell (p := ⟨b, 10, none⟩) hbl).trans kc
        go_wp2_with fail
        refine (HC3.out _).mono ?_
        rintro e w' ⟨rfl, hww⟩
        obtain rfl : wr = w' := hww.symm
        clear hww
        by_cases hz : a3 = 0
        · have hzi : (a3 : Int) = 0 := by omega
          have HH2 : Hid (N = s.size + a0 + a1 + a2 + a3 ∧ z = decide (0 < a0 + a1 + a2 + a3)) := Lib.hid ⟨by have := hh.out.1; omega, by rw [hh.out.2]; simp [hz]⟩
          clear hh hz
          go_wp2_with fail
          go_roundw
          case rel => exact ⟨HB, N, z, by first | rfl | go_num, rfl, hNb, .inr (.inr (.inr (.inr (⟨rfl, HH2⟩))))⟩
          case measure => simp [intOf]
        · have hzi : ¬ (a3 : Int) = 0 := by omega
          have hNb3 : N + a3 ≤ 8388608 := by have := hh.out.1; omega
          have HH2 : Hid (N + a3 = s.size + a0 + a1 + a2 + a3 ∧ true = decide (0 < a0 + a1 + a2 + a3)) := Lib.hid ⟨by have := hh.out.1; omega, by simp; omega⟩
          clear hh hz
          go_wp2_with fail
          go_quiet (fail)
          go_wp2_with fail
          go_roundw
          case rel => exact ⟨Lib.hid (HB.out.trans ⟨rfl, rfl, rfl, Nat.le_refl _, fun _ _ => rfl⟩), N + a3, true, by first | rfl | go_num, rfl, hNb3, .inr (.inr (.inr (.inr (⟨rfl, HH2⟩))))⟩
          case measure => simp [intOf]
      · have hN : Hid (N = s.size + cntS s s.size) := Lib.hid (by rw [HSUM.out]; have := hh.out.1; omega)
        by_cases hc : cntS s s.size = 0
        · have he := escS_none hc
          have HE := Lib.hid he
          obtain rfl : z = false := by rw [hh.out.2]; have := HSUM.out; simp; omega
          clear he
          go_wp2_with fail
          go_ret
          exact ⟨by rw [HE.out]; rfl, HB.out⟩
        · have hd0 : 0 < cntS s s.size := by omega
          obtain rfl : z = true := by rw [hh.out.2]; have := HSUM.out; simp; omega
          have hcl := cntS_le s s.size
          have hNb3 := hN.out
          have hNb2 : N ≤ 2097152 := by omega
          clear hcl hNb3
          obtain ⟨w1, rfl⟩ : ∃ w1, w1 = wr := ⟨wr, rfl⟩
          have hmk := run_make_row' (P := Tryz.prog) 22 5 (.int .u8 0) 1 Tryz.underlying22 infoU8 rfl .i64 .i64 N (by omega) (by omega)
          go_wp2_with fail
          have hf0 := Fill.new w1 N
          have HF0 := Lib.hid hf0
          have hw1 := HB.out.size
          have HB1 := Lib.hid (HB.out.alloc hw1 (.cells (madeCells #[.int .u8 0] N) 5))
          clear hf0 hmk
          go_loopw [13, 14] (fun p i wr => ∃ (j P : Nat), j ≤ s.size ∧ i = .int .i64 j ∧ p = .int .i64 P ∧ P ≤ N ∧ Hid ((escL s j).length = P) ∧ Hid (Fill wr w1.heap.size (escL s j) N) ∧ Hid (Below w.heap.size w wr)) (fun _ i _ => s.size - (intOf i).toNat)
          case atStart => exact ⟨0, 0, Nat.zero_le _, rfl, rfl, Nat.zero_le _, Lib.hid rfl, HF0, HB1⟩
          case round =>
            obtain ⟨j, P, hj, rfl, rfl, hPN, hP, hF, hB⟩ := hrel
            by_cases hlt : j < s.size
            · have hj1 : (j : Int) < (s.size : Int) := by omega
              have b0 := bt_nonneg s j
              have b1 := bt_le s j
              obtain ⟨o, ho⟩ := Int.eq_ofNat_of_zero_le b0
              have ho1 : o < 256 := by omega
              have hm1 : cntS s (j + 1) ≤ cntS s s.size := by
                have := cntS_mono s (j + 1) (s.size - (j + 1))
                rwa [show j + 1 + (s.size - (j + 1)) = s.size from by omega] at this
              have hPl : P = j + cntS s j := by rw [← hP.out, escL_len]
              have hN2 := hN.out
              by_cases hsp : spc (o : Int)
              · obtain ⟨g, cp, hg, kc, y0, y1⟩ := HYES.out o hsp
                have hcy := cntS_yes (s := s) (k := j) (by rw [ho]; exact hsp)
                have hroom : P + 2 ≤ N := by omega
                have kc1 := (hB.out.cell (p := ⟨b, o, none⟩) hbl).trans kc
                have y01 := (hB.out.cell (p := ⟨g, 0, none⟩) hg).trans y0
                have y11 := (hB.out.cell (p := ⟨g, 1, none⟩) hg).trans y1
                have hnq := hneq (some ⟨g, 0, none⟩) 2 cp
                have HO := Lib.hid hsp
                have HC := Lib.hid hcy
                have hPi : (P : Int) ≤ (N : Int) := by omega
                have hoi0 : (0 : Int) ≤ (o : Int) := by omega
                have hoi1 : (o : Int) < 256 := by omega
                clear hcy hsp hm1 hPl hN2
                have hcs : [Value.int .u8 92, Value.int .u8 (sndB o)].length = Nat.min 2 (N - P) := by show 2 = Nat.min 2 (N - P); exact (Nat.min_eq_left (by omega)).symm
                have hfl := fillC_len hF.out.1
                have hNP : ¬ N = P := by omega
                have HPOS : Hid (∀ (j : Nat) (v : Value), [Value.int .u8 92, Value.int .u8 (sndB o)][j]? = some v → wr.drew.cell? ((⟨g, 0, none⟩ : Addr).add j) = some v) := Lib.hid fun j v hj => by
                  match j, hj with
                  | 0, hj => simp at hj; subst hj; simpa [Addr.add] using y01
                  | 1, hj => simp at hj; subst hj; simpa [Addr.add] using y11
                  | j + 2, hj => simp at hj
                have HONE : Hid (∀ v ∈ [Value.int .u8 92, Value.int .u8 (sndB o)], v.oneCell' = true) := Lib.hid fun v hv => by simp at hv; rcases hv with rfl | rfl <;> rfl
                have HBD : Hid (Below w.heap.size w wr.drew) := Lib.hid hB.out.drew
                have HFD : Hid (wr.drew.heap[w1.heap.size]? = some (.cells (fillC (escL s j) N).toArray 5 (0, 0))) := Lib.hid hF.out.2
                have HFIT : Hid (P + [Value.int .u8 92, Value.int .u8 (sndB o)].length ≤ (fillC (escL s j) N).length) := Lib.hid (by rw [hfl]; exact hroom)
                have HCS := Lib.hid hcs
                have HSPL : Hid (splice (fillC (escL s j) N) P [Value.int .u8 92, Value.int .u8 (sndB o)] = fillC (escL s (j + 1)) N) := Lib.hid (by
                  have := fill_splice (L := escL s j) (N := N) [92, sndB o] (by rw [hP.out]; exact hroom)
                  rw [hP.out] at this
                  rw [escL, ho, escb_snd HO.out]
                  exact this)
                have HP2 : Hid ((escL s (j + 1)).length = P + 2) := Lib.hid (by rw [escL, ho, escb_snd HO.out, List.length_append, hP.out]; rfl)
                clear hcs hfl
                go_wp2_with fail
                go_region_law (refine step_copy_splice rfl (.tmp 105) (.tmp 111) 22 22 rfl 5 Tryz.underlying22 (by kernel_rfl) (some ⟨w1.heap.size, P, none⟩) (some ⟨g, 0, none⟩) (N - P) (N - P) 2 cp (by first | rfl | simp [Act.put]) (by first | rfl | simp [Act.put]) w1.heap.size P (fillC (escL s j) N) 5 HFD.out [.int .u8 92, .int .u8 (sndB o)] HCS.out (fun _ => ⟨rfl, _, rfl, HPOS.out⟩) HFIT.out HONE.out w.heap.size w HBD.out hw1 ?_; intro w2 hrow hB2)
                have HF2 : Hid (Fill w2 w1.heap.size (escL s (j + 1)) N) := Lib.hid (And.intro (by rw [HP2.out]; exact hroom) (by rw [← HSPL.out]; exact hrow.out))
                have HB2 : Hid (Below w.heap.size w w2) := Lib.hid hB2
                clear hrow hB2
                go_wp2_with fail
                go_roundw
                case rel => exact ⟨j + 1, P + 2, by omega, by go_num, by go_num, hroom, HP2, HF2, HB2⟩
                case measure => simp [intOf]; omega
              · have kc1 := (hB.out.cell (p := ⟨b, o, none⟩) hbl).trans (HNO.out o ho1 hsp)
                have hcn := cntS_no (s := s) (k := j) (by rw [ho]; exact hsp)
                have hroom : P < N := by
                  have := cntS_le s j
                  omega
                have hPi : (P : Int) < (N : Int) := by omega
                obtain ⟨x, hx⟩ := hF.out.there hroom
                have hz := hF.out.frozen P
                have hpush : Fill (wr.setCell ⟨w1.heap.size, P, none⟩ (.int .u8 (o : Int))) w1.heap.size (escL s (j + 1)) N := by
                  have := hF.out.push (by rw [hP.out]; exact hroom) (o : Int)
                  rw [hP.out] at this
                  rw [escL, ho, escb_no hsp]
                  exact this
                have HPU := Lib.hid hpush
                have HP2 : Hid ((escL s (j + 1)).length = P + 1) := Lib.hid (by rw [escL_len, hcn, hPl]; omega)
                clear hcn hpush hsp hm1 hPl hN2
                go_wp2_with fail
                go_roundw
                case rel => exact ⟨j + 1, P + 1, by omega, by go_num, by go_num, by omega, HP2, HPU, Lib.hid (hB.out.setCell hw1 _)⟩
                case measure => simp [intOf]; omega
            · have e : j = s.size := by omega
              subst e
              have hPN2 : P = N := by rw [← hP.out, escL_len, hN.out]
              subst hPN2
              have hF2 := hF.out
              have hPP := hP.out
              have hcv := (show Fill wr w1.heap.size (escL s s.size) (escL s s.size).length from by rw [hPP]; exact hF2).conv P
              rw [hPP] at hcv
              clear hPP hF2
              go_wp2_with fail
              go_ret
              exact ⟨rfl, hB.out⟩

end Go.Proofs.YtlfmiikpbdhemaaGreatDoor.Esc
