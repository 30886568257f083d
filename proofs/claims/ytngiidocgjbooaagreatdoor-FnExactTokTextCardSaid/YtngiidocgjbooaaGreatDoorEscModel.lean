/-
  The model's quoting of a text.
-/
import Derived.Test.YtngiidocgjbooaaGreatDoorEscPure
namespace Go.Proofs.YtngiidocgjbooaaGreatDoor.Esc
open Go.ChangeShapes Go.WideShapes Go.ChangeAt Go.RowKit Go.PlainAid Go.Maps
open Go.Proofs.YtngiidocgjbooaaGreatDoor.Dec Go.Proofs.YtngiidocgjbooaaGreatDoor.Lex
open Go.Proofs.YtngiidocgjbooaaGreatDoor.DecPure Go.Proofs.YtngiidocgjbooaaGreatDoor.ReadPure Go.Proofs.YtngiidocgjbooaaGreatDoor.LexPure
set_option linter.unusedVariables false

/-- Appending a literal of two bytes. -/
theorem buf_push2 {ops : Array Oper} {rest : List Oper} {o : Oper} {a : Act} {Q : Exit → Act → World → Prop} (B : Nat) (w : World) (v : Value) (L : List Int) (x z : Int)
    (hgd : o.guard = none) (s y : Operand) (ho : o.op = .call { callee := .builtin .append, args := #[s, y], argTypes := #[22, 22] }) (hs : a.eval s = v) (hy : a.eval y = .slice (some ⟨w.heap.size, 0, none⟩) 2 2)
    (h : Buf B w v L) (hL : L.length ≤ 100000000) (hB : B ≤ w.heap.size)
    (hK : ∀ v1 w1, Buf B w1 v1 (L ++ [x, z]) → w.grownBy w1 v.ownBlock → wpList Tryz.prog ops Q rest (a.put o.dst v1) w1) :
    wpList Tryz.prog ops Q (o :: rest) a (w.alloc (.cells #[.int .u8 x, .int .u8 z] 5)) := by
  obtain ⟨i0, hi, hz0, hz1, hz2⟩ := info_parts infoB
  refine wpList_append_lies _ hgd s y 22 ho B 5 i0 (.int .u8 0) 1 1 Tryz.underlying22 hi hz0 hz1 hz2 rfl (by omega) v L.length _ hs (h.alloc _) ⟨w.heap.size, 0, none⟩ 2 2 [.int .u8 x, .int .u8 z] hy rfl ?_ ?_ (by omega) (by unfold maxLen; omega) (by omega) (by simp; omega) _ rfl ?_
  · intro j u hj
    match j, hj with
    | 0, hj => simp at hj; subst hj; simp [Addr.add]
    | 1, hj => simp at hj; subst hj; simp [Addr.add]
  · intro u hu
    simp at hu
    rcases hu with rfl | rfl <;> rfl
  · intro g cap w1 hown hgrow _ _
    refine hK _ w1 ?_ ((World.grownBy_alloc w _ _).trans hgrow)
    unfold Buf
    rw [List.length_append, List.map_append]
    exact hown

set_option maxRecDepth 100000 in
set_option maxHeartbeats 4000000 in
theorem spec_quote (s : ByteArray) (hs : s.size ≤ 1048576) (w : World) :
    Calls Tryz.prog 65 #[.string s] w fun e w' => e = .returned (.string (strOfNums (34 :: (escL s s.size ++ [34])))) ∧ Below w.heap.size w w' := by
  have hb := get_bt s
  have hb0 : Buf w.heap.size (w.alloc (.cells #[.int .u8 34] 5)) (.slice (some ⟨w.heap.size, 0, none⟩) 1 1) [34] := by
    exact World.ownsRow_lit w #[.int .u8 34] 1 (Nat.le_refl _) (by unfold maxLen; omega) rfl
  go_enter Tryz.func65, Tryz.ntmps65
  go_wp2_with fail
  go_loopw [3, 4] (fun v i wr => ∃ j : Nat, j ≤ s.size ∧ i = .int .i64 j ∧ Hid (Buf w.heap.size wr v (34 :: escL s j)) ∧ Hid (Below w.heap.size w wr)) (fun _ i _ => s.size - (intOf i).toNat)
  case atStart => exact ⟨0, Nat.zero_le _, rfl, Lib.hid hb0, Lib.hid ((Below.refl _ _).alloc (Nat.le_refl _) _)⟩
  case round =>
    obtain ⟨j, hj, rfl, HBF, HB⟩ := hrel
    have hlen : (34 :: escL s j).length ≤ 3000000 := by
      have h1 := cntS_le s j
      rw [List.length_cons, escL_len]
      omega
    have hsz := HB.out.size
    by_cases hlt : j < s.size
    · have hj1 : (j : Int) < (s.size : Int) := by omega
      have b0 := bt_nonneg s j
      have b1 := bt_le s j
      have hu : 34 :: escL s (j + 1) = (34 :: escL s j) ++ escb (bt s j) := rfl
      by_cases h0 : bt s j = 10
      · skip
        have e0 : (bt s j == 10) = true := by simpa using h0
        have HU : Hid (34 :: escL s (j + 1) = (34 :: escL s j) ++ [92, 110]) := Lib.hid (by rw [hu]; congr 1; unfold escb; simp [h0])
        clear hu h0
        go_wp2_with (at_builtin; refine buf_push2 w.heap.size wr _ (34 :: escL s j) 92 110 rfl _ _ rfl rfl rfl HBF.out (by omega) (by omega) ?_; intro v2 w2 hbuf2 hgrow2)
        have hB2 := HB.out.grown hgrow2 hsz (fun x hx => (HBF.out.lt x hx).1)
        clear hgrow2
        go_roundw
        case rel => exact ⟨j + 1, by omega, by go_num, Lib.hid (by rw [HU.out]; exact hbuf2), Lib.hid hB2⟩
        case measure => simp [intOf]; omega
      · by_cases h1 : bt s j = 9
        · skip
          have e0 : (bt s j == 10) = false := by simpa using h0
          have e1 : (bt s j == 9) = true := by simpa using h1
          have HU : Hid (34 :: escL s (j + 1) = (34 :: escL s j) ++ [92, 116]) := Lib.hid (by rw [hu]; congr 1; unfold escb; simp [h1])
          clear hu h0 h1
          go_wp2_with (at_builtin; refine buf_push2 w.heap.size wr _ (34 :: escL s j) 92 116 rfl _ _ rfl rfl rfl HBF.out (by omega) (by omega) ?_; intro v2 w2 hbuf2 hgrow2)
          have hB2 := HB.out.grown hgrow2 hsz (fun x hx => (HBF.out.lt x hx).1)
          clear hgrow2
          go_roundw
          case rel => exact ⟨j + 1, by omega, by go_num, Lib.hid (by rw [HU.out]; exact hbuf2), Lib.hid hB2⟩
          case measure => simp [intOf]; omega
        · by_cases h2 : bt s j = 34
          · skip
            have e0 : (bt s j == 10) = false := by simpa using h0
            have e1 : (bt s j == 9) = false := by simpa using h1
            have e2 : (bt s j == 34) = true := by simpa using h2
            have HU : Hid (34 :: escL s (j + 1) = (34 :: escL s j) ++ [92, bt s j]) := Lib.hid (by rw [hu]; congr 1; unfold escb; simp [h2])
            clear hu h0 h1 h2
            go_wp2_with (at_builtin; refine buf_push2 w.heap.size wr _ (34 :: escL s j) 92 (bt s j) rfl _ _ rfl rfl rfl HBF.out (by omega) (by omega) ?_; intro v2 w2 hbuf2 hgrow2)
            have hB2 := HB.out.grown hgrow2 hsz (fun x hx => (HBF.out.lt x hx).1)
            clear hgrow2
            go_roundw
            case rel => exact ⟨j + 1, by omega, by go_num, Lib.hid (by rw [HU.out]; exact hbuf2), Lib.hid hB2⟩
            case measure => simp [intOf]; omega
          · by_cases h3 : bt s j = 92
            · skip
              have e0 : (bt s j == 10) = false := by simpa using h0
              have e1 : (bt s j == 9) = false := by simpa using h1
              have e2 : (bt s j == 34) = false := by simpa using h2
              have e3 : (bt s j == 92) = true := by simpa using h3
              have HU : Hid (34 :: escL s (j + 1) = (34 :: escL s j) ++ [92, bt s j]) := Lib.hid (by rw [hu]; congr 1; unfold escb; simp [h3])
              clear hu h0 h1 h2 h3
              go_wp2_with (at_builtin; refine buf_push2 w.heap.size wr _ (34 :: escL s j) 92 (bt s j) rfl _ _ rfl rfl rfl HBF.out (by omega) (by omega) ?_; intro v2 w2 hbuf2 hgrow2)
              have hB2 := HB.out.grown hgrow2 hsz (fun x hx => (HBF.out.lt x hx).1)
              clear hgrow2
              go_roundw
              case rel => exact ⟨j + 1, by omega, by go_num, Lib.hid (by rw [HU.out]; exact hbuf2), Lib.hid hB2⟩
              case measure => simp [intOf]; omega
            · skip
              have e0 : (bt s j == 10) = false := by simpa using h0
              have e1 : (bt s j == 9) = false := by simpa using h1
              have e2 : (bt s j == 34) = false := by simpa using h2
              have e3 : (bt s j == 92) = false := by simpa using h3
              have HU : Hid (34 :: escL s (j + 1) = (34 :: escL s j) ++ [bt s j]) := Lib.hid (by rw [hu]; congr 1; unfold escb; simp [h0, h1, h2, h3])
              clear hu h0 h1 h2 h3
              go_wp2_with (at_builtin; refine buf_push w.heap.size wr _ (34 :: escL s j) (bt s j) rfl _ _ rfl rfl rfl HBF.out (by omega) (by omega) ?_; intro v2 w2 hbuf2 hgrow2)
              have hB2 := HB.out.grown hgrow2 hsz (fun x hx => (HBF.out.lt x hx).1)
              clear hgrow2
              go_roundw
              case rel => exact ⟨j + 1, by omega, by go_num, Lib.hid (by rw [HU.out]; exact hbuf2), Lib.hid hB2⟩
              case measure => simp [intOf]; omega
    · have e : j = s.size := by omega
      subst e
      go_wp2_with (at_builtin; refine buf_push w.heap.size wr _ (34 :: escL s s.size) 34 rfl _ _ rfl rfl rfl HBF.out (by omega) (by omega) ?_; intro v2 w2 hbuf2 hgrow2; have hcv := buf_conv hbuf2)
      go_ret
      exact ⟨rfl, HB.out.grown hgrow2 hsz (fun x hx => (HBF.out.lt x hx).1)⟩

end Go.Proofs.YtngiidocgjbooaaGreatDoor.Esc
