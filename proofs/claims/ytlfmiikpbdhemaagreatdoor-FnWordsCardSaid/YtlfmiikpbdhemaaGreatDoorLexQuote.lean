/-
  The model's lexer: strings and regular expressions.
-/
import Derived.Test.YtlfmiikpbdhemaaGreatDoorBuf
namespace Go.Proofs.YtlfmiikpbdhemaaGreatDoor.Lex
open Go.ChangeShapes Go.WideShapes Go.ChangeAt Go.RowKit Go.PlainAid Go.Maps
open Go.Proofs.YtlfmiikpbdhemaaGreatDoor.Dec
open Go.Proofs.YtlfmiikpbdhemaaGreatDoor.DecPure Go.Proofs.YtlfmiikpbdhemaaGreatDoor.ReadPure Go.Proofs.YtlfmiikpbdhemaaGreatDoor.LexPure
set_option linter.unusedVariables false

/-- Which byte stands behind a backslash. -/
theorem esc_cases (b : Int) : b = 110 ∨ b = 116 ∨ b = 34 ∨ b = 92 ∨ ((b == 110) = false ∧ (b == 116) = false ∧ (b == 34) = false ∧ (b == 92) = false ∧ escB b = none) := by
  by_cases h1 : b = 110
  · exact .inl h1
  · by_cases h2 : b = 116
    · exact .inr (.inl h2)
    · by_cases h3 : b = 34
      · exact .inr (.inr (.inl h3))
      · by_cases h4 : b = 92
        · exact .inr (.inr (.inr (.inl h4)))
        · refine .inr (.inr (.inr (.inr ⟨by simpa using h1, by simpa using h2, by simpa using h3, by simpa using h4, ?_⟩)))
          unfold escB
          rw [if_neg h1, if_neg h2, if_neg h3, if_neg h4]
def strRes (r : Option (List Int × Nat)) (a : Nat) : Option (Tk × Nat) := match r with | none => none | some q => some (⟨2, strOfNums q.1, 0, a⟩, q.2)
def reRes (s : ByteArray) (r : Option Nat) (a : Nat) : Option (Tk × Nat) := match r with | none => none | some e => some (⟨3, s.extract (a + 1) e, 0, a⟩, e + 1)

set_option maxHeartbeats 8000000 in
theorem spec_str (s : ByteArray) (a : Nat) (hs : s.size ≤ 1048576) (ha : a < s.size) (w : World) : Calls Tryz.prog 22 #[.string s, .int .i64 a] w fun e w' => TokRes (strRes (strS s (a + 1) []) a) e ∧ Below w.heap.size w w' := by
  have hb := get_bt s
  obtain ⟨R, hR⟩ : ∃ R, R = strS s (a + 1) [] := ⟨_, rfl⟩
  rw [← hR]
  have HR := Lib.hid hR; clear hR
  go_enter Tryz.func22, Tryz.ntmps22
  go_wp2_with fail
  go_loopw [6, 7] (fun v i wr => ∃ (j : Nat) (L : List Int), j ≤ s.size ∧ i = .int .i64 j ∧ Buf (w.heap.size + 1) wr v L ∧ L.length ≤ j ∧ Hid (strS s j L = R) ∧ Below w.heap.size w wr ∧ TB wr w.heap.size #[.int .i64 0, .string ⟨#[]⟩, .int .i64 0, .int .i64 0]) (fun _ i _ => s.size - (intOf i).toNat)
  case atStart => exact ⟨a + 1, [], by omega, by go_num, Buf.nil _ _, by simp, HR.out.symm, (Below.refl _ _).alloc (Nat.le_refl _) _, heap_alloc_new w _⟩
  case round =>
    obtain ⟨j, L, hj, rfl, hbuf, hLj, HS, hB, hT⟩ := hrel
    have b0 := bt_nonneg s j
    have b1 := bt_le s j
    have hsz := hT.lt
    obtain ⟨p0, p1, p2, p3⟩ := hT.cells4
    have f0 := hT.frozen 0
    have f1 := hT.frozen 1
    have f2 := hT.frozen 2
    have f3 := hT.frozen 3
    have HT := Lib.hid hT; clear hT
    have HB := Lib.hid hB; clear hB
    by_cases hlt : j < s.size
    · have hu := strS_unf s j L hlt
      by_cases h34 : bt s j = 34
      · have HX : Hid (R = some (L, j + 1)) := by show R = _; rw [← HS.out, hu, if_pos h34]
        have hcv := buf_conv hbuf
        have hq : (bt s j == 34) = true := by simpa using h34
        clear hu h34 hbuf
        go_wp2_with fail
        have T := TB.store4 HT.out (.int .i64 2) (.string (strOfNums L)) (.int .i64 0) (.int .i64 a)
        refine bodyPost_ret (tb_results Tryz.results22 T rfl rfl) rfl ?_
        refine ⟨?_, (((HB.out.setCell (Nat.le_refl _) _).setCell (Nat.le_refl _) _).setCell (Nat.le_refl _) _).setCell (Nat.le_refl _) _⟩
        rw [HX.out]
        exact tokRes_yes rfl rfl rfl rfl (by simp)
      · have hq : (bt s j == 34) = false := by simpa using h34
        rw [if_neg h34] at hu
        by_cases h10 : bt s j = 10
        · have HX : Hid (R = none) := by show R = _; rw [← HS.out, hu, if_pos h10]
          have hq2 : (bt s j == 10) = true := by simpa using h10
          clear hu h34 h10 hbuf
          go_wp2_with fail
          have T := TB.store4 HT.out (.int .i64 0) (.string ⟨#[]⟩) (.int .i64 0) (.int .i64 0)
          refine bodyPost_ret (tb_results Tryz.results22 T rfl rfl) rfl ?_
          refine ⟨?_, (((HB.out.setCell (Nat.le_refl _) _).setCell (Nat.le_refl _) _).setCell (Nat.le_refl _) _).setCell (Nat.le_refl _) _⟩
          rw [HX.out]
          rfl
        · have hq2 : (bt s j == 10) = false := by simpa using h10
          rw [if_neg h10] at hu
          by_cases h92 : bt s j = 92
          · have hq3 : (bt s j == 92) = true := by simpa using h92
            rw [if_pos h92] at hu
            by_cases hl2 : j + 1 < s.size
            · rw [if_pos hl2] at hu
              have c0 := bt_nonneg s (j + 1)
              have c1 := bt_le s (j + 1)
              have hne : ((j : Int) + 1 == (s.size : Int)) = false := by simp; omega
              rcases esc_cases (bt s (j + 1)) with he | he | he | he | ⟨e1, e2, e3, e4, he⟩
              · have HU : Hid (strS s (j + 2) (L ++ [10]) = R) := by show _ = R; rw [← HS.out, hu, he]; rfl
                have e0 : (bt s (j + 1) == 110) = true := by rw [he]; rfl
                have e1 : (bt s (j + 1) == 116) = false := by rw [he]; rfl
                have e2 : (bt s (j + 1) == 34) = false := by rw [he]; rfl
                have e3 : (bt s (j + 1) == 92) = false := by rw [he]; rfl
                clear hu h34 h10 h92 he
                go_wp2_with (at_builtin; refine buf_push (w.heap.size + 1) wr _ L 10 rfl _ _ rfl rfl rfl hbuf (by omega) (by omega) ?_; intro v1 w1 hbuf1 hgrow1)
                have hB1 : Below w.heap.size w w1 := HB.out.grown hgrow1 HB.out.size (fun x hx => by have := (hbuf.lt x hx).1; omega)
                have hT1 : TB w1 w.heap.size #[.int .i64 0, .string ⟨#[]⟩, .int .i64 0, .int .i64 0] := HT.out.same (hgrow1.block _ hsz (fun e => by have := (hbuf.lt _ e.symm).1; omega))
                clear hgrow1 hbuf
                go_roundw
                case rel => exact ⟨j + 2, L ++ [10], by omega, by go_num, hbuf1, by simp; omega, HU.out, hB1, hT1⟩
                case measure => simp [intOf]; omega
              · have HU : Hid (strS s (j + 2) (L ++ [9]) = R) := by show _ = R; rw [← HS.out, hu, he]; rfl
                have e0 : (bt s (j + 1) == 110) = false := by rw [he]; rfl
                have e1 : (bt s (j + 1) == 116) = true := by rw [he]; rfl
                have e2 : (bt s (j + 1) == 34) = false := by rw [he]; rfl
                have e3 : (bt s (j + 1) == 92) = false := by rw [he]; rfl
                clear hu h34 h10 h92 he
                go_wp2_with (at_builtin; refine buf_push (w.heap.size + 1) wr _ L 9 rfl _ _ rfl rfl rfl hbuf (by omega) (by omega) ?_; intro v1 w1 hbuf1 hgrow1)
                have hB1 : Below w.heap.size w w1 := HB.out.grown hgrow1 HB.out.size (fun x hx => by have := (hbuf.lt x hx).1; omega)
                have hT1 : TB w1 w.heap.size #[.int .i64 0, .string ⟨#[]⟩, .int .i64 0, .int .i64 0] := HT.out.same (hgrow1.block _ hsz (fun e => by have := (hbuf.lt _ e.symm).1; omega))
                clear hgrow1 hbuf
                go_roundw
                case rel => exact ⟨j + 2, L ++ [9], by omega, by go_num, hbuf1, by simp; omega, HU.out, hB1, hT1⟩
                case measure => simp [intOf]; omega
              · have HU : Hid (strS s (j + 2) (L ++ [(bt s (j + 1))]) = R) := by show _ = R; rw [← HS.out, hu, he]; rfl
                have e0 : (bt s (j + 1) == 110) = false := by rw [he]; rfl
                have e1 : (bt s (j + 1) == 116) = false := by rw [he]; rfl
                have e2 : (bt s (j + 1) == 34) = true := by rw [he]; rfl
                have e3 : (bt s (j + 1) == 92) = false := by rw [he]; rfl
                clear hu h34 h10 h92 he
                go_wp2_with (at_builtin; refine buf_push (w.heap.size + 1) wr _ L (bt s (j + 1)) rfl _ _ rfl rfl rfl hbuf (by omega) (by omega) ?_; intro v1 w1 hbuf1 hgrow1)
                have hB1 : Below w.heap.size w w1 := HB.out.grown hgrow1 HB.out.size (fun x hx => by have := (hbuf.lt x hx).1; omega)
                have hT1 : TB w1 w.heap.size #[.int .i64 0, .string ⟨#[]⟩, .int .i64 0, .int .i64 0] := HT.out.same (hgrow1.block _ hsz (fun e => by have := (hbuf.lt _ e.symm).1; omega))
                clear hgrow1 hbuf
                go_roundw
                case rel => exact ⟨j + 2, L ++ [(bt s (j + 1))], by omega, by go_num, hbuf1, by simp; omega, HU.out, hB1, hT1⟩
                case measure => simp [intOf]; omega
              · have HU : Hid (strS s (j + 2) (L ++ [(bt s (j + 1))]) = R) := by show _ = R; rw [← HS.out, hu, he]; rfl
                have e0 : (bt s (j + 1) == 110) = false := by rw [he]; rfl
                have e1 : (bt s (j + 1) == 116) = false := by rw [he]; rfl
                have e2 : (bt s (j + 1) == 34) = false := by rw [he]; rfl
                have e3 : (bt s (j + 1) == 92) = true := by rw [he]; rfl
                clear hu h34 h10 h92 he
                go_wp2_with (at_builtin; refine buf_push (w.heap.size + 1) wr _ L (bt s (j + 1)) rfl _ _ rfl rfl rfl hbuf (by omega) (by omega) ?_; intro v1 w1 hbuf1 hgrow1)
                have hB1 : Below w.heap.size w w1 := HB.out.grown hgrow1 HB.out.size (fun x hx => by have := (hbuf.lt x hx).1; omega)
                have hT1 : TB w1 w.heap.size #[.int .i64 0, .string ⟨#[]⟩, .int .i64 0, .int .i64 0] := HT.out.same (hgrow1.block _ hsz (fun e => by have := (hbuf.lt _ e.symm).1; omega))
                clear hgrow1 hbuf
                go_roundw
                case rel => exact ⟨j + 2, L ++ [(bt s (j + 1))], by omega, by go_num, hbuf1, by simp; omega, HU.out, hB1, hT1⟩
                case measure => simp [intOf]; omega
              · have HX : Hid (R = none) := by show R = _; rw [← HS.out, hu, he]
                clear hu h34 h10 h92 he hbuf
                go_wp2_with fail
                have T := TB.store4 HT.out (.int .i64 0) (.string ⟨#[]⟩) (.int .i64 0) (.int .i64 0)
                refine bodyPost_ret (tb_results Tryz.results22 T rfl rfl) rfl ?_
                refine ⟨?_, (((HB.out.setCell (Nat.le_refl _) _).setCell (Nat.le_refl _) _).setCell (Nat.le_refl _) _).setCell (Nat.le_refl _) _⟩
                rw [HX.out]
                rfl
            · rw [if_neg hl2] at hu
              have HX : Hid (R = none) := by show R = _; rw [← HS.out, hu]
              have hne : ((j : Int) + 1 == (s.size : Int)) = true := by simp; omega
              clear hu h34 h10 h92 hbuf
              go_wp2_with fail
              have T := TB.store4 HT.out (.int .i64 0) (.string ⟨#[]⟩) (.int .i64 0) (.int .i64 0)
              refine bodyPost_ret (tb_results Tryz.results22 T rfl rfl) rfl ?_
              refine ⟨?_, (((HB.out.setCell (Nat.le_refl _) _).setCell (Nat.le_refl _) _).setCell (Nat.le_refl _) _).setCell (Nat.le_refl _) _⟩
              rw [HX.out]
              rfl
          · have hq3 : (bt s j == 92) = false := by simpa using h92
            rw [if_neg h92] at hu
            have HU : Hid (strS s (j + 1) (L ++ [bt s j]) = R) := by show _ = R; rw [← HS.out, hu]
            clear hu h34 h10 h92
            go_wp2_with (at_builtin; refine buf_push (w.heap.size + 1) wr _ L (bt s j) rfl _ _ rfl rfl rfl hbuf (by omega) (by omega) ?_; intro v1 w1 hbuf1 hgrow1)
            have hB1 : Below w.heap.size w w1 := HB.out.grown hgrow1 HB.out.size (fun x hx => by have := (hbuf.lt x hx).1; omega)
            have hT1 : TB w1 w.heap.size #[.int .i64 0, .string ⟨#[]⟩, .int .i64 0, .int .i64 0] := HT.out.same (hgrow1.block _ hsz (fun e => by have := (hbuf.lt _ e.symm).1; omega))
            clear hgrow1 hbuf
            go_roundw
            case rel => exact ⟨j + 1, L ++ [(bt s j)], by omega, by go_num, hbuf1, by simp; omega, HU.out, hB1, hT1⟩
            case measure => simp [intOf]; omega
    · have hu := strS_out L hlt
      have HX : Hid (R = none) := by show R = _; rw [← HS.out, hu]
      have hd : decide (j < s.size) = false := by simpa using hlt
      clear hu hbuf
      go_wp2_with fail
      have T := TB.store4 HT.out (.int .i64 0) (.string ⟨#[]⟩) (.int .i64 0) (.int .i64 0)
      refine bodyPost_ret (tb_results Tryz.results22 T rfl rfl) rfl ?_
      refine ⟨?_, (((HB.out.setCell (Nat.le_refl _) _).setCell (Nat.le_refl _) _).setCell (Nat.le_refl _) _).setCell (Nat.le_refl _) _⟩
      rw [HX.out]
      rfl

set_option maxHeartbeats 4000000 in
theorem spec_re (s : ByteArray) (a : Nat) (hs : s.size ≤ 1048576) (ha : a < s.size) (w : World) : Calls Tryz.prog 26 #[.string s, .int .i64 a] w fun e w' => TokRes (reRes s (reS s (a + 1)) a) e ∧ Below w.heap.size w w' := by
  have hb := get_bt s
  obtain ⟨R, hR⟩ : ∃ R, R = reS s (a + 1) := ⟨_, rfl⟩
  rw [← hR]
  have HR := Lib.hid hR; clear hR
  go_enter Tryz.func26, Tryz.ntmps26
  go_wp2_with fail
  go_loop [6] (fun i => ∃ (j : Nat), a + 1 ≤ j ∧ j ≤ s.size ∧ i = .int .i64 j ∧ Hid (reS s j = R)) (fun i => s.size - (intOf i).toNat)
  case atStart => exact ⟨a + 1, Nat.le_refl _, by omega, by go_num, HR.out.symm⟩
  case round =>
    obtain ⟨j, haj, hj, rfl, HS⟩ := hrel
    have b0 := bt_nonneg s j
    have b1 := bt_le s j
    by_cases hlt : j < s.size
    · have hu := reS_unf s j hlt
      by_cases h47 : bt s j = 47
      · have HX : Hid (R = some j) := by show R = _; rw [← HS.out, hu, if_pos h47]
        have hq : (bt s j == 47) = true := by simpa using h47
        clear hu h47
        go_wp2_with fail
        go_returns
        refine ⟨?_, (Below.refl _ _).alloc (Nat.le_refl _) _⟩
        rw [HX.out]
        exact tokRes_yes rfl rfl rfl rfl (by simp)
      · have hq : (bt s j == 47) = false := by simpa using h47
        rw [if_neg h47] at hu
        by_cases h92 : bt s j = 92
        · have hq3 : (bt s j == 92) = true := by simpa using h92
          have hq4 : (bt s j == 10) = false := by rw [h92]; rfl
          rw [if_pos h92] at hu
          by_cases hl2 : j + 1 < s.size
          · have c0 := bt_nonneg s (j + 1)
            have c1 := bt_le s (j + 1)
            by_cases h10 : bt s (j + 1) = 10
            · have HX : Hid (R = none) := by show R = _; rw [← HS.out, hu, if_neg (fun h => h.2 h10)]
              have hq2 : (bt s (j + 1) == 10) = true := by simpa using h10
              clear hu h47 h92 h10
              go_wp2_with fail
              go_returns
              refine ⟨?_, (Below.refl _ _).alloc (Nat.le_refl _) _⟩
              rw [HX.out]
              rfl
            · have HU : Hid (reS s (j + 2) = R) := by show _ = R; rw [← HS.out, hu, if_pos ⟨hl2, h10⟩]
              have hq2 : (bt s (j + 1) == 10) = false := by simpa using h10
              clear hu h47 h92 h10
              go_wp2_with fail
              go_round
              case rel => exact ⟨j + 2, by omega, by omega, by go_num, HU.out⟩
              case measure => simp [intOf]; omega
          · have HX : Hid (R = none) := by show R = _; rw [← HS.out, hu, if_neg (fun h => hl2 h.1)]
            have hge : (s.size : Int) ≤ (j : Int) + 1 := by omega
            clear hu h47 h92
            go_wp2_with fail
            go_returns
            refine ⟨?_, (Below.refl _ _).alloc (Nat.le_refl _) _⟩
            rw [HX.out]
            rfl
        · have hq3 : (bt s j == 92) = false := by simpa using h92
          rw [if_neg h92] at hu
          by_cases h10 : bt s j = 10
          · have HX : Hid (R = none) := by show R = _; rw [← HS.out, hu, if_pos h10]
            have hq2 : (bt s j == 10) = true := by simpa using h10
            clear hu h47 h92 h10
            go_wp2_with fail
            go_returns
            refine ⟨?_, (Below.refl _ _).alloc (Nat.le_refl _) _⟩
            rw [HX.out]
            rfl
          · have HU : Hid (reS s (j + 1) = R) := by show _ = R; rw [← HS.out, hu, if_neg h10]
            have hq2 : (bt s j == 10) = false := by simpa using h10
            clear hu h47 h92 h10
            go_wp2_with fail
            go_round
            case rel => exact ⟨j + 1, by omega, by omega, by go_num, HU.out⟩
            case measure => simp [intOf]; omega
    · have hu := reS_out hlt
      have HX : Hid (R = none) := by show R = _; rw [← HS.out, hu]
      have hd : decide (j < s.size) = false := by simpa using hlt
      clear hu
      go_wp2_with fail
      go_returns
      refine ⟨?_, (Below.refl _ _).alloc (Nat.le_refl _) _⟩
      rw [HX.out]
      rfl

end Go.Proofs.YtlfmiikpbdhemaaGreatDoor.Lex
