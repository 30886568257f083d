/-
  The program's scan of a regular expression, with its jumps.
-/
import Derived.Test.YtlfmiikpbdhemaaGreatDoorGotos
namespace Go.Proofs.YtlfmiikpbdhemaaGreatDoor.Lex
open Go.ChangeShapes Go.WideShapes Go.ChangeAt Go.RowKit Go.PlainAid Go.Maps
open Go.Proofs.YtlfmiikpbdhemaaGreatDoor.Dec
open Go.Proofs.YtlfmiikpbdhemaaGreatDoor.DecPure Go.Proofs.YtlfmiikpbdhemaaGreatDoor.ReadPure Go.Proofs.YtlfmiikpbdhemaaGreatDoor.LexPure
set_option linter.unusedVariables false

set_option maxRecDepth 100000 in
set_option maxHeartbeats 16000000 in
theorem impl_scan_re (s : ByteArray) (a : Nat) (hs : s.size ≤ 1048576) (ha : a < s.size) (hqt : bt s a = 47) (w : World) : Calls Tryz.prog 61 #[.string s, .int .i64 a] w fun e w' => ScanIs (reScan s a (reS s (a + 1))) e ∧ Below w.heap.size w w' := by
  have hb := get_bt s
  obtain ⟨R, hR⟩ : ∃ R, R = reS s (a + 1) := ⟨_, rfl⟩
  rw [← hR]
  have HR := Lib.hid hR; clear hR
  go_enter Tryz.func61, Tryz.ntmps61
  go_wp2_with fail
  refine wp_scope_two (by rfl) (by rfl) (fun l x wr => ∃ (j : Nat) (L : List Int) (v : Value), SF s j 47 v x ∧ j < s.size ∧ Buf w.heap.size wr v L ∧ Hid (Below w.heap.size w wr) ∧ ((l = 0 ∧ a ≤ j ∧ Hid (reS s (j + 1) = R) ∧ Hid (L = pz s (a + 1) (j - a)) ∧ L.length ≤ j - a) ∨ (l = 1 ∧ a < j ∧ bt s j = 92 ∧ Hid (reS s (j) = R) ∧ Hid (L = pz s (a + 1) (j - 1 - a)) ∧ L.length ≤ j - a))) (fun x _ => s.size - sfAt x) ?_ ?_ ?_ ?_
  · rintro l x wr ⟨j, L, v, _, _, _, _, h | h⟩
    · exact Or.inl h.1
    · exact Or.inr h.1
  · rintro x wr ⟨j, L, v, ⟨u2, u3, u4, u5, u6, u9, u10, u11, u12, u13, u14, u15, u16, u17, u18, u19, u20, u21, u22, u23, u24, u25, u26, u27, u28, u29, u30, u31, u32, u33, u34, u35, u36, u37, u38, u39, u40, u41, u42, u43, u44, u45, u46, u47, u48, u49, u50, u51, u52, u53, u54, u55, u56, u57, u58, u59, u60, u61, u62, u63, u64, u65, u66, rfl⟩, hj, hbuf, HB, ⟨_, h⟩ | ⟨h, _⟩⟩
    rotate_left
    · cases h
    obtain ⟨haj, HF, HL, hlen⟩ := h
    have hsz := HB.out.size
    have b0 := bt_nonneg s (j + 1)
    have b1 := bt_le s (j + 1)
    by_cases hlt : j + 1 < s.size
    · have hne : ((j : Int) + 1 == (s.size : Int)) = false := by simp; omega
      have hu := reS_unf s (j + 1) hlt
      rw [HF.out] at hu
      by_cases h10 : bt s (j + 1) = 10
      · have HX : Hid (R = none) := by show R = none; rw [hu, if_neg (by rw [h10]; decide), if_neg (by rw [h10]; decide), if_pos h10]
        have hq : (bt s (j + 1) == 10) = true := by simpa using h10
        clear hu h10
        go_wp2_with fail
        try simp only [jumpsQ]
        try simp only [Exit.inBlock]
        try simp only [Exit.then]
        try simp only [jumpsQ]
        go_ret3
        refine ⟨?_, HB.out⟩
        rw [HX.out]
        rfl
      · have hq : (bt s (j + 1) == 10) = false := by simpa using h10
        by_cases hx : bt s (j + 1) = 47
        · have hq2 : (bt s (j + 1) == 47) = true := by simpa using hx
          have hcv := buf_conv hbuf
          rw [if_pos hx] at hu
          have HX := Lib.hid hu; clear hu hx h10
          go_wp2_with fail
          try simp only [jumpsQ]
          try simp only [Exit.inBlock]
          try simp only [Exit.then]
          try simp only [jumpsQ]
          go_ret3
          refine ⟨?_, HB.out⟩
          rw [HX.out]
          exact scan_yes (by rw [HL.out, str_pz (by omega)]; congr 1; omega) (by simp)
        · have hq2 : (bt s (j + 1) == 47) = false := by simpa using hx
          by_cases h92 : bt s (j + 1) = 92
          · have hq3 : (bt s (j + 1) == 92) = true := by simpa using h92
            have HX : Hid (reS s (j + 1) = R) := HF.out
            have H92 := Lib.hid h92
            clear hu hx h10 h92
            go_wp2_with fail
            go_step3
            try simp only [jumpsQ]
            try simp only [Exit.inBlock]
            try simp only [Exit.then]
            try simp only [jumpsQ]
            refine ⟨⟨j + 1, L, v, ⟨_, _, _, _, _, _, _, _, _, _, _, _, _, _, _, _, _, _, _, _, _, _, _, _, _, _, _, _, _, _, _, _, _, _, _, _, _, _, _, _, _, _, _, _, _, _, _, _, _, _, _, _, _, _, _, _, _, _, _, _, _, _, _, rfl⟩, hlt, hbuf, HB, Or.inr ⟨rfl, by omega, H92.out, HX, by show L = _; rw [HL.out]; congr 1, by omega⟩⟩, by simp [sfAt]; omega⟩
          · have hq3 : (bt s (j + 1) == 92) = false := by simpa using h92
            rw [if_neg hx, if_neg h92, if_neg h10] at hu
            have HX : Hid (reS s (j + 1 + 1) = R) := by show _ = R; exact hu.symm
            clear hu hx h10 h92
            go_wp2_with (at_builtin; refine buf_push w.heap.size wr _ L (bt s (j + 1)) rfl _ _ rfl rfl rfl hbuf (by omega) hsz ?_; intro v1 w1 hbuf1 hgrow1)
            go_step3
            try simp only [jumpsQ]
            try simp only [Exit.inBlock]
            try simp only [Exit.then]
            try simp only [jumpsQ]
            refine ⟨⟨j + 1, L ++ [bt s (j + 1)], v1, ⟨_, _, _, _, _, _, _, _, _, _, _, _, _, _, _, _, _, _, _, _, _, _, _, _, _, _, _, _, _, _, _, _, _, _, _, _, _, _, _, _, _, _, _, _, _, _, _, _, _, _, _, _, _, _, _, _, _, _, _, _, _, _, _, rfl⟩, hlt, hbuf1, HB.out.grown hgrow1 hsz (fun y hy => (hbuf.lt y hy).1), Or.inl ⟨rfl, by omega, HX, by show _ = _; rw [show j + 1 - a = (j - a) + 1 from by omega, pz_step, ← HL.out, show a + 1 + (j - a) = j + 1 from by omega], by simp; omega⟩⟩, by simp [sfAt]; omega⟩
    · have hne : ((j : Int) + 1 == (s.size : Int)) = true := by simp; omega
      have hu := reS_out hlt
      have HX : Hid (R = none) := by show R = none; rw [← HF.out, hu]
      clear hu
      go_wp2_with fail
      try simp only [jumpsQ]
      try simp only [Exit.inBlock]
      try simp only [Exit.then]
      try simp only [jumpsQ]
      go_ret3
      refine ⟨?_, HB.out⟩
      rw [HX.out]
      rfl
  · rintro x wr ⟨j, L, v, ⟨u2, u3, u4, u5, u6, u9, u10, u11, u12, u13, u14, u15, u16, u17, u18, u19, u20, u21, u22, u23, u24, u25, u26, u27, u28, u29, u30, u31, u32, u33, u34, u35, u36, u37, u38, u39, u40, u41, u42, u43, u44, u45, u46, u47, u48, u49, u50, u51, u52, u53, u54, u55, u56, u57, u58, u59, u60, u61, u62, u63, u64, u65, u66, rfl⟩, hj, hbuf, HB, ⟨h, _⟩ | ⟨_, h⟩⟩
    · cases h
    obtain ⟨haj, h92, HF, HL, hlen⟩ := h
    have hsz := HB.out.size
    have b0 := bt_nonneg s (j + 1)
    have b1 := bt_le s (j + 1)
    have hu := reS_unf s j hj
    rw [HF.out, if_neg (by rw [h92]; decide), if_pos h92] at hu
    have H92 := Lib.hid h92; clear h92
    by_cases hlt : j + 1 < s.size
    · have hne : ((j : Int) + 1 == (s.size : Int)) = false := by simp; omega
      by_cases h10 : bt s (j + 1) = 10
      · have HU : Hid (unP 47 (bt s (j + 1)) = (strOfNums [92, bt s (j + 1)], false)) := by show unP 47 _ = _; unfold unP; rw [if_pos rfl, h10]; rfl
        rw [if_neg (fun h => h.2 h10)] at hu
        have HX : Hid (R = none) := hu
        clear hu h10
        go_wp2_with fail
        refine (impl_unescaped 47 (bt s (j + 1)) (.inr rfl) b0 b1 _).mono ?_
        rintro e w1 ⟨⟨t, b, rfl, ht, hbb⟩, hB1⟩
        rw [HU.out] at ht hbb
        simp only at ht hbb
        subst hbb
        clear ht
        go_wp2_with fail
        try simp only [jumpsQ]
        try simp only [Exit.inBlock]
        try simp only [Exit.then]
        try simp only [jumpsQ]
        go_ret3
        refine ⟨?_, HB.out.trans (hB1.mono hsz)⟩
        rw [HX.out]
        rfl
      · have HU : Hid (unP 47 (bt s (j + 1)) = (strOfNums [92, bt s (j + 1)], true)) := by show unP 47 _ = _; unfold unP; rw [if_pos rfl]; simp [h10]
        rw [if_pos ⟨hlt, h10⟩] at hu
        have HX : Hid (reS s (j + 1 + 1) = R) := hu.symm
        clear hu h10
        go_wp2_with fail
        refine (impl_unescaped 47 (bt s (j + 1)) (.inr rfl) b0 b1 _).mono ?_
        rintro e w1 ⟨⟨t, b, rfl, ht, hbb⟩, hB1⟩
        rw [HU.out] at ht hbb
        simp only at ht hbb
        subst ht hbb
        have hbuf1 : Buf w.heap.size w1 v L := hbuf.below hB1 (Nat.le_refl _)
        have HB1 : Hid (Below w.heap.size w w1) := HB.out.trans (hB1.mono hsz)
        have hsz1 := HB1.out.size
        clear hB1 hbuf HB
        go_wp2_with (at_builtin; refine buf_text w.heap.size w1 _ L [92, bt s (j + 1)] (by intro y hy; simp at hy; rcases hy with rfl | rfl <;> omega) rfl _ _ rfl rfl rfl hbuf1 (by simp; omega) hsz1 ?_; intro v1 w2 hbuf2 hgrow1)
        go_step3
        try simp only [jumpsQ]
        try simp only [Exit.inBlock]
        try simp only [Exit.then]
        try simp only [jumpsQ]
        refine ⟨⟨j + 1, L ++ [92, bt s (j + 1)], v1, ⟨_, _, _, _, _, _, _, _, _, _, _, _, _, _, _, _, _, _, _, _, _, _, _, _, _, _, _, _, _, _, _, _, _, _, _, _, _, _, _, _, _, _, _, _, _, _, _, _, _, _, _, _, _, _, _, _, _, _, _, _, _, _, _, rfl⟩, hlt, hbuf2, HB1.out.grown hgrow1 hsz1 (fun y hy => (hbuf1.lt y hy).1), Or.inl ⟨rfl, by omega, HX, by show _ = _; rw [show j + 1 - a = (j - 1 - a) + 1 + 1 from by omega, pz_step, pz_step, ← HL.out, show a + 1 + (j - 1 - a) = j from by omega, show a + 1 + (j - 1 - a + 1) = j + 1 from by omega, H92.out]; simp, by have := congrArg List.length HL.out; simp [pz] at this; simp; omega⟩⟩, by simp [sfAt]; omega⟩
    · rw [if_neg (fun h => hlt h.1)] at hu
      have hne : ((j : Int) + 1 == (s.size : Int)) = true := by simp; omega
      have HX : Hid (R = none) := hu
      clear hu
      go_wp2_with fail
      try simp only [jumpsQ]
      try simp only [Exit.inBlock]
      try simp only [Exit.then]
      try simp only [jumpsQ]
      go_ret3
      refine ⟨?_, HB.out⟩
      rw [HX.out]
      rfl
  · intro h0
    have H0 := Lib.hid h0; clear h0
    go_wp2_with fail
    go_step3
    try simp only [Exit.then]
    rename_i hK
    refine hK _ _ ?_
    refine H0.out _ _ ?_
    exact ⟨a, [], .slice none 0 0, ⟨_, _, _, _, _, _, _, _, _, _, _, _, _, _, _, _, _, _, _, _, _, _, _, _, _, _, _, _, _, _, _, _, _, _, _, _, _, _, _, _, _, _, _, _, _, _, _, _, _, _, _, _, _, _, _, _, _, _, _, _, _, _, _, rfl⟩, ha, Buf.nil _ _, Below.refl _ _, Or.inl ⟨by first | trivial | rfl, Nat.le_refl _, HR.out.symm, by show [] = pz s (a + 1) (a - a); simp [pz], by simp⟩⟩

end Go.Proofs.YtlfmiikpbdhemaaGreatDoor.Lex
