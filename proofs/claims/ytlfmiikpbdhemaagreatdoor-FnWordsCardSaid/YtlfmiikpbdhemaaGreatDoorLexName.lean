/-
  The model's lexer: names.
-/
import Derived.Test.YtlfmiikpbdhemaaGreatDoorLexSpec
namespace Go.Proofs.YtlfmiikpbdhemaaGreatDoor.Lex
open Go.ChangeShapes Go.WideShapes Go.ChangeAt Go.RowKit Go.PlainAid Go.Maps
open Go.Proofs.YtlfmiikpbdhemaaGreatDoor.Dec
open Go.Proofs.YtlfmiikpbdhemaaGreatDoor.DecPure Go.Proofs.YtlfmiikpbdhemaaGreatDoor.ReadPure Go.Proofs.YtlfmiikpbdhemaaGreatDoor.LexPure
set_option linter.unusedVariables false

/-- A token's block that is known whole. -/
def TB (w : World) (g : Nat) (cs : Array Value) : Prop := w.heap[g]? = some (.cells cs 30 (0, 0))
theorem TB.cell {w : World} {g : Nat} {cs : Array Value} (h : TB w g cs) (i : Nat) : w.cell? ⟨g, i, none⟩ = cs[i]? := cell_of_row w g i cs 30 (0, 0) h
theorem TB.frozen {w : World} {g : Nat} {cs : Array Value} (h : TB w g cs) (i : Nat) : w.frozen? ⟨g, i, none⟩ = false := by
  unfold TB at h
  simp [World.frozen?, h]
theorem TB.lt {w : World} {g : Nat} {cs : Array Value} (h : TB w g cs) : g < w.heap.size := by
  rcases Nat.lt_or_ge g w.heap.size with hlt | hge
  · exact hlt
  · unfold TB at h; rw [Array.getElem?_eq_none hge] at h; cases h
theorem TB.alloc {w : World} {g : Nat} {cs : Array Value} (h : TB w g cs) (o : Obj) : TB (w.alloc o) g cs := (Below.heap_alloc w o g h.lt).trans h
theorem TB.same {w w' : World} {g : Nat} {cs : Array Value} (h : TB w g cs) (hb : w'.heap[g]? = w.heap[g]?) : TB w' g cs := hb.trans h
theorem TB.below {w w' : World} {B g : Nat} {cs : Array Value} (h : TB w g cs) (hb : Below B w w') (hg : g < B) : TB w' g cs := (hb.block g hg).trans h
theorem TB.set_ {w : World} {g : Nat} {cs : Array Value} (h : TB w g cs) (i : Nat) (u : Value) : TB (w.setCell ⟨g, i, none⟩ u) g (cs.setIfInBounds i u) := by
  unfold TB at h ⊢
  simp [World.setCell, Array.getElem?_modify, h]

theorem two_new (w : World) (o : Obj) (cs : Array Value) : TB ((w.alloc o).alloc (.cells cs 30)) (w.heap.size + 1) cs := by
  have := heap_alloc_new (w.alloc o) (.cells cs 30)
  rwa [World.size_alloc] at this
theorem TB.other {w : World} {g : Nat} {cs : Array Value} (h : TB w g cs) (x : Addr) (u : Value) (hx : g ≠ x.block) : TB (w.setCell x u) g cs := (Below.heap_setCell w x u g hx).trans h
theorem TB.store4 {w : World} {g : Nat} {x0 x1 x2 x3 : Value} (h : TB w g #[x0, x1, x2, x3]) (a b c d : Value) :
    TB ((((w.setCell ⟨g, 0, none⟩ a).setCell ⟨g, 1, none⟩ b).setCell ⟨g, 2, none⟩ c).setCell ⟨g, 3, none⟩ d) g #[a, b, c, d] := by
  have := (((h.set_ 0 a).set_ 1 b).set_ 2 c).set_ 3 d
  simpa using this
theorem TB.cells4 {w : World} {g : Nat} {a b c d : Value} (h : TB w g #[a, b, c, d]) :
    w.cell? ⟨g, 0, none⟩ = some a ∧ w.cell? ⟨g, 1, none⟩ = some b ∧ w.cell? ⟨g, 2, none⟩ = some c ∧ w.cell? ⟨g, 3, none⟩ = some d :=
  ⟨h.cell 0, h.cell 1, h.cell 2, h.cell 3⟩
/-- What a function returns whose first result is a token that lies in a block. -/
theorem tb_results {fn : Func} {p u : Tmp} (h : fn.results = #[.cell p 30, .tmp u]) {tmps : Array Value} {w : World} {g : Nat} {a b c d : Value} (T : TB w g #[a, b, c, d])
    (hp : tmps.getD p undef = .pointer (some ⟨g, 0, none⟩)) {x : Value} (hx : tmps.getD u undef = x) : (results fn tmps).run Tryz.prog w = .ok (.tuple #[.agg #[a, b, c, d], x]) w := by
  obtain ⟨r0, r1, r2, r3⟩ := T.cells4
  rw [results_cell_tmp h, hp, hx]
  simp [go_sem, r0, r1, r2, r3]

set_option maxHeartbeats 4000000 in
theorem spec_name (s : ByteArray) (a : Nat) (hs : s.size ≤ 1048576) (ha : a ≤ s.size) (w : World) : Calls Tryz.prog 24 #[.string s, .int .i64 a] w fun e w' => TokRes (if endOf innB s a - a ≤ 40 then some (⟨nmK s a (endOf innB s a), s.extract a (endOf innB s a), 0, a⟩, endOf innB s a) else none) e ∧ Below w.heap.size w w' := by
  have hb := get_bt s
  have hend : ∃ k, k = endOf innB s a := ⟨_, rfl⟩
  obtain ⟨to, hto⟩ := hend
  have hat := endOf_ge innB s a
  have hle := endOf_le innB s a ha
  rw [← hto] at hat hle ⊢
  have HTO := Lib.hid hto; clear hto
  go_enter Tryz.func24, Tryz.ntmps24
  go_wp2_with fail
  go_loop [6] (fun i => ∃ k : Nat, a ≤ k ∧ k ≤ s.size ∧ Hid (endOf innB s k = to) ∧ i = .int .i64 k) (fun i => s.size - (intOf i).toNat)
  case atStart => exact ⟨a, Nat.le_refl _, ha, HTO.out.symm, rfl⟩
  case round =>
    obtain ⟨k, hak, hk, HE, rfl⟩ := hrel
    have b0 := bt_nonneg s k
    have b1 := bt_le s k
    by_cases hgo : k < s.size ∧ innB (bt s k) = true
    · obtain ⟨hlt, hd⟩ := hgo
      have hst := endOf_step hlt hd
      have HS := Lib.hid hst; clear hst
      go_wp2_with fail
      refine (spec_inner _ (by omega) (by omega) _).mono ?_; rw [hd]; rintro e w' ⟨rfl, rfl⟩
      go_wp2_with fail
      go_round
      case rel => exact ⟨k + 1, by omega, by omega, by show endOf innB s (k + 1) = _; rw [← HS.out]; exact HE.out, by go_num⟩
      case measure => simp [intOf]; omega
    · have hst := endOf_stop (p := innB) (s := s) (a := k) hgo
      obtain rfl : k = to := by rw [← hst]; exact HE.out
      clear hst HE
      have hgo2 : (k < s.size ∧ innB (bt s k) = false) ∨ decide (k < s.size) = false := by
        by_cases h : k < s.size
        · left; refine ⟨h, ?_⟩; cases hi : innB (bt s k) with
          | false => rfl
          | true => exact absurd ⟨h, hi⟩ hgo
        · right; simpa using h
      clear hgo
      rcases hgo2 with ⟨hlt, hi⟩ | hd
      · by_cases h40 : k - a ≤ 40
        · have hn : ¬ (40 : Int) < (k : Int) - (a : Int) := by omega
          cases hwd : isWd (s.extract a k) with
          | true =>
            have HK : Hid (nmK s a k = 6) := by show nmK s a k = 6; unfold nmK; rw [if_pos hwd]
            go_wp2_with fail
            refine (spec_inner _ (by omega) (by omega) _).mono ?_; rw [hi]; rintro e w' ⟨rfl, rfl⟩
            go_wp2_with fail
            refine (spec_IsWord _ _).mono ?_; rw [hwd]; rintro e w1 ⟨rfl, hB1⟩
            have T1 : TB w1 w.heap.size #[.int .i64 0, .string ⟨#[]⟩, .int .i64 0, .int .i64 0] := TB.below (TB.alloc (heap_alloc_new w _) _) hB1 (by simp; omega)
            have T2 : TB w1 (w.heap.size + 1) #[.int .i64 4, .string (s.extract a k), .int .i64 0, .int .i64 a] := TB.below (two_new w _ _) hB1 (by simp)
            have HB : Hid (Below w.heap.size w w1) := (((Below.refl w.heap.size w).alloc (Nat.le_refl _) _).alloc (by simp) _).trans (hB1.mono (by simp; omega))
            obtain ⟨p0, p1, p2, p3⟩ := T1.cells4
            obtain ⟨q0, q1, q2, q3⟩ := T2.cells4
            have f0 := T1.frozen 0
            have f1 := T1.frozen 1
            have f2 := T1.frozen 2
            have f3 := T1.frozen 3
            have g0 := T2.frozen 0
            have hlt1 := T2.lt
            have L1 := Lib.hid T1
            have L2 := Lib.hid T2
            clear T1 T2 hB1
            go_wp2_with fail
            have T := TB.store4 (TB.other L1.out ⟨w.heap.size + 1, 0, none⟩ (.int .i64 6) (by simp)) (.int .i64 6) (.string (s.extract a k)) (.int .i64 0) (.int .i64 a)
            refine bodyPost_ret (tb_results Tryz.results24 T rfl rfl) rfl ?_
            exact ⟨by first | exact tokRes_yes HK.out.symm rfl rfl rfl rfl | (rw [if_pos h40]; exact tokRes_yes HK.out.symm rfl rfl rfl rfl), by exact (((((HB.out.setCell (by simp) _).setCell (by simp) _).setCell (by simp) _).setCell (by simp) _).setCell (by simp) _)⟩
          | false =>
            by_cases h4 : bt s k = 40
            · have HK : Hid (nmK s a k = 5) := by show nmK s a k = 5; unfold nmK; rw [hwd, if_neg (by decide), if_pos ⟨hlt, h4⟩]
              have hq : (bt s k == 40) = true := by simpa using h4
              clear h4
              go_wp2_with fail
              refine (spec_inner _ (by omega) (by omega) _).mono ?_; rw [hi]; rintro e w' ⟨rfl, rfl⟩
              go_wp2_with fail
              refine (spec_IsWord _ _).mono ?_; rw [hwd]; rintro e w1 ⟨rfl, hB1⟩
              have T1 : TB w1 w.heap.size #[.int .i64 0, .string ⟨#[]⟩, .int .i64 0, .int .i64 0] := TB.below (TB.alloc (heap_alloc_new w _) _) hB1 (by simp; omega)
              have T2 : TB w1 (w.heap.size + 1) #[.int .i64 4, .string (s.extract a k), .int .i64 0, .int .i64 a] := TB.below (two_new w _ _) hB1 (by simp)
              have HB : Hid (Below w.heap.size w w1) := (((Below.refl w.heap.size w).alloc (Nat.le_refl _) _).alloc (by simp) _).trans (hB1.mono (by simp; omega))
              obtain ⟨p0, p1, p2, p3⟩ := T1.cells4
              obtain ⟨q0, q1, q2, q3⟩ := T2.cells4
              have f0 := T1.frozen 0
              have f1 := T1.frozen 1
              have f2 := T1.frozen 2
              have f3 := T1.frozen 3
              have g0 := T2.frozen 0
              have hlt1 := T2.lt
              have L1 := Lib.hid T1
              have L2 := Lib.hid T2
              clear T1 T2 hB1
              go_wp2_with fail
              have T := TB.store4 (TB.other L1.out ⟨w.heap.size + 1, 0, none⟩ (.int .i64 5) (by simp)) (.int .i64 5) (.string (s.extract a k)) (.int .i64 0) (.int .i64 a)
              refine bodyPost_ret (tb_results Tryz.results24 T rfl rfl) rfl ?_
              exact ⟨by first | exact tokRes_yes HK.out.symm rfl rfl rfl rfl | (rw [if_pos h40]; exact tokRes_yes HK.out.symm rfl rfl rfl rfl), by exact (((((HB.out.setCell (by simp) _).setCell (by simp) _).setCell (by simp) _).setCell (by simp) _).setCell (by simp) _)⟩
            · have HK : Hid (nmK s a k = 4) := by show nmK s a k = 4; unfold nmK; rw [hwd, if_neg (by decide), if_neg (fun h => h4 h.2)]
              have hq : (bt s k == 40) = false := by simpa using h4
              clear h4
              go_wp2_with fail
              refine (spec_inner _ (by omega) (by omega) _).mono ?_; rw [hi]; rintro e w' ⟨rfl, rfl⟩
              go_wp2_with fail
              refine (spec_IsWord _ _).mono ?_; rw [hwd]; rintro e w1 ⟨rfl, hB1⟩
              have T1 : TB w1 w.heap.size #[.int .i64 0, .string ⟨#[]⟩, .int .i64 0, .int .i64 0] := TB.below (TB.alloc (heap_alloc_new w _) _) hB1 (by simp; omega)
              have T2 : TB w1 (w.heap.size + 1) #[.int .i64 4, .string (s.extract a k), .int .i64 0, .int .i64 a] := TB.below (two_new w _ _) hB1 (by simp)
              have HB : Hid (Below w.heap.size w w1) := (((Below.refl w.heap.size w).alloc (Nat.le_refl _) _).alloc (by simp) _).trans (hB1.mono (by simp; omega))
              obtain ⟨p0, p1, p2, p3⟩ := T1.cells4
              obtain ⟨q0, q1, q2, q3⟩ := T2.cells4
              have f0 := T1.frozen 0
              have f1 := T1.frozen 1
              have f2 := T1.frozen 2
              have f3 := T1.frozen 3
              have g0 := T2.frozen 0
              have hlt1 := T2.lt
              have L1 := Lib.hid T1
              have L2 := Lib.hid T2
              clear T1 T2 hB1
              go_wp2_with fail
              have T := TB.store4 L1.out (.int .i64 4) (.string (s.extract a k)) (.int .i64 0) (.int .i64 a)
              refine bodyPost_ret (tb_results Tryz.results24 T rfl rfl) rfl ?_
              exact ⟨by first | exact tokRes_yes HK.out.symm rfl rfl rfl rfl | (rw [if_pos h40]; exact tokRes_yes HK.out.symm rfl rfl rfl rfl), by exact ((((HB.out.setCell (by simp) _).setCell (by simp) _).setCell (by simp) _).setCell (by simp) _)⟩
        · have hn : (40 : Int) < (k : Int) - (a : Int) := by omega
          go_wp2_with fail
          refine (spec_inner _ (by omega) (by omega) _).mono ?_; rw [hi]; rintro e w' ⟨rfl, rfl⟩
          go_wp2_with fail
          go_returns
          exact ⟨by first | rfl | (rw [if_neg h40]; rfl), ((Below.refl w.heap.size w).alloc (Nat.le_refl _) _).alloc (by simp) _⟩
      · by_cases h40 : k - a ≤ 40
        · have hn : ¬ (40 : Int) < (k : Int) - (a : Int) := by omega
          cases hwd : isWd (s.extract a k) with
          | true =>
            have HK : Hid (nmK s a k = 6) := by show nmK s a k = 6; unfold nmK; rw [if_pos hwd]
            go_wp2_with fail
            refine (spec_IsWord _ _).mono ?_; rw [hwd]; rintro e w1 ⟨rfl, hB1⟩
            have T1 : TB w1 w.heap.size #[.int .i64 0, .string ⟨#[]⟩, .int .i64 0, .int .i64 0] := TB.below (TB.alloc (heap_alloc_new w _) _) hB1 (by simp; omega)
            have T2 : TB w1 (w.heap.size + 1) #[.int .i64 4, .string (s.extract a k), .int .i64 0, .int .i64 a] := TB.below (two_new w _ _) hB1 (by simp)
            have HB : Hid (Below w.heap.size w w1) := (((Below.refl w.heap.size w).alloc (Nat.le_refl _) _).alloc (by simp) _).trans (hB1.mono (by simp; omega))
            obtain ⟨p0, p1, p2, p3⟩ := T1.cells4
            obtain ⟨q0, q1, q2, q3⟩ := T2.cells4
            have f0 := T1.frozen 0
            have f1 := T1.frozen 1
            have f2 := T1.frozen 2
            have f3 := T1.frozen 3
            have g0 := T2.frozen 0
            have hlt1 := T2.lt
            have L1 := Lib.hid T1
            have L2 := Lib.hid T2
            clear T1 T2 hB1
            go_wp2_with fail
            have T := TB.store4 (TB.other L1.out ⟨w.heap.size + 1, 0, none⟩ (.int .i64 6) (by simp)) (.int .i64 6) (.string (s.extract a k)) (.int .i64 0) (.int .i64 a)
            refine bodyPost_ret (tb_results Tryz.results24 T rfl rfl) rfl ?_
            exact ⟨by first | exact tokRes_yes HK.out.symm rfl rfl rfl rfl | (rw [if_pos h40]; exact tokRes_yes HK.out.symm rfl rfl rfl rfl), by exact (((((HB.out.setCell (by simp) _).setCell (by simp) _).setCell (by simp) _).setCell (by simp) _).setCell (by simp) _)⟩
          | false =>
            have HK : Hid (nmK s a k = 4) := by show nmK s a k = 4; unfold nmK; rw [hwd, if_neg (by decide), if_neg (fun h => by have := h.1; simp at hd; omega)]
            go_wp2_with fail
            refine (spec_IsWord _ _).mono ?_; rw [hwd]; rintro e w1 ⟨rfl, hB1⟩
            have T1 : TB w1 w.heap.size #[.int .i64 0, .string ⟨#[]⟩, .int .i64 0, .int .i64 0] := TB.below (TB.alloc (heap_alloc_new w _) _) hB1 (by simp; omega)
            have T2 : TB w1 (w.heap.size + 1) #[.int .i64 4, .string (s.extract a k), .int .i64 0, .int .i64 a] := TB.below (two_new w _ _) hB1 (by simp)
            have HB : Hid (Below w.heap.size w w1) := (((Below.refl w.heap.size w).alloc (Nat.le_refl _) _).alloc (by simp) _).trans (hB1.mono (by simp; omega))
            obtain ⟨p0, p1, p2, p3⟩ := T1.cells4
            obtain ⟨q0, q1, q2, q3⟩ := T2.cells4
            have f0 := T1.frozen 0
            have f1 := T1.frozen 1
            have f2 := T1.frozen 2
            have f3 := T1.frozen 3
            have g0 := T2.frozen 0
            have hlt1 := T2.lt
            have L1 := Lib.hid T1
            have L2 := Lib.hid T2
            clear T1 T2 hB1
            go_wp2_with fail
            have T := TB.store4 L1.out (.int .i64 4) (.string (s.extract a k)) (.int .i64 0) (.int .i64 a)
            refine bodyPost_ret (tb_results Tryz.results24 T rfl rfl) rfl ?_
            exact ⟨by first | exact tokRes_yes HK.out.symm rfl rfl rfl rfl | (rw [if_pos h40]; exact tokRes_yes HK.out.symm rfl rfl rfl rfl), by exact ((((HB.out.setCell (by simp) _).setCell (by simp) _).setCell (by simp) _).setCell (by simp) _)⟩
        · have hn : (40 : Int) < (k : Int) - (a : Int) := by omega
          go_wp2_with fail
          go_returns
          exact ⟨by first | rfl | (rw [if_neg h40]; rfl), ((Below.refl w.heap.size w).alloc (Nat.le_refl _) _).alloc (by simp) _⟩

end Go.Proofs.YtlfmiikpbdhemaaGreatDoor.Lex
