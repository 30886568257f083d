/-
  The program's lexer: what Lex returns.
-/
import Derived.Test.YtlfmiikpbdhemaaGreatDoorLexer6
import Derived.Test.YtlfmiikpbdhemaaGreatDoorLexModel
namespace Go.Proofs.YtlfmiikpbdhemaaGreatDoor.Lex
open Go.ChangeShapes Go.WideShapes Go.ChangeAt Go.RowKit Go.PlainAid Go.Maps
open Go.Proofs.YtlfmiikpbdhemaaGreatDoor.Dec
open Go.Proofs.YtlfmiikpbdhemaaGreatDoor.DecPure Go.Proofs.YtlfmiikpbdhemaaGreatDoor.ReadPure Go.Proofs.YtlfmiikpbdhemaaGreatDoor.LexPure
set_option linter.unusedVariables false

theorem lexF_len (s : ByteArray) : ∀ (m a : Nat) (l : List Tk), a ≤ s.size → l.length ≤ a → (lexF s m a l).1.length ≤ s.size
  | 0, a, l, h1, h2 => by rw [lexF]; show l.length ≤ _; omega
  | m + 1, a, l, h1, h2 => by
    rw [lexF]
    by_cases c1 : gap s a < s.size
    · rw [if_pos c1]
      cases hq : tokP s (opnd l) (gap s a) with
      | none => show ([] : List Tk).length ≤ _; simp
      | some q =>
        have hg := gap_ge s a
        obtain ⟨h3, h4, _⟩ := tokP_end (t := q.1) (e := q.2) c1 hq
        exact lexF_len s m q.2 (l ++ [q.1]) h4 (by rw [List.length_append, List.length_singleton]; omega)
    · rw [if_neg c1]; show l.length ≤ _; omega
theorem lexP_len (s : ByteArray) : (lexP s).1.length ≤ 4000 := by
  unfold lexP
  by_cases h : 4000 < s.size
  · rw [if_pos h]; show ([] : List Tk).length ≤ _; simp
  · rw [if_neg h]
    have := lexF_len s (s.size + 1 - 0) 0 [] (Nat.zero_le _) (Nat.le_refl _)
    unfold lexS
    omega
theorem TR.mono {B B' : Nat} {w : World} {v : Value} {l : List Tk} (h : TR B w v l) (hb : B' ≤ B) : TR B' w v l := by
  rcases h with ⟨q1, q2 | ⟨x, cap, cur, q, q3, q4⟩⟩
  · exact ⟨q1, Or.inl q2⟩
  · exact ⟨q1, Or.inr ⟨x, cap, cur, q, Nat.le_trans hb q3, q4⟩⟩
theorem LX.at_ {w0 w : World} {g mb : Nat} {s : ByteArray} {p : Nat} {l : List Tk} (h : LX w0 w g mb s p l) (p' : Nat) : LX w0 (w.setCell ⟨g, 1, none⟩ (.int .i64 p')) g mb s p' l := by
  obtain ⟨v, hr, ht⟩ := h.ex
  have hlt := h.lt
  have hbase := h.base
  have hne : v.ownBlock ≠ some g := fun e => by have := (ht.lt g e).1; omega
  refine ⟨⟨v, (hr.set 1 (.int .i64 p')).congr (g := lf s p' mb v) (fun j hj => by
    match j, hj with
    | 0, _ => rfl
    | 1, _ => rfl
    | 2, _ => rfl
    | 3, _ => rfl), ht.setCell hne _⟩, h.map.setCell (by show mb ≠ g; omega) _, hlt, hbase, h.below.setCell (by show _ ≤ g; omega) _⟩

theorem LX.frozen1 {w0 w : World} {g mb : Nat} {s : ByteArray} {p : Nat} {l : List Tk} (h : LX w0 w g mb s p l) : w.frozen? ⟨g, 1, none⟩ = false := by
  obtain ⟨v, hr, _⟩ := h.ex
  exact hr.frozen 1
def atOf (w : World) (g : Nat) : Nat := match w.cell? ⟨g, 1, none⟩ with | some (.int _ n) => n.toNat | _ => 0

set_option maxRecDepth 100000 in
set_option maxHeartbeats 8000000 in
theorem impl_Lex (s : ByteArray) (hs : s.size ≤ 1048576) (w : World) : Calls Tryz.prog 5 #[.string s] w (LexRes s w) := by
  by_cases hbig : 4000 < s.size
  · have hP : lexP s = ([], 0) := by unfold lexP; rw [if_pos hbig]
    have HP := Lib.hid hP; clear hP
    have hd : (4000 : Int) < (s.size : Int) := by omega
    go_enter Tryz.func5, Tryz.ntmps5
    go_wp2_with fail
    go_ret2
    exact lexRes HP.out (TR.nil _ _) (Below.refl _ _)
  · have hP : lexP s = lexS s 0 [] := by unfold lexP; rw [if_neg hbig]
    have HP := Lib.hid hP; clear hP
    have hd : ¬ (4000 : Int) < (s.size : Int) := by omega
    have hs4 : s.size ≤ 4000 := by omega
    clear hbig
    go_enter Tryz.func5, Tryz.ntmps5
    go_wp2_with fail
    refine (impl_keywords w).mono ?_
    rintro e w1 ⟨rfl, hown, hB⟩
    have h0 : LX w (w1.alloc (.cells #[.string s, .int .i64 0, .map (some w.heap.size), .slice none 0 0] 44)) w1.heap.size w.heap.size s 0 [] := by
      refine ⟨⟨.slice none 0 0, ?_, TR.nil _ _⟩, hown.alloc _, hown.lt, Nat.le_refl _, hB.alloc hB.size _⟩
      exact World.rowIs_alloc w1 #[.string s, .int .i64 0, .map (some w.heap.size), .slice none 0 0] 44 (lf s 0 w.heap.size (.slice none 0 0)) (fun i hi => by
        have hi4 : i < 4 := hi
        match i, hi4 with
        | 0, _ => rfl
        | 1, _ => rfl
        | 2, _ => rfl
        | 3, _ => rfl)
    have H0 := Lib.hid h0; clear h0 hown hB
    go_wp2_with fail
    obtain ⟨g, hg⟩ : ∃ g, g = w1.heap.size := ⟨_, rfl⟩
    obtain ⟨mb, hmb⟩ : ∃ mb, mb = w.heap.size := ⟨_, rfl⟩
    have H1 : Hid (LX w (w1.alloc (.cells #[.string s, .int .i64 0, .map (some mb), .slice none 0 0] 44)) g mb s 0 []) := by
      rw [hg, hmb]
      exact H0.out
    clear H0
    rw [← hg, ← hmb]
    generalize w1.alloc (.cells #[.string s, .int .i64 0, .map (some mb), .slice none 0 0] 44) = w2 at *
    clear hg hmb
    go_loopw [] (fun wr => ∃ (q : Nat) (l : List Tk), q ≤ s.size ∧ l.length ≤ q ∧ Hid (LX w wr g mb s q l) ∧ Hid (lexS s q l = lexP s)) (fun wr => s.size - atOf wr g)
    case atStart => exact ⟨0, [], Nat.zero_le _, Nat.le_refl _, H1.out, HP.out.symm⟩
    case round =>
      obtain ⟨q, l, hq, hlq, HX, HS⟩ := hrel
      obtain ⟨c0, c1, c2⟩ := HX.out.cells
      have z1 := HX.out.frozen1
      have hat : atOf wr g = q := by unfold atOf; rw [c1]; simp
      have hgl := gap_le s q hq
      have hge := gap_ge s q
      obtain ⟨p, hp⟩ : ∃ p, p = gap s q := ⟨_, rfl⟩
      have hun := lexS_unf s q l
      rw [← hp] at hun hgl hge
      rw [HS.out] at hun
      have HGP := Lib.hid hp; clear hp HS
      have HA := Lib.hid (HX.out.at_ p)
      go_wp2_with fail
      refine (impl_gap s q hs hq _).mono ?_
      rw [← HGP.out]
      rintro x w' ⟨rfl, rfl⟩
      obtain ⟨d0, d1, d2⟩ := HA.out.cells
      by_cases hlt : p < s.size
      · rw [if_pos hlt] at hun
        have hne : ((p : Int) == (s.size : Int)) = false := by simp; omega
        obtain ⟨r, hr⟩ : ∃ r, r = tokP s (opnd l) p := ⟨_, rfl⟩
        rw [← hr] at hun
        have HR := Lib.hid hr; clear hr
        have HU := Lib.hid hun; clear hun
        go_wp2_with fail
        refine (lx_token w _ g mb s p l HA.out hs4 hlt (by omega)).mono ?_
        rintro x w3 h3
        have h3' : StepIs w w3 g mb s p l r x := by rw [HR.out]; exact h3
        clear h3
        rcases r with _ | ⟨t, k⟩
        · obtain ⟨rfl, h4⟩ := h3'
          obtain ⟨e0, e1, e2⟩ := h4.cells
          have H4 := Lib.hid h4; clear h4
          go_wp2_with fail
          go_quiet (fail)
          go_wp2_with fail
          go_ret2
          exact lexRes HU.out (TR.nil _ _) (bel_drewN H4.out.below _)
        · obtain ⟨rfl, h4⟩ := h3'
          have hE := tokP_end (t := t) (e := k) hlt HR.out.symm
          have hk1 : p < k := hE.1
          have hk2 : k ≤ s.size := hE.2.1
          clear hE
          have hat3 : atOf w3 g = k := by unfold atOf; rw [h4.cells.c1]; simp
          have H4 := Lib.hid h4; clear h4
          have HAT := Lib.hid hat
          have HAT3 := Lib.hid hat3
          clear hat hat3
          go_wp2_with fail
          go_roundw
          case rel => exact ⟨k, l ++ [t], hk2, by simp; omega, H4.out, HU.out.symm⟩
          case measure => rw [HAT.out, HAT3.out]; omega
      · rw [if_neg hlt] at hun
        have HU := Lib.hid hun; clear hun
        have hne : ((p : Int) == (s.size : Int)) = true := by simp; omega
        clear hlt
        obtain ⟨v, hrow, htr⟩ := HA.out.ex
        have d3 := hrow.cell (i := 3) (by omega)
        simp only [lf] at d3
        have HT := Lib.hid htr
        clear hrow htr
        have hbs := HA.out.base
        have hbl := HA.out.lt
        go_wp2_with fail
        go_ret2
        exact lexRes HU.out (HT.out.mono (by omega)) HA.out.below

end Go.Proofs.YtlfmiikpbdhemaaGreatDoor.Lex
