/-
  The model's lexer: what Lex returns.
-/
import Derived.Test.YtlfmiikpbdhemaaGreatDoorLexSign
import Derived.Test.YtlfmiikpbdhemaaGreatDoorLexOper
import Derived.Test.YtlfmiikpbdhemaaGreatDoorLexQuote
namespace Go.Proofs.YtlfmiikpbdhemaaGreatDoor.Lex
open Go.ChangeShapes Go.WideShapes Go.ChangeAt Go.RowKit Go.PlainAid Go.Maps
open Go.Proofs.YtlfmiikpbdhemaaGreatDoor.Dec
open Go.Proofs.YtlfmiikpbdhemaaGreatDoor.DecPure Go.Proofs.YtlfmiikpbdhemaaGreatDoor.ReadPure Go.Proofs.YtlfmiikpbdhemaaGreatDoor.LexPure
set_option linter.unusedVariables false

def LexRes (s : ByteArray) (w : World) (e : Ending) (w' : World) : Prop := ∃ v, e = .returned (.tuple #[v, .int .i64 (lexP s).2]) ∧ TR w.heap.size w' v (lexP s).1 ∧ Below w.heap.size w w'
theorem lexRes {s : ByteArray} {w w' : World} {v : Value} {l : List Tk} {x : Int} (h : lexP s = (l, x)) (h1 : TR w.heap.size w' v l) (h2 : Below w.heap.size w w') : LexRes s w (.returned (.tuple #[v, .int .i64 x])) w' := by
  refine ⟨v, ?_, ?_, h2⟩
  · rw [h]
  · rw [h]; exact h1
theorem bt_range (s : ByteArray) (k : Nat) : 0 ≤ bt s k ∧ bt s k ≤ 255 := ⟨bt_nonneg s k, bt_le s k⟩

theorem TR.set4 {B : Nat} {w : World} {v : Value} {l : List Tk} (h : TR B w v l) {g : Nat} (hg : v.ownBlock ≠ some g) (a b c d : Value) :
    TR B ((((w.setCell ⟨g, 0, none⟩ a).setCell ⟨g, 1, none⟩ b).setCell ⟨g, 2, none⟩ c).setCell ⟨g, 3, none⟩ d) v l := (((h.setCell hg a).setCell hg b).setCell hg c).setCell hg d
theorem below_set4 {B : Nat} {a w : World} (h : Below B a w) {g : Nat} (hg : B ≤ g) (x y z u : Value) : Below B a ((((w.setCell ⟨g, 0, none⟩ x).setCell ⟨g, 1, none⟩ y).setCell ⟨g, 2, none⟩ z).setCell ⟨g, 3, none⟩ u) :=
  (((h.setCell (p := ⟨g, 0, none⟩) hg x).setCell (p := ⟨g, 1, none⟩) hg y).setCell (p := ⟨g, 2, none⟩) hg z).setCell (p := ⟨g, 3, none⟩) hg u
theorem tok_push_at {ops : Array Oper} {rest : List Oper} {o : Oper} {a : Act} {Q : Exit → Act → World → Prop} (B : Nat) (w : World) (v : Value) (l : List Tk) (t : Tk) (n : Nat) (hn : w.heap.size = n)
    (hgd : o.guard = none) (s y : Operand) (ho : o.op = .call { callee := .builtin .append, args := #[s, y], argTypes := #[24, 24] }) (hs : a.eval s = v) (hy : a.eval y = .slice (some ⟨n, 0, none⟩) 1 1)
    (h : TR B w v l) (hl : l.length ≤ 10000000) (hB : B ≤ n)
    (hK : ∀ v1 w1, TR B w1 v1 (l ++ [t]) → w.grownBy w1 v.ownBlock → wpList Tryz.prog ops Q rest (a.put o.dst v1) w1) :
    wpList Tryz.prog ops Q (o :: rest) a (w.alloc (.cells #[.int .i64 t.kind, .string t.s, .int .i64 t.n, .int .i64 t.pos] 30)) := by
  subst hn
  exact tok_push B w v l t hgd s y ho hs hy h hl hB hK

set_option maxRecDepth 100000 in
set_option maxHeartbeats 16000000 in
theorem spec_Lex (s : ByteArray) (hs : s.size ≤ 1048576) (w : World) : Calls Tryz.prog 6 #[.string s] w (LexRes s w) := by
  have hb := get_bt s
  by_cases hbig : 4000 < s.size
  · have hP : lexP s = ([], 0) := by unfold lexP; rw [if_pos hbig]
    have HP := Lib.hid hP; clear hP
    have hd : (4000 : Int) < (s.size : Int) := by omega
    go_enter Tryz.func6, Tryz.ntmps6
    go_wp2_with fail
    go_ret2
    exact lexRes HP.out (TR.nil _ _) (Below.refl _ _)
  · have hP : lexP s = lexS s 0 [] := by unfold lexP; rw [if_neg hbig]
    have HP := Lib.hid hP; clear hP
    have hd : ¬ (4000 : Int) < (s.size : Int) := by omega
    have hs4 : s.size ≤ 4000 := by omega
    clear hbig
    go_enter Tryz.func6, Tryz.ntmps6
    go_wp2_with fail
    refine (spec_blank s 0 hs (by omega) _).mono ?_
    rintro e w' ⟨rfl, rfl⟩
    go_wp2_with fail
    go_loopw [4, 5] (fun v i wr => ∃ (q : Nat) (l : List Tk), q ≤ s.size ∧ i = .int .i64 (gap s q) ∧ l.length ≤ q ∧ Hid (TR w.heap.size wr v l) ∧ Hid (lexS s q l = lexP s) ∧ Hid (Below w.heap.size w wr)) (fun _ i _ => s.size - (intOf i).toNat)
    case atStart => exact ⟨0, [], Nat.zero_le _, rfl, Nat.le_refl _, TR.nil _ _, HP.out.symm, Below.refl _ _⟩
    case round =>
      obtain ⟨q, l, hq, rfl, hlq, HTR, HX, HB⟩ := hrel
      have hgl := gap_le s q hq
      have hge := gap_ge s q
      obtain ⟨p, hp⟩ : ∃ p, p = gap s q := ⟨_, rfl⟩
      have hun := lexS_unf s q l
      rw [← hp] at hun hgl hge ⊢
      rw [HX.out] at hun
      clear HX
      have HGP := Lib.hid hp; clear hp
      obtain ⟨av, cv, rfl⟩ := HTR.out.form
      by_cases hlt : p < s.size
      · rw [if_pos hlt] at hun
        obtain ⟨r, hr⟩ : ∃ r, r = tokP s (opnd l) p := ⟨_, rfl⟩
        rw [← hr] at hun
        have HR := Lib.hid hr; clear hr
        have HU := Lib.hid hun; clear hun
        have b0 := bt_nonneg s p
        have b1 := bt_le s p
        have hbs := HB.out.size
        have hob : ∀ x, (Value.slice av l.length cv).ownBlock = some x → x < wr.heap.size := fun x hx => (HTR.out.lt x hx).2
        have HOB := Lib.hid hob; clear hob
        have T0 : Hid (TB (wr.alloc (.cells #[.int .i64 0, .string ⟨#[]⟩, .int .i64 0, .int .i64 0] 30)) wr.heap.size #[.int .i64 0, .string ⟨#[]⟩, .int .i64 0, .int .i64 0]) := heap_alloc_new wr _
        have R0 : Hid (TR w.heap.size (wr.alloc (.cells #[.int .i64 0, .string ⟨#[]⟩, .int .i64 0, .int .i64 0] 30)) (.slice av l.length cv) l) := HTR.out.alloc _
        have B0 : Hid (Below w.heap.size w (wr.alloc (.cells #[.int .i64 0, .string ⟨#[]⟩, .int .i64 0, .int .i64 0] 30))) := HB.out.alloc HB.out.size _
        clear HTR HB
        cases hd9 : dgB (bt s p) with
        | true =>
          have HRR : Hid (r = some (⟨1, ⟨#[]⟩, rdN (s.extract p (numE s p)), p⟩, numE s p)) := by
            show r = _
            rw [HR.out]
            unfold tokP
            rw [if_pos hd9]
          go_wp2_with fail
          refine (spec_digit _ (by omega) (by omega) _).mono ?_; rw [hd9]; rintro e w' ⟨rfl, rfl⟩
          go_wp2_with fail
          refine (spec_num s p hs (by omega) _).mono ?_
          rw [← HRR.out]
          rintro e w2 ⟨hres, hB2⟩
          clear HRR
          have T2 : TB w2 wr.heap.size #[.int .i64 0, .string ⟨#[]⟩, .int .i64 0, .int .i64 0] := T0.out.below hB2 T0.out.lt
          have R2 : Hid (TR w.heap.size w2 (.slice av l.length cv) l) := R0.out.below hB2 (Nat.le_refl _)
          have B2 : Hid (Below w.heap.size w w2) := B0.out.trans (hB2.mono B0.out.size)
          obtain ⟨p0, p1, p2, p3⟩ := T2.cells4
          have f0 := T2.frozen 0
          have f1 := T2.frozen 1
          have f2 := T2.frozen 2
          have f3 := T2.frozen 3
          have hlt2 := T2.lt
          clear T0 R0 B0 hB2 T2
          rcases r with _ | ⟨t, k⟩
          · obtain rfl := hres
            go_wp2_with fail
            go_ret2
            exact lexRes HU.out (TR.nil _ _) (below_set4 B2.out hbs _ _ _ _)
          · obtain rfl := hres
            have hE := tokP_end (t := t) (e := k) hlt HR.out.symm
            have hk1 : p < k := hE.1
            have hk2 : k ≤ s.size := hE.2.1
            clear hE
            unfold tval
            have hne : (Value.slice av l.length cv).ownBlock ≠ some wr.heap.size := fun e => by have := HOB.out _ e; omega
            have HNE := Lib.hid hne; clear hne
            have hl7 : l.length ≤ 10000000 := by omega
            go_wp2_with (at_builtin; refine tok_push_at w.heap.size _ _ l t w2.heap.size (by simp [World.setCell]) rfl _ _ rfl rfl rfl (R2.out.set4 HNE.out _ _ _ _) hl7 (by omega) ?_; intro v1 w3 hr3 hg3)
            have hB3 : Below w.heap.size w w3 := (below_set4 B2.out hbs _ _ _ _).grown hg3 (by simp [World.setCell]; omega) (fun x hx => (R2.out.lt x hx).1)
            have HB3 := Lib.hid hB3; clear hB3 hg3
            have HR3 := Lib.hid hr3; clear hr3
            go_wp2_with fail
            refine (spec_blank s k hs hk2 _).mono ?_
            rintro e w' ⟨rfl, rfl⟩
            go_wp2_with fail
            go_roundw
            case rel => exact ⟨k, l ++ [t], hk2, rfl, by simp; omega, HR3.out, HU.out.symm, HB3.out⟩
            case measure => have := gap_ge s k; simp [intOf]; omega
        | false =>
          by_cases h34 : bt s p = 34
          · have hq34 : (bt s p == 34) = true := by simpa using h34
            have hl9 : letB (bt s p) = false := by rw [h34]; rfl
            have HRR : Hid (r = strRes (strS s (p + 1) []) p) := by
              show r = _
              rw [HR.out]
              unfold tokP
              rw [hd9, if_neg (by simp), hl9, if_neg (by simp), if_pos h34]
              rfl
            clear h34
            go_wp2_with fail
            refine (spec_digit _ (by omega) (by omega) _).mono ?_; rw [hd9]; rintro e w' ⟨rfl, rfl⟩
            go_wp2_with fail
            refine (spec_str s p hs hlt _).mono ?_
            rw [← HRR.out]
            rintro e w2 ⟨hres, hB2⟩
            clear HRR
            have T2 : TB w2 wr.heap.size #[.int .i64 0, .string ⟨#[]⟩, .int .i64 0, .int .i64 0] := T0.out.below hB2 T0.out.lt
            have R2 : Hid (TR w.heap.size w2 (.slice av l.length cv) l) := R0.out.below hB2 (Nat.le_refl _)
            have B2 : Hid (Below w.heap.size w w2) := B0.out.trans (hB2.mono B0.out.size)
            obtain ⟨p0, p1, p2, p3⟩ := T2.cells4
            have f0 := T2.frozen 0
            have f1 := T2.frozen 1
            have f2 := T2.frozen 2
            have f3 := T2.frozen 3
            have hlt2 := T2.lt
            clear T0 R0 B0 hB2 T2
            rcases r with _ | ⟨t, k⟩
            · obtain rfl := hres
              go_wp2_with fail
              go_ret2
              exact lexRes HU.out (TR.nil _ _) (below_set4 B2.out hbs _ _ _ _)
            · obtain rfl := hres
              have hE := tokP_end (t := t) (e := k) hlt HR.out.symm
              have hk1 : p < k := hE.1
              have hk2 : k ≤ s.size := hE.2.1
              clear hE
              unfold tval
              have hne : (Value.slice av l.length cv).ownBlock ≠ some wr.heap.size := fun e => by have := HOB.out _ e; omega
              have HNE := Lib.hid hne; clear hne
              have hl7 : l.length ≤ 10000000 := by omega
              go_wp2_with (at_builtin; refine tok_push_at w.heap.size _ _ l t w2.heap.size (by simp [World.setCell]) rfl _ _ rfl rfl rfl (R2.out.set4 HNE.out _ _ _ _) hl7 (by omega) ?_; intro v1 w3 hr3 hg3)
              have hB3 : Below w.heap.size w w3 := (below_set4 B2.out hbs _ _ _ _).grown hg3 (by simp [World.setCell]; omega) (fun x hx => (R2.out.lt x hx).1)
              have HB3 := Lib.hid hB3; clear hB3 hg3
              have HR3 := Lib.hid hr3; clear hr3
              go_wp2_with fail
              refine (spec_blank s k hs hk2 _).mono ?_
              rintro e w' ⟨rfl, rfl⟩
              go_wp2_with fail
              go_roundw
              case rel => exact ⟨k, l ++ [t], hk2, rfl, by simp; omega, HR3.out, HU.out.symm, HB3.out⟩
              case measure => have := gap_ge s k; simp [intOf]; omega
          · have hq34 : (bt s p == 34) = false := by simpa using h34
            cases hl9 : letB (bt s p) with
            | true =>
              clear h34
              have HRR : Hid (r = if endOf innB s p - p ≤ 40 then some (⟨nmK s p (endOf innB s p), s.extract p (endOf innB s p), 0, p⟩, endOf innB s p) else none) := by
                show r = _
                rw [HR.out]
                unfold tokP
                rw [hd9, if_neg (by simp), if_pos hl9]
              go_wp2_with fail
              refine (spec_digit _ (by omega) (by omega) _).mono ?_; rw [hd9]; rintro e w' ⟨rfl, rfl⟩
              go_wp2_with fail
              refine (spec_letter _ (by omega) (by omega) _).mono ?_; rw [hl9]; rintro e w' ⟨rfl, rfl⟩
              go_wp2_with fail
              refine (spec_name s p hs (by omega) _).mono ?_
              rw [← HRR.out]
              rintro e w2 ⟨hres, hB2⟩
              clear HRR
              have T2 : TB w2 wr.heap.size #[.int .i64 0, .string ⟨#[]⟩, .int .i64 0, .int .i64 0] := T0.out.below hB2 T0.out.lt
              have R2 : Hid (TR w.heap.size w2 (.slice av l.length cv) l) := R0.out.below hB2 (Nat.le_refl _)
              have B2 : Hid (Below w.heap.size w w2) := B0.out.trans (hB2.mono B0.out.size)
              obtain ⟨p0, p1, p2, p3⟩ := T2.cells4
              have f0 := T2.frozen 0
              have f1 := T2.frozen 1
              have f2 := T2.frozen 2
              have f3 := T2.frozen 3
              have hlt2 := T2.lt
              clear T0 R0 B0 hB2 T2
              rcases r with _ | ⟨t, k⟩
              · obtain rfl := hres
                go_wp2_with fail
                go_ret2
                exact lexRes HU.out (TR.nil _ _) (below_set4 B2.out hbs _ _ _ _)
              · obtain rfl := hres
                have hE := tokP_end (t := t) (e := k) hlt HR.out.symm
                have hk1 : p < k := hE.1
                have hk2 : k ≤ s.size := hE.2.1
                clear hE
                unfold tval
                have hne : (Value.slice av l.length cv).ownBlock ≠ some wr.heap.size := fun e => by have := HOB.out _ e; omega
                have HNE := Lib.hid hne; clear hne
                have hl7 : l.length ≤ 10000000 := by omega
                go_wp2_with (at_builtin; refine tok_push_at w.heap.size _ _ l t w2.heap.size (by simp [World.setCell]) rfl _ _ rfl rfl rfl (R2.out.set4 HNE.out _ _ _ _) hl7 (by omega) ?_; intro v1 w3 hr3 hg3)
                have hB3 : Below w.heap.size w w3 := (below_set4 B2.out hbs _ _ _ _).grown hg3 (by simp [World.setCell]; omega) (fun x hx => (R2.out.lt x hx).1)
                have HB3 := Lib.hid hB3; clear hB3 hg3
                have HR3 := Lib.hid hr3; clear hr3
                go_wp2_with fail
                refine (spec_blank s k hs hk2 _).mono ?_
                rintro e w' ⟨rfl, rfl⟩
                go_wp2_with fail
                go_roundw
                case rel => exact ⟨k, l ++ [t], hk2, rfl, by simp; omega, HR3.out, HU.out.symm, HB3.out⟩
                case measure => have := gap_ge s k; simp [intOf]; omega
            | false =>
              by_cases h47 : bt s p = 47
              · have hq47 : (bt s p == 47) = true := by simpa using h47
                cases ho : opnd l with
                | false =>
                  have HRR : Hid (r = reRes s (reS s (p + 1)) p) := by
                    show r = _
                    rw [HR.out]
                    unfold tokP
                    rw [hd9, if_neg (by simp), hl9, if_neg (by simp), if_neg h34, if_pos ⟨h47, ho⟩]
                    rfl
                  clear h34 h47
                  go_wp2_with fail
                  refine (spec_digit _ (by omega) (by omega) _).mono ?_; rw [hd9]; rintro e w' ⟨rfl, rfl⟩
                  go_wp2_with fail
                  refine (spec_letter _ (by omega) (by omega) _).mono ?_; rw [hl9]; rintro e w' ⟨rfl, rfl⟩
                  go_wp2_with fail
                  refine (spec_operand w.heap.size _ _ l R0.out (by omega) ).mono ?_
                  rw [ho]
                  rintro e w1 ⟨rfl, hB1⟩
                  have T1 : Hid (TB w1 wr.heap.size #[.int .i64 0, .string ⟨#[]⟩, .int .i64 0, .int .i64 0]) := T0.out.below hB1 T0.out.lt
                  have R1 : Hid (TR w.heap.size w1 (.slice av l.length cv) l) := R0.out.below hB1 (Nat.le_refl _)
                  have B1 : Hid (Below w.heap.size w w1) := B0.out.trans (hB1.mono B0.out.size)
                  clear T0 R0 B0 hB1
                  go_wp2_with fail
                  refine (spec_re s p hs hlt _).mono ?_
                  rw [← HRR.out]
                  rintro e w2 ⟨hres, hB2⟩
                  clear HRR
                  have T2 : TB w2 wr.heap.size #[.int .i64 0, .string ⟨#[]⟩, .int .i64 0, .int .i64 0] := T1.out.below hB2 T1.out.lt
                  have R2 : Hid (TR w.heap.size w2 (.slice av l.length cv) l) := R1.out.below hB2 (Nat.le_refl _)
                  have B2 : Hid (Below w.heap.size w w2) := B1.out.trans (hB2.mono B1.out.size)
                  obtain ⟨p0, p1, p2, p3⟩ := T2.cells4
                  have f0 := T2.frozen 0
                  have f1 := T2.frozen 1
                  have f2 := T2.frozen 2
                  have f3 := T2.frozen 3
                  have hlt2 := T2.lt
                  clear T1 R1 B1 hB2 T2
                  rcases r with _ | ⟨t, k⟩
                  · obtain rfl := hres
                    go_wp2_with fail
                    go_ret2
                    exact lexRes HU.out (TR.nil _ _) (below_set4 B2.out hbs _ _ _ _)
                  · obtain rfl := hres
                    have hE := tokP_end (t := t) (e := k) hlt HR.out.symm
                    have hk1 : p < k := hE.1
                    have hk2 : k ≤ s.size := hE.2.1
                    clear hE
                    unfold tval
                    have hne : (Value.slice av l.length cv).ownBlock ≠ some wr.heap.size := fun e => by have := HOB.out _ e; omega
                    have HNE := Lib.hid hne; clear hne
                    have hl7 : l.length ≤ 10000000 := by omega
                    go_wp2_with (at_builtin; refine tok_push_at w.heap.size _ _ l t w2.heap.size (by simp [World.setCell]) rfl _ _ rfl rfl rfl (R2.out.set4 HNE.out _ _ _ _) hl7 (by omega) ?_; intro v1 w3 hr3 hg3)
                    have hB3 : Below w.heap.size w w3 := (below_set4 B2.out hbs _ _ _ _).grown hg3 (by simp [World.setCell]; omega) (fun x hx => (R2.out.lt x hx).1)
                    have HB3 := Lib.hid hB3; clear hB3 hg3
                    have HR3 := Lib.hid hr3; clear hr3
                    go_wp2_with fail
                    refine (spec_blank s k hs hk2 _).mono ?_
                    rintro e w' ⟨rfl, rfl⟩
                    go_wp2_with fail
                    go_roundw
                    case rel => exact ⟨k, l ++ [t], hk2, rfl, by simp; omega, HR3.out, HU.out.symm, HB3.out⟩
                    case measure => have := gap_ge s k; simp [intOf]; omega
                | true =>
                  have HRR : Hid (r = sgnRes s p) := by
                    show r = _
                    rw [HR.out]
                    unfold tokP
                    rw [hd9, if_neg (by simp), hl9, if_neg (by simp), if_neg h34, if_neg (fun h => by rw [ho] at h; cases h.2)]
                    rfl
                  clear h34 h47
                  go_wp2_with fail
                  refine (spec_digit _ (by omega) (by omega) _).mono ?_; rw [hd9]; rintro e w' ⟨rfl, rfl⟩
                  go_wp2_with fail
                  refine (spec_letter _ (by omega) (by omega) _).mono ?_; rw [hl9]; rintro e w' ⟨rfl, rfl⟩
                  go_wp2_with fail
                  refine (spec_operand w.heap.size _ _ l R0.out (by omega) ).mono ?_
                  rw [ho]
                  rintro e w1 ⟨rfl, hB1⟩
                  have T1 : Hid (TB w1 wr.heap.size #[.int .i64 0, .string ⟨#[]⟩, .int .i64 0, .int .i64 0]) := T0.out.below hB1 T0.out.lt
                  have R1 : Hid (TR w.heap.size w1 (.slice av l.length cv) l) := R0.out.below hB1 (Nat.le_refl _)
                  have B1 : Hid (Below w.heap.size w w1) := B0.out.trans (hB1.mono B0.out.size)
                  clear T0 R0 B0 hB1
                  go_wp2_with fail
                  refine (spec_sign s p hs hlt _).mono ?_
                  rw [← HRR.out]
                  rintro e w2 ⟨hres, hB2⟩
                  clear HRR
                  have T2 : TB w2 wr.heap.size #[.int .i64 0, .string ⟨#[]⟩, .int .i64 0, .int .i64 0] := T1.out.below hB2 T1.out.lt
                  have R2 : Hid (TR w.heap.size w2 (.slice av l.length cv) l) := R1.out.below hB2 (Nat.le_refl _)
                  have B2 : Hid (Below w.heap.size w w2) := B1.out.trans (hB2.mono B1.out.size)
                  obtain ⟨p0, p1, p2, p3⟩ := T2.cells4
                  have f0 := T2.frozen 0
                  have f1 := T2.frozen 1
                  have f2 := T2.frozen 2
                  have f3 := T2.frozen 3
                  have hlt2 := T2.lt
                  clear T1 R1 B1 hB2 T2
                  rcases r with _ | ⟨t, k⟩
                  · obtain rfl := hres
                    go_wp2_with fail
                    go_ret2
                    exact lexRes HU.out (TR.nil _ _) (below_set4 B2.out hbs _ _ _ _)
                  · obtain rfl := hres
                    have hE := tokP_end (t := t) (e := k) hlt HR.out.symm
                    have hk1 : p < k := hE.1
                    have hk2 : k ≤ s.size := hE.2.1
                    clear hE
                    unfold tval
                    have hne : (Value.slice av l.length cv).ownBlock ≠ some wr.heap.size := fun e => by have := HOB.out _ e; omega
                    have HNE := Lib.hid hne; clear hne
                    have hl7 : l.length ≤ 10000000 := by omega
                    go_wp2_with (at_builtin; refine tok_push_at w.heap.size _ _ l t w2.heap.size (by simp [World.setCell]) rfl _ _ rfl rfl rfl (R2.out.set4 HNE.out _ _ _ _) hl7 (by omega) ?_; intro v1 w3 hr3 hg3)
                    have hB3 : Below w.heap.size w w3 := (below_set4 B2.out hbs _ _ _ _).grown hg3 (by simp [World.setCell]; omega) (fun x hx => (R2.out.lt x hx).1)
                    have HB3 := Lib.hid hB3; clear hB3 hg3
                    have HR3 := Lib.hid hr3; clear hr3
                    go_wp2_with fail
                    refine (spec_blank s k hs hk2 _).mono ?_
                    rintro e w' ⟨rfl, rfl⟩
                    go_wp2_with fail
                    go_roundw
                    case rel => exact ⟨k, l ++ [t], hk2, rfl, by simp; omega, HR3.out, HU.out.symm, HB3.out⟩
                    case measure => have := gap_ge s k; simp [intOf]; omega
              · have hq47 : (bt s p == 47) = false := by simpa using h47
                have HRR : Hid (r = sgnRes s p) := by
                  show r = _
                  rw [HR.out]
                  unfold tokP
                  rw [hd9, if_neg (by simp), hl9, if_neg (by simp), if_neg h34, if_neg (fun h => h47 h.1)]
                  rfl
                clear h34 h47
                go_wp2_with fail
                refine (spec_digit _ (by omega) (by omega) _).mono ?_; rw [hd9]; rintro e w' ⟨rfl, rfl⟩
                go_wp2_with fail
                refine (spec_letter _ (by omega) (by omega) _).mono ?_; rw [hl9]; rintro e w' ⟨rfl, rfl⟩
                go_wp2_with fail
                refine (spec_sign s p hs hlt _).mono ?_
                rw [← HRR.out]
                rintro e w2 ⟨hres, hB2⟩
                clear HRR
                have T2 : TB w2 wr.heap.size #[.int .i64 0, .string ⟨#[]⟩, .int .i64 0, .int .i64 0] := T0.out.below hB2 T0.out.lt
                have R2 : Hid (TR w.heap.size w2 (.slice av l.length cv) l) := R0.out.below hB2 (Nat.le_refl _)
                have B2 : Hid (Below w.heap.size w w2) := B0.out.trans (hB2.mono B0.out.size)
                obtain ⟨p0, p1, p2, p3⟩ := T2.cells4
                have f0 := T2.frozen 0
                have f1 := T2.frozen 1
                have f2 := T2.frozen 2
                have f3 := T2.frozen 3
                have hlt2 := T2.lt
                clear T0 R0 B0 hB2 T2
                rcases r with _ | ⟨t, k⟩
                · obtain rfl := hres
                  go_wp2_with fail
                  go_ret2
                  exact lexRes HU.out (TR.nil _ _) (below_set4 B2.out hbs _ _ _ _)
                · obtain rfl := hres
                  have hE := tokP_end (t := t) (e := k) hlt HR.out.symm
                  have hk1 : p < k := hE.1
                  have hk2 : k ≤ s.size := hE.2.1
                  clear hE
                  unfold tval
                  have hne : (Value.slice av l.length cv).ownBlock ≠ some wr.heap.size := fun e => by have := HOB.out _ e; omega
                  have HNE := Lib.hid hne; clear hne
                  have hl7 : l.length ≤ 10000000 := by omega
                  go_wp2_with (at_builtin; refine tok_push_at w.heap.size _ _ l t w2.heap.size (by simp [World.setCell]) rfl _ _ rfl rfl rfl (R2.out.set4 HNE.out _ _ _ _) hl7 (by omega) ?_; intro v1 w3 hr3 hg3)
                  have hB3 : Below w.heap.size w w3 := (below_set4 B2.out hbs _ _ _ _).grown hg3 (by simp [World.setCell]; omega) (fun x hx => (R2.out.lt x hx).1)
                  have HB3 := Lib.hid hB3; clear hB3 hg3
                  have HR3 := Lib.hid hr3; clear hr3
                  go_wp2_with fail
                  refine (spec_blank s k hs hk2 _).mono ?_
                  rintro e w' ⟨rfl, rfl⟩
                  go_wp2_with fail
                  go_roundw
                  case rel => exact ⟨k, l ++ [t], hk2, rfl, by simp; omega, HR3.out, HU.out.symm, HB3.out⟩
                  case measure => have := gap_ge s k; simp [intOf]; omega
      · rw [if_neg hlt] at hun
        have HU := Lib.hid hun; clear hun
        have hdl : decide (p < s.size) = false := by simpa using hlt
        clear hlt
        go_wp2_with fail
        go_ret2
        exact lexRes HU.out HTR.out HB.out

end Go.Proofs.YtlfmiikpbdhemaaGreatDoor.Lex
