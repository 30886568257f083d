/-
  The program's lexer: a token.
-/
import Derived.Test.YtlfmiikpbdhemaaGreatDoorLexer3
import Derived.Test.YtlfmiikpbdhemaaGreatDoorLexer4
import Derived.Test.YtlfmiikpbdhemaaGreatDoorLexer5
namespace Go.Proofs.YtlfmiikpbdhemaaGreatDoor.Lex
open Go.ChangeShapes Go.WideShapes Go.ChangeAt Go.RowKit Go.PlainAid Go.Maps
open Go.Proofs.YtlfmiikpbdhemaaGreatDoor.Dec
open Go.Proofs.YtlfmiikpbdhemaaGreatDoor.DecPure Go.Proofs.YtlfmiikpbdhemaaGreatDoor.ReadPure Go.Proofs.YtlfmiikpbdhemaaGreatDoor.LexPure
set_option linter.unusedVariables false

theorem stepIs {w0 w' : World} {g mb : Nat} {s : ByteArray} {p : Nat} {l : List Tk} {r r' : Option (Tk × Nat)} {e : Ending} (h : StepIs w0 w' g mb s p l r e) (hr : r' = r) : StepIs w0 w' g mb s p l r' e := by subst hr; exact h
theorem StepIs.form {w0 w' : World} {g mb : Nat} {s : ByteArray} {p : Nat} {l : List Tk} {r : Option (Tk × Nat)} {e : Ending} (h : StepIs w0 w' g mb s p l r e) : ∃ b, e = .returned (.bool b) := by
  cases r with
  | none => exact ⟨false, h.1⟩
  | some q => exact ⟨true, h.1⟩

set_option maxRecDepth 100000 in
set_option maxHeartbeats 8000000 in
theorem lx_token (w0 w : World) (g mb : Nat) (s : ByteArray) (p : Nat) (l : List Tk) (h : LX w0 w g mb s p l) (hs : s.size ≤ 4000) (hp : p < s.size) (hl : l.length ≤ 1048577) :
    Calls Tryz.prog 18 #[.pointer (some ⟨g, 0, none⟩)] w fun x w' => StepIs w0 w' g mb s p l (tokP s (opnd l) p) x := by
  obtain ⟨c0, c1, c2⟩ := h.cells
  have hb := get_bt s
  have b0 := bt_nonneg s p
  have b1 := bt_le s p
  have hpi : (p : Int) < (s.size : Int) := by omega
  obtain ⟨r, hr⟩ : ∃ r, r = tokP s (opnd l) p := ⟨_, rfl⟩
  rw [← hr]
  unfold tokP at hr
  have HD := Lib.hid h; clear h
  cases hd9 : dgB (bt s p) with
  | true =>
    rw [if_pos hd9] at hr
    have HR := Lib.hid hr; clear hr
    go_enter Tryz.func18, Tryz.ntmps18
    go_wp2_with fail
    go_quiet (fail)
    have HD2 := Lib.hid (HD.out.drewN nq)
    generalize w.drewN nq = w2 at *
    go_wp2_with fail
    refine (impl_digit _ b0 b1 _).mono ?_; rw [hd9]; rintro x w' ⟨rfl, rfl⟩
    go_wp2_with fail
    refine (lx_number w0 _ g mb s p l HD2.out hs (by omega) hl).mono ?_
    rintro x w3 h3
    obtain ⟨b, rfl⟩ := h3.form
    have H3 := Lib.hid h3; clear h3
    go_wp2_with fail
    go_ret
    exact stepIs H3.out HR.out
  | false =>
    rw [hd9, if_neg (by simp)] at hr
    by_cases h34 : bt s p = 34
    · have hl9 : letB (bt s p) = false := by rw [h34]; rfl
      rw [hl9, if_neg (by simp), if_pos h34] at hr
      have hq : (bt s p == 34) = true := by simpa using h34
      have HR : Hid (r = strRes (strS s (p + 1) []) p) := hr
      have H34 := Lib.hid h34
      clear hr h34
      go_enter Tryz.func18, Tryz.ntmps18
      go_wp2_with fail
      go_quiet (fail)
      have HD2 := Lib.hid (HD.out.drewN nq)
      generalize w.drewN nq = w2 at *
      go_wp2_with fail
      refine (impl_digit _ b0 b1 _).mono ?_; rw [hd9]; rintro x w' ⟨rfl, rfl⟩
      go_wp2_with fail
      refine (impl_letter _ b0 b1 _).mono ?_; rw [hl9]; rintro x w' ⟨rfl, rfl⟩
      go_wp2_with fail
      refine (lx_str w0 _ g mb s p l HD2.out hs hp hl H34.out).mono ?_
      rintro x w3 h3
      obtain ⟨b, rfl⟩ := h3.form
      have H3 := Lib.hid h3; clear h3
      go_wp2_with fail
      go_ret
      exact stepIs H3.out HR.out
    · have hq : (bt s p == 34) = false := by simpa using h34
      cases hl9 : letB (bt s p) with
      | true =>
        rw [if_pos hl9] at hr
        have HR := Lib.hid hr; clear hr h34
        go_enter Tryz.func18, Tryz.ntmps18
        go_wp2_with fail
        go_quiet (fail)
        have HD2 := Lib.hid (HD.out.drewN nq)
        generalize w.drewN nq = w2 at *
        go_wp2_with fail
        refine (impl_digit _ b0 b1 _).mono ?_; rw [hd9]; rintro x w' ⟨rfl, rfl⟩
        go_wp2_with fail
        refine (impl_letter _ b0 b1 _).mono ?_; rw [hl9]; rintro x w' ⟨rfl, rfl⟩
        go_wp2_with fail
        refine (lx_word w0 _ g mb s p l HD2.out hs (by omega) hl).mono ?_
        rintro x w3 h3
        obtain ⟨b, rfl⟩ := h3.form
        have H3 := Lib.hid h3; clear h3
        go_wp2_with fail
        go_ret
        exact stepIs H3.out HR.out
      | false =>
        rw [hl9, if_neg (by simp), if_neg h34] at hr
        by_cases h47 : bt s p = 47
        · have hq2 : (bt s p == 47) = true := by simpa using h47
          cases ho : opnd l with
          | false =>
            rw [if_pos ⟨h47, ho⟩] at hr
            have HR : Hid (r = reRes s (reS s (p + 1)) p) := hr
            have H47 := Lib.hid h47
            clear hr h34 h47
            go_enter Tryz.func18, Tryz.ntmps18
            go_wp2_with fail
            go_quiet (fail)
            have HD2 := Lib.hid (HD.out.drewN nq)
            generalize w.drewN nq = w2 at *
            go_wp2_with fail
            refine (impl_digit _ b0 b1 _).mono ?_; rw [hd9]; rintro x w' ⟨rfl, rfl⟩
            go_wp2_with fail
            refine (impl_letter _ b0 b1 _).mono ?_; rw [hl9]; rintro x w' ⟨rfl, rfl⟩
            go_wp2_with fail
            refine (lx_oper w0 _ g mb s p l HD2.out hl).mono ?_; rw [ho]; rintro x w4 ⟨rfl, h4⟩
            have H4 := Lib.hid h4; clear h4
            go_wp2_with fail
            refine (lx_re w0 _ g mb s p l H4.out hs hp hl H47.out).mono ?_
            rintro x w3 h3
            obtain ⟨b, rfl⟩ := h3.form
            have H3 := Lib.hid h3; clear h3
            go_wp2_with fail
            go_ret
            exact stepIs H3.out HR.out
          | true =>
            rw [if_neg (fun h => by rw [ho] at h; cases h.2)] at hr
            have HR : Hid (r = sgnRes s p) := hr
            clear hr h34 h47
            go_enter Tryz.func18, Tryz.ntmps18
            go_wp2_with fail
            go_quiet (fail)
            have HD2 := Lib.hid (HD.out.drewN nq)
            generalize w.drewN nq = w2 at *
            go_wp2_with fail
            refine (impl_digit _ b0 b1 _).mono ?_; rw [hd9]; rintro x w' ⟨rfl, rfl⟩
            go_wp2_with fail
            refine (impl_letter _ b0 b1 _).mono ?_; rw [hl9]; rintro x w' ⟨rfl, rfl⟩
            go_wp2_with fail
            refine (lx_oper w0 _ g mb s p l HD2.out hl).mono ?_; rw [ho]; rintro x w4 ⟨rfl, h4⟩
            have H4 := Lib.hid h4; clear h4
            go_wp2_with fail
            refine (lx_sign w0 _ g mb s p l H4.out hs hp hl).mono ?_
            rintro x w3 h3
            obtain ⟨b, rfl⟩ := h3.form
            have H3 := Lib.hid h3; clear h3
            go_wp2_with fail
            go_ret
            exact stepIs H3.out HR.out
        · have hq2 : (bt s p == 47) = false := by simpa using h47
          rw [if_neg (fun h => h47 h.1)] at hr
          have HR : Hid (r = sgnRes s p) := hr
          clear hr h34 h47
          go_enter Tryz.func18, Tryz.ntmps18
          go_wp2_with fail
          go_quiet (fail)
          have HD2 := Lib.hid (HD.out.drewN nq)
          generalize w.drewN nq = w2 at *
          go_wp2_with fail
          refine (impl_digit _ b0 b1 _).mono ?_; rw [hd9]; rintro x w' ⟨rfl, rfl⟩
          go_wp2_with fail
          refine (impl_letter _ b0 b1 _).mono ?_; rw [hl9]; rintro x w' ⟨rfl, rfl⟩
          go_wp2_with fail
          refine (lx_sign w0 _ g mb s p l HD2.out hs hp hl).mono ?_
          rintro x w3 h3
          obtain ⟨b, rfl⟩ := h3.form
          have H3 := Lib.hid h3; clear h3
          go_wp2_with fail
          go_ret
          exact stepIs H3.out HR.out

end Go.Proofs.YtlfmiikpbdhemaaGreatDoor.Lex
