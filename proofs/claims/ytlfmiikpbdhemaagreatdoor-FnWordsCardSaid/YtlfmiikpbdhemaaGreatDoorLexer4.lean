/-
  The program's lexer: strings and regular expressions.
-/
import Derived.Test.YtlfmiikpbdhemaaGreatDoorLexer2
import Derived.Deep.RegionWith
namespace Go.Proofs.YtlfmiikpbdhemaaGreatDoor.Lex
open Go.ChangeShapes Go.WideShapes Go.ChangeAt Go.RowKit Go.PlainAid Go.Maps
open Go.Proofs.YtlfmiikpbdhemaaGreatDoor.Dec
open Go.Proofs.YtlfmiikpbdhemaaGreatDoor.DecPure Go.Proofs.YtlfmiikpbdhemaaGreatDoor.ReadPure Go.Proofs.YtlfmiikpbdhemaaGreatDoor.LexPure
set_option linter.unusedVariables false

set_option maxRecDepth 100000 in
set_option maxHeartbeats 4000000 in
theorem lx_str (w0 w : World) (g mb : Nat) (s : ByteArray) (p : Nat) (l : List Tk) (h : LX w0 w g mb s p l) (hs : s.size ≤ 4000) (hp : p < s.size) (hl : l.length ≤ 1048577) (hq : bt s p = 34) :
    Calls Tryz.prog 42 #[.pointer (some ⟨g, 0, none⟩), .int .i64 2] w fun x w' => StepIs w0 w' g mb s p l (strRes (strS s (p + 1) []) p) x := by
  obtain ⟨c0, c1, c2⟩ := h.cells
  have HD := Lib.hid h.drew; clear h
  have HQ := Lib.hid hq; clear hq
  have hps : s.size ≤ 1048576 := by omega
  cases hR : strS s (p + 1) [] with
  | none =>
    have HR := Lib.hid hR; clear hR
    go_enter Tryz.func42, Tryz.ntmps42
    go_wp2_with fail
    go_region_with (go_at_call 61; refine (impl_scan_str s p hps hp HQ.out _).mono ?_; rw [HR.out]; rintro x w2 ⟨rfl, hB⟩)
    all_goals
      go_wp2_with fail
      go_ret
      exact ⟨rfl, HD.out.step hB⟩
  | some q =>
    have HR := Lib.hid hR; clear hR
    go_enter Tryz.func42, Tryz.ntmps42
    go_wp2_with fail
    go_region_with (go_at_call 61; refine (impl_scan_str s p hps hp HQ.out _).mono ?_; rw [HR.out]; rintro x w2 ⟨rfl, hB⟩)
    all_goals
      have H2 := Lib.hid (HD.out.step hB); clear hB
      go_wp2_with fail
      refine (lx_add w0 _ g mb s p l _ _ _ _ q.2 H2.out hl (by omega)).mono ?_
      rintro x w5 ⟨rfl, h6⟩
      have H6 := Lib.hid h6; clear h6
      go_wp2_with fail
      go_ret
      exact ⟨rfl, H6.out⟩

set_option maxRecDepth 100000 in
set_option maxHeartbeats 4000000 in
theorem lx_re (w0 w : World) (g mb : Nat) (s : ByteArray) (p : Nat) (l : List Tk) (h : LX w0 w g mb s p l) (hs : s.size ≤ 4000) (hp : p < s.size) (hl : l.length ≤ 1048577) (hq : bt s p = 47) :
    Calls Tryz.prog 42 #[.pointer (some ⟨g, 0, none⟩), .int .i64 3] w fun x w' => StepIs w0 w' g mb s p l (reRes s (reS s (p + 1)) p) x := by
  obtain ⟨c0, c1, c2⟩ := h.cells
  have HD := Lib.hid h.drew; clear h
  have HQ := Lib.hid hq; clear hq
  have hps : s.size ≤ 1048576 := by omega
  cases hR : reS s (p + 1) with
  | none =>
    have HR := Lib.hid hR; clear hR
    go_enter Tryz.func42, Tryz.ntmps42
    go_wp2_with fail
    go_region_with (go_at_call 61; refine (impl_scan_re s p hps hp HQ.out _).mono ?_; rw [HR.out]; rintro x w2 ⟨rfl, hB⟩)
    all_goals
      go_wp2_with fail
      go_ret
      exact ⟨rfl, HD.out.step hB⟩
  | some q =>
    have HR := Lib.hid hR; clear hR
    go_enter Tryz.func42, Tryz.ntmps42
    go_wp2_with fail
    go_region_with (go_at_call 61; refine (impl_scan_re s p hps hp HQ.out _).mono ?_; rw [HR.out]; rintro x w2 ⟨rfl, hB⟩)
    all_goals
      have H2 := Lib.hid (HD.out.step hB); clear hB
      go_wp2_with fail
      refine (lx_add w0 _ g mb s p l _ _ _ _ (q + 1) H2.out hl (by omega)).mono ?_
      rintro x w5 ⟨rfl, h6⟩
      have H6 := Lib.hid h6; clear h6
      go_wp2_with fail
      go_ret
      exact ⟨rfl, H6.out⟩

end Go.Proofs.YtlfmiikpbdhemaaGreatDoor.Lex
