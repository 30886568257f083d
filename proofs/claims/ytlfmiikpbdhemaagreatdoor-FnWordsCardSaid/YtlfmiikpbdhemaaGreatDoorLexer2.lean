/-
  The program's lexer: its methods, one contract each.
-/
import Derived.Test.YtlfmiikpbdhemaaGreatDoorLexer
import Derived.Test.YtlfmiikpbdhemaaGreatDoorScanStr
import Derived.Test.YtlfmiikpbdhemaaGreatDoorScanRe
import Derived.StillTailTactics
import Derived.BigQuiet
namespace Go.Proofs.YtlfmiikpbdhemaaGreatDoor.Lex
open Go.ChangeShapes Go.WideShapes Go.ChangeAt Go.RowKit Go.PlainAid Go.Maps
open Go.Proofs.YtlfmiikpbdhemaaGreatDoor.Dec
open Go.Proofs.YtlfmiikpbdhemaaGreatDoor.DecPure Go.Proofs.YtlfmiikpbdhemaaGreatDoor.ReadPure Go.Proofs.YtlfmiikpbdhemaaGreatDoor.LexPure
set_option linter.unusedVariables false

theorem LX.drew {w0 w : World} {g mb : Nat} {s : ByteArray} {p : Nat} {l : List Tk} (h : LX w0 w g mb s p l) : LX w0 w.drew g mb s p l := h.step (Below.refl w.heap.size w).drew
/-- What a method that reads a token does. -/
def StepIs (w0 w' : World) (g mb : Nat) (s : ByteArray) (p : Nat) (l : List Tk) (r : Option (Tk × Nat)) (e : Ending) : Prop :=
  match r with
  | none => e = .returned (.bool false) ∧ LX w0 w' g mb s p l
  | some q => e = .returned (.bool true) ∧ LX w0 w' g mb s q.2 (l ++ [q.1])

theorem clone_ok (t : ByteArray) (w : World) (hlim : t.size ≤ 281474976710656) : Calls Tryz.prog 32 #[.string t] w fun x w' => x = .returned (.string t) ∧ Below w.heap.size w w' := by
  go_enter Tryz.func32, Tryz.ntmps32
  go_wp2_with fail
  refine (Tryz.stringslite_Clone _ _ hlim).mono ?_
  rintro x w3 ⟨rfl, hB⟩
  go_wp2_with fail
  go_ret
  exact ⟨rfl, hB⟩

set_option maxRecDepth 100000 in
set_option maxHeartbeats 4000000 in
theorem lx_text (w0 w : World) (g mb : Nat) (s : ByteArray) (p : Nat) (l : List Tk) (e : Nat) (h : LX w0 w g mb s p l) (hs : s.size ≤ 4000) (hp : p ≤ e) (he : e ≤ s.size) :
    Calls Tryz.prog 59 #[.pointer (some ⟨g, 0, none⟩), .int .i64 e] w fun x w' => x = .returned (.string (s.extract p e)) ∧ LX w0 w' g mb s p l := by
  obtain ⟨c0, c1, c2⟩ := h.cells
  have hp2 : (p : Int) ≤ (e : Int) := by omega
  have he2 : (e : Int) ≤ (s.size : Int) := by omega
  have hlim : (s.extract p e).size ≤ 281474976710656 := by rw [size_ext s p e he]; omega
  have HD := Lib.hid h.drew; clear h
  go_enter Tryz.func59, Tryz.ntmps59
  go_wp2_with fail
  go_still_tail 10, (by kernel_rfl)
  change wpList _ _ _ _ _ w.drew
  generalize w.drew = w2 at *
  go_wp2_with fail
  refine (clone_ok _ _ hlim).mono ?_
  rintro x w3 ⟨rfl, hB⟩
  go_wp2_with fail
  go_ret
  exact ⟨rfl, HD.out.step hB⟩

set_option maxRecDepth 100000 in
set_option maxHeartbeats 4000000 in
theorem lx_kind (w0 w : World) (g mb : Nat) (s : ByteArray) (p : Nat) (l : List Tk) (e : Nat) (h : LX w0 w g mb s p l) (hs : s.size ≤ 4000) (hp : p ≤ e) (he : e ≤ s.size) :
    Calls Tryz.prog 60 #[.pointer (some ⟨g, 0, none⟩), .string (s.extract p e), .int .i64 e] w fun x w' => x = .returned (.int .i64 (nmK s p e)) ∧ LX w0 w' g mb s p l := by
  obtain ⟨c0, c1, c2⟩ := h.cells
  have hb := get_bt s
  have hgl : g < w.heap.size := World.block_lt_of_cell? w ⟨g, 0, none⟩ c0
  have hown := h.map
  have hkey := WideMaps.keyOf_string_mk Tryz.underlying9 (s := s.extract p e) (by rw [size_ext s p e he]; unfold maxLen; omega)
  have hw := has_words (s.extract p e)
  unfold kl at hw
  have HN : Hid (LX w0 (w.alloc (.cells #[] 58)) g mb s p l) := h.step ((Below.refl w.heap.size w).alloc (Nat.le_refl _) _)
  clear h
  cases hwd : isWd (s.extract p e) with
  | true =>
    rw [hwd] at hw
    have HK : Hid (nmK s p e = 6) := by show nmK s p e = 6; unfold nmK; rw [if_pos hwd]
    go_enter Tryz.func60, Tryz.ntmps60
    go_wp2_with (first | (at_lookup; refine wpList_lookup_own_unit _ rfl _ _ 41 rfl 9 58 keyS Tryz.underlying41 (zeroU _) mb 22 _ rfl hown _ _ rfl hkey ?_; rw [hw]))
    go_ret
    exact ⟨retI HK.out.symm, HN.out⟩
  | false =>
    rw [hwd] at hw
    by_cases hlt : e < s.size
    · have b0 := bt_nonneg s e
      have b1 := bt_le s e
      by_cases h40 : bt s e = 40
      · have hq : (bt s e == 40) = true := by simpa using h40
        have HK : Hid (nmK s p e = 5) := by show nmK s p e = 5; unfold nmK; rw [hwd, if_neg (by decide), if_pos ⟨hlt, h40⟩]
        clear h40
        go_enter Tryz.func60, Tryz.ntmps60
        go_wp2_with (first | (at_lookup; refine wpList_lookup_own_unit _ rfl _ _ 41 rfl 9 58 keyS Tryz.underlying41 (zeroU _) mb 22 _ rfl hown _ _ rfl hkey ?_; rw [hw]))
        go_ret
        exact ⟨retI HK.out.symm, HN.out⟩
      · have hq : (bt s e == 40) = false := by simpa using h40
        have HK : Hid (nmK s p e = 4) := by show nmK s p e = 4; unfold nmK; rw [hwd, if_neg (by decide), if_neg (fun h => h40 h.2)]
        clear h40
        go_enter Tryz.func60, Tryz.ntmps60
        go_wp2_with (first | (at_lookup; refine wpList_lookup_own_unit _ rfl _ _ 41 rfl 9 58 keyS Tryz.underlying41 (zeroU _) mb 22 _ rfl hown _ _ rfl hkey ?_; rw [hw]))
        go_ret
        exact ⟨retI HK.out.symm, HN.out⟩
    · have hd : decide (e < s.size) = false := by simpa using hlt
      have HK : Hid (nmK s p e = 4) := by show nmK s p e = 4; unfold nmK; rw [hwd, if_neg (by decide), if_neg (fun h => hlt h.1)]
      go_enter Tryz.func60, Tryz.ntmps60
      go_wp2_with (first | (at_lookup; refine wpList_lookup_own_unit _ rfl _ _ 41 rfl 9 58 keyS Tryz.underlying41 (zeroU _) mb 22 _ rfl hown _ _ rfl hkey ?_; rw [hw]))
      go_ret
      exact ⟨retI HK.out.symm, HN.out⟩

set_option maxRecDepth 100000 in
set_option maxHeartbeats 4000000 in
theorem lx_number (w0 w : World) (g mb : Nat) (s : ByteArray) (p : Nat) (l : List Tk) (h : LX w0 w g mb s p l) (hs : s.size ≤ 4000) (hp : p ≤ s.size) (hl : l.length ≤ 1048577) :
    Calls Tryz.prog 39 #[.pointer (some ⟨g, 0, none⟩)] w fun x w' => StepIs w0 w' g mb s p l (some (⟨1, ⟨#[]⟩, rdN (s.extract p (numE s p)), p⟩, numE s p)) x := by
  obtain ⟨c0, c1, c2⟩ := h.cells
  have h1 := endOf_ge dgB s p
  have h2 := numE_ge s p
  have h3 := numE_le s p hp
  obtain ⟨m, hm⟩ : ∃ m, m = numE s p := ⟨_, rfl⟩
  rw [← hm] at h2 h3
  have hp2 : (p : Int) ≤ (m : Int) := by omega
  have he2 : (m : Int) ≤ (s.size : Int) := by omega
  have hlim : (s.extract p m).size ≤ maxLen := by rw [size_ext s p m h3]; unfold maxLen; omega
  have HM := Lib.hid hm; clear hm h1 h2
  have HD := Lib.hid h.drew; clear h
  go_enter Tryz.func39, Tryz.ntmps39
  go_wp2_with fail
  go_still_tail 8, (by kernel_rfl)
  change wpList _ _ _ _ _ w.drew
  obtain ⟨d0, d1, d2⟩ := HD.out.cells
  generalize w.drew = w2 at *
  go_wp2_with fail
  refine (impl_numE s p (by omega) hp _).mono ?_
  rw [← HM.out]
  rintro x w' ⟨rfl, rfl⟩
  go_wp2_with fail
  go_quiet (exact Calls.quiet_of_same ((impl_readDec _ hlim _).mono fun x w' h => ⟨h.1, h.2.symm⟩))
  have HD3 := Lib.hid (HD.out.drewN nq)
  generalize w2.drewN nq = w3 at *
  go_wp2_with fail
  refine (lx_add w0 w3 g mb s p l _ _ _ _ m HD3.out hl (by omega)).mono ?_
  rintro x w4 ⟨rfl, h4⟩
  have H4 := Lib.hid h4; clear h4
  go_wp2_with fail
  go_ret
  refine ⟨rfl, ?_⟩
  show LX w0 w4 g mb s (numE s p) _
  rw [← HM.out]
  exact H4.out

end Go.Proofs.YtlfmiikpbdhemaaGreatDoor.Lex
