/-
  Lists of values read in a world; whether all of them are valid, for the program.
-/
import Derived.Test.YthaedmldlenhgaaGreatDoorCell2
import Derived.Test.YthaedmldlenhgaaGreatDoorPures
namespace Go.Proofs.YthaedmldlenhgaaGreatDoor.Cell
open Go.ChangeShapes Go.WideShapes Go.ChangeAt Go.RowKit Go.PlainAid
open Go.Proofs.YthaedmldlenhgaaGreatDoor.Dec
open Go.Proofs.YthaedmldlenhgaaGreatDoor.DecPure Go.Proofs.YthaedmldlenhgaaGreatDoor.TextPure Go.Proofs.YthaedmldlenhgaaGreatDoor.ReadPure Go.Proofs.YthaedmldlenhgaaGreatDoor.CellPure Go.Proofs.YthaedmldlenhgaaGreatDoor.Strs
set_option linter.unusedVariables false

structure CeAt (w : World) (b o : Nat) (c : Ce) : Prop where
  c0 : w.cell? ⟨b, o, none⟩ = some (.int .i64 c.t)
  c1 : w.cell? ⟨b, o + 1, none⟩ = some (.int .i64 c.n)
  c2 : w.cell? ⟨b, o + 2, none⟩ = some (.string c.s)
  z : c.s.size ≤ maxLen
def CsAt (B : Nat) (w : World) (v : Value) (l : List Ce) : Prop :=
  ∃ (ao : Option Addr) (cap : Nat), v = .slice ao l.length cap ∧ l.length ≤ cap ∧ cap ≤ maxLen ∧ ∀ i, i < l.length → ∃ b off, ao = some ⟨b, off, none⟩ ∧ b < B ∧ CeAt w b (off + i * 3) (nthC l i)
theorem CsAt.below {B B' : Nat} {w w' : World} {v : Value} {l : List Ce} (h : CsAt B w v l) (hb : Below B w w') (hB : B ≤ B') : CsAt B' w' v l := by
  obtain ⟨ao, cap, e, h1, h2, h3⟩ := h
  refine ⟨ao, cap, e, h1, h2, fun i hi => ?_⟩
  obtain ⟨b, off, ea, hb1, hc⟩ := h3 i hi
  exact ⟨b, off, ea, by omega, by rw [hb.cell hb1]; exact hc.c0, by rw [hb.cell hb1]; exact hc.c1, by rw [hb.cell hb1]; exact hc.c2, hc.z⟩
theorem CsAt.len {B : Nat} {w : World} {v : Value} {l : List Ce} (h : CsAt B w v l) : l.length ≤ maxLen := by obtain ⟨_, cap, _, h1, h2, _⟩ := h; omega

theorem row2_at (W : World) (a b : Ce) (ha : a.s.size ≤ 1048576) (hb : b.s.size ≤ 1048576) : CsAt (W.heap.size + 1) (W.alloc (.cells #[.int .i64 a.t, .int .i64 a.n, .string a.s, .int .i64 b.t, .int .i64 b.n, .string b.s] 33)) (.slice (some ⟨W.heap.size, 0, none⟩) 2 2) [a, b] := by
  have h := heap_alloc_new W (.cells #[.int .i64 a.t, .int .i64 a.n, .string a.s, .int .i64 b.t, .int .i64 b.n, .string b.s] 33)
  refine ⟨_, 2, rfl, Nat.le_refl _, by unfold maxLen; omega, fun i hi => ⟨W.heap.size, 0, rfl, by omega, ?_⟩⟩
  match i, hi with
  | 0, _ => exact ⟨cell_of_row _ _ 0 _ _ _ h, cell_of_row _ _ 1 _ _ _ h, cell_of_row _ _ 2 _ _ _ h, by show a.s.size ≤ maxLen; unfold maxLen; omega⟩
  | 1, _ => exact ⟨cell_of_row _ _ 3 _ _ _ h, cell_of_row _ _ 4 _ _ _ h, cell_of_row _ _ 5 _ _ _ h, by show b.s.size ≤ maxLen; unfold maxLen; omega⟩

set_option maxRecDepth 100000 in
set_option maxHeartbeats 2000000 in
theorem imp_cellsOk (B : Nat) (v : Value) (l : List Ce) (hl : l.length ≤ 1048576) (hsz : ∀ i, i < l.length → (nthC l i).s.size ≤ 1048576) (w : World) (hB : B ≤ w.heap.size) (hx : CsAt B w v l) :
    Calls Tryz.prog 23 #[v] w fun e w' => e = .returned (.bool (okL l)) ∧ Below w.heap.size w w' := by
  obtain ⟨ao, cap, rfl, hc1, hc2, hc3⟩ := hx
  have HC := Lib.hid hc3; clear hc3
  have HSZ := Lib.hid hsz; clear hsz
  have hat := okL_at (l := l)
  have hno := fun k => okL_no (l := l) (k := k)
  generalize okL l = r at *
  have HAT := Lib.hid hat; clear hat
  have HNO := Lib.hid hno; clear hno
  go_enter Tryz.func23, Tryz.ntmps23
  go_wp2_with fail
  go_loopw [7] (fun i wr => ∃ (k : Nat), k ≤ l.length ∧ i = .int .i64 k ∧ Hid (∀ j, j < k → cOk (nthC l j).t (nthC l j).n (nthC l j).s = true) ∧ Hid (Below w.heap.size w wr)) (fun i _ => l.length - (intOf i).toNat)
  case atStart => exact ⟨0, Nat.zero_le _, rfl, Lib.hid (fun j hj => by omega), Below.refl _ _⟩
  case round =>
    obtain ⟨k, hk, rfl, HO, HB⟩ := hrel
    by_cases hkl : k < l.length
    · obtain ⟨b, off, rfl, hb, hN⟩ := HC.out k hkl
      have hbw : b < w.heap.size := by omega
      have c0 := (HB.out.cell (p := ⟨b, off + k * 3, none⟩) hbw).trans hN.c0
      have c1 := (HB.out.cell (p := ⟨b, off + k * 3 + 1, none⟩) hbw).trans hN.c1
      have c2 := (HB.out.cell (p := ⟨b, off + k * 3 + 2, none⟩) hbw).trans hN.c2
      have hs := HSZ.out k hkl
      have hki : (k : Int) < (l.length : Int) := by omega
      have hcall := fun W => impl_cellOk (nthC l k).t (nthC l k).n (nthC l k).s hs W
      cases hck : cOk (nthC l k).t (nthC l k).n (nthC l k).s with
      | true =>
        have HO2 : Hid (∀ j, j < k + 1 → cOk (nthC l j).t (nthC l j).n (nthC l j).s = true) := Lib.hid (fun j hj => by
          by_cases e : j = k
          · subst e; exact hck
          · exact HO.out j (by omega))
        rw [hck] at hcall
        have HCA := Lib.hid hcall
        clear hN hck hcall
        go_wp2_with (go_at_call 58; refine (HCA.out _).mono ?_; rintro e w' ⟨rfl, hB2⟩)
        go_roundw
        case rel => exact ⟨k + 1, by omega, by go_num, HO2, Lib.hid ((HB.out.alloc HB.out.size _).trans (hB2.mono (by have := HB.out.size; simp; omega)))⟩
        case measure => simp [intOf]; omega
      | false =>
        have E := Lib.hid (HNO.out k hkl hck)
        rw [hck] at hcall
        have HCA := Lib.hid hcall
        clear hN hck hcall
        go_wp2_with (go_at_call 58; refine (HCA.out _).mono ?_; rintro e w' ⟨rfl, hB2⟩)
        go_ret
        exact ⟨by rw [E.out]; rfl, (HB.out.alloc HB.out.size _).trans (hB2.mono (by have := HB.out.size; simp; omega))⟩
    · obtain rfl : k = l.length := by omega
      have E := Lib.hid (HAT.out HO.out)
      go_wp2_with fail
      go_ret
      exact ⟨by rw [E.out]; rfl, HB.out⟩

theorem cells_ok (t n : Int) (s : ByteArray) (t' n' : Int) (s' : ByteArray) (hs : s.size ≤ 1048576) (hs' : s'.size ≤ 1048576) (W : World) (g : Nat) (hg : W.heap.size = g) :
    Calls Tryz.prog 23 #[.slice (some ⟨g, 0, none⟩) 2 2] (W.alloc (.cells #[.int .i64 t, .int .i64 n, .string s, .int .i64 t', .int .i64 n', .string s'] 33)) fun e w' => e = .returned (.bool (cOk t n s && cOk t' n' s')) ∧ Below W.heap.size W w' := by
  subst hg
  have h := imp_cellsOk (W.heap.size + 1) _ [⟨t, n, s⟩, ⟨t', n', s'⟩] (by simp) (fun i hi => by
    match i, hi with
    | 0, _ => exact hs
    | 1, _ => exact hs') (W.alloc (.cells #[.int .i64 t, .int .i64 n, .string s, .int .i64 t', .int .i64 n', .string s'] 33)) (by simp) (row2_at W ⟨t, n, s⟩ ⟨t', n', s'⟩ hs hs')
  refine h.mono ?_
  rintro e w' ⟨rfl, hB⟩
  refine ⟨by simp [okL], ((Below.refl W.heap.size W).alloc (Nat.le_refl _) _).trans (hB.mono (by simp))⟩

end Go.Proofs.YthaedmldlenhgaaGreatDoor.Cell
