/-
  For every string the exact law of Lines returns true: the program's function answers as its model does, and its strings lie in memory of their own.
-/
import Derived.Test.YtnkldjijjpcmhaaRows
import Derived.WalkKit
import Derived.ProofKit
import Derived.OpenShut
import Derived.Below
import Derived.ShutString
import Derived.Lib.SmallJoins
import Derived.Test.YtnkldjijjpcmhaaLines
import Derived.HandedShaped
import Derived.Shelf.Vars
namespace Go.Proofs.Ytnkldjijjpcmhaa.fnExactLines
open Go.ChangeShapes Go.WideShapes Go.ChangeAt Go.RowKit
open Go.ChangeMaps (open_string shut_string)
open Go.Proofs.Ytnkldjijjpcmhaa.Dec
open Go.Proofs.Ytnkldjijjpcmhaa.DecPure
open Go.Proofs.Ytnkldjijjpcmhaa.ReadPure
open Go.Proofs.Ytnkldjijjpcmhaa.RecPure
open Go.Proofs.Ytnkldjijjpcmhaa.Strs
open Go.Proofs.Ytnkldjijjpcmhaa.Seqs
set_option linter.unusedVariables false

theorem own : ownKnob Try.prog.godebug = none := by kernel_rfl
theorem laidOut : laidOutB Try.prog = true := by kernel_rfl

set_option maxRecDepth 100000 in
set_option maxHeartbeats 2000000 in
theorem walk (a0 : ByteArray) (w0 : a0.size ≤ maxLen) (w : World) (m : Int) (hm : w.cell? ⟨0, 0, none⟩ = some (.int .i64 m)) :
    Calls Try.prog 7 #[.string a0] w fun e w' => e = .returned (.bool true) ∧ Below w.heap.size w w' := by
  by_cases hc0 : (1048576 : Int) < (a0.size : Int)
  · go_enter Try.func7, Try.ntmps7
    go_wp2_with fail
    go_ret
    exact ⟨rfl, Below.refl _ _⟩
  have hz0 : a0.size ≤ 1048576 := by omega
  have hsp : ∀ W, Calls Try.prog 26 #[.string a0] W (Made W (linesP a0)) := fun W => spec_lines a0 hz0 W
  have him : ∀ W, Held W → Calls Try.prog 13 #[.string a0] W (Made W (linesP a0)) := fun W hW => impl_lines a0 hz0 W hW
  have hlen : (linesP a0).length ≤ 4000 := by have := linesP_len a0; omega
  generalize linesP a0 = L at *
  have HSP := Lib.hid hsp; clear hsp
  have HIM := Lib.hid him; clear him
  have HH := Lib.hid (held_of hm); clear hm
  go_enter Try.func7, Try.ntmps7
  go_wp2_with fail
  refine (HSP.out w).mono ?_
  rintro e w1 ⟨v1, rfl, t1, hB1⟩
  have T1 := Lib.hid t1
  have B1 := Lib.hid hB1
  clear t1 hB1
  go_wp2_with fail
  refine (HIM.out w1 (HH.out.below B1.out (Nat.le_refl _))).mono ?_
  rintro e w2 ⟨v2, rfl, t2, hB2⟩
  have T2 := Lib.hid t2
  have T1b := Lib.hid (T1.out.below hB2 (Nat.le_refl _))
  have B2 := Lib.hid (B1.out.trans (hB2.mono B1.out.size))
  have hw1 := B1.out.size
  have hw2 := hB2.size
  clear t2 hB2
  go_wp2_with fail
  refine (eq_srs w1.heap.size w.heap.size w2 v2 v1 L T2.out T1b.out (by omega)).mono ?_
  rintro e w3 ⟨rfl, hB3⟩
  have T1c := Lib.hid (T1b.out.below hB3 (Nat.le_refl _))
  have T2c := Lib.hid (T2.out.below hB3 (Nat.le_refl _))
  have B3 := Lib.hid (B2.out.trans (hB3.mono B2.out.size))
  have hw3 := hB3.size
  clear hB3
  go_wp2_with fail
  refine (mark_srs w1.heap.size w3 v2 L 1 T2c.out (by omega) (by omega)).mono ?_
  rintro e w4 ⟨rfl, t4, g4⟩
  have h21 : v2.ownBlock = none ∨ v1.ownBlock = none ∨ v1.ownBlock ≠ v2.ownBlock := by
    rcases hv2 : v2.ownBlock with _ | y2
    · exact .inl rfl
    · rcases hv1 : v1.ownBlock with _ | y1
      · exact .inr (.inl rfl)
      · refine .inr (.inr ?_)
        intro e
        obtain rfl : y1 = y2 := Option.some.inj e
        have := (T2.out.lt y1 hv2).1
        have := (T1.out.lt y1 hv1).2
        omega
  have T1d : Hid (SR w.heap.size w4 v1 L) := T1c.out.same (fun y hy => g4.block y (T1c.out.lt y hy).2 (fun e => by
    rcases h21 with h | h | h
    · rw [h] at e; cases e
    · rw [h] at hy; cases hy
    · exact h (by rw [hy, e])))
  have T4 := Lib.hid t4
  have B4 : Hid (Below w.heap.size w w4) := B3.out.grown g4 B3.out.size (fun y hy => by have := (T2c.out.lt y hy).1; omega)
  have hw4 := g4.size
  clear t4 g4 h21
  go_wp2_with fail
  refine (held_srs w1.heap.size w4 v2 L.length 1 T4.out hlen (by omega)).mono ?_
  rintro e w5 ⟨rfl, hB5⟩
  have T4b := Lib.hid (T4.out.below hB5 (Nat.le_refl _))
  have T1e := Lib.hid (T1d.out.below hB5 (Nat.le_refl _))
  have B5 := Lib.hid (B4.out.trans (hB5.mono B4.out.size))
  have hw5 := hB5.size
  clear hB5
  have hm0 : ¬ (1 + (L.length : Int)) < 0 := by omega
  have hm1 : decide ((1 + (L.length : Int)) < 0) = false := decide_eq_false hm0
  go_wp2_with fail
  refine (HIM.out w5 (HH.out.below B5.out (Nat.le_refl _))).mono ?_
  rintro e w6 ⟨v6, rfl, t6, hB6⟩
  have T6 := Lib.hid t6
  have T4c := Lib.hid (T4b.out.below hB6 (Nat.le_refl _))
  have T1f := Lib.hid (T1e.out.below hB6 (Nat.le_refl _))
  have B6 := Lib.hid (B5.out.trans (hB6.mono B5.out.size))
  clear t6 hB6
  go_wp2_with fail
  refine (eq_srs w5.heap.size w.heap.size w6 v6 v1 L T6.out T1f.out (by omega)).mono ?_
  rintro e w7 ⟨rfl, hB7⟩
  have T4d := Lib.hid (T4c.out.below hB7 (Nat.le_refl _))
  have B7 := Lib.hid (B6.out.trans (hB7.mono B6.out.size))
  clear hB7
  go_wp2_with fail
  refine (held_srs w1.heap.size w7 v2 L.length 1 T4d.out hlen (by omega)).mono ?_
  rintro e w8 ⟨rfl, hB8⟩
  have B8 := Lib.hid (B7.out.trans (hB8.mono B7.out.size))
  clear hB8
  go_wp2_with fail
  go_ret
  exact ⟨rfl, B8.out⟩


set_option maxRecDepth 100000 in
theorem lifted (os : Os) (started : os.Started) (H : Type) (enc : TypeId × Value → H) :
    ReturnsInHanded {} Try.checked os 7 .any (Rows.fnExactLinesSpec.pre6 enc Try.prog Try.f7 Rows.fnExactLinesRow.domain false) (Rows.fnExactLinesSpec.post enc Try.prog Try.f7 false true false false) := by
  refine returnsInHanded_of_change_shaped (C := Try.checked) own started (by kernel_rfl) Try.func7
    (ChangeSpec.witness6 (enc := enc) (C := Try.checked) false ⟨#[], #[.string ⟨#[]⟩], []⟩ 8 (by kernel_rfl) (by kernel_rfl) (by kernel_rfl) (by kernel_rfl)) ?_
  intro W base args ds gs before hval0 hW hcnd _ hsh _
  obtain ⟨m, hm⟩ := cell_of_shapedOpen_int (P := Try.prog) (g := 0) (t := 3) (zero := #[.int .i64 0]) (k := .i64) hsh (of_decide_eq_true (by kernel_rfl)) (by kernel_rfl) rfl (by kernel_rfl) (by kernel_rfl) Try.underlying3
  have hval : ∀ (j : Nat) t v, Try.f7.params[j]? = some t → args[j]? = some v → Value.okWide Try.prog W .any base t v := hval0
  have hW' := hW
  obtain ⟨p, q, hA0, hV, rfl, hfz, hnd⟩ := hW
  have hA : DataW.TrodAll enc Try.prog W 0 (fun _ => true) true Try.f7.params.toList args.toList ds p := hA0
  rw [Try.params7] at hA hval
  obtain ⟨v0, vs0, d0, ds0, p0, q0, hargs, rfl, rfl, h0, r0⟩ := trodAll_cons hA
  obtain ⟨rfl, rfl, rfl⟩ := trodAll_nil r0
  obtain rfl : args = #[v0] := by cases args; simp_all
  obtain ⟨rfl, rfl⟩ := trodVars_none hV
  obtain ⟨a0, rfl, rfl, rfl, w0⟩ := open_string Try.underlying9 (hval 0 9 v0 rfl rfl) h0
  clear hA0 hval0
  simp only [List.append_nil] at hW'
  refine (walk a0 w0 W m hm).mono fun e W' ⟨he, hg⟩ => ?_
  subst he
  exact ⟨_, rfl, _, _, _, [], _, [], hW', (trodAll_cons_mk (shut_bool Try.underlying4 _) trodAll_mk0), (trodAll_cons_mk (shut_string Try.underlying9 w0) trodAll_mk0), rfl, hg.frame _, fun h => by cases h⟩

theorem over : Rows.fnExactLinesRow.holds Try.pinned (OpenSpec.ofChange Rows.fnExactLinesSpec) :=
  OpenClaim.holds_of_wide 7 Try.f7 rfl rfl rfl rfl rfl rfl rfl ⟨rfl, rfl, rfl, rfl, rfl⟩ rfl rfl rfl rfl rfl (by kernel_rfl) Try.func7 (by kernel_rfl)
    (of_decide_eq_true (by kernel_rfl)) (by unfold Func.isWrapper; first | (rw [if_pos (by decide +kernel)]; kernel_rfl) | (rw [if_neg (by decide +kernel)]; exact ⟨rfl, rfl⟩))
    (fun os started H enc _ => lifted os started H enc)

theorem proved : Rows.FnExactLinesSaid :=
  over
end Go.Proofs.Ytnkldjijjpcmhaa.fnExactLines
