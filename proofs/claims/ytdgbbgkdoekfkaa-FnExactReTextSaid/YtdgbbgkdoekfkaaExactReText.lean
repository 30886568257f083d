/-
  For every slice of nodes the exact law of ReText returns true: the program's function answers as its model does, and leaves the nodes as they were.
-/
import Derived.Test.YtdgbbgkdoekfkaaRows
import Derived.WalkKit
import Derived.ProofKit
import Derived.OpenShut
import Derived.ShutString
import Derived.Carry
import Derived.Test.YtdgbbgkdoekfkaaNodesOpen
import Derived.Test.YtdgbbgkdoekfkaaNodesEq
import Derived.Test.YtdgbbgkdoekfkaaReText
namespace Go.Proofs.Ytdgbbgkdoekfkaa.fnExactReText
open Go.ChangeShapes Go.WideShapes Go.ChangeAt Go.RowKit
open Go.ChangeMaps (open_string shut_string)
open Go.Proofs.Ytdgbbgkdoekfkaa.RePure Go.Proofs.Ytdgbbgkdoekfkaa.Re
set_option linter.unusedVariables false

theorem own : ownKnob Try.prog.godebug = none := by kernel_rfl
theorem laidOut : laidOutB Try.prog = true := by kernel_rfl

set_option maxRecDepth 100000 in
set_option maxHeartbeats 2000000 in
theorem walk (x0 : Value) (V0 : Nat → Value) (l0 : List Nd) (w : World) (n0 : NodesAt w.heap.size w x0 V0 l0) :
    Calls Try.prog 8 #[x0] w fun e w' => e = .returned (.bool true) ∧ Below w.heap.size w w' := by
  go_enter Try.func8, Try.ntmps8
  go_wp2_with fail
  refine (sz_nodes w.heap.size x0 V0 l0 w (Nat.le_refl _) n0).mono ?_
  rintro e w1 ⟨rfl, hB1⟩
  by_cases ht : total l0 l0.length ≤ 1048576
  · rw [if_pos ht]
    have hr : ¬ (1048576 : Int) - (total l0 l0.length : Int) < 0 := by omega
    have HT := Lib.hid ht; clear ht
    go_wp2_with fail
    have m1 := n0.below hB1 hB1.size
    refine (to_nodes w1.heap.size x0 V0 l0 w1 (Nat.le_refl _) m1 HT.out).mono ?_
    rintro e w2 ⟨rfl, ⟨G2, hG2⟩, hB2⟩
    have o2 := own_nodes hG2 HT.out
    go_wp2_with fail
    refine (spec_ReText w2.heap.size _ _ l0 w2 (Nat.le_refl _) o2 HT.out).mono ?_
    rintro e w3 ⟨⟨s1, rfl, hs1⟩, hB3⟩
    have hB13 := hB1.trans ((hB2.mono hB1.size).trans (hB3.mono (Nat.le_trans hB1.size hB2.size)))
    have HS1 := Lib.hid hs1; clear hs1 hB2 hB3 hG2 o2
    have m3 := n0.below hB13 hB13.size
    go_wp2_with fail
    refine (to_nodes w3.heap.size x0 V0 l0 w3 (Nat.le_refl _) m3 HT.out).mono ?_
    rintro e w4 ⟨rfl, ⟨G4, hG4⟩, hB4⟩
    have o4 := own_nodes hG4 HT.out
    go_wp2_with fail
    refine (impl_ReText w4.heap.size _ _ l0 w4 (Nat.le_refl _) o4 HT.out).mono ?_
    rintro e w5 ⟨⟨s2, rfl, hs2⟩, hB5⟩
    have hB15 := hB13.trans ((hB4.mono hB13.size).trans (hB5.mono (Nat.le_trans hB13.size hB4.size)))
    have o5 := o4.below hB5 hB5.size
    obtain rfl : s2 = s1 := hs2.trans HS1.out.symm
    clear hB4 hG4 o4 hB5 hs2
    have m5 := n0.below hB15 hB15.size
    go_wp2_with fail
    refine (to_nodes w5.heap.size x0 V0 l0 w5 (Nat.le_refl _) m5 HT.out).mono ?_
    rintro e w6 ⟨rfl, ⟨G6, hG6⟩, hB6⟩
    have o6 := own_nodes hG6 HT.out
    have p6 := o5.below hB6 hB6.size
    go_wp2_with fail
    refine (eq_nodes w6.heap.size _ _ _ _ l0 w6 (Nat.le_refl _) p6 o6).mono ?_
    rintro e w7 ⟨rfl, hB7⟩
    have hB17 := hB15.trans ((hB6.mono hB15.size).trans (hB7.mono (Nat.le_trans hB15.size hB6.size)))
    clear hB6 hB7
    go_wp2_with fail
    go_ret
    exact ⟨rfl, hB17⟩
  · rw [if_neg ht]
    go_wp2_with fail
    go_ret
    exact ⟨rfl, hB1⟩

set_option maxRecDepth 100000 in
theorem lifted (os : Os) (started : os.Started) (H : Type) (enc : TypeId × Value → H) :
    ReturnsInHanded {} Try.checked os 8 .any (Rows.fnExactReTextSpec.pre6 enc Try.prog Try.f8 Rows.fnExactReTextRow.domain false) (Rows.fnExactReTextSpec.post enc Try.prog Try.f8 false true false false) := by
  refine returnsInHanded_of_change (C := Try.checked) own started (by kernel_rfl) Try.func8
    (ChangeSpec.witness6 (enc := enc) (C := Try.checked) false ⟨#[], #[.slice none 0 0], []⟩ 8 (by kernel_rfl) (by kernel_rfl) (by kernel_rfl) (by kernel_rfl)) ?_
  intro W base args ds gs before hval0 hW hcnd _
  have hval : ∀ (j : Nat) t v, Try.f8.params[j]? = some t → args[j]? = some v → Value.okWide Try.prog W .any base t v := hval0
  have hW' := hW
  obtain ⟨p, q, hA0, hV, rfl, hfz, hnd⟩ := hW
  have hA : DataW.TrodAll enc Try.prog W 0 (fun _ => true) true Try.f8.params.toList args.toList ds p := hA0
  rw [Try.params8] at hA hval
  obtain ⟨v0, vs0, d0, ds0, p0, q0, hargs, rfl, rfl, h0, r0⟩ := trodAll_cons hA
  obtain ⟨rfl, rfl, rfl⟩ := trodAll_nil r0
  obtain rfl : args = #[v0] := by cases args; simp_all
  obtain ⟨rfl, rfl⟩ := trodVars_none hV
  have hlt : ∀ x ∈ p0 ++ [], x.block < W.heap.size := fun x hx => by simpa using hW'.lt x (by simpa using hx)
  have hk0 := h0
  have hlt0 : ∀ x ∈ p0, x.block < W.heap.size := fun x hx => hlt x (by simp [hx])
  obtain ⟨b0, len0, cap0, rfl⟩ := okWide_slice Try.underlying28 (hval 0 28 v0 rfl rfl)
  obtain ⟨fu0, hf0⟩ := h0
  obtain ⟨V0, l0, n0⟩ := open_nodes (w := W) (by simpa [Value.cells] using hf0)
  clear hA0 hval0
  simp only [List.append_nil] at hW' hlt
  refine (walk _ V0 l0 W n0).mono fun e W' ⟨he, hb⟩ => ?_
  subst he
  exact ⟨_, rfl, _, _, _, [], _, [], hW', (trodAll_cons_mk (shut_bool Try.underlying4 _) trodAll_mk0), (trodAll_cons_mk (Below.trod laidOut (by kernel_rfl) (of_decide_eq_true (by kernel_rfl)) hk0 hb hlt0) trodAll_mk0), rfl, hb.frame _, fun h => by cases h⟩

theorem over : Rows.fnExactReTextRow.holds Try.pinned (OpenSpec.ofChange Rows.fnExactReTextSpec) :=
  OpenClaim.holds_of_wide 8 Try.f8 rfl rfl rfl rfl rfl rfl rfl ⟨rfl, rfl, rfl, rfl, rfl⟩ rfl rfl rfl rfl rfl (by kernel_rfl) Try.func8 (by kernel_rfl)
    (of_decide_eq_true (by kernel_rfl)) (by unfold Func.isWrapper; first | (rw [if_pos (by decide +kernel)]; kernel_rfl) | (rw [if_neg (by decide +kernel)]; exact ⟨rfl, rfl⟩))
    (fun os started H enc _ => lifted os started H enc)

theorem proved : Rows.FnExactReTextSaid :=
  over
end Go.Proofs.Ytdgbbgkdoekfkaa.fnExactReText
