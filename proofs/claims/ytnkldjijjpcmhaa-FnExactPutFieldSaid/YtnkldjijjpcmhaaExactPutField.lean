/-
  For every list of strings, number and string the exact law of PutField returns true: the program's function answers as its model does, its strings lie in memory of their own and its argument stays as it was.
-/
import Derived.Test.YtnkldjijjpcmhaaRows
import Derived.WalkKit
import Derived.ProofKit
import Derived.OpenShut
import Derived.Below
import Derived.ShutString
import Derived.Lib.SmallJoins
import Derived.Test.YtnkldjijjpcmhaaRecPure
import Derived.Test.YtnkldjijjpcmhaaStrArg
import Derived.Test.YtnkldjijjpcmhaaPut
namespace Go.Proofs.Ytnkldjijjpcmhaa.fnExactPutField
open Go.ChangeShapes Go.WideShapes Go.ChangeAt Go.RowKit
open Go.ChangeMaps (open_string shut_string)
open Go.Proofs.Ytnkldjijjpcmhaa.Dec
open Go.Proofs.Ytnkldjijjpcmhaa.DecPure
open Go.Proofs.Ytnkldjijjpcmhaa.ReadPure
open Go.Proofs.Ytnkldjijjpcmhaa.RecPure
open Go.Proofs.Ytnkldjijjpcmhaa.Strs
open Go.Proofs.Ytnkldjijjpcmhaa.PgPure
open Go.Proofs.Ytnkldjijjpcmhaa.Pg
set_option linter.unusedVariables false

theorem own : ownKnob Try.prog.godebug = none := by kernel_rfl
theorem laidOut : laidOutB Try.prog = true := by kernel_rfl

set_option maxRecDepth 100000 in
set_option maxHeartbeats 2000000 in
theorem walk (v0 : Value) (l0 : List ByteArray) (a1 : Int) (a2 : ByteArray) (w1 : (Lit.int .i64 a1).wf = true) (w2 : a2.size ≤ maxLen) (w : World) (w0 : StrsAt w.heap.size w v0 l0) :
    Calls Try.prog 11 #[v0, .int .i64 a1, .string a2] w fun e w' => e = .returned (.bool true) ∧ Below w.heap.size w w' := by
  have HW := Lib.hid w0; clear w0
  by_cases hc : (1048576 : Int) < (a2.size : Int)
  · go_enter Try.func11, Try.ntmps11
    go_wp2_with fail
    go_ret
    exact ⟨rfl, Below.refl _ _⟩
  have hz2 : a2.size ≤ 1048576 := by omega
  go_enter Try.func11, Try.ntmps11
  go_wp2_with fail
  refine (sz_strs w.heap.size v0 l0 1048576 w (Nat.le_refl _) HW.out (by omega) (by omega)).mono ?_
  rintro e x1 ⟨rfl, hB⟩
  have HB1 := Lib.hid hB; clear hB
  by_cases hT : (totS l0 l0.length : Int) ≤ 1048576
  · rw [szR_pos hT]
    have hl := totS_ge l0 l0.length
    have hl1 : l0.length ≤ 1048576 := by omega
    have hml : l0.length ≤ maxLen := by unfold maxLen; omega
    have hsz : ∀ i, i < l0.length → (gs l0 i).size ≤ 1048576 := fun i hi => by have := tot_at l0 hi; omega
    have HSZ := Lib.hid hsz; clear hsz
    have hsp : ∀ v W, RdS W v l0 → Calls Try.prog 25 #[v, .int .i64 a1, .string a2] W (Put W (putP l0 a1 a2)) := fun v W h => spec_put v l0 a1 a2 hl1 hz2 W h
    have him : ∀ v W, RdS W v l0 → Calls Try.prog 24 #[v, .int .i64 a1, .string a2] W (Put W (putP l0 a1 a2)) := fun v W h => impl_put v l0 a1 a2 hl1 hz2 W h
    have hlen := putP_len l0 a1 a2
    obtain ⟨p, hp⟩ : ∃ p, p = putP l0 a1 a2 := ⟨_, rfl⟩
    rw [← hp] at hsp him hlen
    obtain ⟨L, ok⟩ := p
    clear hp
    replace hlen : L.length ≤ 4000 := Nat.le_trans hlen (by omega)
    have HSP := Lib.hid hsp; clear hsp
    have HIM := Lib.hid him; clear him
    have hz0 : ¬ (1048576 : Int) - (totS l0 l0.length : Int) < 0 := by omega
    have hm0 : ¬ (1 + (l0.length : Int)) < 0 := by omega
    have hm1 : decide ((1 + (l0.length : Int)) < 0) = false := decide_eq_false hm0
    have hm2 : ¬ (1 + (L.length : Int)) < 0 := by omega
    have hm3 : decide ((1 + (L.length : Int)) < 0) = false := decide_eq_false hm2
    go_wp2_with fail
    refine (to_strs w.heap.size v0 l0 x1 HB1.out.size (HW.out.below HB1.out (Nat.le_refl _)) hl1).mono ?_
    rintro e x2 ⟨rfl, rr, zz, hB⟩
    have HR2 := Lib.hid (read_row rr HSZ.out)
    have hs2 : x1.heap.size ≤ x2.heap.size := hB.size
    have HB2 : Hid (Below w.heap.size w x2) := HB1.out.trans (hB.mono HB1.out.size)
    have hlt2 : x1.heap.size < x2.heap.size := by omega
    clear rr zz hB
    go_wp2_with fail
    refine (HSP.out _ x2 HR2.out).mono ?_
    rintro e x3 ⟨vw, rfl, tt, hB⟩
    have TW_3 : Hid (SR x2.heap.size x3 vw L) := tt
    have hs3 : x2.heap.size ≤ x3.heap.size := hB.size
    have HB3 : Hid (Below w.heap.size w x3) := HB2.out.trans (hB.mono HB2.out.size)
    clear tt hB
    go_wp2_with fail
    refine (to_strs w.heap.size v0 l0 x3 HB3.out.size (HW.out.below HB3.out (Nat.le_refl _)) hl1).mono ?_
    rintro e x4 ⟨rfl, rr, zz, hB⟩
    have HR4 := Lib.hid (read_row rr HSZ.out)
    have TW_4 : Hid (SR x2.heap.size x4 vw L) := TW_3.out.below hB (Nat.le_refl _)
    have TX_4 : Hid (SR x3.heap.size x4 (.slice (some ⟨x3.heap.size, 0, none⟩) l0.length l0.length) l0) := sr_row rr (Nat.le_refl _) hml
    have hs4 : x3.heap.size ≤ x4.heap.size := hB.size
    have HB4 : Hid (Below w.heap.size w x4) := HB3.out.trans (hB.mono HB3.out.size)
    have hlt4 : x3.heap.size < x4.heap.size := by omega
    clear rr zz hB
    go_wp2_with fail
    refine (HIM.out _ x4 HR4.out).mono ?_
    rintro e x5 ⟨vg, rfl, tt, hB⟩
    have TW_5 : Hid (SR x2.heap.size x5 vw L) := TW_4.out.below hB (Nat.le_refl _)
    have TX_5 : Hid (SR x3.heap.size x5 (.slice (some ⟨x3.heap.size, 0, none⟩) l0.length l0.length) l0) := TX_4.out.below hB (Nat.le_refl _)
    have TG_5 : Hid (SR x4.heap.size x5 vg L) := tt
    have hs5 : x4.heap.size ≤ x5.heap.size := hB.size
    have HB5 : Hid (Below w.heap.size w x5) := HB4.out.trans (hB.mono HB4.out.size)
    clear tt hB
    go_wp2_with fail
    refine (eq_srs (x4.heap.size) (x2.heap.size) x5 vg vw L TG_5.out TW_5.out (by omega)).mono ?_
    rintro e x6 ⟨rfl, hB⟩
    have TW_6 : Hid (SR x2.heap.size x6 vw L) := TW_5.out.below hB (Nat.le_refl _)
    have TX_6 : Hid (SR x3.heap.size x6 (.slice (some ⟨x3.heap.size, 0, none⟩) l0.length l0.length) l0) := TX_5.out.below hB (Nat.le_refl _)
    have TG_6 : Hid (SR x4.heap.size x6 vg L) := TG_5.out.below hB (Nat.le_refl _)
    have hs6 : x5.heap.size ≤ x6.heap.size := hB.size
    have HB6 : Hid (Below w.heap.size w x6) := HB5.out.trans (hB.mono HB5.out.size)
    clear hB
    go_wp2_with fail
    refine (to_strs w.heap.size v0 l0 x6 HB6.out.size (HW.out.below HB6.out (Nat.le_refl _)) hl1).mono ?_
    rintro e x7 ⟨rfl, rr, zz, hB⟩
    have HR7 := Lib.hid (read_row rr HSZ.out)
    have TW_7 : Hid (SR x2.heap.size x7 vw L) := TW_6.out.below hB (Nat.le_refl _)
    have TX_7 : Hid (SR x3.heap.size x7 (.slice (some ⟨x3.heap.size, 0, none⟩) l0.length l0.length) l0) := TX_6.out.below hB (Nat.le_refl _)
    have TG_7 : Hid (SR x4.heap.size x7 vg L) := TG_6.out.below hB (Nat.le_refl _)
    have TC_7 : Hid (SR x6.heap.size x7 (.slice (some ⟨x6.heap.size, 0, none⟩) l0.length l0.length) l0) := sr_row rr (Nat.le_refl _) hml
    have hs7 : x6.heap.size ≤ x7.heap.size := hB.size
    have HB7 : Hid (Below w.heap.size w x7) := HB6.out.trans (hB.mono HB6.out.size)
    have hlt7 : x6.heap.size < x7.heap.size := by omega
    clear rr zz hB
    go_wp2_with fail
    refine (eq_srs (x3.heap.size) (x6.heap.size) x7 (.slice (some ⟨x3.heap.size, 0, none⟩) l0.length l0.length) (.slice (some ⟨x6.heap.size, 0, none⟩) l0.length l0.length) l0 TX_7.out TC_7.out (by omega)).mono ?_
    rintro e x8 ⟨rfl, hB⟩
    have TW_8 : Hid (SR x2.heap.size x8 vw L) := TW_7.out.below hB (Nat.le_refl _)
    have TX_8 : Hid (SR x3.heap.size x8 (.slice (some ⟨x3.heap.size, 0, none⟩) l0.length l0.length) l0) := TX_7.out.below hB (Nat.le_refl _)
    have TG_8 : Hid (SR x4.heap.size x8 vg L) := TG_7.out.below hB (Nat.le_refl _)
    have TC_8 : Hid (SR x6.heap.size x8 (.slice (some ⟨x6.heap.size, 0, none⟩) l0.length l0.length) l0) := TC_7.out.below hB (Nat.le_refl _)
    have hs8 : x7.heap.size ≤ x8.heap.size := hB.size
    have HB8 : Hid (Below w.heap.size w x8) := HB7.out.trans (hB.mono HB7.out.size)
    clear hB
    go_wp2_with fail
    refine (mark_srs (x3.heap.size) x8 (.slice (some ⟨x3.heap.size, 0, none⟩) l0.length l0.length) l0 1 TX_8.out (by omega) (by omega)).mono ?_
    rintro e x9 ⟨rfl, t9, g9⟩
    have TW_9 : Hid (SR x2.heap.size x9 vw L) := TW_8.out.same (fun y hy => g9.block y (TW_8.out.lt y hy).2 (fun e => by cases e; have : x3.heap.size < x3.heap.size := (TW_3.out.lt _ hy).2; omega))
    have TG_9 : Hid (SR x4.heap.size x9 vg L) := TG_8.out.same (fun y hy => g9.block y (TG_8.out.lt y hy).2 (fun e => by cases e; have : x4.heap.size ≤ x3.heap.size := (TG_5.out.lt _ hy).1; omega))
    have TX_9 : Hid (SR x3.heap.size x9 (.slice (some ⟨x3.heap.size, 0, none⟩) l0.length l0.length) (mkS 1 l0.length)) := t9
    have hs9 : x8.heap.size ≤ x9.heap.size := g9.size
    have HB9 : Hid (Below w.heap.size w x9) := HB8.out.grown g9 HB8.out.size (fun y hy => by have := (TX_8.out.lt y hy).1; have := HB2.out.size; omega)
    clear t9 g9
    go_wp2_with fail
    refine (eq_srs (x4.heap.size) (x2.heap.size) x9 vg vw L TG_9.out TW_9.out (by omega)).mono ?_
    rintro e x10 ⟨rfl, hB⟩
    have TW_10 : Hid (SR x2.heap.size x10 vw L) := TW_9.out.below hB (Nat.le_refl _)
    have TG_10 : Hid (SR x4.heap.size x10 vg L) := TG_9.out.below hB (Nat.le_refl _)
    have hs10 : x9.heap.size ≤ x10.heap.size := hB.size
    have HB10 : Hid (Below w.heap.size w x10) := HB9.out.trans (hB.mono HB9.out.size)
    clear hB
    go_wp2_with fail
    refine (mark_srs (x4.heap.size) x10 vg L 1 TG_10.out (by omega) (by omega)).mono ?_
    rintro e x11 ⟨rfl, t9, g9⟩
    have TW_11 : Hid (SR x2.heap.size x11 vw L) := TW_10.out.same (fun y hy => g9.block y (TW_10.out.lt y hy).2 (fun e => by have := (TW_3.out.lt _ hy).2; have := (TG_5.out.lt _ e.symm).1; omega))
    have TG_11 : Hid (SR x4.heap.size x11 vg (mkS 1 L.length)) := t9
    have hs11 : x10.heap.size ≤ x11.heap.size := g9.size
    have HB11 : Hid (Below w.heap.size w x11) := HB10.out.grown g9 HB10.out.size (fun y hy => by have := (TG_10.out.lt y hy).1; have := HB2.out.size; omega)
    clear t9 g9
    go_wp2_with fail
    refine (held_srs (x4.heap.size) x11 vg L.length 1 TG_11.out hlen (by omega)).mono ?_
    rintro e x12 ⟨rfl, hB⟩
    have TW_12 : Hid (SR x2.heap.size x12 vw L) := TW_11.out.below hB (Nat.le_refl _)
    have TG_12 : Hid (SR x4.heap.size x12 vg (mkS 1 L.length)) := TG_11.out.below hB (Nat.le_refl _)
    have hs12 : x11.heap.size ≤ x12.heap.size := hB.size
    have HB12 : Hid (Below w.heap.size w x12) := HB11.out.trans (hB.mono HB11.out.size)
    clear hB
    go_wp2_with fail
    refine (to_strs w.heap.size v0 l0 x12 HB12.out.size (HW.out.below HB12.out (Nat.le_refl _)) hl1).mono ?_
    rintro e x13 ⟨rfl, rr, zz, hB⟩
    have HR13 := Lib.hid (read_row rr HSZ.out)
    have TW_13 : Hid (SR x2.heap.size x13 vw L) := TW_12.out.below hB (Nat.le_refl _)
    have TG_13 : Hid (SR x4.heap.size x13 vg (mkS 1 L.length)) := TG_12.out.below hB (Nat.le_refl _)
    have hs13 : x12.heap.size ≤ x13.heap.size := hB.size
    have HB13 : Hid (Below w.heap.size w x13) := HB12.out.trans (hB.mono HB12.out.size)
    have hlt13 : x12.heap.size < x13.heap.size := by omega
    clear rr zz hB
    go_wp2_with fail
    refine (HIM.out _ x13 HR13.out).mono ?_
    rintro e x14 ⟨vh, rfl, tt, hB⟩
    have TW_14 : Hid (SR x2.heap.size x14 vw L) := TW_13.out.below hB (Nat.le_refl _)
    have TG_14 : Hid (SR x4.heap.size x14 vg (mkS 1 L.length)) := TG_13.out.below hB (Nat.le_refl _)
    have TH_14 : Hid (SR x13.heap.size x14 vh L) := tt
    have hs14 : x13.heap.size ≤ x14.heap.size := hB.size
    have HB14 : Hid (Below w.heap.size w x14) := HB13.out.trans (hB.mono HB13.out.size)
    clear tt hB
    go_wp2_with fail
    refine (eq_srs (x13.heap.size) (x2.heap.size) x14 vh vw L TH_14.out TW_14.out (by omega)).mono ?_
    rintro e x15 ⟨rfl, hB⟩
    have TW_15 : Hid (SR x2.heap.size x15 vw L) := TW_14.out.below hB (Nat.le_refl _)
    have TG_15 : Hid (SR x4.heap.size x15 vg (mkS 1 L.length)) := TG_14.out.below hB (Nat.le_refl _)
    have TH_15 : Hid (SR x13.heap.size x15 vh L) := TH_14.out.below hB (Nat.le_refl _)
    have hs15 : x14.heap.size ≤ x15.heap.size := hB.size
    have HB15 : Hid (Below w.heap.size w x15) := HB14.out.trans (hB.mono HB14.out.size)
    clear hB
    go_wp2_with fail
    refine (held_srs (x4.heap.size) x15 vg L.length 1 TG_15.out hlen (by omega)).mono ?_
    rintro e x16 ⟨rfl, hB⟩
    have TW_16 : Hid (SR x2.heap.size x16 vw L) := TW_15.out.below hB (Nat.le_refl _)
    have TG_16 : Hid (SR x4.heap.size x16 vg (mkS 1 L.length)) := TG_15.out.below hB (Nat.le_refl _)
    have TH_16 : Hid (SR x13.heap.size x16 vh L) := TH_15.out.below hB (Nat.le_refl _)
    have hs16 : x15.heap.size ≤ x16.heap.size := hB.size
    have HB16 : Hid (Below w.heap.size w x16) := HB15.out.trans (hB.mono HB15.out.size)
    clear hB
    go_wp2_with fail
    go_ret
    exact ⟨rfl, HB16.out⟩
  · rw [szR_neg hT]
    go_wp2_with fail
    go_ret
    exact ⟨rfl, HB1.out⟩


set_option maxRecDepth 100000 in
theorem lifted (os : Os) (started : os.Started) (H : Type) (enc : TypeId × Value → H) :
    ReturnsInHanded {} Try.checked os 11 .any (Rows.fnExactPutFieldSpec.pre6 enc Try.prog Try.f11 Rows.fnExactPutFieldRow.domain false) (Rows.fnExactPutFieldSpec.post enc Try.prog Try.f11 false true false false) := by
  refine returnsInHanded_of_change (C := Try.checked) own started (by kernel_rfl) Try.func11
    (ChangeSpec.witness6 (enc := enc) (C := Try.checked) false ⟨#[], #[.slice none 0 0, .int .i64 0, .string ⟨#[]⟩], []⟩ 8 (by kernel_rfl) (by kernel_rfl) (by kernel_rfl) (by kernel_rfl)) ?_
  intro W base args ds gs before hval0 hW hcnd _
  have hval : ∀ (j : Nat) t v, Try.f11.params[j]? = some t → args[j]? = some v → Value.okWide Try.prog W .any base t v := hval0
  have hW' := hW
  obtain ⟨p, q, hA0, hV, rfl, hfz, hnd⟩ := hW
  have hA : DataW.TrodAll enc Try.prog W 0 (fun _ => true) true Try.f11.params.toList args.toList ds p := hA0
  rw [Try.params11] at hA hval
  obtain ⟨v0, vs0, d0, ds0, p0, q0, hargs, rfl, rfl, h0, r0⟩ := trodAll_cons hA
  obtain ⟨v1, vs1, d1, ds1, p1, q1, rfl, rfl, rfl, h1, r1⟩ := trodAll_cons r0
  obtain ⟨v2, vs2, d2, ds2, p2, q2, rfl, rfl, rfl, h2, r2⟩ := trodAll_cons r1
  obtain ⟨rfl, rfl, rfl⟩ := trodAll_nil r2
  obtain rfl : args = #[v0, v1, v2] := by cases args; simp_all
  obtain ⟨rfl, rfl⟩ := trodVars_none hV
  have hlt0 : ∀ x ∈ p0, x.block < W.heap.size := fun x hx => hW'.lt x (by simp [hx])
  have hk0 := h0
  obtain ⟨so0, sl0, sc0, rfl⟩ := okWide_slice Try.underlying24 (hval 0 24 v0 rfl rfl)
  obtain ⟨fuel0, hf0⟩ := h0
  obtain ⟨u0, l0, hcs, w0⟩ := strs_open hf0
  simp [Value.cells] at hcs
  subst hcs
  clear hf0
  obtain ⟨a1, rfl, rfl, rfl, w1⟩ := open_int Try.underlying3 (hval 1 3 v1 rfl rfl) h1
  obtain ⟨a2, rfl, rfl, rfl, w2⟩ := open_string Try.underlying9 (hval 2 9 v2 rfl rfl) h2
  clear hA0 hval0
  simp only [List.append_nil] at hW'
  refine (walk _ l0 a1 a2 w1 w2 W w0).mono fun e W' ⟨he, hg⟩ => ?_
  subst he
  exact ⟨_, rfl, _, _, _, [], _, [], hW', (trodAll_cons_mk (shut_bool Try.underlying4 _) trodAll_mk0), (trodAll_cons_mk (Below.trod laidOut (by kernel_rfl) (of_decide_eq_true (by kernel_rfl)) hk0 hg hlt0) (trodAll_cons_mk (shut_int Try.underlying3 w1) (trodAll_cons_mk (shut_string Try.underlying9 w2) trodAll_mk0))), rfl, hg.frame _, fun h => by cases h⟩

theorem over : Rows.fnExactPutFieldRow.holds Try.pinned (OpenSpec.ofChange Rows.fnExactPutFieldSpec) :=
  OpenClaim.holds_of_wide 11 Try.f11 rfl rfl rfl rfl rfl rfl rfl ⟨rfl, rfl, rfl, rfl, rfl⟩ rfl rfl rfl rfl rfl (by kernel_rfl) Try.func11 (by kernel_rfl)
    (of_decide_eq_true (by kernel_rfl)) (by unfold Func.isWrapper; first | (rw [if_pos (by decide +kernel)]; kernel_rfl) | (rw [if_neg (by decide +kernel)]; exact ⟨rfl, rfl⟩))
    (fun os started H enc _ => lifted os started H enc)

theorem proved : Rows.FnExactPutFieldSaid :=
  over
end Go.Proofs.Ytnkldjijjpcmhaa.fnExactPutField
