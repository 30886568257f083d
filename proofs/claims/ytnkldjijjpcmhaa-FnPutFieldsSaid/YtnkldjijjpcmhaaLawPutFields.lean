/-
  For every list of bytes the law of putting a field returns true: a field that is put is there, the others stay, and what is between is empty.
-/
import Derived.Test.YtnkldjijjpcmhaaRows
import Derived.WalkKit
import Derived.ProofKit
import Derived.OpenShut
import Derived.Below
import Derived.ShutString
import Derived.Lib.SmallJoins
import Derived.ChangeSlices
import Derived.Test.YtnkldjijjpcmhaaLinesAlive
import Derived.Test.YtnkldjijjpcmhaaRecLaw
import Derived.Test.YtnkldjijjpcmhaaDrawRec
import Derived.Test.YtnkldjijjpcmhaaPut
import Derived.HandedShaped
import Derived.Shelf.Vars
namespace Go.Proofs.Ytnkldjijjpcmhaa.fnPutFields
open Go.ChangeShapes Go.WideShapes Go.ChangeAt Go.RowKit
open Go.ChangeMaps (open_string shut_string)
open Go.PlainAid
open Go.Proofs.Ytnkldjijjpcmhaa.Dec
open Go.Proofs.Ytnkldjijjpcmhaa.DecPure
open Go.Proofs.Ytnkldjijjpcmhaa.ReadPure
open Go.Proofs.Ytnkldjijjpcmhaa.RecPure
open Go.Proofs.Ytnkldjijjpcmhaa.Strs
open Go.Proofs.Ytnkldjijjpcmhaa.Seqs
open Go.Proofs.Ytnkldjijjpcmhaa.Draw
set_option linter.unusedVariables false

theorem own : ownKnob Try.prog.godebug = none := by kernel_rfl
theorem laidOut : laidOutB Try.prog = true := by kernel_rfl

set_option maxRecDepth 100000 in
set_option maxHeartbeats 16000000 in
theorem walk (A : Option Addr) (n cap : Nat) (Z : Nat → Int) (hn : n ≤ 9223372036854775807) (w : World) (hby : Bytes w w.heap.size A n Z) (m : Int) (hm : w.cell? ⟨0, 0, none⟩ = some (.int .i64 m)) :
    Calls Try.prog 6 #[.slice A n cap] w fun e w' => e = .returned (.bool true) ∧ Below w.heap.size w w' := by
  have HH := Lib.hid (held_of hm); clear hm
  have hdr := draw_put w A n cap Z hn hby
  have HDR := Lib.hid hdr; clear hdr hby
  go_enter Try.func6, Try.ntmps6
  go_wp2_with fail
  refine HDR.out.mono ?_
  rintro e w1 ⟨v1, l, i, s, rfl, t, hl, hsz, hi, hs, hB⟩
  have T1_1 := Lib.hid t
  have HB1 := Lib.hid hB; clear hB t
  obtain ⟨ao1, cp1, rfl⟩ := T1_1.out.form
  have hrd : ∀ W, SR w.heap.size W (.slice ao1 l.length cp1) l → RdS W (.slice ao1 l.length cp1) l := fun W h => SR.read h (fun k hk => Nat.le_trans (hsz _ (sat_mem hk)) (by omega))
  have him := fun W h => impl_put (.slice ao1 l.length cp1) l i s (by omega) (by omega) W (hrd W h)
  have hsp := fun W h => spec_put (.slice ao1 l.length cp1) l i s (by omega) (by omega) W (hrd W h)
  have HSZ := Lib.hid hsz; clear hsz hrd
  rcases putP_cases l i s with hP | ⟨hP, i1, i2, hl2⟩
  · rw [hP] at him hsp
    have HIM := Lib.hid him; clear him
    have HSP := Lib.hid hsp; clear hsp
    clear hP
    go_wp2_with fail
    refine (HIM.out w1 T1_1.out).mono ?_
    rintro e w2 ⟨v2, rfl, t, hB⟩
    have T2_2 := Lib.hid t
    have T1_2 := Lib.hid (T1_1.out.below hB (Nat.le_refl _))
    have HB2 := Lib.hid (HB1.out.trans (hB.mono HB1.out.size)); clear hB t
    obtain ⟨ao2, cp2, rfl⟩ := T2_2.out.form
    go_wp2_with fail
    refine (HSP.out w2 T1_2.out).mono ?_
    rintro e w3 ⟨v3, rfl, t, hB⟩
    have HB3 := Lib.hid (HB2.out.trans (hB.mono HB2.out.size))
    have T3_3 := Lib.hid t
    clear hB t
    obtain ⟨ao3, cp3, rfl⟩ := T3_3.out.form
    go_wp2_with fail
    refine (lines_alive w3 (HH.out.below HB3.out (Nat.le_refl _))).mono ?_
    rintro e w4 ⟨rfl, hB⟩
    have HB4 := Lib.hid (HB3.out.trans (hB.mono HB3.out.size)); clear hB
    go_wp2_with fail
    go_ret
    exact ⟨rfl, HB4.out⟩
  · rw [hP] at him hsp
    have HIM := Lib.hid him; clear him
    have HSP := Lib.hid hsp; clear hsp
    clear hP
    obtain ⟨p, rfl⟩ : ∃ p : Nat, i = (p : Int) + 1 := ⟨(i - 1).toNat, by omega⟩
    have hp50 : p < 50 := by omega
    have hit : ((p : Int) + 1).toNat = p + 1 := by omega
    rw [hit] at HIM HSP
    have hLl : (putL l (p + 1) s).length = l.length + (p + 1 - l.length) := putL_len l (p + 1) s
    have hA := putL_at l p s
    have hB' := fun k (h : k < l.length) (h2 : k ≠ p) => putL_old (s := s) h h2
    have hC := fun k (h : l.length ≤ k) (h2 : k ≠ p) => putL_new (s := s) h h2
    generalize putL l (p + 1) s = L at *
    have hLlen : L.length ≤ 50 := by omega
    have hlL : l.length ≤ L.length := by omega
    have hpL : p < L.length := by omega
    have hLm : L.length ≤ l.length ∨ L.length = p + 1 := by omega
    have HA := Lib.hid hA; clear hA
    have HBB := Lib.hid hB'; clear hB'
    have HCC := Lib.hid hC; clear hC
    clear hLl hLm i1 i2 hi hit
    go_wp2_with fail
    refine (HIM.out w1 T1_1.out).mono ?_
    rintro e w2 ⟨v2, rfl, t, hB⟩
    have T2_2 := Lib.hid t
    have T1_2 := Lib.hid (T1_1.out.below hB (Nat.le_refl _))
    have HB2 := Lib.hid (HB1.out.trans (hB.mono HB1.out.size)); clear hB t
    obtain ⟨ao2, cp2, rfl⟩ := T2_2.out.form
    go_wp2_with fail
    refine (HSP.out w2 T1_2.out).mono ?_
    rintro e w3 ⟨v3, rfl, t, hB⟩
    have HB3 := Lib.hid (HB2.out.trans (hB.mono HB2.out.size))
    have T1_3 := Lib.hid (T1_2.out.below hB (Nat.le_refl _))
    have T2_3 := Lib.hid (T2_2.out.below hB (Nat.le_refl _))
    have T3_3 := Lib.hid t
    clear hB t
    obtain ⟨ao3, cp3, rfl⟩ := T3_3.out.form
    obtain ⟨g, c, e1, c0, _⟩ := T2_3.out.at hpL
    simp only [Value.slice.injEq, true_and] at e1
    obtain ⟨rfl, rfl⟩ := e1
    rw [HA.out] at c0
    have hj1 : ¬ (L.length : Int) < (l.length : Int) := by omega
    have hj2 : ¬ (L.length : Int) < (p : Int) + 1 := by omega
    have hj1d : decide (L.length < l.length) = false := decide_eq_false (by omega)
    have hpi : (p : Int) < (L.length : Int) := by omega
    go_wp2_with fail
    go_loopw [10] (fun i wr => ∃ k : Nat, k ≤ L.length ∧ i = .int .i64 k ∧ Hid (Below w3.heap.size w3 wr)) (fun i _ => L.length - (intOf i).toNat)
    case atStart => exact ⟨0, Nat.zero_le _, rfl, Lib.hid (Below.refl _ _)⟩
    case round =>
      obtain ⟨k, hk, rfl, HB⟩ := hrel
      have t2 := T2_3.out.below HB.out (Nat.le_refl _)
      have t1 := T1_3.out.below HB.out (Nat.le_refl _)
      by_cases hlt : k < L.length
      · obtain ⟨g2, c2, e2, d0, _⟩ := t2.at hlt
        simp only [Value.slice.injEq, true_and, Option.some.injEq, Addr.mk.injEq, and_true] at e2
        obtain ⟨rfl, rfl⟩ := e2
        have hki : (k : Int) < (L.length : Int) := by omega
        have hwp : IntKind.i64.wrap (p : Int) = (p : Int) := by rw [IntKind.wrap_i64]; omega
        clear c0 hj1 hj2 hj1d HIM HSP HH HB1 HB2 HB3 T1_1 T1_2 T2_2 T3_3
        by_cases hkp : k = p
        · subst hkp
          clear t1 t2
          by_cases hkl : k < l.length
          · have hkli : (k : Int) < (l.length : Int) := by omega
            have hkge : ¬ (l.length : Int) ≤ (k : Int) := by omega
            have hkgd : decide (l.length ≤ k) = false := decide_eq_false (by omega)
            go_wp2_with fail
            go_quiet (fail)
            go_wp2_with fail
            go_roundw
            case rel => exact ⟨k + 1, by omega, by go_num, HB.out.trans ⟨rfl, rfl, rfl, Nat.le_refl _, fun _ _ => rfl⟩⟩
            case measure => simp [intOf]; omega
          · have hkli : ¬ (k : Int) < (l.length : Int) := by omega
            have hkld : decide (k < l.length) = false := by simpa using hkl
            have hkge : (l.length : Int) ≤ (k : Int) := by omega
            go_wp2_with fail
            go_quiet (fail)
            go_wp2_with fail
            go_roundw
            case rel => exact ⟨k + 1, by omega, by go_num, HB.out.trans ⟨rfl, rfl, rfl, Nat.le_refl _, fun _ _ => rfl⟩⟩
            case measure => simp [intOf]; omega
        · have hkpi : ¬ (k : Int) = (p : Int) := by omega
          have hkpb : ((k : Int) == (p : Int)) = false := by simpa using hkpi
          have hkpn : (k == p) = false := by simpa using hkp
          have hkpc : ((k : Int) != (p : Int)) = true := by simpa using hkpi
          by_cases hkl : k < l.length
          · obtain ⟨g3, c3, e3, f0, _⟩ := t1.at hkl
            simp only [Value.slice.injEq, true_and] at e3
            obtain ⟨rfl, rfl⟩ := e3
            rw [HBB.out k hkl hkp] at d0
            generalize sat l k = x at *
            have hkli : (k : Int) < (l.length : Int) := by omega
            have hkge : ¬ (l.length : Int) ≤ (k : Int) := by omega
            have hkgd : decide (l.length ≤ k) = false := decide_eq_false (by omega)
            clear t1 t2
            go_wp2_with fail
            go_quiet (fail)
            go_wp2_with fail
            go_roundw
            case rel => exact ⟨k + 1, by omega, by go_num, HB.out.trans ⟨rfl, rfl, rfl, Nat.le_refl _, fun _ _ => rfl⟩⟩
            case measure => simp [intOf]; omega
          · rw [HCC.out k (by omega) hkp] at d0
            have hkli : ¬ (k : Int) < (l.length : Int) := by omega
            have hkld : decide (k < l.length) = false := by simpa using hkl
            have hkge : (l.length : Int) ≤ (k : Int) := by omega
            clear t1 t2
            go_wp2_with fail
            go_quiet (fail)
            go_wp2_with fail
            go_roundw
            case rel => exact ⟨k + 1, by omega, by go_num, HB.out.trans ⟨rfl, rfl, rfl, Nat.le_refl _, fun _ _ => rfl⟩⟩
            case measure => simp [intOf]; omega
      · obtain rfl : k = L.length := by omega
        have hL50 : (L.length : Int) ≤ 50 := by omega
        have hBr := HB3.out.trans (HB.out.mono HB3.out.size)
        have HBR := Lib.hid hBr
        have HAL := Lib.hid (lines_alive wr (HH.out.below hBr (Nat.le_refl _)))
        clear hlt hBr t1 t2
        go_wp2_with fail
        refine HAL.out.mono ?_
        rintro e w4 ⟨rfl, hB⟩
        have HB4 := Lib.hid (HBR.out.trans (hB.mono HBR.out.size)); clear hB
        go_wp2_with fail
        go_ret
        exact ⟨rfl, HB4.out⟩


set_option maxRecDepth 100000 in
theorem lifted (os : Os) (started : os.Started) (H : Type) (enc : TypeId × Value → H) :
    ReturnsInHanded {} Try.checked os 6 .any (Rows.fnPutFieldsSpec.pre6 enc Try.prog Try.f6 Rows.fnPutFieldsRow.domain false) (Rows.fnPutFieldsSpec.post enc Try.prog Try.f6 false true false false) := by
  refine returnsInHanded_of_change_shaped (C := Try.checked) own started (by kernel_rfl) Try.func6
    (ChangeSpec.witness6 (enc := enc) (C := Try.checked) false ⟨#[], #[.slice none 0 0], []⟩ 8 (by kernel_rfl) (by kernel_rfl) (by kernel_rfl) (by kernel_rfl)) ?_
  intro W base args ds gs before hval0 hW hcnd _ hsh _
  obtain ⟨m, hm⟩ := cell_of_shapedOpen_int (P := Try.prog) (g := 0) (t := 3) (zero := #[.int .i64 0]) (k := .i64) hsh (of_decide_eq_true (by kernel_rfl)) (by kernel_rfl) rfl (by kernel_rfl) (by kernel_rfl) Try.underlying3
  have hval : ∀ (j : Nat) t v, Try.f6.params[j]? = some t → args[j]? = some v → Value.okWide Try.prog W .any base t v := hval0
  have hW' := hW
  obtain ⟨p, q, hA0, hV, rfl, hfz, hnd⟩ := hW
  have hA : DataW.TrodAll enc Try.prog W 0 (fun _ => true) true Try.f6.params.toList args.toList ds p := hA0
  rw [Try.params6] at hA hval
  obtain ⟨v0, vs0, d0, ds0, p0, q0, hargs, rfl, rfl, h0, r0⟩ := trodAll_cons hA
  obtain ⟨rfl, rfl, rfl⟩ := trodAll_nil r0
  obtain rfl : args = #[v0] := by cases args; simp_all
  obtain ⟨rfl, rfl⟩ := trodVars_none hV
  have hlt0 : ∀ x ∈ p0, x.block < W.heap.size := fun x hx => hW'.lt x (by simp [hx])
  have hk0 := h0
  obtain ⟨a0, len, cap, rfl⟩ := okWide_slice Try.underlying22 (hval 0 22 v0 rfl rfl)
  obtain ⟨fuel0, hf⟩ := h0
  have hby : ∃ Z : Nat → Int, len ≤ 9223372036854775807 ∧ Bytes W W.heap.size a0 len Z := by
    rcases open_ints Try.underlying22 Try.underlying5 (by kernel_rfl : Try.prog.cellsOf 5 = 1) hf with ⟨hcs, hx⟩ | ⟨a, len', cap', zs, hcs, _, hl, hm, hz, hx, hcell, hwz⟩
    · simp [Value.cells] at hcs
      obtain ⟨rfl, rfl, rfl⟩ := hcs
      exact ⟨fun _ => 0, by omega, fun j hj => by omega⟩
    · simp [Value.cells] at hcs
      obtain ⟨rfl, rfl, rfl⟩ := hcs
      simp only [if_true] at hz
      unfold maxLen at hm
      refine ⟨fun j => zs.getD j 0, by omega, fun j hj => ?_⟩
      obtain ⟨b, off, rfl, hc⟩ := ints_at hcell (by omega)
      have h1 := hc j (by omega)
      have h2 := bounds_u8 (hwz (zs.getD j 0) (by simp [List.getD, List.getElem?_eq_getElem (show j < zs.length by omega)]))
      exact ⟨b, off, rfl, World.block_lt_of_cell? W ⟨b, off + j, none⟩ h1, h1, h2.1, h2.2⟩
  obtain ⟨Z, hn, hZ⟩ := hby
  clear hA0 hval0
  simp only [List.append_nil] at hW'
  refine (walk a0 len cap Z hn W hZ m hm).mono fun e W' ⟨he, hg⟩ => ?_
  subst he
  exact ⟨_, rfl, _, _, _, [], _, [], hW', (trodAll_cons_mk (shut_bool Try.underlying4 _) trodAll_mk0), (trodAll_cons_mk (Below.trod laidOut (by kernel_rfl) (of_decide_eq_true (by kernel_rfl)) hk0 hg hlt0) trodAll_mk0), rfl, hg.frame _, fun h => by cases h⟩

theorem over : Rows.fnPutFieldsRow.holds Try.pinned (OpenSpec.ofChange Rows.fnPutFieldsSpec) :=
  OpenClaim.holds_of_wide 6 Try.f6 rfl rfl rfl rfl rfl rfl rfl ⟨rfl, rfl, rfl, rfl, rfl⟩ rfl rfl rfl rfl rfl (by kernel_rfl) Try.func6 (by kernel_rfl)
    (of_decide_eq_true (by kernel_rfl)) (by unfold Func.isWrapper; first | (rw [if_pos (by decide +kernel)]; kernel_rfl) | (rw [if_neg (by decide +kernel)]; exact ⟨rfl, rfl⟩))
    (fun os started H enc _ => lifted os started H enc)

theorem proved : Rows.FnPutFieldsSaid :=
  over
end Go.Proofs.Ytnkldjijjpcmhaa.fnPutFields
