/-
  For every list of bytes the law of fields returns true: fields have no white byte, and put together they are the same fields.
-/
import Derived.Test.YtnkldjijjpcmhaaRows
import Derived.WalkKit
import Derived.ProofKit
import Derived.OpenShut
import Derived.Below
import Derived.ShutString
import Derived.Lib.SmallJoins
import Derived.ChangeSlices
import Derived.Test.YtnkldjijjpcmhaaLinesAlive
import Derived.Test.YtnkldjijjpcmhaaRecLaw
import Derived.Test.YtnkldjijjpcmhaaDrawRec
import Derived.HandedShaped
import Derived.Shelf.Vars
namespace Go.Proofs.Ytnkldjijjpcmhaa.fnFields
open Go.ChangeShapes Go.WideShapes Go.ChangeAt Go.RowKit
open Go.ChangeMaps (open_string shut_string)
open Go.PlainAid
open Go.Proofs.Ytnkldjijjpcmhaa.Dec
open Go.Proofs.Ytnkldjijjpcmhaa.DecPure
open Go.Proofs.Ytnkldjijjpcmhaa.ReadPure
open Go.Proofs.Ytnkldjijjpcmhaa.RecPure
open Go.Proofs.Ytnkldjijjpcmhaa.Strs
open Go.Proofs.Ytnkldjijjpcmhaa.Seqs
open Go.Proofs.Ytnkldjijjpcmhaa.Draw
set_option linter.unusedVariables false

theorem own : ownKnob Try.prog.godebug = none := by kernel_rfl
theorem laidOut : laidOutB Try.prog = true := by kernel_rfl

set_option maxRecDepth 100000 in
set_option maxHeartbeats 2000000 in
theorem walk (A : Option Addr) (n cap : Nat) (Z : Nat → Int) (hn : n ≤ 9223372036854775807) (w : World) (hby : Bytes w w.heap.size A n Z) (m : Int) (hm : w.cell? ⟨0, 0, none⟩ = some (.int .i64 m)) :
    Calls Try.prog 4 #[.slice A n cap] w fun e w' => e = .returned (.bool true) ∧ Below w.heap.size w w' := by
  have HH := Lib.hid (held_of hm); clear hm
  have hdr := draw_fields w A n cap Z hn hby
  have HDR := Lib.hid hdr; clear hdr hby
  go_enter Try.func4, Try.ntmps4
  go_wp2_with fail
  refine HDR.out.mono ?_
  rintro e w1 ⟨s, rfl, hs, hB⟩
  have HB1 := Lib.hid hB; clear hB
  have him := fun W => impl_fields s (by omega) W
  have hsp := fun W => spec_fields s (by omega) W
  have hag := fun W => impl_fields (joinP (fieldsP s)) (by have := joinP_size (fieldsP s); omega) W
  rw [fields_again] at hag
  have hln := fieldsP_len s
  have hwd := fields_words s
  have hsm := fields_small s
  generalize fieldsP s = L at *
  have hjz := joinP_size L
  have HIM := Lib.hid him; clear him
  have HSP := Lib.hid hsp; clear hsp
  have HAG := Lib.hid hag; clear hag
  have HWD := Lib.hid hwd; clear hwd
  have HSM := Lib.hid hsm; clear hsm
  go_wp2_with fail
  refine (HIM.out w1).mono ?_
  rintro e w2 ⟨v2, rfl, t, hB⟩
  have T2 := Lib.hid t
  have T2_2 := T2; clear T2
  have HB2 := Lib.hid (HB1.out.trans (hB.mono HB1.out.size)); clear t hB
  obtain ⟨ao2, cp2, rfl⟩ := T2_2.out.form
  go_wp2_with fail
  refine (HSP.out w2).mono ?_
  rintro e w3 ⟨v3, rfl, t, hB⟩
  have T3 := Lib.hid t
  have T2_3 := Lib.hid (T2_2.out.below hB (Nat.le_refl _))
  have T3_3 := T3; clear T3
  have HB3 := Lib.hid (HB2.out.trans (hB.mono HB2.out.size)); clear t hB
  obtain ⟨ao3, cp3, rfl⟩ := T3_3.out.form
  go_wp2_with fail
  refine (same_srs _ _ _ _ _ L T2_3.out T3_3.out (by omega)).mono ?_
  rintro e w4 ⟨rfl, hB⟩
  have T2_4 := Lib.hid (T2_3.out.below hB (Nat.le_refl _))
  have HB4 := Lib.hid (HB3.out.trans (hB.mono HB3.out.size)); clear hB
  go_wp2_with fail
  go_loop [6] (fun i => ∃ k : Nat, k ≤ L.length ∧ i = .int .i64 k) (fun i => L.length - (intOf i).toNat)
  case atStart => exact ⟨0, Nat.zero_le _, rfl⟩
  case round =>
    obtain ⟨k, hk, rfl⟩ := hrel
    by_cases hlt : k < L.length
    · obtain ⟨g, c, e1, c0, _⟩ := T2_4.out.at hlt
      simp only [Value.slice.injEq, true_and] at e1
      obtain ⟨rfl, rfl⟩ := e1
      have hw := HWD.out _ (sat_mem hlt)
      have hxz := HSM.out k hlt
      obtain ⟨x, hx⟩ : ∃ x, x = sat L k := ⟨_, rfl⟩
      rw [← hx] at c0 hw hxz
      have HW := Lib.hid hw
      have hx0 : 0 < x.size := hw.1
      have hxn : (x.toList == []) = false := str_some hw.1
      have hgb := get_bt x
      clear hx hw
      have hki : (k : Int) < (L.length : Int) := by omega
      go_wp2_with fail
      go_loop [7] (fun i => ∃ q : Nat, q ≤ x.size ∧ i = .int .i64 q) (fun i => x.size - (intOf i).toNat)
      case atStart => exact ⟨0, Nat.zero_le _, rfl⟩
      case round =>
        obtain ⟨q, hq, rfl⟩ := hrel
        by_cases hql : q < x.size
        · obtain ⟨n1, n2, n3⟩ := word_white HW.out hql
          have b0 := bt_nonneg x q
          have b1 := bt_le x q
          have m1 : (bt x q == 32) = false := by simpa using n1
          have m2 : (bt x q == 9) = false := by simpa using n2
          have m3 : (bt x q == 10) = false := by simpa using n3
          have hqi : (q : Int) < (x.size : Int) := by omega
          go_wp2_with fail
          go_round
          case rel => exact ⟨q + 1, by omega, by go_num⟩
          case measure => simp [intOf]; omega
        · obtain rfl : q = x.size := by omega
          go_wp2_with fail
          go_round
          case rel => exact ⟨k + 1, by omega, by go_num⟩
          case measure => simp [intOf]; omega
    · obtain rfl : k = L.length := by omega
      clear hlt
      have hjn := impl_join _ L (by omega) w4 (SR.read T2_4.out HSM.out)
      generalize joinP L = J at *
      have HJN := Lib.hid hjn; clear hjn
      go_wp2_with fail
      refine (HJN.out).mono ?_
      rintro e w5 ⟨rfl, hB⟩
      have T2_5 := Lib.hid (T2_4.out.below hB (Nat.le_refl _))
      have HB5 := Lib.hid (HB4.out.trans (hB.mono HB4.out.size)); clear hB
      go_wp2_with fail
      refine (HAG.out w5).mono ?_
      rintro e w6 ⟨v6, rfl, t, hB⟩
      have T6 := Lib.hid t
      have T2_6 := Lib.hid (T2_5.out.below hB (Nat.le_refl _))
      have T6_6 := T6; clear T6
      have HB6 := Lib.hid (HB5.out.trans (hB.mono HB5.out.size)); clear t hB
      obtain ⟨ao6, cp6, rfl⟩ := T6_6.out.form
      go_wp2_with fail
      refine (same_srs _ _ _ _ _ L T6_6.out T2_6.out (by omega)).mono ?_
      rintro e w7 ⟨rfl, hB⟩
      have HB7 := Lib.hid (HB6.out.trans (hB.mono HB6.out.size)); clear hB
      go_wp2_with fail
      refine (lines_alive w7 (HH.out.below HB7.out (Nat.le_refl _))).mono ?_
      rintro e w8 ⟨rfl, hB⟩
      have HB8 := Lib.hid (HB7.out.trans (hB.mono HB7.out.size)); clear hB
      go_wp2_with fail
      go_ret
      exact ⟨rfl, HB8.out⟩


set_option maxRecDepth 100000 in
theorem lifted (os : Os) (started : os.Started) (H : Type) (enc : TypeId × Value → H) :
    ReturnsInHanded {} Try.checked os 4 .any (Rows.fnFieldsSpec.pre6 enc Try.prog Try.f4 Rows.fnFieldsRow.domain false) (Rows.fnFieldsSpec.post enc Try.prog Try.f4 false true false false) := by
  refine returnsInHanded_of_change_shaped (C := Try.checked) own started (by kernel_rfl) Try.func4
    (ChangeSpec.witness6 (enc := enc) (C := Try.checked) false ⟨#[], #[.slice none 0 0], []⟩ 8 (by kernel_rfl) (by kernel_rfl) (by kernel_rfl) (by kernel_rfl)) ?_
  intro W base args ds gs before hval0 hW hcnd _ hsh _
  obtain ⟨m, hm⟩ := cell_of_shapedOpen_int (P := Try.prog) (g := 0) (t := 3) (zero := #[.int .i64 0]) (k := .i64) hsh (of_decide_eq_true (by kernel_rfl)) (by kernel_rfl) rfl (by kernel_rfl) (by kernel_rfl) Try.underlying3
  have hval : ∀ (j : Nat) t v, Try.f4.params[j]? = some t → args[j]? = some v → Value.okWide Try.prog W .any base t v := hval0
  have hW' := hW
  obtain ⟨p, q, hA0, hV, rfl, hfz, hnd⟩ := hW
  have hA : DataW.TrodAll enc Try.prog W 0 (fun _ => true) true Try.f4.params.toList args.toList ds p := hA0
  rw [Try.params4] at hA hval
  obtain ⟨v0, vs0, d0, ds0, p0, q0, hargs, rfl, rfl, h0, r0⟩ := trodAll_cons hA
  obtain ⟨rfl, rfl, rfl⟩ := trodAll_nil r0
  obtain rfl : args = #[v0] := by cases args; simp_all
  obtain ⟨rfl, rfl⟩ := trodVars_none hV
  have hlt0 : ∀ x ∈ p0, x.block < W.heap.size := fun x hx => hW'.lt x (by simp [hx])
  have hk0 := h0
  obtain ⟨a0, len, cap, rfl⟩ := okWide_slice Try.underlying22 (hval 0 22 v0 rfl rfl)
  obtain ⟨fuel0, hf⟩ := h0
  have hby : ∃ Z : Nat → Int, len ≤ 9223372036854775807 ∧ Bytes W W.heap.size a0 len Z := by
    rcases open_ints Try.underlying22 Try.underlying5 (by kernel_rfl : Try.prog.cellsOf 5 = 1) hf with ⟨hcs, hx⟩ | ⟨a, len', cap', zs, hcs, _, hl, hm, hz, hx, hcell, hwz⟩
    · simp [Value.cells] at hcs
      obtain ⟨rfl, rfl, rfl⟩ := hcs
      exact ⟨fun _ => 0, by omega, fun j hj => by omega⟩
    · simp [Value.cells] at hcs
      obtain ⟨rfl, rfl, rfl⟩ := hcs
      simp only [if_true] at hz
      unfold maxLen at hm
      refine ⟨fun j => zs.getD j 0, by omega, fun j hj => ?_⟩
      obtain ⟨b, off, rfl, hc⟩ := ints_at hcell (by omega)
      have h1 := hc j (by omega)
      have h2 := bounds_u8 (hwz (zs.getD j 0) (by simp [List.getD, List.getElem?_eq_getElem (show j < zs.length by omega)]))
      exact ⟨b, off, rfl, World.block_lt_of_cell? W ⟨b, off + j, none⟩ h1, h1, h2.1, h2.2⟩
  obtain ⟨Z, hn, hZ⟩ := hby
  clear hA0 hval0
  simp only [List.append_nil] at hW'
  refine (walk a0 len cap Z hn W hZ m hm).mono fun e W' ⟨he, hg⟩ => ?_
  subst he
  exact ⟨_, rfl, _, _, _, [], _, [], hW', (trodAll_cons_mk (shut_bool Try.underlying4 _) trodAll_mk0), (trodAll_cons_mk (Below.trod laidOut (by kernel_rfl) (of_decide_eq_true (by kernel_rfl)) hk0 hg hlt0) trodAll_mk0), rfl, hg.frame _, fun h => by cases h⟩

theorem over : Rows.fnFieldsRow.holds Try.pinned (OpenSpec.ofChange Rows.fnFieldsSpec) :=
  OpenClaim.holds_of_wide 4 Try.f4 rfl rfl rfl rfl rfl rfl rfl ⟨rfl, rfl, rfl, rfl, rfl⟩ rfl rfl rfl rfl rfl (by kernel_rfl) Try.func4 (by kernel_rfl)
    (of_decide_eq_true (by kernel_rfl)) (by unfold Func.isWrapper; first | (rw [if_pos (by decide +kernel)]; kernel_rfl) | (rw [if_neg (by decide +kernel)]; exact ⟨rfl, rfl⟩))
    (fun os started H enc _ => lifted os started H enc)

theorem proved : Rows.FnFieldsSaid :=
  over
end Go.Proofs.Ytnkldjijjpcmhaa.fnFields
