/-
  For every list of bytes the law of parts returns true: parts with what parted them between are the text again, as long as there are not too many.
-/
import Derived.Test.YtnkldjijjpcmhaaRows
import Derived.WalkKit
import Derived.ProofKit
import Derived.OpenShut
import Derived.Below
import Derived.ShutString
import Derived.Lib.SmallJoins
import Derived.ChangeSlices
import Derived.Test.YtnkldjijjpcmhaaLinesAlive
import Derived.Test.YtnkldjijjpcmhaaRecLaw
import Derived.Test.YtnkldjijjpcmhaaDrawRec
import Derived.HandedShaped
import Derived.Shelf.Vars
namespace Go.Proofs.Ytnkldjijjpcmhaa.fnSplits
open Go.ChangeShapes Go.WideShapes Go.ChangeAt Go.RowKit
open Go.ChangeMaps (open_string shut_string)
open Go.PlainAid
open Go.Proofs.Ytnkldjijjpcmhaa.Dec
open Go.Proofs.Ytnkldjijjpcmhaa.DecPure
open Go.Proofs.Ytnkldjijjpcmhaa.ReadPure
open Go.Proofs.Ytnkldjijjpcmhaa.RecPure
open Go.Proofs.Ytnkldjijjpcmhaa.Strs
open Go.Proofs.Ytnkldjijjpcmhaa.Seqs
open Go.Proofs.Ytnkldjijjpcmhaa.Draw
set_option linter.unusedVariables false

theorem own : ownKnob Try.prog.godebug = none := by kernel_rfl
theorem laidOut : laidOutB Try.prog = true := by kernel_rfl

set_option maxRecDepth 100000 in
set_option maxHeartbeats 2000000 in
theorem walk (A : Option Addr) (n cap : Nat) (Z : Nat → Int) (hn : n ≤ 9223372036854775807) (w : World) (hby : Bytes w w.heap.size A n Z) (m : Int) (hm : w.cell? ⟨0, 0, none⟩ = some (.int .i64 m)) :
    Calls Try.prog 5 #[.slice A n cap] w fun e w' => e = .returned (.bool true) ∧ Below w.heap.size w w' := by
  have HH := Lib.hid (held_of hm); clear hm
  have hdr := draw_split w A n cap Z hn hby
  have HDR := Lib.hid hdr; clear hdr hby
  go_enter Try.func5, Try.ntmps5
  go_wp2_with fail
  refine HDR.out.mono ?_
  rintro e w1 ⟨s, d, rfl, hs, hd, hB⟩
  have HB1 := Lib.hid hB; clear hB
  have him := fun W hW => impl_split s d (by omega) (by omega) W hW
  have hsp := fun W => spec_split s d (by omega) (by omega) W
  have hfd := fun W => impl_fields s (by omega) W
  have hsame : (d.toList == [32]) = true → fieldsP s = splitP s d := fun h => by unfold splitP; rw [if_pos h]
  have hbk := fun h1 h2 => split_back (s := s) (t := d) h1 h2
  have hln := splitP_len s d
  have hsm := split_small s d
  have hnone : 500 < s.size → (d.toList == [32]) = false → splitP s d = [] := fun h1 h2 => by unfold splitP; rw [if_neg (by rw [h2]; simp), if_pos (.inl h1)]
  generalize splitP s d = L at *
  have HIM := Lib.hid him; clear him
  have HSP := Lib.hid hsp; clear hsp
  have HFD := Lib.hid hfd; clear hfd
  have HBK := Lib.hid hbk; clear hbk
  have HSM := Lib.hid hsm; clear hsm
  have HNO := Lib.hid hnone; clear hnone
  have HSA := Lib.hid hsame; clear hsame
  go_wp2_with fail
  refine (HIM.out w1 (HH.out.below HB1.out (Nat.le_refl _))).mono ?_
  rintro e w2 ⟨v2, rfl, t, hB⟩
  have T2 := Lib.hid t
  have T2_2 := T2; clear T2
  have HB2 := Lib.hid (HB1.out.trans (hB.mono HB1.out.size)); clear t hB
  obtain ⟨ao2, cp2, rfl⟩ := T2_2.out.form
  go_wp2_with fail
  refine (HSP.out w2).mono ?_
  rintro e w3 ⟨v3, rfl, t, hB⟩
  have T3 := Lib.hid t
  have T2_3 := Lib.hid (T2_2.out.below hB (Nat.le_refl _))
  have T3_3 := T3; clear T3
  have HB3 := Lib.hid (HB2.out.trans (hB.mono HB2.out.size)); clear t hB
  obtain ⟨ao3, cp3, rfl⟩ := T3_3.out.form
  go_wp2_with fail
  refine (same_srs _ _ _ _ _ L T2_3.out T3_3.out (by omega)).mono ?_
  rintro e w4 ⟨rfl, hB⟩
  have T2_4 := Lib.hid (T2_3.out.below hB (Nat.le_refl _))
  have HB4 := Lib.hid (HB3.out.trans (hB.mono HB3.out.size)); clear hB
  cases hb : (d.toList == [32]) with
  | true =>
    have hl : d.toList = [32] := by simpa using hb
    have hfd := HFD.out
    rw [HSA.out hb] at hfd
    have HF2 := Lib.hid hfd
    clear hfd hb
    go_wp2_with fail
    refine (HF2.out w4).mono ?_
    rintro e w5 ⟨v5, rfl, t, hB⟩
    have T5 := Lib.hid t
    have T2_5 := Lib.hid (T2_4.out.below hB (Nat.le_refl _))
    have T5_5 := T5; clear T5
    have HB5 := Lib.hid (HB4.out.trans (hB.mono HB4.out.size)); clear t hB
    obtain ⟨ao5, cp5, rfl⟩ := T5_5.out.form
    go_wp2_with fail
    refine (same_srs _ _ _ _ _ L T2_5.out T5_5.out (by omega)).mono ?_
    rintro e w6 ⟨rfl, hB⟩
    have HB6 := Lib.hid (HB5.out.trans (hB.mono HB5.out.size)); clear hB
    go_wp2_with fail
    refine (lines_alive w6 (HH.out.below HB6.out (Nat.le_refl _))).mono ?_
    rintro e w7 ⟨rfl, hB⟩
    have HB7 := Lib.hid (HB6.out.trans (hB.mono HB6.out.size)); clear hB
    go_wp2_with fail
    go_ret
    exact ⟨rfl, HB7.out⟩
  | false =>
    have HL5 := Lib.hid (lines_alive w4 (HH.out.below HB4.out (Nat.le_refl _)))
    have hbk := fun h => HBK.out h hb
    have hno := fun h => HNO.out h hb
    have HBK2 := Lib.hid hbk
    have HNO2 := Lib.hid hno
    clear hbk hno
    go_wp2_with fail
    go_loop [6, 7] (fun v i => ∃ k : Nat, k ≤ L.length ∧ i = .int .i64 k ∧ v = .string (spJ d L k) ∧ (spJ d L k).size ≤ 600 * k) (fun _ i => L.length - (intOf i).toNat)
    case atStart => exact ⟨0, Nat.zero_le _, rfl, rfl, Nat.le_refl _⟩
    case round =>
      obtain ⟨k, hk, rfl, rfl, hyz⟩ := hrel
      by_cases hlt : k < L.length
      · obtain ⟨g, c, e1, c0, _⟩ := T2_4.out.at hlt
        simp only [Value.slice.injEq, true_and] at e1
        obtain ⟨rfl, rfl⟩ := e1
        have hxz := HSM.out _ (sat_mem hlt)
        have hst : spJ d L (k + 1) = if 0 < k then spJ d L k ++ d ++ sat L k else spJ d L k ++ sat L k := rfl
        generalize sat L k = x at *
        generalize spJ d L k = y at *
        have HST := Lib.hid hst; clear hst
        have hki : (k : Int) < (L.length : Int) := by omega
        by_cases h0 : 0 < k
        · have hst2 : spJ d L (k + 1) = y ++ d ++ x := by have := HST.out; rw [if_pos h0] at this; exact this
          have HS2 := Lib.hid hst2; clear hst2
          have h0i : (0 : Int) < (k : Int) := by omega
          have hyd : (y ++ d).size ≤ 600 * k + 2 := by rw [ByteArray.size_append]; omega
          go_wp2_with fail
          go_round
          case rel => exact ⟨k + 1, by omega, by go_num, by rw [HS2.out], by rw [HS2.out, ByteArray.size_append]; omega⟩
          case measure => simp [intOf]; omega
        · have h0d : decide (0 < k) = false := by simpa using h0
          have hst2 : spJ d L (k + 1) = y ++ x := by have := HST.out; rw [if_neg h0] at this; exact this
          have HS2 := Lib.hid hst2; clear hst2
          go_wp2_with fail
          go_round
          case rel => exact ⟨k + 1, by omega, by go_num, by rw [HS2.out], by rw [HS2.out, ByteArray.size_append]; omega⟩
          case measure => simp [intOf]; omega
      · obtain rfl : k = L.length := by omega
        clear hlt
        by_cases hbig : 500 < s.size
        · have hL0 : L.length = 0 := by rw [HNO2.out hbig]; rfl
          have hsi : (500 : Int) < (s.size : Int) := by omega
          have e0 : spJ d L L.length = ⟨#[]⟩ := by rw [hL0]; rfl
          rw [e0]
          have hne : (([] : List UInt8) == s.toList) = false := str_none (by omega)
          go_wp2_with fail
          refine HL5.out.mono ?_
          rintro e w5 ⟨rfl, hB⟩
          have HB5 := Lib.hid (HB4.out.trans (hB.mono HB4.out.size)); clear hB
          go_wp2_with fail
          go_ret
          exact ⟨rfl, HB5.out⟩
        · have hsi : ¬ (500 : Int) < (s.size : Int) := by omega
          have hsd : decide (500 < s.size) = false := by simpa using hbig
          have hcase := HBK2.out (by omega)
          generalize spJ d L L.length = y at *
          cases hys : (y.toList == s.toList) with
          | true =>
            go_wp2_with fail
            refine HL5.out.mono ?_
            rintro e w5 ⟨rfl, hB⟩
            have HB5 := Lib.hid (HB4.out.trans (hB.mono HB4.out.size)); clear hB
            go_wp2_with fail
            go_ret
            exact ⟨rfl, HB5.out⟩
          | false =>
            have hL50 : L.length = 50 := by
              rcases hcase with h | rfl
              · exact h
              · simp at hys
            have hLi : (L.length : Int) = 50 := by omega
            clear hcase
            go_wp2_with fail
            refine HL5.out.mono ?_
            rintro e w5 ⟨rfl, hB⟩
            have HB5 := Lib.hid (HB4.out.trans (hB.mono HB4.out.size)); clear hB
            go_wp2_with fail
            go_ret
            exact ⟨rfl, HB5.out⟩


set_option maxRecDepth 100000 in
theorem lifted (os : Os) (started : os.Started) (H : Type) (enc : TypeId × Value → H) :
    ReturnsInHanded {} Try.checked os 5 .any (Rows.fnSplitsSpec.pre6 enc Try.prog Try.f5 Rows.fnSplitsRow.domain false) (Rows.fnSplitsSpec.post enc Try.prog Try.f5 false true false false) := by
  refine returnsInHanded_of_change_shaped (C := Try.checked) own started (by kernel_rfl) Try.func5
    (ChangeSpec.witness6 (enc := enc) (C := Try.checked) false ⟨#[], #[.slice none 0 0], []⟩ 8 (by kernel_rfl) (by kernel_rfl) (by kernel_rfl) (by kernel_rfl)) ?_
  intro W base args ds gs before hval0 hW hcnd _ hsh _
  obtain ⟨m, hm⟩ := cell_of_shapedOpen_int (P := Try.prog) (g := 0) (t := 3) (zero := #[.int .i64 0]) (k := .i64) hsh (of_decide_eq_true (by kernel_rfl)) (by kernel_rfl) rfl (by kernel_rfl) (by kernel_rfl) Try.underlying3
  have hval : ∀ (j : Nat) t v, Try.f5.params[j]? = some t → args[j]? = some v → Value.okWide Try.prog W .any base t v := hval0
  have hW' := hW
  obtain ⟨p, q, hA0, hV, rfl, hfz, hnd⟩ := hW
  have hA : DataW.TrodAll enc Try.prog W 0 (fun _ => true) true Try.f5.params.toList args.toList ds p := hA0
  rw [Try.params5] at hA hval
  obtain ⟨v0, vs0, d0, ds0, p0, q0, hargs, rfl, rfl, h0, r0⟩ := trodAll_cons hA
  obtain ⟨rfl, rfl, rfl⟩ := trodAll_nil r0
  obtain rfl : args = #[v0] := by cases args; simp_all
  obtain ⟨rfl, rfl⟩ := trodVars_none hV
  have hlt0 : ∀ x ∈ p0, x.block < W.heap.size := fun x hx => hW'.lt x (by simp [hx])
  have hk0 := h0
  obtain ⟨a0, len, cap, rfl⟩ := okWide_slice Try.underlying22 (hval 0 22 v0 rfl rfl)
  obtain ⟨fuel0, hf⟩ := h0
  have hby : ∃ Z : Nat → Int, len ≤ 9223372036854775807 ∧ Bytes W W.heap.size a0 len Z := by
    rcases open_ints Try.underlying22 Try.underlying5 (by kernel_rfl : Try.prog.cellsOf 5 = 1) hf with ⟨hcs, hx⟩ | ⟨a, len', cap', zs, hcs, _, hl, hm, hz, hx, hcell, hwz⟩
    · simp [Value.cells] at hcs
      obtain ⟨rfl, rfl, rfl⟩ := hcs
      exact ⟨fun _ => 0, by omega, fun j hj => by omega⟩
    · simp [Value.cells] at hcs
      obtain ⟨rfl, rfl, rfl⟩ := hcs
      simp only [if_true] at hz
      unfold maxLen at hm
      refine ⟨fun j => zs.getD j 0, by omega, fun j hj => ?_⟩
      obtain ⟨b, off, rfl, hc⟩ := ints_at hcell (by omega)
      have h1 := hc j (by omega)
      have h2 := bounds_u8 (hwz (zs.getD j 0) (by simp [List.getD, List.getElem?_eq_getElem (show j < zs.length by omega)]))
      exact ⟨b, off, rfl, World.block_lt_of_cell? W ⟨b, off + j, none⟩ h1, h1, h2.1, h2.2⟩
  obtain ⟨Z, hn, hZ⟩ := hby
  clear hA0 hval0
  simp only [List.append_nil] at hW'
  refine (walk a0 len cap Z hn W hZ m hm).mono fun e W' ⟨he, hg⟩ => ?_
  subst he
  exact ⟨_, rfl, _, _, _, [], _, [], hW', (trodAll_cons_mk (shut_bool Try.underlying4 _) trodAll_mk0), (trodAll_cons_mk (Below.trod laidOut (by kernel_rfl) (of_decide_eq_true (by kernel_rfl)) hk0 hg hlt0) trodAll_mk0), rfl, hg.frame _, fun h => by cases h⟩

theorem over : Rows.fnSplitsRow.holds Try.pinned (OpenSpec.ofChange Rows.fnSplitsSpec) :=
  OpenClaim.holds_of_wide 5 Try.f5 rfl rfl rfl rfl rfl rfl rfl ⟨rfl, rfl, rfl, rfl, rfl⟩ rfl rfl rfl rfl rfl (by kernel_rfl) Try.func5 (by kernel_rfl)
    (of_decide_eq_true (by kernel_rfl)) (by unfold Func.isWrapper; first | (rw [if_pos (by decide +kernel)]; kernel_rfl) | (rw [if_neg (by decide +kernel)]; exact ⟨rfl, rfl⟩))
    (fun os started H enc _ => lifted os started H enc)

theorem proved : Rows.FnSplitsSaid :=
  over
end Go.Proofs.Ytnkldjijjpcmhaa.fnSplits
