/-
  For every list of bytes the law of lines returns true: lines with their ends behind them are the input again, but for the last end.
-/
import Derived.Test.YtnkldjijjpcmhaaRows
import Derived.WalkKit
import Derived.ProofKit
import Derived.OpenShut
import Derived.Below
import Derived.ShutString
import Derived.Lib.SmallJoins
import Derived.ChangeSlices
import Derived.Test.YtnkldjijjpcmhaaLinesAlive
import Derived.Test.YtnkldjijjpcmhaaRecLaw
import Derived.Test.YtnkldjijjpcmhaaDrawRec
import Derived.HandedShaped
import Derived.Shelf.Vars
namespace Go.Proofs.Ytnkldjijjpcmhaa.fnLines
open Go.ChangeShapes Go.WideShapes Go.ChangeAt Go.RowKit
open Go.ChangeMaps (open_string shut_string)
open Go.PlainAid
open Go.Proofs.Ytnkldjijjpcmhaa.Dec
open Go.Proofs.Ytnkldjijjpcmhaa.DecPure
open Go.Proofs.Ytnkldjijjpcmhaa.ReadPure
open Go.Proofs.Ytnkldjijjpcmhaa.RecPure
open Go.Proofs.Ytnkldjijjpcmhaa.Strs
open Go.Proofs.Ytnkldjijjpcmhaa.Seqs
open Go.Proofs.Ytnkldjijjpcmhaa.Draw
set_option linter.unusedVariables false

theorem own : ownKnob Try.prog.godebug = none := by kernel_rfl
theorem laidOut : laidOutB Try.prog = true := by kernel_rfl

set_option maxRecDepth 100000 in
set_option maxHeartbeats 2000000 in
theorem walk (A : Option Addr) (n cap : Nat) (Z : Nat → Int) (hn : n ≤ 9223372036854775807) (w : World) (hby : Bytes w w.heap.size A n Z) (m : Int) (hm : w.cell? ⟨0, 0, none⟩ = some (.int .i64 m)) :
    Calls Try.prog 3 #[.slice A n cap] w fun e w' => e = .returned (.bool true) ∧ Below w.heap.size w w' := by
  have HH := Lib.hid (held_of hm); clear hm
  have hdr := draw_lines w A n cap Z hn hby
  have HDR := Lib.hid hdr; clear hdr hby
  go_enter Try.func3, Try.ntmps3
  go_wp2_with fail
  refine HDR.out.mono ?_
  rintro e w1 ⟨s, rfl, hs, hB⟩
  have HB1 := Lib.hid hB; clear hB
  have hgb := get_bt s
  go_wp2_with fail
  refine (impl_lines s (by omega) w1 (HH.out.below HB1.out (Nat.le_refl _))).mono ?_
  rintro e w2 ⟨v2, rfl, t, hB⟩
  have T2 := Lib.hid t
  have HB2 := Lib.hid (HB1.out.trans (hB.mono HB1.out.size)); clear t hB
  obtain ⟨ao, cp, rfl⟩ := T2.out.form
  by_cases hz : 3000 < s.size
  · have E : linesP s = [] := by unfold linesP; rw [if_pos hz]
    have hzi : (3000 : Int) < (s.size : Int) := by omega
    rw [E]
    clear T2 E
    go_wp2_with fail
    refine (lines_alive w2 (HH.out.below HB2.out (Nat.le_refl _))).mono ?_
    rintro e w3 ⟨rfl, hB⟩
    have HB3 := Lib.hid (HB2.out.trans (hB.mono HB2.out.size)); clear hB
    go_wp2_with fail
    go_ret
    exact ⟨rfl, HB3.out⟩
  · have hzi : ¬ (3000 : Int) < (s.size : Int) := by omega
    have hzn : decide (3000 < s.size) = false := by simpa using hz
    have hbk := lines_back (s := s) (by omega)
    have hsm := lines_small s
    have hln := linesP_len s
    generalize linesP s = L at *
    have HBK := Lib.hid hbk; clear hbk
    have HSM := Lib.hid hsm; clear hsm
    go_wp2_with fail
    go_loopw [5, 6] (fun v i wr => ∃ k : Nat, k ≤ L.length ∧ i = .int .i64 k ∧ v = .string (lnJ L k) ∧ (lnJ L k).size ≤ 4000 * k ∧ Hid (Below w2.heap.size w2 wr)) (fun _ i _ => L.length - (intOf i).toNat)
    case atStart => exact ⟨0, Nat.zero_le _, rfl, rfl, Nat.le_refl _, Lib.hid (Below.refl _ _)⟩
    case round =>
      obtain ⟨k, hk, rfl, rfl, hyz, HB⟩ := hrel
      have hHB := Lib.hid (HB2.out.trans (HB.out.mono HB2.out.size))
      have hTr := T2.out.below HB.out (Nat.le_refl _)
      by_cases hlt : k < L.length
      · obtain ⟨g, c, e1, c0, _⟩ := hTr.at hlt
        simp only [Value.slice.injEq, true_and] at e1
        obtain ⟨rfl, rfl⟩ := e1
        have hxz := HSM.out k hlt
        have hst : lnJ L (k + 1) = lnJ L k ++ sat L k ++ ⟨#[10]⟩ := rfl
        generalize sat L k = x at *
        generalize lnJ L k = y at *
        have HST := Lib.hid hst; clear hst hTr
        have hki : (k : Int) < (L.length : Int) := by omega
        have hyx : (y ++ x).size ≤ 4000 * k + 3001 := by rw [ByteArray.size_append]; omega
        go_wp2_with fail
        go_roundw
        case rel => exact ⟨k + 1, by omega, by go_num, by rw [HST.out], by rw [HST.out, ByteArray.size_append]; have : (⟨#[10]⟩ : ByteArray).size = 1 := rfl; omega, HB⟩
        case measure => simp [intOf]; omega
      · obtain rfl : k = L.length := by omega
        have HAL := Lib.hid (lines_alive wr (HH.out.below hHB.out (Nat.le_refl _)))
        clear hlt hTr T2
        have hbk := HBK.out
        generalize lnJ L L.length = y at *
        rcases hbk with rfl | ⟨rfl, h0, h10⟩
        · go_wp2_with fail
          refine HAL.out.mono ?_
          rintro e w3 ⟨rfl, hB⟩
          have HB3 := Lib.hid (hHB.out.trans (hB.mono hHB.out.size)); clear hB
          go_wp2_with fail
          go_ret
          exact ⟨rfl, HB3.out⟩
        · have hne : ((s ++ (⟨#[10]⟩ : ByteArray)).toList == s.toList) = false := str_longer s _ (by decide)
          have hi1 : (0 : Int) ≤ (s.size : Int) - 1 := by omega
          have hi2 : ((s.size : Int) - 1).toNat = s.size - 1 := by omega
          have hi3 : s.size - 1 < s.size := by omega
          have h10b : (bt s (s.size - 1) != 10) = true := by simpa using h10
          have hb0 := bt_nonneg s (s.size - 1)
          have hb1 := bt_le s (s.size - 1)
          go_wp2_with fail
          refine HAL.out.mono ?_
          rintro e w3 ⟨rfl, hB⟩
          have HB3 := Lib.hid (hHB.out.trans (hB.mono hHB.out.size)); clear hB
          go_wp2_with fail
          go_ret
          exact ⟨rfl, HB3.out⟩


set_option maxRecDepth 100000 in
theorem lifted (os : Os) (started : os.Started) (H : Type) (enc : TypeId × Value → H) :
    ReturnsInHanded {} Try.checked os 3 .any (Rows.fnLinesSpec.pre6 enc Try.prog Try.f3 Rows.fnLinesRow.domain false) (Rows.fnLinesSpec.post enc Try.prog Try.f3 false true false false) := by
  refine returnsInHanded_of_change_shaped (C := Try.checked) own started (by kernel_rfl) Try.func3
    (ChangeSpec.witness6 (enc := enc) (C := Try.checked) false ⟨#[], #[.slice none 0 0], []⟩ 8 (by kernel_rfl) (by kernel_rfl) (by kernel_rfl) (by kernel_rfl)) ?_
  intro W base args ds gs before hval0 hW hcnd _ hsh _
  obtain ⟨m, hm⟩ := cell_of_shapedOpen_int (P := Try.prog) (g := 0) (t := 3) (zero := #[.int .i64 0]) (k := .i64) hsh (of_decide_eq_true (by kernel_rfl)) (by kernel_rfl) rfl (by kernel_rfl) (by kernel_rfl) Try.underlying3
  have hval : ∀ (j : Nat) t v, Try.f3.params[j]? = some t → args[j]? = some v → Value.okWide Try.prog W .any base t v := hval0
  have hW' := hW
  obtain ⟨p, q, hA0, hV, rfl, hfz, hnd⟩ := hW
  have hA : DataW.TrodAll enc Try.prog W 0 (fun _ => true) true Try.f3.params.toList args.toList ds p := hA0
  rw [Try.params3] at hA hval
  obtain ⟨v0, vs0, d0, ds0, p0, q0, hargs, rfl, rfl, h0, r0⟩ := trodAll_cons hA
  obtain ⟨rfl, rfl, rfl⟩ := trodAll_nil r0
  obtain rfl : args = #[v0] := by cases args; simp_all
  obtain ⟨rfl, rfl⟩ := trodVars_none hV
  have hlt0 : ∀ x ∈ p0, x.block < W.heap.size := fun x hx => hW'.lt x (by simp [hx])
  have hk0 := h0
  obtain ⟨a0, len, cap, rfl⟩ := okWide_slice Try.underlying22 (hval 0 22 v0 rfl rfl)
  obtain ⟨fuel0, hf⟩ := h0
  have hby : ∃ Z : Nat → Int, len ≤ 9223372036854775807 ∧ Bytes W W.heap.size a0 len Z := by
    rcases open_ints Try.underlying22 Try.underlying5 (by kernel_rfl : Try.prog.cellsOf 5 = 1) hf with ⟨hcs, hx⟩ | ⟨a, len', cap', zs, hcs, _, hl, hm, hz, hx, hcell, hwz⟩
    · simp [Value.cells] at hcs
      obtain ⟨rfl, rfl, rfl⟩ := hcs
      exact ⟨fun _ => 0, by omega, fun j hj => by omega⟩
    · simp [Value.cells] at hcs
      obtain ⟨rfl, rfl, rfl⟩ := hcs
      simp only [if_true] at hz
      unfold maxLen at hm
      refine ⟨fun j => zs.getD j 0, by omega, fun j hj => ?_⟩
      obtain ⟨b, off, rfl, hc⟩ := ints_at hcell (by omega)
      have h1 := hc j (by omega)
      have h2 := bounds_u8 (hwz (zs.getD j 0) (by simp [List.getD, List.getElem?_eq_getElem (show j < zs.length by omega)]))
      exact ⟨b, off, rfl, World.block_lt_of_cell? W ⟨b, off + j, none⟩ h1, h1, h2.1, h2.2⟩
  obtain ⟨Z, hn, hZ⟩ := hby
  clear hA0 hval0
  simp only [List.append_nil] at hW'
  refine (walk a0 len cap Z hn W hZ m hm).mono fun e W' ⟨he, hg⟩ => ?_
  subst he
  exact ⟨_, rfl, _, _, _, [], _, [], hW', (trodAll_cons_mk (shut_bool Try.underlying4 _) trodAll_mk0), (trodAll_cons_mk (Below.trod laidOut (by kernel_rfl) (of_decide_eq_true (by kernel_rfl)) hk0 hg hlt0) trodAll_mk0), rfl, hg.frame _, fun h => by cases h⟩

theorem over : Rows.fnLinesRow.holds Try.pinned (OpenSpec.ofChange Rows.fnLinesSpec) :=
  OpenClaim.holds_of_wide 3 Try.f3 rfl rfl rfl rfl rfl rfl rfl ⟨rfl, rfl, rfl, rfl, rfl⟩ rfl rfl rfl rfl rfl (by kernel_rfl) Try.func3 (by kernel_rfl)
    (of_decide_eq_true (by kernel_rfl)) (by unfold Func.isWrapper; first | (rw [if_pos (by decide +kernel)]; kernel_rfl) | (rw [if_neg (by decide +kernel)]; exact ⟨rfl, rfl⟩))
    (fun os started H enc _ => lifted os started H enc)

theorem proved : Rows.FnLinesSaid :=
  over
end Go.Proofs.Ytnkldjijjpcmhaa.fnLines
