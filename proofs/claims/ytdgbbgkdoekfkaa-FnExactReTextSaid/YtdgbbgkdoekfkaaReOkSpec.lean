/-
  When a list of nodes is valid: the model's ReOk.
-/
import Derived.Test.YtdgbbgkdoekfkaaReOk
namespace Go.Proofs.Ytdgbbgkdoekfkaa.Re
open Go.ChangeShapes Go.WideShapes Go.ChangeAt Go.RowKit Go.PlainAid
open Go.Proofs.Ytdgbbgkdoekfkaa.RePure
set_option linter.unusedVariables false

/-- How often a node is a kid of what is done: not, or once. -/
def cnt (d : List Int) (x : Nat) : Value := .int .i64 (if (x : Int) ∈ d then 1 else 0)

set_option maxRecDepth 100000 in
set_option maxHeartbeats 4000000 in
theorem spec_ReOk (B : Nat) (x : Value) (V : Nat → Value) (l : List Nd) (w : World) (hB : B ≤ w.heap.size) (hx : NodesAt B w x V l) :
    Calls Try.prog 17 #[x] w fun e w' => Says e (ReP l) ∧ Below w.heap.size w w' := by
  obtain ⟨ao, cap, rfl, hc1, hc2, hc3⟩ := hx
  have HC := Lib.hid hc3; clear hc3
  unfold maxLen at hc2
  by_cases h1 : l.length < 1
  · have hbad := bad_size (l := l) (fun h => by omega)
    have HB := Lib.hid hbad; clear hbad
    go_enter Try.func17, Try.ntmps17
    go_wp2_with fail
    go_ret
    exact ⟨says_no HB.out, Below.refl _ _⟩
  · by_cases h2 : 200 < l.length
    · have hbad := bad_size (l := l) (fun h => by omega)
      have HB := Lib.hid hbad; clear hbad
      go_enter Try.func17, Try.ntmps17
      go_wp2_with fail
      go_ret
      exact ⟨says_no HB.out, Below.refl _ _⟩
    · have hl : l.length ≤ 200 := by omega
      have hmk := run_make_row' (P := Try.prog) 33 3 (.int .i64 0) 8 Try.underlying33 infoInt rfl .i64 .i64 l.length (by omega) (by omega)
      have hst : (w.alloc (.cells (madeCells #[.int .i64 0] l.length) 3)).rowIs w.heap.size 3 l.length (cnt (done l 0 0)) :=
        (World.rowIs_made w (.int .i64 0) l.length 3).congr fun i hi => by simp [cnt, done_zero]
      have HST := Lib.hid hst; clear hst
      go_enter Try.func17, Try.ntmps17
      go_wp2_with fail
      go_loopw [4] (fun j wr => ∃ k : Nat, k ≤ l.length ∧ j = .int .i64 k ∧ Hid (RePure.Good l k 0) ∧ Hid (wr.rowIs w.heap.size 3 l.length (cnt (done l k 0))) ∧ Below w.heap.size w wr ∧ w.heap.size < wr.heap.size) (fun j _ => l.length - (intOf j).toNat)
      case atStart => exact ⟨0, Nat.zero_le _, rfl, good_start l, HST, (Below.refl _ _).alloc (Nat.le_refl _) _, by simp⟩
      case round =>
        obtain ⟨k, hk, rfl, HG, HR, hB1, hlt⟩ := hrel
        by_cases hkl : k < l.length
        · obtain ⟨b, off, rfl, hb, hN⟩ := HC.out k hkl
          have hbw : b < w.heap.size := by omega
          have c0 := (hB1.cell (p := ⟨b, off + k * 4, none⟩) hbw).trans hN.kind
          have c1 := (hB1.cell (p := ⟨b, off + k * 4 + 1, none⟩) hbw).trans hN.neg
          have c2 := (hB1.cell (p := ⟨b, off + k * 4 + 2, none⟩) hbw).trans hN.set
          have n3 := hN.kidc
          have hk0 := hN.kids
          have hs := hN.size
          clear hN
          obtain ⟨ka, kc, hV, hk1, hk2, hk5⟩ := id hk0
          rw [hV] at n3 hk0
          have c3 := (hB1.cell (p := ⟨b, off + k * 4 + 3, none⟩) hbw).trans n3
          have N3 := Lib.hid n3; clear n3
          clear hV
          unfold maxLen at hk2
          have HK := Lib.hid hk5; clear hk5
          go_wp2_with fail
          refine (spec_kidsOk (nth l k) _ hs B _ (hk0.below (hB1.mono hB) (Nat.le_refl _))).mono ?_
          rintro e w1 ⟨⟨r, rfl, hr⟩, hB2⟩
          have hB3 := hB1.trans (hB2.mono hB1.size)
          have hrow1 := rowIs_below HR.out hB2 hlt
          have hlt1 := Nat.lt_of_lt_of_le hlt hB2.size
          clear hB2 c0 c1 c2 c3
          cases r
          · have hbad := bad_node hkl (fun h => by have := hr.2 h; cases this)
            have HB := Lib.hid hbad; clear hbad hr
            go_wp2_with fail
            go_ret
            exact ⟨says_no HB.out, hB3⟩
          · have hnode := hr.1 rfl
            have HN := Lib.hid hnode; clear hnode hr
            have HR1 := Lib.hid hrow1; clear hrow1
            go_wp2_with fail
            go_loopw [5] (fun j w2 => ∃ m : Nat, m ≤ (nth l k).kids.length ∧ j = .int .i64 m ∧ Hid (RePure.Good l k m) ∧ Hid (w2.rowIs w.heap.size 3 l.length (cnt (done l k m))) ∧ Below w.heap.size w w2 ∧ w.heap.size < w2.heap.size) (fun j _ => (nth l k).kids.length - (intOf j).toNat)
            case atStart => exact ⟨0, Nat.zero_le _, rfl, HG, HR1, hB3, hlt1⟩
            case round =>
              obtain ⟨m, hm, rfl, HG, HR, hB4, hlt4⟩ := hrel
              have c3 := (hB4.cell (p := ⟨b, off + k * 4 + 3, none⟩) hbw).trans N3.out
              by_cases hml : m < (nth l k).kids.length
              · obtain ⟨b0, off0, rfl, hb0, hc⟩ := HK.out m hml
                have c0 : wr.cell? ⟨b0, off0 + m, none⟩ = some (Value.int .i64 (kd l k m)) := (hB4.cell (p := ⟨b0, off0 + m, none⟩) (show b0 < _ by omega)).trans hc
                clear hc
                by_cases q0 : kd l k m < 0
                · have hbad := bad_back hkl hml (fun h => by omega)
                  have HB := Lib.hid hbad; clear hbad
                  go_wp2_with fail
                  go_ret
                  exact ⟨says_no HB.out, hB4⟩
                · by_cases q1 : (k : Int) ≤ kd l k m
                  · have hbad := bad_back hkl hml (fun h => by omega)
                    have HB := Lib.hid hbad; clear hbad
                    go_wp2_with fail
                    go_ret
                    exact ⟨says_no HB.out, hB4⟩
                  · obtain ⟨x, hx⟩ : ∃ x : Nat, kd l k m = x := ⟨(kd l k m).toNat, by omega⟩
                    rw [hx] at c0
                    have hxi : x < k := by omega
                    have e1 := HR.out.cell (i := x) (by omega)
                    have z1 := HR.out.frozen x
                    by_cases hin : (x : Int) ∈ done l k m
                    · have hbad := bad_once hkl hml (by rw [hx]; exact hin)
                      have HB := Lib.hid hbad; clear hbad
                      rw [cnt, if_pos hin] at e1
                      clear hin q0 q1
                      go_wp2_with fail
                      go_ret
                      exact ⟨says_no HB.out, hB4⟩
                    · have hg2 := good_kid HG.out hml (by omega) (by omega) (by rw [hx]; exact hin)
                      have hrow2 := (HR.out.set x (.int .i64 1)).congr (g := cnt (done l k (m + 1))) (fun j hj => by
                        rw [done_step hml, hx]
                        unfold cnt
                        by_cases e : j = x
                        · subst e; simp
                        · rw [if_neg e]
                          have e2 : ((j : Int) = (x : Int)) ↔ False := by simp; omega
                          simp [e2])
                      rw [cnt, if_neg hin] at e1
                      have HG2 := Lib.hid hg2; clear hg2
                      have HR2 := Lib.hid hrow2; clear hrow2
                      clear hin q0 q1
                      go_wp2_with fail
                      go_roundw
                      case rel => exact ⟨m + 1, by omega, by go_num, HG2, HR2, hB4.setCell (Nat.le_refl _) _, by simpa [World.setCell] using hlt4⟩
                      case measure => simp [intOf]; omega
              · have e : m = (nth l k).kids.length := by omega
                subst e
                have hg3 := good_next hkl HG.out HN.out
                have hr3 := HR.out
                rw [done_next hkl] at hr3
                have HG3 := Lib.hid hg3; clear hg3
                have HR3 := Lib.hid hr3; clear hr3
                go_wp2_with fail
                go_roundw
                case rel => exact ⟨k + 1, by omega, by go_num, HG3, HR3, hB4, hlt4⟩
                case measure => simp [intOf]; omega
        · have e : k = l.length := by omega
          subst e
          have hend := good_end (by omega) hl HG.out
          have HE := Lib.hid hend; clear hend
          go_wp2_with fail
          go_loopw [7] (fun j w2 => ∃ m : Nat, m + 1 ≤ l.length ∧ j = .int .i64 m ∧ Hid (∀ x : Nat, x < m → (x : Int) ∈ done l l.length 0) ∧ w2 = wr) (fun j _ => l.length - (intOf j).toNat)
          case atStart => exact ⟨0, by omega, rfl, fun x hx => by omega, rfl⟩
          case round =>
            obtain ⟨m, hm, rfl, HM, rfl⟩ := hrel
            by_cases hml : m + 1 < l.length
            · have hmi : (m : Int) + 1 < (l.length : Int) := by omega
              have c0 := HR.out.cell (i := m) (by omega)
              by_cases hin : (m : Int) ∈ done l l.length 0
              · rw [cnt, if_pos hin] at c0
                have HI := Lib.hid hin; clear hin
                go_wp2_with fail
                go_roundw
                case rel =>
                  refine ⟨m + 1, by omega, by go_num, fun x hx => ?_, (by first | rfl | trivial)⟩
                  by_cases e : x = m
                  · subst e; exact HI.out
                  · exact HM.out x (by omega)
                case measure => simp [intOf]; omega
              · rw [cnt, if_neg hin] at c0
                have HI := Lib.hid hin; clear hin
                go_wp2_with fail
                go_ret
                exact ⟨says_no fun h => HI.out (HE.out.1 h m hml), hB1⟩
            · have hmi : ¬ (m : Int) + 1 < (l.length : Int) := by omega
              go_wp2_with fail
              go_ret
              exact ⟨says_yes (HE.out.2 fun x hx => HM.out x (by omega)), hB1⟩

end Go.Proofs.Ytdgbbgkdoekfkaa.Re
