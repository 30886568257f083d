/-
  When a list of nodes is valid: what the program's claim, the library's search for a bool and the two ReOk answer.
-/
import Derived.Test.YtdgbbgkdoekfkaaReOk2
namespace Go.Proofs.Ytdgbbgkdoekfkaa.Re
open Go.ChangeShapes Go.WideShapes Go.ChangeAt Go.RowKit Go.PlainAid
open Go.Proofs.Ytdgbbgkdoekfkaa.RePure
set_option linter.unusedVariables false

/-- Which nodes are kids of what is done: a flag each. -/
def flag (d : List Int) (x : Nat) : Value := .bool (decide ((x : Int) ∈ d))

/-- What claim answers: true, and the kids of node i are flagged; or false, and the list is not valid. -/
def Claimed (l : List Nd) (i b : Nat) (w' : World) (e : Ending) : Prop :=
  (e = .returned (.bool true) ∧ RePure.Good l i (nth l i).kids.length ∧ w'.rowIs b 4 l.length (flag (done l i (nth l i).kids.length))) ∨ (e = .returned (.bool false) ∧ ¬ ReP l)

set_option maxRecDepth 100000 in
set_option maxHeartbeats 2000000 in
theorem impl_claim (B : Nat) (l : List Nd) (i : Nat) (v : Value) (b : Nat) (w : World) (hi : i < l.length) (hG : RePure.Good l i 0) (hv : IntsAt B w v (nth l i).kids) (hb : B ≤ b) (hbw : b < w.heap.size)
    (hr : w.rowIs b 4 l.length (flag (done l i 0))) (hlen : l.length ≤ 200) :
    Calls Try.prog 43 #[v, .int .i64 i, .slice (some ⟨b, 0, none⟩) l.length l.length] w fun e w' => Claimed l i b w' e ∧ Below b w w' ∧ w'.heap.size = w.heap.size ∧ (∀ x, x ≠ b → w'.heap[x]? = w.heap[x]?) := by
  obtain ⟨ao, cap, rfl, hc1, hc2, hc3⟩ := hv
  have HC := Lib.hid hc3; clear hc3
  unfold maxLen at hc2
  have HG0 := Lib.hid hG; clear hG
  have HR0 := Lib.hid hr; clear hr
  go_enter Try.func43, Try.ntmps43
  go_wp2_with fail
  go_loopw [11] (fun j wr => ∃ k : Nat, k ≤ (nth l i).kids.length ∧ j = .int .i64 k ∧ Hid (RePure.Good l i k) ∧ Hid (wr.rowIs b 4 l.length (flag (done l i k))) ∧ Below b w wr ∧ wr.heap.size = w.heap.size ∧ (∀ x, x ≠ b → wr.heap[x]? = w.heap[x]?)) (fun j _ => (nth l i).kids.length - (intOf j).toNat)
  case atStart => exact ⟨0, Nat.zero_le _, rfl, HG0, HR0, Below.refl _ _, rfl, fun _ _ => rfl⟩
  case round =>
    obtain ⟨k, hk, rfl, HG, HR, hB1, hsz, hoth⟩ := hrel
    by_cases hkl : k < (nth l i).kids.length
    · obtain ⟨b0, off, rfl, hb0, hN⟩ := HC.out k hkl
      have hne : b0 ≠ b := by omega
      have c0 : wr.cell? ⟨b0, off + k, none⟩ = some (.int .i64 (kd l i k)) := (World.cell?_of_block (hoth b0 hne)).trans hN
      clear hN
      by_cases h0 : kd l i k < 0
      · have hbad := bad_back hi hkl (fun h => by omega)
        have HB := Lib.hid hbad; clear hbad
        go_wp2_with fail
        go_ret
        exact ⟨Or.inr ⟨rfl, HB.out⟩, hB1, hsz, hoth⟩
      · by_cases h1 : (i : Int) ≤ kd l i k
        · have hbad := bad_back hi hkl (fun h => by omega)
          have HB := Lib.hid hbad; clear hbad
          go_wp2_with fail
          go_ret
          exact ⟨Or.inr ⟨rfl, HB.out⟩, hB1, hsz, hoth⟩
        · obtain ⟨x, hx⟩ : ∃ x : Nat, kd l i k = x := ⟨(kd l i k).toNat, by omega⟩
          rw [hx] at c0
          have hxi : x < i := by omega
          have e1 := HR.out.cell (i := x) (by omega)
          have z1 := HR.out.frozen x
          by_cases hm : (x : Int) ∈ done l i k
          · have hbad := bad_once hi hkl (by rw [hx]; exact hm)
            have HB := Lib.hid hbad; clear hbad
            rw [flag, decide_eq_true hm] at e1
            clear hm h0 h1
            go_wp2_with fail
            go_ret
            exact ⟨Or.inr ⟨rfl, HB.out⟩, hB1, hsz, hoth⟩
          · have hg2 := good_kid HG.out hkl (by omega) (by omega) (by rw [hx]; exact hm)
            have hrow2 := (HR.out.set x (.bool true)).congr (g := flag (done l i (k + 1))) (fun j hj => by
              rw [done_step hkl, hx]
              unfold flag
              by_cases e : j = x
              · subst e; simp
              · rw [if_neg e]
                have e2 : ((j : Int) = (x : Int)) ↔ False := by simp; omega
                simp [e2])
            rw [flag, decide_eq_false hm] at e1
            have HG2 := Lib.hid hg2; clear hg2
            have HR2 := Lib.hid hrow2; clear hrow2
            clear hm h0 h1
            have hx0 : ((x : Int) < 0) = False := by simp
            go_wp2_with fail
            go_roundw
            case rel =>
              refine ⟨k + 1, by omega, by go_num, HG2, HR2, hB1.setCell (Nat.le_refl _) _, by simpa [World.setCell] using hsz, fun y hy => ?_⟩
              rw [Go.Deep.blk_setCell_other _ _ _ _ hy]
              exact hoth y hy
            case measure => simp [intOf]; omega
    · have e : k = (nth l i).kids.length := by omega
      subst e
      go_wp2_with fail
      go_ret
      exact ⟨Or.inl ⟨rfl, HG.out, HR.out⟩, hB1, hsz, hoth⟩

end Go.Proofs.Ytdgbbgkdoekfkaa.Re
