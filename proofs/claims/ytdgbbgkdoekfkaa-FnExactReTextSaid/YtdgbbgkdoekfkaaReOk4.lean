/-
  When a list of nodes is valid: the library's search for a bool, and the program's ReOk.
-/
import Derived.Test.YtdgbbgkdoekfkaaReOk3
namespace Go.Proofs.Ytdgbbgkdoekfkaa.Re
open Go.ChangeShapes Go.WideShapes Go.ChangeAt Go.RowKit Go.PlainAid
open Go.Proofs.Ytdgbbgkdoekfkaa.RePure
set_option linter.unusedVariables false

def FoundNot (d : List Int) (m : Nat) (e : Ending) : Prop := (∃ k : Nat, e = .returned (.int .i64 k) ∧ k < m ∧ (k : Int) ∉ d) ∨ (e = .returned (.int .i64 (-1)) ∧ ∀ k : Nat, k < m → (k : Int) ∈ d)

set_option maxRecDepth 100000 in
set_option maxHeartbeats 1000000 in
theorem lib_index (d : List Int) (b n m cap : Nat) (w : World) (hr : w.rowIs b 4 n (flag d)) (hm : m ≤ n) (hn : n ≤ 200) :
    Calls Try.prog 66 #[.slice (some ⟨b, 0, none⟩) m cap, .bool false] w fun e w' => FoundNot d m e ∧ w = w' := by
  have HR := Lib.hid hr; clear hr
  go_enter Try.func66, Try.ntmps66
  go_wp2_with fail
  go_loop [8] (fun j => ∃ k : Nat, k ≤ m ∧ j = .int .i64 k ∧ Hid (∀ x : Nat, x < k → (x : Int) ∈ d)) (fun j => m - (intOf j).toNat)
  case atStart => exact ⟨0, Nat.zero_le _, rfl, fun x hx => by omega⟩
  case round =>
    obtain ⟨k, hk, rfl, HK⟩ := hrel
    by_cases hkm : k < m
    · have c0 := HR.out.cell (i := k) (by omega)
      by_cases hin : (k : Int) ∈ d
      · rw [flag, decide_eq_true hin] at c0
        have HI := Lib.hid hin; clear hin
        go_wp2_with fail
        go_round
        case rel =>
          refine ⟨k + 1, by omega, by go_num, fun x hx => ?_⟩
          by_cases e : x = k
          · subst e; exact HI.out
          · exact HK.out x (by omega)
        case measure => simp [intOf]; omega
      · rw [flag, decide_eq_false hin] at c0
        have HI := Lib.hid hin; clear hin
        go_wp2_with fail
        go_ret
        exact ⟨Or.inl ⟨k, rfl, hkm, HI.out⟩, rfl⟩
    · have e : k = m := by omega
      subst e
      go_wp2_with fail
      go_ret
      exact ⟨Or.inr ⟨rfl, HK.out⟩, rfl⟩

set_option maxRecDepth 100000 in
theorem lib_contains (d : List Int) (b n m cap : Nat) (w : World) (hr : w.rowIs b 4 n (flag d)) (hm : m ≤ n) (hn : n ≤ 200) :
    Calls Try.prog 44 #[.slice (some ⟨b, 0, none⟩) m cap, .bool false] w fun e w' => Says e (¬ ∀ k : Nat, k < m → (k : Int) ∈ d) ∧ w = w' := by
  have HR := Lib.hid hr; clear hr
  go_enter Try.func44, Try.ntmps44
  go_wp2_with fail
  refine (lib_index d b n m cap w HR.out hm hn).mono ?_
  rintro e w' ⟨⟨k, rfl, h1, h2⟩ | ⟨rfl, h⟩, rfl⟩
  · have H := Lib.hid h2; clear h2
    go_wp2_with fail
    go_ret
    exact ⟨says_yes fun h => H.out (h k h1), rfl⟩
  · have H := Lib.hid h; clear h
    go_wp2_with fail
    go_ret
    exact ⟨says_no fun h => h H.out, rfl⟩

theorem infoBool : (Try.prog.info? 4).map (fun i => (i.zero, i.size, i.bytes)) = some (some (.bool false), 1, 1) := by kernel_rfl

set_option maxRecDepth 100000 in
set_option maxHeartbeats 4000000 in
theorem impl_ReOk (B : Nat) (x : Value) (V : Nat → Value) (l : List Nd) (w : World) (hB : B ≤ w.heap.size) (hx : NodesAt B w x V l) :
    Calls Try.prog 19 #[x] w fun e w' => Says e (ReP l) ∧ Below w.heap.size w w' := by
  obtain ⟨ao, cap, rfl, hc1, hc2, hc3⟩ := hx
  have HC := Lib.hid hc3; clear hc3
  unfold maxLen at hc2
  by_cases h1 : l.length < 1
  · have hbad := bad_size (l := l) (fun h => by omega)
    have HB := Lib.hid hbad; clear hbad
    go_enter Try.func19, Try.ntmps19
    go_wp2_with fail
    go_ret
    exact ⟨says_no HB.out, Below.refl _ _⟩
  · by_cases h2 : 200 < l.length
    · have hbad := bad_size (l := l) (fun h => by omega)
      have HB := Lib.hid hbad; clear hbad
      go_enter Try.func19, Try.ntmps19
      go_wp2_with fail
      go_ret
      exact ⟨says_no HB.out, Below.refl _ _⟩
    · have hl : l.length ≤ 200 := by omega
      have hmk := run_make_row' (P := Try.prog) 63 4 (.bool false) 1 Try.underlying63 infoBool rfl .i64 .i64 l.length (by omega) (by omega)
      have hst : (w.alloc (.cells (madeCells #[.bool false] l.length) 4)).rowIs w.heap.size 4 l.length (flag (done l 0 0)) :=
        (World.rowIs_made w (.bool false) l.length 4).congr fun i hi => by simp [flag, done_zero]
      have HST := Lib.hid hst; clear hst
      go_enter Try.func19, Try.ntmps19
      go_wp2_with fail
      go_loopw [19] (fun j wr => ∃ k : Nat, k ≤ l.length ∧ j = .int .i64 k ∧ Hid (RePure.Good l k 0) ∧ Hid (wr.rowIs w.heap.size 4 l.length (flag (done l k 0))) ∧ Below w.heap.size w wr ∧ w.heap.size < wr.heap.size) (fun j _ => l.length - (intOf j).toNat)
      case atStart => exact ⟨0, Nat.zero_le _, rfl, good_start l, HST, (Below.refl _ _).alloc (Nat.le_refl _) _, by simp⟩
      case round =>
        obtain ⟨k, hk, rfl, HG, HR, hB1, hlt⟩ := hrel
        by_cases hkl : k < l.length
        · obtain ⟨b, off, rfl, hb, hN⟩ := HC.out k hkl
          have hbw : b < w.heap.size := by omega
          have c0 := (hB1.cell (p := ⟨b, off + k * 4, none⟩) hbw).trans hN.kind
          have c1 := (hB1.cell (p := ⟨b, off + k * 4 + 1, none⟩) hbw).trans hN.neg
          have c2 := (hB1.cell (p := ⟨b, off + k * 4 + 2, none⟩) hbw).trans hN.set
          have c3 := (hB1.cell (p := ⟨b, off + k * 4 + 3, none⟩) hbw).trans hN.kidc
          have hk3 := hN.kids.below (hB1.mono hB) (Nat.le_refl _)
          have hs := hN.size
          clear hN
          obtain ⟨ka, kc, hV, _⟩ := id hk3
          rw [hV] at c3 hk3
          clear hV
          have hBa : ∀ o, Below wr.heap.size wr (wr.alloc o) := fun o => (Below.refl _ _).alloc (Nat.le_refl _) o
          go_wp2_with fail
          refine (impl_nodeOk (nth l k) _ hs B _ (hk3.below ((hBa _).mono (Nat.le_trans hB hB1.size)) (Nat.le_refl _))).mono ?_
          rintro e w1 ⟨⟨r, rfl, hr⟩, hB2⟩
          have hB3 := (hBa _).trans (hB2.mono (by simp))
          have d3 : w1.cell? ⟨wr.heap.size, 3, none⟩ = some (.slice ka (nth l k).kids.length kc) := (hB2.cell (by simp)).trans (by go_simp)
          have hsz := hB2.size
          simp only [World.size_alloc] at hsz
          clear hB2
          cases r
          · have hbad := bad_node hkl (fun h => by have := hr.2 h; cases this)
            have HB := Lib.hid hbad; clear hbad hr
            go_wp2_with fail
            go_ret
            exact ⟨says_no HB.out, hB1.trans (hB3.mono hB1.size)⟩
          · have hnode := hr.1 rfl
            have HN := Lib.hid hnode; clear hnode hr
            have hrow1 := rowIs_below HR.out hB3 hlt
            have hk4 := hk3.below (hB3.mono (Nat.le_trans hB hB1.size)) (Nat.le_refl _)
            have HR1 := Lib.hid hrow1; clear hrow1
            go_wp2_with fail
            refine (impl_claim B l k _ w.heap.size _ hkl HG.out hk4 hB (by omega) HR1.out hl).mono ?_
            rintro e w2 ⟨⟨rfl, hg2, hrow2⟩ | ⟨rfl, hbad⟩, hB4, hsz2, hoth⟩
            · have hg3 := good_next hkl hg2 HN.out
              rw [done_next hkl] at hrow2
              have HG3 := Lib.hid hg3; clear hg3 hg2
              have HR3 := Lib.hid hrow2; clear hrow2
              have hB5 := (hB1.trans (hB3.mono hB1.size)).trans hB4
              have hlt2 : w.heap.size < w2.heap.size := by omega
              clear hoth hB4 hB3
              go_wp2_with fail
              go_roundw
              case rel => exact ⟨k + 1, by omega, by go_num, HG3, HR3, hB5, hlt2⟩
              case measure => simp [intOf]; omega
            · have HB := Lib.hid hbad; clear hbad
              go_wp2_with fail
              go_ret
              exact ⟨says_no HB.out, (hB1.trans (hB3.mono hB1.size)).trans hB4⟩
        · have e : k = l.length := by omega
          subst e
          have hend := good_end (by omega) hl HG.out
          have HE := Lib.hid hend; clear hend
          go_wp2_with fail
          refine (lib_contains _ w.heap.size l.length _ _ wr HR.out (by omega) hl).mono ?_
          rintro e w' ⟨⟨r, rfl, hr⟩, rfl⟩
          have HQ := Lib.hid hr; clear hr
          cases r
          · go_wp2_with fail
            go_ret
            refine ⟨says_yes (HE.out.2 fun x hx => ?_), hB1⟩
            have h : ¬ ¬ ∀ k : Nat, k < l.length - 1 → (k : Int) ∈ done l l.length 0 := fun h => by have := HQ.out.2 h; cases this
            exact (Classical.not_not.1 h) x (by omega)
          · go_wp2_with fail
            go_ret
            refine ⟨says_no fun h => (by first | exact HQ.out.1 rfl | exact HQ.out.1 trivial : ¬ ∀ k : Nat, k < l.length - 1 → (k : Int) ∈ done l l.length 0) fun k hk => HE.out.1 h k (by omega), hB1⟩

end Go.Proofs.Ytdgbbgkdoekfkaa.Re
