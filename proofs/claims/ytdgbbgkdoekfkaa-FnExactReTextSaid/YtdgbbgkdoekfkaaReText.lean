/-
  The text of a list of nodes: what the two ReText return.
-/
import Derived.Test.YtdgbbgkdoekfkaaWriteAll
import Derived.Test.YtdgbbgkdoekfkaaRoot2
import Derived.Test.YtdgbbgkdoekfkaaReOk4
import Derived.Test.YtdgbbgkdoekfkaaTxSpec2
namespace Go.Proofs.Ytdgbbgkdoekfkaa.Re
open Go.ChangeShapes Go.WideShapes Go.ChangeAt Go.RowKit Go.PlainAid
open Go.Proofs.Ytdgbbgkdoekfkaa.RePure
set_option linter.unusedVariables false

def GoodText (l : List Nd) : Prop := ReP l ∧ (tx l (l.length - 1)).2 ≤ 20 ∧ (tx l (l.length - 1)).1.length ≤ 200
/-- The text that ReText returns. -/
noncomputable def textOf (l : List Nd) : ByteArray := @ite _ (GoodText l) (Classical.propDecidable _) (strOfNums (tx l (l.length - 1)).1) ⟨#[]⟩
theorem textOf_yes {l : List Nd} (h : GoodText l) : textOf l = strOfNums (tx l (l.length - 1)).1 := by unfold textOf; rw [if_pos h]
theorem textOf_no {l : List Nd} (h : ¬ GoodText l) : textOf l = ⟨#[]⟩ := by unfold textOf; rw [if_neg h]
def StrOf (t : ByteArray) (e : Ending) : Prop := ∃ s : ByteArray, e = .returned (.string s) ∧ s = t
theorem strOf {s t : ByteArray} (h : s = t) : StrOf t (.returned (.string s)) := ⟨s, rfl, h⟩

set_option maxRecDepth 100000 in
set_option maxHeartbeats 4000000 in
theorem spec_ReText (B : Nat) (x : Value) (V : Nat → Value) (l : List Nd) (w : World) (hB : B ≤ w.heap.size) (hx : NodesAt B w x V l) (hT : total l l.length ≤ 1048576) :
    Calls Try.prog 29 #[x] w fun e w' => StrOf (textOf l) e ∧ Below w.heap.size w w' := by
  have HX := Lib.hid hx
  obtain ⟨ao, cap, rfl, hc1, hc2, hc3⟩ := hx
  clear hc3
  unfold maxLen at hc2
  go_enter Try.func29, Try.ntmps29
  go_wp2_with fail
  refine (spec_ReOk B _ V l w hB HX.out).mono ?_
  rintro e w1 ⟨⟨r, rfl, hr⟩, hB1⟩
  cases r
  · have hng : ¬ GoodText l := fun h => by have := hr.2 h.1; cases this
    have HN := Lib.hid hng; clear hng hr
    go_wp2_with fail
    go_ret
    exact ⟨strOf (by rw [textOf_no HN.out]), hB1⟩
  · have hP := hr.1 rfl
    have hl1 := hP.1
    have hl2 := hP.2.1
    have h1 := spec_text B l hP hT _ V (l.length - 1) (by omega) w1 (Nat.le_trans hB hB1.size) (HX.out.below (hB1.mono hB) (Nat.le_refl _))
    rw [show ((l.length - 1 : Nat) : Int) = (l.length : Int) - 1 from by omega] at h1
    have H1 := Lib.hid h1
    have HP := Lib.hid hP
    have hzs := (bd_of hT (show l.length - 1 < l.length by omega)).1
    clear h1 hr hP hT
    go_wp2_with fail
    refine H1.out.mono ?_
    rintro e w2 ⟨⟨ho, s, rfl, hs, hz, hd⟩ | ⟨ho, rfl⟩, hB2⟩
    · have hB3 := hB1.trans (hB2.mono hB1.size)
      have hsl := sizeOf hs
      have hd0 : ¬ ((tx l (l.length - 1)).2 : Int) < 0 := by omega
      by_cases hl : (tx l (l.length - 1)).1.length ≤ 200
      · have hg : GoodText l := ⟨HP.out, hd, hl⟩
        have HG := Lib.hid hg
        have HS := Lib.hid hs
        have hsz : ¬ (200 : Int) < (s.size : Int) := by omega
        clear hg hs hl hsl hd hz ho
        go_wp2_with fail
        go_ret
        exact ⟨strOf (by rw [textOf_yes HG.out]; exact HS.out), hB3⟩
      · have hg : ¬ GoodText l := fun h => hl h.2.2
        have HG := Lib.hid hg
        have hsz : (200 : Int) < (s.size : Int) := by omega
        clear hg hs hl hsl hd hz ho
        go_wp2_with fail
        go_ret
        exact ⟨strOf (by rw [textOf_no HG.out]), hB3⟩
    · have hB3 := hB1.trans (hB2.mono hB1.size)
      have hg : ¬ GoodText l := fun h => ho (Or.inr (Or.inr (Or.inr h.2)))
      have HG := Lib.hid hg
      clear hg ho
      go_wp2_with fail
      go_ret
      exact ⟨strOf (by rw [textOf_no HG.out]), hB3⟩

theorem clip_same {L : List Int} (h : L.length ≤ 200) : clip L = L := List.take_of_length_le (by omega)
theorem clip_long {L : List Int} (h : ¬ L.length ≤ 200) : (clip L).length = 201 := by unfold clip; rw [List.length_take]; omega

set_option maxRecDepth 100000 in
set_option maxHeartbeats 8000000 in
theorem impl_ReText (B : Nat) (x : Value) (V : Nat → Value) (l : List Nd) (w : World) (hB : B ≤ w.heap.size) (hx : NodesAt B w x V l) (hT : total l l.length ≤ 1048576) :
    Calls Try.prog 30 #[x] w fun e w' => StrOf (textOf l) e ∧ Below w.heap.size w w' := by
  have HX := Lib.hid hx
  obtain ⟨ao, cap, rfl, hc1, hc2, hc3⟩ := hx
  clear hc3
  unfold maxLen at hc2
  go_enter Try.func30, Try.ntmps30
  go_wp2_with fail
  refine (impl_ReOk B _ V l w hB HX.out).mono ?_
  rintro e w1 ⟨⟨r, rfl, hr⟩, hB1⟩
  cases r
  · have hng : ¬ GoodText l := fun h => by have := hr.2 h.1; cases this
    have HN := Lib.hid hng; clear hng hr
    go_wp2_with fail
    go_ret
    exact ⟨strOf (by rw [textOf_no HN.out]), hB1⟩
  · have hP := hr.1 rfl
    have hl1 := hP.1
    have HP := Lib.hid hP
    have HW := Lib.hid (write_all l hP hT (l.length - 1) (by omega))
    have HT : Hid (∀ i, i < l.length → (nth l i).kids.length ≤ 1048576) := fun i hi => (bd_of hT hi).2
    clear hr hP hT
    go_wp2_with fail
    have hBg : Below w1.heap.size w1 (w1.alloc (.cells #[.slice none 0 0, .int .i64 0, .int .i64 0] 84)) := (Below.refl _ _).alloc (Nat.le_refl _) _
    have hrow : (w1.alloc (.cells #[.slice none 0 0, .int .i64 0, .int .i64 0] 84)).rowIs w1.heap.size 84 3 (wf (.slice none 0 0) 0 0) := World.rowIs_alloc w1 _ _ _ (fun i hi => by
      have : i = 0 ∨ i = 1 ∨ i = 2 := by simp at hi; omega
      rcases this with rfl | rfl | rfl <;> rfl)
    have hszg : (w1.alloc (.cells #[.slice none 0 0, .int .i64 0, .int .i64 0] 84)).heap.size = w1.heap.size + 1 := by simp
    generalize w1.alloc (.cells #[.slice none 0 0, .int .i64 0, .int .i64 0] 84) = wg at *
    have hB1s := hB1.size
    refine (root_part B l HP.out HT.out _ V wg (by omega) (HX.out.below ((hB1.mono hB).trans (hBg.mono (by omega))) (Nat.le_refl _))).mono ?_
    rintro e w2 ⟨⟨r, rfl, hr⟩, hB2⟩
    have hrow2 := rowIs_below hrow hB2 (by omega)
    have hB2s := hB2.size
    have hwc : WC (fun y => y < w2.heap.size ∧ y ≠ w1.heap.size) w2 w1.heap.size [] 0 0 := ⟨fun y hy => hy.1, fun h => h.2 rfl, _, hrow2, ⟨rfl, Or.inl ⟨rfl, rfl⟩⟩, fun y hy => by simp [Value.ownBlock] at hy⟩
    have hr2 := hr.keep (Keep.refl _ _) (T := fun y => y < w2.heap.size ∧ y ≠ w1.heap.size) (fun y hy => ⟨hy.2, by have := hy.1; omega⟩)
    obtain ⟨f, p, hwr, hcall⟩ := HW.out _ w2 r w1.heap.size [] 0 0 hr2 hwc (Int.le_refl _) (by have := HP.out.2.1; omega) (Int.le_refl _)
    have HC := Lib.hid hcall
    have hBw : Below w1.heap.size w1 w2 := hBg.trans (hB2.mono (by omega))
    clear hcall hr hr2 hwc hrow hrow2 hBg hB2
    rcases hwr with ⟨rfl, rfl⟩ | ⟨rfl, rfl⟩ | ⟨rfl, rfl⟩ | ⟨rfl, rfl⟩ | ⟨rfl, rfl⟩ | ⟨rfl, rfl⟩ | ⟨rfl, rfl⟩ | ⟨rfl, rfl⟩
    all_goals
      go_wp2_with fail
      refine HC.out.mono ?_
      rintro e w3 ⟨rfl, hw3, hk3⟩
      rw [show max (0 : Int) (0 + ((tx l (l.length - 1)).2 : Int)) = ((tx l (l.length - 1)).2 : Int) from by omega, List.nil_append] at hw3
      obtain ⟨c1, c2, z1, z2⟩ := wc_cells hw3
      have hBf : Below w.heap.size w w3 := hB1.trans ((hBw.trans (hk3.below (fun y hy => ⟨by omega, by omega⟩))).mono hB1s)
      obtain ⟨_, _, v, hrow, hown, _⟩ := hw3
      obtain ⟨vao, vcp, rfl⟩ := own_form hown
      have c0 : w3.cell? ⟨w1.heap.size, 0, none⟩ = some (.slice vao (clip (tx l (l.length - 1)).1).length vcp) := hrow.cell (i := 0) (by omega)
      have hcl := clip_le (tx l (l.length - 1)).1
      by_cases hd : (tx l (l.length - 1)).2 ≤ 20
      · by_cases hl : (tx l (l.length - 1)).1.length ≤ 200
        · have hg : GoodText l := ⟨HP.out, hd, hl⟩
          have HG := Lib.hid hg
          rw [clip_same hl] at c0 hown
          have hsz : ¬ (200 : Int) < ((tx l (l.length - 1)).1.length : Int) := by omega
          have hdz : ¬ (20 : Int) < ((tx l (l.length - 1)).2 : Int) := by omega
          obtain ⟨bk, capk, hvf, hcells⟩ := own_cells hown
          obtain ⟨dd, hdd⟩ : ∃ dd, dd = strOfNums (tx l (l.length - 1)).1 := ⟨_, rfl⟩
          have HDD := Lib.hid hdd
          rcases hvf with ⟨hv, h0⟩ | hv
          · have hcv := run_convert_bytes_nil (P := Try.prog) (w := w3) 82 5 Try.underlying82 Try.underlying5 0 0 9 Try.underlying9
            rw [hv] at c0
            have hem : dd = ByteArray.empty := by
              rw [hdd, List.eq_nil_of_length_eq_zero h0]; rfl
            rw [← hem] at hcv
            clear hg hdd hown hrow hcells hl hd hv hem
            go_wp2_with fail
            go_ret
            exact ⟨strOf (by rw [textOf_yes HG.out]; exact HDD.out), hBf⟩
          · have hcv := run_convert_bytes_arg (P := Try.prog) w3 82 5 Try.underlying82 Try.underlying5 bk 0 (tx l (l.length - 1)).1.length capk (tx l (l.length - 1)).1 rfl (fun i hi => by
              rw [Nat.zero_add, (hcells i hi).2.2]
              simp [List.getD, hi]) 9 Try.underlying9
            rw [← hdd] at hcv
            rw [hv] at c0
            clear hg hdd hown hrow hcells hl hd hv
            go_wp2_with fail
            go_ret
            exact ⟨strOf (by rw [textOf_yes HG.out]; exact HDD.out), hBf⟩
        · have hg : ¬ GoodText l := fun h => hl h.2.2
          have HG := Lib.hid hg
          rw [clip_long hl] at c0
          have hdz : ¬ (20 : Int) < ((tx l (l.length - 1)).2 : Int) := by omega
          clear hg hown hrow hl hd
          go_wp2_with fail
          go_ret
          exact ⟨strOf (by rw [textOf_no HG.out]), hBf⟩
      · have hg : ¬ GoodText l := fun h => hd h.2.1
        have HG := Lib.hid hg
        have hdz : (20 : Int) < ((tx l (l.length - 1)).2 : Int) := by omega
        clear hg hown hrow hd
        go_wp2_with fail
        go_ret
        exact ⟨strOf (by rw [textOf_no HG.out]), hBf⟩

end Go.Proofs.Ytdgbbgkdoekfkaa.Re
