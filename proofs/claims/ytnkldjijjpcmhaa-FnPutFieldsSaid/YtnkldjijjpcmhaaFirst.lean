/-
  The first parts that an iterator hands over, copied into a row of the call's own.
-/
import Derived.RangeFuncBox
import Derived.RangeFuncWrites
import Derived.RangeFuncNested
import Derived.Maps.AppendAt
import Derived.Test.YtnkldjijjpcmhaaPieces
import Derived.Test.YtnkldjijjpcmhaaStrs
namespace Go.Proofs.Ytnkldjijjpcmhaa.Seqs
open Go.ChangeShapes Go.WideShapes Go.ChangeAt Go.RowKit Go.PlainAid Go.Shelf
open Go.Proofs.Ytnkldjijjpcmhaa.Dec Go.Proofs.Ytnkldjijjpcmhaa.Strs
open Go.Proofs.Ytnkldjijjpcmhaa.DecPure Go.Proofs.Ytnkldjijjpcmhaa.ReadPure Go.Proofs.Ytnkldjijjpcmhaa.RecPure
set_option linter.unusedVariables false
attribute [local go_sem] Oper.semAt_some

theorem clone_in (s : ByteArray) (hs : s.size ≤ 1048576) (w : World) : Calls Try.prog 47 #[.string s] w fun e w' => e = .returned (.string s) ∧ Below w.heap.size w w' := by
  go_enter Try.func47, Try.ntmps47
  go_wp2_with (go_at_call 60; refine (Try.stringslite_Clone s _ (by omega)).mono ?_; rintro e w' ⟨rfl, hb⟩; have hbb := Lib.hid hb; clear hb)
  go_ret
  exact ⟨rfl, hbb.out⟩

theorem keeps_of {W W' : World} (h : Below W.heap.size W W') : KeepsOthers W W' :=
  ⟨h.size, fun k o hk _ => (h.block k (Array.getElem?_eq_some_iff.1 hk).1).trans hk⟩

/-- One string is put to a row, as one step of a region whose order is drawn, inside a fence. -/
theorem step_push {F : Fence} {n : Nat} {ops : Array Oper} {o : Oper} {a : Act} {K : Act → World → Prop} {Q : Exit → Act → World → Prop} {E : Prop} (B : Nat) (w : World) (v : Value) (l : List ByteArray) (x : ByteArray)
    (hgd : o.guard = none) (s y : Operand) (ho : o.op = .call { callee := .builtin .append, args := #[s, y], argTypes := #[24, 24] }) (hs : a.eval s = v) (hy : a.eval y = .slice (some ⟨w.heap.size, 0, none⟩) 1 1)
    (h : SR B w v l) (hl : l.length ≤ 10000000) (hB : B ≤ w.heap.size)
    (hK : ∀ g cap w1, SR B w1 (.slice (some ⟨g, 0, none⟩) (l.length + 1) cap) (l ++ [x]) → (w.alloc (.cells #[.string x] 9)).grownBy w1 v.ownBlock → K (a.put o.dst (.slice (some ⟨g, 0, none⟩) (l.length + 1) cap)) w1) :
    if Region.wanted o (yielded ops a.tmps) = true then Oper.wpIn F n Try.prog o a (w.alloc (.cells #[.string x] 9)) K Q else E := by
  obtain ⟨i0, hi, hz0, hz1, hz2⟩ := info_parts infoS
  have hw : Region.wanted o (yielded ops a.tmps) = true := by simp [Region.wanted, hgd]
  rw [if_pos hw]
  obtain ⟨g, cap, w', hr, h2, h3, h4, h5⟩ := run_append_lies (P := Try.prog) (w.alloc (.cells #[.string x] 9)) 24 o.type B 9 i0 (.string ⟨#[]⟩) 1 16 Try.underlying24 hi hz0 hz1 hz2 rfl (by omega) v l.length _ (World.ownsRow.alloc h _) ⟨w.heap.size, 0, none⟩ 1 1 [.string x] rfl (by
    intro j u hj
    match j, hj with
    | 0, hj => simp at hj; subst hj; simp [Addr.add]) (by intro u hu; simp at hu; subst hu; rfl) (by omega) (by unfold maxLen; omega) (by omega) (by simp; omega) _ rfl
  unfold Oper.wpIn
  refine ⟨?_, ?_⟩
  · simp [Oper.about, ho, resolve, Target.leads, Sem.run_pure]
  · rw [Oper.semAt_plain F _ _ (by rw [ho]; intro c hc'; cases hc')]
    unfold execOp
    simp only [ho, resolve, invoke, builtin, Sem.run_bind, Sem.run_pure, Result.andThen_ok, List.map_toArray, List.map_cons, List.map_nil, hs, hy, hr]
    refine hK g cap w' ?_ h3
    unfold SR
    rw [List.length_append, List.length_singleton, List.map_append]
    exact h2

/-- What has been collected, between two rounds. -/
def Coll (B : Nat) (limit : Nat) (w : World) (l : List ByteArray) (W : World) : Prop :=
  (∃ v, Boxed W (B + 1) 24 v ∧ W.ownsRow B 9 1 v l.length (l.map Value.string) ∧ True) ∧ Boxed W B 3 (.int .i64 limit) ∧ Below B w W
theorem coll_own {β : Type} (B limit : Nat) (w : World) (C : Nat) (hC : B ≤ C) (hw : w.heap.size ≤ C) (hB : B ≤ w.heap.size) (f : β → List ByteArray) : OwnFrom C (fun (s : β) W => Coll B limit w (f s) W) :=
  OwnFrom.and (Own.from (holdsRow_own B (B + 1) 24 9 1 (fun s => (f s).length) (fun s => (f s).map Value.string) (fun _ _ => True)) _) (OwnFrom.and (Own.from (boxed_own B 3 (fun _ => .int .i64 limit)) _) (ownFrom_below hB hC))

theorem region_end {w W W3 w1 : World} {n : Nat} {limit : Nat} {pre : List Small} {P : List ByteArray} (hP : pre.map Subtype.val = P) {x : Small} {g cap : Nat} (hBs : w.heap.size ≤ W.heap.size) (hb3 : Below W.heap.size W W3)
    (hk2 : KeepsOthers W3 (w1.setCell ⟨w.heap.size + 1, 0, none⟩ (.slice (some ⟨g, 0, none⟩) (P.length + 1) cap)))
    (hb2 : Below w.heap.size W3 (w1.setCell ⟨w.heap.size + 1, 0, none⟩ (.slice (some ⟨g, 0, none⟩) (P.length + 1) cap)))
    (hB : Below w.heap.size w W)
    (hv2 : Boxed (w1.setCell ⟨w.heap.size + 1, 0, none⟩ (.slice (some ⟨g, 0, none⟩) (P.length + 1) cap)) (w.heap.size + 1) 24 (.slice (some ⟨g, 0, none⟩) (P.length + 1) cap))
    (hr2 : (w1.setCell ⟨w.heap.size + 1, 0, none⟩ (.slice (some ⟨g, 0, none⟩) (P.length + 1) cap)).ownsRow w.heap.size 9 1 (.slice (some ⟨g, 0, none⟩) (P.length + 1) cap) (P ++ [x.1]).length ((P ++ [x.1]).map Value.string))
    (hbx1 : Boxed w1 w.heap.size 3 (.int .i64 limit)) (hle : pre.length + 1 ≤ limit) :
    KeepsFrom n W (w1.setCell ⟨w.heap.size + 1, 0, none⟩ (.slice (some ⟨g, 0, none⟩) (P.length + 1) cap)) ∧ KpB w.heap.size W (w1.setCell ⟨w.heap.size + 1, 0, none⟩ (.slice (some ⟨g, 0, none⟩) (P.length + 1) cap)) ∧
    Coll w.heap.size limit w ((pre ++ [x]).map Subtype.val) (w1.setCell ⟨w.heap.size + 1, 0, none⟩ (.slice (some ⟨g, 0, none⟩) (P.length + 1) cap)) ∧ (pre ++ [x]).length ≤ limit := by
  have hk := (keeps_of hb3).trans hk2
  have hbb : Below w.heap.size W _ := (hb3.mono hBs).trans hb2
  refine ⟨hk.from _, ⟨hbb, hk.size, fun k o h1 h2 => hk.same k o h1 (by cases o <;> first | rfl | cases h2)⟩, ⟨⟨_, hv2, ?_, trivial⟩, hbx1.other (by omega) _, hB.trans hbb⟩, by simp; omega⟩
  rw [List.map_append, hP]
  exact hr2

set_option maxRecDepth 100000 in
set_option maxHeartbeats 4000000 in
theorem first_of (g : Nat) (hg : ∀ args w, (callFunc g args).run Try.prog w = .ok (.enter g args) w) (lb : Array Value) (xs : List Small) (limit : Nat) (hl : limit ≤ 4000) (w : World) (hseq : SeqOf 2 g lb xs w) :
    Calls Try.prog 38 #[.func (.func g) #[] lb, .int .i64 limit] w (Made w ((xs.map Subtype.val).take limit)) := by
  refine (callsIn_wide (n := 3)).1 ?_
  refine callsIn_of_wp_marks Try.func38 rfl trivial ?_ rfl
  simp only [Try.ntmps38, List.size_toArray, List.length_cons, List.length_nil, Nat.reduceAdd, Nat.reduceSub, Array.replicate_succ, Array.replicate_zero, List.push_toArray, List.append_toArray, List.nil_append, List.cons_append]
  gi_wp2
  have bL := Boxed.new w 3 (.int .i64 limit)
  have bO := Boxed.new (w.alloc (.cells #[.int .i64 limit] 3)) 24 (.slice none 0 0)
  rw [World.size_alloc] at bO
  have hB0 : Below w.heap.size w ((w.alloc (.cells #[.int .i64 limit] 3)).alloc (.cells #[.slice none 0 0] 24)) := ((Below.refl _ w).alloc (Nat.le_refl _) _).alloc (by simp) _
  obtain ⟨W0, hW0⟩ : ∃ W0, (w.alloc (.cells #[.int .i64 limit] 3)).alloc (.cells #[.slice none 0 0] 24) = W0 := ⟨_, rfl⟩
  have hz0 : W0.heap.size = w.heap.size + 2 := by rw [← hW0]; simp
  have bL0 : Boxed W0 w.heap.size 3 (.int .i64 limit) := by rw [← hW0]; exact bL.alloc _
  rw [hW0] at bO hB0 ⊢
  refine wpIn_rangeFunc_ownG rfl (by omega) (gf := g) (lb := lb) rfl trivial hg hseq kpB_t (kpB_b (by omega)) hB0 (fun _ => rfl)
    (fun pre W => Coll w.heap.size limit w (pre.map Subtype.val) W ∧ pre.length ≤ limit)
    (fun c pre W => Coll w.heap.size limit w ((pre.map Subtype.val).take limit) W ∧ (c = .exit 0 ∧ limit ≤ pre.length))
    (OwnFrom.and (coll_own w.heap.size limit w W0.heap.size (by omega) (by omega) (Nat.le_refl _) (fun (pre : List Small) => pre.map Subtype.val)) (ownFrom_pure _ _))
    (fun c => OwnFrom.and (coll_own w.heap.size limit w W0.heap.size (by omega) (by omega) (Nat.le_refl _) (fun (pre : List Small) => (pre.map Subtype.val).take limit)) (ownFrom_pure _ _))
    ⟨⟨⟨_, bO, World.ownsRow_nil _ _ _ _, trivial⟩, bL0, hB0⟩, Nat.zero_le _⟩
    (fun x => { tmps := #[.func (.func g) #[] lb, .int .i64 limit, undef, .pointer (some ⟨w.heap.size, 0, none⟩), .slice none 0 0, .pointer (some ⟨w.heap.size + 1, 0, none⟩), .string x.1, .func (.func g) #[] lb, .string x.1, undef, undef, undef, undef, undef, undef, undef, undef, undef, undef], defers := [] }) ?assign ?body ?done ?stop
  case assign =>
    intro l x W K hK
    gi_wp2
    exact hK
  case body =>
    rintro l pre x W ⟨⟨⟨v, hv, hrow, -⟩, hbx, hB⟩, hle⟩ hlt
    have hc := hv.cell
    have hcl := hbx.cell
    have hlen : (pre.map Subtype.val).length = pre.length := List.length_map ..
    generalize hP : pre.map Subtype.val = P at *
    have hSR : SR w.heap.size W v P := hrow
    obtain ⟨ao, cap, rfl⟩ := hSR.form
    have hBs := hB.size
    have hPl : P.length ≤ limit := by omega
    have HLEN := Lib.hid hlen
    clear hlen hle
    by_cases hfull : P.length = limit
    · have hfi : (P.length : Int) = (limit : Int) := by omega
      gi_wp2
      refine ⟨KeepsFrom.refl _ _, ⟨⟨_, hv, ?_, trivial⟩, hbx, hB⟩, rfl, by have := HLEN.out; rw [List.length_append, List.length_singleton]; omega⟩
      rw [show ((pre ++ [x]).map Subtype.val).take limit = P from by rw [List.map_append, hP, List.take_append_of_le_length (by omega), List.take_of_length_le (by omega)]]
      exact hrow
    · have hfi : ¬ (P.length : Int) = (limit : Int) := by omega
      have hfd : ((P.length : Int) == (limit : Int)) = false := by simpa using hfi
      gi_wp2
      refine wpIn_region_any (by kernel_rfl) ?_
      change wpAnyIn _ _ _ _ _ _ _ _ _ (World.drew _)
      refine wpAnyIn_ready (rs := [0, 1]) (by kernel_rfl) (by simp) ?_
      refine AllReadyIn.cons rfl (fun K hK => ?_) ?_
      · go_simp
        refine hK _ _ ?_; clear hK K
        refine wpAnyIn_ready (rs := [1]) (by kernel_rfl) (by simp) ?_
        refine AllReadyIn.cons rfl (fun K hK => ?_) ?_
        · go_simp
          refine hK _ _ ?_; clear hK K
          refine wpAnyIn_ready (rs := [2]) (by kernel_rfl) (by simp) ?_
          refine AllReadyIn.cons rfl (fun K hK => ?_) ?_
          · go_simp
            refine ⟨trivial, ?_⟩
            refine (CallsIn.inRound l (callsIn_wide.2 (clone_in x.1 x.2 _))).mono ?_
            rintro e W3 ⟨rfl, hb3⟩
            have hb3 : Below W.heap.size W W3 := ((Below.refl _ W).drew).trans hb3
            have hv3 : Boxed W3 (w.heap.size + 1) 24 _ := (hb3.block _ hv.lt).trans hv
            have hbx3 : Boxed W3 w.heap.size 3 _ := (hb3.block _ hbx.lt).trans hbx
            have hrow3 : SR w.heap.size W3 _ P := hSR.below hb3 (Nat.le_refl _)
            have hc3 := hv3.cell
            have hc4 := (hv3.alloc (.cells #[.string x.1] 9)).cell
            have hz3 := hb3.size
            refine hK _ _ ?_; clear hK K
            refine wpAnyIn_ready (rs := [3]) (by kernel_rfl) (by simp) ?_
            refine AllReadyIn.cons rfl (fun K hK => ?_) ?_
            · go_simp
              refine hK _ _ ?_; clear hK K
              refine wpAnyIn_ready (rs := [4]) (by kernel_rfl) (by simp) ?_
              refine AllReadyIn.cons rfl (fun K hK => ?_) ?_
              · refine step_push w.heap.size W3 _ _ x.1 rfl _ _ rfl rfl rfl hrow3 (by omega) (by omega) ?_
                intro g' cap' w1 hown' hgrow
                obtain ⟨hv1, hv2, hr2, hk2, hb2⟩ := hv3.appended (by decide) (show W3.ownsRow _ _ _ _ _ _ from hrow3) (by omega) (Nat.le_succ _) (show w1.ownsRow _ _ _ _ _ _ from hown') hgrow
                have hc1 := hv1.cell
                have hf1 := hv1.frozen
                have hbx1 : Boxed w1 w.heap.size 3 (.int .i64 limit) := (hbx3.alloc _).kept hgrow (hbx3.not_row (by decide) (show W3.ownsRow _ _ _ _ _ _ from hrow3))
                refine hK _ _ ?_; clear hK K
                refine wpAnyIn_ready (rs := [5]) (by kernel_rfl) (by simp) ?_
                refine AllReadyIn.cons rfl (fun K hK => ?_) ?_
                · go_simp
                  refine hK _ _ ?_; clear hK K
                  refine wpAnyIn_done (by kernel_rfl) ?_ _
                  gi_wp2
                  exact region_end hP hBs hb3 hk2 hb2 hB hv2 hr2 hbx1 (by have := HLEN.out; omega)
                exact AllReadyIn.nil
              exact AllReadyIn.nil
            exact AllReadyIn.nil
          exact AllReadyIn.nil
        exact AllReadyIn.nil
      refine AllReadyIn.cons rfl (fun K hK => ?_) ?_
      · go_simp
        refine hK _ _ ?_; clear hK K
        refine wpAnyIn_ready (rs := [0, 2]) (by kernel_rfl) (by simp) ?_
        refine AllReadyIn.cons rfl (fun K hK => ?_) ?_
        · go_simp
          refine hK _ _ ?_; clear hK K
          refine wpAnyIn_ready (rs := [2]) (by kernel_rfl) (by simp) ?_
          refine AllReadyIn.cons rfl (fun K hK => ?_) ?_
          · go_simp
            refine ⟨trivial, ?_⟩
            refine (CallsIn.inRound l (callsIn_wide.2 (clone_in x.1 x.2 _))).mono ?_
            rintro e W3 ⟨rfl, hb3⟩
            have hb3 : Below W.heap.size W W3 := ((Below.refl _ W).drew).trans hb3
            have hv3 : Boxed W3 (w.heap.size + 1) 24 _ := (hb3.block _ hv.lt).trans hv
            have hbx3 : Boxed W3 w.heap.size 3 _ := (hb3.block _ hbx.lt).trans hbx
            have hrow3 : SR w.heap.size W3 _ P := hSR.below hb3 (Nat.le_refl _)
            have hc3 := hv3.cell
            have hc4 := (hv3.alloc (.cells #[.string x.1] 9)).cell
            have hz3 := hb3.size
            refine hK _ _ ?_; clear hK K
            refine wpAnyIn_ready (rs := [3]) (by kernel_rfl) (by simp) ?_
            refine AllReadyIn.cons rfl (fun K hK => ?_) ?_
            · go_simp
              refine hK _ _ ?_; clear hK K
              refine wpAnyIn_ready (rs := [4]) (by kernel_rfl) (by simp) ?_
              refine AllReadyIn.cons rfl (fun K hK => ?_) ?_
              · refine step_push w.heap.size W3 _ _ x.1 rfl _ _ rfl rfl rfl hrow3 (by omega) (by omega) ?_
                intro g' cap' w1 hown' hgrow
                obtain ⟨hv1, hv2, hr2, hk2, hb2⟩ := hv3.appended (by decide) (show W3.ownsRow _ _ _ _ _ _ from hrow3) (by omega) (Nat.le_succ _) (show w1.ownsRow _ _ _ _ _ _ from hown') hgrow
                have hc1 := hv1.cell
                have hf1 := hv1.frozen
                have hbx1 : Boxed w1 w.heap.size 3 (.int .i64 limit) := (hbx3.alloc _).kept hgrow (hbx3.not_row (by decide) (show W3.ownsRow _ _ _ _ _ _ from hrow3))
                refine hK _ _ ?_; clear hK K
                refine wpAnyIn_ready (rs := [5]) (by kernel_rfl) (by simp) ?_
                refine AllReadyIn.cons rfl (fun K hK => ?_) ?_
                · go_simp
                  refine hK _ _ ?_; clear hK K
                  refine wpAnyIn_done (by kernel_rfl) ?_ _
                  gi_wp2
                  exact region_end hP hBs hb3 hk2 hb2 hB hv2 hr2 hbx1 (by have := HLEN.out; omega)
                exact AllReadyIn.nil
              exact AllReadyIn.nil
            exact AllReadyIn.nil
          exact AllReadyIn.nil
        refine AllReadyIn.cons rfl (fun K hK => ?_) ?_
        · go_simp
          refine ⟨trivial, ?_⟩
          refine (CallsIn.inRound l (callsIn_wide.2 (clone_in x.1 x.2 _))).mono ?_
          rintro e W3 ⟨rfl, hb3⟩
          have hb3 : Below W.heap.size W W3 := ((Below.refl _ W).drew).trans hb3
          have hv3 : Boxed W3 (w.heap.size + 1) 24 _ := (hb3.block _ hv.lt).trans hv
          have hbx3 : Boxed W3 w.heap.size 3 _ := (hb3.block _ hbx.lt).trans hbx
          have hrow3 : SR w.heap.size W3 _ P := hSR.below hb3 (Nat.le_refl _)
          have hc3 := hv3.cell
          have hc4 := (hv3.alloc (.cells #[.string x.1] 9)).cell
          have hz3 := hb3.size
          refine hK _ _ ?_; clear hK K
          refine wpAnyIn_ready (rs := [0, 3]) (by kernel_rfl) (by simp) ?_
          refine AllReadyIn.cons rfl (fun K hK => ?_) ?_
          · go_simp
            refine hK _ _ ?_; clear hK K
            refine wpAnyIn_ready (rs := [3]) (by kernel_rfl) (by simp) ?_
            refine AllReadyIn.cons rfl (fun K hK => ?_) ?_
            · go_simp
              refine hK _ _ ?_; clear hK K
              refine wpAnyIn_ready (rs := [4]) (by kernel_rfl) (by simp) ?_
              refine AllReadyIn.cons rfl (fun K hK => ?_) ?_
              · refine step_push w.heap.size W3 _ _ x.1 rfl _ _ rfl rfl rfl hrow3 (by omega) (by omega) ?_
                intro g' cap' w1 hown' hgrow
                obtain ⟨hv1, hv2, hr2, hk2, hb2⟩ := hv3.appended (by decide) (show W3.ownsRow _ _ _ _ _ _ from hrow3) (by omega) (Nat.le_succ _) (show w1.ownsRow _ _ _ _ _ _ from hown') hgrow
                have hc1 := hv1.cell
                have hf1 := hv1.frozen
                have hbx1 : Boxed w1 w.heap.size 3 (.int .i64 limit) := (hbx3.alloc _).kept hgrow (hbx3.not_row (by decide) (show W3.ownsRow _ _ _ _ _ _ from hrow3))
                refine hK _ _ ?_; clear hK K
                refine wpAnyIn_ready (rs := [5]) (by kernel_rfl) (by simp) ?_
                refine AllReadyIn.cons rfl (fun K hK => ?_) ?_
                · go_simp
                  refine hK _ _ ?_; clear hK K
                  refine wpAnyIn_done (by kernel_rfl) ?_ _
                  gi_wp2
                  exact region_end hP hBs hb3 hk2 hb2 hB hv2 hr2 hbx1 (by have := HLEN.out; omega)
                exact AllReadyIn.nil
              exact AllReadyIn.nil
            exact AllReadyIn.nil
          refine AllReadyIn.cons rfl (fun K hK => ?_) ?_
          · go_simp
            refine hK _ _ ?_; clear hK K
            refine wpAnyIn_ready (rs := [0]) (by kernel_rfl) (by simp) ?_
            refine AllReadyIn.cons rfl (fun K hK => ?_) ?_
            · go_simp
              refine hK _ _ ?_; clear hK K
              refine wpAnyIn_ready (rs := [4]) (by kernel_rfl) (by simp) ?_
              refine AllReadyIn.cons rfl (fun K hK => ?_) ?_
              · refine step_push w.heap.size W3 _ _ x.1 rfl _ _ rfl rfl rfl hrow3 (by omega) (by omega) ?_
                intro g' cap' w1 hown' hgrow
                obtain ⟨hv1, hv2, hr2, hk2, hb2⟩ := hv3.appended (by decide) (show W3.ownsRow _ _ _ _ _ _ from hrow3) (by omega) (Nat.le_succ _) (show w1.ownsRow _ _ _ _ _ _ from hown') hgrow
                have hc1 := hv1.cell
                have hf1 := hv1.frozen
                have hbx1 : Boxed w1 w.heap.size 3 (.int .i64 limit) := (hbx3.alloc _).kept hgrow (hbx3.not_row (by decide) (show W3.ownsRow _ _ _ _ _ _ from hrow3))
                refine hK _ _ ?_; clear hK K
                refine wpAnyIn_ready (rs := [5]) (by kernel_rfl) (by simp) ?_
                refine AllReadyIn.cons rfl (fun K hK => ?_) ?_
                · go_simp
                  refine hK _ _ ?_; clear hK K
                  refine wpAnyIn_done (by kernel_rfl) ?_ _
                  gi_wp2
                  exact region_end hP hBs hb3 hk2 hb2 hB hv2 hr2 hbx1 (by have := HLEN.out; omega)
                exact AllReadyIn.nil
              exact AllReadyIn.nil
            exact AllReadyIn.nil
          exact AllReadyIn.nil
        exact AllReadyIn.nil
      exact AllReadyIn.nil
  case done =>
    rintro D ys W hD rfl ⟨⟨⟨v, hv, hrow, -⟩, hbx, hB⟩, hle⟩ hK
    have hc := hv.cell
    gi_wp2
    refine ⟨by simp, .inl ⟨_, _, rfl, run_takeDeferred hK, ?_⟩⟩
    refine ⟨_, results_tmp rfl _ _ _, v, rfl, ?_, hB.trans (belowK_b (w := w) (Nat.le_refl _) W D _ _ (by omega) hK rfl rfl)⟩
    rw [List.take_of_length_le (by rw [List.length_map]; exact hle)]
    exact ownsRow_putObj hrow _ hK rfl
  case stop =>
    rintro D c pre W hD hpre ⟨⟨⟨v, hv, hrow, -⟩, hbx, hB⟩, rfl, hle⟩ hK
    have hc := hv.cell
    gi_wp2
    refine ⟨by simp, .inl ⟨_, _, rfl, run_takeDeferred hK, ?_⟩⟩
    refine ⟨_, results_tmp rfl _ _ _, v, rfl, ?_, hB.trans (belowK_b (w := w) (Nat.le_refl _) W D _ _ (by omega) hK rfl rfl)⟩
    have e : (xs.map Subtype.val).take limit = (pre.map Subtype.val).take limit := by
      obtain ⟨r, rfl⟩ := hpre
      rw [List.map_append, List.take_append_of_le_length (by rw [List.length_map]; exact hle)]
    rw [e]
    exact ownsRow_putObj hrow _ hK rfl

end Go.Proofs.Ytnkldjijjpcmhaa.Seqs
