/-
  Iterators over a text's parts: what they hand to a round, one part after another.
-/
import Derived.RangeFuncNested
import Derived.RangeFuncBound
import Derived.RangeFuncCalls
import Derived.RangeFuncLeaves
import Derived.Shelf.Abstract
import Derived.Shelf.RegionOpen
import Derived.WalkKit
import Derived.OwnWalkIn
import Derived.TacticsInMore
import Derived.LoopNIn
import Derived.LoopIn
import Derived.Laws.RangeAny
import Derived.Test.YtnkldjijjpcmhaaWordPure
import Derived.Test.YtnkldjijjpcmhaaRead
namespace Go.Proofs.Ytnkldjijjpcmhaa.Seqs
open Go.ChangeShapes Go.WideShapes Go.ChangeAt Go.RowKit Go.PlainAid Go.Shelf
open Go.Proofs.Ytnkldjijjpcmhaa.Dec
open Go.Proofs.Ytnkldjijjpcmhaa.DecPure Go.Proofs.Ytnkldjijjpcmhaa.ReadPure Go.Proofs.Ytnkldjijjpcmhaa.RecPure
set_option linter.unusedVariables false
attribute [local go_sem] Oper.semAt_some

/-- A text that is not too long. -/
abbrev Small := { x : ByteArray // x.size ≤ 1048576 }
theorem small_list : ∀ (l : List ByteArray), (∀ x ∈ l, x.size ≤ 1048576) → ∃ xs : List Small, xs.map Subtype.val = l
  | [], _ => ⟨[], rfl⟩
  | x :: l, h => by
    obtain ⟨xs, hx⟩ := small_list l (fun y hy => h y (List.mem_cons_of_mem _ hy))
    exact ⟨⟨x, h x (List.mem_cons_self ..)⟩ :: xs, by rw [List.map_cons, hx]⟩
/-- What a round keeps that goes on. -/
def KpB (n : Nat) (W W' : World) : Prop := Below n W W' ∧ KeepsWalks W W'
theorem kpB_t {n : Nat} {A B C : World} (h : KpB n A B) (k : KpB n B C) : KpB n A C := ⟨h.1.trans k.1, h.2.trans k.2⟩
theorem kpB_b {n : Nat} {w : World} (hn : n ≤ w.heap.size) (W : World) (l : Nat) (o o' : Obj) (hl : w.heap.size ≤ l) (h : W.heap[l]? = some o) (h1 : o.isCells = false) (h2 : o.isWalk = false) : KpB n W (W.putObj l o') :=
  ⟨belowK_b hn W l o o' hl h h1 h2, walksK_b (w := w) W l o o' hl h h1 h2⟩
/-- A function's value that hands the texts xs to a round, one after another. -/
def SeqOf (n : Nat) (g : Nat) (lb : Array Value) (xs : List Small) (w : World) : Prop :=
  SeqStopsK Fence.wide n Try.prog g lb (fun x : Small => #[Value.string x.1]) (KpB w.heap.size) (fun ys => ys = xs) (fun pre => pre <+: xs) xs.length w
/-- What a call of an iterator leaves. -/
def Ran (xs : List Small) (J Jx : List Small → World → Prop) (e : Ending) (W' : World) : Prop := (∃ v, e = .returned v) ∧ ((∃ ys, ys = xs ∧ J ys W') ∨ (∃ pre, pre <+: xs ∧ Jx pre W'))
theorem next_at (W : World) (g : Nat) (s : ByteArray) (pos : Nat) (ty : TypeId) (h : pos < s.size) (hg : W.heap[g]? = some (.stringIter s pos)) :
    (Instr.next (.pointer (some ⟨g, 0, none⟩)) true ty).run Try.prog W = .ok (.tuple #[.bool true, .int .i64 pos, .int .i32 (Utf8.decode s pos).1]) (W.putObj g (.stringIter s (pos + (Utf8.decode s pos).2))) := by
  simp only [Instr.next, getObj, setObj, Sem.run_bind, Sem.run, hg, Result.andThen, h, if_true, World.putObj]
  simp [goInt]
theorem next_end (W : World) (g : Nat) (s : ByteArray) (pos : Nat) (ty : TypeId) (h : ¬ pos < s.size) (hg : W.heap[g]? = some (.stringIter s pos)) :
    (Instr.next (.pointer (some ⟨g, 0, none⟩)) true ty).run Try.prog W = .ok (.tuple #[.bool false]) W := by
  simp [Instr.next, getObj, Sem.run, hg, h]
theorem iterPos_at {W : World} {g : Nat} {s : ByteArray} {pos : Nat} (h : W.heap[g]? = some (.stringIter s pos)) : W.iterPos g = pos := by
  unfold World.iterPos; rw [h]

set_option maxRecDepth 100000 in
set_option maxHeartbeats 2000000 in
theorem words1_in (n : Nat) (hn : 1 ≤ n) (l Bn n₀ : Nat) (s : ByteArray) (hs : s.size ≤ 1048576) (xs : List Small) (hxs : xs.map Subtype.val = wd s 0 0) (J Jx : List Small → World → Prop) (W : World)
    (hJ : AbidesFrom W.heap.size J)
    (hY : ∀ pre x W1, J pre W1 → pre.length < xs.length → YieldAt Fence.wide (n - 1) Try.prog l #[.string x.1] W1 fun e W' =>
      (e = .returned (.bool true) ∧ J (pre ++ [x]) W' ∧ KpB n₀ W1 W') ∨ (e = .returned (.bool false) ∧ Jx (pre ++ [x]) W'))
    (hBn : Bn < n₀) (hn₀ : n₀ ≤ W.heap.size) (hc : W.cell? ⟨Bn, 0, none⟩ = some (.string s)) (h0 : J [] W) :
    CallsIn Fence.wide n Try.prog 58 #[.func (.yield l) #[] #[], .pointer (some ⟨Bn, 0, none⟩)] W (Ran xs J Jx) := by
  have hb := get_bt s
  have hJ0 : J [] (W.iter s 0) := hJ _ _ _ none h0 (World.grownBy_alloc W _ none) (fun r e => by cases e)
  have hi0 : (W.iter s 0).heap[W.heap.size]? = some (.stringIter s 0) := World.iter_heap W s 0
  have hB0 : Below n₀ W (W.iter s 0) := (Below.refl _ _).alloc hn₀ _
  refine callsIn_of_wp Try.func58 rfl trivial ?_ rfl
  simp only [Try.ntmps58, List.size_toArray, List.length_cons, List.length_nil, Nat.reduceAdd, Nat.reduceSub, Array.replicate_succ, Array.replicate_zero, List.push_toArray, List.append_toArray, List.nil_append, List.cons_append]
  gi_wp2
  gi_loopw [3] (fun p wr => ∃ (pre rest : List Small) (f i : Nat), p = .int .i64 f ∧ xs = pre ++ rest ∧ rest.map Subtype.val = wd s i f ∧ f ≤ i ∧ i ≤ s.size ∧ wr.heap[W.heap.size]? = some (.stringIter s i) ∧ J pre wr ∧ Below n₀ W wr)
    (fun _ wr => s.size - wr.iterPos W.heap.size)
  case atStart => exact ⟨[], xs, 0, 0, rfl, rfl, hxs, Nat.le_refl _, Nat.zero_le _, hi0, hJ0, hB0⟩
  case round =>
    obtain ⟨pre, rest, f, i, rfl, hx, hr, hfi, his, hit, hJs, hB⟩ := hrel
    have hcs : wr.cell? ⟨Bn, 0, none⟩ = some (.string s) := (hB.cell (p := ⟨Bn, 0, none⟩) hBn).trans hc
    have hgw : W.heap.size < wr.heap.size := (Array.getElem?_eq_some_iff.1 hit).1
    by_cases hlt : i < s.size
    · obtain ⟨d1, d2, d3⟩ := dec_fact s i hlt
      have hnx : ∀ ty, (Instr.next (.pointer (some ⟨W.heap.size, 0, none⟩)) true ty).run Try.prog wr = _ := fun ty => next_at wr _ s i ty hlt hit
      generalize (Utf8.decode s i).2 = dw at *
      generalize (Utf8.decode s i).1 = dr at *
      obtain ⟨wn, hwn⟩ : ∃ wn, wn = wr.putObj W.heap.size (.stringIter s (i + dw)) := ⟨_, rfl⟩
      simp only [← hwn] at hnx
      have hgr : wr.grownBy wn (some W.heap.size) := by rw [hwn]; exact grownBy_putObj' wr _ _
      have hitn : wn.heap[W.heap.size]? = some (.stringIter s (i + dw)) := by rw [hwn]; exact World.putObj_heap_same hgw
      have hJn : J pre wn := hJ _ _ _ _ hJs hgr (fun r e => by cases e; exact ⟨Nat.le_refl _, _, hit, rfl⟩)
      have hBw : Below n₀ W wn := hB.grown hgr (by omega) (fun k e => by cases e; exact hn₀)
      have hcn : wn.cell? ⟨Bn, 0, none⟩ = some (.string s) := (hBw.cell (p := ⟨Bn, 0, none⟩) hBn).trans hc
      have hgn : W.heap.size < wn.heap.size := (Array.getElem?_eq_some_iff.1 hitn).1
      have b0 := bt_nonneg s i
      have b1 := bt_le s i
      have hii : (i : Int) < (s.size : Int) := by omega
      have hip : wr.iterPos W.heap.size = i := iterPos_at hit
      clear hwn hgr hit hJs
      by_cases hsp : spB (bt s i) = true
      · have hjump : wd s (i + 1) (i + 1) = wd s (i + dw) (i + 1) := by
          obtain ⟨m, rfl⟩ : ∃ m, dw = 1 + m := ⟨dw - 1, by omega⟩
          rw [← Nat.add_assoc]
          exact wd_jump (by omega) (fun k hk => by have := d3 (1 + k) (by omega) (by omega); rwa [← Nat.add_assoc] at this)
        by_cases hf : f < i
        · rw [wd_cut hlt hsp hf, hjump] at hr
          rcases rest with _ | ⟨⟨y, hys⟩, rest⟩
          · cases hr
          simp only [List.map_cons, List.cons.injEq] at hr
          obtain ⟨rfl, hr⟩ := hr
          obtain ⟨fn, tmps, assign, body, hy, hR⟩ := hY pre ⟨s.extract f i, hys⟩ wn hJn (by rw [hx]; simp)
          have hfz : (f : Int) < (i : Int) := by omega
          gi_wp2_with (refine ⟨trivial, ?_⟩; gi_at_call 59; refine (callsIn_wide.2 (impl_space _ b0 b1 _)).mono ?_; rintro e w' ⟨rfl, rfl⟩)
          refine hR.mono ?_
          rintro e W3 (⟨rfl, hJ3, hk3⟩ | ⟨rfl, hJx3⟩)
          · have hB3 : Below n₀ W W3 := hBw.trans hk3.1
            have hit3 := hk3.2.same _ _ hitn rfl
            have hc3 : W3.cell? ⟨Bn, 0, none⟩ = some (.string s) := (hB3.cell (p := ⟨Bn, 0, none⟩) hBn).trans hc
            gi_wp2
            go_roundw
            case rel => exact ⟨pre ++ [_], rest, i + 1, i + dw, by go_num, by rw [hx]; simp, hr, by omega, by omega, hit3, hJ3, hB3⟩
            case measure => rw [iterPos_at hit3, hip]; omega
          · gi_wp2
            refine bodyPost_ret (results_none rfl _ _ _) rfl ?_
            exact ⟨⟨_, rfl⟩, .inr ⟨_, ⟨rest, by rw [hx]; simp⟩, hJx3⟩⟩
        · rw [wd_skip hlt hsp hf, hjump] at hr
          have hfz : ¬ (f : Int) < (i : Int) := by omega
          have hfd : decide (f < i) = false := by simpa using hf
          gi_wp2_with (refine ⟨trivial, ?_⟩; gi_at_call 59; refine (callsIn_wide.2 (impl_space _ b0 b1 _)).mono ?_; rintro e w' ⟨rfl, rfl⟩)
          refine ⟨fun _ h => (by cases h), ?_⟩
          gi_wp2
          go_roundw
          case rel => exact ⟨pre, rest, i + 1, i + dw, by go_num, hx, hr, by omega, by omega, hitn, hJn, hBw⟩
          case measure => rw [iterPos_at hitn, hip]; omega
      · have hsf : spB (bt s i) = false := by simpa using hsp
        have hjump : wd s i f = wd s (i + dw) f := wd_jump (by omega) (fun k hk => by
          rcases k with _ | k
          · exact hsf
          · exact d3 (k + 1) (by omega) (by omega))
        rw [hjump] at hr
        gi_wp2_with (refine ⟨trivial, ?_⟩; gi_at_call 59; refine (callsIn_wide.2 (impl_space _ b0 b1 _)).mono ?_; rintro e w' ⟨rfl, rfl⟩)
        go_roundw
        case rel => exact ⟨pre, rest, f, i + dw, rfl, hx, hr, by omega, by omega, hitn, hJn, hBw⟩
        case measure => rw [iterPos_at hitn, hip]; omega
    · obtain rfl : i = s.size := by omega
      have hnx : ∀ ty, (Instr.next (.pointer (some ⟨W.heap.size, 0, none⟩)) true ty).run Try.prog wr = _ := fun ty => next_end wr _ s s.size ty hlt hit
      by_cases hf : f < s.size
      · rw [wd_last hf] at hr
        rcases rest with _ | ⟨⟨y, hys⟩, rest⟩
        · cases hr
        simp only [List.map_cons, List.cons.injEq, List.map_eq_nil_iff] at hr
        obtain ⟨rfl, rfl⟩ := hr
        obtain ⟨fn, tmps, assign, body, hy, hR⟩ := hY pre ⟨s.extract f s.size, hys⟩ wr hJs (by rw [hx]; simp)
        have hfz : (f : Int) < (s.size : Int) := by omega
        gi_wp2
        refine hR.mono ?_
        rintro e W3 (⟨rfl, hJ3, hk3⟩ | ⟨rfl, hJx3⟩)
        · gi_wp2
          go_end0
          exact ⟨⟨_, rfl⟩, .inl ⟨_, hx.symm, hJ3⟩⟩
        · gi_wp2
          go_end0
          exact ⟨⟨_, rfl⟩, .inr ⟨_, ⟨[], by rw [hx]; simp⟩, hJx3⟩⟩
      · rw [wd_end hf] at hr
        have hfz : ¬ (f : Int) < (s.size : Int) := by omega
        have hfd : decide (f < s.size) = false := by simpa using hf
        obtain rfl : rest = [] := List.map_eq_nil_iff.1 hr
        gi_wp2
        go_end0
        exact ⟨⟨_, rfl⟩, .inl ⟨pre, by first | rfl | (rw [hx]; simp), hJs⟩⟩

theorem words_in (s : ByteArray) (w : World) : Calls Try.prog 42 #[.string s] w fun e w' => e = .returned (.func (.func 58) #[] #[.pointer (some ⟨w.heap.size, 0, none⟩)]) ∧ w' = w.alloc (.cells #[.string s] 9) := by
  go_enter Try.func42, Try.ntmps42
  go_wp2_with fail
  go_ret
  exact ⟨rfl, rfl⟩

/-- A box of a text. -/
def TxBox (w : World) (b : Nat) (s : ByteArray) : Prop := b < w.heap.size ∧ w.cell? ⟨b, 0, none⟩ = some (.string s)
theorem TxBox.below {w w' : World} {b : Nat} {s : ByteArray} (h : TxBox w b s) (hb : Below w.heap.size w w') : TxBox w' b s :=
  ⟨by have := hb.size; have := h.1; omega, (hb.cell (p := ⟨b, 0, none⟩) h.1).trans h.2⟩

theorem words_seq (n : Nat) (hn : 1 ≤ n) (b : Nat) (s : ByteArray) (hs : s.size ≤ 1048576) (xs : List Small) (hxs : xs.map Subtype.val = fld s 0) (w : World) (hb : TxBox w b s) :
    SeqOf n 58 #[.pointer (some ⟨b, 0, none⟩)] xs w := fun l J Jx W hW hJ hJx hY h0 =>
  words1_in n hn l b w.heap.size s hs xs (hxs.trans (wd_all s).symm) J Jx W hJ hY hb.1 hW.size ((hW.cell (p := ⟨b, 0, none⟩) hb.1).trans hb.2) h0

end Go.Proofs.Ytnkldjijjpcmhaa.Seqs
