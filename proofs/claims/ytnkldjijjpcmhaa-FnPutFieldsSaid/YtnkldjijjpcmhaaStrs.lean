/-
  Rows of strings that a call has made: appending to them, comparing them, marking them, reading their marks.
-/
import Derived.Test.YtnkldjijjpcmhaaRowB
import Derived.Laws.Concat
import Derived.Deep.RegionWith
namespace Go.Proofs.Ytnkldjijjpcmhaa.Strs
open Go.ChangeShapes Go.WideShapes Go.ChangeAt Go.RowKit Go.PlainAid
open Go.Proofs.Ytnkldjijjpcmhaa.Dec
open Go.Proofs.Ytnkldjijjpcmhaa.DecPure Go.Proofs.Ytnkldjijjpcmhaa.ReadPure Go.Proofs.Ytnkldjijjpcmhaa.Cell
set_option linter.unusedVariables false

/-- The digits of k ahead of those that there are. -/
def mdF : Nat → Nat → List Int → List Int
  | 0, _, acc => acc
  | m + 1, k, acc => if 0 < k then mdF m (k / 10) ((48 + (k : Int) % 10) :: acc) else acc
def md (k : Nat) (acc : List Int) : List Int := mdF k k acc
theorem mdF_more : ∀ (m n k : Nat) (acc : List Int), k ≤ m → k ≤ n → mdF m k acc = mdF n k acc
  | 0, 0, _, _, _, _ => rfl
  | 0, n + 1, k, acc, h, _ => by
    have : ¬ 0 < k := by omega
    rw [mdF, mdF, if_neg this]
  | m + 1, 0, k, acc, _, h => by
    have : ¬ 0 < k := by omega
    rw [mdF, mdF, if_neg this]
  | m + 1, n + 1, k, acc, h1, h2 => by
    rw [mdF, mdF]
    by_cases hk : 0 < k
    · rw [if_pos hk, if_pos hk]
      exact mdF_more m n _ _ (by omega) (by omega)
    · rw [if_neg hk, if_neg hk]
theorem md_step {k : Nat} (h : 0 < k) (acc : List Int) : md k acc = md (k / 10) ((48 + (k : Int) % 10) :: acc) := by
  unfold md
  obtain ⟨m, hm⟩ : ∃ m, k = m + 1 := ⟨k - 1, by omega⟩
  have e : mdF k k acc = mdF (m + 1) k acc := by rw [← hm]
  rw [e, mdF, if_pos h]
  exact mdF_more _ _ _ _ (by omega) (Nat.le_refl _)
theorem md_zero (acc : List Int) : md 0 acc = acc := rfl
def mkT (k : Nat) : ByteArray := if k = 0 then ⟨#[109, 48]⟩ else strOfNums (109 :: md k [])

theorem nums_join (a b : List Int) : strOfNums a ++ strOfNums b = strOfNums (a ++ b) := by
  apply ByteArray.ext
  show (strOfNums a ++ strOfNums b).data = _
  rw [ByteArray.data_append]
  simp [strOfNums]

set_option maxRecDepth 100000 in
set_option maxHeartbeats 4000000 in
theorem mark_text (k : Nat) (hk : k ≤ 10000000) (w : World) : Calls Try.prog 53 #[.int .i64 k] w fun e w' => e = .returned (.string (mkT k)) ∧ Below w.heap.size w w' := by
  by_cases h0 : k = 0
  · subst h0
    go_enter Try.func53, Try.ntmps53
    go_wp2_with fail
    go_ret
    exact ⟨rfl, Below.refl _ _⟩
  · have hM : mkT k = strOfNums (109 :: md k []) := by unfold mkT; rw [if_neg h0]
    have HM := Lib.hid hM; clear hM
    have hk0 : ¬ (k : Int) ≤ 0 := by omega
    have hkd : decide (k ≤ 0) = false := by simp; omega
    go_enter Try.func53, Try.ntmps53
    go_wp2_with fail
    go_loopw [0, 3] (fun i v wr => ∃ (j : Nat) (acc : List Int) (t : ByteArray), j ≤ k ∧ i = .int .i64 j ∧ v = .string t ∧ Hid (t = strOfNums acc) ∧ t.size + j ≤ k ∧ Hid (md j acc = md k []) ∧ Hid (Below w.heap.size w wr)) (fun i _ _ => (intOf i).toNat)
    case atStart => exact ⟨k, [], ⟨#[]⟩, Nat.le_refl _, rfl, rfl, rfl, by show 0 + k ≤ k; omega, rfl, Below.refl _ _⟩
    case round =>
      obtain ⟨j, acc, t, hj, rfl, rfl, HT, hts, HMD, HB⟩ := hrel
      by_cases hlt : 0 < j
      · obtain ⟨d, hd⟩ : ∃ d : Nat, d = j % 10 := ⟨_, rfl⟩
        obtain ⟨q, hq⟩ : ∃ q : Nat, q = j / 10 := ⟨_, rfl⟩
        have htm : Int.tmod (j : Int) 10 = (d : Int) := by rw [hd]; rfl
        have hdv : Int.tdiv (j : Int) 10 = (q : Int) := by rw [hq]; rfl
        have hd9 : d ≤ 9 := by omega
        have hqj : q + 1 ≤ j := by omega
        have hst := md_step hlt acc
        rw [HMD.out, show (48 + (j : Int) % 10) = 48 + (d : Int) from by rw [hd]; omega, ← hq] at hst
        have HS : Hid (md q ((48 + (d : Int)) :: acc) = md k []) := hst.symm
        have hcv := rowB_conv (B := wr.heap.size) (w := wr.alloc (.cells #[.int .u8 (48 + (d : Int))] 5)) (v := .slice (some ⟨wr.heap.size, 0, none⟩) 1 1) (L := [48 + (d : Int)]) (World.ownsRow_lit wr #[.int .u8 (48 + (d : Int))] 1 (Nat.le_refl _) (by decide) rfl)
        obtain ⟨u, hu⟩ : ∃ u, u = strOfNums [48 + (d : Int)] := ⟨_, rfl⟩
        have hus : u.size = 1 := by rw [hu, strOfNums_size]; rfl
        rw [← hu] at hcv
        have HT2 : Hid (u ++ t = strOfNums ((48 + (d : Int)) :: acc)) := by show u ++ t = _; rw [hu, HT.out, nums_join]; rfl
        have hbs := HB.out.size
        clear hst hd hq hu HMD
        have hg : (j : Int) > 0 := by omega
        go_wp2_with fail
        go_roundw
        case rel => exact ⟨q, (48 + (d : Int)) :: acc, u ++ t, by omega, by go_num, rfl, HT2.out, by rw [ByteArray.size_append]; omega, HS.out, HB.out.alloc hbs _⟩
        case measure => simp [intOf]; omega
      · have hj0 : j = 0 := by omega
        subst hj0
        have hfin : mkT k = (⟨#[109]⟩ : ByteArray) ++ t := by
          rw [HM.out, HT.out, ← HMD.out, md_zero, show (⟨#[109]⟩ : ByteArray) = strOfNums [109] from rfl, nums_join]
          rfl
        have HF := Lib.hid hfin; clear hfin hlt
        have hts2 : t.size ≤ 10000000 := by omega
        go_wp2_with fail
        go_ret
        exact ⟨by rw [HF.out]; rfl, HB.out⟩


/-- A row of strings of a call's own, from block B on. -/
def SR (B : Nat) (w : World) (v : Value) (l : List ByteArray) : Prop := w.ownsRow B 9 1 v l.length (l.map Value.string)
def sat (l : List ByteArray) (i : Nat) : ByteArray := l.getD i ⟨#[]⟩
theorem SR.nil (B : Nat) (w : World) : SR B w (.slice none 0 0) [] := World.ownsRow_nil _ _ _ _
theorem SR.lt {B : Nat} {w : World} {v : Value} {l : List ByteArray} (h : SR B w v l) (x : Nat) (hx : v.ownBlock = some x) : B ≤ x ∧ x < w.heap.size := World.ownsRow.lt h x hx
theorem SR.same {B : Nat} {w w' : World} {v : Value} {l : List ByteArray} (h : SR B w v l) (hb : ∀ x, v.ownBlock = some x → w'.heap[x]? = w.heap[x]?) : SR B w' v l := by
  rcases h with ⟨q1, q2 | ⟨x, cap, cur, rfl, q3, q4, q5⟩⟩
  · exact ⟨q1, Or.inl q2⟩
  · exact ⟨q1, Or.inr ⟨x, cap, cur, rfl, q3, by rw [hb x rfl]; exact q4, q5⟩⟩
theorem SR.below {B C : Nat} {w w' : World} {v : Value} {l : List ByteArray} (h : SR B w v l) (hb : Below C w w') (hC : w.heap.size ≤ C) : SR B w' v l :=
  h.same fun x hx => hb.block x (by have := (h.lt x hx).2; omega)
theorem SR.form {B : Nat} {w : World} {v : Value} {l : List ByteArray} (h : SR B w v l) : ∃ ao cap, v = .slice ao l.length cap := by
  rcases h.2 with ⟨q, q0⟩ | ⟨_, _, _, q, _⟩
  · exact ⟨none, 0, by rw [q, q0]⟩
  · exact ⟨_, _, q⟩
theorem SR.at {B : Nat} {w : World} {v : Value} {l : List ByteArray} (h : SR B w v l) {i : Nat} (hi : i < l.length) :
    ∃ g cap, v = .slice (some ⟨g, 0, none⟩) l.length cap ∧ w.cell? ⟨g, i, none⟩ = some (.string (sat l i)) ∧ w.frozen? ⟨g, i, none⟩ = false := by
  rcases h.2 with ⟨q, q0⟩ | ⟨g, cap, _, rfl, _⟩
  · omega
  · refine ⟨g, cap, rfl, ?_, World.ownsRow.frozenAt h i⟩
    rw [World.ownsRow.cellAt h i (by omega)]
    simp [sat, List.getD, List.getElem?_eq_getElem hi]
theorem infoS : (Try.prog.info? 9).map (fun i => (i.zero, i.size, i.bytes)) = some (some (.string ⟨#[]⟩), 1, 16) := by kernel_rfl
theorem sr_push {ops : Array Oper} {rest : List Oper} {o : Oper} {a : Act} {Q : Exit → Act → World → Prop} (B : Nat) (w : World) (v : Value) (l : List ByteArray) (x : ByteArray)
    (hgd : o.guard = none) (s y : Operand) (ho : o.op = .call { callee := .builtin .append, args := #[s, y], argTypes := #[24, 24] }) (hs : a.eval s = v) (hy : a.eval y = .slice (some ⟨w.heap.size, 0, none⟩) 1 1)
    (h : SR B w v l) (hl : l.length ≤ 10000000) (hB : B ≤ w.heap.size)
    (hK : ∀ v1 w1, SR B w1 v1 (l ++ [x]) → w.grownBy w1 v.ownBlock → wpList Try.prog ops Q rest (a.put o.dst v1) w1) :
    wpList Try.prog ops Q (o :: rest) a (w.alloc (.cells #[.string x] 9)) := by
  obtain ⟨i0, hi, hz0, hz1, hz2⟩ := info_parts infoS
  refine wpList_append_lies _ hgd s y 24 ho B 9 i0 (.string ⟨#[]⟩) 1 16 Try.underlying24 hi hz0 hz1 hz2 rfl (by omega) v l.length _ hs (World.ownsRow.alloc h _) ⟨w.heap.size, 0, none⟩ 1 1 [.string x] hy rfl ?_ ?_ (by omega) (by unfold maxLen; omega) (by omega) (by simp; omega) _ rfl ?_
  · intro j u hj
    match j, hj with
    | 0, hj => simp at hj; subst hj; simp [Addr.add]
  · intro u hu; simp at hu; subst hu; rfl
  · intro g cap w1 hown hgrow _ _
    refine hK _ w1 ?_ ((World.grownBy_alloc w _ _).trans hgrow)
    unfold SR
    rw [List.length_append, List.length_singleton, List.map_append]
    exact hown

set_option maxRecDepth 100000 in
set_option maxHeartbeats 4000000 in
theorem eq_srs (B B' : Nat) (w : World) (x y : Value) (l : List ByteArray) (hx : SR B w x l) (hy : SR B' w y l) (hl : l.length ≤ 1048577) : Calls Try.prog 27 #[x, y] w fun e w' => e = .returned (.bool true) ∧ Below w.heap.size w w' := by
  obtain ⟨ao, cap, rfl⟩ := hx.form
  obtain ⟨ao', cap', rfl⟩ := hy.form
  have HX := Lib.hid hx
  have HY := Lib.hid hy
  clear hx hy
  go_enter Try.func27, Try.ntmps27
  go_wp2_with fail
  go_loopw [5] (fun i wr => ∃ k : Nat, k ≤ l.length ∧ i = .int .i64 k ∧ Hid (Below w.heap.size w wr)) (fun i _ => l.length - (intOf i).toNat)
  case atStart => exact ⟨0, Nat.zero_le _, rfl, Below.refl _ _⟩
  case round =>
    obtain ⟨k, hk, rfl, HB⟩ := hrel
    by_cases hlt : k < l.length
    · have hx2 := HX.out.below HB.out (Nat.le_refl _)
      have hy2 := HY.out.below HB.out (Nat.le_refl _)
      obtain ⟨g, c, e1, c0, _⟩ := hx2.at hlt
      obtain ⟨g', c', e2, d0, _⟩ := hy2.at hlt
      simp only [Value.slice.injEq, true_and] at e1 e2
      obtain ⟨rfl, rfl⟩ := e1
      obtain ⟨rfl, rfl⟩ := e2
      have hki : (k : Int) < (l.length : Int) := by omega
      obtain ⟨t, ht⟩ : ∃ t, t = sat l k := ⟨_, rfl⟩
      rw [← ht] at c0 d0
      clear hx2 hy2 ht
      go_wp2_with fail
      go_quiet (fail)
      go_wp2_with fail
      go_roundw
      case rel => exact ⟨k + 1, by omega, by go_num, HB.out.trans ⟨rfl, rfl, rfl, Nat.le_refl _, fun _ _ => rfl⟩⟩
      case measure => simp [intOf]; omega
    · have e : k = l.length := by omega
      subst e
      clear hlt
      go_wp2_with fail
      go_ret
      exact ⟨rfl, HB.out⟩

def mkS (k n : Nat) : List ByteArray := (List.range n).map (fun i => mkT (k + i))
theorem mkS_len (k n : Nat) : (mkS k n).length = n := by simp [mkS]
theorem mkS_at {k n j : Nat} (h : j < n) : sat (mkS k n) j = mkT (k + j) := by
  have hl : j < (mkS k n).length := by rw [mkS_len]; exact h
  unfold sat
  rw [List.getD_eq_getElem?_getD, List.getElem?_eq_getElem hl]
  simp [mkS]
theorem mkS_step {k j : Nat} {l : List ByteArray} (h : j < l.length) : (mkS k j ++ l.drop j).set j (mkT (k + j)) = mkS k (j + 1) ++ l.drop (j + 1) := by
  rw [List.set_append_right _ _ (by rw [mkS_len]; exact Nat.le_refl _), mkS_len, Nat.sub_self, List.drop_eq_getElem_cons h, List.set_cons_zero]
  simp [mkS, List.range_succ]
theorem SR.stored {B : Nat} {w : World} {g c : Nat} {l : List ByteArray} (h : SR B w (.slice (some ⟨g, 0, none⟩) l.length c) l) (j : Nat) (x : ByteArray) : SR B (w.setCell ⟨g, j, none⟩ (.string x)) (.slice (some ⟨g, 0, none⟩) l.length c) (l.set j x) ∧ w.grownBy (w.setCell ⟨g, j, none⟩ (.string x)) (some g) := by
  have hs := World.ownsRow.stored h j (.string x)
  refine ⟨?_, hs.2⟩
  unfold SR
  rw [List.length_set, List.map_set]
  exact hs.1

set_option maxRecDepth 100000 in
set_option maxHeartbeats 4000000 in
theorem mark_srs (B : Nat) (w : World) (v : Value) (l : List ByteArray) (k : Nat) (h : SR B w v l) (hl : l.length ≤ 2000000) (hk : k ≤ 100000) : Calls Try.prog 28 #[v, .int .i64 k] w fun e w' => e = .returned (.int .i64 ((k + l.length : Nat) : Int)) ∧ SR B w' v (mkS k l.length) ∧ w.grownBy w' v.ownBlock := by
  obtain ⟨ao, cap, rfl⟩ := h.form
  have HH := Lib.hid h; clear h
  go_enter Try.func28, Try.ntmps28
  go_wp2_with fail
  go_loopw [1, 5] (fun c i wr => ∃ j : Nat, j ≤ l.length ∧ i = .int .i64 j ∧ c = .int .i64 ((k + j : Nat) : Int) ∧ Hid (SR B wr (.slice ao l.length cap) (mkS k j ++ l.drop j)) ∧ Hid (w.grownBy wr (Value.slice ao l.length cap).ownBlock)) (fun _ i _ => l.length - (intOf i).toNat)
  case atStart => exact ⟨0, Nat.zero_le _, rfl, rfl, by show SR _ _ _ _; simpa [mkS] using HH.out, ⟨rfl, rfl, rfl, Nat.le_refl _, fun _ _ _ => rfl⟩⟩
  case round =>
    obtain ⟨j, hj, rfl, rfl, HT, HG⟩ := hrel
    by_cases hlt : j < l.length
    · have hlen : (mkS k j ++ l.drop j).length = l.length := by rw [List.length_append, mkS_len, List.length_drop]; omega
      obtain ⟨g, c, e1, c0, z0⟩ := HT.out.at (i := j) (by rw [hlen]; exact hlt)
      rw [hlen] at e1
      simp only [Value.slice.injEq, true_and] at e1
      obtain ⟨rfl, rfl⟩ := e1
      have hrow : SR B wr (.slice (some ⟨g, 0, none⟩) (mkS k j ++ l.drop j).length cap) (mkS k j ++ l.drop j) := by have := HT.out; rwa [← hlen] at this
      have HR := Lib.hid hrow; clear hrow
      have hji : (j : Int) < (l.length : Int) := by omega
      have hkj : k + j ≤ 3000000 := by omega
      obtain ⟨m, hm⟩ : ∃ m, m = k + j := ⟨_, rfl⟩
      have hmt := mark_text m (by omega) wr
      rw [← hm] at hkj ⊢
      obtain ⟨T, hT⟩ : ∃ T, T = mkT m := ⟨_, rfl⟩
      rw [← hT] at hmt
      have HM := Lib.hid hm
      have HMT := Lib.hid hmt
      have HTT := Lib.hid hT
      clear hm hmt hT c0 z0
      go_wp2_with fail
      refine HMT.out.mono ?_
      rintro e w2 ⟨rfl, hB2⟩
      have R2 := HR.out.below hB2 (Nat.le_refl _)
      obtain ⟨g', c', e2, c0, z0⟩ := R2.at (i := j) (by rw [hlen]; exact hlt)
      simp only [Value.slice.injEq, true_and, Option.some.injEq, Addr.mk.injEq, and_true] at e2
      obtain ⟨rfl, rfl⟩ := e2
      have hst := R2.stored j T
      rw [HTT.out, HM.out, mkS_step hlt] at hst
      rw [← HM.out, ← HTT.out] at hst
      have HST := Lib.hid hst
      have HG2 := Lib.hid ((HG.out.trans ⟨hB2.os, hB2.tape, hB2.output, hB2.size, fun i hi _ => hB2.block i hi⟩).trans HST.out.2)
      have HRL := Lib.hid hlen
      clear hst R2 hB2 HG hlen
      go_wp2_with fail
      go_roundw
      case rel =>
        refine ⟨j + 1, by omega, by go_num, ?_, ?_, HG2⟩
        · have := HM.out
          congr 1
          omega
        · have := HST.out.1
          rw [HRL.out] at this
          exact Lib.hid this
      case measure => simp [intOf]; omega
    · have e : j = l.length := by omega
      subst e
      clear hlt
      go_wp2_with fail
      go_ret
      refine ⟨rfl, ?_, HG.out⟩
      have := HT.out
      rwa [List.drop_length, List.append_nil] at this

set_option maxRecDepth 100000 in
set_option maxHeartbeats 4000000 in
theorem held_srs (B : Nat) (w : World) (v : Value) (n k : Nat) (h : SR B w v (mkS k n)) (hn : n ≤ 4000) (hk : k ≤ 100000) : Calls Try.prog 29 #[v, .int .i64 k] w fun e w' => e = .returned (.int .i64 ((k + n : Nat) : Int)) ∧ Below w.heap.size w w' := by
  obtain ⟨ao, cap, rfl⟩ := h.form
  rw [mkS_len] at h ⊢
  have HH := Lib.hid h; clear h
  go_enter Try.func29, Try.ntmps29
  go_wp2_with fail
  go_loopw [1, 5] (fun c i wr => ∃ j : Nat, j ≤ n ∧ i = .int .i64 j ∧ c = .int .i64 ((k + j : Nat) : Int) ∧ Hid (Below w.heap.size w wr)) (fun _ i _ => n - (intOf i).toNat)
  case atStart => exact ⟨0, Nat.zero_le _, rfl, rfl, Below.refl _ _⟩
  case round =>
    obtain ⟨j, hj, rfl, rfl, HB⟩ := hrel
    by_cases hlt : j < n
    · have hT := HH.out.below HB.out (Nat.le_refl _)
      have hT2 : SR B wr (.slice ao (mkS k n).length cap) (mkS k n) := by rw [mkS_len]; exact hT
      obtain ⟨g, c, e1, c0, _⟩ := hT2.at (i := j) (by rw [mkS_len]; exact hlt)
      have hgl : g < wr.heap.size := (hT2.lt g (by rw [e1]; rfl)).2
      rw [mkS_len] at e1
      simp only [Value.slice.injEq, true_and] at e1
      obtain ⟨rfl, rfl⟩ := e1
      rw [mkS_at hlt] at c0
      have hji : (j : Int) < (n : Int) := by omega
      have hkj : k + j ≤ 200000 := by omega
      obtain ⟨m, hm⟩ : ∃ m, m = k + j := ⟨_, rfl⟩
      have hmt := fun w0 => mark_text m (by omega) w0
      rw [← hm] at hkj c0 ⊢
      obtain ⟨T, hTT⟩ : ∃ T, T = mkT m := ⟨_, rfl⟩
      rw [← hTT] at c0 hmt
      have HM := Lib.hid hm
      have HMT := Lib.hid hmt
      clear hm hmt hTT hT hT2
      go_wp2_with fail
      have e1 : wr.drew.cell? ⟨g, j, none⟩ = some (.string T) := c0
      have hgl2 : g < wr.drew.heap.size := hgl
      have HB2 : Hid (Below w.heap.size w wr.drew) := HB.out.drew
      have E1 := Lib.hid e1
      have HL := Lib.hid hgl2
      clear e1 hgl2
      go_region_with (go_at_call 53; refine (HMT.out _).mono ?_; rintro e w3 ⟨rfl, hB3⟩; have i1 := (hB3.cell (p := ⟨g, j, none⟩) HL.out).trans E1.out)
      all_goals
        have HB3 : Hid (Below w.heap.size w w3) := HB2.out.trans (hB3.mono HB2.out.size)
        clear hB3
        go_wp2_with fail
        go_roundw
        case rel =>
          refine ⟨j + 1, by omega, by go_num, ?_, HB3⟩
          have := HM.out
          congr 1
          omega
        case measure => simp [intOf]; omega
    · have e : j = n := by omega
      subst e
      clear hlt
      go_wp2_with fail
      go_ret
      exact ⟨rfl, HB.out⟩

/-- What a function that makes a row of strings answers. -/
def Made (w : World) (l : List ByteArray) (e : Ending) (w' : World) : Prop := ∃ v, e = .returned v ∧ SR w.heap.size w' v l ∧ Below w.heap.size w w'
theorem SR.take {B : Nat} {w : World} {g n c : Nat} {l : List ByteArray} (h : SR B w (.slice (some ⟨g, 0, none⟩) n c) l) (hn : n = l.length) {m : Nat} (hm : m ≤ n) : SR B w (.slice (some ⟨g, 0, none⟩) m c) (l.take m) := by
  subst hn
  rcases h.2 with ⟨q, _⟩ | ⟨g', cap, cur, hv, hb, hg, hnc, hcm, hcs, ht⟩
  · cases q
  · simp only [Value.slice.injEq, Option.some.injEq, Addr.mk.injEq, and_true, true_and] at hv
    obtain ⟨rfl, rfl⟩ := hv
    refine ⟨by simp, Or.inr ⟨g, c, cur, by rw [List.length_take, Nat.min_eq_left hm], hb, hg, by rw [List.length_take]; omega, hcm, hcs, ?_⟩⟩
    rw [List.length_take, Nat.min_eq_left hm, List.map_take, ← ht, List.take_take]
    congr 1
    omega

end Go.Proofs.Ytnkldjijjpcmhaa.Strs
