/-
  The iterator over the parts of a text between the places of another one.
-/
import Derived.Test.YtnkldjijjpcmhaaSeqs
import Derived.Test.YtnkldjijjpcmhaaShelf
namespace Go.Proofs.Ytnkldjijjpcmhaa.Seqs
open Go.ChangeShapes Go.WideShapes Go.ChangeAt Go.RowKit Go.PlainAid Go.Shelf
open Go.Proofs.Ytnkldjijjpcmhaa.Dec
open Go.Proofs.Ytnkldjijjpcmhaa.DecPure Go.Proofs.Ytnkldjijjpcmhaa.ReadPure Go.Proofs.Ytnkldjijjpcmhaa.RecPure
set_option linter.unusedVariables false
attribute [local go_sem] Oper.semAt_some

/-- The greatest length of a text that is searched by the machine is some number. -/
def Held (w : World) : Prop := ∃ m : Int, w.cell? ⟨0, 0, none⟩ = some (.int .i64 m) ∧ 0 < w.heap.size
theorem Held.below {B : Nat} {w w' : World} (h : Held w) (hb : Below B w w') (hB : w.heap.size ≤ B) : Held w' := by
  obtain ⟨m, h1, h2⟩ := h
  exact ⟨m, (hb.cell (p := ⟨0, 0, none⟩) (Nat.lt_of_lt_of_le h2 hB)).trans h1, Nat.lt_of_lt_of_le h2 hb.size⟩
theorem held_of {w : World} {m : Int} (h : w.cell? ⟨0, 0, none⟩ = some (.int .i64 m)) : Held w := ⟨m, h, World.block_lt_of_cell? w ⟨0, 0, none⟩ h⟩
theorem mk_back (x : ByteArray) : (⟨x.data.toList.toArray⟩ : ByteArray) = x := by simp

theorem cut_yes {x t a b : ByteArray} (hx : x.size ≤ 1048576) (h : cutB x t = (a.data.toList, b.data.toList, true)) (w : World) (hw : Held w) :
    Calls Try.prog 56 #[.string x, .string t] w fun e w' => e = .returned (.tuple #[.string a, .string b, .bool true]) ∧ ∃ n, w' = w.drewN n := by
  obtain ⟨m, hm, _⟩ := hw
  refine (Try.strings_Cut x t m w (by omega) hm).mono fun e w' ⟨he, hn⟩ => ⟨?_, hn⟩
  unfold cutB at h
  rw [he, h]

theorem cut_no {x t : ByteArray} (hx : x.size ≤ 1048576) (h : cutB x t = (x.data.toList, [], false)) (w : World) (hw : Held w) :
    Calls Try.prog 56 #[.string x, .string t] w fun e w' => e = .returned (.tuple #[.string x, .string ⟨#[]⟩, .bool false]) ∧ ∃ n, w' = w.drewN n := by
  obtain ⟨m, hm, _⟩ := hw
  refine (Try.strings_Cut x t m w (by omega) hm).mono fun e w' ⟨he, hn⟩ => ⟨?_, hn⟩
  unfold cutB at h
  rw [he, h]

def szOf : Value → Nat
  | .string s => s.size
  | _ => 0
def boOf : Value → Nat
  | .bool true => 1
  | _ => 0

set_option maxRecDepth 100000 in
set_option maxHeartbeats 2000000 in
theorem pieces1_in (n : Nat) (hn : 1 ≤ n) (l Bn Bt n₀ : Nat) (s t : ByteArray) (hs : s.size ≤ 1048576) (ht : 1 ≤ t.size) (xs : List Small) (hxs : xs.map Subtype.val = spl s t 0 0) (J Jx : List Small → World → Prop) (W : World)
    (hJ : AbidesFrom W.heap.size J)
    (hY : ∀ pre x W1, J pre W1 → pre.length < xs.length → YieldAt Fence.wide (n - 1) Try.prog l #[.string x.1] W1 fun e W' =>
      (e = .returned (.bool true) ∧ J (pre ++ [x]) W' ∧ KpB n₀ W1 W') ∨ (e = .returned (.bool false) ∧ Jx (pre ++ [x]) W'))
    (hBn : Bn < n₀) (hBt : Bt < n₀) (hm0 : 0 < n₀) (hn₀ : n₀ ≤ W.heap.size) (hc : W.cell? ⟨Bn, 0, none⟩ = some (.string s)) (hd : W.cell? ⟨Bt, 0, none⟩ = some (.string t)) (hH : Held W) (h0 : J [] W) :
    CallsIn Fence.wide n Try.prog 55 #[.func (.yield l) #[] #[], .pointer (some ⟨Bn, 0, none⟩), .pointer (some ⟨Bt, 0, none⟩)] W (Ran xs J Jx) := by
  refine callsIn_of_wp Try.func55 rfl trivial ?_ rfl
  simp only [Try.ntmps55, List.size_toArray, List.length_cons, List.length_nil, Nat.reduceAdd, Nat.reduceSub, Array.replicate_succ, Array.replicate_zero, List.push_toArray, List.append_toArray, List.nil_append, List.cons_append]
  gi_wp2
  gi_loopw [4, 5] (fun r b wr => ∃ (pre rest : List Small) (y : ByteArray) (more : Bool), r = .string y ∧ b = .bool more ∧ xs = pre ++ rest ∧ (more = true → ∃ f, f ≤ s.size ∧ y = s.extract f s.size ∧ rest.map Subtype.val = spl s t f f) ∧ (more = false → rest = []) ∧ J pre wr ∧ Below n₀ W wr)
    (fun r b _ => szOf r + boOf b)
  case atStart => exact ⟨[], xs, s, true, rfl, rfl, rfl, fun _ => ⟨0, Nat.zero_le _, by simp, hxs⟩, (fun h => by cases h), h0, Below.refl _ _⟩
  case round =>
    obtain ⟨pre, rest, y, more, rfl, rfl, hx, hy, hn', hJs, hB⟩ := hrel
    have hds : wr.cell? ⟨Bt, 0, none⟩ = some (.string t) := (hB.cell (p := ⟨Bt, 0, none⟩) hBt).trans hd
    cases more with
    | false =>
      obtain rfl := hn' rfl
      clear hy hn'
      gi_wp2
      go_end0
      exact ⟨⟨_, rfl⟩, .inl ⟨pre, by first | rfl | (rw [hx]; simp), hJs⟩⟩
    | true =>
      obtain ⟨f, hf, rfl, hr⟩ := hy rfl
      clear hy hn'
      have hHr : Held wr := by
        obtain ⟨m, h1, h2⟩ := hH
        exact held_of ((hB.cell (p := ⟨0, 0, none⟩) hm0).trans h1)
      have hez : (s.extract f s.size).size ≤ 1048576 := by rw [size_ext s f _ (Nat.le_refl _)]; omega
      rcases spl_cut s t ht f hf with ⟨k, hk1, hk2, hcut, hsp⟩ | ⟨hcut, hsp⟩
      · have hcall := cut_yes hez hcut wr hHr
        rw [hsp] at hr
        rcases rest with _ | ⟨⟨y, hys⟩, rest⟩
        · cases hr
        simp only [List.map_cons, List.cons.injEq] at hr
        obtain ⟨rfl, hr⟩ := hr
        gi_wp2_with (refine ⟨trivial, ?_⟩; gi_at_call 56; refine (callsIn_wide.2 hcall).mono ?_; rintro e w' ⟨rfl, dn, rfl⟩; obtain ⟨fn, tmps, assign, body, hy, hR⟩ := hY pre ⟨s.extract f k, hys⟩ (wr.drewN dn) (hJ _ _ _ none hJs ⟨rfl, rfl, rfl, Nat.le_refl _, fun _ _ _ => rfl⟩ (fun r e => by cases e)) (by rw [hx]; simp))
        refine hR.mono ?_
        rintro e W3 (⟨rfl, hJ3, hk3⟩ | ⟨rfl, hJx3⟩)
        · have hB3 : Below n₀ W W3 := hB.trans ((show Below n₀ wr (wr.drewN dn) from ⟨rfl, rfl, rfl, Nat.le_refl _, fun _ _ => rfl⟩).trans hk3.1)
          gi_wp2
          go_roundw
          case rel => exact ⟨pre ++ [_], rest, _, true, rfl, rfl, by rw [hx]; simp, fun _ => ⟨k + t.size, hk2, rfl, hr⟩, (fun h => by cases h), hJ3, hB3⟩
          case measure =>
            simp only [szOf, boOf]
            rw [size_ext s f _ (Nat.le_refl _), size_ext s (k + t.size) _ (Nat.le_refl _)]
            omega
        · gi_wp2
          refine bodyPost_ret (results_none rfl _ _ _) rfl ?_
          exact ⟨⟨_, rfl⟩, .inr ⟨_, ⟨rest, by rw [hx]; simp⟩, hJx3⟩⟩
      · have hcall := cut_no hez hcut wr hHr
        rw [hsp] at hr
        rcases rest with _ | ⟨⟨y, hys⟩, rest⟩
        · cases hr
        simp only [List.map_cons, List.cons.injEq, List.map_eq_nil_iff] at hr
        obtain ⟨rfl, rfl⟩ := hr
        gi_wp2_with (refine ⟨trivial, ?_⟩; gi_at_call 56; refine (callsIn_wide.2 hcall).mono ?_; rintro e w' ⟨rfl, dn, rfl⟩; obtain ⟨fn, tmps, assign, body, hy, hR⟩ := hY pre ⟨s.extract f s.size, hys⟩ (wr.drewN dn) (hJ _ _ _ none hJs ⟨rfl, rfl, rfl, Nat.le_refl _, fun _ _ _ => rfl⟩ (fun r e => by cases e)) (by rw [hx]; simp))
        refine hR.mono ?_
        rintro e W3 (⟨rfl, hJ3, hk3⟩ | ⟨rfl, hJx3⟩)
        · have hB3 : Below n₀ W W3 := hB.trans ((show Below n₀ wr (wr.drewN dn) from ⟨rfl, rfl, rfl, Nat.le_refl _, fun _ _ => rfl⟩).trans hk3.1)
          gi_wp2
          go_roundw
          case rel => exact ⟨pre ++ [_], [], _, false, rfl, rfl, by rw [hx]; simp, (fun h => by cases h), fun _ => rfl, hJ3, hB3⟩
          case measure =>
            simp only [szOf, boOf]
            show 0 + 0 < _
            omega
        · gi_wp2
          refine bodyPost_ret (results_none rfl _ _ _) rfl ?_
          exact ⟨⟨_, rfl⟩, .inr ⟨_, ⟨[], by rw [hx]; simp⟩, hJx3⟩⟩

theorem pieces_in (s t : ByteArray) (w : World) : Calls Try.prog 39 #[.string s, .string t] w fun e w' => e = .returned (.func (.func 55) #[] #[.pointer (some ⟨w.heap.size, 0, none⟩), .pointer (some ⟨w.heap.size + 1, 0, none⟩)]) ∧ w' = (w.alloc (.cells #[.string s] 9)).alloc (.cells #[.string t] 9) := by
  go_enter Try.func39, Try.ntmps39
  go_wp2_with fail
  go_ret
  exact ⟨rfl, rfl⟩

theorem pieces_seq (n : Nat) (hn : 1 ≤ n) (b b' : Nat) (s t : ByteArray) (hs : s.size ≤ 1048576) (ht : 1 ≤ t.size) (xs : List Small) (hxs : xs.map Subtype.val = spl s t 0 0) (w : World) (hb : TxBox w b s) (hb' : TxBox w b' t) (hw : Held w) :
    SeqOf n 55 #[.pointer (some ⟨b, 0, none⟩), .pointer (some ⟨b', 0, none⟩)] xs w := fun l J Jx W hW hJ hJx hY h0 =>
  pieces1_in n hn l b b' w.heap.size s t hs ht xs hxs J Jx W hJ hY hb.1 hb'.1 (by obtain ⟨_, _, h⟩ := hw; exact h) hW.size ((hW.cell (p := ⟨b, 0, none⟩) hb.1).trans hb.2) ((hW.cell (p := ⟨b', 0, none⟩) hb'.1).trans hb'.2) (hw.below hW (Nat.le_refl _)) h0

end Go.Proofs.Ytnkldjijjpcmhaa.Seqs
