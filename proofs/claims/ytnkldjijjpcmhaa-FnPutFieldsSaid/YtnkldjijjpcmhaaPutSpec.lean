/-
  PutField, of the model: a row that a call copies, pads and sets.
-/
import Derived.Test.YtnkldjijjpcmhaaJoinSpec
import Derived.Deep.AppendSrc
import Derived.Maps.AppendAt
namespace Go.Proofs.Ytnkldjijjpcmhaa.Strs
open Go.ChangeShapes Go.WideShapes Go.ChangeAt Go.RowKit Go.PlainAid
open Go.Proofs.Ytnkldjijjpcmhaa.Dec
open Go.Proofs.Ytnkldjijjpcmhaa.DecPure Go.Proofs.Ytnkldjijjpcmhaa.ReadPure
set_option linter.unusedVariables false

theorem sr_cat {ops : Array Oper} {rest : List Oper} {o : Oper} {a : Act} {Q : Exit → Act → World → Prop} (w : World) (v : Value) (l : List ByteArray)
    (hgd : o.guard = none) (s y : Operand) (ho : o.op = .call { callee := .builtin .append, args := #[s, y], argTypes := #[24, 24] })
    (hs : a.eval s = .slice (some ⟨w.heap.size, 0, none⟩) 0 0) (hy : a.eval y = v) (h : RdS w v l) (hl : l.length ≤ 10000000)
    (hK : ∀ v1 w1, SR w.heap.size w1 v1 l → Below w.heap.size w w1 → wpList Try.prog ops Q rest (a.put o.dst v1) w1) :
    wpList Try.prog ops Q (o :: rest) a (w.alloc (.cells #[] 9)) := by
  obtain ⟨i0, hi, hz0, hz1, hz2⟩ := info_parts infoS
  have hown : (w.alloc (.cells #[] 9)).ownsRow w.heap.size 9 1 (.slice (some ⟨w.heap.size, 0, none⟩) 0 0) 0 [] := World.ownsRow_lit w #[] 0 (Nat.le_refl _) (by decide) rfl
  have hB0 : Below w.heap.size w (w.alloc (.cells #[] 9)) := (Below.refl _ _).alloc (Nat.le_refl _) _
  obtain ⟨ao, cap, rfl, -, hc⟩ := h
  rcases ao with _ | ad
  · obtain rfl : l = [] := by
      rcases l with _ | ⟨x, l⟩
      · rfl
      · obtain ⟨_, _, e, _⟩ := hc 0 (Nat.succ_pos _)
        cases e
    refine wpList_plain hgd fun K hK' => ?_
    have hr := run_append_room_src (P := Try.prog) (w.alloc (.cells #[] 9)) 24 24 o.type 9 i0 Try.underlying24 hi w.heap.size 0 0 0 _ 0 [] (Src.ofNil _ Try.underlying24 cap) (Nat.le_refl _) (fun j hj => by cases hj) (fun j hj => by cases hj)
    unfold Oper.wp execOp
    simp only [ho, resolve, invoke, builtin, Sem.run_bind, Sem.run_pure, Result.andThen_ok, List.map_toArray, List.map_cons, List.map_nil, hs, hy, List.length_nil, hr]
    exact hK' _ _ (hK _ _ hown hB0)
  · refine wpList_append_own_at _ hgd s y 24 ho w.heap.size 9 i0 (.string ⟨#[]⟩) 1 16 Try.underlying24 hi hz0 hz1 hz2 rfl (by omega) _ 0 [] hs hown ad l.length cap (l.map Value.string) hy (by simp) ?_ ?_ (by unfold maxLen; omega) (by omega) (by simp) ?_
    · intro j u hj
      rw [List.getElem?_map] at hj
      obtain ⟨x, hx, rfl⟩ := Option.map_eq_some_iff.1 hj
      have hj' : j < l.length := (List.getElem?_eq_some_iff.1 hx).1
      obtain ⟨b, off, e, c0, _⟩ := hc j hj'
      cases e
      have hb := World.block_lt_of_cell? w ⟨b, off + j, none⟩ c0
      have : sat l j = x := by simp [sat, List.getD, hx]
      rw [this] at c0
      have := hB0.cell (p := ⟨b, off + j, none⟩) hb
      rw [add_plain]
      exact this.trans c0
    · intro u hu
      obtain ⟨x, _, rfl⟩ := List.mem_map.1 hu
      rfl
    · intro v1 w1 h1 hgrow _ _
      refine hK v1 w1 ?_ (hB0.grown hgrow (by simp) (fun x hx => by simp [Value.ownBlock] at hx; omega))
      unfold SR
      simpa using h1

def pad (l : List ByteArray) (n : Nat) : List ByteArray := l ++ List.replicate (n - l.length) ⟨#[]⟩
theorem pad_len (l : List ByteArray) (n : Nat) : (pad l n).length = l.length + (n - l.length) := by simp [pad]
def putL (l : List ByteArray) (n : Nat) (s : ByteArray) : List ByteArray := (pad l n).set (n - 1) s
theorem putL_len (l : List ByteArray) (n : Nat) (s : ByteArray) : (putL l n s).length = l.length + (n - l.length) := by simp [putL, pad_len]
theorem putL_size (l : List ByteArray) (n : Nat) (s : ByteArray) (hs : s.size ≤ 1048576) (h : ∀ i, i < l.length → (sat l i).size ≤ 1048576) (i : Nat) : (sat (putL l n s) i).size ≤ 1048576 := by
  unfold sat putL
  rw [List.getD_eq_getElem?_getD, List.getElem?_set]
  split
  · split
    · exact hs
    · exact Nat.zero_le _
  · unfold pad
    by_cases hi : i < l.length
    · have := h i hi
      unfold sat at this
      rw [List.getD_eq_getElem?_getD] at this
      rwa [List.getElem?_append_left hi]
    · rw [List.getElem?_append_right (by omega), List.getElem?_replicate]
      split <;> exact Nat.zero_le _
def putP (l : List ByteArray) (i : Int) (s : ByteArray) : List ByteArray × Bool :=
  if i < 1 ∨ 50 < i ∨ 50 < l.length ∨ 500 < szJ (putL l i.toNat s) (putL l i.toNat s).length then ([], false) else (putL l i.toNat s, true)
theorem putP_len (l : List ByteArray) (i : Int) (s : ByteArray) : (putP l i s).1.length ≤ 100 := by
  unfold putP
  split
  · exact Nat.zero_le _
  · show (putL l i.toNat s).length ≤ 100
    rw [putL_len]; omega
def Put (w : World) (p : List ByteArray × Bool) (e : Ending) (w' : World) : Prop := ∃ v, e = .returned (.tuple #[v, .bool p.2]) ∧ SR w.heap.size w' v p.1 ∧ Below w.heap.size w w'

set_option maxRecDepth 100000 in
set_option maxHeartbeats 4000000 in
theorem spec_put (v : Value) (l : List ByteArray) (i : Int) (s : ByteArray) (hl : l.length ≤ 1048576) (hs : s.size ≤ 1048576) (w : World) (h : RdS w v l) : Calls Try.prog 25 #[v, .int .i64 i, .string s] w (Put w (putP l i s)) := by
  have hsz : ∀ j, j < l.length → (sat l j).size ≤ 1048576 := by
    obtain ⟨_, _, _, _, hc⟩ := h
    exact fun j hj => by obtain ⟨_, _, _, _, q⟩ := hc j hj; exact q
  have HSZ := Lib.hid hsz; clear hsz
  have HR := Lib.hid h
  obtain ⟨ao, cap, rfl, -⟩ := h
  by_cases h1 : i < 1
  · have E : Hid (putP l i s = ([], false)) := Lib.hid (by unfold putP; rw [if_pos (.inl h1)])
    go_enter Try.func25, Try.ntmps25
    go_wp2_with fail
    go_ret2
    exact ⟨_, by rw [E.out]; rfl, by rw [E.out]; exact SR.nil _ _, Below.refl _ _⟩
  by_cases h2 : 50 < i
  · have E : Hid (putP l i s = ([], false)) := Lib.hid (by unfold putP; rw [if_pos (.inr (.inl h2))])
    go_enter Try.func25, Try.ntmps25
    go_wp2_with fail
    go_ret2
    exact ⟨_, by rw [E.out]; rfl, by rw [E.out]; exact SR.nil _ _, Below.refl _ _⟩
  by_cases h3 : 50 < l.length
  · have E : Hid (putP l i s = ([], false)) := Lib.hid (by unfold putP; rw [if_pos (.inr (.inr (.inl h3)))])
    have hi3 : (50 : Int) < (l.length : Int) := by omega
    go_enter Try.func25, Try.ntmps25
    go_wp2_with fail
    go_ret2
    exact ⟨_, by rw [E.out]; rfl, by rw [E.out]; exact SR.nil _ _, Below.refl _ _⟩
  have hi3 : ¬ (50 : Int) < (l.length : Int) := by omega
  have hd3 : decide (50 < l.length) = false := by simpa using h3
  obtain ⟨n, rfl⟩ : ∃ n : Nat, i = (n : Int) := ⟨i.toNat, by omega⟩
  have hn0 : 0 < n := by omega
  have hn50 : n ≤ 50 := by omega
  go_enter Try.func25, Try.ntmps25
  go_wp2_with (at_builtin; refine sr_cat w _ l rfl _ _ rfl rfl rfl HR.out (by omega) ?_; intro v1 w1 hrow1 hB1)
  have HRW := Lib.hid hrow1; clear hrow1
  have HB1 := Lib.hid hB1; clear hB1
  go_loopw [8] (fun v wr => ∃ j : Nat, j ≤ n - l.length ∧ Hid (SR w.heap.size wr v (l ++ List.replicate j ⟨#[]⟩)) ∧ Hid (Below w.heap.size w wr)) (fun v _ => n - (match v with | .slice _ m _ => m | _ => 0))
  case atStart => exact ⟨0, Nat.zero_le _, by show SR _ _ _ _; simpa using HRW.out, HB1⟩
  case round =>
    obtain ⟨j, hj, HS, HB⟩ := hrel
    have hlen : (l ++ List.replicate j (⟨#[]⟩ : ByteArray)).length = l.length + j := by simp
    have HLEN := Lib.hid hlen; clear hlen
    obtain ⟨ao2, cap2, hv⟩ := HS.out.form
    rw [HLEN.out] at hv
    subst hv
    have hbs := HB.out.size
    by_cases hlt : l.length + j < n
    · have hc1 : ((l.length + j : Nat) : Int) < (n : Int) := by omega
      go_wp2_with (at_builtin; refine sr_push w.heap.size wr _ _ ⟨#[]⟩ rfl _ _ rfl rfl rfl HS.out (by rw [HLEN.out]; omega) hbs ?_; intro v2 w2 hrow2 hgrow2)
      have hB2 := HB.out.grown hgrow2 hbs (fun x hx => (HS.out.lt x hx).1)
      clear hgrow2
      have hrow3 : SR w.heap.size w2 v2 (l ++ List.replicate (j + 1) ⟨#[]⟩) := by rw [List.replicate_succ', ← List.append_assoc]; exact hrow2
      obtain ⟨ao3, cap3, hv3⟩ := hrow3.form
      have hlen3 : (l ++ List.replicate (j + 1) (⟨#[]⟩ : ByteArray)).length = l.length + j + 1 := by simp; omega
      rw [hlen3] at hv3
      subst hv3
      go_roundw
      case rel => exact ⟨j + 1, by omega, Lib.hid hrow3, Lib.hid hB2⟩
      case measure => simp; omega
    · have hc1 : ¬ ((l.length + j : Nat) : Int) < (n : Int) := by omega
      have hcd : decide (l.length + j < n) = false := by simpa using hlt
      obtain rfl : j = n - l.length := by omega
      have hrow : SR w.heap.size wr (.slice ao2 (pad l n).length cap2) (pad l n) := by rw [pad_len]; exact HS.out
      obtain ⟨g, c, e1, c0, z0⟩ := hrow.at (i := n - 1) (by rw [pad_len]; omega)
      rw [pad_len] at e1
      simp only [Value.slice.injEq, true_and] at e1
      obtain ⟨rfl, rfl⟩ := e1
      have hst := hrow.stored (n - 1) s
      have hst1 : SR w.heap.size (wr.setCell ⟨g, n - 1, none⟩ (.string s)) (.slice (some ⟨g, 0, none⟩) (l.length + (n - l.length)) cap2) (putL l n s) := by have := hst.1; rwa [pad_len] at this
      have HST := Lib.hid hst1
      have hB3 := HB.out.grown hst.2 hbs (fun x hx => by cases hx; exact (hrow.lt g (by rw [pad_len]; rfl)).1)
      have HB3 := Lib.hid hB3
      clear hst hst1 hB3 hrow
      have hrd : RdS (wr.setCell ⟨g, n - 1, none⟩ (.string s)) (.slice (some ⟨g, 0, none⟩) (l.length + (n - l.length)) cap2) (putL l n s) := HST.out.read (fun i _ => putL_size l n s hs HSZ.out i)
      have hszz := spec_size _ _ (by rw [putL_len]; omega) _ hrd
      have HZ := Lib.hid hszz
      clear hrd hszz
      have hi1 : (0 : Int) ≤ (n : Int) - 1 := by omega
      have hi2 : ((n : Int) - 1).toNat = n - 1 := by omega
      have hi3' : (n : Int) - 1 < ((l.length + (n - l.length) : Nat) : Int) := by omega
      by_cases hbig : 500 < szJ (putL l n s) (putL l n s).length
      · have E : Hid (putP l n s = ([], false)) := Lib.hid (by unfold putP; rw [if_pos (.inr (.inr (.inr (by simpa using hbig))))])
        go_wp2_with fail
        refine HZ.out.mono ?_
        rintro e w3 ⟨⟨r, rfl, hr⟩, rfl⟩
        have hr2 : 500 < r := hr.2 hbig
        clear hr
        go_wp2_with fail
        go_ret2
        exact ⟨_, by rw [E.out]; rfl, by rw [E.out]; exact SR.nil _ _, HB3.out⟩
      · have E : Hid (putP l n s = (putL l n s, true)) := Lib.hid (by unfold putP; rw [if_neg (by simp; omega)]; simp)
        go_wp2_with fail
        refine HZ.out.mono ?_
        rintro e w3 ⟨⟨r, rfl, hr⟩, rfl⟩
        have hr2 : ¬ 500 < r := fun q => hbig (hr.1 q)
        have hr3 : decide (500 < r) = false := by simpa using hr2
        clear hr
        go_wp2_with fail
        go_ret2
        exact ⟨_, by rw [E.out]; rfl, by rw [E.out]; exact HST.out, HB3.out⟩

end Go.Proofs.Ytnkldjijjpcmhaa.Strs
