/-
  JoinFields of the program; whether joined fields fit.
-/
import Derived.Test.YtnkldjijjpcmhaaJoinSpec
import Derived.Test.YtnkldjijjpcmhaaShelf
import Derived.Test.YtnkldjijjpcmhaaSubPure
namespace Go.Proofs.Ytnkldjijjpcmhaa.Strs
open Go.ChangeShapes Go.WideShapes Go.ChangeAt Go.RowKit Go.PlainAid
open Go.Proofs.Ytnkldjijjpcmhaa.Dec
open Go.Proofs.Ytnkldjijjpcmhaa.DecPure Go.Proofs.Ytnkldjijjpcmhaa.ReadPure Go.Proofs.Ytnkldjijjpcmhaa.SubPure
set_option linter.unusedVariables false

theorem clone_of (s : ByteArray) (hs : s.size ≤ 1048576) (w : World) : Calls Try.prog 47 #[.string s] w fun e w' => e = .returned (.string s) ∧ Below w.heap.size w w' := by
  go_enter Try.func47, Try.ntmps47
  go_wp2_with (go_at_call 60; refine (Try.stringslite_Clone s _ (by omega)).mono ?_; rintro e w' ⟨rfl, hb⟩; have hbb := Lib.hid hb; clear hb)
  go_ret
  exact ⟨rfl, hbb.out⟩

/-- Says whether a size is at most 500. -/
def Fits (w : World) (n : Nat) (e : Ending) (w' : World) : Prop := e = .returned (.bool (decide (n ≤ 500))) ∧ w = w'

set_option maxRecDepth 100000 in
set_option maxHeartbeats 2000000 in
theorem impl_fits (v : Value) (l : List ByteArray) (hl : l.length ≤ 1048576) (w : World) (h : RdS w v l) : Calls Try.prog 46 #[v] w (Fits w (szJ l l.length)) := by
  obtain ⟨ao, cap, rfl, -, hc⟩ := h
  have HC := Lib.hid hc; clear hc
  go_enter Try.func46, Try.ntmps46
  go_wp2_with fail
  go_loop [3, 8] (fun m i => ∃ (k z : Nat), k ≤ l.length ∧ i = .int .i64 k ∧ m = .int .i64 z ∧ z + szJ l k = 500) (fun _ i => l.length - (intOf i).toNat)
  case atStart => exact ⟨0, 500, Nat.zero_le _, rfl, rfl, rfl⟩
  case round =>
    obtain ⟨k, z, hk, rfl, rfl, hz⟩ := hrel
    by_cases hlt : k < l.length
    · obtain ⟨b, off, rfl, c0, hs⟩ := HC.out k hlt
      have hat := szJ_at l hlt
      have hmo := szJ_mono l (show k + 1 ≤ l.length by omega)
      have hst : szJ l (k + 1) = szJ l k + (if 0 < k then 1 else 0) + (sat l k).size := rfl
      have HST := Lib.hid hst; clear hst
      have HMO := Lib.hid hmo; clear hmo
      have HZ := Lib.hid hz
      have hz5 : z ≤ 500 := by omega
      clear hz
      generalize hx : sat l k = x at *
      have HX := Lib.hid hx; clear hx
      have hki : (k : Int) < (l.length : Int) := by omega
      by_cases h0 : 0 < k
      · have hst2 : szJ l (k + 1) = szJ l k + 1 + x.size := by have := HST.out; rw [if_pos h0] at this; exact this
        have HS2 := Lib.hid hst2; clear hst2
        have h0i : (0 : Int) < (k : Int) := by omega
        by_cases hbig : z < x.size + 1
        · have hbi : (z : Int) - 1 < (x.size : Int) := by omega
          have HR : Hid (decide (szJ l l.length ≤ 500) = false) := Lib.hid (decide_eq_false (by have := HZ.out; have := HS2.out; have := HMO.out; omega))
          clear hbig
          go_wp2_with fail
          go_ret
          exact ⟨by rw [HR.out]; rfl, rfl⟩
        · have hbi : ¬ (z : Int) - 1 < (x.size : Int) := by omega
          obtain ⟨y, hy⟩ : ∃ y, z = y + 1 + x.size := ⟨z - 1 - x.size, by omega⟩
          have hye : (z : Int) - 1 - (x.size : Int) = (y : Int) := by omega
          clear hbig
          go_wp2_with fail
          go_round
          case rel => exact ⟨k + 1, y, by omega, by go_num, by go_num, by have := HZ.out; have := HS2.out; omega⟩
          case measure => simp [intOf]; omega
      · have h0d : decide (0 < k) = false := by simpa using h0
        have hst2 : szJ l (k + 1) = szJ l k + x.size := by have := HST.out; rw [if_neg h0] at this; exact this
        have HS2 := Lib.hid hst2; clear hst2
        by_cases hbig : z < x.size
        · have hbi : (z : Int) < (x.size : Int) := by omega
          have HR : Hid (decide (szJ l l.length ≤ 500) = false) := Lib.hid (decide_eq_false (by have := HZ.out; have := HS2.out; have := HMO.out; omega))
          go_wp2_with fail
          go_ret
          exact ⟨by rw [HR.out]; rfl, rfl⟩
        · have hbi : ¬ (z : Int) < (x.size : Int) := by omega
          have hbd : decide (z < x.size) = false := by simpa using hbig
          obtain ⟨y, hy⟩ : ∃ y, z = y + x.size := ⟨z - x.size, by omega⟩
          have hye : (z : Int) - (x.size : Int) = (y : Int) := by omega
          go_wp2_with fail
          go_round
          case rel => exact ⟨k + 1, y, by omega, by go_num, by go_num, by have := HZ.out; have := HS2.out; omega⟩
          case measure => simp [intOf]; omega
    · obtain rfl : k = l.length := by omega
      have HR : Hid (decide (szJ l l.length ≤ 500) = true) := Lib.hid (decide_eq_true (by omega))
      clear hlt hz
      go_wp2_with fail
      go_ret
      exact ⟨by rw [HR.out]; rfl, rfl⟩

theorem jn_join (x : ByteArray) (r : List ByteArray) : ∀ k, k ≤ r.length → (jnS (x :: r) (k + 1)).data.toList = Lib.join (((x :: r).take (k + 1)).map (·.data.toList)) [32]
  | 0, _ => by
    show (jnS (x :: r) 0 ++ sat (x :: r) 0).data.toList = _
    rw [ByteArray.data_append]
    simp [jnS, sat, Lib.join_one]
  | k + 1, h => by
    have ih := jn_join x r k (by omega)
    have e : jnS (x :: r) (k + 1 + 1) = jnS (x :: r) (k + 1) ++ ⟨#[32]⟩ ++ sat (x :: r) (k + 1) := by
      rw [jnS, if_pos (Nat.succ_pos k)]
    rw [e, ByteArray.data_append, ByteArray.data_append, Array.toList_append, Array.toList_append, ih]
    have hk : k < r.length := by omega
    have hs : sat (x :: r) (k + 1) = r[k] := by simp [sat, List.getD, hk]
    rw [hs, List.take_succ_cons, List.map_cons, Lib.join_cons, List.map_take, List.take_succ_cons, List.map_cons, Lib.join_cons, List.map_take]
    rw [Lib.joinTail_take_succ [32] (r.map (·.data.toList)) k (r[k].data.toList) (by rw [List.getElem?_map, List.getElem?_eq_getElem hk]; rfl)]
    simp [List.append_assoc]
theorem join_all (l : List ByteArray) : (⟨(Lib.join (l.map (·.data.toList)) [32]).toArray⟩ : ByteArray) = jnS l l.length := by
  rcases l with _ | ⟨x, r⟩
  · rfl
  · have := jn_join x r r.length (Nat.le_refl _)
    rw [show (x :: r).take (r.length + 1) = x :: r from List.take_of_length_le (by simp)] at this
    rw [← this]
    show _ = jnS (x :: r) (r.length + 1)
    simp

set_option maxRecDepth 100000 in
set_option maxHeartbeats 2000000 in
theorem join_in (v : Value) (l : List ByteArray) (hl : l.length ≤ 1048576) (hz : szJ l l.length ≤ 500) (w : World) (h : RdS w v l) : Calls Try.prog 48 #[v, .string ⟨#[32]⟩] w fun e w' => e = .returned (.string (jnS l l.length)) ∧ Below w.heap.size w w' := by
  obtain ⟨ao, cap, rfl, hcap, hc⟩ := h
  have hj := join_all l
  rcases l with _ | ⟨x, r⟩
  · exact (Try.strings_Join_none ao cap ⟨#[32]⟩ w).mono fun e w' ⟨he, hw⟩ => ⟨he, by rw [hw]; exact Below.refl _ _⟩
  · obtain ⟨b, off, rfl, c0, _⟩ := hc 0 (Nat.succ_pos _)
    have hb := World.block_lt_of_cell? w ⟨b, off + 0, none⟩ c0
    have hlen : (Lib.join ((x :: r).map (·.data.toList)) [32]).length = szJ (x :: r) (x :: r).length := by
      have := congrArg ByteArray.size hj
      rw [jnS_size] at this
      exact this
    refine (Try.strings_Join b off cap (x :: r) ⟨#[32]⟩ w (fun j y hy => ?_) hb (by omega) hcap (by show (Lib.join ((x :: r).map (·.data.toList)) [32]).length ≤ _; omega)).mono fun e w' ⟨he, hw⟩ => ⟨by rw [he]; exact congrArg (fun q => Ending.returned (.string q)) hj, hw⟩
    have hlt : j < (x :: r).length := (List.getElem?_eq_some_iff.1 hy).1
    obtain ⟨b2, off2, e2, c2, _⟩ := hc j hlt
    simp only [Option.some.injEq, Addr.mk.injEq, and_true] at e2
    obtain ⟨rfl, rfl⟩ := e2
    rw [c2]
    simp [sat, List.getD, hy]

set_option maxRecDepth 100000 in
set_option maxHeartbeats 2000000 in
theorem impl_join (v : Value) (l : List ByteArray) (hl : l.length ≤ 1048576) (w : World) (h : RdS w v l) : Calls Try.prog 19 #[v] w fun e w' => e = .returned (.string (joinP l)) ∧ Below w.heap.size w w' := by
  have hfit := impl_fits v l hl w h
  have hjn := fun hz => join_in v l hl hz w h
  obtain ⟨ao, cap, rfl, -, hc⟩ := h
  clear hc
  have HSZ := Lib.hid hfit; clear hfit
  by_cases h50 : 50 < l.length
  · have E : Hid (joinP l = ⟨#[]⟩) := Lib.hid (by unfold joinP; rw [if_pos (.inl h50)])
    have hi : (50 : Int) < (l.length : Int) := by omega
    clear hjn
    go_enter Try.func19, Try.ntmps19
    go_wp2_with fail
    go_ret
    exact ⟨by rw [E.out]; rfl, Below.refl _ _⟩
  have hi : ¬ (50 : Int) < (l.length : Int) := by omega
  have hid' : decide (50 < l.length) = false := by simpa using h50
  by_cases hbig : szJ l l.length ≤ 500
  · have E : Hid (joinP l = jnS l l.length) := Lib.hid (by unfold joinP; rw [if_neg (fun q => q.elim h50 (by omega))])
    have hsz := jnS_size l l.length
    have hd : decide (szJ l l.length ≤ 500) = true := decide_eq_true hbig
    have HJ := Lib.hid (hjn hbig)
    have hz : (jnS l l.length).size ≤ 500 := by omega
    generalize jnS l l.length = y at *
    have hcl := clone_of y (by omega)
    have HC := Lib.hid hcl
    clear hcl hjn hsz
    go_enter Try.func19, Try.ntmps19
    go_wp2_with (go_at_call 46; refine HSZ.out.mono ?_; rintro e w' ⟨rfl, rfl⟩)
    refine HJ.out.mono ?_
    rintro e w1 ⟨rfl, hB⟩
    have HB := Lib.hid hB; clear hB
    go_wp2_with (go_at_call 47; refine (HC.out _).mono ?_; rintro e w2 ⟨rfl, hB⟩; have HB2 := Lib.hid hB; clear hB)
    go_ret
    exact ⟨by rw [E.out]; rfl, HB.out.trans (HB2.out.mono HB.out.size)⟩
  · have E : Hid (joinP l = ⟨#[]⟩) := Lib.hid (by unfold joinP; rw [if_pos (.inr (by omega))])
    have hd : decide (szJ l l.length ≤ 500) = false := decide_eq_false hbig
    clear hjn
    go_enter Try.func19, Try.ntmps19
    go_wp2_with (go_at_call 46; refine HSZ.out.mono ?_; rintro e w' ⟨rfl, rfl⟩)
    go_ret
    exact ⟨by rw [E.out]; rfl, Below.refl _ _⟩

end Go.Proofs.Ytnkldjijjpcmhaa.Strs
