/-
  The size of joined fields, and JoinFields, of the model.
-/
import Derived.Test.YtnkldjijjpcmhaaStrs
namespace Go.Proofs.Ytnkldjijjpcmhaa.Strs
open Go.ChangeShapes Go.WideShapes Go.ChangeAt Go.RowKit Go.PlainAid
open Go.Proofs.Ytnkldjijjpcmhaa.Dec
open Go.Proofs.Ytnkldjijjpcmhaa.DecPure Go.Proofs.Ytnkldjijjpcmhaa.ReadPure
set_option linter.unusedVariables false

/-- A slice of strings that can be read. -/
def RdS (w : World) (v : Value) (l : List ByteArray) : Prop := ∃ ao cap, v = .slice ao l.length cap ∧ l.length ≤ cap ∧ ∀ i, i < l.length → ∃ b off, ao = some ⟨b, off, none⟩ ∧ w.cell? ⟨b, off + i, none⟩ = some (.string (sat l i)) ∧ (sat l i).size ≤ 1048576
theorem SR.read {B : Nat} {w : World} {v : Value} {l : List ByteArray} (h : SR B w v l) (hs : ∀ i, i < l.length → (sat l i).size ≤ 1048576) : RdS w v l := by
  obtain ⟨ao, cap, rfl⟩ := h.form
  have hcap : l.length ≤ cap := by
    rcases h.2 with ⟨q, q0⟩ | ⟨g', cap', cur, hv, _, _, hnc, _⟩
    · omega
    · simp only [Value.slice.injEq, true_and] at hv
      obtain ⟨_, rfl⟩ := hv
      exact hnc
  refine ⟨ao, cap, rfl, hcap, fun i hi => ?_⟩
  obtain ⟨g, c, e, c0, _⟩ := h.at hi
  simp only [Value.slice.injEq, true_and] at e
  obtain ⟨rfl, rfl⟩ := e
  exact ⟨g, 0, rfl, by rw [Nat.zero_add]; exact c0, hs i hi⟩
/-- How great the first k strings are with blanks between. -/
def szJ (l : List ByteArray) : Nat → Nat
  | 0 => 0
  | k + 1 => szJ l k + (if 0 < k then 1 else 0) + (sat l k).size
theorem szJ_mono (l : List ByteArray) : ∀ {k n : Nat}, k ≤ n → szJ l k ≤ szJ l n
  | k, 0, h => by obtain rfl : k = 0 := by omega
                  exact Nat.le_refl _
  | k, n + 1, h => by
    rcases Nat.lt_or_ge n k with q | q
    · obtain rfl : k = n + 1 := by omega
      exact Nat.le_refl _
    · have := szJ_mono l q
      rw [szJ]; omega
theorem szJ_at (l : List ByteArray) {k : Nat} (h : k < l.length) : (sat l k).size ≤ szJ l l.length := by
  have := szJ_mono l (show k + 1 ≤ l.length by omega)
  rw [szJ] at this; omega
def jnS (l : List ByteArray) : Nat → ByteArray
  | 0 => ⟨#[]⟩
  | k + 1 => if 0 < k then jnS l k ++ ⟨#[32]⟩ ++ sat l k else jnS l k ++ sat l k
theorem jnS_size (l : List ByteArray) : ∀ k, (jnS l k).size = szJ l k
  | 0 => rfl
  | k + 1 => by
    have := jnS_size l k
    have e1 : (⟨#[32]⟩ : ByteArray).size = 1 := rfl
    rw [jnS, szJ]
    split
    · rw [ByteArray.size_append, ByteArray.size_append]; omega
    · rw [ByteArray.size_append]; omega
def joinP (l : List ByteArray) : ByteArray := if 50 < l.length ∨ 500 < szJ l l.length then ⟨#[]⟩ else jnS l l.length

/-- What the size says: greater than 500 or not. -/
def Sized (w : World) (n : Nat) (e : Ending) (w' : World) : Prop := (∃ r : Int, e = .returned (.int .i64 r) ∧ (500 < r ↔ 500 < n)) ∧ w = w'

set_option maxRecDepth 100000 in
set_option maxHeartbeats 2000000 in
theorem spec_size (v : Value) (l : List ByteArray) (hl : l.length ≤ 1048576) (w : World) (h : RdS w v l) : Calls Try.prog 52 #[v] w (Sized w (szJ l l.length)) := by
  obtain ⟨ao, cap, rfl, -, hc⟩ := h
  have HC := Lib.hid hc; clear hc
  go_enter Try.func52, Try.ntmps52
  go_wp2_with fail
  go_loop [3, 4] (fun m i => ∃ k : Nat, k ≤ l.length ∧ i = .int .i64 k ∧ m = .int .i64 (szJ l k) ∧ szJ l k ≤ 501 * k) (fun _ i => l.length - (intOf i).toNat)
  case atStart => exact ⟨0, Nat.zero_le _, rfl, rfl, Nat.le_refl _⟩
  case round =>
    obtain ⟨k, hk, rfl, rfl, hz⟩ := hrel
    by_cases hlt : k < l.length
    · obtain ⟨b, off, rfl, c0, hs⟩ := HC.out k hlt
      have hat := szJ_at l hlt
      have hst : szJ l (k + 1) = szJ l k + (if 0 < k then 1 else 0) + (sat l k).size := rfl
      have HST := Lib.hid hst; clear hst
      generalize hx : sat l k = x at *
      have HX := Lib.hid hx; clear hx
      have hki : (k : Int) < (l.length : Int) := by omega
      by_cases hbig : 500 < x.size
      · have hbi : (500 : Int) < (x.size : Int) := by omega
        have hR : (500 : Int) < 501 ↔ 500 < szJ l l.length := ⟨fun _ => by omega, fun _ => by omega⟩
        have HR := Lib.hid hR; clear hR
        by_cases h0 : 0 < k
        · go_wp2_with fail
          go_ret
          exact ⟨⟨501, rfl, HR.out⟩, rfl⟩
        · have h0d : decide (0 < k) = false := by simpa using h0
          go_wp2_with fail
          go_ret
          exact ⟨⟨501, rfl, HR.out⟩, rfl⟩
      · have hbi : ¬ (500 : Int) < (x.size : Int) := by omega
        have hbd : decide (500 < x.size) = false := by simpa using hbig
        by_cases h0 : 0 < k
        · have hst2 : szJ l (k + 1) = szJ l k + 1 + x.size := by have := HST.out; rw [if_pos h0] at this; exact this
          have HS2 := Lib.hid hst2; clear hst2
          go_wp2_with fail
          go_round
          case rel => exact ⟨k + 1, by omega, by go_num, by rw [HS2.out]; go_num, by rw [HS2.out]; omega⟩
          case measure => simp [intOf]; omega
        · have h0d : decide (0 < k) = false := by simpa using h0
          have hst2 : szJ l (k + 1) = szJ l k + x.size := by have := HST.out; rw [if_neg h0] at this; exact this
          have HS2 := Lib.hid hst2; clear hst2
          go_wp2_with fail
          go_round
          case rel => exact ⟨k + 1, by omega, by go_num, by rw [HS2.out]; go_num, by rw [HS2.out]; omega⟩
          case measure => simp [intOf]; omega
    · obtain rfl : k = l.length := by omega
      clear hlt
      go_wp2_with fail
      go_ret
      exact ⟨⟨_, rfl, by constructor <;> intro q <;> omega⟩, rfl⟩

set_option maxRecDepth 100000 in
set_option maxHeartbeats 2000000 in
theorem spec_join (v : Value) (l : List ByteArray) (hl : l.length ≤ 1048576) (w : World) (h : RdS w v l) : Calls Try.prog 31 #[v] w fun e w' => e = .returned (.string (joinP l)) ∧ w = w' := by
  have hsz := spec_size v l hl w h
  obtain ⟨ao, cap, rfl, -, hc⟩ := h
  have HC := Lib.hid hc; clear hc
  have HSZ := Lib.hid hsz; clear hsz
  by_cases h50 : 50 < l.length
  · have E : Hid (joinP l = ⟨#[]⟩) := Lib.hid (by unfold joinP; rw [if_pos (.inl h50)])
    have hi : (50 : Int) < (l.length : Int) := by omega
    go_enter Try.func31, Try.ntmps31
    go_wp2_with fail
    go_ret
    exact ⟨by rw [E.out]; rfl, rfl⟩
  have hi : ¬ (50 : Int) < (l.length : Int) := by omega
  have hid' : decide (50 < l.length) = false := by simpa using h50
  by_cases hbig : 500 < szJ l l.length
  · have E : Hid (joinP l = ⟨#[]⟩) := Lib.hid (by unfold joinP; rw [if_pos (.inr hbig)])
    go_enter Try.func31, Try.ntmps31
    go_wp2_with fail
    refine HSZ.out.mono ?_
    rintro e w' ⟨⟨r, rfl, hr⟩, rfl⟩
    have hr2 : 500 < r := hr.2 hbig
    clear hr
    go_wp2_with fail
    go_ret
    exact ⟨by rw [E.out]; rfl, rfl⟩
  · have E : Hid (joinP l = jnS l l.length) := Lib.hid (by unfold joinP; rw [if_neg (fun q => q.elim h50 hbig)])
    go_enter Try.func31, Try.ntmps31
    go_wp2_with fail
    refine HSZ.out.mono ?_
    rintro e w' ⟨⟨r, rfl, hr⟩, rfl⟩
    have hr2 : ¬ 500 < r := fun q => hbig (hr.1 q)
    have hr3 : decide (500 < r) = false := by simpa using hr2
    clear hr
    go_wp2_with fail
    go_loop [3, 4] (fun m i => ∃ k : Nat, k ≤ l.length ∧ i = .int .i64 k ∧ m = .string (jnS l k)) (fun _ i => l.length - (intOf i).toNat)
    case atStart => exact ⟨0, Nat.zero_le _, rfl, rfl⟩
    case round =>
      obtain ⟨k, hk, rfl, rfl⟩ := hrel
      have hjz := jnS_size l k
      have hjm := szJ_mono l hk
      by_cases hlt : k < l.length
      · obtain ⟨b, off, rfl, c0, hs⟩ := HC.out k hlt
        have hat := szJ_at l hlt
        have hst : jnS l (k + 1) = if 0 < k then jnS l k ++ ⟨#[32]⟩ ++ sat l k else jnS l k ++ sat l k := rfl
        have hyz : (jnS l k).size ≤ 500 := by omega
        have HST := Lib.hid hst; clear hst hjz
        generalize hx : sat l k = x at *
        generalize hy : jnS l k = y at *
        have HX := Lib.hid hx; clear hx
        have HY := Lib.hid hy; clear hy
        have hki : (k : Int) < (l.length : Int) := by omega
        have hxz : x.size ≤ 500 := by omega
        by_cases h0 : 0 < k
        · have hst2 : jnS l (k + 1) = y ++ ⟨#[32]⟩ ++ x := by have := HST.out; rw [if_pos h0] at this; exact this
          have HS2 := Lib.hid hst2; clear hst2
          have hz3 : (y ++ ⟨#[32]⟩).size ≤ 501 := by rw [ByteArray.size_append]; have : (⟨#[32]⟩ : ByteArray).size = 1 := rfl; omega
          go_wp2_with fail
          go_round
          case rel => exact ⟨k + 1, by omega, by go_num, by rw [HS2.out]⟩
          case measure => simp [intOf]; omega
        · have h0d : decide (0 < k) = false := by simpa using h0
          have hst2 : jnS l (k + 1) = y ++ x := by have := HST.out; rw [if_neg h0] at this; exact this
          have HS2 := Lib.hid hst2; clear hst2
          go_wp2_with fail
          go_round
          case rel => exact ⟨k + 1, by omega, by go_num, by rw [HS2.out]⟩
          case measure => simp [intOf]; omega
      · obtain rfl : k = l.length := by omega
        clear hlt hjz
        go_wp2_with fail
        go_ret
        exact ⟨by rw [E.out]; rfl, rfl⟩

end Go.Proofs.Ytnkldjijjpcmhaa.Strs
