/-
  Comparing two slices of integers, two of texts: whether they read alike, by the model and by Go's library.
-/
import Derived.Test.YtngiidocgjbooaaPgProg
namespace Go.Proofs.Ytngiidocgjbooaa.Pg
open Go.ChangeShapes Go.WideShapes Go.ChangeAt Go.RowKit Go.PlainAid
open Go.Proofs.Ytngiidocgjbooaa.PgPure
set_option linter.unusedVariables false

theorem gi_ext {l m : List Int} (h : l.length = m.length) (he : ∀ i, i < l.length → gi l i = gi m i) : l = m := List.ext_getElem h (fun i h1 h2 => by rw [← gi_eq h1, ← gi_eq h2]; exact he i h1)
theorem gs_ext {l m : List ByteArray} (h : l.length = m.length) (he : ∀ i, i < l.length → gs l i = gs m i) : l = m := List.ext_getElem h (fun i h1 h2 => by rw [← gs_eq h1, ← gs_eq h2]; exact he i h1)
theorem nthN_ext {l m : List Nd} (h : l.length = m.length) (he : ∀ i, i < l.length → nthN l i = nthN m i) : l = m := List.ext_getElem h (fun i h1 h2 => by rw [← nthN_eq h1, ← nthN_eq h2]; exact he i h1)
theorem nthT_ext {l m : List It} (h : l.length = m.length) (he : ∀ i, i < l.length → nthT l i = nthT m i) : l = m := List.ext_getElem h (fun i h1 h2 => by rw [← nthT_eq h1, ← nthT_eq h2]; exact he i h1)

set_option maxHeartbeats 1000000 in
theorem spec_sameInts (B : Nat) (v v' : Value) (l m : List Int) (w : World) (hB : B ≤ w.heap.size) (hv : IntsAt B w v l) (hv' : IntsAt B w v' m) :
    Calls Try.prog 14 #[v, v'] w fun e w' => ∃ r, e = .returned (.bool r) ∧ (r = true ↔ l = m) ∧ Below w.heap.size w w' := by
  obtain ⟨ao, cap, rfl, hc1, hc2, hc3⟩ := hv
  obtain ⟨ao', cap', rfl, hd1, hd2, hd3⟩ := hv'
  have HC := Lib.hid hc3; clear hc3
  have HD := Lib.hid hd3; clear hd3
  unfold maxLen at hc2 hd2
  by_cases hlen : m.length = l.length
  · rw [hlen] at hd1 HD ⊢
    have HL := Lib.hid hlen; clear hlen
    go_enter Try.func14, Try.ntmps14
    go_wp2_with fail
    go_loopw [5] (fun i wr => ∃ (k : Nat), k ≤ l.length ∧ i = .int .i64 k ∧ Hid (∀ j, j < k → gi l j = gi m j) ∧ Below w.heap.size w wr)
      (fun i _ => l.length - (intOf i).toNat)
    case atStart => exact ⟨0, Nat.zero_le _, rfl, Lib.hid (fun j hj => absurd hj (Nat.not_lt_zero j)), Below.refl _ _⟩
    case round =>
      obtain ⟨k, hk, rfl, hE, hB1⟩ := hrel
      by_cases hkl : k < l.length
      · obtain ⟨b, off, rfl, hb, hN⟩ := HC.out k hkl
        obtain ⟨b', off', rfl, hb', hN'⟩ := HD.out k hkl
        have c0 := (hB1.cell (p := ⟨b, off + k, none⟩) (show b < _ by omega)).trans hN
        have c1 := (hB1.cell (p := ⟨b', off' + k, none⟩) (show b' < _ by omega)).trans hN'
        have hki : (k : Int) < (l.length : Int) := by omega
        clear hN hN'
        by_cases he : gi l k = gi m k
        · have hE2 : Hid (∀ j, j < k + 1 → gi l j = gi m j) := Lib.hid fun j hj => by
            by_cases e : j = k
            · rw [e]; exact he
            · exact hE.out j (by omega)
          clear hE
          go_wp2_with fail
          go_quiet (fail)
          go_wp2_with fail
          go_roundw
          case rel => exact ⟨k + 1, by omega, by go_num, hE2, hB1.trans ⟨rfl, rfl, rfl, Nat.le_refl _, fun _ _ => rfl⟩⟩
          case measure => simp [intOf]; omega
        · clear hE
          have hne : ¬ l = m := fun e => he (by rw [e])
          have HN := Lib.hid hne; clear hne
          skip
          go_wp2_with fail
          go_quiet (fail)
          go_wp2_with fail
          go_ret
          exact ⟨false, rfl, ⟨fun h => (by cases h), fun h => absurd h HN.out⟩, hB1.trans ⟨rfl, rfl, rfl, Nat.le_refl _, fun _ _ => rfl⟩⟩
      · have e : k = l.length := by omega
        subst e
        have heq : l = m := gi_ext HL.out.symm hE.out
        have HQ := Lib.hid heq; clear heq hE
        go_wp2_with fail
        go_ret
        exact ⟨true, rfl, ⟨fun _ => HQ.out, fun _ => rfl⟩, hB1⟩
  · have hli : ¬ (l.length : Int) = (m.length : Int) := by omega
    have hne : ¬ l = m := fun e => hlen (by rw [e])
    have HN := Lib.hid hne; clear hne
    go_enter Try.func14, Try.ntmps14
    go_wp2_with fail
    go_ret
    exact ⟨false, rfl, ⟨fun h => (by cases h), fun h => absurd h HN.out⟩, Below.refl _ _⟩

set_option maxHeartbeats 1000000 in
theorem spec_sameTexts (B : Nat) (v v' : Value) (l m : List ByteArray) (w : World) (hB : B ≤ w.heap.size) (hv : StrsAt B w v l) (hv' : StrsAt B w v' m) :
    Calls Try.prog 15 #[v, v'] w fun e w' => ∃ r, e = .returned (.bool r) ∧ (r = true ↔ l = m) ∧ Below w.heap.size w w' := by
  obtain ⟨ao, cap, rfl, hc1, hc2, hc3⟩ := hv
  obtain ⟨ao', cap', rfl, hd1, hd2, hd3⟩ := hv'
  have HC := Lib.hid hc3; clear hc3
  have HD := Lib.hid hd3; clear hd3
  unfold maxLen at hc2 hd2
  by_cases hlen : m.length = l.length
  · rw [hlen] at hd1 HD ⊢
    have HL := Lib.hid hlen; clear hlen
    go_enter Try.func15, Try.ntmps15
    go_wp2_with fail
    go_loopw [5] (fun i wr => ∃ (k : Nat), k ≤ l.length ∧ i = .int .i64 k ∧ Hid (∀ j, j < k → gs l j = gs m j) ∧ Below w.heap.size w wr)
      (fun i _ => l.length - (intOf i).toNat)
    case atStart => exact ⟨0, Nat.zero_le _, rfl, Lib.hid (fun j hj => absurd hj (Nat.not_lt_zero j)), Below.refl _ _⟩
    case round =>
      obtain ⟨k, hk, rfl, hE, hB1⟩ := hrel
      by_cases hkl : k < l.length
      · obtain ⟨b, off, rfl, hb, hN, hs⟩ := HC.out k hkl
        obtain ⟨b', off', rfl, hb', hN', hs'⟩ := HD.out k hkl
        have c0 := (hB1.cell (p := ⟨b, off + k, none⟩) (show b < _ by omega)).trans hN
        have c1 := (hB1.cell (p := ⟨b', off' + k, none⟩) (show b' < _ by omega)).trans hN'
        have hki : (k : Int) < (l.length : Int) := by omega
        clear hN hN'
        by_cases he : gs l k = gs m k
        · have hE2 : Hid (∀ j, j < k + 1 → gs l j = gs m j) := Lib.hid fun j hj => by
            by_cases e : j = k
            · rw [e]; exact he
            · exact hE.out j (by omega)
          clear hE
          go_wp2_with fail
          go_quiet (fail)
          go_wp2_with fail
          exact ⟨⟨k + 1, by omega, by go_num, hE2, hB1.trans ⟨rfl, rfl, rfl, Nat.le_refl _, fun _ _ => rfl⟩⟩, by simp [intOf]; omega⟩
        · clear hE
          have hne : ¬ l = m := fun e => he (by rw [e])
          have HN := Lib.hid hne; clear hne
          have q0 := same_no he
          go_wp2_with fail
          go_quiet (fail)
          go_wp2_with fail
          go_ret
          exact ⟨false, rfl, ⟨fun h => (by cases h), fun h => absurd h HN.out⟩, hB1.trans ⟨rfl, rfl, rfl, Nat.le_refl _, fun _ _ => rfl⟩⟩
      · have e : k = l.length := by omega
        subst e
        have heq : l = m := gs_ext HL.out.symm hE.out
        have HQ := Lib.hid heq; clear heq hE
        go_wp2_with fail
        go_ret
        exact ⟨true, rfl, ⟨fun _ => HQ.out, fun _ => rfl⟩, hB1⟩
  · have hli : ¬ (l.length : Int) = (m.length : Int) := by omega
    have hne : ¬ l = m := fun e => hlen (by rw [e])
    have HN := Lib.hid hne; clear hne
    go_enter Try.func15, Try.ntmps15
    go_wp2_with fail
    go_ret
    exact ⟨false, rfl, ⟨fun h => (by cases h), fun h => absurd h HN.out⟩, Below.refl _ _⟩

set_option maxHeartbeats 1000000 in
theorem lib_equalInts (B : Nat) (v v' : Value) (l m : List Int) (w : World) (hB : B ≤ w.heap.size) (hv : IntsAt B w v l) (hv' : IntsAt B w v' m) :
    Calls Try.prog 28 #[v, v'] w fun e w' => ∃ r, e = .returned (.bool r) ∧ (r = true ↔ l = m) ∧ Below w.heap.size w w' := by
  obtain ⟨ao, cap, rfl, hc1, hc2, hc3⟩ := hv
  obtain ⟨ao', cap', rfl, hd1, hd2, hd3⟩ := hv'
  have HC := Lib.hid hc3; clear hc3
  have HD := Lib.hid hd3; clear hd3
  unfold maxLen at hc2 hd2
  by_cases hlen : m.length = l.length
  · rw [hlen] at hd1 HD ⊢
    have HL := Lib.hid hlen; clear hlen
    go_enter Try.func28, Try.ntmps28
    go_wp2_with fail
    go_loopw [13] (fun i wr => ∃ (k : Nat), k ≤ l.length ∧ i = .int .i64 k ∧ Hid (∀ j, j < k → gi l j = gi m j) ∧ Below w.heap.size w wr)
      (fun i _ => l.length - (intOf i).toNat)
    case atStart => exact ⟨0, Nat.zero_le _, rfl, Lib.hid (fun j hj => absurd hj (Nat.not_lt_zero j)), Below.refl _ _⟩
    case round =>
      obtain ⟨k, hk, rfl, hE, hB1⟩ := hrel
      by_cases hkl : k < l.length
      · obtain ⟨b, off, rfl, hb, hN⟩ := HC.out k hkl
        obtain ⟨b', off', rfl, hb', hN'⟩ := HD.out k hkl
        have c0 := (hB1.cell (p := ⟨b, off + k, none⟩) (show b < _ by omega)).trans hN
        have c1 := (hB1.cell (p := ⟨b', off' + k, none⟩) (show b' < _ by omega)).trans hN'
        have hki : (k : Int) < (l.length : Int) := by omega
        clear hN hN'
        by_cases he : gi l k = gi m k
        · have hE2 : Hid (∀ j, j < k + 1 → gi l j = gi m j) := Lib.hid fun j hj => by
            by_cases e : j = k
            · rw [e]; exact he
            · exact hE.out j (by omega)
          clear hE
          go_wp2_with fail
          go_quiet (fail)
          go_wp2_with fail
          go_roundw
          case rel => exact ⟨k + 1, by omega, by go_num, hE2, hB1.trans ⟨rfl, rfl, rfl, Nat.le_refl _, fun _ _ => rfl⟩⟩
          case measure => simp [intOf]; omega
        · clear hE
          have hne : ¬ l = m := fun e => he (by rw [e])
          have HN := Lib.hid hne; clear hne
          skip
          go_wp2_with fail
          go_quiet (fail)
          go_wp2_with fail
          go_ret
          exact ⟨false, rfl, ⟨fun h => (by cases h), fun h => absurd h HN.out⟩, hB1.trans ⟨rfl, rfl, rfl, Nat.le_refl _, fun _ _ => rfl⟩⟩
      · have e : k = l.length := by omega
        subst e
        have heq : l = m := gi_ext HL.out.symm hE.out
        have HQ := Lib.hid heq; clear heq hE
        go_wp2_with fail
        go_ret
        exact ⟨true, rfl, ⟨fun _ => HQ.out, fun _ => rfl⟩, hB1⟩
  · have hli : ¬ (l.length : Int) = (m.length : Int) := by omega
    have hne : ¬ l = m := fun e => hlen (by rw [e])
    have HN := Lib.hid hne; clear hne
    go_enter Try.func28, Try.ntmps28
    go_wp2_with fail
    go_ret
    exact ⟨false, rfl, ⟨fun h => (by cases h), fun h => absurd h HN.out⟩, Below.refl _ _⟩

set_option maxHeartbeats 1000000 in
theorem lib_equalTexts (B : Nat) (v v' : Value) (l m : List ByteArray) (w : World) (hB : B ≤ w.heap.size) (hv : StrsAt B w v l) (hv' : StrsAt B w v' m) :
    Calls Try.prog 29 #[v, v'] w fun e w' => ∃ r, e = .returned (.bool r) ∧ (r = true ↔ l = m) ∧ Below w.heap.size w w' := by
  obtain ⟨ao, cap, rfl, hc1, hc2, hc3⟩ := hv
  obtain ⟨ao', cap', rfl, hd1, hd2, hd3⟩ := hv'
  have HC := Lib.hid hc3; clear hc3
  have HD := Lib.hid hd3; clear hd3
  unfold maxLen at hc2 hd2
  by_cases hlen : m.length = l.length
  · rw [hlen] at hd1 HD ⊢
    have HL := Lib.hid hlen; clear hlen
    go_enter Try.func29, Try.ntmps29
    go_wp2_with fail
    go_loopw [13] (fun i wr => ∃ (k : Nat), k ≤ l.length ∧ i = .int .i64 k ∧ Hid (∀ j, j < k → gs l j = gs m j) ∧ Below w.heap.size w wr)
      (fun i _ => l.length - (intOf i).toNat)
    case atStart => exact ⟨0, Nat.zero_le _, rfl, Lib.hid (fun j hj => absurd hj (Nat.not_lt_zero j)), Below.refl _ _⟩
    case round =>
      obtain ⟨k, hk, rfl, hE, hB1⟩ := hrel
      by_cases hkl : k < l.length
      · obtain ⟨b, off, rfl, hb, hN, hs⟩ := HC.out k hkl
        obtain ⟨b', off', rfl, hb', hN', hs'⟩ := HD.out k hkl
        have c0 := (hB1.cell (p := ⟨b, off + k, none⟩) (show b < _ by omega)).trans hN
        have c1 := (hB1.cell (p := ⟨b', off' + k, none⟩) (show b' < _ by omega)).trans hN'
        have hki : (k : Int) < (l.length : Int) := by omega
        clear hN hN'
        by_cases he : gs l k = gs m k
        · have hE2 : Hid (∀ j, j < k + 1 → gs l j = gs m j) := Lib.hid fun j hj => by
            by_cases e : j = k
            · rw [e]; exact he
            · exact hE.out j (by omega)
          clear hE
          go_wp2_with fail
          go_quiet (fail)
          go_wp2_with fail
          exact ⟨⟨k + 1, by omega, by go_num, hE2, hB1.trans ⟨rfl, rfl, rfl, Nat.le_refl _, fun _ _ => rfl⟩⟩, by simp [intOf]; omega⟩
        · clear hE
          have hne : ¬ l = m := fun e => he (by rw [e])
          have HN := Lib.hid hne; clear hne
          have q0 := same_no he
          go_wp2_with fail
          go_quiet (fail)
          go_wp2_with fail
          go_ret
          exact ⟨false, rfl, ⟨fun h => (by cases h), fun h => absurd h HN.out⟩, hB1.trans ⟨rfl, rfl, rfl, Nat.le_refl _, fun _ _ => rfl⟩⟩
      · have e : k = l.length := by omega
        subst e
        have heq : l = m := gs_ext HL.out.symm hE.out
        have HQ := Lib.hid heq; clear heq hE
        go_wp2_with fail
        go_ret
        exact ⟨true, rfl, ⟨fun _ => HQ.out, fun _ => rfl⟩, hB1⟩
  · have hli : ¬ (l.length : Int) = (m.length : Int) := by omega
    have hne : ¬ l = m := fun e => hlen (by rw [e])
    have HN := Lib.hid hne; clear hne
    go_enter Try.func29, Try.ntmps29
    go_wp2_with fail
    go_ret
    exact ⟨false, rfl, ⟨fun h => (by cases h), fun h => absurd h HN.out⟩, Below.refl _ _⟩

end Go.Proofs.Ytngiidocgjbooaa.Pg
