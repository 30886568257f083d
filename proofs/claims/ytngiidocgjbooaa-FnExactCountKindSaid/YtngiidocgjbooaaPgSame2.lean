/-
  Comparing two nodes, two items, two slices of them: whether they read alike, by the program.
-/
import Derived.Test.YtngiidocgjbooaaPgSame
namespace Go.Proofs.Ytngiidocgjbooaa.Pg
open Go.ChangeShapes Go.WideShapes Go.ChangeAt Go.RowKit Go.PlainAid
open Go.Proofs.Ytngiidocgjbooaa.PgPure
set_option linter.unusedVariables false

set_option maxHeartbeats 2000000 in
theorem same_N (B : Nat) (n m : Nd) (v v' : Value) (w : World) (hB : B ≤ w.heap.size) (hv : IntsAt B w v n.kids) (hv' : IntsAt B w v' m.kids) :
    Calls Try.prog 19 #[valN n v, valN m v'] w fun e w' => ∃ r, e = .returned (.bool r) ∧ (r = true ↔ n = m) ∧ Below w.heap.size w w' := by
  unfold valN
  have hb2 : ∀ o1 o2, Below B w ((w.alloc o1).alloc o2) := fun o1 o2 => ((Below.refl B w).alloc hB o1).alloc (by simp; omega) o2
  have hb4 : ∀ o1 o2, Below w.heap.size w ((w.alloc o1).alloc o2) := fun o1 o2 => ((Below.refl w.heap.size w).alloc (Nat.le_refl _) o1).alloc (by simp) o2
  by_cases h0 : n.kind = m.kind
  · skip
    by_cases h1 : n.s = m.s
    · have q1 := same_yes h1
      by_cases h2 : n.t = m.t
      · have q2 := same_yes h2
        by_cases h3 : n.n = m.n
        · skip
          have hall : n = m ↔ n.kids = m.kids := by
            cases n; cases m; simp_all
          have HA := Lib.hid hall; clear hall
          go_enter Try.func19, Try.ntmps19
          go_wp2_with fail
          refine (lib_equalInts B _ _ n.kids m.kids _ (by simp; omega) (hv.below (hb2 _ _) (Nat.le_refl _)) (hv'.below (hb2 _ _) (Nat.le_refl _))).mono ?_
          rintro e w' ⟨r, rfl, hr, hB1⟩
          have hBw := (hb4 _ _).trans (hB1.mono (by simp; omega))
          clear hB1 hb2 hb4
          have HR := Lib.hid hr; clear hr
          go_wp2_with fail
          go_ret
          exact ⟨_, rfl, by rw [HA.out]; simpa using HR.out, hBw⟩
        · have hne : ¬ n = m := fun e => h3 (by rw [e])
          have q3 : (n.n == m.n) = false := beq_eq_false_iff_ne.2 h3
          have HN := Lib.hid hne; clear hne
          go_enter Try.func19, Try.ntmps19
          go_wp2_with fail
          go_ret
          exact ⟨false, rfl, ⟨fun h => (by cases h), fun h => absurd h HN.out⟩, hb4 _ _⟩
      · have hne : ¬ n = m := fun e => h2 (by rw [e])
        have q2 := same_no h2
        have HN := Lib.hid hne; clear hne
        go_enter Try.func19, Try.ntmps19
        go_wp2_with fail
        go_ret
        exact ⟨false, rfl, ⟨fun h => (by cases h), fun h => absurd h HN.out⟩, hb4 _ _⟩
    · have hne : ¬ n = m := fun e => h1 (by rw [e])
      have q1 := same_no h1
      have HN := Lib.hid hne; clear hne
      go_enter Try.func19, Try.ntmps19
      go_wp2_with fail
      go_ret
      exact ⟨false, rfl, ⟨fun h => (by cases h), fun h => absurd h HN.out⟩, hb4 _ _⟩
  · have hne : ¬ n = m := fun e => h0 (by rw [e])
    have q0 : (n.kind == m.kind) = false := beq_eq_false_iff_ne.2 h0
    have HN := Lib.hid hne; clear hne
    go_enter Try.func19, Try.ntmps19
    go_wp2_with fail
    go_ret
    exact ⟨false, rfl, ⟨fun h => (by cases h), fun h => absurd h HN.out⟩, hb4 _ _⟩

set_option maxHeartbeats 2000000 in
theorem same_T (B : Nat) (n m : It) (v v' : Value) (w : World) (hB : B ≤ w.heap.size) (hv : StrsAt B w v n.params) (hv' : StrsAt B w v' m.params) :
    Calls Try.prog 21 #[valT n v, valT m v'] w fun e w' => ∃ r, e = .returned (.bool r) ∧ (r = true ↔ n = m) ∧ Below w.heap.size w w' := by
  unfold valT
  have hb2 : ∀ o1 o2, Below B w ((w.alloc o1).alloc o2) := fun o1 o2 => ((Below.refl B w).alloc hB o1).alloc (by simp; omega) o2
  have hb4 : ∀ o1 o2, Below w.heap.size w ((w.alloc o1).alloc o2) := fun o1 o2 => ((Below.refl w.heap.size w).alloc (Nat.le_refl _) o1).alloc (by simp) o2
  by_cases h0 : n.when = m.when
  · skip
    by_cases h1 : n.name = m.name
    · have q1 := same_yes h1
      by_cases h3 : n.cond = m.cond
      · skip
        by_cases h4 : n.body = m.body
        · skip
          have hall : n = m ↔ n.params = m.params := by
            cases n; cases m; simp_all
          have HA := Lib.hid hall; clear hall
          go_enter Try.func21, Try.ntmps21
          go_wp2_with fail
          refine (lib_equalTexts B _ _ n.params m.params _ (by simp; omega) (hv.below (hb2 _ _) (Nat.le_refl _)) (hv'.below (hb2 _ _) (Nat.le_refl _))).mono ?_
          rintro e w' ⟨r, rfl, hr, hB1⟩
          have f03 := (hB1.cell (p := ⟨w.heap.size, 3, none⟩) (by first | (simp; done) | (simp; omega))).trans (show _ = some (Value.int .i64 n.cond) by go_simp)
          have f13 := (hB1.cell (p := ⟨w.heap.size + 1, 3, none⟩) (by first | (simp; done) | (simp; omega))).trans (show _ = some (Value.int .i64 m.cond) by go_simp)
          have f04 := (hB1.cell (p := ⟨w.heap.size, 4, none⟩) (by first | (simp; done) | (simp; omega))).trans (show _ = some (Value.int .i64 n.body) by go_simp)
          have f14 := (hB1.cell (p := ⟨w.heap.size + 1, 4, none⟩) (by first | (simp; done) | (simp; omega))).trans (show _ = some (Value.int .i64 m.body) by go_simp)
          have hBw := (hb4 _ _).trans (hB1.mono (by simp; omega))
          clear hB1 hb2 hb4
          have HR := Lib.hid hr; clear hr
          cases r
          · skip
            go_wp2_with fail
            go_ret
            exact ⟨_, rfl, by rw [HA.out]; simpa using HR.out, hBw⟩
          · skip
            go_wp2_with fail
            go_ret
            exact ⟨_, rfl, by rw [HA.out]; simpa using HR.out, hBw⟩
        · have hne : ¬ n = m := fun e => h4 (by rw [e])
          have q4 : (n.body == m.body) = false := beq_eq_false_iff_ne.2 h4
          have HN := Lib.hid hne; clear hne
          go_enter Try.func21, Try.ntmps21
          go_wp2_with fail
          refine (lib_equalTexts B _ _ n.params m.params _ (by simp; omega) (hv.below (hb2 _ _) (Nat.le_refl _)) (hv'.below (hb2 _ _) (Nat.le_refl _))).mono ?_
          rintro e w' ⟨r, rfl, hr, hB1⟩
          have f03 := (hB1.cell (p := ⟨w.heap.size, 3, none⟩) (by first | (simp; done) | (simp; omega))).trans (show _ = some (Value.int .i64 n.cond) by go_simp)
          have f13 := (hB1.cell (p := ⟨w.heap.size + 1, 3, none⟩) (by first | (simp; done) | (simp; omega))).trans (show _ = some (Value.int .i64 m.cond) by go_simp)
          have f04 := (hB1.cell (p := ⟨w.heap.size, 4, none⟩) (by first | (simp; done) | (simp; omega))).trans (show _ = some (Value.int .i64 n.body) by go_simp)
          have f14 := (hB1.cell (p := ⟨w.heap.size + 1, 4, none⟩) (by first | (simp; done) | (simp; omega))).trans (show _ = some (Value.int .i64 m.body) by go_simp)
          have hBw := (hb4 _ _).trans (hB1.mono (by simp; omega))
          clear hB1 hb2 hb4
          clear hr
          cases r
          · skip
            go_wp2_with fail
            go_ret
            exact ⟨false, rfl, ⟨fun h => (by cases h), fun h => absurd h HN.out⟩, hBw⟩
          · skip
            go_wp2_with fail
            go_ret
            exact ⟨false, rfl, ⟨fun h => (by cases h), fun h => absurd h HN.out⟩, hBw⟩
      · have hne : ¬ n = m := fun e => h3 (by rw [e])
        have q3 : (n.cond == m.cond) = false := beq_eq_false_iff_ne.2 h3
        have HN := Lib.hid hne; clear hne
        go_enter Try.func21, Try.ntmps21
        go_wp2_with fail
        refine (lib_equalTexts B _ _ n.params m.params _ (by simp; omega) (hv.below (hb2 _ _) (Nat.le_refl _)) (hv'.below (hb2 _ _) (Nat.le_refl _))).mono ?_
        rintro e w' ⟨r, rfl, hr, hB1⟩
        have f03 := (hB1.cell (p := ⟨w.heap.size, 3, none⟩) (by first | (simp; done) | (simp; omega))).trans (show _ = some (Value.int .i64 n.cond) by go_simp)
        have f13 := (hB1.cell (p := ⟨w.heap.size + 1, 3, none⟩) (by first | (simp; done) | (simp; omega))).trans (show _ = some (Value.int .i64 m.cond) by go_simp)
        have f04 := (hB1.cell (p := ⟨w.heap.size, 4, none⟩) (by first | (simp; done) | (simp; omega))).trans (show _ = some (Value.int .i64 n.body) by go_simp)
        have f14 := (hB1.cell (p := ⟨w.heap.size + 1, 4, none⟩) (by first | (simp; done) | (simp; omega))).trans (show _ = some (Value.int .i64 m.body) by go_simp)
        have hBw := (hb4 _ _).trans (hB1.mono (by simp; omega))
        clear hB1 hb2 hb4
        clear hr
        cases r
        · skip
          go_wp2_with fail
          go_ret
          exact ⟨false, rfl, ⟨fun h => (by cases h), fun h => absurd h HN.out⟩, hBw⟩
        · skip
          go_wp2_with fail
          go_ret
          exact ⟨false, rfl, ⟨fun h => (by cases h), fun h => absurd h HN.out⟩, hBw⟩
    · have hne : ¬ n = m := fun e => h1 (by rw [e])
      have q1 := same_no h1
      have HN := Lib.hid hne; clear hne
      go_enter Try.func21, Try.ntmps21
      go_wp2_with fail
      go_ret
      exact ⟨false, rfl, ⟨fun h => (by cases h), fun h => absurd h HN.out⟩, hb4 _ _⟩
  · have hne : ¬ n = m := fun e => h0 (by rw [e])
    have q0 : (n.when == m.when) = false := beq_eq_false_iff_ne.2 h0
    have HN := Lib.hid hne; clear hne
    go_enter Try.func21, Try.ntmps21
    go_wp2_with fail
    go_ret
    exact ⟨false, rfl, ⟨fun h => (by cases h), fun h => absurd h HN.out⟩, hb4 _ _⟩

set_option maxHeartbeats 2000000 in
theorem same_Ns (B : Nat) (x x' : Value) (V V' : Nat → Value) (l m : List Nd) (w : World) (hB : B ≤ w.heap.size) (hx : NdsAt B w x V l) (hx' : NdsAt B w x' V' m) :
    Calls Try.prog 18 #[x, x', .func (.func 19) #[] #[]] w fun e w' => ∃ r, e = .returned (.bool r) ∧ (r = true ↔ l = m) ∧ Below w.heap.size w w' := by
  obtain ⟨ao, cap, rfl, hc1, hc2, hc3⟩ := hx
  obtain ⟨ao', cap', rfl, hd1, hd2, hd3⟩ := hx'
  have HC := Lib.hid hc3; clear hc3
  have HD := Lib.hid hd3; clear hd3
  unfold maxLen at hc2 hd2
  by_cases hlen : m.length = l.length
  · rw [hlen] at hd1 HD ⊢
    have HL := Lib.hid hlen; clear hlen
    go_enter Try.func18, Try.ntmps18
    go_wp2_with fail
    go_loopw [17] (fun i wr => ∃ (k : Nat), k ≤ l.length ∧ i = .int .i64 k ∧ Hid (∀ j, j < k → nthN l j = nthN m j) ∧ Below w.heap.size w wr)
      (fun i _ => l.length - (intOf i).toNat)
    case atStart => exact ⟨0, Nat.zero_le _, rfl, Lib.hid (fun j hj => absurd hj (Nat.not_lt_zero j)), Below.refl _ _⟩
    case round =>
      obtain ⟨k, hk, rfl, hE, hB1⟩ := hrel
      by_cases hkl : k < l.length
      · obtain ⟨b, off, rfl, hb, hN⟩ := HC.out k hkl
        obtain ⟨b', off', rfl, hb', hN'⟩ := HD.out k hkl
        have hbw : b < w.heap.size := by omega
        have hbw' : b' < w.heap.size := by omega
        have c0 := (hB1.cell (p := ⟨b, off + k * 5, none⟩) hbw).trans hN.c0
        have c1 := (hB1.cell (p := ⟨b, off + k * 5 + 1, none⟩) hbw).trans hN.c1
        have c2 := (hB1.cell (p := ⟨b, off + k * 5 + 2, none⟩) hbw).trans hN.c2
        have c3 := (hB1.cell (p := ⟨b, off + k * 5 + 3, none⟩) hbw).trans hN.c3
        have c4 := (hB1.cell (p := ⟨b, off + k * 5 + 4, none⟩) hbw).trans hN.c4
        have d0 := (hB1.cell (p := ⟨b', off' + k * 5, none⟩) hbw').trans hN'.c0
        have d1 := (hB1.cell (p := ⟨b', off' + k * 5 + 1, none⟩) hbw').trans hN'.c1
        have d2 := (hB1.cell (p := ⟨b', off' + k * 5 + 2, none⟩) hbw').trans hN'.c2
        have d3 := (hB1.cell (p := ⟨b', off' + k * 5 + 3, none⟩) hbw').trans hN'.c3
        have d4 := (hB1.cell (p := ⟨b', off' + k * 5 + 4, none⟩) hbw').trans hN'.c4
        have hk3 := hN.sub.below (hB1.mono hB) (Nat.le_refl _)
        have hk3' := hN'.sub.below (hB1.mono hB) (Nat.le_refl _)
        obtain ⟨ak, ck, ek, -⟩ := id hk3
        obtain ⟨ak', ck', ek', -⟩ := id hk3'
        rw [ek] at hk3 c4
        rw [ek'] at hk3' d4
        have hki : (k : Int) < (l.length : Int) := by omega
        have hszr := hB1.size
        have hbr : b < wr.heap.size := by omega
        have hbr' : b' < wr.heap.size := by omega
        have hb2 : ∀ o1 o2, Below wr.heap.size wr ((wr.alloc o1).alloc o2) := fun o1 o2 => ((Below.refl wr.heap.size wr).alloc (Nat.le_refl _) o1).alloc (by simp) o2
        clear hN hN'
        have hBr : B ≤ wr.heap.size := by omega
        go_wp2_with fail
        refine (same_N B _ _ _ _ _ (Nat.le_trans hBr (hb2 _ _).size) (hk3.below ((hb2 _ _).mono hBr) (Nat.le_refl _)) (hk3'.below ((hb2 _ _).mono hBr) (Nat.le_refl _))).mono ?_
        rintro e w' ⟨r, rfl, hr, hB2⟩
        have hB3 := hB1.trans (((hb2 _ _).trans (hB2.mono (hb2 _ _).size)).mono hszr)
        cases r
        · have hne : ¬ l = m := fun e => absurd (hr.2 (by rw [e])) (by simp)
          have HN := Lib.hid hne; clear hne hr hE
          go_wp2_with fail
          go_ret
          exact ⟨false, rfl, ⟨fun h => (by cases h), fun h => absurd h HN.out⟩, hB3⟩
        · have hE2 : Hid (∀ j, j < k + 1 → nthN l j = nthN m j) := Lib.hid fun j hj => by
            by_cases e : j = k
            · rw [e]; exact hr.1 rfl
            · exact hE.out j (by omega)
          clear hE hr
          go_wp2_with fail
          go_roundw
          case rel => exact ⟨k + 1, by omega, by go_num, hE2, hB3⟩
          case measure => simp [intOf]; omega
      · have e : k = l.length := by omega
        subst e
        have heq : l = m := nthN_ext HL.out.symm hE.out
        have HQ := Lib.hid heq; clear heq hE
        go_wp2_with fail
        go_ret
        exact ⟨true, rfl, ⟨fun _ => HQ.out, fun _ => rfl⟩, hB1⟩
  · have hli : ¬ (l.length : Int) = (m.length : Int) := by omega
    have hne : ¬ l = m := fun e => hlen (by rw [e])
    have HN := Lib.hid hne; clear hne
    go_enter Try.func18, Try.ntmps18
    go_wp2_with fail
    go_ret
    exact ⟨false, rfl, ⟨fun h => (by cases h), fun h => absurd h HN.out⟩, Below.refl _ _⟩

set_option maxHeartbeats 2000000 in
theorem same_Ts (B : Nat) (x x' : Value) (V V' : Nat → Value) (l m : List It) (w : World) (hB : B ≤ w.heap.size) (hx : ItsAt B w x V l) (hx' : ItsAt B w x' V' m) :
    Calls Try.prog 20 #[x, x', .func (.func 21) #[] #[]] w fun e w' => ∃ r, e = .returned (.bool r) ∧ (r = true ↔ l = m) ∧ Below w.heap.size w w' := by
  obtain ⟨ao, cap, rfl, hc1, hc2, hc3⟩ := hx
  obtain ⟨ao', cap', rfl, hd1, hd2, hd3⟩ := hx'
  have HC := Lib.hid hc3; clear hc3
  have HD := Lib.hid hd3; clear hd3
  unfold maxLen at hc2 hd2
  by_cases hlen : m.length = l.length
  · rw [hlen] at hd1 HD ⊢
    have HL := Lib.hid hlen; clear hlen
    go_enter Try.func20, Try.ntmps20
    go_wp2_with fail
    go_loopw [17] (fun i wr => ∃ (k : Nat), k ≤ l.length ∧ i = .int .i64 k ∧ Hid (∀ j, j < k → nthT l j = nthT m j) ∧ Below w.heap.size w wr)
      (fun i _ => l.length - (intOf i).toNat)
    case atStart => exact ⟨0, Nat.zero_le _, rfl, Lib.hid (fun j hj => absurd hj (Nat.not_lt_zero j)), Below.refl _ _⟩
    case round =>
      obtain ⟨k, hk, rfl, hE, hB1⟩ := hrel
      by_cases hkl : k < l.length
      · obtain ⟨b, off, rfl, hb, hN⟩ := HC.out k hkl
        obtain ⟨b', off', rfl, hb', hN'⟩ := HD.out k hkl
        have hbw : b < w.heap.size := by omega
        have hbw' : b' < w.heap.size := by omega
        have c0 := (hB1.cell (p := ⟨b, off + k * 5, none⟩) hbw).trans hN.c0
        have c1 := (hB1.cell (p := ⟨b, off + k * 5 + 1, none⟩) hbw).trans hN.c1
        have c2 := (hB1.cell (p := ⟨b, off + k * 5 + 2, none⟩) hbw).trans hN.c2
        have c3 := (hB1.cell (p := ⟨b, off + k * 5 + 3, none⟩) hbw).trans hN.c3
        have c4 := (hB1.cell (p := ⟨b, off + k * 5 + 4, none⟩) hbw).trans hN.c4
        have d0 := (hB1.cell (p := ⟨b', off' + k * 5, none⟩) hbw').trans hN'.c0
        have d1 := (hB1.cell (p := ⟨b', off' + k * 5 + 1, none⟩) hbw').trans hN'.c1
        have d2 := (hB1.cell (p := ⟨b', off' + k * 5 + 2, none⟩) hbw').trans hN'.c2
        have d3 := (hB1.cell (p := ⟨b', off' + k * 5 + 3, none⟩) hbw').trans hN'.c3
        have d4 := (hB1.cell (p := ⟨b', off' + k * 5 + 4, none⟩) hbw').trans hN'.c4
        have hk3 := hN.sub.below (hB1.mono hB) (Nat.le_refl _)
        have hk3' := hN'.sub.below (hB1.mono hB) (Nat.le_refl _)
        obtain ⟨ak, ck, ek, -⟩ := id hk3
        obtain ⟨ak', ck', ek', -⟩ := id hk3'
        rw [ek] at hk3 c2
        rw [ek'] at hk3' d2
        have hki : (k : Int) < (l.length : Int) := by omega
        have hszr := hB1.size
        have hbr : b < wr.heap.size := by omega
        have hbr' : b' < wr.heap.size := by omega
        have hb2 : ∀ o1 o2, Below wr.heap.size wr ((wr.alloc o1).alloc o2) := fun o1 o2 => ((Below.refl wr.heap.size wr).alloc (Nat.le_refl _) o1).alloc (by simp) o2
        clear hN hN'
        have hBr : B ≤ wr.heap.size := by omega
        go_wp2_with fail
        refine (same_T B _ _ _ _ _ (Nat.le_trans hBr (hb2 _ _).size) (hk3.below ((hb2 _ _).mono hBr) (Nat.le_refl _)) (hk3'.below ((hb2 _ _).mono hBr) (Nat.le_refl _))).mono ?_
        rintro e w' ⟨r, rfl, hr, hB2⟩
        have hB3 := hB1.trans (((hb2 _ _).trans (hB2.mono (hb2 _ _).size)).mono hszr)
        cases r
        · have hne : ¬ l = m := fun e => absurd (hr.2 (by rw [e])) (by simp)
          have HN := Lib.hid hne; clear hne hr hE
          go_wp2_with fail
          go_ret
          exact ⟨false, rfl, ⟨fun h => (by cases h), fun h => absurd h HN.out⟩, hB3⟩
        · have hE2 : Hid (∀ j, j < k + 1 → nthT l j = nthT m j) := Lib.hid fun j hj => by
            by_cases e : j = k
            · rw [e]; exact hr.1 rfl
            · exact hE.out j (by omega)
          clear hE hr
          go_wp2_with fail
          go_roundw
          case rel => exact ⟨k + 1, by omega, by go_num, hE2, hB3⟩
          case measure => simp [intOf]; omega
      · have e : k = l.length := by omega
        subst e
        have heq : l = m := nthT_ext HL.out.symm hE.out
        have HQ := Lib.hid heq; clear heq hE
        go_wp2_with fail
        go_ret
        exact ⟨true, rfl, ⟨fun _ => HQ.out, fun _ => rfl⟩, hB1⟩
  · have hli : ¬ (l.length : Int) = (m.length : Int) := by omega
    have hne : ¬ l = m := fun e => hlen (by rw [e])
    have HN := Lib.hid hne; clear hne
    go_enter Try.func20, Try.ntmps20
    go_wp2_with fail
    go_ret
    exact ⟨false, rfl, ⟨fun h => (by cases h), fun h => absurd h HN.out⟩, Below.refl _ _⟩

end Go.Proofs.Ytngiidocgjbooaa.Pg
