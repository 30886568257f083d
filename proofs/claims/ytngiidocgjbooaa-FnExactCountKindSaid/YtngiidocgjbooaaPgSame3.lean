/-
  SameProg and CountKind: the program's functions and the model's, over programs read in a world.
-/
import Derived.Test.YtngiidocgjbooaaPgSame2
namespace Go.Proofs.Ytngiidocgjbooaa.Pg
open Go.ChangeShapes Go.WideShapes Go.ChangeAt Go.RowKit Go.PlainAid
open Go.Proofs.Ytngiidocgjbooaa.PgPure
set_option linter.unusedVariables false

theorem pg_iff {p q : Pg} : p = q ↔ p.l = q.l ∧ p.items = q.items := by cases p; cases q; simp
theorem extN {a b : Nd} (h0 : a.kind = b.kind) (h1 : a.s = b.s) (h2 : a.t = b.t) (h3 : a.n = b.n) : a = b ↔ a.kids = b.kids := by cases a; cases b; simp_all
theorem extT {a b : It} (h0 : a.when = b.when) (h1 : a.name = b.name) (h2 : a.cond = b.cond) (h3 : a.body = b.body) : a = b ↔ a.params = b.params := by cases a; cases b; simp_all

set_option maxHeartbeats 2000000 in
theorem impl_SameProg (B : Nat) (lv iv : Value) (V U : Nat → Value) (p : Pg) (lv' iv' : Value) (V' U' : Nat → Value) (q : Pg) (w : World) (hB : B ≤ w.heap.size) (hp : PgAt B w lv iv V U p) (hq : PgAt B w lv' iv' V' U' q) :
    Calls Try.prog 8 #[.agg #[lv, iv], .agg #[lv', iv']] w fun e w' => ∃ r, e = .returned (.bool r) ∧ (r = true ↔ p = q) ∧ Below w.heap.size w w' := by
  obtain ⟨hN, hT⟩ := hp
  obtain ⟨hN', hT'⟩ := hq
  have hb2 : ∀ o1 o2, Below B w ((w.alloc o1).alloc o2) := fun o1 o2 => ((Below.refl B w).alloc hB o1).alloc (by simp; omega) o2
  have hb4 : ∀ o1 o2, Below w.heap.size w ((w.alloc o1).alloc o2) := fun o1 o2 => ((Below.refl w.heap.size w).alloc (Nat.le_refl _) o1).alloc (by simp) o2
  go_enter Try.func8, Try.ntmps8
  go_wp2_with fail
  refine (same_Ns B _ _ _ _ p.l q.l _ (by simp; omega) (hN.below (hb2 _ _) (Nat.le_refl _)) (hN'.below (hb2 _ _) (Nat.le_refl _))).mono ?_
  rintro e w1 ⟨r, rfl, hr, hB1⟩
  have hBw := (hb4 _ _).trans (hB1.mono (by simp; omega))
  have f0 := (hB1.cell (p := ⟨w.heap.size, 1, none⟩) (by first | (simp; done) | (simp; omega))).trans (show _ = some (iv : Value) by go_simp)
  have f1 := (hB1.cell (p := ⟨w.heap.size + 1, 1, none⟩) (by first | (simp; done) | (simp; omega))).trans (show _ = some (iv' : Value) by go_simp)
  have hT1 := hT.below (hBw.mono hB) (Nat.le_refl _)
  have hT1' := hT'.below (hBw.mono hB) (Nat.le_refl _)
  have hsz := Nat.le_trans hB hBw.size
  clear hB1 hb2 hb4
  cases r
  · have hne : ¬ p = q := fun e => absurd (hr.2 (by rw [e])) (by simp)
    have HN := Lib.hid hne; clear hne hr
    go_wp2_with fail
    go_ret
    exact ⟨false, rfl, ⟨fun h => (by cases h), fun h => absurd h HN.out⟩, hBw⟩
  · have HL := Lib.hid (hr.1 rfl); clear hr
    go_wp2_with fail
    refine (same_Ts B _ _ _ _ p.items q.items _ hsz hT1 hT1').mono ?_
    rintro e w2 ⟨r, rfl, hr, hB2⟩
    have HR := Lib.hid hr; clear hr
    go_wp2_with fail
    go_ret
    exact ⟨_, rfl, HR.out.trans ⟨fun e => pg_iff.2 ⟨HL.out, e⟩, fun e => (pg_iff.1 e).2⟩, hBw.trans (hB2.mono hBw.size)⟩

/-- Two programs in boxes of the call's own. -/
structure Two (w wr : World) (lv iv lv' iv' : Value) : Prop where
  bel : Below w.heap.size w wr
  sz : w.heap.size + 1 < wr.heap.size
  a0 : wr.cell? ⟨w.heap.size, 0, none⟩ = some lv
  a1 : wr.cell? ⟨w.heap.size, 1, none⟩ = some iv
  b0 : wr.cell? ⟨w.heap.size + 1, 0, none⟩ = some lv'
  b1 : wr.cell? ⟨w.heap.size + 1, 1, none⟩ = some iv'
theorem Two.next {w wr w' : World} {lv iv lv' iv' : Value} (h : Two w wr lv iv lv' iv') (hb : Below wr.heap.size wr w') : Two w w' lv iv lv' iv' := by
  have hs := h.sz
  have hz := hb.size
  exact ⟨h.bel.trans (hb.mono (by omega)), by omega, (hb.cell (by show w.heap.size < _; omega)).trans h.a0, (hb.cell (by show w.heap.size < _; omega)).trans h.a1, (hb.cell (by show w.heap.size + 1 < _; omega)).trans h.b0, (hb.cell (by show w.heap.size + 1 < _; omega)).trans h.b1⟩

set_option maxRecDepth 100000 in
set_option maxHeartbeats 4000000 in
theorem spec_SameProg (B : Nat) (lv iv : Value) (V U : Nat → Value) (p : Pg) (lv' iv' : Value) (V' U' : Nat → Value) (q : Pg) (w : World) (hB : B ≤ w.heap.size) (hp : PgAt B w lv iv V U p) (hq : PgAt B w lv' iv' V' U' q) :
    Calls Try.prog 6 #[.agg #[lv, iv], .agg #[lv', iv']] w fun e w' => ∃ r, e = .returned (.bool r) ∧ (r = true ↔ p = q) ∧ Below w.heap.size w w' := by
  obtain ⟨⟨ao, cap, rfl, hc1, hc2, hc3⟩, ⟨aj, cup, rfl, hi1, hi2, hi3⟩⟩ := hp
  obtain ⟨⟨ao', cap', rfl, hd1, hd2, hd3⟩, ⟨aj', cup', rfl, hj1, hj2, hj3⟩⟩ := hq
  have HC := Lib.hid hc3; clear hc3
  have HD := Lib.hid hd3; clear hd3
  have HI := Lib.hid hi3; clear hi3
  have HJ := Lib.hid hj3; clear hj3
  unfold maxLen at hc2 hd2 hi2 hj2
  have hb4 : ∀ o1 o2, Below w.heap.size w ((w.alloc o1).alloc o2) := fun o1 o2 => ((Below.refl w.heap.size w).alloc (Nat.le_refl _) o1).alloc (by simp) o2
  by_cases hlen : q.l.length = p.l.length
  · by_cases hlen2 : q.items.length = p.items.length
    · rw [hlen] at hd1 HD ⊢
      rw [hlen2] at hj1 HJ ⊢
      have HLN := Lib.hid hlen; clear hlen
      have HLT := Lib.hid hlen2; clear hlen2
      have hT0 : Two w ((w.alloc (Obj.cells #[.slice ao p.l.length cap, .slice aj p.items.length cup] 31)).alloc (Obj.cells #[.slice ao' p.l.length cap', .slice aj' p.items.length cup'] 31)) (.slice ao p.l.length cap) (.slice aj p.items.length cup) (.slice ao' p.l.length cap') (.slice aj' p.items.length cup') :=
        ⟨hb4 _ _, by simp, by go_simp, by go_simp, by go_simp, by go_simp⟩
      have HT0 := Lib.hid hT0; clear hT0
      go_enter Try.func6, Try.ntmps6
      go_wp2_with fail
      go_loopw [5] (fun i wr => ∃ (k : Nat), k ≤ p.l.length ∧ i = .int .i64 k ∧ Hid (∀ j, j < k → nthN p.l j = nthN q.l j) ∧ Hid (Two w wr (.slice ao p.l.length cap) (.slice aj p.items.length cup) (.slice ao' p.l.length cap') (.slice aj' p.items.length cup')))
        (fun i _ => p.l.length - (intOf i).toNat)
      case atStart => exact ⟨0, Nat.zero_le _, rfl, Lib.hid (fun j hj => absurd hj (Nat.not_lt_zero j)), HT0⟩
      case round =>
        obtain ⟨k, hk, rfl, hE, hT⟩ := hrel
        have hB1 := hT.out.bel
        have a0 := hT.out.a0
        have a1 := hT.out.a1
        have b0 := hT.out.b0
        have b1 := hT.out.b1
        have s1 := hT.out.sz
        have s2 : w.heap.size < wr.heap.size := by omega
        by_cases hkl : k < p.l.length
        · obtain ⟨b, off, rfl, hb, hN⟩ := HC.out k hkl
          obtain ⟨b', off', rfl, hb', hN'⟩ := HD.out k hkl
          have hbw : b < w.heap.size := by omega
          have hbw' : b' < w.heap.size := by omega
          have hbr : b < wr.heap.size := by omega
          have hbr' : b' < wr.heap.size := by omega
          have c0 := (hB1.cell (p := ⟨b, off + k * 5, none⟩) hbw).trans hN.c0
          have c1 := (hB1.cell (p := ⟨b, off + k * 5 + 1, none⟩) hbw).trans hN.c1
          have c2 := (hB1.cell (p := ⟨b, off + k * 5 + 2, none⟩) hbw).trans hN.c2
          have c3 := (hB1.cell (p := ⟨b, off + k * 5 + 3, none⟩) hbw).trans hN.c3
          have c4 := (hB1.cell (p := ⟨b, off + k * 5 + 4, none⟩) hbw).trans hN.c4
          have d0 := (hB1.cell (p := ⟨b', off' + k * 5, none⟩) hbw').trans hN'.c0
          have d1 := (hB1.cell (p := ⟨b', off' + k * 5 + 1, none⟩) hbw').trans hN'.c1
          have d2 := (hB1.cell (p := ⟨b', off' + k * 5 + 2, none⟩) hbw').trans hN'.c2
          have d3 := (hB1.cell (p := ⟨b', off' + k * 5 + 3, none⟩) hbw').trans hN'.c3
          have d4 := (hB1.cell (p := ⟨b', off' + k * 5 + 4, none⟩) hbw').trans hN'.c4
          have hk3 := hN.sub.below (hB1.mono hB) (Nat.le_refl _)
          have hk3' := hN'.sub.below (hB1.mono hB) (Nat.le_refl _)
          obtain ⟨ak, ck, ek, -⟩ := id hk3
          obtain ⟨ak', ck', ek', -⟩ := id hk3'
          rw [ek] at hk3 c4
          rw [ek'] at hk3' d4
          have hki : (k : Int) < (p.l.length : Int) := by omega
          have hBr : B ≤ wr.heap.size := by omega
          have hb2 : ∀ o1 o2, Below wr.heap.size wr ((wr.alloc o1).alloc o2) := fun o1 o2 => ((Below.refl wr.heap.size wr).alloc (Nat.le_refl _) o1).alloc (by simp) o2
          clear hN hN'
          by_cases h0 : (nthN p.l k).kind = (nthN q.l k).kind
          · skip
            by_cases h1 : (nthN p.l k).s = (nthN q.l k).s
            · have q1 := same_yes h1
              by_cases h2 : (nthN p.l k).t = (nthN q.l k).t
              · have q2 := same_yes h2
                by_cases h3 : (nthN p.l k).n = (nthN q.l k).n
                · skip
                  have hall : nthN p.l k = nthN q.l k ↔ (nthN p.l k).kids = (nthN q.l k).kids := extN h0 h1 h2 h3
                  have HA := Lib.hid hall; clear hall
                  go_wp2_with fail
                  refine (spec_sameInts B _ _ (nthN p.l k).kids (nthN q.l k).kids _ (Nat.le_trans hBr (hb2 _ _).size) (hk3.below ((hb2 _ _).mono hBr) (Nat.le_refl _)) (hk3'.below ((hb2 _ _).mono hBr) (Nat.le_refl _))).mono ?_
                  rintro e w' ⟨r, rfl, hr, hB2⟩
                  have hB3 := (hb2 _ _).trans (hB2.mono (hb2 _ _).size)
                  have hT3 := Lib.hid (hT.out.next hB3)
                  have hB4 := hB1.trans (hB3.mono (by omega))
                  clear hB2 hb2
                  cases r
                  · have hne : ¬ p = q := fun e => absurd (hr.2 (HA.out.1 (by rw [e]))) (by simp)
                    have HN := Lib.hid hne; clear hne hr hE
                    go_wp2_with fail
                    go_ret
                    exact ⟨false, rfl, ⟨fun h => (by cases h), fun h => absurd h HN.out⟩, hB4⟩
                  · have hE2 : Hid (∀ j, j < k + 1 → nthN p.l j = nthN q.l j) := Lib.hid fun j hj => by
                      by_cases e : j = k
                      · rw [e]; exact HA.out.2 (hr.1 rfl)
                      · exact hE.out j (by omega)
                    clear hE hr
                    go_wp2_with fail
                    go_roundw
                    case rel => exact ⟨k + 1, by omega, by go_num, hE2, hT3⟩
                    case measure => simp [intOf]; omega
                · have hne : ¬ p = q := fun e => h3 (by rw [e])
                  have q3 : ((nthN p.l k).n == (nthN q.l k).n) = false := beq_eq_false_iff_ne.2 h3
                  have HN := Lib.hid hne; clear hne hE
                  go_wp2_with fail
                  go_ret
                  exact ⟨false, rfl, ⟨fun h => (by cases h), fun h => absurd h HN.out⟩, hB1.trans ((hb2 _ _).mono (by omega))⟩
              · have hne : ¬ p = q := fun e => h2 (by rw [e])
                have q2 := same_no h2
                have HN := Lib.hid hne; clear hne hE
                go_wp2_with fail
                go_ret
                exact ⟨false, rfl, ⟨fun h => (by cases h), fun h => absurd h HN.out⟩, hB1.trans ((hb2 _ _).mono (by omega))⟩
            · have hne : ¬ p = q := fun e => h1 (by rw [e])
              have q1 := same_no h1
              have HN := Lib.hid hne; clear hne hE
              go_wp2_with fail
              go_ret
              exact ⟨false, rfl, ⟨fun h => (by cases h), fun h => absurd h HN.out⟩, hB1.trans ((hb2 _ _).mono (by omega))⟩
          · have hne : ¬ p = q := fun e => h0 (by rw [e])
            have q0 : ((nthN p.l k).kind == (nthN q.l k).kind) = false := beq_eq_false_iff_ne.2 h0
            have HN := Lib.hid hne; clear hne hE
            go_wp2_with fail
            go_ret
            exact ⟨false, rfl, ⟨fun h => (by cases h), fun h => absurd h HN.out⟩, hB1.trans ((hb2 _ _).mono (by omega))⟩
        · have e : k = p.l.length := by omega
          subst e
          have heq : p.l = q.l := nthN_ext HLN.out.symm hE.out
          have HQN := Lib.hid heq; clear heq hE
          clear HT0
          have HT0 := hT
          go_wp2_with fail
          clear hT hB1 a0 a1 b0 b1 s1 s2
          go_loopw [8] (fun i wr => ∃ (k : Nat), k ≤ p.items.length ∧ i = .int .i64 k ∧ Hid (∀ j, j < k → nthT p.items j = nthT q.items j) ∧ Hid (Two w wr (.slice ao p.l.length cap) (.slice aj p.items.length cup) (.slice ao' p.l.length cap') (.slice aj' p.items.length cup')))
            (fun i _ => p.items.length - (intOf i).toNat)
          case atStart => exact ⟨0, Nat.zero_le _, rfl, Lib.hid (fun j hj => absurd hj (Nat.not_lt_zero j)), HT0⟩
          case round =>
            obtain ⟨k, hk, rfl, hE, hT⟩ := hrel
            have hB1 := hT.out.bel
            have a0 := hT.out.a0
            have a1 := hT.out.a1
            have b0 := hT.out.b0
            have b1 := hT.out.b1
            have s1 := hT.out.sz
            have s2 : w.heap.size < wr.heap.size := by omega
            by_cases hkl : k < p.items.length
            · obtain ⟨b, off, rfl, hb, hN⟩ := HI.out k hkl
              obtain ⟨b', off', rfl, hb', hN'⟩ := HJ.out k hkl
              have hbw : b < w.heap.size := by omega
              have hbw' : b' < w.heap.size := by omega
              have hbr : b < wr.heap.size := by omega
              have hbr' : b' < wr.heap.size := by omega
              have c0 := (hB1.cell (p := ⟨b, off + k * 5, none⟩) hbw).trans hN.c0
              have c1 := (hB1.cell (p := ⟨b, off + k * 5 + 1, none⟩) hbw).trans hN.c1
              have c2 := (hB1.cell (p := ⟨b, off + k * 5 + 2, none⟩) hbw).trans hN.c2
              have c3 := (hB1.cell (p := ⟨b, off + k * 5 + 3, none⟩) hbw).trans hN.c3
              have c4 := (hB1.cell (p := ⟨b, off + k * 5 + 4, none⟩) hbw).trans hN.c4
              have d0 := (hB1.cell (p := ⟨b', off' + k * 5, none⟩) hbw').trans hN'.c0
              have d1 := (hB1.cell (p := ⟨b', off' + k * 5 + 1, none⟩) hbw').trans hN'.c1
              have d2 := (hB1.cell (p := ⟨b', off' + k * 5 + 2, none⟩) hbw').trans hN'.c2
              have d3 := (hB1.cell (p := ⟨b', off' + k * 5 + 3, none⟩) hbw').trans hN'.c3
              have d4 := (hB1.cell (p := ⟨b', off' + k * 5 + 4, none⟩) hbw').trans hN'.c4
              have hk3 := hN.sub.below (hB1.mono hB) (Nat.le_refl _)
              have hk3' := hN'.sub.below (hB1.mono hB) (Nat.le_refl _)
              obtain ⟨ak, ck, ek, -⟩ := id hk3
              obtain ⟨ak', ck', ek', -⟩ := id hk3'
              rw [ek] at hk3 c2
              rw [ek'] at hk3' d2
              have hki : (k : Int) < (p.items.length : Int) := by omega
              have hBr : B ≤ wr.heap.size := by omega
              have hb2 : ∀ o1 o2, Below wr.heap.size wr ((wr.alloc o1).alloc o2) := fun o1 o2 => ((Below.refl wr.heap.size wr).alloc (Nat.le_refl _) o1).alloc (by simp) o2
              clear hN hN'
              by_cases h0 : (nthT p.items k).when = (nthT q.items k).when
              · skip
                by_cases h1 : (nthT p.items k).name = (nthT q.items k).name
                · have q1 := same_yes h1
                  by_cases h2 : (nthT p.items k).cond = (nthT q.items k).cond
                  · skip
                    by_cases h3 : (nthT p.items k).body = (nthT q.items k).body
                    · skip
                      have hall : nthT p.items k = nthT q.items k ↔ (nthT p.items k).params = (nthT q.items k).params := extT h0 h1 h2 h3
                      have HA := Lib.hid hall; clear hall
                      go_wp2_with fail
                      refine (spec_sameTexts B _ _ (nthT p.items k).params (nthT q.items k).params _ (Nat.le_trans hBr (hb2 _ _).size) (hk3.below ((hb2 _ _).mono hBr) (Nat.le_refl _)) (hk3'.below ((hb2 _ _).mono hBr) (Nat.le_refl _))).mono ?_
                      rintro e w' ⟨r, rfl, hr, hB2⟩
                      have hB3 := (hb2 _ _).trans (hB2.mono (hb2 _ _).size)
                      have hT3 := Lib.hid (hT.out.next hB3)
                      have hB4 := hB1.trans (hB3.mono (by omega))
                      clear hB2 hb2
                      cases r
                      · have hne : ¬ p = q := fun e => absurd (hr.2 (HA.out.1 (by rw [e]))) (by simp)
                        have HN := Lib.hid hne; clear hne hr hE
                        go_wp2_with fail
                        go_ret
                        exact ⟨false, rfl, ⟨fun h => (by cases h), fun h => absurd h HN.out⟩, hB4⟩
                      · have hE2 : Hid (∀ j, j < k + 1 → nthT p.items j = nthT q.items j) := Lib.hid fun j hj => by
                          by_cases e : j = k
                          · rw [e]; exact HA.out.2 (hr.1 rfl)
                          · exact hE.out j (by omega)
                        clear hE hr
                        go_wp2_with fail
                        go_roundw
                        case rel => exact ⟨k + 1, by omega, by go_num, hE2, hT3⟩
                        case measure => simp [intOf]; omega
                    · have hne : ¬ p = q := fun e => h3 (by rw [e])
                      have q3 : ((nthT p.items k).body == (nthT q.items k).body) = false := beq_eq_false_iff_ne.2 h3
                      have HN := Lib.hid hne; clear hne hE
                      go_wp2_with fail
                      go_ret
                      exact ⟨false, rfl, ⟨fun h => (by cases h), fun h => absurd h HN.out⟩, hB1.trans ((hb2 _ _).mono (by omega))⟩
                  · have hne : ¬ p = q := fun e => h2 (by rw [e])
                    have q2 : ((nthT p.items k).cond == (nthT q.items k).cond) = false := beq_eq_false_iff_ne.2 h2
                    have HN := Lib.hid hne; clear hne hE
                    go_wp2_with fail
                    go_ret
                    exact ⟨false, rfl, ⟨fun h => (by cases h), fun h => absurd h HN.out⟩, hB1.trans ((hb2 _ _).mono (by omega))⟩
                · have hne : ¬ p = q := fun e => h1 (by rw [e])
                  have q1 := same_no h1
                  have HN := Lib.hid hne; clear hne hE
                  go_wp2_with fail
                  go_ret
                  exact ⟨false, rfl, ⟨fun h => (by cases h), fun h => absurd h HN.out⟩, hB1.trans ((hb2 _ _).mono (by omega))⟩
              · have hne : ¬ p = q := fun e => h0 (by rw [e])
                have q0 : ((nthT p.items k).when == (nthT q.items k).when) = false := beq_eq_false_iff_ne.2 h0
                have HN := Lib.hid hne; clear hne hE
                go_wp2_with fail
                go_ret
                exact ⟨false, rfl, ⟨fun h => (by cases h), fun h => absurd h HN.out⟩, hB1.trans ((hb2 _ _).mono (by omega))⟩
            · have e : k = p.items.length := by omega
              subst e
              have heq : p.items = q.items := nthT_ext HLT.out.symm hE.out
              have HQT := Lib.hid heq; clear heq hE
              go_wp2_with fail
              go_ret
              exact ⟨true, rfl, ⟨fun _ => pg_iff.2 ⟨HQN.out, HQT.out⟩, fun _ => rfl⟩, hB1⟩
    · have hli : ¬ (p.items.length : Int) = (q.items.length : Int) := by omega
      have hne : ¬ p = q := fun e => hlen2 (by rw [e])
      have HN := Lib.hid hne; clear hne
      rw [hlen]
      clear hlen2
      go_enter Try.func6, Try.ntmps6
      go_wp2_with fail
      go_ret
      exact ⟨false, rfl, ⟨fun h => (by cases h), fun h => absurd h HN.out⟩, hb4 _ _⟩
  · have hli : ¬ (p.l.length : Int) = (q.l.length : Int) := by omega
    have hne : ¬ p = q := fun e => hlen (by rw [e])
    have HN := Lib.hid hne; clear hne
    go_enter Try.func6, Try.ntmps6
    go_wp2_with fail
    go_ret
    exact ⟨false, rfl, ⟨fun h => (by cases h), fun h => absurd h HN.out⟩, hb4 _ _⟩

/-- How many of the first nodes are of a kind. -/
def cntK (l : List Nd) (c : Int) : Nat → Nat
  | 0 => 0
  | i + 1 => cntK l c i + if (nthN l i).kind = c then 1 else 0
theorem cntK_le (l : List Nd) (c : Int) : ∀ i, cntK l c i ≤ i
  | 0 => Nat.le_refl _
  | i + 1 => by have := cntK_le l c i; rw [cntK]; split <;> omega
theorem cntK_yes {l : List Nd} {c : Int} {i : Nat} (h : (nthN l i).kind = c) : cntK l c (i + 1) = cntK l c i + 1 := by rw [cntK, if_pos h]
theorem cntK_no {l : List Nd} {c : Int} {i : Nat} (h : ¬ (nthN l i).kind = c) : cntK l c (i + 1) = cntK l c i := by rw [cntK, if_neg h]; rfl

set_option maxHeartbeats 2000000 in
theorem spec_CountKind (B : Nat) (lv iv : Value) (V U : Nat → Value) (p : Pg) (c : Int) (w : World) (hB : B ≤ w.heap.size) (hp : PgAt B w lv iv V U p) (hc : (Lit.int .i64 c).wf = true) :
    Calls Try.prog 10 #[.agg #[lv, iv], .int .i64 c] w fun e w' => e = .returned (.int .i64 (cntK p.l c p.l.length)) ∧ Below w.heap.size w w' := by
  obtain ⟨⟨ao, cap, rfl, hc1, hc2, hc3⟩, -⟩ := hp
  have HC := Lib.hid hc3; clear hc3
  unfold maxLen at hc2
  go_enter Try.func10, Try.ntmps10
  go_wp2_with fail
  go_loopw [5, 6] (fun n i wr => ∃ (k : Nat), k ≤ p.l.length ∧ i = .int .i64 k ∧ n = .int .i64 (cntK p.l c k) ∧ Below w.heap.size w wr ∧ wr.cell? ⟨w.heap.size, 0, none⟩ = some (.slice ao p.l.length cap) ∧ w.heap.size < wr.heap.size)
    (fun _ i _ => p.l.length - (intOf i).toNat)
  case atStart => exact ⟨0, Nat.zero_le _, rfl, rfl, (Below.refl _ _).alloc (Nat.le_refl _) _, by go_simp, by simp⟩
  case round =>
    obtain ⟨k, hk, rfl, rfl, hB1, a0, s2⟩ := hrel
    have hcl := cntK_le p.l c k
    by_cases hkl : k < p.l.length
    · obtain ⟨b, off, rfl, hb, hN⟩ := HC.out k hkl
      have hbw : b < w.heap.size := by omega
      have hbr : b < wr.heap.size := by omega
      have c0 := (hB1.cell (p := ⟨b, off + k * 5, none⟩) hbw).trans hN.c0
      have hk3 := hN.sub
      have hki : (k : Int) < (p.l.length : Int) := by omega
      clear hN
      by_cases he : (nthN p.l k).kind = c
      · skip
        have hcn := Lib.hid (cntK_yes he)
        go_wp2_with fail
        go_roundw
        case rel => exact ⟨k + 1, by omega, by go_num, by rw [hcn.out]; go_num, hB1, (by first | exact a0 | exact (Below.cell ((Below.refl wr.heap.size wr).alloc (Nat.le_refl _) _) (by show w.heap.size < _; omega)).trans a0), by first | exact s2 | (simp; omega)⟩
        case measure => simp [intOf]; omega
      · have q0 : ((nthN p.l k).kind == c) = false := beq_eq_false_iff_ne.2 he
        have hcn := Lib.hid (cntK_no he)
        go_wp2_with fail
        go_roundw
        case rel => exact ⟨k + 1, by omega, by go_num, by rw [hcn.out], hB1, (by first | exact a0 | exact (Below.cell ((Below.refl wr.heap.size wr).alloc (Nat.le_refl _) _) (by show w.heap.size < _; omega)).trans a0), by first | exact s2 | (simp; omega)⟩
        case measure => simp [intOf]; omega
    · have e : k = p.l.length := by omega
      subst e
      go_wp2_with fail
      go_ret
      exact ⟨rfl, hB1⟩

set_option maxHeartbeats 2000000 in
theorem impl_CountKind (B : Nat) (lv iv : Value) (V U : Nat → Value) (p : Pg) (c : Int) (w : World) (hB : B ≤ w.heap.size) (hp : PgAt B w lv iv V U p) (hc : (Lit.int .i64 c).wf = true) :
    Calls Try.prog 11 #[.agg #[lv, iv], .int .i64 c] w fun e w' => e = .returned (.int .i64 (cntK p.l c p.l.length)) ∧ Below w.heap.size w w' := by
  obtain ⟨⟨ao, cap, rfl, hc1, hc2, hc3⟩, -⟩ := hp
  have HC := Lib.hid hc3; clear hc3
  unfold maxLen at hc2
  go_enter Try.func11, Try.ntmps11
  go_wp2_with fail
  go_loopw [5, 11] (fun n i wr => ∃ (k : Nat), k ≤ p.l.length ∧ i = .int .i64 k ∧ n = .int .i64 (cntK p.l c k) ∧ Below w.heap.size w wr ∧ wr.cell? ⟨w.heap.size, 0, none⟩ = some (.slice ao p.l.length cap) ∧ w.heap.size < wr.heap.size)
    (fun _ i _ => p.l.length - (intOf i).toNat)
  case atStart => exact ⟨0, Nat.zero_le _, rfl, rfl, (Below.refl _ _).alloc (Nat.le_refl _) _, by go_simp, by simp⟩
  case round =>
    obtain ⟨k, hk, rfl, rfl, hB1, a0, s2⟩ := hrel
    have hcl := cntK_le p.l c k
    by_cases hkl : k < p.l.length
    · obtain ⟨b, off, rfl, hb, hN⟩ := HC.out k hkl
      have hbw : b < w.heap.size := by omega
      have hbr : b < wr.heap.size := by omega
      have c0 := (hB1.cell (p := ⟨b, off + k * 5, none⟩) hbw).trans hN.c0
      have c1 := (hB1.cell (p := ⟨b, off + k * 5 + 1, none⟩) hbw).trans hN.c1
      have c2 := (hB1.cell (p := ⟨b, off + k * 5 + 2, none⟩) hbw).trans hN.c2
      have c3 := (hB1.cell (p := ⟨b, off + k * 5 + 3, none⟩) hbw).trans hN.c3
      have c4 := (hB1.cell (p := ⟨b, off + k * 5 + 4, none⟩) hbw).trans hN.c4
      have hk3 := hN.sub
      obtain ⟨ak, ck, ek, -⟩ := id hk3
      rw [ek] at c4
      have hki : (k : Int) < (p.l.length : Int) := by omega
      clear hN
      by_cases he : (nthN p.l k).kind = c
      · skip
        have hcn := Lib.hid (cntK_yes he)
        go_wp2_with fail
        go_roundw
        case rel => exact ⟨k + 1, by omega, by go_num, by rw [hcn.out]; go_num, hB1.trans (((Below.refl wr.heap.size wr).alloc (Nat.le_refl _) _).mono (by omega)), (by first | exact a0 | exact (Below.cell ((Below.refl wr.heap.size wr).alloc (Nat.le_refl _) _) (by show w.heap.size < _; omega)).trans a0), by first | exact s2 | (simp; omega)⟩
        case measure => simp [intOf]; omega
      · have q0 : ((nthN p.l k).kind == c) = false := beq_eq_false_iff_ne.2 he
        have hcn := Lib.hid (cntK_no he)
        go_wp2_with fail
        go_roundw
        case rel => exact ⟨k + 1, by omega, by go_num, by rw [hcn.out], hB1.trans (((Below.refl wr.heap.size wr).alloc (Nat.le_refl _) _).mono (by omega)), (by first | exact a0 | exact (Below.cell ((Below.refl wr.heap.size wr).alloc (Nat.le_refl _) _) (by show w.heap.size < _; omega)).trans a0), by first | exact s2 | (simp; omega)⟩
        case measure => simp [intOf]; omega
    · have e : k = p.l.length := by omega
      subst e
      go_wp2_with fail
      go_ret
      exact ⟨rfl, hB1⟩

end Go.Proofs.Ytngiidocgjbooaa.Pg
