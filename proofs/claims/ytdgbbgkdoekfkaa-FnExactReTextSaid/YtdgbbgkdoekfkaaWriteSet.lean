/-
  The program's writer of a pattern's text: a set's text.
-/
import Derived.Test.YtdgbbgkdoekfkaaWrite
namespace Go.Proofs.Ytdgbbgkdoekfkaa.Re
open Go.ChangeShapes Go.WideShapes Go.ChangeAt Go.RowKit Go.PlainAid
open Go.Proofs.Ytdgbbgkdoekfkaa.RePure
set_option linter.unusedVariables false

theorem putCl_ok (S : Nat → Prop) (g : Nat) (L : List Int) (nest deep b : Int) (w : World) (h : WC S w g L nest deep) (b0 : 0 ≤ b) (b1 : b ≤ 255) :
    Calls Try.prog 118 #[.pointer (some ⟨g, 0, none⟩), .int .u8 b, .string ⟨#[93, 94, 45, 92]⟩] w fun e w' => e = .returned (.tuple #[]) ∧ WC S w' g (L ++ escL clS b) nest deep ∧ Keep S w w' :=
  putEsc_ok S g L nest deep b clS w h b0 b1
theorem putSp_ok (S : Nat → Prop) (g : Nat) (L : List Int) (nest deep b : Int) (w : World) (h : WC S w g L nest deep) (b0 : 0 ≤ b) (b1 : b ≤ 255) :
    Calls Try.prog 118 #[.pointer (some ⟨g, 0, none⟩), .int .u8 b, .string ⟨#[40, 41, 124, 42, 43, 63, 91, 93, 94, 36, 46, 92]⟩] w fun e w' => e = .returned (.tuple #[]) ∧ WC S w' g (L ++ escL spS b) nest deep ∧ Keep S w w' :=
  putEsc_ok S g L nest deep b spS w h b0 b1

/-- Behind a new block the same holds with that block among those that are kept. -/
theorem wc_box {S : Nat → Prop} {w : World} {g : Nat} {L : List Int} {nest deep : Int} (h : WC S w g L nest deep) (o : Obj) : WC (fun x => S x ∨ x = w.heap.size) (w.alloc o) g L nest deep := by
  obtain ⟨h0, h1, v, h2, h3, h4⟩ := h
  refine ⟨fun x hx => ?_, ?_, v, h2.alloc o, h3.alloc o, fun x hx hS => ?_⟩
  · rcases hx with hx | rfl
    · have := h0 x hx; simp; omega
    · simp
  · rintro (hx | hx)
    · exact h1 hx
    · have := h2.lt; omega
  · rcases hS with hS | rfl
    · exact h4 x hx hS
    · have := (h3.lt _ hx).2; omega
theorem wc_less {S T : Nat → Prop} {w : World} {g : Nat} {L : List Int} {nest deep : Int} (h : WC S w g L nest deep) (hs : ∀ x, T x → S x) : WC T w g L nest deep := by
  obtain ⟨h0, h1, v, h2, h3, h4⟩ := h
  exact ⟨fun x hx => h0 x (hs x hx), fun hx => h1 (hs g hx), v, h2, h3, fun x hx hT => h4 x hx (hs x hT)⟩
theorem wc_drewN {S : Nat → Prop} {w : World} {g : Nat} {L : List Int} {nest deep : Int} (h : WC S w g L nest deep) (n : Nat) : WC S (w.drewN n) g L nest deep := by
  obtain ⟨h0, h1, v, h2, h3, h4⟩ := h
  exact ⟨h0, h1, v, h2, h3, h4⟩

set_option maxRecDepth 100000 in
set_option maxHeartbeats 2000000 in
theorem writeClass_ok (S : Nat → Prop) (g : Nat) (L : List Int) (nest deep : Int) (neg : Bool) (s : ByteArray) (w : World) (h : WC S w g L nest deep) (hs : s.size ≤ maxLen) (hev : EvenOrd s) :
    Calls Try.prog 119 #[.agg #[.bool neg, .string s], .pointer (some ⟨g, 0, none⟩)] w fun e w' => e = .returned (.tuple #[]) ∧ WC S w' g (L ++ (headL neg ++ pairsL s (s.size / 2) ++ [93])) nest deep ∧ Keep S w w' := by
  have hbx := wc_box h (.cells #[.bool neg, .string s] 122)
  obtain ⟨q, hq⟩ : ∃ q, q = w.alloc (.cells #[.bool neg, .string s] 122) := ⟨_, rfl⟩
  rw [← hq] at hbx
  have hk0 : Keep S w q := by rw [hq]; exact Keep.alloc w _ h.1
  have k0 : q.cell? ⟨w.heap.size, 0, none⟩ = some (.bool neg) := by rw [hq]; go_simp
  have k1 : q.cell? ⟨w.heap.size, 1, none⟩ = some (.string s) := by rw [hq]; go_simp
  clear h
  unfold maxLen at hs
  have hb := get_bt s
  have h2 := hev.1
  have HOR := Lib.hid hev.2; clear hev
  have HK0 := Lib.hid hk0; clear hk0
  have HBX := Lib.hid hbx; clear hbx
  obtain ⟨H, hH⟩ : ∃ H, H = headL neg := ⟨_, rfl⟩
  rw [← hH]
  cases neg
  · go_enter Try.func119, Try.ntmps119
    go_wp2_with fail
    rw [← hq]
    clear hq
    refine (put_ok _ g L nest deep 91 q HBX.out).mono ?_
    rintro e w1 ⟨rfl, h1, hB1⟩
    have c0 := (hB1.cell (p := ⟨w.heap.size, 0, none⟩) (Or.inr rfl)).trans k0
    have c1 := (hB1.cell (p := ⟨w.heap.size, 1, none⟩) (Or.inr rfl)).trans k1
    have HK1 := Lib.hid (HK0.out.trans (hB1.mono fun x hx => Or.inl hx))
    have HW : Hid (WC (fun x => S x ∨ x = w.heap.size) w1 g (L ++ H) nest deep) := by rw [hH]; exact h1
    clear h1 hB1 hH k0 k1
    go_wp2_with fail
    go_loopw [4] (fun i wr => ∃ m : Nat, m ≤ s.size ∧ m % 2 = 0 ∧ i = .int .i64 m ∧ Hid (WC (fun x => S x ∨ x = w.heap.size) wr g (L ++ (H ++ pairsL s (m / 2))) nest deep) ∧ Hid (Keep S w wr) ∧ wr.cell? ⟨w.heap.size, 1, none⟩ = some (.string s)) (fun i _ => s.size - (intOf i).toNat)
    case atStart => exact ⟨0, Nat.zero_le _, rfl, rfl, (by show WC _ _ _ (L ++ (H ++ [])) _ _; rw [List.append_nil]; exact HW.out), HK1, c1⟩
    case round =>
      obtain ⟨m, hm, hm2, rfl, HW, HK1, c1⟩ := hrel
      by_cases hml : m < s.size
      · have g0 : (m : Int) < (s.size : Int) := by omega
        have g1 : (m : Int) + 1 < (s.size : Int) := by omega
        have hst := pairsL_step s hm2
        have hord : bt s m ≤ bt s (m + 1) := by
          have := HOR.out (m / 2) (by omega)
          rwa [show 2 * (m / 2) = m from by omega] at this
        have HST := Lib.hid hst; clear hst
        have HO := Lib.hid hord; clear hord
        have u0 := bt_nonneg s m
        have u1 := bt_le s m
        have u2 := bt_nonneg s (m + 1)
        have u3 := bt_le s (m + 1)
        clear h2
        go_wp2_with fail
        refine (putCl_ok _ g _ nest deep (bt s m) wr HW.out u0 u1).mono ?_
        rintro e w2 ⟨rfl, h2, hB2⟩
        have d1 := (hB2.cell (p := ⟨w.heap.size, 1, none⟩) (Or.inr rfl)).trans c1
        have HK2 := Lib.hid (HK1.out.trans (hB2.mono fun x hx => Or.inl hx))
        have HW2 := Lib.hid h2
        clear h2 hB2 c1
        by_cases hq : bt s m < bt s (m + 1)
        · have hp : pairL s m = escL clS (bt s m) ++ 45 :: escL clS (bt s (m + 1)) := by rw [pairL, if_neg (by omega)]
          have HP := Lib.hid hp; clear hp
          go_wp2_with fail
          go_quiet (fail)
          go_wp2_with fail
          refine (put_ok _ g _ nest deep 45 _ (wc_drewN HW2.out _)).mono ?_
          rintro e w3 ⟨rfl, h3, hB3⟩
          have d2 := (hB3.cell (p := ⟨w.heap.size, 1, none⟩) (Or.inr rfl)).trans d1
          have HK3 := Lib.hid ((HK2.out.trans (Keep.drewN _ _)).trans (hB3.mono fun x hx => Or.inl hx))
          have HW3 := Lib.hid h3
          clear h3 hB3 d1
          go_wp2_with fail
          refine (putCl_ok _ g _ nest deep (bt s (m + 1)) w3 HW3.out u2 u3).mono ?_
          rintro e w4 ⟨rfl, h4, hB4⟩
          have d3 := (hB4.cell (p := ⟨w.heap.size, 1, none⟩) (Or.inr rfl)).trans d2
          have HK4 := Lib.hid (HK3.out.trans (hB4.mono fun x hx => Or.inl hx))
          have HW4 := Lib.hid h4
          clear h4 hB4 d2
          go_wp2_with fail
          go_roundw
          case rel => exact ⟨m + 2, by omega, by omega, by go_num, (by have := HW4.out; show WC _ _ _ _ _ _; rw [HST.out, HP.out]; simpa using this), HK4, d3⟩
          case measure => simp [intOf]; omega
        · have he : bt s (m + 1) = bt s m := by have := HO.out; omega
          have hp : pairL s m = escL clS (bt s m) := by rw [pairL, if_pos he, List.append_nil]
          have HP := Lib.hid hp; clear hp he
          have hd : decide (bt s m < bt s (m + 1)) = false := decide_eq_false hq
          clear hq
          go_wp2_with fail
          go_quiet (fail)
          go_wp2_with fail
          have d2 : (w2.drewN nq).cell? ⟨w.heap.size, 1, none⟩ = some (.string s) := d1
          have HK3 := Lib.hid (HK2.out.trans (Keep.drewN w2 nq))
          have HW3 := Lib.hid (wc_drewN HW2.out nq)
          go_roundw
          case rel => exact ⟨m + 2, by omega, by omega, by go_num, (by have := HW3.out; show WC _ _ _ _ _ _; rw [HST.out, HP.out]; simpa using this), HK3, d2⟩
          case measure => simp [intOf]; omega
      · have e : m = s.size := by omega
        subst e
        go_wp2_with fail
        refine (put_ok _ g _ nest deep 93 wr HW.out).mono ?_
        rintro e w2 ⟨rfl, h2, hB2⟩
        have HK2 := Lib.hid (HK1.out.trans (hB2.mono fun x hx => Or.inl hx))
        have HW2 := Lib.hid (wc_less h2 (T := S) fun x hx => Or.inl hx)
        clear h2 hB2
        go_wp2_with fail
        go_end0
        exact ⟨rfl, (by have := HW2.out; simpa using this), HK2.out⟩
  · go_enter Try.func119, Try.ntmps119
    go_wp2_with fail
    rw [← hq]
    clear hq
    refine (put_ok _ g L nest deep 91 q HBX.out).mono ?_
    rintro e w1 ⟨rfl, h1, hB1⟩
    have c0 := (hB1.cell (p := ⟨w.heap.size, 0, none⟩) (Or.inr rfl)).trans k0
    have e1 := (hB1.cell (p := ⟨w.heap.size, 1, none⟩) (Or.inr rfl)).trans k1
    have HK5 := Lib.hid (HK0.out.trans (hB1.mono fun x hx => Or.inl hx))
    have HW5 := Lib.hid h1
    clear h1 hB1 k0 k1
    go_wp2_with fail
    refine (put_ok _ g _ nest deep 94 w1 HW5.out).mono ?_
    rintro e w6 ⟨rfl, h6, hB6⟩
    have c1 := (hB6.cell (p := ⟨w.heap.size, 1, none⟩) (Or.inr rfl)).trans e1
    have HK1 := Lib.hid (HK5.out.trans (hB6.mono fun x hx => Or.inl hx))
    have HW : Hid (WC (fun x => S x ∨ x = w.heap.size) w6 g (L ++ H) nest deep) := by rw [hH]; have := h6; rw [List.append_assoc] at this; exact this
    clear h6 hB6 hH e1 c0
    go_wp2_with fail
    go_loopw [4] (fun i wr => ∃ m : Nat, m ≤ s.size ∧ m % 2 = 0 ∧ i = .int .i64 m ∧ Hid (WC (fun x => S x ∨ x = w.heap.size) wr g (L ++ (H ++ pairsL s (m / 2))) nest deep) ∧ Hid (Keep S w wr) ∧ wr.cell? ⟨w.heap.size, 1, none⟩ = some (.string s)) (fun i _ => s.size - (intOf i).toNat)
    case atStart => exact ⟨0, Nat.zero_le _, rfl, rfl, (by show WC _ _ _ (L ++ (H ++ [])) _ _; rw [List.append_nil]; exact HW.out), HK1, c1⟩
    case round =>
      obtain ⟨m, hm, hm2, rfl, HW, HK1, c1⟩ := hrel
      by_cases hml : m < s.size
      · have g0 : (m : Int) < (s.size : Int) := by omega
        have g1 : (m : Int) + 1 < (s.size : Int) := by omega
        have hst := pairsL_step s hm2
        have hord : bt s m ≤ bt s (m + 1) := by
          have := HOR.out (m / 2) (by omega)
          rwa [show 2 * (m / 2) = m from by omega] at this
        have HST := Lib.hid hst; clear hst
        have HO := Lib.hid hord; clear hord
        have u0 := bt_nonneg s m
        have u1 := bt_le s m
        have u2 := bt_nonneg s (m + 1)
        have u3 := bt_le s (m + 1)
        clear h2
        go_wp2_with fail
        refine (putCl_ok _ g _ nest deep (bt s m) wr HW.out u0 u1).mono ?_
        rintro e w2 ⟨rfl, h2, hB2⟩
        have d1 := (hB2.cell (p := ⟨w.heap.size, 1, none⟩) (Or.inr rfl)).trans c1
        have HK2 := Lib.hid (HK1.out.trans (hB2.mono fun x hx => Or.inl hx))
        have HW2 := Lib.hid h2
        clear h2 hB2 c1
        by_cases hq : bt s m < bt s (m + 1)
        · have hp : pairL s m = escL clS (bt s m) ++ 45 :: escL clS (bt s (m + 1)) := by rw [pairL, if_neg (by omega)]
          have HP := Lib.hid hp; clear hp
          go_wp2_with fail
          go_quiet (fail)
          go_wp2_with fail
          refine (put_ok _ g _ nest deep 45 _ (wc_drewN HW2.out _)).mono ?_
          rintro e w3 ⟨rfl, h3, hB3⟩
          have d2 := (hB3.cell (p := ⟨w.heap.size, 1, none⟩) (Or.inr rfl)).trans d1
          have HK3 := Lib.hid ((HK2.out.trans (Keep.drewN _ _)).trans (hB3.mono fun x hx => Or.inl hx))
          have HW3 := Lib.hid h3
          clear h3 hB3 d1
          go_wp2_with fail
          refine (putCl_ok _ g _ nest deep (bt s (m + 1)) w3 HW3.out u2 u3).mono ?_
          rintro e w4 ⟨rfl, h4, hB4⟩
          have d3 := (hB4.cell (p := ⟨w.heap.size, 1, none⟩) (Or.inr rfl)).trans d2
          have HK4 := Lib.hid (HK3.out.trans (hB4.mono fun x hx => Or.inl hx))
          have HW4 := Lib.hid h4
          clear h4 hB4 d2
          go_wp2_with fail
          go_roundw
          case rel => exact ⟨m + 2, by omega, by omega, by go_num, (by have := HW4.out; show WC _ _ _ _ _ _; rw [HST.out, HP.out]; simpa using this), HK4, d3⟩
          case measure => simp [intOf]; omega
        · have he : bt s (m + 1) = bt s m := by have := HO.out; omega
          have hp : pairL s m = escL clS (bt s m) := by rw [pairL, if_pos he, List.append_nil]
          have HP := Lib.hid hp; clear hp he
          have hd : decide (bt s m < bt s (m + 1)) = false := decide_eq_false hq
          clear hq
          go_wp2_with fail
          go_quiet (fail)
          go_wp2_with fail
          have d2 : (w2.drewN nq).cell? ⟨w.heap.size, 1, none⟩ = some (.string s) := d1
          have HK3 := Lib.hid (HK2.out.trans (Keep.drewN w2 nq))
          have HW3 := Lib.hid (wc_drewN HW2.out nq)
          go_roundw
          case rel => exact ⟨m + 2, by omega, by omega, by go_num, (by have := HW3.out; show WC _ _ _ _ _ _; rw [HST.out, HP.out]; simpa using this), HK3, d2⟩
          case measure => simp [intOf]; omega
      · have e : m = s.size := by omega
        subst e
        go_wp2_with fail
        refine (put_ok _ g _ nest deep 93 wr HW.out).mono ?_
        rintro e w2 ⟨rfl, h2, hB2⟩
        have HK2 := Lib.hid (HK1.out.trans (hB2.mono fun x hx => Or.inl hx))
        have HW2 := Lib.hid (wc_less h2 (T := S) fun x hx => Or.inl hx)
        clear h2 hB2
        go_wp2_with fail
        go_end0
        exact ⟨rfl, (by have := HW2.out; simpa using this), HK2.out⟩

end Go.Proofs.Ytdgbbgkdoekfkaa.Re
