/-
  The program's writer of a pattern's text: a set, the beginning, the end.
-/
import Derived.Test.YtdgbbgkdoekfkaaWriteSet
namespace Go.Proofs.Ytdgbbgkdoekfkaa.Re
open Go.ChangeShapes Go.WideShapes Go.ChangeAt Go.RowKit Go.PlainAid
open Go.Proofs.Ytdgbbgkdoekfkaa.RePure
set_option linter.unusedVariables false

theorem wc_new {S : Nat → Prop} {w : World} {g : Nat} {L : List Int} {nest deep : Int} (h : WC S w g L nest deep) (o : Obj) : WC S (w.alloc o) g L nest deep := wc_less (wc_box h o) fun x hx => Or.inl hx

set_option maxRecDepth 100000 in
set_option maxHeartbeats 2000000 in
theorem writeSet_ok (S : Nat → Prop) (g : Nat) (L : List Int) (nest deep : Int) (neg : Bool) (s : ByteArray) (w : World) (h : WC S w g L nest deep) (hs : s.size ≤ maxLen) (hev : EvenOrd s) :
    Calls Try.prog 116 #[.agg #[.bool neg, .string s], .pointer (some ⟨g, 0, none⟩)] w fun e w' => e = .returned (.tuple #[]) ∧ WC S w' g (L ++ setL neg s) nest deep ∧ Keep S w w' := by
  have HS := Lib.hid hs
  unfold maxLen at hs
  have hb := get_bt s
  have HN : Hid (∀ o n, WC S ((w.alloc o).drewN n) g L nest deep) := fun o n => wc_drewN (wc_new h o) n
  have HK : Hid (∀ o n, Keep S w ((w.alloc o).drewN n)) := fun o n => (Keep.alloc w o h.1).trans (Keep.drewN _ n)
  have HEV := Lib.hid hev; clear hev h
  by_cases hA : neg = true ∧ s.size = 0
  · obtain ⟨rfl, hz⟩ := hA
    have he := (isE s).2 hz
    have hL : setL true s = [46] := by rw [setL, if_pos ⟨rfl, hz⟩]
    have HL := Lib.hid hL; clear hL
    clear hz
    go_enter Try.func116, Try.ntmps116
    go_wp2_with fail
    refine (put_ok S g L nest deep 46 _ (HN.out _ 0)).mono ?_
    rintro e w1 ⟨rfl, h1, hB1⟩
    have H1 := Lib.hid h1
    have HK1 := Lib.hid ((HK.out _ 0).trans hB1); clear h1 hB1
    go_wp2_with fail
    go_end0
    exact ⟨rfl, by rw [HL.out]; exact H1.out, HK1.out⟩
  · by_cases hBc : neg = false ∧ s.size = 2 ∧ bt s 0 = bt s 1
    · obtain ⟨rfl, hz, hq⟩ := hBc
      have hL : setL false s = escL spS (bt s 0) := by rw [setL, if_neg (by simp), if_pos ⟨rfl, hz, hq⟩]
      rw [hq] at hL
      have HL := Lib.hid hL; clear hL
      have hz' : (s.size : Int) = 2 := by omega
      have g0 : (0 : Int) < (s.size : Int) := by omega
      have g1 : (1 : Int) < (s.size : Int) := by omega
      have i0 : 0 < s.size := by omega
      have i1 : 1 < s.size := by omega
      have b0 := hb 0 i0
      have b1 := hb 1 i1
      clear hA
      go_enter Try.func116, Try.ntmps116
      go_wp2_with fail
      go_quiet (fail)
      go_wp2_with fail
      refine (putSp_ok S g L nest deep (bt s 1) _ (HN.out _ nq) (bt_nonneg s 1) (bt_le s 1)).mono ?_
      rintro e w1 ⟨rfl, h1, hB1⟩
      have H1 := Lib.hid h1
      have HK1 := Lib.hid ((HK.out _ nq).trans hB1); clear h1 hB1
      go_wp2_with fail
      go_end0
      exact ⟨rfl, by rw [HL.out]; exact H1.out, HK1.out⟩
    · have hL : setL neg s = headL neg ++ pairsL s (s.size / 2) ++ [93] := by rw [setL, if_neg hA, if_neg hBc]
      have HL := Lib.hid hL; clear hL
      have hC : (neg = true ∧ s.toList.isEmpty = false) ∨ (neg = false ∧ ((s.size : Int) == 2) = false) ∨ (neg = false ∧ (s.size : Int) = 2 ∧ (bt s 0 == bt s 1) = false) := by
        cases neg
        · by_cases hz : s.size = 2
          · right; right
            refine ⟨rfl, by omega, ?_⟩
            rw [beq_eq_false_iff_ne]
            exact fun h => hBc ⟨rfl, hz, h⟩
          · right; left
            refine ⟨rfl, ?_⟩
            rw [beq_eq_false_iff_ne]
            omega
        · left
          refine ⟨rfl, isE_no (Nat.pos_of_ne_zero fun h => hA ⟨rfl, h⟩)⟩
      clear hA hBc
      rcases hC with ⟨rfl, he⟩ | ⟨rfl, hz⟩ | ⟨rfl, hz, hq⟩
      case' inr.inr =>
        have g0 : (0 : Int) < (s.size : Int) := by omega
        have g1 : (1 : Int) < (s.size : Int) := by omega
        have i0 : 0 < s.size := by omega
        have i1 : 1 < s.size := by omega
        have b0 := hb 0 i0
        have b1 := hb 1 i1
      all_goals
        go_enter Try.func116, Try.ntmps116
        go_wp2_with fail
        go_quiet (fail)
        go_wp2_with fail
        refine (writeClass_ok S g L nest deep _ s _ (HN.out _ nq) HS.out HEV.out).mono ?_
        rintro e w1 ⟨rfl, h1, hB1⟩
        have H1 := Lib.hid h1
        have HK1 := Lib.hid ((HK.out _ nq).trans hB1); clear h1 hB1
        go_wp2_with fail
        go_end0
        exact ⟨rfl, by rw [HL.out]; exact H1.out, HK1.out⟩

theorem writeBeg_ok (S : Nat → Prop) (g : Nat) (L : List Int) (nest deep : Int) (w : World) (h : WC S w g L nest deep) :
    Calls Try.prog 122 #[.agg #[], .pointer (some ⟨g, 0, none⟩)] w fun e w' => e = .returned (.tuple #[]) ∧ WC S w' g (L ++ [94]) nest deep ∧ Keep S w w' := by
  have HN : Hid (∀ o, WC S (w.alloc o) g L nest deep) := fun o => wc_new h o
  have HK : Hid (∀ o, Keep S w (w.alloc o)) := fun o => Keep.alloc w o h.1
  clear h
  go_enter Try.func122, Try.ntmps122
  go_wp2_with fail
  refine (put_ok S g L nest deep 94 _ (HN.out _)).mono ?_
  rintro e w1 ⟨rfl, h1, hB1⟩
  have H1 := Lib.hid h1
  have HK1 := Lib.hid ((HK.out _).trans hB1); clear h1 hB1
  go_wp2_with fail
  go_end0
  exact ⟨rfl, H1.out, HK1.out⟩

theorem writeEnd_ok (S : Nat → Prop) (g : Nat) (L : List Int) (nest deep : Int) (w : World) (h : WC S w g L nest deep) :
    Calls Try.prog 125 #[.agg #[], .pointer (some ⟨g, 0, none⟩)] w fun e w' => e = .returned (.tuple #[]) ∧ WC S w' g (L ++ [36]) nest deep ∧ Keep S w w' := by
  have HN : Hid (∀ o, WC S (w.alloc o) g L nest deep) := fun o => wc_new h o
  have HK : Hid (∀ o, Keep S w (w.alloc o)) := fun o => Keep.alloc w o h.1
  clear h
  go_enter Try.func125, Try.ntmps125
  go_wp2_with fail
  refine (put_ok S g L nest deep 36 _ (HN.out _)).mono ?_
  rintro e w1 ⟨rfl, h1, hB1⟩
  have H1 := Lib.hid h1
  have HK1 := Lib.hid ((HK.out _).trans hB1); clear h1 hB1
  go_wp2_with fail
  go_end0
  exact ⟨rfl, H1.out, HK1.out⟩

end Go.Proofs.Ytdgbbgkdoekfkaa.Re
