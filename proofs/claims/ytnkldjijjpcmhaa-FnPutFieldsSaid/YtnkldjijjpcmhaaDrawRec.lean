/-
  The model's functions that draw lines, fields, separators and lists of strings.
-/
import Derived.Test.YtnkldjijjpcmhaaDrawTexts
import Derived.Test.YtnkldjijjpcmhaaJoinSpec
namespace Go.Proofs.Ytnkldjijjpcmhaa.Draw
open Go.ChangeShapes Go.WideShapes Go.ChangeAt Go.RowKit
open Go.PlainAid Go.Proofs.Ytnkldjijjpcmhaa.Dec
open Go.Proofs.Ytnkldjijjpcmhaa.DecPure Go.Proofs.Ytnkldjijjpcmhaa.ReadPure Go.Proofs.Ytnkldjijjpcmhaa.Cell Go.Proofs.Ytnkldjijjpcmhaa.Strs
set_option linter.unusedVariables false

def lineT : List ByteArray := [⟨#[97]⟩, ⟨#[97, 98]⟩, ⟨#[51]⟩, ⟨#[45, 50, 46, 53]⟩, ⟨#[98]⟩, ⟨#[120, 58, 121]⟩, ⟨#[49, 48]⟩]
theorem lineT_small : ∀ x ∈ lineT, x.size ≤ 4 := by decide
def gapT : List ByteArray := [⟨#[32]⟩, ⟨#[32, 32]⟩, ⟨#[9]⟩, ⟨#[58]⟩]
theorem gapT_small : ∀ x ∈ gapT, x.size ≤ 2 := by decide
def sepT : List ByteArray := [⟨#[32]⟩, ⟨#[58]⟩, ⟨#[]⟩, ⟨#[97]⟩, ⟨#[58, 58]⟩, ⟨#[32, 32]⟩]
theorem sepT_small : ∀ x ∈ sepT, x.size ≤ 2 := by decide
def listT : List ByteArray := [⟨#[97]⟩, ⟨#[]⟩, ⟨#[98, 99]⟩, ⟨#[49, 50]⟩]
theorem listT_small : ∀ x ∈ listT, x.size ≤ 2 := by decide
def putT : List ByteArray := [⟨#[113]⟩, ⟨#[]⟩, ⟨#[49, 50]⟩]
theorem putT_small : ∀ x ∈ putT, x.size ≤ 2 := by decide

set_option maxRecDepth 100000 in
set_option maxHeartbeats 2000000 in
theorem draw_line (w : World) (B g : Nat) (A : Option Addr) (n cap : Nat) (Z : Nat → Int) (hc : Cur w B g A n cap Z) :
    Calls Try.prog 41 #[.pointer (some ⟨g, 0, none⟩)] w (Txt 30 w B g A n cap Z) := by
  have HC := Lib.hid hc; clear hc
  go_enter Try.func41, Try.ntmps41
  go_wp2_with fail
  refine (below_any w _ g A n cap Z HC.out 6 (by omega) (by omega)).mono ?_
  rintro e w1 ⟨x, rfl, hx, hc1, ho1⟩
  obtain ⟨q, rfl⟩ := Int.eq_ofNat_of_zero_le hx.1
  have HC1 := Lib.hid hc1; clear hc1
  have HO1 := Lib.hid ho1; clear ho1
  have hq : q ≤ 5 := by omega
  clear hx
  go_wp2_with fail
  go_loopw [3, 4] (fun v i wr => ∃ (j : Nat) (s : ByteArray), j ≤ q ∧ i = .int .i64 j ∧ v = .string s ∧ s.size + 6 * j ≤ 30 ∧ Hid (Cur wr B g A n cap Z) ∧ Hid (Only w wr g)) (fun _ i _ => (intOf i).toNat)
  case atStart => exact ⟨q, ⟨#[]⟩, Nat.le_refl _, rfl, rfl, by show 0 + 6 * q ≤ 30; omega, HC1, HO1⟩
  case round =>
    obtain ⟨j, s, hj, rfl, rfl, hs, hC, hO⟩ := hrel
    have hgl := hC.out.lt
    by_cases hlt : 0 < j
    · have hji : (0 : Int) < (j : Int) := by omega
      go_wp2_with fail
      refine (text_new wr B g A n cap Z hC.out lineT _ rfl 7 rfl (by omega) (by omega) 4 lineT_small).mono ?_
      rintro e w2 ⟨a, rfl, ha, hc2, ho2⟩
      have HC2 := Lib.hid hc2; clear hc2
      have HO2 := Lib.hid (hO.out.trans ho2); clear ho2
      have hz2 : (s ++ a).size ≤ s.size + 4 := by rw [ByteArray.size_append]; omega
      go_wp2_with fail
      refine (text_new w2 B g A n cap Z HC2.out gapT _ rfl 4 rfl (by omega) (by omega) 2 gapT_small).mono ?_
      rintro e w3 ⟨b, rfl, hb, hc3, ho3⟩
      have HC3 := Lib.hid hc3; clear hc3
      have HO3 := Lib.hid (HO2.out.trans ho3); clear ho3
      obtain ⟨k, rfl⟩ : ∃ k, j = k + 1 := ⟨j - 1, by omega⟩
      go_wp2_with fail
      go_roundw
      case rel => exact ⟨k, s ++ a ++ b, by omega, by go_num, rfl, by rw [ByteArray.size_append]; omega, HC3, HO3⟩
      case measure => simp [intOf]
    · obtain rfl : j = 0 := by omega
      clear hlt
      go_wp2_with fail
      go_ret
      exact ⟨s, rfl, by omega, hC.out, hO.out⟩

set_option maxRecDepth 100000 in
set_option maxHeartbeats 2000000 in
theorem draw_input (w : World) (B g : Nat) (A : Option Addr) (n cap : Nat) (Z : Nat → Int) (hc : Cur w B g A n cap Z) :
    Calls Try.prog 37 #[.pointer (some ⟨g, 0, none⟩)] w (Txt 130 w B g A n cap Z) := by
  have HC := Lib.hid hc; clear hc
  go_enter Try.func37, Try.ntmps37
  go_wp2_with fail
  refine (below_any w _ g A n cap Z HC.out 5 (by omega) (by omega)).mono ?_
  rintro e w1 ⟨x, rfl, hx, hc1, ho1⟩
  obtain ⟨q, rfl⟩ := Int.eq_ofNat_of_zero_le hx.1
  have HC1 := Lib.hid hc1; clear hc1
  have HO1 := Lib.hid ho1; clear ho1
  have hq : q ≤ 4 := by omega
  clear hx
  go_wp2_with fail
  go_loopw [3, 4] (fun v i wr => ∃ (j : Nat) (s : ByteArray), j ≤ q ∧ i = .int .i64 j ∧ v = .string s ∧ s.size + 31 * j ≤ 124 ∧ Hid (Cur wr B g A n cap Z) ∧ Hid (Only w wr g)) (fun _ i _ => (intOf i).toNat)
  case atStart => exact ⟨q, ⟨#[]⟩, Nat.le_refl _, rfl, rfl, by show 0 + 31 * q ≤ 124; omega, HC1, HO1⟩
  case round =>
    obtain ⟨j, s, hj, rfl, rfl, hs, hC, hO⟩ := hrel
    by_cases hlt : 0 < j
    · have hji : (0 : Int) < (j : Int) := by omega
      go_wp2_with fail
      refine (draw_line wr B g A n cap Z hC.out).mono ?_
      rintro e w2 ⟨a, rfl, ha, hc2, ho2⟩
      have HC2 := Lib.hid hc2; clear hc2
      have HO2 := Lib.hid (hO.out.trans ho2); clear ho2
      have hz2 : (s ++ a).size ≤ s.size + 30 := by rw [ByteArray.size_append]; omega
      obtain ⟨k, rfl⟩ : ∃ k, j = k + 1 := ⟨j - 1, by omega⟩
      go_wp2_with fail
      go_roundw
      case rel => exact ⟨k, s ++ a ++ ⟨#[10]⟩, by omega, by go_num, rfl, by rw [ByteArray.size_append]; have : (⟨#[10]⟩ : ByteArray).size = 1 := rfl; omega, HC2, HO2⟩
      case measure => simp [intOf]
    · obtain rfl : j = 0 := by omega
      clear hlt
      go_wp2_with fail
      refine (once_any wr B g A n cap Z hC.out 3 (by omega) (by omega)).mono ?_
      rintro e w2 ⟨b, rfl, hc2, ho2⟩
      have HC2 := Lib.hid hc2; clear hc2
      have HO2 := Lib.hid (hO.out.trans ho2); clear ho2
      cases b with
      | true =>
        go_wp2_with fail
        go_ret
        exact ⟨_, rfl, by rw [ByteArray.size_append]; have : (⟨#[101, 110, 100]⟩ : ByteArray).size = 3 := rfl; omega, HC2.out, HO2.out⟩
      | false =>
        go_wp2_with fail
        go_ret
        exact ⟨_, rfl, by omega, HC2.out, HO2.out⟩

theorem text_at (w : World) (B g : Nat) (A : Option Addr) (n cap : Nat) (Z : Nat → Int) (hc : Cur w B g A n cap Z) (x : Int) (m : Nat) (hx : 0 ≤ x ∧ x ≤ m) (hm : m ≤ 10000) (t : ByteArray) (h1 : 1 ≤ t.size) (h2 : t.size ≤ 1000000) :
    Calls Try.prog 35 #[.pointer (some ⟨g, 0, none⟩), .int .i64 x, .string t] w (Txt m w B g A n cap Z) := by
  obtain ⟨q, rfl⟩ := Int.eq_ofNat_of_zero_le hx.1
  exact (text_of w B g A n cap Z hc q (by omega) t h1 h2).mono fun e w' ⟨s, he, hs, hc', ho⟩ => ⟨s, he, by omega, hc', ho⟩

set_option maxRecDepth 100000 in
set_option maxHeartbeats 2000000 in
theorem draw_lines (w : World) (A : Option Addr) (n cap : Nat) (Z : Nat → Int) (hn : n ≤ 9223372036854775807) (hb : Bytes w w.heap.size A n Z) :
    Calls Try.prog 12 #[.slice A n cap] w (TxtOne 3001 w) := by
  have HB := Lib.hid hb; clear hb
  go_enter Try.func12, Try.ntmps12
  go_wp2_with fail
  refine (new_any w A n cap Z hn HB.out).mono ?_
  rintro e w1 ⟨g, rfl, hc1, hb1⟩
  have HC1 := Lib.hid hc1; clear hc1
  have HB1 := Lib.hid hb1; clear hb1
  go_wp2_with fail
  refine (once_any w1 _ g A n cap Z HC1.out 30 (by omega) (by omega)).mono ?_
  rintro e w2 ⟨b, rfl, hc2, ho2⟩
  have HC2 := Lib.hid hc2; clear hc2
  have HO2 := Lib.hid ho2; clear ho2
  cases b with
  | true =>
    go_wp2_with fail
    refine (below_any w2 _ g A n cap Z HC2.out 2 (by omega) (by omega)).mono ?_
    rintro e w3 ⟨x, rfl, hx, hc3, ho3⟩
    have HC3 := Lib.hid hc3; clear hc3
    have HO3 := Lib.hid (HO2.out.trans ho3); clear ho3
    go_wp2_with fail
    refine (text_at w3 _ g A n cap Z HC3.out (3000 + x) 3001 (by omega) (by omega) ⟨#[97, 10]⟩ (by decide) (by decide)).mono ?_
    rintro e w4 ⟨s, rfl, hs, hc4, ho4⟩
    have HO4 := Lib.hid (HO3.out.trans ho4); clear ho4 hc4
    go_wp2_with fail
    go_ret
    exact ⟨s, rfl, hs, HB1.out.trans (HO4.out.below HC1.out.1 HB1.out.size)⟩
  | false =>
    go_wp2_with fail
    refine (draw_input w2 _ g A n cap Z HC2.out).mono ?_
    rintro e w3 ⟨s, rfl, hs, hc3, ho3⟩
    have HO3 := Lib.hid (HO2.out.trans ho3); clear ho3 hc3
    go_wp2_with fail
    go_ret
    exact ⟨s, rfl, by omega, HB1.out.trans (HO3.out.below HC1.out.1 HB1.out.size)⟩

set_option maxRecDepth 100000 in
set_option maxHeartbeats 2000000 in
theorem draw_fields (w : World) (A : Option Addr) (n cap : Nat) (Z : Nat → Int) (hn : n ≤ 9223372036854775807) (hb : Bytes w w.heap.size A n Z) :
    Calls Try.prog 15 #[.slice A n cap] w (TxtOne 501 w) := by
  have HB := Lib.hid hb; clear hb
  go_enter Try.func15, Try.ntmps15
  go_wp2_with fail
  refine (new_any w A n cap Z hn HB.out).mono ?_
  rintro e w1 ⟨g, rfl, hc1, hb1⟩
  have HC1 := Lib.hid hc1; clear hc1
  have HB1 := Lib.hid hb1; clear hb1
  go_wp2_with fail
  refine (once_any w1 _ g A n cap Z HC1.out 20 (by omega) (by omega)).mono ?_
  rintro e w2 ⟨b, rfl, hc2, ho2⟩
  have HC2 := Lib.hid hc2; clear hc2
  have HO2 := Lib.hid ho2; clear ho2
  cases b with
  | true =>
    go_wp2_with fail
    refine (below_any w2 _ g A n cap Z HC2.out 2 (by omega) (by omega)).mono ?_
    rintro e w3 ⟨x, rfl, hx, hc3, ho3⟩
    have HC3 := Lib.hid hc3; clear hc3
    have HO3 := Lib.hid (HO2.out.trans ho3); clear ho3
    go_wp2_with fail
    refine (text_at w3 _ g A n cap Z HC3.out (500 + x) 501 (by omega) (by omega) ⟨#[97, 32]⟩ (by decide) (by decide)).mono ?_
    rintro e w4 ⟨s, rfl, hs, hc4, ho4⟩
    have HO4 := Lib.hid (HO3.out.trans ho4); clear ho4 hc4
    go_wp2_with fail
    go_ret
    exact ⟨s, rfl, hs, HB1.out.trans (HO4.out.below HC1.out.1 HB1.out.size)⟩
  | false =>
    go_wp2_with fail
    refine (draw_line w2 _ g A n cap Z HC2.out).mono ?_
    rintro e w3 ⟨s, rfl, hs, hc3, ho3⟩
    have HO3 := Lib.hid (HO2.out.trans ho3); clear ho3 hc3
    go_wp2_with fail
    go_ret
    exact ⟨s, rfl, by omega, HB1.out.trans (HO3.out.below HC1.out.1 HB1.out.size)⟩

/-- Two drawn texts. -/
def TxtPair (a b : Nat) (w : World) (e : Ending) (w' : World) : Prop := ∃ s t : ByteArray, e = .returned (.tuple #[.string s, .string t]) ∧ s.size ≤ a ∧ t.size ≤ b ∧ Below w.heap.size w w'

set_option maxRecDepth 100000 in
set_option maxHeartbeats 2000000 in
theorem draw_split (w : World) (A : Option Addr) (n cap : Nat) (Z : Nat → Int) (hn : n ≤ 9223372036854775807) (hb : Bytes w w.heap.size A n Z) :
    Calls Try.prog 20 #[.slice A n cap] w (TxtPair 501 2 w) := by
  have HB := Lib.hid hb; clear hb
  go_enter Try.func20, Try.ntmps20
  go_wp2_with fail
  refine (new_any w A n cap Z hn HB.out).mono ?_
  rintro e w1 ⟨g, rfl, hc1, hb1⟩
  have HBY := Lib.hid (HB.out.keep (hb1.mono (Nat.le_refl _)))
  have HC1 := Lib.hid hc1; clear hc1
  have HB1 := Lib.hid hb1; clear hb1
  have hby : Bytes w1 w1.heap.size A n Z := fun j hj => by
    obtain ⟨b, off, e, hlt, q⟩ := HBY.out j hj
    exact ⟨b, off, e, Nat.lt_of_lt_of_le hlt HB1.out.size, q⟩
  have hdf := draw_fields w1 A n cap Z hn hby
  have HDF := Lib.hid hdf
  clear hdf hby HBY
  go_wp2_with fail
  refine HDF.out.mono ?_
  rintro e w2 ⟨s, rfl, hs, hb2⟩
  have HC2 := Lib.hid (HC1.out.below hb2)
  have HB2 := Lib.hid (HB1.out.trans (hb2.mono HB1.out.size)); clear hb2
  go_wp2_with fail
  refine (text_new w2 _ g A n cap Z HC2.out sepT _ rfl 6 rfl (by omega) (by omega) 2 sepT_small).mono ?_
  rintro e w3 ⟨t, rfl, ht, hc3, ho3⟩
  have HB3 := Lib.hid (HB2.out.trans (ho3.below HC2.out.1 HB2.out.size)); clear ho3 hc3
  go_wp2_with fail
  go_ret2
  exact ⟨s, t, rfl, hs, ht, HB3.out⟩

/-- A drawn list of strings, and the cursor again. -/
def LstEnd (w : World) (B g : Nat) (A : Option Addr) (n cap : Nat) (Z : Nat → Int) (e : Ending) (w' : World) : Prop :=
  ∃ v l, e = .returned v ∧ SR w.heap.size w' v l ∧ l.length ≤ 52 ∧ (∀ x ∈ l, x.size ≤ 500) ∧ Cur w' B g A n cap Z ∧ Only w w' g
theorem sr_only {B g : Nat} {w w' : World} {v : Value} {l : List ByteArray} (h : SR B w v l) (ho : Only w w' g) (hg : g < B) : SR B w' v l :=
  h.same fun x hx => ho.block x (h.lt x hx).2 (by have := (h.lt x hx).1; simp; omega)
theorem mem_snoc {l : List ByteArray} {x : ByteArray} {m : Nat} (h : ∀ y ∈ l, y.size ≤ m) (hx : x.size ≤ m) : ∀ y ∈ l ++ [x], y.size ≤ m := by
  intro y hy
  rcases List.mem_append.1 hy with hy | hy
  · exact h y hy
  · rw [List.mem_singleton] at hy; subst hy; exact hx

set_option maxRecDepth 100000 in
set_option maxHeartbeats 4000000 in
theorem draw_list (w : World) (B g : Nat) (A : Option Addr) (n cap : Nat) (Z : Nat → Int) (hc : Cur w B g A n cap Z) :
    Calls Try.prog 50 #[.pointer (some ⟨g, 0, none⟩)] w (LstEnd w B g A n cap Z) := by
  have hg0 := hc.lt
  have HC := Lib.hid hc; clear hc
  go_enter Try.func50, Try.ntmps50
  go_wp2_with fail
  refine (below_any w _ g A n cap Z HC.out 6 (by omega) (by omega)).mono ?_
  rintro e w1 ⟨x, rfl, hx, hc1, ho1⟩
  obtain ⟨q, rfl⟩ := Int.eq_ofNat_of_zero_le hx.1
  have HC1 := Lib.hid hc1; clear hc1
  have HO1 := Lib.hid ho1; clear ho1
  have hq : q ≤ 5 := by omega
  clear hx
  go_wp2_with fail
  refine (once_any w1 _ g A n cap Z HC1.out 20 (by omega) (by omega)).mono ?_
  rintro e w2 ⟨b, rfl, hc2, ho2⟩
  have HC2 := Lib.hid hc2; clear hc2
  have HO2 := Lib.hid (HO1.out.trans ho2); clear ho2
  cases b with
  | true =>
    go_wp2_with fail
    refine (below_any w2 _ g A n cap Z HC2.out 2 (by omega) (by omega)).mono ?_
    rintro e w3 ⟨y, rfl, hy, hc3, ho3⟩
    obtain ⟨r, rfl⟩ := Int.eq_ofNat_of_zero_le hy.1
    have HC3 := Lib.hid hc3; clear hc3
    have HO3 := Lib.hid (HO2.out.trans ho3); clear ho3
    obtain ⟨N, hN⟩ : ∃ N, N = 50 + r := ⟨_, rfl⟩
    have hN51 : N ≤ 51 := by omega
    have hNi : (50 : Int) + (r : Int) = (N : Int) := by omega
    clear hN
    go_wp2_with fail
    go_loopw [3, 5] (fun v i wr => ∃ (j : Nat) (l : List ByteArray), j ≤ N ∧ i = .int .i64 j ∧ l.length = j ∧ (∀ x ∈ l, x.size ≤ 500) ∧ Hid (SR w.heap.size wr v l) ∧ Hid (Cur wr B g A n cap Z) ∧ Hid (Only w wr g)) (fun _ i _ => N - (intOf i).toNat)
    case atStart => exact ⟨0, [], Nat.zero_le _, rfl, rfl, (fun x hx => by cases hx), SR.nil _ _, HC3, HO3⟩
    case round =>
      obtain ⟨j, l, hj, rfl, hl, hsz, hR, hC, hO⟩ := hrel
      have hgw := hO.out.size
      by_cases hlt : j < N
      · have hji : (j : Int) < (N : Int) := by omega
        go_wp2_with fail
        refine (text_new wr B g A n cap Z hC.out listT _ rfl 4 rfl (by omega) (by omega) 2 listT_small).mono ?_
        rintro e w4 ⟨a, rfl, ha, hc4, ho4⟩
        have HC4 := Lib.hid hc4; clear hc4
        have HR4 := Lib.hid (sr_only hR.out ho4 hg0)
        have HO4 := Lib.hid (hO.out.trans ho4); clear ho4
        have hz4 := HO4.out.size
        go_wp2_with (at_builtin; refine sr_push w.heap.size w4 _ l a rfl _ _ rfl rfl rfl HR4.out (by omega) (by omega) ?_; intro v5 w5 hrow5 hgrow5)
        have hC5 := HC4.out.same (w' := w5) (fun x hx => hgrow5.block x (by have := HC4.out.lt; omega) (fun e => by have := (HR4.out.lt x e.symm).1; omega))
        have hO5 := HO4.out.grown hgrow5 (fun x hx => (HR4.out.lt x hx).1)
        clear hgrow5
        go_roundw
        case rel => exact ⟨j + 1, l ++ [a], by omega, by go_num, by simp; omega, mem_snoc hsz (by omega), Lib.hid hrow5, Lib.hid hC5, Lib.hid hO5⟩
        case measure => simp [intOf]; omega
      · obtain rfl : j = N := by omega
        clear hlt
        go_wp2_with fail
        refine (once_any wr B g A n cap Z hC.out 25 (by omega) (by omega)).mono ?_
        rintro e w4 ⟨b, rfl, hc4, ho4⟩
        have HC4 := Lib.hid hc4; clear hc4
        have HR4 := Lib.hid (sr_only hR.out ho4 hg0)
        have HO4 := Lib.hid (hO.out.trans ho4); clear ho4
        cases b with
        | true =>
          go_wp2_with fail
          refine (below_any w4 _ g A n cap Z HC4.out 4 (by omega) (by omega)).mono ?_
          rintro e w5 ⟨x, rfl, hx, hc5, ho5⟩
          have HC5 := Lib.hid hc5; clear hc5
          have HR5 := Lib.hid (sr_only HR4.out ho5 hg0)
          have HO5 := Lib.hid (HO4.out.trans ho5); clear ho5
          go_wp2_with fail
          refine (text_at w5 _ g A n cap Z HC5.out (500 - x) 500 (by omega) (by omega) ⟨#[122]⟩ (by decide) (by decide)).mono ?_
          rintro e w6 ⟨a, rfl, ha, hc6, ho6⟩
          have HC6 := Lib.hid hc6; clear hc6
          have HR6 := Lib.hid (sr_only HR5.out ho6 hg0)
          have HO6 := Lib.hid (HO5.out.trans ho6); clear ho6
          have hz6 := HO6.out.size
          go_wp2_with (at_builtin; refine sr_push w.heap.size w6 _ l a rfl _ _ rfl rfl rfl HR6.out (by omega) (by omega) ?_; intro v7 w7 hrow7 hgrow7)
          have hC7 := HC6.out.same (w' := w7) (fun x hx => hgrow7.block x (by have := HC6.out.lt; omega) (fun e => by have := (HR6.out.lt x e.symm).1; omega))
          have hO7 := HO6.out.grown hgrow7 (fun x hx => (HR6.out.lt x hx).1)
          clear hgrow7
          go_ret
          exact ⟨_, l ++ [a], rfl, hrow7, by simp; omega, mem_snoc hsz ha, hC7, hO7⟩
        | false =>
          go_wp2_with fail
          go_ret
          exact ⟨_, l, rfl, HR4.out, by omega, hsz, HC4.out, HO4.out⟩
  | false =>
    have HC3 := HC2
    have HO3 := HO2
    obtain ⟨N, hN⟩ : ∃ N, N = q := ⟨_, rfl⟩
    have hN51 : N ≤ 51 := by omega
    subst hN
    go_wp2_with fail
    go_loopw [3, 5] (fun v i wr => ∃ (j : Nat) (l : List ByteArray), j ≤ N ∧ i = .int .i64 j ∧ l.length = j ∧ (∀ x ∈ l, x.size ≤ 500) ∧ Hid (SR w.heap.size wr v l) ∧ Hid (Cur wr B g A n cap Z) ∧ Hid (Only w wr g)) (fun _ i _ => N - (intOf i).toNat)
    case atStart => exact ⟨0, [], Nat.zero_le _, rfl, rfl, (fun x hx => by cases hx), SR.nil _ _, HC3, HO3⟩
    case round =>
      obtain ⟨j, l, hj, rfl, hl, hsz, hR, hC, hO⟩ := hrel
      have hgw := hO.out.size
      by_cases hlt : j < N
      · have hji : (j : Int) < (N : Int) := by omega
        go_wp2_with fail
        refine (text_new wr B g A n cap Z hC.out listT _ rfl 4 rfl (by omega) (by omega) 2 listT_small).mono ?_
        rintro e w4 ⟨a, rfl, ha, hc4, ho4⟩
        have HC4 := Lib.hid hc4; clear hc4
        have HR4 := Lib.hid (sr_only hR.out ho4 hg0)
        have HO4 := Lib.hid (hO.out.trans ho4); clear ho4
        have hz4 := HO4.out.size
        go_wp2_with (at_builtin; refine sr_push w.heap.size w4 _ l a rfl _ _ rfl rfl rfl HR4.out (by omega) (by omega) ?_; intro v5 w5 hrow5 hgrow5)
        have hC5 := HC4.out.same (w' := w5) (fun x hx => hgrow5.block x (by have := HC4.out.lt; omega) (fun e => by have := (HR4.out.lt x e.symm).1; omega))
        have hO5 := HO4.out.grown hgrow5 (fun x hx => (HR4.out.lt x hx).1)
        clear hgrow5
        go_roundw
        case rel => exact ⟨j + 1, l ++ [a], by omega, by go_num, by simp; omega, mem_snoc hsz (by omega), Lib.hid hrow5, Lib.hid hC5, Lib.hid hO5⟩
        case measure => simp [intOf]; omega
      · obtain rfl : j = N := by omega
        clear hlt
        go_wp2_with fail
        refine (once_any wr B g A n cap Z hC.out 25 (by omega) (by omega)).mono ?_
        rintro e w4 ⟨b, rfl, hc4, ho4⟩
        have HC4 := Lib.hid hc4; clear hc4
        have HR4 := Lib.hid (sr_only hR.out ho4 hg0)
        have HO4 := Lib.hid (hO.out.trans ho4); clear ho4
        cases b with
        | true =>
          go_wp2_with fail
          refine (below_any w4 _ g A n cap Z HC4.out 4 (by omega) (by omega)).mono ?_
          rintro e w5 ⟨x, rfl, hx, hc5, ho5⟩
          have HC5 := Lib.hid hc5; clear hc5
          have HR5 := Lib.hid (sr_only HR4.out ho5 hg0)
          have HO5 := Lib.hid (HO4.out.trans ho5); clear ho5
          go_wp2_with fail
          refine (text_at w5 _ g A n cap Z HC5.out (500 - x) 500 (by omega) (by omega) ⟨#[122]⟩ (by decide) (by decide)).mono ?_
          rintro e w6 ⟨a, rfl, ha, hc6, ho6⟩
          have HC6 := Lib.hid hc6; clear hc6
          have HR6 := Lib.hid (sr_only HR5.out ho6 hg0)
          have HO6 := Lib.hid (HO5.out.trans ho6); clear ho6
          have hz6 := HO6.out.size
          go_wp2_with (at_builtin; refine sr_push w.heap.size w6 _ l a rfl _ _ rfl rfl rfl HR6.out (by omega) (by omega) ?_; intro v7 w7 hrow7 hgrow7)
          have hC7 := HC6.out.same (w' := w7) (fun x hx => hgrow7.block x (by have := HC6.out.lt; omega) (fun e => by have := (HR6.out.lt x e.symm).1; omega))
          have hO7 := HO6.out.grown hgrow7 (fun x hx => (HR6.out.lt x hx).1)
          clear hgrow7
          go_ret
          exact ⟨_, l ++ [a], rfl, hrow7, by simp; omega, mem_snoc hsz ha, hC7, hO7⟩
        | false =>
          go_wp2_with fail
          go_ret
          exact ⟨_, l, rfl, HR4.out, by omega, hsz, HC4.out, HO4.out⟩

/-- A drawn list of strings, a number and a text. -/
def PutDraw (w : World) (e : Ending) (w' : World) : Prop :=
  ∃ v l i s, e = .returned (.tuple #[v, .int .i64 i, .string s]) ∧ SR w.heap.size w' v l ∧ l.length ≤ 52 ∧ (∀ x ∈ l, x.size ≤ 500) ∧ (-1 ≤ i ∧ i ≤ 51) ∧ s.size ≤ 2 ∧ Below w.heap.size w w'

set_option maxRecDepth 100000 in
set_option maxHeartbeats 2000000 in
theorem draw_put (w : World) (A : Option Addr) (n cap : Nat) (Z : Nat → Int) (hn : n ≤ 9223372036854775807) (hb : Bytes w w.heap.size A n Z) :
    Calls Try.prog 23 #[.slice A n cap] w (PutDraw w) := by
  have HB := Lib.hid hb; clear hb
  go_enter Try.func23, Try.ntmps23
  go_wp2_with fail
  refine (new_any w A n cap Z hn HB.out).mono ?_
  rintro e w1 ⟨g, rfl, hc1, hb1⟩
  have HC1 := Lib.hid hc1; clear hc1
  have HB1 := Lib.hid hb1; clear hb1
  have hg1 := HC1.out.lt
  go_wp2_with fail
  refine (draw_list w1 _ g A n cap Z HC1.out).mono ?_
  rintro e w2 ⟨v, l, rfl, hr, hl, hsz, hc2, ho2⟩
  have HC2 := Lib.hid hc2; clear hc2
  have HR2 := Lib.hid hr; clear hr
  have HO2 := Lib.hid ho2; clear ho2
  have hg2 := HC2.out.lt
  obtain ⟨ao, cp, rfl⟩ := HR2.out.form
  go_wp2_with fail
  refine (pick_new w2 _ g A n cap Z HC2.out hg2 [0, 1, 2, 3, 7, 50, 51, -1] _ rfl 8 rfl (by omega) (by omega) (fun x => -1 ≤ x ∧ x ≤ 51) (by intro x hx; simp at hx; omega)).mono ?_
  rintro e w3 ⟨q, rfl, hq, hc3, ho3⟩
  have HC3 := Lib.hid hc3; clear hc3
  have HR3 := Lib.hid (sr_only HR2.out ho3 hg1)
  have HO3 := Lib.hid (HO2.out.trans ho3); clear ho3
  have HQ := Lib.hid hq; clear hq
  go_wp2_with fail
  refine (text_new w3 _ g A n cap Z HC3.out putT _ rfl 3 rfl (by omega) (by omega) 2 putT_small).mono ?_
  rintro e w4 ⟨s, rfl, hs, hc4, ho4⟩
  have HR4 := Lib.hid (sr_only HR3.out ho4 hg1)
  have HO4 := Lib.hid (HO3.out.trans ho4); clear ho4 hc4
  go_wp2_with fail
  go_ret3
  exact ⟨_, l, q, s, rfl, SR.same (B := w.heap.size) ⟨HR4.out.1, by rcases HR4.out.2 with h | ⟨x, c, cur, h1, h2, h3⟩; exact .inl h; exact .inr ⟨x, c, cur, h1, by have := HB1.out.size; omega, h3⟩⟩ (fun _ _ => rfl), hl, hsz, HQ.out, hs, HB1.out.trans (HO4.out.below HC1.out.1 HB1.out.size)⟩

end Go.Proofs.Ytnkldjijjpcmhaa.Draw
