/-
  Tokens written one after another, with a blank behind each that is not the name of a call, are read again: plain facts.
  Tokens written one after another are read again: one token, and all of them.
-/
import Derived.Test.YtlfmiikpbdhemaaGreatDoorEscPure
import Derived.Test.YtlfmiikpbdhemaaGreatDoorPures
namespace Go.Proofs.YtlfmiikpbdhemaaGreatDoor.Relex
open Go.RowKit Go.PlainAid
open Go.Proofs.YtlfmiikpbdhemaaGreatDoor.DecPure Go.Proofs.YtlfmiikpbdhemaaGreatDoor.TextPure Go.Proofs.YtlfmiikpbdhemaaGreatDoor.ReadPure Go.Proofs.YtlfmiikpbdhemaaGreatDoor.LexPure Go.Proofs.YtlfmiikpbdhemaaGreatDoor.Esc
open Go.Proofs.YtlfmiikpbdhemaaGreatDoor.RoundPure (endOf_eq decI decI_dig decI_len fracD_dig fracL_dig tL sgL read_back textB_nums Byt tL_byt)
open Go.Proofs.YtlfmiikpbdhemaaGreatDoor.Lex (pz ba_ext str_pz)
set_option linter.unusedVariables false

/-- A token's text, as numbers. -/
def tkL (t : Tk) : List Int :=
  if t.kind = 1 then tL t.n else if t.kind = 2 then 34 :: (escL t.s t.s.size ++ [34]) else if t.kind = 3 then 47 :: (pz t.s 0 t.s.size ++ [47]) else pz t.s 0 t.s.size
def sepL (t : Tk) : List Int := if t.kind = 5 then [] else [32]
def txL : List Tk → List Int
  | [] => []
  | t :: l => tkL t ++ sepL t ++ txL l
theorem txL_add : ∀ (a b : List Tk), txL (a ++ b) = txL a ++ txL b
  | [], b => rfl
  | t :: a, b => by rw [List.cons_append, txL, txL, txL_add a b]; simp

/-- What stands at offset a. -/
def Sp (t : ByteArray) (a : Nat) (X : List Int) : Prop := ∀ k, (hk : k < X.length) → a + k < t.size ∧ bt t (a + k) = X[k]
theorem Sp.left {t : ByteArray} {a : Nat} {X Y : List Int} (h : Sp t a (X ++ Y)) : Sp t a X := fun k hk => by
  have := h k (by rw [List.length_append]; omega)
  rw [List.getElem_append_left hk] at this
  exact this
theorem Sp.right {t : ByteArray} {a : Nat} {X Y : List Int} (h : Sp t a (X ++ Y)) : Sp t (a + X.length) Y := fun k hk => by
  have := h (X.length + k) (by rw [List.length_append]; omega)
  rw [List.getElem_append_right (by omega)] at this
  simp only [Nat.add_sub_cancel_left] at this
  rw [Nat.add_assoc]
  exact this
theorem Sp.tail {t : ByteArray} {a : Nat} {x : Int} {Y : List Int} (h : Sp t a (x :: Y)) : Sp t (a + 1) Y := Sp.right (X := [x]) h
theorem Sp.head {t : ByteArray} {a : Nat} {x : Int} {Y : List Int} (h : Sp t a (x :: Y)) : a < t.size ∧ bt t a = x := by
  have := h 0 (by simp)
  simpa using this
theorem Sp.whole {X : List Int} (h : Byt X) : Sp (strOfNums X) 0 X := fun k hk => by
  rw [Nat.zero_add, strOfNums_size]
  exact ⟨hk, Go.Proofs.YtlfmiikpbdhemaaGreatDoor.RoundPure.bt_nums h hk⟩
theorem pz_len (s : ByteArray) (a n : Nat) : (pz s a n).length = n := by simp [pz]
theorem pz_get (s : ByteArray) (a n k : Nat) (h : k < (pz s a n).length) : (pz s a n)[k] = bt s (a + k) := by simp [pz]
theorem Sp.pz_at {t S : ByteArray} {a : Nat} (h : Sp t a (pz S 0 S.size)) {k : Nat} (hk : k < S.size) : a + k < t.size ∧ bt t (a + k) = bt S k := by
  have := h k (by rw [pz_len]; exact hk)
  rw [pz_get, Nat.zero_add] at this
  exact this
theorem Sp.ext {t S : ByteArray} {a : Nat} (h : Sp t a (pz S 0 S.size)) (hl : a + S.size ≤ t.size) : t.extract a (a + S.size) = S := by
  have hz : (t.extract a (a + S.size)).size = S.size := by rw [size_ext t a _ hl]; omega
  refine ba_ext hz fun i hi => ?_
  rw [hz] at hi
  rw [bt_ext t a (a + S.size) i hl (by omega)]
  exact (h.pz_at hi).2
theorem Sp.nums {t : ByteArray} {a : Nat} {X : List Int} (hb : Byt X) (h : Sp t a X) (hl : a + X.length ≤ t.size) : t.extract a (a + X.length) = strOfNums X := by
  have hz : (t.extract a (a + X.length)).size = X.length := by rw [size_ext t a _ hl]; omega
  refine ba_ext (by rw [hz, strOfNums_size]) fun i hi => ?_
  rw [hz] at hi
  rw [bt_ext t a (a + X.length) i hl (by omega), Go.Proofs.YtlfmiikpbdhemaaGreatDoor.RoundPure.bt_nums hb hi]
  exact (h i hi).2

/-- Gaps: none, or one blank. -/
theorem gap_none {t : ByteArray} {a : Nat} (h : a < t.size → bt t a ≠ 35 ∧ spB (bt t a) = false) : gap t a = a :=
  gap_stop (fun q => (h q.1).1 q.2) (fun q => by rw [(h q.1).2] at q; cases q.2)
theorem gap_one {t : ByteArray} {a : Nat} (h : a < t.size) (hb : bt t a = 32) (h2 : a + 1 < t.size → bt t (a + 1) ≠ 35 ∧ spB (bt t (a + 1)) = false) : gap t a = a + 1 := by
  rw [gap_sp h (by rw [hb]; rfl), gap_none h2]

/-- A number, written and read. -/
theorem num_again {n : Int} (hd : dOk n = true) (h0 : 0 ≤ n) {t : ByteArray} {a : Nat} (h : Sp t a (tL n)) (hl : a + (tL n).length < t.size) (hb : bt t (a + (tL n).length) = 32) :
    dgB (bt t a) = true ∧ numE t a = a + (tL n).length ∧ rdN (t.extract a (a + (tL n).length)) = n := by
  have ha := absV_bd hd
  have hs : sgL n = [] := by unfold sgL; rw [if_neg (by omega)]
  obtain ⟨m, hm⟩ : ∃ m : Nat, m = (absV n / 1000000).toNat := ⟨_, rfl⟩
  have ht : tL n = decI m ++ fracL n := by unfold tL; rw [hs, hm]; rfl
  have hlen : (tL n).length = (decI m).length + (fracL n).length := by rw [ht, List.length_append]
  have hL := decI_len m
  have hD : Sp t a (decI m) := by rw [ht] at h; exact h.left
  have hF : Sp t (a + (decI m).length) (fracL n) := by rw [ht] at h; exact h.right
  have dD : ∀ k, (hk : k < (decI m).length) → 48 ≤ (decI m)[k] ∧ (decI m)[k] ≤ 57 := fun k hk => decI_dig m _ (List.getElem_mem hk)
  have isD : ∀ b : Int, 48 ≤ b ∧ b ≤ 57 → dgB b = true := fun b hb => by simp [dgB]; omega
  have d0 : dgB (bt t a) = true := by
    have h1 := (hD 0 (by omega)).2
    rw [Nat.add_zero] at h1
    rw [h1]
    exact isD _ (dD 0 (by omega))
  have hread : rdN (t.extract a (a + (tL n).length)) = n := by
    have sp0 : ∀ x ∈ ([] : List Int), spB x = true := by intro x hx; cases hx
    rw [Sp.nums (tL_byt n hd) h (by omega)]
    exact (read_back [] [] sp0 sp0 n hd _ (by simp)).1
  have hend1 : ∀ X, X = a + (decI m).length → ¬ (X < t.size ∧ dgB (bt t X) = true) → endOf dgB t a = X := by
    intro X hX hne
    subst hX
    refine endOf_eq _ _ (fun k hk1 hk2 => ?_) hne
    have h1 := hD (k - a) (by omega)
    rw [show a + (k - a) = k from by omega] at h1
    exact ⟨h1.1, by rw [h1.2]; exact isD _ (dD _ (by omega))⟩
  refine ⟨d0, ?_, hread⟩
  by_cases hr : absV n % 1000000 = 0
  · have hF0 : fracL n = [] := by rw [fracL, if_pos hr]
    have hFl : (fracL n).length = 0 := by rw [hF0]; rfl
    have hT : a + (decI m).length = a + (tL n).length := by omega
    have hE := hend1 (a + (tL n).length) hT.symm (by rw [hb]; intro q; simp [dgB] at q)
    unfold numE
    rw [hE, if_neg (by rw [hb]; intro q; omega)]
  · have hF0 : fracL n = 46 :: fracD 6 (absV n % 1000000) := by rw [fracL, if_neg hr]
    have hFl : (fracL n).length = (fracD 6 (absV n % 1000000)).length + 1 := by rw [hF0]; simp
    rw [hF0] at hF
    have h46 := hF.head
    have hFt := hF.tail
    have hE := hend1 (a + (decI m).length) rfl (by rw [h46.2]; intro q; simp [dgB] at q)
    have dF : ∀ k, (hk : k < (fracD 6 (absV n % 1000000)).length) → 48 ≤ (fracD 6 (absV n % 1000000))[k] ∧ (fracD 6 (absV n % 1000000))[k] ≤ 57 := fun k hk => fracD_dig 6 _ (by omega) (by omega) _ (List.getElem_mem hk)
    have hlF : 1 ≤ (fracD 6 (absV n % 1000000)).length := by rw [fracD_step _ hr]; simp
    have g0 := hFt 0 (by omega)
    rw [Nat.add_zero] at g0
    have hE2 : endOf dgB t (a + (decI m).length + 1) = a + (tL n).length := by
      have hT : a + (decI m).length + 1 + (fracD 6 (absV n % 1000000)).length = a + (tL n).length := by omega
      rw [← hT]
      refine endOf_eq _ _ (fun k hk1 hk2 => ?_) ?_
      · have h1 := hFt (k - (a + (decI m).length + 1)) (by omega)
        rw [show a + (decI m).length + 1 + (k - (a + (decI m).length + 1)) = k from by omega] at h1
        exact ⟨h1.1, by rw [h1.2]; exact isD _ (dF _ (by omega))⟩
      · rw [hT, hb]; intro q; simp [dgB] at q
    unfold numE
    rw [hE, if_pos ⟨g0.1, h46.2, by rw [g0.2]; exact isD _ (dF 0 (by omega))⟩, hE2]

/-- A string, written and read. -/
def escM (L : List Int) : List Int := L.flatMap escb
theorem escL_map (s : ByteArray) : ∀ k, escL s k = escM (pz s 0 k)
  | 0 => rfl
  | k + 1 => by rw [escL, escL_map s k, Go.Proofs.YtlfmiikpbdhemaaGreatDoor.Lex.pz_step]; unfold escM; rw [List.flatMap_append]; simp
theorem pz_nums {L : List Int} (h : Byt L) : pz (strOfNums L) 0 (strOfNums L).size = L := by
  apply List.ext_getElem
  · rw [pz_len, strOfNums_size]
  · intro i h1 h2
    rw [pz_get, Nat.zero_add, Go.Proofs.YtlfmiikpbdhemaaGreatDoor.RoundPure.bt_nums h h2]
theorem str_again {t : ByteArray} : ∀ (L : List Int) (a : Nat) (l : List Int), Sp t a (escM L ++ [34]) → strS t a l = some (l ++ L, a + (escM L).length + 1)
  | [], a, l, h => by
    have h1 := Sp.head (x := 34) (Y := []) h
    rw [strS_unf t a l h1.1, if_pos h1.2]
    simp [escM]
  | b :: L, a, l, h => by
    have e : escM (b :: L) = escb b ++ escM L := rfl
    rw [e, List.append_assoc] at h
    have hr := str_again L (a + (escb b).length) (l ++ [b]) h.right
    rw [e, List.length_append]
    have hL := h.left
    by_cases hs : spc b
    · have h2 := escb_two hs
      have f0 := hL 0 (by omega)
      have f1 := hL 1 (by omega)
      rw [Nat.add_zero] at f0
      rw [strS_unf t a l f0.1]
      have e0 : (escb b)[0]'(by omega) = 92 := by rcases hs with rfl | rfl | rfl | rfl <;> rfl
      have e1 : escB ((escb b)[1]'(by omega)) = some b := by rcases hs with rfl | rfl | rfl | rfl <;> rfl
      rw [f0.2, e0, if_neg (by decide), if_neg (by decide), if_pos rfl, if_pos f1.1, f1.2, e1]
      rw [h2] at hr ⊢
      show strS t (a + 2) (l ++ [b]) = _
      rw [hr]
      simp only [List.append_assoc, List.singleton_append, Option.some.injEq, Prod.mk.injEq, true_and]
      omega
    · have h1 := escb_no hs
      rw [h1] at hL hr ⊢
      have f0 := Sp.head hL
      unfold spc at hs
      rw [strS_unf t a l f0.1, f0.2, if_neg (by omega), if_neg (by omega), if_neg (by omega)]
      show strS t (a + 1) (l ++ [b]) = _
      have : ([b] : List Int).length = 1 := rfl
      rw [this] at hr ⊢
      rw [hr]
      simp only [List.append_assoc, List.singleton_append, Option.some.injEq, Prod.mk.injEq, true_and]
      omega

/-- A regular expression, written and read. -/
theorem re_again {s t : ByteArray} : ∀ (m b e a : Nat), s.size - b ≤ m → reS s b = some e → (∀ k, b + k < e → a + k < t.size ∧ bt t (a + k) = bt s (b + k)) → a + (e - b) < t.size → bt t (a + (e - b)) = 47 → reS t a = some (a + (e - b))
  | 0, b, e, a, hm, h, _, _, _ => by
    have := reS_end h
    omega
  | m + 1, b, e, a, hm, h, hk, hl, h47 => by
    have he := reS_end h
    have hbs : b < s.size := by omega
    rw [reS_unf s b hbs] at h
    by_cases c1 : bt s b = 47
    · rw [if_pos c1] at h
      cases h
      rw [Nat.sub_self, Nat.add_zero] at hl h47 ⊢
      rw [reS_unf t a hl, if_pos h47]
    · rw [if_neg c1] at h
      by_cases c2 : bt s b = 92
      · rw [if_pos c2] at h
        by_cases c3 : b + 1 < s.size ∧ bt s (b + 1) ≠ 10
        · rw [if_pos c3] at h
          have he2 := reS_end h
          have k0 := hk 0 (by omega)
          have k1 := hk 1 (by omega)
          rw [Nat.add_zero, Nat.add_zero] at k0
          have ih := re_again m (b + 2) e (a + 2) (by omega) h (fun k q => by
            have := hk (2 + k) (by omega)
            rw [show a + 2 + k = a + (2 + k) from by omega, show b + 2 + k = b + (2 + k) from by omega]
            exact this) (by omega) (by rw [show a + 2 + (e - (b + 2)) = a + (e - b) from by omega]; exact h47)
          rw [reS_unf t a k0.1, k0.2, if_neg c1, if_pos c2, if_pos ⟨k1.1, by rw [k1.2]; exact c3.2⟩, ih]
          congr 1; omega
        · rw [if_neg c3] at h; cases h
      · rw [if_neg c2] at h
        by_cases c4 : bt s b = 10
        · rw [if_pos c4] at h; cases h
        · rw [if_neg c4] at h
          have he2 := reS_end h
          have k0 := hk 0 (by omega)
          rw [Nat.add_zero, Nat.add_zero] at k0
          have ih := re_again m (b + 1) e (a + 1) (by omega) h (fun k q => by
            have := hk (1 + k) (by omega)
            rw [show a + 1 + k = a + (1 + k) from by omega, show b + 1 + k = b + (1 + k) from by omega]
            exact this) (by omega) (by rw [show a + 1 + (e - (b + 1)) = a + (e - b) from by omega]; exact h47)
          rw [reS_unf t a k0.1, k0.2, if_neg c1, if_neg c2, if_neg c4, ih]
          congr 1; omega

end Go.Proofs.YtlfmiikpbdhemaaGreatDoor.Relex

namespace Go.Proofs.YtlfmiikpbdhemaaGreatDoor.Relex
open Go.RowKit Go.PlainAid
open Go.Proofs.YtlfmiikpbdhemaaGreatDoor.DecPure Go.Proofs.YtlfmiikpbdhemaaGreatDoor.TextPure Go.Proofs.YtlfmiikpbdhemaaGreatDoor.ReadPure Go.Proofs.YtlfmiikpbdhemaaGreatDoor.LexPure Go.Proofs.YtlfmiikpbdhemaaGreatDoor.Esc
open Go.Proofs.YtlfmiikpbdhemaaGreatDoor.RoundPure (endOf_eq decI decI_dig decI_len fracD_dig fracL_dig tL sgL read_back textB_nums Byt tL_byt back)
open Go.Proofs.YtlfmiikpbdhemaaGreatDoor.Lex (pz ba_ext str_pz esc_range)
set_option linter.unusedVariables false

/-- What a token that was read says of its text. -/
structure Again (o : Bool) (k : Tk) (d : Nat) (nx : Prop) : Prop where
  head : ∃ b r, tkL k = b :: r ∧ b ≠ 35 ∧ spB b = false
  len : (tkL k).length ≤ 2 * d + 28
  call : k.kind = 5 → nx
  byt : Byt (tkL k)
  kind : 1 ≤ k.kind ∧ k.kind ≤ 7
  num : k.kind = 1 → dOk k.n = true
  again : ∀ (t : ByteArray) (a : Nat), Sp t a (tkL k) → a + (tkL k).length < t.size → bt t (a + (tkL k).length) = (if k.kind = 5 then 40 else 32) → ∃ k' : Tk, tokP t o a = some (k', a + (tkL k).length) ∧ k'.kind = k.kind ∧ k'.s = k.s ∧ k'.n = k.n

theorem rd_digit {X : ByteArray} (h : 0 < X.size) (hd : dgB (bt X 0) = true) : dOk (rdN X) = true ∧ 0 ≤ rdN X := by
  have hb := dgB_yes hd
  have h0 : rA0 X = 0 := endOf_stop (p := spB) (fun q => by have := q.2; simp [spB] at this; omega)
  have hn : rNeg X = false := by
    unfold rNeg
    rw [h0]
    have : (bt X 0 == 45) = false := by simp; omega
    rw [this, Bool.and_false]
  have hv := rV_bd X
  have e : rdN X = if rNo X = true then 0 else rV X := by unfold rdN; rw [hn]; simp
  have h1 : 0 ≤ rdN X ∧ rdN X ≤ 9000000000000 := by rw [e]; split <;> omega
  refine ⟨?_, h1.1⟩
  unfold dOk
  simp; omega

theorem pz_byt (s : ByteArray) (a n : Nat) : Byt (pz s a n) := by
  intro x hx
  obtain ⟨i, hi, rfl⟩ := List.mem_map.1 hx
  exact ⟨bt_nonneg _ _, bt_le _ _⟩
theorem pz_head {s : ByteArray} (h : 0 < s.size) : ∃ r, pz s 0 s.size = bt s 0 :: r := by
  cases hp : pz s 0 s.size with
  | nil => have := pz_len s 0 s.size; rw [hp] at this; simp at this; omega
  | cons b r =>
    have := pz_get s 0 s.size 0 (by rw [pz_len]; exact h)
    simp only [hp] at this
    simp at this
    exact ⟨r, by rw [this]⟩

theorem again_num {s : ByteArray} {o : Bool} {p : Nat} (hp : p < s.size) (c1 : dgB (bt s p) = true) (nx : Prop) : Again o ⟨1, ⟨#[]⟩, rdN (s.extract p (numE s p)), p⟩ (numE s p - p) nx := by
  have h1 := endOf_next (p := dgB) hp c1
  have h2 := numE_ge s p
  have h3 := numE_le s p (by omega)
  have hz : (s.extract p (numE s p)).size = numE s p - p := size_ext s _ _ h3
  have hb0 : bt (s.extract p (numE s p)) 0 = bt s p := by
    have := bt_ext s p (numE s p) 0 h3 (by omega)
    rw [Nat.add_zero] at this
    exact this
  obtain ⟨hd, h0⟩ := rd_digit (X := s.extract p (numE s p)) (by omega) (by rw [hb0]; exact c1)
  obtain ⟨n, hn⟩ : ∃ n, n = rdN (s.extract p (numE s p)) := ⟨_, rfl⟩
  rw [← hn] at hd h0 ⊢
  have e : tkL ⟨1, ⟨#[]⟩, n, p⟩ = tL n := by unfold tkL; rw [if_pos rfl]
  have hsg : sgL n = [] := by unfold sgL; rw [if_neg (by omega)]
  have hsz : (tL n).length ≤ 28 := by
    have := (back hd (s := strOfNums (tL n)) (by unfold dtB; rw [if_pos hd, textB_nums])).1
    rw [strOfNums_size] at this
    exact this
  refine ⟨?_, by rw [e]; omega, fun h => absurd (show (1 : Int) = 5 from h) (by decide), by rw [e]; exact tL_byt n hd, (show (1 : Int) ≤ 1 ∧ (1 : Int) ≤ 7 by decide), fun _ => hd, ?_⟩
  · rw [e]
    unfold tL
    rw [hsg]
    have hl := decI_len (absV n / 1000000).toNat
    have hg := decI_dig (absV n / 1000000).toNat
    cases hq : decI (absV n / 1000000).toNat with
    | nil => rw [hq] at hl; simp at hl
    | cons b r =>
      have := hg b (by rw [hq]; simp)
      refine ⟨b, r ++ fracL n, rfl, by omega, ?_⟩
      simp [spB]; omega
  · intro t a ht hl hb
    rw [e] at ht hl hb ⊢
    have hb : bt t (a + (tL n).length) = 32 := hb
    obtain ⟨g1, g2, g3⟩ := num_again hd h0 ht hl hb
    refine ⟨⟨1, ⟨#[]⟩, rdN (t.extract a (numE t a)), a⟩, ?_, rfl, rfl, ?_⟩
    · unfold tokP
      rw [if_pos g1, g2]
    · show rdN (t.extract a (numE t a)) = n
      rw [g2, g3]

theorem inn_dg {b : Int} (h : letB b = true) : dgB b = false := by
  simp [letB] at h; simp [dgB]; omega
theorem let_sp {b : Int} (h : letB b = true) : b ≠ 35 ∧ spB b = false := by
  simp [letB] at h; simp [spB]; omega
theorem inn_32 : innB 32 = false := by decide
theorem inn_40 : innB 40 = false := by decide
theorem nmK_cases (s : ByteArray) (p e : Nat) : (nmK s p e = 6 ∧ isWd (s.extract p e) = true) ∨ (nmK s p e = 5 ∧ isWd (s.extract p e) = false ∧ e < s.size ∧ bt s e = 40) ∨ (nmK s p e = 4 ∧ isWd (s.extract p e) = false) := by
  unfold nmK
  cases hw : isWd (s.extract p e)
  · by_cases hc : e < s.size ∧ bt s e = 40
    · right; left; simp [hc]
    · right; right; simp; intro h; exact fun h2 => hc ⟨h, h2⟩
  · left; simp

theorem again_name {s : ByteArray} {o : Bool} {p : Nat} (hp : p < s.size) (c2 : letB (bt s p) = true) (c3 : endOf innB s p - p ≤ 40) :
    Again o ⟨nmK s p (endOf innB s p), s.extract p (endOf innB s p), 0, p⟩ (endOf innB s p - p) (endOf innB s p < s.size ∧ bt s (endOf innB s p) = 40) := by
  have hi : innB (bt s p) = true := by unfold innB; rw [c2]; rfl
  have h1 := endOf_next (p := innB) hp hi
  have h2 := endOf_le innB s p (by omega)
  have hin : ∀ k, p ≤ k → k < endOf innB s p → innB (bt s k) = true := fun k q1 q2 => (endOf_at (p := innB) q1 q2).2
  obtain ⟨e, he⟩ : ∃ e, e = endOf innB s p := ⟨_, rfl⟩
  rw [← he] at h1 h2 hin c3 ⊢
  obtain ⟨S, hS⟩ : ∃ S, S = s.extract p e := ⟨_, rfl⟩
  have hz : S.size = e - p := by rw [hS]; exact size_ext s _ _ h2
  have hbS : ∀ k, k < S.size → bt S k = bt s (p + k) := fun k hk => by rw [hS]; exact bt_ext s p e k h2 (by omega)
  have hk := nmK_cases s p e
  rw [← hS] at hk ⊢
  obtain ⟨K, hK⟩ : ∃ K, K = nmK s p e := ⟨_, rfl⟩
  rw [← hK] at hk ⊢
  have hKr : 4 ≤ K ∧ K ≤ 6 := by omega
  have eT : tkL ⟨K, S, 0, p⟩ = pz S 0 S.size := by
    unfold tkL
    simp only
    rw [if_neg (by omega), if_neg (by omega), if_neg (by omega)]
  have h0 : bt S 0 = bt s p := by have := hbS 0 (by omega); rw [Nat.add_zero] at this; exact this
  refine ⟨?_, by rw [eT, pz_len]; omega, ?_, by rw [eT]; exact pz_byt _ _ _, ⟨by show 1 ≤ K; omega, by show K ≤ 7; omega⟩, fun h => by have h : K = 1 := h; omega, ?_⟩
  · obtain ⟨r, hr⟩ := pz_head (s := S) (by omega)
    refine ⟨bt S 0, r, by rw [eT, hr], ?_⟩
    rw [h0]
    exact let_sp c2
  · intro h5
    have h5 : K = 5 := h5
    rcases hk with ⟨q, _⟩ | ⟨_, _, q⟩ | ⟨q, _⟩
    · omega
    · exact q
    · omega
  · intro t a ht hl hb
    rw [eT] at ht hl hb ⊢
    rw [pz_len] at hl hb ⊢
    have hb : bt t (a + S.size) = if K = 5 then 40 else 32 := hb
    have ht0 := ht.pz_at (k := 0) (by omega)
    rw [Nat.add_zero, h0] at ht0
    have hlet : letB (bt t a) = true := by rw [ht0.2]; exact c2
    have hE : endOf innB t a = a + S.size := by
      refine endOf_eq _ _ (fun k hk1 hk2 => ?_) ?_
      · have hx := ht.pz_at (k := k - a) (by omega)
        rw [show a + (k - a) = k from by omega, hbS _ (by omega)] at hx
        exact ⟨hx.1, by rw [hx.2]; exact hin _ (by omega) (by omega)⟩
      · rw [hb]
        intro q
        have := q.2
        split at this
        · rw [inn_40] at this; cases this
        · rw [inn_32] at this; cases this
    have hX : t.extract a (a + S.size) = S := ht.ext (by omega)
    refine ⟨⟨nmK t a (a + S.size), S, 0, a⟩, ?_, ?_, rfl, rfl⟩
    · unfold tokP
      rw [if_neg (by rw [inn_dg hlet]; decide), if_pos hlet, hE, if_pos (by omega), hX]
    · show nmK t a (a + S.size) = K
      have hn := nmK_cases t a (a + S.size)
      rw [hX] at hn
      rcases hk with ⟨q, qw⟩ | ⟨q, qw, _⟩ | ⟨q, qw⟩
      · rw [qw] at hn
        rcases hn with ⟨n1, _⟩ | ⟨_, n2, _⟩ | ⟨_, n2⟩
        · omega
        · cases n2
        · cases n2
      · rw [if_pos q] at hb
        unfold nmK
        rw [hX, qw, if_neg (by decide), if_pos ⟨hl, hb⟩, q]
      · rw [if_neg (by omega)] at hb
        unfold nmK
        rw [hX, qw, if_neg (by decide), if_neg (by rw [hb]; intro q; omega), q]

theorem strF_byt (s : ByteArray) : ∀ (m a : Nat) (l r : List Int) (e : Nat), Byt l → strF s m a l = some (r, e) → Byt r
  | 0, _, _, _, _, _, h => by cases h
  | m + 1, a, l, r, e, hl, h => by
    rw [strF] at h
    have add : ∀ c : Int, 0 ≤ c ∧ c ≤ 255 → Byt (l ++ [c]) := fun c hc x hx => by
      rcases List.mem_append.1 hx with hx | hx
      · exact hl x hx
      · simp at hx; subst hx; exact hc
    by_cases c1 : a < s.size
    · rw [if_pos c1] at h
      by_cases c2 : bt s a = 34
      · rw [if_pos c2] at h; cases h; exact hl
      · rw [if_neg c2] at h
        by_cases c3 : bt s a = 10
        · rw [if_pos c3] at h; cases h
        · rw [if_neg c3] at h
          by_cases c4 : bt s a = 92
          · rw [if_pos c4] at h
            by_cases c5 : a + 1 < s.size
            · rw [if_pos c5] at h
              cases hc : escB (bt s (a + 1)) with
              | none => rw [hc] at h; cases h
              | some c =>
                rw [hc] at h
                exact strF_byt s m _ _ r e (add c (esc_range hc)) h
            · rw [if_neg c5] at h; cases h
          · rw [if_neg c4] at h
            exact strF_byt s m _ _ r e (add _ ⟨bt_nonneg _ _, bt_le _ _⟩) h
    · rw [if_neg c1] at h; cases h

theorem again_str {s : ByteArray} {o : Bool} {p e : Nat} {r : List Int} (hp : p < s.size) (c3 : bt s p = 34) (h : strS s (p + 1) [] = some (r, e)) (nx : Prop) : Again o ⟨2, strOfNums r, 0, p⟩ (e - p) nx := by
  have hr : Byt r := strF_byt s _ _ [] r e (fun x hx => by cases hx) h
  obtain ⟨q1, q2, q3⟩ := strS_end h
  have eT : tkL ⟨2, strOfNums r, 0, p⟩ = 34 :: (escM r ++ [34]) := by
    unfold tkL
    simp only
    rw [if_neg (by decide), if_pos (by decide), escL_map, pz_nums hr]
  have eL := escL_len (strOfNums r) (strOfNums r).size
  have cL := cntS_le (strOfNums r) (strOfNums r).size
  rw [escL_map, pz_nums hr] at eL
  rw [strOfNums_size] at eL cL
  have hby : Byt (escM r) := by
    intro x hx
    have := escL_range (strOfNums r) (strOfNums r).size x (by rw [escL_map, pz_nums hr]; exact hx)
    exact this
  have hlen : (tkL ⟨2, strOfNums r, 0, p⟩).length = (escM r).length + 2 := by rw [eT]; simp
  simp only [List.length_nil] at q3
  refine ⟨⟨34, _, eT, by decide, by decide⟩, by rw [hlen, eL]; omega, fun h => absurd (show (2 : Int) = 5 from h) (by decide), ?_, (show (1 : Int) ≤ 2 ∧ (2 : Int) ≤ 7 by decide), fun h => absurd (show (2 : Int) = 1 from h) (by decide), ?_⟩
  · rw [eT]
    intro x hx
    rcases List.mem_cons.1 hx with hx | hx
    · omega
    · rcases List.mem_append.1 hx with hx | hx
      · exact hby x hx
      · simp at hx; omega
  · intro t a ht hl hb
    rw [hlen] at hl hb ⊢
    rw [eT] at ht
    have t0 := ht.head
    have ts := str_again r (a + 1) [] ht.tail
    refine ⟨⟨2, strOfNums r, 0, a⟩, ?_, rfl, rfl, rfl⟩
    unfold tokP
    rw [t0.2, if_neg (by decide), if_neg (by decide), if_pos rfl, ts]
    simp only [List.nil_append, Option.some.injEq, Prod.mk.injEq, true_and]
    omega

theorem again_re {s : ByteArray} {p e : Nat} (hp : p < s.size) (c3 : bt s p = 47) (h : reS s (p + 1) = some e) (nx : Prop) : Again false ⟨3, s.extract (p + 1) e, 0, p⟩ (e + 1 - p) nx := by
  obtain ⟨q1, q2⟩ := reS_end h
  obtain ⟨S, hS⟩ : ∃ S, S = s.extract (p + 1) e := ⟨_, rfl⟩
  have hz : S.size = e - (p + 1) := by rw [hS]; exact size_ext s _ _ (by omega)
  have hbS : ∀ k, k < S.size → bt S k = bt s (p + 1 + k) := fun k hk => by rw [hS]; exact bt_ext s (p + 1) e k (by omega) (by omega)
  rw [← hS]
  have eT : tkL ⟨3, S, 0, p⟩ = 47 :: (pz S 0 S.size ++ [47]) := by
    unfold tkL
    simp only
    rw [if_neg (by decide), if_neg (by decide), if_pos (by decide)]
  have hlen : (tkL ⟨3, S, 0, p⟩).length = S.size + 2 := by rw [eT]; simp [pz_len]
  refine ⟨⟨47, _, eT, by decide, by decide⟩, by rw [hlen]; omega, fun h => absurd (show (3 : Int) = 5 from h) (by decide), ?_, (show (1 : Int) ≤ 3 ∧ (3 : Int) ≤ 7 by decide), fun h => absurd (show (3 : Int) = 1 from h) (by decide), ?_⟩
  · rw [eT]
    intro x hx
    rcases List.mem_cons.1 hx with hx | hx
    · omega
    · rcases List.mem_append.1 hx with hx | hx
      · exact pz_byt _ _ _ x hx
      · simp at hx; omega
  · intro t a ht hl hb
    rw [hlen] at hl hb ⊢
    rw [eT] at ht
    have t0 := ht.head
    have t1 := ht.tail.left
    have t2 := ht.tail.right.head
    rw [pz_len] at t2
    have hr := re_again s.size (p + 1) e (a + 1) (by omega) h (fun k hk => by
      have := t1.pz_at (k := k) (by omega)
      rw [hbS k (by omega)] at this
      exact this) (by rw [← hz]; exact t2.1) (by rw [← hz]; exact t2.2)
    rw [← hz] at hr
    have hX : t.extract (a + 1) (a + 1 + S.size) = S := t1.ext (by omega)
    refine ⟨⟨3, S, 0, a⟩, ?_, rfl, rfl, rfl⟩
    unfold tokP
    rw [t0.2, if_neg (by decide), if_neg (by decide), if_neg (by decide), if_pos ⟨rfl, rfl⟩, hr]
    simp only [Option.some.injEq, Prod.mk.injEq]
    rw [hX]
    exact ⟨rfl, by omega⟩

theorem two_mem {x y : Int} (h : twoB x y = true) : x ∈ ([38, 124, 61, 33, 60, 43] : List Int) := by
  simp [twoB] at h
  simp
  omega
theorem two_32 (x : Int) : twoB x 32 = false := by simp [twoB]
theorem one_mem {x : Int} (h : oneB x = true) : x ∈ oneL := by simpa [oneB] using h
theorem sgn_head {s : ByteArray} {p : Nat} (h : sgn s p ≠ 0) : bt s p ≠ 35 ∧ spB (bt s p) = false ∧ dgB (bt s p) = false ∧ letB (bt s p) = false ∧ bt s p ≠ 34 := by
  have hm : bt s p ∈ (38 :: 124 :: oneL : List Int) := by
    unfold sgn at h
    split at h
    · rename_i q
      have := two_mem q.2
      simp at this
      simp [oneL]
      omega
    · split at h
      · rename_i q
        exact List.mem_cons_of_mem _ (List.mem_cons_of_mem _ (one_mem q))
      · exact absurd rfl h
  have : ∀ x ∈ (38 :: 124 :: oneL : List Int), x ≠ 35 ∧ spB x = false ∧ dgB x = false ∧ letB x = false ∧ x ≠ 34 := by decide
  exact this _ hm

theorem again_sign {s : ByteArray} {o : Bool} {p : Nat} (hp : p < s.size) (c4 : ¬ (bt s p = 47 ∧ o = false)) (h : sgn s p ≠ 0) (nx : Prop) : Again o ⟨7, s.extract p (p + sgn s p), 0, p⟩ (p + sgn s p - p) nx := by
  obtain ⟨g1, g2, g3, g4, g5⟩ := sgn_head h
  have hle := sgn_le hp
  have h2 := sgn_two s p
  obtain ⟨S, hS⟩ : ∃ S, S = s.extract p (p + sgn s p) := ⟨_, rfl⟩
  have hz : S.size = sgn s p := by rw [hS, size_ext s _ _ hle]; omega
  have hbS : ∀ k, k < S.size → bt S k = bt s (p + k) := fun k hk => by rw [hS]; exact bt_ext s p _ k hle (by omega)
  have h0 : bt S 0 = bt s p := by have := hbS 0 (by omega); rw [Nat.add_zero] at this; exact this
  rw [← hS]
  have eT : tkL ⟨7, S, 0, p⟩ = pz S 0 S.size := by
    unfold tkL
    simp only
    rw [if_neg (by decide), if_neg (by decide), if_neg (by decide)]
  refine ⟨?_, by rw [eT, pz_len]; omega, fun h => absurd (show (7 : Int) = 5 from h) (by decide), by rw [eT]; exact pz_byt _ _ _, (show (1 : Int) ≤ 7 ∧ (7 : Int) ≤ 7 by decide), fun h => absurd (show (7 : Int) = 1 from h) (by decide), ?_⟩
  · obtain ⟨r, hr⟩ := pz_head (s := S) (by omega)
    exact ⟨bt S 0, r, by rw [eT, hr], by rw [h0]; exact ⟨g1, g2⟩⟩
  · intro t a ht hl hb
    rw [eT] at ht hl hb ⊢
    rw [pz_len] at hl hb ⊢
    have hb : bt t (a + S.size) = 32 := hb
    have t0 := ht.pz_at (k := 0) (by omega)
    rw [Nat.add_zero, h0] at t0
    have hX : t.extract a (a + S.size) = S := ht.ext (by omega)
    have hs : sgn t a = S.size := by
      rw [hz]
      unfold sgn at h hz ⊢
      by_cases q : p + 1 < s.size ∧ twoB (bt s p) (bt s (p + 1)) = true
      · rw [if_pos q] at hz ⊢
        have t1 := ht.pz_at (k := 1) (by omega)
        rw [hbS 1 (by omega)] at t1
        rw [if_pos ⟨t1.1, by rw [t0.2, t1.2]; exact q.2⟩]
      · rw [if_neg q] at h hz ⊢
        by_cases q1 : oneB (bt s p) = true
        · rw [if_pos q1] at hz ⊢
          rw [hz] at hb
          rw [if_neg (by rw [hb, two_32]; intro q; cases q.2), t0.2, if_pos q1]
        · rw [if_neg q1] at h; exact absurd rfl h
    refine ⟨⟨7, S, 0, a⟩, ?_, rfl, rfl, rfl⟩
    unfold tokP
    rw [t0.2, if_neg (by rw [g3]; decide), if_neg (by rw [g4]; decide), if_neg g5, if_neg c4, hs, if_neg (by omega), hX]

theorem again_tok {s : ByteArray} {o : Bool} {p e : Nat} {k : Tk} (hp : p < s.size) (h : tokP s o p = some (k, e)) : Again o k (e - p) (e < s.size ∧ bt s e = 40) := by
  unfold tokP at h
  by_cases c1 : dgB (bt s p) = true
  · rw [if_pos c1] at h
    cases h
    exact again_num hp c1 _
  · rw [if_neg c1] at h
    by_cases c2 : letB (bt s p) = true
    · rw [if_pos c2] at h
      by_cases c3 : endOf innB s p - p ≤ 40
      · rw [if_pos c3] at h
        cases h
        exact again_name hp c2 c3
      · rw [if_neg c3] at h; cases h
    · rw [if_neg c2] at h
      by_cases c3 : bt s p = 34
      · rw [if_pos c3] at h
        cases hq : strS s (p + 1) [] with
        | none => rw [hq] at h; cases h
        | some q =>
          rw [hq] at h
          obtain ⟨r, e'⟩ := q
          cases h
          exact again_str hp c3 hq _
      · rw [if_neg c3] at h
        by_cases c4 : bt s p = 47 ∧ o = false
        · rw [if_pos c4] at h
          cases hq : reS s (p + 1) with
          | none => rw [hq] at h; cases h
          | some q =>
            rw [hq] at h
            cases h
            obtain ⟨c4, rfl⟩ := c4
            exact again_re hp c4 hq _
        · rw [if_neg c4] at h
          by_cases c5 : sgn s p = 0
          · rw [if_pos c5] at h; cases h
          · rw [if_neg c5] at h
            cases h
            exact again_sign hp c4 c5 _

/-- The tokens from offset p on, one after another. -/
def LexTo (s : ByteArray) : Nat → Bool → List Tk → Prop
  | p, o, [] => ¬ gap s p < s.size
  | p, o, k :: l => gap s p < s.size ∧ ∃ e, tokP s o (gap s p) = some (k, e) ∧ LexTo s e (opnd [k]) l
theorem opnd_add (l : List Tk) (k : Tk) : opnd (l ++ [k]) = opnd [k] := by
  have h1 : tth (l ++ [k]) ((l ++ [k]).length - 1) = k := by simp [tth]
  have h2 : tth [k] ([k].length - 1) = k := by simp [tth]
  unfold opnd
  rw [h1, h2]
  simp
theorem opnd_same {k k' : Tk} (h1 : k'.kind = k.kind) (h2 : k'.s = k.s) : opnd [k'] = opnd [k] := by
  unfold opnd
  simp only [tth, List.getD, List.length_singleton, Nat.sub_self]
  simp [h1, h2]
theorem lexTo_of (s : ByteArray) : ∀ (m p : Nat) (acc L : List Tk), s.size + 1 - p ≤ m → lexS s p acc = (L, -1) → ∃ r, L = acc ++ r ∧ LexTo s p (opnd acc) r
  | 0, p, acc, L, hm, h => by
    have hg := gap_ge s p
    have hn : ¬ gap s p < s.size := by omega
    rw [lexS_unf, if_neg hn] at h
    cases h
    exact ⟨[], by simp, hn⟩
  | m + 1, p, acc, L, hm, h => by
    by_cases hn : gap s p < s.size
    · rw [lexS_unf, if_pos hn] at h
      have hg := gap_ge s p
      cases hq : tokP s (opnd acc) (gap s p) with
      | none =>
        rw [hq] at h
        simp only [Prod.mk.injEq] at h
        have := h.2
        omega
      | some q =>
        rw [hq] at h
        obtain ⟨k, e⟩ := q
        have he := (tokP_end hn hq).1
        obtain ⟨r, h1, h2⟩ := lexTo_of s m e (acc ++ [k]) L (by omega) h
        rw [opnd_add] at h2
        exact ⟨k :: r, by rw [h1]; simp, hn, e, hq, h2⟩
    · rw [lexS_unf, if_neg hn] at h
      cases h
      exact ⟨[], by simp, hn⟩
theorem lexTo_back (s : ByteArray) : ∀ (r : List Tk) (p : Nat) (acc : List Tk), LexTo s p (opnd acc) r → lexS s p acc = (acc ++ r, -1)
  | [], p, acc, h => by
    have h : ¬ gap s p < s.size := h
    rw [lexS_unf, if_neg h]; simp
  | k :: r, p, acc, h => by
    obtain ⟨hn, e, hq, h2⟩ := h
    rw [lexS_unf, if_pos hn, hq]
    show lexS s e (acc ++ [k]) = _
    rw [lexTo_back s r e (acc ++ [k]) (by rw [opnd_add]; exact h2)]
    simp

/-- The offsets of tokens grow. -/
theorem lexTo_pos {s : ByteArray} : ∀ (r : List Tk) (p : Nat) (o : Bool), LexTo s p o r → ∀ i, i < r.length → p ≤ (tth r i).pos ∧ (i + 1 < r.length → (tth r i).pos < (tth r (i + 1)).pos)
  | [], p, o, h, i, hi => by simp at hi
  | k :: r, p, o, h, i, hi => by
    obtain ⟨hn, e, hq, h2⟩ := h
    have hg := gap_ge s p
    have he := tokP_end hn hq
    match i, hi with
    | 0, _ =>
      refine ⟨by show p ≤ k.pos; omega, fun h1 => ?_⟩
      have := (lexTo_pos r e _ h2 0 (by simpa using h1)).1
      have e1 : tth (k :: r) 0 = k := rfl
      have e2 : tth (k :: r) (0 + 1) = tth r 0 := rfl
      rw [e1, e2]
      omega
    | j + 1, hi =>
      have hj : j < r.length := by simpa using hi
      obtain ⟨i1, i2⟩ := lexTo_pos r e _ h2 j hj
      have e1 : tth (k :: r) (j + 1) = tth r j := rfl
      have e2 : tth (k :: r) (j + 1 + 1) = tth r (j + 1) := rfl
      rw [e1, e2]
      exact ⟨by omega, fun h1 => i2 (by simpa using h1)⟩
/-- The texts' size and bytes. -/
theorem lexTo_size {s : ByteArray} : ∀ (r : List Tk) (p : Nat) (o : Bool), LexTo s p o r → p ≤ s.size → (txL r).length + 31 * p ≤ 31 * s.size ∧ Byt (txL r) ∧ ∀ k ∈ r, (1 ≤ k.kind ∧ k.kind ≤ 7) ∧ (k.kind = 1 → dOk k.n = true) ∧ k.s.size ≤ s.size
  | [], p, o, h, hp => ⟨by show 0 + 31 * p ≤ _; omega, fun x hx => absurd hx List.not_mem_nil, fun k hk => absurd hk List.not_mem_nil⟩
  | k :: r, p, o, h, hp => by
    obtain ⟨hn, e, hq, h2⟩ := h
    have hg := gap_ge s p
    have he := tokP_end hn hq
    have ha := again_tok hn hq
    obtain ⟨i1, i2, i3⟩ := lexTo_size r e _ h2 he.2.1
    have hl := ha.len
    have hs : (sepL k).length ≤ 1 := by unfold sepL; split <;> simp
    refine ⟨?_, ?_, ?_⟩
    · rw [txL, List.length_append, List.length_append]; omega
    · intro x hx
      rw [txL] at hx
      rcases List.mem_append.1 hx with hx | hx
      · rcases List.mem_append.1 hx with hx | hx
        · exact ha.byt x hx
        · unfold sepL at hx
          split at hx
          · cases hx
          · simp at hx; omega
      · exact i2 x hx
    · intro x hx
      rcases List.mem_cons.1 hx with rfl | hx
      · exact ⟨ha.kind, ha.num, he.2.2.1⟩
      · exact i3 x hx

/-- The same tokens, wherever they stand. -/
def Alike : List Tk → List Tk → Prop
  | [], [] => True
  | k :: r, k' :: r' => k'.kind = k.kind ∧ k'.s = k.s ∧ k'.n = k.n ∧ Alike r r'
  | _, _ => False
theorem alike_len : ∀ {a b : List Tk}, Alike a b → b.length = a.length
  | [], [], _ => rfl
  | k :: r, k' :: r', h => by rw [List.length_cons, List.length_cons, alike_len h.2.2.2]
  | [], _ :: _, h => h.elim
  | _ :: _, [], h => h.elim
theorem alike_at : ∀ {a b : List Tk}, Alike a b → ∀ i, i < a.length → (tth b i).kind = (tth a i).kind ∧ (tth b i).s = (tth a i).s ∧ (tth b i).n = (tth a i).n
  | [], [], _, i, hi => by simp at hi
  | k :: r, k' :: r', h, 0, hi => ⟨h.1, h.2.1, h.2.2.1⟩
  | k :: r, k' :: r', h, i + 1, hi => alike_at h.2.2.2 i (by simpa using hi)
  | [], _ :: _, h, _, _ => h.elim
  | _ :: _, [], h, _, _ => h.elim

theorem sgn_paren {s : ByteArray} {e : Nat} (h : bt s e = 40) : sgn s e = 1 := by
  unfold sgn
  rw [h, if_neg (by simp [twoB]), if_pos (by decide)]
theorem tok_paren {s : ByteArray} {o : Bool} {e e2 : Nat} {k : Tk} (hl : e < s.size) (h : bt s e = 40) (ht : tokP s o e = some (k, e2)) : ∃ r, tkL k = 40 :: r := by
  unfold tokP at ht
  have hx : (s.extract e (e + 1)).size = 1 := by rw [size_ext s _ _ (by omega)]; omega
  rw [h, if_neg (by decide), if_neg (by decide), if_neg (by decide), if_neg (by intro q; have := q.1; omega), sgn_paren h, if_neg (by decide)] at ht
  cases ht
  obtain ⟨r, hr⟩ := pz_head (s := s.extract e (e + 1)) (by omega)
  refine ⟨r, ?_⟩
  unfold tkL
  simp only
  rw [if_neg (by decide), if_neg (by decide), if_neg (by decide), hr]
  have hb0 : bt (s.extract e (e + 1)) 0 = bt s (e + 0) := bt_ext s e (e + 1) 0 (by omega) (by omega)
  have hb1 : bt s (e + 0) = 40 := h
  rw [hb0, hb1]

/-- READ AGAIN: what is written is read as it was. -/
theorem relex {s t : ByteArray} : ∀ (r : List Tk) (p : Nat) (o : Bool) (a0 a : Nat), LexTo s p o r → gap t a0 = a → Sp t a (txL r) → a + (txL r).length = t.size → ∃ r', LexTo t a0 o r' ∧ Alike r r'
  | [], p, o, a0, a, h, hg, hs, hl => ⟨[], by show ¬ gap t a0 < t.size; rw [hg]; simp [txL] at hl; omega, trivial⟩
  | k :: r, p, o, a0, a, h, hg, hs, hl => by
    obtain ⟨hn, e, hq, h2⟩ := h
    have ha := again_tok hn hq
    obtain ⟨b, br, hbr, hb1, hb2⟩ := ha.head
    rw [txL] at hs hl
    have hK := hs.left.left
    have hS := hs.left.right
    have hR := hs.right
    rw [List.length_append] at hR
    rw [List.length_append, List.length_append] at hl
    have hat : a < t.size := by rw [hbr] at hK; exact hK.head.1
    -- what begins the rest does not begin a gap
    have hrest : ∀ c, c = a + ((tkL k).length + (sepL k).length) → c < t.size → bt t c ≠ 35 ∧ spB (bt t c) = false := by
      intro c hc hlt
      subst hc
      cases r with
      | nil => simp [txL] at hl; omega
      | cons k2 r2 =>
        obtain ⟨hn2, e2, hq2, _⟩ := h2
        have ha2 := again_tok hn2 hq2
        obtain ⟨b2, br2, hbr2, hc1, hc2⟩ := ha2.head
        rw [txL, hbr2] at hR
        have := hR.left.left.head
        rw [this.2]
        exact ⟨hc1, hc2⟩
    by_cases h5 : k.kind = 5
    · -- the name of a call: its parenthesis follows
      have hsep : sepL k = [] := by unfold sepL; rw [if_pos h5]
      rw [hsep] at hR hl hrest
      simp only [List.length_nil, Nat.add_zero] at hR hl hrest
      obtain ⟨he1, he2⟩ := ha.call h5
      have hge : gap s e = e := gap_none (fun _ => by rw [he2]; exact ⟨by decide, by decide⟩)
      cases r with
      | nil =>
        have h2 : ¬ gap s e < s.size := h2
        rw [hge] at h2
        exact absurd he1 h2
      | cons k2 r2 =>
        obtain ⟨hn2, e2, hq2, h3⟩ := h2
        rw [hge] at hq2
        obtain ⟨pr, hpr⟩ := tok_paren he1 he2 hq2
        have hfirst : a + (tkL k).length < t.size ∧ bt t (a + (tkL k).length) = 40 := by
          have := hR
          rw [txL, hpr] at this
          exact this.left.left.head
        obtain ⟨k', ht', q1, q2, q3⟩ := ha.again t a hK hfirst.1 (by rw [if_pos h5]; exact hfirst.2)
        have hgn : gap t (a + (tkL k).length) = a + (tkL k).length := gap_none (hrest _ rfl)
        obtain ⟨r', hr1, hr2⟩ := relex (k2 :: r2) e (opnd [k]) (a + (tkL k).length) (a + (tkL k).length) ⟨hn2, e2, by rw [hge]; exact hq2, h3⟩ hgn hR (by omega)
        refine ⟨k' :: r', ⟨by rw [hg]; exact hat, a + (tkL k).length, by rw [hg]; exact ht', by rw [opnd_same q1 q2]; exact hr1⟩, q1, q2, q3, hr2⟩
    · have hsep : sepL k = [32] := by unfold sepL; rw [if_neg h5]
      rw [hsep] at hR hl hrest hS
      simp only [List.length_singleton] at hR hl hrest
      have h32 := hS.head
      obtain ⟨k', ht', q1, q2, q3⟩ := ha.again t a hK h32.1 (by rw [if_neg h5]; exact h32.2)
      have hgn : gap t (a + (tkL k).length) = a + ((tkL k).length + 1) := gap_one h32.1 h32.2 (hrest _ rfl)
      obtain ⟨r', hr1, hr2⟩ := relex r e (opnd [k]) (a + (tkL k).length) (a + ((tkL k).length + 1)) h2 hgn hR (by omega)
      exact ⟨k' :: r', ⟨by rw [hg]; exact hat, a + (tkL k).length, by rw [hg]; exact ht', by rw [opnd_same q1 q2]; exact hr1⟩, q1, q2, q3, hr2⟩

/-- ALL OF IT: the tokens of a text, written and read. -/
theorem lex_again {s : ByteArray} {l : List Tk} (h : lexP s = (l, -1)) :
    (txL l).length ≤ 124000 ∧ Byt (txL l) ∧ (∀ k ∈ l, (1 ≤ k.kind ∧ k.kind ≤ 7) ∧ (k.kind = 1 → dOk k.n = true) ∧ k.s.size ≤ 4000) ∧ (∀ i, i + 1 < l.length → (tth l i).pos < (tth l (i + 1)).pos) ∧
      ((txL l).length ≤ 4000 → ∃ l', lexP (strOfNums (txL l)) = (l', -1) ∧ Alike l l') := by
  unfold lexP at h
  by_cases hz : 4000 < s.size
  · rw [if_pos hz] at h
    simp at h
  · rw [if_neg hz] at h
    obtain ⟨r, hr, ht⟩ := lexTo_of s (s.size + 1) 0 [] l (by omega) h
    rw [List.nil_append] at hr
    subst hr
    have ho : opnd [] = false := rfl
    rw [ho] at ht
    obtain ⟨h1, h2, h3⟩ := lexTo_size l 0 false ht (Nat.zero_le _)
    refine ⟨by omega, h2, fun k hk => ⟨(h3 k hk).1, (h3 k hk).2.1, by have := (h3 k hk).2.2; omega⟩, fun i hi => (lexTo_pos l 0 false ht i (by omega)).2 hi, fun h4 => ?_⟩
    have hg : gap (strOfNums (txL l)) 0 = 0 := by
      refine gap_none (fun h0 => ?_)
      cases l with
      | nil => rw [strOfNums_size] at h0; simp [txL] at h0
      | cons k r =>
        obtain ⟨hn, e, hq, _⟩ := ht
        obtain ⟨b, br, hbr, hb1, hb2⟩ := (again_tok hn hq).head
        have hw := Sp.whole h2
        rw [txL, hbr] at hw
        have := hw.left.left.head
        rw [← hbr, ← txL] at this
        rw [this.2]
        exact ⟨hb1, hb2⟩
    obtain ⟨r', hr1, hr2⟩ := relex (t := strOfNums (txL l)) l 0 false 0 0 ht hg (Sp.whole h2) (by rw [strOfNums_size]; omega)
    refine ⟨r', ?_, hr2⟩
    unfold lexP
    rw [if_neg (by rw [strOfNums_size]; omega), lexTo_back _ r' 0 [] hr1, List.nil_append]

end Go.Proofs.YtlfmiikpbdhemaaGreatDoor.Relex
