/-
  Plain facts: reading the printed text of a decimal gives it back, whatever whitespace stands around it.
-/
import Derived.Test.YthaedmldlenhgaaDoorFmtPure
import Derived.Test.YthaedmldlenhgaaDoorReadPure
namespace Go.Proofs.YthaedmldlenhgaaDoor.RoundPure
open Go Go.RowKit Go.PlainAid
open Go.Proofs.YthaedmldlenhgaaDoor.DecPure Go.Proofs.YthaedmldlenhgaaDoor.TextPure Go.Proofs.YthaedmldlenhgaaDoor.ReadPure
set_option linter.unusedVariables false

theorem endOf_eq {p : Int → Bool} {s : ByteArray} : ∀ (m a : Nat), (∀ k, a ≤ k → k < a + m → k < s.size ∧ p (bt s k) = true) → ¬ (a + m < s.size ∧ p (bt s (a + m)) = true) → endOf p s a = a + m
  | 0, a, _, h2 => endOf_stop h2
  | m + 1, a, h1, h2 => by
    have h := h1 a (Nat.le_refl _) (by omega)
    rw [endOf_step h.1 h.2, endOf_eq m (a + 1) (fun k hk1 hk2 => h1 k (by omega) (by omega)) (by rw [show a + 1 + m = a + (m + 1) from by omega]; exact h2)]
    omega

/-! Texts as lists of numbers. -/
def Byt (xs : List Int) : Prop := ∀ x ∈ xs, 0 ≤ x ∧ x ≤ 255
theorem bt_nums {xs : List Int} (h : Byt xs) {k : Nat} (hk : k < xs.length) : bt (strOfNums xs) k = xs[k] := by
  have hs : k < (strOfNums xs).size := by rw [strOfNums_size]; exact hk
  unfold bt
  rw [dif_pos hs]
  have hb := h xs[k] (List.getElem_mem _)
  have e : (strOfNums xs)[k]'hs = UInt8.ofNat (xs[k]).toNat := by
    show (strOfNums xs).data[k]'hs = _
    simp [strOfNums]
  rw [e]
  simp
  omega
/-- The numeral as numbers. -/
def decI (m : Nat) : List Int := (Lib.decDigits m).map fun b => (b.toNat : Int)
theorem digB_nums (m : Nat) : digB m = strOfNums (decI m) := by
  unfold digB strOfNums decI
  rw [List.map_map]
  have e : ((fun n : Int => UInt8.ofNat n.toNat) ∘ fun b : UInt8 => (b.toNat : Int)) = id := by
    funext b; simp
  rw [e, List.map_id]
theorem decI_one {i : Nat} (h : i < 10) : decI i = [48 + (i : Int)] := by
  unfold decI; rw [Lib.decDigits_one h]; simp; omega
theorem decI_more {m : Nat} (h : 10 ≤ m) : decI m = decI (m / 10) ++ [48 + (m : Int) % 10] := by
  unfold decI; rw [Lib.decDigits.eq_def m, dif_neg (by omega)]; simp; omega
theorem decI_dig (m : Nat) : ∀ x ∈ decI m, 48 ≤ x ∧ x ≤ 57 := by
  induction m using Nat.strongRecOn with
  | _ m ih =>
    by_cases h : m < 10
    · rw [decI_one h]; intro x hx; simp at hx; omega
    · rw [decI_more (by omega)]
      intro x hx
      rcases List.mem_append.1 hx with hx | hx
      · exact ih (m / 10) (by omega) x hx
      · simp at hx; omega
theorem decI_len (m : Nat) : 1 ≤ (decI m).length := by
  by_cases h : m < 10
  · rw [decI_one h]; simp
  · rw [decI_more (by omega)]; simp
theorem decI_val (s : ByteArray) (a : Nat) (m : Nat) : (∀ k, (hk : k < (decI m).length) → bt s (a + k) = (decI m)[k]) → valF s a (decI m).length = m := by
  induction m using Nat.strongRecOn with
  | _ m ih =>
    intro h
    by_cases h10 : m < 10
    · have h0 := h 0 (by have := decI_len m; omega)
      simp only [decI_one h10] at h0 ⊢
      simp only [List.length_cons, List.length_nil, valF]
      simp at h0 ⊢
      omega
    · have e := decI_more (show 10 ≤ m by omega)
      have hl : (decI m).length = (decI (m / 10)).length + 1 := by rw [e]; simp
      have h1 := ih (m / 10) (by omega) (fun k hk => by
        rw [h k (by omega)]
        simp only [e]
        rw [List.getElem_append_left hk])
      have h2 := h (decI (m / 10)).length (by omega)
      simp only [e] at h2
      rw [List.getElem_append_right (Nat.le_refl _)] at h2
      simp at h2
      rw [hl]
      simp only [valF]
      rw [h1, h2]
      omega
theorem fracD_dig : ∀ (k : Nat) (r : Int), 0 ≤ r → r < 1000000 → ∀ x ∈ fracD k r, 48 ≤ x ∧ x ≤ 57
  | 0, r, _, _, x, hx => by simp [fracD] at hx
  | k + 1, r, h0, h1, x, hx => by
    rw [fracD] at hx
    split at hx
    · cases hx
    · rcases List.mem_cons.1 hx with hx | hx
      · omega
      · exact fracD_dig k _ (by omega) (by omega) x hx
theorem fracD_val (s : ByteArray) (c : Nat) (r : Int) (h0 : 0 < r) (h1 : r < 1000000) (h : ∀ k, (hk : k < (fracD 6 r).length) → bt s (c + k) = (fracD 6 r)[k]) : 1 ≤ (fracD 6 r).length ∧ frS s c (fracD 6 r).length 6 = r := by
  have e0 : r ≠ 0 := by omega
  by_cases e1 : r * 10 % 1000000 = 0
  · have hl : fracD 6 r = [48 + r * 10 / 1000000] := by rw [fracD_step _ e0, e1, fracD_zero]
    simp only [hl] at h ⊢
    have g0 := h 0 (by simp)
    simp at g0
    simp [frS, g0]; omega
  · by_cases e2 : r * 10 % 1000000 * 10 % 1000000 = 0
    · have hl : fracD 6 r = [48 + r * 10 / 1000000, 48 + r * 10 % 1000000 * 10 / 1000000] := by rw [fracD_step _ e0, fracD_step _ e1, e2, fracD_zero]
      simp only [hl] at h ⊢
      have g0 := h 0 (by simp); have g1 := h 1 (by simp)
      simp at g0 g1
      simp [frS, g0, g1]; omega
    · by_cases e3 : r * 10 % 1000000 * 10 % 1000000 * 10 % 1000000 = 0
      · have hl : fracD 6 r = [48 + r * 10 / 1000000, 48 + r * 10 % 1000000 * 10 / 1000000, 48 + r * 10 % 1000000 * 10 % 1000000 * 10 / 1000000] := by rw [fracD_step _ e0, fracD_step _ e1, fracD_step _ e2, e3, fracD_zero]
        simp only [hl] at h ⊢
        have g0 := h 0 (by simp); have g1 := h 1 (by simp); have g2 := h 2 (by simp)
        simp at g0 g1 g2
        simp [frS, g0, g1, g2]; omega
      · by_cases e4 : r * 10 % 1000000 * 10 % 1000000 * 10 % 1000000 * 10 % 1000000 = 0
        · have hl : fracD 6 r = [48 + r * 10 / 1000000, 48 + r * 10 % 1000000 * 10 / 1000000, 48 + r * 10 % 1000000 * 10 % 1000000 * 10 / 1000000, 48 + r * 10 % 1000000 * 10 % 1000000 * 10 % 1000000 * 10 / 1000000] := by rw [fracD_step _ e0, fracD_step _ e1, fracD_step _ e2, fracD_step _ e3, e4, fracD_zero]
          simp only [hl] at h ⊢
          have g0 := h 0 (by simp); have g1 := h 1 (by simp); have g2 := h 2 (by simp); have g3 := h 3 (by simp)
          simp at g0 g1 g2 g3
          simp [frS, g0, g1, g2, g3]; omega
        · by_cases e5 : r * 10 % 1000000 * 10 % 1000000 * 10 % 1000000 * 10 % 1000000 * 10 % 1000000 = 0
          · have hl : fracD 6 r = [48 + r * 10 / 1000000, 48 + r * 10 % 1000000 * 10 / 1000000, 48 + r * 10 % 1000000 * 10 % 1000000 * 10 / 1000000, 48 + r * 10 % 1000000 * 10 % 1000000 * 10 % 1000000 * 10 / 1000000, 48 + r * 10 % 1000000 * 10 % 1000000 * 10 % 1000000 * 10 % 1000000 * 10 / 1000000] := by rw [fracD_step _ e0, fracD_step _ e1, fracD_step _ e2, fracD_step _ e3, fracD_step _ e4, e5, fracD_zero]
            simp only [hl] at h ⊢
            have g0 := h 0 (by simp); have g1 := h 1 (by simp); have g2 := h 2 (by simp); have g3 := h 3 (by simp); have g4 := h 4 (by simp)
            simp at g0 g1 g2 g3 g4
            simp [frS, g0, g1, g2, g3, g4]; omega
          · have hl : fracD 6 r = [48 + r * 10 / 1000000, 48 + r * 10 % 1000000 * 10 / 1000000, 48 + r * 10 % 1000000 * 10 % 1000000 * 10 / 1000000, 48 + r * 10 % 1000000 * 10 % 1000000 * 10 % 1000000 * 10 / 1000000, 48 + r * 10 % 1000000 * 10 % 1000000 * 10 % 1000000 * 10 % 1000000 * 10 / 1000000, 48 + r * 10 % 1000000 * 10 % 1000000 * 10 % 1000000 * 10 % 1000000 * 10 % 1000000 * 10 / 1000000] := by rw [fracD_step _ e0, fracD_step _ e1, fracD_step _ e2, fracD_step _ e3, fracD_step _ e4, fracD_step _ e5, fracD]
            simp only [hl] at h ⊢
            have g0 := h 0 (by simp); have g1 := h 1 (by simp); have g2 := h 2 (by simp); have g3 := h 3 (by simp); have g4 := h 4 (by simp); have g5 := h 5 (by simp)
            simp at g0 g1 g2 g3 g4 g5
            simp [frS, g0, g1, g2, g3, g4, g5]; omega

/-- The text of a decimal as numbers. -/
def sgL (n : Int) : List Int := if n < 0 then [45] else []
def tL (n : Int) : List Int := sgL n ++ decI (absV n / 1000000).toNat ++ fracL n
theorem textB_nums (n : Int) : textB n = strOfNums (tL n) := by
  unfold textB tL sgL
  rw [digB_nums]
  split
  · have e : (⟨#[45]⟩ : ByteArray) = strOfNums [45] := rfl
    rw [e, join_nums, join_nums]
  · rw [join_nums]; rfl
theorem fracL_dig (n : Int) (h : dOk n = true) : ∀ x ∈ fracL n, 46 ≤ x ∧ x ≤ 57 := by
  have ha := absV_bd h
  unfold fracL; split
  · intro x hx; cases hx
  · intro x hx
    rcases List.mem_cons.1 hx with hx | hx
    · omega
    · have := fracD_dig 6 _ (by omega) (by omega) x hx; omega
theorem tL_byt (n : Int) (h : dOk n = true) : Byt (tL n) := by
  intro x hx
  unfold tL at hx
  rcases List.mem_append.1 hx with hx | hx
  · rcases List.mem_append.1 hx with hx | hx
    · unfold sgL at hx; split at hx <;> simp at hx; omega
    · have := decI_dig _ x hx; omega
  · have := fracL_dig n h x hx; omega
/-- Where a part of a list stands. -/
theorem seg (A B C : List Int) (k : Nat) (h : k < B.length) : (A ++ B ++ C)[A.length + k]? = some B[k] := by
  rw [List.append_assoc, List.getElem?_append_right (by omega), Nat.add_sub_cancel_left, List.getElem?_append_left h, List.getElem?_eq_getElem h]
theorem bt_get {xs : List Int} (h : Byt xs) {k : Nat} {v : Int} (hk : xs[k]? = some v) : k < (strOfNums xs).size ∧ bt (strOfNums xs) k = v := by
  obtain ⟨hl, hv⟩ := List.getElem?_eq_some_iff.1 hk
  exact ⟨by rw [strOfNums_size]; exact hl, by rw [bt_nums h hl]; exact hv⟩
theorem sp_not {b : Int} (h : spB b = true) : dgB b = false ∧ b ≠ 46 ∧ b ≠ 45 ∧ b ≠ 43 := by
  simp [spB] at h; simp [dgB]; omega
theorem dg_not {b : Int} (h : 48 ≤ b ∧ b ≤ 57) : spB b = false ∧ b ≠ 46 ∧ b ≠ 45 ∧ b ≠ 43 ∧ dgB b = true := by
  simp [spB, dgB]; omega

/-- READ BACK: whitespace, the text of a decimal, whitespace. -/
theorem read_back (pre post : List Int) (hpre : ∀ x ∈ pre, spB x = true) (hpost : ∀ x ∈ post, spB x = true) (n : Int) (hn : dOk n = true) (s : ByteArray) (hs : s = strOfNums (pre ++ tL n ++ post)) :
    rdN s = n ∧ rdK s = (pre.length + (tL n).length : Nat) ∧ endOf spB s (pre.length + (tL n).length) = s.size ∧ 0 < (tL n).length := by
  have spb : ∀ x : Int, spB x = true → 0 ≤ x ∧ x ≤ 255 := fun x h => by simp [spB] at h; omega
  have hb : Byt (pre ++ tL n ++ post) := by
    intro x hx
    rcases List.mem_append.1 hx with hx | hx
    · rcases List.mem_append.1 hx with hx | hx
      · exact spb x (hpre x hx)
      · exact tL_byt n hn x hx
    · exact spb x (hpost x hx)
  have ha := absV_bd hn
  have hno := dOk_yes hn
  obtain ⟨m, hm⟩ : ∃ m : Nat, m = (absV n / 1000000).toNat := ⟨_, rfl⟩
  have hL := decI_len m
  have hlen : (tL n).length = (sgL n).length + (decI m).length + (fracL n).length := by unfold tL; rw [← hm]; simp; omega
  have hsz : s.size = pre.length + ((sgL n).length + (decI m).length + (fracL n).length) + post.length := by rw [hs, strOfNums_size, ← hlen]; simp; omega
  have hx : pre ++ tL n ++ post = pre ++ sgL n ++ (decI m) ++ (fracL n ++ post) := by unfold tL; rw [← hm]; simp
  have at0 : ∀ k, (hk : k < pre.length) → k < s.size ∧ bt s k = pre[k] := fun k hk => by
    rw [hs]; apply bt_get hb
    have := seg [] pre (tL n ++ post) k hk
    simpa using this
  have atD : ∀ k, (hk : k < (decI m).length) → pre.length + (sgL n).length + k < s.size ∧ bt s (pre.length + (sgL n).length + k) = (decI m)[k] := fun k hk => by
    rw [hs]; apply bt_get hb
    rw [hx]
    have := seg (pre ++ sgL n) (decI m) (fracL n ++ post) k hk
    rw [List.length_append] at this
    exact this
  have atF : ∀ k, (hk : k < (fracL n).length) → pre.length + (sgL n).length + (decI m).length + k < s.size ∧ bt s (pre.length + (sgL n).length + (decI m).length + k) = (fracL n)[k] := fun k hk => by
    rw [hs]; apply bt_get hb
    rw [hx]
    have := seg (pre ++ sgL n ++ decI m) (fracL n) post k hk
    rw [List.length_append, List.length_append] at this
    simpa using this
  have atP : ∀ k, (hk : k < post.length) → bt s (pre.length + (tL n).length + k) = post[k] := fun k hk => by
    rw [hs]; refine (bt_get hb ?_).2
    have := seg (pre ++ tL n) post [] k hk
    rw [List.length_append] at this
    simpa using this
  have dD : ∀ k, (hk : k < (decI m).length) → 48 ≤ (decI m)[k] ∧ (decI m)[k] ≤ 57 := fun k hk => decI_dig m _ (List.getElem_mem hk)
  have d0 := atD 0 (by omega)
  have e0 := dD 0 (by omega)
  rw [← d0.2, Nat.add_zero] at e0
  rw [Nat.add_zero] at d0
  -- where the whitespace ends
  have hA0 : rA0 s = pre.length := by
    unfold rA0
    have h := endOf_eq (p := spB) (s := s) pre.length 0 (fun k _ hk => ⟨(at0 k (by omega)).1, by rw [(at0 k (by omega)).2]; exact hpre _ (List.getElem_mem _)⟩) (by
      rw [Nat.zero_add]
      intro hc
      by_cases hneg : n < 0
      · have h1 : bt s pre.length = 45 := by
          rw [hs]; refine (bt_get hb ?_).2
          have := seg pre (tL n) post 0 (by omega)
          rw [Nat.add_zero] at this
          rw [this]; simp [tL, sgL, hneg]
        rw [h1] at hc; simp [spB] at hc
      · have hs0 : (sgL n).length = 0 := by simp [sgL, hneg]
        rw [hs0, Nat.add_zero] at e0
        rw [(dg_not e0).1] at hc; cases hc.2)
    rw [h, Nat.zero_add]
  -- the sign
  have hsign : rNeg s = decide (n < 0) ∧ rA1 s = pre.length + (sgL n).length := by
    by_cases hneg : n < 0
    · have h1 : pre.length < s.size ∧ bt s pre.length = 45 := by
        rw [hs]; apply bt_get hb
        have := seg pre (tL n) post 0 (by omega)
        rw [Nat.add_zero] at this
        rw [this]; simp [tL, sgL, hneg]
      have hs1 : (sgL n).length = 1 := by simp [sgL, hneg]
      refine ⟨by simp [rNeg, hA0, h1, hneg], ?_⟩
      rw [hs1]; simp [rA1, rSgn, hA0, h1]
    · have hs0 : (sgL n).length = 0 := by simp [sgL, hneg]
      rw [hs0, Nat.add_zero] at e0 d0
      have hd := dg_not e0
      refine ⟨by simp [rNeg, hA0, hd.2.2.1, hneg], ?_⟩
      rw [hs0]; simp [rA1, rSgn, hA0, hd.2.2.1, hd.2.2.2.1]
  obtain ⟨hNeg, hA1⟩ := hsign
  have hB : rB s = pre.length + (sgL n).length + (decI m).length := by
    unfold rB
    rw [hA1]
    refine endOf_eq _ _ (fun k hk1 hk2 => ?_) (fun hc => ?_)
    · have h := atD (k - (pre.length + (sgL n).length)) (by omega)
      rw [show pre.length + (sgL n).length + (k - (pre.length + (sgL n).length)) = k from by omega] at h
      exact ⟨h.1, by rw [h.2]; exact (dg_not (dD _ (by omega))).2.2.2.2⟩
    · by_cases hF : 0 < (fracL n).length
      · have h := (atF 0 hF).2
        have h46 : (fracL n)[0] = 46 := by
          by_cases hr : absV n % 1000000 = 0
          · simp [fracL, hr] at hF
          · simp [fracL, hr]
        rw [Nat.add_zero, h46] at h
        rw [h] at hc; simp [dgB] at hc
      · by_cases hQ : 0 < post.length
        · have h := atP 0 hQ
          rw [hlen, Nat.add_zero, show pre.length + ((sgL n).length + (decI m).length + (fracL n).length) = pre.length + (sgL n).length + (decI m).length from by omega] at h
          rw [h, (sp_not (hpost _ (List.getElem_mem _))).1] at hc
          cases hc.2
        · omega
  have hval : valF s (rA1 s) (rB s - rA1 s) = m := by
    rw [hA1, hB, show pre.length + (sgL n).length + (decI m).length - (pre.length + (sgL n).length) = (decI m).length from by omega]
    exact decI_val s _ m (fun k hk => (atD k hk).2)
  have hmi : (m : Int) = absV n / 1000000 := by omega
  -- the point and what is behind it
  have hend : ∀ e, e = pre.length + (tL n).length → ¬ (e < s.size ∧ dgB (bt s e) = true) := fun e he hc => by
    subst he
    by_cases hQ : 0 < post.length
    · have h := atP 0 hQ
      rw [Nat.add_zero] at h
      rw [h, (sp_not (hpost _ (List.getElem_mem _))).1] at hc
      cases hc.2
    · omega
  have hpt : rC s = pre.length + (tL n).length ∧ frS s (rB s + 1) (rF s) 6 = absV n % 1000000 := by
    by_cases hr : absV n % 1000000 = 0
    · have hF0 : fracL n = [] := by rw [fracL, if_pos hr]
      have hFl : (fracL n).length = 0 := by rw [hF0]; rfl
      have hp : rPt s = false := by
        unfold rPt
        rw [hB]
        by_cases hQ : 0 < post.length
        · have h := atP 0 hQ
          rw [hlen, Nat.add_zero, show pre.length + ((sgL n).length + (decI m).length + (fracL n).length) = pre.length + (sgL n).length + (decI m).length from by omega] at h
          rw [h]
          have := (sp_not (hpost _ (List.getElem_mem (show 0 < post.length from hQ)))).2.1
          simp [this]
        · have : ¬ pre.length + (sgL n).length + (decI m).length < s.size := by omega
          simp [this]
      have hf : rF s = 0 := by rw [rF, hp]; rfl
      refine ⟨by rw [rC, hp, hlen, hFl]; simp [hB]; omega, by rw [hf, hr]; simp [frS]⟩
    · have hF0 : fracL n = 46 :: fracD 6 (absV n % 1000000) := by rw [fracL, if_neg hr]
      have hFl : (fracL n).length = (fracD 6 (absV n % 1000000)).length + 1 := by rw [hF0]; simp
      have h0 := atF 0 (by omega)
      rw [Nat.add_zero] at h0
      have hp : rPt s = true := by
        unfold rPt
        rw [hB]
        simp [h0.1, h0.2, hF0]
      have hfd : ∀ k, (hk : k < (fracD 6 (absV n % 1000000)).length) → rB s + 1 + k < s.size ∧ bt s (rB s + 1 + k) = (fracD 6 (absV n % 1000000))[k] := fun k hk => by
        have h := atF (k + 1) (by omega)
        rw [hB]
        rw [show pre.length + (sgL n).length + (decI m).length + 1 + k = pre.length + (sgL n).length + (decI m).length + (k + 1) from by omega]
        refine ⟨h.1, h.2.trans ?_⟩
        simp [hF0]
      have hv := fracD_val s (rB s + 1) (absV n % 1000000) (by omega) (by omega) (fun k hk => (hfd k hk).2)
      have hC : rC s = rB s + 1 + (fracD 6 (absV n % 1000000)).length := by
        rw [rC, if_pos hp]
        refine endOf_eq _ _ (fun k hk1 hk2 => ?_) (hend _ (by rw [hB, hlen, hFl]; omega))
        have h := hfd (k - (rB s + 1)) (by omega)
        rw [show rB s + 1 + (k - (rB s + 1)) = k from by omega] at h
        exact ⟨h.1, by rw [h.2]; exact (dg_not (fracD_dig 6 _ (by omega) (by omega) _ (List.getElem_mem _))).2.2.2.2⟩
      have hf : rF s = (fracD 6 (absV n % 1000000)).length := by rw [rF, if_pos hp, hC]; omega
      exact ⟨by rw [hC, hB, hlen, hFl]; omega, by rw [hf]; exact hv.2⟩
  have hNo : rNo s = false := by
    unfold rNo
    have : ¬ rB s = rA1 s := by rw [hB, hA1]; omega
    simp [this]
  have hV : rV s = absV n := by
    unfold rV capV
    rw [hval, hpt.2, hmi]
    omega
  refine ⟨?_, by rw [rdK, hNo]; simp [hpt.1], ?_, by omega⟩
  · rw [rdN, hNo, hNeg, hV]
    by_cases hneg : n < 0
    · simp [hneg, absV_neg hneg]
    · simp [hneg, absV_pos (show 0 ≤ n by omega)]
  · have h := endOf_eq (p := spB) (s := s) post.length (pre.length + (tL n).length) (fun k hk1 hk2 => by
      have h := atP (k - (pre.length + (tL n).length)) (by omega)
      rw [show pre.length + (tL n).length + (k - (pre.length + (tL n).length)) = k from by omega] at h
      exact ⟨by omega, by rw [h]; exact hpost _ (List.getElem_mem _)⟩) (by omega)
    rw [h]; omega
end Go.Proofs.YthaedmldlenhgaaDoor.RoundPure
