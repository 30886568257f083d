/-
  The text of a valid list of nodes, and how many brackets are in one another: plain facts.
-/
import Derived.Test.YtdgbbgkdoekfkaaRePure
import Derived.Laws.BytesArg
namespace Go.Proofs.Ytdgbbgkdoekfkaa.RePure
open Go Go.RowKit Go.PlainAid
set_option linter.unusedVariables false

def bs (s : ByteArray) : List Int := s.data.toList.map fun u => (u.toNat : Int)
def hasB (s : ByteArray) (b : Int) : Bool := decide (b ∈ bs s)
def escL (set : ByteArray) (b : Int) : List Int := if hasB set b = true then [92, b] else [b]
def spS : ByteArray := ⟨#[40, 41, 124, 42, 43, 63, 91, 93, 94, 36, 46, 92]⟩
def clS : ByteArray := ⟨#[93, 94, 45, 92]⟩
def pairL (s : ByteArray) (m : Nat) : List Int := escL clS (bt s m) ++ (if bt s (m + 1) = bt s m then [] else 45 :: escL clS (bt s (m + 1)))
def pairsL (s : ByteArray) : Nat → List Int
  | 0 => []
  | m + 1 => pairsL s m ++ pairL s (2 * m)
def headL (neg : Bool) : List Int := if neg = true then [91, 94] else [91]
def setL (neg : Bool) (s : ByteArray) : List Int :=
  if neg = true ∧ s.size = 0 then [46] else if neg = false ∧ s.size = 2 ∧ bt s 0 = bt s 1 then escL spS (bt s 0) else headL neg ++ pairsL s (s.size / 2) ++ [93]

theorem escL_le (set : ByteArray) (b : Int) : (escL set b).length ≤ 2 := by unfold escL; split <;> simp
theorem pairL_le (s : ByteArray) (m : Nat) : (pairL s m).length ≤ 5 := by
  unfold pairL
  have h1 := escL_le clS (bt s m)
  have h2 := escL_le clS (bt s (m + 1))
  split <;> simp <;> omega
theorem pairsL_le (s : ByteArray) : ∀ m, (pairsL s m).length ≤ 5 * m
  | 0 => by simp [pairsL]
  | m + 1 => by
    have h1 := pairsL_le s m
    have h2 := pairL_le s (2 * m)
    rw [pairsL, List.length_append]; omega
theorem headL_le (neg : Bool) : (headL neg).length ≤ 2 := by unfold headL; split <;> simp
theorem setL_le (neg : Bool) (s : ByteArray) : (setL neg s).length ≤ 3 * s.size + 4 := by
  unfold setL
  split
  · simp
  · split
    · have := escL_le spS (bt s 0); omega
    · have h1 := pairsL_le s (s.size / 2)
      have h2 := headL_le neg
      simp only [List.length_append, List.length_cons, List.length_nil]
      omega
theorem pairsL_step (s : ByteArray) {m : Nat} (h : m % 2 = 0) : pairsL s ((m + 2) / 2) = pairsL s (m / 2) ++ pairL s m := by
  rw [show (m + 2) / 2 = m / 2 + 1 from by omega, pairsL, show 2 * (m / 2) = m from by omega]

abbrev Tx := List Int × Nat
def par (K kk : Int) : Bool := decide (kk = 4 ∨ (kk = 3 ∧ K ≠ 4))
def piece (K kk : Int) (t : Tx) : Tx := if par K kk = true then (40 :: t.1 ++ [41], t.2 + 1) else t
def sepL (K : Int) (k : Nat) : List Int := if 0 < k ∧ K = 4 then [124] else []
def suff (K : Int) : List Int := if K = 5 then [42] else if K = 6 then [43] else if K = 7 then [63] else []
def bodyOf (K : Int) (q : Nat → Int) (t : Nat → Tx) : Nat → Tx
  | 0 => ([], 0)
  | k + 1 => ((bodyOf K q t k).1 ++ sepL K k ++ (piece K (q k) (t k)).1, max (bodyOf K q t k).2 (piece K (q k) (t k)).2)
def txF (l : List Nd) : Nat → Nat → Tx
  | 0, _ => ([], 0)
  | f + 1, i =>
    if (nth l i).kind = 0 then (setL (nth l i).neg (nth l i).set, 0) else if (nth l i).kind = 1 then ([94], 0) else if (nth l i).kind = 2 then ([36], 0)
    else ((bodyOf (nth l i).kind (fun k => (nth l (kd l i k).toNat).kind) (fun k => txF l f (kd l i k).toNat) (nth l i).kids.length).1 ++ suff (nth l i).kind,
      (bodyOf (nth l i).kind (fun k => (nth l (kd l i k).toNat).kind) (fun k => txF l f (kd l i k).toNat) (nth l i).kids.length).2)
/-- The text of node i and how many brackets are in one another. -/
def tx (l : List Nd) (i : Nat) : Tx := txF l (i + 1) i
def kkind (l : List Nd) (i k : Nat) : Int := (nth l (kd l i k).toNat).kind
def ktx (l : List Nd) (i k : Nat) : Tx := tx l (kd l i k).toNat
/-- What the first k kids of node i come to. -/
def body (l : List Nd) (i k : Nat) : Tx := bodyOf (nth l i).kind (kkind l i) (ktx l i) k

theorem bodyOf_congr {K : Int} {q : Nat → Int} {t t' : Nat → Tx} : ∀ {n : Nat}, (∀ k, k < n → t k = t' k) → bodyOf K q t n = bodyOf K q t' n
  | 0, _ => rfl
  | n + 1, h => by
    rw [bodyOf, bodyOf, bodyOf_congr (fun k hk => h k (by omega)), h n (by omega)]
def Backs (l : List Nd) : Prop := ∀ i, i < l.length → ∀ k, k < (nth l i).kids.length → 0 ≤ kd l i k ∧ kd l i k < i
theorem txF_eq {l : List Nd} (hb : Backs l) : ∀ (i : Nat), i < l.length → ∀ f g, i < f → i < g → txF l f i = txF l g i := by
  intro i
  induction i using Nat.strongRecOn with
  | _ i ih =>
    intro hi f g hf hg
    obtain ⟨f', rfl⟩ : ∃ f', f = f' + 1 := ⟨f - 1, by omega⟩
    obtain ⟨g', rfl⟩ : ∃ g', g = g' + 1 := ⟨g - 1, by omega⟩
    rw [txF, txF]
    have hc : ∀ k, k < (nth l i).kids.length → txF l f' (kd l i k).toNat = txF l g' (kd l i k).toNat := fun k hk => by
      have := hb i hi k hk
      exact ih _ (by omega) (by omega) _ _ (by omega) (by omega)
    rw [bodyOf_congr hc]
theorem tx_set {l : List Nd} {i : Nat} (h : (nth l i).kind = 0) : tx l i = (setL (nth l i).neg (nth l i).set, 0) := by rw [tx, txF, if_pos h]
theorem tx_beg {l : List Nd} {i : Nat} (h : (nth l i).kind = 1) : tx l i = ([94], 0) := by rw [tx, txF, if_neg (by omega), if_pos h]
theorem tx_end {l : List Nd} {i : Nat} (h : (nth l i).kind = 2) : tx l i = ([36], 0) := by rw [tx, txF, if_neg (by omega), if_neg (by omega), if_pos h]
theorem tx_body {l : List Nd} {i : Nat} (hb : Backs l) (hi : i < l.length) (h0 : (nth l i).kind ≠ 0) (h1 : (nth l i).kind ≠ 1) (h2 : (nth l i).kind ≠ 2) :
    tx l i = ((body l i (nth l i).kids.length).1 ++ suff (nth l i).kind, (body l i (nth l i).kids.length).2) := by
  rw [tx, txF, if_neg h0, if_neg h1, if_neg h2]
  have hc : ∀ k, k < (nth l i).kids.length → txF l i (kd l i k).toNat = ktx l i k := fun k hk => by
    have := hb i hi k hk
    exact txF_eq hb _ (by omega) _ _ (by omega) (by omega)
  rw [bodyOf_congr hc]
  rfl
theorem body_zero (l : List Nd) (i : Nat) : body l i 0 = ([], 0) := rfl
theorem body_step (l : List Nd) (i k : Nat) : body l i (k + 1) = ((body l i k).1 ++ sepL (nth l i).kind k ++ (piece (nth l i).kind (kkind l i k) (ktx l i k)).1, max (body l i k).2 (piece (nth l i).kind (kkind l i k) (ktx l i k)).2) := rfl
theorem body_mono (l : List Nd) (i k : Nat) : ∀ j, (body l i k).2 ≤ (body l i (k + j)).2 ∧ (body l i k).1.length ≤ (body l i (k + j)).1.length
  | 0 => ⟨Nat.le_refl _, Nat.le_refl _⟩
  | j + 1 => by
    have h := body_mono l i k j
    rw [← Nat.add_assoc, body_step]
    refine ⟨Nat.le_trans h.1 (Nat.le_max_left _ _), ?_⟩
    simp only [List.length_append]
    omega
theorem piece_ge (K kk : Int) (t : Tx) : t.2 ≤ (piece K kk t).2 ∧ t.1.length ≤ (piece K kk t).1.length := by
  unfold piece
  split
  · simp; omega
  · exact ⟨Nat.le_refl _, Nat.le_refl _⟩

/-- A node's text is not too long, and not too deep; asked of nodes with kids alone. -/
def okT (l : List Nd) (i : Nat) : Prop := (nth l i).kind = 0 ∨ (nth l i).kind = 1 ∨ (nth l i).kind = 2 ∨ ((tx l i).2 ≤ 20 ∧ (tx l i).1.length ≤ 200)
theorem okT_kid {l : List Nd} {i k : Nat} (hb : Backs l) (hi : i < l.length) (h0 : (nth l i).kind ≠ 0) (h1 : (nth l i).kind ≠ 1) (h2 : (nth l i).kind ≠ 2) (hk : k < (nth l i).kids.length) (h : ¬ okT l (kd l i k).toNat) : ¬ okT l i := by
  intro ho
  apply h
  have hq : (tx l i).2 ≤ 20 ∧ (tx l i).1.length ≤ 200 := by
    rcases ho with h | h | h | h
    · exact absurd h h0
    · exact absurd h h1
    · exact absurd h h2
    · exact h
  rw [tx_body hb hi h0 h1 h2] at hq
  simp only [List.length_append] at hq
  have hm := body_mono l i (k + 1) ((nth l i).kids.length - (k + 1))
  rw [show k + 1 + ((nth l i).kids.length - (k + 1)) = (nth l i).kids.length from by omega, body_step] at hm
  simp only [List.length_append] at hm
  have hp := piece_ge (nth l i).kind (kkind l i k) (ktx l i k)
  have hx : ktx l i k = tx l (kd l i k).toNat := rfl
  rw [hx] at hp hm
  have hmx := Nat.le_max_right (body l i k).2 (piece (nth l i).kind (kkind l i k) (tx l (kd l i k).toNat)).2
  exact Or.inr (Or.inr (Or.inr ⟨by omega, by omega⟩))
theorem backs_of {l : List Nd} (h : ReP l) : Backs l := h.2.2.2.1
theorem tx_le {l : List Nd} {i : Nat} (h : okT l i) (hs : (nth l i).set.size ≤ 1048576) : (tx l i).1.length ≤ 4000000 ∧ (tx l i).2 ≤ 20 := by
  rcases h with h | h | h | h
  · rw [tx_set h]
    have := setL_le (nth l i).neg (nth l i).set
    exact ⟨by show (setL (nth l i).neg (nth l i).set).length ≤ _; omega, by show 0 ≤ 20; omega⟩
  · rw [tx_beg h]; simp
  · rw [tx_end h]; simp
  · exact ⟨by omega, h.1⟩

theorem bs_mem {s : ByteArray} {c : Int} : c ∈ bs s ↔ ∃ k, k < s.size ∧ bt s k = c := by
  unfold bs
  rw [List.mem_map]
  constructor
  · rintro ⟨u, hu, rfl⟩
    obtain ⟨k, hk, rfl⟩ := List.mem_iff_getElem.1 hu
    have hk' : k < s.size := by rw [Array.length_toList] at hk; exact hk
    refine ⟨k, hk', ?_⟩
    rw [← get_bt s k hk']
    rfl
  · rintro ⟨k, hk, rfl⟩
    refine ⟨s[k], ?_, get_bt s k hk⟩
    rw [List.mem_iff_getElem]
    exact ⟨k, by rw [Array.length_toList]; exact hk, rfl⟩

end Go.Proofs.Ytdgbbgkdoekfkaa.RePure
