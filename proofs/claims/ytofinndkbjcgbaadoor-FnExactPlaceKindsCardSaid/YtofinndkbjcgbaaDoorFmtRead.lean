/-
  How the program takes a format to pieces: plain.
-/
import Derived.Test.YtofinndkbjcgbaaDoorFmtPlain
import Derived.Test.YtofinndkbjcgbaaDoorWordPure
import Derived.Lib.IndexBytes
namespace Go.Proofs.YtofinndkbjcgbaaDoor.Strs
open Go Go.RowKit Go.PlainAid
open Go.Proofs.YtofinndkbjcgbaaDoor.DecPure Go.Proofs.YtofinndkbjcgbaaDoor.ReadPure Go.Proofs.YtofinndkbjcgbaaDoor.TextPure Go.Proofs.YtofinndkbjcgbaaDoor.CellPure Go.Proofs.YtofinndkbjcgbaaDoor.SubPure Go.Proofs.YtofinndkbjcgbaaDoor.RecPure
set_option linter.unusedVariables false

def pctB : ByteArray := ⟨#[37]⟩
theorem bt_get37 {s : ByteArray} {k : Nat} : s.data.toList[k]? = some 37 ↔ k < s.size ∧ bt s k = 37 := by
  constructor
  · intro h
    have hk : k < s.size := by
      have := (List.getElem?_eq_some_iff.1 h).1
      rwa [len_data] at this
    refine ⟨hk, ?_⟩
    unfold bt
    rw [dif_pos hk]
    have := (List.getElem?_eq_some_iff.1 h).2
    rw [Array.getElem_toList] at this
    show (s.data[k].toNat : Int) = 37
    rw [this]; rfl
  · rintro ⟨hk, h⟩
    unfold bt at h
    rw [dif_pos hk] at h
    rw [List.getElem?_eq_getElem (by rw [len_data]; exact hk), Array.getElem_toList]
    congr 1
    apply UInt8.toNat_inj.1
    show s.data[k].toNat = 37
    have h' : (s.data[k].toNat : Int) = 37 := h
    omega
theorem pct_cut (x : ByteArray) :
    (∃ k, k < x.size ∧ bt x k = 37 ∧ (∀ j, j < k → bt x j ≠ 37) ∧ cutB x pctB = ((x.extract 0 k).data.toList, (x.extract (k + 1) x.size).data.toList, true)) ∨
    ((∀ j, j < x.size → bt x j ≠ 37) ∧ cutB x pctB = (x.data.toList, [], false)) := by
  have e : pctB.data.toList = [37] := rfl
  have e1 := Lib.index_one x.data.toList 37
  have hge := Lib.indexByte_ge x.data.toList 37
  by_cases hm : Lib.indexByte x.data.toList 37 = -1
  · refine .inr ⟨fun j hj hb => Lib.indexByte_none hm j (bt_get37.2 ⟨hj, hb⟩), ?_⟩
    unfold cutB Lib.cut
    rw [e, e1, hm]
    rfl
  · obtain ⟨k, hk⟩ : ∃ k : Nat, Lib.indexByte x.data.toList 37 = k := ⟨(Lib.indexByte x.data.toList 37).toNat, by omega⟩
    obtain ⟨h1, h2⟩ := Lib.indexByte_some hk
    obtain ⟨h3, h4⟩ := bt_get37.1 h1
    refine .inl ⟨k, h3, h4, fun j hj hb => h2 j hj (bt_get37.2 ⟨by omega, hb⟩), ?_⟩
    unfold cutB Lib.cut
    rw [e, e1, hk, if_pos (by omega), ext_data, drop_data]
    simp

/-- A conversion's digits and letter. -/
def prtE (s : ByteArray) (a : Nat) (l : Bool) : Option (It × Nat) :=
  if 2 < endOf dgB s 0 ∨ endOf dgB s 0 = s.size ∨ ¬ (bt s (endOf dgB s 0) = 100 ∨ bt s (endOf dgB s 0) = 115) then none
  else some (⟨bt s (endOf dgB s 0), ⟨#[]⟩, valF s 0 (endOf dgB s 0), l⟩, a + endOf dgB s 0 + 1)
/-- What follows a % and how far it goes. -/
def prtP (r : ByteArray) : Option (It × Nat) :=
  if 0 < r.size ∧ bt r 0 = 37 then some (⟨0, pctB, 0, false⟩, 1)
  else if 0 < r.size ∧ bt r 0 = 45 then prtE (r.extract 1 r.size) 1 true else prtE r 0 false

theorem endOf_eq {s : ByteArray} {z : Nat} (hz : z ≤ s.size) (h : ∀ i, i < z → dgB (bt s i) = true) (h2 : z < s.size → dgB (bt s z) = false) : endOf dgB s 0 = z := by
  have h3 := endOf_le dgB s 0 (Nat.zero_le _)
  rcases Nat.lt_trichotomy (endOf dgB s 0) z with g | g | g
  · have := endOf_out (p := dgB) (s := s) (a := 0) (by omega)
    rw [h _ g] at this; cases this
  · exact g
  · have := (endOf_at (p := dgB) (s := s) (Nat.zero_le z) g).2
    rw [h2 (by omega)] at this; cases this
def PrtE (j a : Nat) (p : Plc) : Option (It × Nat) → Prop
  | none => p.kind = 0
  | some (x, n) => x.kind ≠ 0 ∧ x.kind ≠ 37 ∧ x.txt = ⟨#[]⟩ ∧ a < n ∧ p = ⟨x.kind, x.wide, x.left, (j : Int) + n⟩
def PrtP (j : Nat) (p : Plc) : Option (It × Nat) → Prop
  | none => p.kind = 0
  | some (x, n) => 0 < n ∧ ((x = ⟨0, pctB, 0, false⟩ ∧ p.kind = 37 ∧ p.stop = (j : Int) + 1 + n) ∨ (x.kind ≠ 0 ∧ x.kind ≠ 37 ∧ x.txt = ⟨#[]⟩ ∧ p = ⟨x.kind, x.wide, x.left, (j : Int) + 1 + n⟩))
theorem prt_lift {j a : Nat} {p : Plc} : ∀ {q : Option (It × Nat)}, PrtE (j + 1) a p q → PrtP j p q
  | none, h => h
  | some (x, n), ⟨p1, p2, p3, p4, p5⟩ => ⟨by omega, .inr ⟨p1, p2, p3, by rw [p5]; simp⟩⟩
theorem prt_plE {f : ByteArray} {k a j : Nat} (l : Bool) (hk : k ≤ f.size) (hj : k = j + a) : PrtE j a (plE f (plD f 2 k 0) l) (prtE (f.extract k f.size) a l) := by
  have hsz : (f.extract k f.size).size = f.size - k := size_ext f k _ (Nat.le_refl _)
  have hbt : ∀ i, i < f.size - k → bt (f.extract k f.size) i = bt f (k + i) := fun i hi => bt_ext f k _ i (Nat.le_refl _) hi
  have hle := endOf_le dgB (f.extract k f.size) 0 (Nat.zero_le _)
  have hat : ∀ i, i < endOf dgB (f.extract k f.size) 0 → dgB (bt f (k + i)) = true := fun i hi => by
    have := (endOf_at (p := dgB) (Nat.zero_le i) hi).2
    rwa [hbt i (by omega)] at this
  have hout : endOf dgB (f.extract k f.size) 0 < f.size - k → dgB (bt f (k + endOf dgB (f.extract k f.size) 0)) = false := fun h => by
    have := endOf_out (p := dgB) (s := f.extract k f.size) (a := 0) (by omega)
    rwa [hbt _ h] at this
  unfold prtE
  rw [hsz] at hle ⊢
  have hval : ∀ n, n ≤ f.size - k → valF (f.extract k f.size) 0 n = valF f k n := fun n hn => valF_ext f k f.size (Nat.le_refl _) n hn
  rw [hval _ hle]
  generalize endOf dgB (f.extract k f.size) 0 = z at *
  have two : 2 < z → (plE f (plD f 2 k 0) l).kind = 0 := fun h => by
    have g0 : dgB (bt f k) = true := hat 0 (by omega)
    rw [plD_on (m := 1) (by omega) g0, plD_on (m := 0) (by omega) (hat 1 (by omega)), plD_stop (.inl rfl)]
    unfold plE
    rw [if_neg]
    rintro ⟨_, h2⟩
    have := dgB_yes (hat 2 (by omega))
    simp only at h2
    rw [show k + 1 + 1 = k + 2 by omega] at h2
    omega
  have val : z ≤ 2 → plD f 2 k 0 = (k + z, valF f k z) := fun h => by
    have hs : ∀ m, z < f.size - k ∨ z = f.size - k → ∀ v, plD f m (k + z) v = (k + z, v) := fun m hm v => plD_stop (by
      rcases hm with hm | hm
      · exact .inr (.inr (hout hm))
      · exact .inr (.inl (by omega)))
    have hzz : z < f.size - k ∨ z = f.size - k := by omega
    match z, hat, h, hs, hzz with
    | 0, _, _, hs, hzz => exact hs 2 hzz 0
    | 1, hat, _, hs, hzz =>
      have g0 : dgB (bt f k) = true := hat 0 (by omega)
      rw [plD_on (m := 1) (by omega) g0, hs 1 hzz]
      simp [valF]
    | 2, hat, _, hs, hzz =>
      have g0 : dgB (bt f k) = true := hat 0 (by omega)
      rw [plD_on (m := 1) (by omega) g0, plD_on (m := 0) (by omega) (hat 1 (by omega)), show k + 1 + 1 = k + 2 by omega, hs 0 hzz]
      simp [valF]
      omega
  by_cases h2 : 2 < z
  · rw [if_pos (.inl h2)]
    exact two h2
  rw [val (by omega)]
  by_cases he : z = f.size - k
  · rw [if_pos (.inr (.inl he))]
    show (plE f _ l).kind = 0
    unfold plE
    rw [if_neg (by rintro ⟨h, _⟩; simp only at h; omega)]
  rw [hbt z (by omega)]
  by_cases hb : bt f (k + z) = 100 ∨ bt f (k + z) = 115
  · rw [if_neg (by rintro (h | h | h); exact h2 h; exact he h; exact h hb)]
    refine ⟨by show bt f (k + z) ≠ 0; omega, by show bt f (k + z) ≠ 37; omega, rfl, by omega, ?_⟩
    unfold plE
    rw [if_pos ⟨by show k + z < f.size; omega, hb⟩]
    simp only [Plc.mk.injEq, true_and]
    omega
  · rw [if_pos (.inr (.inr hb))]
    show (plE f _ l).kind = 0
    unfold plE
    rw [if_neg (by rintro ⟨_, h⟩; exact hb h)]
theorem ext_ext {f : ByteArray} {a b : Nat} (h : a + b ≤ f.size) : (f.extract a f.size).extract b (f.extract a f.size).size = f.extract (a + b) f.size := by
  rw [size_ext f a _ (Nat.le_refl _)]
  apply ByteArray.ext
  rw [ByteArray.data_extract, ByteArray.data_extract, ByteArray.data_extract, Array.extract_extract]
  congr 1
  omega
theorem prt_plc {f : ByteArray} {j : Nat} (hj : j < f.size) : PrtP j (plc f j) (prtP (f.extract (j + 1) f.size)) := by
  have hsz : (f.extract (j + 1) f.size).size = f.size - (j + 1) := size_ext f _ _ (Nat.le_refl _)
  have hb0 : 0 < f.size - (j + 1) → bt (f.extract (j + 1) f.size) 0 = bt f (j + 1) := fun h => bt_ext f _ _ 0 (Nat.le_refl _) h
  have hB := prt_lift (prt_plE (f := f) (k := j + 1) (a := 0) (j := j + 1) false (by omega) (by omega))
  have hA : 0 < f.size - (j + 1) → PrtP j (plE f (plD f 2 (j + 2) 0) true) (prtE ((f.extract (j + 1) f.size).extract 1 (f.size - (j + 1))) 1 true) := fun h => by
    have := prt_lift (prt_plE (f := f) (k := j + 2) (a := 1) (j := j + 1) true (by omega) (by omega))
    have e := ext_ext (f := f) (a := j + 1) (b := 1) (by omega)
    rw [hsz] at e
    rw [e]
    exact this
  unfold prtP plc
  rw [hsz]
  generalize prtE (f.extract (j + 1) f.size) 0 false = qB at *
  generalize prtE ((f.extract (j + 1) f.size).extract 1 (f.size - (j + 1))) 1 true = qA at *
  generalize plE f (plD f 2 (j + 1) 0) false = pB at *
  generalize plE f (plD f 2 (j + 2) 0) true = pA at *
  by_cases h0 : 0 < f.size - (j + 1)
  · rw [hb0 h0]
    have h1 : j + 1 < f.size := by omega
    by_cases h37 : bt f (j + 1) = 37
    · rw [if_pos ⟨h1, h37⟩, if_pos ⟨h0, h37⟩]
      exact ⟨by omega, .inl ⟨rfl, rfl, rfl⟩⟩
    · rw [if_neg (c := j + 1 < f.size ∧ bt f (j + 1) = 37) (fun h => h37 h.2), if_neg (c := 0 < f.size - (j + 1) ∧ bt f (j + 1) = 37) (fun h => h37 h.2)]
      by_cases h45 : bt f (j + 1) = 45
      · rw [if_pos ⟨h1, h45⟩, if_pos ⟨h0, h45⟩]
        exact hA h0
      · rw [if_neg (c := j + 1 < f.size ∧ bt f (j + 1) = 45) (fun h => h45 h.2), if_neg (c := 0 < f.size - (j + 1) ∧ bt f (j + 1) = 45) (fun h => h45 h.2)]
        exact hB
  · have q1 : ¬ (0 < f.size - (j + 1) ∧ bt (f.extract (j + 1) f.size) 0 = 37) := fun h => h0 h.1
    have q2 : ¬ (0 < f.size - (j + 1) ∧ bt (f.extract (j + 1) f.size) 0 = 45) := fun h => h0 h.1
    have q3 : ¬ (j + 1 < f.size ∧ bt f (j + 1) = 37) := fun h => by omega
    have q4 : ¬ (j + 1 < f.size ∧ bt f (j + 1) = 45) := fun h => by omega
    rw [if_neg q3, if_neg q4, if_neg q1, if_neg q2]
    exact hB

/-- Two lists of pieces that give the same. -/
def Sm (a b : List It) : Prop := nCv a = nCv b ∧ kindL a = kindL b ∧ ∀ l, outP a l = outP b l
theorem Sm.refl (a : List It) : Sm a a := ⟨rfl, rfl, fun _ => rfl⟩
theorem outP_add : ∀ (a b : List It) (l : List Ce), outP (a ++ b) l = outP a l ++ outP b (l.drop (nCv a))
  | [], b, l => by
    show outP b l = ⟨#[]⟩ ++ outP b l
    apply ByteArray.ext
    simp [ByteArray.data_append]
  | y :: a, b, l => by
    rw [List.cons_append, outP, outP_add a b, outP, nCv]
    by_cases hk : y.kind = 0
    · rw [if_pos hk, if_pos hk, Nat.zero_add]
      apply ByteArray.ext
      simp [ByteArray.data_append]
    · rw [if_neg hk, if_neg hk, List.drop_drop]
      apply ByteArray.ext
      simp [ByteArray.data_append]
theorem Sm.app {a b c d : List It} (h : Sm a b) (g : Sm c d) : Sm (a ++ c) (b ++ d) := by
  refine ⟨by rw [nCv_app, nCv_app, h.1, g.1], by rw [kindL_app, kindL_app, h.2.1, g.2.1], fun l => ?_⟩
  rw [outP_add, outP_add, h.2.2, g.2.2, h.1]
/-- Bytes that stand for themselves, one by one and together. -/
def litL (f : ByteArray) (i : Nat) : Nat → List It
  | 0 => []
  | n + 1 => ⟨0, f.extract i (i + 1), 0, false⟩ :: litL f (i + 1) n
theorem litL_out (f : ByteArray) (l : List Ce) : ∀ (n i : Nat), i + n ≤ f.size → outP (litL f i n) l = f.extract i (i + n)
  | 0, i, h => by
    show (⟨#[]⟩ : ByteArray) = _
    rw [Nat.add_zero]
    apply ByteArray.ext
    rw [ByteArray.data_extract]
    simp
    omega
  | n + 1, i, h => by
    show pieceP ⟨0, f.extract i (i + 1), 0, false⟩ _ ++ outP (litL f (i + 1) n) l = _
    rw [litL_out f l n (i + 1) (by omega)]
    show f.extract i (i + 1) ++ f.extract (i + 1) (i + 1 + n) = _
    apply ByteArray.ext
    rw [ByteArray.data_append, ByteArray.data_extract, ByteArray.data_extract, ByteArray.data_extract, Array.extract_append_extract]
    congr 1
    · omega
    · omega
theorem litL_cv (f : ByteArray) : ∀ (n i : Nat), nCv (litL f i n) = 0 ∧ kindL (litL f i n) = []
  | 0, i => ⟨rfl, rfl⟩
  | n + 1, i => by
    have := litL_cv f n (i + 1)
    refine ⟨?_, ?_⟩
    · show (if (0 : Int) = 0 then 0 else 1) + nCv (litL f (i + 1) n) = 0
      rw [this.1, if_pos rfl]
    · show (if (0 : Int) = 0 then kindL (litL f (i + 1) n) else _) = []
      rw [if_pos rfl, this.2]
theorem litL_sm {f : ByteArray} {i n : Nat} (h : i + n ≤ f.size) : Sm [⟨0, f.extract i (i + n), 0, false⟩] (litL f i n) := by
  refine ⟨(litL_cv f n i).1.symm, (litL_cv f n i).2.symm, fun l => ?_⟩
  rw [litL_out f l n i h]
  show f.extract i (i + n) ++ ⟨#[]⟩ = _
  apply ByteArray.ext
  simp [ByteArray.data_append]
theorem its_lits {f : ByteArray} : ∀ {n i : Nat}, i + n ≤ f.size → (∀ j, i ≤ j → j < i + n → bt f j ≠ 37) → its f i = (its f (i + n)).map (litL f i n ++ ·)
  | 0, i, _, _ => by simp [litL]
  | n + 1, i, h, hn => by
    rw [its_lit (by omega) (hn i (Nat.le_refl _) (by omega)), its_lits (n := n) (i := i + 1) (by omega) (fun j h1 h2 => hn j (by omega) (by omega)), Option.map_map, show i + 1 + n = i + (n + 1) by omega]
    rfl

/-- What the loop over a format knows: its pieces so far are P, from place k on it goes on. -/
def Sofar (f : ByteArray) (P : List It) (k : Nat) : Prop := k ≤ f.size ∧ ∃ pre, Sm P pre ∧ its f 0 = (its f k).map (pre ++ ·)
theorem sofar_nil (f : ByteArray) : Sofar f [] 0 := ⟨Nat.zero_le _, [], Sm.refl _, by simp⟩
theorem sofar_lits {f : ByteArray} {P : List It} {k n : Nat} (h : Sofar f P k) (hn : k + n ≤ f.size) (hb : ∀ j, j < n → bt (f.extract k f.size) j ≠ 37) : Sofar f (P ++ [⟨0, f.extract k (k + n), 0, false⟩]) (k + n) := by
  obtain ⟨_, pre, h1, h2⟩ := h
  refine ⟨hn, pre ++ litL f k n, h1.app (litL_sm hn), ?_⟩
  rw [h2, its_lits hn (fun j hj1 hj2 => by
    have := hb (j - k) (by omega)
    rwa [bt_ext f k _ (j - k) (Nat.le_refl _) (by omega), show k + (j - k) = j by omega] at this), Option.map_map]
  congr 1
  funext r
  simp
theorem sofar_end {f : ByteArray} {P : List It} (h : Sofar f P f.size) : ∃ L, its f 0 = some L ∧ Sm P L := by
  obtain ⟨_, pre, h1, h2⟩ := h
  refine ⟨pre, ?_, h1⟩
  rw [h2, its_end (Nat.lt_irrefl _)]
  simp
theorem sofar_bad {f : ByteArray} {P : List It} {k : Nat} (h : Sofar f P k) (hk : k < f.size) (hb : bt f k = 37) (hp : prtP (f.extract (k + 1) f.size) = none) : its f 0 = none := by
  obtain ⟨_, pre, h1, h2⟩ := h
  have := prt_plc hk
  rw [hp] at this
  rw [h2, its_bad hk hb this]
  rfl
theorem sofar_part {f : ByteArray} {P : List It} {k n : Nat} {x : It} (h : Sofar f P k) (hk : k < f.size) (hb : bt f k = 37) (hp : prtP (f.extract (k + 1) f.size) = some (x, n)) : Sofar f (P ++ [x]) (k + 1 + n) ∧ 0 < n := by
  obtain ⟨_, pre, h1, h2⟩ := h
  have := prt_plc hk
  rw [hp] at this
  have hf := plc_fact hk
  obtain ⟨hn, ⟨rfl, h3, h4⟩ | ⟨h3, h4, h5, h6⟩⟩ := this
  · have hst : (plc f k).stop.toNat = k + 1 + n := by omega
    refine ⟨⟨by omega, pre ++ [⟨0, pctB, 0, false⟩], h1.app (Sm.refl _), ?_⟩, hn⟩
    rw [h2, its_pct hk hb h3, hst, Option.map_map]
    congr 1
    funext r
    simp [pctB]
  · have hst : (plc f k).stop.toNat = k + 1 + n := by rw [h6]; show ((k : Int) + 1 + n).toNat = _; omega
    have hx : x = ⟨(plc f k).kind, ⟨#[]⟩, (plc f k).wide, (plc f k).left⟩ := by rw [h6, ← h5]
    have hs2 : (plc f k).stop ≤ f.size := by
      rcases hf with h0 | ⟨_, _, h0, _⟩
      · rw [h6] at h0; exact absurd h0 h3
      · exact h0
    refine ⟨⟨by rw [h6] at hs2; simp only at hs2; omega, pre ++ [x], h1.app (Sm.refl _), ?_⟩, hn⟩
    rw [h2, its_cv hk hb (by rw [h6]; exact h3) (by rw [h6]; exact h4), hst, Option.map_map, ← hx]
    congr 1
    funext r
    simp
/-- What a piece is. -/
def ItOk (x : It) : Prop := (x.kind = 0 ∨ ((x.kind = 100 ∨ x.kind = 115) ∧ x.txt = ⟨#[]⟩)) ∧ 0 ≤ x.wide ∧ x.wide ≤ 99
theorem prtE_ok {s : ByteArray} {a n : Nat} {l : Bool} {x : It} (h : prtE s a l = some (x, n)) : ItOk x ∧ n = a + endOf dgB s 0 + 1 := by
  unfold prtE at h
  split at h
  · cases h
  · rename_i q
    simp only [Option.some.injEq, Prod.mk.injEq] at h
    obtain ⟨rfl, rfl⟩ := h
    have hd : Digs s 0 (endOf dgB s 0) := by have := digs_end s 0; rwa [Nat.sub_zero] at this
    have hz : endOf dgB s 0 ≤ 2 := by omega
    refine ⟨⟨.inr ⟨?_, rfl⟩, valF_nn hd, ?_⟩, rfl⟩
    · show bt s _ = 100 ∨ bt s _ = 115
      by_cases hb : bt s (endOf dgB s 0) = 100 ∨ bt s (endOf dgB s 0) = 115
      · exact hb
      · exact absurd (.inr (.inr hb)) q
    · show valF s 0 (endOf dgB s 0) ≤ 99
      match endOf dgB s 0, hd, hz with
      | 0, _, _ => simp [valF]
      | 1, hd, _ => have := hd 0 (by omega); simp only [valF, Nat.zero_add] at *; omega
      | 2, hd, _ => have h0 := hd 0 (by omega); have h1 := hd 1 (by omega); simp only [valF, Nat.zero_add, Nat.add_zero] at *; omega
theorem prtP_ok {r : ByteArray} {x : It} {n : Nat} (h : prtP r = some (x, n)) : ItOk x := by
  unfold prtP at h
  split at h
  · simp only [Option.some.injEq, Prod.mk.injEq] at h
    obtain ⟨rfl, rfl⟩ := h
    exact ⟨.inl rfl, Int.le_refl _, by show (0 : Int) ≤ 99; omega⟩
  · split at h
    · exact (prtE_ok h).1
    · exact (prtE_ok h).1
end Go.Proofs.YtofinndkbjcgbaaDoor.Strs
