/-
  What a format consists of, and what it gives: plain.
-/
import Derived.Test.YtofinndkbjcgbaaDoorPlcPure
import Derived.Test.YtofinndkbjcgbaaDoorCePure
namespace Go.Proofs.YtofinndkbjcgbaaDoor.Strs
open Go Go.RowKit Go.PlainAid
open Go.Proofs.YtofinndkbjcgbaaDoor.DecPure Go.Proofs.YtofinndkbjcgbaaDoor.ReadPure Go.Proofs.YtofinndkbjcgbaaDoor.TextPure Go.Proofs.YtofinndkbjcgbaaDoor.CellPure
set_option linter.unusedVariables false

theorem plD_fact (f : ByteArray) : ∀ (m k : Nat) (v : Int), k ≤ f.size → k ≤ (plD f m k v).1 ∧ (plD f m k v).1 ≤ f.size
  | 0, k, v, h => ⟨Nat.le_refl _, h⟩
  | m + 1, k, v, h => by
    rw [plD]
    split
    · rename_i q
      have := plD_fact f m (k + 1) (10 * v + (bt f k - 48)) (by omega)
      omega
    · exact ⟨Nat.le_refl _, h⟩
theorem plD_wide (f : ByteArray) (k : Nat) : 0 ≤ (plD f 2 k 0).2 ∧ (plD f 2 k 0).2 ≤ 99 := by
  have d : ∀ j, dgB (bt f j) = true → 48 ≤ bt f j ∧ bt f j ≤ 57 := fun j h => dgB_yes h
  rw [plD]
  split
  · rename_i q
    have d1 := d k q.2
    rw [plD]
    split
    · rename_i q2
      have d2 := d (k + 1) q2.2
      rw [plD]
      show 0 ≤ _ ∧ _ ≤ _
      omega
    · show 0 ≤ _ ∧ _ ≤ _
      omega
  · exact ⟨Int.le_refl _, by show (0 : Int) ≤ 99; omega⟩
theorem plE_fact {f : ByteArray} {k : Nat} {l : Bool} (h : k ≤ f.size) : (plE f (plD f 2 k 0) l).kind = 0 ∨ (((plE f (plD f 2 k 0) l).kind = 100 ∨ (plE f (plD f 2 k 0) l).kind = 115) ∧ (k : Int) + 1 ≤ (plE f (plD f 2 k 0) l).stop ∧ (plE f (plD f 2 k 0) l).stop ≤ f.size ∧ 0 ≤ (plE f (plD f 2 k 0) l).wide ∧ (plE f (plD f 2 k 0) l).wide ≤ 99) := by
  obtain ⟨h1, h2⟩ := plD_fact f 2 k 0 h
  obtain ⟨h3, h4⟩ := plD_wide f k
  unfold plE
  split
  · rename_i q
    right
    refine ⟨q.2, ?_, ?_, h3, h4⟩
    · show (k : Int) + 1 ≤ ((plD f 2 k 0).1 : Int) + 1
      omega
    · show ((plD f 2 k 0).1 : Int) + 1 ≤ f.size
      omega
  · exact .inl rfl
theorem plc_fact {f : ByteArray} {a : Nat} (h : a < f.size) : (plc f a).kind = 0 ∨ (((plc f a).kind = 37 ∨ (plc f a).kind = 100 ∨ (plc f a).kind = 115) ∧ (a : Int) + 1 ≤ (plc f a).stop ∧ (plc f a).stop ≤ f.size ∧ 0 ≤ (plc f a).wide ∧ (plc f a).wide ≤ 99) := by
  unfold plc
  split
  · rename_i q
    right
    refine ⟨.inl rfl, ?_, ?_, Int.le_refl _, by show (0 : Int) ≤ 99; omega⟩
    · show (a : Int) + 1 ≤ (a : Int) + 1 + 1
      omega
    · show (a : Int) + 1 + 1 ≤ f.size
      omega
  · split
    · rename_i q
      rcases plE_fact (f := f) (k := a + 2) (l := true) (by omega) with h0 | ⟨h1, h2, h3, h4⟩
      · exact .inl h0
      · exact .inr ⟨.inr h1, by omega, h3, h4⟩
    · rcases plE_fact (f := f) (k := a + 1) (l := false) (by omega) with h0 | ⟨h1, h2, h3, h4⟩
      · exact .inl h0
      · exact .inr ⟨.inr h1, by omega, h3, h4⟩

/-- A piece of a format: a text that stands for itself (kind 0), or a conversion. -/
structure It where
  kind : Int
  txt : ByteArray
  wide : Int
  left : Bool
def itsF (f : ByteArray) : Nat → Nat → Option (List It)
  | 0, _ => some []
  | m + 1, i => if i < f.size then
      (if bt f i = 37 then
        (if (plc f i).kind = 0 then none
         else if (plc f i).kind = 37 then (itsF f m (plc f i).stop.toNat).map (⟨0, ⟨#[37]⟩, 0, false⟩ :: ·)
         else (itsF f m (plc f i).stop.toNat).map (⟨(plc f i).kind, ⟨#[]⟩, (plc f i).wide, (plc f i).left⟩ :: ·))
       else (itsF f m (i + 1)).map (⟨0, f.extract i (i + 1), 0, false⟩ :: ·))
    else some []
theorem itsF_more (f : ByteArray) : ∀ (m n i : Nat), f.size < i + m → f.size < i + n → itsF f m i = itsF f n i
  | 0, 0, _, _, _ => rfl
  | 0, n + 1, i, h, _ => by rw [itsF, itsF, if_neg (by omega)]
  | m + 1, 0, i, _, h => by rw [itsF, itsF, if_neg (by omega)]
  | m + 1, n + 1, i, h1, h2 => by
    rw [itsF, itsF]
    by_cases hi : i < f.size
    · rw [if_pos hi, if_pos hi]
      by_cases hb : bt f i = 37
      · rw [if_pos hb, if_pos hb]
        rcases plc_fact hi with h0 | ⟨_, hs, _⟩
        · rw [if_pos h0, if_pos h0]
        · rw [itsF_more f m n _ (by omega) (by omega)]
      · rw [if_neg hb, if_neg hb, itsF_more f m n _ (by omega) (by omega)]
    · rw [if_neg hi, if_neg hi]
/-- The pieces from place i on; none: it is no format. -/
def its (f : ByteArray) (i : Nat) : Option (List It) := itsF f (f.size + 1) i
theorem its_eq (f : ByteArray) (i : Nat) : its f i = itsF f (f.size + 1 + 1) i := itsF_more f _ _ i (by omega) (by omega)
theorem its_end {f : ByteArray} {i : Nat} (h : ¬ i < f.size) : its f i = some [] := by rw [its, itsF, if_neg h]
theorem its_lit {f : ByteArray} {i : Nat} (h : i < f.size) (hb : bt f i ≠ 37) : its f i = (its f (i + 1)).map (⟨0, f.extract i (i + 1), 0, false⟩ :: ·) := by
  rw [its_eq, itsF, if_pos h, if_neg hb]
  rfl
theorem its_bad {f : ByteArray} {i : Nat} (h : i < f.size) (hb : bt f i = 37) (hk : (plc f i).kind = 0) : its f i = none := by
  rw [its_eq, itsF, if_pos h, if_pos hb, if_pos hk]
theorem its_pct {f : ByteArray} {i : Nat} (h : i < f.size) (hb : bt f i = 37) (hk : (plc f i).kind = 37) : its f i = (its f (plc f i).stop.toNat).map (⟨0, ⟨#[37]⟩, 0, false⟩ :: ·) := by
  rw [its_eq, itsF, if_pos h, if_pos hb, if_neg (by omega), if_pos hk]
  rfl
theorem its_cv {f : ByteArray} {i : Nat} (h : i < f.size) (hb : bt f i = 37) (h0 : (plc f i).kind ≠ 0) (hk : (plc f i).kind ≠ 37) : its f i = (its f (plc f i).stop.toNat).map (⟨(plc f i).kind, ⟨#[]⟩, (plc f i).wide, (plc f i).left⟩ :: ·) := by
  rw [its_eq, itsF, if_pos h, if_pos hb, if_neg h0, if_neg hk]
  rfl
/-- How many conversions; their kinds. -/
def nCv : List It → Nat
  | [] => 0
  | x :: r => (if x.kind = 0 then 0 else 1) + nCv r
def kindL : List It → List Int
  | [] => []
  | x :: r => if x.kind = 0 then kindL r else x.kind :: kindL r
theorem nCv_app (a b : List It) : nCv (a ++ b) = nCv a + nCv b := by
  induction a with
  | nil => simp [nCv]
  | cons x r ih => rw [List.cons_append, nCv, nCv, ih]; omega
theorem kindL_app (a b : List It) : kindL (a ++ b) = kindL a ++ kindL b := by
  induction a with
  | nil => rfl
  | cons x r ih =>
    rw [List.cons_append, kindL, kindL, ih]
    split <;> rfl
theorem kindL_len (a : List It) : (kindL a).length = nCv a := by
  induction a with
  | nil => rfl
  | cons x r ih =>
    rw [kindL, nCv]
    split
    · omega
    · rw [List.length_cons]; omega
theorem itsF_len (f : ByteArray) : ∀ (m i : Nat) (l : List It), itsF f m i = some l → i ≤ f.size → i + l.length ≤ f.size
  | 0, i, l, h, hi => by cases h; exact hi
  | m + 1, i, l, h, hi => by
    rw [itsF] at h
    split at h
    · rename_i hl
      split at h
      · split at h
        · cases h
        · rename_i hk
          rcases plc_fact hl with h0 | ⟨_, hs, hs2, _⟩
          · exact absurd h0 hk
          · split at h
            · obtain ⟨r, hr, rfl⟩ := Option.map_eq_some_iff.1 h
              have := itsF_len f m _ r hr (by omega)
              rw [List.length_cons]; omega
            · obtain ⟨r, hr, rfl⟩ := Option.map_eq_some_iff.1 h
              have := itsF_len f m _ r hr (by omega)
              rw [List.length_cons]; omega
      · obtain ⟨r, hr, rfl⟩ := Option.map_eq_some_iff.1 h
        have := itsF_len f m _ r hr (by omega)
        rw [List.length_cons]; omega
    · cases h; exact hi
theorem its_len {f : ByteArray} {i : Nat} {l : List It} (h : its f i = some l) (hi : i ≤ f.size) : i + l.length ≤ f.size := itsF_len f _ i l h hi
theorem nCv_le (l : List It) : nCv l ≤ l.length := by
  induction l with
  | nil => exact Nat.le_refl _
  | cons x r ih => rw [nCv, List.length_cons]; split <;> omega
/-- What Places says. -/
def placesP (f : ByteArray) : Nat × Bool := if 500 < f.size then (0, false) else match its f 0 with
  | none => (0, false)
  | some l => (nCv l, true)
def kindsP (f : ByteArray) : List Int := if 500 < f.size then [] else match its f 0 with
  | none => []
  | some l => kindL l

/-- So many blanks. -/
def blS (n : Nat) : ByteArray := ⟨Array.replicate n 32⟩
theorem blS_size (n : Nat) : (blS n).size = n := by simp [blS, ByteArray.size]
def padP (s : ByteArray) (wide : Int) (left : Bool) : ByteArray := if left = true then s ++ blS (wide.toNat - s.size) else blS (wide.toNat - s.size) ++ s
theorem padP_size (s : ByteArray) (wide : Int) (left : Bool) : (padP s wide left).size = s.size + (wide.toNat - s.size) := by
  unfold padP
  split
  · rw [ByteArray.size_append, blS_size]
  · rw [ByteArray.size_append, blS_size]; omega
theorem bl_app (a b : Nat) : blS a ++ blS b = blS (a + b) := by
  apply ByteArray.ext
  rw [ByteArray.data_append]
  simp [blS]
/-- What a piece gives, the next value being v. -/
def pieceP (x : It) (v : Ce) : ByteArray := if x.kind = 0 then x.txt else padP (if x.kind = 115 then cStr v.t v.n v.s else dtB (intV (cNum v.t v.n v.s))) x.wide x.left
def outP : List It → List Ce → ByteArray
  | [], _ => ⟨#[]⟩
  | x :: r, l => pieceP x (nthC l 0) ++ outP r (if x.kind = 0 then l else l.drop 1)
theorem outP_snoc (x : It) : ∀ (a : List It) (l : List Ce), outP (a ++ [x]) l = outP a l ++ pieceP x (nthC l (nCv a))
  | [], l => by
    show pieceP x (nthC l 0) ++ ⟨#[]⟩ = ⟨#[]⟩ ++ pieceP x (nthC l 0)
    apply ByteArray.ext
    simp [ByteArray.data_append]
  | y :: a, l => by
    rw [List.cons_append, outP, outP_snoc x a, outP, nCv]
    by_cases hk : y.kind = 0
    · rw [if_pos hk, if_pos hk, Nat.zero_add]
      apply ByteArray.ext
      simp [ByteArray.data_append]
    · rw [if_neg hk, if_neg hk]
      have e : nthC (l.drop 1) (nCv a) = nthC l (1 + nCv a) := by simp [nthC, List.getD, Nat.add_comm]
      rw [e]
      apply ByteArray.ext
      simp [ByteArray.data_append]
theorem outP_app : ∀ (a b : List It) (l : List Ce), (outP a l).size ≤ (outP (a ++ b) l).size
  | [], b, l => Nat.zero_le _
  | y :: a, b, l => by
    rw [List.cons_append, outP, outP, ByteArray.size_append, ByteArray.size_append]
    have := outP_app a b (if y.kind = 0 then l else l.drop 1)
    omega
/-- What Format says. -/
def fmtP (f : ByteArray) (l : List Ce) : ByteArray × Int :=
  if (placesP f).2 = false ∨ okL l = false then (⟨#[]⟩, 1)
  else if l.length < (placesP f).1 then (⟨#[]⟩, 2)
  else if 500 < (outP ((its f 0).getD []) l).size then (⟨#[]⟩, 3)
  else (outP ((its f 0).getD []) l, 0)
end Go.Proofs.YtofinndkbjcgbaaDoor.Strs
