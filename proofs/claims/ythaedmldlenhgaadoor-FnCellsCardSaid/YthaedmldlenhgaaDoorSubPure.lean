/-
  Parts of a text, and where one text stands in another one: plain facts.
-/
import Derived.Test.YthaedmldlenhgaaDoorCellPure
import Derived.Lib.Index
import Derived.Lib.Strings
namespace Go.Proofs.YthaedmldlenhgaaDoor.SubPure
open Go Go.RowKit Go.PlainAid
open Go.Proofs.YthaedmldlenhgaaDoor.DecPure Go.Proofs.YthaedmldlenhgaaDoor.ReadPure Go.Proofs.YthaedmldlenhgaaDoor.TextPure Go.Proofs.YthaedmldlenhgaaDoor.CellPure
set_option linter.unusedVariables false

theorem ba_same {s t : ByteArray} (hn : s.size = t.size) (h : ∀ i, i < s.size → bt s i = bt t i) : s = t := by
  apply ByteArray.ext
  apply Array.ext
  · exact hn
  · intro i h1 h2
    have e := h i h1
    unfold bt at e
    rw [dif_pos (show i < s.size from h1), dif_pos (show i < t.size from h2)] at e
    have e2 : (s[i]'h1).toNat = (t[i]'h2).toNat := by omega
    exact UInt8.toNat_inj.mp e2
def bz (s : ByteArray) (a n : Nat) : List Int := (List.range n).map fun i => bt s (a + i)
theorem bz_step (s : ByteArray) (a n : Nat) : bz s a (n + 1) = bz s a n ++ [bt s (a + n)] := by simp [bz, List.range_succ]
theorem bt_num {L : List Int} {i : Nat} (hi : i < L.length) (h0 : 0 ≤ L[i]) (h1 : L[i] ≤ 255) : bt (strOfNums L) i = L[i] := by
  unfold bt
  rw [dif_pos (by rw [strOfNums_size]; exact hi)]
  have hd : i < (strOfNums L).data.size := by show i < (strOfNums L).size; rw [strOfNums_size]; exact hi
  have e : (strOfNums L).data[i]'hd = UInt8.ofNat (L[i]).toNat := by simp [strOfNums]
  show (((strOfNums L).data[i]'hd).toNat : Int) = _
  rw [e]
  simp
  omega
theorem str_bz {s : ByteArray} {a n : Nat} (h : a + n ≤ s.size) : strOfNums (bz s a n) = s.extract a (a + n) := by
  have hl : (bz s a n).length = n := by simp [bz]
  refine ba_same (by rw [strOfNums_size, hl, size_ext s a _ h]; omega) fun i hi => ?_
  rw [strOfNums_size, hl] at hi
  have hg : (bz s a n)[i]'(by rw [hl]; exact hi) = bt s (a + i) := by simp [bz]
  rw [bt_num (by rw [hl]; exact hi) (by rw [hg]; exact bt_nonneg _ _) (by rw [hg]; exact bt_le _ _), hg, bt_ext s a (a + n) i h (by omega)]

/-- Is the byte at place k (from 0 on) within the part? -/
def inB (f n : Int) (k : Nat) : Bool := decide (f ≤ (k : Int) + 1) && (n == 9000000000000 || (decide (0 < n) && decide ((k : Int) + 1 - n < f)))
def subA (s : ByteArray) (f n : Int) : Nat → List Int
  | 0 => []
  | k + 1 => if inB f n k = true then subA s f n k ++ [bt s k] else subA s f n k
theorem subA_len (s : ByteArray) (f n : Int) : ∀ k, (subA s f n k).length ≤ k
  | 0 => by simp [subA]
  | k + 1 => by
    have := subA_len s f n k
    rw [subA]; split
    · simp; omega
    · omega
/-- Where the part begins and ends, as places from 0 on. -/
def loN (f : Int) : Nat := (max f 1 - 1).toNat
def hiN (z : Nat) (f n : Int) : Nat := if n ≤ 0 then 0 else if n = 9000000000000 then z else (min (f + n) ((z : Int) + 1) - 1).toNat
theorem hiN_le (z : Nat) (f n : Int) : hiN z f n ≤ z := by
  unfold hiN; split
  · omega
  · split <;> omega
theorem inB_iff {f n : Int} {k z : Nat} (hk : k < z) : inB f n k = true ↔ loN f ≤ k ∧ k < hiN z f n := by
  unfold inB loN hiN
  simp only [Bool.and_eq_true, Bool.or_eq_true, decide_eq_true_eq, beq_iff_eq]
  by_cases h0 : n ≤ 0
  · rw [if_pos h0]; omega
  · rw [if_neg h0]
    by_cases h1 : n = 9000000000000
    · rw [if_pos h1]; omega
    · rw [if_neg h1]; omega
theorem subA_eq {s : ByteArray} {f n : Int} : ∀ {k : Nat}, k ≤ s.size → subA s f n k = bz s (loN f) (min k (hiN s.size f n) - loN f)
  | 0, _ => by simp [subA, bz]
  | k + 1, h => by
    have ih := subA_eq (s := s) (f := f) (n := n) (k := k) (by omega)
    have hi := inB_iff (f := f) (n := n) (k := k) (z := s.size) (by omega)
    rw [subA]
    by_cases hb : inB f n k = true
    · obtain ⟨h1, h2⟩ := hi.1 hb
      rw [if_pos hb, ih, show min (k + 1) (hiN s.size f n) - loN f = (min k (hiN s.size f n) - loN f) + 1 by omega, bz_step, show loN f + (min k (hiN s.size f n) - loN f) = k by omega]
    · rw [if_neg hb, ih]
      have : ¬ (loN f ≤ k ∧ k < hiN s.size f n) := fun g => hb (hi.2 g)
      rw [show min (k + 1) (hiN s.size f n) - loN f = min k (hiN s.size f n) - loN f by omega]
/-- The part. -/
def subS (s : ByteArray) (f n : Int) : ByteArray := if loN f < hiN s.size f n then s.extract (loN f) (hiN s.size f n) else ⟨#[]⟩
theorem subA_str (s : ByteArray) (f n : Int) : strOfNums (subA s f n s.size) = subS s f n := by
  have hh := hiN_le s.size f n
  rw [subA_eq (Nat.le_refl _)]
  unfold subS
  split
  · rw [Nat.min_eq_right hh, str_bz (by omega), show loN f + (hiN s.size f n - loN f) = hiN s.size f n by omega]
  · rw [show min s.size (hiN s.size f n) - loN f = 0 by omega]; rfl
theorem subS_size (s : ByteArray) (f n : Int) : (subS s f n).size ≤ s.size := by
  have hh := hiN_le s.size f n
  unfold subS; split
  · rw [size_ext s _ _ hh]; omega
  · exact Nat.zero_le _
theorem subS_whole (s : ByteArray) (n : Int) (h : n = 9000000000000 ∨ (n = s.size ∧ s.size < 9000000000000)) : subS s 1 n = s := by
  have hlo : loN 1 = 0 := rfl
  have hhi : hiN s.size 1 n = s.size ∨ s.size = 0 := by
    unfold hiN
    rcases h with rfl | ⟨rfl, hz⟩
    · left; rw [if_neg (by omega), if_pos rfl]
    · rcases Nat.eq_zero_or_pos s.size with hp | hp
      · exact .inr hp
      · left; rw [if_neg (by omega), if_neg (by omega)]; omega
  by_cases hp : s.size = 0
  · have : (subS s 1 n).size = 0 := by have := subS_size s 1 n; omega
    exact ba_same (by omega) fun i hi => by omega
  · rcases hhi with hhi | hhi
    · unfold subS
      rw [hlo, hhi, if_pos (by omega)]
      refine ba_same (by rw [size_ext s 0 _ (Nat.le_refl _)]; omega) fun i hi => ?_
      rw [size_ext s 0 _ (Nat.le_refl _)] at hi
      rw [bt_ext s 0 _ i (Nat.le_refl _) hi, Nat.zero_add]
    · exact absurd hhi hp

/-- Where t stands in s, from 1 on; 0 if nowhere. -/
def ixN (s t : ByteArray) : Int := if nilB t = true then 0 else Lib.index s.data.toList t.data.toList + 1
def occ (s t : ByteArray) (i : Nat) : Bool := Lib.occAt s.data.toList t.data.toList i
theorem len_data (s : ByteArray) : s.data.toList.length = s.size := by rw [Array.length_toList]; rfl
theorem ext_data (s : ByteArray) (a b : Nat) : (s.extract a b).data.toList = (s.data.toList.drop a).take (b - a) := by
  rw [ByteArray.data_extract]
  simp
theorem occ_eq {s t : ByteArray} {i : Nat} (h : i + t.size ≤ s.size) : ((s.extract i (i + t.size)).toList == t.toList) = occ s t i := by
  have hz := len_data t
  rw [Bool.eq_iff_iff, beq_iff_eq, ByteArray.toList_eq, ByteArray.toList_eq, ext_data]
  unfold occ Lib.occAt
  rw [List.isPrefixOf_iff_prefix, List.prefix_iff_eq_take, hz]
  rw [show i + t.size - i = t.size by omega]
  exact ⟨fun h => h.symm, fun h => h.symm⟩
theorem occ_room {s t : ByteArray} {i : Nat} (ht : nilB t = false) (h : occ s t i = true) : i + t.size ≤ s.size := by
  rcases Lib.occAt_room h with g | g
  · rw [len_data, len_data] at g; exact g
  · exfalso
    have : t.size = 0 := by rw [← len_data, g]; rfl
    rw [nilB_size] at ht
    simp [this] at ht
theorem ix_first {s t : ByteArray} {i : Nat} (ht : nilB t = false) (h : occ s t i = true) (hn : ∀ j, j < i → occ s t j = false) : ixN s t = (i : Int) + 1 := by
  have hr := occ_room ht h
  unfold ixN
  rw [if_neg (by rw [ht]; simp), Lib.index_first (by rw [len_data]; omega) h hn]
theorem ix_none {s t : ByteArray} (ht : nilB t = false) (hn : ∀ j, j + t.size ≤ s.size → occ s t j = false) : ixN s t = 0 := by
  unfold ixN
  rw [if_neg (by rw [ht]; simp), Lib.index_none (fun j _ => by
    by_cases g : j + t.size ≤ s.size
    · exact hn j g
    · cases ho : Lib.occAt s.data.toList t.data.toList j with
      | false => rfl
      | true => exact absurd (occ_room (s := s) ht ho) g)]
  rfl
end Go.Proofs.YthaedmldlenhgaaDoor.SubPure
