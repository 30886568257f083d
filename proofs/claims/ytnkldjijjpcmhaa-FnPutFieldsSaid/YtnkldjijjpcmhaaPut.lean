/-
  PutField of the program.
-/
import Derived.Test.YtnkldjijjpcmhaaPutSpec
import Derived.Test.YtnkldjijjpcmhaaJoin
import Derived.Laws.CopyOwn
namespace Go.Proofs.Ytnkldjijjpcmhaa.Strs
open Go.ChangeShapes Go.WideShapes Go.ChangeAt Go.RowKit Go.PlainAid
open Go.Proofs.Ytnkldjijjpcmhaa.Dec
open Go.Proofs.Ytnkldjijjpcmhaa.DecPure Go.Proofs.Ytnkldjijjpcmhaa.ReadPure
set_option linter.unusedVariables false

/-- A row that is known whole. -/
def RowS (w : World) (g : Nat) (l : List ByteArray) : Prop := w.heap[g]? = some (.cells (l.map Value.string).toArray 9 (0, 0))
theorem SR.whole {B : Nat} {w : World} {g : Nat} {l : List ByteArray} {n : Nat} (hn : n = l.length) (h : SR B w (.slice (some ⟨g, 0, none⟩) n n) l) : RowS w g l := by
  subst hn
  rcases h.2 with ⟨q, _⟩ | ⟨g', cap, cur, hv, hb, hg, hnc, hcm, hcs, ht⟩
  · cases q
  · simp only [Value.slice.injEq, Option.some.injEq, Addr.mk.injEq, and_true, true_and] at hv
    obtain ⟨rfl, rfl⟩ := hv
    rw [Nat.mul_one] at hcs ht
    rw [List.take_of_length_le (by rw [Array.length_toList]; omega)] at ht
    unfold RowS
    rw [hg, ← ht]
theorem sr_whole {B : Nat} {w : World} {g : Nat} {l : List ByteArray} {n : Nat} (hn : n = l.length) (h : RowS w g l) (hB : B ≤ g) (hl : l.length ≤ maxLen) : SR B w (.slice (some ⟨g, 0, none⟩) n n) l := by
  subst hn
  refine ⟨by simp, .inr ⟨g, l.length, _, rfl, hB, h, Nat.le_refl _, hl, by simp, ?_⟩⟩
  rw [Nat.mul_one, List.take_of_length_le (by simp)]
theorem set_same (l : List ByteArray) {k : Nat} (h : k < l.length) : l.set k (sat l k) = l := by
  apply List.ext_getElem?
  intro i
  rw [List.getElem?_set]
  split
  · rename_i e
    subst e
    simp [sat, List.getD, h]
  · rfl
theorem splice_pad (l : List ByteArray) (n : Nat) : splice ((List.replicate (l.length + (n - l.length)) (⟨#[]⟩ : ByteArray)).map Value.string) 0 (l.map Value.string) = (pad l n).map Value.string := by
  unfold splice pad
  simp

/-- A row of so many empty strings. -/
def zeroS (m : Nat) : List Value := (List.replicate m (⟨#[]⟩ : ByteArray)).map Value.string
theorem zeroS_len (m : Nat) : (zeroS m).length = m := by simp [zeroS]
theorem made_row {w w1 : World} {m : Nat} (h : w1.ownsRow w.heap.size 9 1 (.slice (some ⟨w.heap.size, 0, none⟩) m m) m (madeCells (Value.string ⟨#[]⟩).cells (m * 1)).toList) (hg : w.grownBy w1 none) :
    Hid (w1.heap[w.heap.size]? = some (.cells (zeroS m).toArray 9 (0, 0))) ∧ Hid (Below w.heap.size w w1) := by
  have e : (madeCells (Value.string ⟨#[]⟩).cells (m * 1)).toList = (List.replicate m (⟨#[]⟩ : ByteArray)).map Value.string := by
    apply List.ext_getElem
    · simp [madeCells]
    · intro i h1 h2
      simp [madeCells, Value.cells]
      rw [Nat.mod_one]
      rfl
  rw [e] at h
  refine ⟨?_, ⟨hg.os, hg.tape, hg.output, hg.size, fun i hi => hg.block i hi (by simp)⟩⟩
  have hs : SR w.heap.size w1 (.slice (some ⟨w.heap.size, 0, none⟩) m m) (List.replicate m ⟨#[]⟩) := by unfold SR; rw [List.length_replicate]; exact h
  exact SR.whole (by simp) hs

theorem zero_name {w1 : World} {g m : Nat} (h : Hid (w1.heap[g]? = some (.cells (zeroS m).toArray 9 (0, 0)))) : ∃ zs : List Value, Hid (zs = zeroS m) ∧ Hid (w1.heap[g]? = some (.cells zs.toArray 9 (0, 0))) ∧ zs.length = m :=
  ⟨zeroS m, rfl, h, zeroS_len m⟩
theorem put_src {w w1 : World} {ao : Option Addr} {l : List ByteArray} {cs : List Value} (hc : ∀ i, i < l.length → ∃ b off, ao = some ⟨b, off, none⟩ ∧ w.cell? ⟨b, off + i, none⟩ = some (.string (sat l i)) ∧ (sat l i).size ≤ 1048576)
    (hcs : cs = l.map Value.string) (hb : Below w.heap.size w w1) :
    Hid (0 < cs.length → (some ⟨w.heap.size, 0, none⟩ : Option Addr) = some ⟨w.heap.size, 0, none⟩ ∧ ∃ ad, ao = some ad ∧ ∀ j v, cs[j]? = some v → w1.cell? (ad.add j) = some v) := by
  intro h0
  subst hcs
  rcases ao with _ | ad
  · rcases l with _ | ⟨x, l⟩
    · exact absurd h0 (Nat.lt_irrefl 0)
    · obtain ⟨_, _, e, _⟩ := hc 0 (Nat.succ_pos _)
      cases e
  · refine ⟨rfl, ad, rfl, fun j v hj => ?_⟩
    rw [List.getElem?_map] at hj
    obtain ⟨x, hx, rfl⟩ := Option.map_eq_some_iff.1 hj
    have hj' : j < l.length := (List.getElem?_eq_some_iff.1 hx).1
    obtain ⟨b, off, e, c0, _⟩ := hc j hj'
    cases e
    have hbl := World.block_lt_of_cell? w ⟨b, off + j, none⟩ c0
    have : sat l j = x := by simp [sat, List.getD, hx]
    rw [this] at c0
    rw [add_plain]
    exact (hb.cell (p := ⟨b, off + j, none⟩) hbl).trans c0

theorem put_mid {w w2 : World} {l : List ByteArray} {n m : Nat} {s : ByteArray} {zs cs : List Value} (hz : zs = zeroS m) (hcs : cs = l.map Value.string) (hm : m = l.length + (n - l.length)) (hn0 : 0 < n) (hm50 : m ≤ 50)
    (hg : w2.heap[w.heap.size]? = some (.cells (splice zs 0 cs).toArray 9 (0, 0))) (hB2 : Below w.heap.size w w2) :
    (∃ x, w2.cell? ⟨w.heap.size, n - 1, none⟩ = some (.string x)) ∧ w2.frozen? ⟨w.heap.size, n - 1, none⟩ = false ∧ Hid (SR w.heap.size (w2.setCell ⟨w.heap.size, n - 1, none⟩ (.string s)) (.slice (some ⟨w.heap.size, 0, none⟩) m m) (putL l n s)) ∧
      Hid (Below w.heap.size w (w2.setCell ⟨w.heap.size, n - 1, none⟩ (.string s))) := by
  have hpl : (pad l n).length = m := by rw [pad_len, hm]
  have hrw : RowS w2 w.heap.size (pad l n) := by
    rw [hz, hcs, zeroS, hm, splice_pad] at hg
    exact hg
  have hrow : SR w.heap.size w2 (.slice (some ⟨w.heap.size, 0, none⟩) (pad l n).length m) (pad l n) := by rw [hpl]; exact sr_whole hpl.symm hrw (Nat.le_refl _) (by unfold maxLen; omega)
  obtain ⟨g, c, e1, c0, z0⟩ := hrow.at (i := n - 1) (by omega)
  simp only [Value.slice.injEq, true_and, Option.some.injEq, Addr.mk.injEq, and_true] at e1
  obtain ⟨rfl, rfl⟩ := e1
  have hst := hrow.stored (n - 1) s
  have hst1 : SR w.heap.size (w2.setCell ⟨w.heap.size, n - 1, none⟩ (.string s)) (.slice (some ⟨w.heap.size, 0, none⟩) m m) (putL l n s) := by have := hst.1; rwa [hpl] at this
  exact ⟨⟨_, c0⟩, z0, hst1, hB2.grown hst.2 hB2.size (fun x hx => by cases hx; exact Nat.le_refl _)⟩

theorem put_at {B : Nat} {wr : World} {g m k : Nat} {L : List ByteArray} (hql : L.length = m) (hpz : ∀ i, i < L.length → (sat L i).size ≤ 1048576) (h : SR B wr (.slice (some ⟨g, 0, none⟩) m m) L) (hlt : k < m) :
    wr.cell? ⟨g, k, none⟩ = some (.string (sat L k)) ∧ (sat L k).size ≤ 1048576 := by
  subst hql
  obtain ⟨g', c, e1, c0, z0⟩ := h.at hlt
  simp only [Value.slice.injEq, true_and, Option.some.injEq, Addr.mk.injEq, and_true] at e1
  obtain ⟨rfl, rfl⟩ := e1
  exact ⟨c0, hpz k hlt⟩
theorem put_round {w wr w5 : World} {m k : Nat} {L : List ByteArray} {x : ByteArray} (hx : x = sat L k) (hql : L.length = m) (h : SR w.heap.size wr (.slice (some ⟨w.heap.size, 0, none⟩) m m) L) (hB : Below w.heap.size w wr) (hb : Below wr.heap.size wr w5) (hlt : k < m) :
    (∃ y, w5.cell? ⟨w.heap.size, k, none⟩ = some (.string y)) ∧ w5.frozen? ⟨w.heap.size, k, none⟩ = false ∧ Hid (SR w.heap.size (w5.setCell ⟨w.heap.size, k, none⟩ (.string x)) (.slice (some ⟨w.heap.size, 0, none⟩) m m) L) ∧
      Hid (Below w.heap.size w (w5.setCell ⟨w.heap.size, k, none⟩ (.string x))) := by
  subst hql
  have h5 := h.below hb (Nat.le_refl _)
  obtain ⟨g', c, e1, c0, z0⟩ := h5.at hlt
  simp only [Value.slice.injEq, true_and, Option.some.injEq, Addr.mk.injEq, and_true] at e1
  obtain ⟨rfl, rfl⟩ := e1
  have hst := h5.stored k x
  rw [hx, set_same L hlt, ← hx] at hst
  have hB5 := hB.trans (hb.mono hB.size)
  exact ⟨⟨_, c0⟩, z0, hst.1, hB5.grown hst.2 hB5.size (fun y hy => by cases hy; exact Nat.le_refl _)⟩

set_option maxRecDepth 100000 in
set_option maxHeartbeats 4000000 in
theorem impl_put (v : Value) (l : List ByteArray) (i : Int) (s : ByteArray) (hl : l.length ≤ 1048576) (hs : s.size ≤ 1048576) (w : World) (h : RdS w v l) : Calls Try.prog 24 #[v, .int .i64 i, .string s] w (Put w (putP l i s)) := by
  have hsz : ∀ j, j < l.length → (sat l j).size ≤ 1048576 := by
    obtain ⟨_, _, _, _, hc⟩ := h
    exact fun j hj => by obtain ⟨_, _, _, _, q⟩ := hc j hj; exact q
  have HSZ := Lib.hid hsz; clear hsz
  obtain ⟨ao, cap, rfl, -, hc⟩ := h
  have HC := Lib.hid hc; clear hc
  by_cases h1 : i < 1
  · have E : Hid (putP l i s = ([], false)) := Lib.hid (by unfold putP; rw [if_pos (.inl h1)])
    go_enter Try.func24, Try.ntmps24
    go_wp2_with fail
    go_ret2
    exact ⟨_, by rw [E.out]; rfl, by rw [E.out]; exact SR.nil _ _, Below.refl _ _⟩
  by_cases h2 : 50 < i
  · have E : Hid (putP l i s = ([], false)) := Lib.hid (by unfold putP; rw [if_pos (.inr (.inl h2))])
    go_enter Try.func24, Try.ntmps24
    go_wp2_with fail
    go_ret2
    exact ⟨_, by rw [E.out]; rfl, by rw [E.out]; exact SR.nil _ _, Below.refl _ _⟩
  by_cases h3 : 50 < l.length
  · have E : Hid (putP l i s = ([], false)) := Lib.hid (by unfold putP; rw [if_pos (.inr (.inr (.inl h3)))])
    have hi3 : (50 : Int) < (l.length : Int) := by omega
    go_enter Try.func24, Try.ntmps24
    go_wp2_with fail
    go_ret2
    exact ⟨_, by rw [E.out]; rfl, by rw [E.out]; exact SR.nil _ _, Below.refl _ _⟩
  have hi3 : ¬ (50 : Int) < (l.length : Int) := by omega
  have hd3 : decide (50 < l.length) = false := by simpa using h3
  obtain ⟨n, rfl⟩ : ∃ n : Nat, i = (n : Int) := ⟨i.toNat, by omega⟩
  have hn0 : 0 < n := by omega
  have hn50 : n ≤ 50 := by omega
  obtain ⟨m, hm⟩ : ∃ m, m = l.length + (n - l.length) := ⟨_, rfl⟩
  have hm50 : m ≤ 50 := by omega
  have hmx : (max (n : Int) (l.length : Int)) = (m : Int) := by omega
  have HMX := Lib.hid hmx; clear hmx
  have hlm : l.length ≤ m := by omega
  have hnm : n ≤ m := by omega
  have HM := Lib.hid hm; clear hm
  obtain ⟨i0, hi, hz0, hz1, hz2⟩ := info_parts infoS
  obtain ⟨cs, hcs⟩ : ∃ cs, cs = l.map Value.string := ⟨_, rfl⟩
  have hcl : cs.length = l.length := by rw [hcs, List.length_map]
  have HCS := Lib.hid hcs; clear hcs
  have HCL := Lib.hid hcl; clear hcl
  have hi1 : (0 : Int) ≤ (n : Int) - 1 := by omega
  have hi2 : ((n : Int) - 1).toNat = n - 1 := by omega
  have hi3' : (n : Int) - 1 < (m : Int) := by omega
  go_enter Try.func24, Try.ntmps24
  go_wp2_with (first | (at_make; refine wpList_make_full _ rfl _ _ 24 rfl w.heap.size 9 i0 (.string ⟨#[]⟩) 1 Try.underlying24 hi hz0 hz1 .i64 .i64 _ _ m rfl rfl HMX.out HMX.out (by rw [hz2]; omega) (by unfold maxLen; omega) (Nat.le_refl _) ?_; intro w1 hown hgrow; obtain ⟨HG, HB1⟩ := made_row hown hgrow; have HSRC := put_src HC.out HCS.out HB1.out; obtain ⟨zs, HZS, HG, hzl⟩ := zero_name HG; clear hown hgrow) | (refine wpList_copy_splice (o := ⟨some 29, _, _, _, _, _⟩) rfl _ _ 24 24 rfl 9 Try.underlying24 (by kernel_rfl) _ _ _ _ _ _ rfl rfl w.heap.size 0 zs 9 HG.out cs (by rw [HCL.out]; show _ = min l.length m; omega) HSRC.out (by rw [HCL.out]; omega) (by rw [HCS.out]; intro u hu; obtain ⟨x, _, rfl⟩ := List.mem_map.1 hu; rfl) w.heap.size w HB1.out (Nat.le_refl _) ?_; intro w2 HG2 hB2; obtain ⟨⟨x0, c0⟩, z0, HST0, HB3⟩ := put_mid (s := s) HZS.out HCS.out HM.out hn0 hm50 HG2.out hB2; clear hB2 HG2))
  obtain ⟨w3, hw3⟩ : ∃ w3, w3 = w2.setCell ⟨w.heap.size, n - 1, none⟩ (.string s) := ⟨_, rfl⟩
  rw [← hw3] at HST0 HB3
  have hst1 := HST0.out
  have hB3 := HB3.out
  clear HST0 HB3
  have hpz : ∀ i, i < (putL l n s).length → (sat (putL l n s) i).size ≤ 1048576 := fun i _ => putL_size l n s hs HSZ.out i
  have hql : (putL l n s).length = m := by rw [putL_len, HM.out]
  obtain ⟨L, hL⟩ : ∃ L, L = putL l n s := ⟨_, rfl⟩
  rw [← hL] at hst1 hpz hql
  have hrd : RdS w3 (.slice (some ⟨w.heap.size, 0, none⟩) m m) L := SR.read hst1 hpz
  have hft := impl_fits _ L (by omega) w3 hrd
  have HZ := Lib.hid hft
  have HST := Lib.hid hst1
  have HB3 := Lib.hid hB3
  have HPZ := Lib.hid hpz
  have HQL := Lib.hid hql
  have HL := Lib.hid hL
  have HW3 := Lib.hid hw3
  clear hft hst1 hB3 hrd hpz hql hL hw3
  by_cases hbig : szJ L L.length ≤ 500
  · have E : Hid (putP l n s = (L, true)) := Lib.hid (by unfold putP; rw [if_neg (by rw [Int.toNat_natCast, ← HL.out]; omega), Int.toNat_natCast, ← HL.out])
    have hd : decide (szJ L L.length ≤ 500) = true := decide_eq_true hbig
    clear hbig
    rw [← HW3.out]
    refine HZ.out.mono ?_
    rintro e w4 ⟨rfl, rfl⟩
    go_wp2_with fail
    go_loopw [40] (fun i wr => ∃ k : Nat, k ≤ m ∧ i = .int .i64 k ∧ Hid (SR w.heap.size wr (.slice (some ⟨w.heap.size, 0, none⟩) m m) L) ∧ Hid (Below w.heap.size w wr)) (fun i _ => m - (intOf i).toNat)
    case atStart => exact ⟨0, Nat.zero_le _, rfl, HST, HB3⟩
    case round =>
      obtain ⟨k, hk, rfl, HR, HB⟩ := hrel
      by_cases hlt : k < m
      · obtain ⟨c0, hxs⟩ := put_at HQL.out HPZ.out HR.out hlt
        obtain ⟨x, hx⟩ : ∃ x, x = sat L k := ⟨_, rfl⟩
        rw [← hx] at c0 hxs
        have HX := Lib.hid hx; clear hx
        have hcl := clone_of x hxs
        have HCN := Lib.hid hcl; clear hcl
        have hki : (k : Int) < (m : Int) := by omega
        have hk0 : (0 : Int) ≤ (k : Int) := by omega
        go_wp2_with (go_at_call 47; refine (HCN.out _).mono ?_; rintro e w5 ⟨rfl, hB⟩; obtain ⟨⟨y, d0⟩, f0, HR5, HB5⟩ := put_round HX.out HQL.out HR.out HB.out hB hlt; clear hB)
        go_roundw
        case rel => exact ⟨k + 1, by omega, by go_num, HR5, HB5⟩
        case measure => simp [intOf]; omega
      · obtain rfl : k = m := by omega
        clear hlt
        go_wp2_with fail
        go_ret2
        exact ⟨_, by rw [E.out]; rfl, by rw [E.out]; exact HR.out, HB.out⟩
  · have E : Hid (putP l n s = ([], false)) := Lib.hid (by unfold putP; rw [if_pos (.inr (.inr (.inr (by rw [Int.toNat_natCast, ← HL.out]; omega))))])
    have hd : decide (szJ L L.length ≤ 500) = false := decide_eq_false hbig
    rw [← HW3.out]
    refine HZ.out.mono ?_
    rintro e w4 ⟨rfl, rfl⟩
    go_wp2_with fail
    go_ret2
    exact ⟨_, by rw [E.out]; rfl, by rw [E.out]; exact SR.nil _ _, HB3.out⟩

theorem putP_cases (l : List ByteArray) (i : Int) (s : ByteArray) : putP l i s = ([], false) ∨ (putP l i s = (putL l i.toNat s, true) ∧ 1 ≤ i ∧ i ≤ 50 ∧ l.length ≤ 50) := by
  unfold putP
  split
  · exact .inl rfl
  · rename_i h
    exact .inr ⟨rfl, by omega, by omega, by omega⟩
theorem putL_at (l : List ByteArray) (p : Nat) (s : ByteArray) : sat (putL l (p + 1) s) p = s := by
  have h : p < (pad l (p + 1)).length := by rw [pad_len]; omega
  simp [sat, putL, List.getD, h]
theorem putL_old {l : List ByteArray} {p k : Nat} {s : ByteArray} (h : k < l.length) (h2 : k ≠ p) : sat (putL l (p + 1) s) k = sat l k := by
  unfold sat putL
  rw [List.getD_eq_getElem?_getD, List.getElem?_set, if_neg (by omega), pad, List.getElem?_append_left h, ← List.getD_eq_getElem?_getD]
theorem putL_new {l : List ByteArray} {p k : Nat} {s : ByteArray} (h : l.length ≤ k) (h2 : k ≠ p) : sat (putL l (p + 1) s) k = ⟨#[]⟩ := by
  unfold sat putL
  rw [List.getD_eq_getElem?_getD, List.getElem?_set, if_neg (by omega), pad, List.getElem?_append_right h, List.getElem?_replicate]
  split <;> rfl

end Go.Proofs.Ytnkldjijjpcmhaa.Strs
