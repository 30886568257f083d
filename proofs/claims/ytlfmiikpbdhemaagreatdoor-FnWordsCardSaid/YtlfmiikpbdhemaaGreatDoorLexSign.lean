/-
  The model's lexer: signs, and whether the last token ends an operand.
-/
import Derived.Test.YtlfmiikpbdhemaaGreatDoorToks
import Derived.BigQuiet
namespace Go.Proofs.YtlfmiikpbdhemaaGreatDoor.Lex
open Go.ChangeShapes Go.WideShapes Go.ChangeAt Go.RowKit Go.PlainAid Go.Maps
open Go.Proofs.YtlfmiikpbdhemaaGreatDoor.Dec
open Go.Proofs.YtlfmiikpbdhemaaGreatDoor.DecPure Go.Proofs.YtlfmiikpbdhemaaGreatDoor.ReadPure Go.Proofs.YtlfmiikpbdhemaaGreatDoor.LexPure
set_option linter.unusedVariables false

def sg (k : Nat) : ByteArray := signsL.getD k ⟨#[]⟩
/-- Does the text t stand at a? -/
def mt (s : ByteArray) (a : Nat) (t : ByteArray) : Prop := a + t.size ≤ s.size ∧ s.extract a (a + t.size) = t
theorem ba_ext {s t : ByteArray} (hn : s.size = t.size) (h : ∀ i, i < s.size → bt s i = bt t i) : s = t := by
  apply ByteArray.ext
  apply Array.ext
  · exact hn
  · intro i h1 h2
    have e := h i h1
    unfold bt at e
    rw [dif_pos (show i < s.size from h1), dif_pos (show i < t.size from h2)] at e
    have e2 : (s[i]'h1).toNat = (t[i]'h2).toNat := by omega
    exact UInt8.toNat_inj.mp e2
theorem mt_iff {s t : ByteArray} {a : Nat} : mt s a t ↔ a + t.size ≤ s.size ∧ ∀ i, i < t.size → bt s (a + i) = bt t i := by
  unfold mt
  constructor
  · rintro ⟨h1, h2⟩
    refine ⟨h1, fun i hi => ?_⟩
    have e := bt_ext s a (a + t.size) i h1 (by omega)
    rw [h2] at e
    exact e.symm
  · rintro ⟨h1, h2⟩
    refine ⟨h1, ?_⟩
    have hz : (s.extract a (a + t.size)).size = t.size := by rw [size_ext s a _ h1]; omega
    exact ba_ext hz fun i hi => by rw [bt_ext s a (a + t.size) i h1 (by omega)]; exact h2 i (by omega)
theorem mt2 {s : ByteArray} {a : Nat} (x y : UInt8) : mt s a ⟨#[x, y]⟩ ↔ a + 1 < s.size ∧ bt s a = (x.toNat : Int) ∧ bt s (a + 1) = (y.toNat : Int) := by
  rw [mt_iff]
  constructor
  · rintro ⟨h1, h2⟩
    have h1' : a + 2 ≤ s.size := h1
    exact ⟨by omega, h2 0 (show 0 < 2 by omega), h2 1 (show 1 < 2 by omega)⟩
  · rintro ⟨h1, h2, h3⟩
    refine ⟨show a + 2 ≤ s.size by omega, fun i hi => ?_⟩
    have hi' : i < 2 := hi
    match i, hi' with
    | 0, _ => exact h2
    | 1, _ => exact h3
theorem mt1 {s : ByteArray} {a : Nat} (x : UInt8) : mt s a ⟨#[x]⟩ ↔ a < s.size ∧ bt s a = (x.toNat : Int) := by
  rw [mt_iff]
  constructor
  · rintro ⟨h1, h2⟩
    have h1' : a + 1 ≤ s.size := h1
    exact ⟨by omega, h2 0 (show 0 < 1 by omega)⟩
  · rintro ⟨h1, h2⟩
    refine ⟨show a + 1 ≤ s.size by omega, fun i hi => ?_⟩
    have hi' : i < 1 := hi
    match i, hi' with
    | 0, _ => exact h2
theorem two_of {x y : Int} (h : twoB x y = true) : (x = 38 ∧ y = 38) ∨ (x = 124 ∧ y = 124) ∨ (x = 61 ∧ y = 61) ∨ (x = 33 ∧ y = 61) ∨ (x = 33 ∧ y = 126) ∨ (x = 60 ∧ y = 61) ∨ (x = 43 ∧ y = 61) := by
  simp [twoB] at h
  omega
theorem one_of {x : Int} (h : oneB x = true) : x = 123 ∨ x = 125 ∨ x = 40 ∨ x = 41 ∨ x = 91 ∨ x = 93 ∨ x = 59 ∨ x = 44 ∨ x = 61 ∨ x = 33 ∨ x = 60 ∨ x = 43 ∨ x = 45 ∨ x = 42 ∨ x = 47 ∨ x = 37 ∨ x = 126 ∨ x = 63 ∨ x = 58 ∨ x = 36 := by
  simp [oneB, oneL] at h
  omega
theorem sgn_two_of {s : ByteArray} {a : Nat} (h : a + 1 < s.size) (ht : twoB (bt s a) (bt s (a + 1)) = true) : ∃ j, j < 7 ∧ mt s a (sg j) := by
  rcases two_of ht with ⟨h1, h2⟩ | ⟨h1, h2⟩ | ⟨h1, h2⟩ | ⟨h1, h2⟩ | ⟨h1, h2⟩ | ⟨h1, h2⟩ | ⟨h1, h2⟩
  · exact ⟨0, by omega, (mt2 38 38).2 ⟨h, h1, h2⟩⟩
  · exact ⟨1, by omega, (mt2 124 124).2 ⟨h, h1, h2⟩⟩
  · exact ⟨2, by omega, (mt2 61 61).2 ⟨h, h1, h2⟩⟩
  · exact ⟨3, by omega, (mt2 33 61).2 ⟨h, h1, h2⟩⟩
  · exact ⟨4, by omega, (mt2 33 126).2 ⟨h, h1, h2⟩⟩
  · exact ⟨5, by omega, (mt2 60 61).2 ⟨h, h1, h2⟩⟩
  · exact ⟨6, by omega, (mt2 43 61).2 ⟨h, h1, h2⟩⟩
theorem sgn_one_of {s : ByteArray} {a : Nat} (h : a < s.size) (ht : oneB (bt s a) = true) : ∃ j, 7 ≤ j ∧ j < 27 ∧ mt s a (sg j) := by
  rcases one_of ht with h1 | h1 | h1 | h1 | h1 | h1 | h1 | h1 | h1 | h1 | h1 | h1 | h1 | h1 | h1 | h1 | h1 | h1 | h1 | h1
  · exact ⟨7, by omega, by omega, (mt1 123).2 ⟨h, h1⟩⟩
  · exact ⟨8, by omega, by omega, (mt1 125).2 ⟨h, h1⟩⟩
  · exact ⟨9, by omega, by omega, (mt1 40).2 ⟨h, h1⟩⟩
  · exact ⟨10, by omega, by omega, (mt1 41).2 ⟨h, h1⟩⟩
  · exact ⟨11, by omega, by omega, (mt1 91).2 ⟨h, h1⟩⟩
  · exact ⟨12, by omega, by omega, (mt1 93).2 ⟨h, h1⟩⟩
  · exact ⟨13, by omega, by omega, (mt1 59).2 ⟨h, h1⟩⟩
  · exact ⟨14, by omega, by omega, (mt1 44).2 ⟨h, h1⟩⟩
  · exact ⟨15, by omega, by omega, (mt1 61).2 ⟨h, h1⟩⟩
  · exact ⟨16, by omega, by omega, (mt1 33).2 ⟨h, h1⟩⟩
  · exact ⟨17, by omega, by omega, (mt1 60).2 ⟨h, h1⟩⟩
  · exact ⟨18, by omega, by omega, (mt1 43).2 ⟨h, h1⟩⟩
  · exact ⟨19, by omega, by omega, (mt1 45).2 ⟨h, h1⟩⟩
  · exact ⟨20, by omega, by omega, (mt1 42).2 ⟨h, h1⟩⟩
  · exact ⟨21, by omega, by omega, (mt1 47).2 ⟨h, h1⟩⟩
  · exact ⟨22, by omega, by omega, (mt1 37).2 ⟨h, h1⟩⟩
  · exact ⟨23, by omega, by omega, (mt1 126).2 ⟨h, h1⟩⟩
  · exact ⟨24, by omega, by omega, (mt1 63).2 ⟨h, h1⟩⟩
  · exact ⟨25, by omega, by omega, (mt1 58).2 ⟨h, h1⟩⟩
  · exact ⟨26, by omega, by omega, (mt1 36).2 ⟨h, h1⟩⟩
theorem sg_two {s : ByteArray} {a k : Nat} (hk : k < 7) (h : mt s a (sg k)) : sgn s a = 2 := by
  unfold sgn
  rw [if_pos]
  match k, hk with
  | 0, _ => obtain ⟨h1, h2, h3⟩ := (mt2 38 38).1 h; exact ⟨h1, by rw [h2, h3]; rfl⟩
  | 1, _ => obtain ⟨h1, h2, h3⟩ := (mt2 124 124).1 h; exact ⟨h1, by rw [h2, h3]; rfl⟩
  | 2, _ => obtain ⟨h1, h2, h3⟩ := (mt2 61 61).1 h; exact ⟨h1, by rw [h2, h3]; rfl⟩
  | 3, _ => obtain ⟨h1, h2, h3⟩ := (mt2 33 61).1 h; exact ⟨h1, by rw [h2, h3]; rfl⟩
  | 4, _ => obtain ⟨h1, h2, h3⟩ := (mt2 33 126).1 h; exact ⟨h1, by rw [h2, h3]; rfl⟩
  | 5, _ => obtain ⟨h1, h2, h3⟩ := (mt2 60 61).1 h; exact ⟨h1, by rw [h2, h3]; rfl⟩
  | 6, _ => obtain ⟨h1, h2, h3⟩ := (mt2 43 61).1 h; exact ⟨h1, by rw [h2, h3]; rfl⟩
theorem sg_one {s : ByteArray} {a k : Nat} (hk : k < 27) (hk7 : 7 ≤ k) (h : mt s a (sg k)) (hn : ∀ j, j < k → ¬ mt s a (sg j)) : sgn s a = 1 := by
  unfold sgn
  rw [if_neg, if_pos]
  · have hc : k = 7 ∨ k = 8 ∨ k = 9 ∨ k = 10 ∨ k = 11 ∨ k = 12 ∨ k = 13 ∨ k = 14 ∨ k = 15 ∨ k = 16 ∨ k = 17 ∨ k = 18 ∨ k = 19 ∨ k = 20 ∨ k = 21 ∨ k = 22 ∨ k = 23 ∨ k = 24 ∨ k = 25 ∨ k = 26 := by omega
    rcases hc with rfl | rfl | rfl | rfl | rfl | rfl | rfl | rfl | rfl | rfl | rfl | rfl | rfl | rfl | rfl | rfl | rfl | rfl | rfl | rfl
    · obtain ⟨h1, h2⟩ := (mt1 123).1 h; rw [h2]; rfl
    · obtain ⟨h1, h2⟩ := (mt1 125).1 h; rw [h2]; rfl
    · obtain ⟨h1, h2⟩ := (mt1 40).1 h; rw [h2]; rfl
    · obtain ⟨h1, h2⟩ := (mt1 41).1 h; rw [h2]; rfl
    · obtain ⟨h1, h2⟩ := (mt1 91).1 h; rw [h2]; rfl
    · obtain ⟨h1, h2⟩ := (mt1 93).1 h; rw [h2]; rfl
    · obtain ⟨h1, h2⟩ := (mt1 59).1 h; rw [h2]; rfl
    · obtain ⟨h1, h2⟩ := (mt1 44).1 h; rw [h2]; rfl
    · obtain ⟨h1, h2⟩ := (mt1 61).1 h; rw [h2]; rfl
    · obtain ⟨h1, h2⟩ := (mt1 33).1 h; rw [h2]; rfl
    · obtain ⟨h1, h2⟩ := (mt1 60).1 h; rw [h2]; rfl
    · obtain ⟨h1, h2⟩ := (mt1 43).1 h; rw [h2]; rfl
    · obtain ⟨h1, h2⟩ := (mt1 45).1 h; rw [h2]; rfl
    · obtain ⟨h1, h2⟩ := (mt1 42).1 h; rw [h2]; rfl
    · obtain ⟨h1, h2⟩ := (mt1 47).1 h; rw [h2]; rfl
    · obtain ⟨h1, h2⟩ := (mt1 37).1 h; rw [h2]; rfl
    · obtain ⟨h1, h2⟩ := (mt1 126).1 h; rw [h2]; rfl
    · obtain ⟨h1, h2⟩ := (mt1 63).1 h; rw [h2]; rfl
    · obtain ⟨h1, h2⟩ := (mt1 58).1 h; rw [h2]; rfl
    · obtain ⟨h1, h2⟩ := (mt1 36).1 h; rw [h2]; rfl
  · rintro ⟨h1, h2⟩
    obtain ⟨j, hj, hm⟩ := sgn_two_of h1 h2
    exact hn j (by omega) hm
theorem sg_size {k : Nat} (hk : k < 27) : (sg k).size = if k < 7 then 2 else 1 := by
  have hc : k = 0 ∨ k = 1 ∨ k = 2 ∨ k = 3 ∨ k = 4 ∨ k = 5 ∨ k = 6 ∨ k = 7 ∨ k = 8 ∨ k = 9 ∨ k = 10 ∨ k = 11 ∨ k = 12 ∨ k = 13 ∨ k = 14 ∨ k = 15 ∨ k = 16 ∨ k = 17 ∨ k = 18 ∨ k = 19 ∨ k = 20 ∨ k = 21 ∨ k = 22 ∨ k = 23 ∨ k = 24 ∨ k = 25 ∨ k = 26 := by omega
  rcases hc with rfl | rfl | rfl | rfl | rfl | rfl | rfl | rfl | rfl | rfl | rfl | rfl | rfl | rfl | rfl | rfl | rfl | rfl | rfl | rfl | rfl | rfl | rfl | rfl | rfl | rfl | rfl
  · rfl
  · rfl
  · rfl
  · rfl
  · rfl
  · rfl
  · rfl
  · rfl
  · rfl
  · rfl
  · rfl
  · rfl
  · rfl
  · rfl
  · rfl
  · rfl
  · rfl
  · rfl
  · rfl
  · rfl
  · rfl
  · rfl
  · rfl
  · rfl
  · rfl
  · rfl
  · rfl
theorem sgn_first {s : ByteArray} {a k : Nat} (hk : k < 27) (h : mt s a (sg k)) (hn : ∀ j, j < k → ¬ mt s a (sg j)) : sgn s a = (sg k).size := by
  rw [sg_size hk]
  by_cases h7 : k < 7
  · rw [if_pos h7]; exact sg_two h7 h
  · rw [if_neg h7]; exact sg_one hk (by omega) h hn
theorem sgn_none {s : ByteArray} {a : Nat} (ha : a < s.size) (hn : ∀ j, j < 27 → ¬ mt s a (sg j)) : sgn s a = 0 := by
  unfold sgn
  rw [if_neg, if_neg]
  · intro h
    obtain ⟨j, _, hj, hm⟩ := sgn_one_of ha h
    exact hn j hj hm
  · rintro ⟨h1, h2⟩
    obtain ⟨j, hj, hm⟩ := sgn_two_of h1 h2
    exact hn j (by omega) hm

set_option maxRecDepth 100000 in
theorem spec_signs (w : World) : Calls Tryz.prog 35 #[] w fun e w' => e = .returned (.slice (some ⟨w.heap.size, 0, none⟩) 27 27) ∧ StrRow w' w.heap.size signsL ∧ Below w.heap.size w w' := by
  go_enter Tryz.func35, Tryz.ntmps35
  go_wp2_with fail
  go_ret
  exact ⟨rfl, heap_alloc_new w _, (Below.refl _ _).alloc (Nat.le_refl _) _⟩

def sgnRes (s : ByteArray) (a : Nat) : Option (Tk × Nat) := if sgn s a = 0 then none else some (⟨7, s.extract a (a + sgn s a), 0, a⟩, a + sgn s a)

theorem bel_drewN {B : Nat} {a w : World} (h : Below B a w) (n : Nat) : Below B a (w.drewN n) := h.trans ⟨rfl, rfl, rfl, Nat.le_refl _, fun _ _ => rfl⟩

set_option maxHeartbeats 4000000 in
theorem spec_sign (s : ByteArray) (a : Nat) (hs : s.size ≤ 1048576) (ha : a < s.size) (w : World) : Calls Tryz.prog 27 #[.string s, .int .i64 a] w fun e w' => TokRes (sgnRes s a) e ∧ Below w.heap.size w w' := by
  go_enter Tryz.func27, Tryz.ntmps27
  go_wp2_with fail
  refine (spec_signs _).mono ?_
  rintro e w1 ⟨rfl, hrow, hB⟩
  have hz1 : (w.alloc (.cells #[.int .i64 0, .string ⟨#[]⟩, .int .i64 0, .int .i64 0] 30)).heap.size = w.heap.size + 1 := by simp
  rw [hz1] at hrow hB
  have T1 : TB w1 w.heap.size #[.int .i64 0, .string ⟨#[]⟩, .int .i64 0, .int .i64 0] := TB.below (heap_alloc_new w _) hB (by omega)
  have HB : Hid (Below w.heap.size w w1) := ((Below.refl w.heap.size w).alloc (Nat.le_refl _) _).trans (hB.mono (by omega))
  have HT := Lib.hid T1
  have HR := Lib.hid hrow
  clear T1 hrow hB
  go_wp2_with fail
  go_loopw [7] (fun i wr => ∃ k : Nat, k ≤ 27 ∧ i = .int .i64 k ∧ Hid (∀ j, j < k → ¬ mt s a (sg j)) ∧ Hid (Below w.heap.size w wr) ∧ Hid (StrRow wr (w.heap.size + 1) signsL) ∧ Hid (TB wr w.heap.size #[.int .i64 0, .string ⟨#[]⟩, .int .i64 0, .int .i64 0])) (fun i _ => 27 - (intOf i).toNat)
  case atStart => exact ⟨0, Nat.zero_le _, rfl, fun j hj => by omega, HB, HR, HT⟩
  case round =>
    clear HB HT HR
    obtain ⟨k, hk, rfl, HK, HB, HR, HT⟩ := hrel
    obtain ⟨p0, p1, p2, p3⟩ := HT.out.cells4
    have f0 := HT.out.frozen 0
    have f1 := HT.out.frozen 1
    have f2 := HT.out.frozen 2
    have f3 := HT.out.frozen 3
    by_cases hlt : k < 27
    · have hc : wr.cell? ⟨w.heap.size + 1, k, none⟩ = some (.string (sg k)) := HR.out.cell hlt
      have hz : (sg k).size ≤ 2 := by rw [sg_size hlt]; split <;> omega
      obtain ⟨t, ht⟩ : ∃ t, t = sg k := ⟨_, rfl⟩
      rw [← ht] at hc hz
      have HTT := Lib.hid ht; clear ht
      obtain ⟨m, hm0⟩ : ∃ m : Nat, m = a + t.size := ⟨_, rfl⟩
      have hwr : IntKind.i64.wrap ((a : Int) + (t.size : Int)) = (m : Int) := by rw [IntKind.wrap_i64]; omega
      have hwm : IntKind.i64.wrap (m : Int) = (m : Int) := by rw [IntKind.wrap_i64]; omega
      have ham : (a : Int) ≤ (m : Int) := by omega
      have hmw : (a : Int) + (t.size : Int) = (m : Int) := by omega
      by_cases hfit : m ≤ s.size
      · have hfit2 : (m : Int) ≤ (s.size : Int) := by omega
        have hd : decide ((m : Int) ≤ (s.size : Int)) = true := decide_eq_true hfit2
        by_cases he : s.extract a m = t
        · have hq := same_yes he
          have hm : mt s a (sg k) := by rw [← HTT.out]; exact ⟨by omega, by rw [← hm0]; exact he⟩
          have hf := sgn_first hlt hm HK.out
          have hp : 0 < (sg k).size := by rw [sg_size hlt]; split <;> omega
          rw [← HTT.out] at hf hp
          have HF : Hid (sgn s a ≠ 0 ∧ s.extract a (a + sgn s a) = t ∧ a + sgn s a = m) := ⟨by omega, by rw [hf, ← hm0]; exact he, by omega⟩
          clear hf hm he hm0
          go_wp2_with fail
          go_quiet (fail)
          go_wp2_with fail
          have T := fun n => TB.store4 (show TB (wr.drewN n) w.heap.size #[.int .i64 0, .string ⟨#[]⟩, .int .i64 0, .int .i64 0] from HT.out) (.int .i64 7) (.string t) (.int .i64 0) (.int .i64 a)
          refine bodyPost_ret (tb_results Tryz.results27 (T _) rfl rfl) rfl ?_
          refine ⟨?_, ((((bel_drewN HB.out _).setCell (Nat.le_refl _) _).setCell (Nat.le_refl _) _).setCell (Nat.le_refl _) _).setCell (Nat.le_refl _) _⟩
          unfold sgnRes
          rw [if_neg HF.out.1, HF.out.2.1, HF.out.2.2]
          exact tokRes_yes rfl rfl rfl rfl (by simp)
        · have hq := same_no he
          have HE : Hid ¬ mt s a (sg k) := by
            show ¬ _
            rw [← HTT.out]
            exact fun h => he (by rw [hm0]; exact h.2)
          clear he hm0
          go_wp2_with fail
          go_quiet (fail)
          go_wp2_with fail
          go_roundw
          case rel =>
            refine ⟨k + 1, by omega, by go_num, fun j hj => ?_, bel_drewN HB.out _, HR, HT⟩
            by_cases e : j = k
            · subst e; exact HE.out
            · exact HK.out j (by omega)
          case measure => simp [intOf]; omega
      · have hd : decide (m ≤ s.size) = false := decide_eq_false hfit
        have HE : Hid ¬ mt s a (sg k) := by
          show ¬ _
          rw [← HTT.out]
          exact fun h => hfit (by rw [hm0]; exact h.1)
        clear hm0 hfit
        go_wp2_with fail
        go_quiet (fail)
        go_wp2_with fail
        go_roundw
        case rel =>
          refine ⟨k + 1, by omega, by go_num, fun j hj => ?_, bel_drewN HB.out _, HR, HT⟩
          by_cases e : j = k
          · subst e; exact HE.out
          · exact HK.out j (by omega)
        case measure => simp [intOf]; omega
    · have hkn : k = 27 := by omega
      subst hkn
      clear hlt
      have hn := sgn_none ha HK.out
      have HN := Lib.hid hn; clear hn
      go_wp2_with fail
      have T := TB.store4 HT.out (.int .i64 0) (.string ⟨#[]⟩) (.int .i64 0) (.int .i64 0)
      refine bodyPost_ret (tb_results Tryz.results27 T rfl rfl) rfl ?_
      refine ⟨?_, (((HB.out.setCell (Nat.le_refl _) _).setCell (Nat.le_refl _) _).setCell (Nat.le_refl _) _).setCell (Nat.le_refl _) _⟩
      unfold sgnRes
      rw [HN.out]
      rfl


end Go.Proofs.YtlfmiikpbdhemaaGreatDoor.Lex
