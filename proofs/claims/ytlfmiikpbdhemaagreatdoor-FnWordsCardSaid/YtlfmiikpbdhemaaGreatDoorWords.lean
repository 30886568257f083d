/-
  Letters, names and keywords: what the functions on them return, of the model and of the program.
-/
import Derived.Test.YtlfmiikpbdhemaaGreatDoorRead
import Derived.Test.YtlfmiikpbdhemaaGreatDoorPures
import Derived.Maps.OwnSet
import Derived.Maps.AppendAt
import Derived.WalkSpells
import Derived.Below
import Derived.Handy
namespace Go.Proofs.YtlfmiikpbdhemaaGreatDoor.Lex
open Go.ChangeShapes Go.WideShapes Go.ChangeAt Go.RowKit Go.PlainAid Go.Maps
open Go.Proofs.YtlfmiikpbdhemaaGreatDoor.Dec
open Go.Proofs.YtlfmiikpbdhemaaGreatDoor.DecPure Go.Proofs.YtlfmiikpbdhemaaGreatDoor.ReadPure Go.Proofs.YtlfmiikpbdhemaaGreatDoor.LexPure
set_option linter.unusedVariables false

theorem keyS : Keyed Tryz.prog 9 := string_keyed Tryz.underlying9
theorem zeroU (w : World) : (zeroValue 58).run Tryz.prog w = .ok (.agg #[]) w := by kernel_rfl

/-- A map's literal puts in a part: as a store does. -/
theorem wpList_insert_own {H : Type} {P : Program} (w : World) {ops : Array Oper} {rest : List Oper} {o : Oper} {a : Act} {Q : Exit → Act → World → Prop}
    (hg : o.guard = none) (m x v : Operand) (t : TypeId) (hop : o.op = Op.insert t m x v)
    (k e : TypeId) (K : Keyed P k) (ht : P.underlying t = some (.map k e)) (R : Value → Option (DataW H × List MemPlace)) (b n : Nat) (D : DataW H)
    (hm : a.eval m = .map (some b)) (hown : w.ownsMap P k R b n D) (hn : n < maxLen) (key val : Value) (kl : Lit) (hx : a.eval x = key) (hv : a.eval v = val) (hkey : keyOf P k key = some kl)
    (d : DataW H) (ps : List MemPlace) (hval : R val = some (d, ps))
    (hK : ∀ w', w'.ownsMap P k R b (n + 1) (D.put kl d) → w.grownBy w' (some b) → wpList P ops Q rest (a.put o.dst undef) w') :
    wpList P ops Q (o :: rest) a w := by
  refine wpList_plain hg fun K' hK' => ?_
  obtain ⟨w', hrun, r1, r2⟩ := hown.update K ht hn hkey hval
  unfold Oper.wp
  simp [execOp, hop, hm, hx, hv, hrun, Result.andThen]
  exact hK' _ _ (hK w' r1 r2)

def kl (s : ByteArray) : Lit := .string s.data.toList
def wordsD : DataW Unit := setOf (.agg []) (wordsL.map kl)
theorem kl_inj {s t : ByteArray} : s.data.toList = t.data.toList ↔ s = t := by
  constructor
  · intro h
    exact ByteArray.ext (Array.toList_inj.1 h)
  · rintro rfl; rfl
theorem has_words (s : ByteArray) : Maps.has wordsD (kl s) = isWd s := by
  unfold wordsD
  rw [has_setOf _ _ _ (fun x hx => by obtain ⟨y, _, rfl⟩ := List.mem_map.1 hx; trivial)]
  rw [Bool.eq_iff_iff, isWd_mem, List.any_eq_true]
  constructor
  · rintro ⟨x, hx, he⟩
    obtain ⟨y, hy, rfl⟩ := List.mem_map.1 hx
    have : y = s := kl_inj.1 (by simpa [kl, Lit.sameKey] using he)
    subst this; exact hy
  · intro h
    exact ⟨kl s, List.mem_map.2 ⟨s, h, rfl⟩, by simp [kl, Lit.sameKey]⟩

set_option maxHeartbeats 1000000 in
theorem spec_letter (b : Int) (h0 : 0 ≤ b) (h1 : b ≤ 255) (w : World) : Calls Tryz.prog 23 #[.int .u8 b] w fun e w' => e = .returned (.bool (letB b)) ∧ w = w' := by
  have hc : (b < 65) ∨ (65 ≤ b ∧ b ≤ 90) ∨ (90 < b ∧ b < 95) ∨ (b = 95) ∨ (b = 96) ∨ (97 ≤ b ∧ b ≤ 122) ∨ (122 < b) := by omega
  rcases hc with hc | hc | hc | rfl | rfl | hc | hc
  · have e : letB b = false := by simp [letB]; omega
    have E := Lib.hid e; clear e
    have f0 : decide (65 ≤ b) = false := by simp; omega
    have f1 : decide (97 ≤ b) = false := by simp; omega
    have f2 : (b == 95) = false := by simp; omega
    go_enter Tryz.func23, Tryz.ntmps23
    go_wp2_with fail
    go_ret
    exact ⟨retB E.out.symm, rfl⟩
  · have e : letB b = true := by simp [letB]; omega
    have E := Lib.hid e; clear e
    have f0 : decide (65 ≤ b) = true := by simp; omega
    have f1 : decide (b ≤ 90) = true := by simp; omega
    go_enter Tryz.func23, Tryz.ntmps23
    go_wp2_with fail
    go_ret
    exact ⟨retB E.out.symm, rfl⟩
  · have e : letB b = false := by simp [letB]; omega
    have E := Lib.hid e; clear e
    have f0 : decide (65 ≤ b) = true := by simp; omega
    have f1 : decide (b ≤ 90) = false := by simp; omega
    have f2 : decide (97 ≤ b) = false := by simp; omega
    have f3 : (b == 95) = false := by simp; omega
    go_enter Tryz.func23, Tryz.ntmps23
    go_wp2_with fail
    go_ret
    exact ⟨retB E.out.symm, rfl⟩
  · go_enter Tryz.func23, Tryz.ntmps23
    go_wp2_with fail
    go_ret
    exact ⟨rfl, rfl⟩
  · go_enter Tryz.func23, Tryz.ntmps23
    go_wp2_with fail
    go_ret
    exact ⟨rfl, rfl⟩
  · have e : letB b = true := by simp [letB]; omega
    have E := Lib.hid e; clear e
    have f0 : decide (65 ≤ b) = true := by simp; omega
    have f1 : decide (b ≤ 90) = false := by simp; omega
    have f2 : decide (97 ≤ b) = true := by simp; omega
    have f3 : decide (b ≤ 122) = true := by simp; omega
    go_enter Tryz.func23, Tryz.ntmps23
    go_wp2_with fail
    go_ret
    exact ⟨retB E.out.symm, rfl⟩
  · have e : letB b = false := by simp [letB]; omega
    have E := Lib.hid e; clear e
    have f0 : decide (65 ≤ b) = true := by simp; omega
    have f1 : decide (b ≤ 90) = false := by simp; omega
    have f2 : decide (97 ≤ b) = true := by simp; omega
    have f3 : decide (b ≤ 122) = false := by simp; omega
    have f4 : (b == 95) = false := by simp; omega
    go_enter Tryz.func23, Tryz.ntmps23
    go_wp2_with fail
    go_ret
    exact ⟨retB E.out.symm, rfl⟩

set_option maxHeartbeats 1000000 in
theorem impl_letter (b : Int) (h0 : 0 ≤ b) (h1 : b ≤ 255) (w : World) : Calls Tryz.prog 40 #[.int .u8 b] w fun e w' => e = .returned (.bool (letB b)) ∧ w = w' := by
  have hc : (b < 65) ∨ (65 ≤ b ∧ b ≤ 90) ∨ (90 < b ∧ b < 95) ∨ (b = 95) ∨ (b = 96) ∨ (97 ≤ b ∧ b ≤ 122) ∨ (122 < b) := by omega
  rcases hc with hc | hc | hc | rfl | rfl | hc | hc
  · have e : letB b = false := by simp [letB]; omega
    have E := Lib.hid e; clear e
    have f0 : decide (65 ≤ b) = false := by simp; omega
    have f1 : decide (97 ≤ b) = false := by simp; omega
    have f2 : (b == 95) = false := by simp; omega
    go_enter Tryz.func40, Tryz.ntmps40
    go_wp2_with fail
    go_ret
    exact ⟨retB E.out.symm, rfl⟩
  · have e : letB b = true := by simp [letB]; omega
    have E := Lib.hid e; clear e
    have f0 : decide (65 ≤ b) = true := by simp; omega
    have f1 : decide (b ≤ 90) = true := by simp; omega
    go_enter Tryz.func40, Tryz.ntmps40
    go_wp2_with fail
    go_ret
    exact ⟨retB E.out.symm, rfl⟩
  · have e : letB b = false := by simp [letB]; omega
    have E := Lib.hid e; clear e
    have f0 : decide (65 ≤ b) = true := by simp; omega
    have f1 : decide (b ≤ 90) = false := by simp; omega
    have f2 : decide (97 ≤ b) = false := by simp; omega
    have f3 : (b == 95) = false := by simp; omega
    go_enter Tryz.func40, Tryz.ntmps40
    go_wp2_with fail
    go_ret
    exact ⟨retB E.out.symm, rfl⟩
  · go_enter Tryz.func40, Tryz.ntmps40
    go_wp2_with fail
    go_ret
    exact ⟨rfl, rfl⟩
  · go_enter Tryz.func40, Tryz.ntmps40
    go_wp2_with fail
    go_ret
    exact ⟨rfl, rfl⟩
  · have e : letB b = true := by simp [letB]; omega
    have E := Lib.hid e; clear e
    have f0 : decide (65 ≤ b) = true := by simp; omega
    have f1 : decide (b ≤ 90) = false := by simp; omega
    have f2 : decide (97 ≤ b) = true := by simp; omega
    have f3 : decide (b ≤ 122) = true := by simp; omega
    go_enter Tryz.func40, Tryz.ntmps40
    go_wp2_with fail
    go_ret
    exact ⟨retB E.out.symm, rfl⟩
  · have e : letB b = false := by simp [letB]; omega
    have E := Lib.hid e; clear e
    have f0 : decide (65 ≤ b) = true := by simp; omega
    have f1 : decide (b ≤ 90) = false := by simp; omega
    have f2 : decide (97 ≤ b) = true := by simp; omega
    have f3 : decide (b ≤ 122) = false := by simp; omega
    have f4 : (b == 95) = false := by simp; omega
    go_enter Tryz.func40, Tryz.ntmps40
    go_wp2_with fail
    go_ret
    exact ⟨retB E.out.symm, rfl⟩

set_option maxHeartbeats 1000000 in
theorem spec_inner (b : Int) (h0 : 0 ≤ b) (h1 : b ≤ 255) (w : World) : Calls Tryz.prog 47 #[.int .u8 b] w fun e w' => e = .returned (.bool (innB b)) ∧ w = w' := by
  cases hl : letB b with
  | true =>
    have e : innB b = true := by simp [innB, hl]
    have E := Lib.hid e; clear e
    go_enter Tryz.func47, Tryz.ntmps47
    go_wp2_with fail
    refine (spec_letter b h0 h1 _).mono ?_; rw [hl]; rintro e w' ⟨rfl, rfl⟩
    go_wp2_with fail
    go_ret
    exact ⟨retB E.out.symm, rfl⟩
  | false =>
    have e : innB b = dgB b := by simp [innB, hl]
    have E := Lib.hid e; clear e
    go_enter Tryz.func47, Tryz.ntmps47
    go_wp2_with fail
    refine (spec_letter b h0 h1 _).mono ?_; rw [hl]; rintro e w' ⟨rfl, rfl⟩
    go_wp2_with fail
    refine (spec_digit b h0 h1 _).mono ?_; rintro e w' ⟨rfl, rfl⟩
    go_wp2_with fail
    go_ret
    exact ⟨retB E.out.symm, rfl⟩

/-- The set of keywords as it is filled. -/
def KW (w0 w : World) (n : Nat) (D : DataW Unit) : Prop := w.ownsMap Tryz.prog 9 (unitElem (H := Unit)) w0.heap.size n D ∧ Below w0.heap.size w0 w
theorem kw_insert (w0 w : World) {ops : Array Oper} {rest : List Oper} {o : Oper} {a : Act} {Q : Exit → Act → World → Prop} (n : Nat) (D : DataW Unit) (s : ByteArray)
    (hg : o.guard = none) (m x v : Operand) (hop : o.op = Op.insert 41 m x v) (hm : a.eval m = .map (some w0.heap.size)) (hx : a.eval x = .string s) (hv : a.eval v = .agg #[])
    (h : KW w0 w n D) (hn : n < 100) (hs : s.size ≤ maxLen) (hK : ∀ w', KW w0 w' (n + 1) (D.put (kl s) (.agg [])) → wpList Tryz.prog ops Q rest (a.put o.dst undef) w') :
    wpList Tryz.prog ops Q (o :: rest) a w :=
  wpList_insert_own w hg m x v 41 hop 9 58 keyS Tryz.underlying41 unitElem w0.heap.size n D hm h.1 (by unfold maxLen; omega) _ _ (kl s) hx hv (WideMaps.keyOf_string_mk Tryz.underlying9 hs) (.agg []) [] unitElem_mk
    fun w' h1 h2 => hK w' ⟨h1, h.2.grown h2 h.2.size (fun j hj => by cases hj; exact Nat.le_refl _)⟩

set_option maxHeartbeats 4000000 in
set_option maxRecDepth 100000 in
theorem impl_keywords (w : World) : Calls Tryz.prog 16 #[] w fun e w' => e = .returned (.map (some w.heap.size)) ∧ w'.ownsMap Tryz.prog 9 (unitElem (H := Unit)) w.heap.size 22 wordsD ∧ Below w.heap.size w w' := by
  have hmm := @run_makeMap Tryz.prog
  have hk0 : KW w (w.alloc (.map #[] 0)) 0 (.map []) := ⟨World.ownsMap_made _ _ _ _, (Below.refl _ _).alloc (Nat.le_refl _) _⟩
  go_enter Tryz.func16, Tryz.ntmps16
  go_wp2_with (refine kw_insert w _ _ _ _ rfl _ _ _ rfl rfl rfl rfl (by assumption) (by omega) (by decide) ?_; intro w1 hk1)
  go_ret
  rename KW w _ _ _ => hk
  have hk2 : KW w _ 22 wordsD := hk
  exact ⟨rfl, hk2.1, hk2.2⟩

set_option maxHeartbeats 1000000 in
theorem impl_IsWord (s : ByteArray) (hs : s.size ≤ maxLen) (w : World) : Calls Tryz.prog 28 #[.string s] w fun e w' => e = .returned (.bool (isWd s)) ∧ Below w.heap.size w w' := by
  have hkey := WideMaps.keyOf_string_mk Tryz.underlying9 hs
  go_enter Tryz.func28, Tryz.ntmps28
  go_wp2_with fail
  refine (impl_keywords w).mono ?_
  rintro e w1 ⟨rfl, hown, hB⟩
  go_wp2_with (first | (at_lookup; refine wpList_lookup_own_unit _ rfl _ _ 41 rfl 9 58 keyS Tryz.underlying41 (zeroU _) w.heap.size 22 _ rfl hown _ _ rfl hkey ?_))
  go_ret
  exact ⟨retB (has_words s), hB.alloc hB.size _⟩

def wd (k : Nat) : ByteArray := wordsL.getD k ⟨#[]⟩
theorem wd_in {k : Nat} (h : k < 22) : wd k ∈ wordsL := by
  unfold wd
  have hl : k < wordsL.length := h
  rw [List.getD_eq_getElem?_getD, List.getElem?_eq_getElem hl]
  exact List.getElem_mem _
theorem wd_no {s : ByteArray} (h : ∀ j, j < 22 → wd j ≠ s) : isWd s = false := by
  cases hq : isWd s with
  | false => rfl
  | true =>
    obtain ⟨j, hj, he⟩ := List.mem_iff_getElem.1 (isWd_mem.1 hq)
    exfalso
    refine h j hj ?_
    unfold wd
    rw [List.getD_eq_getElem?_getD, List.getElem?_eq_getElem hj]
    exact he

/-- A row of strings that is known whole. -/
def StrRow (w : World) (g : Nat) (l : List ByteArray) : Prop := w.heap[g]? = some (.cells (l.map Value.string).toArray 9 (0, 0))
theorem StrRow.cell {w : World} {g : Nat} {l : List ByteArray} (h : StrRow w g l) {k : Nat} (hk : k < l.length) : w.cell? ⟨g, k, none⟩ = some (.string (l.getD k ⟨#[]⟩)) := by
  rw [cell_of_row w g k _ 9 (0, 0) h]
  simp [List.getD, List.getElem?_eq_getElem hk]

set_option maxRecDepth 100000 in
theorem spec_words (w : World) : Calls Tryz.prog 34 #[] w fun e w' => e = .returned (.slice (some ⟨w.heap.size, 0, none⟩) 22 22) ∧ StrRow w' w.heap.size wordsL ∧ Below w.heap.size w w' := by
  go_enter Tryz.func34, Tryz.ntmps34
  go_wp2_with fail
  go_ret
  exact ⟨rfl, heap_alloc_new w _, (Below.refl _ _).alloc (Nat.le_refl _) _⟩

set_option maxHeartbeats 1000000 in
theorem spec_IsWord (s : ByteArray) (w : World) : Calls Tryz.prog 48 #[.string s] w fun e w' => e = .returned (.bool (isWd s)) ∧ Below w.heap.size w w' := by
  go_enter Tryz.func48, Tryz.ntmps48
  go_wp2_with fail
  refine (spec_words w).mono ?_
  rintro e w1 ⟨rfl, hrow, hB⟩
  obtain ⟨b, hb⟩ : ∃ b, b = w.heap.size := ⟨_, rfl⟩
  rw [← hb] at hrow
  rw [← hb] at *
  have HR := Lib.hid hrow; clear hrow
  have HB := Lib.hid hB; clear hB
  go_wp2_with fail
  go_loop [4] (fun i => ∃ k : Nat, k ≤ 22 ∧ i = .int .i64 k ∧ Hid (∀ j, j < k → wd j ≠ s)) (fun i => 22 - (intOf i).toNat)
  case atStart => exact ⟨0, Nat.zero_le _, rfl, fun j hj => by omega⟩
  case round =>
    obtain ⟨k, hk, rfl, HK⟩ := hrel
    by_cases hlt : k < 22
    · have hc : w1.cell? ⟨b, k, none⟩ = some (.string (wd k)) := HR.out.cell hlt
      by_cases he : wd k = s
      · have hi : isWd s = true := isWd_mem.2 (he ▸ wd_in hlt)
        have HI := Lib.hid hi; clear hi
        have hq := same_yes he
        clear he
        go_wp2_with fail
        go_ret
        exact ⟨retB HI.out.symm, HB.out⟩
      · have hq := same_no he
        have HE := Lib.hid he; clear he
        go_wp2_with fail
        go_round
        case rel =>
          refine ⟨k + 1, by omega, by go_num, fun j hj => ?_⟩
          by_cases e : j = k
          · subst e; exact HE.out
          · exact HK.out j (by omega)
        case measure => simp [intOf]; omega
    · have hkn : k = 22 := by omega
      subst hkn
      clear hlt
      have hi := wd_no HK.out
      have HI := Lib.hid hi; clear hi
      go_wp2_with fail
      go_ret
      exact ⟨retB HI.out.symm, HB.out⟩

end Go.Proofs.YtlfmiikpbdhemaaGreatDoor.Lex
