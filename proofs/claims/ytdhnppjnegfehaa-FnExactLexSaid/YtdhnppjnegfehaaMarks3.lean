/-
  A row of tokens marked.
-/
import Derived.Test.YtdhnppjnegfehaaMarks2
namespace Go.Proofs.Ytdhnppjnegfehaa.Lex
open Go.ChangeShapes Go.WideShapes Go.ChangeAt Go.RowKit Go.PlainAid Go.Maps
open Go.Proofs.Ytdhnppjnegfehaa.Dec
open Go.Proofs.Ytdhnppjnegfehaa.DecPure Go.Proofs.Ytdhnppjnegfehaa.ReadPure Go.Proofs.Ytdhnppjnegfehaa.LexPure
set_option linter.unusedVariables false

def mkt (k i : Nat) : Tk := ⟨((k + 4 * i : Nat) : Int), mkT (k + 4 * i + 1), ((k + 4 * i + 2 : Nat) : Int), k + 4 * i + 3⟩
def mks (k n : Nat) : List Tk := (List.range n).map (mkt k)
theorem mks_len (k n : Nat) : (mks k n).length = n := by simp [mks]
theorem tokCells_set : ∀ (l : List Tk) (j : Nat) (t : Tk), tokCells (l.set j t) = ((((tokCells l).set (j * 4) (.int .i64 t.kind)).set (j * 4 + 1) (.string t.s)).set (j * 4 + 2) (.int .i64 t.n)).set (j * 4 + 3) (.int .i64 t.pos)
  | [], j, t => by simp [tokCells]
  | u :: l, 0, t => by simp [tokCells, tc4]
  | u :: l, j + 1, t => by
    have ih := tokCells_set l j t
    unfold tokCells at ih ⊢
    rw [List.set_cons_succ, List.flatMap_cons, ih, List.flatMap_cons]
    have e : ∀ f, (j + 1) * 4 + f = 4 + (j * 4 + f) := fun f => by omega
    have e0 : (j + 1) * 4 = 4 + j * 4 := by omega
    have hs : ∀ (xs : List Value) (i : Nat) (v : Value), (tc4 u ++ xs).set (4 + i) v = tc4 u ++ xs.set i v := fun xs i v => by
      rw [List.set_append_right _ _ (show (tc4 u).length ≤ 4 + i from by show 4 ≤ 4 + i; omega)]
      congr 2
      show 4 + i - 4 = i
      omega
    rw [e, e, e, e0, hs, hs, hs, hs]
theorem mks_step {k j : Nat} {l : List Tk} (h : j < l.length) : (mks k j ++ l.drop j).set j (mkt k j) = mks k (j + 1) ++ l.drop (j + 1) := by
  rw [List.set_append_right _ _ (by rw [mks_len]; exact Nat.le_refl _), mks_len, Nat.sub_self, List.drop_eq_getElem_cons h, List.set_cons_zero]
  simp [mks, List.range_succ]
theorem own_below {B C n : Nat} {w w' : World} {v : Value} {xs : List Value} (h : w.ownsRow B 40 4 v n xs) (hb : Below C w w') (hC : w.heap.size ≤ C) : w'.ownsRow B 40 4 v n xs := by
  have hl := h.lt
  rcases h with ⟨q1, q2 | ⟨x, cap, cur, rfl, q3, q4, q5⟩⟩
  · exact ⟨q1, Or.inl q2⟩
  · have hx : x < w.heap.size := (hl x rfl).2
    exact ⟨q1, Or.inr ⟨x, cap, cur, rfl, q3, by rw [hb.block x (by omega)]; exact q4, q5⟩⟩

theorem tr_mark {B n j : Nat} {w : World} {v a b c d : Value} {L L' : List Tk} {t : Tk} (H : w.ownsRow B 40 4 v n (((((tokCells L).set (j * 4) a).set (j * 4 + 1) b).set (j * 4 + 2) c).set (j * 4 + 3) d))
    (ha : a = .int .i64 t.kind) (hb : b = .string t.s) (hc : c = .int .i64 t.n) (hd : d = .int .i64 t.pos) (hL : L.set j t = L') (hn : L'.length = n) : TR B w v L' := by
  subst ha hb hc hd hL hn
  unfold TR
  rw [tokCells_set]
  exact H
theorem grown_of {B : Nat} {w w' : World} {r : Option Nat} (h : Below w.heap.size w w') : w.grownBy w' r := ⟨h.os, h.tape, h.output, h.size, fun i hi _ => h.block i hi⟩

set_option maxRecDepth 100000 in
set_option maxHeartbeats 4000000 in
theorem mark_toks (B : Nat) (w : World) (v : Value) (l : List Tk) (k : Nat) (h : TR B w v l) (hl : l.length ≤ 4000) (hk : k ≤ 100000) : Calls Try.prog 14 #[v, .int .i64 k] w fun e w' => e = .returned (.int .i64 ((k + 4 * l.length : Nat) : Int)) ∧ TR B w' v (mks k l.length) ∧ w.grownBy w' v.ownBlock := by
  obtain ⟨ao, cap, rfl⟩ := h.form
  have HH := Lib.hid h; clear h
  go_enter Try.func14, Try.ntmps14
  go_wp2_with fail
  go_loopw [1, 5] (fun c i wr => ∃ j : Nat, j ≤ l.length ∧ i = .int .i64 j ∧ c = .int .i64 ((k + 4 * j : Nat) : Int) ∧ Hid (TR B wr (.slice ao l.length cap) (mks k j ++ l.drop j)) ∧ Hid (w.grownBy wr (Value.slice ao l.length cap).ownBlock)) (fun _ i _ => l.length - (intOf i).toNat)
  case atStart => exact ⟨0, Nat.zero_le _, rfl, rfl, by show TR _ _ _ _; simpa [mks] using HH.out, ⟨rfl, rfl, rfl, Nat.le_refl _, fun _ _ _ => rfl⟩⟩
  case round =>
    obtain ⟨j, hj, rfl, rfl, HT, HG⟩ := hrel
    by_cases hlt : j < l.length
    · have hlen : (mks k j ++ l.drop j).length = l.length := by rw [List.length_append, mks_len, List.length_drop]; omega
      have hrow : wr.ownsRow B 40 4 (.slice ao l.length cap) l.length (tokCells (mks k j ++ l.drop j)) := by have := HT.out; unfold TR at this; rwa [hlen] at this
      obtain ⟨g, c, e1, _, _, _, _, _⟩ := HT.out.at (i := j) (by rw [hlen]; exact hlt)
      rw [hlen] at e1
      simp only [Value.slice.injEq, true_and] at e1
      obtain ⟨rfl, rfl⟩ := e1
      have hcl : (tokCells (mks k j ++ l.drop j)).length = l.length * 4 := by rw [tokCells_len, hlen]
      have hcell : ∀ i, i < l.length * 4 → ∃ u, wr.cell? ⟨g, i, none⟩ = some u := fun i hi => ⟨_, by rw [hrow.cellAt i hi, List.getElem?_eq_getElem (by omega)]⟩
      obtain ⟨u0, c0⟩ := hcell (j * 4) (by omega)
      have z0 := hrow.frozenAt (j * 4)
      have hji : (j : Int) < (l.length : Int) := by omega
      have hkj : k + 4 * j ≤ 200000 := by omega
      have hs1 := hrow.stored (j * 4) (.int .i64 ((k + 4 * j : Nat) : Int))
      have HS1 := Lib.hid hs1
      have HR := Lib.hid hrow
      clear hrow hs1 hcell
      obtain ⟨m, hm⟩ : ∃ m, m = k + 4 * j := ⟨_, rfl⟩
      rw [← hm] at hkj HS1 ⊢
      have HM := Lib.hid hm; clear hm
      have hmt := mark_text (m + 1) (by omega) (wr.setCell ⟨g, j * 4, none⟩ (.int .i64 (m : Int)))
      rw [show ((m + 1 : Nat) : Int) = (m : Int) + 1 from by omega] at hmt
      have HMT := Lib.hid hmt; clear hmt
      go_wp2_with fail
      refine HMT.out.mono ?_
      rintro e w2 ⟨rfl, hB2⟩
      have R2 := own_below HS1.out.1 hB2 (Nat.le_refl _)
      have hcell : ∀ i, i < l.length * 4 → ∃ u, w2.cell? ⟨g, i, none⟩ = some u := fun i hi => ⟨_, by rw [R2.cellAt i hi, List.getElem?_eq_getElem (by rw [List.length_set]; omega)]⟩
      obtain ⟨u1, d1⟩ := hcell (j * 4 + 1) (by omega)
      obtain ⟨u2, d2⟩ := hcell (j * 4 + 2) (by omega)
      obtain ⟨u3, d3⟩ := hcell (j * 4 + 3) (by omega)
      have y1 := R2.frozenAt (j * 4 + 1)
      have y2 := R2.frozenAt (j * 4 + 2)
      have y3 := R2.frozenAt (j * 4 + 3)
      have hG2 : w.grownBy w2 (some g) := (HG.out.trans HS1.out.2).trans (grown_of (B := 0) hB2)
      have HG2 := Lib.hid hG2
      have HR2 := Lib.hid R2
      clear hG2 R2 hcell hB2 c0 z0 HG
      go_wp2_with fail
      go_roundw
      case rel =>
        refine ⟨j + 1, by omega, by go_num, ?_, ?_, ?_⟩
        · have := HM.out
          congr 1
          omega
        · exact tr_mark (t := mkt k j) (((HR2.out.stored (j * 4 + 1) _).1.stored (j * 4 + 2) _).1.stored (j * 4 + 3) _).1 (by simp [mkt]; have := HM.out; omega) (by simp [mkt]; rw [HM.out]) (by simp [mkt]; have := HM.out; omega) (by simp [mkt]; have := HM.out; omega) (mks_step hlt) (by rw [List.length_append, mks_len, List.length_drop]; omega)
        · exact ((HG2.out.trans (HR2.out.stored (j * 4 + 1) _).2).trans ((HR2.out.stored (j * 4 + 1) _).1.stored (j * 4 + 2) _).2).trans (((HR2.out.stored (j * 4 + 1) _).1.stored (j * 4 + 2) _).1.stored (j * 4 + 3) _).2
      case measure => simp [intOf]; omega
    · have e : j = l.length := by omega
      subst e
      clear hlt
      go_wp2_with fail
      go_ret
      refine ⟨rfl, ?_, HG.out⟩
      have := HT.out
      rwa [List.drop_length, List.append_nil] at this

end Go.Proofs.Ytdhnppjnegfehaa.Lex
