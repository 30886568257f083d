/-
  What is said of formats, for the program and for its model.
-/
import Derived.Test.YthaedmldlenhgaaGreatDoorPures
import Derived.Test.YthaedmldlenhgaaGreatDoorRowB
namespace Go.Proofs.YthaedmldlenhgaaGreatDoor.Strs
open Go.ChangeShapes Go.WideShapes Go.ChangeAt Go.RowKit Go.PlainAid
open Go.Proofs.YthaedmldlenhgaaGreatDoor.Dec Go.Proofs.YthaedmldlenhgaaGreatDoor.Cell
open Go.Proofs.YthaedmldlenhgaaGreatDoor.DecPure Go.Proofs.YthaedmldlenhgaaGreatDoor.ReadPure Go.Proofs.YthaedmldlenhgaaGreatDoor.TextPure Go.Proofs.YthaedmldlenhgaaGreatDoor.CellPure
set_option linter.unusedVariables false

def PlsEnd (p : Nat × Bool) (w : World) (e : Ending) (w' : World) : Prop := e = .returned (.tuple #[.int .i64 p.1, .bool p.2]) ∧ Below w.heap.size w w'
theorem pls_none {f : ByteArray} (hz : ¬ 500 < f.size) (h : its f 0 = none) : placesP f = (0, false) := by unfold placesP; rw [if_neg hz, h]
theorem pls_some {f : ByteArray} {l : List It} (hz : ¬ 500 < f.size) (h : its f 0 = some l) : placesP f = (nCv l, true) := by unfold placesP; rw [if_neg hz, h]
theorem its_step {f : ByteArray} {k q : Nat} {pre : List It} {x : It} (h : its f 0 = (its f k).map (pre ++ ·)) (hs : its f k = (its f q).map (x :: ·)) : its f 0 = (its f q).map ((pre ++ [x]) ++ ·) := by
  rw [h, hs, Option.map_map]
  congr 1
  funext r
  show pre ++ (x :: r) = pre ++ [x] ++ r
  simp
theorem cv_snoc (pre : List It) (x : It) : nCv (pre ++ [x]) = nCv pre + (if x.kind = 0 then 0 else 1) := by rw [nCv_app]; rfl
theorem kinds_none {f : ByteArray} (h : (placesP f).2 = false) : kindsP f = [] := by
  unfold placesP at h
  unfold kindsP
  split
  · rfl
  · rename_i hz
    rw [if_neg hz] at h
    cases e : its f 0 with
    | none => rfl
    | some l => rw [e] at h; cases h
theorem kinds_some {f : ByteArray} {l : List It} (hz : ¬ 500 < f.size) (h : its f 0 = some l) : kindsP f = kindL l := by unfold kindsP; rw [if_neg hz, h]
theorem places_true {f : ByteArray} (h : (placesP f).2 = true) : ∃ l, ¬ 500 < f.size ∧ its f 0 = some l := by
  unfold placesP at h
  split at h
  · cases h
  · rename_i hz
    cases e : its f 0 with
    | none => rw [e] at h; cases h
    | some l => exact ⟨l, hz, rfl⟩
theorem kind_snoc (pre : List It) (x : It) : kindL (pre ++ [x]) = kindL pre ++ (if x.kind = 0 then [] else [x.kind]) := by
  rw [kindL_app]
  congr 1
theorem row_kept {B : Nat} {w w' : World} {v : Value} {L : List Int} (h : RowB B w v L) (hb : ∀ x, v.ownBlock = some x → w'.heap[x]? = w.heap[x]?) : RowB B w' v L := by
  rcases h with ⟨q1, q2 | ⟨x, cap, cur, rfl, q3, q4, q5⟩⟩
  · exact ⟨q1, Or.inl q2⟩
  · exact ⟨q1, Or.inr ⟨x, cap, cur, rfl, q3, by rw [hb x rfl]; exact q4, q5⟩⟩

theorem rowB_push_at {ops : Array Oper} {rest : List Oper} {o : Oper} {a : Act} {Q : Exit → Act → World → Prop} (B : Nat) (w : World) (v : Value) (L : List Int) (x : Int) (n : Nat) (hn : w.heap.size = n)
    (hgd : o.guard = none) (s y : Operand) (ho : o.op = .call { callee := .builtin .append, args := #[s, y], argTypes := #[22, 22] }) (hs : a.eval s = v) (hy : a.eval y = .slice (some ⟨n, 0, none⟩) 1 1)
    (h : RowB B w v L) (hL : L.length ≤ 100000000) (hB : B ≤ w.heap.size)
    (hK : ∀ v1 w1, RowB B w1 v1 (L ++ [x]) → w.grownBy w1 v.ownBlock → wpList Tryz.prog ops Q rest (a.put o.dst v1) w1) :
    wpList Tryz.prog ops Q (o :: rest) a (w.alloc (.cells #[.int .u8 x] 5)) := by
  subst hn
  exact rowB_push B w v L x hgd s y ho hs hy h hL hB hK

end Go.Proofs.YthaedmldlenhgaaGreatDoor.Strs
namespace Go.Proofs.YthaedmldlenhgaaGreatDoor.Cell
open Go.ChangeShapes Go.WideShapes Go.ChangeAt Go.RowKit Go.PlainAid
open Go.Proofs.YthaedmldlenhgaaGreatDoor.Dec
open Go.Proofs.YthaedmldlenhgaaGreatDoor.DecPure Go.Proofs.YthaedmldlenhgaaGreatDoor.ReadPure Go.Proofs.YthaedmldlenhgaaGreatDoor.TextPure Go.Proofs.YthaedmldlenhgaaGreatDoor.CellPure Go.Proofs.YthaedmldlenhgaaGreatDoor.Strs
set_option linter.unusedVariables false

def FmtEnd (p : ByteArray × Int) (w : World) (e : Ending) (w' : World) : Prop := e = .returned (.tuple #[.string p.1, .int .i64 p.2]) ∧ Below w.heap.size w w'
theorem fmt_bad {f : ByteArray} {l : List Ce} (h : (placesP f).2 = false ∨ okL l = false) : fmtP f l = (⟨#[]⟩, 1) := by unfold fmtP; rw [if_pos h]
theorem fmt_short {f : ByteArray} {l : List Ce} (h : (placesP f).2 = true) (h2 : okL l = true) (h3 : l.length < (placesP f).1) : fmtP f l = (⟨#[]⟩, 2) := by
  unfold fmtP; rw [if_neg (by rw [h, h2]; simp), if_pos h3]
theorem fmt_long {f : ByteArray} {l : List Ce} {a : List It} (h : (placesP f).2 = true) (h2 : okL l = true) (h3 : ¬ l.length < (placesP f).1) (ha : its f 0 = some a) (h4 : 500 < (outP a l).size) : fmtP f l = (⟨#[]⟩, 3) := by
  unfold fmtP; rw [if_neg (by rw [h, h2]; simp), if_neg h3, ha, if_pos (by exact h4)]
theorem fmt_good {f : ByteArray} {l : List Ce} {a : List It} (h : (placesP f).2 = true) (h2 : okL l = true) (h3 : ¬ l.length < (placesP f).1) (ha : its f 0 = some a) (h4 : ¬ 500 < (outP a l).size) : fmtP f l = (outP a l, 0) := by
  unfold fmtP; rw [if_neg (by rw [h, h2]; simp), if_neg h3, ha, if_neg (by exact h4)]; rfl
theorem places_ok {f : ByteArray} (h : (placesP f).2 = true) : f.size ≤ 500 ∧ ∃ a, its f 0 = some a ∧ (placesP f).1 = nCv a := by
  unfold placesP at h ⊢
  split at h
  · cases h
  · rename_i hz
    rw [if_neg hz]
    cases hi : its f 0 with
    | none => rw [hi] at h; cases h
    | some a => exact ⟨by omega, a, rfl, rfl⟩
theorem cv_rest (pre : List It) (x : It) (r : List It) (hx : x.kind ≠ 0) : nCv pre < nCv (pre ++ x :: r) := by
  rw [nCv_app, nCv, if_neg hx]; omega
theorem dt_le (n : Int) : (dtB n).size ≤ 100 := by
  unfold dtB; split
  · rename_i h
    have h1 := head_size n h
    have h2 := fracL_size n
    rw [textB_head, ByteArray.size_append]; omega
  · decide
theorem cStr_le (t n : Int) (s : ByteArray) : (cStr t n s).size ≤ 600 := by
  unfold cStr
  split
  · rename_i h
    have := cOk_size h
    have := dt_le n
    unfold cTxt
    split <;> omega
  · exact Nat.zero_le _
theorem ext_one {f : ByteArray} {k : Nat} (h : k < f.size) : (f.extract k (k + 1)).size = 1 := by rw [size_ext f k _ (by omega)]; omega

end Go.Proofs.YthaedmldlenhgaaGreatDoor.Cell
