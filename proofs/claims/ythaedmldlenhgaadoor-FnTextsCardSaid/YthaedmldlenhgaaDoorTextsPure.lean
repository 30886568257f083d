/-
  Plain facts of the law of texts: what is found stands there; great letters stay so.
-/
import Derived.Test.YthaedmldlenhgaaDoorSubPure
import Derived.Test.YthaedmldlenhgaaDoorUpper
import Derived.Lib.IndexMore
namespace Go.Proofs.YthaedmldlenhgaaDoor.SubPure
open Go Go.RowKit Go.PlainAid
open Go.Proofs.YthaedmldlenhgaaDoor.DecPure Go.Proofs.YthaedmldlenhgaaDoor.ReadPure Go.Proofs.YthaedmldlenhgaaDoor.TextPure Go.Proofs.YthaedmldlenhgaaDoor.CellPure Go.Proofs.YthaedmldlenhgaaDoor.Cell
set_option linter.unusedVariables false

theorem ix_bd (s t : ByteArray) : 0 ≤ ixN s t ∧ ixN s t ≤ (s.size : Int) + 1 := by
  unfold ixN
  split
  · omega
  · rcases Lib.index_spec s.data.toList t.data.toList with ⟨h, _⟩ | ⟨i, h, hi, _⟩
    · rw [h]; omega
    · rw [h]; rw [len_data] at hi; omega
theorem ix_sub {s t : ByteArray} (hs : s.size ≤ 1000000) (h : 0 < ixN s t) : subS s (ixN s t) t.size = t := by
  have hn : nilB t = false := by
    cases hq : nilB t with
    | false => rfl
    | true => unfold ixN at h; rw [if_pos hq] at h; omega
  have e : ixN s t = Lib.index s.data.toList t.data.toList + 1 := by unfold ixN; rw [if_neg (by rw [hn]; simp)]
  rcases Lib.index_spec s.data.toList t.data.toList with ⟨g, _⟩ | ⟨i, g, hi, ho, _⟩
  · rw [e, g] at h; omega
  · have hr := occ_room (s := s) (t := t) hn ho
    have hz : 0 < t.size := by
      rw [nilB_size] at hn
      have : ¬ t.size = 0 := by simpa using hn
      omega
    have e2 : ixN s t = (i : Int) + 1 := by rw [e, g]
    have hlo : loN ((i : Int) + 1) = i := by unfold loN; omega
    have hhi : hiN s.size ((i : Int) + 1) t.size = i + t.size := by
      unfold hiN
      rw [if_neg (by omega), if_neg (by omega)]
      omega
    rw [e2]
    unfold subS
    rw [hlo, hhi, if_pos (by omega)]
    have hoc : occ s t i = true := ho
    have := occ_eq hr
    rw [hoc] at this
    exact sameB_iff.1 this
theorem upc_bd {b : Int} (h : 0 ≤ b ∧ b ≤ 255) : 0 ≤ upc b ∧ upc b ≤ 255 := by unfold upc; split <;> omega
theorem upc_twice (b : Int) : upc (upc b) = upc b := by
  unfold upc
  by_cases h : 97 ≤ b ∧ b ≤ 122
  · rw [if_pos h, if_neg (by omega)]
  · rw [if_neg h, if_neg h]
theorem up_size (u : ByteArray) : (strOfNums (upL u)).size = u.size := by rw [strOfNums_size, upL_len]
theorem up_bt {u : ByteArray} {i : Nat} (h : i < u.size) : bt (strOfNums (upL u)) i = upc (bt u i) := by
  have hl : i < (upL u).length := by rw [upL_len]; exact h
  have e : (upL u)[i] = upc (bt u i) := by simp [upL]
  have b := upc_bd (b := bt u i) ⟨bt_nonneg _ _, bt_le _ _⟩
  rw [bt_num hl (by rw [e]; exact b.1) (by rw [e]; exact b.2), e]
theorem up_twice (u : ByteArray) : strOfNums (upL (strOfNums (upL u))) = strOfNums (upL u) := by
  refine ba_same (by rw [up_size]) fun i hi => ?_
  rw [up_size, up_size] at hi
  rw [up_bt (by rw [up_size]; exact hi), up_bt hi, upc_twice]
end Go.Proofs.YthaedmldlenhgaaDoor.SubPure
