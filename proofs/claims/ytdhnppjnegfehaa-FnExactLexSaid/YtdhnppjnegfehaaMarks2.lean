/-
  Tokens marked, and their marks read.
-/
import Derived.Test.YtdhnppjnegfehaaMarks
import Derived.BigQuiet
namespace Go.Proofs.Ytdhnppjnegfehaa.Lex
open Go.ChangeShapes Go.WideShapes Go.ChangeAt Go.RowKit Go.PlainAid Go.Maps
open Go.Proofs.Ytdhnppjnegfehaa.Dec
open Go.Proofs.Ytdhnppjnegfehaa.DecPure Go.Proofs.Ytdhnppjnegfehaa.ReadPure Go.Proofs.Ytdhnppjnegfehaa.LexPure
set_option linter.unusedVariables false

theorem nums_join (a b : List Int) : strOfNums a ++ strOfNums b = strOfNums (a ++ b) := by
  apply ByteArray.ext
  show (strOfNums a ++ strOfNums b).data = _
  rw [ByteArray.data_append]
  simp [strOfNums]

set_option maxRecDepth 100000 in
set_option maxHeartbeats 4000000 in
theorem mark_text (k : Nat) (hk : k ≤ 10000000) (w : World) : Calls Try.prog 35 #[.int .i64 k] w fun e w' => e = .returned (.string (mkT k)) ∧ Below w.heap.size w w' := by
  by_cases h0 : k = 0
  · subst h0
    go_enter Try.func35, Try.ntmps35
    go_wp2_with fail
    go_ret
    exact ⟨rfl, Below.refl _ _⟩
  · have hM : mkT k = strOfNums (109 :: md k []) := by unfold mkT; rw [if_neg h0]
    have HM := Lib.hid hM; clear hM
    have hk0 : ¬ (k : Int) ≤ 0 := by omega
    have hkd : decide (k ≤ 0) = false := by simp; omega
    go_enter Try.func35, Try.ntmps35
    go_wp2_with fail
    go_loopw [0, 3] (fun i v wr => ∃ (j : Nat) (acc : List Int) (t : ByteArray), j ≤ k ∧ i = .int .i64 j ∧ v = .string t ∧ Hid (t = strOfNums acc) ∧ t.size + j ≤ k ∧ Hid (md j acc = md k []) ∧ Hid (Below w.heap.size w wr)) (fun i _ _ => (intOf i).toNat)
    case atStart => exact ⟨k, [], ⟨#[]⟩, Nat.le_refl _, rfl, rfl, rfl, by show 0 + k ≤ k; omega, rfl, Below.refl _ _⟩
    case round =>
      obtain ⟨j, acc, t, hj, rfl, rfl, HT, hts, HMD, HB⟩ := hrel
      by_cases hlt : 0 < j
      · obtain ⟨d, hd⟩ : ∃ d : Nat, d = j % 10 := ⟨_, rfl⟩
        obtain ⟨q, hq⟩ : ∃ q : Nat, q = j / 10 := ⟨_, rfl⟩
        have htm : Int.tmod (j : Int) 10 = (d : Int) := by rw [hd]; rfl
        have hdv : Int.tdiv (j : Int) 10 = (q : Int) := by rw [hq]; rfl
        have hd9 : d ≤ 9 := by omega
        have hqj : q + 1 ≤ j := by omega
        have hst := md_step hlt acc
        rw [HMD.out, show (48 + (j : Int) % 10) = 48 + (d : Int) from by rw [hd]; omega, ← hq] at hst
        have HS : Hid (md q ((48 + (d : Int)) :: acc) = md k []) := hst.symm
        have hcv := buf_conv (B := wr.heap.size) (w := wr.alloc (.cells #[.int .u8 (48 + (d : Int))] 5)) (v := .slice (some ⟨wr.heap.size, 0, none⟩) 1 1) (L := [48 + (d : Int)]) (World.ownsRow_lit wr #[.int .u8 (48 + (d : Int))] 1 (Nat.le_refl _) (by decide) rfl)
        obtain ⟨u, hu⟩ : ∃ u, u = strOfNums [48 + (d : Int)] := ⟨_, rfl⟩
        have hus : u.size = 1 := by rw [hu, strOfNums_size]; rfl
        rw [← hu] at hcv
        have HT2 : Hid (u ++ t = strOfNums ((48 + (d : Int)) :: acc)) := by show u ++ t = _; rw [hu, HT.out, nums_join]; rfl
        have hbs := HB.out.size
        clear hst hd hq hu HMD
        have hg : (j : Int) > 0 := by omega
        go_wp2_with fail
        go_roundw
        case rel => exact ⟨q, (48 + (d : Int)) :: acc, u ++ t, by omega, by go_num, rfl, HT2.out, by rw [ByteArray.size_append]; omega, HS.out, HB.out.alloc hbs _⟩
        case measure => simp [intOf]; omega
      · have hj0 : j = 0 := by omega
        subst hj0
        have hfin : mkT k = (⟨#[109]⟩ : ByteArray) ++ t := by
          rw [HM.out, HT.out, ← HMD.out, md_zero, show (⟨#[109]⟩ : ByteArray) = strOfNums [109] from rfl, nums_join]
          rfl
        have HF := Lib.hid hfin; clear hfin hlt
        have hts2 : t.size ≤ 10000000 := by omega
        go_wp2_with fail
        go_ret
        exact ⟨by rw [HF.out]; rfl, HB.out⟩

end Go.Proofs.Ytdhnppjnegfehaa.Lex
