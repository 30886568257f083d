/-
  When a node is valid: the program's function.
-/
import Derived.Test.YtdgbbgkdoekfkaaReOk
namespace Go.Proofs.Ytdgbbgkdoekfkaa.Re
open Go.ChangeShapes Go.WideShapes Go.ChangeAt Go.RowKit Go.PlainAid
open Go.Proofs.Ytdgbbgkdoekfkaa.RePure
set_option linter.unusedVariables false

set_option maxRecDepth 100000 in
set_option maxHeartbeats 4000000 in
theorem impl_nodeOk (n : Nd) (v : Value) (hs : n.set.size ≤ maxLen) (B : Nat) (w : World) (hv : IntsAt B w v n.kids) : Calls Try.prog 42 #[nval n v] w fun e w' => Says e (NodeOk n) ∧ Below w.heap.size w w' := by
  obtain ⟨kind, neg, s, kids⟩ := n
  obtain ⟨ao, cap, rfl, hc1, hc2, hc3⟩ := hv
  clear hc3
  unfold nval
  have hs' := hs
  simp only [] at hs hc1 ⊢
  unfold maxLen at hs hc2
  have hl : kids.length ≤ 9223372036854775807 := by omega
  have hB0 : ∀ o, Below w.heap.size w (w.alloc o) := fun o => (Below.refl _ _).alloc (Nat.le_refl _) o
  rcases kind_cases kind with rfl | rfl | rfl | rfl | rfl | rfl | rfl | rfl | ⟨k0, k1, k2, k3, k4, k5, k6, k7⟩
  · by_cases hk0 : kids.length = 0
    · obtain rfl := List.eq_nil_of_length_eq_zero hk0
      cases hE : s.toList.isEmpty
      all_goals
        go_enter Try.func42, Try.ntmps42
        go_wp2_with fail
        refine (impl_setOk s hs' _).mono ?_
        rintro e w' ⟨⟨r, rfl, hr⟩, hB1⟩
        have c1 := (hB1.cell (p := ⟨w.heap.size, 1, none⟩) (by simp)).trans (show _ = some (Value.bool neg) by go_simp)
        have c2 := (hB1.cell (p := ⟨w.heap.size, 2, none⟩) (by simp)).trans (show _ = some (Value.string s) by go_simp)
        have hB2 := (hB0 _).trans (hB1.mono (by simp))
        have HR := Lib.hid hr
        clear hB1 hr
        cases r <;> cases neg
        all_goals
          go_wp2_with fail
          go_ret
          refine ⟨⟨_, rfl, ?_⟩, hB2⟩
          rw [node0', pos_isE s, ← HR.out]
          simp [hE]
    · have hkf : ((kids.length : Int) == 0) = false := by rw [beq_eq_false_iff_ne]; omega
      go_enter Try.func42, Try.ntmps42
      go_wp2_with fail
      go_ret
      refine ⟨says_no ?_, hB0 _⟩
      rw [node0']
      exact fun h => hk0 h.1
  · rcases Nat.eq_zero_or_pos s.size with hz | hz
    · have he := (isE s).2 hz
      have HZ := Lib.hid hz; clear hz
      cases neg
      all_goals
        go_enter Try.func42, Try.ntmps42
        go_wp2_with fail
        all_goals
          go_ret
          refine ⟨⟨_, rfl, ?_⟩, hB0 _⟩
          rw [node_other (by decide)]
          have hz := HZ.out
          clear he hs hs' HZ
          first | (simp_all; done) | (simp_all; omega)
    · have he := isE_no hz
      have HZ := Lib.hid hz; clear hz
      cases neg
      all_goals
        go_enter Try.func42, Try.ntmps42
        go_wp2_with fail
        all_goals
          go_ret
          refine ⟨⟨_, rfl, ?_⟩, hB0 _⟩
          rw [node_other (by decide)]
          have hz : ¬ s.size = 0 := by have := HZ.out; omega
          clear he hs hs' HZ
          simp only [hz, false_and, and_false]
          first | (simp; done) | (simp_all; done) | (simp_all; omega)
  · rcases Nat.eq_zero_or_pos s.size with hz | hz
    · have he := (isE s).2 hz
      have HZ := Lib.hid hz; clear hz
      cases neg
      all_goals
        go_enter Try.func42, Try.ntmps42
        go_wp2_with fail
        all_goals
          go_ret
          refine ⟨⟨_, rfl, ?_⟩, hB0 _⟩
          rw [node_other (by decide)]
          have hz := HZ.out
          clear he hs hs' HZ
          first | (simp_all; done) | (simp_all; omega)
    · have he := isE_no hz
      have HZ := Lib.hid hz; clear hz
      cases neg
      all_goals
        go_enter Try.func42, Try.ntmps42
        go_wp2_with fail
        all_goals
          go_ret
          refine ⟨⟨_, rfl, ?_⟩, hB0 _⟩
          rw [node_other (by decide)]
          have hz : ¬ s.size = 0 := by have := HZ.out; omega
          clear he hs hs' HZ
          simp only [hz, false_and, and_false]
          first | (simp; done) | (simp_all; done) | (simp_all; omega)
  · rcases Nat.eq_zero_or_pos s.size with hz | hz
    · have he := (isE s).2 hz
      have HZ := Lib.hid hz; clear hz
      cases neg
      all_goals
        go_enter Try.func42, Try.ntmps42
        go_wp2_with fail
        all_goals
          go_ret
          refine ⟨⟨_, rfl, ?_⟩, hB0 _⟩
          rw [node_other (by decide)]
          have hz := HZ.out
          clear he hs hs' HZ
          first | (simp_all; done) | (simp_all; omega)
    · have he := isE_no hz
      have HZ := Lib.hid hz; clear hz
      cases neg
      all_goals
        go_enter Try.func42, Try.ntmps42
        go_wp2_with fail
        all_goals
          go_ret
          refine ⟨⟨_, rfl, ?_⟩, hB0 _⟩
          rw [node_other (by decide)]
          have hz : ¬ s.size = 0 := by have := HZ.out; omega
          clear he hs hs' HZ
          simp only [hz, false_and, and_false]
          first | (simp; done) | (simp_all; done) | (simp_all; omega)
  · rcases Nat.eq_zero_or_pos s.size with hz | hz
    · have he := (isE s).2 hz
      have HZ := Lib.hid hz; clear hz
      cases neg
      all_goals
        go_enter Try.func42, Try.ntmps42
        go_wp2_with fail
        all_goals
          go_ret
          refine ⟨⟨_, rfl, ?_⟩, hB0 _⟩
          rw [node_other (by decide)]
          have hz := HZ.out
          clear he hs hs' HZ
          first | (simp_all; done) | (simp_all; omega)
    · have he := isE_no hz
      have HZ := Lib.hid hz; clear hz
      cases neg
      all_goals
        go_enter Try.func42, Try.ntmps42
        go_wp2_with fail
        all_goals
          go_ret
          refine ⟨⟨_, rfl, ?_⟩, hB0 _⟩
          rw [node_other (by decide)]
          have hz : ¬ s.size = 0 := by have := HZ.out; omega
          clear he hs hs' HZ
          simp only [hz, false_and, and_false]
          first | (simp; done) | (simp_all; done) | (simp_all; omega)
  · rcases Nat.eq_zero_or_pos s.size with hz | hz
    · have he := (isE s).2 hz
      have HZ := Lib.hid hz; clear hz
      cases neg
      all_goals
        go_enter Try.func42, Try.ntmps42
        go_wp2_with fail
        all_goals
          go_ret
          refine ⟨⟨_, rfl, ?_⟩, hB0 _⟩
          rw [node_other (by decide)]
          have hz := HZ.out
          clear he hs hs' HZ
          first | (simp_all; done) | (simp_all; omega)
    · have he := isE_no hz
      have HZ := Lib.hid hz; clear hz
      cases neg
      all_goals
        go_enter Try.func42, Try.ntmps42
        go_wp2_with fail
        all_goals
          go_ret
          refine ⟨⟨_, rfl, ?_⟩, hB0 _⟩
          rw [node_other (by decide)]
          have hz : ¬ s.size = 0 := by have := HZ.out; omega
          clear he hs hs' HZ
          simp only [hz, false_and, and_false]
          first | (simp; done) | (simp_all; done) | (simp_all; omega)
  · rcases Nat.eq_zero_or_pos s.size with hz | hz
    · have he := (isE s).2 hz
      have HZ := Lib.hid hz; clear hz
      cases neg
      all_goals
        go_enter Try.func42, Try.ntmps42
        go_wp2_with fail
        all_goals
          go_ret
          refine ⟨⟨_, rfl, ?_⟩, hB0 _⟩
          rw [node_other (by decide)]
          have hz := HZ.out
          clear he hs hs' HZ
          first | (simp_all; done) | (simp_all; omega)
    · have he := isE_no hz
      have HZ := Lib.hid hz; clear hz
      cases neg
      all_goals
        go_enter Try.func42, Try.ntmps42
        go_wp2_with fail
        all_goals
          go_ret
          refine ⟨⟨_, rfl, ?_⟩, hB0 _⟩
          rw [node_other (by decide)]
          have hz : ¬ s.size = 0 := by have := HZ.out; omega
          clear he hs hs' HZ
          simp only [hz, false_and, and_false]
          first | (simp; done) | (simp_all; done) | (simp_all; omega)
  · rcases Nat.eq_zero_or_pos s.size with hz | hz
    · have he := (isE s).2 hz
      have HZ := Lib.hid hz; clear hz
      cases neg
      all_goals
        go_enter Try.func42, Try.ntmps42
        go_wp2_with fail
        all_goals
          go_ret
          refine ⟨⟨_, rfl, ?_⟩, hB0 _⟩
          rw [node_other (by decide)]
          have hz := HZ.out
          clear he hs hs' HZ
          first | (simp_all; done) | (simp_all; omega)
    · have he := isE_no hz
      have HZ := Lib.hid hz; clear hz
      cases neg
      all_goals
        go_enter Try.func42, Try.ntmps42
        go_wp2_with fail
        all_goals
          go_ret
          refine ⟨⟨_, rfl, ?_⟩, hB0 _⟩
          rw [node_other (by decide)]
          have hz : ¬ s.size = 0 := by have := HZ.out; omega
          clear he hs hs' HZ
          simp only [hz, false_and, and_false]
          first | (simp; done) | (simp_all; done) | (simp_all; omega)
  · have hk : kind ≠ 0 := by simpa using k0
    go_enter Try.func42, Try.ntmps42
    go_wp2_with fail
    all_goals
      go_ret
      refine ⟨⟨_, rfl, ?_⟩, hB0 _⟩
      rw [node_other hk]
      simp_all

end Go.Proofs.Ytdgbbgkdoekfkaa.Re
