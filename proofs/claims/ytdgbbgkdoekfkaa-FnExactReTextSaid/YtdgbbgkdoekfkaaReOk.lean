/-
  When a list of nodes is valid: what the model's and the program's functions answer.
-/
import Derived.Test.YtdgbbgkdoekfkaaNodes
namespace Go.Proofs.Ytdgbbgkdoekfkaa.Re
open Go.ChangeShapes Go.WideShapes Go.ChangeAt Go.RowKit Go.PlainAid
open Go.Proofs.Ytdgbbgkdoekfkaa.RePure
set_option linter.unusedVariables false

def EvenOrd (s : ByteArray) : Prop := s.size % 2 = 0 ∧ SetOrd s
def PairsOk (neg : Bool) (s : ByteArray) : Prop := s.size % 2 = 0 ∧ (neg = true ∨ 0 < s.size) ∧ SetOrd s
/-- The ending is a bool that says whether p. -/
def Says (e : Ending) (p : Prop) : Prop := ∃ r : Bool, e = .returned (.bool r) ∧ (r = true ↔ p)
theorem says_no {p : Prop} (h : ¬ p) : Says (.returned (.bool false)) p := ⟨false, rfl, ⟨fun h => (by cases h), fun q => absurd q h⟩⟩
theorem says_yes {p : Prop} (h : p) : Says (.returned (.bool true)) p := ⟨true, rfl, ⟨fun _ => h, fun _ => rfl⟩⟩
theorem below_drewN {B : Nat} {a w : World} (h : Below B a w) (n : Nat) : Below B a (w.drewN n) := h.trans ⟨rfl, rfl, rfl, Nat.le_refl _, fun _ _ => rfl⟩
theorem ord_bad {s : ByteArray} {m : Nat} (hm : m % 2 = 0) (h : m + 1 < s.size) (hb : bt s (m + 1) < bt s m) : ¬ SetOrd s := fun ho => by
  have := ho (m / 2) (by omega)
  rw [show 2 * (m / 2) = m from by omega] at this
  omega
theorem ord_next {s : ByteArray} {m : Nat} (hm : m % 2 = 0) (h : ∀ j, 2 * j < m → bt s (2 * j) ≤ bt s (2 * j + 1)) (hb : ¬ bt s (m + 1) < bt s m) : ∀ j, 2 * j < m + 2 → bt s (2 * j) ≤ bt s (2 * j + 1) := by
  intro j hj
  by_cases e : 2 * j = m
  · rw [e]; omega
  · exact h j (by omega)
theorem ord_all {s : ByteArray} {m : Nat} (h : ∀ j, 2 * j < m → bt s (2 * j) ≤ bt s (2 * j + 1)) (hm : s.size ≤ m + 1) : SetOrd s := fun j hj => h j (by omega)

set_option maxRecDepth 100000 in
set_option maxHeartbeats 1000000 in
theorem impl_setOk (s : ByteArray) (hs : s.size ≤ maxLen) (w : World) : Calls Try.prog 65 #[.string s] w fun e w' => Says e (EvenOrd s) ∧ Below w.heap.size w w' := by
  unfold maxLen at hs
  have hb := get_bt s
  by_cases hev : s.size % 2 = 0
  · have h2 : (s.size : Int) % 2 = 0 := by omega
    go_enter Try.func65, Try.ntmps65
    go_wp2_with fail
    go_loopw [3] (fun i wr => ∃ m : Nat, m ≤ s.size ∧ m % 2 = 0 ∧ i = .int .i64 m ∧ Hid (∀ j, 2 * j < m → bt s (2 * j) ≤ bt s (2 * j + 1)) ∧ Below w.heap.size w wr) (fun i _ => s.size - (intOf i).toNat)
    case atStart => exact ⟨0, Nat.zero_le _, rfl, rfl, fun j hj => by omega, Below.refl _ _⟩
    case round =>
      obtain ⟨m, hm, hm2, rfl, HO, hB1⟩ := hrel
      by_cases hlt : m < s.size
      · have g1 : (m : Int) + 1 < (s.size : Int) := by omega
        have g0 : (m : Int) < (s.size : Int) := by omega
        by_cases hx : bt s (m + 1) < bt s m
        · have hbad := ord_bad hm2 (by omega) hx
          have HB := Lib.hid hbad; clear hbad
          go_wp2_with fail
          go_quiet (fail)
          go_wp2_with fail
          go_ret
          exact ⟨says_no fun h => HB.out h.2, below_drewN hB1 _⟩
        · have hn := ord_next hm2 HO.out hx
          have HN := Lib.hid hn; clear hn
          have hd : decide (bt s (m + 1) < bt s m) = false := by simpa using hx
          clear hx
          go_wp2_with fail
          go_quiet (fail)
          go_wp2_with fail
          go_roundw
          case rel => exact ⟨m + 2, by omega, by omega, by go_num, HN.out, below_drewN hB1 _⟩
          case measure => simp [intOf]; omega
      · have ha := ord_all HO.out (by omega)
        have HA := Lib.hid ha; clear ha
        have HE := Lib.hid hev; clear hev h2
        go_wp2_with fail
        go_ret
        exact ⟨says_yes ⟨HE.out, HA.out⟩, hB1⟩
  · have h2 : ¬ (s.size : Int) % 2 = 0 := by omega
    have HE := Lib.hid hev; clear hev
    go_enter Try.func65, Try.ntmps65
    go_wp2_with fail
    go_ret
    exact ⟨says_no fun h => HE.out h.1, Below.refl _ _⟩

set_option maxRecDepth 100000 in
set_option maxHeartbeats 2000000 in
theorem spec_pairs (n : Nd) (v : Value) (hs : n.set.size ≤ maxLen) (w : World) : Calls Try.prog 63 #[nval n v] w fun e w' => Says e (PairsOk n.neg n.set) ∧ Below w.heap.size w w' := by
  obtain ⟨kind, neg, s, kids⟩ := n
  unfold nval
  simp only [] at hs ⊢
  unfold maxLen at hs
  have hb := get_bt s
  have hB0 : ∀ o, Below w.heap.size w (w.alloc o) := fun o => (Below.refl _ _).alloc (Nat.le_refl _) o
  by_cases hev : s.size % 2 = 0
  · by_cases hz : s.size = 0 ∧ neg = false
    · obtain ⟨hz, rfl⟩ := hz
      have h2 : ((s.size : Int) % 2 == 1) = false := by simp; omega
      have h3 : (s.size : Int) = 0 := by omega
      have HZ : Hid ¬ (false = true ∨ 0 < s.size) := fun h => by
        rcases h with h | h
        · cases h
        · omega
      clear hz hev
      go_enter Try.func63, Try.ntmps63
      go_wp2_with fail
      go_ret
      exact ⟨says_no fun h => HZ.out h.2.1, hB0 _⟩
    · have h2 : ((s.size : Int) % 2 == 1) = false := by simp; omega
      have hz' : (0 < s.size) ∨ (s.size = 0 ∧ neg = true) := by
        cases neg
        · exact Or.inl (Nat.pos_of_ne_zero fun h => hz ⟨h, rfl⟩)
        · rcases Nat.eq_zero_or_pos s.size with h | h
          · exact Or.inr ⟨h, rfl⟩
          · exact Or.inl h
      have HZ : Hid (neg = true ∨ 0 < s.size) := by
        rcases hz' with h | h
        · exact Or.inr h
        · exact Or.inl h.2
      have HQ := Lib.hid hev
      clear hz
      rcases hz' with h0 | ⟨h0, rfl⟩
      · have h3 : ((s.size : Int) == 0) = false := by rw [beq_eq_false_iff_ne]; omega
        go_enter Try.func63, Try.ntmps63
        go_wp2_with fail
        go_loopw [3] (fun i wr => ∃ m : Nat, m ≤ s.size ∧ m % 2 = 0 ∧ i = .int .i64 m ∧ Hid (∀ j, 2 * j < m → bt s (2 * j) ≤ bt s (2 * j + 1)) ∧ Below w.heap.size w wr ∧ wr.cell? ⟨w.heap.size, 2, none⟩ = some (.string s)) (fun i _ => s.size - (intOf i).toNat)
        case atStart => exact ⟨0, Nat.zero_le _, rfl, rfl, fun j hj => by omega, hB0 _, by go_simp⟩
        case round =>
          obtain ⟨m, hm, hm2, rfl, HO, hB1, hc⟩ := hrel
          by_cases hlt : m < s.size
          · have g1 : (m : Int) + 1 < (s.size : Int) := by omega
            have g0 : (m : Int) < (s.size : Int) := by omega
            by_cases hx : bt s (m + 1) < bt s m
            · have hbad := ord_bad hm2 (by omega) hx
              have HB := Lib.hid hbad; clear hbad
              go_wp2_with fail
              go_quiet (fail)
              go_wp2_with fail
              go_ret
              exact ⟨says_no fun h => HB.out h.2.2, below_drewN hB1 _⟩
            · have hn := ord_next hm2 HO.out hx
              have HN := Lib.hid hn; clear hn
              have hd : decide (bt s (m + 1) < bt s m) = false := by simpa using hx
              clear hx
              go_wp2_with fail
              go_quiet (fail)
              go_wp2_with fail
              go_roundw
              case rel => exact ⟨m + 2, by omega, by omega, by go_num, HN.out, below_drewN hB1 _, hc⟩
              case measure => simp [intOf]; omega
          · have ha := ord_all HO.out (by omega)
            have HA := Lib.hid ha; clear ha
            have g1 : ¬ (m : Int) + 1 < (s.size : Int) := by omega
            clear hev
            go_wp2_with fail
            go_ret
            exact ⟨says_yes ⟨HQ.out, HZ.out, HA.out⟩, hB1⟩
      · have h3 : (s.size : Int) = 0 := by omega
        have hA : SetOrd s := fun j hj => by omega
        have HA := Lib.hid hA; clear hA
        have g1 : ¬ (0 : Int) + 1 < (s.size : Int) := by omega
        have g2 : ¬ (1 : Int) < (s.size : Int) := by omega
        clear hev
        go_enter Try.func63, Try.ntmps63
        go_wp2_with fail
        go_loopw [3] (fun i wr => i = .int .i64 0 ∧ Below w.heap.size w wr ∧ wr.cell? ⟨w.heap.size, 2, none⟩ = some (.string s)) (fun i _ => 0)
        case atStart => exact ⟨rfl, hB0 _, by go_simp⟩
        case round =>
          obtain ⟨rfl, hB1, hc⟩ := hrel
          go_wp2_with fail
          go_ret
          exact ⟨says_yes ⟨HQ.out, Or.inl rfl, HA.out⟩, hB1⟩
  · have h2 : (s.size : Int) % 2 = 1 := by omega
    have HE := Lib.hid hev; clear hev
    go_enter Try.func63, Try.ntmps63
    go_wp2_with fail
    go_ret
    exact ⟨says_no fun h => HE.out h.1, hB0 _⟩

theorem isE (s : ByteArray) : s.toList.isEmpty = true ↔ s.size = 0 := by
  rw [ByteArray.toList_eq]
  simp only [List.isEmpty_iff_length_eq_zero, Array.length_toList]
  exact Iff.rfl
theorem isE_no {s : ByteArray} (h : 0 < s.size) : s.toList.isEmpty = false := by
  cases hb : s.toList.isEmpty with
  | false => rfl
  | true => rw [isE] at hb; omega
theorem kind_cases (k : Int) : k = 0 ∨ k = 1 ∨ k = 2 ∨ k = 3 ∨ k = 4 ∨ k = 5 ∨ k = 6 ∨ k = 7 ∨ ((k == 0) = false ∧ (k == 1) = false ∧ (k == 2) = false ∧ (k == 3) = false ∧ (k == 4) = false ∧ (k == 5) = false ∧ (k == 6) = false ∧ (k == 7) = false) := by
  simp only [beq_eq_false_iff_ne]
  omega
theorem node0 {neg : Bool} {s : ByteArray} {kids : List Int} : NodeOk ⟨0, neg, s, kids⟩ ↔ kids.length = 0 ∧ PairsOk neg s := by
  unfold NodeOk PairsOk
  simp only []
  constructor
  · rintro (⟨_, h1, h2, h3, h4⟩ | ⟨_, _, h⟩)
    · exact ⟨h1, h2, h3, h4⟩
    · omega
  · rintro ⟨h1, h2, h3, h4⟩
    exact Or.inl ⟨by trivial, h1, h2, h3, h4⟩
theorem node0' {neg : Bool} {s : ByteArray} {kids : List Int} : NodeOk ⟨0, neg, s, kids⟩ ↔ kids.length = 0 ∧ EvenOrd s ∧ (neg = true ∨ 0 < s.size) := by
  rw [node0]
  unfold PairsOk EvenOrd
  constructor
  · rintro ⟨h1, h2, h3, h4⟩
    exact ⟨h1, ⟨h2, h4⟩, h3⟩
  · rintro ⟨h1, ⟨h2, h4⟩, h3⟩
    exact ⟨h1, h2, h3, h4⟩
theorem pos_isE (s : ByteArray) : 0 < s.size ↔ s.toList.isEmpty = false := by
  constructor
  · exact isE_no
  · intro h
    rcases Nat.eq_zero_or_pos s.size with hz | hz
    · rw [← isE] at hz
      rw [hz] at h
      cases h
    · exact hz
theorem node_other {kind : Int} {neg : Bool} {s : ByteArray} {kids : List Int} (hk : kind ≠ 0) : NodeOk ⟨kind, neg, s, kids⟩ ↔ neg = false ∧ s.size = 0 ∧ (((kind = 1 ∨ kind = 2) ∧ kids.length = 0) ∨ ((kind = 3 ∨ kind = 4) ∧ 2 ≤ kids.length) ∨ ((kind = 5 ∨ kind = 6 ∨ kind = 7) ∧ kids.length = 1)) := by
  unfold NodeOk
  simp only []
  constructor
  · rintro (⟨h, _⟩ | h)
    · exact absurd h hk
    · exact h
  · exact Or.inr

set_option maxRecDepth 100000 in
set_option maxHeartbeats 4000000 in
theorem spec_kidsOk (n : Nd) (v : Value) (hs : n.set.size ≤ maxLen) (B : Nat) (w : World) (hv : IntsAt B w v n.kids) : Calls Try.prog 40 #[nval n v] w fun e w' => Says e (NodeOk n) ∧ Below w.heap.size w w' := by
  obtain ⟨kind, neg, s, kids⟩ := n
  obtain ⟨ao, cap, rfl, hc1, hc2, hc3⟩ := hv
  clear hc3
  unfold nval
  have hs' := hs
  simp only [] at hs hc1 ⊢
  unfold maxLen at hs hc2
  have hl : kids.length ≤ 9223372036854775807 := by omega
  have hB0 : ∀ o, Below w.heap.size w (w.alloc o) := fun o => (Below.refl _ _).alloc (Nat.le_refl _) o
  rcases kind_cases kind with rfl | rfl | rfl | rfl | rfl | rfl | rfl | rfl | ⟨k0, k1, k2, k3, k4, k5, k6, k7⟩
  · go_enter Try.func40, Try.ntmps40
    go_wp2_with (go_at_call 63; refine (spec_pairs ⟨0, neg, s, kids⟩ _ hs' _).mono ?_; rintro e w' ⟨⟨r, rfl, hr⟩, hB1⟩)
    · go_ret
      refine ⟨⟨r, rfl, ?_⟩, (hB0 _).trans (hB1.mono (by simp))⟩
      rw [node0, hr]
      simp_all
    · go_ret
      refine ⟨says_no ?_, hB0 _⟩
      rw [node0]
      simp_all
  · go_enter Try.func40, Try.ntmps40
    go_wp2_with fail
    all_goals
      go_ret
      refine ⟨⟨_, rfl, ?_⟩, hB0 _⟩
      rw [node_other (by decide)]
      try rw [isE]
      first | (simp_all; done) | (simp_all; omega)
  · go_enter Try.func40, Try.ntmps40
    go_wp2_with fail
    all_goals
      go_ret
      refine ⟨⟨_, rfl, ?_⟩, hB0 _⟩
      rw [node_other (by decide)]
      try rw [isE]
      first | (simp_all; done) | (simp_all; omega)
  · go_enter Try.func40, Try.ntmps40
    go_wp2_with fail
    all_goals
      go_ret
      refine ⟨⟨_, rfl, ?_⟩, hB0 _⟩
      rw [node_other (by decide)]
      try rw [isE]
      first | (simp_all; done) | (simp_all; omega)
  · go_enter Try.func40, Try.ntmps40
    go_wp2_with fail
    all_goals
      go_ret
      refine ⟨⟨_, rfl, ?_⟩, hB0 _⟩
      rw [node_other (by decide)]
      try rw [isE]
      first | (simp_all; done) | (simp_all; omega)
  · go_enter Try.func40, Try.ntmps40
    go_wp2_with fail
    all_goals
      go_ret
      refine ⟨⟨_, rfl, ?_⟩, hB0 _⟩
      rw [node_other (by decide)]
      try rw [isE]
      first | (simp_all; done) | (simp_all; omega)
  · go_enter Try.func40, Try.ntmps40
    go_wp2_with fail
    all_goals
      go_ret
      refine ⟨⟨_, rfl, ?_⟩, hB0 _⟩
      rw [node_other (by decide)]
      try rw [isE]
      first | (simp_all; done) | (simp_all; omega)
  · go_enter Try.func40, Try.ntmps40
    go_wp2_with fail
    all_goals
      go_ret
      refine ⟨⟨_, rfl, ?_⟩, hB0 _⟩
      rw [node_other (by decide)]
      try rw [isE]
      first | (simp_all; done) | (simp_all; omega)
  · have hk : kind ≠ 0 := by simpa using k0
    go_enter Try.func40, Try.ntmps40
    go_wp2_with fail
    all_goals
      go_ret
      refine ⟨⟨_, rfl, ?_⟩, hB0 _⟩
      rw [node_other hk]
      simp_all

end Go.Proofs.Ytdgbbgkdoekfkaa.Re
