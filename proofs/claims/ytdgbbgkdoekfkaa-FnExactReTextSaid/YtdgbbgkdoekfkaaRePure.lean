/-
  What a list of nodes is, and when it is valid: plain facts, and how a walk over the nodes and their kids comes to them.
-/
import Derived.Test.YtdgbbgkdoekfkaaRows
import Derived.WalkKit
import Derived.PlainAid
namespace Go.Proofs.Ytdgbbgkdoekfkaa.RePure
open Go Go.RowKit Go.PlainAid
set_option linter.unusedVariables false

/-- A node, read. -/
structure Nd where
  kind : Int
  neg : Bool
  set : ByteArray
  kids : List Int

def nd0 : Nd := ⟨0, false, ⟨#[]⟩, []⟩
def nth (l : List Nd) (i : Nat) : Nd := l.getD i nd0
def gi (l : List Int) (i : Nat) : Int := l.getD i 0
def kd (l : List Nd) (i k : Nat) : Int := gi (nth l i).kids k

/-- A set's pairs are in order. -/
def SetOrd (s : ByteArray) : Prop := ∀ k, 2 * k + 1 < s.size → bt s (2 * k) ≤ bt s (2 * k + 1)
def NodeOk (n : Nd) : Prop :=
  (n.kind = 0 ∧ n.kids.length = 0 ∧ n.set.size % 2 = 0 ∧ (n.neg = true ∨ 0 < n.set.size) ∧ SetOrd n.set) ∨
  (n.neg = false ∧ n.set.size = 0 ∧ (((n.kind = 1 ∨ n.kind = 2) ∧ n.kids.length = 0) ∨ ((n.kind = 3 ∨ n.kind = 4) ∧ 2 ≤ n.kids.length) ∨ ((n.kind = 5 ∨ n.kind = 6 ∨ n.kind = 7) ∧ n.kids.length = 1)))

/-- The kids of the nodes before node i, and the first k of node i, in their order. -/
def done (l : List Nd) (i k : Nat) : List Int := (l.take i).flatMap Nd.kids ++ (nth l i).kids.take k

/-- A list of nodes is valid. -/
def ReP (l : List Nd) : Prop :=
  1 ≤ l.length ∧ l.length ≤ 200 ∧ (∀ i, i < l.length → NodeOk (nth l i)) ∧ (∀ i, i < l.length → ∀ k, k < (nth l i).kids.length → 0 ≤ kd l i k ∧ kd l i k < i) ∧
    (done l l.length 0).Nodup ∧ ∀ x : Nat, x + 1 < l.length → (x : Int) ∈ done l l.length 0

/-- What has been found good when the first k kids of node i are done. -/
structure Good (l : List Nd) (i k : Nat) : Prop where
  node : ∀ j, j < i → NodeOk (nth l j)
  back : ∀ j, j < i → ∀ m, m < (nth l j).kids.length → 0 ≤ kd l j m ∧ kd l j m < j
  part : ∀ m, m < k → 0 ≤ kd l i m ∧ kd l i m < i
  once : (done l i k).Nodup

theorem nth_eq {l : List Nd} {i : Nat} (h : i < l.length) : nth l i = l[i] := by simp [nth, List.getD, List.getElem?_eq_getElem h]
theorem gi_eq {l : List Int} {i : Nat} (h : i < l.length) : gi l i = l[i] := by simp [gi, List.getD, List.getElem?_eq_getElem h]
theorem kd_eq {l : List Nd} {i k : Nat} (h : k < (nth l i).kids.length) : kd l i k = (nth l i).kids[k] := gi_eq h
theorem done_zero (l : List Nd) : done l 0 0 = [] := by simp [done]
theorem done_step {l : List Nd} {i k : Nat} (h : k < (nth l i).kids.length) : done l i (k + 1) = done l i k ++ [kd l i k] := by
  rw [done, done, kd_eq h, List.append_assoc, List.take_append_getElem h]
theorem done_next {l : List Nd} {i : Nat} (h : i < l.length) : done l i (nth l i).kids.length = done l (i + 1) 0 := by
  rw [done, done, List.take_length, List.take_succ_eq_append_getElem h, List.flatMap_append]
  simp [nth_eq h]
theorem done_prefix {l : List Nd} : ∀ {i : Nat}, i ≤ l.length → ∀ {j}, i ≤ j → j ≤ l.length → done l i 0 <+: done l j 0 := by
  intro i _ j hij hj
  obtain ⟨d, rfl⟩ := Nat.exists_eq_add_of_le hij
  simp only [done, List.take_zero, List.append_nil]
  rw [List.take_add]
  rw [List.flatMap_append]
  exact List.prefix_append _ _
theorem done_all {l : List Nd} {i k : Nat} (h : i < l.length) (hk : k ≤ (nth l i).kids.length) : done l i k <+: done l l.length 0 := by
  have h1 : done l i k <+: done l (i + 1) 0 := by
    rw [← done_next h, done, done, List.take_length, List.prefix_append_right_inj]
    exact List.take_prefix _ _
  exact h1.trans (done_prefix (by omega) (by omega) (Nat.le_refl _))
theorem good_start (l : List Nd) : Good l 0 0 := ⟨fun j hj => by omega, fun j hj => by omega, fun m hm => by omega, by rw [done_zero]; exact List.nodup_nil⟩
theorem good_kid {l : List Nd} {i k : Nat} (h : Good l i k) (hk : k < (nth l i).kids.length) (h0 : 0 ≤ kd l i k) (h1 : kd l i k < i) (hn : kd l i k ∉ done l i k) : Good l i (k + 1) := by
  refine ⟨h.node, h.back, fun m hm => ?_, ?_⟩
  · by_cases e : m = k
    · subst e; exact ⟨h0, h1⟩
    · exact h.part m (by omega)
  · rw [done_step hk, List.nodup_append]
    refine ⟨h.once, by simp, ?_⟩
    intro a ha b hb
    simp only [List.mem_singleton] at hb
    subst hb
    intro e
    subst e
    exact hn ha
theorem good_next {l : List Nd} {i : Nat} (hi : i < l.length) (h : Good l i (nth l i).kids.length) (hn : NodeOk (nth l i)) : Good l (i + 1) 0 := by
  refine ⟨fun j hj => ?_, fun j hj m hm => ?_, fun m hm => by omega, by rw [← done_next hi]; exact h.once⟩
  · by_cases e : j = i
    · subst e; exact hn
    · exact h.node j (by omega)
  · by_cases e : j = i
    · subst e; exact h.part m hm
    · exact h.back j (by omega) m hm
theorem good_end {l : List Nd} (h1 : 1 ≤ l.length) (h2 : l.length ≤ 200) (h : Good l l.length 0) : ReP l ↔ ∀ x : Nat, x + 1 < l.length → (x : Int) ∈ done l l.length 0 :=
  ⟨fun p => p.2.2.2.2.2, fun p => ⟨h1, h2, h.node, h.back, h.once, p⟩⟩
theorem bad_size {l : List Nd} (h : ¬ (1 ≤ l.length ∧ l.length ≤ 200)) : ¬ ReP l := fun p => h ⟨p.1, p.2.1⟩
theorem bad_node {l : List Nd} {i : Nat} (hi : i < l.length) (h : ¬ NodeOk (nth l i)) : ¬ ReP l := fun p => h (p.2.2.1 i hi)
theorem bad_back {l : List Nd} {i k : Nat} (hi : i < l.length) (hk : k < (nth l i).kids.length) (h : ¬ (0 ≤ kd l i k ∧ kd l i k < i)) : ¬ ReP l := fun p => h (p.2.2.2.1 i hi k hk)
theorem bad_once {l : List Nd} {i k : Nat} (hi : i < l.length) (hk : k < (nth l i).kids.length) (h : kd l i k ∈ done l i k) : ¬ ReP l := fun p => by
  have h1 : (done l i (k + 1)).Nodup := p.2.2.2.2.1.sublist (done_all hi (by omega)).sublist
  rw [done_step hk, List.nodup_append] at h1
  exact h1.2.2 _ h _ (by simp) rfl
theorem done_lt {l : List Nd} {i k : Nat} (hi : i < l.length) (h : Good l i k) (hk : k ≤ (nth l i).kids.length) {x : Int} (hx : x ∈ done l i k) : 0 ≤ x ∧ x < i := by
  rw [done, List.mem_append] at hx
  rcases hx with hx | hx
  · rw [List.mem_flatMap] at hx
    obtain ⟨n, hn, hx⟩ := hx
    obtain ⟨j, hj, rfl⟩ := List.mem_iff_getElem.1 hn
    have hj' : j < i := by simp at hj; omega
    simp only [List.getElem_take] at hx
    obtain ⟨m, hm, rfl⟩ := List.mem_iff_getElem.1 hx
    have e := nth_eq (l := l) (i := j) (by omega)
    have := h.back j hj' m (by rw [e]; exact hm)
    rw [kd_eq (by rw [e]; exact hm)] at this
    simp only [e] at this
    omega
  · obtain ⟨m, hm, rfl⟩ := List.mem_iff_getElem.1 hx
    simp only [List.length_take] at hm
    have := h.part m (by omega)
    rw [kd_eq (by omega)] at this
    simpa using this

end Go.Proofs.Ytdgbbgkdoekfkaa.RePure
