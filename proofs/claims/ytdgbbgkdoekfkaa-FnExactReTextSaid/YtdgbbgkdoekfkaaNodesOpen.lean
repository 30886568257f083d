/-
  An argument that is a slice of nodes: what its reading says of the memory.
-/
import Derived.Test.YtdgbbgkdoekfkaaNodes
import Derived.Lib.SmallJoins
import Derived.Deep.Slices
namespace Go.Proofs.Ytdgbbgkdoekfkaa.Re
open Go.ChangeShapes Go.WideShapes Go.ChangeAt Go.RowKit Go.PlainAid Go.Deep
open Go.Proofs.Ytdgbbgkdoekfkaa.RePure
set_option linter.unusedVariables false

theorem kidsAt {H : Type} {enc : TypeId × Value → H} {w : World} {fuel : Nat} {cs : List Value} {x : DataW H × List MemPlace}
    (h : DataW.trod enc Try.prog w 0 (fun _ => true) true fuel 33 cs = some x) : ∃ v kids, cs = [v] ∧ IntsAt w.heap.size w v kids := by
  rcases open_ints Try.underlying33 Try.underlying3 (by kernel_rfl : (Try.prog).cellsOf 3 = 1) h with ⟨rfl, _⟩ | ⟨a, len, cap, zs, rfl, _, hl, hm, hz, _, hcell, _⟩
  · exact ⟨_, [], rfl, none, 0, rfl, Nat.le_refl _, Nat.zero_le _, fun i hi => by simp at hi⟩
  · simp only [if_true] at hz
    refine ⟨_, zs.take len, rfl, some a, cap, ?_, ?_, hm, fun i hi => ?_⟩
    · rw [List.length_take, Nat.min_eq_left (by omega)]
    · rw [List.length_take]; omega
    · rw [List.length_take] at hi
      obtain ⟨b, off, rfl, hc⟩ := ints_at hcell (by omega)
      have h1 := hc i (by omega)
      refine ⟨b, off, rfl, World.block_lt_of_cell? w ⟨b, off + i, none⟩ h1, ?_⟩
      rw [h1]
      congr 2
      simp [gi, List.getD, show i < len by omega]

theorem list4 {α : Type} {l : List α} (h : l.length = 4) : ∃ a b c d, l = [a, b, c, d] := by
  match l, h with
  | [a, b, c, d], _ => exact ⟨a, b, c, d, rfl⟩

theorem nodeAt {H : Type} {enc : TypeId × Value → H} {w : World} {fuel : Nat} {a : Addr} {cs : List Value} {x : DataW H × List MemPlace}
    (hc : w.cells? 0 a 4 = some cs) (h : DataW.trod enc Try.prog w 0 (fun _ => true) true fuel 60 cs = some x) :
    a.spot = none ∧ a.block < w.heap.size ∧ ∃ v n, NodeAt w.heap.size w a.block a.off v n := by
  obtain ⟨b, o, spot⟩ := a
  obtain ⟨_, hl, hcell⟩ := World.cells?_some hc
  obtain ⟨y0, y1, y2, y3, m, _, _, h0, h1, h2, h3⟩ := Go.Joins.trod_struct4 Try.underlying60 h
  obtain ⟨c0, c1, c2, c3, rfl⟩ := list4 hl
  have e0 : w.cell? ((⟨b, o, spot⟩ : Addr).add 0) = some c0 := hcell 0 (by omega)
  have hs : spot = none := by simpa [Addr.add] using World.cell?_spot e0
  subst hs
  have e1 : w.cell? ((⟨b, o, none⟩ : Addr).add 1) = some c1 := hcell 1 (by omega)
  have e2 : w.cell? ((⟨b, o, none⟩ : Addr).add 2) = some c2 := hcell 2 (by omega)
  have e3 : w.cell? ((⟨b, o, none⟩ : Addr).add 3) = some c3 := hcell 3 (by omega)
  rw [add_plain] at e0 e1 e2 e3
  have f0 : (Try.prog).cellsOf 3 = 1 := by kernel_rfl
  have f1 : (Try.prog).cellsOf 4 = 1 := by kernel_rfl
  have f2 : (Try.prog).cellsOf 9 = 1 := by kernel_rfl
  have f3 : (Try.prog).cellsOf 33 = 1 := by kernel_rfl
  simp only [f0, f1, f2, f3, List.drop_zero, List.drop_succ_cons, List.take_succ_cons, List.take_zero] at h0 h1 h2 h3
  obtain ⟨k, q0, -, -⟩ := DataW.trod_int Try.underlying3 h0
  obtain ⟨g, q1, -⟩ := DataW.trod_bool Try.underlying4 h1
  obtain ⟨s, q2, -, hs⟩ := DataW.trod_string Try.underlying9 h2
  obtain ⟨v, kids, q3, hk⟩ := kidsAt h3
  simp only [List.cons.injEq, and_true] at q0 q1 q2 q3
  subst q0 q1 q2 q3
  exact ⟨rfl, World.block_lt_of_cell? w _ e0, _, ⟨k, g, s, kids⟩, e0, e1, e2, e3, hk, hs⟩

theorem open_nodes {H : Type} {enc : TypeId × Value → H} {w : World} {fuel : Nat} {v : Value} {x : DataW H × List MemPlace}
    (h : DataW.trod enc Try.prog w 0 (fun _ => true) true fuel 28 [v] = some x) : ∃ V l, NodesAt w.heap.size w v V l := by
  have hc4 : (Try.prog).cellsOf 60 = 4 := by kernel_rfl
  rcases open_slice Try.underlying28 h with ⟨q, _⟩ | ⟨a, len, cap, m, n, D, Pl, q, _, hl, hm, hmm, _, hx⟩
  · simp only [List.cons.injEq, and_true] at q
    subst q
    exact ⟨fun _ => .bool false, [], none, 0, rfl, Nat.le_refl _, Nat.zero_le _, fun i hi => by simp at hi⟩
  · simp only [List.cons.injEq, and_true] at q
    subst q
    simp only [if_true] at hmm
    subst hmm
    rw [hc4] at hx
    obtain ⟨b, off, spot⟩ := a
    have hsp : 0 < len → spot = none := by
      intro h0
      obtain ⟨cs', h1, h2⟩ := hx 0 (by omega)
      obtain ⟨s1, _⟩ := nodeAt h1 h2
      simpa [Addr.add] using s1
    have each : ∀ i, i < len → ∃ y : Value × Nd, spot = none ∧ b < w.heap.size ∧ NodeAt w.heap.size w b (off + i * 4) y.1 y.2 := by
      intro i hi
      obtain ⟨cs', h1, h2⟩ := hx i (by omega)
      obtain ⟨s1, s2, v, nd, hn⟩ := nodeAt h1 h2
      have hsn := hsp (by omega)
      subst hsn
      rw [add_plain] at s2 hn
      exact ⟨(v, nd), rfl, s2, hn⟩
    have : Inhabited (Value × Nd) := ⟨(.bool false, nd0)⟩
    obtain ⟨y, hy⟩ := choose_lt each
    refine ⟨fun i => (y i).1, (List.range len).map fun i => (y i).2, some ⟨b, off, spot⟩, m, by simp, by simpa using hl, hm, fun i hi => ?_⟩
    have hi' : i < len := by simpa using hi
    obtain ⟨s0, s2, hn⟩ := hy i hi'
    refine ⟨b, off, by rw [s0], s2, ?_⟩
    rw [show nth ((List.range len).map fun i => (y i).2) i = (y i).2 from by simp [nth, List.getD, hi']]
    exact hn

end Go.Proofs.Ytdgbbgkdoekfkaa.Re
