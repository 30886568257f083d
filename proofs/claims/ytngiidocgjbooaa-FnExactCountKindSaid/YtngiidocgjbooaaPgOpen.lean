/-
  An argument that is a program: what its reading says of the memory.
-/
import Derived.Test.YtngiidocgjbooaaPgProg
import Derived.Lib.SmallJoins
import Derived.Deep.Slices
import Derived.Deep.Strs
import Derived.ChangeSlices
namespace Go.Proofs.Ytngiidocgjbooaa.Pg
open Go.ChangeShapes Go.WideShapes Go.ChangeAt Go.RowKit Go.PlainAid Go.Deep
open Go.Proofs.Ytngiidocgjbooaa.PgPure
set_option linter.unusedVariables false

theorem trod_struct5 {H : Type} {enc : TypeId × Value → H} {P : Program} {w : World} {base : Nat} {spare : Nat → Bool} {held : Bool} {t : TypeId} {f0 f1 f2 f3 f4 : Field} {fuel : Nat} {cs : List Value} {x : DataW H × List MemPlace}
    (ht : P.underlying t = some (.struct #[f0, f1, f2, f3, f4])) (h : DataW.trod enc P w base spare held fuel t cs = some x) :
    ∃ y0 y1 y2 y3 y4 n, DataW.trod enc P w base spare held n f0.type ((cs.drop f0.offset).take (P.cellsOf f0.type)) = some y0 ∧
      DataW.trod enc P w base spare held n f1.type ((cs.drop f1.offset).take (P.cellsOf f1.type)) = some y1 ∧ DataW.trod enc P w base spare held n f2.type ((cs.drop f2.offset).take (P.cellsOf f2.type)) = some y2 ∧
      DataW.trod enc P w base spare held n f3.type ((cs.drop f3.offset).take (P.cellsOf f3.type)) = some y3 ∧ DataW.trod enc P w base spare held n f4.type ((cs.drop f4.offset).take (P.cellsOf f4.type)) = some y4 := by
  obtain ⟨xs, n, _, rfl, hl, hlen, hf⟩ := DataW.trod_struct ht h
  match xs, hlen with
  | [y0, y1, y2, y3, y4], _ => exact ⟨y0, y1, y2, y3, y4, n, by simpa using hf 0 f0 rfl, by simpa using hf 1 f1 rfl, by simpa using hf 2 f2 rfl, by simpa using hf 3 f3 rfl, by simpa using hf 4 f4 rfl⟩

theorem list5 {α : Type} {l : List α} (h : l.length = 5) : ∃ a b c d e, l = [a, b, c, d, e] := by
  match l, h with
  | [a, b, c, d, e], _ => exact ⟨a, b, c, d, e, rfl⟩

theorem array2 {α : Type} {a : Array α} (h : a.size = 2) : ∃ x y, a = #[x, y] := by
  obtain ⟨l⟩ := a
  match l, h with
  | [x, y], _ => exact ⟨x, y, rfl⟩

theorem kids_open {H : Type} {enc : TypeId × Value → H} {w : World} {fuel : Nat} {cs : List Value} {x : DataW H × List MemPlace}
    (h : DataW.trod enc Try.prog w 0 (fun _ => true) true fuel 38 cs = some x) : ∃ v kids, cs = [v] ∧ IntsAt w.heap.size w v kids := by
  rcases open_ints Try.underlying38 Try.underlying3 (by kernel_rfl : (Try.prog).cellsOf 3 = 1) h with ⟨rfl, _⟩ | ⟨a, len, cap, zs, rfl, _, hl, hm, hz, _, hcell, _⟩
  · exact ⟨_, [], rfl, none, 0, rfl, Nat.le_refl _, Nat.zero_le _, fun i hi => by simp at hi⟩
  · simp only [if_true] at hz
    refine ⟨_, zs.take len, rfl, some a, cap, ?_, ?_, hm, fun i hi => ?_⟩
    · rw [List.length_take, Nat.min_eq_left (by omega)]
    · rw [List.length_take]; omega
    · rw [List.length_take] at hi
      obtain ⟨b, off, rfl, hc⟩ := ints_at hcell (by omega)
      have h1 := hc i (by omega)
      refine ⟨b, off, rfl, World.block_lt_of_cell? w ⟨b, off + i, none⟩ h1, ?_⟩
      rw [h1]
      congr 2
      simp [gi, List.getD, show i < len by omega]

theorem strs_open {H : Type} {enc : TypeId × Value → H} {w : World} {fuel : Nat} {cs : List Value} {x : DataW H × List MemPlace}
    (h : DataW.trod enc Try.prog w 0 (fun _ => true) true fuel 42 cs = some x) : ∃ v l, cs = [v] ∧ StrsAt w.heap.size w v l := by
  rcases open_strs Try.underlying42 Try.underlying9 (by kernel_rfl : (Try.prog).cellsOf 9 = 1) h with ⟨rfl, _⟩ | ⟨a, len, cap, m, Sx, rfl, _, hl, hm, hmm, _, hcell⟩
  · exact ⟨_, [], rfl, none, 0, rfl, Nat.le_refl _, Nat.zero_le _, fun i hi => by simp at hi⟩
  · simp only [if_true] at hmm
    refine ⟨_, (List.range len).map Sx, rfl, some a, cap, by simp, by simpa using hl, hm, fun i hi => ?_⟩
    have hi' : i < len := by simpa using hi
    obtain ⟨b, off, spot⟩ := a
    obtain ⟨h1, h2⟩ := hcell i (by omega)
    have hs : spot = none := by simpa [Addr.add] using World.cell?_spot (hcell 0 (by omega)).1
    subst hs
    rw [add_plain] at h1
    rw [show gs ((List.range len).map Sx) i = Sx i from by simp [gs, List.getD, hi']]
    exact ⟨b, off, rfl, World.block_lt_of_cell? w ⟨b, off + i, none⟩ h1, h1, h2⟩

theorem Nd_cells {H : Type} {enc : TypeId × Value → H} {w : World} {fuel : Nat} {a : Addr} {cs : List Value} {x : DataW H × List MemPlace}
    (hc : w.cells? 0 a 5 = some cs) (h : DataW.trod enc Try.prog w 0 (fun _ => true) true fuel 55 cs = some x) :
    a.spot = none ∧ a.block < w.heap.size ∧ ∃ v n, NdAt w.heap.size w a.block a.off v n := by
  obtain ⟨b, o, spot⟩ := a
  obtain ⟨_, hl, hcell⟩ := World.cells?_some hc
  obtain ⟨y0, y1, y2, y3, y4, m, h0, h1, h2, h3, h4⟩ := trod_struct5 Try.underlying55 h
  obtain ⟨c0, c1, c2, c3, c4, rfl⟩ := list5 hl
  have e0 : w.cell? ((⟨b, o, spot⟩ : Addr).add 0) = some c0 := hcell 0 (by omega)
  have hs : spot = none := by simpa [Addr.add] using World.cell?_spot e0
  subst hs
  have e1 : w.cell? ((⟨b, o, none⟩ : Addr).add 1) = some c1 := hcell 1 (by omega)
  have e2 : w.cell? ((⟨b, o, none⟩ : Addr).add 2) = some c2 := hcell 2 (by omega)
  have e3 : w.cell? ((⟨b, o, none⟩ : Addr).add 3) = some c3 := hcell 3 (by omega)
  have e4 : w.cell? ((⟨b, o, none⟩ : Addr).add 4) = some c4 := hcell 4 (by omega)
  rw [add_plain] at e0 e1 e2 e3 e4
  have fi : (Try.prog).cellsOf 3 = 1 := by kernel_rfl
  have fs : (Try.prog).cellsOf 9 = 1 := by kernel_rfl
  have fI : (Try.prog).cellsOf 38 = 1 := by kernel_rfl
  simp only [fi, fs, fI, List.drop_zero, List.drop_succ_cons, List.take_succ_cons, List.take_zero] at h0 h1 h2 h3 h4
  obtain ⟨k0, q0, -, -⟩ := DataW.trod_int Try.underlying3 h0
  obtain ⟨k1, q1, -, hs1⟩ := DataW.trod_string Try.underlying9 h1
  obtain ⟨k2, q2, -, hs2⟩ := DataW.trod_string Try.underlying9 h2
  obtain ⟨k3, q3, -, -⟩ := DataW.trod_int Try.underlying3 h3
  obtain ⟨v, k4, q4, hk⟩ := kids_open h4
  simp only [List.cons.injEq, and_true] at q0 q1 q2 q3 q4
  subst q0 q1 q2 q3 q4
  exact ⟨rfl, World.block_lt_of_cell? w _ e0, _, ⟨k0, k1, k2, k3, k4⟩, e0, e1, e2, e3, e4, hk, hs1, hs2⟩

theorem open_Ns {H : Type} {enc : TypeId × Value → H} {w : World} {fuel : Nat} {cs : List Value} {x : DataW H × List MemPlace}
    (h : DataW.trod enc Try.prog w 0 (fun _ => true) true fuel 22 cs = some x) : ∃ v V l, cs = [v] ∧ NdsAt w.heap.size w v V l := by
  have hc4 : (Try.prog).cellsOf 55 = 5 := by kernel_rfl
  rcases open_slice Try.underlying22 h with ⟨q, _⟩ | ⟨a, len, cap, m, n, D, Pl, q, _, hl, hm, hmm, _, hx⟩
  · exact ⟨_, fun _ => .bool false, [], q, none, 0, rfl, Nat.le_refl _, Nat.zero_le _, fun i hi => by simp at hi⟩
  · simp only [if_true] at hmm
    subst hmm
    rw [hc4] at hx
    obtain ⟨b, off, spot⟩ := a
    have hsp : 0 < len → spot = none := by
      intro h0
      obtain ⟨cs', h1, h2⟩ := hx 0 (by omega)
      obtain ⟨s1, _⟩ := Nd_cells h1 h2
      simpa [Addr.add] using s1
    have each : ∀ i, i < len → ∃ y : Value × Nd, spot = none ∧ b < w.heap.size ∧ NdAt w.heap.size w b (off + i * 5) y.1 y.2 := by
      intro i hi
      obtain ⟨cs', h1, h2⟩ := hx i (by omega)
      obtain ⟨s1, s2, v, nd, hn⟩ := Nd_cells h1 h2
      have hsn := hsp (by omega)
      subst hsn
      rw [add_plain] at s2 hn
      exact ⟨(v, nd), rfl, s2, hn⟩
    have : Inhabited (Value × Nd) := ⟨(.bool false, nd0)⟩
    obtain ⟨y, hy⟩ := choose_lt each
    refine ⟨_, fun i => (y i).1, (List.range len).map fun i => (y i).2, q, some ⟨b, off, spot⟩, m, by simp, by simpa using hl, hm, fun i hi => ?_⟩
    have hi' : i < len := by simpa using hi
    obtain ⟨s0, s2, hn⟩ := hy i hi'
    refine ⟨b, off, by rw [s0], s2, ?_⟩
    rw [show nthN ((List.range len).map fun i => (y i).2) i = (y i).2 from by simp [nthN, List.getD, hi']]
    exact hn

theorem It_cells {H : Type} {enc : TypeId × Value → H} {w : World} {fuel : Nat} {a : Addr} {cs : List Value} {x : DataW H × List MemPlace}
    (hc : w.cells? 0 a 5 = some cs) (h : DataW.trod enc Try.prog w 0 (fun _ => true) true fuel 57 cs = some x) :
    a.spot = none ∧ a.block < w.heap.size ∧ ∃ v n, ItAt w.heap.size w a.block a.off v n := by
  obtain ⟨b, o, spot⟩ := a
  obtain ⟨_, hl, hcell⟩ := World.cells?_some hc
  obtain ⟨y0, y1, y2, y3, y4, m, h0, h1, h2, h3, h4⟩ := trod_struct5 Try.underlying57 h
  obtain ⟨c0, c1, c2, c3, c4, rfl⟩ := list5 hl
  have e0 : w.cell? ((⟨b, o, spot⟩ : Addr).add 0) = some c0 := hcell 0 (by omega)
  have hs : spot = none := by simpa [Addr.add] using World.cell?_spot e0
  subst hs
  have e1 : w.cell? ((⟨b, o, none⟩ : Addr).add 1) = some c1 := hcell 1 (by omega)
  have e2 : w.cell? ((⟨b, o, none⟩ : Addr).add 2) = some c2 := hcell 2 (by omega)
  have e3 : w.cell? ((⟨b, o, none⟩ : Addr).add 3) = some c3 := hcell 3 (by omega)
  have e4 : w.cell? ((⟨b, o, none⟩ : Addr).add 4) = some c4 := hcell 4 (by omega)
  rw [add_plain] at e0 e1 e2 e3 e4
  have fi : (Try.prog).cellsOf 3 = 1 := by kernel_rfl
  have fs : (Try.prog).cellsOf 9 = 1 := by kernel_rfl
  have fS : (Try.prog).cellsOf 42 = 1 := by kernel_rfl
  simp only [fi, fs, fS, List.drop_zero, List.drop_succ_cons, List.take_succ_cons, List.take_zero] at h0 h1 h2 h3 h4
  obtain ⟨k0, q0, -, -⟩ := DataW.trod_int Try.underlying3 h0
  obtain ⟨k1, q1, -, hs1⟩ := DataW.trod_string Try.underlying9 h1
  obtain ⟨v, k2, q2, hk⟩ := strs_open h2
  obtain ⟨k3, q3, -, -⟩ := DataW.trod_int Try.underlying3 h3
  obtain ⟨k4, q4, -, -⟩ := DataW.trod_int Try.underlying3 h4
  simp only [List.cons.injEq, and_true] at q0 q1 q2 q3 q4
  subst q0 q1 q2 q3 q4
  exact ⟨rfl, World.block_lt_of_cell? w _ e0, _, ⟨k0, k1, k2, k3, k4⟩, e0, e1, e2, e3, e4, hk, hs1⟩

theorem open_Ts {H : Type} {enc : TypeId × Value → H} {w : World} {fuel : Nat} {cs : List Value} {x : DataW H × List MemPlace}
    (h : DataW.trod enc Try.prog w 0 (fun _ => true) true fuel 23 cs = some x) : ∃ v V l, cs = [v] ∧ ItsAt w.heap.size w v V l := by
  have hc4 : (Try.prog).cellsOf 57 = 5 := by kernel_rfl
  rcases open_slice Try.underlying23 h with ⟨q, _⟩ | ⟨a, len, cap, m, n, D, Pl, q, _, hl, hm, hmm, _, hx⟩
  · exact ⟨_, fun _ => .bool false, [], q, none, 0, rfl, Nat.le_refl _, Nat.zero_le _, fun i hi => by simp at hi⟩
  · simp only [if_true] at hmm
    subst hmm
    rw [hc4] at hx
    obtain ⟨b, off, spot⟩ := a
    have hsp : 0 < len → spot = none := by
      intro h0
      obtain ⟨cs', h1, h2⟩ := hx 0 (by omega)
      obtain ⟨s1, _⟩ := It_cells h1 h2
      simpa [Addr.add] using s1
    have each : ∀ i, i < len → ∃ y : Value × It, spot = none ∧ b < w.heap.size ∧ ItAt w.heap.size w b (off + i * 5) y.1 y.2 := by
      intro i hi
      obtain ⟨cs', h1, h2⟩ := hx i (by omega)
      obtain ⟨s1, s2, v, nd, hn⟩ := It_cells h1 h2
      have hsn := hsp (by omega)
      subst hsn
      rw [add_plain] at s2 hn
      exact ⟨(v, nd), rfl, s2, hn⟩
    have : Inhabited (Value × It) := ⟨(.bool false, it0)⟩
    obtain ⟨y, hy⟩ := choose_lt each
    refine ⟨_, fun i => (y i).1, (List.range len).map fun i => (y i).2, q, some ⟨b, off, spot⟩, m, by simp, by simpa using hl, hm, fun i hi => ?_⟩
    have hi' : i < len := by simpa using hi
    obtain ⟨s0, s2, hn⟩ := hy i hi'
    refine ⟨b, off, by rw [s0], s2, ?_⟩
    rw [show nthT ((List.range len).map fun i => (y i).2) i = (y i).2 from by simp [nthT, List.getD, hi']]
    exact hn

theorem open_prog {H : Type} {enc : TypeId × Value → H} {w : World} {v : Value} {d : DataW H} {p : List MemPlace} (hv : Value.okWide Try.prog w .any 0 25 v) (h : DataW.Trod enc Try.prog w 0 (fun _ => true) true 25 v d p) :
    ∃ lv iv V U g, v = .agg #[lv, iv] ∧ PgAt w.heap.size w lv iv V U g := by
  obtain ⟨cs, rfl, hsz⟩ := okWide_struct Try.underlying25 hv
  obtain ⟨fuel, hf⟩ := h
  obtain ⟨y0, y1, n, _, hl, h0, h1⟩ := trod_struct2 Try.underlying25 (by simpa [Value.cells] using hf)
  have hsz2 : cs.size = 2 := by
    have h2 : (Try.prog).cellsOf 25 = 2 := by kernel_rfl
    rw [h2] at hl
    simpa using hl
  obtain ⟨c0, c1, rfl⟩ := array2 hsz2
  have f0 : (Try.prog).cellsOf 22 = 1 := by kernel_rfl
  have f1 : (Try.prog).cellsOf 23 = 1 := by kernel_rfl
  simp only [f0, f1, List.drop_zero, List.drop_succ_cons, List.take_succ_cons, List.take_zero] at h0 h1
  obtain ⟨lv, V, l, q0, hN⟩ := open_Ns h0
  obtain ⟨iv, U, m, q1, hT⟩ := open_Ts h1
  simp only [List.cons.injEq, and_true] at q0 q1
  subst q0 q1
  exact ⟨_, _, V, U, ⟨l, m⟩, rfl, hN, hT⟩

end Go.Proofs.Ytngiidocgjbooaa.Pg
