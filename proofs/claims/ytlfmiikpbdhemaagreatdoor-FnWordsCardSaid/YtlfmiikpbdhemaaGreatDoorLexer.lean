/-
  The program's lexer in memory: its block, its set of keywords, its tokens; what its methods do.
-/
import Derived.Test.YtlfmiikpbdhemaaGreatDoorGotos
import Derived.BigQuiet
import Derived.Deep.RegionLaw
namespace Go.Proofs.YtlfmiikpbdhemaaGreatDoor.Lex
open Go.ChangeShapes Go.WideShapes Go.ChangeAt Go.RowKit Go.PlainAid Go.Maps
open Go.Proofs.YtlfmiikpbdhemaaGreatDoor.Dec
open Go.Proofs.YtlfmiikpbdhemaaGreatDoor.DecPure Go.Proofs.YtlfmiikpbdhemaaGreatDoor.ReadPure Go.Proofs.YtlfmiikpbdhemaaGreatDoor.LexPure
set_option linter.unusedVariables false

def lf (s : ByteArray) (p mb : Nat) (v : Value) : Nat → Value
  | 0 => .string s
  | 1 => .int .i64 p
  | 2 => .map (some mb)
  | _ => v
/-- The lexer lies in block g, its keywords in block mb; behind block g its tokens; everything before block b0 is as it was in w0. -/
structure LX (w0 w : World) (g mb : Nat) (s : ByteArray) (p : Nat) (l : List Tk) : Prop where
  ex : ∃ v, w.rowIs g 44 4 (lf s p mb v) ∧ TR (g + 1) w v l
  map : w.ownsMap Tryz.prog 9 (unitElem (H := Unit)) mb 22 wordsD
  lt : mb < g
  base : w0.heap.size ≤ mb
  below : Below w0.heap.size w0 w
theorem LX.step {w0 w w1 : World} {g mb : Nat} {s : ByteArray} {p : Nat} {l : List Tk} (h : LX w0 w g mb s p l) (hb : Below w.heap.size w w1) : LX w0 w1 g mb s p l := by
  obtain ⟨v, hr, ht⟩ := h.ex
  refine ⟨⟨v, hr.of_block (hb.block g hr.lt), ht.below hb (Nat.le_refl _)⟩, ?_, h.lt, h.base, h.below.trans (hb.mono h.below.size)⟩
  exact h.map.kept (row := none) ⟨hb.os, hb.tape, hb.output, hb.size, fun i hi _ => hb.block i hi⟩ (by simp)
theorem LX.drewN {w0 w : World} {g mb : Nat} {s : ByteArray} {p : Nat} {l : List Tk} (h : LX w0 w g mb s p l) (n : Nat) : LX w0 (w.drewN n) g mb s p l := h.step (bel_drewN (Below.refl _ _) n)
structure LCells (w : World) (g mb : Nat) (s : ByteArray) (p : Nat) : Prop where
  c0 : w.cell? ⟨g, 0, none⟩ = some (.string s)
  c1 : w.cell? ⟨g, 1, none⟩ = some (.int .i64 p)
  c2 : w.cell? ⟨g, 2, none⟩ = some (.map (some mb))
theorem LX.cells {w0 w : World} {g mb : Nat} {s : ByteArray} {p : Nat} {l : List Tk} (h : LX w0 w g mb s p l) : LCells w g mb s p := by
  obtain ⟨v, hr, _⟩ := h.ex
  exact ⟨hr.cell (i := 0) (by omega), hr.cell (i := 1) (by omega), hr.cell (i := 2) (by omega)⟩

theorem grow1 {w w1 : World} {o1 : Obj} {row : Option Nat} (h : ((w.alloc o1).drew).grownBy w1 row) :
    (∀ x, x < w.heap.size → some x ≠ row → w1.heap[x]? = w.heap[x]?) ∧ w.heap.size ≤ w1.heap.size ∧ w1.os = w.os ∧ w1.tape = w.tape ∧ w1.output = w.output := by
  have hsz : ((w.alloc o1).drew).heap.size = w.heap.size + 1 := by show (w.alloc o1).heap.size = _; simp
  refine ⟨fun x hx hr => ?_, by have := h.size; omega, h.os, h.tape, h.output⟩
  rw [h.block x (by omega) hr]
  show (w.alloc o1).heap[x]? = _
  rw [Below.heap_alloc _ _ _ hx]

set_option maxRecDepth 100000 in
set_option maxHeartbeats 4000000 in
theorem lx_add (w0 w : World) (g mb : Nat) (s : ByteArray) (p : Nat) (l : List Tk) (k n pp : Int) (t : ByteArray) (e : Nat) (h : LX w0 w g mb s p l) (hl : l.length ≤ 1048577) (hp : p ≤ 1048576) :
    Calls Tryz.prog 58 #[.pointer (some ⟨g, 0, none⟩), .agg #[.int .i64 k, .string t, .int .i64 n, .int .i64 pp], .int .i64 e] w fun x w' => x = .returned (.tuple #[]) ∧ LX w0 w' g mb s e (l ++ [⟨k, t, n, p⟩]) := by
  obtain ⟨v, hr, ht⟩ := h.ex
  obtain ⟨i0, hi, hz0, hz1, hz2⟩ := info_parts infoTok
  obtain ⟨ao, cap, rfl⟩ := ht.form
  have c1 := hr.cell (i := 1) (by omega)
  have c3 := hr.cell (i := 3) (by omega)
  have z1 := hr.frozen 1
  have z3 := hr.frozen 3
  simp only [lf] at c1 c3
  have hgw := hr.lt
  have HH := Lib.hid h
  have HRW := Lib.hid hr
  have HTR := Lib.hid ht
  clear h hr ht
  have hone : ∀ u ∈ tc4 ⟨k, t, n, p⟩, u.oneCell' = true := by
    intro u hu
    simp only [tc4, List.mem_cons, List.not_mem_nil, or_false] at hu
    rcases hu with rfl | rfl | rfl | rfl <;> rfl
  have HONE := Lib.hid hone; clear hone
  go_enter Tryz.func58, Tryz.ntmps58
  go_wp2_with fail
  obtain ⟨wa, hwa⟩ : ∃ wa, wa = w.alloc (.cells #[.int .i64 k, .string t, .int .i64 n, .int .i64 p] 30) := ⟨_, rfl⟩
  have hsz : wa.heap.size = w.heap.size + 1 := by rw [hwa]; simp
  have hBa : Below w.heap.size w wa := by rw [hwa]; exact (Below.refl w.heap.size w).alloc (Nat.le_refl _) _
  have hTa : TB wa w.heap.size #[.int .i64 k, .string t, .int .i64 n, .int .i64 p] := by rw [hwa]; exact heap_alloc_new w _
  rw [← hwa]
  clear hwa
  have hr2 : wa.rowIs g 44 4 (lf s p mb (.slice ao l.length cap)) := HRW.out.of_block (hBa.block g hgw)
  have ht2 : TR (g + 1) wa (.slice ao l.length cap) l := HTR.out.below hBa (Nat.le_refl _)
  obtain ⟨p0, p1, p2, p3⟩ := hTa.cells4
  have d1 := hr2.cell (i := 1) (by omega)
  have d3 := hr2.cell (i := 3) (by omega)
  have y1 := hr2.frozen 1
  have y3 := hr2.frozen 3
  simp only [lf] at d1 d3
  have hgl : g < wa.heap.size := hr2.lt
  have HB := Lib.hid hBa
  have HR2 := Lib.hid hr2
  have HT2 := Lib.hid ht2
  have hb2 : (wa.alloc (.cells #[.int .i64 k, .string t, .int .i64 n, .int .i64 p] 30)).heap[wa.heap.size]? = some (.cells #[.int .i64 k, .string t, .int .i64 n, .int .i64 p] 30 (0, 0)) := Go.Deep.blk_alloc_new wa _
  have HB2 := Lib.hid hb2
  clear hBa hr2 ht2 hTa hb2 c1 c3 z1 z3
  go_region_law (refine step_append_lies _ rfl (.tmp 15) (.tmp 17) 24 rfl (g + 1) 30 i0 _ 4 40 Tryz.underlying24 hi hz0 hz1 hz2 rfl (by omega) (.slice ao l.length cap) l.length (tokCells l) (by first | rfl | simp [Act.put]) (World.ownsRow.alloc HT2.out _) ⟨wa.heap.size, 0, none⟩ 1 1 (tc4 ⟨k, t, n, p⟩) (by first | rfl | (rw [hsz]; rfl) | simp [Act.put]) rfl (World.news_of_block HB2.out) HONE.out (by omega) (by unfold maxLen; omega) (by omega) (by simp; omega) _ rfl ?_; intro g1 cap1 w1 hown1 hgrow hat hlt1; have hgr := grow1 hgrow; have hgb := hgr.1 g hgl (fun e => by have := ((HT2.out).lt g e.symm).1; omega); have e1 : w1.cell? ⟨g, 1, none⟩ = some (.int .i64 p) := (World.cell?_of_block (w := wa) hgb).trans d1; have e3 : w1.cell? ⟨g, 3, none⟩ = some (.slice ao l.length cap) := (World.cell?_of_block (w := wa) hgb).trans d3; have x1 : w1.frozen? ⟨g, 1, none⟩ = false := (World.frozen?_of_block (w := wa) hgb).trans y1; have x3 : w1.frozen? ⟨g, 3, none⟩ = false := (World.frozen?_of_block (w := wa) hgb).trans y3; have HG1 := Lib.hid hown1; have HGR := Lib.hid hgr; have HAT := Lib.hid hat; have HGB := Lib.hid hgb; clear hown1 hgrow hgr hat hgb)
  all_goals
    go_wp2_with fail
    go_end0
    refine ⟨rfl, ?_⟩
    have hgr := HGR.out
    have hx := HH.out.step (w1 := wa) HB.out
    have hgB : wa.grownBy w1 (Value.slice ao l.length cap).ownBlock := ⟨hgr.2.2.1, hgr.2.2.2.1, hgr.2.2.2.2, hgr.2.1, fun x hx hr => hgr.1 x hx hr⟩
    have hg1 : g + 1 ≤ g1 := (World.ownsRow.lt HG1.out g1 rfl).1
    have hrow := (((HR2.out.of_block HGB.out).set 3 (.slice (some ⟨g1, 0, none⟩) (l.length + 1) cap1)).set 1 (.int .i64 e)).congr (g := lf s e mb (.slice (some ⟨g1, 0, none⟩) (l.length + 1) cap1)) (fun j hj => by
      match j, hj with
      | 0, _ => rfl
      | 1, _ => rfl
      | 2, _ => rfl
      | 3, _ => rfl)
    have htr : TR (g + 1) w1 (.slice (some ⟨g1, 0, none⟩) (l.length + 1) cap1) (l ++ [⟨k, t, n, p⟩]) := by
      unfold TR
      rw [List.length_append, List.length_singleton, tokCells_add]
      exact HG1.out
    have hne : (Value.slice (some ⟨g1, 0, none⟩) (l.length + 1) cap1).ownBlock ≠ some g := by
      intro e
      have : g1 = g := by simpa [Value.ownBlock] using e
      omega
    have hmap : w1.ownsMap Tryz.prog 9 (unitElem (H := Unit)) mb 22 wordsD := hx.map.kept hgB (fun e => by have := (HT2.out.lt mb e.symm).1; have := hx.lt; omega)
    have hlt := hx.lt
    have hbase := hx.base
    refine ⟨⟨_, hrow, (htr.setCell hne _).setCell hne _⟩, (hmap.setCell (by show mb ≠ g; omega) _).setCell (by show mb ≠ g; omega) _, hlt, hbase, ?_⟩
    exact ((hx.below.grown hgB hx.below.size (fun y hy => by have := (HT2.out.lt y hy).1; omega)).setCell (by show _ ≤ g; omega) _).setCell (by show _ ≤ g; omega) _

end Go.Proofs.YtlfmiikpbdhemaaGreatDoor.Lex
