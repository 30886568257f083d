/-
  Go's strings.Replacer over eight fixed texts: what its exported method returns.
-/
import Derived.Test.YtlfmiikpbdhemaaGreatDoorReplace
namespace Go.Proofs.YtlfmiikpbdhemaaGreatDoor.Esc
open Go.ChangeShapes Go.WideShapes Go.ChangeAt Go.RowKit Go.PlainAid Go.Maps
open Go.Proofs.YtlfmiikpbdhemaaGreatDoor.Dec Go.Proofs.YtlfmiikpbdhemaaGreatDoor.Lex Go.Proofs.YtlfmiikpbdhemaaGreatDoor.Once
open Go.Proofs.YtlfmiikpbdhemaaGreatDoor.DecPure Go.Proofs.YtlfmiikpbdhemaaGreatDoor.ReadPure Go.Proofs.YtlfmiikpbdhemaaGreatDoor.LexPure
set_option linter.unusedVariables false

/-- What building leaves: the table, the interface's cell, the Once's cells as they were. -/
def BuiltAt (B r : Nat) (w w' : World) : Prop := ∃ (b : Nat) (f : Nat → Value) (v : Value), Tab w.heap.size w' b 4 f v ∧ r < w.heap.size ∧ w'.cell? ⟨r, 3, none⟩ = some (.iface 117 (.pointer (some ⟨b, 0, none⟩))) ∧ Below B w w' ∧ w'.cell? ⟨r, 0, none⟩ = w.cell? ⟨r, 0, none⟩ ∧ w'.cell? ⟨r, 1, none⟩ = w.cell? ⟨r, 1, none⟩ ∧ (∀ i, w'.frozen? ⟨r, i, none⟩ = w.frozen? ⟨r, i, none⟩)

set_option maxRecDepth 100000 in
set_option maxHeartbeats 2000000 in
theorem build_once (B r q cap : Nat) (x : Value) (w : World) (hB : B ≤ r) (hr : r < w.heap.size) (h3 : w.cell? ⟨r, 3, none⟩ = some x) (h4 : w.cell? ⟨r, 4, none⟩ = some (.slice (some ⟨q, 0, none⟩) 8 cap)) (hz : ∀ i, w.frozen? ⟨r, i, none⟩ = false) (hq : Onew w q) :
    Calls Tryz.prog 69 #[.pointer (some ⟨r, 0, none⟩)] w fun e w' => e = .returned (.tuple #[]) ∧ BuiltAt B r w w' := by
  have HQ := Lib.hid hq
  have HZ := Lib.hid hz
  clear hq hz
  go_enter Tryz.func69, Tryz.ntmps69
  go_wp2_with fail
  refine (build_it r q cap _ h4 HQ.out).mono ?_
  rintro e w1 ⟨b, f, v, rfl, hT, hB1⟩
  have k3 := (hB1.cell (p := ⟨r, 3, none⟩) hr).trans h3
  have k4 := (hB1.cell (p := ⟨r, 4, none⟩) hr).trans h4
  have z3 := (hB1.frozen (p := ⟨r, 3, none⟩) hr).trans (HZ.out 3)
  have z4 := (hB1.frozen (p := ⟨r, 4, none⟩) hr).trans (HZ.out 4)
  have HT := Lib.hid hT
  have HB1 := Lib.hid hB1
  clear hT hB1 h3 h4
  go_wp2_with fail
  go_end0
  have cr : ∀ (y : World) (i : Nat) (u : Value) (x : Nat), x ≠ r → (y.setCell ⟨r, i, none⟩ u).heap[x]? = y.heap[x]? := fun y i u x hx => Below.heap_setCell y _ _ x hx
  refine ⟨rfl, b, f, v, HT.out.same (fun x hx _ => ((cr _ _ _ x (by omega)).trans (cr _ _ _ x (by omega)))), hr, ?_, ((HB1.out.mono (Nat.le_trans hB (Nat.le_of_lt hr))).setCell (p := ⟨r, 3, none⟩) hB _).setCell (p := ⟨r, 4, none⟩) hB _, ?_, ?_, fun i => ?_⟩
  · exact (World.cell?_setCell_other _ _ _ _ (by simp)).trans (World.cell?_setCell_same _ _ _ k3)
  · exact (World.cell?_setCell_other _ _ _ _ (by simp)).trans ((World.cell?_setCell_other _ _ _ _ (by simp)).trans (HB1.out.cell (p := ⟨r, 0, none⟩) hr))
  · exact (World.cell?_setCell_other _ _ _ _ (by simp)).trans ((World.cell?_setCell_other _ _ _ _ (by simp)).trans (HB1.out.cell (p := ⟨r, 1, none⟩) hr))
  · have := HB1.out.frozen (p := ⟨r, i, none⟩) hr
    simpa using this

set_option maxRecDepth 100000 in
set_option maxHeartbeats 4000000 in
theorem replace_any (B r q cap : Nat) (x : Value) (s : ByteArray) (hs : s.size ≤ 1048576) (w : World) (hB : B ≤ r) (hr : r < w.heap.size) (h0 : w.cell? ⟨r, 0, none⟩ = some (.int .u32 0)) (h1 : w.cell? ⟨r, 1, none⟩ = some (.int .i32 0)) (h3 : w.cell? ⟨r, 3, none⟩ = some x) (h4 : w.cell? ⟨r, 4, none⟩ = some (.slice (some ⟨q, 0, none⟩) 8 cap)) (hz : ∀ i, w.frozen? ⟨r, i, none⟩ = false) (hq : Onew (w.setCell ⟨r, 1, none⟩ (.int .i32 1)) q) :
    Calls Tryz.prog 53 #[.pointer (some ⟨r, 0, none⟩), .string s] w fun e w' => e = .returned (.string (escS s)) ∧ Below B w w' := by
  have hin : Calls Tryz.prog 69 #[.pointer (some ⟨r, 0, none⟩)] (w.setCell ⟨r, 1, none⟩ (.int .i32 1)) fun e w' => e = .returned (.tuple #[]) ∧ w'.cell? ⟨r, 0, none⟩ = some (.int .u32 0) ∧ w'.cell? ⟨r, 1, none⟩ = some (.int .i32 1) ∧ w'.frozen? ⟨r, 0, none⟩ = false ∧ w'.frozen? ⟨r, 1, none⟩ = false ∧ BuiltAt B r (w.setCell ⟨r, 1, none⟩ (.int .i32 1)) w' := by
    refine (build_once B r q cap x _ hB (by simpa using hr) ((World.cell?_setCell_other _ _ _ _ (by simp)).trans h3) ((World.cell?_setCell_other _ _ _ _ (by simp)).trans h4) (fun i => by simpa using hz i) hq).mono fun e w' ⟨he, hb⟩ => ?_
    obtain ⟨b, f, v, hT, hr2, k3, hB1, k0, k1, kz⟩ := hb
    exact ⟨he, k0.trans ((World.cell?_setCell_other _ _ _ _ (by simp)).trans h0), k1.trans (World.cell?_setCell_same _ _ _ h1), (kz 0).trans (by simpa using hz 0), (kz 1).trans (by simpa using hz 1), b, f, v, hT, hr2, k3, hB1, k0, k1, kz⟩
  have HIN := Lib.hid hin
  have hz1 := hz 1
  clear hin hz hq h3 h4
  go_enter Tryz.func53, Tryz.ntmps53
  go_wp2_with fail
  refine (do_first r _ _ _ h0 h1 hz1 HIN.out).mono ?_
  rintro e w2 ⟨rfl, hw⟩
  obtain ⟨w1, ⟨b, f, v, hT, hr2, k3, hB1, k0, k1, kz⟩, rfl⟩ := hw
  have cr : ∀ (y : World) (i : Nat) (u : Value) (x : Nat), x ≠ r → (y.setCell ⟨r, i, none⟩ u).heap[x]? = y.heap[x]? := fun y i u x hx => Below.heap_setCell y _ _ x hx
  obtain ⟨w2, hw2⟩ : ∃ w2, w2 = (w1.drew.setCell ⟨r, 0, none⟩ (.int .u32 1)).setCell ⟨r, 1, none⟩ (.int .i32 0) := ⟨_, rfl⟩
  have hT2 : Tab (w.setCell ⟨r, 1, none⟩ (.int .i32 1)).heap.size w2 b 4 f v := by
    subst hw2
    exact hT.same (fun x hx _ => (cr _ _ _ x (by omega)).trans ((cr _ _ _ x (by omega)).trans rfl))
  have c3 : w2.cell? ⟨r, 3, none⟩ = some (.iface 117 (.pointer (some ⟨b, 0, none⟩))) := by
    subst hw2
    refine (World.cell?_setCell_other _ _ _ _ (by simp)).trans ((World.cell?_setCell_other _ _ _ _ (by simp)).trans ?_)
    rw [World.cell?_drew]
    exact k3
  have hB2 : Below B w w2 := by
    subst hw2
    exact (((((Below.refl _ _).setCell (p := ⟨r, 1, none⟩) hB _).trans hB1).drew).setCell (p := ⟨r, 0, none⟩) hB _).setCell (p := ⟨r, 1, none⟩) hB _
  have HT2 := Lib.hid hT2
  have HB2 := Lib.hid hB2
  have hB3 := hB2.size
  rw [← hw2]
  clear hw2 hT hT2 hB2 k3 hB1 k0 k1 kz cr HIN h0 h1 hz1
  go_wp2_with fail
  refine (replace_it _ b f v s w2 HT2.out hs).mono ?_
  rintro e w3 ⟨rfl, hB4⟩
  go_wp2_with fail
  go_ret
  exact ⟨rfl, HB2.out.trans (hB4.mono (Nat.le_trans (Nat.le_trans hB (Nat.le_of_lt hr)) hB3))⟩

end Go.Proofs.YtlfmiikpbdhemaaGreatDoor.Esc
