/-
  The program's escaped text: Go's replacer made, then used once.
-/
import Derived.Test.YtlfmiikpbdhemaaGreatDoorReplacer
import Derived.Laws.Concat
namespace Go.Proofs.YtlfmiikpbdhemaaGreatDoor.Esc
open Go.ChangeShapes Go.WideShapes Go.ChangeAt Go.RowKit Go.PlainAid Go.Maps
open Go.Proofs.YtlfmiikpbdhemaaGreatDoor.Dec Go.Proofs.YtlfmiikpbdhemaaGreatDoor.Lex Go.Proofs.YtlfmiikpbdhemaaGreatDoor.Once
open Go.Proofs.YtlfmiikpbdhemaaGreatDoor.DecPure Go.Proofs.YtlfmiikpbdhemaaGreatDoor.ReadPure Go.Proofs.YtlfmiikpbdhemaaGreatDoor.LexPure
set_option linter.unusedVariables false

def eightL : List Value := [.string ⟨#[10]⟩, .string ⟨#[92, 110]⟩, .string ⟨#[9]⟩, .string ⟨#[92, 116]⟩, .string ⟨#[34]⟩, .string ⟨#[92, 34]⟩, .string ⟨#[92]⟩, .string ⟨#[92, 92]⟩]
theorem Onew.at {w : World} {p : Nat} (h : Onew w p) : ∀ j u, eightL[j]? = some u → w.cell? ((⟨p, 0, none⟩ : Addr).add j) = some u := by
  intro j u hj
  match j, hj with
  | 0, hj => simp [eightL] at hj; subst hj; simpa [Addr.add] using h.c0
  | 1, hj => simp [eightL] at hj; subst hj; simpa [Addr.add] using h.c1
  | 2, hj => simp [eightL] at hj; subst hj; simpa [Addr.add] using h.c2
  | 3, hj => simp [eightL] at hj; subst hj; simpa [Addr.add] using h.c3
  | 4, hj => simp [eightL] at hj; subst hj; simpa [Addr.add] using h.c4
  | 5, hj => simp [eightL] at hj; subst hj; simpa [Addr.add] using h.c5
  | 6, hj => simp [eightL] at hj; subst hj; simpa [Addr.add] using h.c6
  | 7, hj => simp [eightL] at hj; subst hj; simpa [Addr.add] using h.c7
  | j + 8, hj => simp [eightL] at hj
theorem onew_own {w : World} {B g cap : Nat} (h : w.ownsRow B 9 1 (.slice (some ⟨g, 0, none⟩) 8 cap) 8 eightL) : Onew w g := by
  have hl := World.ownsRow.lt h g rfl
  exact ⟨hl.2, by rw [World.ownsRow.cellAt h 0 (by omega)]; rfl, by rw [World.ownsRow.cellAt h 1 (by omega)]; rfl, by rw [World.ownsRow.cellAt h 2 (by omega)]; rfl, by rw [World.ownsRow.cellAt h 3 (by omega)]; rfl, by rw [World.ownsRow.cellAt h 4 (by omega)]; rfl, by rw [World.ownsRow.cellAt h 5 (by omega)]; rfl, by rw [World.ownsRow.cellAt h 6 (by omega)]; rfl, by rw [World.ownsRow.cellAt h 7 (by omega)]; rfl⟩
theorem Onew.same {w w' : World} {p : Nat} (h : Onew w p) (hs : p < w'.heap.size) (hb : w'.heap[p]? = w.heap[p]?) : Onew w' p :=
  ⟨hs, cellOf hb h.c0, cellOf hb h.c1, cellOf hb h.c2, cellOf hb h.c3, cellOf hb h.c4, cellOf hb h.c5, cellOf hb h.c6, cellOf hb h.c7⟩
theorem eight_push {ops : Array Oper} {rest : List Oper} {o : Oper} {a : Act} {Q : Exit → Act → World → Prop} (w : World) (p : Nat)
    (hgd : o.guard = none) (s y : Operand) (ho : o.op = .call { callee := .builtin .append, args := #[s, y], argTypes := #[38, 38] }) (hs : a.eval s = .slice none 0 0) (hy : a.eval y = .slice (some ⟨p, 0, none⟩) 8 8)
    (h : Onew w p)
    (hK : ∀ g cap w1, Onew w1 g → w.heap.size ≤ g → g < w1.heap.size → Below w.heap.size w w1 → wpList Tryz.prog ops Q rest (a.put o.dst (.slice (some ⟨g, 0, none⟩) 8 cap)) w1) :
    wpList Tryz.prog ops Q (o :: rest) a w := by
  obtain ⟨i0, hi, hz0, hz1, hz2⟩ := info_parts infoStr
  refine wpList_append_lies _ hgd s y 38 ho w.heap.size 9 i0 (.string ⟨#[]⟩) 1 16 Tryz.underlying38 hi hz0 hz1 hz2 rfl (by omega) (.slice none 0 0) 0 [] hs (World.ownsRow_nil _ _ _ _) ⟨p, 0, none⟩ 8 8 eightL hy rfl h.at ?_ (by omega) (by unfold maxLen; omega) (by omega) (Nat.le_refl _) _ rfl ?_
  · intro u hu
    simp [eightL] at hu
    rcases hu with rfl | rfl | rfl | rfl | rfl | rfl | rfl | rfl <;> rfl
  · intro g cap w1 hown hgrow _ _
    have ho2 : w1.ownsRow w.heap.size 9 1 (.slice (some ⟨g, 0, none⟩) 8 cap) 8 eightL := hown
    have hl := World.ownsRow.lt ho2 g rfl
    exact hK g cap w1 (onew_own ho2) hl.1 hl.2 ((Below.refl _ _).grown hgrow (Nat.le_refl _) (fun x hx => by cases hx))

/-- What making a replacer leaves. -/
def NewAt (w : World) (e : Ending) (w' : World) : Prop := ∃ (r q cap : Nat) (x : Value), e = .returned (.pointer (some ⟨r, 0, none⟩)) ∧ w.heap.size ≤ r ∧ r < w'.heap.size ∧ w'.cell? ⟨r, 0, none⟩ = some (.int .u32 0) ∧ w'.cell? ⟨r, 1, none⟩ = some (.int .i32 0) ∧ w'.cell? ⟨r, 3, none⟩ = some x ∧ w'.cell? ⟨r, 4, none⟩ = some (.slice (some ⟨q, 0, none⟩) 8 cap) ∧ (∀ i, w'.frozen? ⟨r, i, none⟩ = false) ∧ q ≠ r ∧ Onew w' q ∧ Below w.heap.size w w'

set_option maxRecDepth 100000 in
set_option maxHeartbeats 2000000 in
theorem new_replacer (p : Nat) (w : World) (hp : Onew w p) : Calls Tryz.prog 52 #[.slice (some ⟨p, 0, none⟩) 8 8] w (NewAt w) := by
  have HP := Lib.hid hp
  clear hp
  go_enter Tryz.func52, Tryz.ntmps52
  go_wp2_with (at_builtin; refine eight_push w p rfl _ _ rfl rfl rfl HP.out ?_; intro g cap w1 hn hg1 hg2 hB1; have HN := Lib.hid hn; clear hn)
  go_ret
  refine ⟨w1.heap.size, g, cap, .nilIface, rfl, hB1.size, by simp, ?_, ?_, ?_, ?_, fun i => ?_, by omega, HN.out.same (by simp; omega) (Below.heap_alloc _ _ _ hg2), hB1.alloc hB1.size _⟩
  · rw [World.cell?_alloc_new]; rfl
  · rw [World.cell?_alloc_new]; rfl
  · rw [World.cell?_alloc_new]; rfl
  · rw [World.cell?_alloc_new]; rfl
  · exact World.frozen?_alloc_new _ _ _ _

set_option maxRecDepth 100000 in
set_option maxHeartbeats 2000000 in
theorem escaped_text (s : ByteArray) (hs : s.size ≤ 1048576) (w : World) : Calls Tryz.prog 31 #[.string s] w fun e w' => e = .returned (.string (escS s)) ∧ Below w.heap.size w w' := by
  have hp : Onew (w.alloc (.cells eightL.toArray 9)) w.heap.size :=
    ⟨by simp, by rw [World.cell?_alloc_new]; rfl, by rw [World.cell?_alloc_new]; rfl, by rw [World.cell?_alloc_new]; rfl, by rw [World.cell?_alloc_new]; rfl, by rw [World.cell?_alloc_new]; rfl, by rw [World.cell?_alloc_new]; rfl, by rw [World.cell?_alloc_new]; rfl, by rw [World.cell?_alloc_new]; rfl⟩
  have hn := new_replacer w.heap.size _ hp
  have HN := Lib.hid hn
  clear hp hn
  go_enter Tryz.func31, Tryz.ntmps31
  go_wp2_with fail
  refine HN.out.mono ?_
  rintro e w1 ⟨r, q, cap, x, rfl, hr1, hr2, k0, k1, k3, k4, kz, hqr, hO, hB1⟩
  have hw : w.heap.size ≤ r := by have : (w.alloc (.cells eightL.toArray 9)).heap.size = w.heap.size + 1 := by simp
                                  omega
  have hrep := replace_any w.heap.size r q cap x s hs w1 hw hr2 k0 k1 k3 k4 kz (hO.same (by simpa using hO.lt) (Below.heap_setCell _ _ _ _ hqr))
  have HR := Lib.hid hrep
  have HB1 := Lib.hid (((Below.refl w.heap.size w).alloc (Nat.le_refl _) _).trans (hB1.mono (by simp)))
  clear hrep hB1 hO kz k0 k1 k3 k4 HN
  go_wp2_with fail
  refine HR.out.mono ?_
  rintro e w2 ⟨rfl, hB2⟩
  go_wp2_with fail
  go_ret
  exact ⟨rfl, HB1.out.trans hB2⟩


end Go.Proofs.YtlfmiikpbdhemaaGreatDoor.Esc
