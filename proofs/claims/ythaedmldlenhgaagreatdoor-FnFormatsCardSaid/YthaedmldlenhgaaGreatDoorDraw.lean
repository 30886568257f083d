/-
  What the model's functions that draw inputs from a list of bytes return: numbers in their ranges; they write into their own cursor alone.
-/
import Derived.Test.YthaedmldlenhgaaGreatDoorChecked
import Derived.Test.YthaedmldlenhgaaGreatDoorDecPure
import Derived.WalkKit
import Derived.ProofKit
import Derived.OpenShut
import Derived.Below
import Derived.OwnWalk
import Derived.Laws.OwnMore
import Derived.Laws.BitsAllLaws
import Derived.Laws.BitsLemmas
import Derived.Laws.AppendOwn
import Derived.LoopTactic
import Derived.RegionTactic
import Derived.Deep.QuietTactic
import Derived.BigQuiet
import Derived.Outline
import Derived.Lib.Hide
namespace Go.Proofs.YthaedmldlenhgaaGreatDoor.Draw
open Go.ChangeShapes Go.WideShapes Go.ChangeAt Go.RowKit
open Go.Proofs.YthaedmldlenhgaaGreatDoor.DecPure
set_option linter.unusedVariables false

/-- The bytes of a slice that lies below block B. -/
def Bytes (w : World) (B : Nat) (A : Option Addr) (n : Nat) (Z : Nat → Int) : Prop := ∀ j, j < n → ∃ b off, A = some ⟨b, off, none⟩ ∧ b < B ∧ w.cell? ⟨b, off + j, none⟩ = some (.int .u8 (Z j)) ∧ 0 ≤ Z j ∧ Z j ≤ 255
/-- A block that is known whole. -/
def Blk (w : World) (g : Nat) (t : TypeId) (cs : Array Value) : Prop := w.heap[g]? = some (.cells cs t (0, 0))
theorem Blk.cell {w : World} {g : Nat} {t : TypeId} {cs : Array Value} (h : Blk w g t cs) (i : Nat) : w.cell? ⟨g, i, none⟩ = cs[i]? := cell_of_row w g i cs t (0, 0) h
theorem Blk.frozen {w : World} {g : Nat} {t : TypeId} {cs : Array Value} (h : Blk w g t cs) (i : Nat) : w.frozen? ⟨g, i, none⟩ = false := by
  unfold Blk at h
  simp [World.frozen?, h]
theorem Blk.drew {w : World} {g : Nat} {t : TypeId} {cs : Array Value} (h : Blk w g t cs) : Blk w.drew g t cs := h
theorem Blk.drewN {w : World} {g : Nat} {t : TypeId} {cs : Array Value} (h : Blk w g t cs) (n : Nat) : Blk (w.drewN n) g t cs := h
theorem Blk.set_ {w : World} {g : Nat} {t : TypeId} {cs : Array Value} (h : Blk w g t cs) (i : Nat) (u : Value) : Blk (w.setCell ⟨g, i, none⟩ u) g t (cs.setIfInBounds i u) := by
  unfold Blk at h ⊢
  simp [World.setCell, Array.getElem?_modify, h]
theorem Blk.lt {w : World} {g : Nat} {t : TypeId} {cs : Array Value} (h : Blk w g t cs) : g < w.heap.size := by
  rcases Nat.lt_or_ge g w.heap.size with hlt | hge
  · exact hlt
  · unfold Blk at h; rw [Array.getElem?_eq_none hge] at h; cases h
theorem Blk.alloc {w : World} {g : Nat} {t : TypeId} {cs : Array Value} (h : Blk w g t cs) (o : Obj) : Blk (w.alloc o) g t cs := (Below.heap_alloc w o g h.lt).trans h
/-- The cursor: it lies in block g, from B on; its bytes below B. -/
def Cur (w : World) (B g : Nat) (A : Option Addr) (n cap : Nat) (Z : Nat → Int) : Prop := B ≤ g ∧ n ≤ 9223372036854775807 ∧ Bytes w B A n Z ∧ ∃ (k : Nat) (h : Int), k ≤ n ∧ Blk w g 91 #[.slice A n cap, .int .i64 k, .int .i64 h]
/-- Only block g, and what is new, has turned. -/
def Only (w w' : World) (g : Nat) : Prop := w.grownBy w' (some g)
theorem Only.refl (w : World) (g : Nat) : Only w w g := ⟨rfl, rfl, rfl, Nat.le_refl _, fun _ _ _ => rfl⟩
theorem Only.drew {w w' : World} {g : Nat} (h : Only w w' g) : Only w w'.drew g := ⟨h.os, h.tape, h.output, h.size, h.block⟩
theorem Only.drewN {w w' : World} {g : Nat} (h : Only w w' g) (n : Nat) : Only w (w'.drewN n) g := ⟨h.os, h.tape, h.output, h.size, h.block⟩
theorem Only.set_ {w w' : World} {g : Nat} (h : Only w w' g) (i : Nat) (u : Value) : Only w (w'.setCell ⟨g, i, none⟩ u) g :=
  ⟨h.os, h.tape, h.output, by simpa [World.setCell] using h.size, fun j hj hne => (Below.heap_setCell w' ⟨g, i, none⟩ u j (by rintro rfl; exact hne rfl)).trans (h.block j hj hne)⟩
theorem Only.alloc {w w' : World} {g : Nat} (h : Only w w' g) (o : Obj) : Only w (w'.alloc o) g :=
  ⟨h.os, h.tape, h.output, Nat.le_trans h.size (by simp), fun j hj hne => (Below.heap_alloc w' o j (Nat.lt_of_lt_of_le hj h.size)).trans (h.block j hj hne)⟩
theorem Only.trans {a b c : World} {g : Nat} (h : Only a b g) (k : Only b c g) : Only a c g :=
  ⟨k.os.trans h.os, k.tape.trans h.tape, k.output.trans h.output, Nat.le_trans h.size k.size, fun j hj hne => (k.block j (Nat.lt_of_lt_of_le hj h.size) hne).trans (h.block j hj hne)⟩
theorem Only.below {B : Nat} {w w' : World} {g : Nat} (h : Only w w' g) (hB : B ≤ g) (hw : B ≤ w.heap.size) : Below B w w' :=
  ⟨h.os, h.tape, h.output, h.size, fun j hj => h.block j (by omega) (by simp; omega)⟩
theorem Bytes.keep {w w' : World} {B : Nat} {A : Option Addr} {n : Nat} {Z : Nat → Int} (h : Bytes w B A n Z) (hb : Below B w w') : Bytes w' B A n Z := fun j hj => by
  obtain ⟨b, off, e, hlt, hc, hz⟩ := h j hj
  exact ⟨b, off, e, hlt, (hb.cell (p := ⟨b, off + j, none⟩) hlt).trans hc, hz⟩
theorem and255 (a : Int) : 0 ≤ bits .and .i64 a 255 ∧ bits .and .i64 a 255 ≤ 255 := by
  have e : bits .and .i64 a 255 = IntKind.i64.wrap ((BitVec.ofInt 64 a &&& BitVec.ofInt 64 255).toNat : Int) := rfl
  rw [e, BitVec.toNat_and]
  have h : (BitVec.ofInt 64 a).toNat &&& (BitVec.ofInt 64 255).toNat ≤ 255 := Nat.and_le_right
  rw [IntKind.wrap_i64]
  omega

/-- What a draw of one byte leaves. -/
def ByteEnd (w : World) (g : Nat) (A : Option Addr) (n cap k : Nat) (e : Ending) (w' : World) : Prop :=
  ∃ x : Int, e = .returned (.int .i64 x) ∧ (0 ≤ x ∧ x ≤ 255) ∧ (∃ h' : Int, Blk w' g 91 #[.slice A n cap, .int .i64 k, .int .i64 h']) ∧ Only w w' g

set_option maxHeartbeats 1000000 in
theorem byte_more (w : World) (B g b off k n cap : Nat) (h z : Int) (hg : B ≤ g) (hb : b < B) (hk : k < n) (hn : n ≤ 9223372036854775807) (hz : 0 ≤ z ∧ z ≤ 255)
    (hc : w.cell? ⟨b, off + k, none⟩ = some (.int .u8 z)) (hB : Blk w g 91 #[.slice (some ⟨b, off, none⟩) n cap, .int .i64 k, .int .i64 h]) :
    Calls Tryz.prog 53 #[.pointer (some ⟨g, 0, none⟩)] w (ByteEnd w g (some ⟨b, off, none⟩) n cap (k + 1)) := by
  have c0 := hB.cell 0
  have c1 := hB.cell 1
  have c2 := hB.cell 2
  have f1 := hB.frozen 1
  have f2 := hB.frozen 2
  simp at c0 c1 c2
  have hne : b ≠ g := by omega
  have HB := Lib.hid hB; clear hB
  have i0 : (0 : Int) ≤ (k : Int) := by omega
  have i1 : (k : Int) < (n : Int) := by omega
  go_enter Tryz.func53, Tryz.ntmps53
  go_wp2
  go_quiet (fail)
  go_wp2
  go_quiet (fail)
  go_wp2
  go_quiet (fail)
  go_wp2
  go_ret
  exact ⟨_, rfl, and255 _, ⟨_, by simpa using ((HB.out.set_ 2 _).drewN _).set_ 1 _⟩, (((Only.refl _ _).set_ 2 _).drewN _).set_ 1 _⟩

set_option maxHeartbeats 1000000 in
theorem byte_none (w : World) (B g n cap : Nat) (A : Option Addr) (h : Int) (hg : B ≤ g) (hn : n ≤ 9223372036854775807)
    (hB : Blk w g 91 #[.slice A n cap, .int .i64 n, .int .i64 h]) :
    Calls Tryz.prog 53 #[.pointer (some ⟨g, 0, none⟩)] w (ByteEnd w g A n cap n) := by
  have c0 := hB.cell 0
  have c1 := hB.cell 1
  have c2 := hB.cell 2
  have f1 := hB.frozen 1
  have f2 := hB.frozen 2
  simp at c0 c1 c2
  have HB := Lib.hid hB; clear hB
  go_enter Tryz.func53, Tryz.ntmps53
  go_wp2
  go_quiet (fail)
  go_wp2
  go_quiet (fail)
  go_wp2
  go_ret
  exact ⟨_, rfl, and255 _, ⟨_, by simpa using (HB.out.set_ 2 _).drewN _⟩, by first | exact ((Only.refl _ _).set_ 2 _).drewN _ | exact (((Only.refl _ _).set_ 2 _).drewN _).drewN _⟩

/-- What a draw says: a number of which P holds, and the cursor again. -/
def Drawn (P : Int → Prop) (w : World) (B g : Nat) (A : Option Addr) (n cap : Nat) (Z : Nat → Int) (e : Ending) (w' : World) : Prop := ∃ x : Int, e = .returned (.int .i64 x) ∧ P x ∧ Cur w' B g A n cap Z ∧ Only w w' g
theorem Drawn.weak {P Q : Int → Prop} {w : World} {B g : Nat} {A : Option Addr} {n cap : Nat} {Z : Nat → Int} {e : Ending} {w' : World} (h : Drawn P w B g A n cap Z e w') (hq : ∀ x, P x → Q x) : Drawn Q w B g A n cap Z e w' := by
  obtain ⟨x, a, b, c, d⟩ := h; exact ⟨x, a, hq x b, c, d⟩

theorem byte_any (w : World) (B g : Nat) (A : Option Addr) (n cap : Nat) (Z : Nat → Int) (hc : Cur w B g A n cap Z) :
    Calls Tryz.prog 53 #[.pointer (some ⟨g, 0, none⟩)] w (Drawn (fun x => 0 ≤ x ∧ x ≤ 255) w B g A n cap Z) := by
  obtain ⟨hg, hn, hby, k, h, hk, hB⟩ := hc
  have hsz := hB.lt
  by_cases hlt : k < n
  · obtain ⟨b, off, rfl, hb, hcell, hz⟩ := hby k hlt
    exact (byte_more w B g b off k n cap h (Z k) hg hb hlt hn hz hcell hB).mono fun e w' ⟨x, he, hx, ⟨h', hB'⟩, ho⟩ =>
      ⟨x, he, hx, ⟨hg, hn, hby.keep (ho.below hg (by omega)), k + 1, h', hlt, hB'⟩, ho⟩
  · obtain rfl : k = n := by omega
    exact (byte_none w B g k cap A h hg hn hB).mono fun e w' ⟨x, he, hx, ⟨h', hB'⟩, ho⟩ =>
      ⟨x, he, hx, ⟨hg, hn, hby.keep (ho.below hg (by omega)), k, h', Nat.le_refl _, hB'⟩, ho⟩

set_option maxHeartbeats 1000000 in
theorem below_small (w : World) (B g : Nat) (A : Option Addr) (n cap : Nat) (Z : Nat → Int) (hc : Cur w B g A n cap Z) (m : Int) (h1 : 1 ≤ m) (h2 : m ≤ 256) :
    Calls Tryz.prog 18 #[.pointer (some ⟨g, 0, none⟩), .int .i64 m] w (Drawn (fun x => 0 ≤ x ∧ x < m) w B g A n cap Z) := by
  have hm : m ≠ 0 := by omega
  have d1 : decide (m ≤ 0) = false := by simp; omega
  go_enter Tryz.func18, Tryz.ntmps18
  go_wp2_with fail
  refine (byte_any _ B g A n cap Z hc).mono ?_
  rintro e w1 ⟨x, rfl, hx, hc1, ho⟩
  have HC := Lib.hid hc1; clear hc1
  have HO := Lib.hid ho; clear ho
  go_wp2_with fail
  go_ret
  exact ⟨_, rfl, ⟨Int.emod_nonneg _ hm, Int.emod_lt_of_pos _ (by omega)⟩, HC.out, HO.out⟩

set_option maxHeartbeats 1000000 in
theorem below_big (w : World) (B g : Nat) (A : Option Addr) (n cap : Nat) (Z : Nat → Int) (hc : Cur w B g A n cap Z) (m : Int) (h1 : 256 < m) (h2 : m ≤ 9223372036854775807) :
    Calls Tryz.prog 18 #[.pointer (some ⟨g, 0, none⟩), .int .i64 m] w (Drawn (fun x => 0 ≤ x ∧ x < m) w B g A n cap Z) := by
  have hm : m ≠ 0 := by omega
  have d1 : decide (m ≤ 0) = false := by simp; omega
  have d2 : decide (m ≤ 256) = false := by simp; omega
  go_enter Tryz.func18, Tryz.ntmps18
  go_wp2_with fail
  refine (byte_any _ B g A n cap Z hc).mono ?_
  rintro e w1 ⟨x1, rfl, hx1, hc1, ho1⟩
  have HC1 := Lib.hid hc1; clear hc1
  have HO1 := Lib.hid ho1; clear ho1
  go_wp2_with fail
  refine (byte_any _ B g A n cap Z HC1.out).mono ?_
  rintro e w2 ⟨x2, rfl, hx2, hc2, ho2⟩
  have HC2 := Lib.hid hc2; clear hc2
  have HO2 := Lib.hid ho2; clear ho2
  go_wp2_with fail
  refine (byte_any _ B g A n cap Z HC2.out).mono ?_
  rintro e w3 ⟨x3, rfl, hx3, hc3, ho3⟩
  have HC3 := Lib.hid hc3; clear hc3
  have HO3 := Lib.hid ho3; clear ho3
  go_wp2_with fail
  refine (byte_any _ B g A n cap Z HC3.out).mono ?_
  rintro e w4 ⟨x4, rfl, hx4, hc4, ho4⟩
  have HC4 := Lib.hid hc4; clear hc4
  have HO4 := Lib.hid ho4; clear ho4
  go_wp2_with fail
  go_ret
  exact ⟨_, rfl, ⟨Int.emod_nonneg _ hm, Int.emod_lt_of_pos _ (by omega)⟩, HC4.out, HO1.out.trans (HO2.out.trans (HO3.out.trans HO4.out))⟩

theorem below_any (w : World) (B g : Nat) (A : Option Addr) (n cap : Nat) (Z : Nat → Int) (hc : Cur w B g A n cap Z) (m : Int) (h1 : 1 ≤ m) (h2 : m ≤ 9223372036854775807) :
    Calls Tryz.prog 18 #[.pointer (some ⟨g, 0, none⟩), .int .i64 m] w (Drawn (fun x => 0 ≤ x ∧ x < m) w B g A n cap Z) := by
  by_cases h : m ≤ 256
  · exact below_small w B g A n cap Z hc m h1 h
  · exact below_big w B g A n cap Z hc m (by omega) h2

set_option maxHeartbeats 1000000 in
theorem pick_any (w : World) (B g : Nat) (A : Option Addr) (n cap : Nat) (Z : Nat → Int) (hc : Cur w B g A n cap Z) (q : Nat) (cs : List Int) (hq : Blk w q 3 (cs.map (Value.int .i64)).toArray) (hqg : q ≠ g) (hl : 1 ≤ cs.length) (hl2 : cs.length ≤ 1000000)
    (P : Int → Prop) (hP : ∀ x ∈ cs, P x) :
    Calls Tryz.prog 87 #[.pointer (some ⟨g, 0, none⟩), .slice (some ⟨q, 0, none⟩) cs.length cs.length] w (Drawn P w B g A n cap Z) := by
  have HQ := Lib.hid hq
  have hqs := hq.lt
  clear hq
  have HP := Lib.hid hP; clear hP
  go_enter Tryz.func87, Tryz.ntmps87
  go_wp2_with fail
  refine (below_any _ B g A n cap Z hc cs.length (by omega) (by omega)).mono ?_
  rintro e w1 ⟨x, rfl, hx, hc1, ho⟩
  obtain ⟨j, rfl⟩ := Int.eq_ofNat_of_zero_le hx.1
  have hj : j < cs.length := by omega
  have hcell : w1.cell? ⟨q, j, none⟩ = some (.int .i64 cs[j]) := by
    rw [World.cell?_of_block (ho.block q hqs (by simpa using hqg)), HQ.out.cell j]
    simp [hj]
  have HC := Lib.hid hc1; clear hc1
  have HO := Lib.hid ho; clear ho
  have i0 : (0 : Int) ≤ (j : Int) := by omega
  have i1 : (j : Int) < (cs.length : Int) := by omega
  obtain ⟨y, hy⟩ : ∃ y, y = cs[j] := ⟨_, rfl⟩
  rw [← hy] at hcell
  have HY := Lib.hid hy; clear hy
  go_wp2_with fail
  go_ret
  exact ⟨_, rfl, HP.out _ (by rw [HY.out]; exact List.getElem_mem _), HC.out, HO.out⟩

theorem Cur.alloc {w : World} {B g : Nat} {A : Option Addr} {n cap : Nat} {Z : Nat → Int} (h : Cur w B g A n cap Z) (o : Obj) : Cur (w.alloc o) B g A n cap Z := by
  obtain ⟨hg, hn, hby, k, v, hk, hB⟩ := h
  have hl := hB.lt
  exact ⟨hg, hn, hby.keep ((Below.refl _ _).alloc (by omega) _), k, v, hk, hB.alloc o⟩

theorem pick_new (w : World) (B g : Nat) (A : Option Addr) (n cap : Nat) (Z : Nat → Int) (hc : Cur w B g A n cap Z) (hgl : g < w.heap.size) (cs : List Int) (arr : Array Value) (ha : arr = (cs.map (Value.int .i64)).toArray) (L : Nat) (hL : cs.length = L) (hl : 1 ≤ L) (hl2 : L ≤ 1000000)
    (P : Int → Prop) (hP : ∀ x ∈ cs, P x) :
    Calls Tryz.prog 87 #[.pointer (some ⟨g, 0, none⟩), .slice (some ⟨w.heap.size, 0, none⟩) L L] (w.alloc (.cells arr 3)) (Drawn P w B g A n cap Z) := by
  subst ha; subst hL
  refine (pick_any (w.alloc (.cells _ 3)) B g A n cap Z (hc.alloc _) w.heap.size cs (heap_alloc_new w _) (by omega) hl hl2 P hP).mono ?_
  rintro e w' ⟨x, he, hx, hc', ho⟩
  exact ⟨x, he, hx, hc', ((Only.refl w g).alloc _).trans ho⟩

/-- Is it an int of 64 bits? -/
def I64 (x : Int) : Prop := -9223372036854775808 ≤ x ∧ x ≤ 9223372036854775807

set_option maxHeartbeats 2000000 in
theorem num_any (w : World) (B g : Nat) (A : Option Addr) (n cap : Nat) (Z : Nat → Int) (hc : Cur w B g A n cap Z) :
    Calls Tryz.prog 55 #[.pointer (some ⟨g, 0, none⟩)] w (Drawn I64 w B g A n cap Z) := by
  go_enter Tryz.func55, Tryz.ntmps55
  go_wp2_with fail
  refine (below_any _ B g A n cap Z hc 4 (by omega) (by omega)).mono ?_
  rintro e w1 ⟨x, rfl, hx, hc1, ho1⟩
  have hcs : x = 0 ∨ x = 1 ∨ 2 ≤ x := by omega
  have hgl : g < w1.heap.size := by obtain ⟨_, _, _, _, _, _, hb⟩ := hc1; exact hb.lt
  rcases hcs with rfl | rfl | hx2
  · have HC1 := Lib.hid hc1; clear hc1
    have HO1 := Lib.hid ho1; clear ho1
    go_wp2_with fail
    refine (pick_new w1 B g A n cap Z HC1.out hgl [0, 1, -1, 1000000, -1000000, 9000000000000, -9000000000000, 9000000000001, -9000000000001, 500000, 4611686018427387904, 3000000] _ rfl 12 rfl (by omega) (by omega) I64 (by unfold I64; intro x hx; simp at hx; omega)).mono ?_
    rintro e w2 ⟨y, rfl, hy, hc2, ho2⟩
    have HC2 := Lib.hid hc2; clear hc2
    have HO2 := Lib.hid ho2; clear ho2
    have HY := Lib.hid hy; clear hy
    go_wp2_with fail
    go_ret
    exact ⟨_, rfl, HY.out, HC2.out, HO1.out.trans HO2.out⟩
  · have HC1 := Lib.hid hc1; clear hc1
    have HO1 := Lib.hid ho1; clear ho1
    go_wp2_with fail
    refine (below_any _ B g A n cap Z HC1.out 4294967296 (by omega) (by omega)).mono ?_
    rintro e w2 ⟨y, rfl, hy, hc2, ho2⟩
    have HC2 := Lib.hid hc2; clear hc2
    have HO2 := Lib.hid ho2; clear ho2
    go_wp2_with fail
    go_ret
    exact ⟨_, rfl, ⟨by omega, by omega⟩, HC2.out, HO1.out.trans HO2.out⟩
  · have HC1 := Lib.hid hc1; clear hc1
    have HO1 := Lib.hid ho1; clear ho1
    have e0 : (x == 0) = false := by simp; omega
    have e1 : (x == 1) = false := by simp; omega
    go_wp2_with fail
    refine (below_any _ B g A n cap Z HC1.out 30 (by omega) (by omega)).mono ?_
    rintro e w2 ⟨y, rfl, hy, hc2, ho2⟩
    have HC2 := Lib.hid hc2; clear hc2
    have HO2 := Lib.hid ho2; clear ho2
    have hgl2 : g < w2.heap.size := by have := HO2.out.size; omega
    go_wp2_with fail
    refine (pick_new w2 B g A n cap Z HC2.out hgl2 [0, 0, 500000, 250000, 1] _ rfl 5 rfl (by omega) (by omega) (fun x => 0 ≤ x ∧ x ≤ 500000) (by intro x hx; simp at hx; omega)).mono ?_
    rintro e w3 ⟨u, rfl, hu, hc3, ho3⟩
    have HC3 := Lib.hid hc3; clear hc3
    have HO3 := Lib.hid ho3; clear ho3
    go_wp2_with fail
    go_ret
    exact ⟨_, rfl, ⟨by omega, by omega⟩, HC3.out, HO1.out.trans (HO2.out.trans HO3.out)⟩

/-- A new cursor over the bytes. -/
def NewCur (w : World) (A : Option Addr) (n cap : Nat) (Z : Nat → Int) (e : Ending) (w' : World) : Prop := ∃ g : Nat, e = .returned (.pointer (some ⟨g, 0, none⟩)) ∧ Cur w' w.heap.size g A n cap Z ∧ Below w.heap.size w w'

set_option maxRecDepth 100000 in
set_option maxHeartbeats 1000000 in
theorem new_any (w : World) (A : Option Addr) (n cap : Nat) (Z : Nat → Int) (hn : n ≤ 9223372036854775807) (hb : Bytes w w.heap.size A n Z) :
    Calls Tryz.prog 16 #[.slice A n cap] w (NewCur w A n cap Z) := by
  have HB := Lib.hid hb; clear hb
  go_enter Tryz.func16, Tryz.ntmps16
  go_wp2
  go_loop [3, 4] (fun v i => ∃ (k : Nat) (h : Int), k ≤ n ∧ i = .int .i64 k ∧ v = .int .i64 h) (fun _ i => n - (intOf i).toNat)
  case atStart => exact ⟨0, _, Nat.zero_le _, rfl, rfl⟩
  case round =>
    obtain ⟨k, h, hk, rfl, rfl⟩ := hrel
    by_cases hlt : k < n
    · by_cases h4 : k < 4000
      · obtain ⟨b, off, rfl, hb, hcell, hz⟩ := HB.out k hlt
        have i0 : (0 : Int) ≤ (k : Int) := by omega
        have i1 : (k : Int) < (n : Int) := by omega
        go_wp2
        go_round
        case rel => exact ⟨k + 1, _, by omega, by go_num, rfl⟩
        case measure => simp [intOf]; omega
      · have d1 : decide ((k : Int) < 4000) = false := by simp; omega
        go_wp2
        go_ret
        exact ⟨_, rfl, ⟨Nat.le_refl _, hn, HB.out.keep ((Below.refl _ _).alloc (Nat.le_refl _) _), 0, h, Nat.zero_le _, heap_alloc_new w _⟩, (Below.refl _ _).alloc (Nat.le_refl _) _⟩
    · have d1 : decide (k < n) = false := by simpa using hlt
      go_wp2
      go_ret
      exact ⟨_, rfl, ⟨Nat.le_refl _, hn, HB.out.keep ((Below.refl _ _).alloc (Nat.le_refl _) _), 0, h, Nat.zero_le _, heap_alloc_new w _⟩, (Below.refl _ _).alloc (Nat.le_refl _) _⟩

/-- Two drawn numbers. -/
def PairEnd (w : World) (e : Ending) (w' : World) : Prop := ∃ a b : Int, e = .returned (.tuple #[.int .i64 a, .int .i64 b]) ∧ I64 a ∧ I64 b ∧ Below w.heap.size w w'








/-- One drawn number. -/
def OneEnd (w : World) (e : Ending) (w' : World) : Prop := ∃ a : Int, e = .returned (.int .i64 a) ∧ I64 a ∧ Below w.heap.size w w'






end Go.Proofs.YthaedmldlenhgaaGreatDoor.Draw
