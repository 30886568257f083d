/-
  Go's strings.Replacer over eight fixed texts: what its building lays.
-/
import Derived.Test.YtlfmiikpbdhemaaGreatDoorTab
import Derived.Deep.WholeRow
import Derived.OwnWalk
import Derived.WalkSpells
import Derived.Lib.SliceRun
namespace Go.Proofs.YtlfmiikpbdhemaaGreatDoor.Esc
open Go.ChangeShapes Go.WideShapes Go.ChangeAt Go.RowKit Go.PlainAid Go.Maps
open Go.Proofs.YtlfmiikpbdhemaaGreatDoor.Dec Go.Proofs.YtlfmiikpbdhemaaGreatDoor.Lex
open Go.Proofs.YtlfmiikpbdhemaaGreatDoor.DecPure Go.Proofs.YtlfmiikpbdhemaaGreatDoor.ReadPure Go.Proofs.YtlfmiikpbdhemaaGreatDoor.LexPure
set_option linter.unusedVariables false

theorem infoStr : (Tryz.prog.info? 9).map (fun i => (i.zero, i.size, i.bytes)) = some (some (.string ⟨#[]⟩), 1, 16) := by kernel_rfl
/-- The eight texts in a block. -/
structure Onew (w : World) (q : Nat) : Prop where
  lt : q < w.heap.size
  c0 : w.cell? ⟨q, 0, none⟩ = some (.string ⟨#[10]⟩)
  c1 : w.cell? ⟨q, 1, none⟩ = some (.string ⟨#[92, 110]⟩)
  c2 : w.cell? ⟨q, 2, none⟩ = some (.string ⟨#[9]⟩)
  c3 : w.cell? ⟨q, 3, none⟩ = some (.string ⟨#[92, 116]⟩)
  c4 : w.cell? ⟨q, 4, none⟩ = some (.string ⟨#[34]⟩)
  c5 : w.cell? ⟨q, 5, none⟩ = some (.string ⟨#[92, 34]⟩)
  c6 : w.cell? ⟨q, 6, none⟩ = some (.string ⟨#[92]⟩)
  c7 : w.cell? ⟨q, 7, none⟩ = some (.string ⟨#[92, 92]⟩)

theorem zc_eq : Tryz.zeroCells116 = (List.replicate 257 (Value.slice none 0 0)).toArray := by kernel_rfl
theorem set_size (n k : Nat) (d v : Value) : (((List.replicate n d).toArray.toList.set k v).toArray).size = n := by simp
theorem set_at (n k i : Nat) (d v : Value) (hi : i < n) : (((List.replicate n d).toArray.toList.set k v).toArray)[i]? = some (if i = k then v else d) := by
  rw [List.getElem?_toArray, List.getElem?_set]
  by_cases e : i = k
  · subst e; simp [hi]
  · rw [if_neg (fun h => e h.symm), if_neg e]
    simp [hi]
theorem set_mem (n k : Nat) (d v x : Value) (h : x ∈ (List.replicate n d).toArray.toList.set k v) : x = d ∨ x = v := by
  rcases List.mem_or_eq_of_mem_set h with h | h
  · exact .inl (List.eq_of_mem_replicate (by simpa using h))
  · exact .inr h
noncomputable def tabC (v : Value) : Array Value := (Tryz.zeroCells116.toList.set 256 v).toArray
theorem tabC_size (v : Value) : (tabC v).size = 257 := by unfold tabC; rw [zc_eq]; exact set_size _ _ _ _
theorem tabC_at (v : Value) (i : Nat) (hi : i < 257) : (tabC v)[i]? = some (if i = 256 then v else .slice none 0 0) := by unfold tabC; rw [zc_eq]; exact set_at _ _ _ _ _ hi
theorem store_new (w : World) (v : Value) (hv : v.oneCell' = true) : (storeCells ⟨w.heap.size, 0, none⟩ (Tryz.zeroCells116.toList.set 256 v)).run Tryz.prog (w.alloc (.cells Tryz.zeroCells116 116)) = .ok () (w.alloc (.cells (tabC v) 116)) := by
  refine run_storeCells_new (P := Tryz.prog) w 116 Tryz.zeroCells116 (tabC v) ?_ ?_ ?_
  · rw [tabC_size]; kernel_rfl
  · rw [tabC_size]; kernel_rfl
  · rw [← Array.all_toList]
    refine List.all_eq_true.2 fun x hx => ?_
    have hx' : x ∈ Tryz.zeroCells116.toList.set 256 v := hx
    rw [zc_eq] at hx'
    rcases set_mem _ _ _ _ _ hx' with rfl | rfl
    · rfl
    · exact hv

theorem Tab.mid {lo b m : Nat} {w w1 : World} {f : Nat → Value} {v : Value} (h : Tab lo w b m f v) (hg : w.grownBy w1 v.ownBlock) (o : Nat) (ho : o < 256) (hn : ¬ dn m o) (V : Value) (t : ByteArray) :
    (Go.Lib.bytesWorld (w1.setCell ⟨b, 256, none⟩ V) 5 t).cell? ⟨b, o, none⟩ = some (.slice none 0 0) ∧ (Go.Lib.bytesWorld (w1.setCell ⟨b, 256, none⟩ V) 5 t).frozen? ⟨b, o, none⟩ = false ∧ w1.cell? ⟨b, 256, none⟩ = some v ∧ w1.frozen? ⟨b, 256, none⟩ = false := by
  obtain ⟨C, fz, hC⟩ := row_heap h.row
  have hb1 := hg.block b (heap_lt hC) (own_ne h.own hC (by decide))
  have hsz : (w1.setCell ⟨b, 256, none⟩ V).heap.size = w1.heap.size := by simp [World.setCell]
  have hr1 := h.row.of_block hb1
  have hr3 := (hr1.set 256 V).of_block (Go.Lib.bytesWorld_at_old (w1.setCell ⟨b, 256, none⟩ V) 5 t b (by rw [hsz]; exact heap_lt (hb1.trans hC)))
  refine ⟨?_, hr3.frozen o, ?_, hr1.frozen 256⟩
  · rw [hr3.cell (by omega), if_neg (by omega), h.no o ho hn]
  · rw [hr1.cell (by omega), h.last]
theorem below_bytes {B : Nat} {a w : World} (h : Below B a w) (hB : B ≤ w.heap.size) (e : TypeId) (t : ByteArray) : Below B a (Go.Lib.bytesWorld w e t) :=
  ⟨h.os, h.tape, h.output, by rw [Go.Lib.bytesWorld_size]; exact Nat.le_trans h.size (Nat.le_succ _), fun k hk => (Go.Lib.bytesWorld_at_old w e t k (Nat.lt_of_lt_of_le hk hB)).trans (h.block k hk)⟩
/-- Appending a literal of one text, made behind another new block. -/
theorem str_push {ops : Array Oper} {rest : List Oper} {o : Oper} {a : Act} {Q : Exit → Act → World → Prop} (B : Nat) (w : World) (o1 : Obj) (v : Value) (L : List ByteArray) (n : Nat) (hn : L.length = n) (x : ByteArray)
    (hgd : o.guard = none) (s y : Operand) (ho : o.op = .call { callee := .builtin .append, args := #[s, y], argTypes := #[38, 38] }) (hs : a.eval s = v) (hy : a.eval y = .slice (some ⟨w.heap.size + 1, 0, none⟩) 1 1)
    (h : w.ownsRow B 9 1 v n (L.map Value.string)) (hL : n ≤ 1000) (hB : B ≤ w.heap.size)
    (hK : ∀ g cap w1, w1.ownsRow B 9 1 (.slice (some ⟨g, 0, none⟩) (n + 1) cap) (n + 1) ((L ++ [x]).map Value.string) → w.grownBy w1 v.ownBlock → wpList Tryz.prog ops Q rest (a.put o.dst (.slice (some ⟨g, 0, none⟩) (n + 1) cap)) w1) :
    wpList Tryz.prog ops Q (o :: rest) a ((w.alloc o1).alloc (.cells #[.string x] 9)) := by
  subst hn
  obtain ⟨i0, hi, hz0, hz1, hz2⟩ := info_parts infoStr
  have hsz : (w.alloc o1).heap.size = w.heap.size + 1 := by simp
  refine wpList_append_lies _ hgd s y 38 ho B 9 i0 (.string ⟨#[]⟩) 1 16 Tryz.underlying38 hi hz0 hz1 hz2 rfl (by omega) v L.length _ hs (World.ownsRow.alloc (World.ownsRow.alloc h _) _) ⟨w.heap.size + 1, 0, none⟩ 1 1 [.string x] hy rfl ?_ ?_ (by omega) (by unfold maxLen; omega) (by omega) (by simp; omega) _ rfl ?_
  · intro j u hj
    match j, hj with
    | 0, hj =>
      simp at hj
      subst hj
      have := cell_of_row ((w.alloc o1).alloc (.cells #[.string x] 9)) (w.heap.size + 1) 0 #[.string x] 9 (0, 0) (by have := heap_alloc_new (w.alloc o1) (.cells #[.string x] 9); rw [hsz] at this; exact this)
      simp [Addr.add]
  · intro u hu; simp at hu; subst hu; rfl
  · intro g cap w1 hown hgrow _ _
    refine hK g cap w1 ?_ (((World.grownBy_alloc w _ _).trans (World.grownBy_alloc (w.alloc o1) _ _)).trans hgrow)
    rw [List.map_append]
    exact hown
theorem dn_step (m : Nat) (hm : m < 4) (i : Nat) : dn (m + 1) i ↔ (dn m i ∨ i = [92, 34, 9, 10].getD m 0) := by
  unfold dn
  match m, hm with
  | 0, _ => simp
  | 1, _ => simp
  | 2, _ => simp; omega
  | 3, _ => simp; omega

set_option maxRecDepth 100000 in
set_option maxHeartbeats 4000000 in
theorem build_it (r q cap : Nat) (w : World) (hr : w.cell? ⟨r, 4, none⟩ = some (.slice (some ⟨q, 0, none⟩) 8 cap)) (hq : Onew w q) :
    Calls Tryz.prog 78 #[.pointer (some ⟨r, 0, none⟩)] w fun e w' => ∃ b f v, e = .returned (.iface 117 (.pointer (some ⟨b, 0, none⟩))) ∧ Tab w.heap.size w' b 4 f v ∧ Below w.heap.size w w' := by
  have HQ := Lib.hid hq
  obtain ⟨hlt, c0, c1, c2, c3, c4, c5, c6, c7⟩ := hq
  go_enter Tryz.func78, Tryz.ntmps78
  go_wp2_with fail
  go_loopw [4, 5] (fun a i wr => wr = w ∧ ((i = .int .i64 0 ∧ a = .bool true) ∨ (i = .int .i64 2 ∧ a = .bool false) ∨ (i = .int .i64 4 ∧ a = .bool false) ∨ (i = .int .i64 6 ∧ a = .bool false) ∨ (i = .int .i64 8 ∧ a = .bool false))) (fun _ i _ => 8 - (intOf i).toNat)
  case atStart => exact ⟨rfl, .inl ⟨rfl, rfl⟩⟩
  case round =>
    obtain ⟨hww, h | h | h | h | h⟩ := hrel <;> obtain ⟨rfl, rfl⟩ := h <;> obtain rfl : w = wr := hww.symm
    · go_wp2_with fail
      go_roundw
      case rel => exact ⟨by first | rfl | trivial, .inr (.inl ⟨rfl, rfl⟩)⟩
      case measure => simp [intOf]
    · go_wp2_with fail
      go_roundw
      case rel => exact ⟨by first | rfl | trivial, .inr (.inr (.inl ⟨rfl, rfl⟩))⟩
      case measure => simp [intOf]
    · go_wp2_with fail
      go_roundw
      case rel => exact ⟨by first | rfl | trivial, .inr (.inr (.inr (.inl ⟨rfl, rfl⟩)))⟩
      case measure => simp [intOf]
    · go_wp2_with fail
      go_roundw
      case rel => exact ⟨by first | rfl | trivial, .inr (.inr (.inr (.inr ⟨rfl, rfl⟩)))⟩
      case measure => simp [intOf]
    · obtain ⟨i0, hi, hz0, hz1, hz2⟩ := info_parts infoStr
      go_wp2_with (at_make; refine wpList_make_own _ rfl _ _ 38 rfl w.heap.size 9 i0 _ 1 Tryz.underlying38 hi hz0 hz1 _ _ _ 4 rfl rfl rfl (by rw [hz2]; omega) (by unfold maxLen; omega) (Nat.le_refl _) ?_; intro w1 hown hgrow; have hst := store_new w1 (.slice (some ⟨w.heap.size, 0, none⟩) 0 4) rfl)
      have hb0 : Tab w.heap.size (w1.alloc (.cells (tabC (.slice (some ⟨w.heap.size, 0, none⟩) 0 4)) 116)) w1.heap.size 0 (fun i => if i = 256 then .slice (some ⟨w.heap.size, 0, none⟩) 0 4 else .slice none 0 0) (.slice (some ⟨w.heap.size, 0, none⟩) 0 4) :=
        ⟨hgrow.size, ⟨_, heap_alloc_new w1 _, tabC_size _, fun i hi => tabC_at _ i hi⟩, rfl, World.ownsRow.alloc hown _, fun i hi _ => if_neg (by omega), fun i hi => by unfold dn at hi; omega⟩
      have HB0 := Lib.hid hb0
      have hbw : Below w.heap.size w (w1.alloc (.cells (tabC (.slice (some ⟨w.heap.size, 0, none⟩) 0 4)) 116)) := ((Below.refl _ _).grown hgrow (Nat.le_refl _) (fun x hx => by cases hx)).alloc hgrow.size _
      have HBW := Lib.hid hbw
      have hsw := hgrow.size
      clear hb0 hbw hst hown hgrow
      go_loopw [12] (fun i wr => ∃ (m : Nat) (f : Nat → Value) (v : Value), ((m = 0 ∧ i = .int .i64 6) ∨ (m = 1 ∧ i = .int .i64 4) ∨ (m = 2 ∧ i = .int .i64 2) ∨ (m = 3 ∧ i = .int .i64 0) ∨ (m = 4 ∧ i = .int .i64 (-2))) ∧ Hid (Tab w.heap.size wr w1.heap.size m f v) ∧ Hid (Below w.heap.size w wr)) (fun i _ => ((intOf i) + 2).toNat)
      case atStart => exact ⟨0, _, _, .inl ⟨rfl, rfl⟩, HB0, HBW⟩
      case round =>
        obtain ⟨m, f, v, hm, hT, hB⟩ := hrel
        have d0 := (hB.out.cell (p := ⟨q, 0, none⟩) hlt).trans c0
        have d1 := (hB.out.cell (p := ⟨q, 1, none⟩) hlt).trans c1
        have d2 := (hB.out.cell (p := ⟨q, 2, none⟩) hlt).trans c2
        have d3 := (hB.out.cell (p := ⟨q, 3, none⟩) hlt).trans c3
        have d4 := (hB.out.cell (p := ⟨q, 4, none⟩) hlt).trans c4
        have d5 := (hB.out.cell (p := ⟨q, 5, none⟩) hlt).trans c5
        have d6 := (hB.out.cell (p := ⟨q, 6, none⟩) hlt).trans c6
        have d7 := (hB.out.cell (p := ⟨q, 7, none⟩) hlt).trans c7
        have heq0 : ∀ w : World, (binOp .eql 22 (.slice none 0 0) (.slice none 0 0)).run Tryz.prog w = .ok (.bool true) w := fun w => Go.Lib.run_eql_slice_nil w 22 5 none 0 0 0 0 Tryz.underlying22
        have k256 := (hT.out.row.cell (i := 256) (by omega)).trans (congrArg some hT.out.last)
        have hsz2 := hB.out.size
        obtain ⟨Cb, fzb, hCb⟩ := row_heap hT.out.row
        have hbl := heap_lt hCb
        have hbo := own_ne hT.out.own hCb (by decide)
        rcases hm with hm | hm | hm | hm | hm <;> obtain ⟨rfl, rfl⟩ := hm
        · have hx0 : ∀ h, ((⟨#[92]⟩ : ByteArray)[0]'h).toNat = 92 := fun _ => rfl
          have ko := (hT.out.row.cell (i := 92) (by omega)).trans (congrArg some (hT.out.no 92 (by omega) (by unfold dn; omega)))
          have hcv : (convert 22 9 (.slice (some ⟨wr.heap.size, 0, none⟩) 1 1)).run Tryz.prog (wr.alloc (.cells #[.int .u8 92] 5)) = .ok (.string ⟨#[92]⟩) (wr.alloc (.cells #[.int .u8 92] 5)) :=
            buf_conv (show Buf wr.heap.size (wr.alloc (.cells #[.int .u8 92] 5)) (.slice (some ⟨wr.heap.size, 0, none⟩) 1 1) [92] from World.ownsRow_lit wr #[.int .u8 92] 1 (Nat.le_refl _) (by unfold maxLen; omega) rfl)
          go_wp2_with (at_builtin; refine str_push w.heap.size wr _ _ (ordS.take 0) 0 rfl ⟨#[92]⟩ rfl _ _ rfl rfl rfl hT.out.own (by decide) hsz2 ?_; intro g1 cap1 w3 hown3 hgrow3; obtain ⟨k4, z4, k3, z3⟩ := hT.out.mid hgrow3 92 (by omega) (by unfold dn; omega) (.slice (some ⟨g1, 0, none⟩) 1 cap1) ⟨#[92, 92]⟩; have hs3 : (w3.setCell ⟨w1.heap.size, 256, none⟩ (.slice (some ⟨g1, 0, none⟩) 1 cap1)).heap.size = w3.heap.size := (by simp [World.setCell]); obtain ⟨cp, hcv2⟩ : ∃ cp, (convert 9 22 (.string ⟨#[92, 92]⟩)).run Tryz.prog (w3.setCell ⟨w1.heap.size, 256, none⟩ (.slice (some ⟨g1, 0, none⟩) 1 cap1)) = .ok (.slice (some ⟨w3.heap.size, 0, none⟩) 2 cp) (Go.Lib.bytesWorld (w3.setCell ⟨w1.heap.size, 256, none⟩ (.slice (some ⟨g1, 0, none⟩) 1 cap1)) 5 ⟨#[92, 92]⟩) := ⟨_, by have := Go.Lib.run_convert_string_bytes (P := Tryz.prog) (w3.setCell ⟨w1.heap.size, 256, none⟩ (.slice (some ⟨g1, 0, none⟩) 1 cap1)) 9 22 5 ⟨#[92, 92]⟩ Tryz.underlying9 Tryz.underlying22 Tryz.underlying5; rw [hs3] at this; exact this⟩)
          have hT2 := hT.out.step hgrow3 hown3 92 (by omega) (fun i => dn_step 0 (by omega) i) ⟨#[92, 92]⟩ rfl rfl rfl hsz2 cp w3.heap.size hs3.symm
          have hB2 := ((below_bytes ((hB.out.grown hgrow3 hsz2 (fun x hx => (World.ownsRow.lt hT.out.own x hx).1)).setCell (p := ⟨w1.heap.size, 256, none⟩) hT.out.base (.slice (some ⟨g1, 0, none⟩) 1 cap1)) (by rw [hs3]; exact Nat.le_trans hsz2 hgrow3.size) 5 ⟨#[92, 92]⟩).setCell (p := ⟨w1.heap.size, 92, none⟩) hT.out.base (.slice (some ⟨w3.heap.size, 0, none⟩) 2 cp))
          have HT2 := Lib.hid hT2
          have HB2 := Lib.hid hB2
          clear hT2 hB2
          go_roundw
          case rel => exact ⟨1, _, _, .inr (.inl ⟨rfl, rfl⟩), HT2, HB2⟩
          case measure => simp [intOf]
        · have hx0 : ∀ h, ((⟨#[34]⟩ : ByteArray)[0]'h).toNat = 34 := fun _ => rfl
          have ko := (hT.out.row.cell (i := 34) (by omega)).trans (congrArg some (hT.out.no 34 (by omega) (by unfold dn; omega)))
          have hcv : (convert 22 9 (.slice (some ⟨wr.heap.size, 0, none⟩) 1 1)).run Tryz.prog (wr.alloc (.cells #[.int .u8 34] 5)) = .ok (.string ⟨#[34]⟩) (wr.alloc (.cells #[.int .u8 34] 5)) :=
            buf_conv (show Buf wr.heap.size (wr.alloc (.cells #[.int .u8 34] 5)) (.slice (some ⟨wr.heap.size, 0, none⟩) 1 1) [34] from World.ownsRow_lit wr #[.int .u8 34] 1 (Nat.le_refl _) (by unfold maxLen; omega) rfl)
          go_wp2_with (at_builtin; refine str_push w.heap.size wr _ _ (ordS.take 1) 1 rfl ⟨#[34]⟩ rfl _ _ rfl rfl rfl hT.out.own (by decide) hsz2 ?_; intro g1 cap1 w3 hown3 hgrow3; obtain ⟨k4, z4, k3, z3⟩ := hT.out.mid hgrow3 34 (by omega) (by unfold dn; omega) (.slice (some ⟨g1, 0, none⟩) 2 cap1) ⟨#[92, 34]⟩; have hs3 : (w3.setCell ⟨w1.heap.size, 256, none⟩ (.slice (some ⟨g1, 0, none⟩) 2 cap1)).heap.size = w3.heap.size := (by simp [World.setCell]); obtain ⟨cp, hcv2⟩ : ∃ cp, (convert 9 22 (.string ⟨#[92, 34]⟩)).run Tryz.prog (w3.setCell ⟨w1.heap.size, 256, none⟩ (.slice (some ⟨g1, 0, none⟩) 2 cap1)) = .ok (.slice (some ⟨w3.heap.size, 0, none⟩) 2 cp) (Go.Lib.bytesWorld (w3.setCell ⟨w1.heap.size, 256, none⟩ (.slice (some ⟨g1, 0, none⟩) 2 cap1)) 5 ⟨#[92, 34]⟩) := ⟨_, by have := Go.Lib.run_convert_string_bytes (P := Tryz.prog) (w3.setCell ⟨w1.heap.size, 256, none⟩ (.slice (some ⟨g1, 0, none⟩) 2 cap1)) 9 22 5 ⟨#[92, 34]⟩ Tryz.underlying9 Tryz.underlying22 Tryz.underlying5; rw [hs3] at this; exact this⟩)
          have hT2 := hT.out.step hgrow3 hown3 34 (by omega) (fun i => dn_step 1 (by omega) i) ⟨#[92, 34]⟩ rfl rfl rfl hsz2 cp w3.heap.size hs3.symm
          have hB2 := ((below_bytes ((hB.out.grown hgrow3 hsz2 (fun x hx => (World.ownsRow.lt hT.out.own x hx).1)).setCell (p := ⟨w1.heap.size, 256, none⟩) hT.out.base (.slice (some ⟨g1, 0, none⟩) 2 cap1)) (by rw [hs3]; exact Nat.le_trans hsz2 hgrow3.size) 5 ⟨#[92, 34]⟩).setCell (p := ⟨w1.heap.size, 34, none⟩) hT.out.base (.slice (some ⟨w3.heap.size, 0, none⟩) 2 cp))
          have HT2 := Lib.hid hT2
          have HB2 := Lib.hid hB2
          clear hT2 hB2
          go_roundw
          case rel => exact ⟨2, _, _, .inr (.inr (.inl ⟨rfl, rfl⟩)), HT2, HB2⟩
          case measure => simp [intOf]
        · have hx0 : ∀ h, ((⟨#[9]⟩ : ByteArray)[0]'h).toNat = 9 := fun _ => rfl
          have ko := (hT.out.row.cell (i := 9) (by omega)).trans (congrArg some (hT.out.no 9 (by omega) (by unfold dn; omega)))
          have hcv : (convert 22 9 (.slice (some ⟨wr.heap.size, 0, none⟩) 1 1)).run Tryz.prog (wr.alloc (.cells #[.int .u8 9] 5)) = .ok (.string ⟨#[9]⟩) (wr.alloc (.cells #[.int .u8 9] 5)) :=
            buf_conv (show Buf wr.heap.size (wr.alloc (.cells #[.int .u8 9] 5)) (.slice (some ⟨wr.heap.size, 0, none⟩) 1 1) [9] from World.ownsRow_lit wr #[.int .u8 9] 1 (Nat.le_refl _) (by unfold maxLen; omega) rfl)
          go_wp2_with (at_builtin; refine str_push w.heap.size wr _ _ (ordS.take 2) 2 rfl ⟨#[9]⟩ rfl _ _ rfl rfl rfl hT.out.own (by decide) hsz2 ?_; intro g1 cap1 w3 hown3 hgrow3; obtain ⟨k4, z4, k3, z3⟩ := hT.out.mid hgrow3 9 (by omega) (by unfold dn; omega) (.slice (some ⟨g1, 0, none⟩) 3 cap1) ⟨#[92, 116]⟩; have hs3 : (w3.setCell ⟨w1.heap.size, 256, none⟩ (.slice (some ⟨g1, 0, none⟩) 3 cap1)).heap.size = w3.heap.size := (by simp [World.setCell]); obtain ⟨cp, hcv2⟩ : ∃ cp, (convert 9 22 (.string ⟨#[92, 116]⟩)).run Tryz.prog (w3.setCell ⟨w1.heap.size, 256, none⟩ (.slice (some ⟨g1, 0, none⟩) 3 cap1)) = .ok (.slice (some ⟨w3.heap.size, 0, none⟩) 2 cp) (Go.Lib.bytesWorld (w3.setCell ⟨w1.heap.size, 256, none⟩ (.slice (some ⟨g1, 0, none⟩) 3 cap1)) 5 ⟨#[92, 116]⟩) := ⟨_, by have := Go.Lib.run_convert_string_bytes (P := Tryz.prog) (w3.setCell ⟨w1.heap.size, 256, none⟩ (.slice (some ⟨g1, 0, none⟩) 3 cap1)) 9 22 5 ⟨#[92, 116]⟩ Tryz.underlying9 Tryz.underlying22 Tryz.underlying5; rw [hs3] at this; exact this⟩)
          have hT2 := hT.out.step hgrow3 hown3 9 (by omega) (fun i => dn_step 2 (by omega) i) ⟨#[92, 116]⟩ rfl rfl rfl hsz2 cp w3.heap.size hs3.symm
          have hB2 := ((below_bytes ((hB.out.grown hgrow3 hsz2 (fun x hx => (World.ownsRow.lt hT.out.own x hx).1)).setCell (p := ⟨w1.heap.size, 256, none⟩) hT.out.base (.slice (some ⟨g1, 0, none⟩) 3 cap1)) (by rw [hs3]; exact Nat.le_trans hsz2 hgrow3.size) 5 ⟨#[92, 116]⟩).setCell (p := ⟨w1.heap.size, 9, none⟩) hT.out.base (.slice (some ⟨w3.heap.size, 0, none⟩) 2 cp))
          have HT2 := Lib.hid hT2
          have HB2 := Lib.hid hB2
          clear hT2 hB2
          go_roundw
          case rel => exact ⟨3, _, _, .inr (.inr (.inr (.inl ⟨rfl, rfl⟩))), HT2, HB2⟩
          case measure => simp [intOf]
        · have hx0 : ∀ h, ((⟨#[10]⟩ : ByteArray)[0]'h).toNat = 10 := fun _ => rfl
          have ko := (hT.out.row.cell (i := 10) (by omega)).trans (congrArg some (hT.out.no 10 (by omega) (by unfold dn; omega)))
          have hcv : (convert 22 9 (.slice (some ⟨wr.heap.size, 0, none⟩) 1 1)).run Tryz.prog (wr.alloc (.cells #[.int .u8 10] 5)) = .ok (.string ⟨#[10]⟩) (wr.alloc (.cells #[.int .u8 10] 5)) :=
            buf_conv (show Buf wr.heap.size (wr.alloc (.cells #[.int .u8 10] 5)) (.slice (some ⟨wr.heap.size, 0, none⟩) 1 1) [10] from World.ownsRow_lit wr #[.int .u8 10] 1 (Nat.le_refl _) (by unfold maxLen; omega) rfl)
          go_wp2_with (at_builtin; refine str_push w.heap.size wr _ _ (ordS.take 3) 3 rfl ⟨#[10]⟩ rfl _ _ rfl rfl rfl hT.out.own (by decide) hsz2 ?_; intro g1 cap1 w3 hown3 hgrow3; obtain ⟨k4, z4, k3, z3⟩ := hT.out.mid hgrow3 10 (by omega) (by unfold dn; omega) (.slice (some ⟨g1, 0, none⟩) 4 cap1) ⟨#[92, 110]⟩; have hs3 : (w3.setCell ⟨w1.heap.size, 256, none⟩ (.slice (some ⟨g1, 0, none⟩) 4 cap1)).heap.size = w3.heap.size := (by simp [World.setCell]); obtain ⟨cp, hcv2⟩ : ∃ cp, (convert 9 22 (.string ⟨#[92, 110]⟩)).run Tryz.prog (w3.setCell ⟨w1.heap.size, 256, none⟩ (.slice (some ⟨g1, 0, none⟩) 4 cap1)) = .ok (.slice (some ⟨w3.heap.size, 0, none⟩) 2 cp) (Go.Lib.bytesWorld (w3.setCell ⟨w1.heap.size, 256, none⟩ (.slice (some ⟨g1, 0, none⟩) 4 cap1)) 5 ⟨#[92, 110]⟩) := ⟨_, by have := Go.Lib.run_convert_string_bytes (P := Tryz.prog) (w3.setCell ⟨w1.heap.size, 256, none⟩ (.slice (some ⟨g1, 0, none⟩) 4 cap1)) 9 22 5 ⟨#[92, 110]⟩ Tryz.underlying9 Tryz.underlying22 Tryz.underlying5; rw [hs3] at this; exact this⟩)
          have hT2 := hT.out.step hgrow3 hown3 10 (by omega) (fun i => dn_step 3 (by omega) i) ⟨#[92, 110]⟩ rfl rfl rfl hsz2 cp w3.heap.size hs3.symm
          have hB2 := ((below_bytes ((hB.out.grown hgrow3 hsz2 (fun x hx => (World.ownsRow.lt hT.out.own x hx).1)).setCell (p := ⟨w1.heap.size, 256, none⟩) hT.out.base (.slice (some ⟨g1, 0, none⟩) 4 cap1)) (by rw [hs3]; exact Nat.le_trans hsz2 hgrow3.size) 5 ⟨#[92, 110]⟩).setCell (p := ⟨w1.heap.size, 10, none⟩) hT.out.base (.slice (some ⟨w3.heap.size, 0, none⟩) 2 cp))
          have HT2 := Lib.hid hT2
          have HB2 := Lib.hid hB2
          clear hT2 hB2
          go_roundw
          case rel => exact ⟨4, _, _, .inr (.inr (.inr (.inr (⟨rfl, rfl⟩)))), HT2, HB2⟩
          case measure => simp [intOf]
        · go_wp2_with fail
          go_ret
          exact ⟨_, _, _, rfl, hT.out, hB.out⟩

end Go.Proofs.YtlfmiikpbdhemaaGreatDoor.Esc
