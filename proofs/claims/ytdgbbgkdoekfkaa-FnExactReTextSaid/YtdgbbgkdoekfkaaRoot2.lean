/-
  The program's parts of a valid list of nodes: rootPart.
-/
import Derived.Test.YtdgbbgkdoekfkaaRoot
import Derived.Deep.AppendLies
namespace Go.Proofs.Ytdgbbgkdoekfkaa.Re
open Go.ChangeShapes Go.WideShapes Go.ChangeAt Go.RowKit Go.PlainAid
open Go.Proofs.Ytdgbbgkdoekfkaa.RePure
set_option linter.unusedVariables false

theorem infoPart : (Try.prog.info? 86).map (fun i => (i.zero, i.size, i.bytes)) = some (some .nilIface, 1, 16) := by kernel_rfl
/-- The blocks behind block a that are in the heap. -/
def Mid (a : Nat) (w : World) (x : Nat) : Prop := a < x ∧ x < w.heap.size
def kidU (l : List Nd) (u : Nat → Value) (k t : Nat) : Value := u (kd l k t).toNat
theorem own_cells {w : World} {base n : Nat} {t : TypeId} {v : Value} {xs : List Value} (h : w.ownsRow base t 1 v n xs) :
    ∃ b cap, ((v = .slice none 0 0 ∧ n = 0) ∨ v = .slice (some ⟨b, 0, none⟩) n cap) ∧ ∀ k, k < n → base ≤ b ∧ b < w.heap.size ∧ w.cell? ⟨b, k, none⟩ = xs[k]? := by
  rcases h.2 with ⟨q, h0⟩ | ⟨g, cap, cur, q, hg, hcur, _⟩
  · exact ⟨0, 0, Or.inl ⟨q, h0⟩, fun k hk => by omega⟩
  · refine ⟨g, cap, Or.inr q, fun k hk => ⟨hg, (Array.getElem?_eq_some_iff.1 hcur).1, ?_⟩⟩
    subst q
    exact h.cellAt k (by omega)
def RootIs (a : Nat) (l : List Nd) (e : Ending) (w' : World) : Prop := ∃ r, e = .returned r ∧ PartAt (Mid a w') w' l (l.length - 1) r

set_option maxRecDepth 100000 in
set_option maxHeartbeats 8000000 in
theorem root_part (B : Nat) (l : List Nd) (hP : ReP l) (hT : ∀ i, i < l.length → (nth l i).kids.length ≤ 1048576) (x : Value) (V : Nat → Value) (w : World) (hB : B ≤ w.heap.size) (hx : NodesAt B w x V l) :
    Calls Try.prog 52 #[x] w fun e w' => RootIs w.heap.size l e w' ∧ Below w.heap.size w w' := by
  obtain ⟨ao, cap, rfl, hc1, hc2, hc3⟩ := hx
  have HC := Lib.hid hc3; clear hc3
  unfold maxLen at hc2
  have hl200 := hP.2.1
  have hl1 := hP.1
  have HND := Lib.hid hP.2.2.1
  have HBK := Lib.hid (backs_of hP)
  clear hP
  have HT := Lib.hid hT; clear hT
  obtain ⟨i0, hi, hz0, hz1, hz2⟩ := info_parts infoPart
  have hmk := run_make_row' (P := Try.prog) 115 86 .nilIface 16 Try.underlying115 infoPart rfl .i64 .i64 l.length (by omega) (by omega)
  have hst : (w.alloc (.cells (madeCells #[.nilIface] l.length) 86)).rowIs w.heap.size 86 l.length (fun _ => .nilIface) := World.rowIs_made w .nilIface l.length 86
  have HST := Lib.hid hst; clear hst
  go_enter Try.func52, Try.ntmps52
  go_wp2_with fail
  go_loopw [14] (fun j wr => ∃ (k : Nat) (u : Nat → Value), k ≤ l.length ∧ j = .int .i64 k ∧ Hid (wr.rowIs w.heap.size 86 l.length u) ∧ Hid (∀ m, m < k → PartAt (Mid w.heap.size wr) wr l m (u m)) ∧ Below w.heap.size w wr ∧ w.heap.size < wr.heap.size)
    (fun j _ => l.length - (intOf j).toNat)
  case atStart => exact ⟨0, _, Nat.zero_le _, rfl, HST, (fun m hm => by omega), (Below.refl _ _).alloc (Nat.le_refl _) _, by simp⟩
  case round =>
    obtain ⟨k, u, hk, rfl, HR, HU, hB1, hlt⟩ := hrel
    obtain ⟨wo, hwo⟩ : ∃ wo, wo = wr := ⟨_, rfl⟩
    subst hwo
    by_cases hkl : k < l.length
    · obtain ⟨b, off, rfl, hb, hN⟩ := HC.out k hkl
      have hbw : b < w.heap.size := by omega
      have c0 := (hB1.cell (p := ⟨b, off + k * 4, none⟩) hbw).trans hN.kind
      have c1 := (hB1.cell (p := ⟨b, off + k * 4 + 1, none⟩) hbw).trans hN.neg
      have c2 := (hB1.cell (p := ⟨b, off + k * 4 + 2, none⟩) hbw).trans hN.set
      have c3 := (hB1.cell (p := ⟨b, off + k * 4 + 3, none⟩) hbw).trans hN.kidc
      have hk0 := hN.kids
      obtain ⟨ka, kc, hV, hk1, hk2, hk5⟩ := id hk0
      rw [hV] at c3 hk0
      clear hV hN
      unfold maxLen at hk2
      have hkz := HT.out k hkl
      have HKI := Lib.hid hk5; clear hk5 hk0
      go_wp2_with fail
      have hB2 : Below (wo.heap.size + 1) (wo.alloc (.cells #[.int .i64 (nth l k).kind, .bool (nth l k).neg, .string (nth l k).set, .slice ka (nth l k).kids.length kc] 57)) (wo.alloc (.cells #[.int .i64 (nth l k).kind, .bool (nth l k).neg, .string (nth l k).set, .slice ka (nth l k).kids.length kc] 57)) := Below.refl _ _
      have f0 : (wo.alloc (.cells #[.int .i64 (nth l k).kind, .bool (nth l k).neg, .string (nth l k).set, .slice ka (nth l k).kids.length kc] 57)).cell? ⟨wo.heap.size, 0, none⟩ = some (.int .i64 (nth l k).kind) := by go_simp
      have f1 : (wo.alloc (.cells #[.int .i64 (nth l k).kind, .bool (nth l k).neg, .string (nth l k).set, .slice ka (nth l k).kids.length kc] 57)).cell? ⟨wo.heap.size, 1, none⟩ = some (.bool (nth l k).neg) := by go_simp
      have f2 : (wo.alloc (.cells #[.int .i64 (nth l k).kind, .bool (nth l k).neg, .string (nth l k).set, .slice ka (nth l k).kids.length kc] 57)).cell? ⟨wo.heap.size, 2, none⟩ = some (.string (nth l k).set) := by go_simp
      have f3 : (wo.alloc (.cells #[.int .i64 (nth l k).kind, .bool (nth l k).neg, .string (nth l k).set, .slice ka (nth l k).kids.length kc] 57)).cell? ⟨wo.heap.size, 3, none⟩ = some (.slice ka (nth l k).kids.length kc) := by go_simp
      have hsz : (wo.alloc (.cells #[.int .i64 (nth l k).kind, .bool (nth l k).neg, .string (nth l k).set, .slice ka (nth l k).kids.length kc] 57)).heap.size = wo.heap.size + 1 := by simp
      have hBa : Below wo.heap.size wo (wo.alloc (.cells #[.int .i64 (nth l k).kind, .bool (nth l k).neg, .string (nth l k).set, .slice ka (nth l k).kids.length kc] 57)) := (Below.refl _ _).alloc (Nat.le_refl _) _
      have hown0 : (wo.alloc (.cells #[.int .i64 (nth l k).kind, .bool (nth l k).neg, .string (nth l k).set, .slice ka (nth l k).kids.length kc] 57)).ownsRow (wo.heap.size + 1) 86 1 (.slice none 0 0) 0 ((List.range 0).map (kidU l u k)) := ⟨rfl, Or.inl ⟨rfl, rfl⟩⟩
      generalize wo.alloc (.cells #[.int .i64 (nth l k).kind, .bool (nth l k).neg, .string (nth l k).set, .slice ka (nth l k).kids.length kc] 57) = w1 at *
      have HO0 := Lib.hid hown0; clear hown0
      go_loopw [6, 22] (fun v j w2 => ∃ (m : Nat), m ≤ (nth l k).kids.length ∧ j = .int .i64 m ∧ Hid (w2.ownsRow (wo.heap.size + 1) 86 1 v m ((List.range m).map (kidU l u k))) ∧ Below (wo.heap.size + 1) w1 w2) (fun _ j _ => (nth l k).kids.length - (intOf j).toNat)
      case atStart => exact ⟨0, Nat.zero_le _, rfl, HO0, hB2⟩
      case round =>
        obtain ⟨m, hm, rfl, HO, hB3⟩ := hrel
        obtain ⟨w2, hw2⟩ : ∃ w2, w2 = wr := ⟨_, rfl⟩
        subst hw2
        by_cases hml : m < (nth l k).kids.length
        · obtain ⟨b0, off0, rfl, hb0, hc⟩ := HKI.out m hml
          have hbk := HBK.out k hkl m hml
          obtain ⟨y, hy⟩ : ∃ y : Nat, kd l k m = y := ⟨_, (Int.toNat_of_nonneg hbk.1).symm⟩
          have hyk : y < k := by omega
          have r0 : w2.cell? ⟨b0, off0 + m, none⟩ = some (.int .i64 y) := by
            rw [hB3.cell (p := ⟨b0, off0 + m, none⟩) (show b0 < _ by omega), hBa.cell (p := ⟨b0, off0 + m, none⟩) (show b0 < _ by omega), hB1.cell (p := ⟨b0, off0 + m, none⟩) (show b0 < _ by omega), ← hy]
            exact hc
          have r1 : w2.cell? ⟨w.heap.size, y, none⟩ = some (u y) := by
            rw [hB3.cell (p := ⟨w.heap.size, y, none⟩) (show w.heap.size < wo.heap.size + 1 by omega), hBa.cell (p := ⟨w.heap.size, y, none⟩) hlt]
            exact HR.out.cell (by omega)
          obtain ⟨tt, pp, htp⟩ := part_form (HU.out y hyk)
          have hku : kidU l u k m = .iface tt pp := by unfold kidU; rw [hy]; exact htp
          rw [htp] at r1
          have HKU := Lib.hid hku; clear hku htp hc hy hbk
          have hown := HO.out
          have hsz2 := hB3.size
          go_wp2_with (at_builtin; refine wpList_append_lies _ rfl _ _ _ rfl (wo.heap.size + 1) 86 i0 .nilIface 1 16 Try.underlying115 hi hz0 hz1 hz2 rfl (by omega) _ m _ rfl (hown.alloc _) ⟨w2.heap.size, 0, none⟩ 1 1 [.iface tt pp] rfl rfl ?c1 ?c2 (by omega) ?c3 ?c4 ?c5 _ rfl ?_)
          case c1 =>
            intro j u hj
            match j, hj with
            | 0, hj => simp at hj; subst hj; simp [Addr.add]
          case c2 => intro u hu; simp at hu; subst hu; rfl
          case c3 => unfold maxLen; omega
          case c4 => omega
          case c5 => simp; omega
          · intro g cap2 w3 hown3 hgrow hat hg
            have hB4 : Below (wo.heap.size + 1) w1 w3 := (hB3.alloc (by omega) _).grown hgrow (by simp; omega) (fun x hx => (hown.lt x hx).1)
            have hown4 : w3.ownsRow (wo.heap.size + 1) 86 1 (.slice (some ⟨g, 0, none⟩) (m + 1) cap2) (m + 1) ((List.range (m + 1)).map (kidU l u k)) := by
              rw [List.range_succ, List.map_append, List.map_singleton, HKU.out]
              exact hown3
            have HO4 := Lib.hid hown4; clear hown4 hown3 hgrow hat hg hown
            go_wp2_with fail
            go_roundw
            case rel => exact ⟨m + 1, by omega, by go_num, HO4, hB4⟩
            case measure => simp [intOf]; omega
        · have e : m = (nth l k).kids.length := by omega
          subst e
          have hown := HO.out
          have d0 := (hB3.cell (p := ⟨wo.heap.size, 0, none⟩) (Nat.lt_succ_self _)).trans f0
          have d1 := (hB3.cell (p := ⟨wo.heap.size, 1, none⟩) (Nat.lt_succ_self _)).trans f1
          have d2 := (hB3.cell (p := ⟨wo.heap.size, 2, none⟩) (Nat.lt_succ_self _)).trans f2
          have d3 := (hB3.cell (p := ⟨wo.heap.size, 3, none⟩) (Nat.lt_succ_self _)).trans f3
          have hBo : Below wo.heap.size wo w2 := hBa.trans (hB3.mono (Nat.le_succ _))
          have hKo : Keep (Mid w.heap.size wo) wo w2 := ⟨hBo.os, hBo.tape, hBo.output, hBo.size, fun x hx => hBo.block x hx.2⟩
          have hMM : ∀ x, Mid w.heap.size wo x → Mid w.heap.size w2 x := fun x hx => ⟨hx.1, Nat.lt_of_lt_of_le hx.2 hBo.size⟩
          have hform := own_cells hown
          obtain ⟨bk, capk, hvf, hcell0⟩ := hform
          have hcells : ∀ t, t < (nth l k).kids.length → Mid w.heap.size w2 bk ∧ w2.cell? ⟨bk, t, none⟩ = some (kidU l u k t) := fun t ht => by
            obtain ⟨q1, q2, q3⟩ := hcell0 t ht
            refine ⟨⟨by omega, q2⟩, ?_⟩
            rw [q3]
            simp [ht]
          clear hcell0
          have hsf := hBo.size
          have hnp := new_part (Mid w.heap.size w2) l k (.slice ka (nth l k).kids.length kc) bk capk (kidU l u k) _ w2 (HND.out k hkl) (fun x hx => hx.2) hvf hcells (fun t ht => by
            have hbk := HBK.out k hkl t ht
            unfold kidU
            exact (HU.out _ (by omega)).keep hKo hMM) hkz
          have HNP := Lib.hid hnp; clear hnp hcells
          obtain ⟨vao, vcp, hvv⟩ := own_form hown
          clear hvf hown
          rw [hvv] at HNP ⊢
          clear hvv HO
          go_wp2_with fail
          refine HNP.out.mono ?_
          rintro e w3 ⟨r, rfl, hr, o, rfl⟩
          obtain ⟨tt, pp, htp⟩ := part_form hr
          have hrow3 := (rowIs_below HR.out hBo hlt).alloc o
          have hB5 : Below wo.heap.size wo (w2.alloc o) := hBo.alloc hsf o
          have hK5 : Keep (Mid w.heap.size wo) wo (w2.alloc o) := ⟨hB5.os, hB5.tape, hB5.output, hB5.size, fun x hx => hB5.block x hx.2⟩
          have hsz5 : (w2.alloc o).heap.size = w2.heap.size + 1 := by simp
          clear d0 d1 d2 d3 f0 f1 f2 f3
          generalize w2.alloc o = w3 at *
          have e0 := hrow3.cell hkl
          have y0 := hrow3.frozen k
          have hk6 : Keep (Mid w.heap.size wo) wo (w3.setCell ⟨w.heap.size, k, none⟩ r) := hK5.trans (Keep.setCell w3 ⟨w.heap.size, k, none⟩ r (fun h => Nat.lt_irrefl _ h.1))
          have hk7 : Keep (Mid w.heap.size w2) w3 (w3.setCell ⟨w.heap.size, k, none⟩ r) := Keep.setCell w3 ⟨w.heap.size, k, none⟩ r (fun h => Nat.lt_irrefl _ h.1)
          have hsz6 : (w3.setCell ⟨w.heap.size, k, none⟩ r).heap.size = w3.heap.size := by simp [World.setCell]
          have hu6 : ∀ m, m < k + 1 → PartAt (Mid w.heap.size (w3.setCell ⟨w.heap.size, k, none⟩ r)) (w3.setCell ⟨w.heap.size, k, none⟩ r) l m (if m = k then r else u m) := by
            intro m hm
            by_cases e : m = k
            · subst e
              rw [if_pos rfl]
              exact hr.keep hk7 (fun x hx => ⟨hx.1, by have := hx.2; omega⟩)
            · rw [if_neg e]
              exact (HU.out m (by omega)).keep hk6 (fun x hx => ⟨hx.1, by have := hx.2; omega⟩)
          have HU6 := Lib.hid hu6; clear hu6
          have HR6 := Lib.hid (hrow3.set k r); clear hrow3
          have hB6 : Below w.heap.size w (w3.setCell ⟨w.heap.size, k, none⟩ r) := (hB1.trans (hB5.mono hB1.size)).setCell (Nat.le_refl _) _
          have HB6 := Lib.hid hB6
          have hlt6 : w.heap.size < (w3.setCell ⟨w.heap.size, k, none⟩ r).heap.size := by omega
          have HL6 := Lib.hid hlt6
          clear hB6 hlt6 hk6 hk7 hK5 hB5 hr hsz6
          subst htp
          go_wp2_with fail
          go_roundw
          case rel => exact ⟨k + 1, _, by omega, by go_num, HR6, HU6, HB6.out, HL6.out⟩
          case measure => simp [intOf]; omega
    · have e : k = l.length := by omega
      subst e
      have c0 := HR.out.cell (i := l.length - 1) (by omega)
      have hp := HU.out (l.length - 1) (by omega)
      obtain ⟨tt, pp, htp⟩ := part_form hp
      rw [htp] at c0 hp
      have HP := Lib.hid hp; clear hp htp
      have g1 : (l.length : Int) - 1 < (l.length : Int) := by omega
      have g0 : (0 : Int) ≤ (l.length : Int) - 1 := by omega
      go_wp2_with fail
      go_ret
      exact ⟨⟨_, rfl, HP.out⟩, hB1⟩

end Go.Proofs.Ytdgbbgkdoekfkaa.Re
