/-
  The text of a valid list of nodes: what the model's functions return.
-/
import Derived.Test.YtdgbbgkdoekfkaaTxPure
import Derived.Test.YtdgbbgkdoekfkaaReOk
import Derived.Laws.Concat
namespace Go.Proofs.Ytdgbbgkdoekfkaa.Re
open Go.ChangeShapes Go.WideShapes Go.ChangeAt Go.RowKit Go.PlainAid
open Go.Proofs.Ytdgbbgkdoekfkaa.RePure
set_option linter.unusedVariables false

/-- The text of these letters is returned. -/
def StrIs (L : List Int) (e : Ending) : Prop := ∃ s : ByteArray, e = .returned (.string s) ∧ s = strOfNums L
theorem strIs {s : ByteArray} {L : List Int} (h : s = strOfNums L) : StrIs L (.returned (.string s)) := ⟨s, rfl, h⟩
theorem sizeOf {s : ByteArray} {L : List Int} (h : s = strOfNums L) : s.size = L.length := by rw [h, strOfNums_size]
theorem join_nums (a b : List Int) : strOfNums a ++ strOfNums b = strOfNums (a ++ b) := by
  apply ByteArray.ext
  show (strOfNums a ++ strOfNums b).data = _
  rw [ByteArray.data_append]
  simp [strOfNums]

set_option maxHeartbeats 1000000 in
theorem spec_has (s : ByteArray) (b : Int) (hs : s.size ≤ maxLen) (w : World) : Calls Try.prog 83 #[.string s, .int .u8 b] w fun e w' => e = .returned (.bool (hasB s b)) ∧ w = w' := by
  unfold maxLen at hs
  have hb := get_bt s
  go_enter Try.func83, Try.ntmps83
  go_wp2_with fail
  go_loop [5] (fun i => ∃ k : Nat, k ≤ s.size ∧ i = .int .i64 k ∧ Hid (∀ j, j < k → bt s j ≠ b)) (fun i => s.size - (intOf i).toNat)
  case atStart => exact ⟨0, Nat.zero_le _, rfl, fun j hj => by omega⟩
  case round =>
    obtain ⟨k, hk, rfl, HK⟩ := hrel
    by_cases hlt : k < s.size
    · by_cases hx : bt s k = b
      · have hh : hasB s b = true := decide_eq_true (bs_mem.2 ⟨k, hlt, hx⟩)
        have HH := Lib.hid hh; clear hh
        have hq : (bt s k == b) = true := by simpa using hx
        go_wp2_with fail
        go_ret
        exact ⟨by rw [HH.out]; rfl, rfl⟩
      · have hq : (bt s k == b) = false := by simpa using hx
        have HX := Lib.hid hx; clear hx
        go_wp2_with fail
        go_round
        case rel =>
          refine ⟨k + 1, by omega, by go_num, fun j hj => ?_⟩
          by_cases e : j = k
          · subst e; exact HX.out
          · exact HK.out j (by omega)
        case measure => simp [intOf]; omega
    · have hh : hasB s b = false := decide_eq_false fun h => by
        obtain ⟨j, hj, e⟩ := bs_mem.1 h
        exact HK.out j (by omega) e
      have HH := Lib.hid hh; clear hh
      go_wp2_with fail
      go_ret
      exact ⟨by rw [HH.out]; rfl, rfl⟩

set_option maxRecDepth 100000 in
set_option maxHeartbeats 1000000 in
theorem spec_esc (s : ByteArray) (b : Int) (hs : s.size ≤ maxLen) (w : World) : Calls Try.prog 81 #[.int .u8 b, .string s] w fun e w' => StrIs (escL s b) e ∧ Below w.heap.size w w' := by
  cases hh : hasB s b
  · have he : escL s b = [b] := by rw [escL, hh]; rfl
    have HE := Lib.hid he; clear he
    have HH := Lib.hid hh; clear hh
    have hcv := run_convert_bytes_arg (P := Try.prog) (w.alloc (.cells #[.int .u8 b] 5)) 82 5 Try.underlying82 Try.underlying5 w.heap.size 0 1 1 [b] rfl (fun i hi => by
      obtain rfl : i = 0 := by omega
      rw [World.cell?_alloc_new]; rfl) 9 Try.underlying9
    obtain ⟨d, hd⟩ : ∃ d, d = strOfNums [b] := ⟨_, rfl⟩
    rw [← hd] at hcv
    have HD := Lib.hid hd; clear hd
    go_enter Try.func81, Try.ntmps81
    go_wp2_with (go_at_call 83; refine (spec_has _ _ hs _).mono ?_; rw [HH.out]; rintro e w' ⟨rfl, rfl⟩)
    go_ret
    exact ⟨strIs (by rw [HE.out]; exact HD.out), (Below.refl _ _).alloc (Nat.le_refl _) _⟩
  · have he : escL s b = [92, b] := by rw [escL, hh]; rfl
    have HE := Lib.hid he; clear he
    have HH := Lib.hid hh; clear hh
    have hcv := run_convert_bytes_arg (P := Try.prog) (w.alloc (.cells #[.int .u8 92, .int .u8 b] 5)) 82 5 Try.underlying82 Try.underlying5 w.heap.size 0 2 2 [92, b] rfl (fun i hi => by
      have : i = 0 ∨ i = 1 := by omega
      rcases this with rfl | rfl
      · rw [World.cell?_alloc_new]; rfl
      · rw [World.cell?_alloc_new]; rfl) 9 Try.underlying9
    obtain ⟨d, hd⟩ : ∃ d, d = strOfNums [92, b] := ⟨_, rfl⟩
    rw [← hd] at hcv
    have HD := Lib.hid hd; clear hd
    go_enter Try.func81, Try.ntmps81
    go_wp2_with (go_at_call 83; refine (spec_has _ _ hs _).mono ?_; rw [HH.out]; rintro e w' ⟨rfl, rfl⟩)
    go_ret
    exact ⟨strIs (by rw [HE.out]; exact HD.out), (Below.refl _ _).alloc (Nat.le_refl _) _⟩

theorem spS_le : spS.size ≤ maxLen := by decide +kernel
theorem clS_le : clS.size ≤ maxLen := by decide +kernel
/-- A text of so many letters at most is returned. -/
def StrUp (m : Nat) (L : List Int) (e : Ending) : Prop := ∃ s : ByteArray, e = .returned (.string s) ∧ s = strOfNums L ∧ s.size ≤ m
theorem esc_sp (b : Int) (w : World) : Calls Try.prog 81 #[.int .u8 b, .string ⟨#[40, 41, 124, 42, 43, 63, 91, 93, 94, 36, 46, 92]⟩] w fun e w' => StrUp 2 (escL spS b) e ∧ Below w.heap.size w w' :=
  (spec_esc spS b spS_le w).mono fun e w' ⟨⟨s, h1, h2⟩, h3⟩ => ⟨⟨s, h1, h2, by rw [sizeOf h2]; exact escL_le _ _⟩, h3⟩
theorem esc_cl (b : Int) (w : World) : Calls Try.prog 81 #[.int .u8 b, .string ⟨#[93, 94, 45, 92]⟩] w fun e w' => StrUp 2 (escL clS b) e ∧ Below w.heap.size w w' :=
  (spec_esc clS b clS_le w).mono fun e w' ⟨⟨s, h1, h2⟩, h3⟩ => ⟨⟨s, h1, h2, by rw [sizeOf h2]; exact escL_le _ _⟩, h3⟩

set_option maxRecDepth 100000 in
set_option maxHeartbeats 4000000 in
theorem spec_setText (n : Nd) (v : Value) (hs : n.set.size ≤ 1048576) (hev : EvenOrd n.set) (w : World) : Calls Try.prog 71 #[nval n v] w fun e w' => StrIs (setL n.neg n.set) e ∧ Below w.heap.size w w' := by
  obtain ⟨kind, neg, s, kids⟩ := n
  unfold nval
  simp only [] at hs hev ⊢
  have hb := get_bt s
  have h2 := hev.1
  have hB0 : ∀ o, Below w.heap.size w (w.alloc o) := fun o => (Below.refl _ _).alloc (Nat.le_refl _) o
  by_cases hA : neg = true ∧ s.size = 0
  · obtain ⟨rfl, hz⟩ := hA
    have he := (isE s).2 hz
    have hL : setL true s = [46] := by rw [setL, if_pos ⟨rfl, hz⟩]
    have HL := Lib.hid hL; clear hL
    clear hz
    go_enter Try.func71, Try.ntmps71
    go_wp2_with fail
    go_ret
    exact ⟨strIs (by rw [HL.out]; rfl), hB0 _⟩
  · by_cases hBc : neg = false ∧ s.size = 2 ∧ bt s 0 = bt s 1
    · obtain ⟨rfl, hz, hq⟩ := hBc
      have hL : setL false s = escL spS (bt s 0) := by rw [setL, if_neg (by simp), if_pos ⟨rfl, hz, hq⟩]
      have HL := Lib.hid hL; clear hL
      have hq' : (bt s 0 == bt s 1) = true := by simpa using hq
      have hz' : (s.size : Int) = 2 := by omega
      have g0 : (0 : Int) < (s.size : Int) := by omega
      have g1 : (1 : Int) < (s.size : Int) := by omega
      have i0 : 0 < s.size := by omega
      have i1 : 1 < s.size := by omega
      have b0 := hb 0 i0
      have b1 := hb 1 i1
      clear hA
      go_enter Try.func71, Try.ntmps71
      go_wp2_with fail
      go_quiet (fail)
      go_wp2_with fail
      refine (esc_sp (bt s 1) _).mono ?_
      rintro e w' ⟨⟨d, rfl, hd, hdz⟩, hB1⟩
      have hB2 := (below_drewN (hB0 _) nq).trans (hB1.mono (by simp))
      have HD := Lib.hid hd; clear hd hB1
      go_wp2_with fail
      go_ret
      exact ⟨strIs (by rw [HL.out, hq]; exact HD.out), hB2⟩
    · have hL : setL neg s = headL neg ++ pairsL s (s.size / 2) ++ [93] := by rw [setL, if_neg hA, if_neg hBc]
      obtain ⟨H, hH⟩ : ∃ H, H = headL neg := ⟨_, rfl⟩
      rw [← hH] at hL
      have hHz : H.length ≤ 2 := by rw [hH]; exact headL_le neg
      have HL := Lib.hid hL; clear hL
      have hC : (neg = true ∧ s.toList.isEmpty = false) ∨ (neg = false ∧ ((s.size : Int) == 2) = false) ∨ (neg = false ∧ (s.size : Int) = 2 ∧ (bt s 0 == bt s 1) = false) := by
        cases neg
        · by_cases hz : s.size = 2
          · right; right
            refine ⟨rfl, by omega, ?_⟩
            rw [beq_eq_false_iff_ne]
            exact fun h => hBc ⟨rfl, hz, h⟩
          · right; left
            refine ⟨rfl, ?_⟩
            rw [beq_eq_false_iff_ne]
            omega
        · left
          refine ⟨rfl, isE_no (Nat.pos_of_ne_zero fun h => hA ⟨rfl, h⟩)⟩
      clear hA hBc
      rcases hC with ⟨rfl, he⟩ | ⟨rfl, hz⟩ | ⟨rfl, hz, hq⟩
      case' inr.inr =>
        have g0 : (0 : Int) < (s.size : Int) := by omega
        have g1 : (1 : Int) < (s.size : Int) := by omega
        have i0 : 0 < s.size := by omega
        have i1 : 1 < s.size := by omega
        have b0 := hb 0 i0
        have b1 := hb 1 i1
      all_goals
        have HH := Lib.hid hH; clear hH hev
        go_enter Try.func71, Try.ntmps71
        go_wp2_with fail
        go_quiet (fail)
        go_wp2_with fail
        go_loopw [3, 4] (fun t i wr => ∃ (m : Nat) (x : ByteArray), m ≤ s.size ∧ m % 2 = 0 ∧ i = .int .i64 m ∧ t = .string x ∧ Hid (x = strOfNums (H ++ pairsL s (m / 2))) ∧ x.size ≤ 2 + 5 * m ∧ Below w.heap.size w wr ∧ w.heap.size < wr.heap.size ∧ wr.cell? ⟨w.heap.size, 2, none⟩ = some (.string s)) (fun _ i _ => s.size - (intOf i).toNat)
        case atStart => exact ⟨0, _, Nat.zero_le _, rfl, rfl, rfl, (by show _ = strOfNums (H ++ []); rw [HH.out]; rfl), (by first | decide | (simp; done)), below_drewN (hB0 _) _, (by simp), (by go_simp)⟩
        case round =>
          obtain ⟨m, x, hm, hm2, rfl, rfl, HX, hxz, hB1, hlt, hc2⟩ := hrel
          by_cases hml : m < s.size
          · have g0 : (m : Int) < (s.size : Int) := by omega
            have g1 : (m : Int) + 1 < (s.size : Int) := by omega
            have hst := pairsL_step s hm2
            have HST := Lib.hid hst; clear hst
            clear h2
            go_wp2_with fail
            refine (esc_cl (bt s m) _).mono ?_
            rintro e w1 ⟨⟨d, rfl, hd, hdz⟩, hB2⟩
            have HD := Lib.hid hd; clear hd
            have hB3 := hB1.trans (hB2.mono hB1.size)
            have hc3 := (hB2.cell (p := ⟨w.heap.size, 2, none⟩) hlt).trans hc2
            have hlt1 := Nat.lt_of_lt_of_le hlt hB2.size
            clear hB2 hc2 hB1
            have hxd : (x ++ d).size = x.size + d.size := by rw [ByteArray.size_append]
            by_cases hq : bt s (m + 1) = bt s m
            · have hp : pairL s m = escL clS (bt s m) := by rw [pairL, if_pos hq, List.append_nil]
              have HP := Lib.hid hp; clear hp
              have hqb : (bt s (m + 1) == bt s m) = true := by simpa using hq
              have HQ := Lib.hid hq; clear hq
              go_wp2_with fail
              go_quiet (fail)
              go_wp2_with fail
              go_roundw
              case rel => exact ⟨m + 2, x ++ d, by omega, by omega, by go_num, rfl, (by show _ = _; rw [HST.out, HX.out, HD.out, HP.out, join_nums, List.append_assoc]), (by rw [hxd]; omega), below_drewN hB3 _, hlt1, hc3⟩
              case measure => simp [intOf]; omega
            · have hp : pairL s m = escL clS (bt s m) ++ 45 :: escL clS (bt s (m + 1)) := by rw [pairL, if_neg hq]
              have HP := Lib.hid hp; clear hp
              have hqb : (bt s (m + 1) == bt s m) = false := by simpa using hq
              clear hq
              have hdd : (x ++ d ++ ⟨#[45]⟩).size = x.size + d.size + 1 := by rw [ByteArray.size_append, hxd]; rfl
              go_wp2_with fail
              go_quiet (fail)
              go_wp2_with fail
              refine (esc_cl (bt s (m + 1)) _).mono ?_
              rintro e w2 ⟨⟨d2, rfl, hd2, hdz2⟩, hB4⟩
              have HD2 := Lib.hid hd2; clear hd2
              have hB5 := (below_drewN hB3 _).trans (hB4.mono (below_drewN hB3 _).size)
              have hc4 := (hB4.cell (p := ⟨w.heap.size, 2, none⟩) hlt1).trans hc3
              have hlt2 := Nat.lt_of_lt_of_le hlt1 hB4.size
              clear hB4
              go_wp2_with fail
              go_roundw
              case rel => exact ⟨m + 2, x ++ d ++ ⟨#[45]⟩ ++ d2, by omega, by omega, by go_num, rfl, (by show _ = _; rw [HST.out, HX.out, HD.out, HD2.out, HP.out, show (⟨#[45]⟩ : ByteArray) = strOfNums [45] from rfl, join_nums, join_nums, join_nums]; simp), (by rw [ByteArray.size_append, hdd]; omega), hB5, hlt2, hc4⟩
              case measure => simp [intOf]; omega
          · have e : m = s.size := by omega
            subst e
            go_wp2_with fail
            go_ret
            exact ⟨strIs (by rw [HL.out, HX.out, show (⟨#[93]⟩ : ByteArray) = strOfNums [93] from rfl, join_nums]), hB1⟩

end Go.Proofs.Ytdgbbgkdoekfkaa.Re
