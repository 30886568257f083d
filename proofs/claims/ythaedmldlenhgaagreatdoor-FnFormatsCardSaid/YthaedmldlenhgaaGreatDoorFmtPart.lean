/-
  The program's formats: what follows a %.
-/
import Derived.Test.YthaedmldlenhgaaGreatDoorFmtConv
import Derived.Test.YthaedmldlenhgaaGreatDoorPtRow
import Derived.OwnWalk
import Derived.Deep.RegionWith
namespace Go.Proofs.YthaedmldlenhgaaGreatDoor.Cell
open Go.ChangeShapes Go.WideShapes Go.ChangeAt Go.RowKit Go.PlainAid Go.Shelf
open Go.Proofs.YthaedmldlenhgaaGreatDoor.Dec
open Go.Proofs.YthaedmldlenhgaaGreatDoor.DecPure Go.Proofs.YthaedmldlenhgaaGreatDoor.ReadPure Go.Proofs.YthaedmldlenhgaaGreatDoor.TextPure Go.Proofs.YthaedmldlenhgaaGreatDoor.CellPure Go.Proofs.YthaedmldlenhgaaGreatDoor.Strs
set_option linter.unusedVariables false
set_option linter.unusedSimpArgs false

def PtVal (x : It) : Value := .agg #[.string x.txt, .int .u8 x.kind, .bool x.left, .int .i64 x.wide]
def it0 : It := ⟨0, ⟨#[]⟩, 0, false⟩
theorem results_ctt {fn : Func} {p u v : Tmp} {ty : TypeId} (h : fn.results = #[.cell p ty, .tmp u, .tmp v]) (tmps : Array Value) (P : Program) (w : World) :
    (results fn tmps).run P w =
      ((asAddr (tmps.getD p undef)).run P w).andThen fun a w₁ => ((loadVar ty a).run P w₁).andThen fun x w₂ => .ok (.tuple #[x, tmps.getD u undef, tmps.getD v undef]) w₂ := by
  simp only [results, h]
  simp [Sem.run_bind, Result.andThen]
theorem part_results {fn : Func} {p u v : Tmp} (h : fn.results = #[.cell p 59, .tmp u, .tmp v]) {tmps : Array Value} {w : World} {g : Nat} {a b c d : Value} {fz : Nat × Nat} (hg : w.heap[g]? = some (.cells #[a, b, c, d] 59 fz))
    (hp : tmps.getD p undef = .pointer (some ⟨g, 0, none⟩)) {x y : Value} (hx : tmps.getD u undef = x) (hy : tmps.getD v undef = y) : (results fn tmps).run Tryz.prog w = .ok (.tuple #[.agg #[a, b, c, d], x, y]) w := by
  have c0 := cell_of_row w g 0 _ _ _ hg
  have c1 := cell_of_row w g 1 _ _ _ hg
  have c2 := cell_of_row w g 2 _ _ _ hg
  have c3 := cell_of_row w g 3 _ _ _ hg
  rw [results_ctt h, hp, hx, hy]
  simp [go_sem, c0, c1, c2, c3]
theorem part_set {w : World} {g : Nat} {a b c d : Value} {fz : Nat × Nat} (hg : w.heap[g]? = some (.cells #[a, b, c, d] 59 fz)) (a' b' c' d' : Value) :
    ((((w.setCell ⟨g, 0, none⟩ a').setCell ⟨g, 1, none⟩ b').setCell ⟨g, 2, none⟩ c').setCell ⟨g, 3, none⟩ d').heap[g]? = some (.cells #[a', b', c', d'] 59 fz) := by
  simp [World.setCell, Array.getElem?_modify, hg]
theorem part_below {B g : Nat} {w w1 : World} (h : Below B w w1) (hg : B ≤ g) (x y z u : Value) : Below B w ((((w1.setCell ⟨g, 0, none⟩ x).setCell ⟨g, 1, none⟩ y).setCell ⟨g, 2, none⟩ z).setCell ⟨g, 3, none⟩ u) :=
  (((h.setCell (by simpa using hg) _).setCell (by simpa using hg) _).setCell (by simpa using hg) _).setCell (by simpa using hg) _
theorem part_cells {w : World} {g : Nat} {a b c d : Value} (h : w.heap[g]? = some (.cells #[a, b, c, d] 59 (0, 0))) :
    (w.cell? ⟨g, 0, none⟩ = some a ∧ w.cell? ⟨g, 1, none⟩ = some b ∧ w.cell? ⟨g, 2, none⟩ = some c ∧ w.cell? ⟨g, 3, none⟩ = some d) ∧
    (w.frozen? ⟨g, 0, none⟩ = false ∧ w.frozen? ⟨g, 1, none⟩ = false ∧ w.frozen? ⟨g, 2, none⟩ = false ∧ w.frozen? ⟨g, 3, none⟩ = false) := by
  refine ⟨⟨cell_of_row w g 0 _ _ _ h, cell_of_row w g 1 _ _ _ h, cell_of_row w g 2 _ _ _ h, cell_of_row w g 3 _ _ _ h⟩, ?_⟩
  unfold World.frozen?
  rw [h]
  simp
def PartRes (r : ByteArray) : Option (It × Nat) → Value
  | none => .tuple #[PtVal it0, .string ⟨#[]⟩, .bool false]
  | some (x, n) => .tuple #[PtVal x, .string (r.extract n r.size), .bool true]
theorem prt_pct {r : ByteArray} (h : 0 < r.size ∧ bt r 0 = 37) : prtP r = some (⟨0, pctB, 0, false⟩, 1) := by unfold prtP; rw [if_pos h]
theorem prt_minus {r : ByteArray} (h : ¬ (0 < r.size ∧ bt r 0 = 37)) (h2 : 0 < r.size ∧ bt r 0 = 45) : prtP r = prtE (r.extract 1 r.size) 1 true := by unfold prtP; rw [if_neg h, if_pos h2]
theorem prt_plain {r : ByteArray} (h : ¬ (0 < r.size ∧ bt r 0 = 37)) (h2 : ¬ (0 < r.size ∧ bt r 0 = 45)) : prtP r = prtE r 0 false := by unfold prtP; rw [if_neg h, if_neg h2]
theorem prtE_big {s : ByteArray} {a : Nat} {l : Bool} (h : 2 < endOf dgB s 0) : prtE s a l = none := by unfold prtE; rw [if_pos (.inl h)]
theorem prtE_end {s : ByteArray} {a : Nat} {l : Bool} (h : endOf dgB s 0 = s.size) : prtE s a l = none := by unfold prtE; rw [if_pos (.inr (.inl h))]
theorem prtE_no {s : ByteArray} {a : Nat} {l : Bool} (h1 : bt s (endOf dgB s 0) ≠ 100) (h2 : bt s (endOf dgB s 0) ≠ 115) : prtE s a l = none := by
  unfold prtE; rw [if_pos (.inr (.inr (by rintro (h | h); exact h1 h; exact h2 h)))]
theorem prtE_yes {s : ByteArray} {a : Nat} {l : Bool} (h : ¬ 2 < endOf dgB s 0) (h2 : endOf dgB s 0 ≠ s.size) (hb : bt s (endOf dgB s 0) = 100 ∨ bt s (endOf dgB s 0) = 115) : prtE s a l = some (⟨bt s (endOf dgB s 0), ⟨#[]⟩, valF s 0 (endOf dgB s 0), l⟩, a + endOf dgB s 0 + 1) := by
  unfold prtE; rw [if_neg (by rintro (q | q | q); exact h q; exact h2 q; exact q hb)]
theorem val_two {s : ByteArray} (h : ¬ 2 < endOf dgB s 0) : 0 ≤ valF s 0 (endOf dgB s 0) ∧ valF s 0 (endOf dgB s 0) ≤ 99 := by
  have hd : Digs s 0 (endOf dgB s 0) := by have := digs_end s 0; rwa [Nat.sub_zero] at this
  refine ⟨valF_nn hd, ?_⟩
  have hz : endOf dgB s 0 ≤ 2 := by omega
  match endOf dgB s 0, hd, hz with
  | 0, _, _ => simp [valF]
  | 1, hd, _ => have := hd 0 (by omega); simp only [valF, Nat.zero_add] at *; omega
  | 2, hd, _ => have h0 := hd 0 (by omega); have h1 := hd 1 (by omega); simp only [valF, Nat.zero_add, Nat.add_zero] at *; omega

theorem conv_yes {b : Int} (hb : b = 100 ∨ b = 115) : ∃ fv, (∀ W, Calls Tryz.prog 26 #[.int .u8 b] W fun e w' => e = .returned fv ∧ W = w') ∧ (∀ W, (binOp .eql 64 fv .nilFunc).run Tryz.prog W = .ok (.bool false) W) ∧ ∀ x y W, (eqGuard .eql 64 x y fv .nilFunc).run Tryz.prog W = .ok () W := by
  rcases hb with rfl | rfl
  · exact ⟨_, conv_d, fun W => by kernel_rfl, fun x y W => by simp [go_sem]⟩
  · exact ⟨_, conv_s, fun W => by kernel_rfl, fun x y W => by simp [go_sem]⟩

set_option maxRecDepth 100000 in
set_option maxHeartbeats 2000000 in
theorem part_pct (r : ByteArray) (hr : r.size ≤ 1048576) (h : 0 < r.size ∧ bt r 0 = 37) (w : World) : Calls Tryz.prog 57 #[.string r] w fun e w' => e = .returned (PartRes r (prtP r)) ∧ Below w.heap.size w w' := by
  have E := Lib.hid (prt_pct h)
  have hc := fun W => cutp_yes (s := r) (c := 37) h W
  have HC := Lib.hid hc; clear hc h
  have HG := Lib.hid (heap_alloc_new w (.cells #[.string ⟨#[]⟩, .int .u8 0, .bool false, .int .i64 0] 59))
  have HB := Lib.hid ((Below.refl w.heap.size w).alloc (Nat.le_refl _) (.cells #[.string ⟨#[]⟩, .int .u8 0, .bool false, .int .i64 0] 59))
  go_enter Tryz.func57, Tryz.ntmps57
  go_wp2_with fail
  generalize w.alloc (.cells #[.string ⟨#[]⟩, .int .u8 0, .bool false, .int .i64 0] 59) = W at HG HB ⊢
  obtain ⟨⟨c0, c1, c2, c3⟩, z0, z1, z2, z3⟩ := part_cells HG.out
  refine (HC.out _).mono ?_
  rintro e w1 ⟨rfl, rfl⟩
  go_wp2_with fail
  exact bodyPost_ret (part_results rfl (part_set HG.out _ _ _ _) rfl rfl rfl) rfl ⟨by rw [E.out]; rfl, part_below HB.out (Nat.le_refl _) _ _ _ _⟩

set_option maxRecDepth 100000 in
set_option maxHeartbeats 2000000 in
theorem part_big (r : ByteArray) (hr : r.size ≤ 1048576) (h : ¬ (0 < r.size ∧ bt r 0 = 37)) (s : ByteArray) (a : Nat) (l : Bool) (e1 : prtP r = prtE s a l) (hc2 : ∀ W, Calls Tryz.prog 89 #[.string r, .string ⟨#[45]⟩] W fun e w' => e = .returned (.tuple #[.string s, .bool l]) ∧ W = w') (hsz2 : s.size ≤ 1048576) (hcut : ∀ n, n ≤ s.size → s.extract n s.size = r.extract (a + n) r.size) (hz : 2 < endOf dgB s 0) (w : World) : Calls Tryz.prog 57 #[.string r] w fun e w' => e = .returned (PartRes r (prtP r)) ∧ Below w.heap.size w w' := by
  rw [prtE_big hz] at e1
  have hc1 := fun W => cutp_no (s := r) (c := 37) h W
  have hle := endOf_le dgB s 0 (Nat.zero_le _)
  have hde := fun W => impl_digitsEnd s 0 (by unfold maxLen; omega) (Nat.zero_le _) W
  have hgb := get_bt s
  have b0 := bt_nonneg s (endOf dgB s 0)
  have b1 := bt_le s (endOf dgB s 0)
  generalize hzz : endOf dgB s 0 = z at *
  have g1 : (2 : Int) < (z : Int) := by omega
  have E := Lib.hid e1; clear e1
  have H1 := Lib.hid hc1; clear hc1
  have H2 := Lib.hid hc2; clear hc2
  have H3 := Lib.hid hde; clear hde
  clear h hcut
  have HG := Lib.hid (heap_alloc_new w (.cells #[.string ⟨#[]⟩, .int .u8 0, .bool false, .int .i64 0] 59))
  have HB := Lib.hid ((Below.refl w.heap.size w).alloc (Nat.le_refl _) (.cells #[.string ⟨#[]⟩, .int .u8 0, .bool false, .int .i64 0] 59))
  go_enter Tryz.func57, Tryz.ntmps57
  go_wp2_with fail
  generalize w.alloc (.cells #[.string ⟨#[]⟩, .int .u8 0, .bool false, .int .i64 0] 59) = W at HG HB ⊢
  obtain ⟨⟨c0, c1, c2, c3⟩, z0, z1, z2, z3⟩ := part_cells HG.out
  refine (H1.out _).mono ?_
  rintro e w1 ⟨rfl, rfl⟩
  go_wp2_with fail
  refine (H2.out _).mono ?_
  rintro e w1 ⟨rfl, rfl⟩
  go_wp2_with (first | fail | (go_at_call 90; refine (H3.out _).mono ?_; rintro e w' ⟨rfl, rfl⟩))
  exact bodyPost_ret (part_results rfl (part_set HG.out _ _ _ _) rfl rfl rfl) rfl ⟨by rw [E.out]; rfl, part_below HB.out (Nat.le_refl _) _ _ _ _⟩

set_option maxRecDepth 100000 in
set_option maxHeartbeats 2000000 in
theorem part_end (r : ByteArray) (hr : r.size ≤ 1048576) (h : ¬ (0 < r.size ∧ bt r 0 = 37)) (s : ByteArray) (a : Nat) (l : Bool) (e1 : prtP r = prtE s a l) (hc2 : ∀ W, Calls Tryz.prog 89 #[.string r, .string ⟨#[45]⟩] W fun e w' => e = .returned (.tuple #[.string s, .bool l]) ∧ W = w') (hsz2 : s.size ≤ 1048576) (hcut : ∀ n, n ≤ s.size → s.extract n s.size = r.extract (a + n) r.size) (hz : ¬ 2 < endOf dgB s 0) (he : endOf dgB s 0 = s.size) (w : World) : Calls Tryz.prog 57 #[.string r] w fun e w' => e = .returned (PartRes r (prtP r)) ∧ Below w.heap.size w w' := by
  rw [prtE_end he] at e1
  have hc1 := fun W => cutp_no (s := r) (c := 37) h W
  have hle := endOf_le dgB s 0 (Nat.zero_le _)
  have hde := fun W => impl_digitsEnd s 0 (by unfold maxLen; omega) (Nat.zero_le _) W
  have hgb := get_bt s
  have b0 := bt_nonneg s (endOf dgB s 0)
  have b1 := bt_le s (endOf dgB s 0)
  generalize hzz : endOf dgB s 0 = z at *
  have g1 : ¬ (2 : Int) < (z : Int) := by omega
  have g1b : decide (2 < z) = false := by simpa using hz
  have g2 : ((z : Int) == (s.size : Int)) = true := by rw [he]; simp
  have E := Lib.hid e1; clear e1
  have H1 := Lib.hid hc1; clear hc1
  have H2 := Lib.hid hc2; clear hc2
  have H3 := Lib.hid hde; clear hde
  clear h hcut
  have HG := Lib.hid (heap_alloc_new w (.cells #[.string ⟨#[]⟩, .int .u8 0, .bool false, .int .i64 0] 59))
  have HB := Lib.hid ((Below.refl w.heap.size w).alloc (Nat.le_refl _) (.cells #[.string ⟨#[]⟩, .int .u8 0, .bool false, .int .i64 0] 59))
  go_enter Tryz.func57, Tryz.ntmps57
  go_wp2_with fail
  generalize w.alloc (.cells #[.string ⟨#[]⟩, .int .u8 0, .bool false, .int .i64 0] 59) = W at HG HB ⊢
  obtain ⟨⟨c0, c1, c2, c3⟩, z0, z1, z2, z3⟩ := part_cells HG.out
  refine (H1.out _).mono ?_
  rintro e w1 ⟨rfl, rfl⟩
  go_wp2_with fail
  refine (H2.out _).mono ?_
  rintro e w1 ⟨rfl, rfl⟩
  go_wp2_with (first | fail | (go_at_call 90; refine (H3.out _).mono ?_; rintro e w' ⟨rfl, rfl⟩))
  exact bodyPost_ret (part_results rfl (part_set HG.out _ _ _ _) rfl rfl rfl) rfl ⟨by rw [E.out]; rfl, part_below HB.out (Nat.le_refl _) _ _ _ _⟩

set_option maxRecDepth 100000 in
set_option maxHeartbeats 2000000 in
theorem part_no (r : ByteArray) (hr : r.size ≤ 1048576) (h : ¬ (0 < r.size ∧ bt r 0 = 37)) (s : ByteArray) (a : Nat) (l : Bool) (e1 : prtP r = prtE s a l) (hc2 : ∀ W, Calls Tryz.prog 89 #[.string r, .string ⟨#[45]⟩] W fun e w' => e = .returned (.tuple #[.string s, .bool l]) ∧ W = w') (hsz2 : s.size ≤ 1048576) (hcut : ∀ n, n ≤ s.size → s.extract n s.size = r.extract (a + n) r.size) (hz : ¬ 2 < endOf dgB s 0) (he : endOf dgB s 0 ≠ s.size) (h3 : bt s (endOf dgB s 0) ≠ 100) (h4 : bt s (endOf dgB s 0) ≠ 115) (w : World) : Calls Tryz.prog 57 #[.string r] w fun e w' => e = .returned (PartRes r (prtP r)) ∧ Below w.heap.size w w' := by
  rw [prtE_no h3 h4] at e1
  have hc1 := fun W => cutp_no (s := r) (c := 37) h W
  have hle := endOf_le dgB s 0 (Nat.zero_le _)
  have hde := fun W => impl_digitsEnd s 0 (by unfold maxLen; omega) (Nat.zero_le _) W
  have hgb := get_bt s
  have b0 := bt_nonneg s (endOf dgB s 0)
  have b1 := bt_le s (endOf dgB s 0)
  generalize hzz : endOf dgB s 0 = z at *
  have g1 : ¬ (2 : Int) < (z : Int) := by omega
  have g1b : decide (2 < z) = false := by simpa using hz
  have g2 : ((z : Int) == (s.size : Int)) = false := by simp; omega
  have hlt : z < s.size := by omega
  have hcv := fun W => conv_no (bt s z) h3 h4 W
  have hnil : ∀ W, (binOp .eql 64 .nilFunc .nilFunc).run Tryz.prog W = .ok (.bool true) W := fun W => by kernel_rfl
  have E := Lib.hid e1; clear e1
  have H1 := Lib.hid hc1; clear hc1
  have H2 := Lib.hid hc2; clear hc2
  have H3 := Lib.hid hde; clear hde
  have H4 := Lib.hid hcv; clear hcv
  clear h hcut
  have HG := Lib.hid (heap_alloc_new w (.cells #[.string ⟨#[]⟩, .int .u8 0, .bool false, .int .i64 0] 59))
  have HB := Lib.hid ((Below.refl w.heap.size w).alloc (Nat.le_refl _) (.cells #[.string ⟨#[]⟩, .int .u8 0, .bool false, .int .i64 0] 59))
  go_enter Tryz.func57, Tryz.ntmps57
  go_wp2_with fail
  generalize w.alloc (.cells #[.string ⟨#[]⟩, .int .u8 0, .bool false, .int .i64 0] 59) = W at HG HB ⊢
  obtain ⟨⟨c0, c1, c2, c3⟩, z0, z1, z2, z3⟩ := part_cells HG.out
  refine (H1.out _).mono ?_
  rintro e w1 ⟨rfl, rfl⟩
  go_wp2_with fail
  refine (H2.out _).mono ?_
  rintro e w1 ⟨rfl, rfl⟩
  go_wp2_with (first | rw [hnil] | (go_at_call 26; refine (H4.out _).mono ?_; rintro e w' ⟨rfl, rfl⟩) | (go_at_call 90; refine (H3.out _).mono ?_; rintro e w' ⟨rfl, rfl⟩))
  exact bodyPost_ret (part_results rfl (part_set HG.out _ _ _ _) rfl rfl rfl) rfl ⟨by rw [E.out]; rfl, part_below HB.out (Nat.le_refl _) _ _ _ _⟩

set_option maxRecDepth 100000 in
set_option maxHeartbeats 2000000 in
theorem part_yes (r : ByteArray) (hr : r.size ≤ 1048576) (h : ¬ (0 < r.size ∧ bt r 0 = 37)) (s : ByteArray) (a : Nat) (l : Bool) (e1 : prtP r = prtE s a l) (hc2 : ∀ W, Calls Tryz.prog 89 #[.string r, .string ⟨#[45]⟩] W fun e w' => e = .returned (.tuple #[.string s, .bool l]) ∧ W = w') (hsz2 : s.size ≤ 1048576) (hcut : ∀ n, n ≤ s.size → s.extract n s.size = r.extract (a + n) r.size) (hz : ¬ 2 < endOf dgB s 0) (he : endOf dgB s 0 ≠ s.size) (hb : bt s (endOf dgB s 0) = 100 ∨ bt s (endOf dgB s 0) = 115) (w : World) : Calls Tryz.prog 57 #[.string r] w fun e w' => e = .returned (PartRes r (prtP r)) ∧ Below w.heap.size w w' := by
  rw [prtE_yes hz he hb] at e1
  have hc1 := fun W => cutp_no (s := r) (c := 37) h W
  obtain ⟨fv, hcv0, hnil, hgq⟩ := conv_yes hb
  have hle := endOf_le dgB s 0 (Nat.zero_le _)
  have hde := fun W => impl_digitsEnd s 0 (by unfold maxLen; omega) (Nat.zero_le _) W
  have hdg : Digs s 0 (endOf dgB s 0) := by have := digs_end s 0; rwa [Nat.sub_zero] at this
  obtain ⟨hv0, hv9⟩ := val_two hz
  have hgb := get_bt s
  have b0 := bt_nonneg s (endOf dgB s 0)
  have b1 := bt_le s (endOf dgB s 0)
  generalize hzz : endOf dgB s 0 = z at *
  have hzd : z ≤ s.size := hle
  have hds : (s.extract 0 z).size = z := by rw [size_ext s 0 z hzd]; omega
  have hwv := fun W => impl_whole (s.extract 0 z) (by rw [hds]; unfold maxLen; omega) (by rw [hds]; have := digs_ext s 0 z hzd (by rwa [Nat.sub_zero]); rwa [Nat.sub_zero] at this) W
  rw [hds, valF_ext s 0 z hzd z (by omega)] at hwv
  generalize valF s 0 z = v at *
  have hmin : min v 9000000 = v := by omega
  rw [hmin] at hwv
  have hq : Int.tdiv (v * 1000000) 1000000 = v := by rw [Int.mul_tdiv_cancel _ (by decide)]
  have hcn := hcut (z + 1) (by omega)
  have hw1 : IntKind.i64.wrap ((z : Int) + 1) = ((z + 1 : Nat) : Int) := by rw [IntKind.wrap_i64]; omega
  have g1 : ¬ (2 : Int) < (z : Int) := by omega
  have g1b : decide (2 < z) = false := by simpa using hz
  have g2 : ((z : Int) == (s.size : Int)) = false := by simp; omega
  have hlt : z < s.size := by omega
  have hcv := hcv0; clear hcv0 hb
  have E := Lib.hid e1; clear e1
  have H1 := Lib.hid hc1; clear hc1
  have H2 := Lib.hid hc2; clear hc2
  have H3 := Lib.hid hde; clear hde
  have H4 := Lib.hid hcv; clear hcv
  have H5 := Lib.hid hwv; clear hwv
  have H6 := Lib.hid hcn; clear hcn
  clear h hcut hdg hds
  have HG := Lib.hid (heap_alloc_new w (.cells #[.string ⟨#[]⟩, .int .u8 0, .bool false, .int .i64 0] 59))
  have HB := Lib.hid ((Below.refl w.heap.size w).alloc (Nat.le_refl _) (.cells #[.string ⟨#[]⟩, .int .u8 0, .bool false, .int .i64 0] 59))
  go_enter Tryz.func57, Tryz.ntmps57
  go_wp2_with fail
  generalize w.alloc (.cells #[.string ⟨#[]⟩, .int .u8 0, .bool false, .int .i64 0] 59) = W at HG HB ⊢
  obtain ⟨⟨c0, c1, c2, c3⟩, z0, z1, z2, z3⟩ := part_cells HG.out
  refine (H1.out _).mono ?_
  rintro e w1 ⟨rfl, rfl⟩
  go_wp2_with fail
  refine (H2.out _).mono ?_
  rintro e w1 ⟨rfl, rfl⟩
  go_wp2_with (first | rw [hnil] | rw [hgq] | (go_at_call 26; refine (H4.out _).mono ?_; rintro e w' ⟨rfl, rfl⟩) | (go_at_call 90; refine (H3.out _).mono ?_; rintro e w' ⟨rfl, rfl⟩) | (go_at_call 91; refine (H5.out _).mono ?_; rintro e w' ⟨rfl, rfl⟩))
  go_region_with (fail)
  all_goals
    go_wp2_with fail
    exact bodyPost_ret (part_results (x := .string (s.extract (z + 1) s.size)) (y := .bool true) rfl (part_set (w := W.drew) HG.out _ _ _ _) rfl rfl rfl) rfl ⟨by rw [E.out, H6.out]; rfl, part_below (Below.drew HB.out) (Nat.le_refl _) _ _ _ _⟩

theorem part_any (r : ByteArray) (hr : r.size ≤ 1048576) (h : ¬ (0 < r.size ∧ bt r 0 = 37)) (s : ByteArray) (a : Nat) (l : Bool) (e1 : prtP r = prtE s a l) (hc2 : ∀ W, Calls Tryz.prog 89 #[.string r, .string ⟨#[45]⟩] W fun e w' => e = .returned (.tuple #[.string s, .bool l]) ∧ W = w') (hsz2 : s.size ≤ 1048576) (hcut : ∀ n, n ≤ s.size → s.extract n s.size = r.extract (a + n) r.size) (w : World) : Calls Tryz.prog 57 #[.string r] w fun e w' => e = .returned (PartRes r (prtP r)) ∧ Below w.heap.size w w' := by
  by_cases hz : 2 < endOf dgB s 0
  · exact part_big r hr h s a l e1 hc2 hsz2 hcut hz w
  by_cases he : endOf dgB s 0 = s.size
  · exact part_end r hr h s a l e1 hc2 hsz2 hcut hz he w
  by_cases hb : bt s (endOf dgB s 0) = 100 ∨ bt s (endOf dgB s 0) = 115
  · exact part_yes r hr h s a l e1 hc2 hsz2 hcut hz he hb w
  · exact part_no r hr h s a l e1 hc2 hsz2 hcut hz he (fun q => hb (.inl q)) (fun q => hb (.inr q)) w

theorem impl_part (r : ByteArray) (hr : r.size ≤ 1048576) (w : World) : Calls Tryz.prog 57 #[.string r] w fun e w' => e = .returned (PartRes r (prtP r)) ∧ Below w.heap.size w w' := by
  by_cases h : 0 < r.size ∧ bt r 0 = 37
  · exact part_pct r hr h w
  by_cases h2 : 0 < r.size ∧ bt r 0 = 45
  · refine part_any r hr h (r.extract 1 r.size) 1 true (prt_minus h h2) (fun W => cutp_yes (s := r) (c := 45) h2 W) (by rw [size_ext r 1 _ (Nat.le_refl _)]; omega) (fun n hn => ?_) w
    rw [size_ext r 1 _ (Nat.le_refl _)] at hn
    exact ext_ext (by omega)
  · exact part_any r hr h r 0 false (prt_plain h h2) (fun W => cutp_no (s := r) (c := 45) h2 W) hr (fun n _ => by rw [Nat.zero_add]) w

end Go.Proofs.YthaedmldlenhgaaGreatDoor.Cell
