/-
  The text of a valid list of nodes: the model's l2text and ReText.
-/
import Derived.Test.YtdgbbgkdoekfkaaTxSpec
import Derived.Test.YtdgbbgkdoekfkaaReOkSpec
namespace Go.Proofs.Ytdgbbgkdoekfkaa.Re
open Go.ChangeShapes Go.WideShapes Go.ChangeAt Go.RowKit Go.PlainAid
open Go.Proofs.Ytdgbbgkdoekfkaa.RePure
set_option linter.unusedVariables false

def TextOk (l : List Nd) (i : Nat) (e : Ending) : Prop := okT l i ∧ ∃ s : ByteArray, e = .returned (.tuple #[.string s, .int .i64 ((tx l i).2 : Nat)]) ∧ s = strOfNums (tx l i).1 ∧ s.size ≤ 4000000 ∧ (tx l i).2 ≤ 20
def TextIs (l : List Nd) (i : Nat) (e : Ending) : Prop := TextOk l i e ∨ (¬ okT l i ∧ e = .returned (.tuple #[.string ⟨#[]⟩, .int .i64 (-1)]))
theorem bd_of {l : List Nd} (ht : total l l.length ≤ 1048576) {i : Nat} (hi : i < l.length) : (nth l i).set.size ≤ 1048576 ∧ (nth l i).kids.length ≤ 1048576 := by
  have h1 : total l (i + 1) = total l i + wt (nth l i) := rfl
  have h2 := total_mono l (i + 1) (l.length - (i + 1))
  rw [show i + 1 + (l.length - (i + 1)) = l.length from by omega] at h2
  unfold wt at h1
  omega
theorem text_ok {l : List Nd} {i : Nat} {s : ByteArray} {d : Int} (ho : okT l i) (hs : s = strOfNums (tx l i).1) (hd : d = ((tx l i).2 : Nat)) (hz : (nth l i).set.size ≤ 1048576) : TextIs l i (.returned (.tuple #[.string s, .int .i64 d])) := by
  subst hd
  have := tx_le ho hz
  exact Or.inl ⟨ho, s, rfl, hs, by rw [sizeOf hs]; omega, this.2⟩
theorem text_no {l : List Nd} {i : Nat} (h : ¬ okT l i) : TextIs l i (.returned (.tuple #[.string ⟨#[]⟩, .int .i64 (-1)])) := Or.inr ⟨h, rfl⟩
theorem text_join (a b : List Int) : strOfNums a ++ strOfNums b = strOfNums (a ++ [] ++ b) := by rw [join_nums, List.append_nil]
theorem text_joinP (a b : List Int) : strOfNums a ++ (⟨#[40]⟩ ++ strOfNums b ++ ⟨#[41]⟩) = strOfNums (a ++ [] ++ (40 :: b ++ [41])) := by
  rw [show (⟨#[40]⟩ : ByteArray) = strOfNums [40] from rfl, show (⟨#[41]⟩ : ByteArray) = strOfNums [41] from rfl, join_nums, join_nums, join_nums, List.append_nil]; rfl
theorem text_joinS (a b : List Int) : strOfNums a ++ ⟨#[124]⟩ ++ strOfNums b = strOfNums (a ++ [124] ++ b) := by
  rw [show (⟨#[124]⟩ : ByteArray) = strOfNums [124] from rfl, join_nums, join_nums]
theorem text_joinPS (a b : List Int) : strOfNums a ++ ⟨#[124]⟩ ++ (⟨#[40]⟩ ++ strOfNums b ++ ⟨#[41]⟩) = strOfNums (a ++ [124] ++ (40 :: b ++ [41])) := by
  rw [show (⟨#[124]⟩ : ByteArray) = strOfNums [124] from rfl, show (⟨#[40]⟩ : ByteArray) = strOfNums [40] from rfl, show (⟨#[41]⟩ : ByteArray) = strOfNums [41] from rfl, join_nums, join_nums, join_nums, join_nums]; rfl
theorem okT_kids {l : List Nd} {i : Nat} (h0 : (nth l i).kind ≠ 0) (h1 : (nth l i).kind ≠ 1) (h2 : (nth l i).kind ≠ 2) : okT l i ↔ (tx l i).2 ≤ 20 ∧ (tx l i).1.length ≤ 200 :=
  ⟨fun h => by
    rcases h with h | h | h | h
    · exact absurd h h0
    · exact absurd h h1
    · exact absurd h h2
    · exact h, fun h => Or.inr (Or.inr (Or.inr h))⟩
theorem body_deep {l : List Nd} {i : Nat} (h : ∀ k, k < (nth l i).kids.length → (ktx l i k).2 ≤ 20) : ∀ k, k ≤ (nth l i).kids.length → (body l i k).2 ≤ 21
  | 0, _ => by rw [body_zero]; show 0 ≤ 21; omega
  | k + 1, hk => by
    have h1 := body_deep h k (by omega)
    have h2 := h k (by omega)
    rw [body_step]
    refine Nat.max_le.2 ⟨h1, ?_⟩
    unfold piece
    split
    · show _ + 1 ≤ 21; omega
    · omega

set_option maxRecDepth 100000 in
set_option maxHeartbeats 8000000 in
theorem spec_text (B : Nat) (l : List Nd) (hP : ReP l) (hT : total l l.length ≤ 1048576) (x : Value) (V : Nat → Value) : ∀ i, i < l.length → ∀ w : World, B ≤ w.heap.size → NodesAt B w x V l →
    Calls Try.prog 51 #[x, .int .i64 i] w fun e w' => TextIs l i e ∧ Below w.heap.size w w' := by
  intro i
  induction i using Nat.strongRecOn with
  | _ i ih =>
  intro hi w hB hx
  have IH := Lib.hid ih; clear ih
  have HX := Lib.hid hx
  obtain ⟨ao, cap, rfl, hc1, hc2, hc3⟩ := hx
  unfold maxLen at hc2
  have HC := Lib.hid hc3; clear hc3
  have hl200 := hP.2.1
  obtain ⟨b, off, rfl, hb, hN⟩ := HC.out i hi
  have hbd := bd_of hT hi
  have hbw : b < w.heap.size := by omega
  have c0 := hN.kind
  have c1 := hN.neg
  have c2 := hN.set
  have c3 := hN.kidc
  have hk0 := hN.kids
  obtain ⟨ka, kc, hV, hk1, hk2, hk5⟩ := id hk0
  rw [hV] at c3 hk0
  clear hV hN
  unfold maxLen at hk2
  have HK := Lib.hid hk5; clear hk5
  have hnode := hP.2.2.1 i hi
  have hBk := backs_of hP
  have HP := Lib.hid hP; clear hP
  have hB0 : ∀ o, Below w.heap.size w (w.alloc o) := fun o => (Below.refl _ _).alloc (Nat.le_refl _) o
  have hzs := hbd.1
  have hzk := hbd.2
  clear hbd
  by_cases h0 : (nth l i).kind = 0
  · have hev : EvenOrd (nth l i).set := by
      have := (node0' (neg := (nth l i).neg) (s := (nth l i).set) (kids := (nth l i).kids)).1 (by rw [← h0]; exact hnode)
      exact this.2.1
    have HT := Lib.hid (tx_set h0)
    rw [h0] at c0
    have HO : Hid (okT l i) := Or.inl h0
    have HE := Lib.hid hev
    clear h0 hnode hev
    go_enter Try.func51, Try.ntmps51
    go_wp2_with fail
    refine (spec_setText ⟨0, (nth l i).neg, (nth l i).set, (nth l i).kids⟩ _ hzs HE.out _).mono ?_
    rintro e w1 ⟨⟨s, rfl, hs⟩, hB1⟩
    have hB2 := (hB0 _).trans (hB1.mono (by simp))
    have HS := Lib.hid hs; clear hs hB1
    go_wp2_with fail
    go_ret2
    exact ⟨text_ok HO.out (by rw [HT.out]; exact HS.out) (by rw [HT.out]; rfl) hzs, hB2⟩
  · by_cases h1 : (nth l i).kind = 1
    · have HT := Lib.hid (tx_beg h1)
      have HO : Hid (okT l i) := Or.inr (Or.inl h1)
      rw [h1] at c0
      clear h0 h1 hnode
      go_enter Try.func51, Try.ntmps51
      go_wp2_with fail
      go_ret2
      exact ⟨text_ok HO.out (by rw [HT.out]; rfl) (by rw [HT.out]; rfl) hzs, hB0 _⟩
    · by_cases h2 : (nth l i).kind = 2
      · have HT := Lib.hid (tx_end h2)
        have HO : Hid (okT l i) := Or.inr (Or.inr (Or.inl h2))
        rw [h2] at c0
        clear h0 h1 h2 hnode
        go_enter Try.func51, Try.ntmps51
        go_wp2_with fail
        go_ret2
        exact ⟨text_ok HO.out (by rw [HT.out]; rfl) (by rw [HT.out]; rfl) hzs, hB0 _⟩
      · have HT := Lib.hid (tx_body hBk hi h0 h1 h2)
        have HO := Lib.hid (okT_kids h0 h1 h2)
        have HKD : Hid (∀ k, k < (nth l i).kids.length → ¬ okT l (kd l i k).toNat → ¬ okT l i) := fun k hk => okT_kid hBk hi h0 h1 h2 hk
        have q0 : ((nth l i).kind == 0) = false := by simpa using h0
        have q1 : ((nth l i).kind == 1) = false := by simpa using h1
        have q2 : ((nth l i).kind == 2) = false := by simpa using h2
        clear h0 h1 h2
        have hbk2 := hBk i hi
        have HBK := Lib.hid hbk2; clear hbk2 hBk
        have hsf : (nth l i).kind = 5 ∨ (nth l i).kind = 6 ∨ (nth l i).kind = 7 ∨ (((nth l i).kind == 5) = false ∧ ((nth l i).kind == 6) = false ∧ ((nth l i).kind == 7) = false) := by
          simp only [beq_eq_false_iff_ne]
          omega
        have HSF := Lib.hid hsf; clear hsf hnode
        cases q4 : ((nth l i).kind == 4)
        · go_enter Try.func51, Try.ntmps51
          go_wp2_with fail
          go_loopw [7, 8, 9] (fun t d j wr => ∃ (k : Nat) (s : ByteArray), k ≤ (nth l i).kids.length ∧ j = .int .i64 k ∧ t = .string s ∧ d = .int .i64 ((body l i k).2 : Nat) ∧ Hid (s = strOfNums (body l i k).1) ∧ s.size ≤ 4000010 * k ∧ (body l i k).2 ≤ 21 ∧ Below w.heap.size w wr ∧ w.heap.size < wr.heap.size ∧ wr.cell? ⟨w.heap.size, 0, none⟩ = some (.int .i64 (nth l i).kind) ∧ wr.cell? ⟨w.heap.size, 3, none⟩ = some (.slice ka (nth l i).kids.length kc))
            (fun _ _ j _ => (nth l i).kids.length - (intOf j).toNat)
          case atStart => exact ⟨0, _, Nat.zero_le _, rfl, rfl, rfl, rfl, (by first | decide | (simp; done)), (by rw [body_zero]; show 0 ≤ 21; omega), hB0 _, (by simp), (by go_simp), (by go_simp)⟩
          case round =>
            obtain ⟨k, s, hk, rfl, rfl, rfl, HS, hsz, hdp, hB1, hlt, e0, e3⟩ := hrel
            by_cases hkl : k < (nth l i).kids.length
            · obtain ⟨b0, off0, rfl, hb0, hc⟩ := HK.out k hkl
              obtain ⟨y, hy⟩ : ∃ y : Nat, kd l i k = y := ⟨_, (Int.toNat_of_nonneg (HBK.out k hkl).1).symm⟩
              have hyi : y < i := by have := (HBK.out k hkl).2; omega
              have hyl : y < l.length := by omega
              have r0 : wr.cell? ⟨b0, off0 + k, none⟩ = some (.int .i64 y) := (hB1.cell (p := ⟨b0, off0 + k, none⟩) (show b0 < _ by omega)).trans (by rw [← hy]; exact hc)
              have HKT : Hid (ktx l i k = tx l y) := by show ktx l i k = _; rw [ktx, hy]; rfl
              have HKK : Hid (kkind l i k = (nth l y).kind) := by show kkind l i k = _; rw [kkind, hy]; rfl
              have HNO : Hid (¬ okT l y → ¬ okT l i) := fun h => HKD.out k hkl (by rw [hy]; exact h)
              obtain ⟨b1, off1, ea, hb1, hN1⟩ := HC.out y hyl
              simp only [Option.some.injEq, Addr.mk.injEq, and_true] at ea
              obtain ⟨rfl, rfl⟩ := ea
              have hky := hN1.kind
              clear hN1 hc hy
              have hx1 := HX.out.below (hB1.mono hB) (Nat.le_refl _)
              have hBw := Nat.le_trans hB hB1.size
              have HX1 := Lib.hid hx1; clear hx1
              go_wp2_with fail
              refine (IH.out y hyi hyl wr hBw HX1.out).mono ?_
              rintro e w1 ⟨⟨hoy, s1, rfl, hs1, hz1, hd1⟩ | ⟨hoy, rfl⟩, hB2⟩
              · have hB3 := hB1.trans (hB2.mono hB1.size)
                have hlt1 := Nat.lt_of_lt_of_le hlt hB2.size
                have e01 := (hB2.cell (p := ⟨w.heap.size, 0, none⟩) hlt).trans e0
                have e31 := (hB2.cell (p := ⟨w.heap.size, 3, none⟩) hlt).trans e3
                have r01 := (hB2.cell (p := ⟨b0, off0 + k, none⟩) (show b0 < _ by omega)).trans r0
                have ky1 := (hB3.cell (p := ⟨b, off + y * 4, none⟩) hbw).trans hky
                have HS1 := Lib.hid hs1; clear hs1
                have hd1' : (0 : Int) ≤ ((tx l y).2 : Int) := by omega
                clear hB2 e0 e3 r0 hky HX1 hoy
                have hpc : (((nth l y).kind == 4) = true) ∨ (((nth l y).kind == 4) = false ∧ ((nth l y).kind == 3) = true) ∨ (((nth l y).kind == 4) = false ∧ ((nth l y).kind == 3) = false) := by
                  cases (nth l y).kind == 4 <;> cases (nth l y).kind == 3 <;> simp
                rcases hpc with p4 | ⟨p4, p3⟩ | ⟨p4, p3⟩
                · have hpar : par (nth l i).kind (nth l y).kind = true := decide_eq_true (Or.inl (eq_of_beq p4))
                  have hpe : piece (nth l i).kind (nth l y).kind (tx l y) = (40 :: (tx l y).1 ++ [41], (tx l y).2 + 1) := by rw [piece, hpar]; rfl
                  have hsp : sepL (nth l i).kind k = [] := if_neg (fun h => ne_of_beq_false q4 h.2)
                  by_cases hg : (body l i k).2 < (tx l y).2 + 1
                  · have hbe : body l i (k + 1) = ((body l i k).1 ++ [] ++ (40 :: (tx l y).1 ++ [41]), (tx l y).2 + 1) := by rw [body_step, HKK.out, HKT.out, hpe, hsp]; try exact Prod.ext rfl (Nat.max_eq_right (by show _ ≤ _; omega))
                    have HBE := Lib.hid hbe; clear hbe hpe hpar hsp
                    have hsn : (s ++ (⟨#[40]⟩ ++ s1 ++ ⟨#[41]⟩)).size ≤ 4000010 * (k + 1) := by simp only [ByteArray.size_append]; have h1 : (⟨#[40]⟩ : ByteArray).size = 1 := rfl; have h2 : (⟨#[41]⟩ : ByteArray).size = 1 := rfl; have h3 : (⟨#[124]⟩ : ByteArray).size = 1 := rfl; omega
                    have HSN := Lib.hid hsn; clear hsn
                    have hge : ((body l i k).2 : Int) < ((tx l y).2 : Int) + 1 := by omega
                    go_wp2_with fail
                    all_goals
                      go_roundw
                      case rel => exact ⟨k + 1, s ++ (⟨#[40]⟩ ++ s1 ++ ⟨#[41]⟩), by omega, by go_num, rfl, (by rw [HBE.out] <;> first | rfl | (push_cast; rfl)), (by show _ = _; rw [HBE.out, HS.out, HS1.out]; exact text_joinP _ _), HSN.out, (by rw [HBE.out]; show (tx l y).2 + 1 ≤ 21; omega), hB3, hlt1, e01, e31⟩
                      case measure => simp [intOf]; omega
                  · have hbe : body l i (k + 1) = ((body l i k).1 ++ [] ++ (40 :: (tx l y).1 ++ [41]), (body l i k).2) := by rw [body_step, HKK.out, HKT.out, hpe, hsp]; try exact Prod.ext rfl (Nat.max_eq_left (by show _ ≤ _; omega))
                    have HBE := Lib.hid hbe; clear hbe hpe hpar hsp
                    have hsn : (s ++ (⟨#[40]⟩ ++ s1 ++ ⟨#[41]⟩)).size ≤ 4000010 * (k + 1) := by simp only [ByteArray.size_append]; have h1 : (⟨#[40]⟩ : ByteArray).size = 1 := rfl; have h2 : (⟨#[41]⟩ : ByteArray).size = 1 := rfl; have h3 : (⟨#[124]⟩ : ByteArray).size = 1 := rfl; omega
                    have HSN := Lib.hid hsn; clear hsn
                    have hge : ¬ ((body l i k).2 : Int) < ((tx l y).2 : Int) + 1 := by omega
                    go_wp2_with fail
                    all_goals
                      go_roundw
                      case rel => exact ⟨k + 1, s ++ (⟨#[40]⟩ ++ s1 ++ ⟨#[41]⟩), by omega, by go_num, rfl, (by rw [HBE.out] <;> first | rfl | (push_cast; rfl)), (by show _ = _; rw [HBE.out, HS.out, HS1.out]; exact text_joinP _ _), HSN.out, (by rw [HBE.out]; show (body l i k).2 ≤ 21; omega), hB3, hlt1, e01, e31⟩
                      case measure => simp [intOf]; omega
                · have hpar : par (nth l i).kind (nth l y).kind = true := decide_eq_true (Or.inr ⟨eq_of_beq p3, ne_of_beq_false q4⟩)
                  have hpe : piece (nth l i).kind (nth l y).kind (tx l y) = (40 :: (tx l y).1 ++ [41], (tx l y).2 + 1) := by rw [piece, hpar]; rfl
                  have hsp : sepL (nth l i).kind k = [] := if_neg (fun h => ne_of_beq_false q4 h.2)
                  by_cases hg : (body l i k).2 < (tx l y).2 + 1
                  · have hbe : body l i (k + 1) = ((body l i k).1 ++ [] ++ (40 :: (tx l y).1 ++ [41]), (tx l y).2 + 1) := by rw [body_step, HKK.out, HKT.out, hpe, hsp]; try exact Prod.ext rfl (Nat.max_eq_right (by show _ ≤ _; omega))
                    have HBE := Lib.hid hbe; clear hbe hpe hpar hsp
                    have hsn : (s ++ (⟨#[40]⟩ ++ s1 ++ ⟨#[41]⟩)).size ≤ 4000010 * (k + 1) := by simp only [ByteArray.size_append]; have h1 : (⟨#[40]⟩ : ByteArray).size = 1 := rfl; have h2 : (⟨#[41]⟩ : ByteArray).size = 1 := rfl; have h3 : (⟨#[124]⟩ : ByteArray).size = 1 := rfl; omega
                    have HSN := Lib.hid hsn; clear hsn
                    have hge : ((body l i k).2 : Int) < ((tx l y).2 : Int) + 1 := by omega
                    go_wp2_with fail
                    all_goals
                      go_roundw
                      case rel => exact ⟨k + 1, s ++ (⟨#[40]⟩ ++ s1 ++ ⟨#[41]⟩), by omega, by go_num, rfl, (by rw [HBE.out] <;> first | rfl | (push_cast; rfl)), (by show _ = _; rw [HBE.out, HS.out, HS1.out]; exact text_joinP _ _), HSN.out, (by rw [HBE.out]; show (tx l y).2 + 1 ≤ 21; omega), hB3, hlt1, e01, e31⟩
                      case measure => simp [intOf]; omega
                  · have hbe : body l i (k + 1) = ((body l i k).1 ++ [] ++ (40 :: (tx l y).1 ++ [41]), (body l i k).2) := by rw [body_step, HKK.out, HKT.out, hpe, hsp]; try exact Prod.ext rfl (Nat.max_eq_left (by show _ ≤ _; omega))
                    have HBE := Lib.hid hbe; clear hbe hpe hpar hsp
                    have hsn : (s ++ (⟨#[40]⟩ ++ s1 ++ ⟨#[41]⟩)).size ≤ 4000010 * (k + 1) := by simp only [ByteArray.size_append]; have h1 : (⟨#[40]⟩ : ByteArray).size = 1 := rfl; have h2 : (⟨#[41]⟩ : ByteArray).size = 1 := rfl; have h3 : (⟨#[124]⟩ : ByteArray).size = 1 := rfl; omega
                    have HSN := Lib.hid hsn; clear hsn
                    have hge : ¬ ((body l i k).2 : Int) < ((tx l y).2 : Int) + 1 := by omega
                    go_wp2_with fail
                    all_goals
                      go_roundw
                      case rel => exact ⟨k + 1, s ++ (⟨#[40]⟩ ++ s1 ++ ⟨#[41]⟩), by omega, by go_num, rfl, (by rw [HBE.out] <;> first | rfl | (push_cast; rfl)), (by show _ = _; rw [HBE.out, HS.out, HS1.out]; exact text_joinP _ _), HSN.out, (by rw [HBE.out]; show (body l i k).2 ≤ 21; omega), hB3, hlt1, e01, e31⟩
                      case measure => simp [intOf]; omega
                · have hpar : par (nth l i).kind (nth l y).kind = false := decide_eq_false (fun h => h.elim (ne_of_beq_false p4) (fun h => ne_of_beq_false p3 h.1))
                  have hpe : piece (nth l i).kind (nth l y).kind (tx l y) = tx l y := by rw [piece, hpar]; rfl
                  have hsp : sepL (nth l i).kind k = [] := if_neg (fun h => ne_of_beq_false q4 h.2)
                  by_cases hg : (body l i k).2 < (tx l y).2
                  · have hbe : body l i (k + 1) = ((body l i k).1 ++ [] ++ (tx l y).1, (tx l y).2) := by rw [body_step, HKK.out, HKT.out, hpe, hsp]; try exact Prod.ext rfl (Nat.max_eq_right (by show _ ≤ _; omega))
                    have HBE := Lib.hid hbe; clear hbe hpe hpar hsp
                    have hsn : (s ++ s1).size ≤ 4000010 * (k + 1) := by simp only [ByteArray.size_append]; have h1 : (⟨#[40]⟩ : ByteArray).size = 1 := rfl; have h2 : (⟨#[41]⟩ : ByteArray).size = 1 := rfl; have h3 : (⟨#[124]⟩ : ByteArray).size = 1 := rfl; omega
                    have HSN := Lib.hid hsn; clear hsn
                    have hge : ((body l i k).2 : Int) < ((tx l y).2 : Int) := by omega
                    go_wp2_with fail
                    all_goals
                      go_roundw
                      case rel => exact ⟨k + 1, s ++ s1, by omega, by go_num, rfl, (by rw [HBE.out] <;> first | rfl | (push_cast; rfl)), (by show _ = _; rw [HBE.out, HS.out, HS1.out]; exact text_join _ _), HSN.out, (by rw [HBE.out]; show (tx l y).2 ≤ 21; omega), hB3, hlt1, e01, e31⟩
                      case measure => simp [intOf]; omega
                  · have hbe : body l i (k + 1) = ((body l i k).1 ++ [] ++ (tx l y).1, (body l i k).2) := by rw [body_step, HKK.out, HKT.out, hpe, hsp]; try exact Prod.ext rfl (Nat.max_eq_left (by show _ ≤ _; omega))
                    have HBE := Lib.hid hbe; clear hbe hpe hpar hsp
                    have hsn : (s ++ s1).size ≤ 4000010 * (k + 1) := by simp only [ByteArray.size_append]; have h1 : (⟨#[40]⟩ : ByteArray).size = 1 := rfl; have h2 : (⟨#[41]⟩ : ByteArray).size = 1 := rfl; have h3 : (⟨#[124]⟩ : ByteArray).size = 1 := rfl; omega
                    have HSN := Lib.hid hsn; clear hsn
                    have hge : ¬ ((body l i k).2 : Int) < ((tx l y).2 : Int) := by omega
                    go_wp2_with fail
                    all_goals
                      go_roundw
                      case rel => exact ⟨k + 1, s ++ s1, by omega, by go_num, rfl, (by rw [HBE.out] <;> first | rfl | (push_cast; rfl)), (by show _ = _; rw [HBE.out, HS.out, HS1.out]; exact text_join _ _), HSN.out, (by rw [HBE.out]; show (body l i k).2 ≤ 21; omega), hB3, hlt1, e01, e31⟩
                      case measure => simp [intOf]; omega
              · have HNK := Lib.hid (HNO.out hoy)
                have hB3 := hB1.trans (hB2.mono hB1.size)
                clear hoy hB2
                go_wp2_with fail
                go_ret2
                exact ⟨text_no HNK.out, hB3⟩
            · have e : k = (nth l i).kids.length := by omega
              subst e
              rcases HSF.out with h5 | h6 | h7 | ⟨q5, q6, q7⟩
              · have hsfx : suff (nth l i).kind = [42] := by rw [h5]; rfl
                rw [h5] at e0
                have hfs : s ++ ⟨#[42]⟩ = strOfNums (tx l i).1 := by rw [HT.out, hsfx, HS.out]; rw [show (⟨#[42]⟩ : ByteArray) = strOfNums [42] from rfl, join_nums]
                have hfd : (tx l i).2 = (body l i (nth l i).kids.length).2 := by rw [HT.out]
                have hfz : s.size + 1 = (tx l i).1.length := by rw [← sizeOf hfs]; rw [ByteArray.size_append]; rfl
                have HFS := Lib.hid hfs; clear hfs hsfx
                by_cases hd : (tx l i).2 ≤ 20
                · by_cases hln : (tx l i).1.length ≤ 200
                  · have HOK : Hid (okT l i) := HO.out.2 ⟨hd, hln⟩
                    have HFD := Lib.hid hfd
                    have t1 : ¬ (20 : Int) < ((body l i (nth l i).kids.length).2 : Int) := by omega
                    have t2 : ¬ (200 : Int) < (s.size : Int) + 1 := by omega
                    clear hfd hfz hd hln
                    go_wp2_with fail
                    go_ret2
                    exact ⟨text_ok HOK.out HFS.out (by rw [HFD.out]) hzs, hB1⟩
                  · have HNO : Hid (¬ okT l i) := fun h => hln (HO.out.1 h).2
                    have t1 : ¬ (20 : Int) < ((body l i (nth l i).kids.length).2 : Int) := by omega
                    have t2 : (200 : Int) < (s.size : Int) + 1 := by omega
                    clear hfd hfz hd hln
                    go_wp2_with fail
                    go_ret2
                    exact ⟨text_no HNO.out, hB1⟩
                · have HNO : Hid (¬ okT l i) := fun h => hd (HO.out.1 h).1
                  have t1 : (20 : Int) < ((body l i (nth l i).kids.length).2 : Int) := by omega
                  clear hfd hfz hd
                  go_wp2_with fail
                  go_ret2
                  exact ⟨text_no HNO.out, hB1⟩
              · have hsfx : suff (nth l i).kind = [43] := by rw [h6]; rfl
                rw [h6] at e0
                have hfs : s ++ ⟨#[43]⟩ = strOfNums (tx l i).1 := by rw [HT.out, hsfx, HS.out]; rw [show (⟨#[43]⟩ : ByteArray) = strOfNums [43] from rfl, join_nums]
                have hfd : (tx l i).2 = (body l i (nth l i).kids.length).2 := by rw [HT.out]
                have hfz : s.size + 1 = (tx l i).1.length := by rw [← sizeOf hfs]; rw [ByteArray.size_append]; rfl
                have HFS := Lib.hid hfs; clear hfs hsfx
                by_cases hd : (tx l i).2 ≤ 20
                · by_cases hln : (tx l i).1.length ≤ 200
                  · have HOK : Hid (okT l i) := HO.out.2 ⟨hd, hln⟩
                    have HFD := Lib.hid hfd
                    have t1 : ¬ (20 : Int) < ((body l i (nth l i).kids.length).2 : Int) := by omega
                    have t2 : ¬ (200 : Int) < (s.size : Int) + 1 := by omega
                    clear hfd hfz hd hln
                    go_wp2_with fail
                    go_ret2
                    exact ⟨text_ok HOK.out HFS.out (by rw [HFD.out]) hzs, hB1⟩
                  · have HNO : Hid (¬ okT l i) := fun h => hln (HO.out.1 h).2
                    have t1 : ¬ (20 : Int) < ((body l i (nth l i).kids.length).2 : Int) := by omega
                    have t2 : (200 : Int) < (s.size : Int) + 1 := by omega
                    clear hfd hfz hd hln
                    go_wp2_with fail
                    go_ret2
                    exact ⟨text_no HNO.out, hB1⟩
                · have HNO : Hid (¬ okT l i) := fun h => hd (HO.out.1 h).1
                  have t1 : (20 : Int) < ((body l i (nth l i).kids.length).2 : Int) := by omega
                  clear hfd hfz hd
                  go_wp2_with fail
                  go_ret2
                  exact ⟨text_no HNO.out, hB1⟩
              · have hsfx : suff (nth l i).kind = [63] := by rw [h7]; rfl
                rw [h7] at e0
                have hfs : s ++ ⟨#[63]⟩ = strOfNums (tx l i).1 := by rw [HT.out, hsfx, HS.out]; rw [show (⟨#[63]⟩ : ByteArray) = strOfNums [63] from rfl, join_nums]
                have hfd : (tx l i).2 = (body l i (nth l i).kids.length).2 := by rw [HT.out]
                have hfz : s.size + 1 = (tx l i).1.length := by rw [← sizeOf hfs]; rw [ByteArray.size_append]; rfl
                have HFS := Lib.hid hfs; clear hfs hsfx
                by_cases hd : (tx l i).2 ≤ 20
                · by_cases hln : (tx l i).1.length ≤ 200
                  · have HOK : Hid (okT l i) := HO.out.2 ⟨hd, hln⟩
                    have HFD := Lib.hid hfd
                    have t1 : ¬ (20 : Int) < ((body l i (nth l i).kids.length).2 : Int) := by omega
                    have t2 : ¬ (200 : Int) < (s.size : Int) + 1 := by omega
                    clear hfd hfz hd hln
                    go_wp2_with fail
                    go_ret2
                    exact ⟨text_ok HOK.out HFS.out (by rw [HFD.out]) hzs, hB1⟩
                  · have HNO : Hid (¬ okT l i) := fun h => hln (HO.out.1 h).2
                    have t1 : ¬ (20 : Int) < ((body l i (nth l i).kids.length).2 : Int) := by omega
                    have t2 : (200 : Int) < (s.size : Int) + 1 := by omega
                    clear hfd hfz hd hln
                    go_wp2_with fail
                    go_ret2
                    exact ⟨text_no HNO.out, hB1⟩
                · have HNO : Hid (¬ okT l i) := fun h => hd (HO.out.1 h).1
                  have t1 : (20 : Int) < ((body l i (nth l i).kids.length).2 : Int) := by omega
                  clear hfd hfz hd
                  go_wp2_with fail
                  go_ret2
                  exact ⟨text_no HNO.out, hB1⟩
              · have hsfx : suff (nth l i).kind = [] := by unfold suff; rw [if_neg (ne_of_beq_false q5), if_neg (ne_of_beq_false q6), if_neg (ne_of_beq_false q7)]
                have hfs : s = strOfNums (tx l i).1 := by rw [HT.out, hsfx, HS.out]; simp
                have hfd : (tx l i).2 = (body l i (nth l i).kids.length).2 := by rw [HT.out]
                have hfz : s.size + 0 = (tx l i).1.length := by rw [← sizeOf hfs]; rw [Nat.add_zero]
                have HFS := Lib.hid hfs; clear hfs hsfx
                by_cases hd : (tx l i).2 ≤ 20
                · by_cases hln : (tx l i).1.length ≤ 200
                  · have HOK : Hid (okT l i) := HO.out.2 ⟨hd, hln⟩
                    have HFD := Lib.hid hfd
                    have t1 : ¬ (20 : Int) < ((body l i (nth l i).kids.length).2 : Int) := by omega
                    have t2 : ¬ (200 : Int) < (s.size : Int) := by omega
                    clear hfd hfz hd hln
                    go_wp2_with fail
                    go_ret2
                    exact ⟨text_ok HOK.out HFS.out (by rw [HFD.out]) hzs, hB1⟩
                  · have HNO : Hid (¬ okT l i) := fun h => hln (HO.out.1 h).2
                    have t1 : ¬ (20 : Int) < ((body l i (nth l i).kids.length).2 : Int) := by omega
                    have t2 : (200 : Int) < (s.size : Int) := by omega
                    clear hfd hfz hd hln
                    go_wp2_with fail
                    go_ret2
                    exact ⟨text_no HNO.out, hB1⟩
                · have HNO : Hid (¬ okT l i) := fun h => hd (HO.out.1 h).1
                  have t1 : (20 : Int) < ((body l i (nth l i).kids.length).2 : Int) := by omega
                  clear hfd hfz hd
                  go_wp2_with fail
                  go_ret2
                  exact ⟨text_no HNO.out, hB1⟩
        · go_enter Try.func51, Try.ntmps51
          go_wp2_with fail
          go_loopw [7, 8, 9] (fun t d j wr => ∃ (k : Nat) (s : ByteArray), k ≤ (nth l i).kids.length ∧ j = .int .i64 k ∧ t = .string s ∧ d = .int .i64 ((body l i k).2 : Nat) ∧ Hid (s = strOfNums (body l i k).1) ∧ s.size ≤ 4000010 * k ∧ (body l i k).2 ≤ 21 ∧ Below w.heap.size w wr ∧ w.heap.size < wr.heap.size ∧ wr.cell? ⟨w.heap.size, 0, none⟩ = some (.int .i64 (nth l i).kind) ∧ wr.cell? ⟨w.heap.size, 3, none⟩ = some (.slice ka (nth l i).kids.length kc))
            (fun _ _ j _ => (nth l i).kids.length - (intOf j).toNat)
          case atStart => exact ⟨0, _, Nat.zero_le _, rfl, rfl, rfl, rfl, (by first | decide | (simp; done)), (by rw [body_zero]; show 0 ≤ 21; omega), hB0 _, (by simp), (by go_simp), (by go_simp)⟩
          case round =>
            obtain ⟨k, s, hk, rfl, rfl, rfl, HS, hsz, hdp, hB1, hlt, e0, e3⟩ := hrel
            by_cases hkl : k < (nth l i).kids.length
            · obtain ⟨b0, off0, rfl, hb0, hc⟩ := HK.out k hkl
              obtain ⟨y, hy⟩ : ∃ y : Nat, kd l i k = y := ⟨_, (Int.toNat_of_nonneg (HBK.out k hkl).1).symm⟩
              have hyi : y < i := by have := (HBK.out k hkl).2; omega
              have hyl : y < l.length := by omega
              have r0 : wr.cell? ⟨b0, off0 + k, none⟩ = some (.int .i64 y) := (hB1.cell (p := ⟨b0, off0 + k, none⟩) (show b0 < _ by omega)).trans (by rw [← hy]; exact hc)
              have HKT : Hid (ktx l i k = tx l y) := by show ktx l i k = _; rw [ktx, hy]; rfl
              have HKK : Hid (kkind l i k = (nth l y).kind) := by show kkind l i k = _; rw [kkind, hy]; rfl
              have HNO : Hid (¬ okT l y → ¬ okT l i) := fun h => HKD.out k hkl (by rw [hy]; exact h)
              obtain ⟨b1, off1, ea, hb1, hN1⟩ := HC.out y hyl
              simp only [Option.some.injEq, Addr.mk.injEq, and_true] at ea
              obtain ⟨rfl, rfl⟩ := ea
              have hky := hN1.kind
              clear hN1 hc hy
              have hx1 := HX.out.below (hB1.mono hB) (Nat.le_refl _)
              have hBw := Nat.le_trans hB hB1.size
              have HX1 := Lib.hid hx1; clear hx1
              go_wp2_with fail
              refine (IH.out y hyi hyl wr hBw HX1.out).mono ?_
              rintro e w1 ⟨⟨hoy, s1, rfl, hs1, hz1, hd1⟩ | ⟨hoy, rfl⟩, hB2⟩
              · have hB3 := hB1.trans (hB2.mono hB1.size)
                have hlt1 := Nat.lt_of_lt_of_le hlt hB2.size
                have e01 := (hB2.cell (p := ⟨w.heap.size, 0, none⟩) hlt).trans e0
                have e31 := (hB2.cell (p := ⟨w.heap.size, 3, none⟩) hlt).trans e3
                have r01 := (hB2.cell (p := ⟨b0, off0 + k, none⟩) (show b0 < _ by omega)).trans r0
                have ky1 := (hB3.cell (p := ⟨b, off + y * 4, none⟩) hbw).trans hky
                have HS1 := Lib.hid hs1; clear hs1
                have hd1' : (0 : Int) ≤ ((tx l y).2 : Int) := by omega
                clear hB2 e0 e3 r0 hky HX1 hoy
                have hpc : (((nth l y).kind == 4) = true) ∨ (((nth l y).kind == 4) = false ∧ ((nth l y).kind == 3) = true) ∨ (((nth l y).kind == 4) = false ∧ ((nth l y).kind == 3) = false) := by
                  cases (nth l y).kind == 4 <;> cases (nth l y).kind == 3 <;> simp
                rcases hpc with p4 | ⟨p4, p3⟩ | ⟨p4, p3⟩
                · have hpar : par (nth l i).kind (nth l y).kind = true := decide_eq_true (Or.inl (eq_of_beq p4))
                  have hpe : piece (nth l i).kind (nth l y).kind (tx l y) = (40 :: (tx l y).1 ++ [41], (tx l y).2 + 1) := by rw [piece, hpar]; rfl
                  by_cases hk0 : k = 0
                  · have hsp : sepL (nth l i).kind k = [] := if_neg (fun h => by omega)
                    have hkz : decide (0 < k) = false := decide_eq_false (by omega)
                    clear hk0
                    by_cases hg : (body l i k).2 < (tx l y).2 + 1
                    · have hbe : body l i (k + 1) = ((body l i k).1 ++ [] ++ (40 :: (tx l y).1 ++ [41]), (tx l y).2 + 1) := by rw [body_step, HKK.out, HKT.out, hpe, hsp]; try exact Prod.ext rfl (Nat.max_eq_right (by show _ ≤ _; omega))
                      have HBE := Lib.hid hbe; clear hbe hpe hpar hsp
                      have hsn : (s ++ (⟨#[40]⟩ ++ s1 ++ ⟨#[41]⟩)).size ≤ 4000010 * (k + 1) := by simp only [ByteArray.size_append]; have h1 : (⟨#[40]⟩ : ByteArray).size = 1 := rfl; have h2 : (⟨#[41]⟩ : ByteArray).size = 1 := rfl; have h3 : (⟨#[124]⟩ : ByteArray).size = 1 := rfl; omega
                      have HSN := Lib.hid hsn; clear hsn
                      have hge : ((body l i k).2 : Int) < ((tx l y).2 : Int) + 1 := by omega
                      go_wp2_with fail
                      all_goals
                        go_roundw
                        case rel => exact ⟨k + 1, s ++ (⟨#[40]⟩ ++ s1 ++ ⟨#[41]⟩), by omega, by go_num, rfl, (by rw [HBE.out] <;> first | rfl | (push_cast; rfl)), (by show _ = _; rw [HBE.out, HS.out, HS1.out]; exact text_joinP _ _), HSN.out, (by rw [HBE.out]; show (tx l y).2 + 1 ≤ 21; omega), hB3, hlt1, e01, e31⟩
                        case measure => simp [intOf]; omega
                    · have hbe : body l i (k + 1) = ((body l i k).1 ++ [] ++ (40 :: (tx l y).1 ++ [41]), (body l i k).2) := by rw [body_step, HKK.out, HKT.out, hpe, hsp]; try exact Prod.ext rfl (Nat.max_eq_left (by show _ ≤ _; omega))
                      have HBE := Lib.hid hbe; clear hbe hpe hpar hsp
                      have hsn : (s ++ (⟨#[40]⟩ ++ s1 ++ ⟨#[41]⟩)).size ≤ 4000010 * (k + 1) := by simp only [ByteArray.size_append]; have h1 : (⟨#[40]⟩ : ByteArray).size = 1 := rfl; have h2 : (⟨#[41]⟩ : ByteArray).size = 1 := rfl; have h3 : (⟨#[124]⟩ : ByteArray).size = 1 := rfl; omega
                      have HSN := Lib.hid hsn; clear hsn
                      have hge : ¬ ((body l i k).2 : Int) < ((tx l y).2 : Int) + 1 := by omega
                      go_wp2_with fail
                      all_goals
                        go_roundw
                        case rel => exact ⟨k + 1, s ++ (⟨#[40]⟩ ++ s1 ++ ⟨#[41]⟩), by omega, by go_num, rfl, (by rw [HBE.out] <;> first | rfl | (push_cast; rfl)), (by show _ = _; rw [HBE.out, HS.out, HS1.out]; exact text_joinP _ _), HSN.out, (by rw [HBE.out]; show (body l i k).2 ≤ 21; omega), hB3, hlt1, e01, e31⟩
                        case measure => simp [intOf]; omega
                  · have hsp : sepL (nth l i).kind k = [124] := if_pos ⟨by omega, eq_of_beq q4⟩
                    have hkz : 0 < k := by omega
                    by_cases hg : (body l i k).2 < (tx l y).2 + 1
                    · have hbe : body l i (k + 1) = ((body l i k).1 ++ [124] ++ (40 :: (tx l y).1 ++ [41]), (tx l y).2 + 1) := by rw [body_step, HKK.out, HKT.out, hpe, hsp]; try exact Prod.ext rfl (Nat.max_eq_right (by show _ ≤ _; omega))
                      have HBE := Lib.hid hbe; clear hbe hpe hpar hsp
                      have hsn : (s ++ ⟨#[124]⟩ ++ (⟨#[40]⟩ ++ s1 ++ ⟨#[41]⟩)).size ≤ 4000010 * (k + 1) := by simp only [ByteArray.size_append]; have h1 : (⟨#[40]⟩ : ByteArray).size = 1 := rfl; have h2 : (⟨#[41]⟩ : ByteArray).size = 1 := rfl; have h3 : (⟨#[124]⟩ : ByteArray).size = 1 := rfl; omega
                      have HSN := Lib.hid hsn; clear hsn
                      have hge : ((body l i k).2 : Int) < ((tx l y).2 : Int) + 1 := by omega
                      go_wp2_with fail
                      all_goals
                        go_roundw
                        case rel => exact ⟨k + 1, s ++ ⟨#[124]⟩ ++ (⟨#[40]⟩ ++ s1 ++ ⟨#[41]⟩), by omega, by go_num, rfl, (by rw [HBE.out] <;> first | rfl | (push_cast; rfl)), (by show _ = _; rw [HBE.out, HS.out, HS1.out]; exact text_joinPS _ _), HSN.out, (by rw [HBE.out]; show (tx l y).2 + 1 ≤ 21; omega), hB3, hlt1, e01, e31⟩
                        case measure => simp [intOf]; omega
                    · have hbe : body l i (k + 1) = ((body l i k).1 ++ [124] ++ (40 :: (tx l y).1 ++ [41]), (body l i k).2) := by rw [body_step, HKK.out, HKT.out, hpe, hsp]; try exact Prod.ext rfl (Nat.max_eq_left (by show _ ≤ _; omega))
                      have HBE := Lib.hid hbe; clear hbe hpe hpar hsp
                      have hsn : (s ++ ⟨#[124]⟩ ++ (⟨#[40]⟩ ++ s1 ++ ⟨#[41]⟩)).size ≤ 4000010 * (k + 1) := by simp only [ByteArray.size_append]; have h1 : (⟨#[40]⟩ : ByteArray).size = 1 := rfl; have h2 : (⟨#[41]⟩ : ByteArray).size = 1 := rfl; have h3 : (⟨#[124]⟩ : ByteArray).size = 1 := rfl; omega
                      have HSN := Lib.hid hsn; clear hsn
                      have hge : ¬ ((body l i k).2 : Int) < ((tx l y).2 : Int) + 1 := by omega
                      go_wp2_with fail
                      all_goals
                        go_roundw
                        case rel => exact ⟨k + 1, s ++ ⟨#[124]⟩ ++ (⟨#[40]⟩ ++ s1 ++ ⟨#[41]⟩), by omega, by go_num, rfl, (by rw [HBE.out] <;> first | rfl | (push_cast; rfl)), (by show _ = _; rw [HBE.out, HS.out, HS1.out]; exact text_joinPS _ _), HSN.out, (by rw [HBE.out]; show (body l i k).2 ≤ 21; omega), hB3, hlt1, e01, e31⟩
                        case measure => simp [intOf]; omega
                · have hpar : par (nth l i).kind (nth l y).kind = false := decide_eq_false (fun h => h.elim (ne_of_beq_false p4) (fun h => h.2 (eq_of_beq q4)))
                  have hpe : piece (nth l i).kind (nth l y).kind (tx l y) = tx l y := by rw [piece, hpar]; rfl
                  by_cases hk0 : k = 0
                  · have hsp : sepL (nth l i).kind k = [] := if_neg (fun h => by omega)
                    have hkz : decide (0 < k) = false := decide_eq_false (by omega)
                    clear hk0
                    by_cases hg : (body l i k).2 < (tx l y).2
                    · have hbe : body l i (k + 1) = ((body l i k).1 ++ [] ++ (tx l y).1, (tx l y).2) := by rw [body_step, HKK.out, HKT.out, hpe, hsp]; try exact Prod.ext rfl (Nat.max_eq_right (by show _ ≤ _; omega))
                      have HBE := Lib.hid hbe; clear hbe hpe hpar hsp
                      have hsn : (s ++ s1).size ≤ 4000010 * (k + 1) := by simp only [ByteArray.size_append]; have h1 : (⟨#[40]⟩ : ByteArray).size = 1 := rfl; have h2 : (⟨#[41]⟩ : ByteArray).size = 1 := rfl; have h3 : (⟨#[124]⟩ : ByteArray).size = 1 := rfl; omega
                      have HSN := Lib.hid hsn; clear hsn
                      have hge : ((body l i k).2 : Int) < ((tx l y).2 : Int) := by omega
                      go_wp2_with fail
                      all_goals
                        go_roundw
                        case rel => exact ⟨k + 1, s ++ s1, by omega, by go_num, rfl, (by rw [HBE.out] <;> first | rfl | (push_cast; rfl)), (by show _ = _; rw [HBE.out, HS.out, HS1.out]; exact text_join _ _), HSN.out, (by rw [HBE.out]; show (tx l y).2 ≤ 21; omega), hB3, hlt1, e01, e31⟩
                        case measure => simp [intOf]; omega
                    · have hbe : body l i (k + 1) = ((body l i k).1 ++ [] ++ (tx l y).1, (body l i k).2) := by rw [body_step, HKK.out, HKT.out, hpe, hsp]; try exact Prod.ext rfl (Nat.max_eq_left (by show _ ≤ _; omega))
                      have HBE := Lib.hid hbe; clear hbe hpe hpar hsp
                      have hsn : (s ++ s1).size ≤ 4000010 * (k + 1) := by simp only [ByteArray.size_append]; have h1 : (⟨#[40]⟩ : ByteArray).size = 1 := rfl; have h2 : (⟨#[41]⟩ : ByteArray).size = 1 := rfl; have h3 : (⟨#[124]⟩ : ByteArray).size = 1 := rfl; omega
                      have HSN := Lib.hid hsn; clear hsn
                      have hge : ¬ ((body l i k).2 : Int) < ((tx l y).2 : Int) := by omega
                      go_wp2_with fail
                      all_goals
                        go_roundw
                        case rel => exact ⟨k + 1, s ++ s1, by omega, by go_num, rfl, (by rw [HBE.out] <;> first | rfl | (push_cast; rfl)), (by show _ = _; rw [HBE.out, HS.out, HS1.out]; exact text_join _ _), HSN.out, (by rw [HBE.out]; show (body l i k).2 ≤ 21; omega), hB3, hlt1, e01, e31⟩
                        case measure => simp [intOf]; omega
                  · have hsp : sepL (nth l i).kind k = [124] := if_pos ⟨by omega, eq_of_beq q4⟩
                    have hkz : 0 < k := by omega
                    by_cases hg : (body l i k).2 < (tx l y).2
                    · have hbe : body l i (k + 1) = ((body l i k).1 ++ [124] ++ (tx l y).1, (tx l y).2) := by rw [body_step, HKK.out, HKT.out, hpe, hsp]; try exact Prod.ext rfl (Nat.max_eq_right (by show _ ≤ _; omega))
                      have HBE := Lib.hid hbe; clear hbe hpe hpar hsp
                      have hsn : (s ++ ⟨#[124]⟩ ++ s1).size ≤ 4000010 * (k + 1) := by simp only [ByteArray.size_append]; have h1 : (⟨#[40]⟩ : ByteArray).size = 1 := rfl; have h2 : (⟨#[41]⟩ : ByteArray).size = 1 := rfl; have h3 : (⟨#[124]⟩ : ByteArray).size = 1 := rfl; omega
                      have HSN := Lib.hid hsn; clear hsn
                      have hge : ((body l i k).2 : Int) < ((tx l y).2 : Int) := by omega
                      go_wp2_with fail
                      all_goals
                        go_roundw
                        case rel => exact ⟨k + 1, s ++ ⟨#[124]⟩ ++ s1, by omega, by go_num, rfl, (by rw [HBE.out] <;> first | rfl | (push_cast; rfl)), (by show _ = _; rw [HBE.out, HS.out, HS1.out]; exact text_joinS _ _), HSN.out, (by rw [HBE.out]; show (tx l y).2 ≤ 21; omega), hB3, hlt1, e01, e31⟩
                        case measure => simp [intOf]; omega
                    · have hbe : body l i (k + 1) = ((body l i k).1 ++ [124] ++ (tx l y).1, (body l i k).2) := by rw [body_step, HKK.out, HKT.out, hpe, hsp]; try exact Prod.ext rfl (Nat.max_eq_left (by show _ ≤ _; omega))
                      have HBE := Lib.hid hbe; clear hbe hpe hpar hsp
                      have hsn : (s ++ ⟨#[124]⟩ ++ s1).size ≤ 4000010 * (k + 1) := by simp only [ByteArray.size_append]; have h1 : (⟨#[40]⟩ : ByteArray).size = 1 := rfl; have h2 : (⟨#[41]⟩ : ByteArray).size = 1 := rfl; have h3 : (⟨#[124]⟩ : ByteArray).size = 1 := rfl; omega
                      have HSN := Lib.hid hsn; clear hsn
                      have hge : ¬ ((body l i k).2 : Int) < ((tx l y).2 : Int) := by omega
                      go_wp2_with fail
                      all_goals
                        go_roundw
                        case rel => exact ⟨k + 1, s ++ ⟨#[124]⟩ ++ s1, by omega, by go_num, rfl, (by rw [HBE.out] <;> first | rfl | (push_cast; rfl)), (by show _ = _; rw [HBE.out, HS.out, HS1.out]; exact text_joinS _ _), HSN.out, (by rw [HBE.out]; show (body l i k).2 ≤ 21; omega), hB3, hlt1, e01, e31⟩
                        case measure => simp [intOf]; omega
                · have hpar : par (nth l i).kind (nth l y).kind = false := decide_eq_false (fun h => h.elim (ne_of_beq_false p4) (fun h => ne_of_beq_false p3 h.1))
                  have hpe : piece (nth l i).kind (nth l y).kind (tx l y) = tx l y := by rw [piece, hpar]; rfl
                  by_cases hk0 : k = 0
                  · have hsp : sepL (nth l i).kind k = [] := if_neg (fun h => by omega)
                    have hkz : decide (0 < k) = false := decide_eq_false (by omega)
                    clear hk0
                    by_cases hg : (body l i k).2 < (tx l y).2
                    · have hbe : body l i (k + 1) = ((body l i k).1 ++ [] ++ (tx l y).1, (tx l y).2) := by rw [body_step, HKK.out, HKT.out, hpe, hsp]; try exact Prod.ext rfl (Nat.max_eq_right (by show _ ≤ _; omega))
                      have HBE := Lib.hid hbe; clear hbe hpe hpar hsp
                      have hsn : (s ++ s1).size ≤ 4000010 * (k + 1) := by simp only [ByteArray.size_append]; have h1 : (⟨#[40]⟩ : ByteArray).size = 1 := rfl; have h2 : (⟨#[41]⟩ : ByteArray).size = 1 := rfl; have h3 : (⟨#[124]⟩ : ByteArray).size = 1 := rfl; omega
                      have HSN := Lib.hid hsn; clear hsn
                      have hge : ((body l i k).2 : Int) < ((tx l y).2 : Int) := by omega
                      go_wp2_with fail
                      all_goals
                        go_roundw
                        case rel => exact ⟨k + 1, s ++ s1, by omega, by go_num, rfl, (by rw [HBE.out] <;> first | rfl | (push_cast; rfl)), (by show _ = _; rw [HBE.out, HS.out, HS1.out]; exact text_join _ _), HSN.out, (by rw [HBE.out]; show (tx l y).2 ≤ 21; omega), hB3, hlt1, e01, e31⟩
                        case measure => simp [intOf]; omega
                    · have hbe : body l i (k + 1) = ((body l i k).1 ++ [] ++ (tx l y).1, (body l i k).2) := by rw [body_step, HKK.out, HKT.out, hpe, hsp]; try exact Prod.ext rfl (Nat.max_eq_left (by show _ ≤ _; omega))
                      have HBE := Lib.hid hbe; clear hbe hpe hpar hsp
                      have hsn : (s ++ s1).size ≤ 4000010 * (k + 1) := by simp only [ByteArray.size_append]; have h1 : (⟨#[40]⟩ : ByteArray).size = 1 := rfl; have h2 : (⟨#[41]⟩ : ByteArray).size = 1 := rfl; have h3 : (⟨#[124]⟩ : ByteArray).size = 1 := rfl; omega
                      have HSN := Lib.hid hsn; clear hsn
                      have hge : ¬ ((body l i k).2 : Int) < ((tx l y).2 : Int) := by omega
                      go_wp2_with fail
                      all_goals
                        go_roundw
                        case rel => exact ⟨k + 1, s ++ s1, by omega, by go_num, rfl, (by rw [HBE.out] <;> first | rfl | (push_cast; rfl)), (by show _ = _; rw [HBE.out, HS.out, HS1.out]; exact text_join _ _), HSN.out, (by rw [HBE.out]; show (body l i k).2 ≤ 21; omega), hB3, hlt1, e01, e31⟩
                        case measure => simp [intOf]; omega
                  · have hsp : sepL (nth l i).kind k = [124] := if_pos ⟨by omega, eq_of_beq q4⟩
                    have hkz : 0 < k := by omega
                    by_cases hg : (body l i k).2 < (tx l y).2
                    · have hbe : body l i (k + 1) = ((body l i k).1 ++ [124] ++ (tx l y).1, (tx l y).2) := by rw [body_step, HKK.out, HKT.out, hpe, hsp]; try exact Prod.ext rfl (Nat.max_eq_right (by show _ ≤ _; omega))
                      have HBE := Lib.hid hbe; clear hbe hpe hpar hsp
                      have hsn : (s ++ ⟨#[124]⟩ ++ s1).size ≤ 4000010 * (k + 1) := by simp only [ByteArray.size_append]; have h1 : (⟨#[40]⟩ : ByteArray).size = 1 := rfl; have h2 : (⟨#[41]⟩ : ByteArray).size = 1 := rfl; have h3 : (⟨#[124]⟩ : ByteArray).size = 1 := rfl; omega
                      have HSN := Lib.hid hsn; clear hsn
                      have hge : ((body l i k).2 : Int) < ((tx l y).2 : Int) := by omega
                      go_wp2_with fail
                      all_goals
                        go_roundw
                        case rel => exact ⟨k + 1, s ++ ⟨#[124]⟩ ++ s1, by omega, by go_num, rfl, (by rw [HBE.out] <;> first | rfl | (push_cast; rfl)), (by show _ = _; rw [HBE.out, HS.out, HS1.out]; exact text_joinS _ _), HSN.out, (by rw [HBE.out]; show (tx l y).2 ≤ 21; omega), hB3, hlt1, e01, e31⟩
                        case measure => simp [intOf]; omega
                    · have hbe : body l i (k + 1) = ((body l i k).1 ++ [124] ++ (tx l y).1, (body l i k).2) := by rw [body_step, HKK.out, HKT.out, hpe, hsp]; try exact Prod.ext rfl (Nat.max_eq_left (by show _ ≤ _; omega))
                      have HBE := Lib.hid hbe; clear hbe hpe hpar hsp
                      have hsn : (s ++ ⟨#[124]⟩ ++ s1).size ≤ 4000010 * (k + 1) := by simp only [ByteArray.size_append]; have h1 : (⟨#[40]⟩ : ByteArray).size = 1 := rfl; have h2 : (⟨#[41]⟩ : ByteArray).size = 1 := rfl; have h3 : (⟨#[124]⟩ : ByteArray).size = 1 := rfl; omega
                      have HSN := Lib.hid hsn; clear hsn
                      have hge : ¬ ((body l i k).2 : Int) < ((tx l y).2 : Int) := by omega
                      go_wp2_with fail
                      all_goals
                        go_roundw
                        case rel => exact ⟨k + 1, s ++ ⟨#[124]⟩ ++ s1, by omega, by go_num, rfl, (by rw [HBE.out] <;> first | rfl | (push_cast; rfl)), (by show _ = _; rw [HBE.out, HS.out, HS1.out]; exact text_joinS _ _), HSN.out, (by rw [HBE.out]; show (body l i k).2 ≤ 21; omega), hB3, hlt1, e01, e31⟩
                        case measure => simp [intOf]; omega
              · have HNK := Lib.hid (HNO.out hoy)
                have hB3 := hB1.trans (hB2.mono hB1.size)
                clear hoy hB2
                go_wp2_with fail
                go_ret2
                exact ⟨text_no HNK.out, hB3⟩
            · have e : k = (nth l i).kids.length := by omega
              subst e
              rcases HSF.out with h5 | h6 | h7 | ⟨q5, q6, q7⟩
              · rw [h5] at q4; cases q4
              · rw [h6] at q4; cases q4
              · rw [h7] at q4; cases q4
              · have hsfx : suff (nth l i).kind = [] := by unfold suff; rw [if_neg (ne_of_beq_false q5), if_neg (ne_of_beq_false q6), if_neg (ne_of_beq_false q7)]
                have hfs : s = strOfNums (tx l i).1 := by rw [HT.out, hsfx, HS.out]; simp
                have hfd : (tx l i).2 = (body l i (nth l i).kids.length).2 := by rw [HT.out]
                have hfz : s.size + 0 = (tx l i).1.length := by rw [← sizeOf hfs]; rw [Nat.add_zero]
                have HFS := Lib.hid hfs; clear hfs hsfx
                by_cases hd : (tx l i).2 ≤ 20
                · by_cases hln : (tx l i).1.length ≤ 200
                  · have HOK : Hid (okT l i) := HO.out.2 ⟨hd, hln⟩
                    have HFD := Lib.hid hfd
                    have t1 : ¬ (20 : Int) < ((body l i (nth l i).kids.length).2 : Int) := by omega
                    have t2 : ¬ (200 : Int) < (s.size : Int) := by omega
                    clear hfd hfz hd hln
                    go_wp2_with fail
                    go_ret2
                    exact ⟨text_ok HOK.out HFS.out (by rw [HFD.out]) hzs, hB1⟩
                  · have HNO : Hid (¬ okT l i) := fun h => hln (HO.out.1 h).2
                    have t1 : ¬ (20 : Int) < ((body l i (nth l i).kids.length).2 : Int) := by omega
                    have t2 : (200 : Int) < (s.size : Int) := by omega
                    clear hfd hfz hd hln
                    go_wp2_with fail
                    go_ret2
                    exact ⟨text_no HNO.out, hB1⟩
                · have HNO : Hid (¬ okT l i) := fun h => hd (HO.out.1 h).1
                  have t1 : (20 : Int) < ((body l i (nth l i).kids.length).2 : Int) := by omega
                  clear hfd hfz hd
                  go_wp2_with fail
                  go_ret2
                  exact ⟨text_no HNO.out, hB1⟩

end Go.Proofs.Ytdgbbgkdoekfkaa.Re
