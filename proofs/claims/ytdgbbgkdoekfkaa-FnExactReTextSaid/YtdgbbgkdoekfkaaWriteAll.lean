/-
  What the program writes of a valid list of nodes: its text.
-/
import Derived.Test.YtdgbbgkdoekfkaaKid
import Derived.Test.YtdgbbgkdoekfkaaTxSpec2
namespace Go.Proofs.Ytdgbbgkdoekfkaa.Re
open Go.ChangeShapes Go.WideShapes Go.ChangeAt Go.RowKit Go.PlainAid
open Go.Proofs.Ytdgbbgkdoekfkaa.RePure
set_option linter.unusedVariables false

theorem pieceB2 {K kk : Int} {t : Tx} (hK : K ≠ 4) : pieceB 2 kk t = piece K kk t := by
  unfold pieceB piece parB par
  simp [hK]
theorem pieceB1 {kk : Int} {t : Tx} : pieceB 1 kk t = piece 4 kk t := by
  unfold pieceB piece parB par
  simp
theorem max_step (deep nest : Int) (a b : Nat) : max (max deep (nest + (a : Int))) (nest + (b : Int)) = max deep (nest + ((max a b : Nat) : Int)) := by
  push_cast
  omega

/-- One kid more, at the loops that write kids. -/
theorem kid_step {l : List Nd} {i k : Nat} {S T : Nat → Prop} {w0 w : World} {v : Value} {g : Nat} {L : List Int} {nest deep bond : Int} (hp : PartAt T w0 l (kd l i k).toNat v) (hk : Keep T w0 w) (hTS : ∀ x, T x → S x)
    (hW : WriteOK l (kd l i k).toNat) (hw : WC S w g (L ++ (body l i k).1) nest (max deep (nest + ((body l i k).2 : Int)))) (h0 : 0 ≤ nest) (h1 : nest + i ≤ 1000) (hki : (kd l i k).toNat < i) (h2 : nest ≤ deep) (hb : bond = 1 ∨ bond = 2)
    (hsep : sepL (nth l i).kind k = []) (hpc : pieceB bond (kkind l i k) (ktx l i k) = piece (nth l i).kind (kkind l i k) (ktx l i k)) :
    Calls Try.prog 130 #[.pointer (some ⟨g, 0, none⟩), v, .int .i64 bond] w fun e w' => e = .returned (.tuple #[]) ∧ WC S w' g (L ++ (body l i (k + 1)).1) nest (max deep (nest + ((body l i (k + 1)).2 : Int))) ∧ Keep S w w' := by
  refine (kid_ok l _ hW S w v g _ nest _ bond (hp.keep hk hTS) hw h0 (by omega) (by omega) hb).mono ?_
  rintro e w' ⟨rfl, h1, h2⟩
  refine ⟨rfl, ?_, h2⟩
  rw [body_step, hsep, List.append_nil, ← hpc]
  rw [max_step] at h1
  rw [List.append_assoc] at h1
  exact h1

set_option maxRecDepth 100000 in
set_option maxHeartbeats 4000000 in
theorem write_seq (l : List Nd) (i : Nat) (hb : Backs l) (hi : i < l.length) (hzk : (nth l i).kids.length ≤ 1048576) (hk : (nth l i).kind = 3) (ih : ∀ k, k < (nth l i).kids.length → WriteOK l (kd l i k).toNat) : WriteOK l i := by
  intro S w v g L nest deep hp hw h0 h1 h2
  have HN : Hid (∀ o, WC S (w.alloc o) g L nest deep) := fun o => wc_new hw o
  have HK : Hid (∀ o, Keep S w (w.alloc o)) := fun o => Keep.alloc w o hw.1
  have HT := Lib.hid (tx_body hb hi (by rw [hk]; decide) (by rw [hk]; decide) (by rw [hk]; decide))
  have HD := Lib.hid h2
  have h00 : max deep (nest + ((0 : Nat) : Int)) = deep := by omega
  have HW0 : Hid (∀ o, WC S (w.alloc o) g (L ++ (body l i 0).1) nest (max deep (nest + ((body l i 0).2 : Int)))) := fun o => by
    show WC S _ g (L ++ []) nest (max deep (nest + ((0 : Nat) : Int)))
    rw [List.append_nil, h00]
    exact HN.out o
  have hbk := hb i hi
  have HBK := Lib.hid hbk; clear hbk hb
  have IH := Lib.hid ih; clear ih
  cases hp with
  | @seq _ b o cap u hk' hc hu =>
    have HC := Lib.hid hc; clear hc
    have HU := Lib.hid hu; clear hu
    have HKK := Lib.hid hk
    have HTT : Hid (tx l i = ((body l i (nth l i).kids.length).1, (body l i (nth l i).kids.length).2)) := by
      show tx l i = _
      rw [HT.out, hk]
      rw [show suff 3 = [] from rfl, List.append_nil]
    clear hk hk' h2 h00 HT hw
    refine ⟨128, .agg #[.slice (some ⟨b, o, none⟩) (nth l i).kids.length cap], (by unfold Wr; simp), ?_⟩
    go_enter Try.func128, Try.ntmps128
    go_wp2_with fail
    go_loopw [9] (fun j wr => ∃ k : Nat, k ≤ (nth l i).kids.length ∧ j = .int .i64 k ∧ Hid (WC S wr g (L ++ (body l i k).1) nest (max deep (nest + ((body l i k).2 : Int)))) ∧ Hid (Keep S w wr)) (fun j _ => (nth l i).kids.length - (intOf j).toNat)
    case atStart => exact ⟨0, Nat.zero_le _, rfl, HW0.out _, HK.out _⟩
    case round =>
      obtain ⟨k, hkl', rfl, HWk, HKk⟩ := hrel
      by_cases hkl : k < (nth l i).kids.length
      · have hq := HC.out k hkl
        have c0 : wr.cell? ⟨b, o + k, none⟩ = some (u k) := (HKk.out.cell hq.1).trans hq.2
        have hki : (kd l i k).toNat < i := by have := HBK.out k hkl; omega
        have HKI := Lib.hid hki; clear hki hq
        have HSEP : Hid (sepL (nth l i).kind k = []) := if_neg (fun h => by rw [HKK.out] at h; exact absurd h.2 (by decide))
        go_wp2_with fail
        refine (kid_step (bond := 2) (HU.out k hkl) HKk.out (fun _ h => h) (IH.out k hkl) HWk.out h0 h1 HKI.out HD.out (by omega) HSEP.out (by rw [HKK.out]; exact pieceB2 (by decide))).mono ?_
        rintro e w2 ⟨rfl, hw2, hk2⟩
        have HW2 := Lib.hid hw2
        have HK2 := Lib.hid ((HKk.out).trans hk2); clear hw2 hk2
        go_wp2_with fail
        go_roundw
        case rel => exact ⟨k + 1, by omega, by go_num, HW2.out, HK2.out⟩
        case measure => simp [intOf]; omega
      · have e : k = (nth l i).kids.length := by omega
        subst e
        go_wp2_with fail
        go_end0
        exact ⟨rfl, by rw [HTT.out]; exact HWk.out, HKk.out⟩
  | set hk' => rw [hk] at hk'; exact absurd hk' (by decide)
  | beg hk' => rw [hk] at hk'; exact absurd hk' (by decide)
  | fin hk' => rw [hk] at hk'; exact absurd hk' (by decide)
  | alt hk' _ _ => rw [hk] at hk'; exact absurd hk' (by decide)
  | star hk' _ => rw [hk] at hk'; exact absurd hk' (by decide)
  | plus hk' _ => rw [hk] at hk'; exact absurd hk' (by decide)
  | opt hk' _ => rw [hk] at hk'; exact absurd hk' (by decide)

set_option maxRecDepth 100000 in
set_option maxHeartbeats 4000000 in
theorem write_alt (l : List Nd) (i : Nat) (hb : Backs l) (hi : i < l.length) (hzk : (nth l i).kids.length ≤ 1048576) (hk : (nth l i).kind = 4) (ih : ∀ k, k < (nth l i).kids.length → WriteOK l (kd l i k).toNat) : WriteOK l i := by
  intro S w v g L nest deep hp hw h0 h1 h2
  have HN : Hid (∀ o, WC S (w.alloc o) g L nest deep) := fun o => wc_new hw o
  have HK : Hid (∀ o, Keep S w (w.alloc o)) := fun o => Keep.alloc w o hw.1
  have HT := Lib.hid (tx_body hb hi (by rw [hk]; decide) (by rw [hk]; decide) (by rw [hk]; decide))
  have HD := Lib.hid h2
  have h00 : max deep (nest + ((0 : Nat) : Int)) = deep := by omega
  have HW0 : Hid (∀ o, WC S (w.alloc o) g (L ++ (body l i 0).1) nest (max deep (nest + ((body l i 0).2 : Int)))) := fun o => by
    show WC S _ g (L ++ []) nest (max deep (nest + ((0 : Nat) : Int)))
    rw [List.append_nil, h00]
    exact HN.out o
  have hbk := hb i hi
  have HBK := Lib.hid hbk; clear hbk hb
  have IH := Lib.hid ih; clear ih
  cases hp with
  | @alt _ b o cap u hk' hc hu =>
    have HC := Lib.hid hc; clear hc
    have HU := Lib.hid hu; clear hu
    have HKK := Lib.hid hk
    have HTT : Hid (tx l i = ((body l i (nth l i).kids.length).1, (body l i (nth l i).kids.length).2)) := by
      show tx l i = _
      rw [HT.out, hk]
      rw [show suff 4 = [] from rfl, List.append_nil]
    clear hk hk' h2 h00 HT hw
    refine ⟨134, .agg #[.slice (some ⟨b, o, none⟩) (nth l i).kids.length cap], (by unfold Wr; simp), ?_⟩
    go_enter Try.func134, Try.ntmps134
    go_wp2_with fail
    go_loopw [9] (fun j wr => ∃ k : Nat, k ≤ (nth l i).kids.length ∧ j = .int .i64 k ∧ Hid (WC S wr g (L ++ (body l i k).1) nest (max deep (nest + ((body l i k).2 : Int)))) ∧ Hid (Keep S w wr)) (fun j _ => (nth l i).kids.length - (intOf j).toNat)
    case atStart => exact ⟨0, Nat.zero_le _, rfl, HW0.out _, HK.out _⟩
    case round =>
      obtain ⟨k, hkl', rfl, HWk, HKk⟩ := hrel
      by_cases hkl : k < (nth l i).kids.length
      · have hq := HC.out k hkl
        have c0 : wr.cell? ⟨b, o + k, none⟩ = some (u k) := (HKk.out.cell hq.1).trans hq.2
        have hki : (kd l i k).toNat < i := by have := HBK.out k hkl; omega
        have HKI := Lib.hid hki; clear hki hq
        by_cases hk0 : k = 0
        · have HSEP : Hid (sepL (nth l i).kind k = []) := if_neg (fun h => by omega)
          have hkz : decide (0 < k) = false := decide_eq_false (by omega)
          clear hk0
          go_wp2_with fail
          refine (kid_step (bond := 1) (HU.out k hkl) HKk.out (fun _ h => h) (IH.out k hkl) HWk.out h0 h1 HKI.out HD.out (by omega) HSEP.out (by rw [HKK.out]; exact pieceB1)).mono ?_
          rintro e w2 ⟨rfl, hw2, hk2⟩
          have HW2 := Lib.hid hw2
          have HK2 := Lib.hid ((HKk.out).trans hk2); clear hw2 hk2
          go_wp2_with fail
          go_roundw
          case rel => exact ⟨k + 1, by omega, by go_num, HW2.out, HK2.out⟩
          case measure => simp [intOf]; omega
        · have hsp : sepL (nth l i).kind k = [124] := if_pos ⟨by omega, HKK.out⟩
          have HSP := Lib.hid hsp; clear hsp
          have hkp : 0 < k := by omega
          clear hk0
          go_wp2_with fail
          refine (put_ok S g _ nest _ 124 wr HWk.out).mono ?_
          rintro e w1 ⟨rfl, hw1, hk1⟩
          have HW1 := Lib.hid hw1
          have HK1 := Lib.hid (HKk.out.trans hk1); clear hw1 hk1
          go_wp2_with fail
          refine (kid_ok l _ (IH.out k hkl) S w1 (u k) g _ nest _ 1 ((HU.out k hkl).keep HK1.out (fun _ h => h)) HW1.out h0 (by have := HKI.out; omega) (by have := HD.out; omega) (Or.inl rfl)).mono ?_
          rintro e w2 ⟨rfl, hw2, hk2⟩
          have HW2 : Hid (WC S w2 g (L ++ (body l i (k + 1)).1) nest (max deep (nest + ((body l i (k + 1)).2 : Int)))) := by
            show WC _ _ _ _ _ _
            rw [body_step, HSP.out, HKK.out, ← pieceB1]
            rw [max_step] at hw2
            have h := hw2
            simp only [List.append_assoc] at h ⊢
            exact h
          have HK2 := Lib.hid (HK1.out.trans hk2); clear hw2 hk2
          go_wp2_with fail
          go_roundw
          case rel => exact ⟨k + 1, by omega, by go_num, HW2.out, HK2.out⟩
          case measure => simp [intOf]; omega
      · have e : k = (nth l i).kids.length := by omega
        subst e
        go_wp2_with fail
        go_end0
        exact ⟨rfl, by rw [HTT.out]; exact HWk.out, HKk.out⟩
  | set hk' => rw [hk] at hk'; exact absurd hk' (by decide)
  | beg hk' => rw [hk] at hk'; exact absurd hk' (by decide)
  | fin hk' => rw [hk] at hk'; exact absurd hk' (by decide)
  | seq hk' _ _ => rw [hk] at hk'; exact absurd hk' (by decide)
  | star hk' _ => rw [hk] at hk'; exact absurd hk' (by decide)
  | plus hk' _ => rw [hk] at hk'; exact absurd hk' (by decide)
  | opt hk' _ => rw [hk] at hk'; exact absurd hk' (by decide)

set_option maxRecDepth 100000 in
set_option maxHeartbeats 4000000 in
theorem write_star (l : List Nd) (i : Nat) (hb : Backs l) (hi : i < l.length) (hk1 : (nth l i).kids.length = 1) (hk : (nth l i).kind = 5) (ih : ∀ k, k < (nth l i).kids.length → WriteOK l (kd l i k).toNat) : WriteOK l i := by
  intro S w v g L nest deep hp hw h0 h1 h2
  have HN : Hid (∀ o, WC S (w.alloc o) g L nest deep) := fun o => wc_new hw o
  have HK : Hid (∀ o, Keep S w (w.alloc o)) := fun o => Keep.alloc w o hw.1
  have HT := Lib.hid (tx_body hb hi (by rw [hk]; decide) (by rw [hk]; decide) (by rw [hk]; decide))
  have HD := Lib.hid h2
  have h00 : max deep (nest + ((0 : Nat) : Int)) = deep := by omega
  have HW0 : Hid (∀ o, WC S (w.alloc o) g (L ++ (body l i 0).1) nest (max deep (nest + ((body l i 0).2 : Int)))) := fun o => by
    show WC S _ g (L ++ []) nest (max deep (nest + ((0 : Nat) : Int)))
    rw [List.append_nil, h00]
    exact HN.out o
  have hbk := hb i hi 0 (by omega)
  have hki : (kd l i 0).toNat < i := by omega
  have HKI := Lib.hid hki; clear hki hbk hb
  have IH := Lib.hid (ih 0 (by omega)); clear ih
  cases hp with
  | @star _ u hk' hu =>
    have HU := Lib.hid hu; clear hu
    have HKK := Lib.hid hk
    have HTT : Hid (tx l i = ((body l i 1).1 ++ [42], (body l i 1).2)) := by
      show tx l i = _
      rw [HT.out, hk, hk1]
      rfl
    have HSEP : Hid (sepL (nth l i).kind 0 = []) := if_neg (fun h => by omega)
    clear hk hk' h2 h00 HT hw hk1
    refine ⟨137, .agg #[u], (by unfold Wr; simp), ?_⟩
    go_enter Try.func137, Try.ntmps137
    go_wp2_with fail
    refine (kid_step (bond := 2) HU.out (HK.out _) (fun _ h => h) IH.out (HW0.out _) h0 h1 HKI.out HD.out (by omega) HSEP.out (by rw [HKK.out]; exact pieceB2 (by decide))).mono ?_
    rintro e w2 ⟨rfl, hw2, hk2⟩
    have HW2 := Lib.hid hw2
    have HK2 := Lib.hid ((HK.out _).trans hk2); clear hw2 hk2
    go_wp2_with fail
    refine (put_ok S g _ nest _ 42 w2 HW2.out).mono ?_
    rintro e w3 ⟨rfl, hw3, hk3⟩
    have HW3 := Lib.hid hw3
    have HK3 := Lib.hid (HK2.out.trans hk3); clear hw3 hk3
    go_wp2_with fail
    go_end0
    exact ⟨rfl, by rw [HTT.out]; have := HW3.out; rw [List.append_assoc] at this; exact this, HK3.out⟩
  | set hk' => rw [hk] at hk'; exact absurd hk' (by decide)
  | beg hk' => rw [hk] at hk'; exact absurd hk' (by decide)
  | fin hk' => rw [hk] at hk'; exact absurd hk' (by decide)
  | seq hk' _ _ => rw [hk] at hk'; exact absurd hk' (by decide)
  | alt hk' _ _ => rw [hk] at hk'; exact absurd hk' (by decide)
  | plus hk' _ => rw [hk] at hk'; exact absurd hk' (by decide)
  | opt hk' _ => rw [hk] at hk'; exact absurd hk' (by decide)

set_option maxRecDepth 100000 in
set_option maxHeartbeats 4000000 in
theorem write_plus (l : List Nd) (i : Nat) (hb : Backs l) (hi : i < l.length) (hk1 : (nth l i).kids.length = 1) (hk : (nth l i).kind = 6) (ih : ∀ k, k < (nth l i).kids.length → WriteOK l (kd l i k).toNat) : WriteOK l i := by
  intro S w v g L nest deep hp hw h0 h1 h2
  have HN : Hid (∀ o, WC S (w.alloc o) g L nest deep) := fun o => wc_new hw o
  have HK : Hid (∀ o, Keep S w (w.alloc o)) := fun o => Keep.alloc w o hw.1
  have HT := Lib.hid (tx_body hb hi (by rw [hk]; decide) (by rw [hk]; decide) (by rw [hk]; decide))
  have HD := Lib.hid h2
  have h00 : max deep (nest + ((0 : Nat) : Int)) = deep := by omega
  have HW0 : Hid (∀ o, WC S (w.alloc o) g (L ++ (body l i 0).1) nest (max deep (nest + ((body l i 0).2 : Int)))) := fun o => by
    show WC S _ g (L ++ []) nest (max deep (nest + ((0 : Nat) : Int)))
    rw [List.append_nil, h00]
    exact HN.out o
  have hbk := hb i hi 0 (by omega)
  have hki : (kd l i 0).toNat < i := by omega
  have HKI := Lib.hid hki; clear hki hbk hb
  have IH := Lib.hid (ih 0 (by omega)); clear ih
  cases hp with
  | @plus _ u hk' hu =>
    have HU := Lib.hid hu; clear hu
    have HKK := Lib.hid hk
    have HTT : Hid (tx l i = ((body l i 1).1 ++ [43], (body l i 1).2)) := by
      show tx l i = _
      rw [HT.out, hk, hk1]
      rfl
    have HSEP : Hid (sepL (nth l i).kind 0 = []) := if_neg (fun h => by omega)
    clear hk hk' h2 h00 HT hw hk1
    refine ⟨140, .agg #[u], (by unfold Wr; simp), ?_⟩
    go_enter Try.func140, Try.ntmps140
    go_wp2_with fail
    refine (kid_step (bond := 2) HU.out (HK.out _) (fun _ h => h) IH.out (HW0.out _) h0 h1 HKI.out HD.out (by omega) HSEP.out (by rw [HKK.out]; exact pieceB2 (by decide))).mono ?_
    rintro e w2 ⟨rfl, hw2, hk2⟩
    have HW2 := Lib.hid hw2
    have HK2 := Lib.hid ((HK.out _).trans hk2); clear hw2 hk2
    go_wp2_with fail
    refine (put_ok S g _ nest _ 43 w2 HW2.out).mono ?_
    rintro e w3 ⟨rfl, hw3, hk3⟩
    have HW3 := Lib.hid hw3
    have HK3 := Lib.hid (HK2.out.trans hk3); clear hw3 hk3
    go_wp2_with fail
    go_end0
    exact ⟨rfl, by rw [HTT.out]; have := HW3.out; rw [List.append_assoc] at this; exact this, HK3.out⟩
  | set hk' => rw [hk] at hk'; exact absurd hk' (by decide)
  | beg hk' => rw [hk] at hk'; exact absurd hk' (by decide)
  | fin hk' => rw [hk] at hk'; exact absurd hk' (by decide)
  | seq hk' _ _ => rw [hk] at hk'; exact absurd hk' (by decide)
  | alt hk' _ _ => rw [hk] at hk'; exact absurd hk' (by decide)
  | star hk' _ => rw [hk] at hk'; exact absurd hk' (by decide)
  | opt hk' _ => rw [hk] at hk'; exact absurd hk' (by decide)

set_option maxRecDepth 100000 in
set_option maxHeartbeats 4000000 in
theorem write_opt (l : List Nd) (i : Nat) (hb : Backs l) (hi : i < l.length) (hk1 : (nth l i).kids.length = 1) (hk : (nth l i).kind = 7) (ih : ∀ k, k < (nth l i).kids.length → WriteOK l (kd l i k).toNat) : WriteOK l i := by
  intro S w v g L nest deep hp hw h0 h1 h2
  have HN : Hid (∀ o, WC S (w.alloc o) g L nest deep) := fun o => wc_new hw o
  have HK : Hid (∀ o, Keep S w (w.alloc o)) := fun o => Keep.alloc w o hw.1
  have HT := Lib.hid (tx_body hb hi (by rw [hk]; decide) (by rw [hk]; decide) (by rw [hk]; decide))
  have HD := Lib.hid h2
  have h00 : max deep (nest + ((0 : Nat) : Int)) = deep := by omega
  have HW0 : Hid (∀ o, WC S (w.alloc o) g (L ++ (body l i 0).1) nest (max deep (nest + ((body l i 0).2 : Int)))) := fun o => by
    show WC S _ g (L ++ []) nest (max deep (nest + ((0 : Nat) : Int)))
    rw [List.append_nil, h00]
    exact HN.out o
  have hbk := hb i hi 0 (by omega)
  have hki : (kd l i 0).toNat < i := by omega
  have HKI := Lib.hid hki; clear hki hbk hb
  have IH := Lib.hid (ih 0 (by omega)); clear ih
  cases hp with
  | @opt _ u hk' hu =>
    have HU := Lib.hid hu; clear hu
    have HKK := Lib.hid hk
    have HTT : Hid (tx l i = ((body l i 1).1 ++ [63], (body l i 1).2)) := by
      show tx l i = _
      rw [HT.out, hk, hk1]
      rfl
    have HSEP : Hid (sepL (nth l i).kind 0 = []) := if_neg (fun h => by omega)
    clear hk hk' h2 h00 HT hw hk1
    refine ⟨143, .agg #[u], (by unfold Wr; simp), ?_⟩
    go_enter Try.func143, Try.ntmps143
    go_wp2_with fail
    refine (kid_step (bond := 2) HU.out (HK.out _) (fun _ h => h) IH.out (HW0.out _) h0 h1 HKI.out HD.out (by omega) HSEP.out (by rw [HKK.out]; exact pieceB2 (by decide))).mono ?_
    rintro e w2 ⟨rfl, hw2, hk2⟩
    have HW2 := Lib.hid hw2
    have HK2 := Lib.hid ((HK.out _).trans hk2); clear hw2 hk2
    go_wp2_with fail
    refine (put_ok S g _ nest _ 63 w2 HW2.out).mono ?_
    rintro e w3 ⟨rfl, hw3, hk3⟩
    have HW3 := Lib.hid hw3
    have HK3 := Lib.hid (HK2.out.trans hk3); clear hw3 hk3
    go_wp2_with fail
    go_end0
    exact ⟨rfl, by rw [HTT.out]; have := HW3.out; rw [List.append_assoc] at this; exact this, HK3.out⟩
  | set hk' => rw [hk] at hk'; exact absurd hk' (by decide)
  | beg hk' => rw [hk] at hk'; exact absurd hk' (by decide)
  | fin hk' => rw [hk] at hk'; exact absurd hk' (by decide)
  | seq hk' _ _ => rw [hk] at hk'; exact absurd hk' (by decide)
  | alt hk' _ _ => rw [hk] at hk'; exact absurd hk' (by decide)
  | star hk' _ => rw [hk] at hk'; exact absurd hk' (by decide)
  | plus hk' _ => rw [hk] at hk'; exact absurd hk' (by decide)

theorem write_leaf (l : List Nd) (i : Nat) (hn : NodeOk (nth l i)) (hs : (nth l i).set.size ≤ maxLen) (hk : (nth l i).kind = 0 ∨ (nth l i).kind = 1 ∨ (nth l i).kind = 2) : WriteOK l i := by
  intro S w v g L nest deep hp hw h0 h1 h2
  have h00 : max deep (nest + ((0 : Nat) : Int)) = deep := by omega
  cases hp with
  | set hk' =>
    have hev : EvenOrd (nth l i).set := by
      have := (node0' (neg := (nth l i).neg) (s := (nth l i).set) (kids := (nth l i).kids)).1 (by rw [← hk']; exact hn)
      exact this.2.1
    refine ⟨_, _, Or.inl ⟨rfl, rfl⟩, (writeSet_ok S g L nest deep _ _ w hw hs hev).mono ?_⟩
    rintro e w' ⟨rfl, a, b⟩
    refine ⟨rfl, ?_, b⟩
    rw [tx_set hk']
    show WC S w' g _ nest (max deep (nest + ((0 : Nat) : Int)))
    rw [h00]; exact a
  | beg hk' =>
    refine ⟨_, _, Or.inr (Or.inl ⟨rfl, rfl⟩), (writeBeg_ok S g L nest deep w hw).mono ?_⟩
    rintro e w' ⟨rfl, a, b⟩
    refine ⟨rfl, ?_, b⟩
    rw [tx_beg hk']
    show WC S w' g _ nest (max deep (nest + ((0 : Nat) : Int)))
    rw [h00]; exact a
  | fin hk' =>
    refine ⟨_, _, Or.inr (Or.inr (Or.inl ⟨rfl, rfl⟩)), (writeEnd_ok S g L nest deep w hw).mono ?_⟩
    rintro e w' ⟨rfl, a, b⟩
    refine ⟨rfl, ?_, b⟩
    rw [tx_end hk']
    show WC S w' g _ nest (max deep (nest + ((0 : Nat) : Int)))
    rw [h00]; exact a
  | seq hk' _ _ => omega
  | alt hk' _ _ => omega
  | star hk' _ => omega
  | plus hk' _ => omega
  | opt hk' _ => omega

theorem write_all (l : List Nd) (hP : ReP l) (hT : total l l.length ≤ 1048576) : ∀ i, i < l.length → WriteOK l i := by
  intro i
  induction i using Nat.strongRecOn with
  | _ i ih =>
  intro hi
  have hB := backs_of hP
  have hn := hP.2.2.1 i hi
  have hbd := bd_of hT hi
  have hk : ∀ k, k < (nth l i).kids.length → WriteOK l (kd l i k).toNat := fun k hk => by
    have := hB i hi k hk
    exact ih _ (by omega) (by omega)
  rcases hn with ⟨h0, _⟩ | ⟨_, _, h⟩
  · exact write_leaf l i (hP.2.2.1 i hi) (by unfold maxLen; omega) (Or.inl h0)
  · rcases h with ⟨h1 | h2, _⟩ | ⟨h3 | h4, _⟩ | ⟨h5 | h6 | h7, h1⟩
    · exact write_leaf l i (hP.2.2.1 i hi) (by unfold maxLen; omega) (Or.inr (Or.inl h1))
    · exact write_leaf l i (hP.2.2.1 i hi) (by unfold maxLen; omega) (Or.inr (Or.inr h2))
    · exact write_seq l i hB hi hbd.2 h3 hk
    · exact write_alt l i hB hi hbd.2 h4 hk
    · exact write_star l i hB hi h1 h5 hk
    · exact write_plus l i hB hi h1 h6 hk
    · exact write_opt l i hB hi h1 h7 hk

end Go.Proofs.Ytdgbbgkdoekfkaa.Re
