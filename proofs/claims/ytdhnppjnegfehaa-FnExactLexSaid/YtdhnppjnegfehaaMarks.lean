/-
  A mark's text, and two tokens compared.
-/
import Derived.Test.YtdhnppjnegfehaaToks
import Derived.Laws.Concat
import Derived.StillTailTactics
namespace Go.Proofs.Ytdhnppjnegfehaa.Lex
open Go.ChangeShapes Go.WideShapes Go.ChangeAt Go.RowKit Go.PlainAid Go.Maps
open Go.Proofs.Ytdhnppjnegfehaa.Dec
open Go.Proofs.Ytdhnppjnegfehaa.DecPure Go.Proofs.Ytdhnppjnegfehaa.ReadPure Go.Proofs.Ytdhnppjnegfehaa.LexPure
set_option linter.unusedVariables false

/-- The digits of k ahead of those that there are. -/
def mdF : Nat → Nat → List Int → List Int
  | 0, _, acc => acc
  | m + 1, k, acc => if 0 < k then mdF m (k / 10) ((48 + (k : Int) % 10) :: acc) else acc
def md (k : Nat) (acc : List Int) : List Int := mdF k k acc
theorem mdF_more : ∀ (m n k : Nat) (acc : List Int), k ≤ m → k ≤ n → mdF m k acc = mdF n k acc
  | 0, 0, _, _, _, _ => rfl
  | 0, n + 1, k, acc, h, _ => by
    have : ¬ 0 < k := by omega
    rw [mdF, mdF, if_neg this]
  | m + 1, 0, k, acc, _, h => by
    have : ¬ 0 < k := by omega
    rw [mdF, mdF, if_neg this]
  | m + 1, n + 1, k, acc, h1, h2 => by
    rw [mdF, mdF]
    by_cases hk : 0 < k
    · rw [if_pos hk, if_pos hk]
      exact mdF_more m n _ _ (by omega) (by omega)
    · rw [if_neg hk, if_neg hk]
theorem md_step {k : Nat} (h : 0 < k) (acc : List Int) : md k acc = md (k / 10) ((48 + (k : Int) % 10) :: acc) := by
  unfold md
  obtain ⟨m, hm⟩ : ∃ m, k = m + 1 := ⟨k - 1, by omega⟩
  have e : mdF k k acc = mdF (m + 1) k acc := by rw [← hm]
  rw [e, mdF, if_pos h]
  exact mdF_more _ _ _ _ (by omega) (Nat.le_refl _)
theorem md_zero (acc : List Int) : md 0 acc = acc := rfl
def mkT (k : Nat) : ByteArray := if k = 0 then ⟨#[109, 48]⟩ else strOfNums (109 :: md k [])

set_option maxRecDepth 100000 in
set_option maxHeartbeats 4000000 in
theorem eq_tok (a b : Tk) (h : a = b) (w : World) : Calls Try.prog 34 #[.agg #[.int .i64 a.kind, .string a.s, .int .i64 a.n, .int .i64 a.pos], .agg #[.int .i64 b.kind, .string b.s, .int .i64 b.n, .int .i64 b.pos]] w fun e w' => e = .returned (.bool true) ∧ Below w.heap.size w w' := by
  subst h
  obtain ⟨k, s, n, p⟩ := a
  have hA : Below w.heap.size w w := Below.refl _ _
  go_enter Try.func34, Try.ntmps34
  go_wp2_with fail
  go_ret
  exact ⟨rfl, (hA.alloc (Nat.le_refl _) _).alloc (by simp) _⟩

set_option maxRecDepth 100000 in
set_option maxHeartbeats 4000000 in
theorem eq_toks (B B' : Nat) (w : World) (x y : Value) (l : List Tk) (hx : TR B w x l) (hy : TR B' w y l) (hl : l.length ≤ 1048577) : Calls Try.prog 13 #[x, y] w fun e w' => e = .returned (.bool true) ∧ Below w.heap.size w w' := by
  obtain ⟨ao, cap, rfl⟩ := hx.form
  obtain ⟨ao', cap', rfl⟩ := hy.form
  have HX := Lib.hid hx
  have HY := Lib.hid hy
  clear hx hy
  go_enter Try.func13, Try.ntmps13
  go_wp2_with fail
  go_loopw [5] (fun i wr => ∃ k : Nat, k ≤ l.length ∧ i = .int .i64 k ∧ Hid (Below w.heap.size w wr)) (fun i _ => l.length - (intOf i).toNat)
  case atStart => exact ⟨0, Nat.zero_le _, rfl, Below.refl _ _⟩
  case round =>
    obtain ⟨k, hk, rfl, HB⟩ := hrel
    by_cases hlt : k < l.length
    · have hx2 := HX.out.below HB.out (Nat.le_refl _)
      have hy2 := HY.out.below HB.out (Nat.le_refl _)
      obtain ⟨g, c, e1, c0, c1, c2, c3, _⟩ := hx2.at hlt
      obtain ⟨g', c', e2, d0, d1, d2, d3, _⟩ := hy2.at hlt
      simp only [Value.slice.injEq, true_and] at e1 e2
      obtain ⟨rfl, rfl⟩ := e1
      obtain ⟨rfl, rfl⟩ := e2
      have hki : (k : Int) < (l.length : Int) := by omega
      obtain ⟨t, ht⟩ : ∃ t, t = tth l k := ⟨_, rfl⟩
      rw [← ht] at c0 c1 c2 c3 d0 d1 d2 d3
      clear hx2 hy2 ht
      go_wp2_with fail
      go_still_tail 8, (by kernel_rfl)
      change wpList _ _ _ _ _ wr.drew
      have HB2 : Hid (Below w.heap.size w wr.drew) := HB.out.drew
      generalize wr.drew = w2 at *
      go_wp2_with (go_at_call 34; refine (eq_tok t t rfl _).mono ?_; rintro e w' ⟨rfl, hB2⟩)
      go_roundw
      case rel => exact ⟨k + 1, by omega, by go_num, HB2.out.trans (hB2.mono HB2.out.size)⟩
      case measure => simp [intOf]; omega
    · have e : k = l.length := by omega
      subst e
      clear hlt
      go_wp2_with fail
      go_ret
      exact ⟨rfl, HB.out⟩

end Go.Proofs.Ytdhnppjnegfehaa.Lex
