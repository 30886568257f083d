/-
  The parts of a pattern in memory, and how the program's writer writes a kid.
-/
import Derived.Test.YtdgbbgkdoekfkaaWriteSet2
import Derived.StillTailTactics
import Derived.Handy
namespace Go.Proofs.Ytdgbbgkdoekfkaa.Re
open Go.ChangeShapes Go.WideShapes Go.ChangeAt Go.RowKit Go.PlainAid
open Go.Proofs.Ytdgbbgkdoekfkaa.RePure
set_option linter.unusedVariables false

/-- A part of the program's: the interface value for node i; what it reads lies in blocks of S. -/
inductive PartAt (S : Nat → Prop) (w : World) (l : List Nd) : Nat → Value → Prop
  | set {i : Nat} : (nth l i).kind = 0 → PartAt S w l i (.iface 122 (.agg #[.bool (nth l i).neg, .string (nth l i).set]))
  | beg {i : Nat} : (nth l i).kind = 1 → PartAt S w l i (.iface 124 (.agg #[]))
  | fin {i : Nat} : (nth l i).kind = 2 → PartAt S w l i (.iface 125 (.agg #[]))
  | seq {i b o cap : Nat} {u : Nat → Value} : (nth l i).kind = 3 → (∀ k, k < (nth l i).kids.length → S b ∧ w.cell? ⟨b, o + k, none⟩ = some (u k)) → (∀ k, k < (nth l i).kids.length → PartAt S w l (kd l i k).toNat (u k)) →
      PartAt S w l i (.iface 127 (.agg #[.slice (some ⟨b, o, none⟩) (nth l i).kids.length cap]))
  | alt {i b o cap : Nat} {u : Nat → Value} : (nth l i).kind = 4 → (∀ k, k < (nth l i).kids.length → S b ∧ w.cell? ⟨b, o + k, none⟩ = some (u k)) → (∀ k, k < (nth l i).kids.length → PartAt S w l (kd l i k).toNat (u k)) →
      PartAt S w l i (.iface 128 (.agg #[.slice (some ⟨b, o, none⟩) (nth l i).kids.length cap]))
  | star {i : Nat} {u : Value} : (nth l i).kind = 5 → PartAt S w l (kd l i 0).toNat u → PartAt S w l i (.iface 130 (.agg #[u]))
  | plus {i : Nat} {u : Value} : (nth l i).kind = 6 → PartAt S w l (kd l i 0).toNat u → PartAt S w l i (.iface 131 (.agg #[u]))
  | opt {i : Nat} {u : Value} : (nth l i).kind = 7 → PartAt S w l (kd l i 0).toNat u → PartAt S w l i (.iface 132 (.agg #[u]))

theorem PartAt.keep {S T : Nat → Prop} {w w' : World} {l : List Nd} {i : Nat} {v : Value} (h : PartAt S w l i v) (hk : Keep S w w') (hs : ∀ x, S x → T x) : PartAt T w' l i v := by
  induction h with
  | set h => exact .set h
  | beg h => exact .beg h
  | fin h => exact .fin h
  | seq h hc _ ih => exact .seq h (fun k hk' => ⟨hs _ (hc k hk').1, by rw [hk.cell (hc k hk').1]; exact (hc k hk').2⟩) ih
  | alt h hc _ ih => exact .alt h (fun k hk' => ⟨hs _ (hc k hk').1, by rw [hk.cell (hc k hk').1]; exact (hc k hk').2⟩) ih
  | star h _ ih => exact .star h ih
  | plus h _ ih => exact .plus h ih
  | opt h _ ih => exact .opt h ih

/-- Which function writes a part, and what it is handed. -/
def Wr (v : Value) (f : Nat) (p : Value) : Prop :=
  (v = .iface 122 p ∧ f = 116) ∨ (v = .iface 124 p ∧ f = 122) ∨ (v = .iface 125 p ∧ f = 125) ∨
  (v = .iface 127 p ∧ f = 128) ∨ (v = .iface 128 p ∧ f = 134) ∨ (v = .iface 130 p ∧ f = 137) ∨
  (v = .iface 131 p ∧ f = 140) ∨ (v = .iface 132 p ∧ f = 143)
/-- What is written of node i. -/
def Written (S : Nat → Prop) (g : Nat) (L : List Int) (nest deep : Int) (t : Tx) (w : World) (e : Ending) (w' : World) : Prop :=
  e = .returned (.tuple #[]) ∧ WC S w' g (L ++ t.1) nest (max deep (nest + (t.2 : Int))) ∧ Keep S w w'
def WriteOK (l : List Nd) (i : Nat) : Prop := ∀ (S : Nat → Prop) (w : World) (v : Value) (g : Nat) (L : List Int) (nest deep : Int), PartAt S w l i v → WC S w g L nest deep → 0 ≤ nest → nest + i ≤ 1000 → nest ≤ deep →
  ∃ f p, Wr v f p ∧ Calls Try.prog f #[p, .pointer (some ⟨g, 0, none⟩)] w (Written S g L nest deep (tx l i) w)

theorem wc_cells {S : Nat → Prop} {w : World} {g : Nat} {L : List Int} {nest deep : Int} (h : WC S w g L nest deep) : w.cell? ⟨g, 1, none⟩ = some (.int .i64 nest) ∧ w.cell? ⟨g, 2, none⟩ = some (.int .i64 deep) ∧ w.frozen? ⟨g, 1, none⟩ = false ∧ w.frozen? ⟨g, 2, none⟩ = false := by
  obtain ⟨_, _, v, h2, _⟩ := h
  exact ⟨h2.cell (i := 1) (by omega), h2.cell (i := 2) (by omega), h2.frozen 1, h2.frozen 2⟩
theorem wc_nest {S : Nat → Prop} {w : World} {g : Nat} {L : List Int} {nest deep : Int} (h : WC S w g L nest deep) (x : Int) : WC S (w.setCell ⟨g, 1, none⟩ (.int .i64 x)) g L x deep := by
  obtain ⟨h0, h1, v, h2, h3, h4⟩ := h
  refine ⟨fun y hy => by have := h0 y hy; simpa [World.setCell] using this, h1, v, (h2.set 1 (.int .i64 x)).congr (fun j hj => ?_), ownsRow_setCell_below h3 (a := ⟨g, 1, none⟩) (Nat.lt_succ_self g) _, h4⟩
  match j, hj with
  | 0, _ => rfl
  | 1, _ => rfl
  | 2, _ => rfl
theorem wc_deep {S : Nat → Prop} {w : World} {g : Nat} {L : List Int} {nest deep : Int} (h : WC S w g L nest deep) (x : Int) : WC S (w.setCell ⟨g, 2, none⟩ (.int .i64 x)) g L nest x := by
  obtain ⟨h0, h1, v, h2, h3, h4⟩ := h
  refine ⟨fun y hy => by have := h0 y hy; simpa [World.setCell] using this, h1, v, (h2.set 2 (.int .i64 x)).congr (fun j hj => ?_), ownsRow_setCell_below h3 (a := ⟨g, 2, none⟩) (Nat.lt_succ_self g) _, h4⟩
  match j, hj with
  | 0, _ => rfl
  | 1, _ => rfl
  | 2, _ => rfl

def Bond (c : Int) (w : World) (e : Ending) (w' : World) : Prop := e = .returned (.int .i64 c) ∧ ∃ o, w' = w.alloc o
theorem bond_set (p q : Value) (w : World) : Calls Try.prog 114 #[.agg #[p, q]] w (Bond 2 w) := by
  go_enter Try.func114, Try.ntmps114
  go_wp2_with fail
  go_ret
  exact ⟨rfl, _, rfl⟩

theorem bond_beg (p q : Value) (w : World) : Calls Try.prog 120 #[.agg #[]] w (Bond 2 w) := by
  go_enter Try.func120, Try.ntmps120
  go_wp2_with fail
  go_ret
  exact ⟨rfl, _, rfl⟩

theorem bond_fin (p q : Value) (w : World) : Calls Try.prog 123 #[.agg #[]] w (Bond 2 w) := by
  go_enter Try.func123, Try.ntmps123
  go_wp2_with fail
  go_ret
  exact ⟨rfl, _, rfl⟩

theorem bond_seq (p q : Value) (w : World) : Calls Try.prog 126 #[.agg #[p]] w (Bond 1 w) := by
  go_enter Try.func126, Try.ntmps126
  go_wp2_with fail
  go_ret
  exact ⟨rfl, _, rfl⟩

theorem bond_alt (p q : Value) (w : World) : Calls Try.prog 132 #[.agg #[p]] w (Bond 0 w) := by
  go_enter Try.func132, Try.ntmps132
  go_wp2_with fail
  go_ret
  exact ⟨rfl, _, rfl⟩

theorem bond_star (p q : Value) (w : World) : Calls Try.prog 135 #[.agg #[p]] w (Bond 2 w) := by
  go_enter Try.func135, Try.ntmps135
  go_wp2_with fail
  go_ret
  exact ⟨rfl, _, rfl⟩

theorem bond_plus (p q : Value) (w : World) : Calls Try.prog 138 #[.agg #[p]] w (Bond 2 w) := by
  go_enter Try.func138, Try.ntmps138
  go_wp2_with fail
  go_ret
  exact ⟨rfl, _, rfl⟩

theorem bond_opt (p q : Value) (w : World) : Calls Try.prog 141 #[.agg #[p]] w (Bond 2 w) := by
  go_enter Try.func141, Try.ntmps141
  go_wp2_with fail
  go_ret
  exact ⟨rfl, _, rfl⟩

/-- Whether a kid of this kind stands in brackets where so much is asked. -/
def parB (bond kk : Int) : Bool := decide (kk = 4 ∨ (kk = 3 ∧ bond = 2))
def pieceB (bond kk : Int) (t : Tx) : Tx := if parB bond kk = true then (40 :: t.1 ++ [41], t.2 + 1) else t

theorem wc_drew {S : Nat → Prop} {w : World} {g : Nat} {L : List Int} {nest deep : Int} (h : WC S w g L nest deep) : WC S w.drew g L nest deep := by
  obtain ⟨h0, h1, v, h2, h3, h4⟩ := h
  exact ⟨h0, h1, v, h2, h3, h4⟩
theorem keep_drew {S : Nat → Prop} (w : World) : Keep S w w.drew := ⟨rfl, rfl, rfl, Nat.le_refl _, fun _ _ => rfl⟩

end Go.Proofs.Ytdgbbgkdoekfkaa.Re
