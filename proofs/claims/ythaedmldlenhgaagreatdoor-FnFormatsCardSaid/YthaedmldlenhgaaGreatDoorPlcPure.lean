/-
  What follows a % in a format: plain.
-/
import Derived.Test.YthaedmldlenhgaaGreatDoorReadPure
namespace Go.Proofs.YthaedmldlenhgaaGreatDoor.Strs
open Go Go.RowKit Go.PlainAid
open Go.Proofs.YthaedmldlenhgaaGreatDoor.DecPure Go.Proofs.YthaedmldlenhgaaGreatDoor.ReadPure
set_option linter.unusedVariables false

/-- So many digits at most, from place k on. -/
def plD (f : ByteArray) : Nat → Nat → Int → Nat × Int
  | 0, k, v => (k, v)
  | m + 1, k, v => if k < f.size ∧ dgB (bt f k) = true then plD f m (k + 1) (10 * v + (bt f k - 48)) else (k, v)
theorem plD_on {f : ByteArray} {m k : Nat} {v : Int} (h : k < f.size) (hd : dgB (bt f k) = true) : plD f (m + 1) k v = plD f m (k + 1) (10 * v + (bt f k - 48)) := by rw [plD, if_pos ⟨h, hd⟩]
theorem plD_stop {f : ByteArray} {m k : Nat} {v : Int} (h : m = 0 ∨ ¬ k < f.size ∨ dgB (bt f k) = false) : plD f m k v = (k, v) := by
  cases m with
  | zero => rfl
  | succ m =>
    rw [plD, if_neg]
    rintro ⟨h1, h2⟩
    rcases h with h | h | h
    · omega
    · exact h h1
    · rw [h2] at h; cases h
structure Plc where
  kind : Int
  wide : Int
  left : Bool
  stop : Int
def Plc.val (p : Plc) : Value := .agg #[.int .u8 p.kind, .int .i64 p.wide, .bool p.left, .int .i64 p.stop]
def plE (f : ByteArray) (r : Nat × Int) (l : Bool) : Plc := if r.1 < f.size ∧ (bt f r.1 = 100 ∨ bt f r.1 = 115) then ⟨bt f r.1, r.2, l, r.1 + 1⟩ else ⟨0, r.2, l, 0⟩
def plc (f : ByteArray) (a : Nat) : Plc :=
  if a + 1 < f.size ∧ bt f (a + 1) = 37 then ⟨37, 0, false, a + 1 + 1⟩
  else if a + 1 < f.size ∧ bt f (a + 1) = 45 then plE f (plD f 2 (a + 2) 0) true else plE f (plD f 2 (a + 1) 0) false
end Go.Proofs.YthaedmldlenhgaaGreatDoor.Strs
