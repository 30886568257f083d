/-
  No cell of these rows narrows 'for every input' (looked for: loops, veiled, ifaces, maps, wideKeys, modest, calm, conditions, laid).
  DERIVED. THE GIVEN ROWS OF THIS SEAT. 8 by the template 'for every input the law returns true; each argument reads behind the call as it read before'; 0 by the template 'total and deterministic' (their statements: YtjkidfkhnjhgfaaTotals.lean).
  GIVEN WITH THE SEED: the statements are not yours to turn. If you find one false, say at which input.
  Laid BY PROGRAM, IN A SANDBOX (cutbox-rows.mjs): the forced cells as the released guide's own fill.sh prints them over the translation 7a7fd5c4f06a8c5a… (all of the seat's roots in one cut). By AI agents, Wed Nov 11 2026. No macro, syntax, notation, axiom, sorry.
-/
import Derived.Test.YtjkidfkhnjhgfaaChecked
import GoSem.Claim
import GoSem.ClaimJoined
import GoSem.ClaimMapViews
import Derived.JoinedTies
import Derived.KernelRfl
namespace Go.Proofs.Ytjkidfkhnjhgfaa
/- THE CELL 'sum', in the pinned program and in every row, IS THE sha256 OF THE DUMP (.gsa) THAT YtjkidfkhnjhgfaaProg.lean LOADS. Nothing in Lean hashes anything: it is a label: what it is worth is what the hold of that sum in a sandbox is worth. -/
noncomputable def Try.pinned : Pinned := { name := "ytjkidfkhnjhgfaa", sum := "7a7fd5c4f06a8c5afe750bcf590e2e72464b1d3bc97f0fa8987b12e9ef10eff0", checked := Try.checked }
namespace Rows
def none {H : Type} : Left H := { results := [], args := [] }

/-- 'laws.FnExactCellOk': WHATEVER THE INPUT: true; the input reads as it did. -/
def fnExactCellOkSpec : ChangeSpec := { name := "fnExactCellOk", fn := fun _ => fun
  | [d] => { results := [.lit (.bool true)], args := [d] }
  | _ => none }
def fnExactCellOkRow : OpenClaim := { program := "ytjkidfkhnjhgfaa", sum := "7a7fd5c4f06a8c5afe750bcf590e2e72464b1d3bc97f0fa8987b12e9ef10eff0", func := "loop.example/g00700/laws.FnExactCellOk", spec := "fnExactCellOk", apart := false }
def FnExactCellOkSaid : Prop := fnExactCellOkRow.holds Try.pinned (OpenSpec.ofChange fnExactCellOkSpec)

/-- ITS FALSE NEIGHBOUR: 'it returns false'. Refute it at one input. -/
def fnExactCellOkWrong : ChangeSpec := { name := "fnExactCellOk", fn := fun _ => fun
  | [d] => { results := [.lit (.bool false)], args := [d] }
  | _ => none }
def FnExactCellOkWrongFalsely : Prop := fnExactCellOkRow.holds Try.pinned (OpenSpec.ofChange fnExactCellOkWrong)

/-- 'laws.FnExactFieldCell': WHATEVER THE INPUT: true; the input reads as it did. -/
def fnExactFieldCellSpec : ChangeSpec := { name := "fnExactFieldCell", fn := fun _ => fun
  | [d] => { results := [.lit (.bool true)], args := [d] }
  | _ => none }
def fnExactFieldCellRow : OpenClaim := { program := "ytjkidfkhnjhgfaa", sum := "7a7fd5c4f06a8c5afe750bcf590e2e72464b1d3bc97f0fa8987b12e9ef10eff0", func := "loop.example/g00700/laws.FnExactFieldCell", spec := "fnExactFieldCell", apart := false }
def FnExactFieldCellSaid : Prop := fnExactFieldCellRow.holds Try.pinned (OpenSpec.ofChange fnExactFieldCellSpec)

/-- ITS FALSE NEIGHBOUR: 'it returns false'. Refute it at one input. -/
def fnExactFieldCellWrong : ChangeSpec := { name := "fnExactFieldCell", fn := fun _ => fun
  | [d] => { results := [.lit (.bool false)], args := [d] }
  | _ => none }
def FnExactFieldCellWrongFalsely : Prop := fnExactFieldCellRow.holds Try.pinned (OpenSpec.ofChange fnExactFieldCellWrong)

/-- 'laws.FnExactToNum': WHATEVER THE INPUT: true; the input reads as it did. -/
def fnExactToNumSpec : ChangeSpec := { name := "fnExactToNum", fn := fun _ => fun
  | [d] => { results := [.lit (.bool true)], args := [d] }
  | _ => none }
def fnExactToNumRow : OpenClaim := { program := "ytjkidfkhnjhgfaa", sum := "7a7fd5c4f06a8c5afe750bcf590e2e72464b1d3bc97f0fa8987b12e9ef10eff0", func := "loop.example/g00700/laws.FnExactToNum", spec := "fnExactToNum", apart := false }
def FnExactToNumSaid : Prop := fnExactToNumRow.holds Try.pinned (OpenSpec.ofChange fnExactToNumSpec)

/-- ITS FALSE NEIGHBOUR: 'it returns false'. Refute it at one input. -/
def fnExactToNumWrong : ChangeSpec := { name := "fnExactToNum", fn := fun _ => fun
  | [d] => { results := [.lit (.bool false)], args := [d] }
  | _ => none }
def FnExactToNumWrongFalsely : Prop := fnExactToNumRow.holds Try.pinned (OpenSpec.ofChange fnExactToNumWrong)

/-- 'laws.FnExactTruth': WHATEVER THE INPUT: true; the input reads as it did. -/
def fnExactTruthSpec : ChangeSpec := { name := "fnExactTruth", fn := fun _ => fun
  | [d] => { results := [.lit (.bool true)], args := [d] }
  | _ => none }
def fnExactTruthRow : OpenClaim := { program := "ytjkidfkhnjhgfaa", sum := "7a7fd5c4f06a8c5afe750bcf590e2e72464b1d3bc97f0fa8987b12e9ef10eff0", func := "loop.example/g00700/laws.FnExactTruth", spec := "fnExactTruth", apart := false }
def FnExactTruthSaid : Prop := fnExactTruthRow.holds Try.pinned (OpenSpec.ofChange fnExactTruthSpec)

/-- ITS FALSE NEIGHBOUR: 'it returns false'. Refute it at one input. -/
def fnExactTruthWrong : ChangeSpec := { name := "fnExactTruth", fn := fun _ => fun
  | [d] => { results := [.lit (.bool false)], args := [d] }
  | _ => none }
def FnExactTruthWrongFalsely : Prop := fnExactTruthRow.holds Try.pinned (OpenSpec.ofChange fnExactTruthWrong)

/-- 'laws.FnExactArith': WHATEVER THE INPUT: true; the input reads as it did. -/
def fnExactArithSpec : ChangeSpec := { name := "fnExactArith", fn := fun _ => fun
  | [d1, d2, d3] => { results := [.lit (.bool true)], args := [d1, d2, d3] }
  | _ => none }
def fnExactArithRow : OpenClaim := { program := "ytjkidfkhnjhgfaa", sum := "7a7fd5c4f06a8c5afe750bcf590e2e72464b1d3bc97f0fa8987b12e9ef10eff0", func := "loop.example/g00700/laws.FnExactArith", spec := "fnExactArith", named := ["math/bits.divideError", "math/bits.overflowError"], apart := false }
def FnExactArithSaid : Prop := fnExactArithRow.holds Try.pinned (OpenSpec.ofChange fnExactArithSpec)

/-- ITS FALSE NEIGHBOUR: 'it returns false'. Refute it at one input. -/
def fnExactArithWrong : ChangeSpec := { name := "fnExactArith", fn := fun _ => fun
  | [d1, d2, d3] => { results := [.lit (.bool false)], args := [d1, d2, d3] }
  | _ => none }
def FnExactArithWrongFalsely : Prop := fnExactArithRow.holds Try.pinned (OpenSpec.ofChange fnExactArithWrong)

/-- 'laws.FnExactSubText': WHATEVER THE INPUT: true; the input reads as it did. -/
def fnExactSubTextSpec : ChangeSpec := { name := "fnExactSubText", fn := fun _ => fun
  | [d1, d2, d3] => { results := [.lit (.bool true)], args := [d1, d2, d3] }
  | _ => none }
def fnExactSubTextRow : OpenClaim := { program := "ytjkidfkhnjhgfaa", sum := "7a7fd5c4f06a8c5afe750bcf590e2e72464b1d3bc97f0fa8987b12e9ef10eff0", func := "loop.example/g00700/laws.FnExactSubText", spec := "fnExactSubText", apart := false }
def FnExactSubTextSaid : Prop := fnExactSubTextRow.holds Try.pinned (OpenSpec.ofChange fnExactSubTextSpec)

/-- ITS FALSE NEIGHBOUR: 'it returns false'. Refute it at one input. -/
def fnExactSubTextWrong : ChangeSpec := { name := "fnExactSubText", fn := fun _ => fun
  | [d1, d2, d3] => { results := [.lit (.bool false)], args := [d1, d2, d3] }
  | _ => none }
def FnExactSubTextWrongFalsely : Prop := fnExactSubTextRow.holds Try.pinned (OpenSpec.ofChange fnExactSubTextWrong)

/-- 'laws.FnExactIndexOf': WHATEVER THE INPUT: true; the input reads as it did. -/
def fnExactIndexOfSpec : ChangeSpec := { name := "fnExactIndexOf", fn := fun _ => fun
  | [d1, d2] => { results := [.lit (.bool true)], args := [d1, d2] }
  | _ => none }
def fnExactIndexOfRow : OpenClaim := { program := "ytjkidfkhnjhgfaa", sum := "7a7fd5c4f06a8c5afe750bcf590e2e72464b1d3bc97f0fa8987b12e9ef10eff0", func := "loop.example/g00700/laws.FnExactIndexOf", spec := "fnExactIndexOf", inPlace := ["internal/bytealg.IndexByteString", "internal/bytealg.IndexString"], named := ["internal/bytealg.MaxLen"], apart := false }
def FnExactIndexOfSaid : Prop := fnExactIndexOfRow.holds Try.pinned (OpenSpec.ofChange fnExactIndexOfSpec)

/-- ITS FALSE NEIGHBOUR: 'it returns false'. Refute it at one input. -/
def fnExactIndexOfWrong : ChangeSpec := { name := "fnExactIndexOf", fn := fun _ => fun
  | [d1, d2] => { results := [.lit (.bool false)], args := [d1, d2] }
  | _ => none }
def FnExactIndexOfWrongFalsely : Prop := fnExactIndexOfRow.holds Try.pinned (OpenSpec.ofChange fnExactIndexOfWrong)

/-- 'laws.FnExactUpper': WHATEVER THE INPUT: true; the input reads as it did. -/
def fnExactUpperSpec : ChangeSpec := { name := "fnExactUpper", fn := fun _ => fun
  | [d] => { results := [.lit (.bool true)], args := [d] }
  | _ => none }
def fnExactUpperRow : OpenClaim := { program := "ytjkidfkhnjhgfaa", sum := "7a7fd5c4f06a8c5afe750bcf590e2e72464b1d3bc97f0fa8987b12e9ef10eff0", func := "loop.example/g00700/laws.FnExactUpper", spec := "fnExactUpper", apart := false }
def FnExactUpperSaid : Prop := fnExactUpperRow.holds Try.pinned (OpenSpec.ofChange fnExactUpperSpec)

/-- ITS FALSE NEIGHBOUR: 'it returns false'. Refute it at one input. -/
def fnExactUpperWrong : ChangeSpec := { name := "fnExactUpper", fn := fun _ => fun
  | [d] => { results := [.lit (.bool false)], args := [d] }
  | _ => none }
def FnExactUpperWrongFalsely : Prop := fnExactUpperRow.holds Try.pinned (OpenSpec.ofChange fnExactUpperWrong)

/- THE SECOND FORM. 'bulk': how many values and letters a reading holds, each counted each time it is reached (what is shared counts as often as it is met; a slice's spare places count too). A statement '..UptoSaid' is the law's where the arguments, and the package variables that the reading takes, are together of bulk at most 1048576: NARROWER than '..Said'. Prove '..Said' where nothing that the law and all that it calls make is longer than what came in: it says more and counts as full. Else prove '..UptoSaid'. A law counts once. -/
mutual
def uptoBulk {H : Type} : DataW H → Nat
  | .lit (.string bytes) => bytes.length + 1
  | .lit _ => 1
  | .nil => 1
  | .ptr d => uptoBulk d + 1
  | .slice elems spare => uptoBulkAll elems + uptoBulkAll spare + 1
  | .agg parts => uptoBulkAll parts + 1
  | .iface _ d => uptoBulk d + 1
  | .map entries => uptoBulkEntries entries + 1
  | .held _ => 1
def uptoBulkAll {H : Type} : List (DataW H) → Nat
  | [] => 0
  | d :: r => uptoBulk d + uptoBulkAll r
def uptoBulkEntries {H : Type} : List (Lit × DataW H) → Nat
  | [] => 0
  | x :: r => uptoBulkEntry x + uptoBulkEntries r
def uptoBulkEntry {H : Type} : Lit × DataW H → Nat
  | (.string bytes, d) => bytes.length + uptoBulk d + 1
  | (_, d) => uptoBulk d + 1
 end
def uptoSmall : (H : Type) → List (DataW H) → Bool := fun _ ds => decide (uptoBulkAll ds ≤ 1048576)
def OpenSpec.upto (s : _root_.Go.ChangeSpec) : _root_.Go.OpenSpec := { _root_.Go.OpenSpec.ofChange s with cond := some uptoSmall }

/-- 'laws.FnExactCellOk', WHERE WHAT IT READS IS OF BULK AT MOST 1048576: true; the input reads as it did. -/
def fnExactCellOkUptoRow : OpenClaim := { program := "ytjkidfkhnjhgfaa", sum := "7a7fd5c4f06a8c5afe750bcf590e2e72464b1d3bc97f0fa8987b12e9ef10eff0", func := "loop.example/g00700/laws.FnExactCellOk", spec := "fnExactCellOk", apart := false, narrowed := true }
def FnExactCellOkUptoSaid : Prop := fnExactCellOkUptoRow.holds Try.pinned (OpenSpec.upto fnExactCellOkSpec)

/-- 'laws.FnExactFieldCell', WHERE WHAT IT READS IS OF BULK AT MOST 1048576: true; the input reads as it did. -/
def fnExactFieldCellUptoRow : OpenClaim := { program := "ytjkidfkhnjhgfaa", sum := "7a7fd5c4f06a8c5afe750bcf590e2e72464b1d3bc97f0fa8987b12e9ef10eff0", func := "loop.example/g00700/laws.FnExactFieldCell", spec := "fnExactFieldCell", apart := false, narrowed := true }
def FnExactFieldCellUptoSaid : Prop := fnExactFieldCellUptoRow.holds Try.pinned (OpenSpec.upto fnExactFieldCellSpec)

/-- 'laws.FnExactToNum', WHERE WHAT IT READS IS OF BULK AT MOST 1048576: true; the input reads as it did. -/
def fnExactToNumUptoRow : OpenClaim := { program := "ytjkidfkhnjhgfaa", sum := "7a7fd5c4f06a8c5afe750bcf590e2e72464b1d3bc97f0fa8987b12e9ef10eff0", func := "loop.example/g00700/laws.FnExactToNum", spec := "fnExactToNum", apart := false, narrowed := true }
def FnExactToNumUptoSaid : Prop := fnExactToNumUptoRow.holds Try.pinned (OpenSpec.upto fnExactToNumSpec)

/-- 'laws.FnExactTruth', WHERE WHAT IT READS IS OF BULK AT MOST 1048576: true; the input reads as it did. -/
def fnExactTruthUptoRow : OpenClaim := { program := "ytjkidfkhnjhgfaa", sum := "7a7fd5c4f06a8c5afe750bcf590e2e72464b1d3bc97f0fa8987b12e9ef10eff0", func := "loop.example/g00700/laws.FnExactTruth", spec := "fnExactTruth", apart := false, narrowed := true }
def FnExactTruthUptoSaid : Prop := fnExactTruthUptoRow.holds Try.pinned (OpenSpec.upto fnExactTruthSpec)

/-- 'laws.FnExactArith', WHERE WHAT IT READS IS OF BULK AT MOST 1048576: true; the input reads as it did. -/
def fnExactArithUptoRow : OpenClaim := { program := "ytjkidfkhnjhgfaa", sum := "7a7fd5c4f06a8c5afe750bcf590e2e72464b1d3bc97f0fa8987b12e9ef10eff0", func := "loop.example/g00700/laws.FnExactArith", spec := "fnExactArith", named := ["math/bits.divideError", "math/bits.overflowError"], apart := false, narrowed := true }
def FnExactArithUptoSaid : Prop := fnExactArithUptoRow.holds Try.pinned (OpenSpec.upto fnExactArithSpec)

/-- 'laws.FnExactSubText', WHERE WHAT IT READS IS OF BULK AT MOST 1048576: true; the input reads as it did. -/
def fnExactSubTextUptoRow : OpenClaim := { program := "ytjkidfkhnjhgfaa", sum := "7a7fd5c4f06a8c5afe750bcf590e2e72464b1d3bc97f0fa8987b12e9ef10eff0", func := "loop.example/g00700/laws.FnExactSubText", spec := "fnExactSubText", apart := false, narrowed := true }
def FnExactSubTextUptoSaid : Prop := fnExactSubTextUptoRow.holds Try.pinned (OpenSpec.upto fnExactSubTextSpec)

/-- 'laws.FnExactIndexOf', WHERE WHAT IT READS IS OF BULK AT MOST 1048576: true; the input reads as it did. -/
def fnExactIndexOfUptoRow : OpenClaim := { program := "ytjkidfkhnjhgfaa", sum := "7a7fd5c4f06a8c5afe750bcf590e2e72464b1d3bc97f0fa8987b12e9ef10eff0", func := "loop.example/g00700/laws.FnExactIndexOf", spec := "fnExactIndexOf", inPlace := ["internal/bytealg.IndexByteString", "internal/bytealg.IndexString"], named := ["internal/bytealg.MaxLen"], apart := false, narrowed := true }
def FnExactIndexOfUptoSaid : Prop := fnExactIndexOfUptoRow.holds Try.pinned (OpenSpec.upto fnExactIndexOfSpec)

/-- 'laws.FnExactUpper', WHERE WHAT IT READS IS OF BULK AT MOST 1048576: true; the input reads as it did. -/
def fnExactUpperUptoRow : OpenClaim := { program := "ytjkidfkhnjhgfaa", sum := "7a7fd5c4f06a8c5afe750bcf590e2e72464b1d3bc97f0fa8987b12e9ef10eff0", func := "loop.example/g00700/laws.FnExactUpper", spec := "fnExactUpper", apart := false, narrowed := true }
def FnExactUpperUptoSaid : Prop := fnExactUpperUptoRow.holds Try.pinned (OpenSpec.upto fnExactUpperSpec)

end Rows
end Go.Proofs.Ytjkidfkhnjhgfaa
