/-
  No cell of these rows narrows 'for every input' (looked for: loops, veiled, ifaces, maps, wideKeys, modest, calm, conditions, laid).
  DERIVED. THE GIVEN ROWS OF THIS SEAT. 6 by the template 'for every input the law returns true; each argument reads behind the call as it read before'; 0 by the template 'total and deterministic' (their statements: YtamnpgcfgjlbeaaTotals.lean).
  GIVEN WITH THE SEED: the statements are not yours to turn. If you find one false, say at which input.
  Laid BY PROGRAM, IN A SANDBOX (cutbox-rows.mjs): the forced cells as the released guide's own fill.sh prints them over the translation 13ffc4b202ab6278… (all of the seat's roots in one cut). By AI agents, Wed Nov 11 2026. No macro, syntax, notation, axiom, sorry.
-/
import Derived.Test.YtamnpgcfgjlbeaaChecked
import GoSem.Claim
import GoSem.ClaimJoined
import GoSem.ClaimMapViews
import Derived.JoinedTies
import Derived.KernelRfl
namespace Go.Proofs.Ytamnpgcfgjlbeaa
/- THE CELL 'sum', in the pinned program and in every row, IS THE sha256 OF THE DUMP (.gsa) THAT YtamnpgcfgjlbeaaProg.lean LOADS. Nothing in Lean hashes anything: it is a label: what it is worth is what the hold of that sum in a sandbox is worth. -/
noncomputable def Try.pinned : Pinned := { name := "ytamnpgcfgjlbeaa", sum := "13ffc4b202ab6278204604105d05413f3dc9161c4b52ba7418c285de7b12f329", checked := Try.checked }
namespace Rows
def none {H : Type} : Left H := { results := [], args := [] }

/-- 'corebanklaw08.DigestHashes': WHATEVER THE INPUT: true; the input reads as it did. -/
def digestHashesSpec : ChangeSpec := { name := "digestHashes", fn := fun _ => fun
  | [d1, d2, d3] => { results := [.lit (.bool true)], args := [d1, d2, d3] }
  | _ => none }
def digestHashesRow : OpenClaim := { program := "ytamnpgcfgjlbeaa", sum := "13ffc4b202ab6278204604105d05413f3dc9161c4b52ba7418c285de7b12f329", func := "corebank/corebanklaw08.DigestHashes", spec := "digestHashes", inPlace := ["internal/bytealg.IndexByteString"], apart := false }
def DigestHashesSaid : Prop := digestHashesRow.holds Try.pinned (OpenSpec.ofChange digestHashesSpec)

/-- ITS FALSE NEIGHBOUR: 'it returns false'. Refute it at one input. -/
def digestHashesWrong : ChangeSpec := { name := "digestHashes", fn := fun _ => fun
  | [d1, d2, d3] => { results := [.lit (.bool false)], args := [d1, d2, d3] }
  | _ => none }
def DigestHashesWrongFalsely : Prop := digestHashesRow.holds Try.pinned (OpenSpec.ofChange digestHashesWrong)

/-- 'corebanklaw08.DigestHexes': WHATEVER THE INPUT: true; the input reads as it did. -/
def digestHexesSpec : ChangeSpec := { name := "digestHexes", fn := fun _ => fun
  | [d1, d2] => { results := [.lit (.bool true)], args := [d1, d2] }
  | _ => none }
def digestHexesRow : OpenClaim := { program := "ytamnpgcfgjlbeaa", sum := "13ffc4b202ab6278204604105d05413f3dc9161c4b52ba7418c285de7b12f329", func := "corebank/corebanklaw08.DigestHexes", spec := "digestHexes", inPlace := ["internal/bytealg.IndexByteString"], apart := false }
def DigestHexesSaid : Prop := digestHexesRow.holds Try.pinned (OpenSpec.ofChange digestHexesSpec)

/-- ITS FALSE NEIGHBOUR: 'it returns false'. Refute it at one input. -/
def digestHexesWrong : ChangeSpec := { name := "digestHexes", fn := fun _ => fun
  | [d1, d2] => { results := [.lit (.bool false)], args := [d1, d2] }
  | _ => none }
def DigestHexesWrongFalsely : Prop := digestHexesRow.holds Try.pinned (OpenSpec.ofChange digestHexesWrong)

/-- 'corebanklaw08.DigestRests': WHATEVER THE INPUT: true; the input reads as it did. -/
def digestRestsSpec : ChangeSpec := { name := "digestRests", fn := fun _ => fun
  | [d] => { results := [.lit (.bool true)], args := [d] }
  | _ => none }
def digestRestsRow : OpenClaim := { program := "ytamnpgcfgjlbeaa", sum := "13ffc4b202ab6278204604105d05413f3dc9161c4b52ba7418c285de7b12f329", func := "corebank/corebanklaw08.DigestRests", spec := "digestRests", inPlace := ["internal/bytealg.IndexByteString"], apart := false }
def DigestRestsSaid : Prop := digestRestsRow.holds Try.pinned (OpenSpec.ofChange digestRestsSpec)

/-- ITS FALSE NEIGHBOUR: 'it returns false'. Refute it at one input. -/
def digestRestsWrong : ChangeSpec := { name := "digestRests", fn := fun _ => fun
  | [d] => { results := [.lit (.bool false)], args := [d] }
  | _ => none }
def DigestRestsWrongFalsely : Prop := digestRestsRow.holds Try.pinned (OpenSpec.ofChange digestRestsWrong)

/-- 'corebanklaw08.DigestNumbers': WHATEVER THE INPUT: true; the input reads as it did. -/
def digestNumbersSpec : ChangeSpec := { name := "digestNumbers", fn := fun _ => fun
  | [d] => { results := [.lit (.bool true)], args := [d] }
  | _ => none }
def digestNumbersRow : OpenClaim := { program := "ytamnpgcfgjlbeaa", sum := "13ffc4b202ab6278204604105d05413f3dc9161c4b52ba7418c285de7b12f329", func := "corebank/corebanklaw08.DigestNumbers", spec := "digestNumbers", inPlace := ["internal/bytealg.IndexByteString"], apart := false }
def DigestNumbersSaid : Prop := digestNumbersRow.holds Try.pinned (OpenSpec.ofChange digestNumbersSpec)

/-- ITS FALSE NEIGHBOUR: 'it returns false'. Refute it at one input. -/
def digestNumbersWrong : ChangeSpec := { name := "digestNumbers", fn := fun _ => fun
  | [d] => { results := [.lit (.bool false)], args := [d] }
  | _ => none }
def DigestNumbersWrongFalsely : Prop := digestNumbersRow.holds Try.pinned (OpenSpec.ofChange digestNumbersWrong)

/-- 'corebanklaw08.DigestSeals': WHATEVER THE INPUT: true; the input reads as it did. -/
def digestSealsSpec : ChangeSpec := { name := "digestSeals", fn := fun _ => fun
  | [d1, d2, d3] => { results := [.lit (.bool true)], args := [d1, d2, d3] }
  | _ => none }
def digestSealsRow : OpenClaim := { program := "ytamnpgcfgjlbeaa", sum := "13ffc4b202ab6278204604105d05413f3dc9161c4b52ba7418c285de7b12f329", func := "corebank/corebanklaw08.DigestSeals", spec := "digestSeals", inPlace := ["internal/bytealg.IndexByteString"], apart := false }
def DigestSealsSaid : Prop := digestSealsRow.holds Try.pinned (OpenSpec.ofChange digestSealsSpec)

/-- ITS FALSE NEIGHBOUR: 'it returns false'. Refute it at one input. -/
def digestSealsWrong : ChangeSpec := { name := "digestSeals", fn := fun _ => fun
  | [d1, d2, d3] => { results := [.lit (.bool false)], args := [d1, d2, d3] }
  | _ => none }
def DigestSealsWrongFalsely : Prop := digestSealsRow.holds Try.pinned (OpenSpec.ofChange digestSealsWrong)

/-- 'corebanklaw08.DigestTexts': WHATEVER THE INPUT: true; the input reads as it did. -/
def digestTextsSpec : ChangeSpec := { name := "digestTexts", fn := fun _ => fun
  | [d1, d2] => { results := [.lit (.bool true)], args := [d1, d2] }
  | _ => none }
def digestTextsRow : OpenClaim := { program := "ytamnpgcfgjlbeaa", sum := "13ffc4b202ab6278204604105d05413f3dc9161c4b52ba7418c285de7b12f329", func := "corebank/corebanklaw08.DigestTexts", spec := "digestTexts", inPlace := ["internal/bytealg.IndexByteString"], apart := false }
def DigestTextsSaid : Prop := digestTextsRow.holds Try.pinned (OpenSpec.ofChange digestTextsSpec)

/-- ITS FALSE NEIGHBOUR: 'it returns false'. Refute it at one input. -/
def digestTextsWrong : ChangeSpec := { name := "digestTexts", fn := fun _ => fun
  | [d1, d2] => { results := [.lit (.bool false)], args := [d1, d2] }
  | _ => none }
def DigestTextsWrongFalsely : Prop := digestTextsRow.holds Try.pinned (OpenSpec.ofChange digestTextsWrong)

/- THE SECOND FORM. 'bulk': how many values and letters a reading holds, each counted each time it is reached (what is shared counts as often as it is met; a slice's spare places count too). A statement '..UptoSaid' is the law's where the arguments, and the package variables that the reading takes, are together of bulk at most 1048576: NARROWER than '..Said'. Prove '..Said' where nothing that the law and all that it calls make is longer than what came in: it says more and counts as full. Else prove '..UptoSaid'. A law counts once. -/
mutual
def uptoBulk {H : Type} : DataW H → Nat
  | .lit (.string bytes) => bytes.length + 1
  | .lit _ => 1
  | .nil => 1
  | .ptr d => uptoBulk d + 1
  | .slice elems spare => uptoBulkAll elems + uptoBulkAll spare + 1
  | .agg parts => uptoBulkAll parts + 1
  | .iface _ d => uptoBulk d + 1
  | .map entries => uptoBulkEntries entries + 1
  | .held _ => 1
def uptoBulkAll {H : Type} : List (DataW H) → Nat
  | [] => 0
  | d :: r => uptoBulk d + uptoBulkAll r
def uptoBulkEntries {H : Type} : List (Lit × DataW H) → Nat
  | [] => 0
  | x :: r => uptoBulkEntry x + uptoBulkEntries r
def uptoBulkEntry {H : Type} : Lit × DataW H → Nat
  | (.string bytes, d) => bytes.length + uptoBulk d + 1
  | (_, d) => uptoBulk d + 1
 end
def uptoSmall : (H : Type) → List (DataW H) → Bool := fun _ ds => decide (uptoBulkAll ds ≤ 1048576)
def OpenSpec.upto (s : _root_.Go.ChangeSpec) : _root_.Go.OpenSpec := { _root_.Go.OpenSpec.ofChange s with cond := some uptoSmall }

/-- 'corebanklaw08.DigestHashes', WHERE WHAT IT READS IS OF BULK AT MOST 1048576: true; the input reads as it did. -/
def digestHashesUptoRow : OpenClaim := { program := "ytamnpgcfgjlbeaa", sum := "13ffc4b202ab6278204604105d05413f3dc9161c4b52ba7418c285de7b12f329", func := "corebank/corebanklaw08.DigestHashes", spec := "digestHashes", inPlace := ["internal/bytealg.IndexByteString"], apart := false, narrowed := true }
def DigestHashesUptoSaid : Prop := digestHashesUptoRow.holds Try.pinned (OpenSpec.upto digestHashesSpec)

/-- 'corebanklaw08.DigestHexes', WHERE WHAT IT READS IS OF BULK AT MOST 1048576: true; the input reads as it did. -/
def digestHexesUptoRow : OpenClaim := { program := "ytamnpgcfgjlbeaa", sum := "13ffc4b202ab6278204604105d05413f3dc9161c4b52ba7418c285de7b12f329", func := "corebank/corebanklaw08.DigestHexes", spec := "digestHexes", inPlace := ["internal/bytealg.IndexByteString"], apart := false, narrowed := true }
def DigestHexesUptoSaid : Prop := digestHexesUptoRow.holds Try.pinned (OpenSpec.upto digestHexesSpec)

/-- 'corebanklaw08.DigestRests', WHERE WHAT IT READS IS OF BULK AT MOST 1048576: true; the input reads as it did. -/
def digestRestsUptoRow : OpenClaim := { program := "ytamnpgcfgjlbeaa", sum := "13ffc4b202ab6278204604105d05413f3dc9161c4b52ba7418c285de7b12f329", func := "corebank/corebanklaw08.DigestRests", spec := "digestRests", inPlace := ["internal/bytealg.IndexByteString"], apart := false, narrowed := true }
def DigestRestsUptoSaid : Prop := digestRestsUptoRow.holds Try.pinned (OpenSpec.upto digestRestsSpec)

/-- 'corebanklaw08.DigestNumbers', WHERE WHAT IT READS IS OF BULK AT MOST 1048576: true; the input reads as it did. -/
def digestNumbersUptoRow : OpenClaim := { program := "ytamnpgcfgjlbeaa", sum := "13ffc4b202ab6278204604105d05413f3dc9161c4b52ba7418c285de7b12f329", func := "corebank/corebanklaw08.DigestNumbers", spec := "digestNumbers", inPlace := ["internal/bytealg.IndexByteString"], apart := false, narrowed := true }
def DigestNumbersUptoSaid : Prop := digestNumbersUptoRow.holds Try.pinned (OpenSpec.upto digestNumbersSpec)

/-- 'corebanklaw08.DigestSeals', WHERE WHAT IT READS IS OF BULK AT MOST 1048576: true; the input reads as it did. -/
def digestSealsUptoRow : OpenClaim := { program := "ytamnpgcfgjlbeaa", sum := "13ffc4b202ab6278204604105d05413f3dc9161c4b52ba7418c285de7b12f329", func := "corebank/corebanklaw08.DigestSeals", spec := "digestSeals", inPlace := ["internal/bytealg.IndexByteString"], apart := false, narrowed := true }
def DigestSealsUptoSaid : Prop := digestSealsUptoRow.holds Try.pinned (OpenSpec.upto digestSealsSpec)

/-- 'corebanklaw08.DigestTexts', WHERE WHAT IT READS IS OF BULK AT MOST 1048576: true; the input reads as it did. -/
def digestTextsUptoRow : OpenClaim := { program := "ytamnpgcfgjlbeaa", sum := "13ffc4b202ab6278204604105d05413f3dc9161c4b52ba7418c285de7b12f329", func := "corebank/corebanklaw08.DigestTexts", spec := "digestTexts", inPlace := ["internal/bytealg.IndexByteString"], apart := false, narrowed := true }
def DigestTextsUptoSaid : Prop := digestTextsUptoRow.holds Try.pinned (OpenSpec.upto digestTextsSpec)

end Rows
end Go.Proofs.Ytamnpgcfgjlbeaa
