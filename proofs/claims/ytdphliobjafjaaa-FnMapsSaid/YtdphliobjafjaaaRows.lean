/-
  No cell of these rows narrows 'for every input' (looked for: loops, veiled, ifaces, maps, wideKeys, modest, calm, conditions, laid).
  DERIVED. THE GIVEN ROWS OF THIS SEAT. 11 by the template 'for every input the law returns true; each argument reads behind the call as it read before'; 0 by the template 'total and deterministic' (their statements: YtdphliobjafjaaaTotals.lean).
  GIVEN WITH THE SEED: the statements are not yours to turn. If you find one false, say at which input.
  Laid BY PROGRAM, IN A SANDBOX (cutbox-rows.mjs): the forced cells as the released guide's own fill.sh prints them over the translation 40a440ff05c085c9… (all of the seat's roots in one cut). By AI agents, Wed Nov 11 2026. No macro, syntax, notation, axiom, sorry.
-/
import Derived.Test.YtdphliobjafjaaaChecked
import GoSem.Claim
import GoSem.ClaimJoined
import GoSem.ClaimMapViews
import Derived.JoinedTies
import Derived.KernelRfl
namespace Go.Proofs.Ytdphliobjafjaaa
/- THE CELL 'sum', in the pinned program and in every row, IS THE sha256 OF THE DUMP (.gsa) THAT YtdphliobjafjaaaProg.lean LOADS. Nothing in Lean hashes anything: it is a label: what it is worth is what the hold of that sum in a sandbox is worth. -/
noncomputable def Try.pinned : Pinned := { name := "ytdphliobjafjaaa", sum := "40a440ff05c085c9be38252e11a07854df1ca7d237d336c89a03ee5d5588e3f0", checked := Try.checked }
namespace Rows
def none {H : Type} : Left H := { results := [], args := [] }

/-- 'laws.FnMaps': WHATEVER THE INPUT: true; the input reads as it did. -/
def fnMapsSpec : ChangeSpec := { name := "fnMaps", fn := fun _ => fun
  | [d] => { results := [.lit (.bool true)], args := [d] }
  | _ => none }
def fnMapsRow : OpenClaim := { program := "ytdphliobjafjaaa", sum := "40a440ff05c085c9be38252e11a07854df1ca7d237d336c89a03ee5d5588e3f0", func := "loop.example/g00938/laws.FnMaps", spec := "fnMaps", inPlace := ["internal/abi.NoEscape", "internal/bytealg.IndexByteString"], recurses := true, apart := false }
def FnMapsSaid : Prop := fnMapsRow.holds Try.pinned (OpenSpec.ofChange fnMapsSpec)

/-- ITS FALSE NEIGHBOUR: 'it returns false'. Refute it at one input. -/
def fnMapsWrong : ChangeSpec := { name := "fnMaps", fn := fun _ => fun
  | [d] => { results := [.lit (.bool false)], args := [d] }
  | _ => none }
def FnMapsWrongFalsely : Prop := fnMapsRow.holds Try.pinned (OpenSpec.ofChange fnMapsWrong)

/-- 'laws.FnCells': WHATEVER THE INPUT: true; the input reads as it did. -/
def fnCellsSpec : ChangeSpec := { name := "fnCells", fn := fun _ => fun
  | [d] => { results := [.lit (.bool true)], args := [d] }
  | _ => none }
def fnCellsRow : OpenClaim := { program := "ytdphliobjafjaaa", sum := "40a440ff05c085c9be38252e11a07854df1ca7d237d336c89a03ee5d5588e3f0", func := "loop.example/g00938/laws.FnCells", spec := "fnCells", recurses := true, apart := false }
def FnCellsSaid : Prop := fnCellsRow.holds Try.pinned (OpenSpec.ofChange fnCellsSpec)

/-- ITS FALSE NEIGHBOUR: 'it returns false'. Refute it at one input. -/
def fnCellsWrong : ChangeSpec := { name := "fnCells", fn := fun _ => fun
  | [d] => { results := [.lit (.bool false)], args := [d] }
  | _ => none }
def FnCellsWrongFalsely : Prop := fnCellsRow.holds Try.pinned (OpenSpec.ofChange fnCellsWrong)

/-- 'laws.FnExactIsMap': WHATEVER THE INPUT: true; the input reads as it did. -/
def fnExactIsMapSpec : ChangeSpec := { name := "fnExactIsMap", fn := fun _ => fun
  | [d] => { results := [.lit (.bool true)], args := [d] }
  | _ => none }
def fnExactIsMapRow : OpenClaim := { program := "ytdphliobjafjaaa", sum := "40a440ff05c085c9be38252e11a07854df1ca7d237d336c89a03ee5d5588e3f0", func := "loop.example/g00938/laws.FnExactIsMap", spec := "fnExactIsMap", apart := false }
def FnExactIsMapSaid : Prop := fnExactIsMapRow.holds Try.pinned (OpenSpec.ofChange fnExactIsMapSpec)

/-- ITS FALSE NEIGHBOUR: 'it returns false'. Refute it at one input. -/
def fnExactIsMapWrong : ChangeSpec := { name := "fnExactIsMap", fn := fun _ => fun
  | [d] => { results := [.lit (.bool false)], args := [d] }
  | _ => none }
def FnExactIsMapWrongFalsely : Prop := fnExactIsMapRow.holds Try.pinned (OpenSpec.ofChange fnExactIsMapWrong)

/-- 'laws.FnExactCellsNextTo': WHATEVER THE INPUT: true; the input reads as it did. -/
def fnExactCellsNextToSpec : ChangeSpec := { name := "fnExactCellsNextTo", fn := fun _ => fun
  | [d1, d2] => { results := [.lit (.bool true)], args := [d1, d2] }
  | _ => none }
def fnExactCellsNextToRow : OpenClaim := { program := "ytdphliobjafjaaa", sum := "40a440ff05c085c9be38252e11a07854df1ca7d237d336c89a03ee5d5588e3f0", func := "loop.example/g00938/laws.FnExactCellsNextTo", spec := "fnExactCellsNextTo", apart := false }
def FnExactCellsNextToSaid : Prop := fnExactCellsNextToRow.holds Try.pinned (OpenSpec.ofChange fnExactCellsNextToSpec)

/-- ITS FALSE NEIGHBOUR: 'it returns false'. Refute it at one input. -/
def fnExactCellsNextToWrong : ChangeSpec := { name := "fnExactCellsNextTo", fn := fun _ => fun
  | [d1, d2] => { results := [.lit (.bool false)], args := [d1, d2] }
  | _ => none }
def FnExactCellsNextToWrongFalsely : Prop := fnExactCellsNextToRow.holds Try.pinned (OpenSpec.ofChange fnExactCellsNextToWrong)

/-- 'laws.FnExactStepTime': WHATEVER THE INPUT: true; the input reads as it did. -/
def fnExactStepTimeSpec : ChangeSpec := { name := "fnExactStepTime", fn := fun _ => fun
  | [d1, d2, d3] => { results := [.lit (.bool true)], args := [d1, d2, d3] }
  | _ => none }
def fnExactStepTimeRow : OpenClaim := { program := "ytdphliobjafjaaa", sum := "40a440ff05c085c9be38252e11a07854df1ca7d237d336c89a03ee5d5588e3f0", func := "loop.example/g00938/laws.FnExactStepTime", spec := "fnExactStepTime", apart := false }
def FnExactStepTimeSaid : Prop := fnExactStepTimeRow.holds Try.pinned (OpenSpec.ofChange fnExactStepTimeSpec)

/-- ITS FALSE NEIGHBOUR: 'it returns false'. Refute it at one input. -/
def fnExactStepTimeWrong : ChangeSpec := { name := "fnExactStepTime", fn := fun _ => fun
  | [d1, d2, d3] => { results := [.lit (.bool false)], args := [d1, d2, d3] }
  | _ => none }
def FnExactStepTimeWrongFalsely : Prop := fnExactStepTimeRow.holds Try.pinned (OpenSpec.ofChange fnExactStepTimeWrong)

/-- 'laws.FnExactOpenParts': WHATEVER THE INPUT: true; the input reads as it did. -/
def fnExactOpenPartsSpec : ChangeSpec := { name := "fnExactOpenParts", fn := fun _ => fun
  | [d] => { results := [.lit (.bool true)], args := [d] }
  | _ => none }
def fnExactOpenPartsRow : OpenClaim := { program := "ytdphliobjafjaaa", sum := "40a440ff05c085c9be38252e11a07854df1ca7d237d336c89a03ee5d5588e3f0", func := "loop.example/g00938/laws.FnExactOpenParts", spec := "fnExactOpenParts", recurses := true, apart := false }
def FnExactOpenPartsSaid : Prop := fnExactOpenPartsRow.holds Try.pinned (OpenSpec.ofChange fnExactOpenPartsSpec)

/-- ITS FALSE NEIGHBOUR: 'it returns false'. Refute it at one input. -/
def fnExactOpenPartsWrong : ChangeSpec := { name := "fnExactOpenParts", fn := fun _ => fun
  | [d] => { results := [.lit (.bool false)], args := [d] }
  | _ => none }
def FnExactOpenPartsWrongFalsely : Prop := fnExactOpenPartsRow.holds Try.pinned (OpenSpec.ofChange fnExactOpenPartsWrong)

/-- 'laws.FnExactHighestCell': WHATEVER THE INPUT: true; the input reads as it did. -/
def fnExactHighestCellSpec : ChangeSpec := { name := "fnExactHighestCell", fn := fun _ => fun
  | [d] => { results := [.lit (.bool true)], args := [d] }
  | _ => none }
def fnExactHighestCellRow : OpenClaim := { program := "ytdphliobjafjaaa", sum := "40a440ff05c085c9be38252e11a07854df1ca7d237d336c89a03ee5d5588e3f0", func := "loop.example/g00938/laws.FnExactHighestCell", spec := "fnExactHighestCell", apart := false }
def FnExactHighestCellSaid : Prop := fnExactHighestCellRow.holds Try.pinned (OpenSpec.ofChange fnExactHighestCellSpec)

/-- ITS FALSE NEIGHBOUR: 'it returns false'. Refute it at one input. -/
def fnExactHighestCellWrong : ChangeSpec := { name := "fnExactHighestCell", fn := fun _ => fun
  | [d] => { results := [.lit (.bool false)], args := [d] }
  | _ => none }
def FnExactHighestCellWrongFalsely : Prop := fnExactHighestCellRow.holds Try.pinned (OpenSpec.ofChange fnExactHighestCellWrong)

/-- 'laws.FnExactMirrorMap': WHATEVER THE INPUT: true; the input reads as it did. -/
def fnExactMirrorMapSpec : ChangeSpec := { name := "fnExactMirrorMap", fn := fun _ => fun
  | [d] => { results := [.lit (.bool true)], args := [d] }
  | _ => none }
def fnExactMirrorMapRow : OpenClaim := { program := "ytdphliobjafjaaa", sum := "40a440ff05c085c9be38252e11a07854df1ca7d237d336c89a03ee5d5588e3f0", func := "loop.example/g00938/laws.FnExactMirrorMap", spec := "fnExactMirrorMap", apart := false }
def FnExactMirrorMapSaid : Prop := fnExactMirrorMapRow.holds Try.pinned (OpenSpec.ofChange fnExactMirrorMapSpec)

/-- ITS FALSE NEIGHBOUR: 'it returns false'. Refute it at one input. -/
def fnExactMirrorMapWrong : ChangeSpec := { name := "fnExactMirrorMap", fn := fun _ => fun
  | [d] => { results := [.lit (.bool false)], args := [d] }
  | _ => none }
def FnExactMirrorMapWrongFalsely : Prop := fnExactMirrorMapRow.holds Try.pinned (OpenSpec.ofChange fnExactMirrorMapWrong)

/-- 'laws.FnExactTurnMap': WHATEVER THE INPUT: true; the input reads as it did. -/
def fnExactTurnMapSpec : ChangeSpec := { name := "fnExactTurnMap", fn := fun _ => fun
  | [d] => { results := [.lit (.bool true)], args := [d] }
  | _ => none }
def fnExactTurnMapRow : OpenClaim := { program := "ytdphliobjafjaaa", sum := "40a440ff05c085c9be38252e11a07854df1ca7d237d336c89a03ee5d5588e3f0", func := "loop.example/g00938/laws.FnExactTurnMap", spec := "fnExactTurnMap", apart := false }
def FnExactTurnMapSaid : Prop := fnExactTurnMapRow.holds Try.pinned (OpenSpec.ofChange fnExactTurnMapSpec)

/-- ITS FALSE NEIGHBOUR: 'it returns false'. Refute it at one input. -/
def fnExactTurnMapWrong : ChangeSpec := { name := "fnExactTurnMap", fn := fun _ => fun
  | [d] => { results := [.lit (.bool false)], args := [d] }
  | _ => none }
def FnExactTurnMapWrongFalsely : Prop := fnExactTurnMapRow.holds Try.pinned (OpenSpec.ofChange fnExactTurnMapWrong)

/-- 'laws.FnExactMapText': WHATEVER THE INPUT: true; the input reads as it did. -/
def fnExactMapTextSpec : ChangeSpec := { name := "fnExactMapText", fn := fun _ => fun
  | [d] => { results := [.lit (.bool true)], args := [d] }
  | _ => none }
def fnExactMapTextRow : OpenClaim := { program := "ytdphliobjafjaaa", sum := "40a440ff05c085c9be38252e11a07854df1ca7d237d336c89a03ee5d5588e3f0", func := "loop.example/g00938/laws.FnExactMapText", spec := "fnExactMapText", inPlace := ["internal/abi.NoEscape"], recurses := true, apart := false }
def FnExactMapTextSaid : Prop := fnExactMapTextRow.holds Try.pinned (OpenSpec.ofChange fnExactMapTextSpec)

/-- ITS FALSE NEIGHBOUR: 'it returns false'. Refute it at one input. -/
def fnExactMapTextWrong : ChangeSpec := { name := "fnExactMapText", fn := fun _ => fun
  | [d] => { results := [.lit (.bool false)], args := [d] }
  | _ => none }
def FnExactMapTextWrongFalsely : Prop := fnExactMapTextRow.holds Try.pinned (OpenSpec.ofChange fnExactMapTextWrong)

/-- 'laws.FnExactParseMap': WHATEVER THE INPUT: true; the input reads as it did. -/
def fnExactParseMapSpec : ChangeSpec := { name := "fnExactParseMap", fn := fun _ => fun
  | [d] => { results := [.lit (.bool true)], args := [d] }
  | _ => none }
def fnExactParseMapRow : OpenClaim := { program := "ytdphliobjafjaaa", sum := "40a440ff05c085c9be38252e11a07854df1ca7d237d336c89a03ee5d5588e3f0", func := "loop.example/g00938/laws.FnExactParseMap", spec := "fnExactParseMap", inPlace := ["internal/bytealg.IndexByteString", "internal/abi.NoEscape"], recurses := true, apart := false }
def FnExactParseMapSaid : Prop := fnExactParseMapRow.holds Try.pinned (OpenSpec.ofChange fnExactParseMapSpec)

/-- ITS FALSE NEIGHBOUR: 'it returns false'. Refute it at one input. -/
def fnExactParseMapWrong : ChangeSpec := { name := "fnExactParseMap", fn := fun _ => fun
  | [d] => { results := [.lit (.bool false)], args := [d] }
  | _ => none }
def FnExactParseMapWrongFalsely : Prop := fnExactParseMapRow.holds Try.pinned (OpenSpec.ofChange fnExactParseMapWrong)

/- THE SECOND FORM. 'bulk': how many values and letters a reading holds, each counted each time it is reached (what is shared counts as often as it is met; a slice's spare places count too). A statement '..UptoSaid' is the law's where the arguments, and the package variables that the reading takes, are together of bulk at most 1048576: NARROWER than '..Said'. Prove '..Said' where nothing that the law and all that it calls make is longer than what came in: it says more and counts as full. Else prove '..UptoSaid'. A law counts once. -/
mutual
def uptoBulk {H : Type} : DataW H → Nat
  | .lit (.string bytes) => bytes.length + 1
  | .lit _ => 1
  | .nil => 1
  | .ptr d => uptoBulk d + 1
  | .slice elems spare => uptoBulkAll elems + uptoBulkAll spare + 1
  | .agg parts => uptoBulkAll parts + 1
  | .iface _ d => uptoBulk d + 1
  | .map entries => uptoBulkEntries entries + 1
  | .held _ => 1
def uptoBulkAll {H : Type} : List (DataW H) → Nat
  | [] => 0
  | d :: r => uptoBulk d + uptoBulkAll r
def uptoBulkEntries {H : Type} : List (Lit × DataW H) → Nat
  | [] => 0
  | x :: r => uptoBulkEntry x + uptoBulkEntries r
def uptoBulkEntry {H : Type} : Lit × DataW H → Nat
  | (.string bytes, d) => bytes.length + uptoBulk d + 1
  | (_, d) => uptoBulk d + 1
 end
def uptoSmall : (H : Type) → List (DataW H) → Bool := fun _ ds => decide (uptoBulkAll ds ≤ 1048576)
def OpenSpec.upto (s : _root_.Go.ChangeSpec) : _root_.Go.OpenSpec := { _root_.Go.OpenSpec.ofChange s with cond := some uptoSmall }

/-- 'laws.FnMaps', WHERE WHAT IT READS IS OF BULK AT MOST 1048576: true; the input reads as it did. -/
def fnMapsUptoRow : OpenClaim := { program := "ytdphliobjafjaaa", sum := "40a440ff05c085c9be38252e11a07854df1ca7d237d336c89a03ee5d5588e3f0", func := "loop.example/g00938/laws.FnMaps", spec := "fnMaps", inPlace := ["internal/abi.NoEscape", "internal/bytealg.IndexByteString"], recurses := true, apart := false, narrowed := true }
def FnMapsUptoSaid : Prop := fnMapsUptoRow.holds Try.pinned (OpenSpec.upto fnMapsSpec)

/-- 'laws.FnCells', WHERE WHAT IT READS IS OF BULK AT MOST 1048576: true; the input reads as it did. -/
def fnCellsUptoRow : OpenClaim := { program := "ytdphliobjafjaaa", sum := "40a440ff05c085c9be38252e11a07854df1ca7d237d336c89a03ee5d5588e3f0", func := "loop.example/g00938/laws.FnCells", spec := "fnCells", recurses := true, apart := false, narrowed := true }
def FnCellsUptoSaid : Prop := fnCellsUptoRow.holds Try.pinned (OpenSpec.upto fnCellsSpec)

/-- 'laws.FnExactIsMap', WHERE WHAT IT READS IS OF BULK AT MOST 1048576: true; the input reads as it did. -/
def fnExactIsMapUptoRow : OpenClaim := { program := "ytdphliobjafjaaa", sum := "40a440ff05c085c9be38252e11a07854df1ca7d237d336c89a03ee5d5588e3f0", func := "loop.example/g00938/laws.FnExactIsMap", spec := "fnExactIsMap", apart := false, narrowed := true }
def FnExactIsMapUptoSaid : Prop := fnExactIsMapUptoRow.holds Try.pinned (OpenSpec.upto fnExactIsMapSpec)

/-- 'laws.FnExactCellsNextTo', WHERE WHAT IT READS IS OF BULK AT MOST 1048576: true; the input reads as it did. -/
def fnExactCellsNextToUptoRow : OpenClaim := { program := "ytdphliobjafjaaa", sum := "40a440ff05c085c9be38252e11a07854df1ca7d237d336c89a03ee5d5588e3f0", func := "loop.example/g00938/laws.FnExactCellsNextTo", spec := "fnExactCellsNextTo", apart := false, narrowed := true }
def FnExactCellsNextToUptoSaid : Prop := fnExactCellsNextToUptoRow.holds Try.pinned (OpenSpec.upto fnExactCellsNextToSpec)

/-- 'laws.FnExactStepTime', WHERE WHAT IT READS IS OF BULK AT MOST 1048576: true; the input reads as it did. -/
def fnExactStepTimeUptoRow : OpenClaim := { program := "ytdphliobjafjaaa", sum := "40a440ff05c085c9be38252e11a07854df1ca7d237d336c89a03ee5d5588e3f0", func := "loop.example/g00938/laws.FnExactStepTime", spec := "fnExactStepTime", apart := false, narrowed := true }
def FnExactStepTimeUptoSaid : Prop := fnExactStepTimeUptoRow.holds Try.pinned (OpenSpec.upto fnExactStepTimeSpec)

/-- 'laws.FnExactOpenParts', WHERE WHAT IT READS IS OF BULK AT MOST 1048576: true; the input reads as it did. -/
def fnExactOpenPartsUptoRow : OpenClaim := { program := "ytdphliobjafjaaa", sum := "40a440ff05c085c9be38252e11a07854df1ca7d237d336c89a03ee5d5588e3f0", func := "loop.example/g00938/laws.FnExactOpenParts", spec := "fnExactOpenParts", recurses := true, apart := false, narrowed := true }
def FnExactOpenPartsUptoSaid : Prop := fnExactOpenPartsUptoRow.holds Try.pinned (OpenSpec.upto fnExactOpenPartsSpec)

/-- 'laws.FnExactHighestCell', WHERE WHAT IT READS IS OF BULK AT MOST 1048576: true; the input reads as it did. -/
def fnExactHighestCellUptoRow : OpenClaim := { program := "ytdphliobjafjaaa", sum := "40a440ff05c085c9be38252e11a07854df1ca7d237d336c89a03ee5d5588e3f0", func := "loop.example/g00938/laws.FnExactHighestCell", spec := "fnExactHighestCell", apart := false, narrowed := true }
def FnExactHighestCellUptoSaid : Prop := fnExactHighestCellUptoRow.holds Try.pinned (OpenSpec.upto fnExactHighestCellSpec)

/-- 'laws.FnExactMirrorMap', WHERE WHAT IT READS IS OF BULK AT MOST 1048576: true; the input reads as it did. -/
def fnExactMirrorMapUptoRow : OpenClaim := { program := "ytdphliobjafjaaa", sum := "40a440ff05c085c9be38252e11a07854df1ca7d237d336c89a03ee5d5588e3f0", func := "loop.example/g00938/laws.FnExactMirrorMap", spec := "fnExactMirrorMap", apart := false, narrowed := true }
def FnExactMirrorMapUptoSaid : Prop := fnExactMirrorMapUptoRow.holds Try.pinned (OpenSpec.upto fnExactMirrorMapSpec)

/-- 'laws.FnExactTurnMap', WHERE WHAT IT READS IS OF BULK AT MOST 1048576: true; the input reads as it did. -/
def fnExactTurnMapUptoRow : OpenClaim := { program := "ytdphliobjafjaaa", sum := "40a440ff05c085c9be38252e11a07854df1ca7d237d336c89a03ee5d5588e3f0", func := "loop.example/g00938/laws.FnExactTurnMap", spec := "fnExactTurnMap", apart := false, narrowed := true }
def FnExactTurnMapUptoSaid : Prop := fnExactTurnMapUptoRow.holds Try.pinned (OpenSpec.upto fnExactTurnMapSpec)

/-- 'laws.FnExactMapText', WHERE WHAT IT READS IS OF BULK AT MOST 1048576: true; the input reads as it did. -/
def fnExactMapTextUptoRow : OpenClaim := { program := "ytdphliobjafjaaa", sum := "40a440ff05c085c9be38252e11a07854df1ca7d237d336c89a03ee5d5588e3f0", func := "loop.example/g00938/laws.FnExactMapText", spec := "fnExactMapText", inPlace := ["internal/abi.NoEscape"], recurses := true, apart := false, narrowed := true }
def FnExactMapTextUptoSaid : Prop := fnExactMapTextUptoRow.holds Try.pinned (OpenSpec.upto fnExactMapTextSpec)

/-- 'laws.FnExactParseMap', WHERE WHAT IT READS IS OF BULK AT MOST 1048576: true; the input reads as it did. -/
def fnExactParseMapUptoRow : OpenClaim := { program := "ytdphliobjafjaaa", sum := "40a440ff05c085c9be38252e11a07854df1ca7d237d336c89a03ee5d5588e3f0", func := "loop.example/g00938/laws.FnExactParseMap", spec := "fnExactParseMap", inPlace := ["internal/bytealg.IndexByteString", "internal/abi.NoEscape"], recurses := true, apart := false, narrowed := true }
def FnExactParseMapUptoSaid : Prop := fnExactParseMapUptoRow.holds Try.pinned (OpenSpec.upto fnExactParseMapSpec)

end Rows
end Go.Proofs.Ytdphliobjafjaaa
