/-
  No cell of these rows narrows 'for every input' (looked for: loops, veiled, ifaces, maps, wideKeys, modest, calm, conditions, laid).
  DERIVED. THE GIVEN ROWS OF THIS SEAT. 11 by the template 'for every input the law returns true; each argument reads behind the call as it read before'; 0 by the template 'total and deterministic' (their statements: YtbcoacbablaagaaTotals.lean).
  GIVEN WITH THE SEED: the statements are not yours to turn. If you find one false, say at which input.
  Laid BY PROGRAM, IN A SANDBOX (cutbox-rows.mjs): the forced cells as the released guide's own fill.sh prints them over the translation 0966ce086f837c22… (all of the seat's roots in one cut). By AI agents, Wed Nov 11 2026. No macro, syntax, notation, axiom, sorry.
-/
import Derived.Test.YtbcoacbablaagaaChecked
import GoSem.Claim
import GoSem.ClaimJoined
import GoSem.ClaimMapViews
import Derived.JoinedTies
import Derived.KernelRfl
namespace Go.Proofs.Ytbcoacbablaagaa
/- THE CELL 'sum', in the pinned program and in every row, IS THE sha256 OF THE DUMP (.gsa) THAT YtbcoacbablaagaaProg.lean LOADS. Nothing in Lean hashes anything: it is a label: what it is worth is what the hold of that sum in a sandbox is worth. -/
noncomputable def Try.pinned : Pinned := { name := "ytbcoacbablaagaa", sum := "0966ce086f837c22b0ef5978746ccac41eea5076570848fec1f6a8ba83519b62", checked := Try.checked }
namespace Rows
def none {H : Type} : Left H := { results := [], args := [] }

/-- 'laws.FnRoutes': WHATEVER THE INPUT: true; the input reads as it did. -/
def fnRoutesSpec : ChangeSpec := { name := "fnRoutes", fn := fun _ => fun
  | [d] => { results := [.lit (.bool true)], args := [d] }
  | _ => none }
def fnRoutesRow : OpenClaim := { program := "ytbcoacbablaagaa", sum := "0966ce086f837c22b0ef5978746ccac41eea5076570848fec1f6a8ba83519b62", func := "loop.example/g00938/laws.FnRoutes", spec := "fnRoutes", unfollowed := true, recurses := true, apart := false }
def FnRoutesSaid : Prop := fnRoutesRow.holds Try.pinned (OpenSpec.ofChange fnRoutesSpec)

/-- ITS FALSE NEIGHBOUR: 'it returns false'. Refute it at one input. -/
def fnRoutesWrong : ChangeSpec := { name := "fnRoutes", fn := fun _ => fun
  | [d] => { results := [.lit (.bool false)], args := [d] }
  | _ => none }
def FnRoutesWrongFalsely : Prop := fnRoutesRow.holds Try.pinned (OpenSpec.ofChange fnRoutesWrong)

/-- 'laws.FnDetours': WHATEVER THE INPUT: true; the input reads as it did. -/
def fnDetoursSpec : ChangeSpec := { name := "fnDetours", fn := fun _ => fun
  | [d] => { results := [.lit (.bool true)], args := [d] }
  | _ => none }
def fnDetoursRow : OpenClaim := { program := "ytbcoacbablaagaa", sum := "0966ce086f837c22b0ef5978746ccac41eea5076570848fec1f6a8ba83519b62", func := "loop.example/g00938/laws.FnDetours", spec := "fnDetours", unfollowed := true, recurses := true, apart := false }
def FnDetoursSaid : Prop := fnDetoursRow.holds Try.pinned (OpenSpec.ofChange fnDetoursSpec)

/-- ITS FALSE NEIGHBOUR: 'it returns false'. Refute it at one input. -/
def fnDetoursWrong : ChangeSpec := { name := "fnDetours", fn := fun _ => fun
  | [d] => { results := [.lit (.bool false)], args := [d] }
  | _ => none }
def FnDetoursWrongFalsely : Prop := fnDetoursRow.holds Try.pinned (OpenSpec.ofChange fnDetoursWrong)

/-- 'laws.FnExactIsRoute': WHATEVER THE INPUT: true; the input reads as it did. -/
def fnExactIsRouteSpec : ChangeSpec := { name := "fnExactIsRoute", fn := fun _ => fun
  | [d1, d2] => { results := [.lit (.bool true)], args := [d1, d2] }
  | _ => none }
def fnExactIsRouteRow : OpenClaim := { program := "ytbcoacbablaagaa", sum := "0966ce086f837c22b0ef5978746ccac41eea5076570848fec1f6a8ba83519b62", func := "loop.example/g00938/laws.FnExactIsRoute", spec := "fnExactIsRoute", apart := false }
def FnExactIsRouteSaid : Prop := fnExactIsRouteRow.holds Try.pinned (OpenSpec.ofChange fnExactIsRouteSpec)

/-- ITS FALSE NEIGHBOUR: 'it returns false'. Refute it at one input. -/
def fnExactIsRouteWrong : ChangeSpec := { name := "fnExactIsRoute", fn := fun _ => fun
  | [d1, d2] => { results := [.lit (.bool false)], args := [d1, d2] }
  | _ => none }
def FnExactIsRouteWrongFalsely : Prop := fnExactIsRouteRow.holds Try.pinned (OpenSpec.ofChange fnExactIsRouteWrong)

/-- 'laws.FnExactRouteTime': WHATEVER THE INPUT: true; the input reads as it did. -/
def fnExactRouteTimeSpec : ChangeSpec := { name := "fnExactRouteTime", fn := fun _ => fun
  | [d1, d2] => { results := [.lit (.bool true)], args := [d1, d2] }
  | _ => none }
def fnExactRouteTimeRow : OpenClaim := { program := "ytbcoacbablaagaa", sum := "0966ce086f837c22b0ef5978746ccac41eea5076570848fec1f6a8ba83519b62", func := "loop.example/g00938/laws.FnExactRouteTime", spec := "fnExactRouteTime", unfollowed := true, recurses := true, apart := false }
def FnExactRouteTimeSaid : Prop := fnExactRouteTimeRow.holds Try.pinned (OpenSpec.ofChange fnExactRouteTimeSpec)

/-- ITS FALSE NEIGHBOUR: 'it returns false'. Refute it at one input. -/
def fnExactRouteTimeWrong : ChangeSpec := { name := "fnExactRouteTime", fn := fun _ => fun
  | [d1, d2] => { results := [.lit (.bool false)], args := [d1, d2] }
  | _ => none }
def FnExactRouteTimeWrongFalsely : Prop := fnExactRouteTimeRow.holds Try.pinned (OpenSpec.ofChange fnExactRouteTimeWrong)

/-- 'laws.FnExactRouteClimb': WHATEVER THE INPUT: true; the input reads as it did. -/
def fnExactRouteClimbSpec : ChangeSpec := { name := "fnExactRouteClimb", fn := fun _ => fun
  | [d1, d2] => { results := [.lit (.bool true)], args := [d1, d2] }
  | _ => none }
def fnExactRouteClimbRow : OpenClaim := { program := "ytbcoacbablaagaa", sum := "0966ce086f837c22b0ef5978746ccac41eea5076570848fec1f6a8ba83519b62", func := "loop.example/g00938/laws.FnExactRouteClimb", spec := "fnExactRouteClimb", unfollowed := true, recurses := true, apart := false }
def FnExactRouteClimbSaid : Prop := fnExactRouteClimbRow.holds Try.pinned (OpenSpec.ofChange fnExactRouteClimbSpec)

/-- ITS FALSE NEIGHBOUR: 'it returns false'. Refute it at one input. -/
def fnExactRouteClimbWrong : ChangeSpec := { name := "fnExactRouteClimb", fn := fun _ => fun
  | [d1, d2] => { results := [.lit (.bool false)], args := [d1, d2] }
  | _ => none }
def FnExactRouteClimbWrongFalsely : Prop := fnExactRouteClimbRow.holds Try.pinned (OpenSpec.ofChange fnExactRouteClimbWrong)

/-- 'laws.FnExactLeastTime': WHATEVER THE INPUT: true; the input reads as it did. -/
def fnExactLeastTimeSpec : ChangeSpec := { name := "fnExactLeastTime", fn := fun _ => fun
  | [d1, d2, d3] => { results := [.lit (.bool true)], args := [d1, d2, d3] }
  | _ => none }
def fnExactLeastTimeRow : OpenClaim := { program := "ytbcoacbablaagaa", sum := "0966ce086f837c22b0ef5978746ccac41eea5076570848fec1f6a8ba83519b62", func := "loop.example/g00938/laws.FnExactLeastTime", spec := "fnExactLeastTime", unfollowed := true, recurses := true, apart := false }
def FnExactLeastTimeSaid : Prop := fnExactLeastTimeRow.holds Try.pinned (OpenSpec.ofChange fnExactLeastTimeSpec)

/-- ITS FALSE NEIGHBOUR: 'it returns false'. Refute it at one input. -/
def fnExactLeastTimeWrong : ChangeSpec := { name := "fnExactLeastTime", fn := fun _ => fun
  | [d1, d2, d3] => { results := [.lit (.bool false)], args := [d1, d2, d3] }
  | _ => none }
def FnExactLeastTimeWrongFalsely : Prop := fnExactLeastTimeRow.holds Try.pinned (OpenSpec.ofChange fnExactLeastTimeWrong)

/-- 'laws.FnExactBestRoute': WHATEVER THE INPUT: true; the input reads as it did. -/
def fnExactBestRouteSpec : ChangeSpec := { name := "fnExactBestRoute", fn := fun _ => fun
  | [d1, d2, d3] => { results := [.lit (.bool true)], args := [d1, d2, d3] }
  | _ => none }
def fnExactBestRouteRow : OpenClaim := { program := "ytbcoacbablaagaa", sum := "0966ce086f837c22b0ef5978746ccac41eea5076570848fec1f6a8ba83519b62", func := "loop.example/g00938/laws.FnExactBestRoute", spec := "fnExactBestRoute", unfollowed := true, recurses := true, apart := false }
def FnExactBestRouteSaid : Prop := fnExactBestRouteRow.holds Try.pinned (OpenSpec.ofChange fnExactBestRouteSpec)

/-- ITS FALSE NEIGHBOUR: 'it returns false'. Refute it at one input. -/
def fnExactBestRouteWrong : ChangeSpec := { name := "fnExactBestRoute", fn := fun _ => fun
  | [d1, d2, d3] => { results := [.lit (.bool false)], args := [d1, d2, d3] }
  | _ => none }
def FnExactBestRouteWrongFalsely : Prop := fnExactBestRouteRow.holds Try.pinned (OpenSpec.ofChange fnExactBestRouteWrong)

/-- 'laws.FnExactCellsWithin': WHATEVER THE INPUT: true; the input reads as it did. -/
def fnExactCellsWithinSpec : ChangeSpec := { name := "fnExactCellsWithin", fn := fun _ => fun
  | [d1, d2, d3] => { results := [.lit (.bool true)], args := [d1, d2, d3] }
  | _ => none }
def fnExactCellsWithinRow : OpenClaim := { program := "ytbcoacbablaagaa", sum := "0966ce086f837c22b0ef5978746ccac41eea5076570848fec1f6a8ba83519b62", func := "loop.example/g00938/laws.FnExactCellsWithin", spec := "fnExactCellsWithin", unfollowed := true, recurses := true, apart := false }
def FnExactCellsWithinSaid : Prop := fnExactCellsWithinRow.holds Try.pinned (OpenSpec.ofChange fnExactCellsWithinSpec)

/-- ITS FALSE NEIGHBOUR: 'it returns false'. Refute it at one input. -/
def fnExactCellsWithinWrong : ChangeSpec := { name := "fnExactCellsWithin", fn := fun _ => fun
  | [d1, d2, d3] => { results := [.lit (.bool false)], args := [d1, d2, d3] }
  | _ => none }
def FnExactCellsWithinWrongFalsely : Prop := fnExactCellsWithinRow.holds Try.pinned (OpenSpec.ofChange fnExactCellsWithinWrong)

/-- 'laws.FnExactDetourTime': WHATEVER THE INPUT: true; the input reads as it did. -/
def fnExactDetourTimeSpec : ChangeSpec := { name := "fnExactDetourTime", fn := fun _ => fun
  | [d1, d2, d3, d4] => { results := [.lit (.bool true)], args := [d1, d2, d3, d4] }
  | _ => none }
def fnExactDetourTimeRow : OpenClaim := { program := "ytbcoacbablaagaa", sum := "0966ce086f837c22b0ef5978746ccac41eea5076570848fec1f6a8ba83519b62", func := "loop.example/g00938/laws.FnExactDetourTime", spec := "fnExactDetourTime", unfollowed := true, recurses := true, apart := false }
def FnExactDetourTimeSaid : Prop := fnExactDetourTimeRow.holds Try.pinned (OpenSpec.ofChange fnExactDetourTimeSpec)

/-- ITS FALSE NEIGHBOUR: 'it returns false'. Refute it at one input. -/
def fnExactDetourTimeWrong : ChangeSpec := { name := "fnExactDetourTime", fn := fun _ => fun
  | [d1, d2, d3, d4] => { results := [.lit (.bool false)], args := [d1, d2, d3, d4] }
  | _ => none }
def FnExactDetourTimeWrongFalsely : Prop := fnExactDetourTimeRow.holds Try.pinned (OpenSpec.ofChange fnExactDetourTimeWrong)

/-- 'laws.FnExactCrossedBy': WHATEVER THE INPUT: true; the input reads as it did. -/
def fnExactCrossedBySpec : ChangeSpec := { name := "fnExactCrossedBy", fn := fun _ => fun
  | [d1, d2, d3, d4] => { results := [.lit (.bool true)], args := [d1, d2, d3, d4] }
  | _ => none }
def fnExactCrossedByRow : OpenClaim := { program := "ytbcoacbablaagaa", sum := "0966ce086f837c22b0ef5978746ccac41eea5076570848fec1f6a8ba83519b62", func := "loop.example/g00938/laws.FnExactCrossedBy", spec := "fnExactCrossedBy", unfollowed := true, recurses := true, apart := false }
def FnExactCrossedBySaid : Prop := fnExactCrossedByRow.holds Try.pinned (OpenSpec.ofChange fnExactCrossedBySpec)

/-- ITS FALSE NEIGHBOUR: 'it returns false'. Refute it at one input. -/
def fnExactCrossedByWrong : ChangeSpec := { name := "fnExactCrossedBy", fn := fun _ => fun
  | [d1, d2, d3, d4] => { results := [.lit (.bool false)], args := [d1, d2, d3, d4] }
  | _ => none }
def FnExactCrossedByWrongFalsely : Prop := fnExactCrossedByRow.holds Try.pinned (OpenSpec.ofChange fnExactCrossedByWrong)

/-- 'laws.FnExactFarthestCell': WHATEVER THE INPUT: true; the input reads as it did. -/
def fnExactFarthestCellSpec : ChangeSpec := { name := "fnExactFarthestCell", fn := fun _ => fun
  | [d1, d2] => { results := [.lit (.bool true)], args := [d1, d2] }
  | _ => none }
def fnExactFarthestCellRow : OpenClaim := { program := "ytbcoacbablaagaa", sum := "0966ce086f837c22b0ef5978746ccac41eea5076570848fec1f6a8ba83519b62", func := "loop.example/g00938/laws.FnExactFarthestCell", spec := "fnExactFarthestCell", unfollowed := true, recurses := true, apart := false }
def FnExactFarthestCellSaid : Prop := fnExactFarthestCellRow.holds Try.pinned (OpenSpec.ofChange fnExactFarthestCellSpec)

/-- ITS FALSE NEIGHBOUR: 'it returns false'. Refute it at one input. -/
def fnExactFarthestCellWrong : ChangeSpec := { name := "fnExactFarthestCell", fn := fun _ => fun
  | [d1, d2] => { results := [.lit (.bool false)], args := [d1, d2] }
  | _ => none }
def FnExactFarthestCellWrongFalsely : Prop := fnExactFarthestCellRow.holds Try.pinned (OpenSpec.ofChange fnExactFarthestCellWrong)

/- THE SECOND FORM. 'bulk': how many values and letters a reading holds, each counted each time it is reached (what is shared counts as often as it is met; a slice's spare places count too). A statement '..UptoSaid' is the law's where the arguments, and the package variables that the reading takes, are together of bulk at most 1048576: NARROWER than '..Said'. Prove '..Said' where nothing that the law and all that it calls make is longer than what came in: it says more and counts as full. Else prove '..UptoSaid'. A law counts once. -/
mutual
def uptoBulk {H : Type} : DataW H → Nat
  | .lit (.string bytes) => bytes.length + 1
  | .lit _ => 1
  | .nil => 1
  | .ptr d => uptoBulk d + 1
  | .slice elems spare => uptoBulkAll elems + uptoBulkAll spare + 1
  | .agg parts => uptoBulkAll parts + 1
  | .iface _ d => uptoBulk d + 1
  | .map entries => uptoBulkEntries entries + 1
  | .held _ => 1
def uptoBulkAll {H : Type} : List (DataW H) → Nat
  | [] => 0
  | d :: r => uptoBulk d + uptoBulkAll r
def uptoBulkEntries {H : Type} : List (Lit × DataW H) → Nat
  | [] => 0
  | x :: r => uptoBulkEntry x + uptoBulkEntries r
def uptoBulkEntry {H : Type} : Lit × DataW H → Nat
  | (.string bytes, d) => bytes.length + uptoBulk d + 1
  | (_, d) => uptoBulk d + 1
 end
def uptoSmall : (H : Type) → List (DataW H) → Bool := fun _ ds => decide (uptoBulkAll ds ≤ 1048576)
def OpenSpec.upto (s : _root_.Go.ChangeSpec) : _root_.Go.OpenSpec := { _root_.Go.OpenSpec.ofChange s with cond := some uptoSmall }

/-- 'laws.FnRoutes', WHERE WHAT IT READS IS OF BULK AT MOST 1048576: true; the input reads as it did. -/
def fnRoutesUptoRow : OpenClaim := { program := "ytbcoacbablaagaa", sum := "0966ce086f837c22b0ef5978746ccac41eea5076570848fec1f6a8ba83519b62", func := "loop.example/g00938/laws.FnRoutes", spec := "fnRoutes", unfollowed := true, recurses := true, apart := false, narrowed := true }
def FnRoutesUptoSaid : Prop := fnRoutesUptoRow.holds Try.pinned (OpenSpec.upto fnRoutesSpec)

/-- 'laws.FnDetours', WHERE WHAT IT READS IS OF BULK AT MOST 1048576: true; the input reads as it did. -/
def fnDetoursUptoRow : OpenClaim := { program := "ytbcoacbablaagaa", sum := "0966ce086f837c22b0ef5978746ccac41eea5076570848fec1f6a8ba83519b62", func := "loop.example/g00938/laws.FnDetours", spec := "fnDetours", unfollowed := true, recurses := true, apart := false, narrowed := true }
def FnDetoursUptoSaid : Prop := fnDetoursUptoRow.holds Try.pinned (OpenSpec.upto fnDetoursSpec)

/-- 'laws.FnExactIsRoute', WHERE WHAT IT READS IS OF BULK AT MOST 1048576: true; the input reads as it did. -/
def fnExactIsRouteUptoRow : OpenClaim := { program := "ytbcoacbablaagaa", sum := "0966ce086f837c22b0ef5978746ccac41eea5076570848fec1f6a8ba83519b62", func := "loop.example/g00938/laws.FnExactIsRoute", spec := "fnExactIsRoute", apart := false, narrowed := true }
def FnExactIsRouteUptoSaid : Prop := fnExactIsRouteUptoRow.holds Try.pinned (OpenSpec.upto fnExactIsRouteSpec)

/-- 'laws.FnExactRouteTime', WHERE WHAT IT READS IS OF BULK AT MOST 1048576: true; the input reads as it did. -/
def fnExactRouteTimeUptoRow : OpenClaim := { program := "ytbcoacbablaagaa", sum := "0966ce086f837c22b0ef5978746ccac41eea5076570848fec1f6a8ba83519b62", func := "loop.example/g00938/laws.FnExactRouteTime", spec := "fnExactRouteTime", unfollowed := true, recurses := true, apart := false, narrowed := true }
def FnExactRouteTimeUptoSaid : Prop := fnExactRouteTimeUptoRow.holds Try.pinned (OpenSpec.upto fnExactRouteTimeSpec)

/-- 'laws.FnExactRouteClimb', WHERE WHAT IT READS IS OF BULK AT MOST 1048576: true; the input reads as it did. -/
def fnExactRouteClimbUptoRow : OpenClaim := { program := "ytbcoacbablaagaa", sum := "0966ce086f837c22b0ef5978746ccac41eea5076570848fec1f6a8ba83519b62", func := "loop.example/g00938/laws.FnExactRouteClimb", spec := "fnExactRouteClimb", unfollowed := true, recurses := true, apart := false, narrowed := true }
def FnExactRouteClimbUptoSaid : Prop := fnExactRouteClimbUptoRow.holds Try.pinned (OpenSpec.upto fnExactRouteClimbSpec)

/-- 'laws.FnExactLeastTime', WHERE WHAT IT READS IS OF BULK AT MOST 1048576: true; the input reads as it did. -/
def fnExactLeastTimeUptoRow : OpenClaim := { program := "ytbcoacbablaagaa", sum := "0966ce086f837c22b0ef5978746ccac41eea5076570848fec1f6a8ba83519b62", func := "loop.example/g00938/laws.FnExactLeastTime", spec := "fnExactLeastTime", unfollowed := true, recurses := true, apart := false, narrowed := true }
def FnExactLeastTimeUptoSaid : Prop := fnExactLeastTimeUptoRow.holds Try.pinned (OpenSpec.upto fnExactLeastTimeSpec)

/-- 'laws.FnExactBestRoute', WHERE WHAT IT READS IS OF BULK AT MOST 1048576: true; the input reads as it did. -/
def fnExactBestRouteUptoRow : OpenClaim := { program := "ytbcoacbablaagaa", sum := "0966ce086f837c22b0ef5978746ccac41eea5076570848fec1f6a8ba83519b62", func := "loop.example/g00938/laws.FnExactBestRoute", spec := "fnExactBestRoute", unfollowed := true, recurses := true, apart := false, narrowed := true }
def FnExactBestRouteUptoSaid : Prop := fnExactBestRouteUptoRow.holds Try.pinned (OpenSpec.upto fnExactBestRouteSpec)

/-- 'laws.FnExactCellsWithin', WHERE WHAT IT READS IS OF BULK AT MOST 1048576: true; the input reads as it did. -/
def fnExactCellsWithinUptoRow : OpenClaim := { program := "ytbcoacbablaagaa", sum := "0966ce086f837c22b0ef5978746ccac41eea5076570848fec1f6a8ba83519b62", func := "loop.example/g00938/laws.FnExactCellsWithin", spec := "fnExactCellsWithin", unfollowed := true, recurses := true, apart := false, narrowed := true }
def FnExactCellsWithinUptoSaid : Prop := fnExactCellsWithinUptoRow.holds Try.pinned (OpenSpec.upto fnExactCellsWithinSpec)

/-- 'laws.FnExactDetourTime', WHERE WHAT IT READS IS OF BULK AT MOST 1048576: true; the input reads as it did. -/
def fnExactDetourTimeUptoRow : OpenClaim := { program := "ytbcoacbablaagaa", sum := "0966ce086f837c22b0ef5978746ccac41eea5076570848fec1f6a8ba83519b62", func := "loop.example/g00938/laws.FnExactDetourTime", spec := "fnExactDetourTime", unfollowed := true, recurses := true, apart := false, narrowed := true }
def FnExactDetourTimeUptoSaid : Prop := fnExactDetourTimeUptoRow.holds Try.pinned (OpenSpec.upto fnExactDetourTimeSpec)

/-- 'laws.FnExactCrossedBy', WHERE WHAT IT READS IS OF BULK AT MOST 1048576: true; the input reads as it did. -/
def fnExactCrossedByUptoRow : OpenClaim := { program := "ytbcoacbablaagaa", sum := "0966ce086f837c22b0ef5978746ccac41eea5076570848fec1f6a8ba83519b62", func := "loop.example/g00938/laws.FnExactCrossedBy", spec := "fnExactCrossedBy", unfollowed := true, recurses := true, apart := false, narrowed := true }
def FnExactCrossedByUptoSaid : Prop := fnExactCrossedByUptoRow.holds Try.pinned (OpenSpec.upto fnExactCrossedBySpec)

/-- 'laws.FnExactFarthestCell', WHERE WHAT IT READS IS OF BULK AT MOST 1048576: true; the input reads as it did. -/
def fnExactFarthestCellUptoRow : OpenClaim := { program := "ytbcoacbablaagaa", sum := "0966ce086f837c22b0ef5978746ccac41eea5076570848fec1f6a8ba83519b62", func := "loop.example/g00938/laws.FnExactFarthestCell", spec := "fnExactFarthestCell", unfollowed := true, recurses := true, apart := false, narrowed := true }
def FnExactFarthestCellUptoSaid : Prop := fnExactFarthestCellUptoRow.holds Try.pinned (OpenSpec.upto fnExactFarthestCellSpec)

end Rows
end Go.Proofs.Ytbcoacbablaagaa
