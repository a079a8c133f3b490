/-
  No cell of these rows narrows 'for every input' (looked for: loops, veiled, ifaces, maps, wideKeys, modest, calm, conditions, laid).
  DERIVED. THE GIVEN ROWS OF THIS SEAT. 7 by the template 'for every input the law returns true; each argument reads behind the call as it read before'; 0 by the template 'total and deterministic' (their statements: YtjngnjokbnklfaaTotals.lean).
  GIVEN WITH THE SEED: the statements are not yours to turn. If you find one false, say at which input.
  Laid BY PROGRAM, IN A SANDBOX (cutbox-rows.mjs): the forced cells as the released guide's own fill.sh prints them over the translation abb2f8a41c78e7b3… (all of the seat's roots in one cut). By AI agents, Wed Nov 11 2026. No macro, syntax, notation, axiom, sorry.
-/
import Derived.Test.YtjngnjokbnklfaaChecked
import GoSem.Claim
import GoSem.ClaimJoined
import GoSem.ClaimMapViews
import Derived.JoinedTies
import Derived.KernelRfl
namespace Go.Proofs.Ytjngnjokbnklfaa
/- THE CELL 'sum', in the pinned program and in every row, IS THE sha256 OF THE DUMP (.gsa) THAT YtjngnjokbnklfaaProg.lean LOADS. Nothing in Lean hashes anything: it is a label: what it is worth is what the hold of that sum in a sandbox is worth. -/
noncomputable def Try.pinned : Pinned := { name := "ytjngnjokbnklfaa", sum := "abb2f8a41c78e7b3d68206d310a59e35c7636593fb543823083ef6a1f7e780c2", checked := Try.checked }
namespace Rows
def none {H : Type} : Left H := { results := [], args := [] }

/-- 'laws.FnRoutes': WHATEVER THE INPUT: true; the input reads as it did. -/
def fnRoutesSpec : ChangeSpec := { name := "fnRoutes", fn := fun _ => fun
  | [d] => { results := [.lit (.bool true)], args := [d] }
  | _ => none }
def fnRoutesRow : OpenClaim := { program := "ytjngnjokbnklfaa", sum := "abb2f8a41c78e7b3d68206d310a59e35c7636593fb543823083ef6a1f7e780c2", func := "loop.example/g00938/laws.FnRoutes", spec := "fnRoutes", unfollowed := true, recurses := true, apart := false }
def FnRoutesSaid : Prop := fnRoutesRow.holds Try.pinned (OpenSpec.ofChange fnRoutesSpec)

/-- ITS FALSE NEIGHBOUR: 'it returns false'. Refute it at one input. -/
def fnRoutesWrong : ChangeSpec := { name := "fnRoutes", fn := fun _ => fun
  | [d] => { results := [.lit (.bool false)], args := [d] }
  | _ => none }
def FnRoutesWrongFalsely : Prop := fnRoutesRow.holds Try.pinned (OpenSpec.ofChange fnRoutesWrong)

/-- 'laws.FnDetours': WHATEVER THE INPUT: true; the input reads as it did. -/
def fnDetoursSpec : ChangeSpec := { name := "fnDetours", fn := fun _ => fun
  | [d] => { results := [.lit (.bool true)], args := [d] }
  | _ => none }
def fnDetoursRow : OpenClaim := { program := "ytjngnjokbnklfaa", sum := "abb2f8a41c78e7b3d68206d310a59e35c7636593fb543823083ef6a1f7e780c2", func := "loop.example/g00938/laws.FnDetours", spec := "fnDetours", unfollowed := true, recurses := true, apart := false }
def FnDetoursSaid : Prop := fnDetoursRow.holds Try.pinned (OpenSpec.ofChange fnDetoursSpec)

/-- ITS FALSE NEIGHBOUR: 'it returns false'. Refute it at one input. -/
def fnDetoursWrong : ChangeSpec := { name := "fnDetours", fn := fun _ => fun
  | [d] => { results := [.lit (.bool false)], args := [d] }
  | _ => none }
def FnDetoursWrongFalsely : Prop := fnDetoursRow.holds Try.pinned (OpenSpec.ofChange fnDetoursWrong)

/-- 'laws.FnClubs': WHATEVER THE INPUT: true; the input reads as it did. -/
def fnClubsSpec : ChangeSpec := { name := "fnClubs", fn := fun _ => fun
  | [d] => { results := [.lit (.bool true)], args := [d] }
  | _ => none }
def fnClubsRow : OpenClaim := { program := "ytjngnjokbnklfaa", sum := "abb2f8a41c78e7b3d68206d310a59e35c7636593fb543823083ef6a1f7e780c2", func := "loop.example/g00938/laws.FnClubs", spec := "fnClubs", inPlace := ["slices.overlaps[string]"], unfollowed := true, recurses := true, apart := false }
def FnClubsSaid : Prop := fnClubsRow.holds Try.pinned (OpenSpec.ofChange fnClubsSpec)

/-- ITS FALSE NEIGHBOUR: 'it returns false'. Refute it at one input. -/
def fnClubsWrong : ChangeSpec := { name := "fnClubs", fn := fun _ => fun
  | [d] => { results := [.lit (.bool false)], args := [d] }
  | _ => none }
def FnClubsWrongFalsely : Prop := fnClubsRow.holds Try.pinned (OpenSpec.ofChange fnClubsWrong)

/-- 'laws.FnExactAddRunner': WHATEVER THE INPUT: true; the input reads as it did. -/
def fnExactAddRunnerSpec : ChangeSpec := { name := "fnExactAddRunner", fn := fun _ => fun
  | [d1, d2] => { results := [.lit (.bool true)], args := [d1, d2] }
  | _ => none }
def fnExactAddRunnerRow : OpenClaim := { program := "ytjngnjokbnklfaa", sum := "abb2f8a41c78e7b3d68206d310a59e35c7636593fb543823083ef6a1f7e780c2", func := "loop.example/g00938/laws.FnExactAddRunner", spec := "fnExactAddRunner", inPlace := ["slices.overlaps[loop.example/g00938/impl.Runner]"], unfollowed := true, recurses := true, apart := false }
def FnExactAddRunnerSaid : Prop := fnExactAddRunnerRow.holds Try.pinned (OpenSpec.ofChange fnExactAddRunnerSpec)

/-- ITS FALSE NEIGHBOUR: 'it returns false'. Refute it at one input. -/
def fnExactAddRunnerWrong : ChangeSpec := { name := "fnExactAddRunner", fn := fun _ => fun
  | [d1, d2] => { results := [.lit (.bool false)], args := [d1, d2] }
  | _ => none }
def FnExactAddRunnerWrongFalsely : Prop := fnExactAddRunnerRow.holds Try.pinned (OpenSpec.ofChange fnExactAddRunnerWrong)

/-- 'laws.FnExactClubMembers': WHATEVER THE INPUT: true; the input reads as it did. -/
def fnExactClubMembersSpec : ChangeSpec := { name := "fnExactClubMembers", fn := fun _ => fun
  | [d1, d2] => { results := [.lit (.bool true)], args := [d1, d2] }
  | _ => none }
def fnExactClubMembersRow : OpenClaim := { program := "ytjngnjokbnklfaa", sum := "abb2f8a41c78e7b3d68206d310a59e35c7636593fb543823083ef6a1f7e780c2", func := "loop.example/g00938/laws.FnExactClubMembers", spec := "fnExactClubMembers", unfollowed := true, recurses := true, apart := false }
def FnExactClubMembersSaid : Prop := fnExactClubMembersRow.holds Try.pinned (OpenSpec.ofChange fnExactClubMembersSpec)

/-- ITS FALSE NEIGHBOUR: 'it returns false'. Refute it at one input. -/
def fnExactClubMembersWrong : ChangeSpec := { name := "fnExactClubMembers", fn := fun _ => fun
  | [d1, d2] => { results := [.lit (.bool false)], args := [d1, d2] }
  | _ => none }
def FnExactClubMembersWrongFalsely : Prop := fnExactClubMembersRow.holds Try.pinned (OpenSpec.ofChange fnExactClubMembersWrong)

/-- 'laws.FnExactClubsOf': WHATEVER THE INPUT: true; the input reads as it did. -/
def fnExactClubsOfSpec : ChangeSpec := { name := "fnExactClubsOf", fn := fun _ => fun
  | [d] => { results := [.lit (.bool true)], args := [d] }
  | _ => none }
def fnExactClubsOfRow : OpenClaim := { program := "ytjngnjokbnklfaa", sum := "abb2f8a41c78e7b3d68206d310a59e35c7636593fb543823083ef6a1f7e780c2", func := "loop.example/g00938/laws.FnExactClubsOf", spec := "fnExactClubsOf", inPlace := ["slices.overlaps[string]"], apart := false }
def FnExactClubsOfSaid : Prop := fnExactClubsOfRow.holds Try.pinned (OpenSpec.ofChange fnExactClubsOfSpec)

/-- ITS FALSE NEIGHBOUR: 'it returns false'. Refute it at one input. -/
def fnExactClubsOfWrong : ChangeSpec := { name := "fnExactClubsOf", fn := fun _ => fun
  | [d] => { results := [.lit (.bool false)], args := [d] }
  | _ => none }
def FnExactClubsOfWrongFalsely : Prop := fnExactClubsOfRow.holds Try.pinned (OpenSpec.ofChange fnExactClubsOfWrong)

/-- 'laws.FnExactBiggestClub': WHATEVER THE INPUT: true; the input reads as it did. -/
def fnExactBiggestClubSpec : ChangeSpec := { name := "fnExactBiggestClub", fn := fun _ => fun
  | [d] => { results := [.lit (.bool true)], args := [d] }
  | _ => none }
def fnExactBiggestClubRow : OpenClaim := { program := "ytjngnjokbnklfaa", sum := "abb2f8a41c78e7b3d68206d310a59e35c7636593fb543823083ef6a1f7e780c2", func := "loop.example/g00938/laws.FnExactBiggestClub", spec := "fnExactBiggestClub", inPlace := ["slices.overlaps[string]"], unfollowed := true, recurses := true, apart := false }
def FnExactBiggestClubSaid : Prop := fnExactBiggestClubRow.holds Try.pinned (OpenSpec.ofChange fnExactBiggestClubSpec)

/-- ITS FALSE NEIGHBOUR: 'it returns false'. Refute it at one input. -/
def fnExactBiggestClubWrong : ChangeSpec := { name := "fnExactBiggestClub", fn := fun _ => fun
  | [d] => { results := [.lit (.bool false)], args := [d] }
  | _ => none }
def FnExactBiggestClubWrongFalsely : Prop := fnExactBiggestClubRow.holds Try.pinned (OpenSpec.ofChange fnExactBiggestClubWrong)

/- THE SECOND FORM. 'bulk': how many values and letters a reading holds, each counted each time it is reached (what is shared counts as often as it is met; a slice's spare places count too). A statement '..UptoSaid' is the law's where the arguments, and the package variables that the reading takes, are together of bulk at most 1048576: NARROWER than '..Said'. Prove '..Said' where nothing that the law and all that it calls make is longer than what came in: it says more and counts as full. Else prove '..UptoSaid'. A law counts once. -/
mutual
def uptoBulk {H : Type} : DataW H → Nat
  | .lit (.string bytes) => bytes.length + 1
  | .lit _ => 1
  | .nil => 1
  | .ptr d => uptoBulk d + 1
  | .slice elems spare => uptoBulkAll elems + uptoBulkAll spare + 1
  | .agg parts => uptoBulkAll parts + 1
  | .iface _ d => uptoBulk d + 1
  | .map entries => uptoBulkEntries entries + 1
  | .held _ => 1
def uptoBulkAll {H : Type} : List (DataW H) → Nat
  | [] => 0
  | d :: r => uptoBulk d + uptoBulkAll r
def uptoBulkEntries {H : Type} : List (Lit × DataW H) → Nat
  | [] => 0
  | x :: r => uptoBulkEntry x + uptoBulkEntries r
def uptoBulkEntry {H : Type} : Lit × DataW H → Nat
  | (.string bytes, d) => bytes.length + uptoBulk d + 1
  | (_, d) => uptoBulk d + 1
 end
def uptoSmall : (H : Type) → List (DataW H) → Bool := fun _ ds => decide (uptoBulkAll ds ≤ 1048576)
def OpenSpec.upto (s : _root_.Go.ChangeSpec) : _root_.Go.OpenSpec := { _root_.Go.OpenSpec.ofChange s with cond := some uptoSmall }

/-- 'laws.FnRoutes', WHERE WHAT IT READS IS OF BULK AT MOST 1048576: true; the input reads as it did. -/
def fnRoutesUptoRow : OpenClaim := { program := "ytjngnjokbnklfaa", sum := "abb2f8a41c78e7b3d68206d310a59e35c7636593fb543823083ef6a1f7e780c2", func := "loop.example/g00938/laws.FnRoutes", spec := "fnRoutes", unfollowed := true, recurses := true, apart := false, narrowed := true }
def FnRoutesUptoSaid : Prop := fnRoutesUptoRow.holds Try.pinned (OpenSpec.upto fnRoutesSpec)

/-- 'laws.FnDetours', WHERE WHAT IT READS IS OF BULK AT MOST 1048576: true; the input reads as it did. -/
def fnDetoursUptoRow : OpenClaim := { program := "ytjngnjokbnklfaa", sum := "abb2f8a41c78e7b3d68206d310a59e35c7636593fb543823083ef6a1f7e780c2", func := "loop.example/g00938/laws.FnDetours", spec := "fnDetours", unfollowed := true, recurses := true, apart := false, narrowed := true }
def FnDetoursUptoSaid : Prop := fnDetoursUptoRow.holds Try.pinned (OpenSpec.upto fnDetoursSpec)

/-- 'laws.FnClubs', WHERE WHAT IT READS IS OF BULK AT MOST 1048576: true; the input reads as it did. -/
def fnClubsUptoRow : OpenClaim := { program := "ytjngnjokbnklfaa", sum := "abb2f8a41c78e7b3d68206d310a59e35c7636593fb543823083ef6a1f7e780c2", func := "loop.example/g00938/laws.FnClubs", spec := "fnClubs", inPlace := ["slices.overlaps[string]"], unfollowed := true, recurses := true, apart := false, narrowed := true }
def FnClubsUptoSaid : Prop := fnClubsUptoRow.holds Try.pinned (OpenSpec.upto fnClubsSpec)

/-- 'laws.FnExactAddRunner', WHERE WHAT IT READS IS OF BULK AT MOST 1048576: true; the input reads as it did. -/
def fnExactAddRunnerUptoRow : OpenClaim := { program := "ytjngnjokbnklfaa", sum := "abb2f8a41c78e7b3d68206d310a59e35c7636593fb543823083ef6a1f7e780c2", func := "loop.example/g00938/laws.FnExactAddRunner", spec := "fnExactAddRunner", inPlace := ["slices.overlaps[loop.example/g00938/impl.Runner]"], unfollowed := true, recurses := true, apart := false, narrowed := true }
def FnExactAddRunnerUptoSaid : Prop := fnExactAddRunnerUptoRow.holds Try.pinned (OpenSpec.upto fnExactAddRunnerSpec)

/-- 'laws.FnExactClubMembers', WHERE WHAT IT READS IS OF BULK AT MOST 1048576: true; the input reads as it did. -/
def fnExactClubMembersUptoRow : OpenClaim := { program := "ytjngnjokbnklfaa", sum := "abb2f8a41c78e7b3d68206d310a59e35c7636593fb543823083ef6a1f7e780c2", func := "loop.example/g00938/laws.FnExactClubMembers", spec := "fnExactClubMembers", unfollowed := true, recurses := true, apart := false, narrowed := true }
def FnExactClubMembersUptoSaid : Prop := fnExactClubMembersUptoRow.holds Try.pinned (OpenSpec.upto fnExactClubMembersSpec)

/-- 'laws.FnExactClubsOf', WHERE WHAT IT READS IS OF BULK AT MOST 1048576: true; the input reads as it did. -/
def fnExactClubsOfUptoRow : OpenClaim := { program := "ytjngnjokbnklfaa", sum := "abb2f8a41c78e7b3d68206d310a59e35c7636593fb543823083ef6a1f7e780c2", func := "loop.example/g00938/laws.FnExactClubsOf", spec := "fnExactClubsOf", inPlace := ["slices.overlaps[string]"], apart := false, narrowed := true }
def FnExactClubsOfUptoSaid : Prop := fnExactClubsOfUptoRow.holds Try.pinned (OpenSpec.upto fnExactClubsOfSpec)

/-- 'laws.FnExactBiggestClub', WHERE WHAT IT READS IS OF BULK AT MOST 1048576: true; the input reads as it did. -/
def fnExactBiggestClubUptoRow : OpenClaim := { program := "ytjngnjokbnklfaa", sum := "abb2f8a41c78e7b3d68206d310a59e35c7636593fb543823083ef6a1f7e780c2", func := "loop.example/g00938/laws.FnExactBiggestClub", spec := "fnExactBiggestClub", inPlace := ["slices.overlaps[string]"], unfollowed := true, recurses := true, apart := false, narrowed := true }
def FnExactBiggestClubUptoSaid : Prop := fnExactBiggestClubUptoRow.holds Try.pinned (OpenSpec.upto fnExactBiggestClubSpec)

end Rows
end Go.Proofs.Ytjngnjokbnklfaa
