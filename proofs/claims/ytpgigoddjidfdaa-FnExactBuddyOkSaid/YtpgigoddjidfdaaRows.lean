/-
  No cell of these rows narrows 'for every input' (looked for: loops, veiled, ifaces, maps, wideKeys, modest, calm, conditions, laid).
  DERIVED. THE GIVEN ROWS OF THIS SEAT. 6 by the template 'for every input the law returns true; each argument reads behind the call as it read before'; 0 by the template 'total and deterministic' (their statements: YtpgigoddjidfdaaTotals.lean).
  GIVEN WITH THE SEED: the statements are not yours to turn. If you find one false, say at which input.
  Laid BY PROGRAM, IN A SANDBOX (cutbox-rows.mjs): the forced cells as the released guide's own fill.sh prints them over the translation 2cda43851d488d52… (all of the seat's roots in one cut). By AI agents, Wed Nov 11 2026. No macro, syntax, notation, axiom, sorry.
-/
import Derived.Test.YtpgigoddjidfdaaChecked
import GoSem.Claim
import GoSem.ClaimJoined
import GoSem.ClaimMapViews
import Derived.JoinedTies
import Derived.KernelRfl
namespace Go.Proofs.Ytpgigoddjidfdaa
/- THE CELL 'sum', in the pinned program and in every row, IS THE sha256 OF THE DUMP (.gsa) THAT YtpgigoddjidfdaaProg.lean LOADS. Nothing in Lean hashes anything: it is a label: what it is worth is what the hold of that sum in a sandbox is worth. -/
noncomputable def Try.pinned : Pinned := { name := "ytpgigoddjidfdaa", sum := "2cda43851d488d521a7b377920265323035734aeca496e4052bb789706b6c991", checked := Try.checked }
namespace Rows
def none {H : Type} : Left H := { results := [], args := [] }

/-- 'laws.FnBuddies': WHATEVER THE INPUT: true; the input reads as it did. -/
def fnBuddiesSpec : ChangeSpec := { name := "fnBuddies", fn := fun _ => fun
  | [d] => { results := [.lit (.bool true)], args := [d] }
  | _ => none }
def fnBuddiesRow : OpenClaim := { program := "ytpgigoddjidfdaa", sum := "2cda43851d488d521a7b377920265323035734aeca496e4052bb789706b6c991", func := "loop.example/g00781/laws.FnBuddies", spec := "fnBuddies", inPlace := ["slices.overlaps[int]"], unfollowed := true, recurses := true, apart := false }
def FnBuddiesSaid : Prop := fnBuddiesRow.holds Try.pinned (OpenSpec.ofChange fnBuddiesSpec)

/-- ITS FALSE NEIGHBOUR: 'it returns false'. Refute it at one input. -/
def fnBuddiesWrong : ChangeSpec := { name := "fnBuddies", fn := fun _ => fun
  | [d] => { results := [.lit (.bool false)], args := [d] }
  | _ => none }
def FnBuddiesWrongFalsely : Prop := fnBuddiesRow.holds Try.pinned (OpenSpec.ofChange fnBuddiesWrong)

/-- 'laws.FnExactBuddyOk': WHATEVER THE INPUT: true; the input reads as it did. -/
def fnExactBuddyOkSpec : ChangeSpec := { name := "fnExactBuddyOk", fn := fun _ => fun
  | [d] => { results := [.lit (.bool true)], args := [d] }
  | _ => none }
def fnExactBuddyOkRow : OpenClaim := { program := "ytpgigoddjidfdaa", sum := "2cda43851d488d521a7b377920265323035734aeca496e4052bb789706b6c991", func := "loop.example/g00781/laws.FnExactBuddyOk", spec := "fnExactBuddyOk", unfollowed := true, recurses := true, apart := false }
def FnExactBuddyOkSaid : Prop := fnExactBuddyOkRow.holds Try.pinned (OpenSpec.ofChange fnExactBuddyOkSpec)

/-- ITS FALSE NEIGHBOUR: 'it returns false'. Refute it at one input. -/
def fnExactBuddyOkWrong : ChangeSpec := { name := "fnExactBuddyOk", fn := fun _ => fun
  | [d] => { results := [.lit (.bool false)], args := [d] }
  | _ => none }
def FnExactBuddyOkWrongFalsely : Prop := fnExactBuddyOkRow.holds Try.pinned (OpenSpec.ofChange fnExactBuddyOkWrong)

/-- 'laws.FnExactBuddyAll': WHATEVER THE INPUT: true; the input reads as it did. -/
def fnExactBuddyAllSpec : ChangeSpec := { name := "fnExactBuddyAll", fn := fun _ => fun
  | [] => { results := [.lit (.bool true)], args := [] }
  | _ => none }
def fnExactBuddyAllRow : OpenClaim := { program := "ytpgigoddjidfdaa", sum := "2cda43851d488d521a7b377920265323035734aeca496e4052bb789706b6c991", func := "loop.example/g00781/laws.FnExactBuddyAll", spec := "fnExactBuddyAll", apart := false }
def FnExactBuddyAllSaid : Prop := fnExactBuddyAllRow.holds Try.pinned (OpenSpec.ofChange fnExactBuddyAllSpec)

/-- ITS FALSE NEIGHBOUR: 'it returns false'. Refute it at one input. -/
def fnExactBuddyAllWrong : ChangeSpec := { name := "fnExactBuddyAll", fn := fun _ => fun
  | [] => { results := [.lit (.bool false)], args := [] }
  | _ => none }
def FnExactBuddyAllWrongFalsely : Prop := fnExactBuddyAllRow.holds Try.pinned (OpenSpec.ofChange fnExactBuddyAllWrong)

/-- 'laws.FnExactBuddyTake': WHATEVER THE INPUT: true; the input reads as it did. -/
def fnExactBuddyTakeSpec : ChangeSpec := { name := "fnExactBuddyTake", fn := fun _ => fun
  | [d] => { results := [.lit (.bool true)], args := [d] }
  | _ => none }
def fnExactBuddyTakeRow : OpenClaim := { program := "ytpgigoddjidfdaa", sum := "2cda43851d488d521a7b377920265323035734aeca496e4052bb789706b6c991", func := "loop.example/g00781/laws.FnExactBuddyTake", spec := "fnExactBuddyTake", inPlace := ["slices.overlaps[int]"], unfollowed := true, recurses := true, apart := false }
def FnExactBuddyTakeSaid : Prop := fnExactBuddyTakeRow.holds Try.pinned (OpenSpec.ofChange fnExactBuddyTakeSpec)

/-- ITS FALSE NEIGHBOUR: 'it returns false'. Refute it at one input. -/
def fnExactBuddyTakeWrong : ChangeSpec := { name := "fnExactBuddyTake", fn := fun _ => fun
  | [d] => { results := [.lit (.bool false)], args := [d] }
  | _ => none }
def FnExactBuddyTakeWrongFalsely : Prop := fnExactBuddyTakeRow.holds Try.pinned (OpenSpec.ofChange fnExactBuddyTakeWrong)

/-- 'laws.FnExactBuddyGive': WHATEVER THE INPUT: true; the input reads as it did. -/
def fnExactBuddyGiveSpec : ChangeSpec := { name := "fnExactBuddyGive", fn := fun _ => fun
  | [d1, d2] => { results := [.lit (.bool true)], args := [d1, d2] }
  | _ => none }
def fnExactBuddyGiveRow : OpenClaim := { program := "ytpgigoddjidfdaa", sum := "2cda43851d488d521a7b377920265323035734aeca496e4052bb789706b6c991", func := "loop.example/g00781/laws.FnExactBuddyGive", spec := "fnExactBuddyGive", inPlace := ["slices.overlaps[int]"], unfollowed := true, recurses := true, apart := false }
def FnExactBuddyGiveSaid : Prop := fnExactBuddyGiveRow.holds Try.pinned (OpenSpec.ofChange fnExactBuddyGiveSpec)

/-- ITS FALSE NEIGHBOUR: 'it returns false'. Refute it at one input. -/
def fnExactBuddyGiveWrong : ChangeSpec := { name := "fnExactBuddyGive", fn := fun _ => fun
  | [d1, d2] => { results := [.lit (.bool false)], args := [d1, d2] }
  | _ => none }
def FnExactBuddyGiveWrongFalsely : Prop := fnExactBuddyGiveRow.holds Try.pinned (OpenSpec.ofChange fnExactBuddyGiveWrong)

/-- 'laws.FnExactBuddyFree': WHATEVER THE INPUT: true; the input reads as it did. -/
def fnExactBuddyFreeSpec : ChangeSpec := { name := "fnExactBuddyFree", fn := fun _ => fun
  | [d] => { results := [.lit (.bool true)], args := [d] }
  | _ => none }
def fnExactBuddyFreeRow : OpenClaim := { program := "ytpgigoddjidfdaa", sum := "2cda43851d488d521a7b377920265323035734aeca496e4052bb789706b6c991", func := "loop.example/g00781/laws.FnExactBuddyFree", spec := "fnExactBuddyFree", unfollowed := true, recurses := true, apart := false }
def FnExactBuddyFreeSaid : Prop := fnExactBuddyFreeRow.holds Try.pinned (OpenSpec.ofChange fnExactBuddyFreeSpec)

/-- ITS FALSE NEIGHBOUR: 'it returns false'. Refute it at one input. -/
def fnExactBuddyFreeWrong : ChangeSpec := { name := "fnExactBuddyFree", fn := fun _ => fun
  | [d] => { results := [.lit (.bool false)], args := [d] }
  | _ => none }
def FnExactBuddyFreeWrongFalsely : Prop := fnExactBuddyFreeRow.holds Try.pinned (OpenSpec.ofChange fnExactBuddyFreeWrong)

/- THE SECOND FORM. 'bulk': how many values and letters a reading holds, each counted each time it is reached (what is shared counts as often as it is met; a slice's spare places count too). A statement '..UptoSaid' is the law's where the arguments, and the package variables that the reading takes, are together of bulk at most 1048576: NARROWER than '..Said'. Prove '..Said' where nothing that the law and all that it calls make is longer than what came in: it says more and counts as full. Else prove '..UptoSaid'. A law counts once. -/
mutual
def uptoBulk {H : Type} : DataW H → Nat
  | .lit (.string bytes) => bytes.length + 1
  | .lit _ => 1
  | .nil => 1
  | .ptr d => uptoBulk d + 1
  | .slice elems spare => uptoBulkAll elems + uptoBulkAll spare + 1
  | .agg parts => uptoBulkAll parts + 1
  | .iface _ d => uptoBulk d + 1
  | .map entries => uptoBulkEntries entries + 1
  | .held _ => 1
def uptoBulkAll {H : Type} : List (DataW H) → Nat
  | [] => 0
  | d :: r => uptoBulk d + uptoBulkAll r
def uptoBulkEntries {H : Type} : List (Lit × DataW H) → Nat
  | [] => 0
  | x :: r => uptoBulkEntry x + uptoBulkEntries r
def uptoBulkEntry {H : Type} : Lit × DataW H → Nat
  | (.string bytes, d) => bytes.length + uptoBulk d + 1
  | (_, d) => uptoBulk d + 1
 end
def uptoSmall : (H : Type) → List (DataW H) → Bool := fun _ ds => decide (uptoBulkAll ds ≤ 1048576)
def OpenSpec.upto (s : _root_.Go.ChangeSpec) : _root_.Go.OpenSpec := { _root_.Go.OpenSpec.ofChange s with cond := some uptoSmall }

/-- 'laws.FnBuddies', WHERE WHAT IT READS IS OF BULK AT MOST 1048576: true; the input reads as it did. -/
def fnBuddiesUptoRow : OpenClaim := { program := "ytpgigoddjidfdaa", sum := "2cda43851d488d521a7b377920265323035734aeca496e4052bb789706b6c991", func := "loop.example/g00781/laws.FnBuddies", spec := "fnBuddies", inPlace := ["slices.overlaps[int]"], unfollowed := true, recurses := true, apart := false, narrowed := true }
def FnBuddiesUptoSaid : Prop := fnBuddiesUptoRow.holds Try.pinned (OpenSpec.upto fnBuddiesSpec)

/-- 'laws.FnExactBuddyOk', WHERE WHAT IT READS IS OF BULK AT MOST 1048576: true; the input reads as it did. -/
def fnExactBuddyOkUptoRow : OpenClaim := { program := "ytpgigoddjidfdaa", sum := "2cda43851d488d521a7b377920265323035734aeca496e4052bb789706b6c991", func := "loop.example/g00781/laws.FnExactBuddyOk", spec := "fnExactBuddyOk", unfollowed := true, recurses := true, apart := false, narrowed := true }
def FnExactBuddyOkUptoSaid : Prop := fnExactBuddyOkUptoRow.holds Try.pinned (OpenSpec.upto fnExactBuddyOkSpec)

/-- 'laws.FnExactBuddyAll', WHERE WHAT IT READS IS OF BULK AT MOST 1048576: true; the input reads as it did. -/
def fnExactBuddyAllUptoRow : OpenClaim := { program := "ytpgigoddjidfdaa", sum := "2cda43851d488d521a7b377920265323035734aeca496e4052bb789706b6c991", func := "loop.example/g00781/laws.FnExactBuddyAll", spec := "fnExactBuddyAll", apart := false, narrowed := true }
def FnExactBuddyAllUptoSaid : Prop := fnExactBuddyAllUptoRow.holds Try.pinned (OpenSpec.upto fnExactBuddyAllSpec)

/-- 'laws.FnExactBuddyTake', WHERE WHAT IT READS IS OF BULK AT MOST 1048576: true; the input reads as it did. -/
def fnExactBuddyTakeUptoRow : OpenClaim := { program := "ytpgigoddjidfdaa", sum := "2cda43851d488d521a7b377920265323035734aeca496e4052bb789706b6c991", func := "loop.example/g00781/laws.FnExactBuddyTake", spec := "fnExactBuddyTake", inPlace := ["slices.overlaps[int]"], unfollowed := true, recurses := true, apart := false, narrowed := true }
def FnExactBuddyTakeUptoSaid : Prop := fnExactBuddyTakeUptoRow.holds Try.pinned (OpenSpec.upto fnExactBuddyTakeSpec)

/-- 'laws.FnExactBuddyGive', WHERE WHAT IT READS IS OF BULK AT MOST 1048576: true; the input reads as it did. -/
def fnExactBuddyGiveUptoRow : OpenClaim := { program := "ytpgigoddjidfdaa", sum := "2cda43851d488d521a7b377920265323035734aeca496e4052bb789706b6c991", func := "loop.example/g00781/laws.FnExactBuddyGive", spec := "fnExactBuddyGive", inPlace := ["slices.overlaps[int]"], unfollowed := true, recurses := true, apart := false, narrowed := true }
def FnExactBuddyGiveUptoSaid : Prop := fnExactBuddyGiveUptoRow.holds Try.pinned (OpenSpec.upto fnExactBuddyGiveSpec)

/-- 'laws.FnExactBuddyFree', WHERE WHAT IT READS IS OF BULK AT MOST 1048576: true; the input reads as it did. -/
def fnExactBuddyFreeUptoRow : OpenClaim := { program := "ytpgigoddjidfdaa", sum := "2cda43851d488d521a7b377920265323035734aeca496e4052bb789706b6c991", func := "loop.example/g00781/laws.FnExactBuddyFree", spec := "fnExactBuddyFree", unfollowed := true, recurses := true, apart := false, narrowed := true }
def FnExactBuddyFreeUptoSaid : Prop := fnExactBuddyFreeUptoRow.holds Try.pinned (OpenSpec.upto fnExactBuddyFreeSpec)

end Rows
end Go.Proofs.Ytpgigoddjidfdaa
