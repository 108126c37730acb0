/-
  No cell of these rows narrows 'for every input' (looked for: loops, veiled, ifaces, maps, wideKeys, modest, calm, conditions, laid).
  DERIVED. THE GIVEN ROWS OF THIS SEAT. 5 by the template 'for every input the law returns true; each argument reads behind the call as it read before'; 0 by the template 'total and deterministic' (their statements: YtjdmohadgonfdaaTotals.lean).
  GIVEN WITH THE SEED: the statements are not yours to turn. If you find one false, say at which input.
  Laid BY PROGRAM, IN A SANDBOX (cutbox-rows.mjs): the forced cells as the released guide's own fill.sh prints them over the translation f3d2b7275406b362… (all of the seat's roots in one cut). By AI agents, Wed Nov 11 2026. No macro, syntax, notation, axiom, sorry.
-/
import Derived.Test.YtjdmohadgonfdaaChecked
import GoSem.Claim
import GoSem.ClaimJoined
import GoSem.ClaimMapViews
import Derived.JoinedTies
import Derived.KernelRfl
namespace Go.Proofs.Ytjdmohadgonfdaa
/- THE CELL 'sum', in the pinned program and in every row, IS THE sha256 OF THE DUMP (.gsa) THAT YtjdmohadgonfdaaProg.lean LOADS. Nothing in Lean hashes anything: it is a label: what it is worth is what the hold of that sum in a sandbox is worth. -/
noncomputable def Try.pinned : Pinned := { name := "ytjdmohadgonfdaa", sum := "f3d2b7275406b362223cf5b878f1c8a6199ab67d11874999fc407d3d59971637", checked := Try.checked }
namespace Rows
def none {H : Type} : Left H := { results := [], args := [] }

/-- 'laws.FnBitmap': WHATEVER THE INPUT: true; the input reads as it did. -/
def fnBitmapSpec : ChangeSpec := { name := "fnBitmap", fn := fun _ => fun
  | [d] => { results := [.lit (.bool true)], args := [d] }
  | _ => none }
def fnBitmapRow : OpenClaim := { program := "ytjdmohadgonfdaa", sum := "f3d2b7275406b362223cf5b878f1c8a6199ab67d11874999fc407d3d59971637", func := "loop.example/g00781/laws.FnBitmap", spec := "fnBitmap", apart := false }
def FnBitmapSaid : Prop := fnBitmapRow.holds Try.pinned (OpenSpec.ofChange fnBitmapSpec)

/-- ITS FALSE NEIGHBOUR: 'it returns false'. Refute it at one input. -/
def fnBitmapWrong : ChangeSpec := { name := "fnBitmap", fn := fun _ => fun
  | [d] => { results := [.lit (.bool false)], args := [d] }
  | _ => none }
def FnBitmapWrongFalsely : Prop := fnBitmapRow.holds Try.pinned (OpenSpec.ofChange fnBitmapWrong)

/-- 'laws.FnExactMapOk': WHATEVER THE INPUT: true; the input reads as it did. -/
def fnExactMapOkSpec : ChangeSpec := { name := "fnExactMapOk", fn := fun _ => fun
  | [d] => { results := [.lit (.bool true)], args := [d] }
  | _ => none }
def fnExactMapOkRow : OpenClaim := { program := "ytjdmohadgonfdaa", sum := "f3d2b7275406b362223cf5b878f1c8a6199ab67d11874999fc407d3d59971637", func := "loop.example/g00781/laws.FnExactMapOk", spec := "fnExactMapOk", apart := false }
def FnExactMapOkSaid : Prop := fnExactMapOkRow.holds Try.pinned (OpenSpec.ofChange fnExactMapOkSpec)

/-- ITS FALSE NEIGHBOUR: 'it returns false'. Refute it at one input. -/
def fnExactMapOkWrong : ChangeSpec := { name := "fnExactMapOk", fn := fun _ => fun
  | [d] => { results := [.lit (.bool false)], args := [d] }
  | _ => none }
def FnExactMapOkWrongFalsely : Prop := fnExactMapOkRow.holds Try.pinned (OpenSpec.ofChange fnExactMapOkWrong)

/-- 'laws.FnExactMapTake': WHATEVER THE INPUT: true; the input reads as it did. -/
def fnExactMapTakeSpec : ChangeSpec := { name := "fnExactMapTake", fn := fun _ => fun
  | [d] => { results := [.lit (.bool true)], args := [d] }
  | _ => none }
def fnExactMapTakeRow : OpenClaim := { program := "ytjdmohadgonfdaa", sum := "f3d2b7275406b362223cf5b878f1c8a6199ab67d11874999fc407d3d59971637", func := "loop.example/g00781/laws.FnExactMapTake", spec := "fnExactMapTake", apart := false }
def FnExactMapTakeSaid : Prop := fnExactMapTakeRow.holds Try.pinned (OpenSpec.ofChange fnExactMapTakeSpec)

/-- ITS FALSE NEIGHBOUR: 'it returns false'. Refute it at one input. -/
def fnExactMapTakeWrong : ChangeSpec := { name := "fnExactMapTake", fn := fun _ => fun
  | [d] => { results := [.lit (.bool false)], args := [d] }
  | _ => none }
def FnExactMapTakeWrongFalsely : Prop := fnExactMapTakeRow.holds Try.pinned (OpenSpec.ofChange fnExactMapTakeWrong)

/-- 'laws.FnExactMapGive': WHATEVER THE INPUT: true; the input reads as it did. -/
def fnExactMapGiveSpec : ChangeSpec := { name := "fnExactMapGive", fn := fun _ => fun
  | [d1, d2] => { results := [.lit (.bool true)], args := [d1, d2] }
  | _ => none }
def fnExactMapGiveRow : OpenClaim := { program := "ytjdmohadgonfdaa", sum := "f3d2b7275406b362223cf5b878f1c8a6199ab67d11874999fc407d3d59971637", func := "loop.example/g00781/laws.FnExactMapGive", spec := "fnExactMapGive", apart := false }
def FnExactMapGiveSaid : Prop := fnExactMapGiveRow.holds Try.pinned (OpenSpec.ofChange fnExactMapGiveSpec)

/-- ITS FALSE NEIGHBOUR: 'it returns false'. Refute it at one input. -/
def fnExactMapGiveWrong : ChangeSpec := { name := "fnExactMapGive", fn := fun _ => fun
  | [d1, d2] => { results := [.lit (.bool false)], args := [d1, d2] }
  | _ => none }
def FnExactMapGiveWrongFalsely : Prop := fnExactMapGiveRow.holds Try.pinned (OpenSpec.ofChange fnExactMapGiveWrong)

/-- 'laws.FnExactMapFree': WHATEVER THE INPUT: true; the input reads as it did. -/
def fnExactMapFreeSpec : ChangeSpec := { name := "fnExactMapFree", fn := fun _ => fun
  | [d] => { results := [.lit (.bool true)], args := [d] }
  | _ => none }
def fnExactMapFreeRow : OpenClaim := { program := "ytjdmohadgonfdaa", sum := "f3d2b7275406b362223cf5b878f1c8a6199ab67d11874999fc407d3d59971637", func := "loop.example/g00781/laws.FnExactMapFree", spec := "fnExactMapFree", apart := false }
def FnExactMapFreeSaid : Prop := fnExactMapFreeRow.holds Try.pinned (OpenSpec.ofChange fnExactMapFreeSpec)

/-- ITS FALSE NEIGHBOUR: 'it returns false'. Refute it at one input. -/
def fnExactMapFreeWrong : ChangeSpec := { name := "fnExactMapFree", fn := fun _ => fun
  | [d] => { results := [.lit (.bool false)], args := [d] }
  | _ => none }
def FnExactMapFreeWrongFalsely : Prop := fnExactMapFreeRow.holds Try.pinned (OpenSpec.ofChange fnExactMapFreeWrong)

/- THE SECOND FORM. 'bulk': how many values and letters a reading holds, each counted each time it is reached (what is shared counts as often as it is met; a slice's spare places count too). A statement '..UptoSaid' is the law's where the arguments, and the package variables that the reading takes, are together of bulk at most 1048576: NARROWER than '..Said'. Prove '..Said' where nothing that the law and all that it calls make is longer than what came in: it says more and counts as full. Else prove '..UptoSaid'. A law counts once. -/
mutual
def uptoBulk {H : Type} : DataW H → Nat
  | .lit (.string bytes) => bytes.length + 1
  | .lit _ => 1
  | .nil => 1
  | .ptr d => uptoBulk d + 1
  | .slice elems spare => uptoBulkAll elems + uptoBulkAll spare + 1
  | .agg parts => uptoBulkAll parts + 1
  | .iface _ d => uptoBulk d + 1
  | .map entries => uptoBulkEntries entries + 1
  | .held _ => 1
def uptoBulkAll {H : Type} : List (DataW H) → Nat
  | [] => 0
  | d :: r => uptoBulk d + uptoBulkAll r
def uptoBulkEntries {H : Type} : List (Lit × DataW H) → Nat
  | [] => 0
  | x :: r => uptoBulkEntry x + uptoBulkEntries r
def uptoBulkEntry {H : Type} : Lit × DataW H → Nat
  | (.string bytes, d) => bytes.length + uptoBulk d + 1
  | (_, d) => uptoBulk d + 1
 end
def uptoSmall : (H : Type) → List (DataW H) → Bool := fun _ ds => decide (uptoBulkAll ds ≤ 1048576)
def OpenSpec.upto (s : _root_.Go.ChangeSpec) : _root_.Go.OpenSpec := { _root_.Go.OpenSpec.ofChange s with cond := some uptoSmall }

/-- 'laws.FnBitmap', WHERE WHAT IT READS IS OF BULK AT MOST 1048576: true; the input reads as it did. -/
def fnBitmapUptoRow : OpenClaim := { program := "ytjdmohadgonfdaa", sum := "f3d2b7275406b362223cf5b878f1c8a6199ab67d11874999fc407d3d59971637", func := "loop.example/g00781/laws.FnBitmap", spec := "fnBitmap", apart := false, narrowed := true }
def FnBitmapUptoSaid : Prop := fnBitmapUptoRow.holds Try.pinned (OpenSpec.upto fnBitmapSpec)

/-- 'laws.FnExactMapOk', WHERE WHAT IT READS IS OF BULK AT MOST 1048576: true; the input reads as it did. -/
def fnExactMapOkUptoRow : OpenClaim := { program := "ytjdmohadgonfdaa", sum := "f3d2b7275406b362223cf5b878f1c8a6199ab67d11874999fc407d3d59971637", func := "loop.example/g00781/laws.FnExactMapOk", spec := "fnExactMapOk", apart := false, narrowed := true }
def FnExactMapOkUptoSaid : Prop := fnExactMapOkUptoRow.holds Try.pinned (OpenSpec.upto fnExactMapOkSpec)

/-- 'laws.FnExactMapTake', WHERE WHAT IT READS IS OF BULK AT MOST 1048576: true; the input reads as it did. -/
def fnExactMapTakeUptoRow : OpenClaim := { program := "ytjdmohadgonfdaa", sum := "f3d2b7275406b362223cf5b878f1c8a6199ab67d11874999fc407d3d59971637", func := "loop.example/g00781/laws.FnExactMapTake", spec := "fnExactMapTake", apart := false, narrowed := true }
def FnExactMapTakeUptoSaid : Prop := fnExactMapTakeUptoRow.holds Try.pinned (OpenSpec.upto fnExactMapTakeSpec)

/-- 'laws.FnExactMapGive', WHERE WHAT IT READS IS OF BULK AT MOST 1048576: true; the input reads as it did. -/
def fnExactMapGiveUptoRow : OpenClaim := { program := "ytjdmohadgonfdaa", sum := "f3d2b7275406b362223cf5b878f1c8a6199ab67d11874999fc407d3d59971637", func := "loop.example/g00781/laws.FnExactMapGive", spec := "fnExactMapGive", apart := false, narrowed := true }
def FnExactMapGiveUptoSaid : Prop := fnExactMapGiveUptoRow.holds Try.pinned (OpenSpec.upto fnExactMapGiveSpec)

/-- 'laws.FnExactMapFree', WHERE WHAT IT READS IS OF BULK AT MOST 1048576: true; the input reads as it did. -/
def fnExactMapFreeUptoRow : OpenClaim := { program := "ytjdmohadgonfdaa", sum := "f3d2b7275406b362223cf5b878f1c8a6199ab67d11874999fc407d3d59971637", func := "loop.example/g00781/laws.FnExactMapFree", spec := "fnExactMapFree", apart := false, narrowed := true }
def FnExactMapFreeUptoSaid : Prop := fnExactMapFreeUptoRow.holds Try.pinned (OpenSpec.upto fnExactMapFreeSpec)

end Rows
end Go.Proofs.Ytjdmohadgonfdaa
