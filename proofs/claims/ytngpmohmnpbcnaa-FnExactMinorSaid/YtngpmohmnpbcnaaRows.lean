/-
  No cell of these rows narrows 'for every input' (looked for: loops, veiled, ifaces, maps, wideKeys, modest, calm, conditions, laid).
  DERIVED. THE GIVEN ROWS OF THIS SEAT. 5 by the template 'for every input the law returns true; each argument reads behind the call as it read before'; 0 by the template 'total and deterministic' (their statements: YtngpmohmnpbcnaaTotals.lean).
  GIVEN WITH THE SEED: the statements are not yours to turn. If you find one false, say at which input.
  Laid BY PROGRAM, IN A SANDBOX (cutbox-rows.mjs): the forced cells as the released guide's own fill.sh prints them over the translation 123f3fe40f03d498… (all of the seat's roots in one cut). By AI agents, Wed Nov 11 2026. No macro, syntax, notation, axiom, sorry.
-/
import Derived.Test.YtngpmohmnpbcnaaChecked
import GoSem.Claim
import GoSem.ClaimJoined
import GoSem.ClaimMapViews
import Derived.JoinedTies
import Derived.KernelRfl
namespace Go.Proofs.Ytngpmohmnpbcnaa
/- THE CELL 'sum', in the pinned program and in every row, IS THE sha256 OF THE DUMP (.gsa) THAT YtngpmohmnpbcnaaProg.lean LOADS. Nothing in Lean hashes anything: it is a label: what it is worth is what the hold of that sum in a sandbox is worth. -/
noncomputable def Try.pinned : Pinned := { name := "ytngpmohmnpbcnaa", sum := "123f3fe40f03d4985b5e37d73e8f8fae43d967b1cbfd012eb537616f9cce25b7", checked := Try.checked }
namespace Rows
def none {H : Type} : Left H := { results := [], args := [] }

/-- 'laws.FnExactYoungClosure': WHATEVER THE INPUT: true; the input reads as it did. -/
def fnExactYoungClosureSpec : ChangeSpec := { name := "fnExactYoungClosure", fn := fun _ => fun
  | [d1, d2, d3] => { results := [.lit (.bool true)], args := [d1, d2, d3] }
  | _ => none }
def fnExactYoungClosureRow : OpenClaim := { program := "ytngpmohmnpbcnaa", sum := "123f3fe40f03d4985b5e37d73e8f8fae43d967b1cbfd012eb537616f9cce25b7", func := "loop.example/g00648/laws.FnExactYoungClosure", spec := "fnExactYoungClosure", unfollowed := true, recurses := true, apart := false }
def FnExactYoungClosureSaid : Prop := fnExactYoungClosureRow.holds Try.pinned (OpenSpec.ofChange fnExactYoungClosureSpec)

/-- ITS FALSE NEIGHBOUR: 'it returns false'. Refute it at one input. -/
def fnExactYoungClosureWrong : ChangeSpec := { name := "fnExactYoungClosure", fn := fun _ => fun
  | [d1, d2, d3] => { results := [.lit (.bool false)], args := [d1, d2, d3] }
  | _ => none }
def FnExactYoungClosureWrongFalsely : Prop := fnExactYoungClosureRow.holds Try.pinned (OpenSpec.ofChange fnExactYoungClosureWrong)

/-- 'laws.FnExactMinor': WHATEVER THE INPUT: true; the input reads as it did. -/
def fnExactMinorSpec : ChangeSpec := { name := "fnExactMinor", fn := fun _ => fun
  | [d1, d2, d3] => { results := [.lit (.bool true)], args := [d1, d2, d3] }
  | _ => none }
def fnExactMinorRow : OpenClaim := { program := "ytngpmohmnpbcnaa", sum := "123f3fe40f03d4985b5e37d73e8f8fae43d967b1cbfd012eb537616f9cce25b7", func := "loop.example/g00648/laws.FnExactMinor", spec := "fnExactMinor", unfollowed := true, recurses := true, apart := false }
def FnExactMinorSaid : Prop := fnExactMinorRow.holds Try.pinned (OpenSpec.ofChange fnExactMinorSpec)

/-- ITS FALSE NEIGHBOUR: 'it returns false'. Refute it at one input. -/
def fnExactMinorWrong : ChangeSpec := { name := "fnExactMinor", fn := fun _ => fun
  | [d1, d2, d3] => { results := [.lit (.bool false)], args := [d1, d2, d3] }
  | _ => none }
def FnExactMinorWrongFalsely : Prop := fnExactMinorRow.holds Try.pinned (OpenSpec.ofChange fnExactMinorWrong)

/-- 'laws.FnMinor': WHATEVER THE INPUT: true; the input reads as it did. -/
def fnMinorSpec : ChangeSpec := { name := "fnMinor", fn := fun _ => fun
  | [d] => { results := [.lit (.bool true)], args := [d] }
  | _ => none }
def fnMinorRow : OpenClaim := { program := "ytngpmohmnpbcnaa", sum := "123f3fe40f03d4985b5e37d73e8f8fae43d967b1cbfd012eb537616f9cce25b7", func := "loop.example/g00648/laws.FnMinor", spec := "fnMinor", unfollowed := true, recurses := true, apart := false }
def FnMinorSaid : Prop := fnMinorRow.holds Try.pinned (OpenSpec.ofChange fnMinorSpec)

/-- ITS FALSE NEIGHBOUR: 'it returns false'. Refute it at one input. -/
def fnMinorWrong : ChangeSpec := { name := "fnMinor", fn := fun _ => fun
  | [d] => { results := [.lit (.bool false)], args := [d] }
  | _ => none }
def FnMinorWrongFalsely : Prop := fnMinorRow.holds Try.pinned (OpenSpec.ofChange fnMinorWrong)

/-- 'laws.FnMinorTwice': WHATEVER THE INPUT: true; the input reads as it did. -/
def fnMinorTwiceSpec : ChangeSpec := { name := "fnMinorTwice", fn := fun _ => fun
  | [d] => { results := [.lit (.bool true)], args := [d] }
  | _ => none }
def fnMinorTwiceRow : OpenClaim := { program := "ytngpmohmnpbcnaa", sum := "123f3fe40f03d4985b5e37d73e8f8fae43d967b1cbfd012eb537616f9cce25b7", func := "loop.example/g00648/laws.FnMinorTwice", spec := "fnMinorTwice", unfollowed := true, recurses := true, apart := false }
def FnMinorTwiceSaid : Prop := fnMinorTwiceRow.holds Try.pinned (OpenSpec.ofChange fnMinorTwiceSpec)

/-- ITS FALSE NEIGHBOUR: 'it returns false'. Refute it at one input. -/
def fnMinorTwiceWrong : ChangeSpec := { name := "fnMinorTwice", fn := fun _ => fun
  | [d] => { results := [.lit (.bool false)], args := [d] }
  | _ => none }
def FnMinorTwiceWrongFalsely : Prop := fnMinorTwiceRow.holds Try.pinned (OpenSpec.ofChange fnMinorTwiceWrong)

/-- 'laws.FnClosure': WHATEVER THE INPUT: true; the input reads as it did. -/
def fnClosureSpec : ChangeSpec := { name := "fnClosure", fn := fun _ => fun
  | [d] => { results := [.lit (.bool true)], args := [d] }
  | _ => none }
def fnClosureRow : OpenClaim := { program := "ytngpmohmnpbcnaa", sum := "123f3fe40f03d4985b5e37d73e8f8fae43d967b1cbfd012eb537616f9cce25b7", func := "loop.example/g00648/laws.FnClosure", spec := "fnClosure", unfollowed := true, recurses := true, apart := false }
def FnClosureSaid : Prop := fnClosureRow.holds Try.pinned (OpenSpec.ofChange fnClosureSpec)

/-- ITS FALSE NEIGHBOUR: 'it returns false'. Refute it at one input. -/
def fnClosureWrong : ChangeSpec := { name := "fnClosure", fn := fun _ => fun
  | [d] => { results := [.lit (.bool false)], args := [d] }
  | _ => none }
def FnClosureWrongFalsely : Prop := fnClosureRow.holds Try.pinned (OpenSpec.ofChange fnClosureWrong)

/- THE SECOND FORM. 'bulk': how many values and letters a reading holds, each counted each time it is reached (what is shared counts as often as it is met; a slice's spare places count too). A statement '..UptoSaid' is the law's where the arguments, and the package variables that the reading takes, are together of bulk at most 1048576: NARROWER than '..Said'. Prove '..Said' where nothing that the law and all that it calls make is longer than what came in: it says more and counts as full. Else prove '..UptoSaid'. A law counts once. -/
mutual
def uptoBulk {H : Type} : DataW H → Nat
  | .lit (.string bytes) => bytes.length + 1
  | .lit _ => 1
  | .nil => 1
  | .ptr d => uptoBulk d + 1
  | .slice elems spare => uptoBulkAll elems + uptoBulkAll spare + 1
  | .agg parts => uptoBulkAll parts + 1
  | .iface _ d => uptoBulk d + 1
  | .map entries => uptoBulkEntries entries + 1
  | .held _ => 1
def uptoBulkAll {H : Type} : List (DataW H) → Nat
  | [] => 0
  | d :: r => uptoBulk d + uptoBulkAll r
def uptoBulkEntries {H : Type} : List (Lit × DataW H) → Nat
  | [] => 0
  | x :: r => uptoBulkEntry x + uptoBulkEntries r
def uptoBulkEntry {H : Type} : Lit × DataW H → Nat
  | (.string bytes, d) => bytes.length + uptoBulk d + 1
  | (_, d) => uptoBulk d + 1
 end
def uptoSmall : (H : Type) → List (DataW H) → Bool := fun _ ds => decide (uptoBulkAll ds ≤ 1048576)
def OpenSpec.upto (s : _root_.Go.ChangeSpec) : _root_.Go.OpenSpec := { _root_.Go.OpenSpec.ofChange s with cond := some uptoSmall }

/-- 'laws.FnExactYoungClosure', WHERE WHAT IT READS IS OF BULK AT MOST 1048576: true; the input reads as it did. -/
def fnExactYoungClosureUptoRow : OpenClaim := { program := "ytngpmohmnpbcnaa", sum := "123f3fe40f03d4985b5e37d73e8f8fae43d967b1cbfd012eb537616f9cce25b7", func := "loop.example/g00648/laws.FnExactYoungClosure", spec := "fnExactYoungClosure", unfollowed := true, recurses := true, apart := false, narrowed := true }
def FnExactYoungClosureUptoSaid : Prop := fnExactYoungClosureUptoRow.holds Try.pinned (OpenSpec.upto fnExactYoungClosureSpec)

/-- 'laws.FnExactMinor', WHERE WHAT IT READS IS OF BULK AT MOST 1048576: true; the input reads as it did. -/
def fnExactMinorUptoRow : OpenClaim := { program := "ytngpmohmnpbcnaa", sum := "123f3fe40f03d4985b5e37d73e8f8fae43d967b1cbfd012eb537616f9cce25b7", func := "loop.example/g00648/laws.FnExactMinor", spec := "fnExactMinor", unfollowed := true, recurses := true, apart := false, narrowed := true }
def FnExactMinorUptoSaid : Prop := fnExactMinorUptoRow.holds Try.pinned (OpenSpec.upto fnExactMinorSpec)

/-- 'laws.FnMinor', WHERE WHAT IT READS IS OF BULK AT MOST 1048576: true; the input reads as it did. -/
def fnMinorUptoRow : OpenClaim := { program := "ytngpmohmnpbcnaa", sum := "123f3fe40f03d4985b5e37d73e8f8fae43d967b1cbfd012eb537616f9cce25b7", func := "loop.example/g00648/laws.FnMinor", spec := "fnMinor", unfollowed := true, recurses := true, apart := false, narrowed := true }
def FnMinorUptoSaid : Prop := fnMinorUptoRow.holds Try.pinned (OpenSpec.upto fnMinorSpec)

/-- 'laws.FnMinorTwice', WHERE WHAT IT READS IS OF BULK AT MOST 1048576: true; the input reads as it did. -/
def fnMinorTwiceUptoRow : OpenClaim := { program := "ytngpmohmnpbcnaa", sum := "123f3fe40f03d4985b5e37d73e8f8fae43d967b1cbfd012eb537616f9cce25b7", func := "loop.example/g00648/laws.FnMinorTwice", spec := "fnMinorTwice", unfollowed := true, recurses := true, apart := false, narrowed := true }
def FnMinorTwiceUptoSaid : Prop := fnMinorTwiceUptoRow.holds Try.pinned (OpenSpec.upto fnMinorTwiceSpec)

/-- 'laws.FnClosure', WHERE WHAT IT READS IS OF BULK AT MOST 1048576: true; the input reads as it did. -/
def fnClosureUptoRow : OpenClaim := { program := "ytngpmohmnpbcnaa", sum := "123f3fe40f03d4985b5e37d73e8f8fae43d967b1cbfd012eb537616f9cce25b7", func := "loop.example/g00648/laws.FnClosure", spec := "fnClosure", unfollowed := true, recurses := true, apart := false, narrowed := true }
def FnClosureUptoSaid : Prop := fnClosureUptoRow.holds Try.pinned (OpenSpec.upto fnClosureSpec)

end Rows
end Go.Proofs.Ytngpmohmnpbcnaa
