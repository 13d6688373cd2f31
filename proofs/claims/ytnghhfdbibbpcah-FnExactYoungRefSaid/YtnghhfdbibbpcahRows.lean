/-
  No cell of these rows narrows 'for every input' (looked for: loops, veiled, ifaces, maps, wideKeys, modest, calm, conditions, laid).
  DERIVED. THE GIVEN ROWS OF THIS SEAT. 3 by the template 'for every input the law returns true; each argument reads behind the call as it read before'; 0 by the template 'total and deterministic' (their statements: YtnghhfdbibbpcahTotals.lean).
  GIVEN WITH THE SEED: the statements are not yours to turn. If you find one false, say at which input.
  Laid BY PROGRAM, IN A SANDBOX (cutbox-rows.mjs): the forced cells as the released guide's own fill.sh prints them over the translation 910f31362b7b4d7a… (all of the seat's roots in one cut). By AI agents, Wed Nov 11 2026. No macro, syntax, notation, axiom, sorry.
-/
import Derived.Test.YtnghhfdbibbpcahChecked
import GoSem.Claim
import GoSem.ClaimJoined
import GoSem.ClaimMapViews
import Derived.JoinedTies
import Derived.KernelRfl
namespace Go.Proofs.Ytnghhfdbibbpcah
/- THE CELL 'sum', in the pinned program and in every row, IS THE sha256 OF THE DUMP (.gsa) THAT YtnghhfdbibbpcahProg.lean LOADS. Nothing in Lean hashes anything: it is a label: what it is worth is what the hold of that sum in a sandbox is worth. -/
noncomputable def Try.pinned : Pinned := { name := "ytnghhfdbibbpcah", sum := "910f31362b7b4d7a6f3a81bb01776b4739d396167aad33197a0c50a1268a2cca", checked := Try.checked }
namespace Rows
def none {H : Type} : Left H := { results := [], args := [] }

/-- 'laws.FnExactOldRef': WHATEVER THE INPUT: true; the input reads as it did. -/
def fnExactOldRefSpec : ChangeSpec := { name := "fnExactOldRef", fn := fun _ => fun
  | [d] => { results := [.lit (.bool true)], args := [d] }
  | _ => none }
def fnExactOldRefRow : OpenClaim := { program := "ytnghhfdbibbpcah", sum := "910f31362b7b4d7a6f3a81bb01776b4739d396167aad33197a0c50a1268a2cca", func := "loop.example/g00648/laws.FnExactOldRef", spec := "fnExactOldRef", unfollowed := true, recurses := true, apart := false }
def FnExactOldRefSaid : Prop := fnExactOldRefRow.holds Try.pinned (OpenSpec.ofChange fnExactOldRefSpec)

/-- ITS FALSE NEIGHBOUR: 'it returns false'. Refute it at one input. -/
def fnExactOldRefWrong : ChangeSpec := { name := "fnExactOldRef", fn := fun _ => fun
  | [d] => { results := [.lit (.bool false)], args := [d] }
  | _ => none }
def FnExactOldRefWrongFalsely : Prop := fnExactOldRefRow.holds Try.pinned (OpenSpec.ofChange fnExactOldRefWrong)

/-- 'laws.FnExactYoungRef': WHATEVER THE INPUT: true; the input reads as it did. -/
def fnExactYoungRefSpec : ChangeSpec := { name := "fnExactYoungRef", fn := fun _ => fun
  | [d] => { results := [.lit (.bool true)], args := [d] }
  | _ => none }
def fnExactYoungRefRow : OpenClaim := { program := "ytnghhfdbibbpcah", sum := "910f31362b7b4d7a6f3a81bb01776b4739d396167aad33197a0c50a1268a2cca", func := "loop.example/g00648/laws.FnExactYoungRef", spec := "fnExactYoungRef", unfollowed := true, recurses := true, apart := false }
def FnExactYoungRefSaid : Prop := fnExactYoungRefRow.holds Try.pinned (OpenSpec.ofChange fnExactYoungRefSpec)

/-- ITS FALSE NEIGHBOUR: 'it returns false'. Refute it at one input. -/
def fnExactYoungRefWrong : ChangeSpec := { name := "fnExactYoungRef", fn := fun _ => fun
  | [d] => { results := [.lit (.bool false)], args := [d] }
  | _ => none }
def FnExactYoungRefWrongFalsely : Prop := fnExactYoungRefRow.holds Try.pinned (OpenSpec.ofChange fnExactYoungRefWrong)

/-- 'laws.FnExactRefKind': WHATEVER THE INPUT: true; the input reads as it did. -/
def fnExactRefKindSpec : ChangeSpec := { name := "fnExactRefKind", fn := fun _ => fun
  | [d] => { results := [.lit (.bool true)], args := [d] }
  | _ => none }
def fnExactRefKindRow : OpenClaim := { program := "ytnghhfdbibbpcah", sum := "910f31362b7b4d7a6f3a81bb01776b4739d396167aad33197a0c50a1268a2cca", func := "loop.example/g00648/laws.FnExactRefKind", spec := "fnExactRefKind", apart := false }
def FnExactRefKindSaid : Prop := fnExactRefKindRow.holds Try.pinned (OpenSpec.ofChange fnExactRefKindSpec)

/-- ITS FALSE NEIGHBOUR: 'it returns false'. Refute it at one input. -/
def fnExactRefKindWrong : ChangeSpec := { name := "fnExactRefKind", fn := fun _ => fun
  | [d] => { results := [.lit (.bool false)], args := [d] }
  | _ => none }
def FnExactRefKindWrongFalsely : Prop := fnExactRefKindRow.holds Try.pinned (OpenSpec.ofChange fnExactRefKindWrong)

/- THE SECOND FORM. 'bulk': how many values and letters a reading holds, each counted each time it is reached (what is shared counts as often as it is met; a slice's spare places count too). A statement '..UptoSaid' is the law's where the arguments, and the package variables that the reading takes, are together of bulk at most 1048576: NARROWER than '..Said'. Prove '..Said' where nothing that the law and all that it calls make is longer than what came in: it says more and counts as full. Else prove '..UptoSaid'. A law counts once. -/
mutual
def uptoBulk {H : Type} : DataW H → Nat
  | .lit (.string bytes) => bytes.length + 1
  | .lit _ => 1
  | .nil => 1
  | .ptr d => uptoBulk d + 1
  | .slice elems spare => uptoBulkAll elems + uptoBulkAll spare + 1
  | .agg parts => uptoBulkAll parts + 1
  | .iface _ d => uptoBulk d + 1
  | .map entries => uptoBulkEntries entries + 1
  | .held _ => 1
def uptoBulkAll {H : Type} : List (DataW H) → Nat
  | [] => 0
  | d :: r => uptoBulk d + uptoBulkAll r
def uptoBulkEntries {H : Type} : List (Lit × DataW H) → Nat
  | [] => 0
  | x :: r => uptoBulkEntry x + uptoBulkEntries r
def uptoBulkEntry {H : Type} : Lit × DataW H → Nat
  | (.string bytes, d) => bytes.length + uptoBulk d + 1
  | (_, d) => uptoBulk d + 1
 end
def uptoSmall : (H : Type) → List (DataW H) → Bool := fun _ ds => decide (uptoBulkAll ds ≤ 1048576)
def OpenSpec.upto (s : _root_.Go.ChangeSpec) : _root_.Go.OpenSpec := { _root_.Go.OpenSpec.ofChange s with cond := some uptoSmall }

/-- 'laws.FnExactOldRef', WHERE WHAT IT READS IS OF BULK AT MOST 1048576: true; the input reads as it did. -/
def fnExactOldRefUptoRow : OpenClaim := { program := "ytnghhfdbibbpcah", sum := "910f31362b7b4d7a6f3a81bb01776b4739d396167aad33197a0c50a1268a2cca", func := "loop.example/g00648/laws.FnExactOldRef", spec := "fnExactOldRef", unfollowed := true, recurses := true, apart := false, narrowed := true }
def FnExactOldRefUptoSaid : Prop := fnExactOldRefUptoRow.holds Try.pinned (OpenSpec.upto fnExactOldRefSpec)

/-- 'laws.FnExactYoungRef', WHERE WHAT IT READS IS OF BULK AT MOST 1048576: true; the input reads as it did. -/
def fnExactYoungRefUptoRow : OpenClaim := { program := "ytnghhfdbibbpcah", sum := "910f31362b7b4d7a6f3a81bb01776b4739d396167aad33197a0c50a1268a2cca", func := "loop.example/g00648/laws.FnExactYoungRef", spec := "fnExactYoungRef", unfollowed := true, recurses := true, apart := false, narrowed := true }
def FnExactYoungRefUptoSaid : Prop := fnExactYoungRefUptoRow.holds Try.pinned (OpenSpec.upto fnExactYoungRefSpec)

/-- 'laws.FnExactRefKind', WHERE WHAT IT READS IS OF BULK AT MOST 1048576: true; the input reads as it did. -/
def fnExactRefKindUptoRow : OpenClaim := { program := "ytnghhfdbibbpcah", sum := "910f31362b7b4d7a6f3a81bb01776b4739d396167aad33197a0c50a1268a2cca", func := "loop.example/g00648/laws.FnExactRefKind", spec := "fnExactRefKind", apart := false, narrowed := true }
def FnExactRefKindUptoSaid : Prop := fnExactRefKindUptoRow.holds Try.pinned (OpenSpec.upto fnExactRefKindSpec)

end Rows
end Go.Proofs.Ytnghhfdbibbpcah
