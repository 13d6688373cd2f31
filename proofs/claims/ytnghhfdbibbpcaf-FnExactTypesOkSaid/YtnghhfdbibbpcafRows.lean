/-
  No cell of these rows narrows 'for every input' (looked for: loops, veiled, ifaces, maps, wideKeys, modest, calm, conditions, laid).
  DERIVED. THE GIVEN ROWS OF THIS SEAT. 6 by the template 'for every input the law returns true; each argument reads behind the call as it read before'; 0 by the template 'total and deterministic' (their statements: YtnghhfdbibbpcafTotals.lean).
  GIVEN WITH THE SEED: the statements are not yours to turn. If you find one false, say at which input.
  Laid BY PROGRAM, IN A SANDBOX (cutbox-rows.mjs): the forced cells as the released guide's own fill.sh prints them over the translation 0128710808cd0178… (all of the seat's roots in one cut). By AI agents, Wed Nov 11 2026. No macro, syntax, notation, axiom, sorry.
-/
import Derived.Test.YtnghhfdbibbpcafChecked
import GoSem.Claim
import GoSem.ClaimJoined
import GoSem.ClaimMapViews
import Derived.JoinedTies
import Derived.KernelRfl
namespace Go.Proofs.Ytnghhfdbibbpcaf
/- THE CELL 'sum', in the pinned program and in every row, IS THE sha256 OF THE DUMP (.gsa) THAT YtnghhfdbibbpcafProg.lean LOADS. Nothing in Lean hashes anything: it is a label: what it is worth is what the hold of that sum in a sandbox is worth. -/
noncomputable def Try.pinned : Pinned := { name := "ytnghhfdbibbpcaf", sum := "0128710808cd01786505a2922915701bb7bb788266539eb957e2316524dd9a77", checked := Try.checked }
namespace Rows
def none {H : Type} : Left H := { results := [], args := [] }

/-- 'laws.FnExactFence': WHATEVER THE INPUT: true; the input reads as it did. -/
def fnExactFenceSpec : ChangeSpec := { name := "fnExactFence", fn := fun _ => fun
  | [d] => { results := [.lit (.bool true)], args := [d] }
  | _ => none }
def fnExactFenceRow : OpenClaim := { program := "ytnghhfdbibbpcaf", sum := "0128710808cd01786505a2922915701bb7bb788266539eb957e2316524dd9a77", func := "loop.example/g00648/laws.FnExactFence", spec := "fnExactFence", apart := false }
def FnExactFenceSaid : Prop := fnExactFenceRow.holds Try.pinned (OpenSpec.ofChange fnExactFenceSpec)

/-- ITS FALSE NEIGHBOUR: 'it returns false'. Refute it at one input. -/
def fnExactFenceWrong : ChangeSpec := { name := "fnExactFence", fn := fun _ => fun
  | [d] => { results := [.lit (.bool false)], args := [d] }
  | _ => none }
def FnExactFenceWrongFalsely : Prop := fnExactFenceRow.holds Try.pinned (OpenSpec.ofChange fnExactFenceWrong)

/-- 'laws.FnExactEvict': WHATEVER THE INPUT: true; the input reads as it did. -/
def fnExactEvictSpec : ChangeSpec := { name := "fnExactEvict", fn := fun _ => fun
  | [d1, d2] => { results := [.lit (.bool true)], args := [d1, d2] }
  | _ => none }
def fnExactEvictRow : OpenClaim := { program := "ytnghhfdbibbpcaf", sum := "0128710808cd01786505a2922915701bb7bb788266539eb957e2316524dd9a77", func := "loop.example/g00648/laws.FnExactEvict", spec := "fnExactEvict", apart := false }
def FnExactEvictSaid : Prop := fnExactEvictRow.holds Try.pinned (OpenSpec.ofChange fnExactEvictSpec)

/-- ITS FALSE NEIGHBOUR: 'it returns false'. Refute it at one input. -/
def fnExactEvictWrong : ChangeSpec := { name := "fnExactEvict", fn := fun _ => fun
  | [d1, d2] => { results := [.lit (.bool false)], args := [d1, d2] }
  | _ => none }
def FnExactEvictWrongFalsely : Prop := fnExactEvictRow.holds Try.pinned (OpenSpec.ofChange fnExactEvictWrong)

/-- 'laws.FnExactAtRisk': WHATEVER THE INPUT: true; the input reads as it did. -/
def fnExactAtRiskSpec : ChangeSpec := { name := "fnExactAtRisk", fn := fun _ => fun
  | [d] => { results := [.lit (.bool true)], args := [d] }
  | _ => none }
def fnExactAtRiskRow : OpenClaim := { program := "ytnghhfdbibbpcaf", sum := "0128710808cd01786505a2922915701bb7bb788266539eb957e2316524dd9a77", func := "loop.example/g00648/laws.FnExactAtRisk", spec := "fnExactAtRisk", apart := false }
def FnExactAtRiskSaid : Prop := fnExactAtRiskRow.holds Try.pinned (OpenSpec.ofChange fnExactAtRiskSpec)

/-- ITS FALSE NEIGHBOUR: 'it returns false'. Refute it at one input. -/
def fnExactAtRiskWrong : ChangeSpec := { name := "fnExactAtRisk", fn := fun _ => fun
  | [d] => { results := [.lit (.bool false)], args := [d] }
  | _ => none }
def FnExactAtRiskWrongFalsely : Prop := fnExactAtRiskRow.holds Try.pinned (OpenSpec.ofChange fnExactAtRiskWrong)

/-- 'laws.FnExactCrash': WHATEVER THE INPUT: true; the input reads as it did. -/
def fnExactCrashSpec : ChangeSpec := { name := "fnExactCrash", fn := fun _ => fun
  | [d1, d2] => { results := [.lit (.bool true)], args := [d1, d2] }
  | _ => none }
def fnExactCrashRow : OpenClaim := { program := "ytnghhfdbibbpcaf", sum := "0128710808cd01786505a2922915701bb7bb788266539eb957e2316524dd9a77", func := "loop.example/g00648/laws.FnExactCrash", spec := "fnExactCrash", apart := false }
def FnExactCrashSaid : Prop := fnExactCrashRow.holds Try.pinned (OpenSpec.ofChange fnExactCrashSpec)

/-- ITS FALSE NEIGHBOUR: 'it returns false'. Refute it at one input. -/
def fnExactCrashWrong : ChangeSpec := { name := "fnExactCrash", fn := fun _ => fun
  | [d1, d2] => { results := [.lit (.bool false)], args := [d1, d2] }
  | _ => none }
def FnExactCrashWrongFalsely : Prop := fnExactCrashRow.holds Try.pinned (OpenSpec.ofChange fnExactCrashWrong)

/-- 'laws.FnExactTypesOk': WHATEVER THE INPUT: true; the input reads as it did. -/
def fnExactTypesOkSpec : ChangeSpec := { name := "fnExactTypesOk", fn := fun _ => fun
  | [d] => { results := [.lit (.bool true)], args := [d] }
  | _ => none }
def fnExactTypesOkRow : OpenClaim := { program := "ytnghhfdbibbpcaf", sum := "0128710808cd01786505a2922915701bb7bb788266539eb957e2316524dd9a77", func := "loop.example/g00648/laws.FnExactTypesOk", spec := "fnExactTypesOk", apart := false }
def FnExactTypesOkSaid : Prop := fnExactTypesOkRow.holds Try.pinned (OpenSpec.ofChange fnExactTypesOkSpec)

/-- ITS FALSE NEIGHBOUR: 'it returns false'. Refute it at one input. -/
def fnExactTypesOkWrong : ChangeSpec := { name := "fnExactTypesOk", fn := fun _ => fun
  | [d] => { results := [.lit (.bool false)], args := [d] }
  | _ => none }
def FnExactTypesOkWrongFalsely : Prop := fnExactTypesOkRow.holds Try.pinned (OpenSpec.ofChange fnExactTypesOkWrong)

/-- 'laws.FnExactRunOf': WHATEVER THE INPUT: true; the input reads as it did. -/
def fnExactRunOfSpec : ChangeSpec := { name := "fnExactRunOf", fn := fun _ => fun
  | [d] => { results := [.lit (.bool true)], args := [d] }
  | _ => none }
def fnExactRunOfRow : OpenClaim := { program := "ytnghhfdbibbpcaf", sum := "0128710808cd01786505a2922915701bb7bb788266539eb957e2316524dd9a77", func := "loop.example/g00648/laws.FnExactRunOf", spec := "fnExactRunOf", apart := false }
def FnExactRunOfSaid : Prop := fnExactRunOfRow.holds Try.pinned (OpenSpec.ofChange fnExactRunOfSpec)

/-- ITS FALSE NEIGHBOUR: 'it returns false'. Refute it at one input. -/
def fnExactRunOfWrong : ChangeSpec := { name := "fnExactRunOf", fn := fun _ => fun
  | [d] => { results := [.lit (.bool false)], args := [d] }
  | _ => none }
def FnExactRunOfWrongFalsely : Prop := fnExactRunOfRow.holds Try.pinned (OpenSpec.ofChange fnExactRunOfWrong)

/- THE SECOND FORM. 'bulk': how many values and letters a reading holds, each counted each time it is reached (what is shared counts as often as it is met; a slice's spare places count too). A statement '..UptoSaid' is the law's where the arguments, and the package variables that the reading takes, are together of bulk at most 1048576: NARROWER than '..Said'. Prove '..Said' where nothing that the law and all that it calls make is longer than what came in: it says more and counts as full. Else prove '..UptoSaid'. A law counts once. -/
mutual
def uptoBulk {H : Type} : DataW H → Nat
  | .lit (.string bytes) => bytes.length + 1
  | .lit _ => 1
  | .nil => 1
  | .ptr d => uptoBulk d + 1
  | .slice elems spare => uptoBulkAll elems + uptoBulkAll spare + 1
  | .agg parts => uptoBulkAll parts + 1
  | .iface _ d => uptoBulk d + 1
  | .map entries => uptoBulkEntries entries + 1
  | .held _ => 1
def uptoBulkAll {H : Type} : List (DataW H) → Nat
  | [] => 0
  | d :: r => uptoBulk d + uptoBulkAll r
def uptoBulkEntries {H : Type} : List (Lit × DataW H) → Nat
  | [] => 0
  | x :: r => uptoBulkEntry x + uptoBulkEntries r
def uptoBulkEntry {H : Type} : Lit × DataW H → Nat
  | (.string bytes, d) => bytes.length + uptoBulk d + 1
  | (_, d) => uptoBulk d + 1
 end
def uptoSmall : (H : Type) → List (DataW H) → Bool := fun _ ds => decide (uptoBulkAll ds ≤ 1048576)
def OpenSpec.upto (s : _root_.Go.ChangeSpec) : _root_.Go.OpenSpec := { _root_.Go.OpenSpec.ofChange s with cond := some uptoSmall }

/-- 'laws.FnExactFence', WHERE WHAT IT READS IS OF BULK AT MOST 1048576: true; the input reads as it did. -/
def fnExactFenceUptoRow : OpenClaim := { program := "ytnghhfdbibbpcaf", sum := "0128710808cd01786505a2922915701bb7bb788266539eb957e2316524dd9a77", func := "loop.example/g00648/laws.FnExactFence", spec := "fnExactFence", apart := false, narrowed := true }
def FnExactFenceUptoSaid : Prop := fnExactFenceUptoRow.holds Try.pinned (OpenSpec.upto fnExactFenceSpec)

/-- 'laws.FnExactEvict', WHERE WHAT IT READS IS OF BULK AT MOST 1048576: true; the input reads as it did. -/
def fnExactEvictUptoRow : OpenClaim := { program := "ytnghhfdbibbpcaf", sum := "0128710808cd01786505a2922915701bb7bb788266539eb957e2316524dd9a77", func := "loop.example/g00648/laws.FnExactEvict", spec := "fnExactEvict", apart := false, narrowed := true }
def FnExactEvictUptoSaid : Prop := fnExactEvictUptoRow.holds Try.pinned (OpenSpec.upto fnExactEvictSpec)

/-- 'laws.FnExactAtRisk', WHERE WHAT IT READS IS OF BULK AT MOST 1048576: true; the input reads as it did. -/
def fnExactAtRiskUptoRow : OpenClaim := { program := "ytnghhfdbibbpcaf", sum := "0128710808cd01786505a2922915701bb7bb788266539eb957e2316524dd9a77", func := "loop.example/g00648/laws.FnExactAtRisk", spec := "fnExactAtRisk", apart := false, narrowed := true }
def FnExactAtRiskUptoSaid : Prop := fnExactAtRiskUptoRow.holds Try.pinned (OpenSpec.upto fnExactAtRiskSpec)

/-- 'laws.FnExactCrash', WHERE WHAT IT READS IS OF BULK AT MOST 1048576: true; the input reads as it did. -/
def fnExactCrashUptoRow : OpenClaim := { program := "ytnghhfdbibbpcaf", sum := "0128710808cd01786505a2922915701bb7bb788266539eb957e2316524dd9a77", func := "loop.example/g00648/laws.FnExactCrash", spec := "fnExactCrash", apart := false, narrowed := true }
def FnExactCrashUptoSaid : Prop := fnExactCrashUptoRow.holds Try.pinned (OpenSpec.upto fnExactCrashSpec)

/-- 'laws.FnExactTypesOk', WHERE WHAT IT READS IS OF BULK AT MOST 1048576: true; the input reads as it did. -/
def fnExactTypesOkUptoRow : OpenClaim := { program := "ytnghhfdbibbpcaf", sum := "0128710808cd01786505a2922915701bb7bb788266539eb957e2316524dd9a77", func := "loop.example/g00648/laws.FnExactTypesOk", spec := "fnExactTypesOk", apart := false, narrowed := true }
def FnExactTypesOkUptoSaid : Prop := fnExactTypesOkUptoRow.holds Try.pinned (OpenSpec.upto fnExactTypesOkSpec)

/-- 'laws.FnExactRunOf', WHERE WHAT IT READS IS OF BULK AT MOST 1048576: true; the input reads as it did. -/
def fnExactRunOfUptoRow : OpenClaim := { program := "ytnghhfdbibbpcaf", sum := "0128710808cd01786505a2922915701bb7bb788266539eb957e2316524dd9a77", func := "loop.example/g00648/laws.FnExactRunOf", spec := "fnExactRunOf", apart := false, narrowed := true }
def FnExactRunOfUptoSaid : Prop := fnExactRunOfUptoRow.holds Try.pinned (OpenSpec.upto fnExactRunOfSpec)

end Rows
end Go.Proofs.Ytnghhfdbibbpcaf
