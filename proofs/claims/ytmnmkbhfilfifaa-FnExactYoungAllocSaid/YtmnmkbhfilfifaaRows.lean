/-
  No cell of these rows narrows 'for every input' (looked for: loops, veiled, ifaces, maps, wideKeys, modest, calm, conditions, laid).
  DERIVED. THE GIVEN ROWS OF THIS SEAT. 8 by the template 'for every input the law returns true; each argument reads behind the call as it read before'; 0 by the template 'total and deterministic' (their statements: YtmnmkbhfilfifaaTotals.lean).
  GIVEN WITH THE SEED: the statements are not yours to turn. If you find one false, say at which input.
  Laid BY PROGRAM, IN A SANDBOX (cutbox-rows.mjs): the forced cells as the released guide's own fill.sh prints them over the translation 2f090e619ad64b21… (all of the seat's roots in one cut). By AI agents, Wed Nov 11 2026. No macro, syntax, notation, axiom, sorry.
-/
import Derived.Test.YtmnmkbhfilfifaaChecked
import GoSem.Claim
import GoSem.ClaimJoined
import GoSem.ClaimMapViews
import Derived.JoinedTies
import Derived.KernelRfl
namespace Go.Proofs.Ytmnmkbhfilfifaa
/- THE CELL 'sum', in the pinned program and in every row, IS THE sha256 OF THE DUMP (.gsa) THAT YtmnmkbhfilfifaaProg.lean LOADS. Nothing in Lean hashes anything: it is a label: what it is worth is what the hold of that sum in a sandbox is worth. -/
noncomputable def Try.pinned : Pinned := { name := "ytmnmkbhfilfifaa", sum := "2f090e619ad64b21820ab728af1f837eb9e2c90ed6ac3b3e69ea397df39b73fe", checked := Try.checked }
namespace Rows
def none {H : Type} : Left H := { results := [], args := [] }

/-- 'laws.FnExactNurseryOk': WHATEVER THE INPUT: true; the input reads as it did. -/
def fnExactNurseryOkSpec : ChangeSpec := { name := "fnExactNurseryOk", fn := fun _ => fun
  | [d1, d2] => { results := [.lit (.bool true)], args := [d1, d2] }
  | _ => none }
def fnExactNurseryOkRow : OpenClaim := { program := "ytmnmkbhfilfifaa", sum := "2f090e619ad64b21820ab728af1f837eb9e2c90ed6ac3b3e69ea397df39b73fe", func := "loop.example/g00648/laws.FnExactNurseryOk", spec := "fnExactNurseryOk", apart := false }
def FnExactNurseryOkSaid : Prop := fnExactNurseryOkRow.holds Try.pinned (OpenSpec.ofChange fnExactNurseryOkSpec)

/-- ITS FALSE NEIGHBOUR: 'it returns false'. Refute it at one input. -/
def fnExactNurseryOkWrong : ChangeSpec := { name := "fnExactNurseryOk", fn := fun _ => fun
  | [d1, d2] => { results := [.lit (.bool false)], args := [d1, d2] }
  | _ => none }
def FnExactNurseryOkWrongFalsely : Prop := fnExactNurseryOkRow.holds Try.pinned (OpenSpec.ofChange fnExactNurseryOkWrong)

/-- 'laws.FnExactStarts': WHATEVER THE INPUT: true; the input reads as it did. -/
def fnExactStartsSpec : ChangeSpec := { name := "fnExactStarts", fn := fun _ => fun
  | [d1, d2] => { results := [.lit (.bool true)], args := [d1, d2] }
  | _ => none }
def fnExactStartsRow : OpenClaim := { program := "ytmnmkbhfilfifaa", sum := "2f090e619ad64b21820ab728af1f837eb9e2c90ed6ac3b3e69ea397df39b73fe", func := "loop.example/g00648/laws.FnExactStarts", spec := "fnExactStarts", apart := false }
def FnExactStartsSaid : Prop := fnExactStartsRow.holds Try.pinned (OpenSpec.ofChange fnExactStartsSpec)

/-- ITS FALSE NEIGHBOUR: 'it returns false'. Refute it at one input. -/
def fnExactStartsWrong : ChangeSpec := { name := "fnExactStarts", fn := fun _ => fun
  | [d1, d2] => { results := [.lit (.bool false)], args := [d1, d2] }
  | _ => none }
def FnExactStartsWrongFalsely : Prop := fnExactStartsRow.holds Try.pinned (OpenSpec.ofChange fnExactStartsWrong)

/-- 'laws.FnExactAges': WHATEVER THE INPUT: true; the input reads as it did. -/
def fnExactAgesSpec : ChangeSpec := { name := "fnExactAges", fn := fun _ => fun
  | [d1, d2] => { results := [.lit (.bool true)], args := [d1, d2] }
  | _ => none }
def fnExactAgesRow : OpenClaim := { program := "ytmnmkbhfilfifaa", sum := "2f090e619ad64b21820ab728af1f837eb9e2c90ed6ac3b3e69ea397df39b73fe", func := "loop.example/g00648/laws.FnExactAges", spec := "fnExactAges", apart := false }
def FnExactAgesSaid : Prop := fnExactAgesRow.holds Try.pinned (OpenSpec.ofChange fnExactAgesSpec)

/-- ITS FALSE NEIGHBOUR: 'it returns false'. Refute it at one input. -/
def fnExactAgesWrong : ChangeSpec := { name := "fnExactAges", fn := fun _ => fun
  | [d1, d2] => { results := [.lit (.bool false)], args := [d1, d2] }
  | _ => none }
def FnExactAgesWrongFalsely : Prop := fnExactAgesRow.holds Try.pinned (OpenSpec.ofChange fnExactAgesWrong)

/-- 'laws.FnExactYoungAlloc': WHATEVER THE INPUT: true; the input reads as it did. -/
def fnExactYoungAllocSpec : ChangeSpec := { name := "fnExactYoungAlloc", fn := fun _ => fun
  | [d1, d2, d3] => { results := [.lit (.bool true)], args := [d1, d2, d3] }
  | _ => none }
def fnExactYoungAllocRow : OpenClaim := { program := "ytmnmkbhfilfifaa", sum := "2f090e619ad64b21820ab728af1f837eb9e2c90ed6ac3b3e69ea397df39b73fe", func := "loop.example/g00648/laws.FnExactYoungAlloc", spec := "fnExactYoungAlloc", unfollowed := true, recurses := true, apart := false }
def FnExactYoungAllocSaid : Prop := fnExactYoungAllocRow.holds Try.pinned (OpenSpec.ofChange fnExactYoungAllocSpec)

/-- ITS FALSE NEIGHBOUR: 'it returns false'. Refute it at one input. -/
def fnExactYoungAllocWrong : ChangeSpec := { name := "fnExactYoungAlloc", fn := fun _ => fun
  | [d1, d2, d3] => { results := [.lit (.bool false)], args := [d1, d2, d3] }
  | _ => none }
def FnExactYoungAllocWrongFalsely : Prop := fnExactYoungAllocRow.holds Try.pinned (OpenSpec.ofChange fnExactYoungAllocWrong)

/-- 'laws.FnExactYoungObject': WHATEVER THE INPUT: true; the input reads as it did. -/
def fnExactYoungObjectSpec : ChangeSpec := { name := "fnExactYoungObject", fn := fun _ => fun
  | [d1, d2, d3] => { results := [.lit (.bool true)], args := [d1, d2, d3] }
  | _ => none }
def fnExactYoungObjectRow : OpenClaim := { program := "ytmnmkbhfilfifaa", sum := "2f090e619ad64b21820ab728af1f837eb9e2c90ed6ac3b3e69ea397df39b73fe", func := "loop.example/g00648/laws.FnExactYoungObject", spec := "fnExactYoungObject", apart := false }
def FnExactYoungObjectSaid : Prop := fnExactYoungObjectRow.holds Try.pinned (OpenSpec.ofChange fnExactYoungObjectSpec)

/-- ITS FALSE NEIGHBOUR: 'it returns false'. Refute it at one input. -/
def fnExactYoungObjectWrong : ChangeSpec := { name := "fnExactYoungObject", fn := fun _ => fun
  | [d1, d2, d3] => { results := [.lit (.bool false)], args := [d1, d2, d3] }
  | _ => none }
def FnExactYoungObjectWrongFalsely : Prop := fnExactYoungObjectRow.holds Try.pinned (OpenSpec.ofChange fnExactYoungObjectWrong)

/-- 'laws.FnExactYoungSet': WHATEVER THE INPUT: true; the input reads as it did. -/
def fnExactYoungSetSpec : ChangeSpec := { name := "fnExactYoungSet", fn := fun _ => fun
  | [d1, d2, d3, d4, d5] => { results := [.lit (.bool true)], args := [d1, d2, d3, d4, d5] }
  | _ => none }
def fnExactYoungSetRow : OpenClaim := { program := "ytmnmkbhfilfifaa", sum := "2f090e619ad64b21820ab728af1f837eb9e2c90ed6ac3b3e69ea397df39b73fe", func := "loop.example/g00648/laws.FnExactYoungSet", spec := "fnExactYoungSet", unfollowed := true, recurses := true, apart := false }
def FnExactYoungSetSaid : Prop := fnExactYoungSetRow.holds Try.pinned (OpenSpec.ofChange fnExactYoungSetSpec)

/-- ITS FALSE NEIGHBOUR: 'it returns false'. Refute it at one input. -/
def fnExactYoungSetWrong : ChangeSpec := { name := "fnExactYoungSet", fn := fun _ => fun
  | [d1, d2, d3, d4, d5] => { results := [.lit (.bool false)], args := [d1, d2, d3, d4, d5] }
  | _ => none }
def FnExactYoungSetWrongFalsely : Prop := fnExactYoungSetRow.holds Try.pinned (OpenSpec.ofChange fnExactYoungSetWrong)

/-- 'laws.FnAlloc': WHATEVER THE INPUT: true; the input reads as it did. -/
def fnAllocSpec : ChangeSpec := { name := "fnAlloc", fn := fun _ => fun
  | [d] => { results := [.lit (.bool true)], args := [d] }
  | _ => none }
def fnAllocRow : OpenClaim := { program := "ytmnmkbhfilfifaa", sum := "2f090e619ad64b21820ab728af1f837eb9e2c90ed6ac3b3e69ea397df39b73fe", func := "loop.example/g00648/laws.FnAlloc", spec := "fnAlloc", unfollowed := true, recurses := true, apart := false }
def FnAllocSaid : Prop := fnAllocRow.holds Try.pinned (OpenSpec.ofChange fnAllocSpec)

/-- ITS FALSE NEIGHBOUR: 'it returns false'. Refute it at one input. -/
def fnAllocWrong : ChangeSpec := { name := "fnAlloc", fn := fun _ => fun
  | [d] => { results := [.lit (.bool false)], args := [d] }
  | _ => none }
def FnAllocWrongFalsely : Prop := fnAllocRow.holds Try.pinned (OpenSpec.ofChange fnAllocWrong)

/-- 'laws.FnYoungSet': WHATEVER THE INPUT: true; the input reads as it did. -/
def fnYoungSetSpec : ChangeSpec := { name := "fnYoungSet", fn := fun _ => fun
  | [d] => { results := [.lit (.bool true)], args := [d] }
  | _ => none }
def fnYoungSetRow : OpenClaim := { program := "ytmnmkbhfilfifaa", sum := "2f090e619ad64b21820ab728af1f837eb9e2c90ed6ac3b3e69ea397df39b73fe", func := "loop.example/g00648/laws.FnYoungSet", spec := "fnYoungSet", unfollowed := true, recurses := true, apart := false }
def FnYoungSetSaid : Prop := fnYoungSetRow.holds Try.pinned (OpenSpec.ofChange fnYoungSetSpec)

/-- ITS FALSE NEIGHBOUR: 'it returns false'. Refute it at one input. -/
def fnYoungSetWrong : ChangeSpec := { name := "fnYoungSet", fn := fun _ => fun
  | [d] => { results := [.lit (.bool false)], args := [d] }
  | _ => none }
def FnYoungSetWrongFalsely : Prop := fnYoungSetRow.holds Try.pinned (OpenSpec.ofChange fnYoungSetWrong)

/- THE SECOND FORM. 'bulk': how many values and letters a reading holds, each counted each time it is reached (what is shared counts as often as it is met; a slice's spare places count too). A statement '..UptoSaid' is the law's where the arguments, and the package variables that the reading takes, are together of bulk at most 1048576: NARROWER than '..Said'. Prove '..Said' where nothing that the law and all that it calls make is longer than what came in: it says more and counts as full. Else prove '..UptoSaid'. A law counts once. -/
mutual
def uptoBulk {H : Type} : DataW H → Nat
  | .lit (.string bytes) => bytes.length + 1
  | .lit _ => 1
  | .nil => 1
  | .ptr d => uptoBulk d + 1
  | .slice elems spare => uptoBulkAll elems + uptoBulkAll spare + 1
  | .agg parts => uptoBulkAll parts + 1
  | .iface _ d => uptoBulk d + 1
  | .map entries => uptoBulkEntries entries + 1
  | .held _ => 1
def uptoBulkAll {H : Type} : List (DataW H) → Nat
  | [] => 0
  | d :: r => uptoBulk d + uptoBulkAll r
def uptoBulkEntries {H : Type} : List (Lit × DataW H) → Nat
  | [] => 0
  | x :: r => uptoBulkEntry x + uptoBulkEntries r
def uptoBulkEntry {H : Type} : Lit × DataW H → Nat
  | (.string bytes, d) => bytes.length + uptoBulk d + 1
  | (_, d) => uptoBulk d + 1
 end
def uptoSmall : (H : Type) → List (DataW H) → Bool := fun _ ds => decide (uptoBulkAll ds ≤ 1048576)
def OpenSpec.upto (s : _root_.Go.ChangeSpec) : _root_.Go.OpenSpec := { _root_.Go.OpenSpec.ofChange s with cond := some uptoSmall }

/-- 'laws.FnExactNurseryOk', WHERE WHAT IT READS IS OF BULK AT MOST 1048576: true; the input reads as it did. -/
def fnExactNurseryOkUptoRow : OpenClaim := { program := "ytmnmkbhfilfifaa", sum := "2f090e619ad64b21820ab728af1f837eb9e2c90ed6ac3b3e69ea397df39b73fe", func := "loop.example/g00648/laws.FnExactNurseryOk", spec := "fnExactNurseryOk", apart := false, narrowed := true }
def FnExactNurseryOkUptoSaid : Prop := fnExactNurseryOkUptoRow.holds Try.pinned (OpenSpec.upto fnExactNurseryOkSpec)

/-- 'laws.FnExactStarts', WHERE WHAT IT READS IS OF BULK AT MOST 1048576: true; the input reads as it did. -/
def fnExactStartsUptoRow : OpenClaim := { program := "ytmnmkbhfilfifaa", sum := "2f090e619ad64b21820ab728af1f837eb9e2c90ed6ac3b3e69ea397df39b73fe", func := "loop.example/g00648/laws.FnExactStarts", spec := "fnExactStarts", apart := false, narrowed := true }
def FnExactStartsUptoSaid : Prop := fnExactStartsUptoRow.holds Try.pinned (OpenSpec.upto fnExactStartsSpec)

/-- 'laws.FnExactAges', WHERE WHAT IT READS IS OF BULK AT MOST 1048576: true; the input reads as it did. -/
def fnExactAgesUptoRow : OpenClaim := { program := "ytmnmkbhfilfifaa", sum := "2f090e619ad64b21820ab728af1f837eb9e2c90ed6ac3b3e69ea397df39b73fe", func := "loop.example/g00648/laws.FnExactAges", spec := "fnExactAges", apart := false, narrowed := true }
def FnExactAgesUptoSaid : Prop := fnExactAgesUptoRow.holds Try.pinned (OpenSpec.upto fnExactAgesSpec)

/-- 'laws.FnExactYoungAlloc', WHERE WHAT IT READS IS OF BULK AT MOST 1048576: true; the input reads as it did. -/
def fnExactYoungAllocUptoRow : OpenClaim := { program := "ytmnmkbhfilfifaa", sum := "2f090e619ad64b21820ab728af1f837eb9e2c90ed6ac3b3e69ea397df39b73fe", func := "loop.example/g00648/laws.FnExactYoungAlloc", spec := "fnExactYoungAlloc", unfollowed := true, recurses := true, apart := false, narrowed := true }
def FnExactYoungAllocUptoSaid : Prop := fnExactYoungAllocUptoRow.holds Try.pinned (OpenSpec.upto fnExactYoungAllocSpec)

/-- 'laws.FnExactYoungObject', WHERE WHAT IT READS IS OF BULK AT MOST 1048576: true; the input reads as it did. -/
def fnExactYoungObjectUptoRow : OpenClaim := { program := "ytmnmkbhfilfifaa", sum := "2f090e619ad64b21820ab728af1f837eb9e2c90ed6ac3b3e69ea397df39b73fe", func := "loop.example/g00648/laws.FnExactYoungObject", spec := "fnExactYoungObject", apart := false, narrowed := true }
def FnExactYoungObjectUptoSaid : Prop := fnExactYoungObjectUptoRow.holds Try.pinned (OpenSpec.upto fnExactYoungObjectSpec)

/-- 'laws.FnExactYoungSet', WHERE WHAT IT READS IS OF BULK AT MOST 1048576: true; the input reads as it did. -/
def fnExactYoungSetUptoRow : OpenClaim := { program := "ytmnmkbhfilfifaa", sum := "2f090e619ad64b21820ab728af1f837eb9e2c90ed6ac3b3e69ea397df39b73fe", func := "loop.example/g00648/laws.FnExactYoungSet", spec := "fnExactYoungSet", unfollowed := true, recurses := true, apart := false, narrowed := true }
def FnExactYoungSetUptoSaid : Prop := fnExactYoungSetUptoRow.holds Try.pinned (OpenSpec.upto fnExactYoungSetSpec)

/-- 'laws.FnAlloc', WHERE WHAT IT READS IS OF BULK AT MOST 1048576: true; the input reads as it did. -/
def fnAllocUptoRow : OpenClaim := { program := "ytmnmkbhfilfifaa", sum := "2f090e619ad64b21820ab728af1f837eb9e2c90ed6ac3b3e69ea397df39b73fe", func := "loop.example/g00648/laws.FnAlloc", spec := "fnAlloc", unfollowed := true, recurses := true, apart := false, narrowed := true }
def FnAllocUptoSaid : Prop := fnAllocUptoRow.holds Try.pinned (OpenSpec.upto fnAllocSpec)

/-- 'laws.FnYoungSet', WHERE WHAT IT READS IS OF BULK AT MOST 1048576: true; the input reads as it did. -/
def fnYoungSetUptoRow : OpenClaim := { program := "ytmnmkbhfilfifaa", sum := "2f090e619ad64b21820ab728af1f837eb9e2c90ed6ac3b3e69ea397df39b73fe", func := "loop.example/g00648/laws.FnYoungSet", spec := "fnYoungSet", unfollowed := true, recurses := true, apart := false, narrowed := true }
def FnYoungSetUptoSaid : Prop := fnYoungSetUptoRow.holds Try.pinned (OpenSpec.upto fnYoungSetSpec)

end Rows
end Go.Proofs.Ytmnmkbhfilfifaa
