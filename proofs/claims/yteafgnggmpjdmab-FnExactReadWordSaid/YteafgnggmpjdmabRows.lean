/-
  No cell of these rows narrows 'for every input' (looked for: loops, veiled, ifaces, maps, wideKeys, modest, calm, conditions, laid).
  DERIVED. THE GIVEN ROWS OF THIS SEAT. 6 by the template 'for every input the law returns true; each argument reads behind the call as it read before'; 0 by the template 'total and deterministic' (their statements: YteafgnggmpjdmabTotals.lean).
  GIVEN WITH THE SEED: the statements are not yours to turn. If you find one false, say at which input.
  Laid BY PROGRAM, IN A SANDBOX (cutbox-rows.mjs): the forced cells as the released guide's own fill.sh prints them over the translation 9e226452ef6b3c2b… (all of the seat's roots in one cut). By AI agents, Wed Nov 11 2026. No macro, syntax, notation, axiom, sorry.
-/
import Derived.Test.YteafgnggmpjdmabChecked
import GoSem.Claim
import GoSem.ClaimJoined
import GoSem.ClaimMapViews
import Derived.JoinedTies
import Derived.KernelRfl
namespace Go.Proofs.Yteafgnggmpjdmab
/- THE CELL 'sum', in the pinned program and in every row, IS THE sha256 OF THE DUMP (.gsa) THAT YteafgnggmpjdmabProg.lean LOADS. Nothing in Lean hashes anything: it is a label: what it is worth is what the hold of that sum in a sandbox is worth. -/
noncomputable def Try.pinned : Pinned := { name := "yteafgnggmpjdmab", sum := "9e226452ef6b3c2b5f9d0b6770278d1c4559061984b70e1f02c722a24087a1d2", checked := Try.checked }
namespace Rows
def none {H : Type} : Left H := { results := [], args := [] }

/-- 'laws.FnPicked': WHATEVER THE INPUT: true; the input reads as it did. -/
def fnPickedSpec : ChangeSpec := { name := "fnPicked", fn := fun _ => fun
  | [d] => { results := [.lit (.bool true)], args := [d] }
  | _ => none }
def fnPickedRow : OpenClaim := { program := "yteafgnggmpjdmab", sum := "9e226452ef6b3c2b5f9d0b6770278d1c4559061984b70e1f02c722a24087a1d2", func := "loop.example/g00648/laws.FnPicked", spec := "fnPicked", apart := false }
def FnPickedSaid : Prop := fnPickedRow.holds Try.pinned (OpenSpec.ofChange fnPickedSpec)

/-- ITS FALSE NEIGHBOUR: 'it returns false'. Refute it at one input. -/
def fnPickedWrong : ChangeSpec := { name := "fnPicked", fn := fun _ => fun
  | [d] => { results := [.lit (.bool false)], args := [d] }
  | _ => none }
def FnPickedWrongFalsely : Prop := fnPickedRow.holds Try.pinned (OpenSpec.ofChange fnPickedWrong)

/-- 'laws.FnEvicted': WHATEVER THE INPUT: true; the input reads as it did. -/
def fnEvictedSpec : ChangeSpec := { name := "fnEvicted", fn := fun _ => fun
  | [d] => { results := [.lit (.bool true)], args := [d] }
  | _ => none }
def fnEvictedRow : OpenClaim := { program := "yteafgnggmpjdmab", sum := "9e226452ef6b3c2b5f9d0b6770278d1c4559061984b70e1f02c722a24087a1d2", func := "loop.example/g00648/laws.FnEvicted", spec := "fnEvicted", apart := false }
def FnEvictedSaid : Prop := fnEvictedRow.holds Try.pinned (OpenSpec.ofChange fnEvictedSpec)

/-- ITS FALSE NEIGHBOUR: 'it returns false'. Refute it at one input. -/
def fnEvictedWrong : ChangeSpec := { name := "fnEvicted", fn := fun _ => fun
  | [d] => { results := [.lit (.bool false)], args := [d] }
  | _ => none }
def FnEvictedWrongFalsely : Prop := fnEvictedRow.holds Try.pinned (OpenSpec.ofChange fnEvictedWrong)

/-- 'laws.FnFlushes': WHATEVER THE INPUT: true; the input reads as it did. -/
def fnFlushesSpec : ChangeSpec := { name := "fnFlushes", fn := fun _ => fun
  | [d1, d2] => { results := [.lit (.bool true)], args := [d1, d2] }
  | _ => none }
def fnFlushesRow : OpenClaim := { program := "yteafgnggmpjdmab", sum := "9e226452ef6b3c2b5f9d0b6770278d1c4559061984b70e1f02c722a24087a1d2", func := "loop.example/g00648/laws.FnFlushes", spec := "fnFlushes", apart := false }
def FnFlushesSaid : Prop := fnFlushesRow.holds Try.pinned (OpenSpec.ofChange fnFlushesSpec)

/-- ITS FALSE NEIGHBOUR: 'it returns false'. Refute it at one input. -/
def fnFlushesWrong : ChangeSpec := { name := "fnFlushes", fn := fun _ => fun
  | [d1, d2] => { results := [.lit (.bool false)], args := [d1, d2] }
  | _ => none }
def FnFlushesWrongFalsely : Prop := fnFlushesRow.holds Try.pinned (OpenSpec.ofChange fnFlushesWrong)

/-- 'laws.FnExactWordBytes': WHATEVER THE INPUT: true; the input reads as it did. -/
def fnExactWordBytesSpec : ChangeSpec := { name := "fnExactWordBytes", fn := fun _ => fun
  | [d] => { results := [.lit (.bool true)], args := [d] }
  | _ => none }
def fnExactWordBytesRow : OpenClaim := { program := "yteafgnggmpjdmab", sum := "9e226452ef6b3c2b5f9d0b6770278d1c4559061984b70e1f02c722a24087a1d2", func := "loop.example/g00648/laws.FnExactWordBytes", spec := "fnExactWordBytes", apart := false }
def FnExactWordBytesSaid : Prop := fnExactWordBytesRow.holds Try.pinned (OpenSpec.ofChange fnExactWordBytesSpec)

/-- ITS FALSE NEIGHBOUR: 'it returns false'. Refute it at one input. -/
def fnExactWordBytesWrong : ChangeSpec := { name := "fnExactWordBytes", fn := fun _ => fun
  | [d] => { results := [.lit (.bool false)], args := [d] }
  | _ => none }
def FnExactWordBytesWrongFalsely : Prop := fnExactWordBytesRow.holds Try.pinned (OpenSpec.ofChange fnExactWordBytesWrong)

/-- 'laws.FnExactReadWord': WHATEVER THE INPUT: true; the input reads as it did. -/
def fnExactReadWordSpec : ChangeSpec := { name := "fnExactReadWord", fn := fun _ => fun
  | [d] => { results := [.lit (.bool true)], args := [d] }
  | _ => none }
def fnExactReadWordRow : OpenClaim := { program := "yteafgnggmpjdmab", sum := "9e226452ef6b3c2b5f9d0b6770278d1c4559061984b70e1f02c722a24087a1d2", func := "loop.example/g00648/laws.FnExactReadWord", spec := "fnExactReadWord", apart := false }
def FnExactReadWordSaid : Prop := fnExactReadWordRow.holds Try.pinned (OpenSpec.ofChange fnExactReadWordSpec)

/-- ITS FALSE NEIGHBOUR: 'it returns false'. Refute it at one input. -/
def fnExactReadWordWrong : ChangeSpec := { name := "fnExactReadWord", fn := fun _ => fun
  | [d] => { results := [.lit (.bool false)], args := [d] }
  | _ => none }
def FnExactReadWordWrongFalsely : Prop := fnExactReadWordRow.holds Try.pinned (OpenSpec.ofChange fnExactReadWordWrong)

/-- 'laws.FnExactShortBytes': WHATEVER THE INPUT: true; the input reads as it did. -/
def fnExactShortBytesSpec : ChangeSpec := { name := "fnExactShortBytes", fn := fun _ => fun
  | [d] => { results := [.lit (.bool true)], args := [d] }
  | _ => none }
def fnExactShortBytesRow : OpenClaim := { program := "yteafgnggmpjdmab", sum := "9e226452ef6b3c2b5f9d0b6770278d1c4559061984b70e1f02c722a24087a1d2", func := "loop.example/g00648/laws.FnExactShortBytes", spec := "fnExactShortBytes", apart := false }
def FnExactShortBytesSaid : Prop := fnExactShortBytesRow.holds Try.pinned (OpenSpec.ofChange fnExactShortBytesSpec)

/-- ITS FALSE NEIGHBOUR: 'it returns false'. Refute it at one input. -/
def fnExactShortBytesWrong : ChangeSpec := { name := "fnExactShortBytes", fn := fun _ => fun
  | [d] => { results := [.lit (.bool false)], args := [d] }
  | _ => none }
def FnExactShortBytesWrongFalsely : Prop := fnExactShortBytesRow.holds Try.pinned (OpenSpec.ofChange fnExactShortBytesWrong)

/- THE SECOND FORM. 'bulk': how many values and letters a reading holds, each counted each time it is reached (what is shared counts as often as it is met; a slice's spare places count too). A statement '..UptoSaid' is the law's where the arguments, and the package variables that the reading takes, are together of bulk at most 1048576: NARROWER than '..Said'. Prove '..Said' where nothing that the law and all that it calls make is longer than what came in: it says more and counts as full. Else prove '..UptoSaid'. A law counts once. -/
mutual
def uptoBulk {H : Type} : DataW H → Nat
  | .lit (.string bytes) => bytes.length + 1
  | .lit _ => 1
  | .nil => 1
  | .ptr d => uptoBulk d + 1
  | .slice elems spare => uptoBulkAll elems + uptoBulkAll spare + 1
  | .agg parts => uptoBulkAll parts + 1
  | .iface _ d => uptoBulk d + 1
  | .map entries => uptoBulkEntries entries + 1
  | .held _ => 1
def uptoBulkAll {H : Type} : List (DataW H) → Nat
  | [] => 0
  | d :: r => uptoBulk d + uptoBulkAll r
def uptoBulkEntries {H : Type} : List (Lit × DataW H) → Nat
  | [] => 0
  | x :: r => uptoBulkEntry x + uptoBulkEntries r
def uptoBulkEntry {H : Type} : Lit × DataW H → Nat
  | (.string bytes, d) => bytes.length + uptoBulk d + 1
  | (_, d) => uptoBulk d + 1
 end
def uptoSmall : (H : Type) → List (DataW H) → Bool := fun _ ds => decide (uptoBulkAll ds ≤ 1048576)
def OpenSpec.upto (s : _root_.Go.ChangeSpec) : _root_.Go.OpenSpec := { _root_.Go.OpenSpec.ofChange s with cond := some uptoSmall }

/-- 'laws.FnPicked', WHERE WHAT IT READS IS OF BULK AT MOST 1048576: true; the input reads as it did. -/
def fnPickedUptoRow : OpenClaim := { program := "yteafgnggmpjdmab", sum := "9e226452ef6b3c2b5f9d0b6770278d1c4559061984b70e1f02c722a24087a1d2", func := "loop.example/g00648/laws.FnPicked", spec := "fnPicked", apart := false, narrowed := true }
def FnPickedUptoSaid : Prop := fnPickedUptoRow.holds Try.pinned (OpenSpec.upto fnPickedSpec)

/-- 'laws.FnEvicted', WHERE WHAT IT READS IS OF BULK AT MOST 1048576: true; the input reads as it did. -/
def fnEvictedUptoRow : OpenClaim := { program := "yteafgnggmpjdmab", sum := "9e226452ef6b3c2b5f9d0b6770278d1c4559061984b70e1f02c722a24087a1d2", func := "loop.example/g00648/laws.FnEvicted", spec := "fnEvicted", apart := false, narrowed := true }
def FnEvictedUptoSaid : Prop := fnEvictedUptoRow.holds Try.pinned (OpenSpec.upto fnEvictedSpec)

/-- 'laws.FnFlushes', WHERE WHAT IT READS IS OF BULK AT MOST 1048576: true; the input reads as it did. -/
def fnFlushesUptoRow : OpenClaim := { program := "yteafgnggmpjdmab", sum := "9e226452ef6b3c2b5f9d0b6770278d1c4559061984b70e1f02c722a24087a1d2", func := "loop.example/g00648/laws.FnFlushes", spec := "fnFlushes", apart := false, narrowed := true }
def FnFlushesUptoSaid : Prop := fnFlushesUptoRow.holds Try.pinned (OpenSpec.upto fnFlushesSpec)

/-- 'laws.FnExactWordBytes', WHERE WHAT IT READS IS OF BULK AT MOST 1048576: true; the input reads as it did. -/
def fnExactWordBytesUptoRow : OpenClaim := { program := "yteafgnggmpjdmab", sum := "9e226452ef6b3c2b5f9d0b6770278d1c4559061984b70e1f02c722a24087a1d2", func := "loop.example/g00648/laws.FnExactWordBytes", spec := "fnExactWordBytes", apart := false, narrowed := true }
def FnExactWordBytesUptoSaid : Prop := fnExactWordBytesUptoRow.holds Try.pinned (OpenSpec.upto fnExactWordBytesSpec)

/-- 'laws.FnExactReadWord', WHERE WHAT IT READS IS OF BULK AT MOST 1048576: true; the input reads as it did. -/
def fnExactReadWordUptoRow : OpenClaim := { program := "yteafgnggmpjdmab", sum := "9e226452ef6b3c2b5f9d0b6770278d1c4559061984b70e1f02c722a24087a1d2", func := "loop.example/g00648/laws.FnExactReadWord", spec := "fnExactReadWord", apart := false, narrowed := true }
def FnExactReadWordUptoSaid : Prop := fnExactReadWordUptoRow.holds Try.pinned (OpenSpec.upto fnExactReadWordSpec)

/-- 'laws.FnExactShortBytes', WHERE WHAT IT READS IS OF BULK AT MOST 1048576: true; the input reads as it did. -/
def fnExactShortBytesUptoRow : OpenClaim := { program := "yteafgnggmpjdmab", sum := "9e226452ef6b3c2b5f9d0b6770278d1c4559061984b70e1f02c722a24087a1d2", func := "loop.example/g00648/laws.FnExactShortBytes", spec := "fnExactShortBytes", apart := false, narrowed := true }
def FnExactShortBytesUptoSaid : Prop := fnExactShortBytesUptoRow.holds Try.pinned (OpenSpec.upto fnExactShortBytesSpec)

end Rows
end Go.Proofs.Yteafgnggmpjdmab
