/-
  NARROWER THAN 'FOR EVERY INPUT', by the rows' own cells (each row's printed sentence says how): FnSupers: laid · FnRecords: laid · FnFormats: laid · FnExactSuperLine: laid · FnExactReadSuper: laid · FnExactRecordLine: laid · FnExactReadRecord: laid · FnExactFormat: laid.
  DERIVED. THE GIVEN ROWS OF THIS SEAT. 8 by the template 'for every input the law returns true; each argument reads behind the call as it read before'; 0 by the template 'total and deterministic' (their statements: YthigmppalpkadaaDoorTotals.lean).
  GIVEN WITH THE SEED: the statements are not yours to turn. If you find one false, say at which input.
  Laid BY PROGRAM, IN A SANDBOX (cutbox-rows.mjs): the forced cells as the released guide's own fill.sh prints them over the translation 13383794a1f8276f… (all of the seat's roots in one cut). By AI agents, Wed Nov 11 2026. No macro, syntax, notation, axiom, sorry.
-/
import Derived.Test.YthigmppalpkadaaDoorChecked
import GoSem.Claim
import GoSem.ClaimJoined
import GoSem.ClaimMapViews
import Derived.JoinedTies
import Derived.KernelRfl
namespace Go.Proofs.YthigmppalpkadaaDoor
/- THE CELL 'sum', in the pinned program and in every row, IS THE sha256 OF THE DUMP (.gsa) THAT YthigmppalpkadaaDoorProg.lean LOADS. Nothing in Lean hashes anything: it is a label: what it is worth is what the hold of that sum in a sandbox is worth. -/
noncomputable def Tryd.pinned : Pinned := { name := "ythigmppalpkadaadoor", sum := "13383794a1f8276f8b154989e5513ea0eee5d28c7b2f74d597eb6dfbc65695f0", checked := Tryd.checked }
namespace Rows
def none {H : Type} : Left H := { results := [], args := [] }

/- WHAT THE LISTED PACKAGE-LEVEL VARIABLES READ AS WHEN THE CALL BEGINS. Each datum BY PROGRAM (the guide's laid-datum.mjs) off the statement by which the dump's own 'gosem.cut.vars' lays the variable. In a bare row this is a premise. The card (YthigmppalpkadaaDoorCards.lean) ties it to the program's text. -/
def laid_loop_example_g00648_impl_nibbleSums {H : Type} : DataW H := .agg [.lit (.int .u32 0), .lit (.int .u32 498536548), .lit (.int .u32 997073096), .lit (.int .u32 651767980), .lit (.int .u32 1994146192), .lit (.int .u32 1802195444), .lit (.int .u32 1303535960), .lit (.int .u32 1342533948), .lit (.int .u32 3988292384), .lit (.int .u32 4027552580), .lit (.int .u32 3604390888), .lit (.int .u32 3412177804), .lit (.int .u32 2607071920), .lit (.int .u32 2262029012), .lit (.int .u32 2685067896), .lit (.int .u32 3183342108)]

/-- 'laws.FnSupers': WHATEVER THE INPUT: true; the input reads as it did. -/
def fnSupersSpec : ChangeSpec := { name := "fnSupers", vars := ["loop.example/g00648/impl.nibbleSums"], fn := fun _ => fun
  | [d, g1] => { results := [.lit (.bool true)], args := [d], vars := [g1] }
  | _ => none }
def fnSupersRow : OpenClaim := { program := "ythigmppalpkadaadoor", sum := "13383794a1f8276f8b154989e5513ea0eee5d28c7b2f74d597eb6dfbc65695f0", func := "loop.example/g00648/laws.FnSupers", spec := "fnSupers", named := ["loop.example/g00648/impl.nibbleSums"], apart := false, laid := [("loop.example/g00648/impl.nibbleSums", laid_loop_example_g00648_impl_nibbleSums)] }
def FnSupersSaid : Prop := fnSupersRow.holds Tryd.pinned (OpenSpec.ofChange fnSupersSpec)

/-- ITS FALSE NEIGHBOUR: 'it returns false'. Refute it at one input. -/
def fnSupersWrong : ChangeSpec := { name := "fnSupers", vars := ["loop.example/g00648/impl.nibbleSums"], fn := fun _ => fun
  | [d, g1] => { results := [.lit (.bool false)], args := [d], vars := [g1] }
  | _ => none }
def FnSupersWrongFalsely : Prop := fnSupersRow.holds Tryd.pinned (OpenSpec.ofChange fnSupersWrong)

/-- 'laws.FnRecords': WHATEVER THE INPUT: true; the input reads as it did. -/
def fnRecordsSpec : ChangeSpec := { name := "fnRecords", vars := ["loop.example/g00648/impl.nibbleSums"], fn := fun _ => fun
  | [d, g1] => { results := [.lit (.bool true)], args := [d], vars := [g1] }
  | _ => none }
def fnRecordsRow : OpenClaim := { program := "ythigmppalpkadaadoor", sum := "13383794a1f8276f8b154989e5513ea0eee5d28c7b2f74d597eb6dfbc65695f0", func := "loop.example/g00648/laws.FnRecords", spec := "fnRecords", named := ["loop.example/g00648/impl.nibbleSums"], apart := false, laid := [("loop.example/g00648/impl.nibbleSums", laid_loop_example_g00648_impl_nibbleSums)] }
def FnRecordsSaid : Prop := fnRecordsRow.holds Tryd.pinned (OpenSpec.ofChange fnRecordsSpec)

/-- ITS FALSE NEIGHBOUR: 'it returns false'. Refute it at one input. -/
def fnRecordsWrong : ChangeSpec := { name := "fnRecords", vars := ["loop.example/g00648/impl.nibbleSums"], fn := fun _ => fun
  | [d, g1] => { results := [.lit (.bool false)], args := [d], vars := [g1] }
  | _ => none }
def FnRecordsWrongFalsely : Prop := fnRecordsRow.holds Tryd.pinned (OpenSpec.ofChange fnRecordsWrong)

/-- 'laws.FnFormats': WHATEVER THE INPUT: true; the input reads as it did. -/
def fnFormatsSpec : ChangeSpec := { name := "fnFormats", vars := ["loop.example/g00648/impl.nibbleSums"], fn := fun _ => fun
  | [d, g1] => { results := [.lit (.bool true)], args := [d], vars := [g1] }
  | _ => none }
def fnFormatsRow : OpenClaim := { program := "ythigmppalpkadaadoor", sum := "13383794a1f8276f8b154989e5513ea0eee5d28c7b2f74d597eb6dfbc65695f0", func := "loop.example/g00648/laws.FnFormats", spec := "fnFormats", named := ["loop.example/g00648/impl.nibbleSums"], apart := false, laid := [("loop.example/g00648/impl.nibbleSums", laid_loop_example_g00648_impl_nibbleSums)] }
def FnFormatsSaid : Prop := fnFormatsRow.holds Tryd.pinned (OpenSpec.ofChange fnFormatsSpec)

/-- ITS FALSE NEIGHBOUR: 'it returns false'. Refute it at one input. -/
def fnFormatsWrong : ChangeSpec := { name := "fnFormats", vars := ["loop.example/g00648/impl.nibbleSums"], fn := fun _ => fun
  | [d, g1] => { results := [.lit (.bool false)], args := [d], vars := [g1] }
  | _ => none }
def FnFormatsWrongFalsely : Prop := fnFormatsRow.holds Tryd.pinned (OpenSpec.ofChange fnFormatsWrong)

/-- 'laws.FnExactSuperLine': WHATEVER THE INPUT: true; the input reads as it did. -/
def fnExactSuperLineSpec : ChangeSpec := { name := "fnExactSuperLine", vars := ["loop.example/g00648/impl.nibbleSums"], fn := fun _ => fun
  | [d, g1] => { results := [.lit (.bool true)], args := [d], vars := [g1] }
  | _ => none }
def fnExactSuperLineRow : OpenClaim := { program := "ythigmppalpkadaadoor", sum := "13383794a1f8276f8b154989e5513ea0eee5d28c7b2f74d597eb6dfbc65695f0", func := "loop.example/g00648/laws.FnExactSuperLine", spec := "fnExactSuperLine", named := ["loop.example/g00648/impl.nibbleSums"], apart := false, laid := [("loop.example/g00648/impl.nibbleSums", laid_loop_example_g00648_impl_nibbleSums)] }
def FnExactSuperLineSaid : Prop := fnExactSuperLineRow.holds Tryd.pinned (OpenSpec.ofChange fnExactSuperLineSpec)

/-- ITS FALSE NEIGHBOUR: 'it returns false'. Refute it at one input. -/
def fnExactSuperLineWrong : ChangeSpec := { name := "fnExactSuperLine", vars := ["loop.example/g00648/impl.nibbleSums"], fn := fun _ => fun
  | [d, g1] => { results := [.lit (.bool false)], args := [d], vars := [g1] }
  | _ => none }
def FnExactSuperLineWrongFalsely : Prop := fnExactSuperLineRow.holds Tryd.pinned (OpenSpec.ofChange fnExactSuperLineWrong)

/-- 'laws.FnExactReadSuper': WHATEVER THE INPUT: true; the input reads as it did. -/
def fnExactReadSuperSpec : ChangeSpec := { name := "fnExactReadSuper", vars := ["loop.example/g00648/impl.nibbleSums"], fn := fun _ => fun
  | [d, g1] => { results := [.lit (.bool true)], args := [d], vars := [g1] }
  | _ => none }
def fnExactReadSuperRow : OpenClaim := { program := "ythigmppalpkadaadoor", sum := "13383794a1f8276f8b154989e5513ea0eee5d28c7b2f74d597eb6dfbc65695f0", func := "loop.example/g00648/laws.FnExactReadSuper", spec := "fnExactReadSuper", named := ["loop.example/g00648/impl.nibbleSums"], apart := false, laid := [("loop.example/g00648/impl.nibbleSums", laid_loop_example_g00648_impl_nibbleSums)] }
def FnExactReadSuperSaid : Prop := fnExactReadSuperRow.holds Tryd.pinned (OpenSpec.ofChange fnExactReadSuperSpec)

/-- ITS FALSE NEIGHBOUR: 'it returns false'. Refute it at one input. -/
def fnExactReadSuperWrong : ChangeSpec := { name := "fnExactReadSuper", vars := ["loop.example/g00648/impl.nibbleSums"], fn := fun _ => fun
  | [d, g1] => { results := [.lit (.bool false)], args := [d], vars := [g1] }
  | _ => none }
def FnExactReadSuperWrongFalsely : Prop := fnExactReadSuperRow.holds Tryd.pinned (OpenSpec.ofChange fnExactReadSuperWrong)

/-- 'laws.FnExactRecordLine': WHATEVER THE INPUT: true; the input reads as it did. -/
def fnExactRecordLineSpec : ChangeSpec := { name := "fnExactRecordLine", vars := ["loop.example/g00648/impl.nibbleSums"], fn := fun _ => fun
  | [d, g1] => { results := [.lit (.bool true)], args := [d], vars := [g1] }
  | _ => none }
def fnExactRecordLineRow : OpenClaim := { program := "ythigmppalpkadaadoor", sum := "13383794a1f8276f8b154989e5513ea0eee5d28c7b2f74d597eb6dfbc65695f0", func := "loop.example/g00648/laws.FnExactRecordLine", spec := "fnExactRecordLine", named := ["loop.example/g00648/impl.nibbleSums"], apart := false, laid := [("loop.example/g00648/impl.nibbleSums", laid_loop_example_g00648_impl_nibbleSums)] }
def FnExactRecordLineSaid : Prop := fnExactRecordLineRow.holds Tryd.pinned (OpenSpec.ofChange fnExactRecordLineSpec)

/-- ITS FALSE NEIGHBOUR: 'it returns false'. Refute it at one input. -/
def fnExactRecordLineWrong : ChangeSpec := { name := "fnExactRecordLine", vars := ["loop.example/g00648/impl.nibbleSums"], fn := fun _ => fun
  | [d, g1] => { results := [.lit (.bool false)], args := [d], vars := [g1] }
  | _ => none }
def FnExactRecordLineWrongFalsely : Prop := fnExactRecordLineRow.holds Tryd.pinned (OpenSpec.ofChange fnExactRecordLineWrong)

/-- 'laws.FnExactReadRecord': WHATEVER THE INPUT: true; the input reads as it did. -/
def fnExactReadRecordSpec : ChangeSpec := { name := "fnExactReadRecord", vars := ["loop.example/g00648/impl.nibbleSums"], fn := fun _ => fun
  | [d, g1] => { results := [.lit (.bool true)], args := [d], vars := [g1] }
  | _ => none }
def fnExactReadRecordRow : OpenClaim := { program := "ythigmppalpkadaadoor", sum := "13383794a1f8276f8b154989e5513ea0eee5d28c7b2f74d597eb6dfbc65695f0", func := "loop.example/g00648/laws.FnExactReadRecord", spec := "fnExactReadRecord", named := ["loop.example/g00648/impl.nibbleSums"], apart := false, laid := [("loop.example/g00648/impl.nibbleSums", laid_loop_example_g00648_impl_nibbleSums)] }
def FnExactReadRecordSaid : Prop := fnExactReadRecordRow.holds Tryd.pinned (OpenSpec.ofChange fnExactReadRecordSpec)

/-- ITS FALSE NEIGHBOUR: 'it returns false'. Refute it at one input. -/
def fnExactReadRecordWrong : ChangeSpec := { name := "fnExactReadRecord", vars := ["loop.example/g00648/impl.nibbleSums"], fn := fun _ => fun
  | [d, g1] => { results := [.lit (.bool false)], args := [d], vars := [g1] }
  | _ => none }
def FnExactReadRecordWrongFalsely : Prop := fnExactReadRecordRow.holds Tryd.pinned (OpenSpec.ofChange fnExactReadRecordWrong)

/-- 'laws.FnExactFormat': WHATEVER THE INPUT: true; the input reads as it did. -/
def fnExactFormatSpec : ChangeSpec := { name := "fnExactFormat", vars := ["loop.example/g00648/impl.nibbleSums"], fn := fun _ => fun
  | [d, g1] => { results := [.lit (.bool true)], args := [d], vars := [g1] }
  | _ => none }
def fnExactFormatRow : OpenClaim := { program := "ythigmppalpkadaadoor", sum := "13383794a1f8276f8b154989e5513ea0eee5d28c7b2f74d597eb6dfbc65695f0", func := "loop.example/g00648/laws.FnExactFormat", spec := "fnExactFormat", named := ["loop.example/g00648/impl.nibbleSums"], apart := false, laid := [("loop.example/g00648/impl.nibbleSums", laid_loop_example_g00648_impl_nibbleSums)] }
def FnExactFormatSaid : Prop := fnExactFormatRow.holds Tryd.pinned (OpenSpec.ofChange fnExactFormatSpec)

/-- ITS FALSE NEIGHBOUR: 'it returns false'. Refute it at one input. -/
def fnExactFormatWrong : ChangeSpec := { name := "fnExactFormat", vars := ["loop.example/g00648/impl.nibbleSums"], fn := fun _ => fun
  | [d, g1] => { results := [.lit (.bool false)], args := [d], vars := [g1] }
  | _ => none }
def FnExactFormatWrongFalsely : Prop := fnExactFormatRow.holds Tryd.pinned (OpenSpec.ofChange fnExactFormatWrong)

/- THE SECOND FORM. 'bulk': how many values and letters a reading holds, each counted each time it is reached (what is shared counts as often as it is met; a slice's spare places count too). A statement '..UptoSaid' is the law's where the arguments, and the package variables that the reading takes, are together of bulk at most 1048576: NARROWER than '..Said'. Prove '..Said' where nothing that the law and all that it calls make is longer than what came in: it says more and counts as full. Else prove '..UptoSaid'. A law counts once. -/
mutual
def uptoBulk {H : Type} : DataW H → Nat
  | .lit (.string bytes) => bytes.length + 1
  | .lit _ => 1
  | .nil => 1
  | .ptr d => uptoBulk d + 1
  | .slice elems spare => uptoBulkAll elems + uptoBulkAll spare + 1
  | .agg parts => uptoBulkAll parts + 1
  | .iface _ d => uptoBulk d + 1
  | .map entries => uptoBulkEntries entries + 1
  | .held _ => 1
def uptoBulkAll {H : Type} : List (DataW H) → Nat
  | [] => 0
  | d :: r => uptoBulk d + uptoBulkAll r
def uptoBulkEntries {H : Type} : List (Lit × DataW H) → Nat
  | [] => 0
  | x :: r => uptoBulkEntry x + uptoBulkEntries r
def uptoBulkEntry {H : Type} : Lit × DataW H → Nat
  | (.string bytes, d) => bytes.length + uptoBulk d + 1
  | (_, d) => uptoBulk d + 1
 end
def uptoSmall : (H : Type) → List (DataW H) → Bool := fun _ ds => decide (uptoBulkAll ds ≤ 1048576)
def OpenSpec.upto (s : _root_.Go.ChangeSpec) : _root_.Go.OpenSpec := { _root_.Go.OpenSpec.ofChange s with cond := some uptoSmall }

/-- 'laws.FnSupers', WHERE WHAT IT READS IS OF BULK AT MOST 1048576: true; the input reads as it did. -/
def fnSupersUptoRow : OpenClaim := { program := "ythigmppalpkadaadoor", sum := "13383794a1f8276f8b154989e5513ea0eee5d28c7b2f74d597eb6dfbc65695f0", func := "loop.example/g00648/laws.FnSupers", spec := "fnSupers", named := ["loop.example/g00648/impl.nibbleSums"], apart := false, laid := [("loop.example/g00648/impl.nibbleSums", laid_loop_example_g00648_impl_nibbleSums)], narrowed := true }
def FnSupersUptoSaid : Prop := fnSupersUptoRow.holds Tryd.pinned (OpenSpec.upto fnSupersSpec)

/-- 'laws.FnRecords', WHERE WHAT IT READS IS OF BULK AT MOST 1048576: true; the input reads as it did. -/
def fnRecordsUptoRow : OpenClaim := { program := "ythigmppalpkadaadoor", sum := "13383794a1f8276f8b154989e5513ea0eee5d28c7b2f74d597eb6dfbc65695f0", func := "loop.example/g00648/laws.FnRecords", spec := "fnRecords", named := ["loop.example/g00648/impl.nibbleSums"], apart := false, laid := [("loop.example/g00648/impl.nibbleSums", laid_loop_example_g00648_impl_nibbleSums)], narrowed := true }
def FnRecordsUptoSaid : Prop := fnRecordsUptoRow.holds Tryd.pinned (OpenSpec.upto fnRecordsSpec)

/-- 'laws.FnFormats', WHERE WHAT IT READS IS OF BULK AT MOST 1048576: true; the input reads as it did. -/
def fnFormatsUptoRow : OpenClaim := { program := "ythigmppalpkadaadoor", sum := "13383794a1f8276f8b154989e5513ea0eee5d28c7b2f74d597eb6dfbc65695f0", func := "loop.example/g00648/laws.FnFormats", spec := "fnFormats", named := ["loop.example/g00648/impl.nibbleSums"], apart := false, laid := [("loop.example/g00648/impl.nibbleSums", laid_loop_example_g00648_impl_nibbleSums)], narrowed := true }
def FnFormatsUptoSaid : Prop := fnFormatsUptoRow.holds Tryd.pinned (OpenSpec.upto fnFormatsSpec)

/-- 'laws.FnExactSuperLine', WHERE WHAT IT READS IS OF BULK AT MOST 1048576: true; the input reads as it did. -/
def fnExactSuperLineUptoRow : OpenClaim := { program := "ythigmppalpkadaadoor", sum := "13383794a1f8276f8b154989e5513ea0eee5d28c7b2f74d597eb6dfbc65695f0", func := "loop.example/g00648/laws.FnExactSuperLine", spec := "fnExactSuperLine", named := ["loop.example/g00648/impl.nibbleSums"], apart := false, laid := [("loop.example/g00648/impl.nibbleSums", laid_loop_example_g00648_impl_nibbleSums)], narrowed := true }
def FnExactSuperLineUptoSaid : Prop := fnExactSuperLineUptoRow.holds Tryd.pinned (OpenSpec.upto fnExactSuperLineSpec)

/-- 'laws.FnExactReadSuper', WHERE WHAT IT READS IS OF BULK AT MOST 1048576: true; the input reads as it did. -/
def fnExactReadSuperUptoRow : OpenClaim := { program := "ythigmppalpkadaadoor", sum := "13383794a1f8276f8b154989e5513ea0eee5d28c7b2f74d597eb6dfbc65695f0", func := "loop.example/g00648/laws.FnExactReadSuper", spec := "fnExactReadSuper", named := ["loop.example/g00648/impl.nibbleSums"], apart := false, laid := [("loop.example/g00648/impl.nibbleSums", laid_loop_example_g00648_impl_nibbleSums)], narrowed := true }
def FnExactReadSuperUptoSaid : Prop := fnExactReadSuperUptoRow.holds Tryd.pinned (OpenSpec.upto fnExactReadSuperSpec)

/-- 'laws.FnExactRecordLine', WHERE WHAT IT READS IS OF BULK AT MOST 1048576: true; the input reads as it did. -/
def fnExactRecordLineUptoRow : OpenClaim := { program := "ythigmppalpkadaadoor", sum := "13383794a1f8276f8b154989e5513ea0eee5d28c7b2f74d597eb6dfbc65695f0", func := "loop.example/g00648/laws.FnExactRecordLine", spec := "fnExactRecordLine", named := ["loop.example/g00648/impl.nibbleSums"], apart := false, laid := [("loop.example/g00648/impl.nibbleSums", laid_loop_example_g00648_impl_nibbleSums)], narrowed := true }
def FnExactRecordLineUptoSaid : Prop := fnExactRecordLineUptoRow.holds Tryd.pinned (OpenSpec.upto fnExactRecordLineSpec)

/-- 'laws.FnExactReadRecord', WHERE WHAT IT READS IS OF BULK AT MOST 1048576: true; the input reads as it did. -/
def fnExactReadRecordUptoRow : OpenClaim := { program := "ythigmppalpkadaadoor", sum := "13383794a1f8276f8b154989e5513ea0eee5d28c7b2f74d597eb6dfbc65695f0", func := "loop.example/g00648/laws.FnExactReadRecord", spec := "fnExactReadRecord", named := ["loop.example/g00648/impl.nibbleSums"], apart := false, laid := [("loop.example/g00648/impl.nibbleSums", laid_loop_example_g00648_impl_nibbleSums)], narrowed := true }
def FnExactReadRecordUptoSaid : Prop := fnExactReadRecordUptoRow.holds Tryd.pinned (OpenSpec.upto fnExactReadRecordSpec)

/-- 'laws.FnExactFormat', WHERE WHAT IT READS IS OF BULK AT MOST 1048576: true; the input reads as it did. -/
def fnExactFormatUptoRow : OpenClaim := { program := "ythigmppalpkadaadoor", sum := "13383794a1f8276f8b154989e5513ea0eee5d28c7b2f74d597eb6dfbc65695f0", func := "loop.example/g00648/laws.FnExactFormat", spec := "fnExactFormat", named := ["loop.example/g00648/impl.nibbleSums"], apart := false, laid := [("loop.example/g00648/impl.nibbleSums", laid_loop_example_g00648_impl_nibbleSums)], narrowed := true }
def FnExactFormatUptoSaid : Prop := fnExactFormatUptoRow.holds Tryd.pinned (OpenSpec.upto fnExactFormatSpec)

end Rows
end Go.Proofs.YthigmppalpkadaaDoor
