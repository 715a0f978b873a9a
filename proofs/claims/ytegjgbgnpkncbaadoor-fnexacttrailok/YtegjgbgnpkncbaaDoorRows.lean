/-
  NARROWER THAN 'FOR EVERY INPUT', by the rows' own cells (each row's printed sentence says how): FnExactLineWidths: laid · FnExactIndentsOf: laid · FnExactTrailOk: laid · FnExactLongLines: laid · FnExactWidestLine: laid.
  DERIVED. THE GIVEN ROWS OF THIS SEAT. 5 by the template 'for every input the law returns true; each argument reads behind the call as it read before'; 0 by the template 'total and deterministic' (their statements: YtegjgbgnpkncbaaDoorTotals.lean).
  GIVEN WITH THE SEED: the statements are not yours to turn. If you find one false, say at which input.
  Laid BY PROGRAM, IN A SANDBOX (cutbox-rows.mjs): the forced cells as the released guide's own fill.sh prints them over the translation dc0cda07e6dc152c… (all of the seat's roots in one cut). By AI agents, Wed Nov 11 2026. No macro, syntax, notation, axiom, sorry.
-/
import Derived.Test.YtegjgbgnpkncbaaDoorChecked
import GoSem.PinnedTables
import GoSem.Claim
import GoSem.ClaimJoined
import GoSem.ClaimMapViews
import Derived.JoinedTies
import Derived.KernelRfl
namespace Go.Proofs.YtegjgbgnpkncbaaDoor
/- THE CELL 'sum', in the pinned program and in every row, IS THE sha256 OF THE DUMP (.gsa) THAT YtegjgbgnpkncbaaDoorProg.lean LOADS. Nothing in Lean hashes anything: it is a label: what it is worth is what the hold of that sum in a sandbox is worth. -/
noncomputable def Tryd.pinned : Pinned := { name := "ytegjgbgnpkncbaadoor", sum := "dc0cda07e6dc152c4076d7894c75e64c2861a54d0611ed18eaf173af47cd58d1", checked := Tryd.checked }
namespace Rows
def none {H : Type} : Left H := { results := [], args := [] }

/- WHAT THE LISTED PACKAGE-LEVEL VARIABLES READ AS WHEN THE CALL BEGINS. Each datum BY PROGRAM (the guide's laid-datum.mjs) off the statement by which the dump's own 'gosem.cut.vars' lays the variable. In a bare row this is a premise. The card (YtegjgbgnpkncbaaDoorCards.lean) ties it to the program's text. -/
def laid_unicode_utf8_acceptRanges {H : Type} : DataW H := .agg [.agg [.lit (.int .u8 128), .lit (.int .u8 191)], .agg [.lit (.int .u8 160), .lit (.int .u8 191)], .agg [.lit (.int .u8 128), .lit (.int .u8 159)], .agg [.lit (.int .u8 144), .lit (.int .u8 191)], .agg [.lit (.int .u8 128), .lit (.int .u8 143)], .agg [.lit (.int .u8 0), .lit (.int .u8 0)], .agg [.lit (.int .u8 0), .lit (.int .u8 0)], .agg [.lit (.int .u8 0), .lit (.int .u8 0)], .agg [.lit (.int .u8 0), .lit (.int .u8 0)], .agg [.lit (.int .u8 0), .lit (.int .u8 0)], .agg [.lit (.int .u8 0), .lit (.int .u8 0)], .agg [.lit (.int .u8 0), .lit (.int .u8 0)], .agg [.lit (.int .u8 0), .lit (.int .u8 0)], .agg [.lit (.int .u8 0), .lit (.int .u8 0)], .agg [.lit (.int .u8 0), .lit (.int .u8 0)], .agg [.lit (.int .u8 0), .lit (.int .u8 0)]]
/-- One of Go's own tables, pinned by name: the form's constant. -/
def laid_unicode_utf8_first : DataW Unit := Go.Pinned.utf8First

/-- 'laws.FnExactLineWidths': WHATEVER THE INPUT: true; the input reads as it did. -/
def fnExactLineWidthsSpec : ChangeSpec := { name := "fnExactLineWidths", fn := fun _ => fun
  | [d] => { results := [.lit (.bool true)], args := [d] }
  | _ => none }
def fnExactLineWidthsRow : OpenClaim := { program := "ytegjgbgnpkncbaadoor", sum := "dc0cda07e6dc152c4076d7894c75e64c2861a54d0611ed18eaf173af47cd58d1", func := "loop.example/g00829/laws.FnExactLineWidths", spec := "fnExactLineWidths", inPlace := ["internal/bytealg.CountString", "internal/bytealg.IndexByteString", "internal/bytealg.IndexString"], unfollowed := true, recurses := true, named := ["unicode/utf8.first", "unicode/utf8.acceptRanges", "internal/bytealg.MaxLen"], apart := false, laid := [("unicode/utf8.acceptRanges", laid_unicode_utf8_acceptRanges), ("unicode/utf8.first", laid_unicode_utf8_first)] }
def FnExactLineWidthsSaid : Prop := fnExactLineWidthsRow.holds Tryd.pinned (OpenSpec.ofChange fnExactLineWidthsSpec)

/-- ITS FALSE NEIGHBOUR: 'it returns false'. Refute it at one input. -/
def fnExactLineWidthsWrong : ChangeSpec := { name := "fnExactLineWidths", fn := fun _ => fun
  | [d] => { results := [.lit (.bool false)], args := [d] }
  | _ => none }
def FnExactLineWidthsWrongFalsely : Prop := fnExactLineWidthsRow.holds Tryd.pinned (OpenSpec.ofChange fnExactLineWidthsWrong)

/-- 'laws.FnExactIndentsOf': WHATEVER THE INPUT: true; the input reads as it did. -/
def fnExactIndentsOfSpec : ChangeSpec := { name := "fnExactIndentsOf", fn := fun _ => fun
  | [d] => { results := [.lit (.bool true)], args := [d] }
  | _ => none }
def fnExactIndentsOfRow : OpenClaim := { program := "ytegjgbgnpkncbaadoor", sum := "dc0cda07e6dc152c4076d7894c75e64c2861a54d0611ed18eaf173af47cd58d1", func := "loop.example/g00829/laws.FnExactIndentsOf", spec := "fnExactIndentsOf", inPlace := ["internal/bytealg.CountString", "internal/bytealg.IndexByteString", "internal/bytealg.IndexString"], unfollowed := true, recurses := true, named := ["unicode/utf8.first", "unicode/utf8.acceptRanges", "internal/bytealg.MaxLen"], apart := false, laid := [("unicode/utf8.acceptRanges", laid_unicode_utf8_acceptRanges), ("unicode/utf8.first", laid_unicode_utf8_first)] }
def FnExactIndentsOfSaid : Prop := fnExactIndentsOfRow.holds Tryd.pinned (OpenSpec.ofChange fnExactIndentsOfSpec)

/-- ITS FALSE NEIGHBOUR: 'it returns false'. Refute it at one input. -/
def fnExactIndentsOfWrong : ChangeSpec := { name := "fnExactIndentsOf", fn := fun _ => fun
  | [d] => { results := [.lit (.bool false)], args := [d] }
  | _ => none }
def FnExactIndentsOfWrongFalsely : Prop := fnExactIndentsOfRow.holds Tryd.pinned (OpenSpec.ofChange fnExactIndentsOfWrong)

/-- 'laws.FnExactTrailOk': WHATEVER THE INPUT: true; the input reads as it did. -/
def fnExactTrailOkSpec : ChangeSpec := { name := "fnExactTrailOk", fn := fun _ => fun
  | [d] => { results := [.lit (.bool true)], args := [d] }
  | _ => none }
def fnExactTrailOkRow : OpenClaim := { program := "ytegjgbgnpkncbaadoor", sum := "dc0cda07e6dc152c4076d7894c75e64c2861a54d0611ed18eaf173af47cd58d1", func := "loop.example/g00829/laws.FnExactTrailOk", spec := "fnExactTrailOk", inPlace := ["internal/bytealg.CountString", "internal/bytealg.IndexByteString", "internal/bytealg.IndexString"], unfollowed := true, recurses := true, named := ["unicode/utf8.first", "unicode/utf8.acceptRanges", "internal/bytealg.MaxLen"], apart := false, laid := [("unicode/utf8.acceptRanges", laid_unicode_utf8_acceptRanges), ("unicode/utf8.first", laid_unicode_utf8_first)] }
def FnExactTrailOkSaid : Prop := fnExactTrailOkRow.holds Tryd.pinned (OpenSpec.ofChange fnExactTrailOkSpec)

/-- ITS FALSE NEIGHBOUR: 'it returns false'. Refute it at one input. -/
def fnExactTrailOkWrong : ChangeSpec := { name := "fnExactTrailOk", fn := fun _ => fun
  | [d] => { results := [.lit (.bool false)], args := [d] }
  | _ => none }
def FnExactTrailOkWrongFalsely : Prop := fnExactTrailOkRow.holds Tryd.pinned (OpenSpec.ofChange fnExactTrailOkWrong)

/-- 'laws.FnExactLongLines': WHATEVER THE INPUT: true; the input reads as it did. -/
def fnExactLongLinesSpec : ChangeSpec := { name := "fnExactLongLines", fn := fun _ => fun
  | [d1, d2] => { results := [.lit (.bool true)], args := [d1, d2] }
  | _ => none }
def fnExactLongLinesRow : OpenClaim := { program := "ytegjgbgnpkncbaadoor", sum := "dc0cda07e6dc152c4076d7894c75e64c2861a54d0611ed18eaf173af47cd58d1", func := "loop.example/g00829/laws.FnExactLongLines", spec := "fnExactLongLines", inPlace := ["internal/bytealg.CountString", "internal/bytealg.IndexByteString", "internal/bytealg.IndexString"], unfollowed := true, recurses := true, named := ["unicode/utf8.first", "unicode/utf8.acceptRanges", "internal/bytealg.MaxLen"], apart := false, laid := [("unicode/utf8.acceptRanges", laid_unicode_utf8_acceptRanges), ("unicode/utf8.first", laid_unicode_utf8_first)] }
def FnExactLongLinesSaid : Prop := fnExactLongLinesRow.holds Tryd.pinned (OpenSpec.ofChange fnExactLongLinesSpec)

/-- ITS FALSE NEIGHBOUR: 'it returns false'. Refute it at one input. -/
def fnExactLongLinesWrong : ChangeSpec := { name := "fnExactLongLines", fn := fun _ => fun
  | [d1, d2] => { results := [.lit (.bool false)], args := [d1, d2] }
  | _ => none }
def FnExactLongLinesWrongFalsely : Prop := fnExactLongLinesRow.holds Tryd.pinned (OpenSpec.ofChange fnExactLongLinesWrong)

/-- 'laws.FnExactWidestLine': WHATEVER THE INPUT: true; the input reads as it did. -/
def fnExactWidestLineSpec : ChangeSpec := { name := "fnExactWidestLine", fn := fun _ => fun
  | [d] => { results := [.lit (.bool true)], args := [d] }
  | _ => none }
def fnExactWidestLineRow : OpenClaim := { program := "ytegjgbgnpkncbaadoor", sum := "dc0cda07e6dc152c4076d7894c75e64c2861a54d0611ed18eaf173af47cd58d1", func := "loop.example/g00829/laws.FnExactWidestLine", spec := "fnExactWidestLine", inPlace := ["internal/bytealg.CountString", "internal/bytealg.IndexByteString", "internal/bytealg.IndexString"], unfollowed := true, recurses := true, named := ["unicode/utf8.first", "unicode/utf8.acceptRanges", "internal/bytealg.MaxLen"], apart := false, laid := [("unicode/utf8.acceptRanges", laid_unicode_utf8_acceptRanges), ("unicode/utf8.first", laid_unicode_utf8_first)] }
def FnExactWidestLineSaid : Prop := fnExactWidestLineRow.holds Tryd.pinned (OpenSpec.ofChange fnExactWidestLineSpec)

/-- ITS FALSE NEIGHBOUR: 'it returns false'. Refute it at one input. -/
def fnExactWidestLineWrong : ChangeSpec := { name := "fnExactWidestLine", fn := fun _ => fun
  | [d] => { results := [.lit (.bool false)], args := [d] }
  | _ => none }
def FnExactWidestLineWrongFalsely : Prop := fnExactWidestLineRow.holds Tryd.pinned (OpenSpec.ofChange fnExactWidestLineWrong)

/- THE SECOND FORM. 'bulk': how many values and letters a reading holds, each counted each time it is reached (what is shared counts as often as it is met; a slice's spare places count too). A statement '..UptoSaid' is the law's where the arguments, and the package variables that the reading takes, are together of bulk at most 1048576: NARROWER than '..Said'. Prove '..Said' where nothing that the law and all that it calls make is longer than what came in: it says more and counts as full. Else prove '..UptoSaid'. A law counts once. -/
mutual
def uptoBulk {H : Type} : DataW H → Nat
  | .lit (.string bytes) => bytes.length + 1
  | .lit _ => 1
  | .nil => 1
  | .ptr d => uptoBulk d + 1
  | .slice elems spare => uptoBulkAll elems + uptoBulkAll spare + 1
  | .agg parts => uptoBulkAll parts + 1
  | .iface _ d => uptoBulk d + 1
  | .map entries => uptoBulkEntries entries + 1
  | .held _ => 1
def uptoBulkAll {H : Type} : List (DataW H) → Nat
  | [] => 0
  | d :: r => uptoBulk d + uptoBulkAll r
def uptoBulkEntries {H : Type} : List (Lit × DataW H) → Nat
  | [] => 0
  | x :: r => uptoBulkEntry x + uptoBulkEntries r
def uptoBulkEntry {H : Type} : Lit × DataW H → Nat
  | (.string bytes, d) => bytes.length + uptoBulk d + 1
  | (_, d) => uptoBulk d + 1
 end
def uptoSmall : (H : Type) → List (DataW H) → Bool := fun _ ds => decide (uptoBulkAll ds ≤ 1048576)
def OpenSpec.upto (s : _root_.Go.ChangeSpec) : _root_.Go.OpenSpec := { _root_.Go.OpenSpec.ofChange s with cond := some uptoSmall }

/-- 'laws.FnExactLineWidths', WHERE WHAT IT READS IS OF BULK AT MOST 1048576: true; the input reads as it did. -/
def fnExactLineWidthsUptoRow : OpenClaim := { program := "ytegjgbgnpkncbaadoor", sum := "dc0cda07e6dc152c4076d7894c75e64c2861a54d0611ed18eaf173af47cd58d1", func := "loop.example/g00829/laws.FnExactLineWidths", spec := "fnExactLineWidths", inPlace := ["internal/bytealg.CountString", "internal/bytealg.IndexByteString", "internal/bytealg.IndexString"], unfollowed := true, recurses := true, named := ["unicode/utf8.first", "unicode/utf8.acceptRanges", "internal/bytealg.MaxLen"], apart := false, laid := [("unicode/utf8.acceptRanges", laid_unicode_utf8_acceptRanges), ("unicode/utf8.first", laid_unicode_utf8_first)], narrowed := true }
def FnExactLineWidthsUptoSaid : Prop := fnExactLineWidthsUptoRow.holds Tryd.pinned (OpenSpec.upto fnExactLineWidthsSpec)

/-- 'laws.FnExactIndentsOf', WHERE WHAT IT READS IS OF BULK AT MOST 1048576: true; the input reads as it did. -/
def fnExactIndentsOfUptoRow : OpenClaim := { program := "ytegjgbgnpkncbaadoor", sum := "dc0cda07e6dc152c4076d7894c75e64c2861a54d0611ed18eaf173af47cd58d1", func := "loop.example/g00829/laws.FnExactIndentsOf", spec := "fnExactIndentsOf", inPlace := ["internal/bytealg.CountString", "internal/bytealg.IndexByteString", "internal/bytealg.IndexString"], unfollowed := true, recurses := true, named := ["unicode/utf8.first", "unicode/utf8.acceptRanges", "internal/bytealg.MaxLen"], apart := false, laid := [("unicode/utf8.acceptRanges", laid_unicode_utf8_acceptRanges), ("unicode/utf8.first", laid_unicode_utf8_first)], narrowed := true }
def FnExactIndentsOfUptoSaid : Prop := fnExactIndentsOfUptoRow.holds Tryd.pinned (OpenSpec.upto fnExactIndentsOfSpec)

/-- 'laws.FnExactTrailOk', WHERE WHAT IT READS IS OF BULK AT MOST 1048576: true; the input reads as it did. -/
def fnExactTrailOkUptoRow : OpenClaim := { program := "ytegjgbgnpkncbaadoor", sum := "dc0cda07e6dc152c4076d7894c75e64c2861a54d0611ed18eaf173af47cd58d1", func := "loop.example/g00829/laws.FnExactTrailOk", spec := "fnExactTrailOk", inPlace := ["internal/bytealg.CountString", "internal/bytealg.IndexByteString", "internal/bytealg.IndexString"], unfollowed := true, recurses := true, named := ["unicode/utf8.first", "unicode/utf8.acceptRanges", "internal/bytealg.MaxLen"], apart := false, laid := [("unicode/utf8.acceptRanges", laid_unicode_utf8_acceptRanges), ("unicode/utf8.first", laid_unicode_utf8_first)], narrowed := true }
def FnExactTrailOkUptoSaid : Prop := fnExactTrailOkUptoRow.holds Tryd.pinned (OpenSpec.upto fnExactTrailOkSpec)

/-- 'laws.FnExactLongLines', WHERE WHAT IT READS IS OF BULK AT MOST 1048576: true; the input reads as it did. -/
def fnExactLongLinesUptoRow : OpenClaim := { program := "ytegjgbgnpkncbaadoor", sum := "dc0cda07e6dc152c4076d7894c75e64c2861a54d0611ed18eaf173af47cd58d1", func := "loop.example/g00829/laws.FnExactLongLines", spec := "fnExactLongLines", inPlace := ["internal/bytealg.CountString", "internal/bytealg.IndexByteString", "internal/bytealg.IndexString"], unfollowed := true, recurses := true, named := ["unicode/utf8.first", "unicode/utf8.acceptRanges", "internal/bytealg.MaxLen"], apart := false, laid := [("unicode/utf8.acceptRanges", laid_unicode_utf8_acceptRanges), ("unicode/utf8.first", laid_unicode_utf8_first)], narrowed := true }
def FnExactLongLinesUptoSaid : Prop := fnExactLongLinesUptoRow.holds Tryd.pinned (OpenSpec.upto fnExactLongLinesSpec)

/-- 'laws.FnExactWidestLine', WHERE WHAT IT READS IS OF BULK AT MOST 1048576: true; the input reads as it did. -/
def fnExactWidestLineUptoRow : OpenClaim := { program := "ytegjgbgnpkncbaadoor", sum := "dc0cda07e6dc152c4076d7894c75e64c2861a54d0611ed18eaf173af47cd58d1", func := "loop.example/g00829/laws.FnExactWidestLine", spec := "fnExactWidestLine", inPlace := ["internal/bytealg.CountString", "internal/bytealg.IndexByteString", "internal/bytealg.IndexString"], unfollowed := true, recurses := true, named := ["unicode/utf8.first", "unicode/utf8.acceptRanges", "internal/bytealg.MaxLen"], apart := false, laid := [("unicode/utf8.acceptRanges", laid_unicode_utf8_acceptRanges), ("unicode/utf8.first", laid_unicode_utf8_first)], narrowed := true }
def FnExactWidestLineUptoSaid : Prop := fnExactWidestLineUptoRow.holds Tryd.pinned (OpenSpec.upto fnExactWidestLineSpec)

end Rows
end Go.Proofs.YtegjgbgnpkncbaaDoor
