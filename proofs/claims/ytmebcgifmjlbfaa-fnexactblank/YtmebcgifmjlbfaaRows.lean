/-
  No cell of these rows narrows 'for every input' (looked for: loops, veiled, ifaces, maps, wideKeys, modest, calm, conditions, laid).
  DERIVED. THE GIVEN ROWS OF THIS SEAT. 10 by the template 'for every input the law returns true; each argument reads behind the call as it read before'; 0 by the template 'total and deterministic' (their statements: YtmebcgifmjlbfaaTotals.lean).
  GIVEN WITH THE SEED: the statements are not yours to turn. If you find one false, say at which input.
  Laid BY PROGRAM, IN A SANDBOX (cutbox-rows.mjs): the forced cells as the released guide's own fill.sh prints them over the translation 91038821056a8946… (all of the seat's roots in one cut). By AI agents, Wed Nov 11 2026. No macro, syntax, notation, axiom, sorry.
-/
import Derived.Test.YtmebcgifmjlbfaaChecked
import GoSem.Claim
import GoSem.ClaimJoined
import GoSem.ClaimMapViews
import Derived.JoinedTies
import Derived.KernelRfl
namespace Go.Proofs.Ytmebcgifmjlbfaa
/- THE CELL 'sum', in the pinned program and in every row, IS THE sha256 OF THE DUMP (.gsa) THAT YtmebcgifmjlbfaaProg.lean LOADS. Nothing in Lean hashes anything: it is a label: what it is worth is what the hold of that sum in a sandbox is worth. -/
noncomputable def Try.pinned : Pinned := { name := "ytmebcgifmjlbfaa", sum := "91038821056a894609e293bc3a6fb6b1ef982e4fcaf5ad66c98eac8e3ada5201", checked := Try.checked }
namespace Rows
def none {H : Type} : Left H := { results := [], args := [] }

/-- 'laws.FnExactTokenOk': WHATEVER THE INPUT: true; the input reads as it did. -/
def fnExactTokenOkSpec : ChangeSpec := { name := "fnExactTokenOk", fn := fun _ => fun
  | [d] => { results := [.lit (.bool true)], args := [d] }
  | _ => none }
def fnExactTokenOkRow : OpenClaim := { program := "ytmebcgifmjlbfaa", sum := "91038821056a894609e293bc3a6fb6b1ef982e4fcaf5ad66c98eac8e3ada5201", func := "loop.example/g00829/laws.FnExactTokenOk", spec := "fnExactTokenOk", unfollowed := true, recurses := true, apart := false }
def FnExactTokenOkSaid : Prop := fnExactTokenOkRow.holds Try.pinned (OpenSpec.ofChange fnExactTokenOkSpec)

/-- ITS FALSE NEIGHBOUR: 'it returns false'. Refute it at one input. -/
def fnExactTokenOkWrong : ChangeSpec := { name := "fnExactTokenOk", fn := fun _ => fun
  | [d] => { results := [.lit (.bool false)], args := [d] }
  | _ => none }
def FnExactTokenOkWrongFalsely : Prop := fnExactTokenOkRow.holds Try.pinned (OpenSpec.ofChange fnExactTokenOkWrong)

/-- 'laws.FnExactWidthOf': WHATEVER THE INPUT: true; the input reads as it did. -/
def fnExactWidthOfSpec : ChangeSpec := { name := "fnExactWidthOf", fn := fun _ => fun
  | [d] => { results := [.lit (.bool true)], args := [d] }
  | _ => none }
def fnExactWidthOfRow : OpenClaim := { program := "ytmebcgifmjlbfaa", sum := "91038821056a894609e293bc3a6fb6b1ef982e4fcaf5ad66c98eac8e3ada5201", func := "loop.example/g00829/laws.FnExactWidthOf", spec := "fnExactWidthOf", unfollowed := true, recurses := true, apart := false }
def FnExactWidthOfSaid : Prop := fnExactWidthOfRow.holds Try.pinned (OpenSpec.ofChange fnExactWidthOfSpec)

/-- ITS FALSE NEIGHBOUR: 'it returns false'. Refute it at one input. -/
def fnExactWidthOfWrong : ChangeSpec := { name := "fnExactWidthOf", fn := fun _ => fun
  | [d] => { results := [.lit (.bool false)], args := [d] }
  | _ => none }
def FnExactWidthOfWrongFalsely : Prop := fnExactWidthOfRow.holds Try.pinned (OpenSpec.ofChange fnExactWidthOfWrong)

/-- 'laws.FnExactIsBreak': WHATEVER THE INPUT: true; the input reads as it did. -/
def fnExactIsBreakSpec : ChangeSpec := { name := "fnExactIsBreak", fn := fun _ => fun
  | [d] => { results := [.lit (.bool true)], args := [d] }
  | _ => none }
def fnExactIsBreakRow : OpenClaim := { program := "ytmebcgifmjlbfaa", sum := "91038821056a894609e293bc3a6fb6b1ef982e4fcaf5ad66c98eac8e3ada5201", func := "loop.example/g00829/laws.FnExactIsBreak", spec := "fnExactIsBreak", unfollowed := true, recurses := true, apart := false }
def FnExactIsBreakSaid : Prop := fnExactIsBreakRow.holds Try.pinned (OpenSpec.ofChange fnExactIsBreakSpec)

/-- ITS FALSE NEIGHBOUR: 'it returns false'. Refute it at one input. -/
def fnExactIsBreakWrong : ChangeSpec := { name := "fnExactIsBreak", fn := fun _ => fun
  | [d] => { results := [.lit (.bool false)], args := [d] }
  | _ => none }
def FnExactIsBreakWrongFalsely : Prop := fnExactIsBreakRow.holds Try.pinned (OpenSpec.ofChange fnExactIsBreakWrong)

/-- 'laws.FnExactTokenText': WHATEVER THE INPUT: true; the input reads as it did. -/
def fnExactTokenTextSpec : ChangeSpec := { name := "fnExactTokenText", fn := fun _ => fun
  | [d] => { results := [.lit (.bool true)], args := [d] }
  | _ => none }
def fnExactTokenTextRow : OpenClaim := { program := "ytmebcgifmjlbfaa", sum := "91038821056a894609e293bc3a6fb6b1ef982e4fcaf5ad66c98eac8e3ada5201", func := "loop.example/g00829/laws.FnExactTokenText", spec := "fnExactTokenText", unfollowed := true, recurses := true, apart := false }
def FnExactTokenTextSaid : Prop := fnExactTokenTextRow.holds Try.pinned (OpenSpec.ofChange fnExactTokenTextSpec)

/-- ITS FALSE NEIGHBOUR: 'it returns false'. Refute it at one input. -/
def fnExactTokenTextWrong : ChangeSpec := { name := "fnExactTokenText", fn := fun _ => fun
  | [d] => { results := [.lit (.bool false)], args := [d] }
  | _ => none }
def FnExactTokenTextWrongFalsely : Prop := fnExactTokenTextRow.holds Try.pinned (OpenSpec.ofChange fnExactTokenTextWrong)

/-- 'laws.FnExactParseToken': WHATEVER THE INPUT: true; the input reads as it did. -/
def fnExactParseTokenSpec : ChangeSpec := { name := "fnExactParseToken", fn := fun _ => fun
  | [d] => { results := [.lit (.bool true)], args := [d] }
  | _ => none }
def fnExactParseTokenRow : OpenClaim := { program := "ytmebcgifmjlbfaa", sum := "91038821056a894609e293bc3a6fb6b1ef982e4fcaf5ad66c98eac8e3ada5201", func := "loop.example/g00829/laws.FnExactParseToken", spec := "fnExactParseToken", unfollowed := true, recurses := true, apart := false }
def FnExactParseTokenSaid : Prop := fnExactParseTokenRow.holds Try.pinned (OpenSpec.ofChange fnExactParseTokenSpec)

/-- ITS FALSE NEIGHBOUR: 'it returns false'. Refute it at one input. -/
def fnExactParseTokenWrong : ChangeSpec := { name := "fnExactParseToken", fn := fun _ => fun
  | [d] => { results := [.lit (.bool false)], args := [d] }
  | _ => none }
def FnExactParseTokenWrongFalsely : Prop := fnExactParseTokenRow.holds Try.pinned (OpenSpec.ofChange fnExactParseTokenWrong)

/-- 'laws.FnExactTxt': WHATEVER THE INPUT: true; the input reads as it did. -/
def fnExactTxtSpec : ChangeSpec := { name := "fnExactTxt", fn := fun _ => fun
  | [d] => { results := [.lit (.bool true)], args := [d] }
  | _ => none }
def fnExactTxtRow : OpenClaim := { program := "ytmebcgifmjlbfaa", sum := "91038821056a894609e293bc3a6fb6b1ef982e4fcaf5ad66c98eac8e3ada5201", func := "loop.example/g00829/laws.FnExactTxt", spec := "fnExactTxt", unfollowed := true, recurses := true, apart := false }
def FnExactTxtSaid : Prop := fnExactTxtRow.holds Try.pinned (OpenSpec.ofChange fnExactTxtSpec)

/-- ITS FALSE NEIGHBOUR: 'it returns false'. Refute it at one input. -/
def fnExactTxtWrong : ChangeSpec := { name := "fnExactTxt", fn := fun _ => fun
  | [d] => { results := [.lit (.bool false)], args := [d] }
  | _ => none }
def FnExactTxtWrongFalsely : Prop := fnExactTxtRow.holds Try.pinned (OpenSpec.ofChange fnExactTxtWrong)

/-- 'laws.FnExactBlank': WHATEVER THE INPUT: true; the input reads as it did. -/
def fnExactBlankSpec : ChangeSpec := { name := "fnExactBlank", fn := fun _ => fun
  | [d1, d2] => { results := [.lit (.bool true)], args := [d1, d2] }
  | _ => none }
def fnExactBlankRow : OpenClaim := { program := "ytmebcgifmjlbfaa", sum := "91038821056a894609e293bc3a6fb6b1ef982e4fcaf5ad66c98eac8e3ada5201", func := "loop.example/g00829/laws.FnExactBlank", spec := "fnExactBlank", unfollowed := true, recurses := true, apart := false }
def FnExactBlankSaid : Prop := fnExactBlankRow.holds Try.pinned (OpenSpec.ofChange fnExactBlankSpec)

/-- ITS FALSE NEIGHBOUR: 'it returns false'. Refute it at one input. -/
def fnExactBlankWrong : ChangeSpec := { name := "fnExactBlank", fn := fun _ => fun
  | [d1, d2] => { results := [.lit (.bool false)], args := [d1, d2] }
  | _ => none }
def FnExactBlankWrongFalsely : Prop := fnExactBlankRow.holds Try.pinned (OpenSpec.ofChange fnExactBlankWrong)

/-- 'laws.FnExactBegin': WHATEVER THE INPUT: true; the input reads as it did. -/
def fnExactBeginSpec : ChangeSpec := { name := "fnExactBegin", fn := fun _ => fun
  | [d1, d2] => { results := [.lit (.bool true)], args := [d1, d2] }
  | _ => none }
def fnExactBeginRow : OpenClaim := { program := "ytmebcgifmjlbfaa", sum := "91038821056a894609e293bc3a6fb6b1ef982e4fcaf5ad66c98eac8e3ada5201", func := "loop.example/g00829/laws.FnExactBegin", spec := "fnExactBegin", unfollowed := true, recurses := true, apart := false }
def FnExactBeginSaid : Prop := fnExactBeginRow.holds Try.pinned (OpenSpec.ofChange fnExactBeginSpec)

/-- ITS FALSE NEIGHBOUR: 'it returns false'. Refute it at one input. -/
def fnExactBeginWrong : ChangeSpec := { name := "fnExactBegin", fn := fun _ => fun
  | [d1, d2] => { results := [.lit (.bool false)], args := [d1, d2] }
  | _ => none }
def FnExactBeginWrongFalsely : Prop := fnExactBeginRow.holds Try.pinned (OpenSpec.ofChange fnExactBeginWrong)

/-- 'laws.FnExactLine': WHATEVER THE INPUT: true; the input reads as it did. -/
def fnExactLineSpec : ChangeSpec := { name := "fnExactLine", fn := fun _ => fun
  | [d] => { results := [.lit (.bool true)], args := [d] }
  | _ => none }
def fnExactLineRow : OpenClaim := { program := "ytmebcgifmjlbfaa", sum := "91038821056a894609e293bc3a6fb6b1ef982e4fcaf5ad66c98eac8e3ada5201", func := "loop.example/g00829/laws.FnExactLine", spec := "fnExactLine", unfollowed := true, recurses := true, apart := false }
def FnExactLineSaid : Prop := fnExactLineRow.holds Try.pinned (OpenSpec.ofChange fnExactLineSpec)

/-- ITS FALSE NEIGHBOUR: 'it returns false'. Refute it at one input. -/
def fnExactLineWrong : ChangeSpec := { name := "fnExactLine", fn := fun _ => fun
  | [d] => { results := [.lit (.bool false)], args := [d] }
  | _ => none }
def FnExactLineWrongFalsely : Prop := fnExactLineRow.holds Try.pinned (OpenSpec.ofChange fnExactLineWrong)

/-- 'laws.FnTokens': WHATEVER THE INPUT: true; the input reads as it did. -/
def fnTokensSpec : ChangeSpec := { name := "fnTokens", fn := fun _ => fun
  | [d] => { results := [.lit (.bool true)], args := [d] }
  | _ => none }
def fnTokensRow : OpenClaim := { program := "ytmebcgifmjlbfaa", sum := "91038821056a894609e293bc3a6fb6b1ef982e4fcaf5ad66c98eac8e3ada5201", func := "loop.example/g00829/laws.FnTokens", spec := "fnTokens", unfollowed := true, recurses := true, apart := false }
def FnTokensSaid : Prop := fnTokensRow.holds Try.pinned (OpenSpec.ofChange fnTokensSpec)

/-- ITS FALSE NEIGHBOUR: 'it returns false'. Refute it at one input. -/
def fnTokensWrong : ChangeSpec := { name := "fnTokens", fn := fun _ => fun
  | [d] => { results := [.lit (.bool false)], args := [d] }
  | _ => none }
def FnTokensWrongFalsely : Prop := fnTokensRow.holds Try.pinned (OpenSpec.ofChange fnTokensWrong)

/- THE SECOND FORM. 'bulk': how many values and letters a reading holds, each counted each time it is reached (what is shared counts as often as it is met; a slice's spare places count too). A statement '..UptoSaid' is the law's where the arguments, and the package variables that the reading takes, are together of bulk at most 1048576: NARROWER than '..Said'. Prove '..Said' where nothing that the law and all that it calls make is longer than what came in: it says more and counts as full. Else prove '..UptoSaid'. A law counts once. -/
mutual
def uptoBulk {H : Type} : DataW H → Nat
  | .lit (.string bytes) => bytes.length + 1
  | .lit _ => 1
  | .nil => 1
  | .ptr d => uptoBulk d + 1
  | .slice elems spare => uptoBulkAll elems + uptoBulkAll spare + 1
  | .agg parts => uptoBulkAll parts + 1
  | .iface _ d => uptoBulk d + 1
  | .map entries => uptoBulkEntries entries + 1
  | .held _ => 1
def uptoBulkAll {H : Type} : List (DataW H) → Nat
  | [] => 0
  | d :: r => uptoBulk d + uptoBulkAll r
def uptoBulkEntries {H : Type} : List (Lit × DataW H) → Nat
  | [] => 0
  | x :: r => uptoBulkEntry x + uptoBulkEntries r
def uptoBulkEntry {H : Type} : Lit × DataW H → Nat
  | (.string bytes, d) => bytes.length + uptoBulk d + 1
  | (_, d) => uptoBulk d + 1
 end
def uptoSmall : (H : Type) → List (DataW H) → Bool := fun _ ds => decide (uptoBulkAll ds ≤ 1048576)
def OpenSpec.upto (s : _root_.Go.ChangeSpec) : _root_.Go.OpenSpec := { _root_.Go.OpenSpec.ofChange s with cond := some uptoSmall }

/-- 'laws.FnExactTokenOk', WHERE WHAT IT READS IS OF BULK AT MOST 1048576: true; the input reads as it did. -/
def fnExactTokenOkUptoRow : OpenClaim := { program := "ytmebcgifmjlbfaa", sum := "91038821056a894609e293bc3a6fb6b1ef982e4fcaf5ad66c98eac8e3ada5201", func := "loop.example/g00829/laws.FnExactTokenOk", spec := "fnExactTokenOk", unfollowed := true, recurses := true, apart := false, narrowed := true }
def FnExactTokenOkUptoSaid : Prop := fnExactTokenOkUptoRow.holds Try.pinned (OpenSpec.upto fnExactTokenOkSpec)

/-- 'laws.FnExactWidthOf', WHERE WHAT IT READS IS OF BULK AT MOST 1048576: true; the input reads as it did. -/
def fnExactWidthOfUptoRow : OpenClaim := { program := "ytmebcgifmjlbfaa", sum := "91038821056a894609e293bc3a6fb6b1ef982e4fcaf5ad66c98eac8e3ada5201", func := "loop.example/g00829/laws.FnExactWidthOf", spec := "fnExactWidthOf", unfollowed := true, recurses := true, apart := false, narrowed := true }
def FnExactWidthOfUptoSaid : Prop := fnExactWidthOfUptoRow.holds Try.pinned (OpenSpec.upto fnExactWidthOfSpec)

/-- 'laws.FnExactIsBreak', WHERE WHAT IT READS IS OF BULK AT MOST 1048576: true; the input reads as it did. -/
def fnExactIsBreakUptoRow : OpenClaim := { program := "ytmebcgifmjlbfaa", sum := "91038821056a894609e293bc3a6fb6b1ef982e4fcaf5ad66c98eac8e3ada5201", func := "loop.example/g00829/laws.FnExactIsBreak", spec := "fnExactIsBreak", unfollowed := true, recurses := true, apart := false, narrowed := true }
def FnExactIsBreakUptoSaid : Prop := fnExactIsBreakUptoRow.holds Try.pinned (OpenSpec.upto fnExactIsBreakSpec)

/-- 'laws.FnExactTokenText', WHERE WHAT IT READS IS OF BULK AT MOST 1048576: true; the input reads as it did. -/
def fnExactTokenTextUptoRow : OpenClaim := { program := "ytmebcgifmjlbfaa", sum := "91038821056a894609e293bc3a6fb6b1ef982e4fcaf5ad66c98eac8e3ada5201", func := "loop.example/g00829/laws.FnExactTokenText", spec := "fnExactTokenText", unfollowed := true, recurses := true, apart := false, narrowed := true }
def FnExactTokenTextUptoSaid : Prop := fnExactTokenTextUptoRow.holds Try.pinned (OpenSpec.upto fnExactTokenTextSpec)

/-- 'laws.FnExactParseToken', WHERE WHAT IT READS IS OF BULK AT MOST 1048576: true; the input reads as it did. -/
def fnExactParseTokenUptoRow : OpenClaim := { program := "ytmebcgifmjlbfaa", sum := "91038821056a894609e293bc3a6fb6b1ef982e4fcaf5ad66c98eac8e3ada5201", func := "loop.example/g00829/laws.FnExactParseToken", spec := "fnExactParseToken", unfollowed := true, recurses := true, apart := false, narrowed := true }
def FnExactParseTokenUptoSaid : Prop := fnExactParseTokenUptoRow.holds Try.pinned (OpenSpec.upto fnExactParseTokenSpec)

/-- 'laws.FnExactTxt', WHERE WHAT IT READS IS OF BULK AT MOST 1048576: true; the input reads as it did. -/
def fnExactTxtUptoRow : OpenClaim := { program := "ytmebcgifmjlbfaa", sum := "91038821056a894609e293bc3a6fb6b1ef982e4fcaf5ad66c98eac8e3ada5201", func := "loop.example/g00829/laws.FnExactTxt", spec := "fnExactTxt", unfollowed := true, recurses := true, apart := false, narrowed := true }
def FnExactTxtUptoSaid : Prop := fnExactTxtUptoRow.holds Try.pinned (OpenSpec.upto fnExactTxtSpec)

/-- 'laws.FnExactBlank', WHERE WHAT IT READS IS OF BULK AT MOST 1048576: true; the input reads as it did. -/
def fnExactBlankUptoRow : OpenClaim := { program := "ytmebcgifmjlbfaa", sum := "91038821056a894609e293bc3a6fb6b1ef982e4fcaf5ad66c98eac8e3ada5201", func := "loop.example/g00829/laws.FnExactBlank", spec := "fnExactBlank", unfollowed := true, recurses := true, apart := false, narrowed := true }
def FnExactBlankUptoSaid : Prop := fnExactBlankUptoRow.holds Try.pinned (OpenSpec.upto fnExactBlankSpec)

/-- 'laws.FnExactBegin', WHERE WHAT IT READS IS OF BULK AT MOST 1048576: true; the input reads as it did. -/
def fnExactBeginUptoRow : OpenClaim := { program := "ytmebcgifmjlbfaa", sum := "91038821056a894609e293bc3a6fb6b1ef982e4fcaf5ad66c98eac8e3ada5201", func := "loop.example/g00829/laws.FnExactBegin", spec := "fnExactBegin", unfollowed := true, recurses := true, apart := false, narrowed := true }
def FnExactBeginUptoSaid : Prop := fnExactBeginUptoRow.holds Try.pinned (OpenSpec.upto fnExactBeginSpec)

/-- 'laws.FnExactLine', WHERE WHAT IT READS IS OF BULK AT MOST 1048576: true; the input reads as it did. -/
def fnExactLineUptoRow : OpenClaim := { program := "ytmebcgifmjlbfaa", sum := "91038821056a894609e293bc3a6fb6b1ef982e4fcaf5ad66c98eac8e3ada5201", func := "loop.example/g00829/laws.FnExactLine", spec := "fnExactLine", unfollowed := true, recurses := true, apart := false, narrowed := true }
def FnExactLineUptoSaid : Prop := fnExactLineUptoRow.holds Try.pinned (OpenSpec.upto fnExactLineSpec)

/-- 'laws.FnTokens', WHERE WHAT IT READS IS OF BULK AT MOST 1048576: true; the input reads as it did. -/
def fnTokensUptoRow : OpenClaim := { program := "ytmebcgifmjlbfaa", sum := "91038821056a894609e293bc3a6fb6b1ef982e4fcaf5ad66c98eac8e3ada5201", func := "loop.example/g00829/laws.FnTokens", spec := "fnTokens", unfollowed := true, recurses := true, apart := false, narrowed := true }
def FnTokensUptoSaid : Prop := fnTokensUptoRow.holds Try.pinned (OpenSpec.upto fnTokensSpec)

end Rows
end Go.Proofs.Ytmebcgifmjlbfaa
