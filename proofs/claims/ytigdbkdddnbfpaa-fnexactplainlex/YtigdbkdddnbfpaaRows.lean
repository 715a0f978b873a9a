/-
  No cell of these rows narrows 'for every input' (looked for: loops, veiled, ifaces, maps, wideKeys, modest, calm, conditions, laid).
  DERIVED. THE GIVEN ROWS OF THIS SEAT. 4 by the template 'for every input the law returns true; each argument reads behind the call as it read before'; 0 by the template 'total and deterministic' (their statements: YtigdbkdddnbfpaaTotals.lean).
  GIVEN WITH THE SEED: the statements are not yours to turn. If you find one false, say at which input.
  Laid BY PROGRAM, IN A SANDBOX (cutbox-rows.mjs): the forced cells as the released guide's own fill.sh prints them over the translation 60a9aaa2630ba541… (all of the seat's roots in one cut). By AI agents, Wed Nov 11 2026. No macro, syntax, notation, axiom, sorry.
-/
import Derived.Test.YtigdbkdddnbfpaaChecked
import GoSem.Claim
import GoSem.ClaimJoined
import GoSem.ClaimMapViews
import Derived.JoinedTies
import Derived.KernelRfl
namespace Go.Proofs.Ytigdbkdddnbfpaa
/- THE CELL 'sum', in the pinned program and in every row, IS THE sha256 OF THE DUMP (.gsa) THAT YtigdbkdddnbfpaaProg.lean LOADS. Nothing in Lean hashes anything: it is a label: what it is worth is what the hold of that sum in a sandbox is worth. -/
noncomputable def Try.pinned : Pinned := { name := "ytigdbkdddnbfpaa", sum := "60a9aaa2630ba5410df24fb0f45cc75e8dfcb44d5552bbcd27e941d6257f5f93", checked := Try.checked }
namespace Rows
def none {H : Type} : Left H := { results := [], args := [] }

/-- 'laws.FnExactPlainLex': WHATEVER THE INPUT: true; the input reads as it did. -/
def fnExactPlainLexSpec : ChangeSpec := { name := "fnExactPlainLex", fn := fun _ => fun
  | [d] => { results := [.lit (.bool true)], args := [d] }
  | _ => none }
def fnExactPlainLexRow : OpenClaim := { program := "ytigdbkdddnbfpaa", sum := "60a9aaa2630ba5410df24fb0f45cc75e8dfcb44d5552bbcd27e941d6257f5f93", func := "loop.example/g00829/laws.FnExactPlainLex", spec := "fnExactPlainLex", inPlace := ["internal/abi.NoEscape"], apart := false }
def FnExactPlainLexSaid : Prop := fnExactPlainLexRow.holds Try.pinned (OpenSpec.ofChange fnExactPlainLexSpec)

/-- ITS FALSE NEIGHBOUR: 'it returns false'. Refute it at one input. -/
def fnExactPlainLexWrong : ChangeSpec := { name := "fnExactPlainLex", fn := fun _ => fun
  | [d] => { results := [.lit (.bool false)], args := [d] }
  | _ => none }
def FnExactPlainLexWrongFalsely : Prop := fnExactPlainLexRow.holds Try.pinned (OpenSpec.ofChange fnExactPlainLexWrong)

/-- 'laws.FnExactSameLexes': WHATEVER THE INPUT: true; the input reads as it did. -/
def fnExactSameLexesSpec : ChangeSpec := { name := "fnExactSameLexes", fn := fun _ => fun
  | [d1, d2] => { results := [.lit (.bool true)], args := [d1, d2] }
  | _ => none }
def fnExactSameLexesRow : OpenClaim := { program := "ytigdbkdddnbfpaa", sum := "60a9aaa2630ba5410df24fb0f45cc75e8dfcb44d5552bbcd27e941d6257f5f93", func := "loop.example/g00829/laws.FnExactSameLexes", spec := "fnExactSameLexes", unfollowed := true, recurses := true, apart := false }
def FnExactSameLexesSaid : Prop := fnExactSameLexesRow.holds Try.pinned (OpenSpec.ofChange fnExactSameLexesSpec)

/-- ITS FALSE NEIGHBOUR: 'it returns false'. Refute it at one input. -/
def fnExactSameLexesWrong : ChangeSpec := { name := "fnExactSameLexes", fn := fun _ => fun
  | [d1, d2] => { results := [.lit (.bool false)], args := [d1, d2] }
  | _ => none }
def FnExactSameLexesWrongFalsely : Prop := fnExactSameLexesRow.holds Try.pinned (OpenSpec.ofChange fnExactSameLexesWrong)

/-- 'laws.FnExactCountKinds': WHATEVER THE INPUT: true; the input reads as it did. -/
def fnExactCountKindsSpec : ChangeSpec := { name := "fnExactCountKinds", fn := fun _ => fun
  | [d] => { results := [.lit (.bool true)], args := [d] }
  | _ => none }
def fnExactCountKindsRow : OpenClaim := { program := "ytigdbkdddnbfpaa", sum := "60a9aaa2630ba5410df24fb0f45cc75e8dfcb44d5552bbcd27e941d6257f5f93", func := "loop.example/g00829/laws.FnExactCountKinds", spec := "fnExactCountKinds", apart := false }
def FnExactCountKindsSaid : Prop := fnExactCountKindsRow.holds Try.pinned (OpenSpec.ofChange fnExactCountKindsSpec)

/-- ITS FALSE NEIGHBOUR: 'it returns false'. Refute it at one input. -/
def fnExactCountKindsWrong : ChangeSpec := { name := "fnExactCountKinds", fn := fun _ => fun
  | [d] => { results := [.lit (.bool false)], args := [d] }
  | _ => none }
def FnExactCountKindsWrongFalsely : Prop := fnExactCountKindsRow.holds Try.pinned (OpenSpec.ofChange fnExactCountKindsWrong)

/-- 'laws.FnExactIsWhite': WHATEVER THE INPUT: true; the input reads as it did. -/
def fnExactIsWhiteSpec : ChangeSpec := { name := "fnExactIsWhite", fn := fun _ => fun
  | [d] => { results := [.lit (.bool true)], args := [d] }
  | _ => none }
def fnExactIsWhiteRow : OpenClaim := { program := "ytigdbkdddnbfpaa", sum := "60a9aaa2630ba5410df24fb0f45cc75e8dfcb44d5552bbcd27e941d6257f5f93", func := "loop.example/g00829/laws.FnExactIsWhite", spec := "fnExactIsWhite", inPlace := ["internal/bytealg.IndexByteString"], apart := false }
def FnExactIsWhiteSaid : Prop := fnExactIsWhiteRow.holds Try.pinned (OpenSpec.ofChange fnExactIsWhiteSpec)

/-- ITS FALSE NEIGHBOUR: 'it returns false'. Refute it at one input. -/
def fnExactIsWhiteWrong : ChangeSpec := { name := "fnExactIsWhite", fn := fun _ => fun
  | [d] => { results := [.lit (.bool false)], args := [d] }
  | _ => none }
def FnExactIsWhiteWrongFalsely : Prop := fnExactIsWhiteRow.holds Try.pinned (OpenSpec.ofChange fnExactIsWhiteWrong)

/- THE SECOND FORM. 'bulk': how many values and letters a reading holds, each counted each time it is reached (what is shared counts as often as it is met; a slice's spare places count too). A statement '..UptoSaid' is the law's where the arguments, and the package variables that the reading takes, are together of bulk at most 1048576: NARROWER than '..Said'. Prove '..Said' where nothing that the law and all that it calls make is longer than what came in: it says more and counts as full. Else prove '..UptoSaid'. A law counts once. -/
mutual
def uptoBulk {H : Type} : DataW H → Nat
  | .lit (.string bytes) => bytes.length + 1
  | .lit _ => 1
  | .nil => 1
  | .ptr d => uptoBulk d + 1
  | .slice elems spare => uptoBulkAll elems + uptoBulkAll spare + 1
  | .agg parts => uptoBulkAll parts + 1
  | .iface _ d => uptoBulk d + 1
  | .map entries => uptoBulkEntries entries + 1
  | .held _ => 1
def uptoBulkAll {H : Type} : List (DataW H) → Nat
  | [] => 0
  | d :: r => uptoBulk d + uptoBulkAll r
def uptoBulkEntries {H : Type} : List (Lit × DataW H) → Nat
  | [] => 0
  | x :: r => uptoBulkEntry x + uptoBulkEntries r
def uptoBulkEntry {H : Type} : Lit × DataW H → Nat
  | (.string bytes, d) => bytes.length + uptoBulk d + 1
  | (_, d) => uptoBulk d + 1
 end
def uptoSmall : (H : Type) → List (DataW H) → Bool := fun _ ds => decide (uptoBulkAll ds ≤ 1048576)
def OpenSpec.upto (s : _root_.Go.ChangeSpec) : _root_.Go.OpenSpec := { _root_.Go.OpenSpec.ofChange s with cond := some uptoSmall }

/-- 'laws.FnExactPlainLex', WHERE WHAT IT READS IS OF BULK AT MOST 1048576: true; the input reads as it did. -/
def fnExactPlainLexUptoRow : OpenClaim := { program := "ytigdbkdddnbfpaa", sum := "60a9aaa2630ba5410df24fb0f45cc75e8dfcb44d5552bbcd27e941d6257f5f93", func := "loop.example/g00829/laws.FnExactPlainLex", spec := "fnExactPlainLex", inPlace := ["internal/abi.NoEscape"], apart := false, narrowed := true }
def FnExactPlainLexUptoSaid : Prop := fnExactPlainLexUptoRow.holds Try.pinned (OpenSpec.upto fnExactPlainLexSpec)

/-- 'laws.FnExactSameLexes', WHERE WHAT IT READS IS OF BULK AT MOST 1048576: true; the input reads as it did. -/
def fnExactSameLexesUptoRow : OpenClaim := { program := "ytigdbkdddnbfpaa", sum := "60a9aaa2630ba5410df24fb0f45cc75e8dfcb44d5552bbcd27e941d6257f5f93", func := "loop.example/g00829/laws.FnExactSameLexes", spec := "fnExactSameLexes", unfollowed := true, recurses := true, apart := false, narrowed := true }
def FnExactSameLexesUptoSaid : Prop := fnExactSameLexesUptoRow.holds Try.pinned (OpenSpec.upto fnExactSameLexesSpec)

/-- 'laws.FnExactCountKinds', WHERE WHAT IT READS IS OF BULK AT MOST 1048576: true; the input reads as it did. -/
def fnExactCountKindsUptoRow : OpenClaim := { program := "ytigdbkdddnbfpaa", sum := "60a9aaa2630ba5410df24fb0f45cc75e8dfcb44d5552bbcd27e941d6257f5f93", func := "loop.example/g00829/laws.FnExactCountKinds", spec := "fnExactCountKinds", apart := false, narrowed := true }
def FnExactCountKindsUptoSaid : Prop := fnExactCountKindsUptoRow.holds Try.pinned (OpenSpec.upto fnExactCountKindsSpec)

/-- 'laws.FnExactIsWhite', WHERE WHAT IT READS IS OF BULK AT MOST 1048576: true; the input reads as it did. -/
def fnExactIsWhiteUptoRow : OpenClaim := { program := "ytigdbkdddnbfpaa", sum := "60a9aaa2630ba5410df24fb0f45cc75e8dfcb44d5552bbcd27e941d6257f5f93", func := "loop.example/g00829/laws.FnExactIsWhite", spec := "fnExactIsWhite", inPlace := ["internal/bytealg.IndexByteString"], apart := false, narrowed := true }
def FnExactIsWhiteUptoSaid : Prop := fnExactIsWhiteUptoRow.holds Try.pinned (OpenSpec.upto fnExactIsWhiteSpec)

end Rows
end Go.Proofs.Ytigdbkdddnbfpaa
