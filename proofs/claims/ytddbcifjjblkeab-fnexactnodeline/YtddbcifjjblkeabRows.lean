/-
  No cell of these rows narrows 'for every input' (looked for: loops, veiled, ifaces, maps, wideKeys, modest, calm, conditions, laid).
  DERIVED. THE GIVEN ROWS OF THIS SEAT. 4 by the template 'for every input the law returns true; each argument reads behind the call as it read before'; 0 by the template 'total and deterministic' (their statements: YtddbcifjjblkeabTotals.lean).
  GIVEN WITH THE SEED: the statements are not yours to turn. If you find one false, say at which input.
  Laid BY PROGRAM, IN A SANDBOX (cutbox-rows.mjs): the forced cells as the released guide's own fill.sh prints them over the translation 183f76a76afee5d5… (all of the seat's roots in one cut). By AI agents, Wed Nov 11 2026. No macro, syntax, notation, axiom, sorry.
-/
import Derived.Test.YtddbcifjjblkeabChecked
import GoSem.Claim
import GoSem.ClaimJoined
import GoSem.ClaimMapViews
import Derived.JoinedTies
import Derived.KernelRfl
namespace Go.Proofs.Ytddbcifjjblkeab
/- THE CELL 'sum', in the pinned program and in every row, IS THE sha256 OF THE DUMP (.gsa) THAT YtddbcifjjblkeabProg.lean LOADS. Nothing in Lean hashes anything: it is a label: what it is worth is what the hold of that sum in a sandbox is worth. -/
noncomputable def Try.pinned : Pinned := { name := "ytddbcifjjblkeab", sum := "183f76a76afee5d5ba57ad7d13c8824ad682bb4ee6ae000704225ca72a4b05b8", checked := Try.checked }
namespace Rows
def none {H : Type} : Left H := { results := [], args := [] }

/-- 'laws.FnExactStyleOk': WHATEVER THE INPUT: true; the input reads as it did. -/
def fnExactStyleOkSpec : ChangeSpec := { name := "fnExactStyleOk", fn := fun _ => fun
  | [d] => { results := [.lit (.bool true)], args := [d] }
  | _ => none }
def fnExactStyleOkRow : OpenClaim := { program := "ytddbcifjjblkeab", sum := "183f76a76afee5d5ba57ad7d13c8824ad682bb4ee6ae000704225ca72a4b05b8", func := "loop.example/g00829/laws.FnExactStyleOk", spec := "fnExactStyleOk", apart := false }
def FnExactStyleOkSaid : Prop := fnExactStyleOkRow.holds Try.pinned (OpenSpec.ofChange fnExactStyleOkSpec)

/-- ITS FALSE NEIGHBOUR: 'it returns false'. Refute it at one input. -/
def fnExactStyleOkWrong : ChangeSpec := { name := "fnExactStyleOk", fn := fun _ => fun
  | [d] => { results := [.lit (.bool false)], args := [d] }
  | _ => none }
def FnExactStyleOkWrongFalsely : Prop := fnExactStyleOkRow.holds Try.pinned (OpenSpec.ofChange fnExactStyleOkWrong)

/-- 'laws.FnExactDefaultStyle': WHATEVER THE INPUT: true; the input reads as it did. -/
def fnExactDefaultStyleSpec : ChangeSpec := { name := "fnExactDefaultStyle", fn := fun _ => fun
  | [] => { results := [.lit (.bool true)], args := [] }
  | _ => none }
def fnExactDefaultStyleRow : OpenClaim := { program := "ytddbcifjjblkeab", sum := "183f76a76afee5d5ba57ad7d13c8824ad682bb4ee6ae000704225ca72a4b05b8", func := "loop.example/g00829/laws.FnExactDefaultStyle", spec := "fnExactDefaultStyle", apart := false }
def FnExactDefaultStyleSaid : Prop := fnExactDefaultStyleRow.holds Try.pinned (OpenSpec.ofChange fnExactDefaultStyleSpec)

/-- ITS FALSE NEIGHBOUR: 'it returns false'. Refute it at one input. -/
def fnExactDefaultStyleWrong : ChangeSpec := { name := "fnExactDefaultStyle", fn := fun _ => fun
  | [] => { results := [.lit (.bool false)], args := [] }
  | _ => none }
def FnExactDefaultStyleWrongFalsely : Prop := fnExactDefaultStyleRow.holds Try.pinned (OpenSpec.ofChange fnExactDefaultStyleWrong)

/-- 'laws.FnExactTextOnly': WHATEVER THE INPUT: true; the input reads as it did. -/
def fnExactTextOnlySpec : ChangeSpec := { name := "fnExactTextOnly", fn := fun _ => fun
  | [d] => { results := [.lit (.bool true)], args := [d] }
  | _ => none }
def fnExactTextOnlyRow : OpenClaim := { program := "ytddbcifjjblkeab", sum := "183f76a76afee5d5ba57ad7d13c8824ad682bb4ee6ae000704225ca72a4b05b8", func := "loop.example/g00829/laws.FnExactTextOnly", spec := "fnExactTextOnly", inPlace := ["internal/abi.NoEscape"], unfollowed := true, recurses := true, apart := false }
def FnExactTextOnlySaid : Prop := fnExactTextOnlyRow.holds Try.pinned (OpenSpec.ofChange fnExactTextOnlySpec)

/-- ITS FALSE NEIGHBOUR: 'it returns false'. Refute it at one input. -/
def fnExactTextOnlyWrong : ChangeSpec := { name := "fnExactTextOnly", fn := fun _ => fun
  | [d] => { results := [.lit (.bool false)], args := [d] }
  | _ => none }
def FnExactTextOnlyWrongFalsely : Prop := fnExactTextOnlyRow.holds Try.pinned (OpenSpec.ofChange fnExactTextOnlyWrong)

/-- 'laws.FnExactNodeLine': WHATEVER THE INPUT: true; the input reads as it did. -/
def fnExactNodeLineSpec : ChangeSpec := { name := "fnExactNodeLine", fn := fun _ => fun
  | [d] => { results := [.lit (.bool true)], args := [d] }
  | _ => none }
def fnExactNodeLineRow : OpenClaim := { program := "ytddbcifjjblkeab", sum := "183f76a76afee5d5ba57ad7d13c8824ad682bb4ee6ae000704225ca72a4b05b8", func := "loop.example/g00829/laws.FnExactNodeLine", spec := "fnExactNodeLine", inPlace := ["internal/abi.NoEscape", "internal/bytealg.MakeNoZero"], apart := false }
def FnExactNodeLineSaid : Prop := fnExactNodeLineRow.holds Try.pinned (OpenSpec.ofChange fnExactNodeLineSpec)

/-- ITS FALSE NEIGHBOUR: 'it returns false'. Refute it at one input. -/
def fnExactNodeLineWrong : ChangeSpec := { name := "fnExactNodeLine", fn := fun _ => fun
  | [d] => { results := [.lit (.bool false)], args := [d] }
  | _ => none }
def FnExactNodeLineWrongFalsely : Prop := fnExactNodeLineRow.holds Try.pinned (OpenSpec.ofChange fnExactNodeLineWrong)

/- THE SECOND FORM. 'bulk': how many values and letters a reading holds, each counted each time it is reached (what is shared counts as often as it is met; a slice's spare places count too). A statement '..UptoSaid' is the law's where the arguments, and the package variables that the reading takes, are together of bulk at most 1048576: NARROWER than '..Said'. Prove '..Said' where nothing that the law and all that it calls make is longer than what came in: it says more and counts as full. Else prove '..UptoSaid'. A law counts once. -/
mutual
def uptoBulk {H : Type} : DataW H → Nat
  | .lit (.string bytes) => bytes.length + 1
  | .lit _ => 1
  | .nil => 1
  | .ptr d => uptoBulk d + 1
  | .slice elems spare => uptoBulkAll elems + uptoBulkAll spare + 1
  | .agg parts => uptoBulkAll parts + 1
  | .iface _ d => uptoBulk d + 1
  | .map entries => uptoBulkEntries entries + 1
  | .held _ => 1
def uptoBulkAll {H : Type} : List (DataW H) → Nat
  | [] => 0
  | d :: r => uptoBulk d + uptoBulkAll r
def uptoBulkEntries {H : Type} : List (Lit × DataW H) → Nat
  | [] => 0
  | x :: r => uptoBulkEntry x + uptoBulkEntries r
def uptoBulkEntry {H : Type} : Lit × DataW H → Nat
  | (.string bytes, d) => bytes.length + uptoBulk d + 1
  | (_, d) => uptoBulk d + 1
 end
def uptoSmall : (H : Type) → List (DataW H) → Bool := fun _ ds => decide (uptoBulkAll ds ≤ 1048576)
def OpenSpec.upto (s : _root_.Go.ChangeSpec) : _root_.Go.OpenSpec := { _root_.Go.OpenSpec.ofChange s with cond := some uptoSmall }

/-- 'laws.FnExactStyleOk', WHERE WHAT IT READS IS OF BULK AT MOST 1048576: true; the input reads as it did. -/
def fnExactStyleOkUptoRow : OpenClaim := { program := "ytddbcifjjblkeab", sum := "183f76a76afee5d5ba57ad7d13c8824ad682bb4ee6ae000704225ca72a4b05b8", func := "loop.example/g00829/laws.FnExactStyleOk", spec := "fnExactStyleOk", apart := false, narrowed := true }
def FnExactStyleOkUptoSaid : Prop := fnExactStyleOkUptoRow.holds Try.pinned (OpenSpec.upto fnExactStyleOkSpec)

/-- 'laws.FnExactDefaultStyle', WHERE WHAT IT READS IS OF BULK AT MOST 1048576: true; the input reads as it did. -/
def fnExactDefaultStyleUptoRow : OpenClaim := { program := "ytddbcifjjblkeab", sum := "183f76a76afee5d5ba57ad7d13c8824ad682bb4ee6ae000704225ca72a4b05b8", func := "loop.example/g00829/laws.FnExactDefaultStyle", spec := "fnExactDefaultStyle", apart := false, narrowed := true }
def FnExactDefaultStyleUptoSaid : Prop := fnExactDefaultStyleUptoRow.holds Try.pinned (OpenSpec.upto fnExactDefaultStyleSpec)

/-- 'laws.FnExactTextOnly', WHERE WHAT IT READS IS OF BULK AT MOST 1048576: true; the input reads as it did. -/
def fnExactTextOnlyUptoRow : OpenClaim := { program := "ytddbcifjjblkeab", sum := "183f76a76afee5d5ba57ad7d13c8824ad682bb4ee6ae000704225ca72a4b05b8", func := "loop.example/g00829/laws.FnExactTextOnly", spec := "fnExactTextOnly", inPlace := ["internal/abi.NoEscape"], unfollowed := true, recurses := true, apart := false, narrowed := true }
def FnExactTextOnlyUptoSaid : Prop := fnExactTextOnlyUptoRow.holds Try.pinned (OpenSpec.upto fnExactTextOnlySpec)

/-- 'laws.FnExactNodeLine', WHERE WHAT IT READS IS OF BULK AT MOST 1048576: true; the input reads as it did. -/
def fnExactNodeLineUptoRow : OpenClaim := { program := "ytddbcifjjblkeab", sum := "183f76a76afee5d5ba57ad7d13c8824ad682bb4ee6ae000704225ca72a4b05b8", func := "loop.example/g00829/laws.FnExactNodeLine", spec := "fnExactNodeLine", inPlace := ["internal/abi.NoEscape", "internal/bytealg.MakeNoZero"], apart := false, narrowed := true }
def FnExactNodeLineUptoSaid : Prop := fnExactNodeLineUptoRow.holds Try.pinned (OpenSpec.upto fnExactNodeLineSpec)

end Rows
end Go.Proofs.Ytddbcifjjblkeab
