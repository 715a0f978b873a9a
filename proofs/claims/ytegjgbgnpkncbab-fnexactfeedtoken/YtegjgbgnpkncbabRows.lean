/-
  No cell of these rows narrows 'for every input' (looked for: loops, veiled, ifaces, maps, wideKeys, modest, calm, conditions, laid).
  DERIVED. THE GIVEN ROWS OF THIS SEAT. 5 by the template 'for every input the law returns true; each argument reads behind the call as it read before'; 0 by the template 'total and deterministic' (their statements: YtegjgbgnpkncbabTotals.lean).
  GIVEN WITH THE SEED: the statements are not yours to turn. If you find one false, say at which input.
  Laid BY PROGRAM, IN A SANDBOX (cutbox-rows.mjs): the forced cells as the released guide's own fill.sh prints them over the translation 0fb06b4878ef4733… (all of the seat's roots in one cut). By AI agents, Wed Nov 11 2026. No macro, syntax, notation, axiom, sorry.
-/
import Derived.Test.YtegjgbgnpkncbabChecked
import GoSem.Claim
import GoSem.ClaimJoined
import GoSem.ClaimMapViews
import Derived.JoinedTies
import Derived.KernelRfl
namespace Go.Proofs.Ytegjgbgnpkncbab
/- THE CELL 'sum', in the pinned program and in every row, IS THE sha256 OF THE DUMP (.gsa) THAT YtegjgbgnpkncbabProg.lean LOADS. Nothing in Lean hashes anything: it is a label: what it is worth is what the hold of that sum in a sandbox is worth. -/
noncomputable def Try.pinned : Pinned := { name := "ytegjgbgnpkncbab", sum := "0fb06b4878ef4733fe449308d3ccf339676eca0289fbcf15fd133e35e325010e", checked := Try.checked }
namespace Rows
def none {H : Type} : Left H := { results := [], args := [] }

/-- 'laws.FnExactLineOfTokens': WHATEVER THE INPUT: true; the input reads as it did. -/
def fnExactLineOfTokensSpec : ChangeSpec := { name := "fnExactLineOfTokens", fn := fun _ => fun
  | [d1, d2] => { results := [.lit (.bool true)], args := [d1, d2] }
  | _ => none }
def fnExactLineOfTokensRow : OpenClaim := { program := "ytegjgbgnpkncbab", sum := "0fb06b4878ef4733fe449308d3ccf339676eca0289fbcf15fd133e35e325010e", func := "loop.example/g00829/laws.FnExactLineOfTokens", spec := "fnExactLineOfTokens", unfollowed := true, recurses := true, apart := false }
def FnExactLineOfTokensSaid : Prop := fnExactLineOfTokensRow.holds Try.pinned (OpenSpec.ofChange fnExactLineOfTokensSpec)

/-- ITS FALSE NEIGHBOUR: 'it returns false'. Refute it at one input. -/
def fnExactLineOfTokensWrong : ChangeSpec := { name := "fnExactLineOfTokens", fn := fun _ => fun
  | [d1, d2] => { results := [.lit (.bool false)], args := [d1, d2] }
  | _ => none }
def FnExactLineOfTokensWrongFalsely : Prop := fnExactLineOfTokensRow.holds Try.pinned (OpenSpec.ofChange fnExactLineOfTokensWrong)

/-- 'laws.FnExactUnbrokenIn': WHATEVER THE INPUT: true; the input reads as it did. -/
def fnExactUnbrokenInSpec : ChangeSpec := { name := "fnExactUnbrokenIn", fn := fun _ => fun
  | [d1, d2, d3] => { results := [.lit (.bool true)], args := [d1, d2, d3] }
  | _ => none }
def fnExactUnbrokenInRow : OpenClaim := { program := "ytegjgbgnpkncbab", sum := "0fb06b4878ef4733fe449308d3ccf339676eca0289fbcf15fd133e35e325010e", func := "loop.example/g00829/laws.FnExactUnbrokenIn", spec := "fnExactUnbrokenIn", unfollowed := true, recurses := true, apart := false }
def FnExactUnbrokenInSaid : Prop := fnExactUnbrokenInRow.holds Try.pinned (OpenSpec.ofChange fnExactUnbrokenInSpec)

/-- ITS FALSE NEIGHBOUR: 'it returns false'. Refute it at one input. -/
def fnExactUnbrokenInWrong : ChangeSpec := { name := "fnExactUnbrokenIn", fn := fun _ => fun
  | [d1, d2, d3] => { results := [.lit (.bool false)], args := [d1, d2, d3] }
  | _ => none }
def FnExactUnbrokenInWrongFalsely : Prop := fnExactUnbrokenInRow.holds Try.pinned (OpenSpec.ofChange fnExactUnbrokenInWrong)

/-- 'laws.FnExactBrokenBlocks': WHATEVER THE INPUT: true; the input reads as it did. -/
def fnExactBrokenBlocksSpec : ChangeSpec := { name := "fnExactBrokenBlocks", fn := fun _ => fun
  | [d1, d2] => { results := [.lit (.bool true)], args := [d1, d2] }
  | _ => none }
def fnExactBrokenBlocksRow : OpenClaim := { program := "ytegjgbgnpkncbab", sum := "0fb06b4878ef4733fe449308d3ccf339676eca0289fbcf15fd133e35e325010e", func := "loop.example/g00829/laws.FnExactBrokenBlocks", spec := "fnExactBrokenBlocks", unfollowed := true, recurses := true, apart := false }
def FnExactBrokenBlocksSaid : Prop := fnExactBrokenBlocksRow.holds Try.pinned (OpenSpec.ofChange fnExactBrokenBlocksSpec)

/-- ITS FALSE NEIGHBOUR: 'it returns false'. Refute it at one input. -/
def fnExactBrokenBlocksWrong : ChangeSpec := { name := "fnExactBrokenBlocks", fn := fun _ => fun
  | [d1, d2] => { results := [.lit (.bool false)], args := [d1, d2] }
  | _ => none }
def FnExactBrokenBlocksWrongFalsely : Prop := fnExactBrokenBlocksRow.holds Try.pinned (OpenSpec.ofChange fnExactBrokenBlocksWrong)

/-- 'laws.FnExactTightKept': WHATEVER THE INPUT: true; the input reads as it did. -/
def fnExactTightKeptSpec : ChangeSpec := { name := "fnExactTightKept", fn := fun _ => fun
  | [d1, d2] => { results := [.lit (.bool true)], args := [d1, d2] }
  | _ => none }
def fnExactTightKeptRow : OpenClaim := { program := "ytegjgbgnpkncbab", sum := "0fb06b4878ef4733fe449308d3ccf339676eca0289fbcf15fd133e35e325010e", func := "loop.example/g00829/laws.FnExactTightKept", spec := "fnExactTightKept", unfollowed := true, recurses := true, apart := false }
def FnExactTightKeptSaid : Prop := fnExactTightKeptRow.holds Try.pinned (OpenSpec.ofChange fnExactTightKeptSpec)

/-- ITS FALSE NEIGHBOUR: 'it returns false'. Refute it at one input. -/
def fnExactTightKeptWrong : ChangeSpec := { name := "fnExactTightKept", fn := fun _ => fun
  | [d1, d2] => { results := [.lit (.bool false)], args := [d1, d2] }
  | _ => none }
def FnExactTightKeptWrongFalsely : Prop := fnExactTightKeptRow.holds Try.pinned (OpenSpec.ofChange fnExactTightKeptWrong)

/-- 'laws.FnExactFeedToken': WHATEVER THE INPUT: true; the input reads as it did. -/
def fnExactFeedTokenSpec : ChangeSpec := { name := "fnExactFeedToken", fn := fun _ => fun
  | [d1, d2] => { results := [.lit (.bool true)], args := [d1, d2] }
  | _ => none }
def fnExactFeedTokenRow : OpenClaim := { program := "ytegjgbgnpkncbab", sum := "0fb06b4878ef4733fe449308d3ccf339676eca0289fbcf15fd133e35e325010e", func := "loop.example/g00829/laws.FnExactFeedToken", spec := "fnExactFeedToken", unfollowed := true, recurses := true, apart := false }
def FnExactFeedTokenSaid : Prop := fnExactFeedTokenRow.holds Try.pinned (OpenSpec.ofChange fnExactFeedTokenSpec)

/-- ITS FALSE NEIGHBOUR: 'it returns false'. Refute it at one input. -/
def fnExactFeedTokenWrong : ChangeSpec := { name := "fnExactFeedToken", fn := fun _ => fun
  | [d1, d2] => { results := [.lit (.bool false)], args := [d1, d2] }
  | _ => none }
def FnExactFeedTokenWrongFalsely : Prop := fnExactFeedTokenRow.holds Try.pinned (OpenSpec.ofChange fnExactFeedTokenWrong)

/- THE SECOND FORM. 'bulk': how many values and letters a reading holds, each counted each time it is reached (what is shared counts as often as it is met; a slice's spare places count too). A statement '..UptoSaid' is the law's where the arguments, and the package variables that the reading takes, are together of bulk at most 1048576: NARROWER than '..Said'. Prove '..Said' where nothing that the law and all that it calls make is longer than what came in: it says more and counts as full. Else prove '..UptoSaid'. A law counts once. -/
mutual
def uptoBulk {H : Type} : DataW H → Nat
  | .lit (.string bytes) => bytes.length + 1
  | .lit _ => 1
  | .nil => 1
  | .ptr d => uptoBulk d + 1
  | .slice elems spare => uptoBulkAll elems + uptoBulkAll spare + 1
  | .agg parts => uptoBulkAll parts + 1
  | .iface _ d => uptoBulk d + 1
  | .map entries => uptoBulkEntries entries + 1
  | .held _ => 1
def uptoBulkAll {H : Type} : List (DataW H) → Nat
  | [] => 0
  | d :: r => uptoBulk d + uptoBulkAll r
def uptoBulkEntries {H : Type} : List (Lit × DataW H) → Nat
  | [] => 0
  | x :: r => uptoBulkEntry x + uptoBulkEntries r
def uptoBulkEntry {H : Type} : Lit × DataW H → Nat
  | (.string bytes, d) => bytes.length + uptoBulk d + 1
  | (_, d) => uptoBulk d + 1
 end
def uptoSmall : (H : Type) → List (DataW H) → Bool := fun _ ds => decide (uptoBulkAll ds ≤ 1048576)
def OpenSpec.upto (s : _root_.Go.ChangeSpec) : _root_.Go.OpenSpec := { _root_.Go.OpenSpec.ofChange s with cond := some uptoSmall }

/-- 'laws.FnExactLineOfTokens', WHERE WHAT IT READS IS OF BULK AT MOST 1048576: true; the input reads as it did. -/
def fnExactLineOfTokensUptoRow : OpenClaim := { program := "ytegjgbgnpkncbab", sum := "0fb06b4878ef4733fe449308d3ccf339676eca0289fbcf15fd133e35e325010e", func := "loop.example/g00829/laws.FnExactLineOfTokens", spec := "fnExactLineOfTokens", unfollowed := true, recurses := true, apart := false, narrowed := true }
def FnExactLineOfTokensUptoSaid : Prop := fnExactLineOfTokensUptoRow.holds Try.pinned (OpenSpec.upto fnExactLineOfTokensSpec)

/-- 'laws.FnExactUnbrokenIn', WHERE WHAT IT READS IS OF BULK AT MOST 1048576: true; the input reads as it did. -/
def fnExactUnbrokenInUptoRow : OpenClaim := { program := "ytegjgbgnpkncbab", sum := "0fb06b4878ef4733fe449308d3ccf339676eca0289fbcf15fd133e35e325010e", func := "loop.example/g00829/laws.FnExactUnbrokenIn", spec := "fnExactUnbrokenIn", unfollowed := true, recurses := true, apart := false, narrowed := true }
def FnExactUnbrokenInUptoSaid : Prop := fnExactUnbrokenInUptoRow.holds Try.pinned (OpenSpec.upto fnExactUnbrokenInSpec)

/-- 'laws.FnExactBrokenBlocks', WHERE WHAT IT READS IS OF BULK AT MOST 1048576: true; the input reads as it did. -/
def fnExactBrokenBlocksUptoRow : OpenClaim := { program := "ytegjgbgnpkncbab", sum := "0fb06b4878ef4733fe449308d3ccf339676eca0289fbcf15fd133e35e325010e", func := "loop.example/g00829/laws.FnExactBrokenBlocks", spec := "fnExactBrokenBlocks", unfollowed := true, recurses := true, apart := false, narrowed := true }
def FnExactBrokenBlocksUptoSaid : Prop := fnExactBrokenBlocksUptoRow.holds Try.pinned (OpenSpec.upto fnExactBrokenBlocksSpec)

/-- 'laws.FnExactTightKept', WHERE WHAT IT READS IS OF BULK AT MOST 1048576: true; the input reads as it did. -/
def fnExactTightKeptUptoRow : OpenClaim := { program := "ytegjgbgnpkncbab", sum := "0fb06b4878ef4733fe449308d3ccf339676eca0289fbcf15fd133e35e325010e", func := "loop.example/g00829/laws.FnExactTightKept", spec := "fnExactTightKept", unfollowed := true, recurses := true, apart := false, narrowed := true }
def FnExactTightKeptUptoSaid : Prop := fnExactTightKeptUptoRow.holds Try.pinned (OpenSpec.upto fnExactTightKeptSpec)

/-- 'laws.FnExactFeedToken', WHERE WHAT IT READS IS OF BULK AT MOST 1048576: true; the input reads as it did. -/
def fnExactFeedTokenUptoRow : OpenClaim := { program := "ytegjgbgnpkncbab", sum := "0fb06b4878ef4733fe449308d3ccf339676eca0289fbcf15fd133e35e325010e", func := "loop.example/g00829/laws.FnExactFeedToken", spec := "fnExactFeedToken", unfollowed := true, recurses := true, apart := false, narrowed := true }
def FnExactFeedTokenUptoSaid : Prop := fnExactFeedTokenUptoRow.holds Try.pinned (OpenSpec.upto fnExactFeedTokenSpec)

end Rows
end Go.Proofs.Ytegjgbgnpkncbab
