/-
  No cell of these rows narrows 'for every input' (looked for: loops, veiled, ifaces, maps, wideKeys, modest, calm, conditions, laid).
  DERIVED. THE GIVEN ROWS OF THIS SEAT. 3 by the template 'for every input the law returns true; each argument reads behind the call as it read before'; 0 by the template 'total and deterministic' (their statements: YtigdbkdddnbfpabTotals.lean).
  GIVEN WITH THE SEED: the statements are not yours to turn. If you find one false, say at which input.
  Laid BY PROGRAM, IN A SANDBOX (cutbox-rows.mjs): the forced cells as the released guide's own fill.sh prints them over the translation e686a8858f8ee64f… (all of the seat's roots in one cut). By AI agents, Wed Nov 11 2026. No macro, syntax, notation, axiom, sorry.
-/
import Derived.Test.YtigdbkdddnbfpabChecked
import GoSem.Claim
import GoSem.ClaimJoined
import GoSem.ClaimMapViews
import Derived.JoinedTies
import Derived.KernelRfl
namespace Go.Proofs.Ytigdbkdddnbfpab
/- THE CELL 'sum', in the pinned program and in every row, IS THE sha256 OF THE DUMP (.gsa) THAT YtigdbkdddnbfpabProg.lean LOADS. Nothing in Lean hashes anything: it is a label: what it is worth is what the hold of that sum in a sandbox is worth. -/
noncomputable def Try.pinned : Pinned := { name := "ytigdbkdddnbfpab", sum := "e686a8858f8ee64f151fa7075fd7cb4753c0c6baf001fa2cb5b3279817a7a11e", checked := Try.checked }
namespace Rows
def none {H : Type} : Left H := { results := [], args := [] }

/-- 'laws.FnExactFeedToken': WHATEVER THE INPUT: true; the input reads as it did. -/
def fnExactFeedTokenSpec : ChangeSpec := { name := "fnExactFeedToken", fn := fun _ => fun
  | [d1, d2] => { results := [.lit (.bool true)], args := [d1, d2] }
  | _ => none }
def fnExactFeedTokenRow : OpenClaim := { program := "ytigdbkdddnbfpab", sum := "e686a8858f8ee64f151fa7075fd7cb4753c0c6baf001fa2cb5b3279817a7a11e", func := "loop.example/g00829/laws.FnExactFeedToken", spec := "fnExactFeedToken", unfollowed := true, recurses := true, apart := false }
def FnExactFeedTokenSaid : Prop := fnExactFeedTokenRow.holds Try.pinned (OpenSpec.ofChange fnExactFeedTokenSpec)

/-- ITS FALSE NEIGHBOUR: 'it returns false'. Refute it at one input. -/
def fnExactFeedTokenWrong : ChangeSpec := { name := "fnExactFeedToken", fn := fun _ => fun
  | [d1, d2] => { results := [.lit (.bool false)], args := [d1, d2] }
  | _ => none }
def FnExactFeedTokenWrongFalsely : Prop := fnExactFeedTokenRow.holds Try.pinned (OpenSpec.ofChange fnExactFeedTokenWrong)

/-- 'laws.FnExactFinishEngine': WHATEVER THE INPUT: true; the input reads as it did. -/
def fnExactFinishEngineSpec : ChangeSpec := { name := "fnExactFinishEngine", fn := fun _ => fun
  | [d] => { results := [.lit (.bool true)], args := [d] }
  | _ => none }
def fnExactFinishEngineRow : OpenClaim := { program := "ytigdbkdddnbfpab", sum := "e686a8858f8ee64f151fa7075fd7cb4753c0c6baf001fa2cb5b3279817a7a11e", func := "loop.example/g00829/laws.FnExactFinishEngine", spec := "fnExactFinishEngine", unfollowed := true, recurses := true, apart := false }
def FnExactFinishEngineSaid : Prop := fnExactFinishEngineRow.holds Try.pinned (OpenSpec.ofChange fnExactFinishEngineSpec)

/-- ITS FALSE NEIGHBOUR: 'it returns false'. Refute it at one input. -/
def fnExactFinishEngineWrong : ChangeSpec := { name := "fnExactFinishEngine", fn := fun _ => fun
  | [d] => { results := [.lit (.bool false)], args := [d] }
  | _ => none }
def FnExactFinishEngineWrongFalsely : Prop := fnExactFinishEngineRow.holds Try.pinned (OpenSpec.ofChange fnExactFinishEngineWrong)

/-- 'laws.FnDeques': WHATEVER THE INPUT: true; the input reads as it did. -/
def fnDequesSpec : ChangeSpec := { name := "fnDeques", fn := fun _ => fun
  | [d] => { results := [.lit (.bool true)], args := [d] }
  | _ => none }
def fnDequesRow : OpenClaim := { program := "ytigdbkdddnbfpab", sum := "e686a8858f8ee64f151fa7075fd7cb4753c0c6baf001fa2cb5b3279817a7a11e", func := "loop.example/g00829/laws.FnDeques", spec := "fnDeques", inPlace := ["sync/atomic.StoreInt64", "sync/atomic.LoadInt64", "sync/atomic.AddInt64"], apart := false }
def FnDequesSaid : Prop := fnDequesRow.holds Try.pinned (OpenSpec.ofChange fnDequesSpec)

/-- ITS FALSE NEIGHBOUR: 'it returns false'. Refute it at one input. -/
def fnDequesWrong : ChangeSpec := { name := "fnDeques", fn := fun _ => fun
  | [d] => { results := [.lit (.bool false)], args := [d] }
  | _ => none }
def FnDequesWrongFalsely : Prop := fnDequesRow.holds Try.pinned (OpenSpec.ofChange fnDequesWrong)

/- THE SECOND FORM. 'bulk': how many values and letters a reading holds, each counted each time it is reached (what is shared counts as often as it is met; a slice's spare places count too). A statement '..UptoSaid' is the law's where the arguments, and the package variables that the reading takes, are together of bulk at most 1048576: NARROWER than '..Said'. Prove '..Said' where nothing that the law and all that it calls make is longer than what came in: it says more and counts as full. Else prove '..UptoSaid'. A law counts once. -/
mutual
def uptoBulk {H : Type} : DataW H → Nat
  | .lit (.string bytes) => bytes.length + 1
  | .lit _ => 1
  | .nil => 1
  | .ptr d => uptoBulk d + 1
  | .slice elems spare => uptoBulkAll elems + uptoBulkAll spare + 1
  | .agg parts => uptoBulkAll parts + 1
  | .iface _ d => uptoBulk d + 1
  | .map entries => uptoBulkEntries entries + 1
  | .held _ => 1
def uptoBulkAll {H : Type} : List (DataW H) → Nat
  | [] => 0
  | d :: r => uptoBulk d + uptoBulkAll r
def uptoBulkEntries {H : Type} : List (Lit × DataW H) → Nat
  | [] => 0
  | x :: r => uptoBulkEntry x + uptoBulkEntries r
def uptoBulkEntry {H : Type} : Lit × DataW H → Nat
  | (.string bytes, d) => bytes.length + uptoBulk d + 1
  | (_, d) => uptoBulk d + 1
 end
def uptoSmall : (H : Type) → List (DataW H) → Bool := fun _ ds => decide (uptoBulkAll ds ≤ 1048576)
def OpenSpec.upto (s : _root_.Go.ChangeSpec) : _root_.Go.OpenSpec := { _root_.Go.OpenSpec.ofChange s with cond := some uptoSmall }

/-- 'laws.FnExactFeedToken', WHERE WHAT IT READS IS OF BULK AT MOST 1048576: true; the input reads as it did. -/
def fnExactFeedTokenUptoRow : OpenClaim := { program := "ytigdbkdddnbfpab", sum := "e686a8858f8ee64f151fa7075fd7cb4753c0c6baf001fa2cb5b3279817a7a11e", func := "loop.example/g00829/laws.FnExactFeedToken", spec := "fnExactFeedToken", unfollowed := true, recurses := true, apart := false, narrowed := true }
def FnExactFeedTokenUptoSaid : Prop := fnExactFeedTokenUptoRow.holds Try.pinned (OpenSpec.upto fnExactFeedTokenSpec)

/-- 'laws.FnExactFinishEngine', WHERE WHAT IT READS IS OF BULK AT MOST 1048576: true; the input reads as it did. -/
def fnExactFinishEngineUptoRow : OpenClaim := { program := "ytigdbkdddnbfpab", sum := "e686a8858f8ee64f151fa7075fd7cb4753c0c6baf001fa2cb5b3279817a7a11e", func := "loop.example/g00829/laws.FnExactFinishEngine", spec := "fnExactFinishEngine", unfollowed := true, recurses := true, apart := false, narrowed := true }
def FnExactFinishEngineUptoSaid : Prop := fnExactFinishEngineUptoRow.holds Try.pinned (OpenSpec.upto fnExactFinishEngineSpec)

/-- 'laws.FnDeques', WHERE WHAT IT READS IS OF BULK AT MOST 1048576: true; the input reads as it did. -/
def fnDequesUptoRow : OpenClaim := { program := "ytigdbkdddnbfpab", sum := "e686a8858f8ee64f151fa7075fd7cb4753c0c6baf001fa2cb5b3279817a7a11e", func := "loop.example/g00829/laws.FnDeques", spec := "fnDeques", inPlace := ["sync/atomic.StoreInt64", "sync/atomic.LoadInt64", "sync/atomic.AddInt64"], apart := false, narrowed := true }
def FnDequesUptoSaid : Prop := fnDequesUptoRow.holds Try.pinned (OpenSpec.upto fnDequesSpec)

end Rows
end Go.Proofs.Ytigdbkdddnbfpab
