/-
  No cell of these rows narrows 'for every input' (looked for: loops, veiled, ifaces, maps, wideKeys, modest, calm, conditions, laid).
  DERIVED. THE GIVEN ROWS OF THIS SEAT. 10 by the template 'for every input the law returns true; each argument reads behind the call as it read before'; 0 by the template 'total and deterministic' (their statements: YtkpkchlbljlbnaaTotals.lean).
  GIVEN WITH THE SEED: the statements are not yours to turn. If you find one false, say at which input.
  Laid BY PROGRAM, IN A SANDBOX (cutbox-rows.mjs): the forced cells as the released guide's own fill.sh prints them over the translation 8f3698263280e04a… (all of the seat's roots in one cut). By AI agents, Wed Nov 11 2026. No macro, syntax, notation, axiom, sorry.
-/
import Derived.Test.YtkpkchlbljlbnaaChecked
import GoSem.Claim
import GoSem.ClaimJoined
import GoSem.ClaimMapViews
import Derived.JoinedTies
import Derived.KernelRfl
namespace Go.Proofs.Ytkpkchlbljlbnaa
/- THE CELL 'sum', in the pinned program and in every row, IS THE sha256 OF THE DUMP (.gsa) THAT YtkpkchlbljlbnaaProg.lean LOADS. Nothing in Lean hashes anything: it is a label: what it is worth is what the hold of that sum in a sandbox is worth. -/
noncomputable def Try.pinned : Pinned := { name := "ytkpkchlbljlbnaa", sum := "8f3698263280e04a24e7aa9b0a7774bdf76c2841eca91c7e7c9c3089f7e6f63f", checked := Try.checked }
namespace Rows
def none {H : Type} : Left H := { results := [], args := [] }

/-- 'laws.FnDeques': WHATEVER THE INPUT: true; the input reads as it did. -/
def fnDequesSpec : ChangeSpec := { name := "fnDeques", fn := fun _ => fun
  | [d] => { results := [.lit (.bool true)], args := [d] }
  | _ => none }
def fnDequesRow : OpenClaim := { program := "ytkpkchlbljlbnaa", sum := "8f3698263280e04a24e7aa9b0a7774bdf76c2841eca91c7e7c9c3089f7e6f63f", func := "loop.example/g00829/laws.FnDeques", spec := "fnDeques", inPlace := ["sync/atomic.StoreInt64", "sync/atomic.LoadInt64", "sync/atomic.AddInt64"], apart := false }
def FnDequesSaid : Prop := fnDequesRow.holds Try.pinned (OpenSpec.ofChange fnDequesSpec)

/-- ITS FALSE NEIGHBOUR: 'it returns false'. Refute it at one input. -/
def fnDequesWrong : ChangeSpec := { name := "fnDeques", fn := fun _ => fun
  | [d] => { results := [.lit (.bool false)], args := [d] }
  | _ => none }
def FnDequesWrongFalsely : Prop := fnDequesRow.holds Try.pinned (OpenSpec.ofChange fnDequesWrong)

/-- 'laws.FnExactDequeOk': WHATEVER THE INPUT: true; the input reads as it did. -/
def fnExactDequeOkSpec : ChangeSpec := { name := "fnExactDequeOk", fn := fun _ => fun
  | [d] => { results := [.lit (.bool true)], args := [d] }
  | _ => none }
def fnExactDequeOkRow : OpenClaim := { program := "ytkpkchlbljlbnaa", sum := "8f3698263280e04a24e7aa9b0a7774bdf76c2841eca91c7e7c9c3089f7e6f63f", func := "loop.example/g00829/laws.FnExactDequeOk", spec := "fnExactDequeOk", inPlace := ["sync/atomic.StoreInt64", "sync/atomic.LoadInt64"], apart := false }
def FnExactDequeOkSaid : Prop := fnExactDequeOkRow.holds Try.pinned (OpenSpec.ofChange fnExactDequeOkSpec)

/-- ITS FALSE NEIGHBOUR: 'it returns false'. Refute it at one input. -/
def fnExactDequeOkWrong : ChangeSpec := { name := "fnExactDequeOk", fn := fun _ => fun
  | [d] => { results := [.lit (.bool false)], args := [d] }
  | _ => none }
def FnExactDequeOkWrongFalsely : Prop := fnExactDequeOkRow.holds Try.pinned (OpenSpec.ofChange fnExactDequeOkWrong)

/-- 'laws.FnExactNewDeque': WHATEVER THE INPUT: true; the input reads as it did. -/
def fnExactNewDequeSpec : ChangeSpec := { name := "fnExactNewDeque", fn := fun _ => fun
  | [d] => { results := [.lit (.bool true)], args := [d] }
  | _ => none }
def fnExactNewDequeRow : OpenClaim := { program := "ytkpkchlbljlbnaa", sum := "8f3698263280e04a24e7aa9b0a7774bdf76c2841eca91c7e7c9c3089f7e6f63f", func := "loop.example/g00829/laws.FnExactNewDeque", spec := "fnExactNewDeque", apart := false }
def FnExactNewDequeSaid : Prop := fnExactNewDequeRow.holds Try.pinned (OpenSpec.ofChange fnExactNewDequeSpec)

/-- ITS FALSE NEIGHBOUR: 'it returns false'. Refute it at one input. -/
def fnExactNewDequeWrong : ChangeSpec := { name := "fnExactNewDeque", fn := fun _ => fun
  | [d] => { results := [.lit (.bool false)], args := [d] }
  | _ => none }
def FnExactNewDequeWrongFalsely : Prop := fnExactNewDequeRow.holds Try.pinned (OpenSpec.ofChange fnExactNewDequeWrong)

/-- 'laws.FnExactPushLast': WHATEVER THE INPUT: true; the input reads as it did. -/
def fnExactPushLastSpec : ChangeSpec := { name := "fnExactPushLast", fn := fun _ => fun
  | [d1, d2] => { results := [.lit (.bool true)], args := [d1, d2] }
  | _ => none }
def fnExactPushLastRow : OpenClaim := { program := "ytkpkchlbljlbnaa", sum := "8f3698263280e04a24e7aa9b0a7774bdf76c2841eca91c7e7c9c3089f7e6f63f", func := "loop.example/g00829/laws.FnExactPushLast", spec := "fnExactPushLast", inPlace := ["sync/atomic.StoreInt64", "sync/atomic.LoadInt64", "sync/atomic.AddInt64"], unfollowed := true, recurses := true, apart := false }
def FnExactPushLastSaid : Prop := fnExactPushLastRow.holds Try.pinned (OpenSpec.ofChange fnExactPushLastSpec)

/-- ITS FALSE NEIGHBOUR: 'it returns false'. Refute it at one input. -/
def fnExactPushLastWrong : ChangeSpec := { name := "fnExactPushLast", fn := fun _ => fun
  | [d1, d2] => { results := [.lit (.bool false)], args := [d1, d2] }
  | _ => none }
def FnExactPushLastWrongFalsely : Prop := fnExactPushLastRow.holds Try.pinned (OpenSpec.ofChange fnExactPushLastWrong)

/-- 'laws.FnExactPushFirst': WHATEVER THE INPUT: true; the input reads as it did. -/
def fnExactPushFirstSpec : ChangeSpec := { name := "fnExactPushFirst", fn := fun _ => fun
  | [d1, d2] => { results := [.lit (.bool true)], args := [d1, d2] }
  | _ => none }
def fnExactPushFirstRow : OpenClaim := { program := "ytkpkchlbljlbnaa", sum := "8f3698263280e04a24e7aa9b0a7774bdf76c2841eca91c7e7c9c3089f7e6f63f", func := "loop.example/g00829/laws.FnExactPushFirst", spec := "fnExactPushFirst", inPlace := ["sync/atomic.StoreInt64", "sync/atomic.LoadInt64", "sync/atomic.AddInt64"], unfollowed := true, recurses := true, apart := false }
def FnExactPushFirstSaid : Prop := fnExactPushFirstRow.holds Try.pinned (OpenSpec.ofChange fnExactPushFirstSpec)

/-- ITS FALSE NEIGHBOUR: 'it returns false'. Refute it at one input. -/
def fnExactPushFirstWrong : ChangeSpec := { name := "fnExactPushFirst", fn := fun _ => fun
  | [d1, d2] => { results := [.lit (.bool false)], args := [d1, d2] }
  | _ => none }
def FnExactPushFirstWrongFalsely : Prop := fnExactPushFirstRow.holds Try.pinned (OpenSpec.ofChange fnExactPushFirstWrong)

/-- 'laws.FnExactPopFirst': WHATEVER THE INPUT: true; the input reads as it did. -/
def fnExactPopFirstSpec : ChangeSpec := { name := "fnExactPopFirst", fn := fun _ => fun
  | [d] => { results := [.lit (.bool true)], args := [d] }
  | _ => none }
def fnExactPopFirstRow : OpenClaim := { program := "ytkpkchlbljlbnaa", sum := "8f3698263280e04a24e7aa9b0a7774bdf76c2841eca91c7e7c9c3089f7e6f63f", func := "loop.example/g00829/laws.FnExactPopFirst", spec := "fnExactPopFirst", inPlace := ["sync/atomic.StoreInt64", "sync/atomic.LoadInt64", "sync/atomic.AddInt64"], unfollowed := true, recurses := true, apart := false }
def FnExactPopFirstSaid : Prop := fnExactPopFirstRow.holds Try.pinned (OpenSpec.ofChange fnExactPopFirstSpec)

/-- ITS FALSE NEIGHBOUR: 'it returns false'. Refute it at one input. -/
def fnExactPopFirstWrong : ChangeSpec := { name := "fnExactPopFirst", fn := fun _ => fun
  | [d] => { results := [.lit (.bool false)], args := [d] }
  | _ => none }
def FnExactPopFirstWrongFalsely : Prop := fnExactPopFirstRow.holds Try.pinned (OpenSpec.ofChange fnExactPopFirstWrong)

/-- 'laws.FnExactPopLast': WHATEVER THE INPUT: true; the input reads as it did. -/
def fnExactPopLastSpec : ChangeSpec := { name := "fnExactPopLast", fn := fun _ => fun
  | [d] => { results := [.lit (.bool true)], args := [d] }
  | _ => none }
def fnExactPopLastRow : OpenClaim := { program := "ytkpkchlbljlbnaa", sum := "8f3698263280e04a24e7aa9b0a7774bdf76c2841eca91c7e7c9c3089f7e6f63f", func := "loop.example/g00829/laws.FnExactPopLast", spec := "fnExactPopLast", inPlace := ["sync/atomic.StoreInt64", "sync/atomic.LoadInt64", "sync/atomic.AddInt64"], unfollowed := true, recurses := true, apart := false }
def FnExactPopLastSaid : Prop := fnExactPopLastRow.holds Try.pinned (OpenSpec.ofChange fnExactPopLastSpec)

/-- ITS FALSE NEIGHBOUR: 'it returns false'. Refute it at one input. -/
def fnExactPopLastWrong : ChangeSpec := { name := "fnExactPopLast", fn := fun _ => fun
  | [d] => { results := [.lit (.bool false)], args := [d] }
  | _ => none }
def FnExactPopLastWrongFalsely : Prop := fnExactPopLastRow.holds Try.pinned (OpenSpec.ofChange fnExactPopLastWrong)

/-- 'laws.FnExactHeldAt': WHATEVER THE INPUT: true; the input reads as it did. -/
def fnExactHeldAtSpec : ChangeSpec := { name := "fnExactHeldAt", fn := fun _ => fun
  | [d1, d2] => { results := [.lit (.bool true)], args := [d1, d2] }
  | _ => none }
def fnExactHeldAtRow : OpenClaim := { program := "ytkpkchlbljlbnaa", sum := "8f3698263280e04a24e7aa9b0a7774bdf76c2841eca91c7e7c9c3089f7e6f63f", func := "loop.example/g00829/laws.FnExactHeldAt", spec := "fnExactHeldAt", inPlace := ["sync/atomic.StoreInt64", "sync/atomic.LoadInt64"], apart := false }
def FnExactHeldAtSaid : Prop := fnExactHeldAtRow.holds Try.pinned (OpenSpec.ofChange fnExactHeldAtSpec)

/-- ITS FALSE NEIGHBOUR: 'it returns false'. Refute it at one input. -/
def fnExactHeldAtWrong : ChangeSpec := { name := "fnExactHeldAt", fn := fun _ => fun
  | [d1, d2] => { results := [.lit (.bool false)], args := [d1, d2] }
  | _ => none }
def FnExactHeldAtWrongFalsely : Prop := fnExactHeldAtRow.holds Try.pinned (OpenSpec.ofChange fnExactHeldAtWrong)

/-- 'laws.FnExactListDeque': WHATEVER THE INPUT: true; the input reads as it did. -/
def fnExactListDequeSpec : ChangeSpec := { name := "fnExactListDeque", fn := fun _ => fun
  | [d] => { results := [.lit (.bool true)], args := [d] }
  | _ => none }
def fnExactListDequeRow : OpenClaim := { program := "ytkpkchlbljlbnaa", sum := "8f3698263280e04a24e7aa9b0a7774bdf76c2841eca91c7e7c9c3089f7e6f63f", func := "loop.example/g00829/laws.FnExactListDeque", spec := "fnExactListDeque", inPlace := ["sync/atomic.StoreInt64", "sync/atomic.LoadInt64"], apart := false }
def FnExactListDequeSaid : Prop := fnExactListDequeRow.holds Try.pinned (OpenSpec.ofChange fnExactListDequeSpec)

/-- ITS FALSE NEIGHBOUR: 'it returns false'. Refute it at one input. -/
def fnExactListDequeWrong : ChangeSpec := { name := "fnExactListDeque", fn := fun _ => fun
  | [d] => { results := [.lit (.bool false)], args := [d] }
  | _ => none }
def FnExactListDequeWrongFalsely : Prop := fnExactListDequeRow.holds Try.pinned (OpenSpec.ofChange fnExactListDequeWrong)

/-- 'laws.FnExactPlayDeque': WHATEVER THE INPUT: true; the input reads as it did. -/
def fnExactPlayDequeSpec : ChangeSpec := { name := "fnExactPlayDeque", fn := fun _ => fun
  | [d1, d2] => { results := [.lit (.bool true)], args := [d1, d2] }
  | _ => none }
def fnExactPlayDequeRow : OpenClaim := { program := "ytkpkchlbljlbnaa", sum := "8f3698263280e04a24e7aa9b0a7774bdf76c2841eca91c7e7c9c3089f7e6f63f", func := "loop.example/g00829/laws.FnExactPlayDeque", spec := "fnExactPlayDeque", inPlace := ["sync/atomic.StoreInt64", "sync/atomic.LoadInt64", "sync/atomic.AddInt64"], apart := false }
def FnExactPlayDequeSaid : Prop := fnExactPlayDequeRow.holds Try.pinned (OpenSpec.ofChange fnExactPlayDequeSpec)

/-- ITS FALSE NEIGHBOUR: 'it returns false'. Refute it at one input. -/
def fnExactPlayDequeWrong : ChangeSpec := { name := "fnExactPlayDeque", fn := fun _ => fun
  | [d1, d2] => { results := [.lit (.bool false)], args := [d1, d2] }
  | _ => none }
def FnExactPlayDequeWrongFalsely : Prop := fnExactPlayDequeRow.holds Try.pinned (OpenSpec.ofChange fnExactPlayDequeWrong)

/- THE SECOND FORM. 'bulk': how many values and letters a reading holds, each counted each time it is reached (what is shared counts as often as it is met; a slice's spare places count too). A statement '..UptoSaid' is the law's where the arguments, and the package variables that the reading takes, are together of bulk at most 1048576: NARROWER than '..Said'. Prove '..Said' where nothing that the law and all that it calls make is longer than what came in: it says more and counts as full. Else prove '..UptoSaid'. A law counts once. -/
mutual
def uptoBulk {H : Type} : DataW H → Nat
  | .lit (.string bytes) => bytes.length + 1
  | .lit _ => 1
  | .nil => 1
  | .ptr d => uptoBulk d + 1
  | .slice elems spare => uptoBulkAll elems + uptoBulkAll spare + 1
  | .agg parts => uptoBulkAll parts + 1
  | .iface _ d => uptoBulk d + 1
  | .map entries => uptoBulkEntries entries + 1
  | .held _ => 1
def uptoBulkAll {H : Type} : List (DataW H) → Nat
  | [] => 0
  | d :: r => uptoBulk d + uptoBulkAll r
def uptoBulkEntries {H : Type} : List (Lit × DataW H) → Nat
  | [] => 0
  | x :: r => uptoBulkEntry x + uptoBulkEntries r
def uptoBulkEntry {H : Type} : Lit × DataW H → Nat
  | (.string bytes, d) => bytes.length + uptoBulk d + 1
  | (_, d) => uptoBulk d + 1
 end
def uptoSmall : (H : Type) → List (DataW H) → Bool := fun _ ds => decide (uptoBulkAll ds ≤ 1048576)
def OpenSpec.upto (s : _root_.Go.ChangeSpec) : _root_.Go.OpenSpec := { _root_.Go.OpenSpec.ofChange s with cond := some uptoSmall }

/-- 'laws.FnDeques', WHERE WHAT IT READS IS OF BULK AT MOST 1048576: true; the input reads as it did. -/
def fnDequesUptoRow : OpenClaim := { program := "ytkpkchlbljlbnaa", sum := "8f3698263280e04a24e7aa9b0a7774bdf76c2841eca91c7e7c9c3089f7e6f63f", func := "loop.example/g00829/laws.FnDeques", spec := "fnDeques", inPlace := ["sync/atomic.StoreInt64", "sync/atomic.LoadInt64", "sync/atomic.AddInt64"], apart := false, narrowed := true }
def FnDequesUptoSaid : Prop := fnDequesUptoRow.holds Try.pinned (OpenSpec.upto fnDequesSpec)

/-- 'laws.FnExactDequeOk', WHERE WHAT IT READS IS OF BULK AT MOST 1048576: true; the input reads as it did. -/
def fnExactDequeOkUptoRow : OpenClaim := { program := "ytkpkchlbljlbnaa", sum := "8f3698263280e04a24e7aa9b0a7774bdf76c2841eca91c7e7c9c3089f7e6f63f", func := "loop.example/g00829/laws.FnExactDequeOk", spec := "fnExactDequeOk", inPlace := ["sync/atomic.StoreInt64", "sync/atomic.LoadInt64"], apart := false, narrowed := true }
def FnExactDequeOkUptoSaid : Prop := fnExactDequeOkUptoRow.holds Try.pinned (OpenSpec.upto fnExactDequeOkSpec)

/-- 'laws.FnExactNewDeque', WHERE WHAT IT READS IS OF BULK AT MOST 1048576: true; the input reads as it did. -/
def fnExactNewDequeUptoRow : OpenClaim := { program := "ytkpkchlbljlbnaa", sum := "8f3698263280e04a24e7aa9b0a7774bdf76c2841eca91c7e7c9c3089f7e6f63f", func := "loop.example/g00829/laws.FnExactNewDeque", spec := "fnExactNewDeque", apart := false, narrowed := true }
def FnExactNewDequeUptoSaid : Prop := fnExactNewDequeUptoRow.holds Try.pinned (OpenSpec.upto fnExactNewDequeSpec)

/-- 'laws.FnExactPushLast', WHERE WHAT IT READS IS OF BULK AT MOST 1048576: true; the input reads as it did. -/
def fnExactPushLastUptoRow : OpenClaim := { program := "ytkpkchlbljlbnaa", sum := "8f3698263280e04a24e7aa9b0a7774bdf76c2841eca91c7e7c9c3089f7e6f63f", func := "loop.example/g00829/laws.FnExactPushLast", spec := "fnExactPushLast", inPlace := ["sync/atomic.StoreInt64", "sync/atomic.LoadInt64", "sync/atomic.AddInt64"], unfollowed := true, recurses := true, apart := false, narrowed := true }
def FnExactPushLastUptoSaid : Prop := fnExactPushLastUptoRow.holds Try.pinned (OpenSpec.upto fnExactPushLastSpec)

/-- 'laws.FnExactPushFirst', WHERE WHAT IT READS IS OF BULK AT MOST 1048576: true; the input reads as it did. -/
def fnExactPushFirstUptoRow : OpenClaim := { program := "ytkpkchlbljlbnaa", sum := "8f3698263280e04a24e7aa9b0a7774bdf76c2841eca91c7e7c9c3089f7e6f63f", func := "loop.example/g00829/laws.FnExactPushFirst", spec := "fnExactPushFirst", inPlace := ["sync/atomic.StoreInt64", "sync/atomic.LoadInt64", "sync/atomic.AddInt64"], unfollowed := true, recurses := true, apart := false, narrowed := true }
def FnExactPushFirstUptoSaid : Prop := fnExactPushFirstUptoRow.holds Try.pinned (OpenSpec.upto fnExactPushFirstSpec)

/-- 'laws.FnExactPopFirst', WHERE WHAT IT READS IS OF BULK AT MOST 1048576: true; the input reads as it did. -/
def fnExactPopFirstUptoRow : OpenClaim := { program := "ytkpkchlbljlbnaa", sum := "8f3698263280e04a24e7aa9b0a7774bdf76c2841eca91c7e7c9c3089f7e6f63f", func := "loop.example/g00829/laws.FnExactPopFirst", spec := "fnExactPopFirst", inPlace := ["sync/atomic.StoreInt64", "sync/atomic.LoadInt64", "sync/atomic.AddInt64"], unfollowed := true, recurses := true, apart := false, narrowed := true }
def FnExactPopFirstUptoSaid : Prop := fnExactPopFirstUptoRow.holds Try.pinned (OpenSpec.upto fnExactPopFirstSpec)

/-- 'laws.FnExactPopLast', WHERE WHAT IT READS IS OF BULK AT MOST 1048576: true; the input reads as it did. -/
def fnExactPopLastUptoRow : OpenClaim := { program := "ytkpkchlbljlbnaa", sum := "8f3698263280e04a24e7aa9b0a7774bdf76c2841eca91c7e7c9c3089f7e6f63f", func := "loop.example/g00829/laws.FnExactPopLast", spec := "fnExactPopLast", inPlace := ["sync/atomic.StoreInt64", "sync/atomic.LoadInt64", "sync/atomic.AddInt64"], unfollowed := true, recurses := true, apart := false, narrowed := true }
def FnExactPopLastUptoSaid : Prop := fnExactPopLastUptoRow.holds Try.pinned (OpenSpec.upto fnExactPopLastSpec)

/-- 'laws.FnExactHeldAt', WHERE WHAT IT READS IS OF BULK AT MOST 1048576: true; the input reads as it did. -/
def fnExactHeldAtUptoRow : OpenClaim := { program := "ytkpkchlbljlbnaa", sum := "8f3698263280e04a24e7aa9b0a7774bdf76c2841eca91c7e7c9c3089f7e6f63f", func := "loop.example/g00829/laws.FnExactHeldAt", spec := "fnExactHeldAt", inPlace := ["sync/atomic.StoreInt64", "sync/atomic.LoadInt64"], apart := false, narrowed := true }
def FnExactHeldAtUptoSaid : Prop := fnExactHeldAtUptoRow.holds Try.pinned (OpenSpec.upto fnExactHeldAtSpec)

/-- 'laws.FnExactListDeque', WHERE WHAT IT READS IS OF BULK AT MOST 1048576: true; the input reads as it did. -/
def fnExactListDequeUptoRow : OpenClaim := { program := "ytkpkchlbljlbnaa", sum := "8f3698263280e04a24e7aa9b0a7774bdf76c2841eca91c7e7c9c3089f7e6f63f", func := "loop.example/g00829/laws.FnExactListDeque", spec := "fnExactListDeque", inPlace := ["sync/atomic.StoreInt64", "sync/atomic.LoadInt64"], apart := false, narrowed := true }
def FnExactListDequeUptoSaid : Prop := fnExactListDequeUptoRow.holds Try.pinned (OpenSpec.upto fnExactListDequeSpec)

/-- 'laws.FnExactPlayDeque', WHERE WHAT IT READS IS OF BULK AT MOST 1048576: true; the input reads as it did. -/
def fnExactPlayDequeUptoRow : OpenClaim := { program := "ytkpkchlbljlbnaa", sum := "8f3698263280e04a24e7aa9b0a7774bdf76c2841eca91c7e7c9c3089f7e6f63f", func := "loop.example/g00829/laws.FnExactPlayDeque", spec := "fnExactPlayDeque", inPlace := ["sync/atomic.StoreInt64", "sync/atomic.LoadInt64", "sync/atomic.AddInt64"], apart := false, narrowed := true }
def FnExactPlayDequeUptoSaid : Prop := fnExactPlayDequeUptoRow.holds Try.pinned (OpenSpec.upto fnExactPlayDequeSpec)

end Rows
end Go.Proofs.Ytkpkchlbljlbnaa
