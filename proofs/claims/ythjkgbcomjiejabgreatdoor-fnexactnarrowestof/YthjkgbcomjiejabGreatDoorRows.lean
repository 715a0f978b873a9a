/-
  NARROWER THAN 'FOR EVERY INPUT', by the rows' own cells (each row's printed sentence says how): FnExactFitsAll: laid · FnExactNarrowestOf: laid · FnExactNarrowFit: ifaces, laid.
  DERIVED. THE GIVEN ROWS OF THIS SEAT. 3 by the template 'for every input the law returns true; each argument reads behind the call as it read before'; 0 by the template 'total and deterministic' (their statements: YthjkgbcomjiejabGreatDoorTotals.lean).
  GIVEN WITH THE SEED: the statements are not yours to turn. If you find one false, say at which input.
  Laid BY PROGRAM, IN A SANDBOX (cutbox-rows.mjs): the forced cells as the released guide's own fill.sh prints them over the translation dab9bae759e89679… (all of the seat's roots in one cut). By AI agents, Wed Nov 11 2026. No macro, syntax, notation, axiom, sorry.
-/
import Derived.Test.YthjkgbcomjiejabGreatDoorChecked
import GoSem.PinnedTables
import GoSem.Claim
import GoSem.ClaimJoined
import GoSem.ClaimMapViews
import Derived.JoinedTies
import Derived.KernelRfl
namespace Go.Proofs.YthjkgbcomjiejabGreatDoor
/- THE CELL 'sum', in the pinned program and in every row, IS THE sha256 OF THE DUMP (.gsa) THAT YthjkgbcomjiejabGreatDoorProg.lean LOADS. Nothing in Lean hashes anything: it is a label: what it is worth is what the hold of that sum in a sandbox is worth. -/
noncomputable def Tryz.pinned : Pinned := { name := "ythjkgbcomjiejabgreatdoor", sum := "dab9bae759e89679a041bb6322e148f97d77598e012715b4d9a35df48fbfad07", checked := Tryz.checked }
namespace Rows
def none {H : Type} : Left H := { results := [], args := [] }

/- WHAT THE LISTED PACKAGE-LEVEL VARIABLES READ AS WHEN THE CALL BEGINS. Each datum BY PROGRAM (the guide's laid-datum.mjs) off the statement by which the dump's own 'gosem.cut.vars' lays the variable. In a bare row this is a premise. The card (YthjkgbcomjiejabGreatDoorCards.lean) ties it to the program's text. -/
def laid_unicode_utf8_acceptRanges {H : Type} : DataW H := .agg [.agg [.lit (.int .u8 128), .lit (.int .u8 191)], .agg [.lit (.int .u8 160), .lit (.int .u8 191)], .agg [.lit (.int .u8 128), .lit (.int .u8 159)], .agg [.lit (.int .u8 144), .lit (.int .u8 191)], .agg [.lit (.int .u8 128), .lit (.int .u8 143)], .agg [.lit (.int .u8 0), .lit (.int .u8 0)], .agg [.lit (.int .u8 0), .lit (.int .u8 0)], .agg [.lit (.int .u8 0), .lit (.int .u8 0)], .agg [.lit (.int .u8 0), .lit (.int .u8 0)], .agg [.lit (.int .u8 0), .lit (.int .u8 0)], .agg [.lit (.int .u8 0), .lit (.int .u8 0)], .agg [.lit (.int .u8 0), .lit (.int .u8 0)], .agg [.lit (.int .u8 0), .lit (.int .u8 0)], .agg [.lit (.int .u8 0), .lit (.int .u8 0)], .agg [.lit (.int .u8 0), .lit (.int .u8 0)], .agg [.lit (.int .u8 0), .lit (.int .u8 0)]]
/-- One of Go's own tables, pinned by name: the form's constant. -/
def laid_unicode_utf8_first : DataW Unit := Go.Pinned.utf8First
def laid_errors_errorType {H : Type} : DataW H := .iface "internal/reflectlite.rtype" (.agg [.ptr (.lit (.string [101, 114, 114, 111, 114]))])
def laid_loop_example_g00829_impl_errWidth {H : Type} : DataW H := .iface "*errors.errorString" (.ptr (.agg [.lit (.string [110, 111, 32, 119, 105, 100, 116, 104, 32, 111, 114, 32, 110, 111, 32, 115, 116, 121, 108, 101])]))
def laid_loop_example_g00829_impl_errBig {H : Type} : DataW H := .iface "*errors.errorString" (.ptr (.agg [.lit (.string [110, 111, 32, 115, 116, 114, 101, 97, 109, 32, 99, 111, 109, 101, 115, 32, 111, 102, 32, 116, 104, 101, 32, 116, 114, 101, 101])]))

/-- 'laws.FnExactFitsAll': WHATEVER THE INPUT: true; the input reads as it did. -/
def fnExactFitsAllSpec : ChangeSpec := { name := "fnExactFitsAll", fn := fun _ => fun
  | [d1, d2] => { results := [.lit (.bool true)], args := [d1, d2] }
  | _ => none }
def fnExactFitsAllRow : OpenClaim := { program := "ythjkgbcomjiejabgreatdoor", sum := "dab9bae759e89679a041bb6322e148f97d77598e012715b4d9a35df48fbfad07", func := "loop.example/g00829/laws.FnExactFitsAll", spec := "fnExactFitsAll", inPlace := ["internal/abi.NoEscape", "internal/bytealg.MakeNoZero", "internal/bytealg.CountString", "internal/bytealg.IndexByteString", "internal/bytealg.IndexString"], unfollowed := true, recurses := true, named := ["unicode/utf8.first", "unicode/utf8.acceptRanges", "internal/bytealg.MaxLen"], apart := false, laid := [("unicode/utf8.acceptRanges", laid_unicode_utf8_acceptRanges), ("unicode/utf8.first", laid_unicode_utf8_first)] }
def FnExactFitsAllSaid : Prop := fnExactFitsAllRow.holds Tryz.pinned (OpenSpec.ofChange fnExactFitsAllSpec)

/-- ITS FALSE NEIGHBOUR: 'it returns false'. Refute it at one input. -/
def fnExactFitsAllWrong : ChangeSpec := { name := "fnExactFitsAll", fn := fun _ => fun
  | [d1, d2] => { results := [.lit (.bool false)], args := [d1, d2] }
  | _ => none }
def FnExactFitsAllWrongFalsely : Prop := fnExactFitsAllRow.holds Tryz.pinned (OpenSpec.ofChange fnExactFitsAllWrong)

/-- 'laws.FnExactNarrowestOf': WHATEVER THE INPUT: true; the input reads as it did. -/
def fnExactNarrowestOfSpec : ChangeSpec := { name := "fnExactNarrowestOf", fn := fun _ => fun
  | [d] => { results := [.lit (.bool true)], args := [d] }
  | _ => none }
def fnExactNarrowestOfRow : OpenClaim := { program := "ythjkgbcomjiejabgreatdoor", sum := "dab9bae759e89679a041bb6322e148f97d77598e012715b4d9a35df48fbfad07", func := "loop.example/g00829/laws.FnExactNarrowestOf", spec := "fnExactNarrowestOf", inPlace := ["internal/abi.NoEscape", "internal/bytealg.MakeNoZero", "internal/bytealg.CountString", "internal/bytealg.IndexByteString", "internal/bytealg.IndexString"], unfollowed := true, recurses := true, named := ["unicode/utf8.first", "unicode/utf8.acceptRanges", "internal/bytealg.MaxLen"], apart := false, laid := [("unicode/utf8.acceptRanges", laid_unicode_utf8_acceptRanges), ("unicode/utf8.first", laid_unicode_utf8_first)] }
def FnExactNarrowestOfSaid : Prop := fnExactNarrowestOfRow.holds Tryz.pinned (OpenSpec.ofChange fnExactNarrowestOfSpec)

/-- ITS FALSE NEIGHBOUR: 'it returns false'. Refute it at one input. -/
def fnExactNarrowestOfWrong : ChangeSpec := { name := "fnExactNarrowestOf", fn := fun _ => fun
  | [d] => { results := [.lit (.bool false)], args := [d] }
  | _ => none }
def FnExactNarrowestOfWrongFalsely : Prop := fnExactNarrowestOfRow.holds Tryz.pinned (OpenSpec.ofChange fnExactNarrowestOfWrong)

/-- 'laws.FnExactNarrowFit': WHATEVER THE INPUT: true; the input reads as it did. -/
def fnExactNarrowFitSpec : ChangeSpec := { name := "fnExactNarrowFit", vars := ["loop.example/g00829/impl.errWidth", "loop.example/g00829/impl.errBig"], fn := fun _ => fun
  | [d1, d2, g1, g2] => { results := [.lit (.bool true)], args := [d1, d2], vars := [g1, g2] }
  | _ => none }
def fnExactNarrowFitRow : OpenClaim := { program := "ythjkgbcomjiejabgreatdoor", sum := "dab9bae759e89679a041bb6322e148f97d77598e012715b4d9a35df48fbfad07", func := "loop.example/g00829/laws.FnExactNarrowFit", spec := "fnExactNarrowFit", inPlace := ["internal/bytealg.IndexByteString", "internal/bytealg.IndexString", "internal/reflectlite.ValueOf", "(internal/reflectlite.Value).Type", "(internal/reflectlite.Value).IsNil", "internal/reflectlite.TypeOf", "(internal/reflectlite.Value).Elem", "(internal/reflectlite.Value).Set", "sync/atomic.LoadUint32", "(*internal/sync.Mutex).Lock", "internal/race.Disable", "sync/atomic.CompareAndSwapInt32", "internal/race.Enable", "internal/race.Acquire", "(*internal/sync.Mutex).lockSlow", "internal/sync.runtime_canSpin", "internal/sync.runtime_doSpin", "internal/sync.throw", "internal/sync.runtime_nanotime", "internal/sync.runtime_SemacquireMutex", "sync/atomic.AddInt32", "(*internal/sync.Mutex).Unlock", "internal/race.ReleaseMerge", "(*internal/sync.Mutex).unlockSlow", "internal/sync.fatal", "internal/sync.runtime_Semrelease", "sync/atomic.StoreUint32"], unfollowed := true, recurses := true, named := ["loop.example/g00829/impl.errWidth", "loop.example/g00829/impl.errBig", "internal/bytealg.MaxLen", "unicode/utf8.first", "unicode/utf8.acceptRanges", "errors.errorType"], ifaces := true, apart := false, laid := [("unicode/utf8.acceptRanges", laid_unicode_utf8_acceptRanges), ("errors.errorType", laid_errors_errorType), ("loop.example/g00829/impl.errWidth", laid_loop_example_g00829_impl_errWidth), ("loop.example/g00829/impl.errBig", laid_loop_example_g00829_impl_errBig), ("unicode/utf8.first", laid_unicode_utf8_first)] }
def FnExactNarrowFitSaid : Prop := fnExactNarrowFitRow.holds Tryz.pinned (OpenSpec.ofChange fnExactNarrowFitSpec)

/-- ITS FALSE NEIGHBOUR: 'it returns false'. Refute it at one input. -/
def fnExactNarrowFitWrong : ChangeSpec := { name := "fnExactNarrowFit", vars := ["loop.example/g00829/impl.errWidth", "loop.example/g00829/impl.errBig"], fn := fun _ => fun
  | [d1, d2, g1, g2] => { results := [.lit (.bool false)], args := [d1, d2], vars := [g1, g2] }
  | _ => none }
def FnExactNarrowFitWrongFalsely : Prop := fnExactNarrowFitRow.holds Tryz.pinned (OpenSpec.ofChange fnExactNarrowFitWrong)

/- THE SECOND FORM. 'bulk': how many values and letters a reading holds, each counted each time it is reached (what is shared counts as often as it is met; a slice's spare places count too). A statement '..UptoSaid' is the law's where the arguments, and the package variables that the reading takes, are together of bulk at most 1048576: NARROWER than '..Said'. Prove '..Said' where nothing that the law and all that it calls make is longer than what came in: it says more and counts as full. Else prove '..UptoSaid'. A law counts once. -/
mutual
def uptoBulk {H : Type} : DataW H → Nat
  | .lit (.string bytes) => bytes.length + 1
  | .lit _ => 1
  | .nil => 1
  | .ptr d => uptoBulk d + 1
  | .slice elems spare => uptoBulkAll elems + uptoBulkAll spare + 1
  | .agg parts => uptoBulkAll parts + 1
  | .iface _ d => uptoBulk d + 1
  | .map entries => uptoBulkEntries entries + 1
  | .held _ => 1
def uptoBulkAll {H : Type} : List (DataW H) → Nat
  | [] => 0
  | d :: r => uptoBulk d + uptoBulkAll r
def uptoBulkEntries {H : Type} : List (Lit × DataW H) → Nat
  | [] => 0
  | x :: r => uptoBulkEntry x + uptoBulkEntries r
def uptoBulkEntry {H : Type} : Lit × DataW H → Nat
  | (.string bytes, d) => bytes.length + uptoBulk d + 1
  | (_, d) => uptoBulk d + 1
 end
def uptoSmall : (H : Type) → List (DataW H) → Bool := fun _ ds => decide (uptoBulkAll ds ≤ 1048576)
def OpenSpec.upto (s : _root_.Go.ChangeSpec) : _root_.Go.OpenSpec := { _root_.Go.OpenSpec.ofChange s with cond := some uptoSmall }

/-- 'laws.FnExactFitsAll', WHERE WHAT IT READS IS OF BULK AT MOST 1048576: true; the input reads as it did. -/
def fnExactFitsAllUptoRow : OpenClaim := { program := "ythjkgbcomjiejabgreatdoor", sum := "dab9bae759e89679a041bb6322e148f97d77598e012715b4d9a35df48fbfad07", func := "loop.example/g00829/laws.FnExactFitsAll", spec := "fnExactFitsAll", inPlace := ["internal/abi.NoEscape", "internal/bytealg.MakeNoZero", "internal/bytealg.CountString", "internal/bytealg.IndexByteString", "internal/bytealg.IndexString"], unfollowed := true, recurses := true, named := ["unicode/utf8.first", "unicode/utf8.acceptRanges", "internal/bytealg.MaxLen"], apart := false, laid := [("unicode/utf8.acceptRanges", laid_unicode_utf8_acceptRanges), ("unicode/utf8.first", laid_unicode_utf8_first)], narrowed := true }
def FnExactFitsAllUptoSaid : Prop := fnExactFitsAllUptoRow.holds Tryz.pinned (OpenSpec.upto fnExactFitsAllSpec)

/-- 'laws.FnExactNarrowestOf', WHERE WHAT IT READS IS OF BULK AT MOST 1048576: true; the input reads as it did. -/
def fnExactNarrowestOfUptoRow : OpenClaim := { program := "ythjkgbcomjiejabgreatdoor", sum := "dab9bae759e89679a041bb6322e148f97d77598e012715b4d9a35df48fbfad07", func := "loop.example/g00829/laws.FnExactNarrowestOf", spec := "fnExactNarrowestOf", inPlace := ["internal/abi.NoEscape", "internal/bytealg.MakeNoZero", "internal/bytealg.CountString", "internal/bytealg.IndexByteString", "internal/bytealg.IndexString"], unfollowed := true, recurses := true, named := ["unicode/utf8.first", "unicode/utf8.acceptRanges", "internal/bytealg.MaxLen"], apart := false, laid := [("unicode/utf8.acceptRanges", laid_unicode_utf8_acceptRanges), ("unicode/utf8.first", laid_unicode_utf8_first)], narrowed := true }
def FnExactNarrowestOfUptoSaid : Prop := fnExactNarrowestOfUptoRow.holds Tryz.pinned (OpenSpec.upto fnExactNarrowestOfSpec)

/-- 'laws.FnExactNarrowFit', WHERE WHAT IT READS IS OF BULK AT MOST 1048576: true; the input reads as it did. -/
def fnExactNarrowFitUptoRow : OpenClaim := { program := "ythjkgbcomjiejabgreatdoor", sum := "dab9bae759e89679a041bb6322e148f97d77598e012715b4d9a35df48fbfad07", func := "loop.example/g00829/laws.FnExactNarrowFit", spec := "fnExactNarrowFit", inPlace := ["internal/bytealg.IndexByteString", "internal/bytealg.IndexString", "internal/reflectlite.ValueOf", "(internal/reflectlite.Value).Type", "(internal/reflectlite.Value).IsNil", "internal/reflectlite.TypeOf", "(internal/reflectlite.Value).Elem", "(internal/reflectlite.Value).Set", "sync/atomic.LoadUint32", "(*internal/sync.Mutex).Lock", "internal/race.Disable", "sync/atomic.CompareAndSwapInt32", "internal/race.Enable", "internal/race.Acquire", "(*internal/sync.Mutex).lockSlow", "internal/sync.runtime_canSpin", "internal/sync.runtime_doSpin", "internal/sync.throw", "internal/sync.runtime_nanotime", "internal/sync.runtime_SemacquireMutex", "sync/atomic.AddInt32", "(*internal/sync.Mutex).Unlock", "internal/race.ReleaseMerge", "(*internal/sync.Mutex).unlockSlow", "internal/sync.fatal", "internal/sync.runtime_Semrelease", "sync/atomic.StoreUint32"], unfollowed := true, recurses := true, named := ["loop.example/g00829/impl.errWidth", "loop.example/g00829/impl.errBig", "internal/bytealg.MaxLen", "unicode/utf8.first", "unicode/utf8.acceptRanges", "errors.errorType"], ifaces := true, apart := false, laid := [("unicode/utf8.acceptRanges", laid_unicode_utf8_acceptRanges), ("errors.errorType", laid_errors_errorType), ("loop.example/g00829/impl.errWidth", laid_loop_example_g00829_impl_errWidth), ("loop.example/g00829/impl.errBig", laid_loop_example_g00829_impl_errBig), ("unicode/utf8.first", laid_unicode_utf8_first)], narrowed := true }
def FnExactNarrowFitUptoSaid : Prop := fnExactNarrowFitUptoRow.holds Tryz.pinned (OpenSpec.upto fnExactNarrowFitSpec)

end Rows
end Go.Proofs.YthjkgbcomjiejabGreatDoor
