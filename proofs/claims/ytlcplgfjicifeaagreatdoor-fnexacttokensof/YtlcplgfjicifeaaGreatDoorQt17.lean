/-
  The model's small functions: what opens, shuts, ends an atom; whether a line's rest is white.
-/
import Derived.Test.YtlcplgfjicifeaaGreatDoorQt16
import Derived.Test.YtlcplgfjicifeaaGreatDoorQt08
import Derived.Test.YtlcplgfjicifeaaGreatDoorRows
import Derived.Test.YtlcplgfjicifeaaGreatDoorQt01
import Derived.WalkKit
import Derived.LaidEql
import Derived.Stop.Asserts
import Derived.RowKitTokens
import Derived.Lib.Hide
import Derived.Test.YtlcplgfjicifeaaGreatDoorQt10
namespace Go.Proofs.YtlcplgfjicifeaaGreatDoor
open Go.RowKit
set_option linter.unusedVariables false

/-- what a node without a Text is written as. -/
def mkS (k : Int) : ByteArray := if k = 3 then ⟨#[40, 41]⟩ else if k = 4 then ⟨#[91, 93]⟩ else if k = 5 then ⟨#[123, 125]⟩ else if k = 6 then ⟨#[39]⟩ else ByteArray.empty
set_option maxHeartbeats 400000 in
theorem marksOf_any (k : Int) (w : World) :
    Calls Tryz.prog 108 #[.int .i64 k] w fun e w' => e = .returned (.string (mkS k)) ∧ w = w' := by
  by_cases h3 : k = 3
  · subst h3
    go_enter Tryz.func108, Tryz.ntmps108
    go_wp2
    go_ret
    exact ⟨rfl, rfl⟩
  by_cases h4 : k = 4
  · subst h4
    go_enter Tryz.func108, Tryz.ntmps108
    go_wp2
    go_ret
    exact ⟨rfl, rfl⟩
  by_cases h5 : k = 5
  · subst h5
    go_enter Tryz.func108, Tryz.ntmps108
    go_wp2
    go_ret
    exact ⟨rfl, rfl⟩
  by_cases h6 : k = 6
  · subst h6
    go_enter Tryz.func108, Tryz.ntmps108
    go_wp2
    go_ret
    exact ⟨rfl, rfl⟩
  have hI := Lib.hid (show mkS k = ByteArray.empty by simp [mkS, h3, h4, h5, h6])
  have b3 : (k == 3) = false := by simpa using h3
  have b4 : (k == 4) = false := by simpa using h4
  have b5 : (k == 5) = false := by simpa using h5
  have b6 : (k == 6) = false := by simpa using h6
  clear h3 h4 h5 h6
  go_enter Tryz.func108, Tryz.ntmps108
  go_wp2
  go_ret
  rw [hI.out]
  exact ⟨rfl, rfl⟩
theorem mkS_toList (k : Int) : ((mkS k).toList == []) = !(inB k 3 6) := by
  unfold mkS
  repeat' split
  · rename_i h; subst h; kernel_rfl
  · rename_i h; subst h; kernel_rfl
  · rename_i h; subst h; kernel_rfl
  · rename_i h; subst h; kernel_rfl
  · have : inB k 3 6 = false := by
      cases e : inB k 3 6
      · rfl
      · have := inB_true.1 e; omega
    rw [this, Bool.not_false]
    exact (show (ByteArray.empty.toList == []) = true by simp)
set_option maxHeartbeats 400000 in
theorem newRoot_any (w : World) :
    Calls Tryz.prog 132 #[] w fun e w' => e = .returned (ptr w.heap.size) ∧ BlkL w' w.heap.size 88 [.int .i64 (-1), .int .i64 (-1), .string ByteArray.empty, .int .i64 (-1), .pointer none, .slice none 0 0] ∧ Below w.heap.size w w' := by
  go_enter Tryz.func132, Tryz.ntmps132
  go_wp2
  go_ret
  exact ⟨rfl, BlkL.new _ _ _, (Below.refl _ _).alloc (Nat.le_refl _) _⟩
set_option maxHeartbeats 400000 in
theorem holds_any (p : Nat) (k : Int) (w : World) (h : w.cell? ⟨p, 1, none⟩ = some (.int .i64 k)) :
    Calls Tryz.prog 135 #[ptr p] w fun e w' => e = .returned (.bool (decide (k = -1) || inB k 3 6)) ∧ w = w' := by
  unfold ptr
  have hl := World.block_lt_of_cell? _ _ h
  by_cases h1 : k = -1
  · subst h1
    go_enter Tryz.func135, Tryz.ntmps135
    go_wp2
    go_ret
    exact ⟨rfl, rfl⟩
  · have hI := Lib.hid (show (decide (k = -1) || inB k 3 6) = inB k 3 6 by simp [h1])
    have b1 : (k == -1) = false := by simpa using h1
    have HK := Lib.hid (mkS_toList k)
    clear h1
    go_enter Tryz.func135, Tryz.ntmps135
    go_wp2_with fail
    refine (marksOf_any _ _).mono ?_
    rintro e w' ⟨rfl, rfl⟩
    cases hq : inB k 3 6
    · have hh := HK.out
      rw [hq] at hh
      have hh' : ((mkS k).toList != []) = false := by unfold bne; rw [hh]; rfl
      have HQ := Lib.hid hq
      clear hq
      go_wp2
      go_ret
      rw [hI.out, HQ.out]
      exact ⟨rfl, rfl⟩
    · have hh := HK.out
      rw [hq] at hh
      have hh' : ((mkS k).toList != []) = true := by unfold bne; rw [hh]; rfl
      have HQ := Lib.hid hq
      clear hq
      go_wp2
      go_ret
      rw [hI.out, HQ.out]
      exact ⟨rfl, rfl⟩
/-- the place of a branch, by its pointer. -/
def rank (ps : Nat → Nat) (k : Nat) (v : Value) : Nat := fst (fun i => ps i == (match v with | .pointer (some a) => a.block | _ => 0)) (k + 1)
theorem Fo.rank {w : World} {B k : Nat} {l : List Nd} {ps : Nat → Nat} {vs : Nat → Value} (h : Fo w B l k ps vs) {i : Nat} (hi : i ≤ k) : rank ps k (ptr (ps i)) = i := by
  unfold Go.Proofs.YtlcplgfjicifeaaGreatDoor.rank ptr
  refine fst_at (by omega) (by simp) fun j hj => ?_
  simp only [beq_eq_false_iff_ne]
  intro e
  have := h.dif j i (by omega) hi e
  omega
set_option maxHeartbeats 1000000 in
theorem climbed_any {w : World} {B k : Nat} {l : List Nd} {ps : Nat → Nat} {vs : Nat → Value} (h : Fo w B l k ps vs) (b : Nat) (hb : b ≤ k) (d : Int) :
    Calls Tryz.prog 133 #[ptr (ps b), .int .i64 d] w fun e w' => e = .returned (ptr (ps (climb l d b))) ∧ w = w' := by
  have H := Lib.hid h
  clear h
  unfold ptr
  go_enter Tryz.func133, Tryz.ntmps133
  go_wp2
  go_loopw [0] (fun v wr => ∃ c : Nat, c ≤ k ∧ v = ptr (ps c) ∧ climb l d b = climb l d c ∧ wr = w) (fun v _ => Go.Proofs.YtlcplgfjicifeaaGreatDoor.rank ps k v)
  case atStart => exact ⟨b, hb, rfl, rfl, rfl⟩
  case round =>
    obtain ⟨c, hc, rfl, he, rfl⟩ := hrel
    have HE := Lib.hid he
    clear he
    have hr := H.out.rank hc
    unfold ptr at hr ⊢
    obtain ⟨c0, c1, c2, c3, c4, c5, cl⟩ := H.out.cells hc
    by_cases hd : d ≤ dep l c
    · have hd1 : decide (d ≤ dep l c) = true := by simpa using hd
      cases c with
      | zero =>
        have c4' : wr.cell? ⟨ps 0, 4, none⟩ = some (.pointer none) := c4
        have HR := Lib.hid (show climb l d b = 0 from HE.out)
        clear c1 c2 c3 c4 c5 hd
        go_wp2
        go_ret
        rw [HR.out]
        exact ⟨rfl, rfl⟩
      | succ c =>
        have c4' : wr.cell? ⟨ps (c + 1), 4, none⟩ = some (.pointer (some ⟨ps (par l c), 0, none⟩)) := c4
        have hp := par_le l c
        have HR := Lib.hid (show climb l d b = climb l d (par l c) from HE.out.trans (climb_par hd))
        have hr2 := H.out.rank (show par l c ≤ k by omega)
        unfold ptr at hr2
        clear c1 c2 c3 c4 c5 hd
        go_wp2
        go_roundw
        case rel => exact ⟨par l c, by omega, rfl, HR.out, trivial⟩
        case measure => rw [hr, hr2]; omega
    · have hd1 : decide (d ≤ dep l c) = false := by simpa using hd
      have HR := Lib.hid (show climb l d b = c from HE.out.trans (climb_stop (by omega)))
      clear c1 c2 c3 c4 c5 hd
      go_wp2
      go_ret
      rw [HR.out]
      exact ⟨rfl, rfl⟩
end Go.Proofs.YtlcplgfjicifeaaGreatDoor
namespace Go.Proofs.YtlcplgfjicifeaaGreatDoor
open Go.RowKit Go.Extern.Stop Go.Stop Go.Extern
set_option linter.unusedVariables false

theorem as_nil (t : Value) (w : World) :
    Calls Tryz.prog 196 #[.nilIface, t] w fun e w' => e = .returned (.bool false) ∧ w' = w := by
  go_enter Tryz.func196, Tryz.ntmps196
  go_wp2
  go_ret
  exact ⟨rfl, rfl⟩
theorem rf_valueOfP (t : Addr) (w : World) : (ReflectliteValue.unpack (.iface 240 (.pointer (some t)))).run Tryz.prog w
    = .ok (.agg #[.pointer (some ⟨9, 240, none⟩), .pointer (some ⟨w.heap.size, 0, none⟩), .int .u64 150]) (w.alloc (.cells #[.pointer (some t)] 240)) := by kernel_rfl
theorem rf_typeP (a : Addr) (w : World) : (ReflectliteValue.methodAny (ReflectliteValue.valueError "reflectlite.Value.Type" 0) (fun t _ _ _ => ReflectliteType.toType t) #[.agg #[.pointer (some ⟨9, 240, none⟩), .pointer (some a), .int .u64 150]]).run Tryz.prog w
    = .ok (.iface 320 (.agg #[.pointer (some ⟨9, 240, none⟩)])) w := by kernel_rfl
theorem rf_methodKind (h : Value) (w : World) : (Go.method 506 320 (.agg #[h]) "Kind").run Tryz.prog w = .ok (339, h) w := by kernel_rfl
theorem rf_kindP (w : World) : ((ReflectliteType.abiMethod fun t => (fun a : Nat => Value.int IntKind.u8 (a : Int)) <$> Rtype.kind t) #[.pointer (some ⟨9, 240, none⟩)]).run Tryz.prog w = .ok (.int .u8 22) w := by kernel_rfl
theorem rf_kindS (w : World) : ((ReflectliteType.abiMethod fun t => (fun a : Nat => Value.int IntKind.u8 (a : Int)) <$> Rtype.kind t) #[.pointer (some ⟨9, 238, none⟩)]).run Tryz.prog w = .ok (.int .u8 25) w := by kernel_rfl
theorem rf_mp (z : Sem Value) (f : TypeId → Addr → Nat → Nat → Sem Value) (a : Addr) (w : World) :
    (ReflectliteValue.method z f #[.agg #[.pointer (some ⟨9, 240, none⟩), .pointer (some a), .int .u64 150]]).run Tryz.prog w = (f 240 a 150 22).run Tryz.prog w := by kernel_rfl
theorem rf_partsP (a : Addr) (w : World) : (ReflectliteValue.parts (.agg #[.pointer (some ⟨9, 240, none⟩), .pointer (some a), .int .u64 150])).run Tryz.prog w = .ok (some (240, a, 150)) w := by kernel_rfl
theorem rf_isNilP (a p : Addr) (W : World) (ha : W.cell? a = some (.pointer (some p))) :
    (ReflectliteValue.method (ReflectliteValue.valueError "reflectlite.Value.IsNil" 0) ReflectliteValue.isNil #[.agg #[.pointer (some ⟨9, 240, none⟩), .pointer (some a), .int .u64 150]]).run Tryz.prog W = .ok (.bool false) W := by
  rw [rf_mp]
  simp [ReflectliteValue.isNil, loadVar, isAgg, underlying, Tryz.underlying240, ha, Result.andThen]
theorem rf_methodElem (h : Value) (w : World) : (Go.method 506 320 (.agg #[h]) "Elem").run Tryz.prog w = .ok (372, .agg #[h]) w := by kernel_rfl
theorem rf_methodImplements (h : Value) (w : World) : (Go.method 506 320 (.agg #[h]) "Implements").run Tryz.prog w = .ok (373, .agg #[h]) w := by kernel_rfl
theorem rf_methodAssignableTo (h : Value) (w : World) : (Go.method 506 320 (.agg #[h]) "AssignableTo").run Tryz.prog w = .ok (370, .agg #[h]) w := by kernel_rfl
theorem rf_elemP (w : World) : (ReflectliteType.method ReflectliteType.elem #[.agg #[.pointer (some ⟨9, 240, none⟩)]]).run Tryz.prog w = .ok (.iface 320 (.agg #[.pointer (some ⟨9, 238, none⟩)])) w := by kernel_rfl
theorem rf_implementsS (w : World) : (ReflectliteType.relation "Implements" ReflectliteType.implements_ #[.agg #[.pointer (some ⟨9, 238, none⟩)], .iface 320 (.agg #[.pointer (some ⟨9, 108, none⟩)])]).run Tryz.prog w = .ok (.bool true) w := by kernel_rfl
theorem rf_typeOfS (v : Value) (w : World) : (ReflectliteType.typeOf #[.iface 238 v]).run Tryz.prog w = .ok (.iface 320 (.agg #[.pointer (some ⟨9, 238, none⟩)])) w := by kernel_rfl
theorem rf_assignableS (w : World) : (ReflectliteType.relation "AssignableTo" ReflectliteType.assignableTo #[.agg #[.pointer (some ⟨9, 238, none⟩)], .iface 320 (.agg #[.pointer (some ⟨9, 238, none⟩)])]).run Tryz.prog w = .ok (.bool true) w := by kernel_rfl
theorem rf_valueOfS (p : Int) (w : World) : (ReflectliteValue.unpack (.iface 238 (.agg #[.int .i64 p]))).run Tryz.prog w
    = .ok (.agg #[.pointer (some ⟨9, 238, none⟩), .pointer (some ⟨w.heap.size, 0, none⟩), .int .u64 153]) (w.alloc (.cells #[.int .i64 p] 238)) := by kernel_rfl
theorem rf_elemOfP (w : World) : (Rtype.elem? 240).run Tryz.prog w = .ok (some 238) w := by kernel_rfl
theorem rf_mkS (p : Addr) (w : World) : (ReflectliteValue.mk 238 p ReflectliteValue.flagAddr).run Tryz.prog w = .ok (.agg #[.pointer (some ⟨9, 238, none⟩), .pointer (some p), .int .u64 409]) w := by kernel_rfl
theorem rf_elemVP (a p : Addr) (W : World) (ha : W.cell? a = some (.pointer (some p))) :
    (ReflectliteValue.method (ReflectliteValue.valueError "reflectlite.Value.Elem" 0) ReflectliteValue.elem #[.agg #[.pointer (some ⟨9, 240, none⟩), .pointer (some a), .int .u64 150]]).run Tryz.prog W
      = .ok (.agg #[.pointer (some ⟨9, 238, none⟩), .pointer (some p), .int .u64 409]) W := by
  rw [rf_mp]
  simp [ReflectliteValue.elem, loadVar, isAgg, underlying, Tryz.underlying240, ha, Result.andThen, rf_elemOfP, rf_mkS]
theorem rf_partsA (a : Addr) (w : World) : (ReflectliteValue.parts (.agg #[.pointer (some ⟨9, 238, none⟩), .pointer (some a), .int .u64 409])).run Tryz.prog w = .ok (some (238, a, 409)) w := by kernel_rfl
theorem rf_partsS (a : Addr) (w : World) : (ReflectliteValue.parts (.agg #[.pointer (some ⟨9, 238, none⟩), .pointer (some a), .int .u64 153])).run Tryz.prog w = .ok (some (238, a, 153)) w := by kernel_rfl
theorem rf_directS (w : World) : (Rtype.directlyAssignable 238 238).run Tryz.prog w = .ok true w := by kernel_rfl
theorem rf_setT (t b : Nat) (W : World) :
    (ReflectliteValue.set #[.agg #[.pointer (some ⟨9, 238, none⟩), .pointer (some ⟨t, 0, none⟩), .int .u64 409], .agg #[.pointer (some ⟨9, 238, none⟩), .pointer (some ⟨b, 0, none⟩), .int .u64 153]]).run Tryz.prog W
      = (loadVar 238 ⟨b, 0, none⟩ >>= fun x => storeVar 238 ⟨t, 0, none⟩ x >>= fun _ => pure (.tuple #[])).run Tryz.prog W := by kernel_rfl
theorem rf_setS (t b : Nat) (p : Int) (old : Value) (W : World) (hb : W.cell? ⟨b, 0, none⟩ = some (.int .i64 p)) (ht : W.cell? ⟨t, 0, none⟩ = some old) (hf : W.frozen? ⟨t, 0, none⟩ = false) :
    (ReflectliteValue.set #[.agg #[.pointer (some ⟨9, 238, none⟩), .pointer (some ⟨t, 0, none⟩), .int .u64 409], .agg #[.pointer (some ⟨9, 238, none⟩), .pointer (some ⟨b, 0, none⟩), .int .u64 153]]).run Tryz.prog W
      = .ok (.tuple #[]) (W.setCell ⟨t, 0, none⟩ (.int .i64 p)) := by
  have hl : (loadCells ⟨b, 0, none⟩ 1).run Tryz.prog W = .ok #[.int .i64 p] W := by
    simp [loadCells, loadCellsFrom, hb, Addr.add]
  rw [rf_setT]
  simp [loadVar, isAgg, underlying, Tryz.underlying238, Result.andThen, storeVar, Value.cells, storeCells, Addr.add, hl]
  rw [run_store Tryz.prog W ⟨t, 0, none⟩ _ _ (by rfl)]
  simp [ht, hf]
end Go.Proofs.YtlcplgfjicifeaaGreatDoor
namespace Go.Proofs.YtlcplgfjicifeaaGreatDoor
open Go.RowKit Go.Extern.Stop Go.Stop Go.Extern
set_option linter.unusedVariables false

theorem errVar : Tryz.prog.globalNamed "errors.errorType" = some 2 := by kernel_rfl
/-- errors.errorType holds the handle of the type error. -/
def ErrV (w : World) : Prop := w.cell? ⟨2, 0, none⟩ = some (.iface 320 (.agg #[.pointer (some ⟨9, 108, none⟩)]))
set_option maxHeartbeats 4000000 in
set_option maxRecDepth 100000 in
theorem as_hit (p : Int) (t : Nat) (old : Value) (w : World) (hg : ErrV w) (ht0 : w.cell? ⟨t, 0, none⟩ = some old) (hf0 : w.frozen? ⟨t, 0, none⟩ = false) :
    Calls Tryz.prog 196 #[.iface 238 (.agg #[.int .i64 p]), .iface 240 (.pointer (some ⟨t, 0, none⟩))] w fun ev w' => ev = .returned (.bool true) ∧ w' = ((((w.alloc (.cells #[.pointer (some ⟨t, 0, none⟩)] 240)).alloc (.cells #[.pointer (some ⟨9, 240, none⟩), .pointer (some ⟨w.heap.size, 0, none⟩), .int .u64 150] 281)).alloc (.cells #[.pointer (some ⟨9, 240, none⟩), .pointer (some ⟨w.heap.size, 0, none⟩), .int .u64 150] 281)).alloc (.cells #[.int .i64 p] 238)).setCell ⟨t, 0, none⟩ (.int .i64 p) := by
  unfold ErrV at hg
  have h6 := @run_callFunc_extern Tryz.prog 231 _ (fun args => ReflectliteValue.unpack (args.getD 0 (.tuple #[]))) Tryz.func231 (by kernel_rfl) (by kernel_rfl) (by kernel_rfl) (by kernel_rfl)
  have h7 := @run_callFunc_extern Tryz.prog 232 _ (ReflectliteValue.methodAny (ReflectliteValue.valueError "reflectlite.Value.Type" 0) (fun t _ _ _ => ReflectliteType.toType t)) Tryz.func232 (by kernel_rfl) (by kernel_rfl) (by kernel_rfl) (by kernel_rfl)
  have h8 := @run_callFunc_extern Tryz.prog 233 _ (ReflectliteValue.method (ReflectliteValue.valueError "reflectlite.Value.IsNil" 0) ReflectliteValue.isNil) Tryz.func233 (by kernel_rfl) (by kernel_rfl) (by kernel_rfl) (by kernel_rfl)
  have h27 := @run_callFunc_extern Tryz.prog 339 _ (ReflectliteType.abiMethod fun t => do pure (.int .u8 (← Rtype.kind t))) Tryz.func339 (by kernel_rfl) (by kernel_rfl) (by kernel_rfl) (by kernel_rfl)
  have h37 := @run_callFunc_extern Tryz.prog 372 _ (ReflectliteType.method ReflectliteType.elem) Tryz.func372 (by kernel_rfl) (by kernel_rfl) (by kernel_rfl) (by kernel_rfl)
  have h38 := @run_callFunc_extern Tryz.prog 373 _ (ReflectliteType.relation "Implements" ReflectliteType.implements_) Tryz.func373 (by kernel_rfl) (by kernel_rfl) (by kernel_rfl) (by kernel_rfl)
  have h10 := @run_callFunc_extern Tryz.prog 260 _ ReflectliteType.typeOf Tryz.func260 (by kernel_rfl) (by kernel_rfl) (by kernel_rfl) (by kernel_rfl)
  have h35 := @run_callFunc_extern Tryz.prog 370 _ (ReflectliteType.relation "AssignableTo" ReflectliteType.assignableTo) Tryz.func370 (by kernel_rfl) (by kernel_rfl) (by kernel_rfl) (by kernel_rfl)
  have h11 := @run_callFunc_extern Tryz.prog 261 _ (ReflectliteValue.method (ReflectliteValue.valueError "reflectlite.Value.Elem" 0) ReflectliteValue.elem) Tryz.func261 (by kernel_rfl) (by kernel_rfl) (by kernel_rfl) (by kernel_rfl)
  have h12 := @run_callFunc_extern Tryz.prog 262 _ ReflectliteValue.set Tryz.func262 (by kernel_rfl) (by kernel_rfl) (by kernel_rfl) (by kernel_rfl)
  have tO := rf_typeOfS
  have mA := rf_methodAssignableTo
  have a25 := rf_assignableS
  have v25 := rf_valueOfS
  have f6 := rf_valueOfP
  have f7 := rf_typeP
  have mK := rf_methodKind
  have mE := rf_methodElem
  have mI := rf_methodImplements
  have k27 := rf_kindP
  have k25 := rf_kindS
  have e27 := rf_elemP
  have i25 := rf_implementsS
  have hlt : 2 < w.heap.size := World.block_lt_of_cell? _ _ hg
  have htl : t < w.heap.size := by
    rcases Nat.lt_or_ge t w.heap.size with h | h
    · exact h
    · simp [World.cell?, Array.getElem?_eq_none h] at ht0
  have n8 := rf_isNilP ⟨w.heap.size, 0, none⟩ ⟨t, 0, none⟩ ((w.alloc (.cells #[.pointer (some ⟨t, 0, none⟩)] 240)).alloc (.cells #[.pointer (some ⟨9, 240, none⟩), .pointer (some ⟨w.heap.size, 0, none⟩), .int .u64 150] 281)) (by simp)
  have hg2 : ((w.alloc (.cells #[.pointer (some ⟨t, 0, none⟩)] 240)).alloc (.cells #[.pointer (some ⟨9, 240, none⟩), .pointer (some ⟨w.heap.size, 0, none⟩), .int .u64 150] 281)).cell? ⟨2, 0, none⟩ = some (.iface 320 (.agg #[.pointer (some ⟨9, 108, none⟩)])) := by
    rw [World.cell?_alloc_lt _ _ ⟨2, 0, none⟩ (by simp <;> omega), World.cell?_alloc_lt _ _ ⟨2, 0, none⟩ hlt]; exact hg
  have el := rf_elemVP ⟨w.heap.size, 0, none⟩ ⟨t, 0, none⟩ (((w.alloc (.cells #[.pointer (some ⟨t, 0, none⟩)] 240)).alloc (.cells #[.pointer (some ⟨9, 240, none⟩), .pointer (some ⟨w.heap.size, 0, none⟩), .int .u64 150] 281)).alloc (.cells #[.pointer (some ⟨9, 240, none⟩), .pointer (some ⟨w.heap.size, 0, none⟩), .int .u64 150] 281)) (by rw [World.cell?_alloc_lt _ _ ⟨w.heap.size, 0, none⟩ (by simp; omega)]; simp)
  have st := rf_setS t (w.heap.size + 1 + 1 + 1) p old ((((w.alloc (.cells #[.pointer (some ⟨t, 0, none⟩)] 240)).alloc (.cells #[.pointer (some ⟨9, 240, none⟩), .pointer (some ⟨w.heap.size, 0, none⟩), .int .u64 150] 281)).alloc (.cells #[.pointer (some ⟨9, 240, none⟩), .pointer (some ⟨w.heap.size, 0, none⟩), .int .u64 150] 281)).alloc (.cells #[.int .i64 p] 238))
    (by rw [World.cell?_alloc_at _ _ _ _ (by simp)]; rfl)
    (by rw [World.cell?_alloc_lt _ _ ⟨t, 0, none⟩ (by simp; omega), World.cell?_alloc_lt _ _ ⟨t, 0, none⟩ (by simp; omega), World.cell?_alloc_lt _ _ ⟨t, 0, none⟩ (by simp; omega), World.cell?_alloc_lt _ _ ⟨t, 0, none⟩ htl]; exact ht0)
    (by rw [World.frozen?_alloc_old _ _ ⟨t, 0, none⟩ (by simp; omega), World.frozen?_alloc_old _ _ ⟨t, 0, none⟩ (by simp; omega), World.frozen?_alloc_old _ _ ⟨t, 0, none⟩ (by simp; omega), World.frozen?_alloc_old _ _ ⟨t, 0, none⟩ (Nat.ne_of_lt htl)]; exact hf0)
  go_enter Tryz.func196, Tryz.ntmps196
  go_wp2
  refine wp_loop_rounds 1 ?_
  rw [rounds_succ]
  go_wp2
  go_ret
  exact ⟨rfl, rfl⟩
end Go.Proofs.YtlcplgfjicifeaaGreatDoor
namespace Go.Proofs.YtlcplgfjicifeaaGreatDoor
open Go.RowKit
set_option linter.unusedVariables false

def opB (c : Int) : Bool := c == 40 || (c == 91 || c == 123)
def shB (c : Int) : Bool := c == 41 || (c == 93 || c == 125)
theorem st_model (c : Int) : stB c = (wtB c || (opB c || (shB c || (c == 34 || c == 59)))) := by
  rcases kd_cases c with ⟨hk, h⟩ | ⟨hk, h⟩ | ⟨hk, h⟩ | ⟨hk, h⟩ | ⟨hk, h⟩ | ⟨hk, h1, h2, h3, h4, h5, h6, h7, h8, h9⟩
  · unfold stB; rw [hk, if_neg (by decide)]; rcases h with rfl | rfl | rfl <;> decide
  · unfold stB; rw [hk, if_neg (by decide)]; rcases h with rfl | rfl | rfl <;> decide
  · subst h; decide
  · subst h; decide
  · subst h; decide
  · unfold stB; rw [if_pos (.inl hk)]
    have e1 : opB c = false := by simp [opB]; omega
    have e2 : shB c = false := by simp [shB]; omega
    have e3 : (c == 34) = false := by simpa using h9
    have e4 : (c == 59) = false := by simpa using h8
    rw [e1, e2, e3, e4]; simp
set_option maxHeartbeats 400000 in
theorem l06Open_any (c : Int) (w : World) : Calls Tryz.prog 191 #[.int .u8 c] w fun e w' => e = .returned (.bool (opB c)) ∧ w = w' := by
  go_enter Tryz.func191, Tryz.ntmps191
  go_wp2
  all_goals go_ret
  all_goals simp_all [opB, Bool.or_assoc]
set_option maxHeartbeats 400000 in
theorem l06Close_any (c : Int) (w : World) : Calls Tryz.prog 192 #[.int .u8 c] w fun e w' => e = .returned (.bool (shB c)) ∧ w = w' := by
  go_enter Tryz.func192, Tryz.ntmps192
  go_wp2
  all_goals go_ret
  all_goals simp_all [shB, Bool.or_assoc]
set_option maxHeartbeats 400000 in
theorem l06Stops_any (c : Int) (h0 : 0 ≤ c) (h1 : c < 256) (w : World) : Calls Tryz.prog 194 #[.int .u8 c] w fun e w' => e = .returned (.bool (stB c)) ∧ w = w' := by
  have hS := Lib.hid (st_model c)
  have hw : IntKind.i64.wrap c = c := IntWalk.i64_in _ (by omega)
  go_enter Tryz.func194, Tryz.ntmps194
  go_wp2_with fail
  refine (sIsWhite_any _ _).mono ?_
  rintro e w' ⟨rfl, rfl⟩
  cases hwt : wtB c
  · go_wp2_with fail
    refine (l06Open_any _ _).mono ?_
    rintro e w' ⟨rfl, rfl⟩
    cases hop : opB c
    · go_wp2_with fail
      refine (l06Close_any _ _).mono ?_
      rintro e w' ⟨rfl, rfl⟩
      cases hsh : shB c
      · cases h34 : (c == 34) <;> cases h59 : (c == 59)
        all_goals
          have hF := Lib.hid (show stB c = _ by rw [hS.out, hwt, hop, hsh, h34, h59])
          go_wp2
          go_ret
          rw [hF.out]
          exact ⟨rfl, rfl⟩
      · have hF := Lib.hid (show stB c = true by rw [hS.out, hwt, hop, hsh]; rfl)
        go_wp2
        go_ret
        rw [hF.out]
        exact ⟨rfl, rfl⟩
    · have hF := Lib.hid (show stB c = true by rw [hS.out, hwt, hop]; rfl)
      go_wp2
      go_ret
      rw [hF.out]
      exact ⟨rfl, rfl⟩
  · have hF := Lib.hid (show stB c = true by rw [hS.out, hwt]; rfl)
    go_wp2
    go_ret
    rw [hF.out]
    exact ⟨rfl, rfl⟩
/-- what l06Rest tells. -/
def ResP (s : ByteArray) (i : Nat) (r : Bool) : Prop :=
  (r = true → ∃ m, i ≤ m ∧ m ≤ s.size ∧ (∀ k, i ≤ k → k < m → wtB (bt s k) = true ∧ bt s k ≠ 10) ∧ (m = s.size ∨ bt s m = 10)) ∧
  (r = false → ∃ k, i ≤ k ∧ k < s.size ∧ (∀ j, i ≤ j → j ≤ k → bt s j ≠ 10) ∧ wtB (bt s k) = false)
def ResE (s : ByteArray) (i : Nat) (w : World) (e : Ending) (w' : World) : Prop := (∃ r : Bool, e = .returned (.bool r) ∧ ResP s i r) ∧ w = w'
set_option maxHeartbeats 1000000 in
theorem l06Rest_any (s : ByteArray) (i : Nat) (hs : s.size ≤ 1048576) (hi : i ≤ s.size) (w : World) :
    Calls Tryz.prog 193 #[.string s, .int .i64 i] w (ResE s i w) := by
  go_enter Tryz.func193, Tryz.ntmps193
  go_wp2
  go_loop [5] (fun v => ∃ k : Nat, i ≤ k ∧ k ≤ s.size ∧ v = .int .i64 k ∧ ∀ j, i ≤ j → j < k → wtB (bt s j) = true ∧ bt s j ≠ 10) (fun v => s.size - (intOf v).toNat)
  case atStart => exact ⟨i, Nat.le_refl _, hi, rfl, fun j h1 h2 => by omega⟩
  case round =>
    obtain ⟨k, hik, hk, rfl, hall⟩ := hrel
    have HA := Lib.hid hall
    clear hall
    by_cases hlt : k < s.size
    · have hb := bt_at hlt
      have hl := bt_lt s k
      by_cases h10 : bt s k = 10
      · have b10 : ((s[k].toNat : Int) == 10) = true := by rw [← hb, h10]; rfl
        have b10' : ((s[k].toNat : Int) != 10) = false := by rw [← hb, h10]; rfl
        have HP := Lib.hid (show ResP s i true from ⟨fun _ => ⟨k, hik, hk, HA.out, .inr h10⟩, fun h => by cases h⟩)
        clear hb h10
        go_wp2
        go_ret
        exact ⟨⟨true, rfl, HP.out⟩, rfl⟩
      · have b10 : ((s[k].toNat : Int) == 10) = false := by rw [← hb]; simp; omega
        have b10' : ((s[k].toNat : Int) != 10) = true := by rw [← hb]; simp; omega
        have hw : IntKind.i64.wrap (s[k].toNat : Int) = s[k].toNat := IntWalk.i64_in _ (by omega)
        have HBE := Lib.hid hb
        clear hb
        go_wp2_with fail
        refine (sIsWhite_any _ _).mono ?_
        rintro e w' ⟨rfl, rfl⟩
        rw [← HBE.out]
        cases hwt : wtB (bt s k)
        · have HP := Lib.hid (show ResP s i false from ⟨fun h => (by cases h), fun _ => ⟨k, hik, hlt, fun j h1 h2 => (by
            by_cases hjk : j = k
            · subst hjk; exact h10
            · exact (HA.out j h1 (by omega)).2), hwt⟩⟩)
          go_wp2
          go_ret
          exact ⟨⟨false, rfl, HP.out⟩, rfl⟩
        · have HN := Lib.hid (show ∀ j, i ≤ j → j < k + 1 → wtB (bt s j) = true ∧ bt s j ≠ 10 from fun j h1 h2 => by
            by_cases hjk : j = k
            · subst hjk; exact ⟨hwt, h10⟩
            · exact HA.out j h1 (by omega))
          clear h10 hwt
          go_wp2
          go_round
          case rel => exact ⟨k + 1, by omega, by omega, by go_num, HN.out⟩
          case measure => simp [intOf]; omega
    · have HP := Lib.hid (show ResP s i true from ⟨fun _ => ⟨k, hik, hk, HA.out, .inl (by omega)⟩, fun h => by cases h⟩)
      go_wp2
      go_ret
      exact ⟨⟨true, rfl, HP.out⟩, rfl⟩
end Go.Proofs.YtlcplgfjicifeaaGreatDoor
