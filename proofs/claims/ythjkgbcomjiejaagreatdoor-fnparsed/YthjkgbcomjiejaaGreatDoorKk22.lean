/-
  errors.As at a fault of the reader's, after the guide's worked example.
-/
import Derived.Test.YthjkgbcomjiejaaGreatDoorKk21
import Derived.Test.YthjkgbcomjiejaaGreatDoorKk13
import Derived.Test.YthjkgbcomjiejaaGreatDoorRows
import Derived.Test.YthjkgbcomjiejaaGreatDoorKk03
import Derived.WalkKit
import Derived.LaidEql
import Derived.Stop.Asserts
import Derived.RowKitTokens
import Derived.Lib.Hide
namespace Go.Proofs.YthjkgbcomjiejaaGreatDoor
open Go.RowKit
set_option linter.unusedVariables false

/-- what a node without a Text is written as. -/
def mkS (k : Int) : ByteArray := if k = 3 then ⟨#[40, 41]⟩ else if k = 4 then ⟨#[91, 93]⟩ else if k = 5 then ⟨#[123, 125]⟩ else if k = 6 then ⟨#[39]⟩ else ByteArray.empty
set_option maxHeartbeats 400000 in
theorem marksOf_any (k : Int) (w : World) :
    Calls Tryz.prog 40 #[.int .i64 k] w fun e w' => e = .returned (.string (mkS k)) ∧ w = w' := by
  by_cases h3 : k = 3
  · subst h3
    go_enter Tryz.func40, Tryz.ntmps40
    go_wp2
    go_ret
    exact ⟨rfl, rfl⟩
  by_cases h4 : k = 4
  · subst h4
    go_enter Tryz.func40, Tryz.ntmps40
    go_wp2
    go_ret
    exact ⟨rfl, rfl⟩
  by_cases h5 : k = 5
  · subst h5
    go_enter Tryz.func40, Tryz.ntmps40
    go_wp2
    go_ret
    exact ⟨rfl, rfl⟩
  by_cases h6 : k = 6
  · subst h6
    go_enter Tryz.func40, Tryz.ntmps40
    go_wp2
    go_ret
    exact ⟨rfl, rfl⟩
  have hI := Lib.hid (show mkS k = ByteArray.empty by simp [mkS, h3, h4, h5, h6])
  have b3 : (k == 3) = false := by simpa using h3
  have b4 : (k == 4) = false := by simpa using h4
  have b5 : (k == 5) = false := by simpa using h5
  have b6 : (k == 6) = false := by simpa using h6
  clear h3 h4 h5 h6
  go_enter Tryz.func40, Tryz.ntmps40
  go_wp2
  go_ret
  rw [hI.out]
  exact ⟨rfl, rfl⟩
theorem mkS_toList (k : Int) : ((mkS k).toList == []) = !(inB k 3 6) := by
  unfold mkS
  repeat' split
  · rename_i h; subst h; kernel_rfl
  · rename_i h; subst h; kernel_rfl
  · rename_i h; subst h; kernel_rfl
  · rename_i h; subst h; kernel_rfl
  · have : inB k 3 6 = false := by
      cases e : inB k 3 6
      · rfl
      · have := inB_true.1 e; omega
    rw [this, Bool.not_false]
    exact (show (ByteArray.empty.toList == []) = true by simp)
set_option maxHeartbeats 400000 in
theorem newRoot_any (w : World) :
    Calls Tryz.prog 58 #[] w fun e w' => e = .returned (ptr w.heap.size) ∧ BlkL w' w.heap.size 70 [.int .i64 (-1), .int .i64 (-1), .string ByteArray.empty, .int .i64 (-1), .pointer none, .slice none 0 0] ∧ Below w.heap.size w w' := by
  go_enter Tryz.func58, Tryz.ntmps58
  go_wp2
  go_ret
  exact ⟨rfl, BlkL.new _ _ _, (Below.refl _ _).alloc (Nat.le_refl _) _⟩
set_option maxHeartbeats 400000 in
theorem holds_any (p : Nat) (k : Int) (w : World) (h : w.cell? ⟨p, 1, none⟩ = some (.int .i64 k)) :
    Calls Tryz.prog 70 #[ptr p] w fun e w' => e = .returned (.bool (decide (k = -1) || inB k 3 6)) ∧ w = w' := by
  unfold ptr
  have hl := World.block_lt_of_cell? _ _ h
  by_cases h1 : k = -1
  · subst h1
    go_enter Tryz.func70, Tryz.ntmps70
    go_wp2
    go_ret
    exact ⟨rfl, rfl⟩
  · have hI := Lib.hid (show (decide (k = -1) || inB k 3 6) = inB k 3 6 by simp [h1])
    have b1 : (k == -1) = false := by simpa using h1
    have HK := Lib.hid (mkS_toList k)
    clear h1
    go_enter Tryz.func70, Tryz.ntmps70
    go_wp2_with fail
    refine (marksOf_any _ _).mono ?_
    rintro e w' ⟨rfl, rfl⟩
    cases hq : inB k 3 6
    · have hh := HK.out
      rw [hq] at hh
      have hh' : ((mkS k).toList != []) = false := by unfold bne; rw [hh]; rfl
      have HQ := Lib.hid hq
      clear hq
      go_wp2
      go_ret
      rw [hI.out, HQ.out]
      exact ⟨rfl, rfl⟩
    · have hh := HK.out
      rw [hq] at hh
      have hh' : ((mkS k).toList != []) = true := by unfold bne; rw [hh]; rfl
      have HQ := Lib.hid hq
      clear hq
      go_wp2
      go_ret
      rw [hI.out, HQ.out]
      exact ⟨rfl, rfl⟩
/-- the place of a branch, by its pointer. -/
def rank (ps : Nat → Nat) (k : Nat) (v : Value) : Nat := fst (fun i => ps i == (match v with | .pointer (some a) => a.block | _ => 0)) (k + 1)
theorem Fo.rank {w : World} {B k : Nat} {l : List Nd} {ps : Nat → Nat} {vs : Nat → Value} (h : Fo w B l k ps vs) {i : Nat} (hi : i ≤ k) : rank ps k (ptr (ps i)) = i := by
  unfold Go.Proofs.YthjkgbcomjiejaaGreatDoor.rank ptr
  refine fst_at (by omega) (by simp) fun j hj => ?_
  simp only [beq_eq_false_iff_ne]
  intro e
  have := h.dif j i (by omega) hi e
  omega
set_option maxHeartbeats 1000000 in
theorem climbed_any {w : World} {B k : Nat} {l : List Nd} {ps : Nat → Nat} {vs : Nat → Value} (h : Fo w B l k ps vs) (b : Nat) (hb : b ≤ k) (d : Int) :
    Calls Tryz.prog 68 #[ptr (ps b), .int .i64 d] w fun e w' => e = .returned (ptr (ps (climb l d b))) ∧ w = w' := by
  have H := Lib.hid h
  clear h
  unfold ptr
  go_enter Tryz.func68, Tryz.ntmps68
  go_wp2
  go_loopw [0] (fun v wr => ∃ c : Nat, c ≤ k ∧ v = ptr (ps c) ∧ climb l d b = climb l d c ∧ wr = w) (fun v _ => Go.Proofs.YthjkgbcomjiejaaGreatDoor.rank ps k v)
  case atStart => exact ⟨b, hb, rfl, rfl, rfl⟩
  case round =>
    obtain ⟨c, hc, rfl, he, rfl⟩ := hrel
    have HE := Lib.hid he
    clear he
    have hr := H.out.rank hc
    unfold ptr at hr ⊢
    obtain ⟨c0, c1, c2, c3, c4, c5, cl⟩ := H.out.cells hc
    by_cases hd : d ≤ dep l c
    · have hd1 : decide (d ≤ dep l c) = true := by simpa using hd
      cases c with
      | zero =>
        have c4' : wr.cell? ⟨ps 0, 4, none⟩ = some (.pointer none) := c4
        have HR := Lib.hid (show climb l d b = 0 from HE.out)
        clear c1 c2 c3 c4 c5 hd
        go_wp2
        go_ret
        rw [HR.out]
        exact ⟨rfl, rfl⟩
      | succ c =>
        have c4' : wr.cell? ⟨ps (c + 1), 4, none⟩ = some (.pointer (some ⟨ps (par l c), 0, none⟩)) := c4
        have hp := par_le l c
        have HR := Lib.hid (show climb l d b = climb l d (par l c) from HE.out.trans (climb_par hd))
        have hr2 := H.out.rank (show par l c ≤ k by omega)
        unfold ptr at hr2
        clear c1 c2 c3 c4 c5 hd
        go_wp2
        go_roundw
        case rel => exact ⟨par l c, by omega, rfl, HR.out, trivial⟩
        case measure => rw [hr, hr2]; omega
    · have hd1 : decide (d ≤ dep l c) = false := by simpa using hd
      have HR := Lib.hid (show climb l d b = c from HE.out.trans (climb_stop (by omega)))
      clear c1 c2 c3 c4 c5 hd
      go_wp2
      go_ret
      rw [HR.out]
      exact ⟨rfl, rfl⟩
end Go.Proofs.YthjkgbcomjiejaaGreatDoor
namespace Go.Proofs.YthjkgbcomjiejaaGreatDoor
open Go.RowKit Go.Extern.Stop Go.Stop Go.Extern
set_option linter.unusedVariables false

theorem as_nil (t : Value) (w : World) :
    Calls Tryz.prog 82 #[.nilIface, t] w fun e w' => e = .returned (.bool false) ∧ w' = w := by
  go_enter Tryz.func82, Tryz.ntmps82
  go_wp2
  go_ret
  exact ⟨rfl, rfl⟩
theorem rf_valueOfP (t : Addr) (w : World) : (ReflectliteValue.unpack (.iface 115 (.pointer (some t)))).run Tryz.prog w
    = .ok (.agg #[.pointer (some ⟨4, 115, none⟩), .pointer (some ⟨w.heap.size, 0, none⟩), .int .u64 150]) (w.alloc (.cells #[.pointer (some t)] 115)) := by kernel_rfl
theorem rf_typeP (a : Addr) (w : World) : (ReflectliteValue.methodAny (ReflectliteValue.valueError "reflectlite.Value.Type" 0) (fun t _ _ _ => ReflectliteType.toType t) #[.agg #[.pointer (some ⟨4, 115, none⟩), .pointer (some a), .int .u64 150]]).run Tryz.prog w
    = .ok (.iface 148 (.agg #[.pointer (some ⟨4, 115, none⟩)])) w := by kernel_rfl
theorem rf_methodKind (h : Value) (w : World) : (Go.method 333 148 (.agg #[h]) "Kind").run Tryz.prog w = .ok (171, h) w := by kernel_rfl
theorem rf_kindP (w : World) : ((ReflectliteType.abiMethod fun t => (fun a : Nat => Value.int IntKind.u8 (a : Int)) <$> Rtype.kind t) #[.pointer (some ⟨4, 115, none⟩)]).run Tryz.prog w = .ok (.int .u8 22) w := by kernel_rfl
theorem rf_kindS (w : World) : ((ReflectliteType.abiMethod fun t => (fun a : Nat => Value.int IntKind.u8 (a : Int)) <$> Rtype.kind t) #[.pointer (some ⟨4, 113, none⟩)]).run Tryz.prog w = .ok (.int .u8 25) w := by kernel_rfl
theorem rf_mp (z : Sem Value) (f : TypeId → Addr → Nat → Nat → Sem Value) (a : Addr) (w : World) :
    (ReflectliteValue.method z f #[.agg #[.pointer (some ⟨4, 115, none⟩), .pointer (some a), .int .u64 150]]).run Tryz.prog w = (f 115 a 150 22).run Tryz.prog w := by kernel_rfl
theorem rf_partsP (a : Addr) (w : World) : (ReflectliteValue.parts (.agg #[.pointer (some ⟨4, 115, none⟩), .pointer (some a), .int .u64 150])).run Tryz.prog w = .ok (some (115, a, 150)) w := by kernel_rfl
theorem rf_isNilP (a p : Addr) (W : World) (ha : W.cell? a = some (.pointer (some p))) :
    (ReflectliteValue.method (ReflectliteValue.valueError "reflectlite.Value.IsNil" 0) ReflectliteValue.isNil #[.agg #[.pointer (some ⟨4, 115, none⟩), .pointer (some a), .int .u64 150]]).run Tryz.prog W = .ok (.bool false) W := by
  rw [rf_mp]
  simp [ReflectliteValue.isNil, loadVar, isAgg, underlying, Tryz.underlying115, ha, Result.andThen]
theorem rf_methodElem (h : Value) (w : World) : (Go.method 333 148 (.agg #[h]) "Elem").run Tryz.prog w = .ok (183, .agg #[h]) w := by kernel_rfl
theorem rf_methodImplements (h : Value) (w : World) : (Go.method 333 148 (.agg #[h]) "Implements").run Tryz.prog w = .ok (184, .agg #[h]) w := by kernel_rfl
theorem rf_methodAssignableTo (h : Value) (w : World) : (Go.method 333 148 (.agg #[h]) "AssignableTo").run Tryz.prog w = .ok (181, .agg #[h]) w := by kernel_rfl
theorem rf_elemP (w : World) : (ReflectliteType.method ReflectliteType.elem #[.agg #[.pointer (some ⟨4, 115, none⟩)]]).run Tryz.prog w = .ok (.iface 148 (.agg #[.pointer (some ⟨4, 113, none⟩)])) w := by kernel_rfl
theorem rf_implementsS (w : World) : (ReflectliteType.relation "Implements" ReflectliteType.implements_ #[.agg #[.pointer (some ⟨4, 113, none⟩)], .iface 148 (.agg #[.pointer (some ⟨4, 97, none⟩)])]).run Tryz.prog w = .ok (.bool true) w := by kernel_rfl
theorem rf_typeOfS (v : Value) (w : World) : (ReflectliteType.typeOf #[.iface 113 v]).run Tryz.prog w = .ok (.iface 148 (.agg #[.pointer (some ⟨4, 113, none⟩)])) w := by kernel_rfl
theorem rf_assignableS (w : World) : (ReflectliteType.relation "AssignableTo" ReflectliteType.assignableTo #[.agg #[.pointer (some ⟨4, 113, none⟩)], .iface 148 (.agg #[.pointer (some ⟨4, 113, none⟩)])]).run Tryz.prog w = .ok (.bool true) w := by kernel_rfl
theorem rf_valueOfS (p : Int) (w : World) : (ReflectliteValue.unpack (.iface 113 (.agg #[.int .i64 p]))).run Tryz.prog w
    = .ok (.agg #[.pointer (some ⟨4, 113, none⟩), .pointer (some ⟨w.heap.size, 0, none⟩), .int .u64 153]) (w.alloc (.cells #[.int .i64 p] 113)) := by kernel_rfl
theorem rf_elemOfP (w : World) : (Rtype.elem? 115).run Tryz.prog w = .ok (some 113) w := by kernel_rfl
theorem rf_mkS (p : Addr) (w : World) : (ReflectliteValue.mk 113 p ReflectliteValue.flagAddr).run Tryz.prog w = .ok (.agg #[.pointer (some ⟨4, 113, none⟩), .pointer (some p), .int .u64 409]) w := by kernel_rfl
theorem rf_elemVP (a p : Addr) (W : World) (ha : W.cell? a = some (.pointer (some p))) :
    (ReflectliteValue.method (ReflectliteValue.valueError "reflectlite.Value.Elem" 0) ReflectliteValue.elem #[.agg #[.pointer (some ⟨4, 115, none⟩), .pointer (some a), .int .u64 150]]).run Tryz.prog W
      = .ok (.agg #[.pointer (some ⟨4, 113, none⟩), .pointer (some p), .int .u64 409]) W := by
  rw [rf_mp]
  simp [ReflectliteValue.elem, loadVar, isAgg, underlying, Tryz.underlying115, ha, Result.andThen, rf_elemOfP, rf_mkS]
theorem rf_partsA (a : Addr) (w : World) : (ReflectliteValue.parts (.agg #[.pointer (some ⟨4, 113, none⟩), .pointer (some a), .int .u64 409])).run Tryz.prog w = .ok (some (113, a, 409)) w := by kernel_rfl
theorem rf_partsS (a : Addr) (w : World) : (ReflectliteValue.parts (.agg #[.pointer (some ⟨4, 113, none⟩), .pointer (some a), .int .u64 153])).run Tryz.prog w = .ok (some (113, a, 153)) w := by kernel_rfl
theorem rf_directS (w : World) : (Rtype.directlyAssignable 113 113).run Tryz.prog w = .ok true w := by kernel_rfl
theorem rf_setT (t b : Nat) (W : World) :
    (ReflectliteValue.set #[.agg #[.pointer (some ⟨4, 113, none⟩), .pointer (some ⟨t, 0, none⟩), .int .u64 409], .agg #[.pointer (some ⟨4, 113, none⟩), .pointer (some ⟨b, 0, none⟩), .int .u64 153]]).run Tryz.prog W
      = (loadVar 113 ⟨b, 0, none⟩ >>= fun x => storeVar 113 ⟨t, 0, none⟩ x >>= fun _ => pure (.tuple #[])).run Tryz.prog W := by kernel_rfl
theorem rf_setS (t b : Nat) (p : Int) (old : Value) (W : World) (hb : W.cell? ⟨b, 0, none⟩ = some (.int .i64 p)) (ht : W.cell? ⟨t, 0, none⟩ = some old) (hf : W.frozen? ⟨t, 0, none⟩ = false) :
    (ReflectliteValue.set #[.agg #[.pointer (some ⟨4, 113, none⟩), .pointer (some ⟨t, 0, none⟩), .int .u64 409], .agg #[.pointer (some ⟨4, 113, none⟩), .pointer (some ⟨b, 0, none⟩), .int .u64 153]]).run Tryz.prog W
      = .ok (.tuple #[]) (W.setCell ⟨t, 0, none⟩ (.int .i64 p)) := by
  have hl : (loadCells ⟨b, 0, none⟩ 1).run Tryz.prog W = .ok #[.int .i64 p] W := by
    simp [loadCells, loadCellsFrom, hb, Addr.add]
  rw [rf_setT]
  simp [loadVar, isAgg, underlying, Tryz.underlying113, Result.andThen, storeVar, Value.cells, storeCells, Addr.add, hl]
  rw [run_store Tryz.prog W ⟨t, 0, none⟩ _ _ (by rfl)]
  simp [ht, hf]
end Go.Proofs.YthjkgbcomjiejaaGreatDoor
