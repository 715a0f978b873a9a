/-
  The model's small functions: what opens, shuts, ends an atom; whether a line's rest is white.
-/
import Derived.Test.YthjkgbcomjiejaaGreatDoorKk22
import Derived.Test.YthjkgbcomjiejaaGreatDoorKk15
namespace Go.Proofs.YthjkgbcomjiejaaGreatDoor
open Go.RowKit Go.Extern.Stop Go.Stop Go.Extern
set_option linter.unusedVariables false

theorem errVar : Tryz.prog.globalNamed "errors.errorType" = some 0 := by kernel_rfl
/-- errors.errorType holds the handle of the type error. -/
def ErrV (w : World) : Prop := w.cell? ⟨0, 0, none⟩ = some (.iface 148 (.agg #[.pointer (some ⟨4, 97, none⟩)]))
set_option maxHeartbeats 4000000 in
set_option maxRecDepth 100000 in
theorem as_hit (p : Int) (t : Nat) (old : Value) (w : World) (hg : ErrV w) (ht0 : w.cell? ⟨t, 0, none⟩ = some old) (hf0 : w.frozen? ⟨t, 0, none⟩ = false) :
    Calls Tryz.prog 82 #[.iface 113 (.agg #[.int .i64 p]), .iface 115 (.pointer (some ⟨t, 0, none⟩))] w fun ev w' => ev = .returned (.bool true) ∧ w' = ((((w.alloc (.cells #[.pointer (some ⟨t, 0, none⟩)] 115)).alloc (.cells #[.pointer (some ⟨4, 115, none⟩), .pointer (some ⟨w.heap.size, 0, none⟩), .int .u64 150] 132)).alloc (.cells #[.pointer (some ⟨4, 115, none⟩), .pointer (some ⟨w.heap.size, 0, none⟩), .int .u64 150] 132)).alloc (.cells #[.int .i64 p] 113)).setCell ⟨t, 0, none⟩ (.int .i64 p) := by
  unfold ErrV at hg
  have h6 := @run_callFunc_extern Tryz.prog 97 _ (fun args => ReflectliteValue.unpack (args.getD 0 (.tuple #[]))) Tryz.func97 (by kernel_rfl) (by kernel_rfl) (by kernel_rfl) (by kernel_rfl)
  have h7 := @run_callFunc_extern Tryz.prog 98 _ (ReflectliteValue.methodAny (ReflectliteValue.valueError "reflectlite.Value.Type" 0) (fun t _ _ _ => ReflectliteType.toType t)) Tryz.func98 (by kernel_rfl) (by kernel_rfl) (by kernel_rfl) (by kernel_rfl)
  have h8 := @run_callFunc_extern Tryz.prog 99 _ (ReflectliteValue.method (ReflectliteValue.valueError "reflectlite.Value.IsNil" 0) ReflectliteValue.isNil) Tryz.func99 (by kernel_rfl) (by kernel_rfl) (by kernel_rfl) (by kernel_rfl)
  have h27 := @run_callFunc_extern Tryz.prog 171 _ (ReflectliteType.abiMethod fun t => do pure (.int .u8 (← Rtype.kind t))) Tryz.func171 (by kernel_rfl) (by kernel_rfl) (by kernel_rfl) (by kernel_rfl)
  have h37 := @run_callFunc_extern Tryz.prog 183 _ (ReflectliteType.method ReflectliteType.elem) Tryz.func183 (by kernel_rfl) (by kernel_rfl) (by kernel_rfl) (by kernel_rfl)
  have h38 := @run_callFunc_extern Tryz.prog 184 _ (ReflectliteType.relation "Implements" ReflectliteType.implements_) Tryz.func184 (by kernel_rfl) (by kernel_rfl) (by kernel_rfl) (by kernel_rfl)
  have h10 := @run_callFunc_extern Tryz.prog 107 _ ReflectliteType.typeOf Tryz.func107 (by kernel_rfl) (by kernel_rfl) (by kernel_rfl) (by kernel_rfl)
  have h35 := @run_callFunc_extern Tryz.prog 181 _ (ReflectliteType.relation "AssignableTo" ReflectliteType.assignableTo) Tryz.func181 (by kernel_rfl) (by kernel_rfl) (by kernel_rfl) (by kernel_rfl)
  have h11 := @run_callFunc_extern Tryz.prog 108 _ (ReflectliteValue.method (ReflectliteValue.valueError "reflectlite.Value.Elem" 0) ReflectliteValue.elem) Tryz.func108 (by kernel_rfl) (by kernel_rfl) (by kernel_rfl) (by kernel_rfl)
  have h12 := @run_callFunc_extern Tryz.prog 109 _ ReflectliteValue.set Tryz.func109 (by kernel_rfl) (by kernel_rfl) (by kernel_rfl) (by kernel_rfl)
  have tO := rf_typeOfS
  have mA := rf_methodAssignableTo
  have a25 := rf_assignableS
  have v25 := rf_valueOfS
  have f6 := rf_valueOfP
  have f7 := rf_typeP
  have mK := rf_methodKind
  have mE := rf_methodElem
  have mI := rf_methodImplements
  have k27 := rf_kindP
  have k25 := rf_kindS
  have e27 := rf_elemP
  have i25 := rf_implementsS
  have hlt : 0 < w.heap.size := World.block_lt_of_cell? _ _ hg
  have htl : t < w.heap.size := by
    rcases Nat.lt_or_ge t w.heap.size with h | h
    · exact h
    · simp [World.cell?, Array.getElem?_eq_none h] at ht0
  have n8 := rf_isNilP ⟨w.heap.size, 0, none⟩ ⟨t, 0, none⟩ ((w.alloc (.cells #[.pointer (some ⟨t, 0, none⟩)] 115)).alloc (.cells #[.pointer (some ⟨4, 115, none⟩), .pointer (some ⟨w.heap.size, 0, none⟩), .int .u64 150] 132)) (by simp)
  have hg2 : ((w.alloc (.cells #[.pointer (some ⟨t, 0, none⟩)] 115)).alloc (.cells #[.pointer (some ⟨4, 115, none⟩), .pointer (some ⟨w.heap.size, 0, none⟩), .int .u64 150] 132)).cell? ⟨0, 0, none⟩ = some (.iface 148 (.agg #[.pointer (some ⟨4, 97, none⟩)])) := by
    rw [World.cell?_alloc_lt _ _ ⟨0, 0, none⟩ (by simp <;> omega), World.cell?_alloc_lt _ _ ⟨0, 0, none⟩ hlt]; exact hg
  have el := rf_elemVP ⟨w.heap.size, 0, none⟩ ⟨t, 0, none⟩ (((w.alloc (.cells #[.pointer (some ⟨t, 0, none⟩)] 115)).alloc (.cells #[.pointer (some ⟨4, 115, none⟩), .pointer (some ⟨w.heap.size, 0, none⟩), .int .u64 150] 132)).alloc (.cells #[.pointer (some ⟨4, 115, none⟩), .pointer (some ⟨w.heap.size, 0, none⟩), .int .u64 150] 132)) (by rw [World.cell?_alloc_lt _ _ ⟨w.heap.size, 0, none⟩ (by simp; omega)]; simp)
  have st := rf_setS t (w.heap.size + 1 + 1 + 1) p old ((((w.alloc (.cells #[.pointer (some ⟨t, 0, none⟩)] 115)).alloc (.cells #[.pointer (some ⟨4, 115, none⟩), .pointer (some ⟨w.heap.size, 0, none⟩), .int .u64 150] 132)).alloc (.cells #[.pointer (some ⟨4, 115, none⟩), .pointer (some ⟨w.heap.size, 0, none⟩), .int .u64 150] 132)).alloc (.cells #[.int .i64 p] 113))
    (by rw [World.cell?_alloc_at _ _ _ _ (by simp)]; rfl)
    (by rw [World.cell?_alloc_lt _ _ ⟨t, 0, none⟩ (by simp; omega), World.cell?_alloc_lt _ _ ⟨t, 0, none⟩ (by simp; omega), World.cell?_alloc_lt _ _ ⟨t, 0, none⟩ (by simp; omega), World.cell?_alloc_lt _ _ ⟨t, 0, none⟩ htl]; exact ht0)
    (by rw [World.frozen?_alloc_old _ _ ⟨t, 0, none⟩ (by simp; omega), World.frozen?_alloc_old _ _ ⟨t, 0, none⟩ (by simp; omega), World.frozen?_alloc_old _ _ ⟨t, 0, none⟩ (by simp; omega), World.frozen?_alloc_old _ _ ⟨t, 0, none⟩ (Nat.ne_of_lt htl)]; exact hf0)
  go_enter Tryz.func82, Tryz.ntmps82
  go_wp2
  refine wp_loop_rounds 1 ?_
  rw [rounds_succ]
  go_wp2
  go_ret
  exact ⟨rfl, rfl⟩
end Go.Proofs.YthjkgbcomjiejaaGreatDoor
namespace Go.Proofs.YthjkgbcomjiejaaGreatDoor
open Go.RowKit
set_option linter.unusedVariables false

def opB (c : Int) : Bool := c == 40 || (c == 91 || c == 123)
def shB (c : Int) : Bool := c == 41 || (c == 93 || c == 125)
theorem st_model (c : Int) : stB c = (wtB c || (opB c || (shB c || (c == 34 || c == 59)))) := by
  rcases kd_cases c with ⟨hk, h⟩ | ⟨hk, h⟩ | ⟨hk, h⟩ | ⟨hk, h⟩ | ⟨hk, h⟩ | ⟨hk, h1, h2, h3, h4, h5, h6, h7, h8, h9⟩
  · unfold stB; rw [hk, if_neg (by decide)]; rcases h with rfl | rfl | rfl <;> decide
  · unfold stB; rw [hk, if_neg (by decide)]; rcases h with rfl | rfl | rfl <;> decide
  · subst h; decide
  · subst h; decide
  · subst h; decide
  · unfold stB; rw [if_pos (.inl hk)]
    have e1 : opB c = false := by simp [opB]; omega
    have e2 : shB c = false := by simp [shB]; omega
    have e3 : (c == 34) = false := by simpa using h9
    have e4 : (c == 59) = false := by simpa using h8
    rw [e1, e2, e3, e4]; simp
set_option maxHeartbeats 400000 in
theorem l06Open_any (c : Int) (w : World) : Calls Tryz.prog 77 #[.int .u8 c] w fun e w' => e = .returned (.bool (opB c)) ∧ w = w' := by
  go_enter Tryz.func77, Tryz.ntmps77
  go_wp2
  all_goals go_ret
  all_goals simp_all [opB, Bool.or_assoc]
set_option maxHeartbeats 400000 in
theorem l06Close_any (c : Int) (w : World) : Calls Tryz.prog 78 #[.int .u8 c] w fun e w' => e = .returned (.bool (shB c)) ∧ w = w' := by
  go_enter Tryz.func78, Tryz.ntmps78
  go_wp2
  all_goals go_ret
  all_goals simp_all [shB, Bool.or_assoc]
set_option maxHeartbeats 400000 in
theorem l06Stops_any (c : Int) (h0 : 0 ≤ c) (h1 : c < 256) (w : World) : Calls Tryz.prog 80 #[.int .u8 c] w fun e w' => e = .returned (.bool (stB c)) ∧ w = w' := by
  have hS := Lib.hid (st_model c)
  have hw : IntKind.i64.wrap c = c := IntWalk.i64_in _ (by omega)
  go_enter Tryz.func80, Tryz.ntmps80
  go_wp2_with fail
  refine (sIsWhite_any _ _).mono ?_
  rintro e w' ⟨rfl, rfl⟩
  cases hwt : wtB c
  · go_wp2_with fail
    refine (l06Open_any _ _).mono ?_
    rintro e w' ⟨rfl, rfl⟩
    cases hop : opB c
    · go_wp2_with fail
      refine (l06Close_any _ _).mono ?_
      rintro e w' ⟨rfl, rfl⟩
      cases hsh : shB c
      · cases h34 : (c == 34) <;> cases h59 : (c == 59)
        all_goals
          have hF := Lib.hid (show stB c = _ by rw [hS.out, hwt, hop, hsh, h34, h59])
          go_wp2
          go_ret
          rw [hF.out]
          exact ⟨rfl, rfl⟩
      · have hF := Lib.hid (show stB c = true by rw [hS.out, hwt, hop, hsh]; rfl)
        go_wp2
        go_ret
        rw [hF.out]
        exact ⟨rfl, rfl⟩
    · have hF := Lib.hid (show stB c = true by rw [hS.out, hwt, hop]; rfl)
      go_wp2
      go_ret
      rw [hF.out]
      exact ⟨rfl, rfl⟩
  · have hF := Lib.hid (show stB c = true by rw [hS.out, hwt]; rfl)
    go_wp2
    go_ret
    rw [hF.out]
    exact ⟨rfl, rfl⟩
/-- what l06Rest tells. -/
def ResP (s : ByteArray) (i : Nat) (r : Bool) : Prop :=
  (r = true → ∃ m, i ≤ m ∧ m ≤ s.size ∧ (∀ k, i ≤ k → k < m → wtB (bt s k) = true ∧ bt s k ≠ 10) ∧ (m = s.size ∨ bt s m = 10)) ∧
  (r = false → ∃ k, i ≤ k ∧ k < s.size ∧ (∀ j, i ≤ j → j ≤ k → bt s j ≠ 10) ∧ wtB (bt s k) = false)
def ResE (s : ByteArray) (i : Nat) (w : World) (e : Ending) (w' : World) : Prop := (∃ r : Bool, e = .returned (.bool r) ∧ ResP s i r) ∧ w = w'
set_option maxHeartbeats 1000000 in
theorem l06Rest_any (s : ByteArray) (i : Nat) (hs : s.size ≤ 1048576) (hi : i ≤ s.size) (w : World) :
    Calls Tryz.prog 79 #[.string s, .int .i64 i] w (ResE s i w) := by
  go_enter Tryz.func79, Tryz.ntmps79
  go_wp2
  go_loop [5] (fun v => ∃ k : Nat, i ≤ k ∧ k ≤ s.size ∧ v = .int .i64 k ∧ ∀ j, i ≤ j → j < k → wtB (bt s j) = true ∧ bt s j ≠ 10) (fun v => s.size - (intOf v).toNat)
  case atStart => exact ⟨i, Nat.le_refl _, hi, rfl, fun j h1 h2 => by omega⟩
  case round =>
    obtain ⟨k, hik, hk, rfl, hall⟩ := hrel
    have HA := Lib.hid hall
    clear hall
    by_cases hlt : k < s.size
    · have hb := bt_at hlt
      have hl := bt_lt s k
      by_cases h10 : bt s k = 10
      · have b10 : ((s[k].toNat : Int) == 10) = true := by rw [← hb, h10]; rfl
        have b10' : ((s[k].toNat : Int) != 10) = false := by rw [← hb, h10]; rfl
        have HP := Lib.hid (show ResP s i true from ⟨fun _ => ⟨k, hik, hk, HA.out, .inr h10⟩, fun h => by cases h⟩)
        clear hb h10
        go_wp2
        go_ret
        exact ⟨⟨true, rfl, HP.out⟩, rfl⟩
      · have b10 : ((s[k].toNat : Int) == 10) = false := by rw [← hb]; simp; omega
        have b10' : ((s[k].toNat : Int) != 10) = true := by rw [← hb]; simp; omega
        have hw : IntKind.i64.wrap (s[k].toNat : Int) = s[k].toNat := IntWalk.i64_in _ (by omega)
        have HBE := Lib.hid hb
        clear hb
        go_wp2_with fail
        refine (sIsWhite_any _ _).mono ?_
        rintro e w' ⟨rfl, rfl⟩
        rw [← HBE.out]
        cases hwt : wtB (bt s k)
        · have HP := Lib.hid (show ResP s i false from ⟨fun h => (by cases h), fun _ => ⟨k, hik, hlt, fun j h1 h2 => (by
            by_cases hjk : j = k
            · subst hjk; exact h10
            · exact (HA.out j h1 (by omega)).2), hwt⟩⟩)
          go_wp2
          go_ret
          exact ⟨⟨false, rfl, HP.out⟩, rfl⟩
        · have HN := Lib.hid (show ∀ j, i ≤ j → j < k + 1 → wtB (bt s j) = true ∧ bt s j ≠ 10 from fun j h1 h2 => by
            by_cases hjk : j = k
            · subst hjk; exact ⟨hwt, h10⟩
            · exact HA.out j h1 (by omega))
          clear h10 hwt
          go_wp2
          go_round
          case rel => exact ⟨k + 1, by omega, by omega, by go_num, HN.out⟩
          case measure => simp [intOf]; omega
    · have HP := Lib.hid (show ResP s i true from ⟨fun _ => ⟨k, hik, hk, HA.out, .inl (by omega)⟩, fun h => by cases h⟩)
      go_wp2
      go_ret
      exact ⟨⟨true, rfl, HP.out⟩, rfl⟩
end Go.Proofs.YthjkgbcomjiejaaGreatDoor
