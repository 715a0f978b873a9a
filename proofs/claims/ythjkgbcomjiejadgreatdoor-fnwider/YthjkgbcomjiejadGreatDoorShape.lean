/-
  The implementation's shapes: what their methods answer, and what shapeOf makes of a token.
-/
import Derived.Test.YthjkgbcomjiejadGreatDoorTok
import Derived.Deep.RegionHeld3
import Derived.Deep.RegionWith
namespace Go.Proofs.YthjkgbcomjiejadGreatDoor
open Go.RowKit

def TokAt (w : World) (k : Int) (s : ByteArray) (d o : Int) (w' : World) : Prop :=
  w'.cell? ⟨w.heap.size, 0, none⟩ = some (.int .i64 k) ∧ w'.cell? ⟨w.heap.size, 1, none⟩ = some (.string s) ∧ w'.cell? ⟨w.heap.size, 2, none⟩ = some (.int .i64 d) ∧ w'.cell? ⟨w.heap.size, 3, none⟩ = some (.int .i64 o) ∧ Below w.heap.size w w' ∧ w.heap.size < w'.heap.size
theorem TokAt.start {w w1 : World} {k : Int} {s : ByteArray} {d o : Int} {t : TypeId} (hb : Below (w.alloc (.cells #[.int .i64 k, .string s, .int .i64 d, .int .i64 o] t)).heap.size (w.alloc (.cells #[.int .i64 k, .string s, .int .i64 d, .int .i64 o] t)) w1) : TokAt w k s d o w1 := by
  have hz : w.heap.size < (w.alloc (.cells #[.int .i64 k, .string s, .int .i64 d, .int .i64 o] t)).heap.size := by simp
  refine ⟨?_, ?_, ?_, ?_, ?_, ?_⟩
  · rw [hb.cell (p := ⟨w.heap.size, 0, none⟩) hz]; simp
  · rw [hb.cell (p := ⟨w.heap.size, 1, none⟩) hz]; simp
  · rw [hb.cell (p := ⟨w.heap.size, 2, none⟩) hz]; simp
  · rw [hb.cell (p := ⟨w.heap.size, 3, none⟩) hz]; simp
  · exact ((Below.refl _ _).alloc (Nat.le_refl _) _).trans (hb.mono (by simp))
  · exact Nat.lt_of_lt_of_le hz hb.size
theorem TokAt.go {w W w2 : World} {k : Int} {s : ByteArray} {d o : Int} (h : TokAt w k s d o W) (hb : Below W.heap.size W w2) : TokAt w k s d o w2 := by
  obtain ⟨h0, h1, h2, h3, h4, h5⟩ := h
  refine ⟨?_, ?_, ?_, ?_, ?_, ?_⟩
  · rw [hb.cell (p := ⟨w.heap.size, 0, none⟩) h5]; exact h0
  · rw [hb.cell (p := ⟨w.heap.size, 1, none⟩) h5]; exact h1
  · rw [hb.cell (p := ⟨w.heap.size, 2, none⟩) h5]; exact h2
  · rw [hb.cell (p := ⟨w.heap.size, 3, none⟩) h5]; exact h3
  · exact h4.trans (hb.mono (by omega))
  · exact Nat.lt_of_lt_of_le h5 hb.size
/-- The i-th method's name of an interface type, as the program has it. -/
def ifNameOf (t : Option TypeDesc) (i : Nat) : String := match t with
  | some (.interface ms) => (ms.toList.map Prod.fst).getD i "none"
  | _ => "none"
/-- What a shape's methods 'token' and 'fits' answer. -/
structure ShapeIs (ty : TypeId) (v : Value) (ft ff : FuncId) (k : Int) (s : ByteArray) (d o : Int) (fb : Bool) : Prop where
  mt : ∀ w : World, (method 411 ty v (ifNameOf (Tryz.prog.underlying 162) 1)).run Tryz.prog w = .ok (ft, v) w
  mf : ∀ w : World, (method 411 ty v (ifNameOf (Tryz.prog.underlying 162) 0)).run Tryz.prog w = .ok (ff, v) w
  et : ∀ w : World, (callFunc ft #[v]).run Tryz.prog w = .ok (.enter ft #[v]) w
  ef : ∀ w : World, (callFunc ff #[v]).run Tryz.prog w = .ok (.enter ff #[v]) w
  ct : ∀ w : World, Calls Tryz.prog ft #[v] w fun e w' => e = .returned (.agg #[.int .i64 k, .string s, .int .i64 d, .int .i64 o]) ∧ Below w.heap.size w w'
  cf : ∀ w : World, Calls Tryz.prog ff #[v] w fun e w' => e = .returned (.bool fb) ∧ Below w.heap.size w w'
set_option maxHeartbeats 400000 in
set_option maxRecDepth 100000 in
theorem shapeOf_yes (ty : TypeId) (v : Value) (ft ff : FuncId) (k : Int) (s : ByteArray) (d o : Int) (w : World)
    (hK : Hid (∀ w : World, Calls Tryz.prog 161 #[.agg #[.int .i64 k, .string s, .int .i64 d, .int .i64 o]] w fun e w' => e = .returned (.tuple #[.iface ty v, .bool true]) ∧ Below w.heap.size w w'))
    (hS : ShapeIs ty v ft ff k s d o true) :
    Calls Tryz.prog 128 #[.agg #[.int .i64 k, .string s, .int .i64 d, .int .i64 o]] w fun e w' => e = .returned (.tuple #[.iface ty v, .bool true]) ∧ Below w.heap.size w w' := by
  have hm := hS.mt
  have hm2 := hS.mf
  simp only [ifNameOf, Tryz.underlying162, List.map_cons, List.getD_cons_zero, List.getD_cons_succ] at hm hm2
  have he := hS.et
  have he2 := hS.ef
  go_enter Tryz.func128, Tryz.ntmps128
  go_wp2_with (go_at_call 161; refine (hK.out _).mono ?_; rintro e w1 ⟨rfl, hb⟩)
  obtain ⟨c0, c1, c2, c3, c4, c5⟩ := TokAt.start hb
  clear hb
  · go_region_held3 (fun w' => w'.cell? ⟨w.heap.size, 0, none⟩ = some (.int .i64 k) ∧ w'.cell? ⟨w.heap.size, 1, none⟩ = some (.string s) ∧ w'.cell? ⟨w.heap.size, 2, none⟩ = some (.int .i64 d) ∧ w'.cell? ⟨w.heap.size, 3, none⟩ = some (.int .i64 o) ∧ Below w.heap.size w w' ∧ w.heap.size < w'.heap.size)
        (first | exact ⟨c0, c1, c2, c3, c4.drew, c5⟩ | exact TokAt.go ‹_› ‹_›)
        (first | ((with_reducible refine (hS.ct _).mono ?_); rintro e w2 ⟨rfl, hb2⟩) | ((with_reducible refine (hS.cf _).mono ?_); rintro e w3 ⟨rfl, hb3⟩))
    go_wp2
    go_ret2
    exact ⟨rfl, (TokAt.go (W := w1.drew) ⟨c0, c1, c2, c3, c4.drew, c5⟩ (hb2.trans (hb3.mono hb2.size))).2.2.2.2.1⟩
set_option maxHeartbeats 400000 in
set_option maxRecDepth 100000 in
theorem shapeOf_nofit (ty : TypeId) (v : Value) (ft ff : FuncId) (k : Int) (s : ByteArray) (d o : Int) (w : World)
    (hK : Hid (∀ w : World, Calls Tryz.prog 161 #[.agg #[.int .i64 k, .string s, .int .i64 d, .int .i64 o]] w fun e w' => e = .returned (.tuple #[.iface ty v, .bool true]) ∧ Below w.heap.size w w'))
    (hS : ShapeIs ty v ft ff k s d o false) :
    Calls Tryz.prog 128 #[.agg #[.int .i64 k, .string s, .int .i64 d, .int .i64 o]] w fun e w' => e = .returned (.tuple #[.nilIface, .bool false]) ∧ Below w.heap.size w w' := by
  have hm := hS.mt
  have hm2 := hS.mf
  simp only [ifNameOf, Tryz.underlying162, List.map_cons, List.getD_cons_zero, List.getD_cons_succ] at hm hm2
  have he := hS.et
  have he2 := hS.ef
  go_enter Tryz.func128, Tryz.ntmps128
  go_wp2_with (go_at_call 161; refine (hK.out _).mono ?_; rintro e w1 ⟨rfl, hb⟩)
  obtain ⟨c0, c1, c2, c3, c4, c5⟩ := TokAt.start hb
  clear hb
  · go_region_held3 (fun w' => w'.cell? ⟨w.heap.size, 0, none⟩ = some (.int .i64 k) ∧ w'.cell? ⟨w.heap.size, 1, none⟩ = some (.string s) ∧ w'.cell? ⟨w.heap.size, 2, none⟩ = some (.int .i64 d) ∧ w'.cell? ⟨w.heap.size, 3, none⟩ = some (.int .i64 o) ∧ Below w.heap.size w w' ∧ w.heap.size < w'.heap.size)
        (first | exact ⟨c0, c1, c2, c3, c4.drew, c5⟩ | exact TokAt.go ‹_› ‹_›)
        (first | ((with_reducible refine (hS.ct _).mono ?_); rintro e w2 ⟨rfl, hb2⟩) | ((with_reducible refine (hS.cf _).mono ?_); rintro e w3 ⟨rfl, hb3⟩))
    go_wp2
    go_ret2
    exact ⟨rfl, (TokAt.go (W := w1.drew) ⟨c0, c1, c2, c3, c4.drew, c5⟩ (hb2.trans (hb3.mono hb2.size))).2.2.2.2.1⟩
set_option maxHeartbeats 400000 in
set_option maxRecDepth 100000 in
theorem shapeOf_neqS (ty : TypeId) (v : Value) (ft ff : FuncId) (fb : Bool) (k : Int) (s : ByteArray) (d o : Int) (s' : ByteArray) (d' o' : Int) (w : World) (hne : (s'.toList == s.toList) = false)
    (hK : Hid (∀ w : World, Calls Tryz.prog 161 #[.agg #[.int .i64 k, .string s, .int .i64 d, .int .i64 o]] w fun e w' => e = .returned (.tuple #[.iface ty v, .bool true]) ∧ Below w.heap.size w w'))
    (hS : ShapeIs ty v ft ff k s' d' o' fb) :
    Calls Tryz.prog 128 #[.agg #[.int .i64 k, .string s, .int .i64 d, .int .i64 o]] w fun e w' => e = .returned (.tuple #[.nilIface, .bool false]) ∧ Below w.heap.size w w' := by
  have hm := hS.mt
  have he := hS.et
  simp only [ifNameOf, Tryz.underlying162, List.map_cons, List.getD_cons_zero, List.getD_cons_succ] at hm
  go_enter Tryz.func128, Tryz.ntmps128
  go_wp2_with (go_at_call 161; refine (hK.out _).mono ?_; rintro e w1 ⟨rfl, hb⟩)
  obtain ⟨c0, c1, c2, c3, c4, c5⟩ := TokAt.start hb
  clear hb
  first
    | go_region_with (first | ((with_reducible refine (hS.ct _).mono ?_); rintro e w2 ⟨rfl, hb2⟩; obtain ⟨e0, e1, e2, e3, e4, e5⟩ := TokAt.go (W := w1.drew) ⟨c0, c1, c2, c3, c4.drew, c5⟩ hb2))
    | fail
  all_goals
    go_wp2
    go_ret2
    exact ⟨rfl, e4⟩
set_option maxHeartbeats 400000 in
set_option maxRecDepth 100000 in
theorem shapeOf_neqD (ty : TypeId) (v : Value) (ft ff : FuncId) (fb : Bool) (k : Int) (s : ByteArray) (d o : Int) (d' o' : Int) (w : World) (hne : (d' == d) = false)
    (hK : Hid (∀ w : World, Calls Tryz.prog 161 #[.agg #[.int .i64 k, .string s, .int .i64 d, .int .i64 o]] w fun e w' => e = .returned (.tuple #[.iface ty v, .bool true]) ∧ Below w.heap.size w w'))
    (hS : ShapeIs ty v ft ff k s d' o' fb) :
    Calls Tryz.prog 128 #[.agg #[.int .i64 k, .string s, .int .i64 d, .int .i64 o]] w fun e w' => e = .returned (.tuple #[.nilIface, .bool false]) ∧ Below w.heap.size w w' := by
  have hm := hS.mt
  have he := hS.et
  simp only [ifNameOf, Tryz.underlying162, List.map_cons, List.getD_cons_zero, List.getD_cons_succ] at hm
  go_enter Tryz.func128, Tryz.ntmps128
  go_wp2_with (go_at_call 161; refine (hK.out _).mono ?_; rintro e w1 ⟨rfl, hb⟩)
  obtain ⟨c0, c1, c2, c3, c4, c5⟩ := TokAt.start hb
  clear hb
  first
    | go_region_with (first | ((with_reducible refine (hS.ct _).mono ?_); rintro e w2 ⟨rfl, hb2⟩; obtain ⟨e0, e1, e2, e3, e4, e5⟩ := TokAt.go (W := w1.drew) ⟨c0, c1, c2, c3, c4.drew, c5⟩ hb2))
    | fail
  all_goals
    go_wp2
    go_ret2
    exact ⟨rfl, e4⟩
set_option maxHeartbeats 400000 in
set_option maxRecDepth 100000 in
theorem shapeOf_neqO (ty : TypeId) (v : Value) (ft ff : FuncId) (fb : Bool) (k : Int) (s : ByteArray) (d o : Int) (o' : Int) (w : World) (hne : (o' == o) = false)
    (hK : Hid (∀ w : World, Calls Tryz.prog 161 #[.agg #[.int .i64 k, .string s, .int .i64 d, .int .i64 o]] w fun e w' => e = .returned (.tuple #[.iface ty v, .bool true]) ∧ Below w.heap.size w w'))
    (hS : ShapeIs ty v ft ff k s d o' fb) :
    Calls Tryz.prog 128 #[.agg #[.int .i64 k, .string s, .int .i64 d, .int .i64 o]] w fun e w' => e = .returned (.tuple #[.nilIface, .bool false]) ∧ Below w.heap.size w w' := by
  have hm := hS.mt
  have he := hS.et
  simp only [ifNameOf, Tryz.underlying162, List.map_cons, List.getD_cons_zero, List.getD_cons_succ] at hm
  go_enter Tryz.func128, Tryz.ntmps128
  go_wp2_with (go_at_call 161; refine (hK.out _).mono ?_; rintro e w1 ⟨rfl, hb⟩)
  obtain ⟨c0, c1, c2, c3, c4, c5⟩ := TokAt.start hb
  clear hb
  first
    | go_region_with (first | ((with_reducible refine (hS.ct _).mono ?_); rintro e w2 ⟨rfl, hb2⟩; obtain ⟨e0, e1, e2, e3, e4, e5⟩ := TokAt.go (W := w1.drew) ⟨c0, c1, c2, c3, c4.drew, c5⟩ hb2))
    | fail
  all_goals
    go_wp2
    go_ret2
    exact ⟨rfl, e4⟩
set_option maxHeartbeats 400000 in
set_option maxRecDepth 100000 in
theorem shapeOf_none (k : Int) (s : ByteArray) (d o : Int) (w : World)
    (hK : Hid (∀ w : World, Calls Tryz.prog 161 #[.agg #[.int .i64 k, .string s, .int .i64 d, .int .i64 o]] w fun e w' => e = .returned (.tuple #[.nilIface, .bool false]) ∧ Below w.heap.size w w')) :
    Calls Tryz.prog 128 #[.agg #[.int .i64 k, .string s, .int .i64 d, .int .i64 o]] w fun e w' => e = .returned (.tuple #[.nilIface, .bool false]) ∧ Below w.heap.size w w' := by
  go_enter Tryz.func128, Tryz.ntmps128
  go_wp2_with (go_at_call 161; refine (hK.out _).mono ?_; rintro e w1 ⟨rfl, hb⟩)
  obtain ⟨c0, c1, c2, c3, c4, c5⟩ := TokAt.start hb
  clear hb
  first
    | go_region_with (fail)
    | fail
  all_goals
    go_wp2
    go_ret2
    exact ⟨rfl, c4.drew⟩
set_option maxHeartbeats 400000 in
theorem kindShape_0 (s : ByteArray) (d o : Int) (w : World) :
    Calls Tryz.prog 161 #[.agg #[.int .i64 0, .string s, .int .i64 d, .int .i64 o]] w fun e w' => e = .returned (.tuple #[.iface 241 (.agg #[.string s]), .bool true]) ∧ Below w.heap.size w w' := by
  go_enter Tryz.func161, Tryz.ntmps161
  go_wp2
  go_ret2
  exact ⟨rfl, (Below.refl _ _).alloc (Nat.le_refl _) _⟩
set_option maxHeartbeats 400000 in
theorem kindShape_1 (s : ByteArray) (d o : Int) (w : World) :
    Calls Tryz.prog 161 #[.agg #[.int .i64 1, .string s, .int .i64 d, .int .i64 o]] w fun e w' => e = .returned (.tuple #[.iface 203 (.agg #[.int .i64 d, .int .i64 o]), .bool true]) ∧ Below w.heap.size w w' := by
  go_enter Tryz.func161, Tryz.ntmps161
  go_wp2
  go_ret2
  exact ⟨rfl, (Below.refl _ _).alloc (Nat.le_refl _) _⟩
set_option maxHeartbeats 400000 in
theorem kindShape_2 (s : ByteArray) (d o : Int) (w : World) :
    Calls Tryz.prog 161 #[.agg #[.int .i64 2, .string s, .int .i64 d, .int .i64 o]] w fun e w' => e = .returned (.tuple #[.iface 243 (.agg #[.bool (d == 1), .int .i64 o]), .bool true]) ∧ Below w.heap.size w w' := by
  go_enter Tryz.func161, Tryz.ntmps161
  go_wp2
  go_ret2
  exact ⟨rfl, (Below.refl _ _).alloc (Nat.le_refl _) _⟩
set_option maxHeartbeats 400000 in
theorem kindShape_3 (s : ByteArray) (d o : Int) (w : World) :
    Calls Tryz.prog 161 #[.agg #[.int .i64 3, .string s, .int .i64 d, .int .i64 o]] w fun e w' => e = .returned (.tuple #[.iface 245 (.agg #[]), .bool true]) ∧ Below w.heap.size w w' := by
  go_enter Tryz.func161, Tryz.ntmps161
  go_wp2
  go_ret2
  exact ⟨rfl, (Below.refl _ _).alloc (Nat.le_refl _) _⟩
set_option maxHeartbeats 400000 in
theorem kindShape_4 (s : ByteArray) (d o : Int) (w : World) :
    Calls Tryz.prog 161 #[.agg #[.int .i64 4, .string s, .int .i64 d, .int .i64 o]] w fun e w' => e = .returned (.tuple #[.iface 205 (.agg #[.int .i64 o]), .bool true]) ∧ Below w.heap.size w w' := by
  go_enter Tryz.func161, Tryz.ntmps161
  go_wp2
  go_ret2
  exact ⟨rfl, (Below.refl _ _).alloc (Nat.le_refl _) _⟩
set_option maxHeartbeats 400000 in
theorem kindShape_x (k : Int) (s : ByteArray) (d o : Int) (w : World) (h0 : (k == 0) = false) (h1 : (k == 1) = false) (h2 : (k == 2) = false) (h3 : (k == 3) = false) (h4 : (k == 4) = false) :
    Calls Tryz.prog 161 #[.agg #[.int .i64 k, .string s, .int .i64 d, .int .i64 o]] w fun e w' => e = .returned (.tuple #[.nilIface, .bool false]) ∧ Below w.heap.size w w' := by
  go_enter Tryz.func161, Tryz.ntmps161
  go_wp2
  go_ret2
  exact ⟨rfl, (Below.refl _ _).alloc (Nat.le_refl _) _⟩
set_option maxHeartbeats 400000 in
theorem text_token (s : ByteArray) (w : World) :
    Calls Tryz.prog 257 #[.agg #[.string s]] w fun e w' => e = .returned (.agg #[.int .i64 0, .string s, .int .i64 0, .int .i64 0]) ∧ Below w.heap.size w w' := by
  go_enter Tryz.func257, Tryz.ntmps257
  go_wp2
  refine bodyPost_ret (v := .agg #[.int .i64 0, .string s, .int .i64 0, .int .i64 0]) (by simp [results, Tryz.results257, go_sem]) rfl ⟨rfl, ?_⟩
  exact ((Below.refl _ _).alloc (Nat.le_refl _) _).alloc (by simp) _
set_option maxHeartbeats 400000 in
theorem blank_token (d o : Int) (w : World) :
    Calls Tryz.prog 246 #[.agg #[.int .i64 d, .int .i64 o]] w fun e w' => e = .returned (.agg #[.int .i64 1, .string ByteArray.empty, .int .i64 d, .int .i64 o]) ∧ Below w.heap.size w w' := by
  go_enter Tryz.func246, Tryz.ntmps246
  go_wp2
  refine bodyPost_ret (v := .agg #[.int .i64 1, .string ByteArray.empty, .int .i64 d, .int .i64 o]) (by simp [results, Tryz.results246, go_sem]; rfl) rfl ⟨rfl, ?_⟩
  exact ((Below.refl _ _).alloc (Nat.le_refl _) _).alloc (by simp) _
set_option maxHeartbeats 400000 in
theorem beginT_token (o : Int) (w : World) :
    Calls Tryz.prog 262 #[.agg #[.bool true, .int .i64 o]] w fun e w' => e = .returned (.agg #[.int .i64 2, .string ByteArray.empty, .int .i64 1, .int .i64 o]) ∧ Below w.heap.size w w' := by
  go_enter Tryz.func262, Tryz.ntmps262
  go_wp2
  refine bodyPost_ret (v := .agg #[.int .i64 2, .string ByteArray.empty, .int .i64 1, .int .i64 o]) (by simp [results, Tryz.results262, go_sem]; rfl) rfl ⟨rfl, ?_⟩
  exact ((Below.refl _ _).alloc (Nat.le_refl _) _).alloc (by simp) _
set_option maxHeartbeats 400000 in
theorem beginF_token (o : Int) (w : World) :
    Calls Tryz.prog 262 #[.agg #[.bool false, .int .i64 o]] w fun e w' => e = .returned (.agg #[.int .i64 2, .string ByteArray.empty, .int .i64 0, .int .i64 o]) ∧ Below w.heap.size w w' := by
  go_enter Tryz.func262, Tryz.ntmps262
  go_wp2
  refine bodyPost_ret (v := .agg #[.int .i64 2, .string ByteArray.empty, .int .i64 0, .int .i64 o]) (by simp [results, Tryz.results262, go_sem]; rfl) rfl ⟨rfl, ?_⟩
  exact ((Below.refl _ _).alloc (Nat.le_refl _) _).alloc (by simp) _
set_option maxHeartbeats 400000 in
theorem end_token  (w : World) :
    Calls Tryz.prog 266 #[.agg #[]] w fun e w' => e = .returned (.agg #[.int .i64 3, .string ByteArray.empty, .int .i64 0, .int .i64 0]) ∧ Below w.heap.size w w' := by
  go_enter Tryz.func266, Tryz.ntmps266
  go_wp2
  refine bodyPost_ret (v := .agg #[.int .i64 3, .string ByteArray.empty, .int .i64 0, .int .i64 0]) (by simp [results, Tryz.results266, go_sem]; rfl) rfl ⟨rfl, ?_⟩
  exact ((Below.refl _ _).alloc (Nat.le_refl _) _).alloc (by simp) _
set_option maxHeartbeats 400000 in
theorem line_token (o : Int) (w : World) :
    Calls Tryz.prog 250 #[.agg #[.int .i64 o]] w fun e w' => e = .returned (.agg #[.int .i64 4, .string ByteArray.empty, .int .i64 0, .int .i64 o]) ∧ Below w.heap.size w w' := by
  go_enter Tryz.func250, Tryz.ntmps250
  go_wp2
  refine bodyPost_ret (v := .agg #[.int .i64 4, .string ByteArray.empty, .int .i64 0, .int .i64 o]) (by simp [results, Tryz.results250, go_sem]; rfl) rfl ⟨rfl, ?_⟩
  exact ((Below.refl _ _).alloc (Nat.le_refl _) _).alloc (by simp) _
set_option maxHeartbeats 400000 in
theorem blank_fits (d o : Int) (w : World) :
    Calls Tryz.prog 245 #[.agg #[.int .i64 d, .int .i64 o]] w fun e w' => e = .returned (.bool (inB d 0 9 && inB o (-9) 9)) ∧ Below w.heap.size w w' := by
  go_enter Tryz.func245, Tryz.ntmps245
  go_wp2
  all_goals go_ret
  all_goals refine ⟨?_, (Below.refl _ _).alloc (Nat.le_refl _) _⟩
  all_goals simp_all [inB]
  all_goals omega
set_option maxHeartbeats 400000 in
theorem beginT_fits (o : Int) (w : World) :
    Calls Tryz.prog 261 #[.agg #[.bool true, .int .i64 o]] w fun e w' => e = .returned (.bool (inB o 0 9)) ∧ Below w.heap.size w w' := by
  go_enter Tryz.func261, Tryz.ntmps261
  go_wp2
  all_goals go_ret
  all_goals refine ⟨?_, (Below.refl _ _).alloc (Nat.le_refl _) _⟩
  all_goals simp_all [inB]
  all_goals omega
set_option maxHeartbeats 400000 in
theorem beginF_fits (o : Int) (w : World) :
    Calls Tryz.prog 261 #[.agg #[.bool false, .int .i64 o]] w fun e w' => e = .returned (.bool (inB o 0 9)) ∧ Below w.heap.size w w' := by
  go_enter Tryz.func261, Tryz.ntmps261
  go_wp2
  all_goals go_ret
  all_goals refine ⟨?_, (Below.refl _ _).alloc (Nat.le_refl _) _⟩
  all_goals simp_all [inB]
  all_goals omega
set_option maxHeartbeats 400000 in
theorem end_fits  (w : World) :
    Calls Tryz.prog 265 #[.agg #[]] w fun e w' => e = .returned (.bool (true)) ∧ Below w.heap.size w w' := by
  go_enter Tryz.func265, Tryz.ntmps265
  go_wp2
  all_goals go_ret
  all_goals refine ⟨?_, (Below.refl _ _).alloc (Nat.le_refl _) _⟩
  rfl
set_option maxHeartbeats 400000 in
theorem line_fits (o : Int) (w : World) :
    Calls Tryz.prog 249 #[.agg #[.int .i64 o]] w fun e w' => e = .returned (.bool (inB o (-9) 9)) ∧ Below w.heap.size w w' := by
  go_enter Tryz.func249, Tryz.ntmps249
  go_wp2
  all_goals go_ret
  all_goals refine ⟨?_, (Below.refl _ _).alloc (Nat.le_refl _) _⟩
  all_goals simp_all [inB]
  all_goals omega
set_option maxHeartbeats 400000 in
theorem text_fits (s : ByteArray) (w : World) (hs : s.size ≤ maxLen) :
    Calls Tryz.prog 256 #[.agg #[.string s]] w fun e w' => e = .returned (.bool (txtB s)) ∧ Below w.heap.size w w' := by
  have hs' := hs
  unfold maxLen at hs
  by_cases hin : 1 ≤ s.size ∧ s.size ≤ 40
  · have hT := Lib.hid (show txtB s = (!((s[0].toNat : Int) == 32) && (!((s[s.size - 1].toNat : Int) == 32) && prN s s.size)) from by simp only [txtB, dif_pos hin])
    obtain ⟨h1, h40⟩ := hin
    by_cases hf : ((s[0].toNat : Int) == 32) = true
    · have hF := Lib.hid (show txtB s = false from by rw [hT.out, hf]; rfl)
      go_enter Tryz.func256, Tryz.ntmps256
      go_wp2
      go_ret
      rw [hF.out]
      exact ⟨rfl, (Below.refl _ _).alloc (Nat.le_refl _) _⟩
    · have hf' : ((s[0].toNat : Int) == 32) = false := by simpa using hf
      clear hf
      by_cases hl : ((s[s.size - 1].toNat : Int) == 32) = true
      · have hF := Lib.hid (show txtB s = false from by rw [hT.out, hf', hl]; rfl)
        go_enter Tryz.func256, Tryz.ntmps256
        go_wp2
        go_ret
        rw [hF.out]
        exact ⟨rfl, (Below.refl _ _).alloc (Nat.le_refl _) _⟩
      · have hl' : ((s[s.size - 1].toNat : Int) == 32) = false := by simpa using hl
        clear hl
        have hF := Lib.hid (show txtB s = prN s s.size from by rw [hT.out, hf', hl']; rfl)
        go_enter Tryz.func256, Tryz.ntmps256
        go_wp2_with (go_at_call 260; refine (printable_any _ _ hs').mono ?_; rintro e w' ⟨rfl, hbp⟩)
        go_ret
        rw [hF.out]
        exact ⟨rfl, ((Below.refl _ _).alloc (Nat.le_refl _) _).trans (hbp.mono (by simp))⟩
  · have hT := Lib.hid (show txtB s = false from by simp only [txtB, dif_neg hin])
    by_cases h1 : 1 ≤ s.size
    · have h40 : 40 < s.size := by omega
      clear hin
      go_enter Tryz.func256, Tryz.ntmps256
      go_wp2
      go_ret
      rw [hT.out]
      exact ⟨rfl, (Below.refl _ _).alloc (Nat.le_refl _) _⟩
    · clear hin
      go_enter Tryz.func256, Tryz.ntmps256
      go_wp2
      go_ret
      rw [hT.out]
      exact ⟨rfl, (Below.refl _ _).alloc (Nat.le_refl _) _⟩
theorem text_is (s : ByteArray) (hs : s.size ≤ maxLen) : ShapeIs 241 (.agg #[.string s]) 257 256 0 s 0 0 (txtB s) where
  mt := fun _ => by kernel_rfl
  mf := fun _ => by kernel_rfl
  et := fun _ => by kernel_rfl
  ef := fun _ => by kernel_rfl
  ct := fun w => text_token s w
  cf := fun w => text_fits s w hs
theorem blank_is (d o : Int) : ShapeIs 203 (.agg #[.int .i64 d, .int .i64 o]) 246 245 1 ByteArray.empty d o (inB d 0 9 && inB o (-9) 9) where
  mt := fun _ => by kernel_rfl
  mf := fun _ => by kernel_rfl
  et := fun _ => by kernel_rfl
  ef := fun _ => by kernel_rfl
  ct := fun w => blank_token d o w
  cf := fun w => blank_fits d o w
theorem beginT_is (o : Int) : ShapeIs 243 (.agg #[.bool true, .int .i64 o]) 262 261 2 ByteArray.empty 1 o (inB o 0 9) where
  mt := fun _ => by kernel_rfl
  mf := fun _ => by kernel_rfl
  et := fun _ => by kernel_rfl
  ef := fun _ => by kernel_rfl
  ct := fun w => beginT_token o w
  cf := fun w => beginT_fits o w
theorem beginF_is (o : Int) : ShapeIs 243 (.agg #[.bool false, .int .i64 o]) 262 261 2 ByteArray.empty 0 o (inB o 0 9) where
  mt := fun _ => by kernel_rfl
  mf := fun _ => by kernel_rfl
  et := fun _ => by kernel_rfl
  ef := fun _ => by kernel_rfl
  ct := fun w => beginF_token o w
  cf := fun w => beginF_fits o w
theorem end_is  : ShapeIs 245 (.agg #[]) 266 265 3 ByteArray.empty 0 0 (true) where
  mt := fun _ => by kernel_rfl
  mf := fun _ => by kernel_rfl
  et := fun _ => by kernel_rfl
  ef := fun _ => by kernel_rfl
  ct := fun w => end_token  w
  cf := fun w => end_fits  w
theorem line_is (o : Int) : ShapeIs 205 (.agg #[.int .i64 o]) 250 249 4 ByteArray.empty 0 o (inB o (-9) 9) where
  mt := fun _ => by kernel_rfl
  mf := fun _ => by kernel_rfl
  et := fun _ => by kernel_rfl
  ef := fun _ => by kernel_rfl
  ct := fun w => line_token o w
  cf := fun w => line_fits o w
end Go.Proofs.YthjkgbcomjiejadGreatDoor
