/-
  ParseTree of the program: the deferred closure's two contracts and the two walks.
-/
import Derived.Test.YthjkgbcomjiejaaGreatDoorKk45
import Derived.Defers
import Derived.Recover
import Derived.Laws.Pointers
namespace Go.Proofs.YthjkgbcomjiejaaGreatDoor
open Go.RowKit
set_option linter.unusedVariables false

theorem cell_lt {w : World} {p : Addr} {v : Value} (h : w.cell? p = some v) : p.block < w.heap.size := World.block_lt_of_cell? w p h
theorem assert_is (v : Value) (xT : TypeId) (w : World) : (Instr.typeAssert (.iface 56 v) xT 56 true).run Tryz.prog w = .ok (.tuple #[v, .bool true]) w := by
  simp [Instr.typeAssert, run_underlying Tryz.underlying56, go_sem]
theorem assert_not (xT : TypeId) (w : World) : (Instr.typeAssert .nilIface xT 56 true).run Tryz.prog w = .ok (.tuple #[.agg #[.int .i64 0, .int .i64 0], .bool false]) w := by
  simp [Instr.typeAssert, run_underlying Tryz.underlying56, go_sem]
set_option maxHeartbeats 1000000 in
set_option maxRecDepth 100000 in
theorem fault_panicking (pc pa : Addr) (c a x y : Int) (older : List PanicEntry) (w : World) (hc : w.cell? pc = some (.int .i64 x)) (ha : w.cell? pa = some (.int .i64 y)) (hne : pa.block ≠ pc.block) (hz : w.frozen? pc = false) (hz2 : w.frozen? pa = false) :
    CallsD Tryz.prog 33 #[.pointer (some pc), .pointer (some pa)] (.panicking ({ v := fltV c a, recovered := false } :: older)) w fun e u' w' =>
      e = .returned (.tuple #[]) ∧ u' = .panicking ({ v := fltV c a, recovered := true } :: older) ∧ w' = ((w.alloc (.cells #[.int .i64 c, .int .i64 a] 56)).drew.setCell pc (.int .i64 c)).setCell pa (.int .i64 a) := by
  have hcl := (Below.refl w.heap.size w).alloc (Nat.le_refl _) (.cells #[.int .i64 c, .int .i64 a] 56)
  refine callsD_of_wpS Tryz.func33 rfl ?_
  intro c₀ cs hu
  simp only [Tryz.ntmps33, List.size_toArray, List.length_cons, List.length_nil, Nat.reduceAdd, Nat.reduceSub, Array.replicate_succ,
     Array.replicate_zero, List.push_toArray, List.append_toArray, List.nil_append, List.cons_append]
  apply wpS_seq
  apply wpS_region
  simp [wpOpsS, go_sem, recoverD, hu, Exit.thenS, fltV, assert_is]
  refine wpS_of_wp ?_
  have hN := BlkL.new w 56 [.int .i64 c, .int .i64 a]
  have n0 := hN.cell 0
  have n1 := hN.cell 1
  have hpc := cell_lt hc
  have hpa := cell_lt ha
  have k0 := (hcl.cell hpc).trans hc
  have k1 := (hcl.cell hpa).trans ha
  have z0 := (hcl.frozen hpc).trans hz
  have z1 := (hcl.frozen hpa).trans hz2
  generalize w.heap.size = g at *
  change Code.wp _ _ _ _ (w.alloc (.cells #[.int .i64 c, .int .i64 a] 56))
  simp only [List.getElem?_cons_zero, List.getElem?_cons_succ] at n0 n1
  clear hcl hN hc ha hz hz2
  generalize (w.alloc (.cells #[.int .i64 c, .int .i64 a] 56)) = w4 at *
  have s0 : (fun w' : World => w'.cell? ⟨g, 0, none⟩ = some (.int .i64 c) ∧ w'.cell? ⟨g, 1, none⟩ = some (.int .i64 a)) w4.drew := ⟨n0, n1⟩
  have r1 : ∀ x : Cl (fun w' : World => w'.cell? ⟨g, 0, none⟩ = some (.int .i64 c) ∧ w'.cell? ⟨g, 1, none⟩ = some (.int .i64 a)), x.W.cell? ⟨g, 0, none⟩ = some (.int .i64 c) := fun x => x.ok.1
  have r2 : ∀ x : Cl (fun w' : World => w'.cell? ⟨g, 0, none⟩ = some (.int .i64 c) ∧ w'.cell? ⟨g, 1, none⟩ = some (.int .i64 a)), x.W.cell? ⟨g, 1, none⟩ = some (.int .i64 a) := fun x => x.ok.2
  have hne2 : Nonempty (Cl (fun w' : World => w'.cell? ⟨g, 0, none⟩ = some (.int .i64 c) ∧ w'.cell? ⟨g, 1, none⟩ = some (.int .i64 a))) := ⟨⟨_, s0⟩⟩
  go_wp2_with fail
  refine wp_region_stages [0, 0, 0, 0, 1, 3] 1 (fun w' => ∃ y : Cl (fun w' : World => w'.cell? ⟨g, 0, none⟩ = some (.int .i64 c) ∧ w'.cell? ⟨g, 1, none⟩ = some (.int .i64 a)), w' = y.W) (by kernel_rfl) (by kernel_rfl) ⟨⟨_, s0⟩, rfl⟩ ?_
  simp only [Stage.stages, Stage.pickC, Nat.reduceBEq, Nat.reduceMul, Nat.reduceAdd, cond_true, cond_false, List.map_cons, List.map_nil]
  refine stage_more ?_
  repeat (go_big_quiet_step (fail))
  refine wpQuiet_nil ?_
  intro K hK
  unfold Chain.mov
  go_simp
  simp only [Chain.movUpon]
  have s1 : (fun w' : World => w'.cell? ⟨g, 0, none⟩ = some (.int .i64 c) ∧ w'.cell? ⟨g, 1, none⟩ = some (.int .i64 a)) (w4.drew.setCell pc (.int .i64 c)) := ⟨(World.cell?_of_block (w := w4) (Below.heap_setCell w4 pc _ g (by omega))).trans n0, (World.cell?_of_block (w := w4) (Below.heap_setCell w4 pc _ g (by omega))).trans n1⟩
  refine hK _ (w4.drew.setCell pc (.int .i64 c)) ⟨⟨⟨_, s1⟩, rfl⟩, ?_⟩
  clear hK K r1 r2
  have k2 : (w4.drew.setCell pc (.int .i64 c)).cell? pa = some (.int .i64 y) := (World.cell?_of_block (w := w4) (Below.heap_setCell w4 pc _ pa.block hne)).trans k1
  have z2 : (w4.drew.setCell pc (.int .i64 c)).frozen? pa = false := (World.frozen?_of_block (w := w4) (Below.heap_setCell w4 pc _ pa.block hne)).trans z1
  have HU := Lib.hid hu
  clear s1 s0 hne2 hu k0 k1 z0 z1 n0 n1
  change Stage.stageW _ _ _ _ _ _ (w4.drew.setCell pc (.int .i64 c))
  generalize hw5 : (w4.drew.setCell pc (.int .i64 c)) = w5 at *
  have HW5 := Lib.hid hw5
  clear hw5
  refine stage_last ?_
  repeat (go_big_quiet_step (fail))
  refine wpQuiet_nil ?_
  go_wp2
  have hu := HU.out
  cases c₀
  simp_all [bodyPostS, results, Tryz.results33]
  rw [← HW5.out]
  rfl

set_option maxHeartbeats 1000000 in
set_option maxRecDepth 100000 in
theorem fault_idle (pc pa : Addr) (w : World) :
    CallsD Tryz.prog 33 #[.pointer (some pc), .pointer (some pa)] .returning w fun e u' w' => e = .returned (.tuple #[]) ∧ u' = .returning ∧ w' = w.alloc (.cells #[.int .i64 0, .int .i64 0] 56) := by
  refine callsD_of_wpS Tryz.func33 rfl ?_
  intro c₀ cs hu
  simp only [Tryz.ntmps33, List.size_toArray, List.length_cons, List.length_nil, Nat.reduceAdd, Nat.reduceSub, Array.replicate_succ,
     Array.replicate_zero, List.push_toArray, List.append_toArray, List.nil_append, List.cons_append]
  apply wpS_seq
  apply wpS_region
  simp [wpOpsS, go_sem, recoverD, hu, Exit.thenS, assert_not]
  refine wpS_of_wp ?_
  go_wp2_with fail
  cases c₀
  simp_all [bodyPostS, results, Tryz.results33]

/-- what ParseTree tells. -/
def PtP (s : ByteArray) (w : World) (e : Ending) (w' : World) : Prop :=
  ∃ v, e = .returned (.tuple #[v, .int .i64 (prsA s).2.1, .int .i64 (prsA s).2.2]) ∧ w'.ownsRow w.heap.size 31 3 v (prsA s).1.length (fl fn (prsA s).1) ∧ Below w.heap.size w w'

set_option maxHeartbeats 4000000 in
set_option maxRecDepth 100000 in
theorem ParseTree_any (s : ByteArray) (w : World) (hg : ErrV w) :
    Calls Tryz.prog 8 #[.string s] w (PtP s w) := by
  have HG := Lib.hid hg
  have hmf : ∀ (fn : Fn) (first cap : Array Value) (w : World), (Instr.makeFunc fn first cap).run Tryz.prog w = .ok (.func fn first cap) w := fun _ _ _ _ => rfl
  have hb2 := ((Below.refl w.heap.size w).alloc (Nat.le_refl _) (.cells #[.int .i64 0] 3)).alloc (by simp) (.cells #[.int .i64 0] 3)
  have hbc := BlkL.new w 3 [.int .i64 0]
  have hba := BlkL.new (w.alloc (.cells #[.int .i64 0] 3)) 3 [.int .i64 0]
  rw [show (w.alloc (.cells #[.int .i64 0] 3)).heap.size = w.heap.size + 1 by simp] at hba
  have hbc2 := hbc.alloc (.cells #[.int .i64 0] 3)
  have HC := Lib.hid hbc2
  have HA := Lib.hid hba
  have HB2 := Lib.hid hb2
  have HG2 := Lib.hid (hg.below hb2)
  have hs2 : ((w.alloc (.cells #[.int .i64 0] 3)).alloc (.cells #[.int .i64 0] 3)).heap.size = w.heap.size + 2 := by simp
  clear hg hb2 hbc hba hbc2
  go_enter_defers Tryz.func8, Tryz.ntmps8
  go_wp2_with fail
  change Calls _ _ _ ((w.alloc (.cells #[.int .i64 0] 3)).alloc (.cells #[.int .i64 0] 3)) _
  generalize ((w.alloc (.cells #[.int .i64 0] 3)).alloc (.cells #[.int .i64 0] 3)) = w2 at *
  refine (parsed_any s w2 HG2.out).mono ?_
  rintro e w3 ⟨hok, hbad, hb3⟩
  have HB3 := Lib.hid hb3
  have HC3 := Lib.hid (HC.out.below hb3 HC.out.lt)
  have HA3 := Lib.hid (HA.out.below hb3 HA.out.lt)
  have c0 := HC3.out.cell 0 
  have a0 := HA3.out.cell 0 
  have cz := HC3.out.frozen 0
  have az := HA3.out.frozen 0
  have HE := Lib.hid (prsA_eq s)
  clear hb3
  cases hp : prsZ s with
  | error ca =>
    obtain ⟨c, a⟩ := ca
    obtain rfl := hbad c a hp
    have he := HE.out
    rw [hp] at he
    simp only at he
    have HE2 := Lib.hid he
    clear he hok hbad hp HE
    go_wp2_with fail
    refine leaves_cons (f := 33) (args := #[.pointer (some ⟨w.heap.size, 0, none⟩), .pointer (some ⟨w.heap.size + 1, 0, none⟩)]) (by simp) (by simp [go_sem]) ?_
    refine (fault_panicking ⟨w.heap.size, 0, none⟩ ⟨w.heap.size + 1, 0, none⟩ c a 0 0 [] _ c0 a0 (by simp) cz az).mono ?_
    rintro e u' w'' ⟨rfl, rfl, rfl⟩
    have hCC := (((HC3.out.alloc (.cells #[.int .i64 c, .int .i64 a] 56)).drew.set 0 (.int .i64 c)).far (p := ⟨w.heap.size + 1, 0, none⟩) (by simp) (.int .i64 a))
    have hAA := (((HA3.out.alloc (.cells #[.int .i64 c, .int .i64 a] 56)).drew.far (p := ⟨w.heap.size, 0, none⟩) (by simp) (.int .i64 c)).set 0 (.int .i64 a))
    have k0 := hCC.cell 0
    have k1 := hAA.cell 0
    have hbf : Below w.heap.size w (((w3.alloc (.cells #[.int .i64 c, .int .i64 a] 56)).drew.setCell ⟨w.heap.size, 0, none⟩ (.int .i64 c)).setCell ⟨w.heap.size + 1, 0, none⟩ (.int .i64 a)) := (((HB2.out.trans (HB3.out.mono HB2.out.size)).alloc (HB2.out.trans (HB3.out.mono HB2.out.size)).size (.cells #[.int .i64 c, .int .i64 a] 56)).drew.setCell (p := ⟨w.heap.size, 0, none⟩) (Nat.le_refl _) _).setCell (p := ⟨w.heap.size + 1, 0, none⟩) (Nat.le_succ _) _
    have HBF := Lib.hid hbf
    clear hCC hAA hbf
    generalize (((w3.alloc (.cells #[.int .i64 c, .int .i64 a] 56)).drew.setCell ⟨w.heap.size, 0, none⟩ (.int .i64 c)).setCell ⟨w.heap.size + 1, 0, none⟩ (.int .i64 a)) = w4 at *
    simp only [List.set_cons_zero, List.getElem?_cons_zero] at k0 k1
    simp [Leaves, settle, results, Tryz.results8, go_sem, k0, k1]
    refine ⟨.slice none 0 0, by rw [HE2.out], ?_, HBF.out⟩
    rw [HE2.out]
    exact own_nil _ _ _
  | ok l =>
    obtain ⟨v, rfl, hrow⟩ := hok l hp
    have he := HE.out
    rw [hp] at he
    simp only at he
    have HE2 := Lib.hid he
    have HROW := Lib.hid hrow
    clear he hok hbad hp HE hrow
    go_wp2_with fail
    have hCC := ((HC3.out.set 0 (.int .i64 0)).far (p := ⟨w.heap.size + 1, 0, none⟩) (by simp) (.int .i64 (-1)))
    have hAA := ((HA3.out.far (p := ⟨w.heap.size, 0, none⟩) (by simp) (.int .i64 0)).set 0 (.int .i64 (-1)))
    have k0 := hCC.cell 0
    have k1 := hAA.cell 0
    have hbf : Below w.heap.size w ((w3.setCell ⟨w.heap.size, 0, none⟩ (.int .i64 0)).setCell ⟨w.heap.size + 1, 0, none⟩ (.int .i64 (-1))) := ((HB2.out.trans (HB3.out.mono HB2.out.size)).setCell (p := ⟨w.heap.size, 0, none⟩) (Nat.le_refl _) _).setCell (p := ⟨w.heap.size + 1, 0, none⟩) (Nat.le_succ _) _
    have HBF := Lib.hid hbf
    have hC4 := hCC
    have hA4 := hAA
    clear k0 k1
    have HRW := Lib.hid (Joins.ownsRow_le (ownsRow_setCell_below (ownsRow_setCell_below HROW.out (a := ⟨w.heap.size, 0, none⟩) (by show w.heap.size < w2.heap.size; omega) (.int .i64 0)) (a := ⟨w.heap.size + 1, 0, none⟩) (by show w.heap.size + 1 < w2.heap.size; omega) (.int .i64 (-1))) HB2.out.size)
    clear hCC hAA hbf
    change bodyPostD _ _ _ _ _ ((w3.setCell ⟨w.heap.size, 0, none⟩ (.int .i64 0)).setCell ⟨w.heap.size + 1, 0, none⟩ (.int .i64 (-1)))
    generalize ((w3.setCell ⟨w.heap.size, 0, none⟩ (.int .i64 0)).setCell ⟨w.heap.size + 1, 0, none⟩ (.int .i64 (-1))) = w4 at *
    have HRX := Lib.hid (own_below HRW.out ((Below.refl w4.heap.size w4).alloc (Nat.le_refl _) (.cells #[.int .i64 0, .int .i64 0] 56)))
    have HBX := Lib.hid (HBF.out.alloc HBF.out.size (.cells #[.int .i64 0, .int .i64 0] 56))
    have k0 := (hC4.alloc (.cells #[.int .i64 0, .int .i64 0] 56)).cell 0
    have k1 := (hA4.alloc (.cells #[.int .i64 0, .int .i64 0] 56)).cell 0
    simp only [List.set_cons_zero, List.getElem?_cons_zero] at k0 k1
    refine leaves_cons (f := 33) (args := #[.pointer (some ⟨w.heap.size, 0, none⟩), .pointer (some ⟨w.heap.size + 1, 0, none⟩)]) (by simp) (by simp [go_sem]) ?_
    refine (fault_idle ⟨w.heap.size, 0, none⟩ ⟨w.heap.size + 1, 0, none⟩ _).mono ?_
    rintro e u' w'' ⟨rfl, rfl, rfl⟩
    generalize (w4.alloc (.cells #[.int .i64 0, .int .i64 0] 56)) = w5 at *
    simp [Leaves, settle, results, Tryz.results8, go_sem, k0, k1]
    refine ⟨v, by rw [HE2.out], ?_, HBX.out⟩
    rw [HE2.out]
    exact HRX.out
end Go.Proofs.YthjkgbcomjiejaaGreatDoor
