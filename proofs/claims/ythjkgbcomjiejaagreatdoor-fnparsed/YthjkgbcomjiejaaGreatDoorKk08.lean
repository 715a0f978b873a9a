/-
  The draws: texts of several parts, and texts that may be none.
-/
import Derived.Test.YthjkgbcomjiejaaGreatDoorKk06
import Derived.Test.YthjkgbcomjiejaaGreatDoorKk07
namespace Go.Proofs.YthjkgbcomjiejaaGreatDoor
open Go.RowKit
set_option linter.unusedVariables false

set_option maxHeartbeats 1000000 in
set_option maxRecDepth 100000 in
theorem l06DrawText_any (m p : Nat) (A : Option Addr) (n c : Nat) (w : World) (hm : n ≤ 1048576) (hmm : m ≤ 8) (hb : BS w A n) (hne : ∀ b, A.map (·.block) = some b → b ≠ p) (hc : Cur w p A n c) :
    Calls Tryz.prog 52 #[.pointer (some ⟨p, 0, none⟩), .int .i64 m] w (Drawn w p A n c (TxS (m * 2176))) := by
  have HB := Lib.hid hb
  have HNE := Lib.hid hne
  have HC := Lib.hid hc
  clear hb hc
  go_enter Tryz.func52, Tryz.ntmps52
  go_wp2_with fail
  go_loopw [5, 6] (fun ov iv wr => ∃ (s : ByteArray) (i : Nat), ov = .string s ∧ iv = .int .i64 i ∧ i ≤ m ∧ s.size ≤ i * 2176 ∧ Cur wr p A n c ∧ w.grownBy wr (some p)) (fun _ iv _ => m - (intOf iv).toNat)
  case atStart => exact ⟨ByteArray.empty, 0, rfl, rfl, Nat.zero_le _, Nat.le_refl _, HC.out, World.grownBy.refl _ _⟩
  case round =>
    obtain ⟨s, i, rfl, rfl, hi, hsz, hcr, hgr⟩ := hrel
    have HCR := Lib.hid hcr
    have HGR := Lib.hid hgr
    have HSZ := Lib.hid hsz
    have hs1e4 : s.size ≤ 100000 := by omega
    clear hcr hgr hsz
    by_cases him : i < m
    · go_wp2_with fail
      refine (l06DrawTree_any p A n c hm hne 3 (Nat.le_refl _) 3 rfl wr (HB.out.grown HNE.out HGR.out) HCR.out).mono ?_
      rintro e w4 ⟨⟨v, ⟨x, rfl, hx⟩, rfl⟩, hc4, hg4⟩
      have HC4 := Lib.hid hc4
      have HG4 := Lib.hid (gB_tr HGR.out hg4)
      have hxe4 : x.size ≤ 2174 := hx
      clear hc4 hg4 hx HCR HGR
      have hpk := pickT_at [⟨#[32]⟩, ⟨#[10]⟩, ⟨#[10, 10]⟩] 3 hm HB.out HNE.out HC4.out HG4.out rfl (by decide) (by decide)
      simp only [List.map_cons, List.map_nil] at hpk
      have HPK := Lib.hid hpk
      clear hpk
      go_wp2_with fail
      refine HPK.out.mono ?_
      clear HPK
      rintro e w5 ⟨y, hy, rfl, hc5, hg5⟩
      have hy2 : y.size ≤ 2 := by
        simp only [List.mem_cons, List.not_mem_nil, or_false] at hy
        rcases hy with rfl | rfl | rfl <;> decide
      have HC5 := Lib.hid hc5
      have HG5 := Lib.hid hg5
      clear hc5 hg5 hy HC4 HG4
      go_wp2_with fail
      go_roundw
      case rel =>
        refine ⟨_, i + 1, rfl, by go_num, by omega, ?_, HC5.out, HG5.out⟩
        have h1 := HSZ.out
        rw [ByteArray.size_append, ByteArray.size_append]
        omega
      case measure => simp [intOf]; omega
    · obtain rfl : i = m := by omega
      go_wp2_with fail
      go_ret
      exact ⟨⟨_, ⟨_, rfl, HSZ.out⟩, rfl⟩, HCR.out, HGR.out⟩

theorem infoByteD : (Tryz.prog.info? 5).map (fun i => (i.zero, i.size, i.bytes)) = some (some (.int .u8 0), 1, 1) := by kernel_rfl
theorem cell_two_at (w : World) (x y : Value) (t : TypeId) : ∀ j u, [x, y][j]? = some u → (w.alloc (.cells #[x, y] t)).cell? ((⟨w.heap.size, 0, none⟩ : Addr).add j) = some u := by
  intro j u hj
  rw [Addr.add_lit, Nat.zero_add]
  exact ((BlkL.new w t [x, y]).cell j).trans hj
/-- bytes drawn so far: a row of one's own. -/
structure Db (w : World) (p : Nat) (A : Option Addr) (n c : Nat) (v : Value) (x : List UInt8) (wr : World) : Prop where
  own : RowG wr w.heap.size 5 v x.length (Lib.byteCells x)
  cur : Cur wr p A n c
  grown : w.grownBy wr (some p)
theorem Db.go {w : World} {p : Nat} {A : Option Addr} {n c : Nat} {v : Value} {x : List UInt8} {wr w' : World} (hp : p < w.heap.size) (h : Db w p A n c v x wr) (hc : Cur w' p A n c) (hg : wr.grownBy w' (some p)) : Db w p A n c v x w' :=
  ⟨h.own.kept hg (by
    cases hv : v.ownBlock with
    | none => exact .inl rfl
    | some q => exact .inr fun e => by injection e with e; have := (h.own.lt q hv).1; omega), hc, gB_tr h.grown hg⟩
theorem Db.alloc {w : World} {p : Nat} {A : Option Addr} {n c : Nat} {v : Value} {x : List UInt8} {wr : World} (hp : p < w.heap.size) (h : Db w p A n c v x wr) (o : Obj) : Db w p A n c v x (wr.alloc o) :=
  h.go hp (h.cur.alloc o) (gB_below p ((Below.refl _ wr).alloc (Nat.le_refl _) o))
theorem Db.app {w : World} {p : Nat} {A : Option Addr} {n c : Nat} {v v' : Value} {x y : List UInt8} {wr w3 : World} {o : Obj} (hp : p < w.heap.size) (h : Db w p A n c v x wr)
    (hown : RowG w3 w.heap.size 5 v' (x.length + y.length) (Lib.byteCells x ++ Lib.byteCells y)) (hg : (wr.alloc o).grownBy w3 v.ownBlock) : Db w p A n c v' (x ++ y) w3 := by
  have hlt := h.own.lt
  refine ⟨?_, ?_, ?_⟩
  · rw [List.length_append, show Lib.byteCells (x ++ y) = Lib.byteCells x ++ Lib.byteCells y by simp [Lib.byteCells]]
    exact hown
  · obtain ⟨i, z, hi, hb⟩ := h.cur
    exact ⟨i, z, hi, (hb.alloc o).grown hg (fun e => by have := (hlt p e.symm).1; omega)⟩
  · have g := gB_alloc h.grown o
    exact ⟨hg.os.trans g.os, hg.tape.trans g.tape, hg.output.trans g.output, Nat.le_trans g.size hg.size, fun q hq hne => (hg.block q (Nat.lt_of_lt_of_le hq g.size) (fun e => by have := (hlt q e.symm).1; omega)).trans (g.block q hq hne)⟩
theorem Db.bs {w : World} {p : Nat} {A : Option Addr} {n c : Nat} {v : Value} {x : List UInt8} {wr : World} (h : Db w p A n c v x wr) (hb : BS w A n) (hne : ∀ b, A.map (·.block) = some b → b ≠ p) : BS wr A n := hb.grown hne h.grown
theorem Db.set {w : World} {p : Nat} {A : Option Addr} {n c : Nat} {v : Value} {x : List UInt8} {wr : World} (hp : p < w.heap.size) (h : Db w p A n c v x wr) {j : Nat} (hj : j < x.length) (k : Nat) (hk : k < 256) :
    ∃ g cap y, v = .slice (some ⟨g, 0, none⟩) x.length cap ∧ x.length ≤ cap ∧ wr.cell? ⟨g, j, none⟩ = some (.int .u8 y) ∧ wr.frozen? ⟨g, j, none⟩ = false ∧
      Db w p A n c v (x.set j (UInt8.ofNat k)) (wr.setCell ⟨g, j, none⟩ (.int .u8 k)) := by
  obtain ⟨g, cap, hv, hcap, hlt, hc, hf, hst⟩ := h.own.cell hj
  have hg := gB_set wr ⟨g, j, none⟩ (.int .u8 (k : Int))
  have hgw : w.heap.size ≤ g := (h.own.lt g (by rw [hv]; rfl)).1
  have e : (Lib.byteCells x).set j (.int .u8 (k : Int)) = Lib.byteCells (x.set j (UInt8.ofNat k)) := by
    have e2 : ((UInt8.ofNat k).toNat : Int) = (k : Int) := by rw [UInt8.toNat_ofNat']; omega
    simp only [Lib.byteCells, List.map_set, e2]
  refine ⟨g, cap, ((x[j]).toNat : Int), hv, hcap, ?_, hf, ?_, ?_, ?_⟩
  · rw [hc]; simp [Lib.byteCells, List.getElem?_eq_getElem hj]
  · have h2 := hst (.int .u8 (k : Int))
    rw [e] at h2
    rw [List.length_set]
    exact h2
  · obtain ⟨i, z, hi, hb⟩ := h.cur
    exact ⟨i, z, hi, hb.far (p := ⟨g, j, none⟩) (show p ≠ g by omega) _⟩
  · have g' := h.grown
    exact ⟨hg.os.trans g'.os, hg.tape.trans g'.tape, hg.output.trans g'.output, Nat.le_trans g'.size hg.size, fun b hb' hne => (hg.block b (Nat.lt_of_lt_of_le hb' g'.size) (fun e => by injection e with e; have e' : b = g := e; omega)).trans (g'.block b hb' hne)⟩
set_option maxHeartbeats 1000000 in
set_option maxRecDepth 100000 in
theorem l01BelowL_any (m p : Nat) (A : Option Addr) (n c : Nat) (w : World) (hm : n ≤ 1048576) (hm1 : 1 ≤ m) (hm2 : m ≤ 1000000) (hb : BS w A n) (hne : ∀ b, A.map (·.block) = some b → b ≠ p) (hc : Cur w p A n c) :
    Calls Tryz.prog 25 #[.pointer (some ⟨p, 0, none⟩), .int .i64 m] w (Drawn w p A n c fun v => ∃ x : Nat, v = .int .i64 x ∧ x < m) := by
  by_cases h256 : m ≤ 256
  · exact l01Below_any m p A n c w hm hm1 h256 hb hne hc
  have hle : decide ((m : Int) ≤ 256) = false := decide_eq_false (by omega)
  have hle0 : decide ((m : Int) ≤ 0) = false := decide_eq_false (by omega)
  have HB := Lib.hid hb
  have HC := Lib.hid hc
  have HNE := Lib.hid hne
  clear hb hc hne
  go_enter Tryz.func25, Tryz.ntmps25
  go_wp2_with fail
  refine (l01Byte_any p A n c w hm HB.out HNE.out HC.out).mono ?_
  rintro e w1 ⟨⟨v, ⟨x, rfl, hx0, hx1⟩, rfl⟩, hc1, hg1⟩
  have HC1 := Lib.hid hc1
  have HG1 := Lib.hid hg1
  clear hc1 hg1
  go_wp2_with fail
  refine (l01Byte_any p A n c w1 hm (HB.out.grown HNE.out HG1.out) HNE.out HC1.out).mono ?_
  rintro e w2 ⟨⟨v, ⟨y, rfl, hy0, hy1⟩, rfl⟩, hc2, hg2⟩
  have HC2 := Lib.hid hc2
  have HG2 := Lib.hid (gB_tr HG1.out hg2)
  clear hc2 hg2 HC1 HG1
  go_wp2_with fail
  refine (l01Byte_any p A n c w2 hm (HB.out.grown HNE.out HG2.out) HNE.out HC2.out).mono ?_
  rintro e w3 ⟨⟨v, ⟨z, rfl, hz0, hz1⟩, rfl⟩, hc3, hg3⟩
  have HC3 := Lib.hid hc3
  have HG3 := Lib.hid (gB_tr HG2.out hg3)
  clear hc3 hg3 HC2 HG2
  go_wp2_with fail
  go_ret
  have hmod : 0 ≤ (x * 65536 + y * 256 + z) % (m : Int) ∧ (x * 65536 + y * 256 + z) % (m : Int) < m := ⟨Int.emod_nonneg _ (by omega), Int.emod_lt_of_pos _ (by omega)⟩
  exact ⟨⟨_, ⟨((x * 65536 + y * 256 + z) % (m : Int)).toNat, by rw [Int.toNat_of_nonneg hmod.1]; rfl, by omega⟩, rfl⟩, HC3.out, HG3.out⟩
set_option maxHeartbeats 2000000 in
set_option maxRecDepth 100000 in
theorem l06DrawLoose_any (p : Nat) (A : Option Addr) (n c : Nat) (w : World) (hm : n ≤ 1048576) (hb : BS w A n) (hne : ∀ b, A.map (·.block) = some b → b ≠ p) (hc : Cur w p A n c) :
    Calls Tryz.prog 27 #[.pointer (some ⟨p, 0, none⟩), .slice A n c] w (Drawn w p A n c (TxS 20000)) := by
  have hp := hc.lt
  have HB := Lib.hid hb
  have HNE := Lib.hid hne
  have HC := Lib.hid hc
  clear hb hc
  go_enter Tryz.func27, Tryz.ntmps27
  go_wp2_with fail
  refine (l01Size_any A n c 8 w hm (by decide) (by decide)).mono ?_
  rintro e w0 ⟨⟨x, rfl, hx1, hx2⟩, rfl⟩
  go_wp2_with fail
  refine (l01Below_any x p A n c w hm hx1 (by omega) HB.out HNE.out HC.out).mono ?_
  rintro e w1 ⟨⟨v1, ⟨y, rfl, hy⟩, rfl⟩, hc1, hg1⟩
  have HC1 := Lib.hid hc1
  have HG1 := Lib.hid hg1
  clear hc1 hg1
  go_wp2_with fail
  refine (l06DrawText_any y p A n c w1 hm (by omega) (HB.out.grown HNE.out HG1.out) hne HC1.out).mono ?_
  rintro e w2 ⟨⟨v2, ⟨s, rfl, hs⟩, rfl⟩, hc2, hg2⟩
  have HC2 := Lib.hid hc2
  have HG2 := Lib.hid (gB_tr HG1.out hg2)
  have hs2 : s.size ≤ 17408 := by omega
  clear hc2 hg2 hs hy hx1 hx2 HC1 HG1
  obtain ⟨bv, w3, hcv, hrow, hb3⟩ := convG (P := Tryz.prog) w2 9 22 5 s Tryz.underlying9 Tryz.underlying22 Tryz.underlying5 (by simp only [maxLen]; omega)
  have hl : s.data.toList.length = s.size := Array.length_toList
  have hD : Db w p A n c bv s.data.toList w3 := by
    refine ⟨?_, ?_, gB_tr HG2.out (gB_below p hb3)⟩
    · rw [hl]
      exact hrow.le HG2.out.size
    · obtain ⟨i, z, hi, hbk⟩ := HC2.out
      exact ⟨i, z, hi, hbk.below hb3 hbk.lt⟩
  have hx2 : s.data.toList.length ≤ 17408 := by omega
  have HD := Lib.hid hD
  obtain ⟨Ab, cb, rfl⟩ := hD.own.form
  generalize s.data.toList = x at *
  clear hD hrow hb3 HC2 HG2 hl hs2
  obtain ⟨i0, hi0, hz0, hz1, hz2⟩ := info_parts infoByteD
  go_wp2_with fail
  refine (l01Once_any 4 p A n c w3 hm (by decide) (by decide) (HD.out.bs HB.out HNE.out) HNE.out HD.out.cur).mono ?_
  rintro e w4 ⟨⟨v4, ⟨q4, rfl⟩, rfl⟩, hc4, hg4⟩
  have HD4 := Lib.hid (HD.out.go hp hc4 hg4)
  clear hc4 hg4 HD hcv
  cases q4
  · go_wp2_with fail
    refine (l01Once_any 30 p A n c _ hm (by decide) (by decide) (HD4.out.bs HB.out HNE.out) HNE.out HD4.out.cur).mono ?_
    rintro e w5 ⟨⟨v5, ⟨q5, rfl⟩, rfl⟩, hc5, hg5⟩
    have HD5 := Lib.hid (HD4.out.go hp hc5 hg5)
    clear hc5 hg5 HD4
    cases q5
    · have hbk := backG HD5.out.own 22 9 Tryz.underlying22 Tryz.underlying5 Tryz.underlying9
      go_wp2_with fail
      go_ret
      exact ⟨⟨_, ⟨_, rfl, by show (List.toArray _).size ≤ 20000; simp only [List.size_toArray]; omega⟩, rfl⟩, HD5.out.cur, HD5.out.grown⟩
    · go_wp2_with fail
      refine (l01Below_any 3 p A n c _ hm (by decide) (by decide) (HD5.out.bs HB.out HNE.out) HNE.out HD5.out.cur).mono ?_
      rintro e w6 ⟨⟨v6, ⟨q6, rfl, hq6⟩, rfl⟩, hc6, hg6⟩
      have HD6 := Lib.hid (HD5.out.go hp hc6 hg6)
      have hq6' : q6 = 0 ∨ q6 = 1 ∨ q6 = 2 := by omega
      clear hc6 hg6 HD5 hq6
      rcases hq6' with rfl | rfl | rfl
      · go_wp2_with fail
        go_loopw [5] (fun bv wr => ∃ (y : List UInt8) (Ay : Option Addr) (cy : Nat), bv = .slice Ay y.length cy ∧ y.length ≤ 17408 ∧ Db w p A n c (.slice Ay y.length cy) y wr) (fun bv _ => 2002 - (match bv with | .slice _ k _ => k | _ => 0))
        case atStart => exact ⟨_, _, _, rfl, hx2, HD6.out⟩
        case round =>
          obtain ⟨y, Ay, cy, rfl, hy, hdb⟩ := hrel
          have HDW := Lib.hid hdb
          clear hdb HD6
          go_wp2_with fail
          refine (l01Below_any 2 p A n c _ hm (by decide) (by decide) (HDW.out.bs HB.out HNE.out) HNE.out HDW.out.cur).mono ?_
          rintro e w7 ⟨⟨v7, ⟨q7, rfl, hq7⟩, rfl⟩, hc7, hg7⟩
          have HD7 := Lib.hid (HDW.out.go hp hc7 hg7)
          clear hc7 hg7 HDW
          by_cases hlt : (y.length : Int) < 2000 + (q7 : Int)
          · have hltb : decide ((y.length : Int) < 2000 + (q7 : Int)) = true := decide_eq_true hlt
            have hgs := HD7.out.grown.size
            go_wp2_with (at_builtin; refine wpList_appG rfl _ _ 22 rfl w.heap.size 5 i0 (.int .u8 0) 1 Tryz.underlying22 hi0 hz0 hz1 hz2 rfl _ _ _ rfl (HD7.out.own.alloc _) ⟨_, 0, none⟩ 1 1 [.int .u8 32] rfl rfl (cell_one_new _ _ _) (by simp [Value.oneCell']) (by simp only [maxLen]; omega) (by omega) (by simp; omega) ?_)
            intro v' w9 hown9 hgr9
            have HD9 := Lib.hid (Db.app (y := [32]) hp HD7.out hown9 hgr9)
            have hx9 : (y ++ [32]).length = y.length + 1 := by simp
            obtain ⟨A9, c9, rfl⟩ := hown9.form
            clear hown9 hgr9 hgs
            go_wp2_with fail
            go_roundw
            case rel => exact ⟨y ++ [32], A9, c9, by rw [hx9], by omega, by rw [hx9]; exact HD9.out⟩
            case measure => simp; omega
          · have hltb : decide ((y.length : Int) < 2000 + (q7 : Int)) = false := decide_eq_false hlt
            have hbk := backG HD7.out.own 22 9 Tryz.underlying22 Tryz.underlying5 Tryz.underlying9
            go_wp2_with fail
            go_ret
            exact ⟨⟨_, ⟨_, rfl, by show (List.toArray _).size ≤ 20000; simp only [List.size_toArray]; omega⟩, rfl⟩, HD7.out.cur, HD7.out.grown⟩
      · go_wp2_with fail
        go_loopw [5, 6] (fun bv iv wr => ∃ (y : List UInt8) (Ay : Option Addr) (cy i : Nat), bv = .slice Ay y.length cy ∧ iv = .int .i64 i ∧ i ≤ 41 ∧ y.length ≤ 17408 + i ∧ Db w p A n c (.slice Ay y.length cy) y wr) (fun _ iv _ => 42 - (intOf iv).toNat)
        case atStart => exact ⟨_, _, _, 0, rfl, rfl, by omega, hx2, HD6.out⟩
        case round =>
          obtain ⟨y, Ay, cy, i, rfl, rfl, hi, hy, hdb⟩ := hrel
          have HDW := Lib.hid hdb
          clear hdb HD6
          go_wp2_with fail
          refine (l01Below_any 2 p A n c _ hm (by decide) (by decide) (HDW.out.bs HB.out HNE.out) HNE.out HDW.out.cur).mono ?_
          rintro e w7 ⟨⟨v7, ⟨q7, rfl, hq7⟩, rfl⟩, hc7, hg7⟩
          have HD7 := Lib.hid (HDW.out.go hp hc7 hg7)
          clear hc7 hg7 HDW
          by_cases hlt : (i : Int) < 40 + (q7 : Int)
          · have hltb : decide ((i : Int) < 40 + (q7 : Int)) = true := decide_eq_true hlt
            have hgs := HD7.out.grown.size
            go_wp2_with (at_builtin; refine wpList_appG rfl _ _ 22 rfl w.heap.size 5 i0 (.int .u8 0) 1 Tryz.underlying22 hi0 hz0 hz1 hz2 rfl _ _ _ rfl (HD7.out.own.alloc _) ⟨_, 0, none⟩ 1 1 [.int .u8 119] rfl rfl (cell_one_new _ _ _) (by simp [Value.oneCell']) (by simp only [maxLen]; omega) (by omega) (by simp; omega) ?_)
            intro v' w9 hown9 hgr9
            have HD9 := Lib.hid (Db.app (y := [119]) hp HD7.out hown9 hgr9)
            have hx9 : (y ++ [119]).length = y.length + 1 := by simp
            obtain ⟨A9, c9, rfl⟩ := hown9.form
            clear hown9 hgr9 hgs
            go_wp2_with fail
            go_roundw
            case rel => exact ⟨y ++ [119], A9, c9, i + 1, by rw [hx9], by go_num, by omega, by omega, by rw [hx9]; exact HD9.out⟩
            case measure => simp [intOf]; omega
          · have hltb : decide ((i : Int) < 40 + (q7 : Int)) = false := decide_eq_false hlt
            have hbk := backG HD7.out.own 22 9 Tryz.underlying22 Tryz.underlying5 Tryz.underlying9
            go_wp2_with fail
            go_ret
            exact ⟨⟨_, ⟨_, rfl, by show (List.toArray _).size ≤ 20000; simp only [List.size_toArray]; omega⟩, rfl⟩, HD7.out.cur, HD7.out.grown⟩
      · go_wp2_with fail
        go_loopw [5, 7] (fun bv iv wr => ∃ (y : List UInt8) (Ay : Option Addr) (cy i : Nat), bv = .slice Ay y.length cy ∧ iv = .int .i64 i ∧ i ≤ 201 ∧ y.length ≤ 2 * i ∧ Db w p A n c (.slice Ay y.length cy) y wr) (fun _ iv _ => 202 - (intOf iv).toNat)
        case atStart => exact ⟨[], none, 0, 0, rfl, rfl, by omega, Nat.le_refl _, ⟨RowG.nil _ _ _, HD6.out.cur, HD6.out.grown⟩⟩
        case round =>
          obtain ⟨y, Ay, cy, i, rfl, rfl, hi, hy, hdb⟩ := hrel
          have HDW := Lib.hid hdb
          clear hdb HD6
          go_wp2_with fail
          refine (l01Below_any 2 p A n c _ hm (by decide) (by decide) (HDW.out.bs HB.out HNE.out) HNE.out HDW.out.cur).mono ?_
          rintro e w7 ⟨⟨v7, ⟨q7, rfl, hq7⟩, rfl⟩, hc7, hg7⟩
          have HD7 := Lib.hid (HDW.out.go hp hc7 hg7)
          clear hc7 hg7 HDW
          by_cases hlt : (i : Int) < 200 + (q7 : Int)
          · have hltb : decide ((i : Int) < 200 + (q7 : Int)) = true := decide_eq_true hlt
            have hgs := HD7.out.grown.size
            go_wp2_with (at_builtin; refine wpList_appG rfl _ _ 22 rfl w.heap.size 5 i0 (.int .u8 0) 1 Tryz.underlying22 hi0 hz0 hz1 hz2 rfl _ _ _ rfl (HD7.out.own.alloc _) ⟨_, 0, none⟩ 2 2 [.int .u8 118, .int .u8 32] rfl rfl (cell_two_at _ _ _ _) (by simp [Value.oneCell']) (by simp only [maxLen]; omega) (by omega) (by simp; omega) ?_)
            intro v' w9 hown9 hgr9
            have HD9 := Lib.hid (Db.app (y := [118, 32]) hp HD7.out hown9 hgr9)
            have hx9 : (y ++ [118, 32]).length = y.length + 2 := by simp
            obtain ⟨A9, c9, rfl⟩ := hown9.form
            clear hown9 hgr9 hgs
            go_wp2_with fail
            go_roundw
            case rel => exact ⟨y ++ [118, 32], A9, c9, i + 1, by rw [hx9], by go_num, by omega, by omega, by rw [hx9]; exact HD9.out⟩
            case measure => simp [intOf]; omega
          · have hltb : decide ((i : Int) < 200 + (q7 : Int)) = false := decide_eq_false hlt
            have hbk := backG HD7.out.own 22 9 Tryz.underlying22 Tryz.underlying5 Tryz.underlying9
            go_wp2_with fail
            go_ret
            exact ⟨⟨_, ⟨_, rfl, by show (List.toArray _).size ≤ 20000; simp only [List.size_toArray]; omega⟩, rfl⟩, HD7.out.cur, HD7.out.grown⟩
  · by_cases hx0 : x.length = 0
    · have hpos : decide (0 < x.length) = false := decide_eq_false (by omega)
      clear hx0
      go_wp2_with fail
      refine (l01Once_any 30 p A n c _ hm (by decide) (by decide) (HD4.out.bs HB.out HNE.out) HNE.out HD4.out.cur).mono ?_
      rintro e w5 ⟨⟨v5, ⟨q5, rfl⟩, rfl⟩, hc5, hg5⟩
      have HD5 := Lib.hid (HD4.out.go hp hc5 hg5)
      clear hc5 hg5 HD4
      cases q5
      · have hbk := backG HD5.out.own 22 9 Tryz.underlying22 Tryz.underlying5 Tryz.underlying9
        go_wp2_with fail
        go_ret
        exact ⟨⟨_, ⟨_, rfl, by show (List.toArray _).size ≤ 20000; simp only [List.size_toArray]; omega⟩, rfl⟩, HD5.out.cur, HD5.out.grown⟩
      · go_wp2_with fail
        refine (l01Below_any 3 p A n c _ hm (by decide) (by decide) (HD5.out.bs HB.out HNE.out) HNE.out HD5.out.cur).mono ?_
        rintro e w6 ⟨⟨v6, ⟨q6, rfl, hq6⟩, rfl⟩, hc6, hg6⟩
        have HD6 := Lib.hid (HD5.out.go hp hc6 hg6)
        have hq6' : q6 = 0 ∨ q6 = 1 ∨ q6 = 2 := by omega
        clear hc6 hg6 HD5 hq6
        rcases hq6' with rfl | rfl | rfl
        · go_wp2_with fail
          go_loopw [5] (fun bv wr => ∃ (y : List UInt8) (Ay : Option Addr) (cy : Nat), bv = .slice Ay y.length cy ∧ y.length ≤ 17408 ∧ Db w p A n c (.slice Ay y.length cy) y wr) (fun bv _ => 2002 - (match bv with | .slice _ k _ => k | _ => 0))
          case atStart => exact ⟨_, _, _, rfl, hx2, HD6.out⟩
          case round =>
            obtain ⟨y, Ay, cy, rfl, hy, hdb⟩ := hrel
            have HDW := Lib.hid hdb
            clear hdb HD6
            go_wp2_with fail
            refine (l01Below_any 2 p A n c _ hm (by decide) (by decide) (HDW.out.bs HB.out HNE.out) HNE.out HDW.out.cur).mono ?_
            rintro e w7 ⟨⟨v7, ⟨q7, rfl, hq7⟩, rfl⟩, hc7, hg7⟩
            have HD7 := Lib.hid (HDW.out.go hp hc7 hg7)
            clear hc7 hg7 HDW
            by_cases hlt : (y.length : Int) < 2000 + (q7 : Int)
            · have hltb : decide ((y.length : Int) < 2000 + (q7 : Int)) = true := decide_eq_true hlt
              have hgs := HD7.out.grown.size
              go_wp2_with (at_builtin; refine wpList_appG rfl _ _ 22 rfl w.heap.size 5 i0 (.int .u8 0) 1 Tryz.underlying22 hi0 hz0 hz1 hz2 rfl _ _ _ rfl (HD7.out.own.alloc _) ⟨_, 0, none⟩ 1 1 [.int .u8 32] rfl rfl (cell_one_new _ _ _) (by simp [Value.oneCell']) (by simp only [maxLen]; omega) (by omega) (by simp; omega) ?_)
              intro v' w9 hown9 hgr9
              have HD9 := Lib.hid (Db.app (y := [32]) hp HD7.out hown9 hgr9)
              have hx9 : (y ++ [32]).length = y.length + 1 := by simp
              obtain ⟨A9, c9, rfl⟩ := hown9.form
              clear hown9 hgr9 hgs
              go_wp2_with fail
              go_roundw
              case rel => exact ⟨y ++ [32], A9, c9, by rw [hx9], by omega, by rw [hx9]; exact HD9.out⟩
              case measure => simp; omega
            · have hltb : decide ((y.length : Int) < 2000 + (q7 : Int)) = false := decide_eq_false hlt
              have hbk := backG HD7.out.own 22 9 Tryz.underlying22 Tryz.underlying5 Tryz.underlying9
              go_wp2_with fail
              go_ret
              exact ⟨⟨_, ⟨_, rfl, by show (List.toArray _).size ≤ 20000; simp only [List.size_toArray]; omega⟩, rfl⟩, HD7.out.cur, HD7.out.grown⟩
        · go_wp2_with fail
          go_loopw [5, 6] (fun bv iv wr => ∃ (y : List UInt8) (Ay : Option Addr) (cy i : Nat), bv = .slice Ay y.length cy ∧ iv = .int .i64 i ∧ i ≤ 41 ∧ y.length ≤ 17408 + i ∧ Db w p A n c (.slice Ay y.length cy) y wr) (fun _ iv _ => 42 - (intOf iv).toNat)
          case atStart => exact ⟨_, _, _, 0, rfl, rfl, by omega, hx2, HD6.out⟩
          case round =>
            obtain ⟨y, Ay, cy, i, rfl, rfl, hi, hy, hdb⟩ := hrel
            have HDW := Lib.hid hdb
            clear hdb HD6
            go_wp2_with fail
            refine (l01Below_any 2 p A n c _ hm (by decide) (by decide) (HDW.out.bs HB.out HNE.out) HNE.out HDW.out.cur).mono ?_
            rintro e w7 ⟨⟨v7, ⟨q7, rfl, hq7⟩, rfl⟩, hc7, hg7⟩
            have HD7 := Lib.hid (HDW.out.go hp hc7 hg7)
            clear hc7 hg7 HDW
            by_cases hlt : (i : Int) < 40 + (q7 : Int)
            · have hltb : decide ((i : Int) < 40 + (q7 : Int)) = true := decide_eq_true hlt
              have hgs := HD7.out.grown.size
              go_wp2_with (at_builtin; refine wpList_appG rfl _ _ 22 rfl w.heap.size 5 i0 (.int .u8 0) 1 Tryz.underlying22 hi0 hz0 hz1 hz2 rfl _ _ _ rfl (HD7.out.own.alloc _) ⟨_, 0, none⟩ 1 1 [.int .u8 119] rfl rfl (cell_one_new _ _ _) (by simp [Value.oneCell']) (by simp only [maxLen]; omega) (by omega) (by simp; omega) ?_)
              intro v' w9 hown9 hgr9
              have HD9 := Lib.hid (Db.app (y := [119]) hp HD7.out hown9 hgr9)
              have hx9 : (y ++ [119]).length = y.length + 1 := by simp
              obtain ⟨A9, c9, rfl⟩ := hown9.form
              clear hown9 hgr9 hgs
              go_wp2_with fail
              go_roundw
              case rel => exact ⟨y ++ [119], A9, c9, i + 1, by rw [hx9], by go_num, by omega, by omega, by rw [hx9]; exact HD9.out⟩
              case measure => simp [intOf]; omega
            · have hltb : decide ((i : Int) < 40 + (q7 : Int)) = false := decide_eq_false hlt
              have hbk := backG HD7.out.own 22 9 Tryz.underlying22 Tryz.underlying5 Tryz.underlying9
              go_wp2_with fail
              go_ret
              exact ⟨⟨_, ⟨_, rfl, by show (List.toArray _).size ≤ 20000; simp only [List.size_toArray]; omega⟩, rfl⟩, HD7.out.cur, HD7.out.grown⟩
        · go_wp2_with fail
          go_loopw [5, 7] (fun bv iv wr => ∃ (y : List UInt8) (Ay : Option Addr) (cy i : Nat), bv = .slice Ay y.length cy ∧ iv = .int .i64 i ∧ i ≤ 201 ∧ y.length ≤ 2 * i ∧ Db w p A n c (.slice Ay y.length cy) y wr) (fun _ iv _ => 202 - (intOf iv).toNat)
          case atStart => exact ⟨[], none, 0, 0, rfl, rfl, by omega, Nat.le_refl _, ⟨RowG.nil _ _ _, HD6.out.cur, HD6.out.grown⟩⟩
          case round =>
            obtain ⟨y, Ay, cy, i, rfl, rfl, hi, hy, hdb⟩ := hrel
            have HDW := Lib.hid hdb
            clear hdb HD6
            go_wp2_with fail
            refine (l01Below_any 2 p A n c _ hm (by decide) (by decide) (HDW.out.bs HB.out HNE.out) HNE.out HDW.out.cur).mono ?_
            rintro e w7 ⟨⟨v7, ⟨q7, rfl, hq7⟩, rfl⟩, hc7, hg7⟩
            have HD7 := Lib.hid (HDW.out.go hp hc7 hg7)
            clear hc7 hg7 HDW
            by_cases hlt : (i : Int) < 200 + (q7 : Int)
            · have hltb : decide ((i : Int) < 200 + (q7 : Int)) = true := decide_eq_true hlt
              have hgs := HD7.out.grown.size
              go_wp2_with (at_builtin; refine wpList_appG rfl _ _ 22 rfl w.heap.size 5 i0 (.int .u8 0) 1 Tryz.underlying22 hi0 hz0 hz1 hz2 rfl _ _ _ rfl (HD7.out.own.alloc _) ⟨_, 0, none⟩ 2 2 [.int .u8 118, .int .u8 32] rfl rfl (cell_two_at _ _ _ _) (by simp [Value.oneCell']) (by simp only [maxLen]; omega) (by omega) (by simp; omega) ?_)
              intro v' w9 hown9 hgr9
              have HD9 := Lib.hid (Db.app (y := [118, 32]) hp HD7.out hown9 hgr9)
              have hx9 : (y ++ [118, 32]).length = y.length + 2 := by simp
              obtain ⟨A9, c9, rfl⟩ := hown9.form
              clear hown9 hgr9 hgs
              go_wp2_with fail
              go_roundw
              case rel => exact ⟨y ++ [118, 32], A9, c9, i + 1, by rw [hx9], by go_num, by omega, by omega, by rw [hx9]; exact HD9.out⟩
              case measure => simp [intOf]; omega
            · have hltb : decide ((i : Int) < 200 + (q7 : Int)) = false := decide_eq_false hlt
              have hbk := backG HD7.out.own 22 9 Tryz.underlying22 Tryz.underlying5 Tryz.underlying9
              go_wp2_with fail
              go_ret
              exact ⟨⟨_, ⟨_, rfl, by show (List.toArray _).size ≤ 20000; simp only [List.size_toArray]; omega⟩, rfl⟩, HD7.out.cur, HD7.out.grown⟩
    · have hpos : decide (0 < x.length) = true := decide_eq_true (by omega)
      go_wp2_with fail
      refine (l01BelowL_any x.length p A n c w4 hm (by omega) (by omega) (HD4.out.bs HB.out HNE.out) HNE.out HD4.out.cur).mono ?_
      rintro e w5 ⟨⟨v5, ⟨j, rfl, hj⟩, rfl⟩, hc5, hg5⟩
      have HD5 := Lib.hid (HD4.out.go hp hc5 hg5)
      clear hc5 hg5 HD4
      have hpk := l01PickInt_any [40, 41, 91, 125, 34, 59, 39, 92, 32, 10, 9, 1, 127, 200] (some ⟨w5.heap.size, 0, none⟩) 14 14 p A n c (w5.alloc (.cells (nums [40, 41, 91, 125, 34, 59, 39, 92, 32, 10, 9, 1, 127, 200]).toArray 3)) hm rfl (by decide) (by decide) (((HD5.out.alloc hp _).bs HB.out HNE.out)) HNE.out (HD5.out.alloc hp _).cur (IS.of_blk (BlkL.new w5 3 (nums [40, 41, 91, 125, 34, 59, 39, 92, 32, 10, 9, 1, 127, 200]))) (fun b hb => by
        have h1 : w5.heap.size = b := by simpa using hb
        have h2 := HD5.out.grown.size
        omega)
      simp only [nums, List.map_cons, List.map_nil] at hpk
      have HPK := Lib.hid hpk
      clear hpk
      go_wp2_with fail
      refine HPK.out.mono ?_
      clear HPK
      rintro e w6 ⟨⟨v6, ⟨k, rfl, hk⟩, rfl⟩, hc6, hg6⟩
      have HD6 := Lib.hid ((HD5.out.alloc hp _).go hp hc6 hg6)
      have hk2 : 0 ≤ k ∧ k ≤ 255 := by
        simp only [List.mem_cons, List.not_mem_nil, or_false] at hk
        omega
      obtain ⟨kn, rfl⟩ := Int.eq_ofNat_of_zero_le hk2.1
      have hkn : kn < 256 := by omega
      obtain ⟨g, cap, y, hv, hcap, cy, fy, hset⟩ := HD6.out.set hp hj kn hkn
      injection hv with hv1 hv2 hv3
      subst hv1
      subst hv3
      have HDT := Lib.hid hset
      have hxl : (x.set j (UInt8.ofNat kn)).length = x.length := List.length_set
      clear hc6 hg6 HD5 hk hset
      go_wp2_with fail
      rw [← hxl] at HDT ⊢
      have hx3 : (x.set j (UInt8.ofNat kn)).length ≤ 17408 := by rw [hxl]; exact hx2
      clear hxl HD6 cy fy hcap hj hx0 hpos hk2 hkn hx2
      generalize x.set j (UInt8.ofNat kn) = x3 at *
      have hx2 := hx3
      generalize w6.setCell ⟨g, j, none⟩ (.int .u8 (kn : Int)) = w7 at *
      refine (l01Once_any 30 p A n c _ hm (by decide) (by decide) (HDT.out.bs HB.out HNE.out) HNE.out HDT.out.cur).mono ?_
      rintro e w5 ⟨⟨v5, ⟨q5, rfl⟩, rfl⟩, hc5, hg5⟩
      have HD5 := Lib.hid (HDT.out.go hp hc5 hg5)
      clear hc5 hg5 HDT
      cases q5
      · have hbk := backG HD5.out.own 22 9 Tryz.underlying22 Tryz.underlying5 Tryz.underlying9
        go_wp2_with fail
        go_ret
        exact ⟨⟨_, ⟨_, rfl, by show (List.toArray _).size ≤ 20000; simp only [List.size_toArray]; omega⟩, rfl⟩, HD5.out.cur, HD5.out.grown⟩
      · go_wp2_with fail
        refine (l01Below_any 3 p A n c _ hm (by decide) (by decide) (HD5.out.bs HB.out HNE.out) HNE.out HD5.out.cur).mono ?_
        rintro e w6 ⟨⟨v6, ⟨q6, rfl, hq6⟩, rfl⟩, hc6, hg6⟩
        have HD6 := Lib.hid (HD5.out.go hp hc6 hg6)
        have hq6' : q6 = 0 ∨ q6 = 1 ∨ q6 = 2 := by omega
        clear hc6 hg6 HD5 hq6
        rcases hq6' with rfl | rfl | rfl
        · go_wp2_with fail
          go_loopw [5] (fun bv wr => ∃ (y : List UInt8) (Ay : Option Addr) (cy : Nat), bv = .slice Ay y.length cy ∧ y.length ≤ 17408 ∧ Db w p A n c (.slice Ay y.length cy) y wr) (fun bv _ => 2002 - (match bv with | .slice _ k _ => k | _ => 0))
          case atStart => exact ⟨_, _, _, rfl, hx2, HD6.out⟩
          case round =>
            obtain ⟨y, Ay, cy, rfl, hy, hdb⟩ := hrel
            have HDW := Lib.hid hdb
            clear hdb HD6
            go_wp2_with fail
            refine (l01Below_any 2 p A n c _ hm (by decide) (by decide) (HDW.out.bs HB.out HNE.out) HNE.out HDW.out.cur).mono ?_
            rintro e w7 ⟨⟨v7, ⟨q7, rfl, hq7⟩, rfl⟩, hc7, hg7⟩
            have HD7 := Lib.hid (HDW.out.go hp hc7 hg7)
            clear hc7 hg7 HDW
            by_cases hlt : (y.length : Int) < 2000 + (q7 : Int)
            · have hltb : decide ((y.length : Int) < 2000 + (q7 : Int)) = true := decide_eq_true hlt
              have hgs := HD7.out.grown.size
              go_wp2_with (at_builtin; refine wpList_appG rfl _ _ 22 rfl w.heap.size 5 i0 (.int .u8 0) 1 Tryz.underlying22 hi0 hz0 hz1 hz2 rfl _ _ _ rfl (HD7.out.own.alloc _) ⟨_, 0, none⟩ 1 1 [.int .u8 32] rfl rfl (cell_one_new _ _ _) (by simp [Value.oneCell']) (by simp only [maxLen]; omega) (by omega) (by simp; omega) ?_)
              intro v' w9 hown9 hgr9
              have HD9 := Lib.hid (Db.app (y := [32]) hp HD7.out hown9 hgr9)
              have hx9 : (y ++ [32]).length = y.length + 1 := by simp
              obtain ⟨A9, c9, rfl⟩ := hown9.form
              clear hown9 hgr9 hgs
              go_wp2_with fail
              go_roundw
              case rel => exact ⟨y ++ [32], A9, c9, by rw [hx9], by omega, by rw [hx9]; exact HD9.out⟩
              case measure => simp; omega
            · have hltb : decide ((y.length : Int) < 2000 + (q7 : Int)) = false := decide_eq_false hlt
              have hbk := backG HD7.out.own 22 9 Tryz.underlying22 Tryz.underlying5 Tryz.underlying9
              go_wp2_with fail
              go_ret
              exact ⟨⟨_, ⟨_, rfl, by show (List.toArray _).size ≤ 20000; simp only [List.size_toArray]; omega⟩, rfl⟩, HD7.out.cur, HD7.out.grown⟩
        · go_wp2_with fail
          go_loopw [5, 6] (fun bv iv wr => ∃ (y : List UInt8) (Ay : Option Addr) (cy i : Nat), bv = .slice Ay y.length cy ∧ iv = .int .i64 i ∧ i ≤ 41 ∧ y.length ≤ 17408 + i ∧ Db w p A n c (.slice Ay y.length cy) y wr) (fun _ iv _ => 42 - (intOf iv).toNat)
          case atStart => exact ⟨_, _, _, 0, rfl, rfl, by omega, hx2, HD6.out⟩
          case round =>
            obtain ⟨y, Ay, cy, i, rfl, rfl, hi, hy, hdb⟩ := hrel
            have HDW := Lib.hid hdb
            clear hdb HD6
            go_wp2_with fail
            refine (l01Below_any 2 p A n c _ hm (by decide) (by decide) (HDW.out.bs HB.out HNE.out) HNE.out HDW.out.cur).mono ?_
            rintro e w7 ⟨⟨v7, ⟨q7, rfl, hq7⟩, rfl⟩, hc7, hg7⟩
            have HD7 := Lib.hid (HDW.out.go hp hc7 hg7)
            clear hc7 hg7 HDW
            by_cases hlt : (i : Int) < 40 + (q7 : Int)
            · have hltb : decide ((i : Int) < 40 + (q7 : Int)) = true := decide_eq_true hlt
              have hgs := HD7.out.grown.size
              go_wp2_with (at_builtin; refine wpList_appG rfl _ _ 22 rfl w.heap.size 5 i0 (.int .u8 0) 1 Tryz.underlying22 hi0 hz0 hz1 hz2 rfl _ _ _ rfl (HD7.out.own.alloc _) ⟨_, 0, none⟩ 1 1 [.int .u8 119] rfl rfl (cell_one_new _ _ _) (by simp [Value.oneCell']) (by simp only [maxLen]; omega) (by omega) (by simp; omega) ?_)
              intro v' w9 hown9 hgr9
              have HD9 := Lib.hid (Db.app (y := [119]) hp HD7.out hown9 hgr9)
              have hx9 : (y ++ [119]).length = y.length + 1 := by simp
              obtain ⟨A9, c9, rfl⟩ := hown9.form
              clear hown9 hgr9 hgs
              go_wp2_with fail
              go_roundw
              case rel => exact ⟨y ++ [119], A9, c9, i + 1, by rw [hx9], by go_num, by omega, by omega, by rw [hx9]; exact HD9.out⟩
              case measure => simp [intOf]; omega
            · have hltb : decide ((i : Int) < 40 + (q7 : Int)) = false := decide_eq_false hlt
              have hbk := backG HD7.out.own 22 9 Tryz.underlying22 Tryz.underlying5 Tryz.underlying9
              go_wp2_with fail
              go_ret
              exact ⟨⟨_, ⟨_, rfl, by show (List.toArray _).size ≤ 20000; simp only [List.size_toArray]; omega⟩, rfl⟩, HD7.out.cur, HD7.out.grown⟩
        · go_wp2_with fail
          go_loopw [5, 7] (fun bv iv wr => ∃ (y : List UInt8) (Ay : Option Addr) (cy i : Nat), bv = .slice Ay y.length cy ∧ iv = .int .i64 i ∧ i ≤ 201 ∧ y.length ≤ 2 * i ∧ Db w p A n c (.slice Ay y.length cy) y wr) (fun _ iv _ => 202 - (intOf iv).toNat)
          case atStart => exact ⟨[], none, 0, 0, rfl, rfl, by omega, Nat.le_refl _, ⟨RowG.nil _ _ _, HD6.out.cur, HD6.out.grown⟩⟩
          case round =>
            obtain ⟨y, Ay, cy, i, rfl, rfl, hi, hy, hdb⟩ := hrel
            have HDW := Lib.hid hdb
            clear hdb HD6
            go_wp2_with fail
            refine (l01Below_any 2 p A n c _ hm (by decide) (by decide) (HDW.out.bs HB.out HNE.out) HNE.out HDW.out.cur).mono ?_
            rintro e w7 ⟨⟨v7, ⟨q7, rfl, hq7⟩, rfl⟩, hc7, hg7⟩
            have HD7 := Lib.hid (HDW.out.go hp hc7 hg7)
            clear hc7 hg7 HDW
            by_cases hlt : (i : Int) < 200 + (q7 : Int)
            · have hltb : decide ((i : Int) < 200 + (q7 : Int)) = true := decide_eq_true hlt
              have hgs := HD7.out.grown.size
              go_wp2_with (at_builtin; refine wpList_appG rfl _ _ 22 rfl w.heap.size 5 i0 (.int .u8 0) 1 Tryz.underlying22 hi0 hz0 hz1 hz2 rfl _ _ _ rfl (HD7.out.own.alloc _) ⟨_, 0, none⟩ 2 2 [.int .u8 118, .int .u8 32] rfl rfl (cell_two_at _ _ _ _) (by simp [Value.oneCell']) (by simp only [maxLen]; omega) (by omega) (by simp; omega) ?_)
              intro v' w9 hown9 hgr9
              have HD9 := Lib.hid (Db.app (y := [118, 32]) hp HD7.out hown9 hgr9)
              have hx9 : (y ++ [118, 32]).length = y.length + 2 := by simp
              obtain ⟨A9, c9, rfl⟩ := hown9.form
              clear hown9 hgr9 hgs
              go_wp2_with fail
              go_roundw
              case rel => exact ⟨y ++ [118, 32], A9, c9, i + 1, by rw [hx9], by go_num, by omega, by omega, by rw [hx9]; exact HD9.out⟩
              case measure => simp [intOf]; omega
            · have hltb : decide ((i : Int) < 200 + (q7 : Int)) = false := decide_eq_false hlt
              have hbk := backG HD7.out.own 22 9 Tryz.underlying22 Tryz.underlying5 Tryz.underlying9
              go_wp2_with fail
              go_ret
              exact ⟨⟨_, ⟨_, rfl, by show (List.toArray _).size ≤ 20000; simp only [List.size_toArray]; omega⟩, rfl⟩, HD7.out.cur, HD7.out.grown⟩
end Go.Proofs.YthjkgbcomjiejaaGreatDoor
