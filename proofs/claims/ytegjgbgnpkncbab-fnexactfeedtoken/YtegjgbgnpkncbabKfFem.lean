/-
  The model's FeedToken.
-/
import Derived.Test.YtegjgbgnpkncbabKf45
import Derived.Test.YtegjgbgnpkncbabKf47
import Derived.Deep.CutBlock
namespace Go.Proofs.Ytegjgbgnpkncbab
open Go.RowKit
set_option linter.unusedVariables false
theorem OR.apart {w : World} {B C z : Nat} {ty : TypeId} {v u : Value} {l : List (Int × Int)} {n g : Nat} {xs : List Value} (h : OR fm 121 w B v l) (hl0 : l ≠ []) (ho : w.ownsRow C ty z u n xs) (hne : 121 ≠ ty) (hg : v.ownBlock = some g) : u.ownBlock ≠ some g := by
  rcases h with ⟨⟨A, c, rfl⟩, hl⟩ | ⟨g', c, rest, rfl, _, hk⟩
  · exact absurd hl hl0
  · injection hg with hg
    subst hg
    exact own_blk ho hk hne
theorem OR.ownB {A : Option Addr} {n c g : Nat} (h : A.map (·.block) = some g) : (Value.slice A n c).ownBlock = some g := by
  cases A with
  | none => cases h
  | some a => exact h
theorem setN_size : ∀ (vs : List Value) (w : World) (g p : Nat), w.heap.size ≤ (World.setN w g p vs).heap.size
  | [], _, _, _ => Nat.le_refl _
  | v :: vs, w, g, p => Nat.le_trans (by simp [World.setCell]) (setN_size vs (w.setCell ⟨g, p, none⟩ v) g (p + 1))
theorem OR.lo {α : Type} {f : α → List Value} {w : World} {B : Nat} {ty : TypeId} {v : Value} {l : List α} {g : Nat} (h : OR f ty w B v l) (hl0 : l ≠ []) (hg : v.ownBlock = some g) : B ≤ g := by
  rcases h with ⟨⟨A, c, rfl⟩, hl⟩ | ⟨g', c, rest, rfl, hB, hk⟩
  · exact absurd hl hl0
  · have : g' = g := Option.some.inj hg
    omega
/-- an engine whose rows, where there is anything in them, lie from B on. -/
def EngW (w : World) (B : Nat) (v : Value) (e : En) : Prop := ∃ A c A2 c2, v = ev e A c A2 c2 ∧ MS w A e.ms ∧ HS w A2 e.it ∧ (e.ms ≠ [] → ∀ g, A.map (·.block) = some g → B ≤ g) ∧ (e.it ≠ [] → ∀ g, A2.map (·.block) = some g → B ≤ g)
theorem EngO.w {w : World} {B : Nat} {v : Value} {e : En} (h : EngO w B v e) : EngW w B v e := by
  obtain ⟨A, c, A2, c2, rfl, a, b⟩ := h
  exact ⟨A, c, A2, c2, rfl, OR.rs fm_len a, OR.rs fh_len b, fun hne g hg => OR.lo a hne (OR.ownB hg), fun hne g hg => OR.lo b hne (OR.ownB hg)⟩
theorem EngW.r {w : World} {B : Nat} {v : Value} {e : En} (h : EngW w B v e) : EngR w v e := by
  obtain ⟨A, c, A2, c2, rfl, a, b, _⟩ := h
  exact ⟨A, c, A2, c2, rfl, a, b⟩
theorem EngW.below {w w' : World} {B : Nat} {v : Value} {e : En} (h : EngW w B v e) (hb : Below w.heap.size w w') : EngW w' B v e := by
  obtain ⟨A, c, A2, c2, rfl, a, b, d⟩ := h
  exact ⟨A, c, A2, c2, rfl, RS.below a hb, RS.below b hb, d⟩
theorem EngW.setN {w : World} {B g : Nat} {v : Value} {e : En} (h : EngW w B v e) (hg : g < B) (vs : List Value) (p : Nat) : EngR (World.setN w g p vs) v e := by
  obtain ⟨A, c, A2, c2, rfl, a, b, h1, h2⟩ := h
  refine ⟨A, c, A2, c2, rfl, ?_, ?_⟩
  · by_cases hn : e.ms = []
    · rw [hn]; exact RS.nil _ _
    · exact RS.keep a (setN_size _ _ _ _) (fun b' j hA _ => cell_setN (by have := h1 hn b' hA; omega) _ _ _ _)
  · by_cases hn : e.it = []
    · rw [hn]; exact RS.nil _ _
    · exact RS.keep b (setN_size _ _ _ _) (fun b' j hA _ => cell_setN (by have := h2 hn b' hA; omega) _ _ _ _)
def AnsW (w : World) (e : En) (t : ByteArray) (b : Bool) (r : Ending) (w' : World) : Prop := ∃ v, r = .returned (.tuple #[v, .string t, .bool b]) ∧ EngW w' w.heap.size v e ∧ Below w.heap.size w w'
theorem own_cp {w : World} {B z : Nat} {ty : TypeId} {a : Addr} {n c : Nat} {xs : List Value} (h : w.ownsRow B ty z (.slice (some a) n c) n xs) : n ≤ c := by
  rcases h.2 with ⟨h1, _⟩ | ⟨g', cap, cur, hv, hB, hh, h1, h2, h3, h4⟩
  · cases h1
  · injection hv with _ _ e2
    omega
theorem own_blkEx {w : World} {B z : Nat} {ty : TypeId} {g : Nat} {n c : Nat} {xs : List Value} (h : w.ownsRow B ty z (.slice (some ⟨g, 0, none⟩) n c) n xs) : ∃ cs, BlkL w g ty cs := by
  rcases h.2 with ⟨h1, _⟩ | ⟨g', cap, cur, hv, hB, hh, h1, h2, h3, h4⟩
  · cases h1
  · injection hv with e1 _ e2
    injection e1 with e1
    injection e1 with e1 _ _
    subst e1
    exact ⟨cur.toList, by unfold BlkL; simpa using hh⟩
theorem fedI_sts {e : En} {t : Tk} (h : EnOk e) (hl : 0 ≤ e.lev + t.opn ∧ e.lev + t.opn ≤ 12) (hw : 0 ≤ t.wid ∧ t.wid ≤ 40) {i : Nat} {x : Hd} (hx : (fedI e.tot (newH e.tot e.lev t) e.it)[i]? = some x) : 0 ≤ x.st ∧ x.st ≤ e.tot + t.wid := by
  unfold fedI at hx
  have ht := h.tot
  by_cases hi : i < (brk1 e.tot (newH e.tot e.lev t) e.it).length
  · rw [List.getElem?_append_left hi] at hx
    obtain ⟨y, hy, h1, _⟩ := brk1_at hx
    have := h.starts i y hy
    omega
  · rw [List.getElem?_append_right (by omega)] at hx
    obtain ⟨h1, h2⟩ := List.getElem?_eq_some_iff.1 hx
    simp at h1
    have e0 : x = newH e.tot e.lev t := by rw [← h2]; simp
    rw [e0]
    show 0 ≤ e.tot ∧ e.tot ≤ e.tot + t.wid
    omega
theorem brk1_no {e : En} {t : Tk} (h : t.brk = false) : brk1 e.tot (newH e.tot e.lev t) e.it = e.it := if_neg (by rw [show (newH e.tot e.lev t).t = t from rfl, h]; decide)
theorem brk1_all {e : En} {t : Tk} (h : t.brk = false → e.it.length = 0) : brk1 e.tot (newH e.tot e.lev t) e.it = mpF (endH e.tot (newH e.tot e.lev t).lv (decide (t.k = 4))) e.it e.it.length := by
  cases hb : t.brk
  · rw [brk1_no hb, List.eq_nil_of_length_eq_zero (h hb)]
    rfl
  · rw [mpF_all]
    exact if_pos hb
theorem fedB_true {e : En} {t : Tk} (h : fedB e t = true) : engB e = true ∧ scB e.tot e.lev t = true ∧ e.it.length ≠ 400 := by
  unfold fedB at h
  simp only [Bool.and_eq_true, decide_eq_true_eq] at h
  exact ⟨h.1, h.2.1, h.2.2⟩
set_option maxHeartbeats 4000000 in
set_option maxRecDepth 100000 in
theorem sFeedToken_any (e : En) (t : Tk) (v : Value) (w : World) (hm : e.ms.length ≤ 2097152) (hi : e.it.length ≤ 2097152) (hf : Fits (tks e.it)) (hts : t.s.size ≤ maxLen) (h : EngR w v e) :
    Calls Try.prog 25 #[v, .agg #[.int .i64 t.k, .string t.s, .int .i64 t.d, .int .i64 t.o]] w (AnsW w (fedE e t) (fedT e t) (fedB e t)) := by
  have HE := Lib.hid h
  obtain ⟨A, c, A2, c2, rfl, m1, i1⟩ := h
  have M1 := Lib.hid m1
  have I1 := Lib.hid i1
  have HF := Lib.hid hf
  clear m1 i1 hf
  unfold ev at *
  go_enter Try.func25, Try.ntmps25
  go_wp2_with fail
  have hX0 := BlkL.new w 47 (ecs e (.slice A e.ms.length c) (.slice A2 e.it.length c2))
  have hX1 := (hX0.alloc (.cells #[.int .i64 t.k, .string t.s, .int .i64 t.d, .int .i64 t.o] 51)).alloc (.cells (ecs ⟨0, 0, 0, [], [], 0, 0⟩ (.slice none 0 0) (.slice none 0 0)).toArray 47)
  have hT1 := (BlkL.new (w.alloc (.cells (ecs e (.slice A e.ms.length c) (.slice A2 e.it.length c2)).toArray 47)) 51 [.int .i64 t.k, .string t.s, .int .i64 t.d, .int .i64 t.o]).alloc (.cells (ecs ⟨0, 0, 0, [], [], 0, 0⟩ (.slice none 0 0) (.slice none 0 0)).toArray 47)
  change BlkL (((w.alloc (.cells (ecs e (.slice A e.ms.length c) (.slice A2 e.it.length c2)).toArray 47)).alloc (.cells #[.int .i64 t.k, .string t.s, .int .i64 t.d, .int .i64 t.o] 51)).alloc (.cells (ecs ⟨0, 0, 0, [], [], 0, 0⟩ (.slice none 0 0) (.slice none 0 0)).toArray 47)) _ _ _ at hT1
  rw [show (w.alloc (.cells (ecs e (.slice A e.ms.length c) (.slice A2 e.it.length c2)).toArray 47)).heap.size = w.heap.size + 1 by simp] at hT1
  have hY1 := BlkL.new ((w.alloc (.cells (ecs e (.slice A e.ms.length c) (.slice A2 e.it.length c2)).toArray 47)).alloc (.cells #[.int .i64 t.k, .string t.s, .int .i64 t.d, .int .i64 t.o] 51)) 47 (ecs ⟨0, 0, 0, [], [], 0, 0⟩ (.slice none 0 0) (.slice none 0 0))
  rw [show ((w.alloc (.cells (ecs e (.slice A e.ms.length c) (.slice A2 e.it.length c2)).toArray 47)).alloc (.cells #[.int .i64 t.k, .string t.s, .int .i64 t.d, .int .i64 t.o] 51)).heap.size = w.heap.size + 2 by simp] at hY1
  have hB1 := (((Below.refl w.heap.size w).alloc (Nat.le_refl _) (.cells (ecs e (.slice A e.ms.length c) (.slice A2 e.it.length c2)).toArray 47)).alloc (by simp) (.cells #[.int .i64 t.k, .string t.s, .int .i64 t.d, .int .i64 t.o] 51)).alloc (by simp; omega) (.cells (ecs ⟨0, 0, 0, [], [], 0, 0⟩ (.slice none 0 0) (.slice none 0 0)).toArray 47)
  change Code.wp _ _ _ _ (((w.alloc (.cells (ecs e (.slice A e.ms.length c) (.slice A2 e.it.length c2)).toArray 47)).alloc (.cells #[.int .i64 t.k, .string t.s, .int .i64 t.d, .int .i64 t.o] 51)).alloc (.cells (ecs ⟨0, 0, 0, [], [], 0, 0⟩ (.slice none 0 0) (.slice none 0 0)).toArray 47))
  change BlkL (((w.alloc (.cells (ecs e (.slice A e.ms.length c) (.slice A2 e.it.length c2)).toArray 47)).alloc (.cells #[.int .i64 t.k, .string t.s, .int .i64 t.d, .int .i64 t.o] 51)).alloc (.cells (ecs ⟨0, 0, 0, [], [], 0, 0⟩ (.slice none 0 0) (.slice none 0 0)).toArray 47)) _ _ _ at hX1
  generalize (((w.alloc (.cells (ecs e (.slice A e.ms.length c) (.slice A2 e.it.length c2)).toArray 47)).alloc (.cells #[.int .i64 t.k, .string t.s, .int .i64 t.d, .int .i64 t.o] 51)).alloc (.cells (ecs ⟨0, 0, 0, [], [], 0, 0⟩ (.slice none 0 0) (.slice none 0 0)).toArray 47)) = w1 at *
  clear hX0
  have x0 : w1.cell? ⟨w.heap.size, 0, none⟩ = some (.int .i64 e.W) := (hX1.cell 0).trans rfl
  have x1 : w1.cell? ⟨w.heap.size, 1, none⟩ = some (.int .i64 e.col) := (hX1.cell 1).trans rfl
  have x2 : w1.cell? ⟨w.heap.size, 2, none⟩ = some (.int .i64 e.pend) := (hX1.cell 2).trans rfl
  have x3 : w1.cell? ⟨w.heap.size, 3, none⟩ = some (.slice A e.ms.length c) := (hX1.cell 3).trans rfl
  have x4 : w1.cell? ⟨w.heap.size, 4, none⟩ = some (.slice A2 e.it.length c2) := (hX1.cell 4).trans rfl
  have x5 : w1.cell? ⟨w.heap.size, 5, none⟩ = some (.int .i64 e.tot) := (hX1.cell 5).trans rfl
  have x6 : w1.cell? ⟨w.heap.size, 6, none⟩ = some (.int .i64 e.lev) := (hX1.cell 6).trans rfl
  have xl := hX1.lt
  have t0 : w1.cell? ⟨w.heap.size + 1, 0, none⟩ = some (.int .i64 t.k) := (hT1.cell 0).trans rfl
  have t1 : w1.cell? ⟨w.heap.size + 1, 1, none⟩ = some (.string t.s) := (hT1.cell 1).trans rfl
  have t2 : w1.cell? ⟨w.heap.size + 1, 2, none⟩ = some (.int .i64 t.d) := (hT1.cell 2).trans rfl
  have t3 : w1.cell? ⟨w.heap.size + 1, 3, none⟩ = some (.int .i64 t.o) := (hT1.cell 3).trans rfl
  have tl := hT1.lt
  have HX1 := Lib.hid hX1
  have HY1 := Lib.hid hY1
  have HT1 := Lib.hid hT1
  have HB1 := Lib.hid hB1
  clear hX1 hY1 hT1 hB1
  go_cut [53] from 7 (fun s53 wc => s53 = .bool (!fedB e t) ∧ Below w1.heap.size w1 wc)
  case first =>
    have r0 := Bw.rd x0
    have r1 := Bw.rd x1
    have r2 := Bw.rd x2
    have r3 := Bw.rd x3
    have r4 := Bw.rd x4
    have r5 := Bw.rd x5
    have r6 := Bw.rd x6
    have y0 := Bw.rd t0
    have y1 := Bw.rd t1
    have y2 := Bw.rd t2
    have y3 := Bw.rd t3
    clear x0 x1 x2 x3 x4 x5 x6 xl t0 t1 t2 t3 tl
    have CT := Lib.hid (fun V => sTokenOk_any t.k t.s t.d t.o V hts)
    have CW := Lib.hid (fun V => sWidthOf_any t.k t.s t.d t.o V hts)
    refine wp_region_class (Bw w1) (by kernel_rfl) (by kernel_rfl) (Bw.start w1) (fun hne => ?_)
    repeat (go_big_quiet_step (fail))
    refine wpQuiet_step (fun K hK => ?_)
    go_simp
    refine ⟨.bool (engB e), fun x => calls_class x (Bw.keep w1) (sEngineOk_any e _ x.W (by unfold maxLen; omega) (by unfold maxLen; omega) HF.out (HE.out.below (HB1.out.trans (Below.mono x.ok HB1.out.size)))), hK _ ?_⟩
    clear hK K
    cases h1 : engB e
    · have HI := Lib.hid (show fedB e t = false by unfold fedB; rw [h1]; rfl)
      repeat (go_big_quiet_step (fail))
      refine wpQuiet_nil ?_
      rintro w3 ⟨x, rfl⟩
      have hx := Lib.hid x.ok
      generalize x.W = w3 at *
      clear r0 r1 r2 r3 r4 r5 r6 y0 y1 y2 y3
      go_wp2
      go_meet
      case rel => exact ⟨by rw [HI.out]; rfl, hx.out⟩
    have HEN := Lib.hid (engB_ok h1)
    have htot := HEN.out.tot
    have hlev := HEN.out.lev
    have HBAD := Lib.hid (show (scB e.tot e.lev t && decide (e.it.length ≠ 400)) = false → fedB e t = false from fun h => by unfold fedB; rw [h]; simp)
    repeat (go_big_quiet_step (fail))
    refine wpQuiet_step (fun K hK => ?_)
    go_simp
    refine ⟨.bool (tokB t.k t.s t.d t.o), Bw.call rfl CT.out, hK _ ?_⟩
    clear hK K
    cases h2 : tokB t.k t.s t.d t.o
    · have HI := Lib.hid (show fedB e t = false from HBAD.out (by simp [scB, Tk.ok, h2]))
      repeat (go_big_quiet_step (fail))
      refine wpQuiet_nil ?_
      rintro w3 ⟨x, rfl⟩
      have hx := Lib.hid x.ok
      generalize x.W = w3 at *
      clear r0 r1 r2 r3 r4 r5 r6 y0 y1 y2 y3
      go_wp2
      go_meet
      case rel => exact ⟨by rw [HI.out]; rfl, hx.out⟩
    have hwd := Tk.wid_bd h2
    have HGOOD := Lib.hid (show t.ok = true → (0 ≤ e.lev + t.opn ∧ e.lev + t.opn ≤ 12) → e.tot + t.wid ≤ 1000000 → ¬ e.it.length = 400 → fedB e t = true from fun a b c d => by unfold fedB scB; rw [h1, a, inB_true.2 b, decide_eq_true c, decide_eq_true d]; rfl)
    by_cases k3 : t.k = 3
    · have d3 : (t.k == 3) = true := by simp [k3]
      have d2 : (t.k == 2) = false := by simp [k3]
      have ho : t.opn = -1 := by unfold Tk.opn; rw [if_neg (by omega), if_pos k3]
      clear k3
      by_cases l0 : e.lev = 0
      · have dv : (e.lev == 0) = true := by simp [l0]
        have HI := Lib.hid (show fedB e t = false from HBAD.out (by rw [show scB e.tot e.lev t = false by unfold scB; rw [inB_false.2 (by omega)]; simp]; rfl))
        repeat (go_big_quiet_step (fail))
        refine wpQuiet_nil ?_
        rintro w3 ⟨x, rfl⟩
        have hx := Lib.hid x.ok
        generalize x.W = w3 at *
        clear r0 r1 r2 r3 r4 r5 r6 y0 y1 y2 y3
        go_wp2
        go_meet
        case rel => exact ⟨by rw [HI.out]; rfl, hx.out⟩
      · have dv : (e.lev == 0) = false := by simp [l0]
        by_cases hl : e.it.length = 400
        · have dl : ((e.it.length : Int) == 400) = true := by simp [hl]
          have HI := Lib.hid (show fedB e t = false from HBAD.out (by simp [hl]))
          repeat (go_big_quiet_step (fail))
          refine wpQuiet_nil ?_
          rintro w3 ⟨x, rfl⟩
          have hx := Lib.hid x.ok
          generalize x.W = w3 at *
          clear r0 r1 r2 r3 r4 r5 r6 y0 y1 y2 y3
          go_wp2
          go_meet
          case rel => exact ⟨by rw [HI.out]; rfl, hx.out⟩
        · have dl : ((e.it.length : Int) == 400) = false := by simp; omega
          repeat (go_big_quiet_step (fail))
          refine wpQuiet_step (fun K hK => ?_)
          go_simp
          refine ⟨.int .i64 t.wid, fun x => calls_class x (Bw.keep w1) (CW.out x.W), hK _ ?_⟩
          clear hK K
          by_cases hb : 1000000 < e.tot + t.wid
          · have db : decide (1000000 < e.tot + t.wid) = true := by simpa using hb
            have HI := Lib.hid (show fedB e t = false from HBAD.out (by rw [show scB e.tot e.lev t = false by unfold scB; rw [decide_eq_false (show ¬ (e.tot + t.wid ≤ 1000000) by omega)]; simp]; rfl))
            repeat (go_big_quiet_step (fail))
            refine wpQuiet_nil ?_
            rintro w3 ⟨x, rfl⟩
            have hx := Lib.hid x.ok
            generalize x.W = w3 at *
            clear r0 r1 r2 r3 r4 r5 r6 y0 y1 y2 y3
            go_wp2
            go_meet
            case rel => exact ⟨by rw [HI.out]; rfl, hx.out⟩
          · have db : decide (1000000 < e.tot + t.wid) = false := by simpa using hb
            have HI := Lib.hid (show fedB e t = true from HGOOD.out h2 (by omega) (by omega) hl)
            repeat (go_big_quiet_step (fail))
            refine wpQuiet_nil ?_
            rintro w3 ⟨x, rfl⟩
            have hx := Lib.hid x.ok
            generalize x.W = w3 at *
            clear r0 r1 r2 r3 r4 r5 r6 y0 y1 y2 y3
            go_wp2
            go_meet
            case rel => exact ⟨by rw [HI.out]; rfl, hx.out⟩
    · have d3 : (t.k == 3) = false := by simp [k3]
      by_cases k2 : t.k = 2
      · have d2 : (t.k == 2) = true := by simp [k2]
        have ho : t.opn = 1 := by unfold Tk.opn; rw [if_pos k2]
        clear k2
        by_cases l0 : e.lev = 12
        · have dv : (e.lev == 12) = true := by simp [l0]
          have HI := Lib.hid (show fedB e t = false from HBAD.out (by rw [show scB e.tot e.lev t = false by unfold scB; rw [inB_false.2 (by omega)]; simp]; rfl))
          repeat (go_big_quiet_step (fail))
          refine wpQuiet_nil ?_
          rintro w3 ⟨x, rfl⟩
          have hx := Lib.hid x.ok
          generalize x.W = w3 at *
          clear r0 r1 r2 r3 r4 r5 r6 y0 y1 y2 y3
          go_wp2
          go_meet
          case rel => exact ⟨by rw [HI.out]; rfl, hx.out⟩
        · have dv : (e.lev == 12) = false := by simp [l0]
          by_cases hl : e.it.length = 400
          · have dl : ((e.it.length : Int) == 400) = true := by simp [hl]
            have HI := Lib.hid (show fedB e t = false from HBAD.out (by simp [hl]))
            repeat (go_big_quiet_step (fail))
            refine wpQuiet_nil ?_
            rintro w3 ⟨x, rfl⟩
            have hx := Lib.hid x.ok
            generalize x.W = w3 at *
            clear r0 r1 r2 r3 r4 r5 r6 y0 y1 y2 y3
            go_wp2
            go_meet
            case rel => exact ⟨by rw [HI.out]; rfl, hx.out⟩
          · have dl : ((e.it.length : Int) == 400) = false := by simp; omega
            repeat (go_big_quiet_step (fail))
            refine wpQuiet_step (fun K hK => ?_)
            go_simp
            refine ⟨.int .i64 t.wid, fun x => calls_class x (Bw.keep w1) (CW.out x.W), hK _ ?_⟩
            clear hK K
            by_cases hb : 1000000 < e.tot + t.wid
            · have db : decide (1000000 < e.tot + t.wid) = true := by simpa using hb
              have HI := Lib.hid (show fedB e t = false from HBAD.out (by rw [show scB e.tot e.lev t = false by unfold scB; rw [decide_eq_false (show ¬ (e.tot + t.wid ≤ 1000000) by omega)]; simp]; rfl))
              repeat (go_big_quiet_step (fail))
              refine wpQuiet_nil ?_
              rintro w3 ⟨x, rfl⟩
              have hx := Lib.hid x.ok
              generalize x.W = w3 at *
              clear r0 r1 r2 r3 r4 r5 r6 y0 y1 y2 y3
              go_wp2
              go_meet
              case rel => exact ⟨by rw [HI.out]; rfl, hx.out⟩
            · have db : decide (1000000 < e.tot + t.wid) = false := by simpa using hb
              have HI := Lib.hid (show fedB e t = true from HGOOD.out h2 (by omega) (by omega) hl)
              repeat (go_big_quiet_step (fail))
              refine wpQuiet_nil ?_
              rintro w3 ⟨x, rfl⟩
              have hx := Lib.hid x.ok
              generalize x.W = w3 at *
              clear r0 r1 r2 r3 r4 r5 r6 y0 y1 y2 y3
              go_wp2
              go_meet
              case rel => exact ⟨by rw [HI.out]; rfl, hx.out⟩
      · have d2 : (t.k == 2) = false := by simp [k2]
        have ho : t.opn = 0 := by unfold Tk.opn; rw [if_neg k2, if_neg k3]
        by_cases hl : e.it.length = 400
        · have dl : ((e.it.length : Int) == 400) = true := by simp [hl]
          have HI := Lib.hid (show fedB e t = false from HBAD.out (by simp [hl]))
          repeat (go_big_quiet_step (fail))
          refine wpQuiet_nil ?_
          rintro w3 ⟨x, rfl⟩
          have hx := Lib.hid x.ok
          generalize x.W = w3 at *
          clear r0 r1 r2 r3 r4 r5 r6 y0 y1 y2 y3
          go_wp2
          go_meet
          case rel => exact ⟨by rw [HI.out]; rfl, hx.out⟩
        · have dl : ((e.it.length : Int) == 400) = false := by simp; omega
          repeat (go_big_quiet_step (fail))
          refine wpQuiet_step (fun K hK => ?_)
          go_simp
          refine ⟨.int .i64 t.wid, fun x => calls_class x (Bw.keep w1) (CW.out x.W), hK _ ?_⟩
          clear hK K
          by_cases hb : 1000000 < e.tot + t.wid
          · have db : decide (1000000 < e.tot + t.wid) = true := by simpa using hb
            have HI := Lib.hid (show fedB e t = false from HBAD.out (by rw [show scB e.tot e.lev t = false by unfold scB; rw [decide_eq_false (show ¬ (e.tot + t.wid ≤ 1000000) by omega)]; simp]; rfl))
            repeat (go_big_quiet_step (fail))
            refine wpQuiet_nil ?_
            rintro w3 ⟨x, rfl⟩
            have hx := Lib.hid x.ok
            generalize x.W = w3 at *
            clear r0 r1 r2 r3 r4 r5 r6 y0 y1 y2 y3
            go_wp2
            go_meet
            case rel => exact ⟨by rw [HI.out]; rfl, hx.out⟩
          · have db : decide (1000000 < e.tot + t.wid) = false := by simpa using hb
            have HI := Lib.hid (show fedB e t = true from HGOOD.out h2 (by omega) (by omega) hl)
            repeat (go_big_quiet_step (fail))
            refine wpQuiet_nil ?_
            rintro w3 ⟨x, rfl⟩
            have hx := Lib.hid x.ok
            generalize x.W = w3 at *
            clear r0 r1 r2 r3 r4 r5 r6 y0 y1 y2 y3
            go_wp2
            go_meet
            case rel => exact ⟨by rw [HI.out]; rfl, hx.out⟩
  case rest =>
    obtain ⟨rfl, hb2⟩ := hcut
    obtain ⟨w2, rfl⟩ : ∃ x, x = wc := ⟨_, rfl⟩
    have HX2 := Lib.hid (HX1.out.below hb2 HX1.out.lt)
    have HY2 := Lib.hid (HY1.out.below hb2 HY1.out.lt)
    have HT2 := Lib.hid (HT1.out.below hb2 HT1.out.lt)
    have HB2 := Lib.hid (HB1.out.trans (hb2.mono HB1.out.size))
    have hs1 := HB1.out.size
    have hyl := HY1.out.lt
    have hs2 := hb2.size
    clear x0 x1 x2 x3 x4 x5 x6 xl
    clear t0 t1 t2 t3 tl
    clear hb2 HX1 HY1 HT1 HB1
    have x0 : w2.cell? ⟨w.heap.size, 0, none⟩ = some (.int .i64 e.W) := (HX2.out.cell 0).trans rfl
    have x1 : w2.cell? ⟨w.heap.size, 1, none⟩ = some (.int .i64 e.col) := (HX2.out.cell 1).trans rfl
    have x2 : w2.cell? ⟨w.heap.size, 2, none⟩ = some (.int .i64 e.pend) := (HX2.out.cell 2).trans rfl
    have x3 : w2.cell? ⟨w.heap.size, 3, none⟩ = some (.slice A e.ms.length c) := (HX2.out.cell 3).trans rfl
    have x4 : w2.cell? ⟨w.heap.size, 4, none⟩ = some (.slice A2 e.it.length c2) := (HX2.out.cell 4).trans rfl
    have x5 : w2.cell? ⟨w.heap.size, 5, none⟩ = some (.int .i64 e.tot) := (HX2.out.cell 5).trans rfl
    have x6 : w2.cell? ⟨w.heap.size, 6, none⟩ = some (.int .i64 e.lev) := (HX2.out.cell 6).trans rfl
    have xl := HX2.out.lt
    have t0 : w2.cell? ⟨w.heap.size + 1, 0, none⟩ = some (.int .i64 t.k) := (HT2.out.cell 0).trans rfl
    have t1 : w2.cell? ⟨w.heap.size + 1, 1, none⟩ = some (.string t.s) := (HT2.out.cell 1).trans rfl
    have t2 : w2.cell? ⟨w.heap.size + 1, 2, none⟩ = some (.int .i64 t.d) := (HT2.out.cell 2).trans rfl
    have t3 : w2.cell? ⟨w.heap.size + 1, 3, none⟩ = some (.int .i64 t.o) := (HT2.out.cell 3).trans rfl
    have tl := HT2.out.lt
    cases hF : fedB e t
    · have HBN := Lib.hid hF
      clear hF
      have HT := Lib.hid (show fedT e t = ByteArray.empty from if_neg (by rw [HBN.out]; decide))
      have HEE := Lib.hid (show fedE e t = e from if_neg (by rw [HBN.out]; decide))
      go_wp2_with fail
      clear x0 x1 x2 x3 x4 x5 x6 xl
      clear t0 t1 t2 t3 tl
      refine (l05Copy_any e A c A2 c2 w2 hm hi (RS.below M1.out HB2.out) (RS.below I1.out HB2.out)).mono ?_
      rintro r w4 ⟨A3, c3, A4, c4, rfl, hom, hoi, hcap, hb4⟩
      have HOM4 := Lib.hid (hom.lowB (show w.heap.size ≤ w2.heap.size by omega))
      have HOI4 := Lib.hid (hoi.lowB (show w.heap.size ≤ w2.heap.size by omega))
      have HY4 := Lib.hid (HY2.out.below hb4 HY2.out.lt)
      have HB4 := Lib.hid (HB2.out.trans (hb4.mono HB2.out.size))
      clear hom hoi hcap hb4
      have y0 : w4.cell? ⟨w.heap.size + 2, 0, none⟩ = some (.int .i64 0) := (HY4.out.cell 0).trans rfl
      have y1 : w4.cell? ⟨w.heap.size + 2, 1, none⟩ = some (.int .i64 0) := (HY4.out.cell 1).trans rfl
      have y2 : w4.cell? ⟨w.heap.size + 2, 2, none⟩ = some (.int .i64 0) := (HY4.out.cell 2).trans rfl
      have y3 : w4.cell? ⟨w.heap.size + 2, 3, none⟩ = some (.slice none 0 0) := (HY4.out.cell 3).trans rfl
      have y4 : w4.cell? ⟨w.heap.size + 2, 4, none⟩ = some (.slice none 0 0) := (HY4.out.cell 4).trans rfl
      have y5 : w4.cell? ⟨w.heap.size + 2, 5, none⟩ = some (.int .i64 0) := (HY4.out.cell 5).trans rfl
      have y6 : w4.cell? ⟨w.heap.size + 2, 6, none⟩ = some (.int .i64 0) := (HY4.out.cell 6).trans rfl
      have yf := HY4.out.frozen
      have yl := HY4.out.lt
      unfold ev
      go_wp2
      clear y0 y1 y2 y3 y4 y5 y6 yf yl
      have hO9 := EngO.setN HY4.out (by decide) (by decide) [.int .i64 e.W, .int .i64 e.col, .int .i64 e.pend, .slice A3 e.ms.length c3, .slice A4 e.it.length c4, .int .i64 e.tot, .int .i64 e.lev] 0 (show EngO w4 w.heap.size (ev e A3 c3 A4 c4) e from ⟨A3, c3, A4, c4, rfl, HOM4.out, HOI4.out⟩)
      have hB9 := below_setN (B := w.heap.size) (a := w) (g := w.heap.size + 2) (by omega) [.int .i64 e.W, .int .i64 e.col, .int .i64 e.pend, .slice A3 e.ms.length c3, .slice A4 e.it.length c4, .int .i64 e.tot, .int .i64 e.lev] _ 0 HB4.out
      have hY9 := BlkL.setN [.int .i64 e.W, .int .i64 e.col, .int .i64 e.pend, .slice A3 e.ms.length c3, .slice A4 e.it.length c4, .int .i64 e.tot, .int .i64 e.lev] _ _ 0 HY4.out
      change bodyPost _ _ _ _ _ (World.setN w4 (w.heap.size + 2) 0 [.int .i64 e.W, .int .i64 e.col, .int .i64 e.pend, .slice A3 e.ms.length c3, .slice A4 e.it.length c4, .int .i64 e.tot, .int .i64 e.lev])
      generalize World.setN w4 (w.heap.size + 2) 0 [.int .i64 e.W, .int .i64 e.col, .int .i64 e.pend, .slice A3 e.ms.length c3, .slice A4 e.it.length c4, .int .i64 e.tot, .int .i64 e.lev] = w9 at *
      have k0 : w9.cell? ⟨w.heap.size + 2, 0, none⟩ = some (.int .i64 e.W) := (hY9.cell 0).trans rfl
      have k1 : w9.cell? ⟨w.heap.size + 2, 1, none⟩ = some (.int .i64 e.col) := (hY9.cell 1).trans rfl
      have k2 : w9.cell? ⟨w.heap.size + 2, 2, none⟩ = some (.int .i64 e.pend) := (hY9.cell 2).trans rfl
      have k3 : w9.cell? ⟨w.heap.size + 2, 3, none⟩ = some (.slice A3 e.ms.length c3) := (hY9.cell 3).trans rfl
      have k4 : w9.cell? ⟨w.heap.size + 2, 4, none⟩ = some (.slice A4 e.it.length c4) := (hY9.cell 4).trans rfl
      have k5 : w9.cell? ⟨w.heap.size + 2, 5, none⟩ = some (.int .i64 e.tot) := (hY9.cell 5).trans rfl
      have k6 : w9.cell? ⟨w.heap.size + 2, 6, none⟩ = some (.int .i64 e.lev) := (hY9.cell 6).trans rfl
      refine bodyPost_ret (v := .tuple #[ev e A3 c3 A4 c4, .string ByteArray.empty, .bool false]) (by simp [results, Try.results25, go_sem, k0, k1, k2, k3, k4, k5, k6, ev] <;> rfl) rfl ⟨ev e A3 c3 A4 c4, ?_, ?_, hB9⟩
      · rw [HT.out, HBN.out]
      · rw [HEE.out]; exact hO9.w
    have HBN := Lib.hid hF
    clear hF
    have HFT := Lib.hid (show fedT e t = ⟨(fedF e t).1.out.toArray⟩ from if_pos HBN.out)
    have HEE := Lib.hid (show fedE e t = ⟨e.W, (fedF e t).1.col, (fedF e t).1.pend, (fedF e t).1.ms, (fedF e t).2, e.tot + t.wid, e.lev + t.opn⟩ from if_pos HBN.out)
    have HQ := Lib.hid (fedB_true HBN.out)
    have HEN := Lib.hid (engB_ok HQ.out.1)
    have htot := HEN.out.tot
    have hlev := HEN.out.lev
    have hwd := Tk.wid_bd (scB_true HQ.out.2.1).1
    have HNE := Lib.hid (show e.ms ≠ [] from fun e0 => by have := HEN.out.nms.1; rw [e0] at this; simp at this)
    go_wp2_with fail
    clear x0 x1 x2 x3 x4 x5 x6 xl
    clear t0 t1 t2 t3 tl
    refine (l05Copy_own e A c A2 c2 w2 hm hi (RS.below M1.out HB2.out) (RS.below I1.out HB2.out)).mono ?_
    rintro r w3 ⟨A3, c3, A4, c4, rfl, hom, hoi, hcap, hb3⟩
    have HOM3 := Lib.hid (OR.of_own fm_len rfl hom)
    have HOI3 := Lib.hid hoi
    have HX3 := Lib.hid (HX2.out.below hb3 HX2.out.lt)
    have HT3 := Lib.hid (HT2.out.below hb3 HT2.out.lt)
    have HY3 := Lib.hid (HY2.out.below hb3 HY2.out.lt)
    have HB3 := Lib.hid (HB2.out.trans (hb3.mono HB2.out.size))
    have hs3 := hb3.size
    clear hom hoi hcap hb3 HX2 HY2 HT2
    unfold ev
    have x0 : w3.cell? ⟨w.heap.size, 0, none⟩ = some (.int .i64 e.W) := (HX3.out.cell 0).trans rfl
    have x1 : w3.cell? ⟨w.heap.size, 1, none⟩ = some (.int .i64 e.col) := (HX3.out.cell 1).trans rfl
    have x2 : w3.cell? ⟨w.heap.size, 2, none⟩ = some (.int .i64 e.pend) := (HX3.out.cell 2).trans rfl
    have x3 : w3.cell? ⟨w.heap.size, 3, none⟩ = some (.slice A e.ms.length c) := (HX3.out.cell 3).trans rfl
    have x4 : w3.cell? ⟨w.heap.size, 4, none⟩ = some (.slice A2 e.it.length c2) := (HX3.out.cell 4).trans rfl
    have x5 : w3.cell? ⟨w.heap.size, 5, none⟩ = some (.int .i64 e.tot) := (HX3.out.cell 5).trans rfl
    have x6 : w3.cell? ⟨w.heap.size, 6, none⟩ = some (.int .i64 e.lev) := (HX3.out.cell 6).trans rfl
    have xl := HX3.out.lt
    have t0 : w3.cell? ⟨w.heap.size + 1, 0, none⟩ = some (.int .i64 t.k) := (HT3.out.cell 0).trans rfl
    have t1 : w3.cell? ⟨w.heap.size + 1, 1, none⟩ = some (.string t.s) := (HT3.out.cell 1).trans rfl
    have t2 : w3.cell? ⟨w.heap.size + 1, 2, none⟩ = some (.int .i64 t.d) := (HT3.out.cell 2).trans rfl
    have t3 : w3.cell? ⟨w.heap.size + 1, 3, none⟩ = some (.int .i64 t.o) := (HT3.out.cell 3).trans rfl
    have tl := HT3.out.lt
    go_wp2_with fail
    clear x0 x1 x2 x3 x4 x5 x6 xl
    clear t0 t1 t2 t3 tl
    have hZ4 := BlkL.new w3 47 [.int .i64 e.W, .int .i64 e.col, .int .i64 e.pend, .slice A3 e.ms.length c3, .slice A4 e.it.length c4, .int .i64 e.tot, .int .i64 e.lev]
    have hbA := (Below.refl w3.heap.size w3).alloc (Nat.le_refl _) (.cells ([.int .i64 e.W, .int .i64 e.col, .int .i64 e.pend, .slice A3 e.ms.length c3, .slice A4 e.it.length c4, .int .i64 e.tot, .int .i64 e.lev] : List Value).toArray 47)
    change Calls _ _ _ (w3.alloc (.cells ([.int .i64 e.W, .int .i64 e.col, .int .i64 e.pend, .slice A3 e.ms.length c3, .slice A4 e.it.length c4, .int .i64 e.tot, .int .i64 e.lev] : List Value).toArray 47)) _
    generalize w3.alloc (.cells ([.int .i64 e.W, .int .i64 e.col, .int .i64 e.pend, .slice A3 e.ms.length c3, .slice A4 e.it.length c4, .int .i64 e.tot, .int .i64 e.lev] : List Value).toArray 47) = w4 at *
    refine (sWidthOf_any t.k t.s t.d t.o w4 hts).mono ?_
    rintro r w5 ⟨rfl, hb5⟩
    rw [show widB t.k t.s t.d t.o = t.wid from rfl]
    have HZ5 := Lib.hid (hZ4.below hb5 hZ4.lt)
    have HB35 := Lib.hid (hbA.trans (hb5.mono hbA.size))
    have HT5 := Lib.hid (HT3.out.below HB35.out HT3.out.lt)
    clear hZ4 hbA hb5 HX3
    have z0 : w5.cell? ⟨w3.heap.size, 0, none⟩ = some (.int .i64 e.W) := (HZ5.out.cell 0).trans rfl
    have z1 : w5.cell? ⟨w3.heap.size, 1, none⟩ = some (.int .i64 e.col) := (HZ5.out.cell 1).trans rfl
    have z2 : w5.cell? ⟨w3.heap.size, 2, none⟩ = some (.int .i64 e.pend) := (HZ5.out.cell 2).trans rfl
    have z3 : w5.cell? ⟨w3.heap.size, 3, none⟩ = some (.slice A3 e.ms.length c3) := (HZ5.out.cell 3).trans rfl
    have z4 : w5.cell? ⟨w3.heap.size, 4, none⟩ = some (.slice A4 e.it.length c4) := (HZ5.out.cell 4).trans rfl
    have z5 : w5.cell? ⟨w3.heap.size, 5, none⟩ = some (.int .i64 e.tot) := (HZ5.out.cell 5).trans rfl
    have z6 : w5.cell? ⟨w3.heap.size, 6, none⟩ = some (.int .i64 e.lev) := (HZ5.out.cell 6).trans rfl
    have zf := HZ5.out.frozen
    have zl := HZ5.out.lt
    have t0 : w5.cell? ⟨w.heap.size + 1, 0, none⟩ = some (.int .i64 t.k) := (HT5.out.cell 0).trans rfl
    have t1 : w5.cell? ⟨w.heap.size + 1, 1, none⟩ = some (.string t.s) := (HT5.out.cell 1).trans rfl
    have t2 : w5.cell? ⟨w.heap.size + 1, 2, none⟩ = some (.int .i64 t.d) := (HT5.out.cell 2).trans rfl
    have t3 : w5.cell? ⟨w.heap.size + 1, 3, none⟩ = some (.int .i64 t.o) := (HT5.out.cell 3).trans rfl
    have tl := HT5.out.lt
    go_upto_block 0 with fail
    go_cut [8, 9] from 10 (fun a b wd => a = .int .i64 (newH e.tot e.lev t).lv ∧ b = .int .i64 (newH e.tot e.lev t).sz ∧ BlkL wd w3.heap.size 47 [.int .i64 e.W, .int .i64 e.col, .int .i64 e.pend, .slice A3 e.ms.length c3, .slice A4 e.it.length c4, .int .i64 e.tot, .int .i64 (e.lev + t.opn)] ∧ Below w3.heap.size w3 wd)
    case first =>
      by_cases k3 : t.k = 3
      · have d3 : (t.k == 3) = true := by simp [k3]
        have HLV := Lib.hid (show (newH e.tot e.lev t).lv = e.lev - 1 from if_pos k3)
        have HSZ := Lib.hid (show (newH e.tot e.lev t).sz = t.wid from if_neg (by omega))
        have HLO := Lib.hid (show e.lev + t.opn = e.lev - 1 by unfold Tk.opn; rw [if_neg (by omega), if_pos k3]; omega)
        clear k3
        go_wp2
        go_meet
        case rel => exact ⟨by rw [HLV.out], by rw [HSZ.out], by rw [HLO.out]; exact HZ5.out.set 6 (.int .i64 (e.lev - 1)), HB35.out.setCell (p := ⟨w3.heap.size, 6, none⟩) (Nat.le_refl _) _⟩
      · have d3 : (t.k == 3) = false := by simp [k3]
        have HLV := Lib.hid (show (newH e.tot e.lev t).lv = e.lev from if_neg k3)
        by_cases k2 : t.k = 2
        · have d2 : (t.k == 2) = true := by simp [k2]
          have HSZ := Lib.hid (show (newH e.tot e.lev t).sz = -1 from if_pos (by omega))
          have HLO := Lib.hid (show e.lev + t.opn = e.lev + 1 by unfold Tk.opn; rw [if_pos k2])
          clear k2 k3
          go_wp2
          go_meet
          case rel => exact ⟨by rw [HLV.out], by rw [HSZ.out], by rw [HLO.out]; exact HZ5.out.set 6 (.int .i64 (e.lev + 1)), HB35.out.setCell (p := ⟨w3.heap.size, 6, none⟩) (Nat.le_refl _) _⟩
        · have d2 : (t.k == 2) = false := by simp [k2]
          have HLO := Lib.hid (show e.lev + t.opn = e.lev by unfold Tk.opn; rw [if_neg k2, if_neg k3]; omega)
          by_cases k1 : t.k = 1
          · have d1 : (t.k == 1) = true := by simp [k1]
            have HSZ := Lib.hid (show (newH e.tot e.lev t).sz = -1 from if_pos (by omega))
            clear k1 k2 k3
            go_wp2
            go_meet
            case rel => exact ⟨by rw [HLV.out], by rw [HSZ.out], by rw [HLO.out]; exact HZ5.out, HB35.out⟩
          · have d1 : (t.k == 1) = false := by simp [k1]
            have HSZ := Lib.hid (show (newH e.tot e.lev t).sz = t.wid from if_neg (by omega))
            clear k1 k2 k3
            go_wp2
            go_meet
            case rel => exact ⟨by rw [HLV.out], by rw [HSZ.out], by rw [HLO.out]; exact HZ5.out, HB35.out⟩
    case rest =>
      obtain ⟨rfl, rfl, hz6, hb6⟩ := hcut
      obtain ⟨w6, rfl⟩ : ∃ x, x = wc := ⟨_, rfl⟩
      clear z0 z1 z2 z3 z4 z5 z6 zl zf
      clear t0 t1 t2 t3 tl
      have HZ6 := Lib.hid hz6
      have HM6 := Lib.hid (HOM3.out.below hb6)
      have HI6 := Lib.hid (own_keep HOI3.out hb6)
      have HY6 := Lib.hid (HY3.out.below hb6 HY3.out.lt)
      have HT6 := Lib.hid (HT3.out.below hb6 HT3.out.lt)
      have HB6 := Lib.hid (HB3.out.trans (hb6.mono HB3.out.size))
      clear hz6 hb6 HOM3 HOI3 HY3 HT3 HB3 HZ5 HB35 HT5
      go_upto_block 1 with fail
      go_cut [10] from 11 (fun i9 wd => BlkL wd w3.heap.size 47 [.int .i64 e.W, .int .i64 e.col, .int .i64 e.pend, .slice A3 e.ms.length c3, .slice A4 e.it.length c4, .int .i64 e.tot, .int .i64 (e.lev + t.opn)] ∧ OR fm 121 wd w2.heap.size (.slice A3 e.ms.length c3) e.ms ∧ wd.ownsRow w2.heap.size 80 7 (.slice A4 e.it.length c4) e.it.length (fl fh (brk1 e.tot (newH e.tot e.lev t) e.it)) ∧ BlkL wd (w.heap.size + 2) 47 (ecs ⟨0, 0, 0, [], [], 0, 0⟩ (.slice none 0 0) (.slice none 0 0)) ∧ BlkL wd (w.heap.size + 1) 51 [.int .i64 t.k, .string t.s, .int .i64 t.d, .int .i64 t.o] ∧ Below w.heap.size w wd)
      case first =>
        go_wp2_with fail
        go_loopw [10] (fun i wr => ∃ (k : Nat), k ≤ e.it.length ∧ i = .int .i64 k ∧ (t.brk = false → k = 0) ∧ BlkL wr w3.heap.size 47 [.int .i64 e.W, .int .i64 e.col, .int .i64 e.pend, .slice A3 e.ms.length c3, .slice A4 e.it.length c4, .int .i64 e.tot, .int .i64 (e.lev + t.opn)] ∧ OR fm 121 wr w2.heap.size (.slice A3 e.ms.length c3) e.ms ∧ wr.ownsRow w2.heap.size 80 7 (.slice A4 e.it.length c4) e.it.length (fl fh (mpF (endH e.tot (newH e.tot e.lev t).lv (decide (t.k = 4))) e.it k)) ∧ BlkL wr (w.heap.size + 2) 47 (ecs ⟨0, 0, 0, [], [], 0, 0⟩ (.slice none 0 0) (.slice none 0 0)) ∧ BlkL wr (w.heap.size + 1) 51 [.int .i64 t.k, .string t.s, .int .i64 t.d, .int .i64 t.o] ∧ Below w.heap.size w wr) (fun i _ => e.it.length - (intOf i).toNat)
        case atStart => exact ⟨0, Nat.zero_le _, rfl, fun _ => rfl, HZ6.out, HM6.out, by rw [mpF_zero]; exact HI6.out, HY6.out, HT6.out, HB6.out⟩
        case round =>
          clear HZ6 HM6 HI6 HY6 HT6 HB6
          obtain ⟨k, hk, rfl, hk0, hZ, hM, hI, hY, hT, hb⟩ := hrel
          have HK0 := Lib.hid hk0
          have HZ := Lib.hid hZ
          have HM := Lib.hid hM
          have HI := Lib.hid hI
          have HY := Lib.hid hY
          have HT := Lib.hid hT
          have HB := Lib.hid hb
          clear hk0 hZ hM hI hY hT hb
          have z4 : wr.cell? ⟨w3.heap.size, 4, none⟩ = some (.slice A4 e.it.length c4) := (HZ.out.cell 4).trans rfl
          have zl := HZ.out.lt
          have t0 : wr.cell? ⟨w.heap.size + 1, 0, none⟩ = some (.int .i64 t.k) := (HT.out.cell 0).trans rfl
          have t1 : wr.cell? ⟨w.heap.size + 1, 1, none⟩ = some (.string t.s) := (HT.out.cell 1).trans rfl
          have t2 : wr.cell? ⟨w.heap.size + 1, 2, none⟩ = some (.int .i64 t.d) := (HT.out.cell 2).trans rfl
          have t3 : wr.cell? ⟨w.heap.size + 1, 3, none⟩ = some (.int .i64 t.o) := (HT.out.cell 3).trans rfl
          have tl := HT.out.lt
          by_cases hkl : k < e.it.length
          · go_wp2_with fail
            refine (sIsBreak_any t.k t.s t.d t.o wr hts).mono ?_
            rintro r w7 ⟨rfl, hb7⟩
            have HZ7 := Lib.hid (HZ.out.below hb7 HZ.out.lt)
            have HM7 := Lib.hid (HM.out.below hb7)
            have HI7 := Lib.hid (own_keep HI.out hb7)
            have HY7 := Lib.hid (HY.out.below hb7 HY.out.lt)
            have HT7 := Lib.hid (HT.out.below hb7 HT.out.lt)
            have HB7 := Lib.hid (HB.out.trans (hb7.mono HB.out.size))
            have hz7 := HB7.out.size
            clear hb7 HZ HM HI HY HT HB z4 zl t0 t1 t2 t3 tl
            rw [show brkB t.k t.s t.d t.o = t.brk from rfl]
            cases hbk : t.brk
            · have HBK := Lib.hid hbk
              clear hbk
              go_wp2
              go_meet
              case rel => exact ⟨HZ7.out, HM7.out, by have hi9 := HI7.out; rw [HK0.out HBK.out, mpF_zero] at hi9; rw [brk1_no HBK.out]; exact hi9, HY7.out, HT7.out, HB7.out⟩
            · have HBK := Lib.hid hbk
              clear hbk HK0
              obtain ⟨h, b, o, hh, hA, hbl, hsev⟩ := HS.sev (show HS w7 A4 _ from OR.rs fh_len (OR.of_own fh_len (mpF_length _ _ _) HI7.out)) (k := k) (by rw [mpF_length]; exact hkl)
              have hik := List.getElem?_eq_getElem hkl
              rw [mpF_at hik] at hh
              injection hh with hh
              have hlk : e.it[k]? = some h := hik.trans (congrArg some hh)
              have hst := HEN.out.starts k h hlk
              obtain ⟨g, cg, hv⟩ := Joins.ownsRow_form HI7.out (show 0 < e.it.length by omega)
              injection hv with hv1 _ hv2
              rw [hv1] at hA
              injection hA with hA
              injection hA with e1 e2
              subst e1 e2 hv1
              simp only [Nat.zero_add] at hsev
              have f4 := hsev.2.2.2.2.1
              have f5 := hsev.2.2.2.2.2.1
              have f6 := hsev.2.2.2.2.2.2
              have ff := (own_put HI7.out (k * 7 + 6) (.int .i64 0)).2
              have z4 : w7.cell? ⟨w3.heap.size, 4, none⟩ = some (.slice (some ⟨g, 0, none⟩) e.it.length c4) := (HZ7.out.cell 4).trans rfl
              have z5 : w7.cell? ⟨w3.heap.size, 5, none⟩ = some (.int .i64 e.tot) := (HZ7.out.cell 5).trans rfl
              have zl := HZ7.out.lt
              have t0 : w7.cell? ⟨w.heap.size + 1, 0, none⟩ = some (.int .i64 t.k) := (HT7.out.cell 0).trans rfl
              have t1 : w7.cell? ⟨w.heap.size + 1, 1, none⟩ = some (.string t.s) := (HT7.out.cell 1).trans rfl
              have t2 : w7.cell? ⟨w.heap.size + 1, 2, none⟩ = some (.int .i64 t.d) := (HT7.out.cell 2).trans rfl
              have t3 : w7.cell? ⟨w.heap.size + 1, 3, none⟩ = some (.int .i64 t.o) := (HT7.out.cell 3).trans rfl
              have tl := HT7.out.lt
              have HLK := Lib.hid hlk
              clear hsev hik hlk hh
              by_cases hsz6 : h.sz = -1
              · have d6 : (h.sz != -1) = false := by simp [hsz6]
                have HS6 := Lib.hid hsz6
                clear hsz6
                by_cases hlvl : (newH e.tot e.lev t).lv ≤ h.lv
                · have d7 : decide ((newH e.tot e.lev t).lv ≤ h.lv) = true := by simpa using hlvl
                  have HL7 := Lib.hid hlvl
                  clear hlvl
                  go_wp2_with fail
                  refine wp_region_tail 14 (fun w' => ∃ m, w' = w7.drewN m) (by kernel_rfl) (by kernel_rfl) ⟨1, rfl⟩ ?_
                  simp only [List.take_succ_cons, List.take_zero, List.drop_succ_cons, List.drop_zero]
                  repeat (go_big_quiet_step (fail))
                  refine wpQuiet_nil ?_
                  rintro w8 ⟨m, rfl⟩
                  go_wp2_with fail
                  go_roundw
                  case rel =>
                    have hI8 := own_size (own_drewN HI7.out m) (mpF_at HLK.out) (e.tot - h.st)
                    have hg8 : (w7.drewN m).grownBy ((w7.drewN m).setCell ⟨g, k * 7 + 6, none⟩ (.int .i64 (e.tot - h.st))) (some g) := grown_self_set (World.grownBy.refl _ _) _ _
                    rw [show ({ h with sz := e.tot - h.st } : Hd) = (endH e.tot (newH e.tot e.lev t).lv (decide (t.k = 4))) h from by unfold endH; rw [if_pos HS6.out, if_pos HL7.out], mpF_set HLK.out] at hI8
                    have hnm : ∀ g', (Value.slice A3 e.ms.length c3).ownBlock = some g' → some g' ≠ some g := fun g' hg' e' => OR.apart HM7.out HNE.out HI7.out (by decide) hg' e'.symm
                    exact ⟨k + 1, by omega, by go_num, (fun hx => by rw [HBK.out] at hx; cases hx), BlkL.grown (HZ7.out.drewN m) hg8 (fun e' => own_blk HI7.out HZ7.out (by decide) e'.symm), OR.keep (w := (w7.drewN m)) HM7.out hg8 hnm, hI8, BlkL.grown (HY7.out.drewN m) hg8 (fun e' => own_blk HI7.out HY7.out (by decide) e'.symm), BlkL.grown (HT7.out.drewN m) hg8 (fun e' => own_blk HI7.out HT7.out (by decide) e'.symm), Below.trans HB7.out ⟨hg8.os, hg8.tape, hg8.output, hg8.size, fun i hi' => hg8.block i (by show i < w7.heap.size; omega) (fun e' => by have := (HI7.out.lt g rfl).1; injection e' with e'; omega)⟩⟩
                  case measure => simp [intOf]; omega
                · have d7 : decide ((newH e.tot e.lev t).lv ≤ h.lv) = false := by simpa using hlvl
                  have HL7 := Lib.hid hlvl
                  clear hlvl
                  by_cases k4 : t.k = 4
                  · have d4 : (t.k == 4) = true := by simp [k4]
                    have HD4 := Lib.hid (show decide (t.k = 4) = true by simp [k4])
                    clear k4
                    go_wp2
                    go_roundw
                    case rel =>
                      have hI8 := own_size HI7.out (mpF_at HLK.out) (1000000)
                      have hg8 : w7.grownBy (w7.setCell ⟨g, k * 7 + 6, none⟩ (.int .i64 (1000000))) (some g) := grown_self_set (World.grownBy.refl _ _) _ _
                      rw [show ({ h with sz := 1000000 } : Hd) = (endH e.tot (newH e.tot e.lev t).lv (decide (t.k = 4))) h from by unfold endH; rw [if_pos HS6.out, if_neg (show ¬ ((newH e.tot e.lev t).lv ≤ h.lv) by have := HL7.out; omega), if_pos HD4.out], mpF_set HLK.out] at hI8
                      have hnm : ∀ g', (Value.slice A3 e.ms.length c3).ownBlock = some g' → some g' ≠ some g := fun g' hg' e' => OR.apart HM7.out HNE.out HI7.out (by decide) hg' e'.symm
                      exact ⟨k + 1, by omega, by go_num, (fun hx => by rw [HBK.out] at hx; cases hx), BlkL.grown HZ7.out hg8 (fun e' => own_blk HI7.out HZ7.out (by decide) e'.symm), OR.keep (w := w7) HM7.out hg8 hnm, hI8, BlkL.grown HY7.out hg8 (fun e' => own_blk HI7.out HY7.out (by decide) e'.symm), BlkL.grown HT7.out hg8 (fun e' => own_blk HI7.out HT7.out (by decide) e'.symm), Below.trans HB7.out ⟨hg8.os, hg8.tape, hg8.output, hg8.size, fun i hi' => hg8.block i (by show i < w7.heap.size; omega) (fun e' => by have := (HI7.out.lt g rfl).1; injection e' with e'; omega)⟩⟩
                    case measure => simp [intOf]; omega
                  · have d4 : (t.k == 4) = false := by simp [k4]
                    have HD4 := Lib.hid (show ¬ (decide (t.k = 4) = true) by simp [k4])
                    clear k4
                    go_wp2
                    go_roundw
                    case rel => exact ⟨k + 1, by omega, by go_num, (fun hx => by rw [HBK.out] at hx; cases hx), HZ7.out, HM7.out, by rw [mpF_same HLK.out (show (endH e.tot (newH e.tot e.lev t).lv (decide (t.k = 4))) h = h by unfold endH; rw [if_pos HS6.out, if_neg (show ¬ ((newH e.tot e.lev t).lv ≤ h.lv) by have := HL7.out; omega), if_neg HD4.out])]; exact HI7.out, HY7.out, HT7.out, HB7.out⟩
                    case measure => simp [intOf]; omega
              · have d6 : (h.sz != -1) = true := by simp [hsz6]
                go_wp2
                go_roundw
                case rel => exact ⟨k + 1, by omega, by go_num, (fun hx => by rw [HBK.out] at hx; cases hx), HZ7.out, HM7.out, by rw [mpF_same HLK.out (show (endH e.tot (newH e.tot e.lev t).lv (decide (t.k = 4))) h = h from if_neg hsz6)]; exact HI7.out, HY7.out, HT7.out, HB7.out⟩
                case measure => simp [intOf]; omega
          · obtain rfl : k = e.it.length := by omega
            go_wp2
            go_meet
            case rel => exact ⟨HZ.out, HM.out, by have hi9 := HI.out; rw [brk1_all HK0.out]; exact hi9, HY.out, HT.out, HB.out⟩
      case rest =>
        obtain ⟨hZ, hM, hI, hY, hT, hb⟩ := hcut
        obtain ⟨wr, rfl⟩ : ∃ x, x = wc := ⟨_, rfl⟩
        obtain ⟨i0, hi0, hz0, hz1, hz2⟩ := info_parts infoHeldI
        have z0 : wr.cell? ⟨w3.heap.size, 0, none⟩ = some (.int .i64 e.W) := (hZ.cell 0).trans rfl
        have z1 : wr.cell? ⟨w3.heap.size, 1, none⟩ = some (.int .i64 e.col) := (hZ.cell 1).trans rfl
        have z2 : wr.cell? ⟨w3.heap.size, 2, none⟩ = some (.int .i64 e.pend) := (hZ.cell 2).trans rfl
        have z3 : wr.cell? ⟨w3.heap.size, 3, none⟩ = some (.slice A3 e.ms.length c3) := (hZ.cell 3).trans rfl
        have z4 : wr.cell? ⟨w3.heap.size, 4, none⟩ = some (.slice A4 e.it.length c4) := (hZ.cell 4).trans rfl
        have z5 : wr.cell? ⟨w3.heap.size, 5, none⟩ = some (.int .i64 e.tot) := (hZ.cell 5).trans rfl
        have z6 : wr.cell? ⟨w3.heap.size, 6, none⟩ = some (.int .i64 (e.lev + t.opn)) := (hZ.cell 6).trans rfl
        have zf := hZ.frozen
        have zl := hZ.lt
        have t0 : wr.cell? ⟨w.heap.size + 1, 0, none⟩ = some (.int .i64 t.k) := (hT.cell 0).trans rfl
        have t1 : wr.cell? ⟨w.heap.size + 1, 1, none⟩ = some (.string t.s) := (hT.cell 1).trans rfl
        have t2 : wr.cell? ⟨w.heap.size + 1, 2, none⟩ = some (.int .i64 t.d) := (hT.cell 2).trans rfl
        have t3 : wr.cell? ⟨w.heap.size + 1, 3, none⟩ = some (.int .i64 t.o) := (hT.cell 3).trans rfl
        have tl := hT.lt
        have hn4 := HEN.out.nit
        have hob := (Below.refl wr.heap.size wr).alloc (Nat.le_refl _) (.cells #[.int .i64 t.k, .string t.s, .int .i64 t.d, .int .i64 t.o, .int .i64 (newH e.tot e.lev t).lv, .int .i64 e.tot, .int .i64 (newH e.tot e.lev t).sz] 80)
        have hN5 : BlkL (wr.alloc (.cells #[.int .i64 t.k, .string t.s, .int .i64 t.d, .int .i64 t.o, .int .i64 (newH e.tot e.lev t).lv, .int .i64 e.tot, .int .i64 (newH e.tot e.lev t).sz] 80)) wr.heap.size 80 (fl fh [(newH e.tot e.lev t)]) := by rw [show fl fh [(newH e.tot e.lev t)] = fh (newH e.tot e.lev t) by simp [fl]]; exact BlkL.new wr 80 (fh (newH e.tot e.lev t))
        have HN5 := Lib.hid hN5
        have HI5 := Lib.hid (own_keep hI hob)
        have HZ5 := Lib.hid (hZ.below hob hZ.lt)
        have HM5 := Lib.hid (hM.below hob)
        have HY5 := Lib.hid (hY.below hob hY.lt)
        have HT5 := Lib.hid (hT.below hob hT.lt)
        have HB5 := Lib.hid (hb.trans (hob.mono hb.size))
        have hz5 : w2.heap.size ≤ (wr.alloc (.cells #[.int .i64 t.k, .string t.s, .int .i64 t.d, .int .i64 t.o, .int .i64 (newH e.tot e.lev t).lv, .int .i64 e.tot, .int .i64 (newH e.tot e.lev t).sz] 80)).heap.size := by have := HZ5.out.lt; omega
        clear hZ hM hI hY hT hb hob hN5
        go_wp2_with (at_builtin; refine wpList_append_own_at _ rfl _ _ 45 rfl w2.heap.size 80 i0 (.agg #[.int .i64 0, .string ByteArray.empty, .int .i64 0, .int .i64 0, .int .i64 0, .int .i64 0, .int .i64 0]) 7 64 Try.underlying45 hi0 hz0 hz1 hz2 rfl (by decide) _ _ _ rfl HI5.out ⟨wr.heap.size, 0, none⟩ 1 1 (fl fh [(newH e.tot e.lev t)]) rfl (by rw [fl_length fh_len]; rfl) (fun j u hj => by rw [Addr.add_lit, Nat.zero_add]; exact (HN5.out.cell j).trans hj) (fh_one _) (by unfold maxLen; omega) (by omega) hz5 ?_)
        intro v' w7 hown7 hgr7 _ _
        rw [← fl_append] at hown7
        change w7.ownsRow w2.heap.size 80 7 v' (e.it.length + 1) (fl fh (fedI e.tot (newH e.tot e.lev t) e.it)) at hown7
        obtain ⟨A5, c5, rfl⟩ := own_form hown7
        have HZ7 := Lib.hid (HZ5.out.grown hgr7 (fun e' => own_blk HI5.out HZ5.out (by decide) e'.symm))
        have HM7 := Lib.hid (OR.keep HM5.out hgr7 (fun g' hg' e' => OR.apart HM5.out HNE.out HI5.out (by decide) hg' e'.symm))
        have HY7 := Lib.hid (HY5.out.grown hgr7 (fun e' => own_blk HI5.out HY5.out (by decide) e'.symm))
        have HT7 := Lib.hid (HT5.out.grown hgr7 (fun e' => own_blk HI5.out HT5.out (by decide) e'.symm))
        have HB7 := Lib.hid (HB5.out.grown hgr7 HB5.out.size (fun g' hg' => by have := (HI5.out.lt g' hg').1; omega))
        have HI7 := Lib.hid hown7
        clear hown7 hgr7 HZ5 HM5 HY5 HT5 HB5 HI5 HN5 z0 z1 z2 z3 z4 z5 z6 zl zf t0 t1 t2 t3 tl hz5
        have z0 : w7.cell? ⟨w3.heap.size, 0, none⟩ = some (.int .i64 e.W) := (HZ7.out.cell 0).trans rfl
        have z1 : w7.cell? ⟨w3.heap.size, 1, none⟩ = some (.int .i64 e.col) := (HZ7.out.cell 1).trans rfl
        have z2 : w7.cell? ⟨w3.heap.size, 2, none⟩ = some (.int .i64 e.pend) := (HZ7.out.cell 2).trans rfl
        have z3 : w7.cell? ⟨w3.heap.size, 3, none⟩ = some (.slice A3 e.ms.length c3) := (HZ7.out.cell 3).trans rfl
        have z4 : w7.cell? ⟨w3.heap.size, 4, none⟩ = some (.slice A4 e.it.length c4) := (HZ7.out.cell 4).trans rfl
        have z5 : w7.cell? ⟨w3.heap.size, 5, none⟩ = some (.int .i64 e.tot) := (HZ7.out.cell 5).trans rfl
        have z6 : w7.cell? ⟨w3.heap.size, 6, none⟩ = some (.int .i64 (e.lev + t.opn)) := (HZ7.out.cell 6).trans rfl
        have zf := HZ7.out.frozen
        have zl := HZ7.out.lt
        go_wp2_with fail
        clear z0 z1 z2 z3 z4 z5 z6 zl zf
        have HZA := Lib.hid (show BlkL (w7.setCell ⟨w3.heap.size, 4, none⟩ (.slice A5 (e.it.length + 1) c5)) w3.heap.size 47 [.int .i64 e.W, .int .i64 e.col, .int .i64 e.pend, .slice A3 e.ms.length c3, .slice A5 (e.it.length + 1) c5, .int .i64 e.tot, .int .i64 (e.lev + t.opn)] from HZ7.out.set 4 (.slice A5 (e.it.length + 1) c5))
        have HMA := Lib.hid (show OR fm 121 (w7.setCell ⟨w3.heap.size, 4, none⟩ (.slice A5 (e.it.length + 1) c5)) w2.heap.size (.slice A3 e.ms.length c3) e.ms from OR.setN HZ7.out (by decide) [(.slice A5 (e.it.length + 1) c5)] 4 HM7.out)
        have HIA := Lib.hid (show (w7.setCell ⟨w3.heap.size, 4, none⟩ (.slice A5 (e.it.length + 1) c5)).ownsRow w2.heap.size 80 7 (.slice A5 (e.it.length + 1) c5) (e.it.length + 1) (fl fh (fedI e.tot (newH e.tot e.lev t) e.it)) from own_setN (own_blk HI7.out HZ7.out (by decide)) [(.slice A5 (e.it.length + 1) c5)] _ 4 HI7.out)
        have HYA := Lib.hid (show BlkL (w7.setCell ⟨w3.heap.size, 4, none⟩ (.slice A5 (e.it.length + 1) c5)) (w.heap.size + 2) 47 (ecs ⟨0, 0, 0, [], [], 0, 0⟩ (.slice none 0 0) (.slice none 0 0)) from BlkL.farN (by omega) [(.slice A5 (e.it.length + 1) c5)] _ 4 HY7.out)
        have HTA := Lib.hid (show BlkL (w7.setCell ⟨w3.heap.size, 4, none⟩ (.slice A5 (e.it.length + 1) c5)) (w.heap.size + 1) 51 [.int .i64 t.k, .string t.s, .int .i64 t.d, .int .i64 t.o] from BlkL.farN (by omega) [(.slice A5 (e.it.length + 1) c5)] _ 4 HT7.out)
        have HBA := Lib.hid (show Below w.heap.size w (w7.setCell ⟨w3.heap.size, 4, none⟩ (.slice A5 (e.it.length + 1) c5)) from below_setN (by omega) [(.slice A5 (e.it.length + 1) c5)] _ 4 HB7.out)
        clear HZ7 HM7 HY7 HT7 HB7 HI7
        generalize w7.setCell ⟨w3.heap.size, 4, none⟩ (.slice A5 (e.it.length + 1) c5) = wA at *
        have r5 := Bw.rd (show wA.cell? ⟨w3.heap.size, 5, none⟩ = some (.int .i64 e.tot) from (HZA.out.cell 5).trans rfl)
        have y0 := Bw.rd (show wA.cell? ⟨w.heap.size + 1, 0, none⟩ = some (.int .i64 t.k) from (HTA.out.cell 0).trans rfl)
        have y1 := Bw.rd (show wA.cell? ⟨w.heap.size + 1, 1, none⟩ = some (.string t.s) from (HTA.out.cell 1).trans rfl)
        have y2 := Bw.rd (show wA.cell? ⟨w.heap.size + 1, 2, none⟩ = some (.int .i64 t.d) from (HTA.out.cell 2).trans rfl)
        have y3 := Bw.rd (show wA.cell? ⟨w.heap.size + 1, 3, none⟩ = some (.int .i64 t.o) from (HTA.out.cell 3).trans rfl)
        have CW := Lib.hid (fun V => show Calls Try.prog 51 #[.agg #[.int .i64 t.k, .string t.s, .int .i64 t.d, .int .i64 t.o]] V (fun r w' => r = .returned (.int .i64 t.wid) ∧ Below V.heap.size V w') from sWidthOf_any t.k t.s t.d t.o V hts)
        have hne : Nonempty (Cl (Bw wA)) := ⟨⟨_, Bw.start wA⟩⟩
        refine wp_region_stages [0, 0, 0, 1, 2, 2, 3] 1 (fun w' => ∃ y : Cl (Bw wA), w' = y.W) (by kernel_rfl) (by kernel_rfl) ⟨⟨_, Bw.start wA⟩, rfl⟩ ?_
        simp only [Stage.stages, Stage.pickC, Nat.reduceBEq, Nat.reduceMul, Nat.reduceAdd, cond_true, cond_false, List.map_cons, List.map_nil]
        refine stage_more ?_
        repeat (go_big_quiet_step (fail))
        refine wpQuiet_nil ?_
        intro K hK
        unfold Chain.mov
        go_simp
        simp only [Chain.movUpon]
        refine (CW.out _).mono ?_
        rintro r wB ⟨rfl, hbB0⟩
        have hbB : Below wA.heap.size wA wB := (Below.refl _ wA).drew.trans (hbB0.mono (Nat.le_refl _))
        refine ⟨_, rfl, hK _ _ ⟨⟨⟨wB, hbB⟩, rfl⟩, ?_⟩⟩
        have HZB := Lib.hid (HZA.out.below hbB HZA.out.lt)
        have HMB := Lib.hid (HMA.out.below hbB)
        have HIB := Lib.hid (own_keep HIA.out hbB)
        have HYB := Lib.hid (HYA.out.below hbB HYA.out.lt)
        have HBB := Lib.hid (HBA.out.trans (hbB.mono HBA.out.size))
        clear hK K r5 y0 y1 y2 y3 hbB hbB0 HZA HMA HIA HYA HTA HBA
        refine stage_last ?_
        repeat (go_big_quiet_step (fail))
        refine wpQuiet_nil ?_
        clear hne
        have z0 : wB.cell? ⟨w3.heap.size, 0, none⟩ = some (.int .i64 e.W) := (HZB.out.cell 0).trans rfl
        have z1 : wB.cell? ⟨w3.heap.size, 1, none⟩ = some (.int .i64 e.col) := (HZB.out.cell 1).trans rfl
        have z2 : wB.cell? ⟨w3.heap.size, 2, none⟩ = some (.int .i64 e.pend) := (HZB.out.cell 2).trans rfl
        have z3 : wB.cell? ⟨w3.heap.size, 3, none⟩ = some (.slice A3 e.ms.length c3) := (HZB.out.cell 3).trans rfl
        have z4 : wB.cell? ⟨w3.heap.size, 4, none⟩ = some (.slice A5 (e.it.length + 1) c5) := (HZB.out.cell 4).trans rfl
        have z5 : wB.cell? ⟨w3.heap.size, 5, none⟩ = some (.int .i64 e.tot) := (HZB.out.cell 5).trans rfl
        have z6 : wB.cell? ⟨w3.heap.size, 6, none⟩ = some (.int .i64 (e.lev + t.opn)) := (HZB.out.cell 6).trans rfl
        have zf := HZB.out.frozen
        have zl := HZB.out.lt
        go_wp2_with fail
        clear z0 z1 z2 z3 z4 z5 z6 zl zf
        have HZC := Lib.hid (show BlkL (wB.setCell ⟨w3.heap.size, 5, none⟩ (.int .i64 (e.tot + t.wid))) w3.heap.size 47 [.int .i64 e.W, .int .i64 e.col, .int .i64 e.pend, .slice A3 e.ms.length c3, .slice A5 (e.it.length + 1) c5, .int .i64 (e.tot + t.wid), .int .i64 (e.lev + t.opn)] from HZB.out.set 5 (.int .i64 (e.tot + t.wid)))
        have HMC := Lib.hid (show OR fm 121 (wB.setCell ⟨w3.heap.size, 5, none⟩ (.int .i64 (e.tot + t.wid))) w2.heap.size (.slice A3 e.ms.length c3) e.ms from OR.setN HZB.out (by decide) [(.int .i64 (e.tot + t.wid))] 5 HMB.out)
        have HIC := Lib.hid (show (wB.setCell ⟨w3.heap.size, 5, none⟩ (.int .i64 (e.tot + t.wid))).ownsRow w2.heap.size 80 7 (.slice A5 (e.it.length + 1) c5) (e.it.length + 1) (fl fh (fedI e.tot (newH e.tot e.lev t) e.it)) from own_setN (own_blk HIB.out HZB.out (by decide)) [(.int .i64 (e.tot + t.wid))] _ 5 HIB.out)
        have HYC := Lib.hid (show BlkL (wB.setCell ⟨w3.heap.size, 5, none⟩ (.int .i64 (e.tot + t.wid))) (w.heap.size + 2) 47 (ecs ⟨0, 0, 0, [], [], 0, 0⟩ (.slice none 0 0) (.slice none 0 0)) from BlkL.farN (by omega) [(.int .i64 (e.tot + t.wid))] _ 5 HYB.out)
        have HBC := Lib.hid (show Below w.heap.size w (wB.setCell ⟨w3.heap.size, 5, none⟩ (.int .i64 (e.tot + t.wid))) from below_setN (by omega) [(.int .i64 (e.tot + t.wid))] _ 5 HBB.out)
        clear HZB HMB HIB HYB HBB
        generalize wB.setCell ⟨w3.heap.size, 5, none⟩ (.int .i64 (e.tot + t.wid)) = wC at *
        have hq1 : ((startP e).col : Int) = e.col := Int.toNat_of_nonneg HEN.out.col.1
        have hq2 : ((startP e).pend : Int) = e.pend := Int.toNat_of_nonneg HEN.out.pend.1
        have hq3 : (fedI e.tot (newH e.tot e.lev t) e.it).length = e.it.length + 1 := fedI_length _ _ _
        obtain ⟨g5, c5', hv5⟩ := Joins.ownsRow_form HIC.out (Nat.succ_pos _)
        injection hv5 with hA5 _ hc5
        subst hA5
        have hcp5 := own_cp HIC.out
        have hyl2 : w.heap.size + 2 < w2.heap.size := by omega
        refine (l05Flush_any wC w2.heap.size w3.heap.size e.W (startP e) A3 c3 (some ⟨g5, 0, none⟩) c5 (fedI e.tot (newH e.tot e.lev t) e.it) (e.tot + t.wid) (e.lev + t.opn) hs3 (by rw [hq1, hq2, hq3]; exact HZC.out) (OR.rs fm_len HMC.out) (OR.rs fh_len (OR.of_own fh_len hq3 HIC.out)) (by rw [hq3]; exact hcp5) ?_ ?_ rfl (HEN.out.fineF HQ.out.2.1 HQ.out.2.2) ?_ (scB_true HQ.out.2.1).2.2 (by have := HEN.out.w; omega) (by have := HEN.out.w; omega)).mono ?_
        · intro b o hA _
          injection hA with hA
          injection hA with e1 _
          subst e1
          exact ⟨(HIC.out.lt _ rfl).1, own_blkEx HIC.out, fun g' hg' e' => OR.apart HMC.out HNE.out HIC.out (by decide) (g := g') (OR.ownB hg') (by rw [e']; rfl)⟩
        · intro g' hg'
          exact OR.lo HMC.out HNE.out (OR.ownB hg')
        · intro i x hx
          exact fedI_sts HEN.out (scB_true HQ.out.2.1).2.1 hwd hx
        rintro r w8 ⟨rfl, ⟨A6, c6, A7, c7, hZ8, hM8, hI8, hab8, hac8⟩, hb8⟩
        change BlkL w8 w3.heap.size 47 [.int .i64 e.W, .int .i64 ((fedF e t).1.col : Int), .int .i64 ((fedF e t).1.pend : Int), .slice A6 (fedF e t).1.ms.length c6, .slice A7 (fedF e t).2.length c7, .int .i64 (e.tot + t.wid), .int .i64 (e.lev + t.opn)] at hZ8
        change MS w8 A6 (fedF e t).1.ms at hM8
        change HS w8 A7 (fedF e t).2 at hI8
        change (fedF e t).2 ≠ [] → _ at hac8
        have hY8 := HYC.out.below hb8 hyl2
        have HB8 := Lib.hid (HBC.out.trans (hb8.mono (by omega)))
        have y0 : w8.cell? ⟨w.heap.size + 2, 0, none⟩ = some (.int .i64 0) := (hY8.cell 0).trans rfl
        have y1 : w8.cell? ⟨w.heap.size + 2, 1, none⟩ = some (.int .i64 0) := (hY8.cell 1).trans rfl
        have y2 : w8.cell? ⟨w.heap.size + 2, 2, none⟩ = some (.int .i64 0) := (hY8.cell 2).trans rfl
        have y3 : w8.cell? ⟨w.heap.size + 2, 3, none⟩ = some (.slice none 0 0) := (hY8.cell 3).trans rfl
        have y4 : w8.cell? ⟨w.heap.size + 2, 4, none⟩ = some (.slice none 0 0) := (hY8.cell 4).trans rfl
        have y5 : w8.cell? ⟨w.heap.size + 2, 5, none⟩ = some (.int .i64 0) := (hY8.cell 5).trans rfl
        have y6 : w8.cell? ⟨w.heap.size + 2, 6, none⟩ = some (.int .i64 0) := (hY8.cell 6).trans rfl
        have yf := hY8.frozen
        have yl := hY8.lt
        have z0 : w8.cell? ⟨w3.heap.size, 0, none⟩ = some (.int .i64 e.W) := (hZ8.cell 0).trans rfl
        have z1 : w8.cell? ⟨w3.heap.size, 1, none⟩ = some (.int .i64 ((fedF e t).1.col : Int)) := (hZ8.cell 1).trans rfl
        have z2 : w8.cell? ⟨w3.heap.size, 2, none⟩ = some (.int .i64 ((fedF e t).1.pend : Int)) := (hZ8.cell 2).trans rfl
        have z3 : w8.cell? ⟨w3.heap.size, 3, none⟩ = some (.slice A6 (fedF e t).1.ms.length c6) := (hZ8.cell 3).trans rfl
        have z4 : w8.cell? ⟨w3.heap.size, 4, none⟩ = some (.slice A7 (fedF e t).2.length c7) := (hZ8.cell 4).trans rfl
        have z5 : w8.cell? ⟨w3.heap.size, 5, none⟩ = some (.int .i64 (e.tot + t.wid)) := (hZ8.cell 5).trans rfl
        have z6 : w8.cell? ⟨w3.heap.size, 6, none⟩ = some (.int .i64 (e.lev + t.opn)) := (hZ8.cell 6).trans rfl
        have zl := hZ8.lt
        have HY8 := Lib.hid hY8
        have HM8 := Lib.hid hM8
        have HI8 := Lib.hid hI8
        have HA8 := Lib.hid hab8
        have HC8 := Lib.hid hac8
        clear hY8 hM8 hI8 hab8 hac8 hb8 hZ8
        go_wp2
        clear y0 y1 y2 y3 y4 y5 y6 yf yl z0 z1 z2 z3 z4 z5 z6 zl
        have hB9 := below_setN (B := w.heap.size) (a := w) (g := w.heap.size + 2) (by omega) [.int .i64 e.W, .int .i64 ((fedF e t).1.col : Int), .int .i64 ((fedF e t).1.pend : Int), .slice A6 (fedF e t).1.ms.length c6, .slice A7 (fedF e t).2.length c7, .int .i64 (e.tot + t.wid), .int .i64 (e.lev + t.opn)] _ 0 HB8.out
        have hY9 := BlkL.setN [.int .i64 e.W, .int .i64 ((fedF e t).1.col : Int), .int .i64 ((fedF e t).1.pend : Int), .slice A6 (fedF e t).1.ms.length c6, .slice A7 (fedF e t).2.length c7, .int .i64 (e.tot + t.wid), .int .i64 (e.lev + t.opn)] _ _ 0 HY8.out
        have hM9 : MS (World.setN w8 (w.heap.size + 2) 0 [.int .i64 e.W, .int .i64 ((fedF e t).1.col : Int), .int .i64 ((fedF e t).1.pend : Int), .slice A6 (fedF e t).1.ms.length c6, .slice A7 (fedF e t).2.length c7, .int .i64 (e.tot + t.wid), .int .i64 (e.lev + t.opn)]) A6 (fedF e t).1.ms := RS.keep HM8.out (by simp [World.setN]) (fun b j hA _ => cell_setN (by have := HA8.out b hA; omega) _ _ _ _)
        have hI9 : HS (World.setN w8 (w.heap.size + 2) 0 [.int .i64 e.W, .int .i64 ((fedF e t).1.col : Int), .int .i64 ((fedF e t).1.pend : Int), .slice A6 (fedF e t).1.ms.length c6, .slice A7 (fedF e t).2.length c7, .int .i64 (e.tot + t.wid), .int .i64 (e.lev + t.opn)]) A7 (fedF e t).2 := by
          by_cases hne : (fedF e t).2 = []
          · rw [hne]; exact RS.nil _ _
          · exact RS.keep HI8.out (by simp [World.setN]) (fun b j hA _ => cell_setN (by have := HC8.out hne b hA; omega) _ _ _ _)
        change bodyPost _ _ _ _ _ (World.setN w8 (w.heap.size + 2) 0 [.int .i64 e.W, .int .i64 ((fedF e t).1.col : Int), .int .i64 ((fedF e t).1.pend : Int), .slice A6 (fedF e t).1.ms.length c6, .slice A7 (fedF e t).2.length c7, .int .i64 (e.tot + t.wid), .int .i64 (e.lev + t.opn)])
        generalize World.setN w8 (w.heap.size + 2) 0 [.int .i64 e.W, .int .i64 ((fedF e t).1.col : Int), .int .i64 ((fedF e t).1.pend : Int), .slice A6 (fedF e t).1.ms.length c6, .slice A7 (fedF e t).2.length c7, .int .i64 (e.tot + t.wid), .int .i64 (e.lev + t.opn)] = w9 at *
        have k0 : w9.cell? ⟨w.heap.size + 2, 0, none⟩ = some (.int .i64 e.W) := (hY9.cell 0).trans rfl
        have k1 : w9.cell? ⟨w.heap.size + 2, 1, none⟩ = some (.int .i64 ((fedF e t).1.col : Int)) := (hY9.cell 1).trans rfl
        have k2 : w9.cell? ⟨w.heap.size + 2, 2, none⟩ = some (.int .i64 ((fedF e t).1.pend : Int)) := (hY9.cell 2).trans rfl
        have k3 : w9.cell? ⟨w.heap.size + 2, 3, none⟩ = some (.slice A6 (fedF e t).1.ms.length c6) := (hY9.cell 3).trans rfl
        have k4 : w9.cell? ⟨w.heap.size + 2, 4, none⟩ = some (.slice A7 (fedF e t).2.length c7) := (hY9.cell 4).trans rfl
        have k5 : w9.cell? ⟨w.heap.size + 2, 5, none⟩ = some (.int .i64 (e.tot + t.wid)) := (hY9.cell 5).trans rfl
        have k6 : w9.cell? ⟨w.heap.size + 2, 6, none⟩ = some (.int .i64 (e.lev + t.opn)) := (hY9.cell 6).trans rfl
        refine bodyPost_ret (v := .tuple #[.agg #[.int .i64 e.W, .int .i64 ((fedF e t).1.col : Int), .int .i64 ((fedF e t).1.pend : Int), .slice A6 (fedF e t).1.ms.length c6, .slice A7 (fedF e t).2.length c7, .int .i64 (e.tot + t.wid), .int .i64 (e.lev + t.opn)], .string ⟨(fedF e t).1.out.toArray⟩, .bool true]) (by simp [results, Try.results25, go_sem, k0, k1, k2, k3, k4, k5, k6] <;> rfl) rfl ⟨.agg #[.int .i64 e.W, .int .i64 ((fedF e t).1.col : Int), .int .i64 ((fedF e t).1.pend : Int), .slice A6 (fedF e t).1.ms.length c6, .slice A7 (fedF e t).2.length c7, .int .i64 (e.tot + t.wid), .int .i64 (e.lev + t.opn)], ?_, ?_, hB9⟩
        · rw [HFT.out, HBN.out]
        · rw [HEE.out]; exact ⟨A6, c6, A7, c7, rfl, hM9, hI9, fun _ g hg => Nat.le_trans (by omega) (HA8.out g hg), fun hne g hg => Nat.le_trans (by omega) (HC8.out hne g hg)⟩
end Go.Proofs.Ytegjgbgnpkncbab
