/-
  PlainOf on both sides.
-/
import Derived.Test.YthjkgbcomjiejadGreatDoorShelf
import Derived.Test.YthjkgbcomjiejadGreatDoorCls
import Derived.Test.YthjkgbcomjiejadGreatDoorBlw
import Derived.Maps.AppendAt
import Derived.WalkKit
import Derived.WalkSpells
import Derived.WalkLawsBesides
import Derived.Lib.Hide
import Derived.Test.YthjkgbcomjiejadGreatDoorStrm
import Derived.Test.YthjkgbcomjiejadGreatDoorSizm
namespace Go.Proofs.YthjkgbcomjiejadGreatDoor
open Go.RowKit
set_option linter.unusedVariables false

theorem copyCheck_k (B b : Nat) (bs : List Value) (w : World) (h : Lib.IsBuilderF 78 5 B b bs w) :
    Calls Tryz.prog 90 #[.pointer (some ⟨b, 0, none⟩)] w fun e w' => e = .returned (.tuple #[]) ∧ (Lib.BuilderAtF 78 5 B b (.pointer (some ⟨b, 0, none⟩)) bs w' ∧ Below B w w') :=
  (copyChk_k B b bs w h).mono fun _ _ ⟨he, h1, h2, _⟩ => ⟨he, h1, h2⟩
theorem WriteString_k (B b : Nat) (bs : List Value) (s : ByteArray) (w : World) (h : Lib.IsBuilderF 78 5 B b bs w) (hlen : bs.length + s.size ≤ 140737488355328) (hBw : B ≤ w.heap.size) :
    Calls Tryz.prog 44 #[.pointer (some ⟨b, 0, none⟩), .string s] w fun e w' => e = .returned (.tuple #[.int .i64 s.size, .nilIface]) ∧ (Lib.IsBuilderF 78 5 B b (bs ++ Lib.strCells s) w' ∧ Below B w w') :=
  (WriteStr_k B b bs s w h hlen hBw).mono fun _ _ ⟨he, h1, h2, _⟩ => ⟨he, h1, h2⟩

theorem infoByteN : (Tryz.prog.info? 5).map (fun i => (i.zero, i.size, i.bytes)) = some (some (.int .u8 0), 1, 1) := by kernel_rfl

set_option maxHeartbeats 2000000 in
set_option maxRecDepth 100000 in
theorem WriteByte_k (B b : Nat) (bs : List Value) (c : Int) (w : World) (h : Lib.IsBuilderF 78 5 B b bs w) (hlen : bs.length + 1 ≤ 140737488355328) (hBw : B ≤ w.heap.size) :
    Calls Tryz.prog 104 #[.pointer (some ⟨b, 0, none⟩), .int .u8 c] w fun e w' => e = .returned .nilIface ∧ (Lib.IsBuilderF 78 5 B b (bs ++ [.int .u8 c]) w' ∧ Below B w w') := by
  obtain ⟨i0, hi, hz0, hz1, hz2⟩ := info_parts infoByteN
  go_enter Tryz.func104, Tryz.ntmps104
  go_wp2_with fail
  refine (copyCheck_k B b bs _ h).mono ?_
  rintro e w1 ⟨rfl, h1, hb1⟩
  obtain ⟨hB, v, hbk, hown, hne⟩ := h1
  have c0 : w1.cell? ⟨b, 0, none⟩ = some (.pointer (some ⟨b, 0, none⟩)) := by rw [Lib.cell_of_heap hbk]; rfl
  have c1 : w1.cell? ⟨b, 1, none⟩ = some v := by rw [Lib.cell_of_heap hbk]; rfl
  have hlt : b < w1.heap.size := (Array.getElem?_eq_some_iff.1 hbk).1
  have HBK := Lib.hid hbk
  have HOW := Lib.hid hown
  have HNE := Lib.hid hne
  have HB1 := Lib.hid hb1
  have hz1' := hb1.size
  clear hbk hown hne hb1
  go_wp2_with (at_builtin; refine wpList_append_ownF _ rfl _ _ 22 rfl B 5 i0 (.int .u8 0) 1 1 Tryz.underlying22 hi hz0 hz1 hz2 rfl (by decide) _ _ _ rfl (HOW.out.alloc _) ⟨w1.heap.size, 0, none⟩ 1 1 [.int .u8 c] rfl rfl (cell_one_new _ _ _) (by simp [Value.oneCell']) (by simp only [maxLen]; omega) (by omega) (by simp; omega) ?_)
  intro v' w2 hown' hgrow _
  have hb2 : w2.heap[b]? = some (.cells #[.pointer (some ⟨b, 0, none⟩), v] 78 (0, 0)) := (hgrow.block b (by simp; omega) (fun e => HNE.out e.symm)).trans ((Below.heap_alloc w1 _ b hlt).trans HBK.out)
  have d0 : w2.cell? ⟨b, 0, none⟩ = some (.pointer (some ⟨b, 0, none⟩)) := by rw [Lib.cell_of_heap hb2]; rfl
  have d1 : w2.cell? ⟨b, 1, none⟩ = some v := by rw [Lib.cell_of_heap hb2]; rfl
  have f1 : w2.frozen? ⟨b, 1, none⟩ = false := Lib.frozen_of_heap hb2 1
  obtain ⟨ao, n', cap, rfl⟩ : ∃ ao n' cap, v' = .slice ao n' cap := by
    rcases hown'.2 with ⟨hv, _⟩ | ⟨g, cap, cur, fz, hv, _⟩
    · exact ⟨_, _, _, hv⟩
    · exact ⟨_, _, _, hv⟩
  have HO' := Lib.hid hown'
  have HG := Lib.hid hgrow
  have HB2 := Lib.hid hb2
  clear hown' hgrow hb2
  go_wp2
  go_ret
  refine ⟨rfl, .inr (Lib.BuilderAtF.put (T := 78) (e := 5) hB HB2.out (bs' := bs ++ [.int .u8 c]) (by simpa using HO'.out) (by decide)), ?_⟩
  exact ((HB1.out.alloc (by omega) _).grown HG.out (by simp; omega) (fun k hk => (HOW.out.lt k hk).1)).setCell (p := ⟨b, 1, none⟩) hB _
end Go.Proofs.YthjkgbcomjiejadGreatDoor
namespace Go.Proofs.YthjkgbcomjiejadGreatDoor
open Go.RowKit
set_option linter.unusedVariables false

/-- what a token is on one line. -/
def Tk.pl (t : Tk) : List UInt8 := if t.k = 0 then t.s.data.toList else if t.k = 1 then List.replicate t.d.toNat 32 else if t.k = 4 then [10] else []
theorem Tk.pl_le {t : Tk} (h : t.ok = true) : t.pl.length ≤ 40 := by
  have hw := t.wid_bd h
  unfold Tk.wid widB at hw
  rw [show tokB t.k t.s t.d t.o = true from h] at hw
  unfold Tk.pl
  by_cases h0 : t.k = 0
  · simp [h0] at hw ⊢; omega
  · by_cases h1 : t.k = 1
    · simp [h1] at hw ⊢; omega
    · by_cases h4 : t.k = 4
      · simp [h4]
      · simp [h0, h1, h4]
theorem Tk.d_bd {t : Tk} (h : t.ok = true) (h1 : t.k = 1) : 0 ≤ t.d ∧ t.d ≤ 9 := by
  rcases tokB_cases (show tokB t.k t.s t.d t.o = true from h) with ⟨hk, _⟩ | ⟨hk, _, h2, _⟩ | ⟨hk, _⟩ | ⟨hk, _⟩ | ⟨hk, _⟩
  · omega
  · exact inB_true.1 h2
  · omega
  · omega
  · omega
def plN (l : List Tk) (i : Nat) : List UInt8 := ((l.take i).map Tk.pl).flatten
theorem plN_zero (l : List Tk) : plN l 0 = [] := by simp [plN]
theorem plN_succ {l : List Tk} {i : Nat} {t : Tk} (h : l[i]? = some t) : plN l (i + 1) = plN l i ++ t.pl := by
  unfold plN
  rw [List.take_add_one, h]
  simp
def plnB (l : List Tk) : ByteArray := if strB l = true then ⟨(plN l l.length).toArray⟩ else ByteArray.empty
theorem bytes_ext {a : ByteArray} {l : List UInt8} (h : a.data.toList = l) : a = ⟨l.toArray⟩ := by
  apply ByteArray.ext
  rw [← h]
theorem app_list (a b : ByteArray) : (a ++ b).data.toList = a.data.toList ++ b.data.toList := by simp
theorem size_list (a : ByteArray) : a.size = a.data.toList.length := Array.length_toList.symm

def BlanksPost (n : Nat) (w : World) (e : Ending) (w' : World) : Prop := ∃ s : ByteArray, e = .returned (.string s) ∧ s.data.toList = List.replicate n 32 ∧ w = w'
set_option maxHeartbeats 400000 in
theorem sBlanks_any (n : Nat) (w : World) (hn : n ≤ 9) : Calls Tryz.prog 147 #[.int .i64 n] w (BlanksPost n w) := by
  go_enter Tryz.func147, Tryz.ntmps147
  go_wp2
  go_loop [3, 4] (fun o i => ∃ (k : Nat) (S : ByteArray), k ≤ n ∧ i = .int .i64 k ∧ o = .string S ∧ S.data.toList = List.replicate k 32 ∧ S.size ≤ k) (fun _ i => n - (intOf i).toNat)
  case atStart => exact ⟨0, ByteArray.empty, Nat.zero_le _, rfl, rfl, rfl, Nat.le_refl _⟩
  case round =>
    obtain ⟨k, S, hk, rfl, rfl, hS, hz⟩ := hrel
    have HS := Lib.hid hS
    clear hS
    by_cases hlt : k < n
    · go_wp2
      go_round
      case rel => exact ⟨k + 1, S ++ ⟨#[32]⟩, by omega, by go_num, rfl, by rw [app_list, HS.out, List.replicate_succ'], by rw [ByteArray.size_append]; exact Nat.add_le_add hz (Nat.le_refl _)⟩
      case measure => simp [intOf] <;> omega
    · have hkn : k = n := by omega
      have HK := Lib.hid hkn
      clear hkn
      go_wp2
      go_ret
      have e := HK.out
      subst e
      exact ⟨S, rfl, HS.out, rfl⟩

set_option maxHeartbeats 1000000 in
set_option maxRecDepth 100000 in
theorem sPlainOf_any (A : Option Addr) (l : List Tk) (n c : Nat) (w : World) (hn : l.length = n) (hm : n ≤ 2097152) (hts : TS w A l) (hf : Fits l) :
    Calls Tryz.prog 108 #[.slice A n c] w fun e w' => e = .returned (.string (plnB l)) ∧ Below w.heap.size w w' := by
  have HN := Lib.hid hn
  clear hn
  go_enter Tryz.func108, Tryz.ntmps108
  go_wp2_with fail
  refine (sStreamOk_any _ l _ _ _ HN.out hm hts hf).mono ?_
  rintro e w1 ⟨rfl, hb⟩
  have HB := Lib.hid hb
  have ht1 := hts.below hb
  clear hb
  cases hS : strB l
  · have HP := Lib.hid (show plnB l = ByteArray.empty from by simp [plnB, hS])
    clear hS
    go_wp2
    go_ret
    rw [HP.out]
    exact ⟨rfl, HB.out⟩
  · obtain ⟨h4, hok, _⟩ := strB_true hS
    have HP := Lib.hid (show plnB l = ⟨(plN l l.length).toArray⟩ from by simp [plnB, hS])
    have HOK := Lib.hid hok
    have e := HN.out
    subst e
    clear hS hok HN
    go_wp2
    go_loop [3, 4] (fun o i => ∃ (k : Nat) (S : ByteArray), k ≤ l.length ∧ i = .int .i64 k ∧ o = .string S ∧ S.data.toList = plN l k ∧ S.size ≤ 40 * k) (fun _ i => l.length - (intOf i).toNat)
    case atStart => exact ⟨0, ByteArray.empty, Nat.zero_le _, rfl, rfl, by rw [plN_zero]; rfl, Nat.le_refl _⟩
    case round =>
      obtain ⟨k, S, hk, rfl, rfl, hS, hz⟩ := hrel
      have HS := Lib.hid hS
      clear hS
      by_cases hlt : k < l.length
      · obtain ⟨t, b, o, ht, rfl, hbl, c0, c1, c2, c3⟩ := ht1.at (k := k) hlt
        have htok := (okN_at HOK.out hlt ht).1
        have hpl := t.pl_le htok
        have HT := Lib.hid (plN_succ ht)
        by_cases h0 : t.k = 0
        · have b0 : (t.k == 0) = true := by rw [h0]; rfl
          have HPL := Lib.hid (show t.pl = t.s.data.toList from by simp [Tk.pl, h0])
          have hts40 : t.s.size ≤ 40 := by rw [size_list, ← HPL.out]; exact hpl
          clear h0 ht
          go_wp2
          go_round
          case rel => exact ⟨k + 1, S ++ t.s, by omega, by go_num, rfl, by rw [app_list, HS.out, HT.out, HPL.out], by rw [ByteArray.size_append]; omega⟩
          case measure => simp [intOf] <;> omega
        · have b0 : (t.k == 0) = false := by simpa using h0
          by_cases h1 : t.k = 1
          · have b1 : (t.k == 1) = true := by rw [h1]; rfl
            have hd := t.d_bd htok h1
            have HPL := Lib.hid (show t.pl = List.replicate t.d.toNat 32 from by simp [Tk.pl, h1])
            obtain ⟨d, hd'⟩ := Int.eq_ofNat_of_zero_le hd.1
            rw [hd'] at c2
            have hd9 : d ≤ 9 := by omega
            have HD := Lib.hid hd'
            clear h0 h1 ht hd hd'
            go_wp2_with fail
            refine (sBlanks_any d _ hd9).mono ?_
            rintro e w2 ⟨s, rfl, hs, rfl⟩
            have hsz : s.size ≤ 9 := by rw [size_list, hs]; simpa using hd9
            have HSS := Lib.hid hs
            clear hs
            go_wp2
            go_round
            case rel => exact ⟨k + 1, S ++ s, by omega, by go_num, rfl, by rw [app_list, HS.out, HT.out, HPL.out, HSS.out, HD.out]; simp, by rw [ByteArray.size_append]; omega⟩
            case measure => simp [intOf] <;> omega
          · have b1 : (t.k == 1) = false := by simpa using h1
            by_cases h4' : t.k = 4
            · have b4 : (t.k == 4) = true := by rw [h4']; rfl
              have HPL := Lib.hid (show t.pl = [10] from by simp [Tk.pl, h4'])
              clear h0 h1 h4' ht
              go_wp2
              go_round
              case rel => exact ⟨k + 1, S ++ ⟨#[10]⟩, by omega, by go_num, rfl, by rw [app_list, HS.out, HT.out, HPL.out], by rw [ByteArray.size_append]; exact Nat.le_trans (Nat.add_le_add hz (show (⟨#[10]⟩ : ByteArray).size ≤ 40 by decide)) (by omega)⟩
              case measure => simp [intOf] <;> omega
            · have b4 : (t.k == 4) = false := by simpa using h4'
              have HPL := Lib.hid (show t.pl = [] from by simp [Tk.pl, h0, h1, h4'])
              clear h0 h1 h4' ht
              go_wp2
              go_round
              case rel => exact ⟨k + 1, S, by omega, by go_num, rfl, by rw [HS.out, HT.out, HPL.out, List.append_nil], by omega⟩
              case measure => simp [intOf] <;> omega
      · have hkn : k = l.length := by omega
        subst hkn
        go_wp2
        go_ret
        rw [HP.out, ← bytes_ext HS.out]
        exact ⟨rfl, HB.out⟩

theorem builder_keep {T e : TypeId} {B b : Nat} {bs : List Value} {w w' : World} (h : Lib.IsBuilderF T e B b bs w) (hb : Below w.heap.size w w') : Lib.IsBuilderF T e B b bs w' := by
  have hg : w.grownBy w' none := ⟨hb.os, hb.tape, hb.output, hb.size, fun i hi _ => hb.block i hi⟩
  have one : ∀ p, Lib.BuilderAtF T e B b p bs w → Lib.BuilderAtF T e B b p bs w' := by
    rintro p ⟨hB, v, hbk, hown, hne⟩
    exact ⟨hB, v, (hb.block b (Array.getElem?_eq_some_iff.1 hbk).1).trans hbk, hown.kept hg (by cases v.ownBlock <;> simp), hne⟩
  rcases h with h | h
  · exact .inl (one _ h)
  · exact .inr (one _ h)
theorem builder_alloc {T e : TypeId} {B b : Nat} {bs : List Value} {w : World} (h : Lib.IsBuilderF T e B b bs w) (o : Obj) : Lib.IsBuilderF T e B b bs (w.alloc o) := builder_keep h ((Below.refl _ _).alloc (Nat.le_refl _) o)
theorem builder_new {T e : TypeId} (w : World) : Lib.IsBuilderF T e w.heap.size w.heap.size [] (w.alloc (.cells #[.pointer none, .slice none 0 0] T)) := by
  refine .inl ⟨Nat.le_refl _, .slice none 0 0, BlkL.new w T [.pointer none, .slice none 0 0], World.ownsRowF_of (World.ownsRow_nil _ _ _ _), by simp [Value.ownBlock]⟩
theorem str_app (a : List UInt8) (s : ByteArray) : Lib.byteCells a ++ Lib.strCells s = Lib.byteCells (a ++ s.data.toList) := by
  simp [Lib.byteCells, Lib.strCells]
theorem repeat_one (n : Nat) : Lib.repeatL [32] n = List.replicate n 32 := by
  induction n with
  | zero => rfl
  | succ n ih => rw [Lib.repeatL, ih]; rfl

set_option maxHeartbeats 1000000 in
set_option maxRecDepth 100000 in
theorem PlainOf_any (A : Option Addr) (l : List Tk) (n c : Nat) (w : World) (hn : l.length = n) (hm : n ≤ 2097152) (hts : TS w A l) (hf : Fits l) :
    Calls Tryz.prog 54 #[.slice A n c] w fun e w' => e = .returned (.string (plnB l)) ∧ Below w.heap.size w w' := by
  have HN := Lib.hid hn
  clear hn
  go_enter Tryz.func54, Tryz.ntmps54
  go_wp2_with fail
  refine (StreamOk_any _ l _ _ _ HN.out hm hts hf).mono ?_
  rintro e w1 ⟨rfl, hb⟩
  have HB := Lib.hid hb
  have ht1 := hts.below hb
  have hz1 := hb.size
  clear hb
  cases hS : strB l
  · have HP := Lib.hid (show plnB l = ByteArray.empty from by simp [plnB, hS])
    clear hS
    go_wp2
    go_ret
    rw [HP.out]
    exact ⟨rfl, HB.out⟩
  · obtain ⟨h4, hok, _⟩ := strB_true hS
    have HP := Lib.hid (show plnB l = ⟨(plN l l.length).toArray⟩ from by simp [plnB, hS])
    have HOK := Lib.hid hok
    have e := HN.out
    subst e
    clear hS hok HN
    go_wp2
    go_loopw [11] (fun i wr => ∃ k : Nat, k ≤ l.length ∧ i = .int .i64 k ∧ (plN l k).length ≤ 40 * k ∧ Lib.IsBuilderF 78 5 w1.heap.size w1.heap.size (Lib.byteCells (plN l k)) wr ∧ Below w1.heap.size w1 wr) (fun i _ => l.length - (intOf i).toNat)
    case atStart => exact ⟨0, Nat.zero_le _, rfl, by rw [plN_zero]; exact Nat.le_refl _, by rw [plN_zero]; exact builder_new w1, (Below.refl _ _).alloc (Nat.le_refl _) _⟩
    case round =>
      obtain ⟨k, hk, rfl, hz, hbd, hbw⟩ := hrel
      have HBD := Lib.hid hbd
      have HBW := Lib.hid hbw
      have hzw := hbw.size
      have ht2 := ht1.below hbw
      clear hbd hbw
      by_cases hlt : k < l.length
      · obtain ⟨t, b, o, ht, rfl, hbl, c0, c1, c2, c3⟩ := ht2.at (k := k) hlt
        have htok := (okN_at HOK.out hlt ht).1
        have hpl := t.pl_le htok
        have HT := Lib.hid (plN_succ ht)
        have hz' : (plN l (k + 1)).length ≤ 40 * (k + 1) := by rw [HT.out, List.length_append]; omega
        by_cases h0 : t.k = 0
        · have b0 : (t.k == 0) = true := by rw [h0]; rfl
          have HPL := Lib.hid (show t.pl = t.s.data.toList from by simp [Tk.pl, h0])
          have hts40 : t.s.size ≤ 40 := by rw [size_list, ← HPL.out]; exact hpl
          clear h0 ht
          go_wp2_with fail
          refine (WriteString_k w1.heap.size w1.heap.size _ t.s _ (builder_alloc HBD.out _) (by rw [Lib.byteCells_length]; omega) (by simp; omega)).mono ?_
          rintro e w3 ⟨rfl, h3, hb3⟩
          rw [str_app, ← HPL.out, ← HT.out] at h3
          have H3 := Lib.hid h3
          have HB3 := Lib.hid ((HBW.out.alloc hzw _).trans hb3)
          clear h3 hb3 c0 c1 c2 c3
          go_wp2
          go_roundw
          case rel => exact ⟨k + 1, by omega, by go_num, hz', H3.out, HB3.out⟩
          case measure => simp [intOf] <;> omega
        · have b0 : (t.k == 0) = false := by simpa using h0
          by_cases h1 : t.k = 1
          · have b1 : (t.k == 1) = true := by rw [h1]; rfl
            have hd := t.d_bd htok h1
            have HPL := Lib.hid (show t.pl = List.replicate t.d.toNat 32 from by simp [Tk.pl, h1])
            obtain ⟨d, hd'⟩ := Int.eq_ofNat_of_zero_le hd.1
            rw [hd'] at c2
            have hd9 : d ≤ 9 := by omega
            have HD := Lib.hid hd'
            clear h0 h1 ht hd hd'
            go_wp2_with fail
            refine (Tryz.strings_Repeat ⟨#[32]⟩ d _ (by omega) (by show 1 * d ≤ _; omega)).mono ?_
            rintro e w3 ⟨rfl, hb3⟩
            rw [show (⟨#[32]⟩ : ByteArray).data.toList = [32] from rfl, repeat_one]
            have hbd3 := builder_keep (builder_alloc HBD.out (.cells #[.int .i64 t.k, .string t.s, .int .i64 d, .int .i64 t.o] 38)) hb3
            have HB3 := Lib.hid ((HBW.out.alloc hzw _).trans (hb3.mono (by simp; omega)))
            have hz3 := HB3.out.size
            clear hb3 c0 c1 c2 c3
            obtain ⟨s, hs⟩ : ∃ s : ByteArray, (⟨(List.replicate d (32 : UInt8)).toArray⟩ : ByteArray) = s := ⟨_, rfl⟩
            have hsl : s.data.toList = List.replicate d 32 := by rw [← hs]
            have hsz : s.size ≤ 9 := by rw [size_list, hsl]; simpa using hd9
            have HSL := Lib.hid hsl
            rw [hs]
            clear hs hsl
            go_wp2_with fail
            refine (WriteString_k w1.heap.size w1.heap.size _ s _ hbd3 (by rw [Lib.byteCells_length]; omega) hz3).mono ?_
            rintro e w4 ⟨rfl, h4', hb4⟩
            rw [str_app, HSL.out, show List.replicate d (32 : UInt8) = t.pl from by rw [HPL.out, HD.out]; rfl, ← HT.out] at h4'
            have H4 := Lib.hid h4'
            have HB4 := Lib.hid (HB3.out.trans hb4)
            clear h4' hb4 hbd3
            go_wp2
            go_roundw
            case rel => exact ⟨k + 1, by omega, by go_num, hz', H4.out, HB4.out⟩
            case measure => simp [intOf] <;> omega
          · have b1 : (t.k == 1) = false := by simpa using h1
            by_cases h4' : t.k = 4
            · have b4 : (t.k == 4) = true := by rw [h4']; rfl
              have HPL := Lib.hid (show t.pl = [10] from by simp [Tk.pl, h4'])
              clear h0 h1 h4' ht
              go_wp2_with fail
              refine (WriteByte_k w1.heap.size w1.heap.size _ 10 _ (builder_alloc HBD.out _) (by rw [Lib.byteCells_length]; omega) (by simp; omega)).mono ?_
              rintro e w3 ⟨rfl, h3, hb3⟩
              rw [show Lib.byteCells (plN l k) ++ [Value.int .u8 10] = Lib.byteCells (plN l (k + 1)) from by rw [HT.out, HPL.out]; simp [Lib.byteCells]] at h3
              have H3 := Lib.hid h3
              have HB3 := Lib.hid ((HBW.out.alloc hzw _).trans hb3)
              clear h3 hb3 c0 c1 c2 c3
              go_wp2
              go_roundw
              case rel => exact ⟨k + 1, by omega, by go_num, hz', H3.out, HB3.out⟩
              case measure => simp [intOf] <;> omega
            · have b4 : (t.k == 4) = false := by simpa using h4'
              have HPL := Lib.hid (show t.pl = [] from by simp [Tk.pl, h0, h1, h4'])
              clear h0 h1 h4' ht
              go_wp2
              go_roundw
              case rel => exact ⟨k + 1, by omega, by go_num, hz', by rw [HT.out, HPL.out, List.append_nil]; exact builder_alloc HBD.out _, HBW.out.alloc hzw _⟩
              case measure => simp [intOf] <;> omega
      · have hkn : k = l.length := by omega
        subst hkn
        go_wp2_with fail
        refine (Tryz.Builder_String_any_k w1.heap.size w1.heap.size _ _ HBD.out hzw).mono ?_
        rintro e w3 ⟨rfl, _, hb3, _⟩
        have HB3 := Lib.hid (HB.out.trans ((HBW.out.trans hb3).mono hz1))
        clear hb3
        go_wp2
        go_ret
        rw [HP.out]
        exact ⟨rfl, HB3.out⟩
end Go.Proofs.YthjkgbcomjiejadGreatDoor
