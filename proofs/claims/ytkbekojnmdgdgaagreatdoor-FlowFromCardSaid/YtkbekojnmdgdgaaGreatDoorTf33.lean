/-
  Part 33 of the texts behind the law: TFlTakeK, TFlValid, TFlFromC, TFlState, TFlTexts, TFlFromP, TFlFrom, TStateIn.
-/
import Derived.Test.YtkbekojnmdgdgaaGreatDoorTf32
import Derived.Test.YtkbekojnmdgdgaaGreatDoorTf26
import Derived.Test.YtkbekojnmdgdgaaGreatDoorTf11
import Derived.Deep.RegionHeld3
import Derived.Test.YtkbekojnmdgdgaaGreatDoorTf23
import Derived.Test.YtkbekojnmdgdgaaGreatDoorTf2
import Derived.Deep.Slices
/- FlTakeK -/
namespace Go.Proofs.YtkbekojnmdgdgaaGreatDoor
open Go.RowKit Go.Maps
set_option maxRecDepth 20000
def kyI (os : List ByteArray) (l : List Ky.T) (i : Nat) : Bool :=
 let t := l.getD i ⟨ByteArray.empty, ByteArray.empty, 0⟩
 decide (1 ≤ t.key.size ∧ t.key.size ≤ 16) && (hrB os t.name t.id && (l.take i).all fun a => !Ky.same a t.name t.key)
def kyB (os : List ByteArray) (l : List Ky.T) : Bool := decide (l.length ≤ 128) && (List.range l.length).all (kyI os l)
theorem Ky.putB_none {l : List Ky.T} {n k : ByteArray} : Ky.putB ⟨128, l⟩ n k = true ↔ ∀ a ∈ l, Ky.same a n k = false := by
 unfold Ky.putB
 rw [Option.isNone_iff_eq_none, Ky.find_none]
theorem all_same {l : List Ky.T} {n k : ByteArray} : (l.all fun a => !Ky.same a n k) = true ↔ ∀ a ∈ l, Ky.same a n k = false := by
 rw [List.all_eq_true]
 exact ⟨fun h a ha => by have := h a ha; simpa using this, fun h a ha => by rw [h a ha]; rfl⟩
set_option maxHeartbeats 4000000 in
theorem takeKeys_any {w0 w : World} {g : Nat} {s0 : Fw.S} (h : MadeF w0 g s0 w) (h0 : s0.keys = []) (A : Option Addr) (l : List Ky.T) (c : Nat) (O : Nat → Prop) (hl : Ents w0 O A l) (hok : ∀ t ∈ l, Ky.ok t.name t.key t.id) :
  Calls Tryz.prog 48 #[.pointer (some ⟨g, 0, none⟩), .slice A l.length c] w (TkG w0 g (kyB (s0.runs.map (·.2)) l) { s0 with keys := l }) := by
 obtain ⟨n, hn1⟩ : ∃ n, n = l.length := ⟨_, rfl⟩
 have HN := Lib.hid hn1
 obtain ⟨os, hos⟩ : ∃ os, os = s0.runs.map (·.2) := ⟨_, rfl⟩
 have HO := Lib.hid hos
 have V : Hid (kyB (s0.runs.map (·.2)) l = (decide (n ≤ 128) && (List.range n).all (kyI os l))) := Lib.hid (by rw [hn1, hos]; rfl)
 generalize kyB (s0.runs.map (·.2)) l = v at *
 have H := Lib.hid h
 have LS := Lib.hid hl
 have OK := Lib.hid hok
 have I0 : Hid (MadeF w0 g { s0 with keys := l.take 0 } w ∧ Ky.Inv ⟨128, l.take 0⟩) := Lib.hid (by
  rw [List.take_zero]
  exact ⟨by rw [← h0]; exact h, ⟨by show (1 : Int) ≤ 128; decide, by show (128 : Int) ≤ 128; decide, by show ((0 : Nat) : Int) ≤ 128; decide, List.Pairwise.nil⟩⟩)
 rw [← hn1]
 clear h hl hok hn1 hos
 by_cases h16 : ¬ (n ≤ 128)
 ·have R : Hid (v = false) := Lib.hid (by rw [V.out, decide_eq_false h16]; rfl)
  have hi : (128 : Int) < (n : Int) := by omega
  clear V h16
  go_enter Tryz.func48, Tryz.ntmps48
  go_wp2
  go_ret
  exact TkG.no H.out rfl R.out
 have n16 : n ≤ 128 := Decidable.not_not.1 h16
 have hi : ¬ (128 : Int) < (n : Int) := by omega
 have V2 : Hid (v = (List.range n).all (kyI os l)) := Lib.hid (by rw [V.out, decide_eq_true n16]; rfl)
 clear V h16
 go_enter Tryz.func48, Tryz.ntmps48
 go_wp2_with fail
 go_loopw [14] (fun iv wr => ∃ k : Nat, k ≤ n ∧ iv = .int .i64 k ∧ Hid (∀ i, i < k → kyI os l i = true) ∧ Hid (MadeF w0 g { s0 with keys := l.take k } wr ∧ Ky.Inv ⟨128, l.take k⟩)) (fun iv _ => n - (intOf iv).toNat)
 case atStart => exact ⟨0, Nat.zero_le _, rfl, Lib.hid (fun i hi => by omega), I0⟩
 case round =>
  obtain ⟨k, hk, rfl, HA, HI⟩ := hrel
  by_cases hlt : k < n
  ·have hlt' : (k : Int) < (n : Int) := by omega
   have K1 : Hid (k < l.length) := Lib.hid (by rw [← HN.out]; exact hlt)
   have KV := Lib.hid HI.out.2
   have HM := Lib.hid HI.out.1
   obtain ⟨a, p, mm, bw⟩ := HI.out.1
   have P := Lib.hid p
   have MM := Lib.hid mm
   have BW := Lib.hid bw
   obtain ⟨b, off, t, hA, -, ht, y0, y1, y2⟩ := (LS.out.keep bw.size fun b _ hl => bw.block b hl).at_ K1.out
   have HT : Hid (l[k]'K1.out = t) := Lib.hid (by
    obtain ⟨h1, h2⟩ := List.getElem?_eq_some_iff.1 ht.out
    exact h2)
   have KI : Hid (kyI os l k = (decide (1 ≤ t.key.size ∧ t.key.size ≤ 16) && (hrB os t.name t.id && (l.take k).all fun a => !Ky.same a t.name t.key))) := Lib.hid (by
    unfold kyI
    rw [getD_at K1.out, HT.out])
   have TO : Hid (Ky.ok t.name t.key t.id) := Lib.hid (OK.out t (by rw [← HT.out]; exact List.getElem_mem (l := l) K1.out))
   have FB : Hid (kyI os l k = false → v = false) := Lib.hid fun e => by
    rw [V2.out, List.all_eq_false]
    exact ⟨k, List.mem_range.2 hlt, by rw [e]; decide⟩
   have NXA : Hid (kyI os l k = true → ∀ i, i < k + 1 → kyI os l i = true) := Lib.hid fun e i hi => by
    by_cases h : i = k
    ·subst h; exact e
    ·exact HA.out i (by omega)
   have TS : Hid (l.take (k + 1) = l.take k ++ [t]) := Lib.hid (by rw [List.take_succ_eq_append_getElem K1.out, HT.out])
   have TL : Hid ((l.take k).length = k) := Lib.hid (by rw [List.length_take]; have := K1.out; omega)
   have HR := Lib.hid (fun W (hW : Below wr.heap.size wr W) => hasRun_any (P.out.on hW) t.name t.id ⟨TO.out.2.1, TO.out.2.2⟩)
   have ho : (({ s0 with keys := l.take k } : Fw.S).runs.map (·.2)) = os := HO.out.symm
   rw [ho] at HR
   generalize kyI os l k = ki at *
   clear p mm bw ht ho HI
   subst hA
   obtain ⟨w2, hw2⟩ : ∃ w2, w2 = wr.alloc (.cells #[.string t.name, .string t.key, .int .i64 t.id] 65) := ⟨_, rfl⟩
   have B2 : Hid (Below wr.heap.size wr w2) := Lib.hid (by rw [hw2]; exact (Below.refl _ _).alloc (Nat.le_refl _) _)
   have X2 : Hid (w2.heap[wr.heap.size]? = some (.cells #[.string t.name, .string t.key, .int .i64 t.id] 65 (0, 0))) := Lib.hid (by rw [hw2]; exact heap_alloc_new _ _)
   have H2 := Lib.hid (HM.out.on B2.out)
   obtain ⟨⟨z0, z1, z2⟩, -⟩ := obT X2.out
   have CH := Lib.hid (HR.out w2 B2.out)
   go_upto_region 6 with (fail)
   rw [← hw2]
   clear hw2 y0 y1 y2 HR
   by_cases hke : t.key = { data := #[] }
   ·have R : Hid (v = false) := Lib.hid (FB.out (by rw [KI.out, decide_eq_false (by rw [hke]; decide)]; rfl))
    rw [hke] at z1
    clear hke CH
    go_wp2
    go_ret
    exact TkG.no H2.out rfl R.out
   have NE : t.key.toList.isEmpty = false := bs_nonempty hke
   have K1S : Hid (1 ≤ t.key.size) := Lib.hid (by
    rcases Nat.eq_zero_or_pos t.key.size with h | h
    ·exact absurd (by
      generalize t.key = x at h
      cases x with | mk y => simp [ByteArray.size] at h; rw [h]) hke
    ·exact h)
   by_cases hkl : ¬ (t.key.size ≤ 16)
   ·have R : Hid (v = false) := Lib.hid (FB.out (by rw [KI.out, decide_eq_false (fun h => hkl h.2)]; rfl))
    have hkl2 : (16 : Int) < (t.key.size : Int) := by omega
    clear hke hkl CH
    go_wp2
    go_ret
    exact TkG.no H2.out rfl R.out
   have hkl1 : t.key.size ≤ 16 := Decidable.not_not.1 hkl
   have hkl2 : ¬ (16 : Int) < (t.key.size : Int) := by omega
   have KI2 : Hid (ki = (hrB os t.name t.id && (l.take k).all fun a => !Ky.same a t.name t.key)) := Lib.hid (by rw [KI.out, decide_eq_true ⟨K1S.out, hkl1⟩]; rfl)
   clear hke hkl KI K1S hkl1
   go_wp2_with fail
   refine CH.out.mono ?_; rintro e w3 ⟨rfl, b3⟩
   have B3 : Hid (Below wr.heap.size wr w3) := Lib.hid (B2.out.trans (b3.out.mono B2.out.size))
   have H3 := Lib.hid (HM.out.on B3.out)
   clear CH z0 z1 z2
   cases hh : hrB os t.name t.id with
   | false =>
    have R : Hid (v = false) := Lib.hid (FB.out (by rw [KI2.out, hh]; rfl))
    clear hh
    go_wp2
    go_ret
    exact TkG.no H3.out rfl R.out
   | true =>
    have KI3 : Hid (ki = (l.take k).all fun a => !Ky.same a t.name t.key) := Lib.hid (by rw [KI2.out, hh]; rfl)
    clear hh KI2
    have P3 := Lib.hid (P.out.on B3.out)
    have X3 : Hid (w3.heap[wr.heap.size]? = some (.cells #[.string t.name, .string t.key, .int .i64 t.id] 65 (0, 0))) := Lib.hid ((b3.out.block _ (lt_of_block X2.out)).trans X2.out)
    have CP := Lib.hid (keysPut_any a.k a.K ⟨128, l.take k⟩ t.name t.key t.id w3.drew P3.out.drew.keys KV.out TO.out)
    have SP : Hid (∀ O2 W, Step a.K O2 w3.drew W → W.cell? ⟨g, 4, none⟩ = some (.pointer (some ⟨a.k, 0, none⟩)) ∧ W.cell? ⟨wr.heap.size, 0, none⟩ = some (.string t.name) ∧ W.cell? ⟨wr.heap.size, 1, none⟩ = some (.string t.key) ∧ W.cell? ⟨wr.heap.size, 2, none⟩ = some (.int .i64 t.id)) := Lib.hid fun O2 W st => by
     have h1 := st.only.block g (lt_of_block P3.out.obj) P3.out.apart.k
     have h2 := st.only.block wr.heap.size (lt_of_block X3.out) fun hk => by have := P.out.lt _ (.inl (.inr (.inr (.inr (.inr hk))))); omega
     obtain ⟨⟨x0, x1, x2⟩, -⟩ := obT X3.out
     exact ⟨(World.cell?_of_block (w := w3) h1).trans P3.out.cells.1.2.2.2.2, (World.cell?_of_block (w := w3) h2).trans x0, (World.cell?_of_block (w := w3) h2).trans x1, (World.cell?_of_block (w := w3) h2).trans x2⟩
    have S0 : Hid (w3.drew.cell? ⟨g, 4, none⟩ = some (.pointer (some ⟨a.k, 0, none⟩)) ∧ w3.drew.cell? ⟨wr.heap.size, 0, none⟩ = some (.string t.name) ∧ w3.drew.cell? ⟨wr.heap.size, 1, none⟩ = some (.string t.key) ∧ w3.drew.cell? ⟨wr.heap.size, 2, none⟩ = some (.int .i64 t.id)) := Lib.hid (SP.out a.K _ (Step.refl _ _))
    go_upto_region 8 with (fail)
    refine wp_region_held_drew (S := (fun w' => w'.cell? ⟨g, 4, none⟩ = some (.pointer (some ⟨a.k, 0, none⟩)) ∧ w'.cell? ⟨wr.heap.size, 0, none⟩ = some (.string t.name) ∧ w'.cell? ⟨wr.heap.size, 1, none⟩ = some (.string t.key) ∧ w'.cell? ⟨wr.heap.size, 2, none⟩ = some (.int .i64 t.id))) (by kernel_rfl) ?hS1001 (fun hHeld => ?_)
    case hS1001 => exact S0.out
    refine wpAnyH_take (i := 0) (oi := ?o1002) (v := ?v1002) ?hi1002 (by kernel_rfl) (by kernel_rfl) (by kernel_rfl) ?hQ1002 (Or.inl ⟨?hg1002, ?hy1002⟩) (by assumption) ?rest1002
    case hi1002 => (simp only [List.getElem?_toArray, List.getElem?_cons_zero]; exact rfl)
    case hQ1002 => exact fun _ _ _ h => h
    case hg1002 => rfl
    case hy1002 => (intro w' hSw; (try dsimp only at hSw); go_simp; try with_reducible rfl)
    try simp only [Act.put, List.setIfInBounds_toArray, List.set_cons_zero, List.set_cons_succ]
    refine wpAnyH_take (i := 1) (oi := ?o1003) (v := ?v1003) ?hi1003 (by kernel_rfl) (by kernel_rfl) (by kernel_rfl) ?hQ1003 (Or.inl ⟨?hg1003, ?hy1003⟩) (by assumption) ?rest1003
    case hi1003 => (simp only [List.getElem?_toArray, List.getElem?_cons_zero, List.getElem?_cons_succ]; exact rfl)
    case hQ1003 => exact fun _ _ _ h => h
    case hg1003 => rfl
    case hy1003 => (intro w' hSw; (try dsimp only at hSw); go_simp; try with_reducible rfl)
    try simp only [Act.put, List.setIfInBounds_toArray, List.set_cons_zero, List.set_cons_succ]
    refine wpAnyH_take (i := 2) (oi := ?o1004) (v := ?v1004) ?hi1004 (by kernel_rfl) (by kernel_rfl) (by kernel_rfl) ?hQ1004 (Or.inl ⟨?hg1004, ?hy1004⟩) (by assumption) ?rest1004
    case hi1004 => (simp only [List.getElem?_toArray, List.getElem?_cons_zero, List.getElem?_cons_succ]; exact rfl)
    case hQ1004 => exact fun _ _ _ h => h
    case hg1004 => rfl
    case hy1004 => (intro w' hSw; (try dsimp only at hSw); go_simp; try with_reducible rfl)
    try simp only [Act.put, List.setIfInBounds_toArray, List.set_cons_zero, List.set_cons_succ]
    refine wpAnyH_take (i := 3) (oi := ?o1005) (v := ?v1005) ?hi1005 (by kernel_rfl) (by kernel_rfl) (by kernel_rfl) ?hQ1005 (Or.inl ⟨?hg1005, ?hy1005⟩) (by assumption) ?rest1005
    case hi1005 => (simp only [List.getElem?_toArray, List.getElem?_cons_zero, List.getElem?_cons_succ]; exact rfl)
    case hQ1005 => exact fun _ _ _ h => h
    case hg1005 => rfl
    case hy1005 => (intro w' hSw; (try dsimp only at hSw); go_simp; try with_reducible rfl)
    try simp only [Act.put, List.setIfInBounds_toArray, List.set_cons_zero, List.set_cons_succ]
    refine wpAnyH_take (i := 4) (oi := ?o1006) (v := ?v1006) ?hi1006 (by kernel_rfl) (by kernel_rfl) (by kernel_rfl) ?hQ1006 (Or.inl ⟨?hg1006, ?hy1006⟩) (by assumption) ?rest1006
    case hi1006 => (simp only [List.getElem?_toArray, List.getElem?_cons_zero, List.getElem?_cons_succ]; exact rfl)
    case hQ1006 => exact fun _ _ _ h => h
    case hg1006 => rfl
    case hy1006 => (intro w' hSw; (try dsimp only at hSw); go_simp; try with_reducible rfl)
    try simp only [Act.put, List.setIfInBounds_toArray, List.set_cons_zero, List.set_cons_succ]
    refine wpAnyH_take (i := 5) (oi := ?o1007) (v := ?v1007) ?hi1007 (by kernel_rfl) (by kernel_rfl) (by kernel_rfl) ?hQ1007 (Or.inl ⟨?hg1007, ?hy1007⟩) (by assumption) ?rest1007
    case hi1007 => (simp only [List.getElem?_toArray, List.getElem?_cons_zero, List.getElem?_cons_succ]; exact rfl)
    case hQ1007 => exact fun _ _ _ h => h
    case hg1007 => rfl
    case hy1007 => (intro w' hSw; (try dsimp only at hSw); go_simp; try with_reducible rfl)
    try simp only [Act.put, List.setIfInBounds_toArray, List.set_cons_zero, List.set_cons_succ]
    refine wpAnyH_take (i := 6) (oi := ?o1008) (v := ?v1008) ?hi1008 (by kernel_rfl) (by kernel_rfl) (by kernel_rfl) ?hQ1008 (Or.inl ⟨?hg1008, ?hy1008⟩) (by assumption) ?rest1008
    case hi1008 => (simp only [List.getElem?_toArray, List.getElem?_cons_zero, List.getElem?_cons_succ]; exact rfl)
    case hQ1008 => exact fun _ _ _ h => h
    case hg1008 => rfl
    case hy1008 => (intro w' hSw; (try dsimp only at hSw); go_simp; try with_reducible rfl)
    try simp only [Act.put, List.setIfInBounds_toArray, List.set_cons_zero, List.set_cons_succ]
    refine wpAnyH_take (i := 7) (oi := ?o1009) (v := ?v1009) ?hi1009 (by kernel_rfl) (by kernel_rfl) (by kernel_rfl) ?hQ1009 (Or.inl ⟨?hg1009, ?hy1009⟩) (by assumption) ?rest1009
    case hi1009 => (simp only [List.getElem?_toArray, List.getElem?_cons_zero, List.getElem?_cons_succ]; exact rfl)
    case hQ1009 => exact fun _ _ _ h => h
    case hg1009 => rfl
    case hy1009 => (intro w' hSw; (try dsimp only at hSw); go_simp; try with_reducible rfl)
    try simp only [Act.put, List.setIfInBounds_toArray, List.set_cons_zero, List.set_cons_succ]
    refine wpAnyH_ready (rs := [8]) (by kernel_rfl) (by simp) ?_
    refine AllReadyH.cons (o := ?o1010) ?hi1010 (fun K hK => ?_) AllReadyH.nil
    case hi1010 => (simp only [List.getElem?_toArray, List.getElem?_cons_zero, List.getElem?_cons_succ]; exact rfl)
    (go_simp; go_at_call 40; (with_reducible refine CP.out.mono ?_); rintro e w4 ⟨rfl, O2, k4, st⟩; have K4 := Lib.hid k4; have ST := Lib.hid st; clear k4 st; try dsimp only)
    refine hK.out _ _ ?_ (fun hHeld => ?_)
    ·exact SP.out _ _ ST.out
    clear hK K
    try simp only [Act.put, List.setIfInBounds_toArray, List.set_cons_zero, List.set_cons_succ]
    refine wpAnyH_take (i := 9) (oi := ?o1011) (v := ?v1011) ?hi1011 (by kernel_rfl) (by kernel_rfl) (by kernel_rfl) ?hQ1011 (Or.inl ⟨?hg1011, ?hy1011⟩) (by assumption) ?rest1011
    case hi1011 => (simp only [List.getElem?_toArray, List.getElem?_cons_zero, List.getElem?_cons_succ]; exact rfl)
    case hQ1011 => exact fun _ _ _ h => h
    case hg1011 => rfl
    case hy1011 => (intro w' hSw; (try dsimp only at hSw); go_simp; try with_reducible rfl)
    try simp only [Act.put, List.setIfInBounds_toArray, List.set_cons_zero, List.set_cons_succ]
    refine wpAnyH_take (i := 10) (oi := ?o1012) (v := ?v1012) ?hi1012 (by kernel_rfl) (by kernel_rfl) (by kernel_rfl) ?hQ1012 (Or.inl ⟨?hg1012, ?hy1012⟩) (by assumption) ?rest1012
    case hi1012 => (simp only [List.getElem?_toArray, List.getElem?_cons_zero, List.getElem?_cons_succ]; exact rfl)
    case hQ1012 => exact fun _ _ _ h => h
    case hg1012 => rfl
    case hy1012 => (intro w' hSw; (try dsimp only at hSw); go_simp; try with_reducible rfl)
    try simp only [Act.put, List.setIfInBounds_toArray, List.set_cons_zero, List.set_cons_succ]
    refine wpAnyH_take (i := 11) (oi := ?o1013) (v := ?v1013) ?hi1013 (by kernel_rfl) (by kernel_rfl) (by kernel_rfl) ?hQ1013 (Or.inl ⟨?hg1013, ?hy1013⟩) (by assumption) ?rest1013
    case hi1013 => (simp only [List.getElem?_toArray, List.getElem?_cons_zero, List.getElem?_cons_succ]; exact rfl)
    case hQ1013 => exact fun _ _ _ h => h
    case hg1013 => rfl
    case hy1013 => (intro w' hSw; (try dsimp only at hSw); go_simp; try with_reducible rfl)
    try simp only [Act.put, List.setIfInBounds_toArray, List.set_cons_zero, List.set_cons_succ]
    refine wpAnyH_take (i := 12) (oi := ?o1014) (v := ?v1014) ?hi1014 (by kernel_rfl) (by kernel_rfl) (by kernel_rfl) ?hQ1014 (Or.inl ⟨?hg1014, ?hy1014⟩) (by assumption) ?rest1014
    case hi1014 => (simp only [List.getElem?_toArray, List.getElem?_cons_zero, List.getElem?_cons_succ]; exact rfl)
    case hQ1014 => exact fun _ _ _ h => h
    case hg1014 => rfl
    case hy1014 => (intro w' hSw; (try dsimp only at hSw); go_simp; try with_reducible rfl)
    try simp only [Act.put, List.setIfInBounds_toArray, List.set_cons_zero, List.set_cons_succ]
    refine wpAnyH_take (i := 13) (oi := ?o1015) (v := ?v1015) ?hi1015 (by kernel_rfl) (by kernel_rfl) (by kernel_rfl) ?hQ1015 (Or.inl ⟨?hg1015, ?hy1015⟩) (by assumption) ?rest1015
    case hi1015 => (simp only [List.getElem?_toArray, List.getElem?_cons_zero, List.getElem?_cons_succ]; exact rfl)
    case hQ1015 => exact fun _ _ _ h => h
    case hg1015 => rfl
    case hy1015 => (intro w' hSw; (try dsimp only at hSw); go_simp; try with_reducible rfl)
    try simp only [Act.put, List.setIfInBounds_toArray, List.set_cons_zero, List.set_cons_succ]
    refine wpAnyH_done (by kernel_rfl) ?_ _
    have M4 : Hid (MadeF w0 g { s0 with keys := (Ky.putS ⟨128, l.take k⟩ t.name t.key t.id).l } w4) := Lib.hid (by
     obtain ⟨p5, q5⟩ := P3.out.drew.putKey K4.out ST.out
     exact MadeF.step P.out MM.out BW.out p5 (StepM.ahead B3.out.drew q5))
    have PB := @Ky.putB_none (l.take k) t.name t.key
    cases hpb : Ky.putB ⟨128, l.take k⟩ t.name t.key with
    | false =>
     have R : Hid (v = false) := Lib.hid (FB.out (by
      rw [KI3.out]
      cases hc : (l.take k).all fun a => !Ky.same a t.name t.key with
      | false => rfl
      | true => rw [PB.2 (all_same.1 hc)] at hpb; cases hpb))
     clear hpb PB
     go_wp2
     go_ret
     exact TkG.no M4.out rfl R.out
    | true =>
     have AS : Hid (∀ a ∈ l.take k, Ky.same a t.name t.key = false) := Lib.hid (PB.1 hpb)
     have NX := Lib.hid (NXA.out (by rw [KI3.out]; exact all_same.2 AS.out))
     have PS : Hid (Ky.putS ⟨128, l.take k⟩ t.name t.key t.id = ⟨128, l.take (k + 1)⟩) := Lib.hid (by rw [Ky.putS_new AS.out (by rw [TL.out]; omega), TS.out])
     have IN : Hid (MadeF w0 g { s0 with keys := l.take (k + 1) } w4 ∧ Ky.Inv ⟨128, l.take (k + 1)⟩) := Lib.hid (by
      have h1 := M4.out
      have h2 := KV.out.put t.name t.key t.id
      rw [PS.out] at h1 h2
      exact ⟨h1, h2⟩)
     clear hpb PB
     go_wp2
     go_roundw
     case rel => exact ⟨k + 1, by omega, by go_num, NX, IN⟩
     case measure => simp [intOf]; omega
  ·obtain rfl : k = n := by omega
   have hge : ¬ (k : Int) < (k : Int) := by omega
   have R : Hid (v = true) := Lib.hid (by rw [V2.out]; exact List.all_eq_true.2 fun i hi => HA.out i (List.mem_range.1 hi))
   go_wp2
   go_ret
   exact TkG.yes HI.out.1 (by rw [HN.out, List.take_length]) rfl R.out
end Go.Proofs.YtkbekojnmdgdgaaGreatDoor
/- FlValid -/
namespace Go.Proofs.YtkbekojnmdgdgaaGreatDoor
open Go.RowKit
def mS (t : Fw.St) : Fw.S := { Fw.new with clock := t.clock, defs := dfsZ t.names t.texts }
def frB (t : Fw.St) : Bool := decide (0 ≤ t.clock ∧ t.clock ≤ 1099511627776) && (dfB t.names t.texts && (rnB (mS t) t.runs t.of && kyB ((t.runs.zip t.of).map (·.2)) t.keys))
theorem dfB_iff {ns xs : List ByteArray} : dfB ns xs = true ↔ ns.length ≤ 16 ∧ ns.length = xs.length ∧ ns.Nodup ∧ (∀ n ∈ ns, Nm.isName (Fw.tx n) = true) ∧ ∀ x ∈ xs, (Df.parse (Fw.tx x)).2 = 0 ∧ Fw.bs (Df.showT (Df.parse (Fw.tx x)).1) = x := by
 unfold dfB
 simp only [Bool.and_eq_true, decide_eq_true_eq, List.all_eq_true, List.mem_range]
 refine and_congr_right fun h1 => and_congr_right fun h2 => ?_
 have E : ∀ i (hi : i < ns.length) (hx : i < xs.length), dfI ns xs i = true ↔ Nm.isName (Fw.tx ns[i]) = true ∧ ns[i] ∉ ns.take i ∧ (Df.parse (Fw.tx xs[i])).2 = 0 ∧ Fw.bs (Df.showT (Df.parse (Fw.tx xs[i])).1) = xs[i] := fun i hi hx => by
  unfold dfI
  rw [getD_at hi, getD_at hx, Bool.and_eq_true, Bool.and_eq_true, ninB_iff]
  unfold shB
  rw [decide_eq_true_eq]
  exact Iff.rfl
 constructor
 ·intro h
  refine ⟨?_, fun n hn => ?_, fun x hx => ?_⟩
  ·rw [List.nodup_iff_pairwise_ne, List.pairwise_iff_getElem]
   intro i j hi hj hij e
   refine ((E j hj (by omega)).1 (h j hj)).2.1 ?_
   rw [← e]
   exact List.mem_iff_getElem.2 ⟨i, by rw [List.length_take]; omega, by rw [List.getElem_take]⟩
  ·obtain ⟨i, hi, rfl⟩ := List.getElem_of_mem hn
   exact ((E i hi (by omega)).1 (h i hi)).1
  ·obtain ⟨i, hi, rfl⟩ := List.getElem_of_mem hx
   exact ((E i (by omega) hi).1 (h i (by omega))).2.2
 ·rintro ⟨a, b, c⟩ i hi
  refine (E i hi (by omega)).2 ⟨b _ (List.getElem_mem hi), fun hm => ?_, c _ (List.getElem_mem (by omega))⟩
  obtain ⟨j, hj, e⟩ := List.getElem_of_mem hm
  rw [List.length_take] at hj
  rw [List.getElem_take] at e
  rw [List.nodup_iff_pairwise_ne, List.pairwise_iff_getElem] at a
  exact a j i (by omega) hi (by omega) e
theorem rnB_iff {s : Fw.S} {rs : List Rn.R} {os : List ByteArray} : rnB s rs os = true ↔ rs.length ≤ 64 ∧ rs.length = os.length ∧ ∀ p ∈ rs.zip os, Fw.RunV p.1 ∧ Fw.lookD s p.2 = some p.1.d := by
 unfold rnB
 simp only [Bool.and_eq_true, decide_eq_true_eq, List.all_eq_true, List.mem_range]
 refine and_congr_right fun h1 => and_congr_right fun h2 => ?_
 have E : ∀ i (hi : i < rs.length) (hx : i < os.length), rnI s rs os i = true ↔ Fw.RunV rs[i] ∧ Fw.lookD s os[i] = some rs[i].d := fun i hi hx => by
  unfold rnI
  rw [getD_at hi, getD_at hx]
  cases Fw.lookD s os[i] with
  | none => exact ⟨fun h => (by cases h), fun h => (by cases h.2)⟩
  | some d =>
   rw [irB_iff]
   exact ⟨fun ⟨a, b⟩ => ⟨b, by rw [a]⟩, fun ⟨a, b⟩ => ⟨(Option.some.inj b).symm, a⟩⟩
 constructor
 ·intro h p hp
  obtain ⟨i, hi, rfl⟩ := List.getElem_of_mem hp
  rw [List.length_zip] at hi
  rw [List.getElem_zip]
  exact (E i (by omega) (by omega)).1 (h i (by omega))
 ·intro h i hi
  refine (E i hi (by omega)).2 ?_
  have hz : i < (rs.zip os).length := by rw [List.length_zip]; omega
  have := h _ (List.getElem_mem hz)
  rw [List.getElem_zip] at this
  exact this
theorem same_symm {a b : Ky.T} (h : Ky.same a b.name b.key = false) : Ky.same b a.name a.key = false := by
 cases hs : Ky.same b a.name a.key with
 | false => rfl
 | true =>
  obtain ⟨e1, e2⟩ := Ky.same_iff.1 hs
  rw [Ky.same_iff.2 ⟨e1.symm, e2.symm⟩] at h
  cases h
theorem kyB_iff {rs : List Rn.R} {os : List ByteArray} (hl : rs.length = os.length) {l : List Ky.T} : kyB ((rs.zip os).map (·.2)) l = true ↔ Ky.Inv ⟨128, l⟩ ∧ ∀ k ∈ l, 1 ≤ k.key.size ∧ k.key.size ≤ 16 ∧ 1 ≤ k.id ∧ ∃ p, (rs.zip os)[(k.id - 1).toNat]? = some p ∧ p.2 = k.name := by
 have ho : (rs.zip os).map (·.2) = os := List.map_snd_zip (by omega)
 rw [ho]
 have HR : ∀ (n : ByteArray) (id : Int), hrB os n id = true ↔ 1 ≤ id ∧ ∃ p, (rs.zip os)[(id - 1).toNat]? = some p ∧ p.2 = n := fun n id => by
  unfold hrB
  rw [decide_eq_true_eq]
  constructor
  ·rintro ⟨h1, h2, h3⟩
   have hi : (id - 1).toNat < os.length := by omega
   have hz : (id - 1).toNat < (rs.zip os).length := by rw [List.length_zip]; omega
   rw [getD_at hi] at h3
   exact ⟨h1, _, List.getElem?_eq_getElem hz, by rw [List.getElem_zip]; exact h3⟩
  ·rintro ⟨h1, p, h2, h3⟩
   obtain ⟨hz, e⟩ := List.getElem?_eq_some_iff.1 h2
   rw [List.length_zip] at hz
   rw [List.getElem_zip] at e
   refine ⟨h1, by omega, ?_⟩
   rw [getD_at (by omega), ← h3, ← e]
 unfold kyB
 simp only [Bool.and_eq_true, decide_eq_true_eq, List.all_eq_true, List.mem_range]
 have E : ∀ i (hi : i < l.length), kyI os l i = true ↔ (1 ≤ l[i].key.size ∧ l[i].key.size ≤ 16) ∧ hrB os l[i].name l[i].id = true ∧ ∀ a ∈ l.take i, Ky.same a l[i].name l[i].key = false := fun i hi => by
  unfold kyI
  rw [getD_at hi, Bool.and_eq_true, Bool.and_eq_true, decide_eq_true_eq, all_same]
 constructor
 ·rintro ⟨h1, h2⟩
  refine ⟨⟨by show (1 : Int) ≤ 128; decide, by show (128 : Int) ≤ 128; decide, by show (l.length : Int) ≤ 128; omega, ?_⟩, fun k hk => ?_⟩
  ·rw [List.pairwise_iff_getElem]
   intro i j hi hj hij
   have hj' : j < l.length := hj
   exact same_symm (((E j hj').1 (h2 j hj')).2.2 _ (List.mem_iff_getElem.2 ⟨i, by rw [List.length_take]; omega, by rw [List.getElem_take]⟩))
  ·obtain ⟨i, hi, rfl⟩ := List.getElem_of_mem hk
   obtain ⟨a, b, _⟩ := (E i hi).1 (h2 i hi)
   obtain ⟨b1, b2⟩ := (HR _ _).1 b
   exact ⟨a.1, a.2, b1, b2⟩
 ·rintro ⟨hI, hk⟩
  have hlen : (l.length : Int) ≤ 128 := hI.few
  refine ⟨by omega, fun i hi => (E i hi).2 ?_⟩
  obtain ⟨a, b, c, d⟩ := hk _ (List.getElem_mem hi)
  exact ⟨⟨a, b⟩, (HR _ _).2 ⟨c, d⟩, Ky.Inv.fresh hI hi⟩
theorem frB_iff {t : Fw.St} : frB t = true ↔ Fw.Valid t := by
 unfold frB
 rw [Bool.and_eq_true, Bool.and_eq_true, Bool.and_eq_true, decide_eq_true_eq, dfB_iff, rnB_iff]
 have hb : ∀ n, Fw.lookD (mS t) n = Fw.lookD (Fw.build t) n := fun _ => rfl
 constructor
 ·rintro ⟨⟨c0, c1⟩, ⟨d1, d2, d3, d4, d5⟩, ⟨r1, r2, r3⟩, k⟩
  obtain ⟨k1, k2⟩ := (kyB_iff r2).1 k
  exact ⟨c0, c1, d3, d1, d4, d2.symm, d5, r1, r2.symm, fun p hp => ⟨(r3 p hp).1, (hb _).symm.trans (r3 p hp).2⟩, k1, k2⟩
 ·intro h
  exact ⟨⟨h.c0, h.c1⟩, ⟨h.nm, h.nt.symm, h.nn, h.nok, h.tok⟩, ⟨h.rm, h.ro.symm, fun p hp => ⟨(h.rok p hp).1, (hb _).trans (h.rok p hp).2⟩⟩, (kyB_iff h.ro.symm).2 ⟨h.ki, h.kok⟩⟩
end Go.Proofs.YtkbekojnmdgdgaaGreatDoor
/- FlFromC -/
namespace Go.Proofs.YtkbekojnmdgdgaaGreatDoor
open Go.RowKit
set_option maxRecDepth 20000
theorem dfsZ_ok {ns xs : List ByteArray} (h : dfB ns xs = true) : ∀ p ∈ dfsZ ns xs, Df.Ok p.2 ∧ Df.parse (Df.showT p.2) = (p.2, 0) := fun p hp => by
 obtain ⟨n, d⟩ := p
 obtain ⟨x, hx, rfl⟩ := List.mem_map.1 (List.of_mem_zip hp).2
 have h2 := ((dfB_iff.1 h).2.2.2.2 x hx).1
 obtain ⟨a, b⟩ := Df.parse_back (t := Fw.tx x) (d := (Df.parse (Fw.tx x)).1) (by rw [← h2])
 exact ⟨a, by rw [b.1]; exact b.2.2⟩
def FrG (w : World) (t : Fw.St) (e : Ending) (w' : World) : Prop :=
 Hid (frB t = true → ∃ g M R, e = .returned (.tuple #[.pointer (some ⟨g, 0, none⟩), .int .i64 0]) ∧ FP w' g M R (Fw.build t) ∧ ∀ i, R i → w.heap.size ≤ i) ∧ Hid (frB t = false → e = .returned (.tuple #[.pointer none, .int .i64 2])) ∧ Hid (Below w.heap.size w w')
theorem FrG.no {w w' : World} {t : Fw.St} (h : frB t = false) (hb : Below w.heap.size w w') : FrG w t (.returned (.tuple #[.pointer none, .int .i64 2])) w' :=
 ⟨Lib.hid fun e => (by rw [h] at e; cases e), Lib.hid fun _ => rfl, Lib.hid hb⟩
def svB (p : At5) (tc : Int) (n1 n2 n3 n4 n5 : Nat) : Array Value := #[.int .i64 tc, .slice p.N n1 p.cn, .slice p.X n2 p.cx, .slice p.R n3 p.cr, .slice p.F n4 p.cf, .slice p.K n5 p.ck]
theorem svB_at {w : World} {b : Nat} {p : At5} {tc : Int} {n1 n2 n3 n4 n5 : Nat} (h : w.heap[b]? = some (.cells (svB p tc n1 n2 n3 n4 n5) 57 (0, 0))) :
  w.cell? ⟨b, 0, none⟩ = some (.int .i64 tc) ∧ w.cell? ⟨b, 1, none⟩ = some (.slice p.N n1 p.cn) ∧ w.cell? ⟨b, 2, none⟩ = some (.slice p.X n2 p.cx) ∧ w.cell? ⟨b, 3, none⟩ = some (.slice p.R n3 p.cr) ∧ w.cell? ⟨b, 4, none⟩ = some (.slice p.F n4 p.cf) ∧ w.cell? ⟨b, 5, none⟩ = some (.slice p.K n5 p.ck) := by
 unfold svB at h
 refine ⟨?_, ?_, ?_, ?_, ?_, ?_⟩ <;> simp [World.cell?, h]
set_option maxHeartbeats 8000000 in
theorem from_any (t : Fw.St) (p : At5) (O : Nat → Prop) (w : World) (hF : FactsE w) (h : StO w O p t) (hsg : ∀ r ∈ t.runs, r.sg.length ≤ 1000) :
  Calls Tryz.prog 23 #[sv p t] w (FrG w t) := by
 obtain ⟨w1, hw1⟩ : ∃ w1, w1 = w.alloc (.cells (svB p t.clock t.names.length t.texts.length t.runs.length t.of.length t.keys.length) 57) := ⟨_, rfl⟩
 have B1 : Hid (Below w.heap.size w w1) := Lib.hid (by rw [hw1]; exact (Below.refl _ _).alloc (Nat.le_refl _) _)
 have X1 : Hid (w1.heap[w.heap.size]? = some (.cells (svB p t.clock t.names.length t.texts.length t.runs.length t.of.length t.keys.length) 57 (0, 0))) := Lib.hid (by rw [hw1]; exact heap_alloc_new _ _)
 have CN := Lib.hid (flowNew_any w1)
 have KD : Hid (∀ g s0 W, MadeF w1 g s0 W → s0.defs = [] → Calls Tryz.prog 46 #[.pointer (some ⟨g, 0, none⟩), .slice p.N t.names.length p.cn, .slice p.X t.texts.length p.cx] W (TkG w1 g (dfB t.names t.texts) { s0 with defs := dfsZ t.names t.texts })) :=
  Lib.hid fun g s0 W hM h0 => takeDefs_any hM h0 (hF.1.on B1.out) _ _ _ _ _ _ O (h.on B1.out).names (h.on B1.out).texts
 have KR : Hid (∀ g W, MadeF w1 g (mS t) W → dfB t.names t.texts = true → Calls Tryz.prog 47 #[.pointer (some ⟨g, 0, none⟩), .slice p.R t.runs.length p.cr, .slice p.F t.of.length p.cf] W (TkG w1 g (rnB (mS t) t.runs t.of) { mS t with runs := t.runs.zip t.of })) :=
  Lib.hid fun g W hM hd => takeRuns_any hM (dfsZ_ok hd) (hF.1.on B1.out) _ _ _ _ _ _ O (h.on B1.out).runs (h.on B1.out).of hsg
 have KK : Hid (∀ g W, MadeF w1 g { mS t with runs := t.runs.zip t.of } W → Calls Tryz.prog 48 #[.pointer (some ⟨g, 0, none⟩), .slice p.K t.keys.length p.ck] W (TkG w1 g (kyB ((t.runs.zip t.of).map (·.2)) t.keys) (Fw.build t))) :=
  Lib.hid fun g W hM => takeKeys_any hM rfl _ _ _ O (h.on B1.out).keys (h.on B1.out).kok
 have V : Hid (frB t = (decide (0 ≤ t.clock ∧ t.clock ≤ 1099511627776) && (dfB t.names t.texts && (rnB (mS t) t.runs t.of && kyB ((t.runs.zip t.of).map (·.2)) t.keys)))) := Lib.hid rfl
 have MD : Hid (∀ g W a, FPM W g a Fw.new → (∀ i, mine g a i ∨ a.Q i → w1.heap.size ≤ i) → Below w1.heap.size w1 W → MadeF w1 g { Fw.new with clock := t.clock } (W.setCell ⟨g, 0, none⟩ (.int .i64 t.clock))) := Lib.hid fun g W a q m b => by
  obtain ⟨q2, st⟩ := q.clock t.clock
  exact MadeF.step q m b q2 st
 have FE : Hid (∀ e W g, MadeF w1 g (Fw.build t) W → e = .returned (.tuple #[.pointer (some ⟨g, 0, none⟩), .int .i64 0]) → frB t = true → FrG w t e W) := Lib.hid fun e W g hM he hv => by
  obtain ⟨a, q, m, b⟩ := hM
  refine ⟨Lib.hid fun _ => ⟨g, _, _, he, q.fp, fun i hi => Nat.le_trans B1.out.size (m i hi)⟩, Lib.hid fun e => (by rw [hv] at e; cases e), Lib.hid (B1.out.trans (b.mono B1.out.size))⟩
 unfold sv
 have FN : Hid (∀ W, Below w.heap.size w W → frB t = false → FrG w t (.returned (.tuple #[.pointer none, .int .i64 2])) W) := Lib.hid fun W hb e => FrG.no e hb
 generalize dfB t.names t.texts = vd at *
 generalize rnB (mS t) t.runs t.of = vr at *
 generalize kyB ((t.runs.zip t.of).map (·.2)) t.keys = vk at *
 generalize frB t = v at *
 generalize t.names.length = n1 at *
 generalize t.texts.length = n2 at *
 generalize t.runs.length = n3 at *
 generalize t.of.length = n4 at *
 generalize t.keys.length = n5 at *
 have HC := Lib.hid h.clock
 generalize hcc : t.clock = c at *
 clear h hF hsg
 obtain ⟨c0, c1, c2, c3, c4, c5⟩ := svB_at X1.out
 have HW := Lib.hid hw1
 unfold svB at HW
 clear hw1
 go_enter Tryz.func23, Tryz.ntmps23
 go_upto_region 1 with (fail)
 rw [← HW.out]
 by_cases h0 : c < 0
 ·have R : Hid (v = false) := Lib.hid (by rw [V.out, decide_eq_false (by omega)]; rfl)
  clear HC
  go_wp2
  go_ret2
  exact FN.out _ B1.out R.out
 by_cases h1 : 1099511627776 < c
 ·have R : Hid (v = false) := Lib.hid (by rw [V.out, decide_eq_false (by omega)]; rfl)
  clear HC
  go_wp2
  go_ret2
  exact FN.out _ B1.out R.out
 have V1 : Hid (v = (vd && (vr && vk))) := Lib.hid (by rw [V.out, decide_eq_true (by omega)]; rfl)
 clear V
 go_wp2_with fail
 refine CN.out.mono ?_; rintro e w2 ⟨g, M, R, rfl, ⟨a, q, qm, qr⟩, hn, hb⟩
 have M3 := Lib.hid (MD.out g w2 a q (fun i hi => hn i ((qr i).2 hi)) hb)
 clear MD CN h0 h1
 have GW : Hid (w.heap.size < w1.heap.size) := Lib.hid (lt_of_block X1.out)
 obtain ⟨⟨G0, -⟩, G1, -⟩ := q.cells
 have X2 := Lib.hid ((hb.block _ (lt_of_block X1.out)).trans X1.out)
 clear c0 c1 c2 c3 c4 c5
 obtain ⟨c0, c1, c2, c3, c4, c5⟩ := svB_at X2.out
 generalize hw3 : w2.setCell ⟨g, 0, none⟩ (.int .i64 c) = w3 at M3
 clear q qm qr hn hb
 go_upto_region 5 with (fail)
 obtain ⟨-, -, -, b3⟩ := M3.out
 have X3 := Lib.hid ((b3.block _ GW.out).trans X1.out)
 clear hw3 b3 c0 c1 c2 c3 c4 c5 X2 G0 G1
 obtain ⟨c0, c1, c2, c3, c4, c5⟩ := svB_at X3.out
 have KD3 := Lib.hid (KD.out g _ _ M3.out rfl)
 clear KD c0 c5
 go_wp2_with fail
 refine KD3.out.mono ?_; rintro e w4 ⟨rfl, h4⟩
 have B4 : Hid (Below w.heap.size w w4) := Lib.hid (by
  obtain ⟨s2, ⟨_, _, _, b⟩, _⟩ := h4.out
  exact B1.out.trans (b.mono B1.out.size))
 have X4 : Hid (w4.heap[w.heap.size]? = some (.cells (svB p c n1 n2 n3 n4 n5) 57 (0, 0))) := Lib.hid (by
  obtain ⟨s2, ⟨_, _, _, b⟩, _⟩ := h4.out
  exact (b.block _ GW.out).trans X1.out)
 clear c1 c2 c3 c4 X3 KD3 M3
 cases hvd : vd with
 | false =>
  have R : Hid (v = false) := Lib.hid (by rw [V1.out, hvd]; rfl)
  clear hvd KR KK V1 h4 X4 hcc FE
  go_wp2
  go_ret2
  exact FN.out _ B4.out R.out
 | true =>
 have V2 : Hid (v = (vr && vk)) := Lib.hid (by rw [V1.out, hvd]; rfl)
 have M4 : Hid (MadeF w1 g (mS t) w4) := Lib.hid (by
  obtain ⟨s2, m, e⟩ := h4.out
  have e2 := e hvd
  rw [e2, ← hcc] at m
  exact m)
 have KR4 := Lib.hid (KR.out g w4 M4.out hvd)
 clear hvd V1 KR h4
 obtain ⟨-, -, -, c3, c4, -⟩ := svB_at X4.out
 go_wp2_with fail
 refine KR4.out.mono ?_; rintro e w5 ⟨rfl, h5⟩
 have B5 : Hid (Below w.heap.size w w5) := Lib.hid (by
  obtain ⟨s2, ⟨_, _, _, b⟩, _⟩ := h5.out
  exact B1.out.trans (b.mono B1.out.size))
 have X5 : Hid (w5.heap[w.heap.size]? = some (.cells (svB p c n1 n2 n3 n4 n5) 57 (0, 0))) := Lib.hid (by
  obtain ⟨s2, ⟨_, _, _, b⟩, _⟩ := h5.out
  exact (b.block _ GW.out).trans X1.out)
 clear c3 c4 X4 KR4 M4 B4
 cases hvr : vr with
 | false =>
  have R : Hid (v = false) := Lib.hid (by rw [V2.out, hvr]; rfl)
  clear hvr KK V2 h5 X5 hcc FE
  go_wp2
  go_ret2
  exact FN.out _ B5.out R.out
 | true =>
 have V3 : Hid (v = vk) := Lib.hid (by rw [V2.out, hvr]; rfl)
 have M5 : Hid (MadeF w1 g { mS t with runs := t.runs.zip t.of } w5) := Lib.hid (by
  obtain ⟨s2, m, e⟩ := h5.out
  rw [e hvr] at m
  exact m)
 have KK5 := Lib.hid (KK.out g w5 M5.out)
 clear hvr V2 KK h5
 obtain ⟨-, -, -, -, -, c5⟩ := svB_at X5.out
 go_wp2_with fail
 refine KK5.out.mono ?_; rintro e w6 ⟨rfl, h6⟩
 have B6 : Hid (Below w.heap.size w w6) := Lib.hid (by
  obtain ⟨s2, ⟨_, _, _, b⟩, _⟩ := h6.out
  exact B1.out.trans (b.mono B1.out.size))
 clear c5 X5 KK5 M5 B5
 cases hvk : vk with
 | false =>
  have R : Hid (v = false) := Lib.hid (by rw [V3.out, hvk])
  clear hvk V3 h6 hcc FE
  go_wp2
  go_ret2
  exact FN.out _ B6.out R.out
 | true =>
 have R : Hid (v = true) := Lib.hid (by rw [V3.out, hvk])
 have M6 : Hid (MadeF w1 g (Fw.build t) w6) := Lib.hid (by
  obtain ⟨s2, m, e⟩ := h6.out
  rw [e hvk] at m
  exact m)
 clear hvk V3 h6 hcc FN
 go_wp2
 go_ret2
 exact FE.out _ _ g M6.out rfl R.out
end Go.Proofs.YtkbekojnmdgdgaaGreatDoor
/- FlState -/
namespace Go.Proofs.YtkbekojnmdgdgaaGreatDoor
open Go.RowKit
set_option maxRecDepth 20000
theorem Fw.Valid.dOk {t : Fw.St} (h : Fw.Valid t) : ∀ p ∈ (Fw.build t).defs, Df.Ok p.2 := fun p hp => (dfsZ_ok (dfB_iff.2 ⟨h.nm, h.nt.symm, h.nn, h.nok, h.tok⟩) p hp).1
theorem Fw.Valid.sound {t : Fw.St} (h : Fw.Valid t) : Sound (Fw.build t) where
 bd := fun p hp => runV_bd (h.rok p hp).1 (h.dOk _ (Fw.look_mem (h.rok p hp).2))
 st := fun p hp => by have h2 := (h.rok p hp).1.st0; have h3 := (h.rok p hp).1.st3; exact ⟨by omega, by omega⟩
 ki := h.ki
 c := by have h1 := h.c0; have h2 := h.c1; exact ⟨by show _ ≤ t.clock; omega, by show t.clock ≤ _; omega⟩
 nd := fun p hp => by
  have h1 := (Df.isName_len (l := Fw.tx p.1) (h.nok p.1 (List.of_mem_zip (show (p.1, p.2) ∈ _ from hp)).1)).2
  exact Nat.le_trans (Nat.le_of_eq (Array.length_toList ..).symm) h1
 no := fun p hp => by
  have h2 := Fw.look_mem (h.rok p hp).2
  have h1 := (Df.isName_len (l := Fw.tx p.2) (h.nok p.2 (List.of_mem_zip h2).1)).2
  exact Nat.le_trans (Nat.le_of_eq (Array.length_toList ..).symm) h1
theorem Fw.Fine.sound {s : Fw.S} (h : Fw.Fine s) : Sound s := by
 rcases h with h | ⟨t, h, rfl⟩
 ·exact h.sound
 ·exact h.sound
theorem Fw.Valid.sgs {t : Fw.St} (h : Fw.Valid t) : ∀ r ∈ t.runs, r.sg.length ≤ 1000 := fun r hr => by
 obtain ⟨i, hi, rfl⟩ := List.getElem_of_mem hr
 have hl := h.ro
 have hlt : i < (t.runs.zip t.of).length := by rw [List.length_zip]; omega
 have hz := List.getElem_mem hlt
 rw [List.getElem_zip] at hz
 obtain ⟨h1, h2⟩ := h.rok _ hz
 have hd := h.dOk _ (Fw.look_mem h2)
 refine Nat.le_trans (nodup_len t.runs[i].sg (t.runs[i].d.map (·.on)) h1.nodup fun x hx => ?_) (by rw [List.length_map]; exact Nat.le_trans hd.n16 (by omega))
 obtain ⟨_, k, hk, e⟩ := h1.sigs x hx
 exact List.mem_map.2 ⟨k, hk, e⟩
theorem flowState_any (g : Nat) (M R : Nat → Prop) (s : Fw.S) (w : World) (h : FP w g M R s) (hI : Fw.Fine s) :
  Calls Tryz.prog 24 #[.pointer (some ⟨g, 0, none⟩)] w fun e w' => ∃ p, e = .returned (sv p (Fw.stateV s)) ∧ Hid (StO w' (since w) p (Fw.stateV s)) ∧ Hid (Below w.heap.size w w') := by
 obtain ⟨a, h, -, -⟩ := h
 exact state_any h hI.sound
theorem flowFrom_ok (t : Fw.St) (p : At5) (O : Nat → Prop) (w : World) (hF : FactsE w) (h : StO w O p t) (hV : Fw.Valid t) :
  Calls Tryz.prog 23 #[sv p t] w fun e w' => ∃ g M R, e = .returned (.tuple #[.pointer (some ⟨g, 0, none⟩), .int .i64 0]) ∧ FP w' g M R (Fw.build t) ∧ (∀ i, R i → w.heap.size ≤ i) ∧ Below w.heap.size w w' := by
 refine (from_any t p O w hF h hV.sgs).mono ?_
 rintro e w' ⟨h1, -, h2⟩
 obtain ⟨g, M, R, a, b, c⟩ := h1.out (frB_iff.2 hV)
 exact ⟨g, M, R, a, b, c, h2.out⟩
theorem flowFrom_bad (t : Fw.St) (p : At5) (O : Nat → Prop) (w : World) (hF : FactsE w) (h : StO w O p t) (hsg : ∀ r ∈ t.runs, r.sg.length ≤ 1000) (hV : ¬ Fw.Valid t) :
  Calls Tryz.prog 23 #[sv p t] w fun e w' => e = .returned (.tuple #[.pointer none, .int .i64 2]) ∧ Below w.heap.size w w' := by
 refine (from_any t p O w hF h hsg).mono ?_
 rintro e w' ⟨-, h1, h2⟩
 exact ⟨h1.out (Bool.eq_false_iff.2 fun e => hV (frB_iff.1 e)), h2.out⟩
end Go.Proofs.YtkbekojnmdgdgaaGreatDoor
/- FlTexts -/
namespace Go.Proofs.YtkbekojnmdgdgaaGreatDoor
open Go.RowKit
set_option maxRecDepth 20000
theorem NmsO.atE {w : World} {O : Nat → Prop} {A : Option Addr} {ns : List ByteArray} {i : Nat} (h : NmsO w O A ns) (hi : i < ns.length) : ∃ b off s, A = some ⟨b, off, none⟩ ∧ Hid (O b) ∧ Hid (ns[i]? = some s) ∧ w.cell? ⟨b, off + i, none⟩ = some (.string s) := by
 obtain ⟨b, off, e, ho, hb, hc⟩ := h.2 (by omega)
 have h2 : w.cell? ⟨b, off + i * 1 + 0, none⟩ = some (.string (ns.getD i ByteArray.empty)) := hc i hi
 rw [Nat.mul_one, Nat.add_zero, List.getD_eq_getElem?_getD, List.getElem?_eq_getElem hi] at h2
 exact ⟨b, off, ns[i], e, Lib.hid ho, Lib.hid (List.getElem?_eq_getElem hi), h2⟩
set_option maxHeartbeats 4000000 in
theorem texts_same (A B : Option Addr) (ns : List ByteArray) (n c c2 : Nat) (hn : n = ns.length) (h9 : n ≤ 1100) (w : World) (O O2 : Nat → Prop) (h : NmsO w O A ns) (h2 : NmsO w O2 B ns) :
  Calls Tryz.prog 25 #[.slice A n c, .slice B n c2] w (BoolP w true) := by
 have H1 := Lib.hid h
 have H2 := Lib.hid h2
 have HN := Lib.hid hn
 clear h h2 hn
 go_enter Tryz.func25, Tryz.ntmps25
 go_wp2_with fail
 go_loopw [5] (fun iv wr => ∃ i : Nat, i ≤ n ∧ iv = .int .i64 i ∧ Below w.heap.size w wr) (fun iv _ => n - (intOf iv).toNat)
 case atStart => exact ⟨0, Nat.zero_le _, rfl, Below.refl _ _⟩
 case round =>
  obtain ⟨i, hi, rfl, hb⟩ := hrel
  have HB := Lib.hid hb
  by_cases hlt : i < n
  ·have hlt' : (i : Int) < (n : Int) := by omega
   obtain ⟨b, off, s, rfl, o1, e1, c1⟩ := (H1.out.keep hb.size fun b _ hl => hb.block b hl).atE (i := i) (by rw [← HN.out]; exact hlt)
   obtain ⟨b2, off2, s2, rfl, o2, e2, c2⟩ := (H2.out.keep hb.size fun b _ hl => hb.block b hl).atE (i := i) (by rw [← HN.out]; exact hlt)
   obtain rfl : s = s2 := Option.some.inj (e1.out.symm.trans e2.out)
   clear hb o1 e1 o2 e2 H1 H2
   go_upto_region 6 with (fail)
   go_region_held3 (fun w' => w'.cell? ⟨b, off + i, none⟩ = some (.string s) ∧ w'.cell? ⟨b2, off2 + i, none⟩ = some (.string s)) (go_keep) (fail)
   go_wp2
   refine ⟨⟨i + 1, by omega, by go_num, HB.out.drew⟩, ?_⟩
   simp [intOf]; omega
  ·obtain rfl : n = i := by omega
   go_wp2
   go_ret
   exact ⟨rfl, HB⟩
end Go.Proofs.YtkbekojnmdgdgaaGreatDoor
/- FlFromP -/
namespace Go.Proofs.YtkbekojnmdgdgaaGreatDoor
open Go.RowKit
theorem Fw.look_zip {ns : List ByteArray} {xs : List ByteArray} {n : ByteArray} {d : Df.D} {c : Int} {rs : List Rn.R} {os : List ByteArray} {kk : List Ky.T} (h : Fw.lookD (Fw.build ⟨c, ns, xs, rs, os, kk⟩) n = some d) : ∃ x ∈ xs, (Df.parse (Fw.tx x)).1 = d := by
 unfold Fw.lookD Fw.build at h
 obtain ⟨p, hp, rfl⟩ := Option.map_eq_some_iff.1 h
 have hm := List.mem_of_find?_eq_some hp
 obtain ⟨x, hx, e⟩ := List.mem_map.1 (List.of_mem_zip hm).2
 exact ⟨x, hx, e⟩
theorem Fw.Valid.defs {t : Fw.St} (h : Fw.Valid t) {i : Nat} (hi : i < t.runs.length) : Fair t.runs[i].d := by
 have hl := h.ro
 have hz : (t.runs[i], t.of[i]'(by omega)) ∈ t.runs.zip t.of := by
  have hlt : i < (t.runs.zip t.of).length := by rw [List.length_zip]; omega
  have := List.getElem_mem hlt
  rwa [List.getElem_zip] at this
 obtain ⟨_, h2⟩ := h.rok _ hz
 obtain ⟨c, ns, xs, rs, os, kk⟩ := t
 obtain ⟨x, hx, e⟩ := Fw.look_zip h2
 have hp := (h.tok x hx).1
 rw [← e]
 exact (Df.parse_back (t := Fw.tx x) (d := (Df.parse (Fw.tx x)).1) (by rw [← hp])).1.fair
end Go.Proofs.YtkbekojnmdgdgaaGreatDoor
/- FlFrom -/
namespace Go.Proofs.YtkbekojnmdgdgaaGreatDoor
open Go.RowKit
set_option maxRecDepth 20000
theorem RunsO.at_ {w : World} {O : Nat → Prop} {A : Option Addr} {rs : List Rn.R} {i : Nat} (h : RunsO w O A rs) (hi : i < rs.length) :
  ∃ (b off : Nat) (q : At3) (r : Rn.R) (l1 : Nat) (st : Int) (l2 l3 : Nat), A = some ⟨b, off, none⟩ ∧ Hid (b < w.heap.size) ∧ Hid (rs[i]? = some r) ∧ Hid (r.d.length = l1 ∧ r.st = st ∧ r.ts.length = l2 ∧ r.sg.length = l3) ∧ Hid (RunO w O q r) ∧
   w.cell? ⟨b, off + i * 4, none⟩ = some (.slice q.A l1 q.ca) ∧ w.cell? ⟨b, off + i * 4 + 1, none⟩ = some (.int .i64 st) ∧ w.cell? ⟨b, off + i * 4 + 2, none⟩ = some (.slice q.T l2 q.ct) ∧ w.cell? ⟨b, off + i * 4 + 3, none⟩ = some (.slice q.S l3 q.cs) := by
 obtain ⟨b, off, e, ho, hb, hc⟩ := h (by omega)
 obtain ⟨q, h0, h1, h2, h3, h4, h5⟩ := hc i hi
 rw [List.getD_eq_getElem?_getD, List.getElem?_eq_getElem hi] at h0 h1 h2 h3 h4
 exact ⟨b, off, q, rs[i], _, _, _, _, e, Lib.hid hb, Lib.hid (List.getElem?_eq_getElem hi), Lib.hid ⟨rfl, rfl, rfl, rfl⟩, Lib.hid h4, h0, h1, h2, h3⟩
def svc (p : At5) (tc : Int) (n1 n2 n3 n4 n5 : Nat) : Array Value := #[.int .i64 tc, .slice p.N n1 p.cn, .slice p.X n2 p.cx, .slice p.R n3 p.cr, .slice p.F n4 p.cf, .slice p.K n5 p.ck]
theorem svc_at {w : World} {b : Nat} {p : At5} {tc : Int} {n1 n2 n3 n4 n5 : Nat} (h : w.heap[b]? = some (.cells (svc p tc n1 n2 n3 n4 n5) 57 (0, 0))) :
  w.cell? ⟨b, 0, none⟩ = some (.int .i64 tc) ∧ w.cell? ⟨b, 1, none⟩ = some (.slice p.N n1 p.cn) ∧ w.cell? ⟨b, 2, none⟩ = some (.slice p.X n2 p.cx) ∧ w.cell? ⟨b, 3, none⟩ = some (.slice p.R n3 p.cr) ∧ w.cell? ⟨b, 4, none⟩ = some (.slice p.F n4 p.cf) ∧ w.cell? ⟨b, 5, none⟩ = some (.slice p.K n5 p.ck) := by
 unfold svc at h
 refine ⟨?_, ?_, ?_, ?_, ?_, ?_⟩ <;> simp [World.cell?, h]
set_option maxHeartbeats 8000000 in
theorem from_walk (t : Fw.St) (p : At5) (w : World) (hF : FactsE w) (h : StO w (fun _ => True) p t) (hbig : ∀ r ∈ t.runs, ∀ k ∈ r.ts, k.da.length ≤ 9223372036854775807) :
  Calls Tryz.prog 5 #[sv p t] w (BoolP w true) := by
 obtain ⟨W0, hW0⟩ : ∃ W0, W0 = w.alloc (.cells (svc p t.clock t.names.length t.texts.length t.runs.length t.of.length t.keys.length) 57) := ⟨_, rfl⟩
 obtain ⟨X, hX⟩ : ∃ X, X = w.heap.size := ⟨_, rfl⟩
 have B0 : Hid (Below w.heap.size w W0) := Lib.hid (by rw [hW0]; exact (Below.refl _ _).alloc (Nat.le_refl _) _)
 have X0 : Hid (W0.heap[X]? = some (.cells (svc p t.clock t.names.length t.texts.length t.runs.length t.of.length t.keys.length) 57 (0, 0))) := Lib.hid (by rw [hW0, hX]; exact heap_alloc_new _ _)
 have AW := Lib.hid (awake_any W0 (hF.on B0.out))
 have HF := Lib.hid (hF.on B0.out)
 have SH := Lib.hid (h.on B0.out)
 have BIG := Lib.hid hbig
 have FG : Hid (∀ W, Below W0.heap.size W0 W → Fw.Valid t → Calls Tryz.prog 23 #[sv p t] W fun e w' => ∃ g M R, e = .returned (.tuple #[.pointer (some ⟨g, 0, none⟩), .int .i64 0]) ∧ FP w' g M R (Fw.build t) ∧ (∀ i, R i → W.heap.size ≤ i) ∧ Below W.heap.size W w') :=
  Lib.hid fun W hW hV => flowFrom_ok t p _ W ((hF.on B0.out).on hW) ((h.on B0.out).on hW) hV
 have FB : Hid (∀ W, Below W0.heap.size W0 W → (∀ r ∈ t.runs, r.sg.length ≤ 1000) → ¬ Fw.Valid t → Calls Tryz.prog 23 #[sv p t] W fun e w' => e = .returned (.tuple #[.pointer none, .int .i64 2]) ∧ Below W.heap.size W w') :=
  Lib.hid fun W hW hs hV => flowFrom_bad t p _ W ((hF.on B0.out).on hW) ((h.on B0.out).on hW) hs hV
 have SG : Hid (Fw.Valid t → ∀ g M R W, Below W0.heap.size W0 W → FP W g M R (Fw.build t) → Calls Tryz.prog 24 #[.pointer (some ⟨g, 0, none⟩)] W fun e w' => ∃ p, e = .returned (sv p t) ∧ Hid (StO w' (since W) p t) ∧ Hid (Below W.heap.size W w')) :=
  Lib.hid fun hV g M R W hW hP => by
   have := flowState_any g M R _ W hP (.inr ⟨t, hV, rfl⟩)
   rw [hV.told] at this
   exact this
 have VD : Hid (∀ i (hi : i < t.runs.length), Fw.Valid t → Fair t.runs[i].d) := Lib.hid fun i hi hV => hV.defs hi
 unfold sv at *
 obtain ⟨n1, h1⟩ : ∃ n, n = t.names.length := ⟨_, rfl⟩
 obtain ⟨n2, h2⟩ : ∃ n, n = t.texts.length := ⟨_, rfl⟩
 obtain ⟨n3, h3⟩ : ∃ n, n = t.runs.length := ⟨_, rfl⟩
 obtain ⟨n4, h4⟩ : ∃ n, n = t.of.length := ⟨_, rfl⟩
 obtain ⟨n5, h5⟩ : ∃ n, n = t.keys.length := ⟨_, rfl⟩
 have H1 := Lib.hid h1
 have H2 := Lib.hid h2
 have H3 := Lib.hid h3
 have H4 := Lib.hid h4
 have H5 := Lib.hid h5
 simp only [← h1, ← h2, ← h3, ← h4, ← h5] at FG FB SG X0 hW0 ⊢
 generalize t.clock = tc at FG FB SG X0 hW0 ⊢
 obtain ⟨c0, c1, c2, c3, c4, c5⟩ := svc_at X0.out
 have HW := Lib.hid hW0
 have HX := Lib.hid hX
 clear h1 h2 h3 h4 h5 h hbig hF hX
 unfold svc at HW
 clear hW0
 go_enter Tryz.func5, Tryz.ntmps5
 go_upto_region 1 with (fail)
 rw [← HW.out, ← HX.out]
 go_wp2_with fail
 (with_reducible refine AW.out.mono ?_); rintro e w1 ⟨rfl, b1⟩
 clear AW c0 c1 c2 c3 c4 c5
 have X1 := Lib.hid ((b1.out.block X (lt_of_block X0.out)).trans X0.out)
 obtain ⟨c0, c1, c2, c3, c4, c5⟩ := svc_at X1.out
 by_cases g1 : 20 < n1
 ·have g1' : 20 < (n1 : Int) := by omega
  go_wp2
  go_ret
  exact ⟨rfl, Lib.hid (B0.out.trans (b1.out.mono B0.out.size))⟩
 have g1' : ¬ 20 < (n1 : Int) := by omega
 by_cases g2 : 20 < n2
 ·have g2' : 20 < (n2 : Int) := by omega
  go_wp2
  go_ret
  exact ⟨rfl, Lib.hid (B0.out.trans (b1.out.mono B0.out.size))⟩
 have g2' : ¬ 20 < (n2 : Int) := by omega
 by_cases g3 : 20 < n3
 ·have g3' : 20 < (n3 : Int) := by omega
  go_wp2
  go_ret
  exact ⟨rfl, Lib.hid (B0.out.trans (b1.out.mono B0.out.size))⟩
 have g3' : ¬ 20 < (n3 : Int) := by omega
 by_cases g4 : 20 < n4
 ·have g4' : 20 < (n4 : Int) := by omega
  go_wp2
  go_ret
  exact ⟨rfl, Lib.hid (B0.out.trans (b1.out.mono B0.out.size))⟩
 have g4' : ¬ 20 < (n4 : Int) := by omega
 by_cases g5 : 20 < n5
 ·have g5' : 20 < (n5 : Int) := by omega
  go_wp2
  go_ret
  exact ⟨rfl, Lib.hid (B0.out.trans (b1.out.mono B0.out.size))⟩
 have g5' : ¬ 20 < (n5 : Int) := by omega
 have L1 : Hid (n1 ≤ 20 ∧ n2 ≤ 20 ∧ n3 ≤ 20 ∧ n4 ≤ 20 ∧ n5 ≤ 20) := Lib.hid (by omega)
 clear g1 g2 g3 g4 g5
 go_wp2_with fail
 clear c0 c1 c2 c3 c4 c5 g1' g2' g3' g4' g5'
 go_loopw [3] (fun iv wr => ∃ i : Nat, i ≤ n3 ∧ iv = .int .i64 i ∧ Below W0.heap.size W0 wr ∧ ∀ j (hj : j < t.runs.length), j < i → t.runs[j].ts.length ≤ 20 ∧ t.runs[j].sg.length ≤ 20) (fun iv _ => n3 - (intOf iv).toNat)
 case atStart => exact ⟨0, Nat.zero_le _, rfl, b1.out, fun j _ h => by omega⟩
 case round =>
  obtain ⟨i, hi, rfl, hb, hs⟩ := hrel
  have HB := Lib.hid hb
  have HS := Lib.hid hs
  have XR := Lib.hid ((hb.block X (lt_of_block X0.out)).trans X0.out)
  obtain ⟨c0, c1, c2, c3, c4, c5⟩ := svc_at XR.out
  clear hb hs
  by_cases hlt : i < n3
  ·have hlt' : (i : Int) < (n3 : Int) := by omega
   obtain ⟨b, off, q, r, l1, st, l2, l3, hA, -, hr, hl, -, d0, d1, d2, d3⟩ := (SH.out.on HB.out).runs.at_ (i := i) (by rw [← H3.out]; exact hlt)
   rw [hA] at c3
   by_cases g2 : 20 < l2
   ·have g2' : 20 < (l2 : Int) := by omega
    go_wp2
    go_ret
    exact ⟨rfl, Lib.hid (B0.out.trans (HB.out.mono B0.out.size))⟩
   have g2' : ¬ 20 < (l2 : Int) := by omega
   by_cases g3 : 20 < l3
   ·have g3' : 20 < (l3 : Int) := by omega
    go_wp2
    go_ret
    exact ⟨rfl, Lib.hid (B0.out.trans (HB.out.mono B0.out.size))⟩
   have g3' : ¬ 20 < (l3 : Int) := by omega
   by_cases g1 : 20 < l1
   ·have g1' : 20 < (l1 : Int) := by omega
    go_wp2
    go_ret
    exact ⟨rfl, Lib.hid (B0.out.trans (HB.out.mono B0.out.size))⟩
   have g1' : ¬ 20 < (l1 : Int) := by omega
   have NX : Hid (∀ j (hj : j < t.runs.length), j < i + 1 → t.runs[j].ts.length ≤ 20 ∧ t.runs[j].sg.length ≤ 20) := Lib.hid fun j hj hji => by
    by_cases he : j = i
    ·subst he
     have := hr.out
     rw [List.getElem?_eq_getElem hj] at this
     obtain rfl := Option.some.inj this
     have := hl.out
     omega
    ·exact HS.out j hj (by omega)
   clear g1 g2 g3 HS hr hl
   go_wp2
   refine ⟨⟨i + 1, by omega, by go_num, HB.out, NX.out⟩, ?_⟩
   simp [intOf]; omega
  ·obtain rfl : n3 = i := by omega
   have HS3 : Hid (∀ j (hj : j < t.runs.length), t.runs[j].ts.length ≤ 20 ∧ t.runs[j].sg.length ≤ 20) := Lib.hid fun j hj => HS.out j hj (by rw [H3.out]; exact hj)
   clear HS
   by_cases hV : Fw.Valid t
   ·have FR := Lib.hid (FG.out wr HB.out hV)
    clear FG FB
    go_wp2_with fail
    (with_reducible refine FR.out.mono ?_); rintro e w2 ⟨g, M, R, rfl, hP, hR, b2⟩
    have B2 : Hid (Below W0.heap.size W0 w2) := Lib.hid (HB.out.trans (b2.mono HB.out.size))
    have ST := Lib.hid (SG.out hV g M R w2 B2.out hP)
    have VF : Hid (∀ i (hi : i < t.runs.length), Fair t.runs[i].d) := Lib.hid fun i hi => VD.out i hi hV
    clear FR SG hP hR hV VD c0 c1 c2 c3 c4 c5 XR b2
    go_wp2_with fail
    (with_reducible refine ST.out.mono ?_); rintro e w3 ⟨q, rfl, S3, B3⟩
    clear ST
    obtain ⟨w4, hw4⟩ : ∃ w4, w4 = w3.alloc (.cells (svc q tc n1 n2 n3 n4 n5) 57) := ⟨_, rfl⟩
    obtain ⟨Y, hY⟩ : ∃ Y, Y = w3.heap.size := ⟨_, rfl⟩
    have B34 : Hid (Below w3.heap.size w3 w4) := Lib.hid (by rw [hw4]; exact (Below.refl _ _).alloc (Nat.le_refl _) _)
    have B4 : Hid (Below W0.heap.size W0 w4) := Lib.hid ((B2.out.trans (B3.out.mono B2.out.size)).trans (B34.out.mono (Nat.le_trans B2.out.size B3.out.size)))
    have Y4 : Hid (w4.heap[Y]? = some (.cells (svc q tc n1 n2 n3 n4 n5) 57 (0, 0))) := Lib.hid (by rw [hw4, hY]; exact heap_alloc_new _ _)
    have X4 := Lib.hid ((B4.out.block X (lt_of_block X0.out)).trans X0.out)
    have S4 := Lib.hid (S3.out.on B34.out)
    have P4 := Lib.hid (SH.out.on B4.out)
    have HW4 := Lib.hid hw4
    have HY := Lib.hid hY
    unfold svc at HW4
    clear hw4 hY S3 B34 B3 B2
    go_upto_region 16 with (fail)
    rw [← HW4.out, ← HY.out]
    clear HW4 HY
    obtain ⟨c0, c1, c2, c3, c4, c5⟩ := svc_at X4.out
    obtain ⟨e0, e1, e2, e3, e4, e5⟩ := svc_at Y4.out
    have L20 := L1.out
    have TN : Hid (∀ W, Below w4.heap.size w4 W → Calls Tryz.prog 25 #[.slice q.N n1 q.cn, .slice p.N n1 p.cn] W (BoolP W true)) := Lib.hid fun W hW => texts_same _ _ t.names n1 _ _ H1.out (by omega) W _ _ (S4.out.on hW).names (P4.out.on hW).names
    have TX : Hid (∀ W, Below w4.heap.size w4 W → Calls Tryz.prog 25 #[.slice q.X n2 q.cx, .slice p.X n2 p.cx] W (BoolP W true)) := Lib.hid fun W hW => texts_same _ _ t.texts n2 _ _ H2.out (by omega) W _ _ (S4.out.on hW).texts (P4.out.on hW).texts
    have TF : Hid (∀ W, Below w4.heap.size w4 W → Calls Tryz.prog 25 #[.slice q.F n4 q.cf, .slice p.F n4 p.cf] W (BoolP W true)) := Lib.hid fun W hW => texts_same _ _ t.of n4 _ _ H4.out (by omega) W _ _ (S4.out.on hW).of (P4.out.on hW).of
    clear L20
    go_wp2_with fail
    (with_reducible refine (TN.out w4 (Below.refl _ _)).mono ?_); rintro e w5 ⟨rfl, b5⟩
    clear c0 c1 c2 c3 c4 c5 e0 e1 e2 e3 e4 e5
    obtain ⟨c0, c1, c2, c3, c4, c5⟩ := svc_at ((b5.out.block X (lt_of_block X4.out)).trans X4.out)
    obtain ⟨e0, e1, e2, e3, e4, e5⟩ := svc_at ((b5.out.block Y (lt_of_block Y4.out)).trans Y4.out)
    go_wp2_with fail
    (with_reducible refine (TX.out w5 b5.out).mono ?_); rintro e w6 ⟨rfl, b6'⟩
    have b6 := Lib.hid (b5.out.trans (b6'.out.mono b5.out.size))
    clear c0 c1 c2 c3 c4 c5 e0 e1 e2 e3 e4 e5 b6' b5
    obtain ⟨c0, c1, c2, c3, c4, c5⟩ := svc_at ((b6.out.block X (lt_of_block X4.out)).trans X4.out)
    obtain ⟨e0, e1, e2, e3, e4, e5⟩ := svc_at ((b6.out.block Y (lt_of_block Y4.out)).trans Y4.out)
    go_wp2_with fail
    (with_reducible refine (TF.out w6 b6.out).mono ?_); rintro e w7 ⟨rfl, b7'⟩
    have b7 := Lib.hid (b6.out.trans (b7'.out.mono b6.out.size))
    clear c0 c1 c2 c3 c4 c5 e0 e1 e2 e3 e4 e5 b7' b6 TN TX TF
    obtain ⟨c0, c1, c2, c3, c4, c5⟩ := svc_at ((b7.out.block X (lt_of_block X4.out)).trans X4.out)
    obtain ⟨e0, e1, e2, e3, e4, e5⟩ := svc_at ((b7.out.block Y (lt_of_block Y4.out)).trans Y4.out)
    go_wp2_with fail
    clear c0 c1 c2 c3 c4 c5 e0 e1 e2 e3 e4 e5
    go_loopw [7] (fun iv wr => ∃ i : Nat, i ≤ n3 ∧ iv = .int .i64 i ∧ Below w4.heap.size w4 wr) (fun iv _ => n3 - (intOf iv).toNat)
    case atStart => exact ⟨0, Nat.zero_le _, rfl, b7.out⟩
    case round =>
     obtain ⟨i, hi, rfl, hb⟩ := hrel
     have HB2 := Lib.hid hb
     clear hb
     obtain ⟨-, -, -, c3, -, c5⟩ := svc_at ((HB2.out.block X (lt_of_block X4.out)).trans X4.out)
     obtain ⟨-, -, -, e3, -, e5⟩ := svc_at ((HB2.out.block Y (lt_of_block Y4.out)).trans Y4.out)
     by_cases hlt2 : i < n3
     ·have hlt2' : (i : Int) < (n3 : Int) := by omega
      have hil : i < t.runs.length := by rw [← H3.out]; exact hlt2
      obtain ⟨b, off, qa, r, l1, st, l2, l3, hA, -, hr, hl, hro, d0, d1, d2, d3⟩ := (S4.out.on HB2.out).runs.at_ (i := i) hil
      obtain ⟨b', off', pa, r', l1', st', l2', l3', hA', -, hr', hl', hro', f0, f1, f2, f3⟩ := (P4.out.on HB2.out).runs.at_ (i := i) hil
      obtain rfl : r = r' := Option.some.inj (hr.out.symm.trans hr'.out)
      obtain rfl : l1 = l1' := hl.out.1.symm.trans hl'.out.1
      obtain rfl : st = st' := hl.out.2.1.symm.trans hl'.out.2.1
      obtain rfl : l2 = l2' := hl.out.2.2.1.symm.trans hl'.out.2.2.1
      obtain rfl : l3 = l3' := hl.out.2.2.2.symm.trans hl'.out.2.2.2
      rw [hA'] at c3
      rw [hA] at e3
      have hri : t.runs[i] = r := Option.some.inj ((List.getElem?_eq_getElem hil).symm.trans hr.out)
      have SM := Lib.hid (same_w qa r wr.drew _ (hro.out.on (Below.refl _ _).drew).w pa r _ (hro'.out.on (Below.refl _ _).drew).w (by
       have h1 := HS3.out i hil
       have h2 := VF.out i hil
       have h3 := BIG.out _ (List.getElem_mem hil)
       rw [hri] at h1 h2 h3
       exact ⟨by omega, by omega, .inl h2, h3, h3⟩))
      have sv1 : Rn.sameV r r = true := by unfold Rn.sameV; simp
      rw [sv1] at SM
      unfold rv at SM
      obtain ⟨hl1, hl2, hl3, hl4⟩ := hl.out
      rw [hl1, hl2, hl3, hl4] at SM
      have BW2 : Hid (∀ W, Below wr.heap.size wr.drew W → Below wr.heap.size wr W) := Lib.hid fun W h => (Below.refl _ _).drew.trans h
      clear hr hl hro hr' hl' hro' sv1 hl1 hl2 hl3 hl4 hri hA hA' hil c5 e5
      go_upto_region 21 with (fail)
      have CK : Hid (∀ W, Below wr.heap.size wr.drew W → W.cell? ⟨X, 3, none⟩ = wr.cell? ⟨X, 3, none⟩) := Lib.hid fun W h => h.cell (p := ⟨X, 3, none⟩) (block_lt c3)
      have KP : Hid (∀ W, Below wr.heap.size wr.drew W → ∀ {g o : Nat} {v : Value}, wr.cell? ⟨g, o, none⟩ = some v → W.cell? ⟨g, o, none⟩ = some v) := Lib.hid fun W h g o v hv => ((h.cell (p := ⟨g, o, none⟩) (block_lt hv)).trans hv)
      clear CK
      go_region_held3 (fun w' => w'.cell? ⟨X, 3, none⟩ = some (.slice (some ⟨b', off', none⟩) n3 p.cr) ∧ w'.cell? ⟨Y, 3, none⟩ = some (.slice (some ⟨b, off, none⟩) n3 q.cr) ∧ w'.cell? ⟨b, off + i * 4, none⟩ = some (.slice qa.A l1 qa.ca) ∧ w'.cell? ⟨b, off + i * 4 + 1, none⟩ = some (.int .i64 st) ∧ w'.cell? ⟨b, off + i * 4 + 2, none⟩ = some (.slice qa.T l2 qa.ct) ∧ w'.cell? ⟨b, off + i * 4 + 3, none⟩ = some (.slice qa.S l3 qa.cs) ∧ w'.cell? ⟨b', off' + i * 4, none⟩ = some (.slice pa.A l1 pa.ca) ∧ w'.cell? ⟨b', off' + i * 4 + 1, none⟩ = some (.int .i64 st) ∧ w'.cell? ⟨b', off' + i * 4 + 2, none⟩ = some (.slice pa.T l2 pa.ct) ∧ w'.cell? ⟨b', off' + i * 4 + 3, none⟩ = some (.slice pa.S l3 pa.cs))
       (first | (exact ⟨KP.out _ b9.out c3, KP.out _ b9.out e3, KP.out _ b9.out d0, KP.out _ b9.out d1, KP.out _ b9.out d2, KP.out _ b9.out d3, KP.out _ b9.out f0, KP.out _ b9.out f1, KP.out _ b9.out f2, KP.out _ b9.out f3⟩) | go_keep)
       (((with_reducible refine SM.out.mono ?_); rintro e w9 ⟨rfl, b9⟩))
      go_wp2
      refine ⟨⟨i + 1, by omega, by go_num, HB2.out.trans ((BW2.out _ b9.out).mono HB2.out.size)⟩, ?_⟩
      simp [intOf]; omega
     ·obtain rfl : n3 = i := by omega
      go_wp2_with fail
      clear c3 c5 e3 e5
      go_loopw [8] (fun iv wr => ∃ i : Nat, i ≤ n5 ∧ iv = .int .i64 i ∧ Below w4.heap.size w4 wr) (fun iv _ => n5 - (intOf iv).toNat)
      case atStart => exact ⟨0, Nat.zero_le _, rfl, HB2.out⟩
      case round =>
       obtain ⟨i, hi, rfl, hb⟩ := hrel
       have HB3 := Lib.hid hb
       clear hb
       obtain ⟨-, -, -, -, -, c5⟩ := svc_at ((HB3.out.block X (lt_of_block X4.out)).trans X4.out)
       obtain ⟨-, -, -, -, -, e5⟩ := svc_at ((HB3.out.block Y (lt_of_block Y4.out)).trans Y4.out)
       by_cases hlt3 : i < n5
       ·have hlt3' : (i : Int) < (n5 : Int) := by omega
        have hil : i < t.keys.length := by rw [← H5.out]; exact hlt3
        obtain ⟨b, off, k, hA, -, hk, d0, d1, d2⟩ := (S4.out.on HB3.out).keys.at_ (k := i) hil
        obtain ⟨b', off', k', hA', -, hk', f0, f1, f2⟩ := (P4.out.on HB3.out).keys.at_ (k := i) hil
        obtain rfl : k = k' := Option.some.inj (hk.out.symm.trans hk'.out)
        have ok := P4.out.kok k (by
         have := hk.out
         rw [List.getElem?_eq_getElem hil] at this
         rw [← Option.some.inj this]
         exact List.getElem_mem hil)
        obtain ⟨na, ke, id⟩ := k
        simp only at d0 d1 d2 f0 f1 f2 ok
        have EQ := fun W => entE_neq na ke id na ke id ok ok W
        simp only [decide_true, Bool.not_true] at EQ
        rw [hA'] at c5
        rw [hA] at e5
        clear hk hk' ok hA hA' hil
        go_upto_region 26 with (fail)
        go_region_held3 (fun w' => w'.cell? ⟨X, 5, none⟩ = some (.slice (some ⟨b', off', none⟩) n5 p.ck) ∧ w'.cell? ⟨Y, 5, none⟩ = some (.slice (some ⟨b, off, none⟩) n5 q.ck) ∧ w'.cell? ⟨b, off + i * 3, none⟩ = some (.string na) ∧ w'.cell? ⟨b, off + i * 3 + 1, none⟩ = some (.string ke) ∧ w'.cell? ⟨b, off + i * 3 + 2, none⟩ = some (.int .i64 id) ∧ w'.cell? ⟨b', off' + i * 3, none⟩ = some (.string na) ∧ w'.cell? ⟨b', off' + i * 3 + 1, none⟩ = some (.string ke) ∧ w'.cell? ⟨b', off' + i * 3 + 2, none⟩ = some (.int .i64 id)) (go_keep) (fail)
        go_wp2
        refine ⟨⟨i + 1, by omega, by go_num, HB3.out.drew⟩, ?_⟩
        simp [intOf]; omega
       ·obtain rfl : n5 = i := by omega
        go_wp2
        go_ret
        exact ⟨rfl, Lib.hid (B0.out.trans ((B4.out.trans (HB3.out.mono B4.out.size)).mono B0.out.size))⟩
   ·have FR := Lib.hid (FB.out wr HB.out (fun r hr => by obtain ⟨j, hj, rfl⟩ := List.getElem_of_mem hr; have := (HS3.out j hj).2; omega) hV)
    clear FG FB SG VD
    go_wp2_with fail
    (with_reducible refine FR.out.mono ?_); rintro e w2 ⟨rfl, b2⟩
    have B2 : Hid (Below w.heap.size w w2) := Lib.hid (B0.out.trans ((HB.out.trans (b2.mono HB.out.size)).mono B0.out.size))
    clear b2
    go_wp2
    go_ret
    exact ⟨rfl, B2⟩
end Go.Proofs.YtkbekojnmdgdgaaGreatDoor
/- StateIn -/
namespace Go.Proofs.YtkbekojnmdgdgaaGreatDoor
open Go.ChangeShapes Go.WideShapes Go.ChangeAt Go.RowKit Go.Deep
structure RunBig (r : Rn.R) : Prop where
 da : ∀ k ∈ r.ts, k.da.length ≤ 9223372036854775807
 sg : ∀ s ∈ r.sg, s.length ≤ 9223372036854775807
 na : ∀ t ∈ r.d, t.name.length ≤ 9223372036854775807 ∧ t.on.length ≤ 9223372036854775807
theorem str_tx (s : ByteArray) : str (Fw.tx s) = s := Fw.bs_tx s
theorem tx_len (s : ByteArray) : (Fw.tx s).length = s.size := Array.length_toList
section
variable {H : Type} {enc : TypeId × Value → H} {w : World} {base : Nat} {spare : Nat → Bool} {held : Bool} {fuel : Nat} {cs : List Value} {x : DataW H × List MemPlace}
theorem texts_in (h : DataW.trod enc Tryz.prog w base spare held fuel 39 cs = some x) : ∃ (A : Option Addr) (ls : List ByteArray) (cap : Nat), cs = [.slice A ls.length cap] ∧ ls.length ≤ cap ∧ NmsO w (fun _ => True) A ls := by
 obtain ⟨A, ls, cap, h1, h2, h3, h4⟩ := ones_any ByteArray.empty (fun v s => v = .string s ∧ s.size ≤ 9223372036854775807) Tryz.underlying39 (by kernel_rfl) (fun n v y hy => str_of Tryz.underlying9 hy) h
 refine ⟨A, ls, cap, h1, h2, fun n hn => ?_, fun h0 => ?_⟩
 ·obtain ⟨i, hi, rfl⟩ := List.getElem_of_mem hn
  obtain ⟨b, off, e, hb, hc⟩ := h4 (by omega)
  obtain ⟨v, hv, _, h6⟩ := hc i hi
  rwa [List.getD_eq_getElem?_getD, List.getElem?_eq_getElem hi] at h6
 ·obtain ⟨b, off, e, hb, hc⟩ := h4 h0
  refine ⟨b, off, e, trivial, hb, fun i hi => ?_⟩
  obtain ⟨v, hv, rfl, _⟩ := hc i hi
  show w.cell? ⟨b, off + i * 1 + 0, none⟩ = _
  rw [Nat.mul_one, Nat.add_zero]
  exact hv
theorem sigs_in (h : DataW.trod enc Tryz.prog w base spare held fuel 39 cs = some x) : ∃ (A : Option Addr) (ls : List Tx.T) (cap : Nat), cs = [.slice A ls.length cap] ∧ ls.length ≤ cap ∧ SigsO w (fun _ => True) A ls ∧ ∀ s ∈ ls, s.length ≤ 9223372036854775807 := by
 obtain ⟨A, ls, cap, h1, h2, h3, h4⟩ := texts_in h
 refine ⟨A, ls.map Fw.tx, cap, by rw [List.length_map]; exact h1, by rw [List.length_map]; exact h2, fun h0 => ?_, fun s hs => ?_⟩
 ·rw [List.length_map] at h0 ⊢
  obtain ⟨b, off, e, ho, hb, hc⟩ := h4 h0
  refine ⟨b, off, e, ho, hb, fun i hi => ?_⟩
  have h5 : w.cell? ⟨b, off + i * 1 + 0, none⟩ = some (.string (ls.getD i ByteArray.empty)) := hc i hi
  show w.cell? ⟨b, off + i * 1 + 0, none⟩ = some (.string (str ((ls.map Fw.tx).getD i [])))
  rw [h5, List.getD_eq_getElem?_getD, List.getD_eq_getElem?_getD, List.getElem?_map, List.getElem?_eq_getElem hi]
  show some (Value.string ls[i]) = some (Value.string (str (Fw.tx ls[i])))
  rw [str_tx]
 ·obtain ⟨b, hb, rfl⟩ := List.mem_map.1 hs
  rw [tx_len]
  exact h3 b hb
theorem ints_in (h : DataW.trod enc Tryz.prog w base spare held fuel 94 cs = some x) : ∃ (A : Option Addr) (ls : List Int) (cap : Nat), cs = [.slice A ls.length cap] ∧ ls.length ≤ cap ∧ ZsO w (fun _ => True) A ls := by
 obtain ⟨A, ls, cap, h1, h2, h3, h4⟩ := ones_any (0 : Int) (fun v s => v = .int .i64 s ∧ inI s) Tryz.underlying94 (by kernel_rfl) (fun n v y hy => by
  obtain ⟨k, e, k0, k1⟩ := i64_of Tryz.underlying3 hy
  exact ⟨k, e, k0, k1⟩) h
 refine ⟨A, ls, cap, h1, h2, fun i hi => ?_, fun h0 => ?_⟩
 ·obtain ⟨b, off, e, hb, hc⟩ := h4 (by omega)
  obtain ⟨v, hv, _, h6⟩ := hc i hi
  exact h6
 ·obtain ⟨b, off, e, hb, hc⟩ := h4 h0
  refine ⟨b, off, e, trivial, hb, fun i hi => ?_⟩
  obtain ⟨v, hv, rfl, _⟩ := hc i hi
  show w.cell? ⟨b, off + i * 1 + 0, none⟩ = _
  rw [Nat.mul_one, Nat.add_zero]
  exact hv
set_option maxRecDepth 20000 in
theorem tks_in (h : DataW.trod enc Tryz.prog w base spare held fuel 38 cs = some x) : ∃ (A : Option Addr) (ls : List Rn.Tk) (cap : Nat), cs = [.slice A ls.length cap] ∧ ls.length ≤ cap ∧ TksO w (fun _ => True) A ls ∧ ∀ k ∈ ls, k.da.length ≤ 9223372036854775807 := by
 obtain ⟨A, len, cap, hcs, hl, hm, hc⟩ := rows_any (k := 4) Tryz.underlying38 (by kernel_rfl) (by decide) h
 rcases Nat.eq_zero_or_pos len with h0 | h0
 ·subst h0; exact ⟨A, [], cap, hcs, by simp, ⟨fun k hk => by simp at hk, RowO.nil_⟩, fun k hk => by simp at hk⟩
 ·obtain ⟨b, off, rfl, hb, he⟩ := hc h0
  obtain ⟨ms, hml, hms⟩ := list_of Rn.t0 (fun i k => tkIn k ∧ k.da.length ≤ 9223372036854775807 ∧ tkC k fun j => w.cell? ⟨b, off + i * 4 + j, none⟩) len fun i hi => by
   obtain ⟨zs, n, y, hz, ht, hv⟩ := he i hi
   obtain ⟨z0, z1, z2, z3, rfl⟩ : ∃ z0 z1 z2 z3, zs = [z0, z1, z2, z3] := by
    match zs, hz with
    | [a, b, c, d], _ => exact ⟨a, b, c, d, rfl⟩
   obtain ⟨m0, y0, t0⟩ := field_in Tryz.underlying47 ht 0 _ rfl rfl (by kernel_rfl : _ = 1)
   obtain ⟨m1, y1, t1⟩ := field_in Tryz.underlying47 ht 1 _ rfl rfl (by kernel_rfl : _ = 1)
   obtain ⟨m2, y2, t2⟩ := field_in Tryz.underlying47 ht 2 _ rfl rfl (by kernel_rfl : _ = 1)
   obtain ⟨m3, y3, t3⟩ := field_in Tryz.underlying47 ht 3 _ rfl rfl (by kernel_rfl : _ = 1)
   obtain ⟨p, rfl, p0, p1⟩ := i64_of Tryz.underlying3 t0
   obtain ⟨r, rfl, r0, r1⟩ := i64_of Tryz.underlying3 t1
   obtain ⟨u, rfl, u0, u1⟩ := i64_of Tryz.underlying2 t2
   obtain ⟨s, rfl, hs⟩ := str_of Tryz.underlying9 t3
   refine ⟨⟨p, r, u, Fw.tx s⟩, ⟨⟨p0, p1⟩, ⟨r0, r1⟩, ⟨u0, u1⟩⟩, by rw [show (Rn.Tk.mk p r u (Fw.tx s)).da = Fw.tx s from rfl, tx_len]; exact hs, hv 0 (by simp), hv 1 (by simp), hv 2 (by simp), ?_⟩
   show w.cell? ⟨b, off + i * 4 + 3, none⟩ = some (.string (str (Fw.tx s)))
   rw [str_tx]
   exact hv 3 (by simp)
  refine ⟨some ⟨b, off, none⟩, ms, cap, by rw [hml]; exact hcs, by omega, ⟨fun k hk => ?_, fun _ => ⟨b, off, rfl, trivial, hb, fun i hi => (hms i (by omega)).2.2⟩⟩, fun k hk => ?_⟩
  ·obtain ⟨i, hi, rfl⟩ := List.getElem_of_mem hk
   have := (hms i (by omega)).1
   rwa [List.getD_eq_getElem?_getD, List.getElem?_eq_getElem hi] at this
  ·obtain ⟨i, hi, rfl⟩ := List.getElem_of_mem hk
   have := (hms i (by omega)).2.1
   rwa [List.getD_eq_getElem?_getD, List.getElem?_eq_getElem hi] at this
set_option maxRecDepth 20000 in
theorem defs_in (h : DataW.trod enc Tryz.prog w base spare held fuel 35 cs = some x) : ∃ (A : Option Addr) (ls : Df.D) (cap : Nat), cs = [.slice A ls.length cap] ∧ ls.length ≤ cap ∧ DefO w (fun _ => True) A ls ∧ ∀ t ∈ ls, t.name.length ≤ 9223372036854775807 ∧ t.on.length ≤ 9223372036854775807 := by
 obtain ⟨A, len, cap, hcs, hl, hm, hc⟩ := rows_any (k := 6) Tryz.underlying35 (by kernel_rfl) (by decide) h
 rcases Nat.eq_zero_or_pos len with h0 | h0
 ·subst h0; exact ⟨A, [], cap, hcs, by simp, ⟨fun k hk => by simp at hk, RowO.nil_⟩, fun k hk => by simp at hk⟩
 ·obtain ⟨b, off, rfl, hb, he⟩ := hc h0
  obtain ⟨ms, hml, hms⟩ := list_of tz (fun i t => numIn t ∧ (t.name.length ≤ 9223372036854775807 ∧ t.on.length ≤ 9223372036854775807) ∧ taskC w (fun _ => True) t fun j => w.cell? ⟨b, off + i * 6 + j, none⟩) len fun i hi => by
   obtain ⟨zs, n, y, hz, ht, hv⟩ := he i hi
   obtain ⟨z0, z1, z2, z3, z4, z5, rfl⟩ : ∃ z0 z1 z2 z3 z4 z5, zs = [z0, z1, z2, z3, z4, z5] := by
    match zs, hz with
    | [a, b, c, d, e, f], _ => exact ⟨a, b, c, d, e, f, rfl⟩
   obtain ⟨m0, y0, t0⟩ := field_in Tryz.underlying96 ht 0 _ rfl rfl (by kernel_rfl : _ = 1)
   obtain ⟨m1, y1, t1⟩ := field_in Tryz.underlying96 ht 1 _ rfl rfl (by kernel_rfl : _ = 1)
   obtain ⟨m2, y2, t2⟩ := field_in Tryz.underlying96 ht 2 _ rfl rfl (by kernel_rfl : _ = 1)
   obtain ⟨m3, y3, t3⟩ := field_in Tryz.underlying96 ht 3 _ rfl rfl (by kernel_rfl : _ = 1)
   obtain ⟨m4, y4, t4⟩ := field_in Tryz.underlying96 ht 4 _ rfl rfl (by kernel_rfl : _ = 1)
   obtain ⟨m5, y5, t5⟩ := field_in Tryz.underlying96 ht 5 _ rfl rfl (by kernel_rfl : _ = 1)
   obtain ⟨s, rfl, hs⟩ := str_of Tryz.underlying9 t0
   obtain ⟨A2, l2, c2, e2, hc2, hz2⟩ := ints_in t1
   obtain rfl : z1 = .slice A2 l2.length c2 := by simpa using e2
   obtain ⟨r, rfl, r0, r1⟩ := i64_of Tryz.underlying3 t2
   obtain ⟨u, rfl, u0, u1⟩ := i64_of Tryz.underlying3 t3
   obtain ⟨v, rfl, v0, v1⟩ := i64_of Tryz.underlying3 t4
   obtain ⟨o, rfl, ho⟩ := str_of Tryz.underlying9 t5
   refine ⟨⟨Fw.tx s, l2, r, u, v, Fw.tx o⟩, ⟨⟨r0, r1⟩, ⟨u0, u1⟩, ⟨v0, v1⟩⟩, ⟨by show (Fw.tx s).length ≤ _; rw [tx_len]; exact hs, by show (Fw.tx o).length ≤ _; rw [tx_len]; exact ho⟩, A2, c2, ?_, hv 1 (by simp), hv 2 (by simp), hv 3 (by simp), hv 4 (by simp), ?_, hz2, hc2⟩
   ·show w.cell? ⟨b, off + i * 6 + 0, none⟩ = some (.string (str (Fw.tx s)))
    rw [str_tx]
    exact hv 0 (by simp)
   ·show w.cell? ⟨b, off + i * 6 + 5, none⟩ = some (.string (str (Fw.tx o)))
    rw [str_tx]
    exact hv 5 (by simp)
  refine ⟨some ⟨b, off, none⟩, ms, cap, by rw [hml]; exact hcs, by omega, ⟨fun k hk => ?_, fun _ => ⟨b, off, rfl, trivial, hb, fun i hi => (hms i (by omega)).2.2⟩⟩, fun k hk => ?_⟩
  ·obtain ⟨i, hi, rfl⟩ := List.getElem_of_mem hk
   have := (hms i (by omega)).1
   rwa [List.getD_eq_getElem?_getD, List.getElem?_eq_getElem hi] at this
  ·obtain ⟨i, hi, rfl⟩ := List.getElem_of_mem hk
   have := (hms i (by omega)).2.1
   rwa [List.getD_eq_getElem?_getD, List.getElem?_eq_getElem hi] at this
set_option maxRecDepth 20000 in
theorem runs_in (h : DataW.trod enc Tryz.prog w base spare held fuel 54 cs = some x) : ∃ (A : Option Addr) (ls : List Rn.R) (cap : Nat), cs = [.slice A ls.length cap] ∧ ls.length ≤ cap ∧ RunsO w (fun _ => True) A ls ∧ ∀ r ∈ ls, RunBig r := by
 obtain ⟨A, len, cap, hcs, hl, hm, hc⟩ := rows_any (k := 4) Tryz.underlying54 (by kernel_rfl) (by decide) h
 rcases Nat.eq_zero_or_pos len with h0 | h0
 ·subst h0; exact ⟨A, [], cap, hcs, by simp, RowO.nil_, fun k hk => by simp at hk⟩
 ·obtain ⟨b, off, rfl, hb, he⟩ := hc h0
  obtain ⟨ms, hml, hms⟩ := list_of Rn.r0 (fun i r => RunBig r ∧ runC w (fun _ => True) r fun j => w.cell? ⟨b, off + i * 4 + j, none⟩) len fun i hi => by
   obtain ⟨zs, n, y, hz, ht, hv⟩ := he i hi
   obtain ⟨z0, z1, z2, z3, rfl⟩ : ∃ z0 z1 z2 z3, zs = [z0, z1, z2, z3] := by
    match zs, hz with
    | [a, b, c, d], _ => exact ⟨a, b, c, d, rfl⟩
   obtain ⟨m0, y0, t0⟩ := field_in Tryz.underlying41 ht 0 _ rfl rfl (by kernel_rfl : _ = 1)
   obtain ⟨m1, y1, t1⟩ := field_in Tryz.underlying41 ht 1 _ rfl rfl (by kernel_rfl : _ = 1)
   obtain ⟨m2, y2, t2⟩ := field_in Tryz.underlying41 ht 2 _ rfl rfl (by kernel_rfl : _ = 1)
   obtain ⟨m3, y3, t3⟩ := field_in Tryz.underlying41 ht 3 _ rfl rfl (by kernel_rfl : _ = 1)
   obtain ⟨m4, y4, t4⟩ := field_in Tryz.underlying37 t0 0 _ rfl rfl (by kernel_rfl : _ = 1)
   obtain ⟨A0, l0, c0, e0, hc0, hd0, hb0⟩ := defs_in t4
   obtain rfl : z0 = .slice A0 l0.length c0 := by simpa using e0
   obtain ⟨st, rfl, s0, s1⟩ := i64_of Tryz.underlying3 t1
   obtain ⟨A2, l2, c2, e2, hc2, hd2, hb2⟩ := tks_in t2
   obtain rfl : z2 = .slice A2 l2.length c2 := by simpa using e2
   obtain ⟨A3, l3, c3, e3, hc3, hd3, hb3⟩ := sigs_in t3
   obtain rfl : z3 = .slice A3 l3.length c3 := by simpa using e3
   exact ⟨⟨l0, st, l2, l3⟩, ⟨hb2, hb3, hb0⟩, ⟨A0, c0, A2, c2, A3, c3⟩, hv 0 (by simp), hv 1 (by simp), hv 2 (by simp), hv 3 (by simp), ⟨hd0, hc0, hd2, hc2, hd3, hc3⟩, s0, s1⟩
  refine ⟨some ⟨b, off, none⟩, ms, cap, by rw [hml]; exact hcs, by omega, fun _ => ⟨b, off, rfl, trivial, hb, fun i hi => (hms i (by omega)).2⟩, fun k hk => ?_⟩
  obtain ⟨i, hi, rfl⟩ := List.getElem_of_mem hk
  have := (hms i (by omega)).1
  rwa [List.getD_eq_getElem?_getD, List.getElem?_eq_getElem hi] at this
set_option maxRecDepth 20000 in
theorem ents_in (h : DataW.trod enc Tryz.prog w base spare held fuel 55 cs = some x) : ∃ (A : Option Addr) (ls : List Ky.T) (cap : Nat), cs = [.slice A ls.length cap] ∧ ls.length ≤ cap ∧ Ents w (fun _ => True) A ls ∧ ∀ k ∈ ls, Ky.ok k.name k.key k.id := by
 obtain ⟨A, len, cap, hcs, hl, hm, hc⟩ := rows_any (k := 3) Tryz.underlying55 (by kernel_rfl) (by decide) h
 rcases Nat.eq_zero_or_pos len with h0 | h0
 ·subst h0; exact ⟨A, [], cap, hcs, by simp, Ents.nil_, fun k hk => by simp at hk⟩
 ·obtain ⟨b, off, rfl, hb, he⟩ := hc h0
  obtain ⟨ms, hml, hms⟩ := list_of (⟨ByteArray.empty, ByteArray.empty, 0⟩ : Ky.T) (fun i k => Ky.ok k.name k.key k.id ∧ w.cell? ⟨b, off + i * 3, none⟩ = some (.string k.name) ∧ w.cell? ⟨b, off + i * 3 + 1, none⟩ = some (.string k.key) ∧ w.cell? ⟨b, off + i * 3 + 2, none⟩ = some (.int .i64 k.id)) len fun i hi => by
   obtain ⟨zs, n, y, hz, ht, hv⟩ := he i hi
   obtain ⟨z0, z1, z2, rfl⟩ : ∃ z0 z1 z2, zs = [z0, z1, z2] := by
    match zs, hz with
    | [a, b, c], _ => exact ⟨a, b, c, rfl⟩
   obtain ⟨m0, y0, t0⟩ := field_in Tryz.underlying65 ht 0 _ rfl rfl (by kernel_rfl : _ = 2)
   obtain ⟨m1, y1, t1⟩ := field_in Tryz.underlying65 ht 1 _ rfl rfl (by kernel_rfl : _ = 1)
   have t0' : DataW.trod enc Tryz.prog w base spare held m0 63 [z0, z1] = some y0 := t0
   obtain ⟨m2, y2, t2⟩ := field_in Tryz.underlying63 t0' 0 _ rfl rfl (by kernel_rfl : _ = 1)
   obtain ⟨m3, y3, t3⟩ := field_in Tryz.underlying63 t0' 1 _ rfl rfl (by kernel_rfl : _ = 1)
   obtain ⟨id, rfl, i0, i1⟩ := i64_of Tryz.underlying3 t1
   obtain ⟨na, rfl, hna⟩ := str_of Tryz.underlying9 t2
   obtain ⟨ke, rfl, hke⟩ := str_of Tryz.underlying9 t3
   exact ⟨⟨na, ke, id⟩, ⟨⟨hna, hke⟩, i0, i1⟩, hv 0 (by simp), hv 1 (by simp), hv 2 (by simp)⟩
  refine ⟨some ⟨b, off, none⟩, ms, cap, by rw [hml]; exact hcs, by omega, fun _ => ⟨b, off, rfl, trivial, hb, fun i hi => ?_⟩, fun k hk => ?_⟩
  ·have := (hms i (by omega)).2
   rwa [List.getD_eq_getElem?_getD, List.getElem?_eq_getElem hi] at this
  ·obtain ⟨i, hi, rfl⟩ := List.getElem_of_mem hk
   have := (hms i (by omega)).1
   rwa [List.getD_eq_getElem?_getD, List.getElem?_eq_getElem hi] at this
end
structure StIn (w : World) (p : At5) (t : Fw.St) : Prop where
 mem : StO w (fun _ => True) p t
 big : ∀ r ∈ t.runs, RunBig r
set_option maxRecDepth 20000 in
theorem fstate_in {H : Type} {enc : TypeId × Value → H} {w : World} {base b0 : Nat} {spare : Nat → Bool} {held : Bool} {r : Reach} {v : Value} {d : DataW H} {p : List MemPlace}
  (hv : Value.okWide Tryz.prog w r b0 57 v) (h : DataW.Trod enc Tryz.prog w base spare held 57 v d p) :
  ∃ (q : At5) (t : Fw.St), v = sv q t ∧ StIn w q t := by
 obtain ⟨cs, rfl, hsz⟩ := okWide_struct Tryz.underlying57 hv
 have hc : Tryz.prog.cellsOf 57 = 6 := by kernel_rfl
 rw [hc] at hsz
 obtain ⟨fuel, hf⟩ := h
 obtain ⟨v0, v1, v2, v3, v4, v5, rfl⟩ : ∃ v0 v1 v2 v3 v4 v5, cs = #[v0, v1, v2, v3, v4, v5] := by
  obtain ⟨l⟩ := cs
  match l, hsz with
  | [a, b, c, d, e, f], _ => exact ⟨a, b, c, d, e, f, rfl⟩
 have hf' : DataW.trod enc Tryz.prog w base spare held fuel 57 [v0, v1, v2, v3, v4, v5] = some (d, p) := by simpa [Value.cells] using hf
 obtain ⟨m0, y0, t0⟩ := field_in Tryz.underlying57 hf' 0 _ rfl rfl (by kernel_rfl : _ = 1)
 obtain ⟨m1, y1, t1⟩ := field_in Tryz.underlying57 hf' 1 _ rfl rfl (by kernel_rfl : _ = 1)
 obtain ⟨m2, y2, t2⟩ := field_in Tryz.underlying57 hf' 2 _ rfl rfl (by kernel_rfl : _ = 1)
 obtain ⟨m3, y3, t3⟩ := field_in Tryz.underlying57 hf' 3 _ rfl rfl (by kernel_rfl : _ = 1)
 obtain ⟨m4, y4, t4⟩ := field_in Tryz.underlying57 hf' 4 _ rfl rfl (by kernel_rfl : _ = 1)
 obtain ⟨m5, y5, t5⟩ := field_in Tryz.underlying57 hf' 5 _ rfl rfl (by kernel_rfl : _ = 1)
 obtain ⟨c, rfl, k0, k1⟩ := i64_of Tryz.underlying2 t0
 obtain ⟨A1, l1, c1, e1, hc1, hd1⟩ := texts_in t1
 obtain rfl : v1 = .slice A1 l1.length c1 := by simpa using e1
 obtain ⟨A2, l2, c2, e2, hc2, hd2⟩ := texts_in t2
 obtain rfl : v2 = .slice A2 l2.length c2 := by simpa using e2
 obtain ⟨A3, l3, c3, e3, hc3, hd3, hb3⟩ := runs_in t3
 obtain rfl : v3 = .slice A3 l3.length c3 := by simpa using e3
 obtain ⟨A4, l4, c4, e4, hc4, hd4⟩ := texts_in t4
 obtain rfl : v4 = .slice A4 l4.length c4 := by simpa using e4
 obtain ⟨A5, l5, c5, e5, hc5, hd5, hk5⟩ := ents_in t5
 obtain rfl : v5 = .slice A5 l5.length c5 := by simpa using e5
 exact ⟨⟨A1, c1, A2, c2, A3, c3, A4, c4, A5, c5⟩, ⟨c, l1, l2, l3, l4, l5⟩, rfl, ⟨⟨k0, k1⟩, hd1, hc1, hd2, hc2, hd3, hc3, hd4, hc4, hd5, hk5, hc5⟩, hb3⟩
end Go.Proofs.YtkbekojnmdgdgaaGreatDoor
