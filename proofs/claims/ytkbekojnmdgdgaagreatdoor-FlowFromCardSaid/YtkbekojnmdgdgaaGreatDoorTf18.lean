/-
  Part 18 of the texts behind the law: TToAhead, TToPlaced, TToOrder.
-/
import Derived.Test.YtkbekojnmdgdgaaGreatDoorTf17
import Derived.Test.YtkbekojnmdgdgaaGreatDoorTf1
import Derived.Test.YtkbekojnmdgdgaaGreatDoorTf8
import Derived.Test.YtkbekojnmdgdgaaGreatDoorTf9
import Derived.Deep.RegionHeld3
import Derived.Deep.Cut
import Derived.Test.YtkbekojnmdgdgaaGreatDoorTf2
/- ToAhead -/
namespace Go.Proofs.YtkbekojnmdgdgaaGreatDoor
open Go.RowKit
def BefG (w : World) (E : Gr.E) (N : Nat) (e : Ending) (w' : World) : Prop :=
 ∃ g, e = .returned (.slice (some ⟨g, 0, none⟩) N N) ∧ Hid (Bef w' w'.heap.size g E N) ∧ Hid (Below w.heap.size w w')
set_option maxRecDepth 100000 in
set_option maxHeartbeats 4000000 in
theorem allAhead_any (N : Nat) (A : Option Addr) (es : Gr.EI) (cap : Nat) (hg : Gr.Good (N : Int) es) (w : World) (h : Edg w w.heap.size A es) :
  Calls Tryz.prog 121 #[.agg #[.int .i64 (N : Int), .slice A es.length cap]] w (BefG w (Gr.nat es) N) := by
 have hN16 : N ≤ 16 := by have := hg.n16; omega
 have hl := hg.len
 have GH := Lib.hid hg
 have H := Lib.hid h
 obtain ⟨l, hl2⟩ : ∃ l, l = es.length := ⟨_, rfl⟩
 have HL := Lib.hid hl2
 rw [← hl2] at hl ⊢
 clear h hg hl2
 obtain ⟨W1, hW1⟩ : ∃ W1, W1 = w.alloc (.cells #[.int .i64 (N : Int), .slice A l cap] 150) := ⟨_, rfl⟩
 have P1 : Hid (W1.heap[w.heap.size]? = some (.cells #[.int .i64 (N : Int), .slice A l cap] 150 (0, 0))) := Lib.hid (by rw [hW1]; exact heap_alloc_new ..)
 have B1 : Hid (Below w.heap.size w W1) := Lib.hid (by rw [hW1]; exact (Below.refl _ _).alloc (Nat.le_refl _) _)
 have Z1 : Hid (W1.heap.size = w.heap.size + 1) := Lib.hid (by rw [hW1]; simp)
 obtain ⟨⟨x0, x1⟩, -⟩ := obG P1.out
 have MK := fun W => made_M N (by omega) W
 go_enter Tryz.func121, Tryz.ntmps121
 go_upto_region 1 with fail
 rw [← hW1]
 clear hW1
 go_upto_region 2 with fail
 obtain ⟨R, hR⟩ : ∃ R, R = W1.heap.size := ⟨_, rfl⟩
 obtain ⟨W2, hW2⟩ : ∃ W2, W2 = W1.alloc (.cells (madeCells #[.slice none 0 0] N) 94) := ⟨_, rfl⟩
 have OM : Hid (OwnM W2 R R N (fun _ => []) fun _ => (none, 0)) := Lib.hid (by rw [hW2, hR]; exact OwnM.made W1 N (by omega))
 have B2 : Hid (Below R W1 W2) := Lib.hid (by rw [hW2, hR]; exact (Below.refl _ _).alloc (Nat.le_refl _) _)
 rw [← hW2, ← hR]
 have XR : Hid (w.heap.size < R) := Lib.hid (by have := Z1.out; omega)
 have PX : Hid (∀ W, Below R W1 W → (W.cell? ⟨w.heap.size, 0, none⟩ = some (.int .i64 (N : Int)) ∧ W.cell? ⟨w.heap.size, 1, none⟩ = some (.slice A l cap))) := Lib.hid fun W hW => by
  exact (obG ((hW.block _ XR.out).trans P1.out)).1
 have BX : Hid (∀ W, Below R W1 W → Below w.heap.size w W) := Lib.hid fun W hW => B1.out.trans (hW.mono (Nat.le_of_lt XR.out))
 clear hW2 hR MK x0 x1 Z1
 obtain ⟨x0, x1⟩ := PX.out _ B2.out
 clear P1 B1
 go_wp2_with fail
 clear x0 x1
 go_loopw [12] (fun iv wr => ∃ (k : Nat) (M : Nat → List Int) (P : Nat → Option Addr × Nat), k ≤ l ∧ iv = .int .i64 k ∧ Hid (OwnM wr R R N M P) ∧ Hid (∀ q, q < N → M q = Gr.ints (To.befV (Gr.nat (es.take k)) q)) ∧ Hid (Below R W1 wr)) (fun iv _ => l - (intOf iv).toNat)
 case atStart => exact ⟨0, _, _, Nat.zero_le _, rfl, OM, Lib.hid fun q _ => rfl, B2⟩
 case round =>
  obtain ⟨k, M, P, hk, rfl, HO, HM, HB⟩ := hrel
  by_cases hlt : k < l
  ·have hlt' : (k : Int) < (l : Int) := by omega
   have hke : k < es.length := by rw [← HL.out]; exact hlt
   obtain ⟨b, off, x, y, rfl, hb, hc0, hc1, he, ⟨hx0, hx1⟩, hy0, hy1⟩ := (H.out.below (BX.out _ HB.out)).at_ (k := k) hke
   obtain ⟨x0, x1⟩ := PX.out _ HB.out
   have hge := GH.out.edge (x, y) (by rw [← he.out, List.getD_eq_getElem?_getD, List.getElem?_eq_getElem hke]; exact List.getElem_mem hke)
   obtain ⟨p, rfl⟩ : ∃ p : Nat, x = (p : Int) := ⟨x.toNat, by have := hge.1; omega⟩
   obtain ⟨q, rfl⟩ : ∃ q : Nat, y = (q : Int) := ⟨y.toNat, by have := hge.2.2.1; omega⟩
   have hq' : (q : Int) < (N : Int) := hge.2.2.2.1
   have hq : q < N := by omega
   clear hx0 hx1 hy0 hy1
   have MN : Hid (∀ r, r < N → (setF M q (M q ++ [(p : Int)])) r = Gr.ints (To.befV (Gr.nat (es.take (k + 1))) r)) := Lib.hid fun r hr => by
    have e : Gr.nat (es.take (k + 1)) = Gr.nat (es.take k) ++ [(p, q)] := by
     rw [List.take_succ_eq_append_getElem hke]
     have h2 : es[k] = ((p : Int), (q : Int)) := by rw [← he.out, List.getD_eq_getElem?_getD, List.getElem?_eq_getElem hke]; rfl
     rw [h2]
     unfold Gr.nat
     rw [List.map_append]
     rfl
    rw [e, To.bef_snoc]
    by_cases hrq : r = q
    ·subst hrq
     rw [setF_same, if_pos rfl, HM.out r hr, Gr.ints_app]
     rfl
    ·rw [setF_ne _ _ hrq, if_neg hrq]
     exact HM.out r hr
   have ML : Hid ((M q).length ≤ 256) := Lib.hid (by
    rw [HM.out q hq, Gr.ints_len]
    refine Nat.le_trans (To.bef_len _ _) ?_
    unfold Gr.nat
    rw [List.length_map, List.length_take]
    have := HL.out
    omega)
   have IP : Hid (inI (p : Int)) := Lib.hid ⟨by omega, by omega⟩
   clear hge HM he
   obtain ⟨e, hE⟩ : ∃ e, e = wr.heap.size := ⟨_, rfl⟩
   obtain ⟨W3, hW3⟩ : ∃ W3, W3 = wr.alloc (.cells #[.int .i64 (p : Int), .int .i64 (q : Int)] 185) := ⟨_, rfl⟩
   have P3 : Hid (W3.heap[e]? = some (.cells #[.int .i64 (p : Int), .int .i64 (q : Int)] 185 (0, 0))) := Lib.hid (by rw [hW3, hE]; exact heap_alloc_new ..)
   have BE : Hid (Below e wr W3) := Lib.hid (by rw [hW3, hE]; exact (Below.refl _ _).alloc (Nat.le_refl _) _)
   have Z3 : Hid (W3.heap.size = e + 1) := Lib.hid (by rw [hW3, hE]; simp)
   have O3 : Hid (OwnM W3 R R N M P) := Lib.hid (HO.out.keep (by rw [← hE]; exact BE.out))
   have XE : Hid (R < e) := Lib.hid (by rw [hE]; exact HO.out.lt.2)
   have B3 : Hid (Below R W1 W3) := Lib.hid (HB.out.trans (BE.out.mono (Nat.le_of_lt XE.out)))
   have HQ3 : Hid (∀ W, Below (e + 1) W3 W → W.cell? ⟨e, 0, none⟩ = some (.int .i64 (p : Int)) ∧ W.cell? ⟨e, 1, none⟩ = some (.int .i64 (q : Int)) ∧ W.cell? ⟨R, q, none⟩ = some (.slice (P q).1 (M q).length (P q).2)) := Lib.hid fun W hW => by
    have h1 := (obG ((hW.block e (by omega)).trans P3.out)).1
    exact ⟨h1.1, h1.2, (hW.cell (p := ⟨R, q, none⟩) (show R < e + 1 by have := XE.out; omega)).trans (O3.out.cell hq)⟩
   have S3 := Lib.hid (HQ3.out W3.drew (Below.refl _ _).drew)
   obtain ⟨W4, hW4⟩ : ∃ W4, W4 = (W3.alloc (.cells #[.int .i64 (p : Int)] 3)).drew := ⟨_, rfl⟩
   have B4 : Hid (Below (e + 1) W3 W4) := Lib.hid (by rw [hW4]; exact ((Below.refl _ _).alloc (by have := Z3.out; omega) _).drew)
   have S4 := Lib.hid (HQ3.out W4 B4.out)
   have O4 : Hid (OwnM W4 R R N M P) := Lib.hid (O3.out.keep (by rw [Z3.out]; exact B4.out))
   have Z4 : Hid (e + 1 < W4.heap.size) := Lib.hid (by have h := Z3.out; rw [hW4]; show e + 1 < (W3.alloc _).heap.size; rw [World.size_alloc]; omega)
   have C4 : Hid (W4.cell? ⟨e + 1, 0, none⟩ = some (.int .i64 (p : Int))) := Lib.hid (by rw [hW4, ← Z3.out]; show (W3.alloc _).cell? _ = _; exact cell_litN (w := W3) (by simp))
   have E4 : Hid (W4.heap[e]? = some (.cells #[.int .i64 (p : Int), .int .i64 (q : Int)] 185 (0, 0))) := Lib.hid ((B4.out.block _ (by omega)).trans P3.out)
   go_wp2_with fail
   rw [← hE, ← hW3]
   clear hE hW3 hc0 hc1 x0 x1
   obtain ⟨mq, hmq⟩ : ∃ mq, mq = (M q).length := ⟨_, rfl⟩
   have MQ := Lib.hid hmq
   rw [← hmq] at S3
   clear hmq
   refine wp_region_C (fun w' => w'.cell? ⟨e, 0, none⟩ = some (.int .i64 (p : Int)) ∧ w'.cell? ⟨e, 1, none⟩ = some (.int .i64 (q : Int)) ∧ w'.cell? ⟨R, q, none⟩ = some (.slice (P q).1 mq (P q).2)) 13 (by kernel_rfl) ?_
   have hS0 : (fun w' : World => w'.cell? ⟨e, 0, none⟩ = some (.int .i64 (p : Int)) ∧ w'.cell? ⟨e, 1, none⟩ = some (.int .i64 (q : Int)) ∧ w'.cell? ⟨R, q, none⟩ = some (.slice (P q).1 mq (P q).2)) W3.drew := S3.out
   refine takC 0 (h := ?_)
   try simp only [Act.put, List.setIfInBounds_toArray, List.set_cons_zero, List.set_cons_succ]
   refine takC 1 (h := ?_)
   try simp only [Act.put, List.setIfInBounds_toArray, List.set_cons_zero, List.set_cons_succ]
   refine takC 2 (h := ?_)
   try simp only [Act.put, List.setIfInBounds_toArray, List.set_cons_zero, List.set_cons_succ]
   refine takC 3 (h := ?_)
   try simp only [Act.put, List.setIfInBounds_toArray, List.set_cons_zero, List.set_cons_succ]
   refine takC 4 (h := ?_)
   try simp only [Act.put, List.setIfInBounds_toArray, List.set_cons_zero, List.set_cons_succ]
   refine takC 5 (h := ?_)
   try simp only [Act.put, List.setIfInBounds_toArray, List.set_cons_zero, List.set_cons_succ]
   refine takC 6 (h := ?_)
   try simp only [Act.put, List.setIfInBounds_toArray, List.set_cons_zero, List.set_cons_succ]
   refine takC 7 (h := ?_)
   try simp only [Act.put, List.setIfInBounds_toArray, List.set_cons_zero, List.set_cons_succ]
   refine takC 8 (h := ?_)
   try simp only [Act.put, List.setIfInBounds_toArray, List.set_cons_zero, List.set_cons_succ]
   refine takC 9 (h := ?_)
   try simp only [Act.put, List.setIfInBounds_toArray, List.set_cons_zero, List.set_cons_succ]
   refine wpAnyC_one (i := 10) (oi := ?o1) ?hi1 (by kernel_rfl) ?step1
   case hi1 => (simp only [List.getElem?_toArray, List.getElem?_cons_zero, List.getElem?_cons_succ]; exact rfl)
   intro K' hK
   (go_simp; rw [← hW4, Z3.out])
   refine hK.out _ _ ?_ (fun hHeld => ?_)
   ·exact fun _ => (by have := S4.out; rwa [← MQ.out] at this)
   clear hK K' hHeld
   try simp only [Act.put, List.setIfInBounds_toArray, List.set_cons_zero, List.set_cons_succ]
   clear hW4
   have HS4 : (fun w' : World => w'.cell? ⟨e, 0, none⟩ = some (.int .i64 (p : Int)) ∧ w'.cell? ⟨e, 1, none⟩ = some (.int .i64 (q : Int)) ∧ w'.cell? ⟨R, q, none⟩ = some (.slice (P q).1 mq (P q).2)) W4 := (by have := S4.out; rwa [← MQ.out] at this)
   refine wpAnyC_one (i := 11) (oi := ?o2) ?hi2 (by kernel_rfl) ?step2
   case hi2 => (simp only [List.getElem?_toArray, List.getElem?_cons_zero, List.getElem?_cons_succ]; exact rfl)
   intro K' hK
   refine step_appZat rfl (.tmp 23) (.tmp 26) rfl rfl MQ.out (O4.out.own q hq) (by have := Z4.out; have := XE.out; omega) rfl C4.out IP.out (by have := ML.out; omega) ?_; intro A5 c5 W5 o5 d5 t5; have O5 := Lib.hid (O4.out.put hq d5 o5 t5); have D5 := Lib.hid d5; have F5 : Hid (W5.frozen? ⟨R, q, none⟩ = false) := Lib.hid (O4.out.thaws hq d5 q); have B5 : Hid (Below R W1 W5) := Lib.hid ((B3.out.trans (B4.out.mono (by have := XE.out; omega))).trans (O4.out.under hq d5)); have HQ5 : Hid (∀ i {j : Nat}, (i = R ∨ ∃ cs t fz, W4.heap[i]? = some (.cells cs t fz) ∧ t ≠ 3) → W5.cell? ⟨i, j, none⟩ = W4.cell? ⟨i, j, none⟩) := Lib.hid (O4.out.stays hq d5); clear o5 d5 t5
   refine hK.out _ _ ?_ (fun hHeld => ?_)
   ·exact fun _ => ⟨(HQ5.out _ (.inr ⟨_, _, _, E4.out, by decide⟩)).trans HS4.1, (HQ5.out _ (.inr ⟨_, _, _, E4.out, by decide⟩)).trans HS4.2.1, (HQ5.out _ (.inl rfl)).trans HS4.2.2⟩
   clear hK K' hHeld
   try simp only [Act.put, List.setIfInBounds_toArray, List.set_cons_zero, List.set_cons_succ]
   have hc5 := (HQ5.out (j := q) R (.inl rfl)).trans HS4.2.2
   have hf5 := F5.out
   refine wpAnyC_one (i := 12) (oi := ?o3) ?hi3 (by kernel_rfl) ?step3
   case hi3 => (simp only [List.getElem?_toArray, List.getElem?_cons_zero, List.getElem?_cons_succ]; exact rfl)
   intro K' hK
   go_simp
   refine hK.out _ _ ?_ (fun hHeld => ?_)
   ·exact fun _ => ⟨(HQ5.out _ (.inr ⟨_, _, _, E4.out, by decide⟩)).trans HS4.1, (HQ5.out _ (.inr ⟨_, _, _, E4.out, by decide⟩)).trans HS4.2.1, (HQ5.out _ (.inl rfl)).trans HS4.2.2⟩
   clear hK K' hHeld
   try simp only [Act.put, List.setIfInBounds_toArray, List.set_cons_zero, List.set_cons_succ]
   refine wpAnyC_one (i := 13) (oi := ?o4) ?hi4 (by kernel_rfl) ?step4
   case hi4 => (simp only [List.getElem?_toArray, List.getElem?_cons_zero, List.getElem?_cons_succ]; exact rfl)
   intro K' hK
   go_simp
   refine hK.out _ _ ?_ (fun hHeld => ?_)
   ·exact fun h => (by cases h)
   clear hK K' hHeld
   try simp only [Act.put, List.setIfInBounds_toArray, List.set_cons_zero, List.set_cons_succ]
   clear hc5 hf5 HS4 S4 S3
   refine wpAnyC_done (by kernel_rfl) ?_ _
   go_wp2
   go_roundw
   case rel => exact ⟨k + 1, _, _, by omega, by go_num, Lib.hid (by have := O5.out; rwa [List.length_append, List.length_singleton] at this), MN, Lib.hid (B5.out.setCell (p := ⟨R, q, none⟩) (Nat.le_refl R) _)⟩
   case measure => simp [intOf]; omega
  ·obtain rfl : l = k := by omega
   have BF : Hid (Bef wr wr.heap.size R (Gr.nat es) N) := Lib.hid (HO.out.bef (by have := HM.out; rwa [HL.out, List.take_length] at this))
   go_wp2
   go_ret
   exact ⟨R, rfl, BF, Lib.hid (BX.out _ HB.out)⟩
end Go.Proofs.YtkbekojnmdgdgaaGreatDoor
/- ToPlaced -/
namespace Go.Proofs.YtkbekojnmdgdgaaGreatDoor
open Go.RowKit
def Flg (w : World) (B g N : Nat) (L : List Nat) : Prop := g < B ∧ ∀ x, x < N → w.cell? ⟨g, x, none⟩ = some (.bool (decide (x ∈ L)))
theorem Flg.below {w w' : World} {B g N : Nat} {L : List Nat} (h : Flg w B g N L) (hb : Below B w w') : Flg w' B g N L := ⟨h.1, fun x hx => (hb.cell (p := ⟨g, x, none⟩) h.1).trans (h.2 x hx)⟩
theorem Flg.more {w : World} {B B' g N : Nat} {L : List Nat} (h : Flg w B g N L) (hB : B ≤ B') : Flg w B' g N L := ⟨Nat.lt_of_lt_of_le h.1 hB, h.2⟩
theorem Flg.on {w w' : World} {g N : Nat} {L : List Nat} (h : Flg w w.heap.size g N L) (hb : Below w.heap.size w w') : Flg w' w'.heap.size g N L := (h.below hb).more hb.size
set_option maxHeartbeats 2000000 in
theorem allPlaced_any (A : Option Addr) (zs : List Nat) (cap g N : Nat) (L : List Nat) (hz : ∀ z ∈ zs, z < N) (hl : zs.length ≤ 1000000) (w : World) (h : Zs w w.heap.size A (Gr.ints zs)) (h2 : Flg w w.heap.size g N L) :
  Calls Tryz.prog 133 #[.slice A zs.length cap, .slice (some ⟨g, 0, none⟩) N N] w (BoolG w (zs.all fun a => L.contains a)) := by
 have H := Lib.hid h
 have H2 := Lib.hid h2
 have HZ := Lib.hid hz
 obtain ⟨n, hn⟩ : ∃ n, n = zs.length := ⟨_, rfl⟩
 have HN := Lib.hid hn
 rw [← hn] at hl ⊢
 clear h h2 hn hz
 go_enter Tryz.func133, Tryz.ntmps133
 go_wp2_with fail
 go_loopw [9] (fun iv wr => ∃ k : Nat, k ≤ n ∧ iv = .int .i64 k ∧ Hid (∀ z ∈ zs.take k, z ∈ L) ∧ Hid (Below w.heap.size w wr)) (fun iv _ => n - (intOf iv).toNat)
 case atStart => exact ⟨0, Nat.zero_le _, rfl, Lib.hid (by simp), Lib.hid (Below.refl _ _)⟩
 case round =>
  obtain ⟨k, hk, rfl, HK, HB⟩ := hrel
  by_cases hlt : k < n
  ·have hlt' : (k : Int) < (n : Int) := by omega
   have hkz : k < zs.length := by rw [← HN.out]; exact hlt
   obtain ⟨b, off, y, rfl, hb, hc, hy, hy0, hy1⟩ := (H.out.below HB.out).at_ (k := k) (by rw [Gr.ints_len]; exact hkz)
   obtain ⟨z, hz⟩ : ∃ z, z = zs.getD k 0 := ⟨_, rfl⟩
   obtain rfl : y = (z : Int) := by rw [← hy.out, Gr.ints_get, hz]
   have hzN := HZ.out z (by rw [hz, List.getD_eq_getElem?_getD, List.getElem?_eq_getElem hkz]; exact List.getElem_mem hkz)
   have hzN' : (z : Int) < (N : Int) := by omega
   have hf := (H2.out.below HB.out).2 z hzN
   have TK : Hid (zs.take (k + 1) = zs.take k ++ [z]) := Lib.hid (by rw [List.take_succ_eq_append_getElem hkz, hz, List.getD_eq_getElem?_getD, List.getElem?_eq_getElem hkz]; rfl)
   by_cases hm : z ∈ L
   ·have hd : decide (z ∈ L) = true := decide_eq_true hm
    rw [hd] at hf
    have HK' : Hid (∀ z ∈ zs.take (k + 1), z ∈ L) := Lib.hid (by
     rw [TK.out]
     intro u hu
     rcases List.mem_append.1 hu with hu | hu
     ·exact HK.out u hu
     ·simp at hu; rw [hu]; exact hm)
    clear hy hz hm hd
    go_wp2
    go_roundw
    case rel => exact ⟨k + 1, by omega, by go_num, HK', HB⟩
    case measure => simp [intOf]; omega
   ·have hd : decide (z ∈ L) = false := decide_eq_false hm
    rw [hd] at hf
    have G0 : Hid ((zs.all fun a => L.contains a) = false) := Lib.hid (by
     rw [List.all_eq_false]
     refine ⟨z, by rw [hz, List.getD_eq_getElem?_getD, List.getElem?_eq_getElem hkz]; exact List.getElem_mem hkz, ?_⟩
     simpa using hm)
    clear hy hz hm hd
    go_wp2
    go_ret
    exact ⟨ret_bool G0.out.symm, HB⟩
  ·obtain rfl : n = k := by omega
   have G0 : Hid ((zs.all fun a => L.contains a) = true) := Lib.hid (by
    have := HK.out
    rw [HN.out, List.take_length] at this
    rw [List.all_eq_true]
    intro z hz
    simpa using this z hz)
   go_wp2
   go_ret
   exact ⟨ret_bool G0.out.symm, HB⟩
structure To.Fl (N : Nat) (L : List Nat) (bs : List Bool) : Prop where
 len : bs.length = N
 at_ : ∀ x, x < N → bs.getD x false = decide (x ∈ L)
theorem To.Fl.zero (N : Nat) : To.Fl N [] (List.replicate N false) := ⟨by simp, fun x hx => by rw [List.getD_eq_getElem?_getD, List.getElem?_replicate, if_pos hx]; simp⟩
theorem To.Fl.put {N : Nat} {L : List Nat} {bs : List Bool} (h : To.Fl N L bs) {q : Nat} (hq : q < N) : To.Fl N (L ++ [q]) (bs.set q true) :=
 ⟨by rw [List.length_set, h.len], fun x hx => by
  rw [List.getD_eq_getElem?_getD, List.getElem?_set]
  by_cases e : q = x
  ·subst e
   rw [if_pos rfl, if_pos (by rw [h.len]; exact hq)]
   simp
  ·rw [if_neg e, ← List.getD_eq_getElem?_getD, h.at_ x hx]
   have : x ∈ L ++ [q] ↔ x ∈ L := by simp [Ne.symm e]
   simp only [this]⟩
theorem OwnF.flg {w : World} {base g N : Nat} {L : List Nat} {bs : List Bool} (h : OwnF w base (some ⟨g, 0, none⟩) N bs) (hb : To.Fl N L bs) : Flg w w.heap.size g N L :=
 ⟨h.lt.2, fun x hx => by rw [h.val (by rw [hb.len]; exact hx), hb.at_ x hx]⟩
theorem OwnZ.past {w : World} {base g : Nat} {A : Option Addr} {cap : Nat} {zs : List Int} (h : OwnZ w base A cap zs) (hg : g < base) (j : Nat) (v : Value) : OwnZ (w.setCell ⟨g, j, none⟩ v) base A cap zs :=
 h.keep fun a ha => heap_setCell_other w ⟨g, j, none⟩ a.block v (by subst ha; have := h.lt.1; exact fun e => by simp at e; omega)
theorem made_Z0 (n : Nat) (hn : n ≤ 1000000) (W : World) : (Instr.makeSlice 94 (.int .i64 0) (.int .i64 (n : Int))).run Tryz.prog W = .ok (.slice (some ⟨W.heap.size, 0, none⟩) 0 n) (W.alloc (.cells (madeCells #[.int .i64 0] n) 3)) := by
 obtain ⟨i, hi, hz, hs, hy⟩ := info_parts int_info
 have hr := run_make (P := Tryz.prog) W 94 3 i _ Tryz.underlying94 hi hz .i64 .i64 0 n (by omega) (by omega) (by rw [hy]; omega) (by omega)
 rw [hs, Int.toNat_natCast, Nat.mul_one] at hr
 exact hr
theorem OwnZ.made0 (W : World) (n : Nat) (hn : n ≤ 1000000) : OwnZ (W.alloc (.cells (madeCells #[.int .i64 0] n) 3)) W.heap.size (some ⟨W.heap.size, 0, none⟩) n [] := by
 have e : (madeCells #[Value.int .i64 0] n).toList = (List.replicate n (0 : Int)).map (Value.int .i64) := by
  rw [toList_madeCells_one (Value.int .i64 0) n, List.map_replicate]
 refine ⟨⟨by simp, .inr ⟨W.heap.size, n, _, rfl, Nat.le_refl _, heap_alloc_new .., Nat.zero_le _, by unfold maxLen; omega, ?_, by simp⟩⟩, fun i h => by simp at h⟩
 rw [← Array.length_toList, e]
 simp
def LeastG (w : World) (o : Option Nat) (e : Ending) (w' : World) : Prop := e = .returned (.tuple #[.int .i64 ((o.getD 0 : Nat) : Int), .bool o.isSome]) ∧ Hid (Below w.heap.size w w')
set_option maxRecDepth 100000 in
set_option maxHeartbeats 2000000 in
theorem leastPossible_any (E : Gr.E) (g gp N : Nat) (L : List Nat) (hE : Gr.Low E N) (hN : N ≤ 16) (hl : E.length ≤ 1000000) (w : World) (h : Bef w w.heap.size g E N) (h2 : Flg w w.heap.size gp N L) :
  Calls Tryz.prog 122 #[.slice (some ⟨g, 0, none⟩) N N, .slice (some ⟨gp, 0, none⟩) N N] w (LeastG w (To.next E N L)) := by
 have H := Lib.hid h
 have H2 := Lib.hid h2
 have HE := Lib.hid hE
 have AP : Hid (∀ W q A cap, q < N → Below w.heap.size w W → Zs W W.heap.size A (Gr.ints (To.befV E q)) → Calls Tryz.prog 133 #[.slice A (To.befV E q).length cap, .slice (some ⟨gp, 0, none⟩) N N] W (BoolG W ((To.befV E q).all fun a => L.contains a))) := Lib.hid fun W q A cap hq hW hZ =>
  allPlaced_any A (To.befV E q) cap gp N L (fun z hz => (hE _ (To.mem_bef.1 hz)).1) (Nat.le_trans (To.bef_len _ _) hl) W hZ (h2.on hW)
 clear h h2 hE hl
 go_enter Tryz.func122, Tryz.ntmps122
 go_wp2_with fail
 go_loopw [10] (fun iv wr => ∃ k : Nat, k ≤ N ∧ iv = .int .i64 k ∧ Hid (∀ y, y < k → To.ready E N L y = false) ∧ Hid (Below w.heap.size w wr)) (fun iv _ => N - (intOf iv).toNat)
 case atStart => exact ⟨0, Nat.zero_le _, rfl, Lib.hid fun y hy => by omega, Lib.hid (Below.refl _ _)⟩
 case round =>
  obtain ⟨k, hk, rfl, HK, HB⟩ := hrel
  by_cases hlt : k < N
  ·have hlt' : (k : Int) < (N : Int) := by omega
   obtain ⟨A, cap, hc, hz⟩ := (H.out.below HB.out).2 k hlt
   have hf := (H2.out.below HB.out).2 k hlt
   have RB : Hid (To.ready E N L k = (!L.contains k && (To.befV E k).all fun a => L.contains a)) := Lib.hid (To.ready_bef HE.out L k)
   have AC : Hid (Calls Tryz.prog 133 #[.slice A (To.befV E k).length cap, .slice (some ⟨gp, 0, none⟩) N N] wr (BoolG wr ((To.befV E k).all fun a => L.contains a))) := Lib.hid (AP.out wr k A cap hlt HB.out (hz.more HB.out.size))
   obtain ⟨m, hm⟩ : ∃ m, m = (To.befV E k).length := ⟨_, rfl⟩
   obtain ⟨t, ht⟩ : ∃ t, t = (To.befV E k).all fun a => L.contains a := ⟨_, rfl⟩
   rw [← hm] at hc AC
   rw [← ht] at AC RB
   clear hz hm ht
   by_cases hmL : k ∈ L
   ·have hd : decide (k ∈ L) = true := decide_eq_true hmL
    rw [hd] at hf
    have HK' : Hid (∀ y, y < k + 1 → To.ready E N L y = false) := Lib.hid fun y hy => by
     rcases Nat.lt_or_ge y k with h | h
     ·exact HK.out y h
     ·obtain rfl : y = k := by omega
      rw [RB.out, show L.contains y = true by simpa using hmL]; rfl
    clear hmL hd
    go_wp2
    go_roundw
    case rel => exact ⟨k + 1, by omega, by go_num, HK', HB⟩
    case measure => simp [intOf]; omega
   ·have hd : decide (k ∈ L) = false := decide_eq_false hmL
    rw [hd] at hf
    have RT : Hid (To.ready E N L k = t) := Lib.hid (by rw [RB.out, show L.contains k = false by simpa using hmL]; rfl)
    clear hmL hd RB
    go_wp2_with fail
    (with_reducible refine AC.out.mono ?_); rintro e w2 ⟨rfl, b2⟩
    have B2 : Hid (Below w.heap.size w w2) := Lib.hid (HB.out.trans (b2.out.mono HB.out.size))
    cases t with
    | true =>
     have NX : Hid (To.next E N L = some k) := Lib.hid (To.next_eq hlt RT.out HK.out)
     go_wp2_with fail
     refine bodyPost_ret (v := .tuple #[.int .i64 (k : Int), .bool true]) (by simp [results, Tryz.results122, go_sem]) rfl ?_
     rw [NX.out]
     exact ⟨rfl, B2⟩
    | false =>
     have HK' : Hid (∀ y, y < k + 1 → To.ready E N L y = false) := Lib.hid fun y hy => by
      rcases Nat.lt_or_ge y k with h | h
      ·exact HK.out y h
      ·obtain rfl : y = k := by omega
       exact RT.out
     go_wp2
     go_roundw
     case rel => exact ⟨k + 1, by omega, by go_num, HK', B2⟩
     case measure => simp [intOf]; omega
  ·obtain rfl : N = k := by omega
   have NX : Hid (To.next E N L = none) := Lib.hid (To.next_none.2 HK.out)
   go_wp2_with fail
   refine bodyPost_ret (v := .tuple #[.int .i64 0, .bool false]) (by simp [results, Tryz.results122, go_sem]) rfl ?_
   rw [NX.out]
   exact ⟨rfl, HB⟩
end Go.Proofs.YtkbekojnmdgdgaaGreatDoor
/- ToOrder -/
namespace Go.Proofs.YtkbekojnmdgdgaaGreatDoor
open Go.RowKit
set_option maxRecDepth 100000 in
set_option maxHeartbeats 4000000 in
theorem order_any (n : Int) (A : Option Addr) (es : Gr.EI) (cap : Nat) (hl : es.length ≤ 9223372036854775807) (w : World) (h : Edg w w.heap.size A es) :
  Calls Tryz.prog 99 #[.agg #[.int .i64 n, .slice A es.length cap]] w (OptG w (To.orderI n es)) := by
 have GD : Hid (∀ W, Below w.heap.size w W → Calls Tryz.prog 120 #[.agg #[.int .i64 n, .slice A es.length cap]] W (BoolG W (Gr.goodV n es))) := Lib.hid fun W hW => good_any n A es cap hl W (h.on hW)
 have AH : Hid (∀ W (N : Nat), n = (N : Int) → Gr.Good n es → Below w.heap.size w W → Calls Tryz.prog 121 #[.agg #[.int .i64 n, .slice A es.length cap]] W (BefG W (Gr.nat es) N)) := Lib.hid fun W N hN hg hW => by
  subst hN
  exact allAhead_any N A es cap hg W (h.on hW)
 generalize es.length = l at *
 clear h hl
 obtain ⟨W1, hW1⟩ : ∃ W1, W1 = w.alloc (.cells #[.int .i64 n, .slice A l cap] 150) := ⟨_, rfl⟩
 have P1 : Hid (W1.heap[w.heap.size]? = some (.cells #[.int .i64 n, .slice A l cap] 150 (0, 0))) := Lib.hid (by rw [hW1]; exact heap_alloc_new ..)
 have B1 : Hid (Below w.heap.size w W1) := Lib.hid (by rw [hW1]; exact (Below.refl _ _).alloc (Nat.le_refl _) _)
 obtain ⟨⟨x0, x1⟩, -⟩ := obG P1.out
 cases hg : Gr.goodV n es with
 | false =>
  rw [hg] at GD
  have E : Hid (To.orderI n es = none) := Lib.hid (To.orderI_bad hg)
  clear hg
  go_enter Tryz.func99, Tryz.ntmps99
  go_wp2_with fail
  rw [← hW1]
  clear hW1
  (with_reducible refine (GD.out _ B1.out).mono ?_); rintro e w2 ⟨rfl, b2⟩
  go_wp2_with fail
  refine bodyPost_ret (v := .tuple #[.slice none 0 0, .bool false]) (by simp [results, Tryz.results99, go_sem]) rfl ?_
  rw [E.out]
  exact ⟨none, 0, rfl, Lib.hid (Nat.le_refl _), Lib.hid Zs.nil_, Lib.hid (B1.out.trans (b2.out.mono B1.out.size))⟩
 | true =>
  rw [hg] at GD
  have G := Gr.goodV_iff.1 hg
  obtain ⟨N, hN⟩ : ∃ N : Nat, n = (N : Int) := ⟨n.toNat, by have := G.n0; omega⟩
  have hN16 : N ≤ 16 := by have := G.n16; omega
  have E : Hid (To.orderI n es = (To.orderV (Gr.nat es) N).map Gr.ints) := Lib.hid (by unfold To.orderI; rw [if_pos hg, hN, Int.toNat_natCast])
  have LO : Hid (Gr.Low (Gr.nat es) N) := Lib.hid (by have := G.low; rwa [hN, Int.toNat_natCast] at this)
  have LE : Hid ((Gr.nat es).length ≤ 1000000) := Lib.hid (by unfold Gr.nat; rw [List.length_map]; have := G.len; omega)
  have AH2 : Hid (∀ W, Below w.heap.size w W → Calls Tryz.prog 121 #[.agg #[.int .i64 n, .slice A l cap]] W (BefG W (Gr.nat es) N)) := Lib.hid fun W hW => AH.out W N hN G hW
  subst hN
  have MK := fun W => made_F N (by omega) W
  have MK2 := fun W => made_Z0 N (by omega) W
  clear hg G AH
  go_enter Tryz.func99, Tryz.ntmps99
  go_wp2_with fail
  rw [← hW1]
  clear hW1 x0 x1
  (with_reducible refine (GD.out _ B1.out).mono ?_); rintro e w2 ⟨rfl, b2⟩
  have P2 : Hid (w2.heap[w.heap.size]? = some (.cells #[.int .i64 (N : Int), .slice A l cap] 150 (0, 0))) := Lib.hid ((b2.out.block _ (lt_of_block P1.out)).trans P1.out)
  have B2 : Hid (Below w.heap.size w w2) := Lib.hid (B1.out.trans (b2.out.mono B1.out.size))
  clear b2 P1 B1 GD
  obtain ⟨⟨x0, x1⟩, -⟩ := obG P2.out
  go_wp2_with fail
  (with_reducible refine (AH2.out _ B2.out).mono ?_); rintro e w3 ⟨g, rfl, bf3, b3⟩
  have P3 : Hid (w3.heap[w.heap.size]? = some (.cells #[.int .i64 (N : Int), .slice A l cap] 150 (0, 0))) := Lib.hid ((b3.out.block _ (lt_of_block P2.out)).trans P2.out)
  have B3 : Hid (Below w.heap.size w w3) := Lib.hid (B2.out.trans (b3.out.mono B2.out.size))
  clear x0 x1 b3 P2 B2 AH2
  obtain ⟨⟨x0, x1⟩, -⟩ := obG P3.out
  obtain ⟨F, hF⟩ : ∃ F, F = w3.heap.size := ⟨_, rfl⟩
  obtain ⟨W4, hW4⟩ : ∃ W4, W4 = w3.alloc (.cells (madeCells #[.bool false] N) 4) := ⟨_, rfl⟩
  have Z4 : Hid (W4.heap.size = F + 1) := Lib.hid (by rw [hW4, hF]; simp)
  have F4 : Hid (OwnF W4 F (some ⟨F, 0, none⟩) N (List.replicate N false)) := Lib.hid (by rw [hW4, hF]; exact OwnF.made w3 N (by omega))
  have B4 : Hid (Below F w3 W4) := Lib.hid (by rw [hW4, hF]; exact (Below.refl _ _).alloc (Nat.le_refl _) _)
  have XF : Hid (w.heap.size < F) := Lib.hid (by rw [hF]; exact lt_of_block P3.out)
  have PX : Hid (∀ W, Below F w3 W → (W.cell? ⟨w.heap.size, 0, none⟩ = some (.int .i64 (N : Int)) ∧ W.cell? ⟨w.heap.size, 1, none⟩ = some (.slice A l cap))) := Lib.hid fun W hW => (obG ((hW.block _ XF.out).trans P3.out)).1
  have BX : Hid (∀ W, Below F w3 W → Below w.heap.size w W) := Lib.hid fun W hW => B3.out.trans (hW.mono (Nat.le_of_lt XF.out))
  have HBF : Hid (∀ W, Below F w3 W → Bef W W.heap.size g (Gr.nat es) N) := Lib.hid fun W hW => by
   rw [hF] at hW
   exact bf3.out.on hW
  go_upto_region 5 with fail
  rw [← hW4, ← hF]
  clear hW4 hF MK x0 x1 P3 B3 bf3
  obtain ⟨x0, x1⟩ := PX.out _ B4.out
  obtain ⟨W5, hW5⟩ : ∃ W5, W5 = W4.alloc (.cells (madeCells #[.int .i64 0] N) 3) := ⟨_, rfl⟩
  have F5 : Hid (OwnF W5 F (some ⟨F, 0, none⟩) N (List.replicate N false)) := Lib.hid (by rw [hW5]; exact F4.out.grew ((Below.refl _ _).alloc (Nat.le_refl _) _) (Nat.le_refl _))
  have O5 : Hid (OwnZ W5 (F + 1) (some ⟨F + 1, 0, none⟩) N []) := Lib.hid (by rw [hW5, ← Z4.out]; exact OwnZ.made0 W4 N (by omega))
  have B5 : Hid (Below F w3 W5) := Lib.hid (by rw [hW5]; exact B4.out.alloc (by have := Z4.out; omega) _)
  have Z5 : Hid (F + 1 < W5.heap.size) := Lib.hid (by have h := Z4.out; rw [hW5, World.size_alloc]; omega)
  go_wp2_with fail
  rw [← hW5, Z4.out]
  clear hW5 MK2 x0 x1 F4 B4 Z4
  go_loopw [6] (fun lv wr => ∃ (L : List Nat) (m : Nat) (A' : Option Addr) (cap' : Nat) (bs : List Bool), m ≤ N ∧ lv = .slice A' m cap' ∧ Hid (m = L.length) ∧ Hid (To.Ord (Gr.nat es) N L) ∧ Hid (To.orderK (Gr.nat es) N (N - L.length) L = To.orderV (Gr.nat es) N) ∧ Hid (OwnZ wr (F + 1) A' cap' (Gr.ints L)) ∧ Hid (OwnF wr F (some ⟨F, 0, none⟩) N bs) ∧ Hid (To.Fl N L bs) ∧ Hid (Below F w3 wr) ∧ Hid (F + 1 < wr.heap.size)) (fun lv _ => N - lenZ lv)
  case atStart => exact ⟨[], 0, _, N, _, Nat.zero_le _, rfl, Lib.hid rfl, Lib.hid (To.Ord.nil _ _), Lib.hid rfl, O5, F5, Lib.hid (To.Fl.zero N), B5, Z5⟩
  case round =>
   obtain ⟨L, m, A', cap', bs, hm, rfl, HM, HL, HK, HO, HFl, HB0, HB, HZ⟩ := hrel
   obtain ⟨wo, hwo⟩ : ∃ wo, wo = wr := ⟨_, rfl⟩
   rw [← hwo] at HO HFl HB HZ ⊢
   clear hwo O5 F5 B5 Z5
   obtain ⟨x0, x1⟩ := PX.out _ HB.out
   by_cases hlt : m < N
   ·have hlt' : (m : Int) < (N : Int) := by omega
    have LP : Hid (Calls Tryz.prog 122 #[.slice (some ⟨g, 0, none⟩) N N, .slice (some ⟨F, 0, none⟩) N N] wo (LeastG wo (To.next (Gr.nat es) N L))) := Lib.hid (leastPossible_any (Gr.nat es) g F N L LO.out hN16 LE.out wo (HBF.out _ HB.out) (HFl.out.flg HB0.out))
    go_wp2_with fail
    cases hn : To.next (Gr.nat es) N L with
    | none =>
     rw [hn] at LP
     have EO : Hid (To.orderI (N : Int) es = none) := Lib.hid (by
      rw [E.out, ← HK.out, ← HM.out]
      obtain ⟨d, hd⟩ : ∃ d, N - m = d + 1 := ⟨N - m - 1, by omega⟩
      rw [hd]; unfold To.orderK; rw [hn]; rfl)
     clear hn
     (with_reducible refine LP.out.mono ?_); rintro e w6 ⟨rfl, b6⟩
     go_wp2_with fail
     refine bodyPost_ret (v := .tuple #[.slice none 0 0, .bool false]) (by simp [results, Tryz.results99, go_sem]) rfl ?_
     rw [EO.out]
     exact ⟨none, 0, rfl, Lib.hid (Nat.le_refl _), Lib.hid Zs.nil_, Lib.hid (BX.out _ (HB.out.trans (b6.out.mono (by have := HZ.out; omega))))⟩
    | some x =>
     rw [hn] at LP
     obtain ⟨hx, hr, _⟩ := To.next_some hn
     have hx' : (x : Int) < (N : Int) := by omega
     have HL' : Hid (To.Ord (Gr.nat es) N (L ++ [x])) := Lib.hid (HL.out.next LO.out hx hr)
     have HK' : Hid (To.orderK (Gr.nat es) N (N - (L ++ [x]).length) (L ++ [x]) = To.orderV (Gr.nat es) N) := Lib.hid (by
      rw [← HK.out, ← HM.out]
      obtain ⟨d, hd⟩ : ∃ d, N - m = d + 1 := ⟨N - m - 1, by omega⟩
      rw [hd, show N - (L ++ [x]).length = d by rw [List.length_append, ← HM.out]; simp; omega]
      show _ = (match To.next (Gr.nat es) N L with | none => none | some x => To.orderK (Gr.nat es) N d (L ++ [x]))
      rw [hn])
     have FL' : Hid (To.Fl N (L ++ [x]) (bs.set x true)) := Lib.hid (HB0.out.put hx)
     clear hn hr
     (with_reducible refine LP.out.mono ?_); rintro e w6 ⟨rfl, b6⟩
     have F6 : Hid (OwnF w6 F (some ⟨F, 0, none⟩) N bs) := Lib.hid (HFl.out.grew b6.out (Nat.le_refl _))
     have O6 : Hid (OwnZ w6 (F + 1) A' cap' (Gr.ints L)) := Lib.hid (HO.out.grew b6.out (Nat.le_refl _))
     have D6 : Hid (Below F w3 w6) := Lib.hid (HB.out.trans (b6.out.mono (by have := HZ.out; omega)))
     have Z6 : Hid (F + 1 < w6.heap.size) := Lib.hid (Nat.lt_of_lt_of_le HZ.out b6.out.size)
     have hf6 := F6.out.thaw x
     have hc6 := F6.out.val (i := x) (by rw [HB0.out.len]; exact hx)
     have F7 : Hid (OwnF (w6.setCell ⟨F, x, none⟩ (.bool true)) F (some ⟨F, 0, none⟩) N (bs.set x true)) := Lib.hid (F6.out.stored x true)
     have O7 : Hid (OwnZ (w6.setCell ⟨F, x, none⟩ (.bool true)) (F + 1) A' cap' (Gr.ints L)) := Lib.hid (O6.out.past (Nat.lt_succ_self F) x _)
     have D7 : Hid (Below F w3 (w6.setCell ⟨F, x, none⟩ (.bool true))) := Lib.hid (D6.out.setCell (p := ⟨F, x, none⟩) (Nat.le_refl F) _)
     have Z7 : Hid (F + 1 < (w6.setCell ⟨F, x, none⟩ (.bool true)).heap.size) := Lib.hid (by have := Z6.out; simpa [World.setCell] using this)
     have MI : Hid (m = (Gr.ints L).length) := Lib.hid (by rw [Gr.ints_len]; exact HM.out)
     have IX : Hid (inI (x : Int)) := Lib.hid ⟨by omega, by omega⟩
     clear b6 F6 O6 D6 Z6 x0 x1 HO HFl HB HZ LP
     go_upto_region 11 with fail
     clear hf6 hc6
     generalize w6.setCell ⟨F, x, none⟩ (.bool true) = w7 at *
     go_wp2_with (at_builtin; refine wp_appZ rfl (.tmp 36) (.tmp 38) rfl rfl MI.out (O7.out.grew ((Below.refl _ _).alloc (Nat.le_refl _) _) (Nat.le_refl _)) (by have := Z7.out; simp; omega) rfl (cell_litN (by simp)) IX.out (by have := MI.out; omega) ?_; intro A8 c8 w8 o8 d8; have O8 := Lib.hid o8; have D8 := Lib.hid (grownZ_below (O7.out.grew ((Below.refl _ _).alloc (Nat.le_refl _) _) (Nat.le_refl _)) (by have := Z7.out; simp; omega) d8); clear o8 d8)
     have D9 : Hid (Below (F + 1) w7 w8) := Lib.hid (((Below.refl _ _).alloc (by have := Z7.out; omega) _).trans D8.out)
     clear D8
     go_roundw
     case rel => exact ⟨L ++ [x], _, A8, c8, _, by rw [← MI.out]; omega, rfl, Lib.hid (by rw [List.length_append, ← MI.out, HM.out]; rfl), HL', HK', Lib.hid (by rw [Gr.ints_app]; exact O8.out), Lib.hid (F7.out.under D9.out (Nat.lt_succ_self F)), FL', Lib.hid (D7.out.trans (D9.out.mono (Nat.le_succ F))), Lib.hid (Nat.lt_of_lt_of_le Z7.out D9.out.size)⟩
     case measure => simp only [lenZ]; rw [← MI.out]; omega
   ·obtain rfl : m = N := by omega
    have EO : Hid (To.orderI (m : Int) es = some (Gr.ints L)) := Lib.hid (by rw [E.out, ← HK.out, ← HM.out, Nat.sub_self]; rfl)
    go_wp2_with fail
    refine bodyPost_ret (v := .tuple #[.slice A' m cap', .bool true]) (by simp [results, Tryz.results99, go_sem]) rfl ?_
    rw [EO.out]
    exact ⟨A', cap', by rw [HM.out]; simp [Gr.ints_len], Lib.hid HO.out.cap_, Lib.hid HO.out.zs, Lib.hid (BX.out _ HB.out)⟩
end Go.Proofs.YtkbekojnmdgdgaaGreatDoor
