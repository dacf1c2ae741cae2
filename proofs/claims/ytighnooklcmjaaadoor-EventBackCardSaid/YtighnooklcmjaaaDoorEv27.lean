/-
  Part 27 of the texts behind the law: EvSays.
-/
import Derived.Test.YtighnooklcmjaaaDoorEv26
/-
  The law EventSays, walked: any event's bytes and text, any bytes' event are as the reference has them.
-/
namespace Go.Proofs.YtighnooklcmjaaaDoor
open Go.RowKit
set_option maxHeartbeats 4000000 in
theorem evOf_any (e : Ev.E) (w : World) : Calls Tryd.prog 14 #[.agg (evc e)] w fun r w' => r = .returned (.agg (evc e)) ∧ Below w.heap.size w w' := by
  obtain ⟨k, r, t, y, n, na, ke, da⟩ := e
  change Calls _ _ #[.agg #[.int .i64 k, .int .i64 r, .int .i64 t, .int .i64 y, .int .i64 n, .string na, .string ke, .string da]] w fun x w' => x = .returned (.agg #[.int .i64 k, .int .i64 r, .int .i64 t, .int .i64 y, .int .i64 n, .string na, .string ke, .string da]) ∧ _
  go_enter Tryd.func14, Tryd.ntmps14
  go_wp2
  exact bodyPost_ret (v := .agg #[.int .i64 k, .int .i64 r, .int .i64 t, .int .i64 y, .int .i64 n, .string na, .string ke, .string da]) (by simp [results, Tryd.results14, go_sem]) rfl ⟨rfl, by repeat' (first | exact Below.refl _ _ | refine Below.setCell ?_ (by simp) _ | refine Below.alloc ?_ (by simp) _)⟩
theorem getV_in (zs : List Int) (hb : En.Byte zs) : EvIn (Ev.getV zs) := by
  rcases Ev.get_cases hb with ⟨x, hX, _, h, _⟩ | ⟨h, _⟩
  · rw [h]; exact hX.evin
  · rw [h]; exact zero_in
set_option maxRecDepth 100000 in
set_option maxHeartbeats 32000000 in
theorem says_walk (e : Ev.E) (he : EvIn e) (A : Option Addr) (zs : List Int) (cap : Nat) (hm : zs.length ≤ 9223372036854775807) (hl : zs.length ≤ cap) (w : World) (hF : FactsE w) (hb : Bytes w w.heap.size A zs) :
    Calls Tryd.prog 4 #[.agg (evc e), .slice A zs.length cap] w fun r w' => r = .returned (.bool true) ∧ Below w.heap.size w w' := by
  have FF : Hid (∀ W, Below w.heap.size w W → FactsE W) := Lib.hid fun W h => hF.on h
  clear hF
  have AW := Lib.hid awake_any
  have X0 := Lib.hid (Bx.start w 24 e)
  have GA := Lib.hid (good_p e he)
  have GR := Lib.hid (goodEvent_any e he)
  have PA := Lib.hid (put_p e he)
  have PR := Lib.hid (putEvent_any e he)
  have OF := Lib.hid (evOf_any e)
  have SH : Hid (∀ W, FactsE W → Calls Tryd.prog 10 #[.agg (evc e)] W fun r w' => r = .returned (.string (Nu.txt (Ev.showV e))) ∧ Below W.heap.size W w') := Lib.hid fun W hW => (show_p e he W hW).mono fun _ _ ⟨s, h1, h2, h3⟩ => ⟨by rw [h1, h2.out], h3.out⟩
  have SR : Hid (∀ W, Calls Tryd.prog 16 #[.agg (evc e)] W fun r w' => r = .returned (.string (Nu.txt (Ev.showV e))) ∧ Below W.heap.size W w') := Lib.hid fun W => (showEvent_any e he W).mono fun _ _ ⟨s, h1, h2, h3⟩ => ⟨by rw [h1, h2.out], h3.out⟩
  have HB := Lib.hid hb
  have VI := Lib.hid (getV_in zs hb.mem)
  have hd := he.data
  have hna := he.name
  have hke := he.key
  have HL := Lib.hid hl
  clear he hb hl
  generalize Ev.good e = ga at *
  generalize Ev.put e = pe at *
  generalize Nu.txt (Ev.showV e) = st at *
  obtain ⟨k, r, t, y, n, na, ke, da⟩ := e
  simp only at hd hna hke
  change Calls _ _ #[.agg #[.int .i64 k, .int .i64 r, .int .i64 t, .int .i64 y, .int .i64 n, .string na, .string ke, .string da], _] _ _
  change Hid (∀ W, FactsS W → Calls _ _ #[.agg #[.int .i64 k, .int .i64 r, .int .i64 t, .int .i64 y, .int .i64 n, .string na, .string ke, .string da]] W _) at GA
  change Hid (∀ W, Calls _ _ #[.agg #[.int .i64 k, .int .i64 r, .int .i64 t, .int .i64 y, .int .i64 n, .string na, .string ke, .string da]] W _) at GR
  change Hid (∀ W, FactsS W → Calls _ _ #[.agg #[.int .i64 k, .int .i64 r, .int .i64 t, .int .i64 y, .int .i64 n, .string na, .string ke, .string da]] W _) at PA
  change Hid (∀ W, Calls _ _ #[.agg #[.int .i64 k, .int .i64 r, .int .i64 t, .int .i64 y, .int .i64 n, .string na, .string ke, .string da]] W _) at PR
  change Hid (∀ W, FactsE W → Calls _ _ #[.agg #[.int .i64 k, .int .i64 r, .int .i64 t, .int .i64 y, .int .i64 n, .string na, .string ke, .string da]] W _) at SH
  change Hid (∀ W, Calls _ _ #[.agg #[.int .i64 k, .int .i64 r, .int .i64 t, .int .i64 y, .int .i64 n, .string na, .string ke, .string da]] W _) at SR
  change Hid (∀ W, Calls _ _ #[.agg #[.int .i64 k, .int .i64 r, .int .i64 t, .int .i64 y, .int .i64 n, .string na, .string ke, .string da]] W fun x w' => x = .returned (.agg #[.int .i64 k, .int .i64 r, .int .i64 t, .int .i64 y, .int .i64 n, .string na, .string ke, .string da]) ∧ Below W.heap.size W w') at OF
  obtain ⟨W0, hW0⟩ : ∃ W0, W0 = w.alloc (.cells #[.int .i64 k, .int .i64 r, .int .i64 t, .int .i64 y, .int .i64 n, .string na, .string ke, .string da] 24) := ⟨_, rfl⟩
  change Hid (Bx w _ _ (w.alloc (.cells #[.int .i64 k, .int .i64 r, .int .i64 t, .int .i64 y, .int .i64 n, .string na, .string ke, .string da] 24))) at X0
  rw [← hW0] at X0
  have HW := Lib.hid hW0
  clear hW0
  go_enter Tryd.func4, Tryd.ntmps4
  go_wp2_with fail
  rw [← HW.out]
  clear HW
  (with_reducible refine (AW.out _ (FF.out _ X0.out.b)).mono ?_); rintro e w1 ⟨rfl, b1⟩
  have X1 := Lib.hid (X0.out.more b1)
  clear X0 b1
  obtain ⟨c0, c1, c2, c3, c4, c5, c6, c7⟩ := X1.out.plain
  by_cases h1 : 100 < na.size
  · have h1' : 100 < (na.size : Int) := by omega
    go_wp2
    go_ret
    exact ⟨rfl, X1.out.b⟩
  have h1' : (na.size : Int) ≤ 100 := by omega
  clear h1
  by_cases h2 : 100 < ke.size
  · have h2' : 100 < (ke.size : Int) := by omega
    go_wp2
    go_ret
    exact ⟨rfl, X1.out.b⟩
  have h2' : (ke.size : Int) ≤ 100 := by omega
  clear h2
  by_cases h3 : 1000 < da.size
  · have h3' : 1000 < (da.size : Int) := by omega
    go_wp2
    go_ret
    exact ⟨rfl, X1.out.b⟩
  have h3' : (da.size : Int) ≤ 1000 := by omega
  clear h3
  by_cases h4 : 1200 < zs.length
  · have h4' : 1200 < (zs.length : Int) := by omega
    go_wp2
    go_ret
    exact ⟨rfl, X1.out.b⟩
  have h4' : (zs.length : Int) ≤ 1200 := by omega
  clear h4
  have GB : Hid (∀ W, Below w.heap.size w W → Calls Tryd.prog 11 #[.slice A zs.length cap] W (EvG W zs)) := Lib.hid fun W hW => get_p A zs cap HL.out (by omega) W (FF.out W hW).s ((HB.out.below hW).more hW.size)
  have GF : Hid (∀ W, Below w.heap.size w W → Calls Tryd.prog 12 #[.slice A zs.length cap] W (EvG W zs)) := Lib.hid fun W hW => getEvent_any A zs cap HL.out (by omega) W ((HB.out.below hW).more hW.size)
  go_upto_region 5 with fail
  clear h1' h2' h3' h4' hd hna hke c0 c1 c2 c3 c4 c5 c6 c7 AW HL HB hm
  go_wp2_with fail
  (with_reducible refine (GB.out _ X1.out.b).mono ?_); rintro e w2 ⟨k', r', t', y', n', na', ke', da', er, rfl, hv, b2⟩
  have X2 := Lib.hid (X1.out.more b2.out)
  clear X1 b2
  go_upto_region 6 with fail
  obtain ⟨g5, hg5⟩ : ∃ g5, g5 = w2.heap.size := ⟨_, rfl⟩
  obtain ⟨W3, hW3⟩ : ∃ W3, W3 = w2.alloc (.cells #[.int .i64 k', .int .i64 r', .int .i64 t', .int .i64 y', .int .i64 n', .string na', .string ke', .string da'] 24) := ⟨_, rfl⟩
  have E3 : Hid (W3.heap[g5]? = some (.cells #[.int .i64 k', .int .i64 r', .int .i64 t', .int .i64 y', .int .i64 n', .string na', .string ke', .string da'] 24 (0, 0))) := Lib.hid (by rw [hW3, hg5]; exact heap_alloc_new _ _)
  have X3 := Lib.hid (X2.out.more (show Below w2.heap.size w2 W3 by rw [hW3]; exact (Below.refl _ _).alloc (Nat.le_refl _) _))
  rw [← hW3, ← hg5]
  clear hW3 hg5 X2
  go_wp2_with fail
  (with_reducible refine (GF.out _ X3.out.b).mono ?_); rintro e w4 ⟨k2, r2, t2, y2, n2, na2, ke2, da2, er2, rfl, hv2, b4⟩
  have h1 := hv2.out.1.trans hv.out.1.symm
  have h2 : er2 = er := hv2.out.2.trans hv.out.2.symm
  simp only [Ev.E.mk.injEq] at h1
  obtain ⟨rfl, rfl, rfl, rfl, rfl, rfl, rfl, rfl⟩ := h1
  subst h2
  have IV := VI.out
  rw [← hv.out.1] at IV
  have XQ := Lib.hid (rf_eql _ _ IV IV)
  rw [decide_eq_true rfl] at XQ
  have OX := Lib.hid (evOf_any ⟨k2, r2, t2, y2, n2, na2, ke2, da2⟩)
  have X4 := Lib.hid (X3.out.more b4.out)
  have E4 := Lib.hid ((b4.out.block _ (lt_of_block E3.out)).trans E3.out)
  clear X3 E3 b4 hv hv2 IV VI GB GF
  go_upto_region 7 with fail
  change Hid (∀ W, Calls _ _ #[.agg #[.int .i64 k2, .int .i64 r2, .int .i64 t2, .int .i64 y2, .int .i64 n2, .string na2, .string ke2, .string da2]] W fun x w' => x = .returned (.agg #[.int .i64 k2, .int .i64 r2, .int .i64 t2, .int .i64 y2, .int .i64 n2, .string na2, .string ke2, .string da2]) ∧ Below W.heap.size W w') at OX
  change Hid (∀ W, (binOp .eql 33 (.agg #[.int .i64 k2, .int .i64 r2, .int .i64 t2, .int .i64 y2, .int .i64 n2, .string na2, .string ke2, .string da2]) (.agg #[.int .i64 k2, .int .i64 r2, .int .i64 t2, .int .i64 y2, .int .i64 n2, .string na2, .string ke2, .string da2])).run Tryd.prog W = .ok (.bool true) W) at XQ
  obtain ⟨g7, hg7⟩ : ∃ g7, g7 = w4.heap.size := ⟨_, rfl⟩
  obtain ⟨W5, hW5⟩ : ∃ W5, W5 = w4.alloc (.cells #[.int .i64 k2, .int .i64 r2, .int .i64 t2, .int .i64 y2, .int .i64 n2, .string na2, .string ke2, .string da2] 33) := ⟨_, rfl⟩
  have BB : Below w4.heap.size w4 W5 := by rw [hW5]; exact (Below.refl _ _).alloc (Nat.le_refl _) _
  have E7 : Hid (W5.heap[g7]? = some (.cells #[.int .i64 k2, .int .i64 r2, .int .i64 t2, .int .i64 y2, .int .i64 n2, .string na2, .string ke2, .string da2] 33 (0, 0))) := Lib.hid (by rw [hW5, hg7]; exact heap_alloc_new _ _)
  have E5 := Lib.hid ((BB.block _ (lt_of_block E4.out)).trans E4.out)
  have X5 := Lib.hid (X4.out.more BB)
  rw [← hW5, ← hg7]
  clear hW5 hg7 BB X4 E4
  have X : Hid (Bx w 24 ⟨k, r, t, y, n, na, ke, da⟩ W5.drew ∧ W5.drew.heap[g5]? = some (.cells #[.int .i64 k2, .int .i64 r2, .int .i64 t2, .int .i64 y2, .int .i64 n2, .string na2, .string ke2, .string da2] 24 (0, 0)) ∧ W5.drew.heap[g7]? = some (.cells #[.int .i64 k2, .int .i64 r2, .int .i64 t2, .int .i64 y2, .int .i64 n2, .string na2, .string ke2, .string da2] 33 (0, 0))) := Lib.hid ⟨X5.out.drew, E5.out, E7.out⟩
  have MO : Hid (∀ W W', Bx w 24 ⟨k, r, t, y, n, na, ke, da⟩ W ∧ W.heap[g5]? = some (.cells #[.int .i64 k2, .int .i64 r2, .int .i64 t2, .int .i64 y2, .int .i64 n2, .string na2, .string ke2, .string da2] 24 (0, 0)) ∧ W.heap[g7]? = some (.cells #[.int .i64 k2, .int .i64 r2, .int .i64 t2, .int .i64 y2, .int .i64 n2, .string na2, .string ke2, .string da2] 33 (0, 0)) → Below W.heap.size W W' → Bx w 24 ⟨k, r, t, y, n, na, ke, da⟩ W' ∧ W'.heap[g5]? = some (.cells #[.int .i64 k2, .int .i64 r2, .int .i64 t2, .int .i64 y2, .int .i64 n2, .string na2, .string ke2, .string da2] 24 (0, 0)) ∧ W'.heap[g7]? = some (.cells #[.int .i64 k2, .int .i64 r2, .int .i64 t2, .int .i64 y2, .int .i64 n2, .string na2, .string ke2, .string da2] 33 (0, 0))) := Lib.hid fun W W' h hb => ⟨h.1.more hb, (hb.block _ (lt_of_block h.2.1)).trans h.2.1, (hb.block _ (lt_of_block h.2.2)).trans h.2.2⟩
  clear X5 E5 E7
  obtain ⟨sp, hsp⟩ : ∃ sp, sp = strOfNums pe := ⟨_, rfl⟩
  have SP := Lib.hid hsp
  clear hsp
  have xq := XQ.out
  have ST : Hid (∀ w', Bx w 24 ⟨k, r, t, y, n, na, ke, da⟩ w' ∧ w'.heap[g5]? = some (.cells #[.int .i64 k2, .int .i64 r2, .int .i64 t2, .int .i64 y2, .int .i64 n2, .string na2, .string ke2, .string da2] 24 (0, 0)) ∧ w'.heap[g7]? = some (.cells #[.int .i64 k2, .int .i64 r2, .int .i64 t2, .int .i64 y2, .int .i64 n2, .string na2, .string ke2, .string da2] 33 (0, 0)) → (w'.cell? ⟨w.heap.size, 0, none⟩ = some (.int .i64 k) ∧ w'.cell? ⟨w.heap.size, 1, none⟩ = some (.int .i64 r) ∧ w'.cell? ⟨w.heap.size, 2, none⟩ = some (.int .i64 t) ∧ w'.cell? ⟨w.heap.size, 3, none⟩ = some (.int .i64 y) ∧ w'.cell? ⟨w.heap.size, 4, none⟩ = some (.int .i64 n) ∧ w'.cell? ⟨w.heap.size, 5, none⟩ = some (.string na) ∧ w'.cell? ⟨w.heap.size, 6, none⟩ = some (.string ke) ∧ w'.cell? ⟨w.heap.size, 7, none⟩ = some (.string da)) ∧ (w'.cell? ⟨g5, 0, none⟩ = some (.int .i64 k2) ∧ w'.cell? ⟨g5, 1, none⟩ = some (.int .i64 r2) ∧ w'.cell? ⟨g5, 2, none⟩ = some (.int .i64 t2) ∧ w'.cell? ⟨g5, 3, none⟩ = some (.int .i64 y2) ∧ w'.cell? ⟨g5, 4, none⟩ = some (.int .i64 n2) ∧ w'.cell? ⟨g5, 5, none⟩ = some (.string na2) ∧ w'.cell? ⟨g5, 6, none⟩ = some (.string ke2) ∧ w'.cell? ⟨g5, 7, none⟩ = some (.string da2)) ∧ (w'.cell? ⟨g7, 0, none⟩ = some (.int .i64 k2) ∧ w'.cell? ⟨g7, 1, none⟩ = some (.int .i64 r2) ∧ w'.cell? ⟨g7, 2, none⟩ = some (.int .i64 t2) ∧ w'.cell? ⟨g7, 3, none⟩ = some (.int .i64 y2) ∧ w'.cell? ⟨g7, 4, none⟩ = some (.int .i64 n2) ∧ w'.cell? ⟨g7, 5, none⟩ = some (.string na2) ∧ w'.cell? ⟨g7, 6, none⟩ = some (.string ke2) ∧ w'.cell? ⟨g7, 7, none⟩ = some (.string da2))) := Lib.hid fun w' h => ⟨h.1.plain, ob8 h.2.1, ob8 h.2.2⟩
  refine wp_region_held_drew (S := fun w' => (w'.cell? ⟨w.heap.size, 0, none⟩ = some (.int .i64 k) ∧ w'.cell? ⟨w.heap.size, 1, none⟩ = some (.int .i64 r) ∧ w'.cell? ⟨w.heap.size, 2, none⟩ = some (.int .i64 t) ∧ w'.cell? ⟨w.heap.size, 3, none⟩ = some (.int .i64 y) ∧ w'.cell? ⟨w.heap.size, 4, none⟩ = some (.int .i64 n) ∧ w'.cell? ⟨w.heap.size, 5, none⟩ = some (.string na) ∧ w'.cell? ⟨w.heap.size, 6, none⟩ = some (.string ke) ∧ w'.cell? ⟨w.heap.size, 7, none⟩ = some (.string da)) ∧ (w'.cell? ⟨g5, 0, none⟩ = some (.int .i64 k2) ∧ w'.cell? ⟨g5, 1, none⟩ = some (.int .i64 r2) ∧ w'.cell? ⟨g5, 2, none⟩ = some (.int .i64 t2) ∧ w'.cell? ⟨g5, 3, none⟩ = some (.int .i64 y2) ∧ w'.cell? ⟨g5, 4, none⟩ = some (.int .i64 n2) ∧ w'.cell? ⟨g5, 5, none⟩ = some (.string na2) ∧ w'.cell? ⟨g5, 6, none⟩ = some (.string ke2) ∧ w'.cell? ⟨g5, 7, none⟩ = some (.string da2)) ∧ (w'.cell? ⟨g7, 0, none⟩ = some (.int .i64 k2) ∧ w'.cell? ⟨g7, 1, none⟩ = some (.int .i64 r2) ∧ w'.cell? ⟨g7, 2, none⟩ = some (.int .i64 t2) ∧ w'.cell? ⟨g7, 3, none⟩ = some (.int .i64 y2) ∧ w'.cell? ⟨g7, 4, none⟩ = some (.int .i64 n2) ∧ w'.cell? ⟨g7, 5, none⟩ = some (.string na2) ∧ w'.cell? ⟨g7, 6, none⟩ = some (.string ke2) ∧ w'.cell? ⟨g7, 7, none⟩ = some (.string da2))) (by kernel_rfl) ?hS3001 (fun hHeld => ?_)
  case hS3001 => exact ST.out _ X.out
  refine wpAnyH_take (i := 0) (oi := ?o3002) (v := ?v3002) ?hi3002 (by kernel_rfl) (by kernel_rfl) (by kernel_rfl) ?hQ3002 (Or.inl ⟨?hg3002, ?hy3002⟩) (by assumption) ?rest3002
  case hi3002 => (simp only [List.getElem?_toArray, List.getElem?_cons_zero]; exact rfl)
  case hQ3002 => exact fun _ _ _ h => h
  case hg3002 => rfl
  case hy3002 => (intro w' hSw; (try dsimp only at hSw); go_simp; try with_reducible rfl)
  try simp only [Act.put, List.setIfInBounds_toArray, List.set_cons_zero, List.set_cons_succ]
  refine wpAnyH_take (i := 2) (oi := ?o3003) (v := ?v3003) ?hi3003 (by kernel_rfl) (by kernel_rfl) (by kernel_rfl) ?hQ3003 (Or.inl ⟨?hg3003, ?hy3003⟩) (by assumption) ?rest3003
  case hi3003 => (simp only [List.getElem?_toArray, List.getElem?_cons_zero, List.getElem?_cons_succ]; exact rfl)
  case hQ3003 => exact fun _ _ _ h => h
  case hg3003 => rfl
  case hy3003 => (intro w' hSw; (try dsimp only at hSw); go_simp; try with_reducible rfl)
  try simp only [Act.put, List.setIfInBounds_toArray, List.set_cons_zero, List.set_cons_succ]
  refine wpAnyH_ready (rs := [1]) (by kernel_rfl) (by simp) ?_
  refine AllReadyH.cons (o := ?o3004) ?hi3004 (fun K hK => ?_) AllReadyH.nil
  case hi3004 => (simp only [List.getElem?_toArray, List.getElem?_cons_zero, List.getElem?_cons_succ]; exact rfl)
  (go_simp; go_at_call 8; (with_reducible refine (GA.out _ (FF.out _ X.out.1.b).s).mono ?_); rintro e u1 ⟨rfl, b⟩; try dsimp only)
  have X := Lib.hid (MO.out _ _ X.out b)
  refine hK.out _ _ ?_ (fun hHeld => ?_)
  · exact ST.out _ X.out
  clear hK K
  try simp only [Act.put, List.setIfInBounds_toArray, List.set_cons_zero, List.set_cons_succ]
  refine wpAnyH_ready (rs := [3]) (by kernel_rfl) (by simp) ?_
  refine AllReadyH.cons (o := ?o3005) ?hi3005 (fun K hK => ?_) AllReadyH.nil
  case hi3005 => (simp only [List.getElem?_toArray, List.getElem?_cons_zero, List.getElem?_cons_succ]; exact rfl)
  (go_simp; go_at_call 14; (with_reducible refine (OF.out _).mono ?_); rintro e u3 ⟨rfl, b⟩; try dsimp only)
  have X := Lib.hid (MO.out _ _ X.out b)
  refine hK.out _ _ ?_ (fun hHeld => ?_)
  · exact ST.out _ X.out
  clear hK K
  try simp only [Act.put, List.setIfInBounds_toArray, List.set_cons_zero, List.set_cons_succ]
  refine wpAnyH_ready (rs := [4]) (by kernel_rfl) (by simp) ?_
  refine AllReadyH.cons (o := ?o3006) ?hi3006 (fun K hK => ?_) AllReadyH.nil
  case hi3006 => (simp only [List.getElem?_toArray, List.getElem?_cons_zero, List.getElem?_cons_succ]; exact rfl)
  (go_simp; go_at_call 13; (with_reducible refine (GR.out _).mono ?_); rintro e u4 ⟨rfl, b⟩; try dsimp only)
  have X := Lib.hid (MO.out _ _ X.out b)
  refine hK.out _ _ ?_ (fun hHeld => ?_)
  · exact ST.out _ X.out
  clear hK K
  try simp only [Act.put, List.setIfInBounds_toArray, List.set_cons_zero, List.set_cons_succ]
  have gg : (ga == ga) = true := by simp
  refine wpAnyH_take (i := 5) (oi := ?o3007) (v := ?v3007) ?hi3007 (by kernel_rfl) (by kernel_rfl) (by kernel_rfl) ?hQ3007 (Or.inl ⟨?hg3007, ?hy3007⟩) (by assumption) ?rest3007
  case hi3007 => (simp only [List.getElem?_toArray, List.getElem?_cons_zero, List.getElem?_cons_succ]; exact rfl)
  case hQ3007 => exact fun _ _ _ h => h
  case hg3007 => rfl
  case hy3007 => (intro w' hSw; (try dsimp only at hSw); go_simp; try with_reducible rfl)
  try simp only [Act.put, List.setIfInBounds_toArray, List.set_cons_zero, List.set_cons_succ]
  refine wpAnyH_take (i := 6) (oi := ?o3008) (v := ?v3008) ?hi3008 (by kernel_rfl) (by kernel_rfl) (by kernel_rfl) ?hQ3008 (Or.inl ⟨?hg3008, ?hy3008⟩) (by assumption) ?rest3008
  case hi3008 => (simp only [List.getElem?_toArray, List.getElem?_cons_zero, List.getElem?_cons_succ]; exact rfl)
  case hQ3008 => exact fun _ _ _ h => h
  case hg3008 => rfl
  case hy3008 => (intro w' hSw; (try dsimp only at hSw); go_simp; try with_reducible rfl)
  try simp only [Act.put, List.setIfInBounds_toArray, List.set_cons_zero, List.set_cons_succ]
  refine wpAnyH_take (i := 7) (oi := ?o3009) (v := ?v3009) ?hi3009 (by kernel_rfl) (by kernel_rfl) (by kernel_rfl) ?hQ3009 (Or.inl ⟨?hg3009, ?hy3009⟩) (by assumption) ?rest3009
  case hi3009 => (simp only [List.getElem?_toArray, List.getElem?_cons_zero, List.getElem?_cons_succ]; exact rfl)
  case hQ3009 => exact fun _ _ _ h => h
  case hg3009 => rfl
  case hy3009 => (intro w' hSw; (try dsimp only at hSw); go_simp; try with_reducible rfl)
  try simp only [Act.put, List.setIfInBounds_toArray, List.set_cons_zero, List.set_cons_succ]
  refine wpAnyH_take (i := 10) (oi := ?o3010) (v := ?v3010) ?hi3010 (by kernel_rfl) (by kernel_rfl) (by kernel_rfl) ?hQ3010 (Or.inl ⟨?hg3010, ?hy3010⟩) (by assumption) ?rest3010
  case hi3010 => (simp only [List.getElem?_toArray, List.getElem?_cons_zero, List.getElem?_cons_succ]; exact rfl)
  case hQ3010 => exact fun _ _ _ h => h
  case hg3010 => rfl
  case hy3010 => (intro w' hSw; (try dsimp only at hSw); go_simp; try with_reducible rfl)
  try simp only [Act.put, List.setIfInBounds_toArray, List.set_cons_zero, List.set_cons_succ]
  refine wpAnyH_ready (rs := [8]) (by kernel_rfl) (by simp) ?_
  refine AllReadyH.cons (o := ?o3011) ?hi3011 (fun K hK => ?_) AllReadyH.nil
  case hi3011 => (simp only [List.getElem?_toArray, List.getElem?_cons_zero, List.getElem?_cons_succ]; exact rfl)
  (go_simp; go_at_call 9; (with_reducible refine (PA.out _ (FF.out _ X.out.1.b).s).mono ?_); rintro e u8 ⟨ys, A8, c8, hy, rfl, o8, g8⟩; try dsimp only)
  have X := Lib.hid (MO.out _ _ X.out g8.out.below)
  refine hK.out _ _ ?_ (fun hHeld => ?_)
  · exact ST.out _ X.out
  clear hK K
  try simp only [Act.put, List.setIfInBounds_toArray, List.set_cons_zero, List.set_cons_succ]
  refine wpAnyH_strong (S' := fun w' => ((w'.cell? ⟨w.heap.size, 0, none⟩ = some (.int .i64 k) ∧ w'.cell? ⟨w.heap.size, 1, none⟩ = some (.int .i64 r) ∧ w'.cell? ⟨w.heap.size, 2, none⟩ = some (.int .i64 t) ∧ w'.cell? ⟨w.heap.size, 3, none⟩ = some (.int .i64 y) ∧ w'.cell? ⟨w.heap.size, 4, none⟩ = some (.int .i64 n) ∧ w'.cell? ⟨w.heap.size, 5, none⟩ = some (.string na) ∧ w'.cell? ⟨w.heap.size, 6, none⟩ = some (.string ke) ∧ w'.cell? ⟨w.heap.size, 7, none⟩ = some (.string da)) ∧ (w'.cell? ⟨g5, 0, none⟩ = some (.int .i64 k2) ∧ w'.cell? ⟨g5, 1, none⟩ = some (.int .i64 r2) ∧ w'.cell? ⟨g5, 2, none⟩ = some (.int .i64 t2) ∧ w'.cell? ⟨g5, 3, none⟩ = some (.int .i64 y2) ∧ w'.cell? ⟨g5, 4, none⟩ = some (.int .i64 n2) ∧ w'.cell? ⟨g5, 5, none⟩ = some (.string na2) ∧ w'.cell? ⟨g5, 6, none⟩ = some (.string ke2) ∧ w'.cell? ⟨g5, 7, none⟩ = some (.string da2)) ∧ (w'.cell? ⟨g7, 0, none⟩ = some (.int .i64 k2) ∧ w'.cell? ⟨g7, 1, none⟩ = some (.int .i64 r2) ∧ w'.cell? ⟨g7, 2, none⟩ = some (.int .i64 t2) ∧ w'.cell? ⟨g7, 3, none⟩ = some (.int .i64 y2) ∧ w'.cell? ⟨g7, 4, none⟩ = some (.int .i64 n2) ∧ w'.cell? ⟨g7, 5, none⟩ = some (.string na2) ∧ w'.cell? ⟨g7, 6, none⟩ = some (.string ke2) ∧ w'.cell? ⟨g7, 7, none⟩ = some (.string da2))) ∧ (convert 27 9 (.slice A8 ys.length c8)).run Tryd.prog w' = .ok (.string sp) w') (fun _ h => h.1) ?_
  have cv8 := o8.out.conv hy.out
  rw [← SP.out] at cv8
  have hS8 := And.intro hHeld cv8
  refine wpAnyH_take (i := 9) (oi := ?o3012) (v := ?v3012) ?hi3012 (by kernel_rfl) (by kernel_rfl) (by kernel_rfl) ?hQ3012 (Or.inl ⟨?hg3012, ?hy3012⟩) (by assumption) ?rest3012
  case hi3012 => (simp only [List.getElem?_toArray, List.getElem?_cons_zero, List.getElem?_cons_succ]; exact rfl)
  case hQ3012 => exact fun _ _ _ h => h
  case hg3012 => rfl
  case hy3012 => (intro w' hSw; (try dsimp only at hSw); go_simp; try with_reducible rfl)
  try simp only [Act.put, List.setIfInBounds_toArray, List.set_cons_zero, List.set_cons_succ]
  refine wpAnyH_ready (rs := [11]) (by kernel_rfl) (by simp) ?_
  refine AllReadyH.cons (o := ?o3013) ?hi3013 (fun K hK => ?_) AllReadyH.nil
  case hi3013 => (simp only [List.getElem?_toArray, List.getElem?_cons_zero, List.getElem?_cons_succ]; exact rfl)
  (go_simp; go_at_call 14; (with_reducible refine (OF.out _).mono ?_); rintro e u11 ⟨rfl, b⟩; try dsimp only)
  have X := Lib.hid (MO.out _ _ X.out b)
  refine hK.out _ _ ?_ (fun hHeld => ?_)
  · exact ⟨ST.out _ X.out, by have := (o8.out.grew b (Nat.le_refl _)).conv hy.out; rwa [← SP.out] at this⟩
  clear hK K
  try simp only [Act.put, List.setIfInBounds_toArray, List.set_cons_zero, List.set_cons_succ]
  have o9 := Lib.hid (o8.out.grew b (Nat.le_refl _))
  refine wpAnyH_ready (rs := [12]) (by kernel_rfl) (by simp) ?_
  refine AllReadyH.cons (o := ?o3014) ?hi3014 (fun K hK => ?_) AllReadyH.nil
  case hi3014 => (simp only [List.getElem?_toArray, List.getElem?_cons_zero, List.getElem?_cons_succ]; exact rfl)
  (go_simp; go_at_call 15; (with_reducible refine (PR.out _).mono ?_); rintro e u12 ⟨zs2, A12, c12, hz, rfl, o12, g12⟩; try dsimp only)
  have X := Lib.hid (MO.out _ _ X.out g12.out.below)
  refine hK.out _ _ ?_ (fun hHeld => ?_)
  · exact ⟨ST.out _ X.out, by have := (o9.out.grew g12.out.below (Nat.le_refl _)).conv hy.out; rwa [← SP.out] at this⟩
  clear hK K
  try simp only [Act.put, List.setIfInBounds_toArray, List.set_cons_zero, List.set_cons_succ]
  refine wpAnyH_strong (S' := fun w' => (((w'.cell? ⟨w.heap.size, 0, none⟩ = some (.int .i64 k) ∧ w'.cell? ⟨w.heap.size, 1, none⟩ = some (.int .i64 r) ∧ w'.cell? ⟨w.heap.size, 2, none⟩ = some (.int .i64 t) ∧ w'.cell? ⟨w.heap.size, 3, none⟩ = some (.int .i64 y) ∧ w'.cell? ⟨w.heap.size, 4, none⟩ = some (.int .i64 n) ∧ w'.cell? ⟨w.heap.size, 5, none⟩ = some (.string na) ∧ w'.cell? ⟨w.heap.size, 6, none⟩ = some (.string ke) ∧ w'.cell? ⟨w.heap.size, 7, none⟩ = some (.string da)) ∧ (w'.cell? ⟨g5, 0, none⟩ = some (.int .i64 k2) ∧ w'.cell? ⟨g5, 1, none⟩ = some (.int .i64 r2) ∧ w'.cell? ⟨g5, 2, none⟩ = some (.int .i64 t2) ∧ w'.cell? ⟨g5, 3, none⟩ = some (.int .i64 y2) ∧ w'.cell? ⟨g5, 4, none⟩ = some (.int .i64 n2) ∧ w'.cell? ⟨g5, 5, none⟩ = some (.string na2) ∧ w'.cell? ⟨g5, 6, none⟩ = some (.string ke2) ∧ w'.cell? ⟨g5, 7, none⟩ = some (.string da2)) ∧ (w'.cell? ⟨g7, 0, none⟩ = some (.int .i64 k2) ∧ w'.cell? ⟨g7, 1, none⟩ = some (.int .i64 r2) ∧ w'.cell? ⟨g7, 2, none⟩ = some (.int .i64 t2) ∧ w'.cell? ⟨g7, 3, none⟩ = some (.int .i64 y2) ∧ w'.cell? ⟨g7, 4, none⟩ = some (.int .i64 n2) ∧ w'.cell? ⟨g7, 5, none⟩ = some (.string na2) ∧ w'.cell? ⟨g7, 6, none⟩ = some (.string ke2) ∧ w'.cell? ⟨g7, 7, none⟩ = some (.string da2))) ∧ (convert 27 9 (.slice A8 ys.length c8)).run Tryd.prog w' = .ok (.string sp) w') ∧ (convert 27 9 (.slice A12 zs2.length c12)).run Tryd.prog w' = .ok (.string sp) w') (fun _ h => h.1) ?_
  have cv12 := o12.out.conv hz.out
  rw [← SP.out] at cv12
  have hS12 := And.intro hHeld cv12
  refine wpAnyH_take (i := 13) (oi := ?o3015) (v := ?v3015) ?hi3015 (by kernel_rfl) (by kernel_rfl) (by kernel_rfl) ?hQ3015 (Or.inl ⟨?hg3015, ?hy3015⟩) (by assumption) ?rest3015
  case hi3015 => (simp only [List.getElem?_toArray, List.getElem?_cons_zero, List.getElem?_cons_succ]; exact rfl)
  case hQ3015 => exact fun _ _ _ h => h
  case hg3015 => rfl
  case hy3015 => (intro w' hSw; (try dsimp only at hSw); go_simp; try with_reducible rfl)
  try simp only [Act.put, List.setIfInBounds_toArray, List.set_cons_zero, List.set_cons_succ]
  refine wpAnyH_take (i := 14) (oi := ?o3016) (v := ?v3016) ?hi3016 (by kernel_rfl) (by kernel_rfl) (by kernel_rfl) ?hQ3016 (Or.inl ⟨?hg3016, ?hy3016⟩) (by assumption) ?rest3016
  case hi3016 => (simp only [List.getElem?_toArray, List.getElem?_cons_zero, List.getElem?_cons_succ]; exact rfl)
  case hQ3016 => exact fun _ _ _ h => h
  case hg3016 => rfl
  case hy3016 => (intro w' hSw; (try dsimp only at hSw); go_simp; try with_reducible rfl)
  try simp only [Act.put, List.setIfInBounds_toArray, List.set_cons_zero, List.set_cons_succ]
  refine wpAnyH_take (i := 15) (oi := ?o3017) (v := ?v3017) ?hi3017 (by kernel_rfl) (by kernel_rfl) (by kernel_rfl) ?hQ3017 (Or.inl ⟨?hg3017, ?hy3017⟩) (by assumption) ?rest3017
  case hi3017 => (simp only [List.getElem?_toArray, List.getElem?_cons_zero, List.getElem?_cons_succ]; exact rfl)
  case hQ3017 => exact fun _ _ _ h => h
  case hg3017 => rfl
  case hy3017 => (intro w' hSw; (try dsimp only at hSw); go_simp; try with_reducible rfl)
  try simp only [Act.put, List.setIfInBounds_toArray, List.set_cons_zero, List.set_cons_succ]
  refine wpAnyH_take (i := 16) (oi := ?o3018) (v := ?v3018) ?hi3018 (by kernel_rfl) (by kernel_rfl) (by kernel_rfl) ?hQ3018 (Or.inl ⟨?hg3018, ?hy3018⟩) (by assumption) ?rest3018
  case hi3018 => (simp only [List.getElem?_toArray, List.getElem?_cons_zero, List.getElem?_cons_succ]; exact rfl)
  case hQ3018 => exact fun _ _ _ h => h
  case hg3018 => rfl
  case hy3018 => (intro w' hSw; (try dsimp only at hSw); go_simp; try with_reducible rfl)
  try simp only [Act.put, List.setIfInBounds_toArray, List.set_cons_zero, List.set_cons_succ]
  refine wpAnyH_take (i := 17) (oi := ?o3019) (v := ?v3019) ?hi3019 (by kernel_rfl) (by kernel_rfl) (by kernel_rfl) ?hQ3019 (Or.inl ⟨?hg3019, ?hy3019⟩) (by assumption) ?rest3019
  case hi3019 => (simp only [List.getElem?_toArray, List.getElem?_cons_zero, List.getElem?_cons_succ]; exact rfl)
  case hQ3019 => exact fun _ _ _ h => h
  case hg3019 => rfl
  case hy3019 => (intro w' hSw; (try dsimp only at hSw); go_simp; try with_reducible rfl)
  try simp only [Act.put, List.setIfInBounds_toArray, List.set_cons_zero, List.set_cons_succ]
  refine wpAnyH_take (i := 19) (oi := ?o3020) (v := ?v3020) ?hi3020 (by kernel_rfl) (by kernel_rfl) (by kernel_rfl) ?hQ3020 (Or.inl ⟨?hg3020, ?hy3020⟩) (by assumption) ?rest3020
  case hi3020 => (simp only [List.getElem?_toArray, List.getElem?_cons_zero, List.getElem?_cons_succ]; exact rfl)
  case hQ3020 => exact fun _ _ _ h => h
  case hg3020 => rfl
  case hy3020 => (intro w' hSw; (try dsimp only at hSw); go_simp; try with_reducible rfl)
  try simp only [Act.put, List.setIfInBounds_toArray, List.set_cons_zero, List.set_cons_succ]
  have o10 := Lib.hid (o9.out.grew g12.out.below (Nat.le_refl _))
  have o13 := o12
  refine wpAnyH_ready (rs := [18]) (by kernel_rfl) (by simp) ?_
  refine AllReadyH.cons (o := ?o3021) ?hi3021 (fun K hK => ?_) AllReadyH.nil
  case hi3021 => (simp only [List.getElem?_toArray, List.getElem?_cons_zero, List.getElem?_cons_succ]; exact rfl)
  (go_simp; go_at_call 10; (with_reducible refine (SH.out _ (FF.out _ X.out.1.b)).mono ?_); rintro e u18 ⟨rfl, b⟩; try dsimp only)
  have X := Lib.hid (MO.out _ _ X.out b)
  refine hK.out _ _ ?_ (fun hHeld => ?_)
  · exact ⟨⟨ST.out _ X.out, by have := (o10.out.grew b (Nat.le_refl _)).conv hy.out; rwa [← SP.out] at this⟩, by have := (o13.out.grew b (Nat.le_refl _)).conv hz.out; rwa [← SP.out] at this⟩
  clear hK K
  try simp only [Act.put, List.setIfInBounds_toArray, List.set_cons_zero, List.set_cons_succ]
  have o10 := Lib.hid (o10.out.grew b (Nat.le_refl _))
  have o13 := Lib.hid (o13.out.grew b (Nat.le_refl _))
  refine wpAnyH_ready (rs := [20]) (by kernel_rfl) (by simp) ?_
  refine AllReadyH.cons (o := ?o3022) ?hi3022 (fun K hK => ?_) AllReadyH.nil
  case hi3022 => (simp only [List.getElem?_toArray, List.getElem?_cons_zero, List.getElem?_cons_succ]; exact rfl)
  (go_simp; go_at_call 14; (with_reducible refine (OF.out _).mono ?_); rintro e u20 ⟨rfl, b⟩; try dsimp only)
  have X := Lib.hid (MO.out _ _ X.out b)
  refine hK.out _ _ ?_ (fun hHeld => ?_)
  · exact ⟨⟨ST.out _ X.out, by have := (o10.out.grew b (Nat.le_refl _)).conv hy.out; rwa [← SP.out] at this⟩, by have := (o13.out.grew b (Nat.le_refl _)).conv hz.out; rwa [← SP.out] at this⟩
  clear hK K
  try simp only [Act.put, List.setIfInBounds_toArray, List.set_cons_zero, List.set_cons_succ]
  have o10 := Lib.hid (o10.out.grew b (Nat.le_refl _))
  have o13 := Lib.hid (o13.out.grew b (Nat.le_refl _))
  refine wpAnyH_ready (rs := [21]) (by kernel_rfl) (by simp) ?_
  refine AllReadyH.cons (o := ?o3023) ?hi3023 (fun K hK => ?_) AllReadyH.nil
  case hi3023 => (simp only [List.getElem?_toArray, List.getElem?_cons_zero, List.getElem?_cons_succ]; exact rfl)
  (go_simp; go_at_call 16; (with_reducible refine (SR.out _).mono ?_); rintro e u21 ⟨rfl, b⟩; try dsimp only)
  have X := Lib.hid (MO.out _ _ X.out b)
  refine hK.out _ _ ?_ (fun hHeld => ?_)
  · exact ⟨⟨ST.out _ X.out, by have := (o10.out.grew b (Nat.le_refl _)).conv hy.out; rwa [← SP.out] at this⟩, by have := (o13.out.grew b (Nat.le_refl _)).conv hz.out; rwa [← SP.out] at this⟩
  clear hK K
  try simp only [Act.put, List.setIfInBounds_toArray, List.set_cons_zero, List.set_cons_succ]
  have o10 := Lib.hid (o10.out.grew b (Nat.le_refl _))
  have o13 := Lib.hid (o13.out.grew b (Nat.le_refl _))
  refine wpAnyH_take (i := 22) (oi := ?o3024) (v := ?v3024) ?hi3024 (by kernel_rfl) (by kernel_rfl) (by kernel_rfl) ?hQ3024 (Or.inl ⟨?hg3024, ?hy3024⟩) (by assumption) ?rest3024
  case hi3024 => (simp only [List.getElem?_toArray, List.getElem?_cons_zero, List.getElem?_cons_succ]; exact rfl)
  case hQ3024 => exact fun _ _ _ h => h
  case hg3024 => rfl
  case hy3024 => (intro w' hSw; (try dsimp only at hSw); go_simp; try with_reducible rfl)
  try simp only [Act.put, List.setIfInBounds_toArray, List.set_cons_zero, List.set_cons_succ]
  refine wpAnyH_take (i := 23) (oi := ?o3025) (v := ?v3025) ?hi3025 (by kernel_rfl) (by kernel_rfl) (by kernel_rfl) ?hQ3025 (Or.inl ⟨?hg3025, ?hy3025⟩) (by assumption) ?rest3025
  case hi3025 => (simp only [List.getElem?_toArray, List.getElem?_cons_zero, List.getElem?_cons_succ]; exact rfl)
  case hQ3025 => exact fun _ _ _ h => h
  case hg3025 => rfl
  case hy3025 => (intro w' hSw; (try dsimp only at hSw); go_simp; try with_reducible rfl)
  try simp only [Act.put, List.setIfInBounds_toArray, List.set_cons_zero, List.set_cons_succ]
  refine wpAnyH_take (i := 24) (oi := ?o3026) (v := ?v3026) ?hi3026 (by kernel_rfl) (by kernel_rfl) (by kernel_rfl) ?hQ3026 (Or.inl ⟨?hg3026, ?hy3026⟩) (by assumption) ?rest3026
  case hi3026 => (simp only [List.getElem?_toArray, List.getElem?_cons_zero, List.getElem?_cons_succ]; exact rfl)
  case hQ3026 => exact fun _ _ _ h => h
  case hg3026 => rfl
  case hy3026 => (intro w' hSw; (try dsimp only at hSw); go_simp; try with_reducible rfl)
  try simp only [Act.put, List.setIfInBounds_toArray, List.set_cons_zero, List.set_cons_succ]
  refine wpAnyH_take (i := 25) (oi := ?o3027) (v := ?v3027) ?hi3027 (by kernel_rfl) (by kernel_rfl) (by kernel_rfl) ?hQ3027 (Or.inl ⟨?hg3027, ?hy3027⟩) (by assumption) ?rest3027
  case hi3027 => (simp only [List.getElem?_toArray, List.getElem?_cons_zero, List.getElem?_cons_succ]; exact rfl)
  case hQ3027 => exact fun _ _ _ h => h
  case hg3027 => rfl
  case hy3027 => (intro w' hSw; (try dsimp only at hSw); go_simp; try with_reducible rfl)
  try simp only [Act.put, List.setIfInBounds_toArray, List.set_cons_zero, List.set_cons_succ]
  refine wpAnyH_take (i := 26) (oi := ?o3028) (v := ?v3028) ?hi3028 (by kernel_rfl) (by kernel_rfl) (by kernel_rfl) ?hQ3028 (Or.inl ⟨?hg3028, ?hy3028⟩) (by assumption) ?rest3028
  case hi3028 => (simp only [List.getElem?_toArray, List.getElem?_cons_zero, List.getElem?_cons_succ]; exact rfl)
  case hQ3028 => exact fun _ _ _ h => h
  case hg3028 => rfl
  case hy3028 => (intro w' hSw; (try dsimp only at hSw); go_simp; try with_reducible rfl)
  try simp only [Act.put, List.setIfInBounds_toArray, List.set_cons_zero, List.set_cons_succ]
  refine wpAnyH_take (i := 27) (oi := ?o3029) (v := ?v3029) ?hi3029 (by kernel_rfl) (by kernel_rfl) (by kernel_rfl) ?hQ3029 (Or.inl ⟨?hg3029, ?hy3029⟩) (by assumption) ?rest3029
  case hi3029 => (simp only [List.getElem?_toArray, List.getElem?_cons_zero, List.getElem?_cons_succ]; exact rfl)
  case hQ3029 => exact fun _ _ _ h => h
  case hg3029 => rfl
  case hy3029 => (intro w' hSw; (try dsimp only at hSw); go_simp; try with_reducible rfl)
  try simp only [Act.put, List.setIfInBounds_toArray, List.set_cons_zero, List.set_cons_succ]
  refine wpAnyH_take (i := 28) (oi := ?o3030) (v := ?v3030) ?hi3030 (by kernel_rfl) (by kernel_rfl) (by kernel_rfl) ?hQ3030 (Or.inl ⟨?hg3030, ?hy3030⟩) (by assumption) ?rest3030
  case hi3030 => (simp only [List.getElem?_toArray, List.getElem?_cons_zero, List.getElem?_cons_succ]; exact rfl)
  case hQ3030 => exact fun _ _ _ h => h
  case hg3030 => rfl
  case hy3030 => (intro w' hSw; (try dsimp only at hSw); go_simp; try with_reducible rfl)
  try simp only [Act.put, List.setIfInBounds_toArray, List.set_cons_zero, List.set_cons_succ]
  refine wpAnyH_take (i := 29) (oi := ?o3031) (v := ?v3031) ?hi3031 (by kernel_rfl) (by kernel_rfl) (by kernel_rfl) ?hQ3031 (Or.inl ⟨?hg3031, ?hy3031⟩) (by assumption) ?rest3031
  case hi3031 => (simp only [List.getElem?_toArray, List.getElem?_cons_zero, List.getElem?_cons_succ]; exact rfl)
  case hQ3031 => exact fun _ _ _ h => h
  case hg3031 => rfl
  case hy3031 => (intro w' hSw; (try dsimp only at hSw); go_simp; try with_reducible rfl)
  try simp only [Act.put, List.setIfInBounds_toArray, List.set_cons_zero, List.set_cons_succ]
  refine wpAnyH_take (i := 30) (oi := ?o3032) (v := ?v3032) ?hi3032 (by kernel_rfl) (by kernel_rfl) (by kernel_rfl) ?hQ3032 (Or.inl ⟨?hg3032, ?hy3032⟩) (by assumption) ?rest3032
  case hi3032 => (simp only [List.getElem?_toArray, List.getElem?_cons_zero, List.getElem?_cons_succ]; exact rfl)
  case hQ3032 => exact fun _ _ _ h => h
  case hg3032 => rfl
  case hy3032 => (intro w' hSw; (try dsimp only at hSw); go_simp; try with_reducible rfl)
  try simp only [Act.put, List.setIfInBounds_toArray, List.set_cons_zero, List.set_cons_succ]
  refine wpAnyH_take (i := 32) (oi := ?o3033) (v := ?v3033) ?hi3033 (by kernel_rfl) (by kernel_rfl) (by kernel_rfl) ?hQ3033 (Or.inl ⟨?hg3033, ?hy3033⟩) (by assumption) ?rest3033
  case hi3033 => (simp only [List.getElem?_toArray, List.getElem?_cons_zero, List.getElem?_cons_succ]; exact rfl)
  case hQ3033 => exact fun _ _ _ h => h
  case hg3033 => rfl
  case hy3033 => (intro w' hSw; (try dsimp only at hSw); go_simp; try with_reducible rfl)
  try simp only [Act.put, List.setIfInBounds_toArray, List.set_cons_zero, List.set_cons_succ]
  refine wpAnyH_ready (rs := [31]) (by kernel_rfl) (by simp) ?_
  refine AllReadyH.cons (o := ?o3034) ?hi3034 (fun K hK => ?_) AllReadyH.nil
  case hi3034 => (simp only [List.getElem?_toArray, List.getElem?_cons_zero, List.getElem?_cons_succ]; exact rfl)
  (go_simp; go_at_call 14; (with_reducible refine (OX.out _).mono ?_); rintro e u31 ⟨rfl, b⟩; try dsimp only)
  have X := Lib.hid (MO.out _ _ X.out b)
  refine hK.out _ _ ?_ (fun hHeld => ?_)
  · exact ⟨⟨ST.out _ X.out, by have := (o10.out.grew b (Nat.le_refl _)).conv hy.out; rwa [← SP.out] at this⟩, by have := (o13.out.grew b (Nat.le_refl _)).conv hz.out; rwa [← SP.out] at this⟩
  clear hK K
  try simp only [Act.put, List.setIfInBounds_toArray, List.set_cons_zero, List.set_cons_succ]
  have o10 := Lib.hid (o10.out.grew b (Nat.le_refl _))
  have o13 := Lib.hid (o13.out.grew b (Nat.le_refl _))
  refine wpAnyH_take (i := 33) (oi := ?o3035) (v := ?v3035) ?hi3035 (by kernel_rfl) (by kernel_rfl) (by kernel_rfl) ?hQ3035 (Or.inl ⟨?hg3035, ?hy3035⟩) (by assumption) ?rest3035
  case hi3035 => (simp only [List.getElem?_toArray, List.getElem?_cons_zero, List.getElem?_cons_succ]; exact rfl)
  case hQ3035 => exact fun _ _ _ h => h
  case hg3035 => rfl
  case hy3035 => (intro w' hSw; (try dsimp only at hSw); go_simp; try with_reducible rfl)
  try simp only [Act.put, List.setIfInBounds_toArray, List.set_cons_zero, List.set_cons_succ]
  refine wpAnyH_take (i := 34) (oi := ?o3036) (v := ?v3036) ?hi3036 (by kernel_rfl) (by kernel_rfl) (by kernel_rfl) ?hQ3036 (Or.inl ⟨?hg3036, ?hy3036⟩) (by assumption) ?rest3036
  case hi3036 => (simp only [List.getElem?_toArray, List.getElem?_cons_zero, List.getElem?_cons_succ]; exact rfl)
  case hQ3036 => exact fun _ _ _ h => h
  case hg3036 => rfl
  case hy3036 => (intro w' hSw; (try dsimp only at hSw); go_simp; try with_reducible rfl)
  try simp only [Act.put, List.setIfInBounds_toArray, List.set_cons_zero, List.set_cons_succ]
  refine wpAnyH_take (i := 35) (oi := ?o3037) (v := ?v3037) ?hi3037 (by kernel_rfl) (by kernel_rfl) (by kernel_rfl) ?hQ3037 (Or.inl ⟨?hg3037, ?hy3037⟩) (by assumption) ?rest3037
  case hi3037 => (simp only [List.getElem?_toArray, List.getElem?_cons_zero, List.getElem?_cons_succ]; exact rfl)
  case hQ3037 => exact fun _ _ _ h => h
  case hg3037 => rfl
  case hy3037 => (intro w' hSw; (try dsimp only at hSw); go_simp; try with_reducible rfl)
  try simp only [Act.put, List.setIfInBounds_toArray, List.set_cons_zero, List.set_cons_succ]
  refine wpAnyH_done (by kernel_rfl) ?_ _
  go_wp2
  go_ret
  exact ⟨rfl, X.out.1.b⟩
end Go.Proofs.YtighnooklcmjaaaDoor
