/-
  The program's allAhead: what comes ahead of each node, gathered once.
-/
import Derived.Test.YtgeefkfolejbnaaToBef
import Derived.Test.YtgeefkfolejbnaaToRefIn
import Derived.Test.YtgeefkfolejbnaaLastOp
import Derived.Deep.RegionHeld3
namespace Go.Proofs.Ytgeefkfolejbnaa
open Go.RowKit
/-- The row of rows is returned. -/
def BefG (w : World) (E : Gr.E) (N : Nat) (e : Ending) (w' : World) : Prop :=
  ∃ g, e = .returned (.slice (some ⟨g, 0, none⟩) N N) ∧ Hid (Bef w' w'.heap.size g E N) ∧ Hid (Below w.heap.size w w')
set_option maxRecDepth 100000 in
set_option maxHeartbeats 4000000 in
theorem allAhead_any (N : Nat) (A : Option Addr) (es : Gr.EI) (cap : Nat) (hg : Gr.Good (N : Int) es) (w : World) (h : Edg w w.heap.size A es) :
    Calls Try.prog 27 #[.agg #[.int .i64 (N : Int), .slice A es.length cap]] w (BefG w (Gr.nat es) N) := by
  have hN16 : N ≤ 16 := by have := hg.n16; omega
  have hl := hg.len
  have GH := Lib.hid hg
  have H := Lib.hid h
  obtain ⟨l, hl2⟩ : ∃ l, l = es.length := ⟨_, rfl⟩
  have HL := Lib.hid hl2
  rw [← hl2] at hl ⊢
  clear h hg hl2
  obtain ⟨W1, hW1⟩ : ∃ W1, W1 = w.alloc (.cells #[.int .i64 (N : Int), .slice A l cap] 27) := ⟨_, rfl⟩
  have P1 : Hid (W1.heap[w.heap.size]? = some (.cells #[.int .i64 (N : Int), .slice A l cap] 27 (0, 0))) := Lib.hid (by rw [hW1]; exact heap_alloc_new ..)
  have B1 : Hid (Below w.heap.size w W1) := Lib.hid (by rw [hW1]; exact (Below.refl _ _).alloc (Nat.le_refl _) _)
  have Z1 : Hid (W1.heap.size = w.heap.size + 1) := Lib.hid (by rw [hW1]; simp)
  obtain ⟨⟨x0, x1⟩, -⟩ := obG P1.out
  have MK := fun W => made_M N (by omega) W
  go_enter Try.func27, Try.ntmps27
  go_upto_region 1 with fail
  rw [← hW1]
  clear hW1
  go_upto_region 2 with fail
  obtain ⟨R, hR⟩ : ∃ R, R = W1.heap.size := ⟨_, rfl⟩
  obtain ⟨W2, hW2⟩ : ∃ W2, W2 = W1.alloc (.cells (madeCells #[.slice none 0 0] N) 28) := ⟨_, rfl⟩
  have OM : Hid (OwnM W2 R R N (fun _ => []) fun _ => (none, 0)) := Lib.hid (by rw [hW2, hR]; exact OwnM.made W1 N (by omega))
  have B2 : Hid (Below R W1 W2) := Lib.hid (by rw [hW2, hR]; exact (Below.refl _ _).alloc (Nat.le_refl _) _)
  rw [← hW2, ← hR]
  have XR : Hid (w.heap.size < R) := Lib.hid (by have := Z1.out; omega)
  have PX : Hid (∀ W, Below R W1 W → (W.cell? ⟨w.heap.size, 0, none⟩ = some (.int .i64 (N : Int)) ∧ W.cell? ⟨w.heap.size, 1, none⟩ = some (.slice A l cap))) := Lib.hid fun W hW => by
    exact (obG ((hW.block _ XR.out).trans P1.out)).1
  have BX : Hid (∀ W, Below R W1 W → Below w.heap.size w W) := Lib.hid fun W hW => B1.out.trans (hW.mono (Nat.le_of_lt XR.out))
  clear hW2 hR MK x0 x1 Z1
  obtain ⟨x0, x1⟩ := PX.out _ B2.out
  clear P1 B1
  go_wp2_with fail
  clear x0 x1
  go_loopw [12] (fun iv wr => ∃ (k : Nat) (M : Nat → List Int) (P : Nat → Option Addr × Nat), k ≤ l ∧ iv = .int .i64 k ∧ Hid (OwnM wr R R N M P) ∧ Hid (∀ q, q < N → M q = Gr.ints (To.befV (Gr.nat (es.take k)) q)) ∧ Hid (Below R W1 wr)) (fun iv _ => l - (intOf iv).toNat)
  case atStart => exact ⟨0, _, _, Nat.zero_le _, rfl, OM, Lib.hid fun q _ => rfl, B2⟩
  case round =>
    obtain ⟨k, M, P, hk, rfl, HO, HM, HB⟩ := hrel
    by_cases hlt : k < l
    · have hlt' : (k : Int) < (l : Int) := by omega
      have hke : k < es.length := by rw [← HL.out]; exact hlt
      obtain ⟨b, off, x, y, rfl, hb, hc0, hc1, he, ⟨hx0, hx1⟩, hy0, hy1⟩ := (H.out.below (BX.out _ HB.out)).at_ (k := k) hke
      obtain ⟨x0, x1⟩ := PX.out _ HB.out
      have hge := GH.out.edge (x, y) (by rw [← he.out, List.getD_eq_getElem?_getD, List.getElem?_eq_getElem hke]; exact List.getElem_mem hke)
      obtain ⟨p, rfl⟩ : ∃ p : Nat, x = (p : Int) := ⟨x.toNat, by have := hge.1; omega⟩
      obtain ⟨q, rfl⟩ : ∃ q : Nat, y = (q : Int) := ⟨y.toNat, by have := hge.2.2.1; omega⟩
      have hq' : (q : Int) < (N : Int) := hge.2.2.2.1
      have hq : q < N := by omega
      clear hx0 hx1 hy0 hy1
      have MN : Hid (∀ r, r < N → (setF M q (M q ++ [(p : Int)])) r = Gr.ints (To.befV (Gr.nat (es.take (k + 1))) r)) := Lib.hid fun r hr => by
        have e : Gr.nat (es.take (k + 1)) = Gr.nat (es.take k) ++ [(p, q)] := by
          rw [List.take_succ_eq_append_getElem hke]
          have h2 : es[k] = ((p : Int), (q : Int)) := by rw [← he.out, List.getD_eq_getElem?_getD, List.getElem?_eq_getElem hke]; rfl
          rw [h2]
          unfold Gr.nat
          rw [List.map_append]
          rfl
        rw [e, To.bef_snoc]
        by_cases hrq : r = q
        · subst hrq
          rw [setF_same, if_pos rfl, HM.out r hr, Gr.ints_app]
          rfl
        · rw [setF_ne _ _ hrq, if_neg hrq]
          exact HM.out r hr
      have ML : Hid ((M q).length ≤ 256) := Lib.hid (by
        rw [HM.out q hq, Gr.ints_len]
        refine Nat.le_trans (To.bef_len _ _) ?_
        unfold Gr.nat
        rw [List.length_map, List.length_take]
        have := HL.out
        omega)
      have IP : Hid (inI (p : Int)) := Lib.hid ⟨by omega, by omega⟩
      clear hge HM he
      obtain ⟨e, hE⟩ : ∃ e, e = wr.heap.size := ⟨_, rfl⟩
      obtain ⟨W3, hW3⟩ : ∃ W3, W3 = wr.alloc (.cells #[.int .i64 (p : Int), .int .i64 (q : Int)] 24) := ⟨_, rfl⟩
      have P3 : Hid (W3.heap[e]? = some (.cells #[.int .i64 (p : Int), .int .i64 (q : Int)] 24 (0, 0))) := Lib.hid (by rw [hW3, hE]; exact heap_alloc_new ..)
      have BE : Hid (Below e wr W3) := Lib.hid (by rw [hW3, hE]; exact (Below.refl _ _).alloc (Nat.le_refl _) _)
      have Z3 : Hid (W3.heap.size = e + 1) := Lib.hid (by rw [hW3, hE]; simp)
      have O3 : Hid (OwnM W3 R R N M P) := Lib.hid (HO.out.keep (by rw [← hE]; exact BE.out))
      have XE : Hid (R < e) := Lib.hid (by rw [hE]; exact HO.out.lt.2)
      have B3 : Hid (Below R W1 W3) := Lib.hid (HB.out.trans (BE.out.mono (Nat.le_of_lt XE.out)))
      have HQ3 : Hid (∀ W, Below (e + 1) W3 W → W.cell? ⟨e, 0, none⟩ = some (.int .i64 (p : Int)) ∧ W.cell? ⟨e, 1, none⟩ = some (.int .i64 (q : Int)) ∧ W.cell? ⟨R, q, none⟩ = some (.slice (P q).1 (M q).length (P q).2)) := Lib.hid fun W hW => by
        have h1 := (obG ((hW.block e (by omega)).trans P3.out)).1
        exact ⟨h1.1, h1.2, (hW.cell (p := ⟨R, q, none⟩) (show R < e + 1 by have := XE.out; omega)).trans (O3.out.cell hq)⟩
      have S3 := Lib.hid (HQ3.out W3.drew (Below.refl _ _).drew)
      obtain ⟨W4, hW4⟩ : ∃ W4, W4 = (W3.alloc (.cells #[.int .i64 (p : Int)] 3)).drew := ⟨_, rfl⟩
      have B4 : Hid (Below (e + 1) W3 W4) := Lib.hid (by rw [hW4]; exact ((Below.refl _ _).alloc (by have := Z3.out; omega) _).drew)
      have S4 := Lib.hid (HQ3.out W4 B4.out)
      have O4 : Hid (OwnM W4 R R N M P) := Lib.hid (O3.out.keep (by rw [Z3.out]; exact B4.out))
      have Z4 : Hid (e + 1 < W4.heap.size) := Lib.hid (by have h := Z3.out; rw [hW4]; show e + 1 < (W3.alloc _).heap.size; rw [World.size_alloc]; omega)
      have C4 : Hid (W4.cell? ⟨e + 1, 0, none⟩ = some (.int .i64 (p : Int))) := Lib.hid (by rw [hW4, ← Z3.out]; show (W3.alloc _).cell? _ = _; exact cell_litN (w := W3) (by simp))
      have E4 : Hid (W4.heap[e]? = some (.cells #[.int .i64 (p : Int), .int .i64 (q : Int)] 24 (0, 0))) := Lib.hid ((B4.out.block _ (by omega)).trans P3.out)
      go_wp2_with fail
      rw [← hE, ← hW3]
      clear hE hW3 hc0 hc1 x0 x1
      obtain ⟨mq, hmq⟩ : ∃ mq, mq = (M q).length := ⟨_, rfl⟩
      have MQ := Lib.hid hmq
      rw [← hmq] at S3
      clear hmq
      refine wp_region_C (fun w' => w'.cell? ⟨e, 0, none⟩ = some (.int .i64 (p : Int)) ∧ w'.cell? ⟨e, 1, none⟩ = some (.int .i64 (q : Int)) ∧ w'.cell? ⟨R, q, none⟩ = some (.slice (P q).1 mq (P q).2)) 13 (by kernel_rfl) ?_
      have hS0 : (fun w' : World => w'.cell? ⟨e, 0, none⟩ = some (.int .i64 (p : Int)) ∧ w'.cell? ⟨e, 1, none⟩ = some (.int .i64 (q : Int)) ∧ w'.cell? ⟨R, q, none⟩ = some (.slice (P q).1 mq (P q).2)) W3.drew := S3.out
      refine wpAnyC_take (i := 0) (oi := ?o1) (v := ?v1) ?hi1 (by kernel_rfl) (by kernel_rfl) (by kernel_rfl) ?hQ1 (by kernel_rfl) (by decide) (by kernel_rfl) (Or.inl ⟨?hg1, ?hy1⟩) (by assumption) ?rest1
      case hi1 => (simp only [List.getElem?_toArray, List.getElem?_cons_zero]; exact rfl)
      case hQ1 => exact fun _ _ _ h => h
      case hg1 => rfl
      case hy1 => (intro w' hSw; (try dsimp only at hSw); go_simp; try with_reducible rfl)
      try simp only [Act.put, List.setIfInBounds_toArray, List.set_cons_zero, List.set_cons_succ]
      refine wpAnyC_take (i := 1) (oi := ?o2) (v := ?v2) ?hi2 (by kernel_rfl) (by kernel_rfl) (by kernel_rfl) ?hQ2 (by kernel_rfl) (by decide) (by kernel_rfl) (Or.inl ⟨?hg2, ?hy2⟩) (by assumption) ?rest2
      case hi2 => (simp only [List.getElem?_toArray, List.getElem?_cons_zero, List.getElem?_cons_succ]; exact rfl)
      case hQ2 => exact fun _ _ _ h => h
      case hg2 => rfl
      case hy2 => (intro w' hSw; (try dsimp only at hSw); go_simp; try with_reducible rfl)
      try simp only [Act.put, List.setIfInBounds_toArray, List.set_cons_zero, List.set_cons_succ]
      refine wpAnyC_take (i := 2) (oi := ?o3) (v := ?v3) ?hi3 (by kernel_rfl) (by kernel_rfl) (by kernel_rfl) ?hQ3 (by kernel_rfl) (by decide) (by kernel_rfl) (Or.inl ⟨?hg3, ?hy3⟩) (by assumption) ?rest3
      case hi3 => (simp only [List.getElem?_toArray, List.getElem?_cons_zero, List.getElem?_cons_succ]; exact rfl)
      case hQ3 => exact fun _ _ _ h => h
      case hg3 => rfl
      case hy3 => (intro w' hSw; (try dsimp only at hSw); go_simp; try with_reducible rfl)
      try simp only [Act.put, List.setIfInBounds_toArray, List.set_cons_zero, List.set_cons_succ]
      refine wpAnyC_take (i := 3) (oi := ?o4) (v := ?v4) ?hi4 (by kernel_rfl) (by kernel_rfl) (by kernel_rfl) ?hQ4 (by kernel_rfl) (by decide) (by kernel_rfl) (Or.inl ⟨?hg4, ?hy4⟩) (by assumption) ?rest4
      case hi4 => (simp only [List.getElem?_toArray, List.getElem?_cons_zero, List.getElem?_cons_succ]; exact rfl)
      case hQ4 => exact fun _ _ _ h => h
      case hg4 => rfl
      case hy4 => (intro w' hSw; (try dsimp only at hSw); go_simp; try with_reducible rfl)
      try simp only [Act.put, List.setIfInBounds_toArray, List.set_cons_zero, List.set_cons_succ]
      refine wpAnyC_take (i := 4) (oi := ?o5) (v := ?v5) ?hi5 (by kernel_rfl) (by kernel_rfl) (by kernel_rfl) ?hQ5 (by kernel_rfl) (by decide) (by kernel_rfl) (Or.inl ⟨?hg5, ?hy5⟩) (by assumption) ?rest5
      case hi5 => (simp only [List.getElem?_toArray, List.getElem?_cons_zero, List.getElem?_cons_succ]; exact rfl)
      case hQ5 => exact fun _ _ _ h => h
      case hg5 => rfl
      case hy5 => (intro w' hSw; (try dsimp only at hSw); go_simp; try with_reducible rfl)
      try simp only [Act.put, List.setIfInBounds_toArray, List.set_cons_zero, List.set_cons_succ]
      refine wpAnyC_take (i := 5) (oi := ?o6) (v := ?v6) ?hi6 (by kernel_rfl) (by kernel_rfl) (by kernel_rfl) ?hQ6 (by kernel_rfl) (by decide) (by kernel_rfl) (Or.inl ⟨?hg6, ?hy6⟩) (by assumption) ?rest6
      case hi6 => (simp only [List.getElem?_toArray, List.getElem?_cons_zero, List.getElem?_cons_succ]; exact rfl)
      case hQ6 => exact fun _ _ _ h => h
      case hg6 => rfl
      case hy6 => (intro w' hSw; (try dsimp only at hSw); go_simp; try with_reducible rfl)
      try simp only [Act.put, List.setIfInBounds_toArray, List.set_cons_zero, List.set_cons_succ]
      refine wpAnyC_take (i := 6) (oi := ?o7) (v := ?v7) ?hi7 (by kernel_rfl) (by kernel_rfl) (by kernel_rfl) ?hQ7 (by kernel_rfl) (by decide) (by kernel_rfl) (Or.inl ⟨?hg7, ?hy7⟩) (by assumption) ?rest7
      case hi7 => (simp only [List.getElem?_toArray, List.getElem?_cons_zero, List.getElem?_cons_succ]; exact rfl)
      case hQ7 => exact fun _ _ _ h => h
      case hg7 => rfl
      case hy7 => (intro w' hSw; (try dsimp only at hSw); go_simp; try with_reducible rfl)
      try simp only [Act.put, List.setIfInBounds_toArray, List.set_cons_zero, List.set_cons_succ]
      refine wpAnyC_take (i := 7) (oi := ?o8) (v := ?v8) ?hi8 (by kernel_rfl) (by kernel_rfl) (by kernel_rfl) ?hQ8 (by kernel_rfl) (by decide) (by kernel_rfl) (Or.inl ⟨?hg8, ?hy8⟩) (by assumption) ?rest8
      case hi8 => (simp only [List.getElem?_toArray, List.getElem?_cons_zero, List.getElem?_cons_succ]; exact rfl)
      case hQ8 => exact fun _ _ _ h => h
      case hg8 => rfl
      case hy8 => (intro w' hSw; (try dsimp only at hSw); go_simp; try with_reducible rfl)
      try simp only [Act.put, List.setIfInBounds_toArray, List.set_cons_zero, List.set_cons_succ]
      refine wpAnyC_take (i := 8) (oi := ?o9) (v := ?v9) ?hi9 (by kernel_rfl) (by kernel_rfl) (by kernel_rfl) ?hQ9 (by kernel_rfl) (by decide) (by kernel_rfl) (Or.inl ⟨?hg9, ?hy9⟩) (by assumption) ?rest9
      case hi9 => (simp only [List.getElem?_toArray, List.getElem?_cons_zero, List.getElem?_cons_succ]; exact rfl)
      case hQ9 => exact fun _ _ _ h => h
      case hg9 => rfl
      case hy9 => (intro w' hSw; (try dsimp only at hSw); go_simp; try with_reducible rfl)
      try simp only [Act.put, List.setIfInBounds_toArray, List.set_cons_zero, List.set_cons_succ]
      refine wpAnyC_take (i := 9) (oi := ?o10) (v := ?v10) ?hi10 (by kernel_rfl) (by kernel_rfl) (by kernel_rfl) ?hQ10 (by kernel_rfl) (by decide) (by kernel_rfl) (Or.inl ⟨?hg10, ?hy10⟩) (by assumption) ?rest10
      case hi10 => (simp only [List.getElem?_toArray, List.getElem?_cons_zero, List.getElem?_cons_succ]; exact rfl)
      case hQ10 => exact fun _ _ _ h => h
      case hg10 => rfl
      case hy10 => (intro w' hSw; (try dsimp only at hSw); go_simp; try with_reducible rfl)
      try simp only [Act.put, List.setIfInBounds_toArray, List.set_cons_zero, List.set_cons_succ]
      refine wpAnyC_one (i := 10) (oi := ?o11) ?hi11 (by kernel_rfl) ?step11
      case hi11 => (simp only [List.getElem?_toArray, List.getElem?_cons_zero, List.getElem?_cons_succ]; exact rfl)
      intro K' hK
      (go_simp; rw [← hW4, Z3.out])
      refine hK.out _ _ ?_ (fun hHeld => ?_)
      · exact fun _ => (by have := S4.out; rwa [← MQ.out] at this)
      clear hK K' hHeld
      try simp only [Act.put, List.setIfInBounds_toArray, List.set_cons_zero, List.set_cons_succ]
      clear hW4
      have HS4 : (fun w' : World => w'.cell? ⟨e, 0, none⟩ = some (.int .i64 (p : Int)) ∧ w'.cell? ⟨e, 1, none⟩ = some (.int .i64 (q : Int)) ∧ w'.cell? ⟨R, q, none⟩ = some (.slice (P q).1 mq (P q).2)) W4 := (by have := S4.out; rwa [← MQ.out] at this)
      refine wpAnyC_one (i := 11) (oi := ?o12) ?hi12 (by kernel_rfl) ?step12
      case hi12 => (simp only [List.getElem?_toArray, List.getElem?_cons_zero, List.getElem?_cons_succ]; exact rfl)
      intro K' hK
      refine step_appZat rfl (.tmp 23) (.tmp 26) rfl rfl MQ.out (O4.out.own q hq) (by have := Z4.out; have := XE.out; omega) rfl C4.out IP.out (by have := ML.out; omega) ?_; intro A5 c5 W5 o5 d5 t5; have O5 := Lib.hid (O4.out.put hq d5 o5 t5); have D5 := Lib.hid d5; have F5 : Hid (W5.frozen? ⟨R, q, none⟩ = false) := Lib.hid (O4.out.thaws hq d5 q); have B5 : Hid (Below R W1 W5) := Lib.hid ((B3.out.trans (B4.out.mono (by have := XE.out; omega))).trans (O4.out.under hq d5)); have HQ5 : Hid (∀ i {j : Nat}, (i = R ∨ ∃ cs t fz, W4.heap[i]? = some (.cells cs t fz) ∧ t ≠ 3) → W5.cell? ⟨i, j, none⟩ = W4.cell? ⟨i, j, none⟩) := Lib.hid (O4.out.stays hq d5); clear o5 d5 t5
      refine hK.out _ _ ?_ (fun hHeld => ?_)
      · exact fun _ => ⟨(HQ5.out _ (.inr ⟨_, _, _, E4.out, by decide⟩)).trans HS4.1, (HQ5.out _ (.inr ⟨_, _, _, E4.out, by decide⟩)).trans HS4.2.1, (HQ5.out _ (.inl rfl)).trans HS4.2.2⟩
      clear hK K' hHeld
      try simp only [Act.put, List.setIfInBounds_toArray, List.set_cons_zero, List.set_cons_succ]
      have hc5 := (HQ5.out (j := q) R (.inl rfl)).trans HS4.2.2
      have hf5 := F5.out
      refine wpAnyC_one (i := 12) (oi := ?o13) ?hi13 (by kernel_rfl) ?step13
      case hi13 => (simp only [List.getElem?_toArray, List.getElem?_cons_zero, List.getElem?_cons_succ]; exact rfl)
      intro K' hK
      go_simp
      refine hK.out _ _ ?_ (fun hHeld => ?_)
      · exact fun _ => ⟨(HQ5.out _ (.inr ⟨_, _, _, E4.out, by decide⟩)).trans HS4.1, (HQ5.out _ (.inr ⟨_, _, _, E4.out, by decide⟩)).trans HS4.2.1, (HQ5.out _ (.inl rfl)).trans HS4.2.2⟩
      clear hK K' hHeld
      try simp only [Act.put, List.setIfInBounds_toArray, List.set_cons_zero, List.set_cons_succ]
      refine wpAnyC_one (i := 13) (oi := ?o14) ?hi14 (by kernel_rfl) ?step14
      case hi14 => (simp only [List.getElem?_toArray, List.getElem?_cons_zero, List.getElem?_cons_succ]; exact rfl)
      intro K' hK
      go_simp
      refine hK.out _ _ ?_ (fun hHeld => ?_)
      · exact fun h => (by cases h)
      clear hK K' hHeld
      try simp only [Act.put, List.setIfInBounds_toArray, List.set_cons_zero, List.set_cons_succ]
      clear hc5 hf5 HS4 S4 S3
      refine wpAnyC_done (by kernel_rfl) ?_ _
      go_wp2
      go_roundw
      case rel => exact ⟨k + 1, _, _, by omega, by go_num, Lib.hid (by have := O5.out; rwa [List.length_append, List.length_singleton] at this), MN, Lib.hid (B5.out.setCell (p := ⟨R, q, none⟩) (Nat.le_refl R) _)⟩
      case measure => simp [intOf]; omega
    · obtain rfl : l = k := by omega
      have BF : Hid (Bef wr wr.heap.size R (Gr.nat es) N) := Lib.hid (HO.out.bef (by have := HM.out; rwa [HL.out, List.take_length] at this))
      go_wp2
      go_ret
      exact ⟨R, rfl, BF, Lib.hid (BX.out _ HB.out)⟩
end Go.Proofs.Ytgeefkfolejbnaa
