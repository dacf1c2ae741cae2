/-
  The law's own: a graph as the reference's.
-/
import Derived.Test.YtgeefkfolejbnaaGrCopy
import Derived.Test.YtgeefkfolejbnaaLastOp
namespace Go.Proofs.Ytgeefkfolejbnaa
open Go.RowKit
theorem step_appE {w : World} {ops : Array Oper} {o : Oper} {a : Act} {K : Act → World → Prop} {Q : Exit → Act → World → Prop} {E : Prop} (hgd : o.guard = none) (s t : Operand) {T ST : TypeId}
    (ho : o.op = .call { callee := .builtin .append, args := #[s, t], argTypes := #[ST, ST] }) (hST : Try.prog.underlying ST = some (.slice T))
    (hI : (Try.prog.info? T).map (fun i => (i.zero, i.size, i.bytes)) = some (some (.agg #[.int .i64 0, .int .i64 0]), 2, 16))
    {base : Nat} {A : Option Addr} {n cap : Nat} {es : List (Int × Int)} {x y : Int} (hs : a.eval s = .slice A n cap) (hn : n = es.length) (h : OwnE w base T A cap es) (hbase : base ≤ w.heap.size)
    {b2 c : Nat} (ht : a.eval t = .slice (some ⟨b2, 0, none⟩) 1 c) (hx : w.cell? ⟨b2, 0, none⟩ = some (.int .i64 x)) (hy : w.cell? ⟨b2, 1, none⟩ = some (.int .i64 y)) (hi : inE (x, y)) (hlen : es.length ≤ 1000000)
    (H : ∀ A' cap' w', OwnE w' base T A' cap' (es ++ [(x, y)]) → w.grownBy w' (Value.slice A es.length cap).ownBlock → K (a.put o.dst (.slice A' (es.length + 1) cap')) w') :
    if Region.wanted o (yielded ops a.tmps) = true then Oper.wp Try.prog o a w K Q else E := by
  have hw : Region.wanted o (yielded ops a.tmps) = true := by simp [Region.wanted, hgd]
  rw [if_pos hw]
  subst hn
  obtain ⟨A', cap', w', hrun, h1, h2⟩ := run_appE hST hI h hbase hx hy hi c hlen o.type
  unfold Oper.wp
  simp [execOp, ho, resolve, invoke, builtin, hs, ht, hrun, Result.andThen]
  exact H A' cap' w' h1 h2
/-- A graph of the reference's handed back: its edges in a row of the call's own. -/
def RefPost (w : World) (n : Int) (es : List (Int × Int)) (e : Ending) (w' : World) : Prop :=
  ∃ A' cap', e = .returned (.agg #[.int .i64 n, .slice A' es.length cap']) ∧ Hid (Edg w' w'.heap.size A' es) ∧ Hid (Below w.heap.size w w')
theorem obG2 {w : World} {g : Nat} {x y : Value} {t : TypeId} (h : w.heap[g]? = some (.cells #[x, y] t (0, 0))) : w.cell? ⟨g, 1, none⟩ = some y := (obG h).1.2
set_option maxHeartbeats 8000000 in
theorem own_any (n : Int) (A : Option Addr) (es : List (Int × Int)) (cap : Nat) (hl : es.length ≤ 100000) (w : World) (h : Edg w w.heap.size A es) :
    Calls Try.prog 15 #[.agg #[.int .i64 n, .slice A es.length cap]] w (RefPost w n es) := by
  have H := Lib.hid h
  obtain ⟨l, hlen⟩ : ∃ l, l = es.length := ⟨_, rfl⟩
  have HN := Lib.hid hlen
  rw [← hlen] at hl ⊢
  clear h hlen
  obtain ⟨X, hX⟩ : ∃ X, X = w.heap.size + 2 := ⟨_, rfl⟩
  obtain ⟨W1, hW1⟩ : ∃ W1, W1 = ((w.alloc (.cells #[.int .i64 n, .slice A l cap] 27)).alloc (.cells #[.int .i64 0, .slice none 0 0] 39)).alloc (.cells #[.int .i64 n, .slice none 0 0] 39) := ⟨_, rfl⟩
  have Z1 : Hid (W1.heap.size = w.heap.size + 1 + 1 + 1) := Lib.hid (by rw [hW1]; simp)
  have B1 : Hid (Below w.heap.size w W1) := Lib.hid (by rw [hW1]; exact (((Below.refl _ _).alloc (Nat.le_refl _) _).alloc (by simp) _).alloc (by simp; omega) _)
  have P1 : Hid (W1.heap[w.heap.size]? = some (.cells #[.int .i64 n, .slice A l cap] 27 (0, 0))) := Lib.hid (by rw [hW1, Below.heap_alloc _ _ _ (by simp; omega), Below.heap_alloc _ _ _ (by simp)]; exact heap_alloc_new ..)
  have R1 : Hid (W1.heap[w.heap.size + 1]? = some (.cells #[.int .i64 0, .slice none 0 0] 39 (0, 0))) := Lib.hid (by
    rw [hW1, Below.heap_alloc _ _ _ (by simp)]
    have := heap_alloc_new (w.alloc (.cells #[.int .i64 n, .slice A l cap] 27)) (.cells #[.int .i64 0, .slice none 0 0] 39)
    rw [World.size_alloc] at this
    exact this)
  have X1 : Hid (W1.heap[X]? = some (.cells #[.int .i64 n, .slice none 0 0] 39 (0, 0))) := Lib.hid (by
    rw [hW1, hX]
    have := heap_alloc_new ((w.alloc (.cells #[.int .i64 n, .slice A l cap] 27)).alloc (.cells #[.int .i64 0, .slice none 0 0] 39)) (.cells #[.int .i64 n, .slice none 0 0] 39)
    rw [World.size_alloc, World.size_alloc] at this
    exact this)
  have hX2 : w.heap.size + 1 < X := by omega
  go_enter Try.func15, Try.ntmps15
  go_wp2_with fail
  rw [← hW1]
  rw [show w.heap.size + 1 + 1 = X by omega]
  clear hW1 hX
  go_loopw [4] (fun iv wr => ∃ (k m : Nat) (A' : Option Addr) (cap' : Nat), k ≤ l ∧ iv = .int .i64 k ∧ Hid (m = (es.take k).length) ∧ Hid (OwnE wr W1.heap.size 23 A' cap' (es.take k)) ∧ Hid (wr.heap[X]? = some (.cells #[.int .i64 n, .slice A' m cap'] 39 (0, 0))) ∧ Hid (But W1.heap.size X W1 wr)) (fun iv _ => l - (intOf iv).toNat)
  case atStart => exact ⟨0, 0, none, 0, Nat.zero_le _, rfl, Lib.hid (by simp), Lib.hid (by simpa using OwnE.none_ _ _ _), X1, Lib.hid (But.refl _ _ _)⟩
  case round =>
    obtain ⟨k, m, A', cap', hk, rfl, HM, HO, HX, HB⟩ := hrel
    have PR : Hid (wr.heap[w.heap.size]? = some (.cells #[.int .i64 n, .slice A l cap] 27 (0, 0))) := Lib.hid ((HB.out.block _ (lt_of_block P1.out) (by omega)).trans P1.out)
    have RR : Hid (wr.heap[w.heap.size + 1]? = some (.cells #[.int .i64 0, .slice none 0 0] 39 (0, 0))) := Lib.hid ((HB.out.block _ (lt_of_block R1.out) (by omega)).trans R1.out)
    have BW : Hid (Below w.heap.size w wr) := Lib.hid (B1.out.trans (HB.out.below (by rw [Z1.out]; omega) (by omega)))
    obtain ⟨⟨p0, p1⟩, -⟩ := obG PR.out
    obtain ⟨⟨q0, q1⟩, q2, q3⟩ := obG HX.out
    by_cases hlt : k < l
    · have hlt' : (k : Int) < (l : Int) := by omega
      obtain ⟨b, off, x, y, rfl, hb, hc0, hc1, he, hx, hy⟩ := (H.out.below BW.out).at_ (k := k) (by rw [← HN.out]; exact hlt)
      have TK := Lib.hid (Gr.take_next (by rw [← HN.out]; exact hlt) he.out)
      have IE : Hid (inE (x, y)) := Lib.hid ⟨hx, hy⟩
      have LK : Hid ((es.take k).length ≤ 100000) := Lib.hid (by rw [List.length_take]; omega)
      have OR : Hid (OwnE wr.drew W1.heap.size 23 A' cap' (es.take k)) := Lib.hid HO.out
      have NS : Hid (W1.heap.size ≤ wr.drew.heap.size) := Lib.hid HB.out.size
      have BA : Hid (Below wr.drew.heap.size wr.drew (wr.drew.alloc (.cells #[.int .i64 x, .int .i64 y] 23))) := Lib.hid ((Below.refl _ _).alloc (Nat.le_refl _) _)
      have CA : Hid ((wr.drew.alloc (.cells #[.int .i64 x, .int .i64 y] 23)).heap[wr.drew.heap.size]? = some (.cells #[.int .i64 x, .int .i64 y] 23 (0, 0))) := Lib.hid (heap_alloc_new ..)
      have XB : Hid (X < W1.heap.size) := Lib.hid (lt_of_block X1.out)
      have S0 : Hid (wr.drew.cell? ⟨X, 1, none⟩ = some (.slice A' m cap') ∧ wr.drew.cell? ⟨w.heap.size, 1, none⟩ = some (.slice (some ⟨b, off, none⟩) l cap) ∧ wr.drew.cell? ⟨b, off + k * 2, none⟩ = some (.int .i64 x) ∧ wr.drew.cell? ⟨b, off + k * 2 + 1, none⟩ = some (.int .i64 y)) := Lib.hid ⟨q1, p1, hc0, hc1⟩
      have SK : Hid (∀ W, Below wr.drew.heap.size wr.drew W → (W.cell? ⟨X, 1, none⟩ = some (.slice A' m cap') ∧ W.cell? ⟨w.heap.size, 1, none⟩ = some (.slice (some ⟨b, off, none⟩) l cap) ∧ W.cell? ⟨b, off + k * 2, none⟩ = some (.int .i64 x) ∧ W.cell? ⟨b, off + k * 2 + 1, none⟩ = some (.int .i64 y))) := Lib.hid fun W hW => by
        have h1 := lt_of_block PR.out
        have h2 := lt_of_block HX.out
        have h3 := hb.out
        exact ⟨(hW.cell (p := ⟨X, 1, none⟩) h2).trans S0.out.1, (hW.cell (p := ⟨w.heap.size, 1, none⟩) h1).trans S0.out.2.1, (hW.cell (p := ⟨b, _, none⟩) (Nat.lt_trans h3 h1)).trans S0.out.2.2.1, (hW.cell (p := ⟨b, _, none⟩) (Nat.lt_trans h3 h1)).trans S0.out.2.2.2⟩
      have SB : Hid (∀ W, Below W1.heap.size (wr.drew.alloc (.cells #[.int .i64 x, .int .i64 y] 23)) W → W.cell? ⟨X, 1, none⟩ = some (.slice A' m cap') → (W.cell? ⟨X, 1, none⟩ = some (.slice A' m cap') ∧ W.cell? ⟨w.heap.size, 1, none⟩ = some (.slice (some ⟨b, off, none⟩) l cap) ∧ W.cell? ⟨b, off + k * 2, none⟩ = some (.int .i64 x) ∧ W.cell? ⟨b, off + k * 2 + 1, none⟩ = some (.int .i64 y))) := Lib.hid fun W hW hX1 => by
        have h0 := SK.out _ BA.out
        have h1 := lt_of_block P1.out
        have h3 := hb.out
        exact ⟨hX1, (hW.cell (p := ⟨w.heap.size, 1, none⟩) h1).trans h0.2.1, (hW.cell (p := ⟨b, _, none⟩) (Nat.lt_trans h3 h1)).trans h0.2.2.1, (hW.cell (p := ⟨b, _, none⟩) (Nat.lt_trans h3 h1)).trans h0.2.2.2⟩
      clear hx hy
      go_wp2_with fail
      refine wp_region_C (fun w' => w'.cell? ⟨X, 1, none⟩ = some (.slice A' m cap') ∧ w'.cell? ⟨w.heap.size, 1, none⟩ = some (.slice (some ⟨b, off, none⟩) l cap) ∧ w'.cell? ⟨b, off + k * 2, none⟩ = some (.int .i64 x) ∧ w'.cell? ⟨b, off + k * 2 + 1, none⟩ = some (.int .i64 y)) 10 (by kernel_rfl) ?_
      have hS0 : (fun w' : World => w'.cell? ⟨X, 1, none⟩ = some (.slice A' m cap') ∧ w'.cell? ⟨w.heap.size, 1, none⟩ = some (.slice (some ⟨b, off, none⟩) l cap) ∧ w'.cell? ⟨b, off + k * 2, none⟩ = some (.int .i64 x) ∧ w'.cell? ⟨b, off + k * 2 + 1, none⟩ = some (.int .i64 y)) wr.drew := ⟨q1, p1, hc0, hc1⟩
      refine wpAnyC_take (i := 0) (oi := ?o1) (v := ?v1) ?hi1 (by kernel_rfl) (by kernel_rfl) (by kernel_rfl) ?hQ1 (by kernel_rfl) (by decide) (by kernel_rfl) (Or.inl ⟨?hg1, ?hy1⟩) (by assumption) ?rest1
      case hi1 => (simp only [List.getElem?_toArray, List.getElem?_cons_zero]; exact rfl)
      case hQ1 => exact fun _ _ _ h => h
      case hg1 => rfl
      case hy1 => (intro w' hSw; (try dsimp only at hSw); go_simp; try with_reducible rfl)
      try simp only [Act.put, List.setIfInBounds_toArray, List.set_cons_zero, List.set_cons_succ]
      refine wpAnyC_take (i := 1) (oi := ?o2) (v := ?v2) ?hi2 (by kernel_rfl) (by kernel_rfl) (by kernel_rfl) ?hQ2 (by kernel_rfl) (by decide) (by kernel_rfl) (Or.inl ⟨?hg2, ?hy2⟩) (by assumption) ?rest2
      case hi2 => (simp only [List.getElem?_toArray, List.getElem?_cons_zero, List.getElem?_cons_succ]; exact rfl)
      case hQ2 => exact fun _ _ _ h => h
      case hg2 => rfl
      case hy2 => (intro w' hSw; (try dsimp only at hSw); go_simp; try with_reducible rfl)
      try simp only [Act.put, List.setIfInBounds_toArray, List.set_cons_zero, List.set_cons_succ]
      refine wpAnyC_take (i := 2) (oi := ?o3) (v := ?v3) ?hi3 (by kernel_rfl) (by kernel_rfl) (by kernel_rfl) ?hQ3 (by kernel_rfl) (by decide) (by kernel_rfl) (Or.inl ⟨?hg3, ?hy3⟩) (by assumption) ?rest3
      case hi3 => (simp only [List.getElem?_toArray, List.getElem?_cons_zero, List.getElem?_cons_succ]; exact rfl)
      case hQ3 => exact fun _ _ _ h => h
      case hg3 => rfl
      case hy3 => (intro w' hSw; (try dsimp only at hSw); go_simp; try with_reducible rfl)
      try simp only [Act.put, List.setIfInBounds_toArray, List.set_cons_zero, List.set_cons_succ]
      refine wpAnyC_take (i := 3) (oi := ?o4) (v := ?v4) ?hi4 (by kernel_rfl) (by kernel_rfl) (by kernel_rfl) ?hQ4 (by kernel_rfl) (by decide) (by kernel_rfl) (Or.inl ⟨?hg4, ?hy4⟩) (by assumption) ?rest4
      case hi4 => (simp only [List.getElem?_toArray, List.getElem?_cons_zero, List.getElem?_cons_succ]; exact rfl)
      case hQ4 => exact fun _ _ _ h => h
      case hg4 => rfl
      case hy4 => (intro w' hSw; (try dsimp only at hSw); go_simp; try with_reducible rfl)
      try simp only [Act.put, List.setIfInBounds_toArray, List.set_cons_zero, List.set_cons_succ]
      refine wpAnyC_take (i := 4) (oi := ?o5) (v := ?v5) ?hi5 (by kernel_rfl) (by kernel_rfl) (by kernel_rfl) ?hQ5 (by kernel_rfl) (by decide) (by kernel_rfl) (Or.inl ⟨?hg5, ?hy5⟩) (by assumption) ?rest5
      case hi5 => (simp only [List.getElem?_toArray, List.getElem?_cons_zero, List.getElem?_cons_succ]; exact rfl)
      case hQ5 => exact fun _ _ _ h => h
      case hg5 => rfl
      case hy5 => (intro w' hSw; (try dsimp only at hSw); go_simp; try with_reducible rfl)
      try simp only [Act.put, List.setIfInBounds_toArray, List.set_cons_zero, List.set_cons_succ]
      refine wpAnyC_take (i := 5) (oi := ?o6) (v := ?v6) ?hi6 (by kernel_rfl) (by kernel_rfl) (by kernel_rfl) ?hQ6 (by kernel_rfl) (by decide) (by kernel_rfl) (Or.inl ⟨?hg6, ?hy6⟩) (by assumption) ?rest6
      case hi6 => (simp only [List.getElem?_toArray, List.getElem?_cons_zero, List.getElem?_cons_succ]; exact rfl)
      case hQ6 => exact fun _ _ _ h => h
      case hg6 => rfl
      case hy6 => (intro w' hSw; (try dsimp only at hSw); go_simp; try with_reducible rfl)
      try simp only [Act.put, List.setIfInBounds_toArray, List.set_cons_zero, List.set_cons_succ]
      refine wpAnyC_take (i := 6) (oi := ?o7) (v := ?v7) ?hi7 (by kernel_rfl) (by kernel_rfl) (by kernel_rfl) ?hQ7 (by kernel_rfl) (by decide) (by kernel_rfl) (Or.inl ⟨?hg7, ?hy7⟩) (by assumption) ?rest7
      case hi7 => (simp only [List.getElem?_toArray, List.getElem?_cons_zero, List.getElem?_cons_succ]; exact rfl)
      case hQ7 => exact fun _ _ _ h => h
      case hg7 => rfl
      case hy7 => (intro w' hSw; (try dsimp only at hSw); go_simp; try with_reducible rfl)
      try simp only [Act.put, List.setIfInBounds_toArray, List.set_cons_zero, List.set_cons_succ]
      refine wpAnyC_one (i := 7) (oi := ?o8) ?hi8 (by kernel_rfl) ?step8
      case hi8 => (simp only [List.getElem?_toArray, List.getElem?_cons_zero, List.getElem?_cons_succ]; exact rfl)
      intro K' hK
      go_simp
      refine hK.out _ _ ?_ (fun hHeld => ?_)
      · exact fun _ => SK.out _ BA.out
      clear hK K' hHeld
      try simp only [Act.put, List.setIfInBounds_toArray, List.set_cons_zero, List.set_cons_succ]
      refine wpAnyC_one (i := 8) (oi := ?o9) ?hi9 (by kernel_rfl) ?step9
      case hi9 => (simp only [List.getElem?_toArray, List.getElem?_cons_zero, List.getElem?_cons_succ]; exact rfl)
      intro K' hK
      (refine step_appE (by rfl) _ _ (by rfl) Try.underlying37 arr2_info (by rfl) HM.out (OR.out.grew BA.out (Nat.le_refl _)) (Nat.le_trans NS.out BA.out.size) (by rfl) (obG CA.out).1.1 (obG CA.out).1.2 IE.out (by have := LK.out; omega) ?_; intro A8 c8 w8 o8 d8; have O8 := Lib.hid o8; have D8 := Lib.hid (grownE_below (OR.out.grew BA.out (Nat.le_refl _)) (Nat.le_trans NS.out BA.out.size) d8); have X8 : Hid (w8.heap[X]? = some (.cells #[.int .i64 n, .slice A' m cap'] 39 (0, 0))) := Lib.hid ((D8.out.block _ XB.out).trans ((BA.out.block _ (lt_of_block HX.out)).trans HX.out)); have r0 := (obG X8.out).1.1; have r1 := (obG X8.out).1.2; have r2 := (obG X8.out).2.1; have r3 := (obG X8.out).2.2; have S8 := Lib.hid (SB.out _ D8.out r1); clear o8 d8)
      refine hK.out _ _ ?_ (fun hHeld => ?_)
      · exact fun _ => S8.out
      clear hK K' hHeld
      try simp only [Act.put, List.setIfInBounds_toArray, List.set_cons_zero, List.set_cons_succ]
      refine wpAnyC_one (i := 9) (oi := ?o10) ?hi10 (by kernel_rfl) ?step10
      case hi10 => (simp only [List.getElem?_toArray, List.getElem?_cons_zero, List.getElem?_cons_succ]; exact rfl)
      intro K' hK
      go_simp
      refine hK.out _ _ ?_ (fun hHeld => ?_)
      · exact fun _ => S8.out
      clear hK K' hHeld
      try simp only [Act.put, List.setIfInBounds_toArray, List.set_cons_zero, List.set_cons_succ]
      refine wpAnyC_one (i := 10) (oi := ?o11) ?hi11 (by kernel_rfl) ?step11
      case hi11 => (simp only [List.getElem?_toArray, List.getElem?_cons_zero, List.getElem?_cons_succ]; exact rfl)
      intro K' hK
      go_simp
      refine hK.out _ _ ?_ (fun hHeld => ?_)
      · exact fun hx => (by cases hx)
      clear hK K' hHeld
      try simp only [Act.put, List.setIfInBounds_toArray, List.set_cons_zero, List.set_cons_succ]
      refine wpAnyC_done (by kernel_rfl) ?_ _
      go_wp2
      go_roundw
      case rel => exact ⟨k + 1, _, A8, c8, by omega, by go_num, Lib.hid (by rw [TK.out, List.length_append]; simp), Lib.hid (by rw [TK.out]; exact O8.out.set X8.out (by decide) 1 _), Lib.hid (heap_setCell_same w8 X 1 _ _ _ X8.out), Lib.hid (((HB.out.drew.trans (But.of (BA.out.mono NS.out))).trans (But.of D8.out)).trans (But.set _ _ _ _ _))⟩
      case measure => simp [intOf]; omega
    · obtain rfl : l = k := by omega
      have ML : Hid (m = es.length) := Lib.hid (by have := HM.out; rw [HN.out, List.take_length] at this; exact this)
      have OS : Hid (OwnE wr W1.heap.size 23 A' cap' es) := Lib.hid (by have := HO.out; rw [HN.out, List.take_length] at this; exact this)
      obtain ⟨⟨v0, v1⟩, v2, v3⟩ := obG RR.out
      clear HM HO
      go_wp2
      exact bodyPost_ret (v := .agg #[.int .i64 n, .slice A' m cap']) (by simp [results, Try.results15, go_sem, v0, v1]) rfl
        ⟨A', cap', by rw [ML.out], Lib.hid ((OS.out.set2 RR.out (by decide) _ _).edg), Lib.hid ((BW.out.setCell (p := ⟨w.heap.size + 1, 0, none⟩) (by simp) _).setCell (p := ⟨w.heap.size + 1, 1, none⟩) (by simp) _)⟩
end Go.Proofs.Ytgeefkfolejbnaa
