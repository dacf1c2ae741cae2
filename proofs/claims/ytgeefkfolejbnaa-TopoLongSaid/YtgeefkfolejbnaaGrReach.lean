/-
  Package graph: Reach at every graph.
-/
import Derived.Test.YtgeefkfolejbnaaGrAcross
import Derived.Deep.RegionHeld3
namespace Go.Proofs.Ytgeefkfolejbnaa
open Go.RowKit
theorem step_appZ {w : World} {ops : Array Oper} {o : Oper} {a : Act} {K : Act → World → Prop} {Q : Exit → Act → World → Prop} {E : Prop} (hgd : o.guard = none) (s t : Operand)
    (ho : o.op = .call { callee := .builtin .append, args := #[s, t], argTypes := #[28, 28] })
    {base : Nat} {A : Option Addr} {n cap : Nat} {zs : List Int} {x : Int} (hs : a.eval s = .slice A n cap) (hn : n = zs.length) (h : OwnZ w base A cap zs) (hbase : base ≤ w.heap.size)
    {b2 c : Nat} (ht : a.eval t = .slice (some ⟨b2, 0, none⟩) 1 c) (hx : w.cell? ⟨b2, 0, none⟩ = some (.int .i64 x)) (hxi : inI x) (hlen : zs.length ≤ 1000000000)
    (H : ∀ A' cap' w', OwnZ w' base A' cap' (zs ++ [x]) → w.grownBy w' (Value.slice A zs.length cap).ownBlock → K (a.put o.dst (.slice A' (zs.length + 1) cap')) w') :
    if Region.wanted o (yielded ops a.tmps) = true then Oper.wp Try.prog o a w K Q else E := by
  have hw : Region.wanted o (yielded ops a.tmps) = true := by simp [Region.wanted, hgd]
  rw [if_pos hw]
  subst hn
  obtain ⟨A', cap', w', hrun, h1, h2⟩ := run_appZ h hbase hx hxi c hlen o.type
  unfold Oper.wp
  simp [execOp, ho, resolve, invoke, builtin, hs, ht, hrun, Result.andThen]
  exact H A' cap' w' h1 h2
/-- As run_appZ; and the old slice still reads as it did. -/
theorem run_appZ4 {w : World} {base : Nat} {A : Option Addr} {cap : Nat} {zs : List Int} {x : Int} (h : OwnZ w base A cap zs) (hbase : base ≤ w.heap.size) {b2 : Nat} (hx : w.cell? ⟨b2, 0, none⟩ = some (.int .i64 x)) (hxi : inI x) (c : Nat) (hlen : zs.length ≤ 1000000000) (ty : TypeId) :
    ∃ A' cap' w', (Builtin.append_ #[28, 28] ty #[.slice A zs.length cap, .slice (some ⟨b2, 0, none⟩) 1 c]).run Try.prog w = .ok (.slice A' (zs ++ [x]).length cap') w' ∧
      OwnZ w' base A' cap' (zs ++ [x]) ∧ w.grownBy w' (Value.slice A zs.length cap).ownBlock ∧ OwnZ w' base A cap zs := by
  obtain ⟨A', cap', w', hrun, hown, hg⟩ := run_appZ h hbase hx hxi c hlen ty
  refine ⟨A', cap', w', hrun, hown, hg, ?_⟩
  obtain ⟨i, hi, hz0, hs, hyb⟩ := info_parts int_info
  have hnews : ∀ j u, [Value.int .i64 x][j]? = some u → w.cell? ((⟨b2, 0, none⟩ : Addr).add j) = some u := fun j u hu => by
    rw [add_off, Nat.zero_add]
    match j, hu with
    | 0, hu => simp at hu; rw [← hu]; exact hx
    | j + 1, hu => simp at hu
  have h1 : ∀ u ∈ [Value.int .i64 x], u.oneCell' = true := fun u hu => by
    simp at hu
    subst hu; rfl
  have hold := h.1
  have hl := hold.1
  rcases hold.2 with ⟨e, e0⟩ | ⟨g, c', cur, e, hbg, hgg, hnc, hcm, hcs, ht⟩
  · injection e with e1 e2 e3
    have : zs = [] := List.eq_nil_of_length_eq_zero e2
    subst e1; subst e3; subst this
    exact OwnZ.none_ _ _
  · injection e with e1 e2 e3
    subst e1; subst e3
    by_cases hroom : zs.length + 1 ≤ cap
    · have hr := run_append_room (P := Try.prog) w 28 ty 3 i Try.underlying28 hi g zs.length cap cur hgg ⟨b2, 0, none⟩ 1 c [.int .i64 x] (by rw [hs]; rfl) hnews h1 hroom (by rw [hs, hcs]; simp; omega)
      rw [hr] at hrun
      injection hrun with _ hw'
      subst hw'
      refine ⟨⟨hl, .inr ⟨g, cap, _, rfl, hbg, setRow_heap w g cur _ 3 _ hgg, hnc, hcm, ?_, ?_⟩⟩, h.2⟩
      · simp only [List.size_toArray, List.length_append, List.length_take, List.length_drop, Array.length_toList, hs, List.length_cons, List.length_nil, hcs]
        omega
      · rw [hs, ht, List.append_assoc, ← hl]
        exact List.take_left
    · have hr := run_append_grow (P := Try.prog) w 28 ty 3 i _ Try.underlying28 hi hz0 ⟨g, 0, none⟩ zs.length cap _ (by rw [hs]; exact hl) (World.ownsRow.cells hold rfl) ⟨b2, 0, none⟩ 1 c [.int .i64 x] (by rw [hs]; rfl) hnews (by omega) (by unfold maxLen at hcm; omega) (growslice_fits (by omega) (by
        rw [hyb]
        omega))
      rw [hr] at hrun
      injection hrun with _ hw'
      subst hw'
      exact h.keep fun a ha => heap_alloc_old w.drew _ (by cases ha; exact h.lt.2)
theorem step_appZ4 {w : World} {ops : Array Oper} {o : Oper} {a : Act} {K : Act → World → Prop} {Q : Exit → Act → World → Prop} {E : Prop} (hgd : o.guard = none) (s t : Operand)
    (ho : o.op = .call { callee := .builtin .append, args := #[s, t], argTypes := #[28, 28] })
    {base : Nat} {A : Option Addr} {n cap : Nat} {zs : List Int} {x : Int} (hs : a.eval s = .slice A n cap) (hn : n = zs.length) (h : OwnZ w base A cap zs) (hbase : base ≤ w.heap.size)
    {b2 c : Nat} (ht : a.eval t = .slice (some ⟨b2, 0, none⟩) 1 c) (hx : w.cell? ⟨b2, 0, none⟩ = some (.int .i64 x)) (hxi : inI x) (hlen : zs.length ≤ 1000000000)
    (H : ∀ A' cap' w', OwnZ w' base A' cap' (zs ++ [x]) → w.grownBy w' (Value.slice A zs.length cap).ownBlock → OwnZ w' base A cap zs → K (a.put o.dst (.slice A' (zs.length + 1) cap')) w') :
    if Region.wanted o (yielded ops a.tmps) = true then Oper.wp Try.prog o a w K Q else E := by
  have hw : Region.wanted o (yielded ops a.tmps) = true := by simp [Region.wanted, hgd]
  rw [if_pos hw]
  subst hn
  obtain ⟨A', cap', w', hrun, h1, h2, h3⟩ := run_appZ4 h hbase hx hxi c hlen o.type
  unfold Oper.wp
  simp [execOp, ho, resolve, invoke, builtin, hs, ht, hrun, Result.andThen]
  exact H A' cap' w' h1 h2 h3
def Gr.reachK (n : Int) (es : Gr.EI) (v : Int) (k : Nat) : List Int := Gr.ints ((List.range k).filter fun b => (Gr.fin n es v b).isSome)
theorem Gr.reachK_next (n : Int) (es : Gr.EI) (v : Int) (k : Nat) : Gr.reachK n es v (k + 1) = Gr.reachK n es v k ++ (if (Gr.fin n es v k).isSome then [(k : Int)] else []) := by
  unfold Gr.reachK
  rw [Gr.range_snoc, Gr.ints_app]
  cases (Gr.fin n es v k).isSome <;> rfl
theorem Gr.reachK_len (n : Int) (es : Gr.EI) (v : Int) (k : Nat) : (Gr.reachK n es v k).length ≤ k := by
  unfold Gr.reachK
  rw [Gr.ints_len]
  have := List.length_filter_le (fun b : Nat => (Gr.fin n es v b).isSome) (List.range k)
  rwa [List.length_range] at this
theorem Gr.reachI_good {n : Int} {es : Gr.EI} (h : Gr.goodV n es = true) (v : Int) : Gr.reachI n es v = Gr.reachK n es v n.toNat := by
  unfold Gr.reachI Gr.reachK
  rw [if_pos h]
set_option maxHeartbeats 4000000 in
theorem reach_any (n : Int) (A : Option Addr) (es : Gr.EI) (cap : Nat) (v : Int) (hv : inI v) (hl : es.length ≤ 9223372036854775807) (w : World) (h : Edg w w.heap.size A es) :
    Calls Try.prog 25 #[.agg #[.int .i64 n, .slice A es.length cap], .int .i64 v] w (ListG w (Gr.reachI n es v)) := by
  have H := Lib.hid h
  have GD : Hid (∀ W, Below w.heap.size w W → Calls Try.prog 21 #[.agg #[.int .i64 n, .slice A es.length cap]] W (BoolG W (Gr.goodV n es))) := Lib.hid fun W hW => good_any n A es cap (by omega) W (h.on hW)
  have SH : Hid (∀ W, Below w.heap.size w W → ∀ N : Nat, n = (N : Int) → Gr.Good n es → Calls Try.prog 37 #[.agg #[.int .i64 n, .slice A es.length cap]] W (TabG W (Gr.fin n es))) := Lib.hid fun W hW N e hg => by
    subst e
    exact shortest_any N A es cap (Nat.le_trans (Gr.Good.len hg) (by decide)) hg W (h.on hW)
  have HV := Lib.hid hv
  generalize es.length = l at *
  clear h hl hv
  obtain ⟨W1, hW1⟩ : ∃ W1, W1 = w.alloc (.cells #[.int .i64 n, .slice A l cap] 27) := ⟨_, rfl⟩
  have P1 : Hid (W1.heap[w.heap.size]? = some (.cells #[.int .i64 n, .slice A l cap] 27 (0, 0))) := Lib.hid (by rw [hW1]; exact heap_alloc_new ..)
  have B1 : Hid (Below w.heap.size w W1) := Lib.hid (by rw [hW1]; exact (Below.refl _ _).alloc (Nat.le_refl _) _)
  cases hg : Gr.goodV n es with
  | false =>
    rw [hg] at GD
    have E : Hid (Gr.reachI n es v = []) := Lib.hid (by unfold Gr.reachI; rw [hg]; rfl)
    clear hg
    go_enter Try.func25, Try.ntmps25
    go_wp2_with fail
    rw [← hW1]
    clear hW1
    obtain ⟨⟨x0, x1⟩, -⟩ := obG P1.out
    go_wp2_with fail
    (with_reducible refine (GD.out _ B1.out).mono ?_); rintro e w2 ⟨rfl, b2⟩
    go_wp2
    go_ret
    rw [E.out]
    exact ⟨none, 0, rfl, Lib.hid (OwnZ.none_ _ _), Lib.hid (B1.out.trans (b2.out.mono B1.out.size))⟩
  | true =>
    rw [hg] at GD
    have G := Gr.goodV_iff.1 hg
    obtain ⟨N, hN⟩ : ∃ N : Nat, n = (N : Int) := ⟨n.toNat, by have := G.n0; omega⟩
    have hN16 : N ≤ 16 := by have := G.n16; omega
    have E : Hid (Gr.reachI n es v = Gr.reachK N es v N) := Lib.hid (by rw [Gr.reachI_good hg, hN, Int.toNat_natCast])
    have SH2 : Hid (∀ W, Below w.heap.size w W → Calls Try.prog 37 #[.agg #[.int .i64 n, .slice A l cap]] W (TabG W (Gr.fin N es))) := Lib.hid fun W hW => by
      have := SH.out W hW N hN G
      rwa [hN] at this ⊢
    subst hN
    clear hg G SH
    go_enter Try.func25, Try.ntmps25
    go_wp2_with fail
    rw [← hW1]
    clear hW1
    obtain ⟨⟨x0, x1⟩, -⟩ := obG P1.out
    go_wp2_with fail
    (with_reducible refine (GD.out _ B1.out).mono ?_); rintro e w2 ⟨rfl, b2⟩
    have P2 : Hid (w2.heap[w.heap.size]? = some (.cells #[.int .i64 (N : Int), .slice A l cap] 27 (0, 0))) := Lib.hid ((b2.out.block _ (lt_of_block P1.out)).trans P1.out)
    have B2 : Hid (Below w.heap.size w w2) := Lib.hid (B1.out.trans (b2.out.mono B1.out.size))
    clear b2
    obtain ⟨⟨y0, y1⟩, -⟩ := obG P2.out
    go_wp2_with fail
    (with_reducible refine (SH2.out _ B2.out).mono ?_); rintro e w3 ⟨g, rfl, hgb, m3, b3⟩
    have P3 : Hid (w3.heap[w.heap.size]? = some (.cells #[.int .i64 (N : Int), .slice A l cap] 27 (0, 0))) := Lib.hid ((b3.out.block _ (lt_of_block P2.out)).trans P2.out)
    have B3 : Hid (Below w.heap.size w w3) := Lib.hid (B2.out.trans (b3.out.mono B2.out.size))
    clear b3 hgb
    obtain ⟨⟨z0, z1⟩, -⟩ := obG P3.out
    go_wp2_with fail
    go_loopw [6, 17] (fun lv iv wr => ∃ (k m : Nat) (A' : Option Addr) (cap' : Nat), k ≤ N ∧ iv = .int .i64 k ∧ lv = .slice A' m cap' ∧ Hid (m = (Gr.reachK N es v k).length) ∧ Hid (OwnZ wr w3.heap.size A' cap' (Gr.reachK N es v k)) ∧ Hid (Below w3.heap.size w3 wr)) (fun _ iv _ => N - (intOf iv).toNat)
    case atStart => exact ⟨0, 0, none, 0, Nat.zero_le _, rfl, rfl, Lib.hid rfl, Lib.hid (OwnZ.none_ _ _), Lib.hid (Below.refl _ _)⟩
    case round =>
      obtain ⟨k, m, A', cap', hk, rfl, rfl, HM, HO, HB⟩ := hrel
      by_cases hlt : k < N
      · have hlt' : (k : Int) < (N : Int) := by omega
        have ik : inI (k : Int) := ⟨by omega, by omega⟩
        have IK := Lib.hid ik
        have hl1 := (m3.out.grew HB.out).look2 v k HV.out ik
        have ST := Lib.hid (Gr.reachK_next N es v k)
        have LK := Lib.hid (Gr.reachK_len N es v k)
        clear ik
        generalize (Gr.fin N es v k).getD 0 = u at *
        cases hs : (Gr.fin N es v k).isSome with
        | true =>
          rw [hs] at hl1
          have E1 : Hid (Gr.reachK N es v (k + 1) = Gr.reachK N es v k ++ [(k : Int)]) := Lib.hid (by rw [ST.out, hs]; rfl)
          clear hs
          go_wp2_with (at_builtin; refine wp_appZ rfl (.tmp 29) (.tmp 31) rfl rfl HM.out (HO.out.grew ((Below.refl _ _).alloc (Nat.le_refl _) _) (Nat.le_refl _)) (by have := HB.out.size; simp; omega) rfl (cell_litN (by simp)) IK.out (by have := LK.out; omega) ?_; intro A3 c3 w4 o3 d3; have O3 := Lib.hid o3; have D3 := Lib.hid (grownZ_below (HO.out.grew ((Below.refl _ _).alloc (Nat.le_refl _) _) (Nat.le_refl _)) (by have := HB.out.size; simp; omega) d3); clear o3 d3)
          go_roundw
          case rel => exact ⟨k + 1, _, A3, c3, by omega, by go_num, rfl, Lib.hid (by rw [E1.out]; simp), Lib.hid (by rw [E1.out]; exact O3.out), Lib.hid ((HB.out.alloc HB.out.size _).trans D3.out)⟩
          case measure => simp [intOf]; omega
        | false =>
          rw [hs] at hl1
          have E1 : Hid (Gr.reachK N es v (k + 1) = Gr.reachK N es v k) := Lib.hid (by rw [ST.out, hs]; simp)
          clear hs
          go_wp2
          go_roundw
          case rel => exact ⟨k + 1, m, A', cap', by omega, by go_num, rfl, Lib.hid (by rw [E1.out]; exact HM.out), Lib.hid (by rw [E1.out]; exact HO.out), HB⟩
          case measure => simp [intOf]; omega
      · obtain rfl : k = N := by omega
        have ML : Hid (m = (Gr.reachI k es v).length) := Lib.hid (by rw [HM.out, E.out])
        go_wp2
        go_ret
        exact ⟨A', cap', by rw [← ML.out]; rfl, Lib.hid (by rw [E.out]; exact HO.out.low B3.out.size), Lib.hid (B3.out.trans (HB.out.mono B3.out.size))⟩
end Go.Proofs.Ytgeefkfolejbnaa
