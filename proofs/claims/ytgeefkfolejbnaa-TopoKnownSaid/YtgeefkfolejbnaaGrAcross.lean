/-
  Package graph: across, Ahead and Behind at every graph.
-/
import Derived.Test.YtgeefkfolejbnaaGrLeast
import Derived.Test.YtgeefkfolejbnaaZSort
namespace Go.Proofs.Ytgeefkfolejbnaa
open Go.RowKit
/-- A list of numbers handed back: a row of the call's own. -/
def ListG (w : World) (l : List Int) (e : Ending) (w' : World) : Prop :=
  ∃ A' cap', e = .returned (.slice A' l.length cap') ∧ Hid (OwnZ w' w.heap.size A' cap' l) ∧ Hid (Below w.heap.size w w')
theorem ListG.zs {w w' : World} {l : List Int} {A : Option Addr} {cap : Nat} (h : OwnZ w' w.heap.size A cap l) : Zs w' w'.heap.size A l := h.zs
theorem cell_lit (w : World) (v : Value) (t : TypeId) : (w.alloc (.cells #[v] t)).cell? ⟨w.heap.size, 0, none⟩ = some v := by
  rw [World.cell?_alloc_new]; rfl
theorem cell_litN {w : World} {v : Value} {t : TypeId} {n : Nat} (hn : n = w.heap.size) : (w.alloc (.cells #[v] t)).cell? ⟨n, 0, none⟩ = some v := by
  rw [hn]; exact cell_lit w v t
theorem Gr.nodup_sel {es : Gr.EI} (h : es.Nodup) (p : Int × Int → Bool) (f : Int × Int → Int) (hf : ∀ a b, p a = true → p b = true → f a = f b → a = b) : ((es.filter p).map f).Nodup := by
  show List.Pairwise _ _
  rw [List.pairwise_map]
  have h1 : (es.filter p).Pairwise (fun a b => a ≠ b) := List.Pairwise.filter _ h
  refine List.Pairwise.imp_of_mem ?_ h1
  intro a b ha hb hne e
  exact hne (hf a b (List.mem_filter.1 ha).2 (List.mem_filter.1 hb).2 e)

def Gr.aheadSel (es : Gr.EI) (v : Int) : List Int := (es.filter fun e => e.2 == v).map fun e => e.1
theorem Gr.ahead_step {es : Gr.EI} {k : Nat} {x y v : Int} (hk : k < es.length) (he : es.getD k (0, 0) = (x, y)) : Gr.aheadSel (es.take (k + 1)) v = Gr.aheadSel (es.take k) v ++ (if y == v then [x] else []) := by
  unfold Gr.aheadSel
  rw [Gr.take_next hk he, List.filter_append, List.map_append]
  congr 1
  cases h : (y == v) <;> simp [h]
theorem Gr.aheadSel_len (es : Gr.EI) (v : Int) : (Gr.aheadSel es v).length ≤ es.length := by
  unfold Gr.aheadSel
  rw [List.length_map]
  exact List.length_filter_le _ _
theorem Gr.ahead_sorted {n : Int} {es : Gr.EI} (h : Gr.Good n es) (v : Int) : sortedZ (Gr.aheadSel es v) = Gr.aheadI n es v := by
  unfold Gr.aheadI
  rw [if_pos (Gr.goodV_iff.2 h)]
  have hn : (Gr.aheadSel es v).Nodup := Gr.nodup_sel h.once _ _ fun a b ha hb e => by
    have h1 : a.2 = v := by simpa using ha
    have h2 : b.2 = v := by simpa using hb
    exact Prod.ext e (h1.trans h2.symm)
  refine Gr.sorted_range (sortedZ_pair _) ((sortedZ_perm _).nodup_iff.2 hn) fun x => ?_
  rw [(sortedZ_perm _).mem_iff]
  unfold Gr.aheadSel
  rw [List.mem_map]
  constructor
  · rintro ⟨e, he, rfl⟩
    obtain ⟨h1, h2⟩ := List.mem_filter.1 he
    have h3 : e.2 = v := by simpa using h2
    have h4 := h.edge e h1
    refine ⟨e.1.toNat, by omega, by omega, ?_⟩
    rw [List.contains_iff_mem, ← h3, Int.toNat_of_nonneg (by omega)]
    exact h1
  · rintro ⟨b, hb, rfl, h2⟩
    exact ⟨((b : Int), v), List.mem_filter.2 ⟨List.contains_iff_mem.1 h2, by simp⟩, rfl⟩
set_option maxHeartbeats 4000000 in
theorem across_ahead (n : Int) (A : Option Addr) (es : Gr.EI) (cap : Nat) (v : Int) (hl : es.length ≤ 9223372036854775807) (w : World) (h : Edg w w.heap.size A es) :
    Calls Try.prog 40 #[.agg #[.int .i64 n, .slice A es.length cap], .int .i64 v, .int .i64 1, .int .i64 0] w (ListG w (Gr.aheadI n es v)) := by
  have H := Lib.hid h
  have GD : Hid (∀ W, Below w.heap.size w W → Calls Try.prog 21 #[.agg #[.int .i64 n, .slice A es.length cap]] W (BoolG W (Gr.goodV n es))) := Lib.hid fun W hW => good_any n A es cap (by omega) W (h.on hW)
  obtain ⟨l, hlen⟩ : ∃ l, l = es.length := ⟨_, rfl⟩
  have HN := Lib.hid hlen
  rw [← hlen] at GD hl ⊢
  clear h hlen
  obtain ⟨W1, hW1⟩ : ∃ W1, W1 = w.alloc (.cells #[.int .i64 n, .slice A l cap] 27) := ⟨_, rfl⟩
  have P1 : Hid (W1.heap[w.heap.size]? = some (.cells #[.int .i64 n, .slice A l cap] 27 (0, 0))) := Lib.hid (by rw [hW1]; exact heap_alloc_new ..)
  have B1 : Hid (Below w.heap.size w W1) := Lib.hid (by rw [hW1]; exact (Below.refl _ _).alloc (Nat.le_refl _) _)
  cases hg : Gr.goodV n es with
  | false =>
    rw [hg] at GD
    have E : Hid (Gr.aheadI n es v = []) := Lib.hid (by unfold Gr.aheadI; rw [hg]; rfl)
    clear hg
    go_enter Try.func40, Try.ntmps40
    go_wp2_with fail
    rw [← hW1]
    clear hW1
    obtain ⟨⟨x0, x1⟩, -⟩ := obG P1.out
    go_wp2_with fail
    (with_reducible refine (GD.out _ B1.out).mono ?_); rintro e w2 ⟨rfl, b2⟩
    go_wp2
    go_ret
    rw [E.out]
    exact ⟨none, 0, rfl, Lib.hid (OwnZ.none_ _ _), Lib.hid (B1.out.trans (b2.out.mono B1.out.size))⟩
  | true =>
    rw [hg] at GD
    replace hl : l ≤ 100000 := by have h1 := Gr.Good.len (Gr.goodV_iff.1 hg); have h2 := HN.out; omega
    have E : Hid (sortedZ (Gr.aheadSel es v) = Gr.aheadI n es v) := Lib.hid (Gr.ahead_sorted (Gr.goodV_iff.1 hg) v)
    have LS : Hid (∀ k, (Gr.aheadSel (es.take k) v).length ≤ 100000) := Lib.hid fun k => by
      have h1 := Gr.aheadSel_len (es.take k) v
      have h2 : (es.take k).length ≤ es.length := by rw [List.length_take]; omega
      have := HN.out
      omega
    clear hg
    go_enter Try.func40, Try.ntmps40
    go_wp2_with fail
    rw [← hW1]
    clear hW1
    obtain ⟨⟨x0, x1⟩, -⟩ := obG P1.out
    go_wp2_with fail
    (with_reducible refine (GD.out _ B1.out).mono ?_); rintro e w2 ⟨rfl, b2⟩
    have P2 : Hid (w2.heap[w.heap.size]? = some (.cells #[.int .i64 n, .slice A l cap] 27 (0, 0))) := Lib.hid ((b2.out.block _ (lt_of_block P1.out)).trans P1.out)
    have B2 : Hid (Below w.heap.size w w2) := Lib.hid (B1.out.trans (b2.out.mono B1.out.size))
    clear b2
    obtain ⟨⟨y0, y1⟩, -⟩ := obG P2.out
    go_wp2_with fail
    go_loopw [9, 18] (fun lv iv wr => ∃ (k m : Nat) (A' : Option Addr) (cap' : Nat), k ≤ l ∧ iv = .int .i64 k ∧ lv = .slice A' m cap' ∧ Hid (m = (Gr.aheadSel (es.take k) v).length) ∧ Hid (OwnZ wr w.heap.size A' cap' (Gr.aheadSel (es.take k) v)) ∧ Hid (Below w.heap.size w wr)) (fun _ iv _ => l - (intOf iv).toNat)
    case atStart => exact ⟨0, 0, none, 0, Nat.zero_le _, rfl, rfl, Lib.hid rfl, Lib.hid (OwnZ.none_ _ _), B2⟩
    case round =>
      obtain ⟨k, m, A', cap', hk, rfl, rfl, HM, HO, HB⟩ := hrel
      by_cases hlt : k < l
      · have hlt' : (k : Int) < (l : Int) := by omega
        obtain ⟨b, off, x, y, rfl, hb, hc0, hc1, he, hx, hy⟩ := (H.out.below HB.out).at_ (k := k) (by rw [← HN.out]; exact hlt)
        have ST := Lib.hid (Gr.ahead_step (v := v) (by rw [← HN.out]; exact hlt) he.out)
        have BE : Hid (Below w.heap.size w (wr.alloc (.cells #[.int .i64 x, .int .i64 y] 24))) := Lib.hid (HB.out.alloc HB.out.size _)
        have OE : Hid (OwnZ (wr.alloc (.cells #[.int .i64 x, .int .i64 y] 24)) w.heap.size A' cap' (Gr.aheadSel (es.take k) v)) := Lib.hid (HO.out.grew ((Below.refl _ _).alloc (Nat.le_refl _) _) (Nat.le_refl _))
        have HX := Lib.hid hx
        have HY := Lib.hid hy
        have LK := Lib.hid (LS.out k)
        clear hx hy
        by_cases heq : y = v
        · have E1 : Hid (Gr.aheadSel (es.take (k + 1)) v = Gr.aheadSel (es.take k) v ++ [x]) := Lib.hid (by rw [ST.out, heq]; simp)
          have hd : (y == v) = true := by simpa using heq
          clear heq
          go_wp2_with (at_builtin; refine wp_appZ rfl (.tmp 27) (.tmp 31) rfl rfl HM.out (OE.out.grew ((Below.refl _ _).alloc (Nat.le_refl _) _) (Nat.le_refl _)) (by have := BE.out.size; simp at this ⊢; omega) rfl (cell_litN (by simp)) HX.out (by have := LK.out; omega) ?_; intro A3 c3 w3 o3 d3; have O3 := Lib.hid o3; have D3 := Lib.hid (grownZ_below (OE.out.grew ((Below.refl _ _).alloc (Nat.le_refl _) _) (Nat.le_refl _)) (by have := BE.out.size; simp at this ⊢; omega) d3); clear o3 d3)
          go_roundw
          case rel => exact ⟨k + 1, _, A3, c3, by omega, by go_num, rfl, Lib.hid (by rw [E1.out]; simp), Lib.hid (by rw [E1.out]; exact O3.out), Lib.hid ((BE.out.alloc BE.out.size _).trans D3.out)⟩
          case measure => simp [intOf]; omega
        · have hd : (y == v) = false := by simpa using heq
          have E1 : Hid (Gr.aheadSel (es.take (k + 1)) v = Gr.aheadSel (es.take k) v) := Lib.hid (by rw [ST.out, hd]; simp)
          clear heq
          go_wp2
          go_roundw
          case rel => exact ⟨k + 1, m, A', cap', by omega, by go_num, rfl, Lib.hid (by rw [E1.out]; exact HM.out), Lib.hid (by rw [E1.out]; exact OE.out), BE⟩
          case measure => simp [intOf]; omega
      · obtain rfl : k = l := by omega
        have O1 : Hid (OwnZ wr w.heap.size A' cap' (Gr.aheadSel es v)) := Lib.hid (by have := HO.out; rw [HN.out, List.take_length] at this; exact this)
        have M1 : Hid (m = (Gr.aheadSel es v).length) := Lib.hid (by have := HM.out; rw [HN.out, List.take_length] at this; exact this)
        have SO : Hid (Calls Try.prog 45 #[.slice A' m cap'] wr (SortZPost wr w.heap.size A' cap' (Gr.aheadSel es v))) := Lib.hid (by
          rw [M1.out]
          exact sortZ_any A' cap' _ w.heap.size wr O1.out HB.out.size (by have := LS.out k; rw [HN.out, List.take_length] at this; omega))
        have ML : Hid (m = (Gr.aheadI n es v).length) := Lib.hid (by rw [M1.out, ← E.out, sortedZ_len])
        clear HO HM
        go_wp2_with fail
        (with_reducible refine SO.out.mono ?_); rintro e w3 ⟨rfl, o3, b3⟩
        have O3 : Hid (OwnZ w3 w.heap.size A' cap' (Gr.aheadI n es v)) := Lib.hid (by have := o3.out; rwa [E.out] at this)
        clear o3
        go_wp2
        go_ret
        exact ⟨A', cap', by rw [← ML.out]; rfl, O3, Lib.hid (HB.out.trans b3.out)⟩

def Gr.behindSel (es : Gr.EI) (v : Int) : List Int := (es.filter fun e => e.1 == v).map fun e => e.2
theorem Gr.behind_step {es : Gr.EI} {k : Nat} {x y v : Int} (hk : k < es.length) (he : es.getD k (0, 0) = (x, y)) : Gr.behindSel (es.take (k + 1)) v = Gr.behindSel (es.take k) v ++ (if x == v then [y] else []) := by
  unfold Gr.behindSel
  rw [Gr.take_next hk he, List.filter_append, List.map_append]
  congr 1
  cases h : (x == v) <;> simp [h]
theorem Gr.behindSel_len (es : Gr.EI) (v : Int) : (Gr.behindSel es v).length ≤ es.length := by
  unfold Gr.behindSel
  rw [List.length_map]
  exact List.length_filter_le _ _
theorem Gr.behind_sorted {n : Int} {es : Gr.EI} (h : Gr.Good n es) (v : Int) : sortedZ (Gr.behindSel es v) = Gr.behindI n es v := by
  unfold Gr.behindI
  rw [if_pos (Gr.goodV_iff.2 h)]
  have hn : (Gr.behindSel es v).Nodup := Gr.nodup_sel h.once _ _ fun a b ha hb e => by
    have h1 : a.1 = v := by simpa using ha
    have h2 : b.1 = v := by simpa using hb
    exact Prod.ext (h1.trans h2.symm) e
  refine Gr.sorted_range (sortedZ_pair _) ((sortedZ_perm _).nodup_iff.2 hn) fun x => ?_
  rw [(sortedZ_perm _).mem_iff]
  unfold Gr.behindSel
  rw [List.mem_map]
  constructor
  · rintro ⟨e, he, rfl⟩
    obtain ⟨h1, h2⟩ := List.mem_filter.1 he
    have h3 : e.1 = v := by simpa using h2
    have h4 := h.edge e h1
    refine ⟨e.2.toNat, by omega, by omega, ?_⟩
    rw [List.contains_iff_mem, ← h3, Int.toNat_of_nonneg (by omega)]
    exact h1
  · rintro ⟨b, hb, rfl, h2⟩
    exact ⟨(v, (b : Int)), List.mem_filter.2 ⟨List.contains_iff_mem.1 h2, by simp⟩, rfl⟩
set_option maxHeartbeats 4000000 in
theorem across_behind (n : Int) (A : Option Addr) (es : Gr.EI) (cap : Nat) (v : Int) (hl : es.length ≤ 9223372036854775807) (w : World) (h : Edg w w.heap.size A es) :
    Calls Try.prog 40 #[.agg #[.int .i64 n, .slice A es.length cap], .int .i64 v, .int .i64 0, .int .i64 1] w (ListG w (Gr.behindI n es v)) := by
  have H := Lib.hid h
  have GD : Hid (∀ W, Below w.heap.size w W → Calls Try.prog 21 #[.agg #[.int .i64 n, .slice A es.length cap]] W (BoolG W (Gr.goodV n es))) := Lib.hid fun W hW => good_any n A es cap (by omega) W (h.on hW)
  obtain ⟨l, hlen⟩ : ∃ l, l = es.length := ⟨_, rfl⟩
  have HN := Lib.hid hlen
  rw [← hlen] at GD hl ⊢
  clear h hlen
  obtain ⟨W1, hW1⟩ : ∃ W1, W1 = w.alloc (.cells #[.int .i64 n, .slice A l cap] 27) := ⟨_, rfl⟩
  have P1 : Hid (W1.heap[w.heap.size]? = some (.cells #[.int .i64 n, .slice A l cap] 27 (0, 0))) := Lib.hid (by rw [hW1]; exact heap_alloc_new ..)
  have B1 : Hid (Below w.heap.size w W1) := Lib.hid (by rw [hW1]; exact (Below.refl _ _).alloc (Nat.le_refl _) _)
  cases hg : Gr.goodV n es with
  | false =>
    rw [hg] at GD
    have E : Hid (Gr.behindI n es v = []) := Lib.hid (by unfold Gr.behindI; rw [hg]; rfl)
    clear hg
    go_enter Try.func40, Try.ntmps40
    go_wp2_with fail
    rw [← hW1]
    clear hW1
    obtain ⟨⟨x0, x1⟩, -⟩ := obG P1.out
    go_wp2_with fail
    (with_reducible refine (GD.out _ B1.out).mono ?_); rintro e w2 ⟨rfl, b2⟩
    go_wp2
    go_ret
    rw [E.out]
    exact ⟨none, 0, rfl, Lib.hid (OwnZ.none_ _ _), Lib.hid (B1.out.trans (b2.out.mono B1.out.size))⟩
  | true =>
    rw [hg] at GD
    replace hl : l ≤ 100000 := by have h1 := Gr.Good.len (Gr.goodV_iff.1 hg); have h2 := HN.out; omega
    have E : Hid (sortedZ (Gr.behindSel es v) = Gr.behindI n es v) := Lib.hid (Gr.behind_sorted (Gr.goodV_iff.1 hg) v)
    have LS : Hid (∀ k, (Gr.behindSel (es.take k) v).length ≤ 100000) := Lib.hid fun k => by
      have h1 := Gr.behindSel_len (es.take k) v
      have h2 : (es.take k).length ≤ es.length := by rw [List.length_take]; omega
      have := HN.out
      omega
    clear hg
    go_enter Try.func40, Try.ntmps40
    go_wp2_with fail
    rw [← hW1]
    clear hW1
    obtain ⟨⟨x0, x1⟩, -⟩ := obG P1.out
    go_wp2_with fail
    (with_reducible refine (GD.out _ B1.out).mono ?_); rintro e w2 ⟨rfl, b2⟩
    have P2 : Hid (w2.heap[w.heap.size]? = some (.cells #[.int .i64 n, .slice A l cap] 27 (0, 0))) := Lib.hid ((b2.out.block _ (lt_of_block P1.out)).trans P1.out)
    have B2 : Hid (Below w.heap.size w w2) := Lib.hid (B1.out.trans (b2.out.mono B1.out.size))
    clear b2
    obtain ⟨⟨y0, y1⟩, -⟩ := obG P2.out
    go_wp2_with fail
    go_loopw [9, 18] (fun lv iv wr => ∃ (k m : Nat) (A' : Option Addr) (cap' : Nat), k ≤ l ∧ iv = .int .i64 k ∧ lv = .slice A' m cap' ∧ Hid (m = (Gr.behindSel (es.take k) v).length) ∧ Hid (OwnZ wr w.heap.size A' cap' (Gr.behindSel (es.take k) v)) ∧ Hid (Below w.heap.size w wr)) (fun _ iv _ => l - (intOf iv).toNat)
    case atStart => exact ⟨0, 0, none, 0, Nat.zero_le _, rfl, rfl, Lib.hid rfl, Lib.hid (OwnZ.none_ _ _), B2⟩
    case round =>
      obtain ⟨k, m, A', cap', hk, rfl, rfl, HM, HO, HB⟩ := hrel
      by_cases hlt : k < l
      · have hlt' : (k : Int) < (l : Int) := by omega
        obtain ⟨b, off, x, y, rfl, hb, hc0, hc1, he, hx, hy⟩ := (H.out.below HB.out).at_ (k := k) (by rw [← HN.out]; exact hlt)
        have ST := Lib.hid (Gr.behind_step (v := v) (by rw [← HN.out]; exact hlt) he.out)
        have BE : Hid (Below w.heap.size w (wr.alloc (.cells #[.int .i64 x, .int .i64 y] 24))) := Lib.hid (HB.out.alloc HB.out.size _)
        have OE : Hid (OwnZ (wr.alloc (.cells #[.int .i64 x, .int .i64 y] 24)) w.heap.size A' cap' (Gr.behindSel (es.take k) v)) := Lib.hid (HO.out.grew ((Below.refl _ _).alloc (Nat.le_refl _) _) (Nat.le_refl _))
        have HX := Lib.hid hx
        have HY := Lib.hid hy
        have LK := Lib.hid (LS.out k)
        clear hx hy
        by_cases heq : x = v
        · have E1 : Hid (Gr.behindSel (es.take (k + 1)) v = Gr.behindSel (es.take k) v ++ [y]) := Lib.hid (by rw [ST.out, heq]; simp)
          have hd : (x == v) = true := by simpa using heq
          clear heq
          go_wp2_with (at_builtin; refine wp_appZ rfl (.tmp 27) (.tmp 31) rfl rfl HM.out (OE.out.grew ((Below.refl _ _).alloc (Nat.le_refl _) _) (Nat.le_refl _)) (by have := BE.out.size; simp at this ⊢; omega) rfl (cell_litN (by simp)) HY.out (by have := LK.out; omega) ?_; intro A3 c3 w3 o3 d3; have O3 := Lib.hid o3; have D3 := Lib.hid (grownZ_below (OE.out.grew ((Below.refl _ _).alloc (Nat.le_refl _) _) (Nat.le_refl _)) (by have := BE.out.size; simp at this ⊢; omega) d3); clear o3 d3)
          go_roundw
          case rel => exact ⟨k + 1, _, A3, c3, by omega, by go_num, rfl, Lib.hid (by rw [E1.out]; simp), Lib.hid (by rw [E1.out]; exact O3.out), Lib.hid ((BE.out.alloc BE.out.size _).trans D3.out)⟩
          case measure => simp [intOf]; omega
        · have hd : (x == v) = false := by simpa using heq
          have E1 : Hid (Gr.behindSel (es.take (k + 1)) v = Gr.behindSel (es.take k) v) := Lib.hid (by rw [ST.out, hd]; simp)
          clear heq
          go_wp2
          go_roundw
          case rel => exact ⟨k + 1, m, A', cap', by omega, by go_num, rfl, Lib.hid (by rw [E1.out]; exact HM.out), Lib.hid (by rw [E1.out]; exact OE.out), BE⟩
          case measure => simp [intOf]; omega
      · obtain rfl : k = l := by omega
        have O1 : Hid (OwnZ wr w.heap.size A' cap' (Gr.behindSel es v)) := Lib.hid (by have := HO.out; rw [HN.out, List.take_length] at this; exact this)
        have M1 : Hid (m = (Gr.behindSel es v).length) := Lib.hid (by have := HM.out; rw [HN.out, List.take_length] at this; exact this)
        have SO : Hid (Calls Try.prog 45 #[.slice A' m cap'] wr (SortZPost wr w.heap.size A' cap' (Gr.behindSel es v))) := Lib.hid (by
          rw [M1.out]
          exact sortZ_any A' cap' _ w.heap.size wr O1.out HB.out.size (by have := LS.out k; rw [HN.out, List.take_length] at this; omega))
        have ML : Hid (m = (Gr.behindI n es v).length) := Lib.hid (by rw [M1.out, ← E.out, sortedZ_len])
        clear HO HM
        go_wp2_with fail
        (with_reducible refine SO.out.mono ?_); rintro e w3 ⟨rfl, o3, b3⟩
        have O3 : Hid (OwnZ w3 w.heap.size A' cap' (Gr.behindI n es v)) := Lib.hid (by have := o3.out; rwa [E.out] at this)
        clear o3
        go_wp2
        go_ret
        exact ⟨A', cap', by rw [← ML.out]; rfl, O3, Lib.hid (HB.out.trans b3.out)⟩

set_option maxHeartbeats 1000000 in
theorem ahead_any (n : Int) (A : Option Addr) (es : Gr.EI) (cap : Nat) (v : Int) (hl : es.length ≤ 9223372036854775807) (w : World) (h : Edg w w.heap.size A es) :
    Calls Try.prog 23 #[.agg #[.int .i64 n, .slice A es.length cap], .int .i64 v] w (ListG w (Gr.aheadI n es v)) := by
  have AC : Hid (∀ W, Below w.heap.size w W → Calls Try.prog 40 #[.agg #[.int .i64 n, .slice A es.length cap], .int .i64 v, .int .i64 1, .int .i64 0] W (ListG W (Gr.aheadI n es v))) := Lib.hid fun W hW => across_ahead n A es cap v hl W (h.on hW)
  generalize es.length = l at *
  clear h
  obtain ⟨W1, hW1⟩ : ∃ W1, W1 = w.alloc (.cells #[.int .i64 n, .slice A l cap] 27) := ⟨_, rfl⟩
  have P1 : Hid (W1.heap[w.heap.size]? = some (.cells #[.int .i64 n, .slice A l cap] 27 (0, 0))) := Lib.hid (by rw [hW1]; exact heap_alloc_new ..)
  have B1 : Hid (Below w.heap.size w W1) := Lib.hid (by rw [hW1]; exact (Below.refl _ _).alloc (Nat.le_refl _) _)
  go_enter Try.func23, Try.ntmps23
  go_wp2_with fail
  rw [← hW1]
  clear hW1
  obtain ⟨⟨x0, x1⟩, -⟩ := obG P1.out
  go_wp2_with fail
  (with_reducible refine (AC.out _ B1.out).mono ?_); rintro e w2 ⟨A2, c2, rfl, o2, b2⟩
  go_wp2
  go_ret
  exact ⟨A2, c2, rfl, Lib.hid (o2.out.low B1.out.size), Lib.hid (B1.out.trans (b2.out.mono B1.out.size))⟩

set_option maxHeartbeats 1000000 in
theorem behind_any (n : Int) (A : Option Addr) (es : Gr.EI) (cap : Nat) (v : Int) (hl : es.length ≤ 9223372036854775807) (w : World) (h : Edg w w.heap.size A es) :
    Calls Try.prog 24 #[.agg #[.int .i64 n, .slice A es.length cap], .int .i64 v] w (ListG w (Gr.behindI n es v)) := by
  have AC : Hid (∀ W, Below w.heap.size w W → Calls Try.prog 40 #[.agg #[.int .i64 n, .slice A es.length cap], .int .i64 v, .int .i64 0, .int .i64 1] W (ListG W (Gr.behindI n es v))) := Lib.hid fun W hW => across_behind n A es cap v hl W (h.on hW)
  generalize es.length = l at *
  clear h
  obtain ⟨W1, hW1⟩ : ∃ W1, W1 = w.alloc (.cells #[.int .i64 n, .slice A l cap] 27) := ⟨_, rfl⟩
  have P1 : Hid (W1.heap[w.heap.size]? = some (.cells #[.int .i64 n, .slice A l cap] 27 (0, 0))) := Lib.hid (by rw [hW1]; exact heap_alloc_new ..)
  have B1 : Hid (Below w.heap.size w W1) := Lib.hid (by rw [hW1]; exact (Below.refl _ _).alloc (Nat.le_refl _) _)
  go_enter Try.func24, Try.ntmps24
  go_wp2_with fail
  rw [← hW1]
  clear hW1
  obtain ⟨⟨x0, x1⟩, -⟩ := obG P1.out
  go_wp2_with fail
  (with_reducible refine (AC.out _ B1.out).mono ?_); rintro e w2 ⟨A2, c2, rfl, o2, b2⟩
  go_wp2
  go_ret
  exact ⟨A2, c2, rfl, Lib.hid (o2.out.low B1.out.size), Lib.hid (B1.out.trans (b2.out.mono B1.out.size))⟩
end Go.Proofs.Ytgeefkfolejbnaa
