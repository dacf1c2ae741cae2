/-
  The reference: GoodGraph and has at every graph.
-/
import Derived.Test.YtgeefkfolejbnaaGrGood
import Derived.Test.YtgeefkfolejbnaaArrEq
namespace Go.Proofs.Ytgeefkfolejbnaa
open Go.RowKit
theorem Gr.twice_at {n : Int} {es : Gr.EI} {i k : Nat} {e : Int × Int} (hi : i < es.length) (hk : k < i) (h1 : es.getD i (0, 0) = e) (h2 : es.getD k (0, 0) = e) : Gr.goodV n es = false := by
  refine Gr.bad_at (x := e.1) (y := e.2) hi h1 (.inl ?_)
  rw [List.contains_iff_mem]
  rw [List.getD_eq_getElem?_getD, List.getElem?_eq_getElem (by omega)] at h2
  have h3 : es[k]'(by omega) ∈ es.take i := by
    have := List.getElem_mem (l := es.take i) (n := k) (by rw [List.length_take]; omega)
    rwa [List.getElem_take] at this
  have h4 : es[k]'(by omega) = e := h2
  rw [h4] at h3; exact h3
theorem Gr.not_seen {es : Gr.EI} {i : Nat} {e : Int × Int} (hi : i < es.length) (h : ∀ k, k < i → es.getD k (0, 0) ≠ e) : (es.take i).contains e = false := by
  cases hc : (es.take i).contains e with
  | false => rfl
  | true =>
    have hm := List.contains_iff_mem.1 hc
    obtain ⟨k, hk, e1⟩ := List.getElem_of_mem hm
    rw [List.length_take] at hk
    rw [List.getElem_take] at e1
    exact absurd (by rw [List.getD_eq_getElem?_getD, List.getElem?_eq_getElem (by omega)]; exact e1) (h k (by omega))
set_option maxHeartbeats 8000000 in
theorem refGood_any (n : Int) (A : Option Addr) (es : Gr.EI) (cap : Nat) (hl : es.length ≤ 1000000) (w : World) (h : Edg w w.heap.size A es) :
    Calls Try.prog 32 #[.agg #[.int .i64 n, .slice A es.length cap]] w (BoolG w (Gr.goodV n es)) := by
  have H := Lib.hid h
  obtain ⟨l, hlen⟩ : ∃ l, l = es.length := ⟨_, rfl⟩
  have HN := Lib.hid hlen
  rw [← hlen] at hl ⊢
  clear h hlen
  have B1 : Hid (Below w.heap.size w (w.alloc (.cells #[.int .i64 n, .slice A l cap] 39))) := Lib.hid ((Below.refl _ _).alloc (Nat.le_refl _) _)
  by_cases h0 : n < 0
  · have G0 : Hid (Gr.goodV n es = false) := Lib.hid (Gr.goodV_no fun g => by have := g.n0; omega)
    go_enter Try.func32, Try.ntmps32
    go_wp2
    go_ret
    exact ⟨ret_bool G0.out.symm, B1⟩
  by_cases h16 : 16 < n
  · have G0 : Hid (Gr.goodV n es = false) := Lib.hid (Gr.goodV_no fun g => by have := g.n16; omega)
    have h0' : 0 ≤ n := by omega
    clear h0
    go_enter Try.func32, Try.ntmps32
    go_wp2
    go_ret
    exact ⟨ret_bool G0.out.symm, B1⟩
  have h0' : 0 ≤ n := by omega
  have h16' : n ≤ 16 := by omega
  clear h0 h16
  obtain ⟨W1, hW1⟩ : ∃ W1, W1 = w.alloc (.cells #[.int .i64 n, .slice A l cap] 39) := ⟨_, rfl⟩
  have P1 : Hid (W1.heap[w.heap.size]? = some (.cells #[.int .i64 n, .slice A l cap] 39 (0, 0))) := Lib.hid (by rw [hW1]; exact heap_alloc_new ..)
  rw [← hW1] at B1
  go_enter Try.func32, Try.ntmps32
  go_wp2_with fail
  rw [← hW1]
  clear hW1
  obtain ⟨⟨x0, x1⟩, -⟩ := obG P1.out
  go_wp2_with fail
  go_loopw [3] (fun iv wr => ∃ i : Nat, i ≤ l ∧ iv = .int .i64 i ∧ Hid (Gr.First n es i) ∧ Hid (wr.heap[w.heap.size]? = some (.cells #[.int .i64 n, .slice A l cap] 39 (0, 0))) ∧ Hid (Below w.heap.size w wr)) (fun iv _ => l - (intOf iv).toNat)
  case atStart => exact ⟨0, Nat.zero_le _, rfl, Lib.hid ⟨by simp, by simp⟩, P1, B1⟩
  case round =>
    clear P1 B1 x0 x1
    obtain ⟨i, hi, rfl, HG, HP, HB⟩ := hrel
    obtain ⟨⟨x0, x1⟩, -⟩ := obG HP.out
    by_cases hlt : i < l
    · have hlt' : (i : Int) < (l : Int) := by omega
      obtain ⟨b, off, x, y, rfl, hb, hc0, hc1, he, hx, hy⟩ := (H.out.below HB.out).at_ (k := i) (by rw [← HN.out]; exact hlt)
      have HI := Lib.hid (show i < es.length by rw [← HN.out]; exact hlt)
      have IX := Lib.hid hx
      have IY := Lib.hid hy
      clear hx hy
      by_cases c1 : x < 0
      · have G0 : Hid (Gr.goodV n es = false) := Lib.hid (Gr.bad_at HI.out he.out (.inr (.inr (.inl (by omega)))))
        go_wp2_with fail
        go_quiet (fail)
        go_wp2
        go_ret
        exact ⟨ret_bool G0.out.symm, Lib.hid (below_n HB.out _)⟩
      by_cases c2 : n ≤ x
      · have G0 : Hid (Gr.goodV n es = false) := Lib.hid (Gr.bad_at HI.out he.out (.inr (.inr (.inl (by omega)))))
        have c1' : 0 ≤ x := by omega
        clear c1
        go_wp2_with fail
        go_quiet (fail)
        go_wp2
        go_ret
        exact ⟨ret_bool G0.out.symm, Lib.hid (below_n HB.out _)⟩
      by_cases c3 : y < 0
      · have G0 : Hid (Gr.goodV n es = false) := Lib.hid (Gr.bad_at HI.out he.out (.inr (.inr (.inr (by omega)))))
        have c1' : 0 ≤ x := by omega
        have c2' : x < n := by omega
        clear c1 c2
        go_wp2_with fail
        go_quiet (fail)
        go_wp2
        go_ret
        exact ⟨ret_bool G0.out.symm, Lib.hid (below_n HB.out _)⟩
      by_cases c4 : n ≤ y
      · have G0 : Hid (Gr.goodV n es = false) := Lib.hid (Gr.bad_at HI.out he.out (.inr (.inr (.inr (by omega)))))
        have c1' : 0 ≤ x := by omega
        have c2' : x < n := by omega
        have c3' : 0 ≤ y := by omega
        clear c1 c2 c3
        go_wp2_with fail
        go_quiet (fail)
        go_wp2
        go_ret
        exact ⟨ret_bool G0.out.symm, Lib.hid (below_n HB.out _)⟩
      have c1' : 0 ≤ x := by omega
      have c2' : x < n := by omega
      have c3' : 0 ≤ y := by omega
      have c4' : y < n := by omega
      clear c1 c2 c3 c4
      by_cases c5 : x = y
      · have G0 : Hid (Gr.goodV n es = false) := Lib.hid (Gr.bad_at HI.out he.out (.inr (.inl c5)))
        have hd : (x == y) = true := by simpa using c5
        clear c5
        go_wp2_with fail
        go_quiet (fail)
        go_wp2
        go_ret
        exact ⟨ret_bool G0.out.symm, Lib.hid (below_n HB.out _)⟩
      have hd : (x == y) = false := by simpa using c5
      have C5 := Lib.hid c5
      have CX := Lib.hid (And.intro c1' c2')
      have CY := Lib.hid (And.intro c3' c4')
      clear c5
      go_wp2_with fail
      go_quiet (fail)
      go_wp2_with fail
      clear hc0 hc1 x0 x1
      go_loopw [6] (fun kv wk => ∃ k : Nat, k ≤ i ∧ kv = .int .i64 k ∧ Hid (∀ j, j < k → es.getD j (0, 0) ≠ (x, y)) ∧ Hid (wk.heap[w.heap.size]? = some (.cells #[.int .i64 n, .slice (some ⟨b, off, none⟩) l cap] 39 (0, 0))) ∧ Hid (Below w.heap.size w wk)) (fun kv _ => i - (intOf kv).toNat)
      case atStart => exact ⟨0, Nat.zero_le _, rfl, Lib.hid (fun j hj => by omega), HP, Lib.hid (below_n HB.out _)⟩
      case round =>
        clear HP HB
        obtain ⟨k, hk, rfl, HK, HP, HB⟩ := hrel
        obtain ⟨⟨x0, x1⟩, -⟩ := obG HP.out
        by_cases hki : k < i
        · have hki' : (k : Int) < (i : Int) := by omega
          have hkl : k < l := by omega
          have hkl' : (k : Int) < (l : Int) := by omega
          obtain ⟨b1, off1, u, v, he1, hb1, hd0, hd1, hf, hu, hv⟩ := (H.out.below HB.out).at_ (k := k) (by rw [← HN.out]; exact hkl)
          injection he1 with he1
          injection he1 with he1 he2
          subst he1 he2
          obtain ⟨b1, off1, x', y', he1, hb2, hc0, hc1, he', _, _⟩ := (H.out.below HB.out).at_ (k := i) (by rw [← HN.out]; exact hlt)
          injection he1 with he1
          injection he1 with he1 he2
          subst he1 he2
          have hxy : (x', y') = (x, y) := he'.out.symm.trans he.out
          injection hxy with hxx hyy
          subst hxx hyy
          have hEq := arr_eql u v x' y' hu hv IX.out IY.out
          have hgd := arr_guard
          by_cases hsame : u = x' ∧ v = y'
          · obtain ⟨rfl, rfl⟩ := hsame
            have G0 : Hid (Gr.goodV n es = false) := Lib.hid (Gr.twice_at HI.out hki he.out hf.out)
            have hEq2 : ∀ W, (binOp .eql 23 (.agg #[.int .i64 u, .int .i64 v]) (.agg #[.int .i64 u, .int .i64 v])).run Try.prog W = .ok (.bool true) W := fun W => by rw [hEq W]; simp
            clear hEq hu hv
            go_wp2_with fail
            go_quiet (fail)
            go_wp2
            go_ret
            exact ⟨ret_bool G0.out.symm, Lib.hid (below_n HB.out _)⟩
          · have hEq2 : ∀ W, (binOp .eql 23 (.agg #[.int .i64 u, .int .i64 v]) (.agg #[.int .i64 x', .int .i64 y'])).run Try.prog W = .ok (.bool false) W := fun W => by
              rw [hEq W]
              have : ((u == x') && (v == y')) = false := by
                cases hc : ((u == x') && (v == y')) with
                | false => rfl
                | true => simp at hc; exact absurd hc hsame
              rw [this]
            have HK' : Hid (∀ j, j < k + 1 → es.getD j (0, 0) ≠ (x', y')) := Lib.hid fun j hj => by
              rcases Nat.lt_or_ge j k with h | h
              · exact HK.out j h
              · obtain rfl : j = k := by omega
                rw [hf.out]
                intro e
                injection e with e1 e2
                exact hsame ⟨e1, e2⟩
            clear hEq hu hv hsame
            go_wp2_with fail
            go_quiet (fail)
            go_wp2
            go_roundw
            case rel => exact ⟨k + 1, by omega, by go_num, HK', HP, Lib.hid (below_n HB.out _)⟩
            case measure => simp [intOf]; omega
        · obtain rfl : k = i := by omega
          have HG' : Hid (Gr.First n es (k + 1)) := Lib.hid (HG.out.next HI.out he.out (Gr.not_seen HI.out HK.out) C5.out CX.out CY.out)
          go_wp2
          go_roundw
          case rel => exact ⟨k + 1, by omega, by go_num, HG', HP, HB⟩
          case measure => simp [intOf]; omega
    · obtain rfl : i = l := by omega
      have G0 : Hid (Gr.goodV n es = true) := Lib.hid (Gr.first_all h0' h16' (by have := HG.out; rwa [HN.out] at this))
      go_wp2
      go_ret
      exact ⟨ret_bool G0.out.symm, HB⟩
end Go.Proofs.Ytgeefkfolejbnaa
