/-
  Package graph: isNode and Good at every graph.
-/
import Derived.Test.YtgeefkfolejbnaaGrMap
import Derived.Test.YtgeefkfolejbnaaGrVals
import Derived.Deep.QuietTactic
import Derived.BigQuiet
namespace Go.Proofs.Ytgeefkfolejbnaa
open Go.RowKit
set_option maxHeartbeats 400000 in
theorem isNode_any (n : Int) (A : Option Addr) (l cap : Nat) (v : Int) (w : World) :
    Calls Try.prog 36 #[.agg #[.int .i64 n, .slice A l cap], .int .i64 v] w (BoolG w (decide (0 ≤ v) && decide (v < n))) := by
  have B1 : Hid (Below w.heap.size w (w.alloc (.cells #[.int .i64 n, .slice A l cap] 27))) := Lib.hid ((Below.refl _ _).alloc (Nat.le_refl _) _)
  by_cases h0 : 0 ≤ v
  · by_cases h1 : v < n
    · rw [decide_eq_true h0, decide_eq_true h1]
      go_enter Try.func36, Try.ntmps36
      go_wp2
      go_ret
      exact ⟨rfl, B1⟩
    · rw [decide_eq_true h0, decide_eq_false h1]
      go_enter Try.func36, Try.ntmps36
      go_wp2
      go_ret
      exact ⟨rfl, B1⟩
  · rw [decide_eq_false h0]
    go_enter Try.func36, Try.ntmps36
    go_wp2
    go_ret
    exact ⟨rfl, B1⟩
/-- The first k edges are as they should be. -/
structure Gr.First (n : Int) (es : Gr.EI) (k : Nat) : Prop where
  edge : ∀ e ∈ es.take k, 0 ≤ e.1 ∧ e.1 < n ∧ 0 ≤ e.2 ∧ e.2 < n ∧ e.1 ≠ e.2
  once : (es.take k).Nodup
theorem Gr.take_next {es : Gr.EI} {k : Nat} {e : Int × Int} (hk : k < es.length) (he : es.getD k (0, 0) = e) : es.take (k + 1) = es.take k ++ [e] := by
  rw [List.take_succ_eq_append_getElem hk]
  rw [List.getD_eq_getElem?_getD, List.getElem?_eq_getElem hk] at he
  rw [← he]; rfl
theorem Gr.First.next {n : Int} {es : Gr.EI} {k : Nat} {x y : Int} (h : Gr.First n es k) (hk : k < es.length) (he : es.getD k (0, 0) = (x, y)) (hm : (es.take k).contains (x, y) = false) (hne : x ≠ y) (h1 : 0 ≤ x ∧ x < n) (h2 : 0 ≤ y ∧ y < n) : Gr.First n es (k + 1) := by
  have e := Gr.take_next hk he
  refine ⟨fun f hf => ?_, ?_⟩
  · rw [e] at hf
    rcases List.mem_append.1 hf with hf | hf
    · exact h.edge f hf
    · simp at hf; subst hf; exact ⟨h1.1, h1.2, h2.1, h2.2, hne⟩
  · rw [e]
    have hm' : (x, y) ∉ es.take k := fun hx => by rw [List.contains_iff_mem.2 hx] at hm; cases hm
    exact List.nodup_append.2 ⟨h.once, by simp, fun a ha b hb hab => by simp at hb; subst hb; subst hab; exact hm' ha⟩
theorem Gr.bad_at {n : Int} {es : Gr.EI} {k : Nat} {x y : Int} (hk : k < es.length) (he : es.getD k (0, 0) = (x, y)) (h : (es.take k).contains (x, y) = true ∨ x = y ∨ ¬ (0 ≤ x ∧ x < n) ∨ ¬ (0 ≤ y ∧ y < n)) : Gr.goodV n es = false := by
  refine Gr.goodV_no fun g => ?_
  have hm : (x, y) ∈ es := by
    rw [List.getD_eq_getElem?_getD, List.getElem?_eq_getElem hk] at he
    rw [← he]; exact List.getElem_mem hk
  have hb := g.edge _ hm
  simp only at hb
  rcases h with h | h | h | h
  · have h1 := (List.take_sublist (k + 1) es)
    rw [Gr.take_next hk he] at h1
    have h2 := g.once.sublist h1
    rw [List.nodup_append] at h2
    exact h2.2.2 _ (List.contains_iff_mem.1 h) _ (by simp) rfl
  · exact hb.2.2.2.2 h
  · exact h ⟨hb.1, hb.2.1⟩
  · exact h ⟨hb.2.2.1, hb.2.2.2.1⟩
theorem Gr.first_all {n : Int} {es : Gr.EI} (h0 : 0 ≤ n) (h1 : n ≤ 16) (h : Gr.First n es es.length) : Gr.goodV n es = true := by
  have e : es.take es.length = es := List.take_length
  exact Gr.goodV_iff.2 ⟨h0, h1, fun f hf => h.edge f (by rw [e]; exact hf), by have := h.once; rwa [e] at this⟩
theorem Gr.seen_next {es : Gr.EI} {k : Nat} {x y : Int} (hk : k < es.length) (he : es.getD k (0, 0) = (x, y)) (a b : Int) : (es.take (k + 1)).contains (a, b) = updS (fun a b => (es.take k).contains (a, b)) x y a b := by
  rw [Gr.take_next hk he]
  unfold updS
  rw [Bool.eq_iff_iff, List.contains_iff_mem, List.mem_append]
  by_cases h : a = x ∧ b = y
  · rw [if_pos h]; simp [h.1, h.2]
  · rw [if_neg h, List.contains_iff_mem]
    constructor
    · rintro (h1 | h1)
      · exact h1
      · simp at h1; exact absurd h1 h
    · exact .inl
/-- As many edges as a valid graph can have. -/
theorem Gr.few {n : Int} (hn : n ≤ 16) (l : Gr.EI) (he : ∀ e ∈ l, 0 ≤ e.1 ∧ e.1 < n ∧ 0 ≤ e.2 ∧ e.2 < n) (ho : l.Nodup) : l.length ≤ 256 := by
  have h := Gr.nodup_low 256 (l.map fun e => (e.1 * 16 + e.2).toNat) (fun x hx => by
    obtain ⟨e, h1, rfl⟩ := List.mem_map.1 hx
    have := he e h1
    omega) (by
    unfold List.Nodup
    rw [List.pairwise_map]
    refine ho.imp_of_mem fun {a b} ha hb hab => ?_
    have h1 := he a ha
    have h2 := he b hb
    intro hx
    refine hab (Prod.ext ?_ ?_) <;> omega)
  rwa [List.length_map] at h
theorem Gr.First.len {n : Int} {es : Gr.EI} {k : Nat} (h : Gr.First n es k) (hn : n ≤ 16) (hk : k ≤ es.length) : k ≤ 256 := by
  have := Gr.few hn (es.take k) (fun e he => by have := h.edge e he; omega) h.once
  rw [List.length_take] at this
  omega
theorem Gr.Good.len {n : Int} {es : Gr.EI} (h : Gr.Good n es) : es.length ≤ 256 := Gr.few h.n16 es (fun e he => by have := h.edge e he; omega) h.once
set_option maxHeartbeats 4000000 in
theorem good_any (n : Int) (A : Option Addr) (es : Gr.EI) (cap : Nat) (hl : es.length ≤ 9223372036854775807) (w : World) (h : Edg w w.heap.size A es) :
    Calls Try.prog 21 #[.agg #[.int .i64 n, .slice A es.length cap]] w (BoolG w (Gr.goodV n es)) := by
  have H := Lib.hid h
  have HL := Lib.hid hl
  have IN : Hid (∀ (v : Int) W, Calls Try.prog 36 #[.agg #[.int .i64 n, .slice A es.length cap], .int .i64 v] W (BoolG W (decide (0 ≤ v) && decide (v < n)))) := Lib.hid fun v W => isNode_any n A es.length cap v W
  obtain ⟨l, hlen⟩ : ∃ l, l = es.length := ⟨_, rfl⟩
  have HN := Lib.hid hlen
  rw [← hlen] at IN hl ⊢
  clear h hlen
  have B1 : Hid (Below w.heap.size w (w.alloc (.cells #[.int .i64 n, .slice A l cap] 27))) := Lib.hid ((Below.refl _ _).alloc (Nat.le_refl _) _)
  by_cases h0 : n < 0
  · have G0 : Hid (Gr.goodV n es = false) := Lib.hid (Gr.goodV_no fun g => by have := g.n0; omega)
    go_enter Try.func21, Try.ntmps21
    go_wp2
    go_ret
    exact ⟨ret_bool G0.out.symm, B1⟩
  by_cases h16 : 16 < n
  · have G0 : Hid (Gr.goodV n es = false) := Lib.hid (Gr.goodV_no fun g => by have := g.n16; omega)
    have h0' : 0 ≤ n := by omega
    clear h0
    go_enter Try.func21, Try.ntmps21
    go_wp2
    go_ret
    exact ⟨ret_bool G0.out.symm, B1⟩
  have h0' : 0 ≤ n := by omega
  have h16' : n ≤ 16 := by omega
  clear h0 h16
  have hmm := @run_makeMap Try.prog
  obtain ⟨W1, hW1⟩ : ∃ W1, W1 = (w.alloc (.cells #[.int .i64 n, .slice A l cap] 27)).alloc (.map #[] 0) := ⟨_, rfl⟩
  have Z1 : Hid (W1.heap.size = w.heap.size + 1 + 1) := Lib.hid (by rw [hW1]; simp)
  have P1 : Hid (W1.heap[w.heap.size]? = some (.cells #[.int .i64 n, .slice A l cap] 27 (0, 0))) := Lib.hid (by rw [hW1, Below.heap_alloc _ _ _ (by simp)]; exact heap_alloc_new ..)
  have M1 : Hid (SMap W1 (w.heap.size + 1) 0 fun _ _ => false) := Lib.hid (by
    rw [hW1]
    have := SMap.made (w.alloc (.cells #[.int .i64 n, .slice A l cap] 27))
    rw [World.size_alloc] at this
    exact this)
  have B2 : Hid (Below w.heap.size w W1) := Lib.hid (by rw [hW1]; exact B1.out.alloc (by simp) _)
  clear B1
  go_enter Try.func21, Try.ntmps21
  go_wp2_with fail
  rw [← hW1]
  clear hW1 hmm
  go_loopw [20] (fun iv wr => ∃ k : Nat, k ≤ l ∧ iv = .int .i64 k ∧ Hid (Gr.First n es k) ∧ Hid (SMap wr (w.heap.size + 1) k fun a b => (es.take k).contains (a, b)) ∧ Hid (wr.heap[w.heap.size]? = some (.cells #[.int .i64 n, .slice A l cap] 27 (0, 0))) ∧ Hid (Below w.heap.size w wr)) (fun iv _ => l - (intOf iv).toNat)
  case atStart => exact ⟨0, Nat.zero_le _, rfl, Lib.hid ⟨by simp, by simp⟩, Lib.hid (M1.out.congr fun a b => by simp), P1, B2⟩
  case round =>
    obtain ⟨k, hk, rfl, HG, HM, HP, HB⟩ := hrel
    have hk256 : k ≤ 256 := HG.out.len h16' (by rw [← HN.out]; exact hk)
    by_cases hlt : k < l
    · have hlt' : (k : Int) < (l : Int) := by omega
      obtain ⟨b, off, x, y, rfl, hb, hc0, hc1, he, ⟨hx0, hx1⟩, hy0, hy1⟩ := (H.out.below HB.out).at_ (k := k) (by rw [← HN.out]; exact hlt)
      obtain ⟨⟨x0, x1⟩, -⟩ := obG HP.out
      have hz : w.heap.size < wr.heap.size := lt_of_block HP.out
      have HK := Lib.hid (show k < es.length by rw [← HN.out]; exact hlt)
      have ME : SMap (wr.alloc (.cells #[.int .i64 x, .int .i64 y] 24)) (w.heap.size + 1) k fun a b => (es.take k).contains (a, b) := HM.out.grew ((Below.refl _ _).alloc (Nat.le_refl _) _)
      have hlk := ME.look2 x y ⟨hx0, hx1⟩ ⟨hy0, hy1⟩
      clear ME
      have BE : Hid (Below w.heap.size w ((wr.alloc (.cells #[.int .i64 x, .int .i64 y] 24)).alloc (.cells #[] 64))) := Lib.hid ((HB.out.alloc HB.out.size _).alloc (by have := HB.out.size; simp; omega) _)
      cases hseen : (es.take k).contains (x, y) with
      | true =>
        rw [hseen] at hlk
        have G0 : Hid (Gr.goodV n es = false) := Lib.hid (Gr.bad_at HK.out he.out (.inl hseen))
        clear hseen
        go_wp2
        go_ret
        exact ⟨ret_bool G0.out.symm, BE⟩
      | false =>
        rw [hseen] at hlk
        have HS := Lib.hid hseen
        clear hseen
        by_cases hxy : x = y
        · have G0 : Hid (Gr.goodV n es = false) := Lib.hid (Gr.bad_at HK.out he.out (.inr (.inl hxy)))
          have hd : (x == y) = true := by simpa using hxy
          clear hxy
          go_wp2
          go_ret
          exact ⟨ret_bool G0.out.symm, BE⟩
        · have hd : (x == y) = false := by simpa using hxy
          have XY := Lib.hid hxy
          clear hxy
          obtain ⟨W2, hW2⟩ : ∃ W2, W2 = (wr.alloc (.cells #[.int .i64 x, .int .i64 y] 24)).alloc (.cells #[] 64) := ⟨_, rfl⟩
          have E2 : Hid (W2.heap[wr.heap.size]? = some (.cells #[.int .i64 x, .int .i64 y] 24 (0, 0))) := Lib.hid (by rw [hW2, Below.heap_alloc _ _ _ (by simp)]; exact heap_alloc_new ..)
          have BW2 : Hid (Below wr.heap.size wr W2) := Lib.hid (by rw [hW2]; exact ((Below.refl _ _).alloc (Nat.le_refl _) _).alloc (by simp) _)
          rw [← hW2] at BE
          have P2 : Hid (W2.heap[w.heap.size]? = some (.cells #[.int .i64 n, .slice (some ⟨b, off, none⟩) l cap] 27 (0, 0))) := Lib.hid ((BW2.out.block _ hz).trans HP.out)
          have M2 : Hid (SMap W2 (w.heap.size + 1) k fun a b => (es.take k).contains (a, b)) := Lib.hid (HM.out.grew BW2.out)
          by_cases hnx : 0 ≤ x ∧ x < n
          · have INx : Hid (∀ W, Calls Try.prog 36 #[.agg #[.int .i64 n, .slice (some ⟨b, off, none⟩) l cap], .int .i64 x] W (BoolG W true)) := Lib.hid fun W => by have := IN.out x W; rwa [decide_eq_true hnx.1, decide_eq_true hnx.2] at this
            have NX := Lib.hid hnx
            clear hnx
            by_cases hny : 0 ≤ y ∧ y < n
            · have INy : Hid (∀ W, Calls Try.prog 36 #[.agg #[.int .i64 n, .slice (some ⟨b, off, none⟩) l cap], .int .i64 y] W (BoolG W true)) := Lib.hid fun W => by have := IN.out y W; rwa [decide_eq_true hny.1, decide_eq_true hny.2] at this
              have NY := Lib.hid hny
              clear hny
              go_wp2_with fail
              rw [← hW2]
              clear hW2 hlk
              (with_reducible refine (INx.out _).mono ?_); rintro e w3 ⟨rfl, b3⟩
              have P3 : Hid (w3.heap[w.heap.size]? = some (.cells #[.int .i64 n, .slice (some ⟨b, off, none⟩) l cap] 27 (0, 0))) := Lib.hid ((b3.out.block _ (lt_of_block P2.out)).trans P2.out)
              have E3 : Hid (w3.heap[wr.heap.size]? = some (.cells #[.int .i64 x, .int .i64 y] 24 (0, 0))) := Lib.hid ((b3.out.block _ (lt_of_block E2.out)).trans E2.out)
              have M3 : Hid (SMap w3 (w.heap.size + 1) k fun a b => (es.take k).contains (a, b)) := Lib.hid (M2.out.grew b3.out)
              have B3 : Hid (Below w.heap.size w w3) := Lib.hid (BE.out.trans (b3.out.mono BE.out.size))
              obtain ⟨⟨p0, p1⟩, -⟩ := obG P3.out
              obtain ⟨⟨q0, q1⟩, -⟩ := obG E3.out
              clear b3
              go_wp2_with fail
              (with_reducible refine (INy.out _).mono ?_); rintro e w4 ⟨rfl, b4⟩
              have P4 : Hid (w4.heap[w.heap.size]? = some (.cells #[.int .i64 n, .slice (some ⟨b, off, none⟩) l cap] 27 (0, 0))) := Lib.hid ((b4.out.block _ (lt_of_block P3.out)).trans P3.out)
              have E4 : Hid (w4.heap[wr.heap.size]? = some (.cells #[.int .i64 x, .int .i64 y] 24 (0, 0))) := Lib.hid ((b4.out.block _ (lt_of_block E3.out)).trans E3.out)
              have M4 : Hid (SMap w4 (w.heap.size + 1) k fun a b => (es.take k).contains (a, b)) := Lib.hid (M3.out.grew b4.out)
              have B4 : Hid (Below w.heap.size w w4) := Lib.hid (B3.out.trans (b4.out.mono B3.out.size))
              obtain ⟨⟨r0, r1⟩, -⟩ := obG E4.out
              obtain ⟨w5, hup, m5, t5⟩ := M4.out.store (by omega) x y ⟨hx0, hx1⟩ ⟨hy0, hy1⟩
              have M5 := Lib.hid m5
              have T5 := Lib.hid (turned_frame t5)
              clear b4 m5 t5
              go_wp2
              go_roundw
              case rel =>
                exact ⟨k + 1, by omega, by go_num, Lib.hid (HG.out.next HK.out he.out HS.out XY.out NX.out NY.out), Lib.hid (M5.out.congr (Gr.seen_next HK.out he.out)), Lib.hid ((T5.out.2.2.2.2 _ (by omega)).trans P4.out), Lib.hid (B4.out.trans ⟨T5.out.1, T5.out.2.1, T5.out.2.2.1, by have := T5.out.2.2.2.1; omega, fun i hi => T5.out.2.2.2.2 i (by omega)⟩)⟩
              case measure => simp [intOf]; omega
            · have INy : Hid (∀ W, Calls Try.prog 36 #[.agg #[.int .i64 n, .slice (some ⟨b, off, none⟩) l cap], .int .i64 y] W (BoolG W false)) := Lib.hid fun W => by
                have := IN.out y W
                rcases Classical.not_and_iff_not_or_not.1 hny with h | h
                · rwa [decide_eq_false h, Bool.false_and] at this
                · rwa [decide_eq_false h, Bool.and_false] at this
              have G0 : Hid (Gr.goodV n es = false) := Lib.hid (Gr.bad_at HK.out he.out (.inr (.inr (.inr hny))))
              clear hny
              go_wp2_with fail
              rw [← hW2]
              clear hW2 hlk
              (with_reducible refine (INx.out _).mono ?_); rintro e w3 ⟨rfl, b3⟩
              have P3 : Hid (w3.heap[w.heap.size]? = some (.cells #[.int .i64 n, .slice (some ⟨b, off, none⟩) l cap] 27 (0, 0))) := Lib.hid ((b3.out.block _ (lt_of_block P2.out)).trans P2.out)
              have E3 : Hid (w3.heap[wr.heap.size]? = some (.cells #[.int .i64 x, .int .i64 y] 24 (0, 0))) := Lib.hid ((b3.out.block _ (lt_of_block E2.out)).trans E2.out)
              have B3 : Hid (Below w.heap.size w w3) := Lib.hid (BE.out.trans (b3.out.mono BE.out.size))
              obtain ⟨⟨p0, p1⟩, -⟩ := obG P3.out
              obtain ⟨⟨q0, q1⟩, -⟩ := obG E3.out
              clear b3
              go_wp2_with fail
              (with_reducible refine (INy.out _).mono ?_); rintro e w4 ⟨rfl, b4⟩
              go_wp2
              go_ret
              exact ⟨ret_bool G0.out.symm, Lib.hid (B3.out.trans (b4.out.mono B3.out.size))⟩
          · have INx : Hid (∀ W, Calls Try.prog 36 #[.agg #[.int .i64 n, .slice (some ⟨b, off, none⟩) l cap], .int .i64 x] W (BoolG W false)) := Lib.hid fun W => by
              have := IN.out x W
              rcases Classical.not_and_iff_not_or_not.1 hnx with h | h
              · rwa [decide_eq_false h, Bool.false_and] at this
              · rwa [decide_eq_false h, Bool.and_false] at this
            have G0 : Hid (Gr.goodV n es = false) := Lib.hid (Gr.bad_at HK.out he.out (.inr (.inr (.inl hnx))))
            clear hnx
            go_wp2_with fail
            rw [← hW2]
            clear hW2 hlk
            (with_reducible refine (INx.out _).mono ?_); rintro e w3 ⟨rfl, b3⟩
            go_wp2
            go_ret
            exact ⟨ret_bool G0.out.symm, Lib.hid (BE.out.trans (b3.out.mono BE.out.size))⟩
    · obtain rfl : k = l := by omega
      have G0 : Hid (Gr.goodV n es = true) := Lib.hid (Gr.first_all h0' h16' (by have := HG.out; rwa [HN.out] at this))
      go_wp2
      go_ret
      exact ⟨ret_bool G0.out.symm, HB⟩
end Go.Proofs.Ytgeefkfolejbnaa
