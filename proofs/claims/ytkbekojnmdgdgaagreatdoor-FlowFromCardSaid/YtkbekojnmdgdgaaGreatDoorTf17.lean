/-
  Part 17 of the texts behind the law: TGrGood, TToBef.
-/
import Derived.Test.YtkbekojnmdgdgaaGreatDoorTf2
import Derived.Test.YtkbekojnmdgdgaaGreatDoorTf1
import Derived.Deep.QuietTactic
import Derived.BigQuiet
/- GrGood -/
namespace Go.Proofs.YtkbekojnmdgdgaaGreatDoor
open Go.RowKit
set_option maxHeartbeats 400000 in
theorem isNode_any (n : Int) (A : Option Addr) (l cap : Nat) (v : Int) (w : World) :
  Calls Tryz.prog 132 #[.agg #[.int .i64 n, .slice A l cap], .int .i64 v] w (BoolG w (decide (0 ≤ v) && decide (v < n))) := by
 have B1 : Hid (Below w.heap.size w (w.alloc (.cells #[.int .i64 n, .slice A l cap] 150))) := Lib.hid ((Below.refl _ _).alloc (Nat.le_refl _) _)
 by_cases h0 : 0 ≤ v
 ·by_cases h1 : v < n
  ·rw [decide_eq_true h0, decide_eq_true h1]
   go_enter Tryz.func132, Tryz.ntmps132
   go_wp2
   go_ret
   exact ⟨rfl, B1⟩
  ·rw [decide_eq_true h0, decide_eq_false h1]
   go_enter Tryz.func132, Tryz.ntmps132
   go_wp2
   go_ret
   exact ⟨rfl, B1⟩
 ·rw [decide_eq_false h0]
  go_enter Tryz.func132, Tryz.ntmps132
  go_wp2
  go_ret
  exact ⟨rfl, B1⟩
structure Gr.First (n : Int) (es : Gr.EI) (k : Nat) : Prop where
 edge : ∀ e ∈ es.take k, 0 ≤ e.1 ∧ e.1 < n ∧ 0 ≤ e.2 ∧ e.2 < n ∧ e.1 ≠ e.2
 once : (es.take k).Nodup
theorem Gr.take_next {es : Gr.EI} {k : Nat} {e : Int × Int} (hk : k < es.length) (he : es.getD k (0, 0) = e) : es.take (k + 1) = es.take k ++ [e] := by
 rw [List.take_succ_eq_append_getElem hk]
 rw [List.getD_eq_getElem?_getD, List.getElem?_eq_getElem hk] at he
 rw [← he]; rfl
theorem Gr.First.next {n : Int} {es : Gr.EI} {k : Nat} {x y : Int} (h : Gr.First n es k) (hk : k < es.length) (he : es.getD k (0, 0) = (x, y)) (hm : (es.take k).contains (x, y) = false) (hne : x ≠ y) (h1 : 0 ≤ x ∧ x < n) (h2 : 0 ≤ y ∧ y < n) : Gr.First n es (k + 1) := by
 have e := Gr.take_next hk he
 refine ⟨fun f hf => ?_, ?_⟩
 ·rw [e] at hf
  rcases List.mem_append.1 hf with hf | hf
  ·exact h.edge f hf
  ·simp at hf; subst hf; exact ⟨h1.1, h1.2, h2.1, h2.2, hne⟩
 ·rw [e]
  have hm' : (x, y) ∉ es.take k := fun hx => by rw [List.contains_iff_mem.2 hx] at hm; cases hm
  exact List.nodup_append.2 ⟨h.once, by simp, fun a ha b hb hab => by simp at hb; subst hb; subst hab; exact hm' ha⟩
theorem Gr.bad_at {n : Int} {es : Gr.EI} {k : Nat} {x y : Int} (hk : k < es.length) (he : es.getD k (0, 0) = (x, y)) (h : (es.take k).contains (x, y) = true ∨ x = y ∨ ¬ (0 ≤ x ∧ x < n) ∨ ¬ (0 ≤ y ∧ y < n)) : Gr.goodV n es = false := by
 refine Gr.goodV_no fun g => ?_
 have hm : (x, y) ∈ es := by
  rw [List.getD_eq_getElem?_getD, List.getElem?_eq_getElem hk] at he
  rw [← he]; exact List.getElem_mem hk
 have hb := g.edge _ hm
 simp only at hb
 rcases h with h | h | h | h
 ·have h1 := (List.take_sublist (k + 1) es)
  rw [Gr.take_next hk he] at h1
  have h2 := g.once.sublist h1
  rw [List.nodup_append] at h2
  exact h2.2.2 _ (List.contains_iff_mem.1 h) _ (by simp) rfl
 ·exact hb.2.2.2.2 h
 ·exact h ⟨hb.1, hb.2.1⟩
 ·exact h ⟨hb.2.2.1, hb.2.2.2.1⟩
theorem Gr.first_all {n : Int} {es : Gr.EI} (h0 : 0 ≤ n) (h1 : n ≤ 16) (h : Gr.First n es es.length) : Gr.goodV n es = true := by
 have e : es.take es.length = es := List.take_length
 exact Gr.goodV_iff.2 ⟨h0, h1, fun f hf => h.edge f (by rw [e]; exact hf), by have := h.once; rwa [e] at this⟩
theorem Gr.seen_next {es : Gr.EI} {k : Nat} {x y : Int} (hk : k < es.length) (he : es.getD k (0, 0) = (x, y)) (a b : Int) : (es.take (k + 1)).contains (a, b) = updS (fun a b => (es.take k).contains (a, b)) x y a b := by
 rw [Gr.take_next hk he]
 unfold updS
 rw [Bool.eq_iff_iff, List.contains_iff_mem, List.mem_append]
 by_cases h : a = x ∧ b = y
 ·rw [if_pos h]; simp [h.1, h.2]
 ·rw [if_neg h, List.contains_iff_mem]
  constructor
  ·rintro (h1 | h1)
   ·exact h1
   ·simp at h1; exact absurd h1 h
  ·exact .inl
theorem Gr.few {n : Int} (hn : n ≤ 16) (l : Gr.EI) (he : ∀ e ∈ l, 0 ≤ e.1 ∧ e.1 < n ∧ 0 ≤ e.2 ∧ e.2 < n) (ho : l.Nodup) : l.length ≤ 256 := by
 have h := Gr.nodup_low 256 (l.map fun e => (e.1 * 16 + e.2).toNat) (fun x hx => by
  obtain ⟨e, h1, rfl⟩ := List.mem_map.1 hx
  have := he e h1
  omega) (by
  unfold List.Nodup
  rw [List.pairwise_map]
  refine ho.imp_of_mem fun {a b} ha hb hab => ?_
  have h1 := he a ha
  have h2 := he b hb
  intro hx
  refine hab (Prod.ext ?_ ?_) <;> omega)
 rwa [List.length_map] at h
theorem Gr.First.len {n : Int} {es : Gr.EI} {k : Nat} (h : Gr.First n es k) (hn : n ≤ 16) (hk : k ≤ es.length) : k ≤ 256 := by
 have := Gr.few hn (es.take k) (fun e he => by have := h.edge e he; omega) h.once
 rw [List.length_take] at this
 omega
theorem Gr.Good.len {n : Int} {es : Gr.EI} (h : Gr.Good n es) : es.length ≤ 256 := Gr.few h.n16 es (fun e he => by have := h.edge e he; omega) h.once
set_option maxHeartbeats 4000000 in
theorem good_any (n : Int) (A : Option Addr) (es : Gr.EI) (cap : Nat) (hl : es.length ≤ 9223372036854775807) (w : World) (h : Edg w w.heap.size A es) :
  Calls Tryz.prog 120 #[.agg #[.int .i64 n, .slice A es.length cap]] w (BoolG w (Gr.goodV n es)) := by
 have H := Lib.hid h
 have HL := Lib.hid hl
 have IN : Hid (∀ (v : Int) W, Calls Tryz.prog 132 #[.agg #[.int .i64 n, .slice A es.length cap], .int .i64 v] W (BoolG W (decide (0 ≤ v) && decide (v < n)))) := Lib.hid fun v W => isNode_any n A es.length cap v W
 obtain ⟨l, hlen⟩ : ∃ l, l = es.length := ⟨_, rfl⟩
 have HN := Lib.hid hlen
 rw [← hlen] at IN hl ⊢
 clear h hlen
 have B1 : Hid (Below w.heap.size w (w.alloc (.cells #[.int .i64 n, .slice A l cap] 150))) := Lib.hid ((Below.refl _ _).alloc (Nat.le_refl _) _)
 by_cases h0 : n < 0
 ·have G0 : Hid (Gr.goodV n es = false) := Lib.hid (Gr.goodV_no fun g => by have := g.n0; omega)
  go_enter Tryz.func120, Tryz.ntmps120
  go_wp2
  go_ret
  exact ⟨ret_bool G0.out.symm, B1⟩
 by_cases h16 : 16 < n
 ·have G0 : Hid (Gr.goodV n es = false) := Lib.hid (Gr.goodV_no fun g => by have := g.n16; omega)
  have h0' : 0 ≤ n := by omega
  clear h0
  go_enter Tryz.func120, Tryz.ntmps120
  go_wp2
  go_ret
  exact ⟨ret_bool G0.out.symm, B1⟩
 have h0' : 0 ≤ n := by omega
 have h16' : n ≤ 16 := by omega
 clear h0 h16
 have hmm := @run_makeMap Tryz.prog
 obtain ⟨W1, hW1⟩ : ∃ W1, W1 = (w.alloc (.cells #[.int .i64 n, .slice A l cap] 150)).alloc (.map #[] 0) := ⟨_, rfl⟩
 have Z1 : Hid (W1.heap.size = w.heap.size + 1 + 1) := Lib.hid (by rw [hW1]; simp)
 have P1 : Hid (W1.heap[w.heap.size]? = some (.cells #[.int .i64 n, .slice A l cap] 150 (0, 0))) := Lib.hid (by rw [hW1, Below.heap_alloc _ _ _ (by simp)]; exact heap_alloc_new ..)
 have M1 : Hid (SMap W1 (w.heap.size + 1) 0 fun _ _ => false) := Lib.hid (by
  rw [hW1]
  have := SMap.made (w.alloc (.cells #[.int .i64 n, .slice A l cap] 150))
  rw [World.size_alloc] at this
  exact this)
 have B2 : Hid (Below w.heap.size w W1) := Lib.hid (by rw [hW1]; exact B1.out.alloc (by simp) _)
 clear B1
 go_enter Tryz.func120, Tryz.ntmps120
 go_wp2_with fail
 rw [← hW1]
 clear hW1 hmm
 go_loopw [20] (fun iv wr => ∃ k : Nat, k ≤ l ∧ iv = .int .i64 k ∧ Hid (Gr.First n es k) ∧ Hid (SMap wr (w.heap.size + 1) k fun a b => (es.take k).contains (a, b)) ∧ Hid (wr.heap[w.heap.size]? = some (.cells #[.int .i64 n, .slice A l cap] 150 (0, 0))) ∧ Hid (Below w.heap.size w wr)) (fun iv _ => l - (intOf iv).toNat)
 case atStart => exact ⟨0, Nat.zero_le _, rfl, Lib.hid ⟨by simp, by simp⟩, Lib.hid (M1.out.congr fun a b => by simp), P1, B2⟩
 case round =>
  obtain ⟨k, hk, rfl, HG, HM, HP, HB⟩ := hrel
  have hk256 : k ≤ 256 := HG.out.len h16' (by rw [← HN.out]; exact hk)
  by_cases hlt : k < l
  ·have hlt' : (k : Int) < (l : Int) := by omega
   obtain ⟨b, off, x, y, rfl, hb, hc0, hc1, he, ⟨hx0, hx1⟩, hy0, hy1⟩ := (H.out.below HB.out).at_ (k := k) (by rw [← HN.out]; exact hlt)
   obtain ⟨⟨x0, x1⟩, -⟩ := obG HP.out
   have hz : w.heap.size < wr.heap.size := lt_of_block HP.out
   have HK := Lib.hid (show k < es.length by rw [← HN.out]; exact hlt)
   have ME : SMap (wr.alloc (.cells #[.int .i64 x, .int .i64 y] 185)) (w.heap.size + 1) k fun a b => (es.take k).contains (a, b) := HM.out.grew ((Below.refl _ _).alloc (Nat.le_refl _) _)
   have hlk := ME.look2 x y ⟨hx0, hx1⟩ ⟨hy0, hy1⟩
   clear ME
   have BE : Hid (Below w.heap.size w ((wr.alloc (.cells #[.int .i64 x, .int .i64 y] 185)).alloc (.cells #[] 182))) := Lib.hid ((HB.out.alloc HB.out.size _).alloc (by have := HB.out.size; simp; omega) _)
   cases hseen : (es.take k).contains (x, y) with
   | true =>
    rw [hseen] at hlk
    have G0 : Hid (Gr.goodV n es = false) := Lib.hid (Gr.bad_at HK.out he.out (.inl hseen))
    clear hseen
    go_wp2
    go_ret
    exact ⟨ret_bool G0.out.symm, BE⟩
   | false =>
    rw [hseen] at hlk
    have HS := Lib.hid hseen
    clear hseen
    by_cases hxy : x = y
    ·have G0 : Hid (Gr.goodV n es = false) := Lib.hid (Gr.bad_at HK.out he.out (.inr (.inl hxy)))
     have hd : (x == y) = true := by simpa using hxy
     clear hxy
     go_wp2
     go_ret
     exact ⟨ret_bool G0.out.symm, BE⟩
    ·have hd : (x == y) = false := by simpa using hxy
     have XY := Lib.hid hxy
     clear hxy
     obtain ⟨W2, hW2⟩ : ∃ W2, W2 = (wr.alloc (.cells #[.int .i64 x, .int .i64 y] 185)).alloc (.cells #[] 182) := ⟨_, rfl⟩
     have E2 : Hid (W2.heap[wr.heap.size]? = some (.cells #[.int .i64 x, .int .i64 y] 185 (0, 0))) := Lib.hid (by rw [hW2, Below.heap_alloc _ _ _ (by simp)]; exact heap_alloc_new ..)
     have BW2 : Hid (Below wr.heap.size wr W2) := Lib.hid (by rw [hW2]; exact ((Below.refl _ _).alloc (Nat.le_refl _) _).alloc (by simp) _)
     rw [← hW2] at BE
     have P2 : Hid (W2.heap[w.heap.size]? = some (.cells #[.int .i64 n, .slice (some ⟨b, off, none⟩) l cap] 150 (0, 0))) := Lib.hid ((BW2.out.block _ hz).trans HP.out)
     have M2 : Hid (SMap W2 (w.heap.size + 1) k fun a b => (es.take k).contains (a, b)) := Lib.hid (HM.out.grew BW2.out)
     by_cases hnx : 0 ≤ x ∧ x < n
     ·have INx : Hid (∀ W, Calls Tryz.prog 132 #[.agg #[.int .i64 n, .slice (some ⟨b, off, none⟩) l cap], .int .i64 x] W (BoolG W true)) := Lib.hid fun W => by have := IN.out x W; rwa [decide_eq_true hnx.1, decide_eq_true hnx.2] at this
      have NX := Lib.hid hnx
      clear hnx
      by_cases hny : 0 ≤ y ∧ y < n
      ·have INy : Hid (∀ W, Calls Tryz.prog 132 #[.agg #[.int .i64 n, .slice (some ⟨b, off, none⟩) l cap], .int .i64 y] W (BoolG W true)) := Lib.hid fun W => by have := IN.out y W; rwa [decide_eq_true hny.1, decide_eq_true hny.2] at this
       have NY := Lib.hid hny
       clear hny
       go_wp2_with fail
       rw [← hW2]
       clear hW2 hlk
       (with_reducible refine (INx.out _).mono ?_); rintro e w3 ⟨rfl, b3⟩
       have P3 : Hid (w3.heap[w.heap.size]? = some (.cells #[.int .i64 n, .slice (some ⟨b, off, none⟩) l cap] 150 (0, 0))) := Lib.hid ((b3.out.block _ (lt_of_block P2.out)).trans P2.out)
       have E3 : Hid (w3.heap[wr.heap.size]? = some (.cells #[.int .i64 x, .int .i64 y] 185 (0, 0))) := Lib.hid ((b3.out.block _ (lt_of_block E2.out)).trans E2.out)
       have M3 : Hid (SMap w3 (w.heap.size + 1) k fun a b => (es.take k).contains (a, b)) := Lib.hid (M2.out.grew b3.out)
       have B3 : Hid (Below w.heap.size w w3) := Lib.hid (BE.out.trans (b3.out.mono BE.out.size))
       obtain ⟨⟨p0, p1⟩, -⟩ := obG P3.out
       obtain ⟨⟨q0, q1⟩, -⟩ := obG E3.out
       clear b3
       go_wp2_with fail
       (with_reducible refine (INy.out _).mono ?_); rintro e w4 ⟨rfl, b4⟩
       have P4 : Hid (w4.heap[w.heap.size]? = some (.cells #[.int .i64 n, .slice (some ⟨b, off, none⟩) l cap] 150 (0, 0))) := Lib.hid ((b4.out.block _ (lt_of_block P3.out)).trans P3.out)
       have E4 : Hid (w4.heap[wr.heap.size]? = some (.cells #[.int .i64 x, .int .i64 y] 185 (0, 0))) := Lib.hid ((b4.out.block _ (lt_of_block E3.out)).trans E3.out)
       have M4 : Hid (SMap w4 (w.heap.size + 1) k fun a b => (es.take k).contains (a, b)) := Lib.hid (M3.out.grew b4.out)
       have B4 : Hid (Below w.heap.size w w4) := Lib.hid (B3.out.trans (b4.out.mono B3.out.size))
       obtain ⟨⟨r0, r1⟩, -⟩ := obG E4.out
       obtain ⟨w5, hup, m5, t5⟩ := M4.out.store (by omega) x y ⟨hx0, hx1⟩ ⟨hy0, hy1⟩
       have M5 := Lib.hid m5
       have T5 := Lib.hid (turned_frame t5)
       clear b4 m5 t5
       go_wp2
       go_roundw
       case rel =>
        exact ⟨k + 1, by omega, by go_num, Lib.hid (HG.out.next HK.out he.out HS.out XY.out NX.out NY.out), Lib.hid (M5.out.congr (Gr.seen_next HK.out he.out)), Lib.hid ((T5.out.2.2.2.2 _ (by omega)).trans P4.out), Lib.hid (B4.out.trans ⟨T5.out.1, T5.out.2.1, T5.out.2.2.1, by have := T5.out.2.2.2.1; omega, fun i hi => T5.out.2.2.2.2 i (by omega)⟩)⟩
       case measure => simp [intOf]; omega
      ·have INy : Hid (∀ W, Calls Tryz.prog 132 #[.agg #[.int .i64 n, .slice (some ⟨b, off, none⟩) l cap], .int .i64 y] W (BoolG W false)) := Lib.hid fun W => by
        have := IN.out y W
        rcases Classical.not_and_iff_not_or_not.1 hny with h | h
        ·rwa [decide_eq_false h, Bool.false_and] at this
        ·rwa [decide_eq_false h, Bool.and_false] at this
       have G0 : Hid (Gr.goodV n es = false) := Lib.hid (Gr.bad_at HK.out he.out (.inr (.inr (.inr hny))))
       clear hny
       go_wp2_with fail
       rw [← hW2]
       clear hW2 hlk
       (with_reducible refine (INx.out _).mono ?_); rintro e w3 ⟨rfl, b3⟩
       have P3 : Hid (w3.heap[w.heap.size]? = some (.cells #[.int .i64 n, .slice (some ⟨b, off, none⟩) l cap] 150 (0, 0))) := Lib.hid ((b3.out.block _ (lt_of_block P2.out)).trans P2.out)
       have E3 : Hid (w3.heap[wr.heap.size]? = some (.cells #[.int .i64 x, .int .i64 y] 185 (0, 0))) := Lib.hid ((b3.out.block _ (lt_of_block E2.out)).trans E2.out)
       have B3 : Hid (Below w.heap.size w w3) := Lib.hid (BE.out.trans (b3.out.mono BE.out.size))
       obtain ⟨⟨p0, p1⟩, -⟩ := obG P3.out
       obtain ⟨⟨q0, q1⟩, -⟩ := obG E3.out
       clear b3
       go_wp2_with fail
       (with_reducible refine (INy.out _).mono ?_); rintro e w4 ⟨rfl, b4⟩
       go_wp2
       go_ret
       exact ⟨ret_bool G0.out.symm, Lib.hid (B3.out.trans (b4.out.mono B3.out.size))⟩
     ·have INx : Hid (∀ W, Calls Tryz.prog 132 #[.agg #[.int .i64 n, .slice (some ⟨b, off, none⟩) l cap], .int .i64 x] W (BoolG W false)) := Lib.hid fun W => by
       have := IN.out x W
       rcases Classical.not_and_iff_not_or_not.1 hnx with h | h
       ·rwa [decide_eq_false h, Bool.false_and] at this
       ·rwa [decide_eq_false h, Bool.and_false] at this
      have G0 : Hid (Gr.goodV n es = false) := Lib.hid (Gr.bad_at HK.out he.out (.inr (.inr (.inl hnx))))
      clear hnx
      go_wp2_with fail
      rw [← hW2]
      clear hW2 hlk
      (with_reducible refine (INx.out _).mono ?_); rintro e w3 ⟨rfl, b3⟩
      go_wp2
      go_ret
      exact ⟨ret_bool G0.out.symm, Lib.hid (BE.out.trans (b3.out.mono BE.out.size))⟩
  ·obtain rfl : k = l := by omega
   have G0 : Hid (Gr.goodV n es = true) := Lib.hid (Gr.first_all h0' h16' (by have := HG.out; rwa [HN.out] at this))
   go_wp2
   go_ret
   exact ⟨ret_bool G0.out.symm, HB⟩
end Go.Proofs.YtkbekojnmdgdgaaGreatDoor
/- ToBef -/
namespace Go.Proofs.YtkbekojnmdgdgaaGreatDoor
open Go.RowKit
def To.befV (E : Gr.E) (q : Nat) : List Nat := (E.filter fun e => e.2 == q).map (·.1)
theorem To.mem_bef {E : Gr.E} {q a : Nat} : a ∈ To.befV E q ↔ (a, q) ∈ E := by
 unfold To.befV
 rw [List.mem_map]
 constructor
 ·rintro ⟨⟨x, y⟩, h, rfl⟩
  rw [List.mem_filter] at h
  obtain ⟨h1, h2⟩ := h
  simp only [beq_iff_eq] at h2
  subst h2
  exact h1
 ·intro h
  exact ⟨(a, q), List.mem_filter.2 ⟨h, by simp⟩, rfl⟩
theorem To.bef_snoc (E : Gr.E) (a b q : Nat) : To.befV (E ++ [(a, b)]) q = if q = b then To.befV E q ++ [a] else To.befV E q := by
 unfold To.befV
 rw [List.filter_append, List.map_append]
 by_cases h : q = b
 ·subst h; rw [if_pos rfl]; simp
 ·rw [if_neg h]
  have : (b == q) = false := by simpa using Ne.symm h
  simp [this]
theorem To.bef_len (E : Gr.E) (q : Nat) : (To.befV E q).length ≤ E.length := by
 unfold To.befV
 rw [List.length_map]
 exact List.length_filter_le _ _
theorem To.bef_ahead {E : Gr.E} {n : Nat} (hl : Gr.Low E n) (q : Nat) (a : Nat) : a ∈ To.befV E q ↔ a ∈ Gr.aheadV E n q := by rw [To.mem_bef, Gr.mem_ahead hl]
theorem To.ready_bef {E : Gr.E} {n : Nat} (hl : Gr.Low E n) (L : List Nat) (x : Nat) : To.ready E n L x = (!L.contains x && (To.befV E x).all fun a => L.contains a) := by
 unfold To.ready
 congr 1
 rw [Bool.eq_iff_iff, List.all_eq_true, List.all_eq_true]
 exact ⟨fun h a ha => h a ((To.bef_ahead hl x a).1 ha), fun h a ha => h a ((To.bef_ahead hl x a).2 ha)⟩
def Bef (w : World) (B g : Nat) (E : Gr.E) (N : Nat) : Prop :=
 g < B ∧ ∀ q, q < N → ∃ A cap, w.cell? ⟨g, q, none⟩ = some (.slice A (To.befV E q).length cap) ∧ Zs w B A (Gr.ints (To.befV E q))
theorem Bef.below {w w' : World} {B g : Nat} {E : Gr.E} {N : Nat} (h : Bef w B g E N) (hb : Below B w w') : Bef w' B g E N :=
 ⟨h.1, fun q hq => by
  obtain ⟨A, cap, h1, h2⟩ := h.2 q hq
  exact ⟨A, cap, (hb.cell (p := ⟨g, q, none⟩) h.1).trans h1, h2.below hb⟩⟩
theorem Bef.more {w : World} {B B' g : Nat} {E : Gr.E} {N : Nat} (h : Bef w B g E N) (hB : B ≤ B') : Bef w B' g E N :=
 ⟨Nat.lt_of_lt_of_le h.1 hB, fun q hq => by
  obtain ⟨A, cap, h1, h2⟩ := h.2 q hq
  exact ⟨A, cap, h1, h2.more hB⟩⟩
theorem Bef.on {w w' : World} {g : Nat} {E : Gr.E} {N : Nat} (h : Bef w w.heap.size g E N) (hb : Below w.heap.size w w') : Bef w' w'.heap.size g E N := (h.below hb).more hb.size
structure OwnM (w : World) (base g N : Nat) (M : Nat → List Int) (P : Nat → Option Addr × Nat) : Prop where
 row : w.ownsRow base 94 1 (.slice (some ⟨g, 0, none⟩) N N) N ((List.range N).map fun q => Value.slice (P q).1 (M q).length (P q).2)
 own : ∀ q, q < N → OwnZ w (g + 1) (P q).1 (P q).2 (M q)
 apart : ∀ q r, q < N → r < N → q ≠ r → ∀ a b, (P q).1 = some a → (P r).1 = some b → a.block ≠ b.block
theorem OwnM.lt {w : World} {base g N : Nat} {M : Nat → List Int} {P : Nat → Option Addr × Nat} (h : OwnM w base g N M P) : base ≤ g ∧ g < w.heap.size :=
 World.ownsRow.lt h.row g (by simp [Value.ownBlock])
theorem OwnM.cell {w : World} {base g N : Nat} {M : Nat → List Int} {P : Nat → Option Addr × Nat} (h : OwnM w base g N M P) {q : Nat} (hq : q < N) : w.cell? ⟨g, q, none⟩ = some (.slice (P q).1 (M q).length (P q).2) := by
 rw [World.ownsRow.cellAt h.row q (by omega), List.getElem?_map, List.getElem?_range hq]
 rfl
theorem OwnM.thaw {w : World} {base g N : Nat} {M : Nat → List Int} {P : Nat → Option Addr × Nat} (h : OwnM w base g N M P) (i : Nat) : w.frozen? ⟨g, i, none⟩ = false := by
 rcases h.row.2 with ⟨e, _⟩ | ⟨g', c', cur, e, hb, hg, r⟩
 ·cases e
 ·injection e with e1 e2 e3
  injection e1 with e1
  injection e1 with e1
  subst e1
  simp [World.frozen?, hg]
theorem ownsRow_keep {w w' : World} {base : Nat} {T : TypeId} {k : Nat} {A : Option Addr} {n cap : Nat} {xs : List Value} (h : w.ownsRow base T k (.slice A n cap) n xs) (hk : ∀ a, A = some a → w'.heap[a.block]? = w.heap[a.block]?) : w'.ownsRow base T k (.slice A n cap) n xs := by
 refine ⟨h.1, ?_⟩
 rcases h.2 with e | ⟨g, c', cur, e, hb, hg, r⟩
 ·exact .inl e
 ·injection e with e1 e2 e3
  subst e1 e3
  exact .inr ⟨g, _, cur, rfl, hb, by rw [hk _ rfl]; exact hg, r⟩
theorem OwnM.keep {w w' : World} {base g N : Nat} {M : Nat → List Int} {P : Nat → Option Addr × Nat} (h : OwnM w base g N M P) (hb : Below w.heap.size w w') : OwnM w' base g N M P :=
 ⟨ownsRow_keep h.row fun a ha => by
   injection ha with ha
   subst ha
   exact hb.block _ h.lt.2,
  fun q hq => (h.own q hq).grew hb (Nat.le_refl _), h.apart⟩
theorem OwnM.bef {w : World} {base g N : Nat} {M : Nat → List Int} {P : Nat → Option Addr × Nat} {E : Gr.E} (h : OwnM w base g N M P) (hM : ∀ q, q < N → M q = Gr.ints (To.befV E q)) : Bef w w.heap.size g E N :=
 ⟨h.lt.2, fun q hq => by
  refine ⟨(P q).1, (P q).2, ?_, ?_⟩
  ·rw [h.cell hq, hM q hq, Gr.ints_len]
  ·rw [← hM q hq]; exact (h.own q hq).zs⟩
theorem OwnM.row_ne {w : World} {base g N : Nat} {M : Nat → List Int} {P : Nat → Option Addr × Nat} (h : OwnM w base g N M P) {q : Nat} (hq : q < N) {e : Nat} (he : e = g ∨ ∃ cs t fz, w.heap[e]? = some (.cells cs t fz) ∧ t ≠ 3) : (Value.slice (P q).1 (M q).length (P q).2).ownBlock ≠ some e := fun hb => by
 cases hp : (P q).1 with
 | none => rw [hp] at hb; cases hb
 | some a =>
  have h1 := h.own q hq
  rw [hp] at h1 hb
  simp only [Value.ownBlock, Option.some.injEq] at hb
  rcases he with he | ⟨cs, t, fz, h2, h3⟩
  ·have := h1.lt.1
   omega
  ·exact h1.ne h2 h3 hb
theorem OwnM.stays {w w' : World} {base g N : Nat} {M : Nat → List Int} {P : Nat → Option Addr × Nat} (h : OwnM w base g N M P) {q : Nat} (hq : q < N) (hg : w.grownBy w' (Value.slice (P q).1 (M q).length (P q).2).ownBlock) (e : Nat) {j : Nat} (he : e = g ∨ ∃ cs t fz, w.heap[e]? = some (.cells cs t fz) ∧ t ≠ 3) : w'.cell? ⟨e, j, none⟩ = w.cell? ⟨e, j, none⟩ := by
 have hlt : e < w.heap.size := by
  rcases he with he | ⟨cs, t, fz, h2, _⟩
  ·have := h.lt.2; omega
  ·exact lt_of_block h2
 exact World.cell?_of_block (w := w) (hg.block e hlt (Ne.symm (h.row_ne hq he)))
theorem OwnM.thaws {w w' : World} {base g N : Nat} {M : Nat → List Int} {P : Nat → Option Addr × Nat} (h : OwnM w base g N M P) {q : Nat} (hq : q < N) (hg : w.grownBy w' (Value.slice (P q).1 (M q).length (P q).2).ownBlock) (j : Nat) : w'.frozen? ⟨g, j, none⟩ = false :=
 (World.frozen?_of_block (w := w) (a := ⟨g, j, none⟩) (hg.block g h.lt.2 (Ne.symm (h.row_ne hq (.inl rfl))))).trans (h.thaw j)
theorem OwnM.under {w w' : World} {base g N : Nat} {M : Nat → List Int} {P : Nat → Option Addr × Nat} (h : OwnM w base g N M P) {q : Nat} (hq : q < N) (hg : w.grownBy w' (Value.slice (P q).1 (M q).length (P q).2).ownBlock) : Below g w w' :=
 (Below.refl _ _).grown hg (Nat.le_of_lt h.lt.2) fun k hk => by
  cases hp : (P q).1 with
  | none => rw [hp] at hk; cases hk
  | some a =>
   have h1 := h.own q hq
   rw [hp] at h1 hk
   simp only [Value.ownBlock, Option.some.injEq] at hk
   have := h1.lt.1
   omega
def setF {α : Type} (f : Nat → α) (q : Nat) (v : α) : Nat → α := fun r => if r = q then v else f r
theorem setF_same {α : Type} (f : Nat → α) (q : Nat) (v : α) : setF f q v q = v := if_pos rfl
theorem setF_ne {α : Type} (f : Nat → α) {q r : Nat} (v : α) (h : r ≠ q) : setF f q v r = f r := if_neg h
theorem map_setF {α : Type} (f : Nat → α) (N q : Nat) (v : α) : ((List.range N).map f).set q v = (List.range N).map (setF f q v) := by
 apply List.ext_getElem (by simp)
 intro i h1 h2
 rw [List.getElem_set, List.getElem_map, List.getElem_map, List.getElem_range]
 unfold setF
 by_cases h : q = i
 ·rw [if_pos h, if_pos h.symm]
 ·rw [if_neg h, if_neg (Ne.symm h)]
theorem OwnM.put {w w' : World} {base g N : Nat} {M : Nat → List Int} {P : Nat → Option Addr × Nat} (h : OwnM w base g N M P) {q : Nat} (hq : q < N) {A' : Option Addr} {c' : Nat} {zs : List Int}
  (hg : w.grownBy w' (Value.slice (P q).1 (M q).length (P q).2).ownBlock) (ho : OwnZ w' (g + 1) A' c' zs) (hw : (Value.slice A' zs.length c').ownBlock = (Value.slice (P q).1 (M q).length (P q).2).ownBlock ∨ (Value.slice A' zs.length c').ownBlock = some w.heap.size) :
  OwnM (w'.setCell ⟨g, q, none⟩ (.slice A' zs.length c')) base g N (setF M q zs) (setF P q (A', c')) := by
 have hgs := h.lt.2
 have hne : (Value.slice (P q).1 (M q).length (P q).2).ownBlock ≠ some g := fun e => by
  cases hp : (P q).1 with
  | none => rw [hp] at e; cases e
  | some a =>
   have h1 := h.own q hq
   rw [hp] at h1 e
   simp only [Value.ownBlock, Option.some.injEq] at e
   have := h1.lt.1
   omega
 have hrow : w'.ownsRow base 94 1 (.slice (some ⟨g, 0, none⟩) N N) N ((List.range N).map fun q => Value.slice (P q).1 (M q).length (P q).2) :=
  ownsRow_keep h.row fun a ha => by
   injection ha with ha
   subst ha
   exact hg.block _ hgs (Ne.symm hne)
 have hset : ∀ k, k ≠ g → (w'.setCell ⟨g, q, none⟩ (.slice A' zs.length c')).heap[k]? = w'.heap[k]? := fun k hk => heap_setCell_other w' ⟨g, q, none⟩ k _ hk
 refine ⟨?_, fun r hr => ?_, fun r s hr hs hrs a b ha hb => ?_⟩
 ·have h1 := (World.ownsRow.stored hrow q (.slice A' zs.length c')).1
  rw [map_setF _ N q _] at h1
  have e : (List.range N).map (setF (fun q => Value.slice (P q).1 (M q).length (P q).2) q (.slice A' zs.length c')) = (List.range N).map fun r => Value.slice (setF P q (A', c') r).1 (setF M q zs r).length (setF P q (A', c') r).2 := by
   apply List.map_congr_left
   intro r _
   unfold setF
   by_cases hrq : r = q
   ·simp only [if_pos hrq]
   ·simp only [if_neg hrq]
  rwa [e] at h1
 ·by_cases hrq : r = q
  ·subst hrq
   rw [setF_same, setF_same]
   refine ho.keep fun a ha => hset _ ?_
   have := ho
   rw [ha] at this
   have := this.lt.1
   omega
  ·rw [setF_ne _ _ hrq, setF_ne _ _ hrq]
   refine (h.own r hr).keep fun a ha => ?_
   have h1 := h.own r hr
   rw [ha] at h1
   have hl := h1.lt
   rw [hset _ (by omega)]
   refine hg.block _ hl.2 fun e => ?_
   cases hp : (P q).1 with
   | none => rw [hp] at e; cases e
   | some b =>
    rw [hp] at e
    simp only [Value.ownBlock, Option.some.injEq] at e
    exact h.apart r q hr hq hrq a b ha hp e
 ·have key : ∀ r1, r1 < N → r1 ≠ q → ∀ a1 b1, (P r1).1 = some a1 → A' = some b1 → a1.block ≠ b1.block := fun r1 hr1 hrq a1 b1 ha1 hb1 => by
   rw [hb1] at hw
   have h1 := h.own r1 hr1
   rw [ha1] at h1
   rcases hw with hw | hw
   ·cases hp : (P q).1 with
    | none => rw [hp] at hw; simp [Value.ownBlock] at hw
    | some c =>
     rw [hp] at hw
     simp only [Value.ownBlock, Option.some.injEq] at hw
     rw [hw]
     exact h.apart r1 q hr1 hq hrq a1 c ha1 hp
   ·simp only [Value.ownBlock, Option.some.injEq] at hw
    have := h1.lt.2
    omega
  by_cases hrq : r = q
  ·subst hrq
   rw [setF_same] at ha
   rw [setF_ne _ _ (Ne.symm hrs)] at hb
   exact Ne.symm (key s hs (Ne.symm hrs) b a hb ha)
  ·rw [setF_ne _ _ hrq] at ha
   by_cases hsq : s = q
   ·subst hsq
    rw [setF_same] at hb
    exact key r hr hrq a b ha hb
   ·rw [setF_ne _ _ hsq] at hb
    exact h.apart r s hr hs hrs a b ha hb
theorem mat_info : (Tryz.prog.info? 94).map (fun i => (i.zero, i.size, i.bytes)) = some (some (.slice none 0 0), 1, 24) := by kernel_rfl
theorem made_M (n : Nat) (hn : n ≤ 1000000) (W : World) : (Instr.makeSlice 188 (.int .i64 (n : Int)) (.int .i64 (n : Int))).run Tryz.prog W = .ok (.slice (some ⟨W.heap.size, 0, none⟩) n n) (W.alloc (.cells (madeCells #[.slice none 0 0] n) 94)) := by
 obtain ⟨i, hi, hz, hs, hy⟩ := info_parts mat_info
 have hr := run_make (P := Tryz.prog) W 188 94 i _ Tryz.underlying188 hi hz .i64 .i64 n n (by omega) (Int.le_refl _) (by rw [hy]; omega) (by omega)
 rw [hs, Int.toNat_natCast, Nat.mul_one] at hr
 exact hr
theorem OwnM.made (W : World) (n : Nat) (hn : n ≤ 1000000) : OwnM (W.alloc (.cells (madeCells #[.slice none 0 0] n) 94)) W.heap.size W.heap.size n (fun _ => []) (fun _ => (none, 0)) := by
 have e : (madeCells #[Value.slice none 0 0] n).toList = (List.range n).map fun _ => Value.slice none 0 0 := by
  rw [toList_madeCells_one (Value.slice none 0 0) n]
  apply List.ext_getElem (by simp)
  intro i h1 h2
  simp
 have h := World.ownsRow_lit (e := 94) (size := 1) W (madeCells #[.slice none 0 0] n) n (Nat.le_refl W.heap.size) (by unfold maxLen; omega) (by rw [← Array.length_toList, e]; simp)
 rw [e] at h
 exact ⟨h, fun q _ => OwnZ.none_ _ _, fun q r _ _ _ a b ha _ => by cases ha⟩
theorem run_appZ_at {w : World} {base : Nat} {A : Option Addr} {cap : Nat} {zs : List Int} {x : Int} (h : OwnZ w base A cap zs) (hbase : base ≤ w.heap.size) {b2 : Nat} (hx : w.cell? ⟨b2, 0, none⟩ = some (.int .i64 x)) (hxi : inI x) (c : Nat) (hlen : zs.length ≤ 1000000000) (ty : TypeId) :
  ∃ A' cap' w', (Builtin.append_ #[94, 94] ty #[.slice A zs.length cap, .slice (some ⟨b2, 0, none⟩) 1 c]).run Tryz.prog w = .ok (.slice A' (zs ++ [x]).length cap') w' ∧
   OwnZ w' base A' cap' (zs ++ [x]) ∧ w.grownBy w' (Value.slice A zs.length cap).ownBlock ∧ ((Value.slice A' (zs ++ [x]).length cap').ownBlock = (Value.slice A zs.length cap).ownBlock ∨ (Value.slice A' (zs ++ [x]).length cap').ownBlock = some w.heap.size) := by
 obtain ⟨i, hi, hz0, hs, hyb⟩ := info_parts int_info
 obtain ⟨v', w', hrun, hown, hg, _, hat⟩ := run_append_own_at (P := Tryz.prog) (w := w) base 94 ty 3 i _ 1 8 Tryz.underlying94 hi hz0 hs hyb rfl (by decide)
  _ zs.length _ h.1 ⟨b2, 0, none⟩ 1 c [.int .i64 x] rfl (fun j u hu => by
   rw [add_off, Nat.zero_add]
   match j, hu with
   | 0, hu => simp at hu; rw [← hu]; exact hx
   | j + 1, hu => simp at hu) (fun u hu => by simp at hu; subst hu; rfl) (by unfold maxLen; omega) (by omega) hbase
 obtain ⟨A', cap', rfl⟩ := form_ofZ hown
 have e : zs.length + 1 = (zs ++ [x]).length := by simp
 rw [e] at hrun hown hat
 refine ⟨A', cap', w', hrun, ⟨?_, rng_appZ h.2 fun i hi => ?_⟩, hg, hat⟩
 ·rw [List.map_append]
  exact hown
 ·obtain rfl : i = 0 := by simpa using hi
  exact hxi
theorem step_appZat {w : World} {ops : Array Oper} {o : Oper} {a : Act} {K : Act → World → Prop} {Q : Exit → Act → World → Prop} {E : Prop} (hgd : o.guard = none) (s x : Operand)
  (ho : o.op = .call { callee := .builtin .append, args := #[s, x], argTypes := #[94, 94] })
  {base : Nat} {A : Option Addr} {n cap : Nat} {zs : List Int} {v : Int} (hs : a.eval s = .slice A n cap) (hn : n = zs.length) (h : OwnZ w base A cap zs) (hbase : base ≤ w.heap.size)
  {b2 c : Nat} (hx : a.eval x = .slice (some ⟨b2, 0, none⟩) 1 c) (hv : w.cell? ⟨b2, 0, none⟩ = some (.int .i64 v)) (hvi : inI v) (hlen : zs.length ≤ 1000000000)
  (H : ∀ A' cap' w', OwnZ w' base A' cap' (zs ++ [v]) → w.grownBy w' (Value.slice A zs.length cap).ownBlock → ((Value.slice A' (zs ++ [v]).length cap').ownBlock = (Value.slice A zs.length cap).ownBlock ∨ (Value.slice A' (zs ++ [v]).length cap').ownBlock = some w.heap.size) → K (a.put o.dst (.slice A' (zs ++ [v]).length cap')) w') :
  if Region.wanted o (yielded ops a.tmps) = true then Oper.wp Tryz.prog o a w K Q else E := by
 have hw : Region.wanted o (yielded ops a.tmps) = true := by simp [Region.wanted, hgd]
 rw [if_pos hw]
 subst hn
 obtain ⟨A', cap', w', hrun, h1, h2, h3⟩ := run_appZ_at h hbase hv hvi c hlen o.type
 unfold Oper.wp
 simp [execOp, ho, resolve, invoke, builtin, hs, hx, hrun, Result.andThen]
 have hk := H A' cap' w' h1 h2 h3
 rw [List.length_append, List.length_singleton] at hk
 exact hk
end Go.Proofs.YtkbekojnmdgdgaaGreatDoor
