/-
  Package graph: shortest: the table of distances of a valid graph.
-/
import Derived.Test.YtgeefkfolejbnaaGrShorten
namespace Go.Proofs.Ytgeefkfolejbnaa
open Go.RowKit
/-- The table handed back. -/
def TabG (w : World) (F : Int → Int → Option Int) (e : Ending) (w' : World) : Prop :=
  ∃ g, e = .returned (.map (some g)) ∧ Hid (w.heap.size ≤ g) ∧ Hid (GMap w' g 1000000 F) ∧ Hid (Below w.heap.size w w')
theorem Gr.F0_nil (a b : Int) : Gr.F0 [] a b = none := by unfold Gr.F0; rw [if_neg (by simp)]
theorem Gr.F0_next {es : Gr.EI} {k : Nat} {x y : Int} (hk : k < es.length) (he : es.getD k (0, 0) = (x, y)) (a b : Int) : Gr.F0 (es.take (k + 1)) a b = upd (Gr.F0 (es.take k)) x y 1 a b := by
  unfold Gr.F0 upd
  rw [Gr.take_next hk he]
  by_cases h : a = x ∧ b = y
  · rw [if_pos (by rw [h.1, h.2]; simp), if_pos h]
  · rw [if_neg h]
    show _ = if (a, b) ∈ es.take k then some 1 else none
    by_cases h2 : (a, b) ∈ es.take k
    · rw [if_pos (List.mem_append_left _ h2), if_pos h2]
    · rw [if_neg h2, if_neg (fun h3 => by
        rcases List.mem_append.1 h3 with h3 | h3
        · exact h2 h3
        · simp at h3; exact h h3)]
set_option maxHeartbeats 8000000 in
theorem shortest_any (N : Nat) (A : Option Addr) (es : Gr.EI) (cap : Nat) (hl : es.length ≤ 100000) (hG : Gr.Good N es) (w : World) (h : Edg w w.heap.size A es) :
    Calls Try.prog 37 #[.agg #[.int .i64 (N : Int), .slice A es.length cap]] w (TabG w (Gr.fin N es)) := by
  have H := Lib.hid h
  have hN : N ≤ 16 := by have := hG.n16; omega
  have HG := Lib.hid hG
  obtain ⟨l, hlen⟩ : ∃ l, l = es.length := ⟨_, rfl⟩
  have HN := Lib.hid hlen
  rw [← hlen] at hl ⊢
  clear h hlen hG
  obtain ⟨W1, hW1⟩ : ∃ W1, W1 = (w.alloc (.cells #[.int .i64 (N : Int), .slice A l cap] 27)).alloc (.map #[] 0) := ⟨_, rfl⟩
  have P1 : Hid (W1.heap[w.heap.size]? = some (.cells #[.int .i64 (N : Int), .slice A l cap] 27 (0, 0))) := Lib.hid (by rw [hW1, Below.heap_alloc _ _ _ (by simp)]; exact heap_alloc_new ..)
  have M1 : Hid (GMap W1 (w.heap.size + 1) 0 fun _ _ => none) := Lib.hid (by
    rw [hW1]
    have := GMap.made (w.alloc (.cells #[.int .i64 (N : Int), .slice A l cap] 27))
    rw [World.size_alloc] at this
    exact this)
  have B1 : Hid (Below w.heap.size w W1) := Lib.hid (by rw [hW1]; exact ((Below.refl _ _).alloc (Nat.le_refl _) _).alloc (by simp) _)
  have hmm := @run_makeMap Try.prog
  go_enter Try.func37, Try.ntmps37
  go_wp2_with fail
  rw [← hW1]
  clear hW1 hmm
  obtain ⟨⟨x0, x1⟩, -⟩ := obG P1.out
  go_wp2_with fail
  go_loopw [14] (fun iv wr => ∃ k : Nat, k ≤ l ∧ iv = .int .i64 k ∧ Hid (GMap wr (w.heap.size + 1) k (Gr.F0 (es.take k))) ∧ Hid (wr.heap[w.heap.size]? = some (.cells #[.int .i64 (N : Int), .slice A l cap] 27 (0, 0))) ∧ Hid (Below w.heap.size w wr)) (fun iv _ => l - (intOf iv).toNat)
  case atStart => exact ⟨0, Nat.zero_le _, rfl, Lib.hid (M1.out.congr fun a b => Gr.F0_nil a b), P1, B1⟩
  case round =>
    obtain ⟨k, hk, rfl, HM, HP, HB⟩ := hrel
    by_cases hlt : k < l
    · have hlt' : (k : Int) < (l : Int) := by omega
      obtain ⟨b, off, x, y, rfl, hb, hc0, hc1, he, hx, hy⟩ := (H.out.below HB.out).at_ (k := k) (by rw [← HN.out]; exact hlt)
      have HK := Lib.hid (show k < es.length by rw [← HN.out]; exact hlt)
      have BE : Hid (Below w.heap.size w (wr.alloc (.cells #[.int .i64 x, .int .i64 y] 24))) := Lib.hid (HB.out.alloc HB.out.size _)
      have PE : Hid ((wr.alloc (.cells #[.int .i64 x, .int .i64 y] 24)).heap[w.heap.size]? = some (.cells #[.int .i64 (N : Int), .slice (some ⟨b, off, none⟩) l cap] 27 (0, 0))) := Lib.hid (by rw [Below.heap_alloc _ _ _ (lt_of_block HP.out)]; exact HP.out)
      obtain ⟨w5, hup, m5, t5⟩ := (HM.out.grew ((Below.refl _ _).alloc (Nat.le_refl _) (.cells #[.int .i64 x, .int .i64 y] 24))).store (by omega) x y 1 hx hy ⟨by decide, by decide⟩
      have M5 : Hid (GMap w5 (w.heap.size + 1) (k + 1) (Gr.F0 (es.take (k + 1)))) := Lib.hid (m5.congr (Gr.F0_next HK.out he.out))
      have T5 := Lib.hid (turned_frame t5)
      clear m5 t5 hx hy
      go_wp2
      go_roundw
      case rel => exact ⟨k + 1, by omega, by go_num, M5, Lib.hid ((T5.out.2.2.2.2 _ (by omega)).trans PE.out), Lib.hid (BE.out.trans ⟨T5.out.1, T5.out.2.1, T5.out.2.2.1, by have := T5.out.2.2.2.1; omega, fun i hi => T5.out.2.2.2.2 i (by omega)⟩)⟩
      case measure => simp [intOf]; omega
    · obtain rfl : k = l := by omega
      have M2 : Hid (GMap wr (w.heap.size + 1) k (Gr.fw es 0)) := Lib.hid (by
        have := HM.out
        rw [HN.out, List.take_length] at this
        rw [HN.out]; exact this)
      obtain ⟨⟨y0, y1⟩, -⟩ := obG HP.out
      clear HM
      go_wp2_with fail
      go_loopw [23] (fun iv wr => ∃ q : Nat, q ≤ N ∧ iv = .int .i64 q ∧ Hid (GMap wr (w.heap.size + 1) (k + 256 * q) (Gr.fw es q)) ∧ Hid (wr.heap[w.heap.size]? = some (.cells #[.int .i64 (N : Int), .slice A k cap] 27 (0, 0))) ∧ Hid (Below w.heap.size w wr)) (fun iv _ => N - (intOf iv).toNat)
      case atStart => exact ⟨0, Nat.zero_le _, rfl, M2, HP, HB⟩
      case round =>
        clear M2 HP HB y0 y1
        obtain ⟨q, hq, rfl, HM, HP, HB⟩ := hrel
        by_cases hlq : q < N
        · have hlq' : (q : Int) < (N : Int) := by omega
          have FR : Hid (Gr.Rng N 65536 (Gr.fw es q)) := Lib.hid (HG.out.big q (by omega))
          have M3 : Hid (GMap wr (w.heap.size + 1) (k + 256 * q + 16 * 0) (Gr.partV (Gr.fw es q) q ((0 : Nat) : Int))) := Lib.hid (HM.out.congr fun a b => Gr.part_zero _ _ a b)
          obtain ⟨⟨y0, y1⟩, -⟩ := obG HP.out
          clear HM
          go_wp2_with fail
          go_loopw [28] (fun iv wr => ∃ f : Nat, f ≤ N ∧ iv = .int .i64 f ∧ Hid (GMap wr (w.heap.size + 1) (k + 256 * q + 16 * f) (Gr.partV (Gr.fw es q) q (f : Int))) ∧ Hid (wr.heap[w.heap.size]? = some (.cells #[.int .i64 (N : Int), .slice A k cap] 27 (0, 0))) ∧ Hid (Below w.heap.size w wr)) (fun iv _ => N - (intOf iv).toNat)
          case atStart => exact ⟨0, Nat.zero_le _, rfl, M3, HP, HB⟩
          case round =>
            clear M3 HP HB y0 y1
            obtain ⟨f, hf, rfl, HM, HP, HB⟩ := hrel
            by_cases hlf : f < N
            · have hlf' : (f : Int) < (N : Int) := by omega
              have iq : inI (q : Int) := ⟨by omega, by omega⟩
              have iff_ : inI (f : Int) := ⟨by omega, by omega⟩
              have e1 := Gr.part_at (Gr.fw es q) (q : Int) f q
              obtain ⟨⟨y0, y1⟩, -⟩ := obG HP.out
              cases hth : Gr.fw es q f q with
              | none =>
                have hl1 := HM.out.no iff_ iq (e1.trans hth)
                have M4 : Hid (GMap wr (w.heap.size + 1) (k + 256 * q + 16 * (f + 1)) (Gr.partV (Gr.fw es q) q ((f + 1 : Nat) : Int))) := Lib.hid ((HM.out.mono (by omega)).congr fun a b => by
                  rw [show ((f + 1 : Nat) : Int) = (f : Int) + 1 by omega]
                  exact Gr.part_next_none hth a b (by omega))
                clear e1 hth iq iff_
                go_wp2
                go_roundw
                case rel => exact ⟨f + 1, by omega, by go_num, M4, HP, HB⟩
                case measure => simp [intOf]; omega
              | some th =>
                have hl1 := HM.out.val iff_ iq (e1.trans hth)
                have hr := FR.out.rng _ _ _ hth
                have PR := Gr.part_rng FR.out (by decide) (q : Int) (f : Int)
                have SH : Hid (Calls Try.prog 44 #[.agg #[.int .i64 (N : Int), .slice A k cap], .map (some (w.heap.size + 1)), .int .i64 (f : Int), .int .i64 (q : Int), .int .i64 th] wr (ShortenPost wr (w.heap.size + 1) (k + 256 * q + 16 * f + N) (Gr.rowV (Gr.partV (Gr.fw es q) q (f : Int)) f q th N))) :=
                  Lib.hid (shorten_any N hN A k cap (w.heap.size + 1) _ (by omega) _ f q hlf hlq th _ hr.2.2.2.2.1 (by omega) (by decide) PR wr HM.out)
                have NX : Hid (∀ a b, Gr.partV (Gr.fw es q) q ((f + 1 : Nat) : Int) a b = Gr.rowV (Gr.partV (Gr.fw es q) q (f : Int)) f q th N a b) := Lib.hid fun a b => by
                  rw [show ((f + 1 : Nat) : Int) = (f : Int) + 1 by omega]
                  exact Gr.part_next_some FR.out hth (by omega) a b
                clear e1 hth iq iff_ hr PR
                go_wp2_with fail
                (with_reducible refine SH.out.mono ?_); rintro e w3 ⟨rfl, m3, b3⟩
                have M4 : Hid (GMap w3 (w.heap.size + 1) (k + 256 * q + 16 * (f + 1)) (Gr.partV (Gr.fw es q) q ((f + 1 : Nat) : Int))) := Lib.hid ((m3.out.mono (by omega)).congr NX.out)
                have P4 : Hid (w3.heap[w.heap.size]? = some (.cells #[.int .i64 (N : Int), .slice A k cap] 27 (0, 0))) := Lib.hid ((b3.out.block _ (lt_of_block HP.out) (by omega)).trans HP.out)
                have B4 : Hid (Below w.heap.size w w3) := Lib.hid (HB.out.trans (b3.out.below HB.out.size (by omega)))
                clear m3 b3 SH NX
                go_wp2
                go_roundw
                case rel => exact ⟨f + 1, by omega, by go_num, M4, P4, B4⟩
                case measure => simp [intOf]; omega
            · obtain rfl : f = N := by omega
              have M4 : Hid (GMap wr (w.heap.size + 1) (k + 256 * (q + 1)) (Gr.fw es (q + 1))) := Lib.hid ((HM.out.mono (by omega)).congr fun a b => (Gr.part_all FR.out (q : Int) a b).symm)
              go_wp2
              go_roundw
              case rel => exact ⟨q + 1, by omega, by go_num, M4, HP, HB⟩
              case measure => simp [intOf]; omega
        · obtain rfl : q = N := by omega
          have M4 : Hid (GMap wr (w.heap.size + 1) 1000000 (Gr.fin q es)) := Lib.hid ((HM.out.mono (by omega)).congr fun a b => by unfold Gr.fin; rw [Int.toNat_natCast])
          go_wp2
          go_ret
          exact ⟨w.heap.size + 1, rfl, Lib.hid (by omega), M4, HB⟩
end Go.Proofs.Ytgeefkfolejbnaa
