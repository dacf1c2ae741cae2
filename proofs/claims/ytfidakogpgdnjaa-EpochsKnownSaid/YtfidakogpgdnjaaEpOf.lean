/-
  Package epochs: Of at every argument.
-/
import Derived.Test.YtfidakogpgdnjaaEpCut
namespace Go.Proofs.Ytfidakogpgdnjaa
open Go.RowKit
def OfPost (w : World) (r : Option (List Int × Int)) (e : Ending) (w' : World) : Prop := TabPost w (r.getD ([], 0)).1 (r.getD ([], 0)).2 r.isSome e w'
theorem OfPost.no {w w' : World} {r : Option (List Int × Int)} (h : r = none) (hb : Below w.heap.size w w') : OfPost w r (.returned (.tuple #[.agg #[.slice none 0 0, .int .i64 0], .bool false])) w' := by
  subst h; exact TabPost.mk (L' := []) rfl rfl rfl (OwnS.none_ _ _) hb
theorem OfPost.yes {w w' : World} {r : Option (List Int × Int)} {L : List Int} {x : Int} {A : Option Addr} {cap : Nat} (h : r = some (L, x)) (ho : OwnS w' w.heap.size A cap L) (hb : Below w.heap.size w w') :
    OfPost w r (.returned (.tuple #[.agg #[.slice A L.length cap, .int .i64 x], .bool true])) w' := by
  subst h; exact TabPost.mk rfl rfl rfl ho hb
theorem drop_cons {l : List Int} {k : Nat} (h : k < l.length) : l.drop k = l.getD k 0 :: l.drop (k + 1) := by
  rw [List.drop_eq_getElem_cons h, Ep.getD_eq h]
theorem extL_len (L : List Int) (s : Int) : (Ep.extL L s).length ≤ L.length + 1 := by unfold Ep.extL; split <;> simp
set_option maxHeartbeats 4000000 in
set_option maxRecDepth 20000 in
theorem of_any (A : Option Addr) (l : List Int) (cap : Nat) (hl : l.length ≤ 100000000) (w : World) (h : Sts w w.heap.size A l) :
    Calls Try.prog 8 #[.slice A l.length cap] w (OfPost w (Ep.ofV l)) := by
  have H := Lib.hid h
  by_cases h0 : l.length = 0
  · have E : Hid (Ep.ofV l = some ([], 0)) := Lib.hid (by unfold Ep.ofV; rw [if_pos h0])
    rw [h0]
    clear h h0 hl
    go_enter Try.func8, Try.ntmps8
    go_wp2
    exact bodyPost_ret (v := .tuple #[.agg #[.slice none 0 0, .int .i64 0], .bool true]) (by simp [results, Try.results8, go_sem]) rfl
      (OfPost.yes (L := []) E.out (OwnS.none_ _ _) ((Below.refl _ _).alloc (Nat.le_refl _) _))
  obtain ⟨RES, hR⟩ : ∃ R, R = Ep.ofV l := ⟨_, rfl⟩
  rw [← hR]
  have ER : Hid (Ep.ofGo l ([], Pl.offV (l.getD 0 0)) = RES) := Lib.hid (by rw [hR]; unfold Ep.ofV; rw [if_neg h0])
  obtain ⟨b, off, z, rfl, hb, hc, hz, z0, z1⟩ := h.at_ (k := 0) (by omega)
  rw [hz.out] at ER
  have hor := Ep.off_range z
  have O1 : Hid (∀ W, Calls Try.prog 16 #[.int .u64 z] W fun e w' => e = .returned (.int .i64 (Pl.offV z)) ∧ W = w') := Lib.hid (stOff_any z z0 z1)
  generalize Pl.offV z = oz at *
  obtain ⟨n, hn⟩ : ∃ n, n = l.length := ⟨_, rfl⟩
  rw [← hn] at hl h0 ⊢
  have HN := Lib.hid hn
  have HC : Hid ((w.alloc (.cells #[.slice none 0 0, .int .i64 0] 25)).cell? ⟨b, off, none⟩ = some (.int .u64 z)) := Lib.hid ((((Below.refl _ w).alloc (Nat.le_refl _) _).cell (p := ⟨b, off, none⟩) hb.out).trans hc)
  have h0' : 0 < (n : Int) := by omega
  clear h hR hz z0 z1 hn hc h0
  go_enter Try.func8, Try.ntmps8
  have HC' := HC.out
  go_wp2_with fail
  (with_reducible refine (O1.out _).mono ?_); rintro e w' ⟨rfl, rfl⟩
  clear HC'
  go_wp2
  obtain ⟨W1, hW1⟩ : ∃ W1, W1 = (w.alloc (.cells #[.slice none 0 0, .int .i64 0] 25)).alloc (.cells #[.slice none 0 0, .int .i64 oz] 25) := ⟨_, rfl⟩
  rw [← hW1]
  have B1 : Hid (Below w.heap.size w W1) := Lib.hid (by rw [hW1]; exact ((Below.refl _ _).alloc (Nat.le_refl _) _).alloc (by simp) _)
  have R1 : Hid (W1.heap[w.heap.size]? = some (.cells #[.slice none 0 0, .int .i64 0] 25 (0, 0))) := Lib.hid (by rw [hW1, Below.heap_alloc _ _ _ (by simp)]; exact heap_alloc_new ..)
  have T1 : Hid (W1.heap[w.heap.size + 1]? = some (.cells #[.slice none 0 0, .int .i64 oz] 25 (0, 0))) := Lib.hid (by rw [hW1]; have := heap_alloc_new (w.alloc (.cells #[.slice none 0 0, .int .i64 0] 25)) (.cells #[.slice none 0 0, .int .i64 oz] 25); rw [World.size_alloc] at this; exact this)
  clear hW1 O1 HC
  go_loopw [18] (fun iv wr => ∃ (k : Nat) (L : List Int) (x : Int) (A' : Option Addr) (c' : Nat), k ≤ n ∧ iv = .int .i64 k ∧ 0 ≤ x ∧ x ≤ 17592186044416 ∧ Hid (L.length ≤ k) ∧ Hid (Ep.ofGo (l.drop k) (L, x) = RES) ∧ Hid (Below w.heap.size w wr) ∧ Hid (wr.heap[w.heap.size]? = some (.cells #[.slice none 0 0, .int .i64 0] 25 (0, 0))) ∧ Hid (wr.heap[w.heap.size + 1]? = some (.cells #[.slice A' L.length c', .int .i64 x] 25 (0, 0))) ∧ Hid (OwnS wr w.heap.size A' c' L)) (fun iv _ => n - (intOf iv).toNat)
  case atStart => exact ⟨0, [], oz, none, 0, Nat.zero_le _, rfl, hor.1, by omega, Lib.hid (by simp), Lib.hid (by rw [List.drop_zero]; exact ER.out), B1, R1, T1, Lib.hid (OwnS.none_ _ _)⟩
  case round =>
    obtain ⟨k, L, x, A', c', hk, rfl, hx0, hx1, HL, HG, BW, RW, TW, OW⟩ := hrel
    by_cases hlt : k < n
    · have hlt' : (k : Int) < (n : Int) := by omega
      obtain ⟨b2, off2, s, he, -, hc2, hs, s0, s1⟩ := (H.out.below BW.out).at_ (k := k) (by rw [← HN.out]; exact hlt)
      injection he with he
      injection he with he1 he2
      subst he1 he2
      have HD : Hid (Ep.ofGo (l.drop k) (L, x) = if Ep.follow s L x = true then Ep.ofGo (l.drop (k + 1)) (Ep.extL L s, x + 1) else none) := Lib.hid (by rw [drop_cons (by rw [← HN.out]; exact hlt), hs.out, Ep.ofGo])
      have FO : Hid (Calls Try.prog 17 #[.int .u64 s, .agg #[.slice A' L.length c', .int .i64 x]] wr (BoolB wr (Ep.follow s L x))) := Lib.hid (follow_any s s0 s1 A' L c' x (by have := HL.out; omega) wr OW.out.sts)
      have EX : Hid (∀ W, Below wr.heap.size wr W → Calls Try.prog 18 #[.agg #[.slice A' L.length c', .int .i64 x], .int .u64 s] W (ExtPost W w.heap.size L s x)) := Lib.hid fun W hW => extend_any s s0 s1 w.heap.size A' L c' x hx0 hx1 (by have := HL.out; omega) W (Nat.le_trans BW.out.size hW.size) (OW.out.grew hW (Nat.le_refl _))
      have HX : Hid (Ep.follow s L x = true → x + 1 ≤ 17592186044416) := Lib.hid fun hf => by
        unfold Ep.follow at hf
        simp only [Bool.and_eq_true, decide_eq_true_eq] at hf
        have := Ep.off_range s
        omega
      obtain ⟨⟨x0, x1⟩, x2, x3⟩ := ob2 TW.out
      clear hs s0 s1
      rcases hf : Ep.follow s L x with _ | _
      · rw [hf] at FO HD
        have E : Hid (RES = none) := Lib.hid (HG.out.symm.trans HD.out)
        clear hf HX HD EX
        go_wp2_with fail
        (with_reducible refine FO.out.mono ?_); rintro e w2 ⟨rfl, b2⟩
        have R2 : Hid (w2.heap[w.heap.size]? = some (.cells #[.slice none 0 0, .int .i64 0] 25 (0, 0))) := Lib.hid ((b2.out.block _ (lt_of_block RW.out)).trans RW.out)
        have B2 : Hid (Below w.heap.size w w2) := Lib.hid (BW.out.trans (b2.out.mono BW.out.size))
        obtain ⟨⟨r0, r1⟩, r2, r3⟩ := ob2 R2.out
        clear b2
        go_wp2
        exact bodyPost_ret (v := .tuple #[.agg #[.slice none 0 0, .int .i64 0], .bool false]) (by simp [results, Try.results8, go_sem, r0, r1]) rfl
          (OfPost.no E.out ((B2.out.setCell (p := ⟨w.heap.size, 0, none⟩) (Nat.le_refl _) _).setCell (p := ⟨w.heap.size, 1, none⟩) (Nat.le_refl _) _))
      · rw [hf] at FO HD
        have hx2 := HX.out hf
        have E : Hid (Ep.ofGo (l.drop (k + 1)) (Ep.extL L s, x + 1) = RES) := Lib.hid (by have := HD.out; rw [if_pos rfl] at this; rw [← this]; exact HG.out)
        clear hf HX HD HG
        go_wp2_with fail
        (with_reducible refine FO.out.mono ?_); rintro e w2 ⟨rfl, b2⟩
        have R2 : Hid (w2.heap[w.heap.size]? = some (.cells #[.slice none 0 0, .int .i64 0] 25 (0, 0))) := Lib.hid ((b2.out.block _ (lt_of_block RW.out)).trans RW.out)
        have T2 : Hid (w2.heap[w.heap.size + 1]? = some (.cells #[.slice A' L.length c', .int .i64 x] 25 (0, 0))) := Lib.hid ((b2.out.block _ (lt_of_block TW.out)).trans TW.out)
        have B2 : Hid (Below w.heap.size w w2) := Lib.hid (BW.out.trans (b2.out.mono BW.out.size))
        have C2 := Lib.hid (EX.out w2 b2.out)
        obtain ⟨⟨y0, y1⟩, y2, y3⟩ := ob2 T2.out
        clear b2 EX
        go_wp2_with fail
        (with_reducible refine C2.out.mono ?_); rintro e w3 ⟨L2, A3, c3, hL2, rfl, o3, g3⟩
        have R3 : Hid (w3.heap[w.heap.size]? = some (.cells #[.slice none 0 0, .int .i64 0] 25 (0, 0))) := Lib.hid (g3.out.obj _ _ _ _ R2.out (by decide))
        have T3 : Hid (w3.heap[w.heap.size + 1]? = some (.cells #[.slice A' L.length c', .int .i64 x] 25 (0, 0))) := Lib.hid (g3.out.obj _ _ _ _ T2.out (by decide))
        have B3 : Hid (Below w.heap.size w w3) := Lib.hid (B2.out.trans g3.out.below)
        obtain ⟨⟨z0, z1⟩, z2, z3⟩ := ob2 T3.out
        clear C2 g3
        go_wp2
        go_roundw
        case rel =>
          refine ⟨k + 1, L2, x + 1, A3, c3, by omega, by go_num, by omega, hx2, Lib.hid (by rw [hL2.out]; have := extL_len L s; have := HL.out; omega), Lib.hid (by rw [hL2.out]; exact E.out), Lib.hid ((B3.out.setCell (p := ⟨w.heap.size + 1, 0, none⟩) (by simp) _).setCell (p := ⟨w.heap.size + 1, 1, none⟩) (by simp) _), Lib.hid ?_, Lib.hid ?_, Lib.hid (o3.out.set2 T3.out (by decide) _ _)⟩
          · rw [Below.heap_setCell _ _ _ _ (by simp), Below.heap_setCell _ _ _ _ (by simp)]; exact R3.out
          · exact heap_setCell_same _ _ 1 _ _ _ (heap_setCell_same w3 (w.heap.size + 1) 0 _ _ _ T3.out)
        case measure => simp [intOf]; omega
    · obtain rfl : k = n := by omega
      have E : Hid (RES = some (L, x)) := Lib.hid (by rw [← HG.out, HN.out, List.drop_length, Ep.ofGo])
      obtain ⟨⟨x0, x1⟩, x2, x3⟩ := ob2 TW.out
      obtain ⟨⟨r0, r1⟩, r2, r3⟩ := ob2 RW.out
      clear HG HN H HL
      go_wp2
      exact bodyPost_ret (v := .tuple #[.agg #[.slice A' L.length c', .int .i64 x], .bool true]) (by simp [results, Try.results8, go_sem, r0, r1]) rfl
        (OfPost.yes E.out (OW.out.set2 RW.out (by decide) _ _) ((BW.out.setCell (p := ⟨w.heap.size, 0, none⟩) (Nat.le_refl _) _).setCell (p := ⟨w.heap.size, 1, none⟩) (Nat.le_refl _) _))
end Go.Proofs.Ytfidakogpgdnjaa
