/-
  The law GraphSays walked.
-/
import Derived.Test.YtiapacbbfgihdaaGrThree
import Derived.Test.YtiapacbbfgihdaaGrOwn
import Derived.Test.YtiapacbbfgihdaaGrShort
import Derived.Test.YtiapacbbfgihdaaGrCycle
import Derived.Test.YtiapacbbfgihdaaGrRefShort
import Derived.Test.YtiapacbbfgihdaaGrRefCycle
import Derived.Test.YtiapacbbfgihdaaGrRefReach
import Derived.Test.YtiapacbbfgihdaaGrRefAhead
import Derived.Test.YtiapacbbfgihdaaGrLawsP
import Derived.Test.YtiapacbbfgihdaaKeepCell
namespace Go.Proofs.Ytiapacbbfgihdaa
open Go.RowKit
theorem Gr.short_len (n : Int) (es : Gr.EI) : (Gr.shortI n es).length ≤ es.length := by
  unfold Gr.shortI
  split
  · exact List.length_filter_le _ _
  · exact Nat.le_refl _
theorem Gr.cyc16 (n : Int) (es : Gr.EI) : (Gr.cycleI n es).length ≤ 16 := by
  unfold Gr.cycleI
  split
  · next h =>
    have g := Gr.goodV_iff.1 h
    rw [Gr.ints_len]
    have h1 := (Gr.cycle_spec g.low).2
    have := g.n16
    omega
  · simp
theorem Gr.sel16 (n : Int) (es : Gr.EI) (p : Nat → Bool) : (if Gr.goodV n es then Gr.ints ((List.range n.toNat).filter p) else []).length ≤ 16 := by
  split
  · next h =>
    have g := Gr.goodV_iff.1 h
    rw [Gr.ints_len]
    have h1 := List.length_filter_le p (List.range n.toNat)
    rw [List.length_range] at h1
    have := g.n16
    omega
  · simp
theorem Gr.ahead16 (n : Int) (es : Gr.EI) (v : Int) : (Gr.aheadI n es v).length ≤ 16 := Gr.sel16 n es _
theorem Gr.behind16 (n : Int) (es : Gr.EI) (v : Int) : (Gr.behindI n es v).length ≤ 16 := Gr.sel16 n es _
theorem Gr.reach16 (n : Int) (es : Gr.EI) (v : Int) : (Gr.reachI n es v).length ≤ 16 := Gr.sel16 n es _
/-- Only the normal end is left open. -/
def NormalOnly (G : Act → World → Prop) : Exit → Act → World → Prop
  | .normal, a, w => G a w
  | _, _, _ => False
theorem region_to {P : Program} {c : Code} {Q : Exit → Act → World → Prop} {G : Act → Act → World → Prop} {a : Act} {w : World} (hreg : c.wp P (NormalOnly (G a)) a w) (h : ∀ a' w', G a a' w' → Q .normal a' w') : c.wp P Q a w :=
  Code.wp_mono (fun e a w hq => by cases e <;> first | exact h _ _ hq | exact hq.elim) hreg
/-- What stands behind the two Shorts: two boxes, each with the same edges. -/
def SaysG (W4 : World) (n : Int) (A : Option Addr) (l cap : Nat) (A3 : Option Addr) (c3 : Nat) (sh : Gr.EI) (a a' : Act) (w' : World) : Prop :=
  ∃ (X6 X7 : Nat) (A7 : Option Addr) (c7 : Nat) (A8 : Option Addr) (c8 : Nat),
    a' = (((((a.put (some 16) (.agg #[.int .i64 n, .slice A l cap])).put (some 17) (.agg #[.int .i64 n, .slice A7 sh.length c7])).put (some 18) (.agg #[.int .i64 n, .slice A3 l c3])).put (some 19) (.agg #[.int .i64 n, .slice A8 sh.length c8])).put (some 6) (.pointer (some ⟨X6, 0, none⟩))).put (some 7) (.pointer (some ⟨X7, 0, none⟩)) ∧
    Hid (w'.heap[X6]? = some (.cells #[.int .i64 n, .slice A7 sh.length c7] 25 (0, 0))) ∧ Hid (w'.heap[X7]? = some (.cells #[.int .i64 n, .slice A8 sh.length c8] 38 (0, 0))) ∧
    Hid (Edg w' w'.heap.size A7 sh) ∧ Hid (Edg w' w'.heap.size A8 sh) ∧ Hid (Below W4.heap.size W4 w')
/-- A row of edges lies in no box of a graph. -/
theorem Edg.box {w : World} {B : Nat} {A : Option Addr} {es : List (Int × Int)} (h : Edg w B A es) {X : Nat} {a : Int} {y : Option Addr} {m c : Nat} {T : TypeId} (hx : w.heap[X]? = some (.cells #[.int .i64 a, .slice y m c] T (0, 0))) (i : Nat) (v : Value) :
    Edg (w.setCell ⟨X, i, none⟩ v) B A es := by
  refine ⟨h.1, fun hn => ?_⟩
  obtain ⟨b, off, e, hb, hc⟩ := h.2 hn
  have hne : b ≠ X := by
    intro hbx
    subst hbx
    have h1 := (hc 0 hn).2
    simp only [World.cell?, hx] at h1
    cases off with
    | zero => simp at h1
    | succ k => simp at h1
  refine ⟨b, off, e, hb, fun j hj => ?_⟩
  obtain ⟨h1, h2⟩ := hc j hj
  have hk := heap_setCell_other w ⟨X, i, none⟩ b v hne
  constructor
  · rw [← h1]; simp only [World.cell?, hk]
  · rw [← h2]; simp only [World.cell?, hk]
set_option maxRecDepth 100000 in
set_option maxHeartbeats 8000000 in
theorem says_walk (A : Option Addr) (es : List (Int × Int)) (cap : Nat) (n v : Int) (w : World) (hl : es.length ≤ 9223372036854775807) (_hcap : es.length ≤ cap) (h : Edg w w.heap.size A es) (v0 : -9223372036854775808 ≤ v) (v1 : v ≤ 9223372036854775807) :
    Calls Try.prog 4 #[.agg #[.int .i64 n, .slice A es.length cap], .int .i64 v] w (BoolG w true) := by
  have AW : Hid (∀ W, Calls Try.prog 8 #[] W (BoolG W true)) := Lib.hid awake_any
  have H := Lib.hid h
  have HV : Hid (inI v) := Lib.hid ⟨v0, v1⟩
  obtain ⟨l, hll⟩ : ∃ l, l = es.length := ⟨_, rfl⟩
  have HLL := Lib.hid hll
  rw [← hll]
  obtain ⟨W1, hW1⟩ : ∃ W1, W1 = w.alloc (.cells #[.int .i64 n, .slice A l cap] 25) := ⟨_, rfl⟩
  have P1 : Hid (W1.heap[w.heap.size]? = some (.cells #[.int .i64 n, .slice A l cap] 25 (0, 0))) := Lib.hid (by rw [hW1]; exact heap_alloc_new ..)
  have B1 : Hid (Below w.heap.size w W1) := Lib.hid (by rw [hW1]; exact (Below.refl _ _).alloc (Nat.le_refl _) _)
  clear h hl hll v0 v1
  go_enter Try.func4, Try.ntmps4
  go_wp2_with fail
  rw [← hW1]
  clear hW1
  (with_reducible refine (AW.out _).mono ?_); rintro e w2 ⟨rfl, b2⟩
  have P2 : Hid (w2.heap[w.heap.size]? = some (.cells #[.int .i64 n, .slice A l cap] 25 (0, 0))) := Lib.hid ((b2.out.block _ (lt_of_block P1.out)).trans P1.out)
  have B2 : Hid (Below w.heap.size w w2) := Lib.hid (B1.out.trans (b2.out.mono B1.out.size))
  clear b2
  obtain ⟨⟨y0, y1⟩, -⟩ := obG P2.out
  by_cases h60 : 60 < l
  · have h60' : (60 : Int) < (l : Int) := by omega
    go_wp2
    go_ret
    exact ⟨rfl, B2⟩
  have h60' : (l : Int) ≤ 60 := by omega
  have OW : Hid (Calls Try.prog 17 #[.agg #[.int .i64 n, .slice A l cap]] w2 (RefPost w2 n es)) := Lib.hid (by
    have := own_any n A es cap (by rw [← HLL.out]; omega) w2 (H.out.on B2.out)
    rwa [← HLL.out] at this)
  go_wp2_with fail
  (with_reducible refine OW.out.mono ?_); rintro e w3 ⟨A3, c3, rfl, o3, b3⟩
  rw [← HLL.out]
  have P3 : Hid (w3.heap[w.heap.size]? = some (.cells #[.int .i64 n, .slice A l cap] 25 (0, 0))) := Lib.hid ((b3.out.block _ (lt_of_block P2.out)).trans P2.out)
  have B3 : Hid (Below w.heap.size w w3) := Lib.hid (B2.out.trans (b3.out.mono B2.out.size))
  have hw3 : w.heap.size < w3.heap.size := lt_of_block P3.out
  clear b3 y0 y1 OW
  obtain ⟨X, hX⟩ : ∃ X, X = w3.heap.size := ⟨_, rfl⟩
  obtain ⟨W4, hW4⟩ : ∃ W4, W4 = w3.alloc (.cells #[.int .i64 n, .slice A3 l c3] 38) := ⟨_, rfl⟩
  have X4 : Hid (W4.heap[X]? = some (.cells #[.int .i64 n, .slice A3 l c3] 38 (0, 0))) := Lib.hid (by rw [hW4, hX]; exact heap_alloc_new ..)
  have C4 : Hid (Below w3.heap.size w3 W4) := Lib.hid (by rw [hW4]; exact (Below.refl _ _).alloc (Nat.le_refl _) _)
  have P4 : Hid (W4.heap[w.heap.size]? = some (.cells #[.int .i64 n, .slice A l cap] 25 (0, 0))) := Lib.hid ((C4.out.block _ hw3).trans P3.out)
  have B4 : Hid (Below w.heap.size w W4) := Lib.hid (B3.out.trans (C4.out.mono B3.out.size))
  have E4 : Hid (Edg W4 W4.heap.size A3 es) := Lib.hid (o3.out.on C4.out)
  have G4 : Hid (Edg W4 W4.heap.size A es) := Lib.hid (H.out.on B4.out)
  have SN : Hid (∀ w', Below W4.heap.size W4 w' → w'.cell? ⟨w.heap.size, 0, none⟩ = some (.int .i64 n) ∧ w'.cell? ⟨w.heap.size, 1, none⟩ = some (.slice A l cap) ∧ w'.cell? ⟨X, 0, none⟩ = some (.int .i64 n) ∧ w'.cell? ⟨X, 1, none⟩ = some (.slice A3 l c3)) := Lib.hid fun w' hw => by
    have h1 := (obG ((hw.block _ (lt_of_block P4.out)).trans P4.out)).1
    have h2 := (obG ((hw.block _ (lt_of_block X4.out)).trans X4.out)).1
    exact ⟨h1.1, h1.2, h2.1, h2.2⟩
  obtain ⟨sh, hsh⟩ : ∃ sh, sh = Gr.shortI n es := ⟨_, rfl⟩
  have SL : Hid (sh.length ≤ 60) := Lib.hid (by rw [hsh]; have := Gr.short_len n es; have := HLL.out; omega)
  have SC : Hid (∀ W, Below W4.heap.size W4 W → Calls Try.prog 13 #[.agg #[.int .i64 n, .slice A l cap]] W (GrPost W n sh)) := Lib.hid fun W hW => by
    have := short_any n A es cap (by rw [← HLL.out]; omega) W (G4.out.on hW)
    rwa [← HLL.out, ← hsh] at this
  have SR : Hid (∀ W, Below W4.heap.size W4 W → Calls Try.prog 18 #[.agg #[.int .i64 n, .slice A3 l c3]] W (RefPost W n sh)) := Lib.hid fun W hW => by
    have := refShort_any n A3 es c3 (by rw [← HLL.out]; omega) W (E4.out.on hW)
    rwa [← HLL.out, ← hsh] at this
  clear o3 hsh
  go_wp2_with fail
  rw [← hW4, ← hX]
  clear hW4 hX
  refine region_to (G := SaysG W4 n A l cap A3 c3 sh) ?reg ?rest
  case reg =>
    have FB : Hid (Below W4.heap.size W4 W4.drew) := Lib.hid (Below.refl _ _).drew
    refine wp_region_held_drew (S := fun w' => w'.cell? ⟨w.heap.size, 0, none⟩ = some (.int .i64 n) ∧ w'.cell? ⟨w.heap.size, 1, none⟩ = some (.slice A l cap) ∧ w'.cell? ⟨X, 0, none⟩ = some (.int .i64 n) ∧ w'.cell? ⟨X, 1, none⟩ = some (.slice A3 l c3)) (by kernel_rfl) ?hS0 (fun hHeld => ?_)
    case hS0 => exact (SN.out _ FB.out)
    generalize W4.drew = u0 at *
    refine wpAnyH_take (i := 0) (oi := ?o1) (v := ?v1) ?hi1 (by kernel_rfl) (by kernel_rfl) (by kernel_rfl) ?hQ1 (Or.inl ⟨?hg1, ?hy1⟩) (by assumption) ?rest1
    case hi1 => (simp only [List.getElem?_toArray, List.getElem?_cons_zero]; exact rfl)
    case hQ1 => exact fun _ _ _ h => h
    case hg1 => rfl
    case hy1 => (intro w' hSw; (try dsimp only at hSw); go_simp; try with_reducible rfl)
    try simp only [Act.put, List.setIfInBounds_toArray, List.set_cons_zero, List.set_cons_succ]
    refine wpAnyH_take (i := 2) (oi := ?o2) (v := ?v2) ?hi2 (by kernel_rfl) (by kernel_rfl) (by kernel_rfl) ?hQ2 (Or.inl ⟨?hg2, ?hy2⟩) (by assumption) ?rest2
    case hi2 => (simp only [List.getElem?_toArray, List.getElem?_cons_zero, List.getElem?_cons_succ]; exact rfl)
    case hQ2 => exact fun _ _ _ h => h
    case hg2 => rfl
    case hy2 => (intro w' hSw; (try dsimp only at hSw); go_simp; try with_reducible rfl)
    try simp only [Act.put, List.setIfInBounds_toArray, List.set_cons_zero, List.set_cons_succ]
    refine wpAnyH_ready (rs := [1, 4, 5]) (by kernel_rfl) (by simp) ?_
    refine AllReadyH.cons (o := ?o3_1) ?hi3_1 (fun K hK => ?st3_1) <| AllReadyH.cons (o := ?o3_4) ?hi3_4 (fun K hK => ?st3_4) <| AllReadyH.cons (o := ?o3_5) ?hi3_5 (fun K hK => ?st3_5) <| AllReadyH.nil
    case hi3_1 => (simp only [List.getElem?_toArray, List.getElem?_cons_zero, List.getElem?_cons_succ]; exact rfl)
    case hi3_4 => (simp only [List.getElem?_toArray, List.getElem?_cons_zero, List.getElem?_cons_succ]; exact rfl)
    case hi3_5 => (simp only [List.getElem?_toArray, List.getElem?_cons_zero, List.getElem?_cons_succ]; exact rfl)
    case st3_1 =>
      go_simp
      go_at_call 13
      (with_reducible refine (SC.out _ FB.out).mono ?_)
      rintro e u1 ⟨A7, c7, rfl, o7, b7⟩
      try dsimp only
      have FB : Hid (Below W4.heap.size W4 u1) := Lib.hid (FB.out.trans (b7.out.mono FB.out.size))
      have F1 : Hid (Edg u1 u1.heap.size A7 sh) := Lib.hid o7.out.edg
      clear o7 b7
      refine hK.out _ _ (SN.out _ FB.out) (fun hHeld => ?_)
      clear hK K
      try simp only [Act.put, List.setIfInBounds_toArray, List.set_cons_zero, List.set_cons_succ]
      refine wpAnyH_ready (rs := [3, 4, 5]) (by kernel_rfl) (by simp) ?_
      refine AllReadyH.cons (o := ?o4_3) ?hi4_3 (fun K hK => ?st4_3) <| AllReadyH.cons (o := ?o4_4) ?hi4_4 (fun K hK => ?st4_4) <| AllReadyH.cons (o := ?o4_5) ?hi4_5 (fun K hK => ?st4_5) <| AllReadyH.nil
      case hi4_3 => (simp only [List.getElem?_toArray, List.getElem?_cons_zero, List.getElem?_cons_succ]; exact rfl)
      case hi4_4 => (simp only [List.getElem?_toArray, List.getElem?_cons_zero, List.getElem?_cons_succ]; exact rfl)
      case hi4_5 => (simp only [List.getElem?_toArray, List.getElem?_cons_zero, List.getElem?_cons_succ]; exact rfl)
      case st4_3 =>
        go_simp
        go_at_call 18
        (with_reducible refine (SR.out _ FB.out).mono ?_)
        rintro e u2 ⟨A8, c8, rfl, o8, b8⟩
        try dsimp only
        have F1 : Hid (Edg u2 u2.heap.size A7 sh) := Lib.hid (F1.out.on b8.out)
        have FB : Hid (Below W4.heap.size W4 u2) := Lib.hid (FB.out.trans (b8.out.mono FB.out.size))
        have F3 : Hid (Edg u2 u2.heap.size A8 sh) := Lib.hid o8.out
        clear o8 b8
        refine hK.out _ _ (SN.out _ FB.out) (fun hHeld => ?_)
        clear hK K
        try simp only [Act.put, List.setIfInBounds_toArray, List.set_cons_zero, List.set_cons_succ]
        refine wpAnyH_ready (rs := [4, 5]) (by kernel_rfl) (by simp) ?_
        refine AllReadyH.cons (o := ?o5_4) ?hi5_4 (fun K hK => ?st5_4) <| AllReadyH.cons (o := ?o5_5) ?hi5_5 (fun K hK => ?st5_5) <| AllReadyH.nil
        case hi5_4 => (simp only [List.getElem?_toArray, List.getElem?_cons_zero, List.getElem?_cons_succ]; exact rfl)
        case hi5_5 => (simp only [List.getElem?_toArray, List.getElem?_cons_zero, List.getElem?_cons_succ]; exact rfl)
        case st5_4 =>
          go_simp
          obtain ⟨X6, hX6⟩ : ∃ X6, X6 = u2.heap.size := ⟨_, rfl⟩
          obtain ⟨u3, hu3⟩ : ∃ u3, u3 = u2.alloc (.cells #[.int .i64 0, .slice none 0 0] 25) := ⟨_, rfl⟩
          first | rw [← hu3, ← hX6] | (simp only [World.drew] at hX6 ⊢; rw [← hu3, ← hX6]) | rw [← hu3, show W4.heap.size = X6 from hX6.symm]
          have bb : Below u2.heap.size u2 u3 := by rw [hu3]; exact (Below.refl _ _).alloc (Nat.le_refl _) _
          have G6 : W4.heap.size ≤ X6 := by have := FB.out.size; omega
          have F1 : Hid (Edg u3 u3.heap.size A7 sh) := Lib.hid (F1.out.on bb)
          have F3 : Hid (Edg u3 u3.heap.size A8 sh) := Lib.hid (F3.out.on bb)
          have FB : Hid (Below W4.heap.size W4 u3) := Lib.hid (FB.out.trans (bb.mono FB.out.size))
          have F6 : Hid (u3.heap[X6]? = some (.cells #[.int .i64 0, .slice none 0 0] 25 (0, 0))) := Lib.hid (by rw [hu3, hX6]; exact heap_alloc_new ..)
          clear hu3 hX6 bb
          refine hK.out _ _ (SN.out _ FB.out) (fun hHeld => ?_)
          clear hK K
          try simp only [Act.put, List.setIfInBounds_toArray, List.set_cons_zero, List.set_cons_succ]
          refine wpAnyH_ready (rs := [5]) (by kernel_rfl) (by simp) ?_
          refine AllReadyH.cons (o := ?o6_5) ?hi6_5 (fun K hK => ?st6_5) <| AllReadyH.nil
          case hi6_5 => (simp only [List.getElem?_toArray, List.getElem?_cons_zero, List.getElem?_cons_succ]; exact rfl)
          case st6_5 =>
            go_simp
            obtain ⟨X7, hX7⟩ : ∃ X7, X7 = u3.heap.size := ⟨_, rfl⟩
            obtain ⟨u4, hu4⟩ : ∃ u4, u4 = u3.alloc (.cells #[.int .i64 0, .slice none 0 0] 38) := ⟨_, rfl⟩
            first | rw [← hu4, ← hX7] | (simp only [World.drew] at hX7 ⊢; rw [← hu4, ← hX7]) | rw [← hu4, show W4.heap.size = X7 from hX7.symm]
            have bb : Below u3.heap.size u3 u4 := by rw [hu4]; exact (Below.refl _ _).alloc (Nat.le_refl _) _
            have hne : X6 ≠ X7 := by have := lt_of_block F6.out; omega
            have G7 : W4.heap.size ≤ X7 := by have := FB.out.size; omega
            have F1 : Hid (Edg u4 u4.heap.size A7 sh) := Lib.hid (F1.out.on bb)
            have F3 : Hid (Edg u4 u4.heap.size A8 sh) := Lib.hid (F3.out.on bb)
            have F6 : Hid (u4.heap[X6]? = some (.cells #[.int .i64 0, .slice none 0 0] 25 (0, 0))) := Lib.hid ((bb.block _ (lt_of_block F6.out)).trans F6.out)
            have FB : Hid (Below W4.heap.size W4 u4) := Lib.hid (FB.out.trans (bb.mono FB.out.size))
            have F7 : Hid (u4.heap[X7]? = some (.cells #[.int .i64 0, .slice none 0 0] 38 (0, 0))) := Lib.hid (by rw [hu4, hX7]; exact heap_alloc_new ..)
            clear hu4 hX7 bb
            refine hK.out _ _ (SN.out _ FB.out) (fun hHeld => ?_)
            clear hK K
            try simp only [Act.put, List.setIfInBounds_toArray, List.set_cons_zero, List.set_cons_succ]
            obtain ⟨⟨p0, p1⟩, p2, p3⟩ := obG F6.out
            have T6 : ((u4.setCell ⟨X6, 0, none⟩ (.int .i64 n)).setCell ⟨X6, 1, none⟩ (.slice A7 sh.length c7)).heap[X6]? = some (.cells #[.int .i64 n, .slice A7 sh.length c7] 25 (0, 0)) := heap_setCell_same (u4.setCell ⟨X6, 0, none⟩ (.int .i64 n)) X6 1 _ _ (.slice A7 sh.length c7) (heap_setCell_same u4 X6 0 _ _ (.int .i64 n) F6.out)
            have T7 : ((u4.setCell ⟨X6, 0, none⟩ (.int .i64 n)).setCell ⟨X6, 1, none⟩ (.slice A7 sh.length c7)).heap[X7]? = some (.cells #[.int .i64 0, .slice none 0 0] 38 (0, 0)) := by rw [heap_setCell_other _ _ _ _ (Ne.symm hne), heap_setCell_other _ _ _ _ (Ne.symm hne)]; exact F7.out
            have E1 : Edg ((u4.setCell ⟨X6, 0, none⟩ (.int .i64 n)).setCell ⟨X6, 1, none⟩ (.slice A7 sh.length c7)) ((u4.setCell ⟨X6, 0, none⟩ (.int .i64 n)).setCell ⟨X6, 1, none⟩ (.slice A7 sh.length c7)).heap.size A7 sh := ((F1.out.box F6.out 0 _).box (heap_setCell_same u4 X6 0 _ _ (.int .i64 n) F6.out) 1 _).more (by simp)
            have E3 : Edg ((u4.setCell ⟨X6, 0, none⟩ (.int .i64 n)).setCell ⟨X6, 1, none⟩ (.slice A7 sh.length c7)) ((u4.setCell ⟨X6, 0, none⟩ (.int .i64 n)).setCell ⟨X6, 1, none⟩ (.slice A7 sh.length c7)).heap.size A8 sh := ((F3.out.box F6.out 0 _).box (heap_setCell_same u4 X6 0 _ _ (.int .i64 n) F6.out) 1 _).more (by simp)
            have H6 : Below W4.heap.size W4 ((u4.setCell ⟨X6, 0, none⟩ (.int .i64 n)).setCell ⟨X6, 1, none⟩ (.slice A7 sh.length c7)) := (FB.out.setCell (p := ⟨X6, 0, none⟩) G6 _).setCell (p := ⟨X6, 1, none⟩) G6 _
            refine wpAnyH_ready (rs := [6]) (by kernel_rfl) (by simp) ?_
            refine AllReadyH.cons (o := ?o7) ?hi7 (fun K hK => ?_) AllReadyH.nil
            case hi7 => (simp only [List.getElem?_toArray, List.getElem?_cons_zero, List.getElem?_cons_succ]; exact rfl)
            go_simp
            refine hK.out _ _ (SN.out _ H6) (fun hHeld => ?_)
            clear hK K p0 p1 p2 p3
            try simp only [Act.put, List.setIfInBounds_toArray, List.set_cons_zero, List.set_cons_succ]
            clear F1 F3 F6 F7 FB
            generalize ((u4.setCell ⟨X6, 0, none⟩ (.int .i64 n)).setCell ⟨X6, 1, none⟩ (.slice A7 sh.length c7)) = um at *
            obtain ⟨⟨p0, p1⟩, p2, p3⟩ := obG T7
            have V7 : ((um.setCell ⟨X7, 0, none⟩ (.int .i64 n)).setCell ⟨X7, 1, none⟩ (.slice A8 sh.length c8)).heap[X7]? = some (.cells #[.int .i64 n, .slice A8 sh.length c8] 38 (0, 0)) := heap_setCell_same (um.setCell ⟨X7, 0, none⟩ (.int .i64 n)) X7 1 _ _ (.slice A8 sh.length c8) (heap_setCell_same um X7 0 _ _ (.int .i64 n) T7)
            have V6 : ((um.setCell ⟨X7, 0, none⟩ (.int .i64 n)).setCell ⟨X7, 1, none⟩ (.slice A8 sh.length c8)).heap[X6]? = some (.cells #[.int .i64 n, .slice A7 sh.length c7] 25 (0, 0)) := by rw [heap_setCell_other _ _ _ _ hne, heap_setCell_other _ _ _ _ hne]; exact T6
            have V1 : Edg ((um.setCell ⟨X7, 0, none⟩ (.int .i64 n)).setCell ⟨X7, 1, none⟩ (.slice A8 sh.length c8)) ((um.setCell ⟨X7, 0, none⟩ (.int .i64 n)).setCell ⟨X7, 1, none⟩ (.slice A8 sh.length c8)).heap.size A7 sh := ((E1.box T7 0 _).box (heap_setCell_same um X7 0 _ _ (.int .i64 n) T7) 1 _).more (by simp)
            have V3 : Edg ((um.setCell ⟨X7, 0, none⟩ (.int .i64 n)).setCell ⟨X7, 1, none⟩ (.slice A8 sh.length c8)) ((um.setCell ⟨X7, 0, none⟩ (.int .i64 n)).setCell ⟨X7, 1, none⟩ (.slice A8 sh.length c8)).heap.size A8 sh := ((E3.box T7 0 _).box (heap_setCell_same um X7 0 _ _ (.int .i64 n) T7) 1 _).more (by simp)
            have H7 : Below W4.heap.size W4 ((um.setCell ⟨X7, 0, none⟩ (.int .i64 n)).setCell ⟨X7, 1, none⟩ (.slice A8 sh.length c8)) := (H6.setCell (p := ⟨X7, 0, none⟩) G7 _).setCell (p := ⟨X7, 1, none⟩) G7 _
            refine wpAnyH_ready (rs := [7]) (by kernel_rfl) (by simp) ?_
            refine AllReadyH.cons (o := ?o8) ?hi8 (fun K hK => ?_) AllReadyH.nil
            case hi8 => (simp only [List.getElem?_toArray, List.getElem?_cons_zero, List.getElem?_cons_succ]; exact rfl)
            go_simp
            refine hK.out _ _ (SN.out _ H7) (fun hHeld => ?_)
            clear hK K p0 p1 p2 p3
            try simp only [Act.put, List.setIfInBounds_toArray, List.set_cons_zero, List.set_cons_succ]
            refine wpAnyH_done (by kernel_rfl) ?_ _
            exact ⟨X6, X7, A7, c7, A8, c8, (by simp only [Act.put, List.setIfInBounds_toArray, List.set_cons_zero, List.set_cons_succ]), Lib.hid V6, Lib.hid V7, Lib.hid V1, Lib.hid V3, Lib.hid H7⟩
        case st5_5 =>
          go_simp
          obtain ⟨X7, hX7⟩ : ∃ X7, X7 = u2.heap.size := ⟨_, rfl⟩
          obtain ⟨u3, hu3⟩ : ∃ u3, u3 = u2.alloc (.cells #[.int .i64 0, .slice none 0 0] 38) := ⟨_, rfl⟩
          first | rw [← hu3, ← hX7] | (simp only [World.drew] at hX7 ⊢; rw [← hu3, ← hX7]) | rw [← hu3, show W4.heap.size = X7 from hX7.symm]
          have bb : Below u2.heap.size u2 u3 := by rw [hu3]; exact (Below.refl _ _).alloc (Nat.le_refl _) _
          have G7 : W4.heap.size ≤ X7 := by have := FB.out.size; omega
          have F1 : Hid (Edg u3 u3.heap.size A7 sh) := Lib.hid (F1.out.on bb)
          have F3 : Hid (Edg u3 u3.heap.size A8 sh) := Lib.hid (F3.out.on bb)
          have FB : Hid (Below W4.heap.size W4 u3) := Lib.hid (FB.out.trans (bb.mono FB.out.size))
          have F7 : Hid (u3.heap[X7]? = some (.cells #[.int .i64 0, .slice none 0 0] 38 (0, 0))) := Lib.hid (by rw [hu3, hX7]; exact heap_alloc_new ..)
          clear hu3 hX7 bb
          refine hK.out _ _ (SN.out _ FB.out) (fun hHeld => ?_)
          clear hK K
          try simp only [Act.put, List.setIfInBounds_toArray, List.set_cons_zero, List.set_cons_succ]
          refine wpAnyH_ready (rs := [4]) (by kernel_rfl) (by simp) ?_
          refine AllReadyH.cons (o := ?o9_4) ?hi9_4 (fun K hK => ?st9_4) <| AllReadyH.nil
          case hi9_4 => (simp only [List.getElem?_toArray, List.getElem?_cons_zero, List.getElem?_cons_succ]; exact rfl)
          case st9_4 =>
            go_simp
            obtain ⟨X6, hX6⟩ : ∃ X6, X6 = u3.heap.size := ⟨_, rfl⟩
            obtain ⟨u4, hu4⟩ : ∃ u4, u4 = u3.alloc (.cells #[.int .i64 0, .slice none 0 0] 25) := ⟨_, rfl⟩
            first | rw [← hu4, ← hX6] | (simp only [World.drew] at hX6 ⊢; rw [← hu4, ← hX6]) | rw [← hu4, show W4.heap.size = X6 from hX6.symm]
            have bb : Below u3.heap.size u3 u4 := by rw [hu4]; exact (Below.refl _ _).alloc (Nat.le_refl _) _
            have hne : X6 ≠ X7 := by have := lt_of_block F7.out; omega
            have G6 : W4.heap.size ≤ X6 := by have := FB.out.size; omega
            have F1 : Hid (Edg u4 u4.heap.size A7 sh) := Lib.hid (F1.out.on bb)
            have F3 : Hid (Edg u4 u4.heap.size A8 sh) := Lib.hid (F3.out.on bb)
            have F7 : Hid (u4.heap[X7]? = some (.cells #[.int .i64 0, .slice none 0 0] 38 (0, 0))) := Lib.hid ((bb.block _ (lt_of_block F7.out)).trans F7.out)
            have FB : Hid (Below W4.heap.size W4 u4) := Lib.hid (FB.out.trans (bb.mono FB.out.size))
            have F6 : Hid (u4.heap[X6]? = some (.cells #[.int .i64 0, .slice none 0 0] 25 (0, 0))) := Lib.hid (by rw [hu4, hX6]; exact heap_alloc_new ..)
            clear hu4 hX6 bb
            refine hK.out _ _ (SN.out _ FB.out) (fun hHeld => ?_)
            clear hK K
            try simp only [Act.put, List.setIfInBounds_toArray, List.set_cons_zero, List.set_cons_succ]
            obtain ⟨⟨p0, p1⟩, p2, p3⟩ := obG F6.out
            have T6 : ((u4.setCell ⟨X6, 0, none⟩ (.int .i64 n)).setCell ⟨X6, 1, none⟩ (.slice A7 sh.length c7)).heap[X6]? = some (.cells #[.int .i64 n, .slice A7 sh.length c7] 25 (0, 0)) := heap_setCell_same (u4.setCell ⟨X6, 0, none⟩ (.int .i64 n)) X6 1 _ _ (.slice A7 sh.length c7) (heap_setCell_same u4 X6 0 _ _ (.int .i64 n) F6.out)
            have T7 : ((u4.setCell ⟨X6, 0, none⟩ (.int .i64 n)).setCell ⟨X6, 1, none⟩ (.slice A7 sh.length c7)).heap[X7]? = some (.cells #[.int .i64 0, .slice none 0 0] 38 (0, 0)) := by rw [heap_setCell_other _ _ _ _ (Ne.symm hne), heap_setCell_other _ _ _ _ (Ne.symm hne)]; exact F7.out
            have E1 : Edg ((u4.setCell ⟨X6, 0, none⟩ (.int .i64 n)).setCell ⟨X6, 1, none⟩ (.slice A7 sh.length c7)) ((u4.setCell ⟨X6, 0, none⟩ (.int .i64 n)).setCell ⟨X6, 1, none⟩ (.slice A7 sh.length c7)).heap.size A7 sh := ((F1.out.box F6.out 0 _).box (heap_setCell_same u4 X6 0 _ _ (.int .i64 n) F6.out) 1 _).more (by simp)
            have E3 : Edg ((u4.setCell ⟨X6, 0, none⟩ (.int .i64 n)).setCell ⟨X6, 1, none⟩ (.slice A7 sh.length c7)) ((u4.setCell ⟨X6, 0, none⟩ (.int .i64 n)).setCell ⟨X6, 1, none⟩ (.slice A7 sh.length c7)).heap.size A8 sh := ((F3.out.box F6.out 0 _).box (heap_setCell_same u4 X6 0 _ _ (.int .i64 n) F6.out) 1 _).more (by simp)
            have H6 : Below W4.heap.size W4 ((u4.setCell ⟨X6, 0, none⟩ (.int .i64 n)).setCell ⟨X6, 1, none⟩ (.slice A7 sh.length c7)) := (FB.out.setCell (p := ⟨X6, 0, none⟩) G6 _).setCell (p := ⟨X6, 1, none⟩) G6 _
            refine wpAnyH_ready (rs := [6]) (by kernel_rfl) (by simp) ?_
            refine AllReadyH.cons (o := ?o10) ?hi10 (fun K hK => ?_) AllReadyH.nil
            case hi10 => (simp only [List.getElem?_toArray, List.getElem?_cons_zero, List.getElem?_cons_succ]; exact rfl)
            go_simp
            refine hK.out _ _ (SN.out _ H6) (fun hHeld => ?_)
            clear hK K p0 p1 p2 p3
            try simp only [Act.put, List.setIfInBounds_toArray, List.set_cons_zero, List.set_cons_succ]
            clear F1 F3 F6 F7 FB
            generalize ((u4.setCell ⟨X6, 0, none⟩ (.int .i64 n)).setCell ⟨X6, 1, none⟩ (.slice A7 sh.length c7)) = um at *
            obtain ⟨⟨p0, p1⟩, p2, p3⟩ := obG T7
            have V7 : ((um.setCell ⟨X7, 0, none⟩ (.int .i64 n)).setCell ⟨X7, 1, none⟩ (.slice A8 sh.length c8)).heap[X7]? = some (.cells #[.int .i64 n, .slice A8 sh.length c8] 38 (0, 0)) := heap_setCell_same (um.setCell ⟨X7, 0, none⟩ (.int .i64 n)) X7 1 _ _ (.slice A8 sh.length c8) (heap_setCell_same um X7 0 _ _ (.int .i64 n) T7)
            have V6 : ((um.setCell ⟨X7, 0, none⟩ (.int .i64 n)).setCell ⟨X7, 1, none⟩ (.slice A8 sh.length c8)).heap[X6]? = some (.cells #[.int .i64 n, .slice A7 sh.length c7] 25 (0, 0)) := by rw [heap_setCell_other _ _ _ _ hne, heap_setCell_other _ _ _ _ hne]; exact T6
            have V1 : Edg ((um.setCell ⟨X7, 0, none⟩ (.int .i64 n)).setCell ⟨X7, 1, none⟩ (.slice A8 sh.length c8)) ((um.setCell ⟨X7, 0, none⟩ (.int .i64 n)).setCell ⟨X7, 1, none⟩ (.slice A8 sh.length c8)).heap.size A7 sh := ((E1.box T7 0 _).box (heap_setCell_same um X7 0 _ _ (.int .i64 n) T7) 1 _).more (by simp)
            have V3 : Edg ((um.setCell ⟨X7, 0, none⟩ (.int .i64 n)).setCell ⟨X7, 1, none⟩ (.slice A8 sh.length c8)) ((um.setCell ⟨X7, 0, none⟩ (.int .i64 n)).setCell ⟨X7, 1, none⟩ (.slice A8 sh.length c8)).heap.size A8 sh := ((E3.box T7 0 _).box (heap_setCell_same um X7 0 _ _ (.int .i64 n) T7) 1 _).more (by simp)
            have H7 : Below W4.heap.size W4 ((um.setCell ⟨X7, 0, none⟩ (.int .i64 n)).setCell ⟨X7, 1, none⟩ (.slice A8 sh.length c8)) := (H6.setCell (p := ⟨X7, 0, none⟩) G7 _).setCell (p := ⟨X7, 1, none⟩) G7 _
            refine wpAnyH_ready (rs := [7]) (by kernel_rfl) (by simp) ?_
            refine AllReadyH.cons (o := ?o11) ?hi11 (fun K hK => ?_) AllReadyH.nil
            case hi11 => (simp only [List.getElem?_toArray, List.getElem?_cons_zero, List.getElem?_cons_succ]; exact rfl)
            go_simp
            refine hK.out _ _ (SN.out _ H7) (fun hHeld => ?_)
            clear hK K p0 p1 p2 p3
            try simp only [Act.put, List.setIfInBounds_toArray, List.set_cons_zero, List.set_cons_succ]
            refine wpAnyH_done (by kernel_rfl) ?_ _
            exact ⟨X6, X7, A7, c7, A8, c8, (by simp only [Act.put, List.setIfInBounds_toArray, List.set_cons_zero, List.set_cons_succ]), Lib.hid V6, Lib.hid V7, Lib.hid V1, Lib.hid V3, Lib.hid H7⟩
      case st4_4 =>
        go_simp
        obtain ⟨X6, hX6⟩ : ∃ X6, X6 = u1.heap.size := ⟨_, rfl⟩
        obtain ⟨u2, hu2⟩ : ∃ u2, u2 = u1.alloc (.cells #[.int .i64 0, .slice none 0 0] 25) := ⟨_, rfl⟩
        first | rw [← hu2, ← hX6] | (simp only [World.drew] at hX6 ⊢; rw [← hu2, ← hX6]) | rw [← hu2, show W4.heap.size = X6 from hX6.symm]
        have bb : Below u1.heap.size u1 u2 := by rw [hu2]; exact (Below.refl _ _).alloc (Nat.le_refl _) _
        have G6 : W4.heap.size ≤ X6 := by have := FB.out.size; omega
        have F1 : Hid (Edg u2 u2.heap.size A7 sh) := Lib.hid (F1.out.on bb)
        have FB : Hid (Below W4.heap.size W4 u2) := Lib.hid (FB.out.trans (bb.mono FB.out.size))
        have F6 : Hid (u2.heap[X6]? = some (.cells #[.int .i64 0, .slice none 0 0] 25 (0, 0))) := Lib.hid (by rw [hu2, hX6]; exact heap_alloc_new ..)
        clear hu2 hX6 bb
        refine hK.out _ _ (SN.out _ FB.out) (fun hHeld => ?_)
        clear hK K
        try simp only [Act.put, List.setIfInBounds_toArray, List.set_cons_zero, List.set_cons_succ]
        refine wpAnyH_ready (rs := [3, 5]) (by kernel_rfl) (by simp) ?_
        refine AllReadyH.cons (o := ?o12_3) ?hi12_3 (fun K hK => ?st12_3) <| AllReadyH.cons (o := ?o12_5) ?hi12_5 (fun K hK => ?st12_5) <| AllReadyH.nil
        case hi12_3 => (simp only [List.getElem?_toArray, List.getElem?_cons_zero, List.getElem?_cons_succ]; exact rfl)
        case hi12_5 => (simp only [List.getElem?_toArray, List.getElem?_cons_zero, List.getElem?_cons_succ]; exact rfl)
        case st12_3 =>
          go_simp
          go_at_call 18
          (with_reducible refine (SR.out _ FB.out).mono ?_)
          rintro e u3 ⟨A8, c8, rfl, o8, b8⟩
          try dsimp only
          have F1 : Hid (Edg u3 u3.heap.size A7 sh) := Lib.hid (F1.out.on b8.out)
          have F6 : Hid (u3.heap[X6]? = some (.cells #[.int .i64 0, .slice none 0 0] 25 (0, 0))) := Lib.hid ((b8.out.block _ (lt_of_block F6.out)).trans F6.out)
          have FB : Hid (Below W4.heap.size W4 u3) := Lib.hid (FB.out.trans (b8.out.mono FB.out.size))
          have F3 : Hid (Edg u3 u3.heap.size A8 sh) := Lib.hid o8.out
          clear o8 b8
          refine hK.out _ _ (SN.out _ FB.out) (fun hHeld => ?_)
          clear hK K
          try simp only [Act.put, List.setIfInBounds_toArray, List.set_cons_zero, List.set_cons_succ]
          refine wpAnyH_ready (rs := [5]) (by kernel_rfl) (by simp) ?_
          refine AllReadyH.cons (o := ?o13_5) ?hi13_5 (fun K hK => ?st13_5) <| AllReadyH.nil
          case hi13_5 => (simp only [List.getElem?_toArray, List.getElem?_cons_zero, List.getElem?_cons_succ]; exact rfl)
          case st13_5 =>
            go_simp
            obtain ⟨X7, hX7⟩ : ∃ X7, X7 = u3.heap.size := ⟨_, rfl⟩
            obtain ⟨u4, hu4⟩ : ∃ u4, u4 = u3.alloc (.cells #[.int .i64 0, .slice none 0 0] 38) := ⟨_, rfl⟩
            first | rw [← hu4, ← hX7] | (simp only [World.drew] at hX7 ⊢; rw [← hu4, ← hX7]) | rw [← hu4, show W4.heap.size = X7 from hX7.symm]
            have bb : Below u3.heap.size u3 u4 := by rw [hu4]; exact (Below.refl _ _).alloc (Nat.le_refl _) _
            have hne : X6 ≠ X7 := by have := lt_of_block F6.out; omega
            have G7 : W4.heap.size ≤ X7 := by have := FB.out.size; omega
            have F1 : Hid (Edg u4 u4.heap.size A7 sh) := Lib.hid (F1.out.on bb)
            have F3 : Hid (Edg u4 u4.heap.size A8 sh) := Lib.hid (F3.out.on bb)
            have F6 : Hid (u4.heap[X6]? = some (.cells #[.int .i64 0, .slice none 0 0] 25 (0, 0))) := Lib.hid ((bb.block _ (lt_of_block F6.out)).trans F6.out)
            have FB : Hid (Below W4.heap.size W4 u4) := Lib.hid (FB.out.trans (bb.mono FB.out.size))
            have F7 : Hid (u4.heap[X7]? = some (.cells #[.int .i64 0, .slice none 0 0] 38 (0, 0))) := Lib.hid (by rw [hu4, hX7]; exact heap_alloc_new ..)
            clear hu4 hX7 bb
            refine hK.out _ _ (SN.out _ FB.out) (fun hHeld => ?_)
            clear hK K
            try simp only [Act.put, List.setIfInBounds_toArray, List.set_cons_zero, List.set_cons_succ]
            obtain ⟨⟨p0, p1⟩, p2, p3⟩ := obG F6.out
            have T6 : ((u4.setCell ⟨X6, 0, none⟩ (.int .i64 n)).setCell ⟨X6, 1, none⟩ (.slice A7 sh.length c7)).heap[X6]? = some (.cells #[.int .i64 n, .slice A7 sh.length c7] 25 (0, 0)) := heap_setCell_same (u4.setCell ⟨X6, 0, none⟩ (.int .i64 n)) X6 1 _ _ (.slice A7 sh.length c7) (heap_setCell_same u4 X6 0 _ _ (.int .i64 n) F6.out)
            have T7 : ((u4.setCell ⟨X6, 0, none⟩ (.int .i64 n)).setCell ⟨X6, 1, none⟩ (.slice A7 sh.length c7)).heap[X7]? = some (.cells #[.int .i64 0, .slice none 0 0] 38 (0, 0)) := by rw [heap_setCell_other _ _ _ _ (Ne.symm hne), heap_setCell_other _ _ _ _ (Ne.symm hne)]; exact F7.out
            have E1 : Edg ((u4.setCell ⟨X6, 0, none⟩ (.int .i64 n)).setCell ⟨X6, 1, none⟩ (.slice A7 sh.length c7)) ((u4.setCell ⟨X6, 0, none⟩ (.int .i64 n)).setCell ⟨X6, 1, none⟩ (.slice A7 sh.length c7)).heap.size A7 sh := ((F1.out.box F6.out 0 _).box (heap_setCell_same u4 X6 0 _ _ (.int .i64 n) F6.out) 1 _).more (by simp)
            have E3 : Edg ((u4.setCell ⟨X6, 0, none⟩ (.int .i64 n)).setCell ⟨X6, 1, none⟩ (.slice A7 sh.length c7)) ((u4.setCell ⟨X6, 0, none⟩ (.int .i64 n)).setCell ⟨X6, 1, none⟩ (.slice A7 sh.length c7)).heap.size A8 sh := ((F3.out.box F6.out 0 _).box (heap_setCell_same u4 X6 0 _ _ (.int .i64 n) F6.out) 1 _).more (by simp)
            have H6 : Below W4.heap.size W4 ((u4.setCell ⟨X6, 0, none⟩ (.int .i64 n)).setCell ⟨X6, 1, none⟩ (.slice A7 sh.length c7)) := (FB.out.setCell (p := ⟨X6, 0, none⟩) G6 _).setCell (p := ⟨X6, 1, none⟩) G6 _
            refine wpAnyH_ready (rs := [6]) (by kernel_rfl) (by simp) ?_
            refine AllReadyH.cons (o := ?o14) ?hi14 (fun K hK => ?_) AllReadyH.nil
            case hi14 => (simp only [List.getElem?_toArray, List.getElem?_cons_zero, List.getElem?_cons_succ]; exact rfl)
            go_simp
            refine hK.out _ _ (SN.out _ H6) (fun hHeld => ?_)
            clear hK K p0 p1 p2 p3
            try simp only [Act.put, List.setIfInBounds_toArray, List.set_cons_zero, List.set_cons_succ]
            clear F1 F3 F6 F7 FB
            generalize ((u4.setCell ⟨X6, 0, none⟩ (.int .i64 n)).setCell ⟨X6, 1, none⟩ (.slice A7 sh.length c7)) = um at *
            obtain ⟨⟨p0, p1⟩, p2, p3⟩ := obG T7
            have V7 : ((um.setCell ⟨X7, 0, none⟩ (.int .i64 n)).setCell ⟨X7, 1, none⟩ (.slice A8 sh.length c8)).heap[X7]? = some (.cells #[.int .i64 n, .slice A8 sh.length c8] 38 (0, 0)) := heap_setCell_same (um.setCell ⟨X7, 0, none⟩ (.int .i64 n)) X7 1 _ _ (.slice A8 sh.length c8) (heap_setCell_same um X7 0 _ _ (.int .i64 n) T7)
            have V6 : ((um.setCell ⟨X7, 0, none⟩ (.int .i64 n)).setCell ⟨X7, 1, none⟩ (.slice A8 sh.length c8)).heap[X6]? = some (.cells #[.int .i64 n, .slice A7 sh.length c7] 25 (0, 0)) := by rw [heap_setCell_other _ _ _ _ hne, heap_setCell_other _ _ _ _ hne]; exact T6
            have V1 : Edg ((um.setCell ⟨X7, 0, none⟩ (.int .i64 n)).setCell ⟨X7, 1, none⟩ (.slice A8 sh.length c8)) ((um.setCell ⟨X7, 0, none⟩ (.int .i64 n)).setCell ⟨X7, 1, none⟩ (.slice A8 sh.length c8)).heap.size A7 sh := ((E1.box T7 0 _).box (heap_setCell_same um X7 0 _ _ (.int .i64 n) T7) 1 _).more (by simp)
            have V3 : Edg ((um.setCell ⟨X7, 0, none⟩ (.int .i64 n)).setCell ⟨X7, 1, none⟩ (.slice A8 sh.length c8)) ((um.setCell ⟨X7, 0, none⟩ (.int .i64 n)).setCell ⟨X7, 1, none⟩ (.slice A8 sh.length c8)).heap.size A8 sh := ((E3.box T7 0 _).box (heap_setCell_same um X7 0 _ _ (.int .i64 n) T7) 1 _).more (by simp)
            have H7 : Below W4.heap.size W4 ((um.setCell ⟨X7, 0, none⟩ (.int .i64 n)).setCell ⟨X7, 1, none⟩ (.slice A8 sh.length c8)) := (H6.setCell (p := ⟨X7, 0, none⟩) G7 _).setCell (p := ⟨X7, 1, none⟩) G7 _
            refine wpAnyH_ready (rs := [7]) (by kernel_rfl) (by simp) ?_
            refine AllReadyH.cons (o := ?o15) ?hi15 (fun K hK => ?_) AllReadyH.nil
            case hi15 => (simp only [List.getElem?_toArray, List.getElem?_cons_zero, List.getElem?_cons_succ]; exact rfl)
            go_simp
            refine hK.out _ _ (SN.out _ H7) (fun hHeld => ?_)
            clear hK K p0 p1 p2 p3
            try simp only [Act.put, List.setIfInBounds_toArray, List.set_cons_zero, List.set_cons_succ]
            refine wpAnyH_done (by kernel_rfl) ?_ _
            exact ⟨X6, X7, A7, c7, A8, c8, (by simp only [Act.put, List.setIfInBounds_toArray, List.set_cons_zero, List.set_cons_succ]), Lib.hid V6, Lib.hid V7, Lib.hid V1, Lib.hid V3, Lib.hid H7⟩
        case st12_5 =>
          go_simp
          obtain ⟨X7, hX7⟩ : ∃ X7, X7 = u2.heap.size := ⟨_, rfl⟩
          obtain ⟨u3, hu3⟩ : ∃ u3, u3 = u2.alloc (.cells #[.int .i64 0, .slice none 0 0] 38) := ⟨_, rfl⟩
          first | rw [← hu3, ← hX7] | (simp only [World.drew] at hX7 ⊢; rw [← hu3, ← hX7]) | rw [← hu3, show W4.heap.size = X7 from hX7.symm]
          have bb : Below u2.heap.size u2 u3 := by rw [hu3]; exact (Below.refl _ _).alloc (Nat.le_refl _) _
          have hne : X6 ≠ X7 := by have := lt_of_block F6.out; omega
          have G7 : W4.heap.size ≤ X7 := by have := FB.out.size; omega
          have F1 : Hid (Edg u3 u3.heap.size A7 sh) := Lib.hid (F1.out.on bb)
          have F6 : Hid (u3.heap[X6]? = some (.cells #[.int .i64 0, .slice none 0 0] 25 (0, 0))) := Lib.hid ((bb.block _ (lt_of_block F6.out)).trans F6.out)
          have FB : Hid (Below W4.heap.size W4 u3) := Lib.hid (FB.out.trans (bb.mono FB.out.size))
          have F7 : Hid (u3.heap[X7]? = some (.cells #[.int .i64 0, .slice none 0 0] 38 (0, 0))) := Lib.hid (by rw [hu3, hX7]; exact heap_alloc_new ..)
          clear hu3 hX7 bb
          refine hK.out _ _ (SN.out _ FB.out) (fun hHeld => ?_)
          clear hK K
          try simp only [Act.put, List.setIfInBounds_toArray, List.set_cons_zero, List.set_cons_succ]
          refine wpAnyH_ready (rs := [3]) (by kernel_rfl) (by simp) ?_
          refine AllReadyH.cons (o := ?o16_3) ?hi16_3 (fun K hK => ?st16_3) <| AllReadyH.nil
          case hi16_3 => (simp only [List.getElem?_toArray, List.getElem?_cons_zero, List.getElem?_cons_succ]; exact rfl)
          case st16_3 =>
            go_simp
            go_at_call 18
            (with_reducible refine (SR.out _ FB.out).mono ?_)
            rintro e u4 ⟨A8, c8, rfl, o8, b8⟩
            try dsimp only
            have F1 : Hid (Edg u4 u4.heap.size A7 sh) := Lib.hid (F1.out.on b8.out)
            have F6 : Hid (u4.heap[X6]? = some (.cells #[.int .i64 0, .slice none 0 0] 25 (0, 0))) := Lib.hid ((b8.out.block _ (lt_of_block F6.out)).trans F6.out)
            have F7 : Hid (u4.heap[X7]? = some (.cells #[.int .i64 0, .slice none 0 0] 38 (0, 0))) := Lib.hid ((b8.out.block _ (lt_of_block F7.out)).trans F7.out)
            have FB : Hid (Below W4.heap.size W4 u4) := Lib.hid (FB.out.trans (b8.out.mono FB.out.size))
            have F3 : Hid (Edg u4 u4.heap.size A8 sh) := Lib.hid o8.out
            clear o8 b8
            refine hK.out _ _ (SN.out _ FB.out) (fun hHeld => ?_)
            clear hK K
            try simp only [Act.put, List.setIfInBounds_toArray, List.set_cons_zero, List.set_cons_succ]
            obtain ⟨⟨p0, p1⟩, p2, p3⟩ := obG F6.out
            have T6 : ((u4.setCell ⟨X6, 0, none⟩ (.int .i64 n)).setCell ⟨X6, 1, none⟩ (.slice A7 sh.length c7)).heap[X6]? = some (.cells #[.int .i64 n, .slice A7 sh.length c7] 25 (0, 0)) := heap_setCell_same (u4.setCell ⟨X6, 0, none⟩ (.int .i64 n)) X6 1 _ _ (.slice A7 sh.length c7) (heap_setCell_same u4 X6 0 _ _ (.int .i64 n) F6.out)
            have T7 : ((u4.setCell ⟨X6, 0, none⟩ (.int .i64 n)).setCell ⟨X6, 1, none⟩ (.slice A7 sh.length c7)).heap[X7]? = some (.cells #[.int .i64 0, .slice none 0 0] 38 (0, 0)) := by rw [heap_setCell_other _ _ _ _ (Ne.symm hne), heap_setCell_other _ _ _ _ (Ne.symm hne)]; exact F7.out
            have E1 : Edg ((u4.setCell ⟨X6, 0, none⟩ (.int .i64 n)).setCell ⟨X6, 1, none⟩ (.slice A7 sh.length c7)) ((u4.setCell ⟨X6, 0, none⟩ (.int .i64 n)).setCell ⟨X6, 1, none⟩ (.slice A7 sh.length c7)).heap.size A7 sh := ((F1.out.box F6.out 0 _).box (heap_setCell_same u4 X6 0 _ _ (.int .i64 n) F6.out) 1 _).more (by simp)
            have E3 : Edg ((u4.setCell ⟨X6, 0, none⟩ (.int .i64 n)).setCell ⟨X6, 1, none⟩ (.slice A7 sh.length c7)) ((u4.setCell ⟨X6, 0, none⟩ (.int .i64 n)).setCell ⟨X6, 1, none⟩ (.slice A7 sh.length c7)).heap.size A8 sh := ((F3.out.box F6.out 0 _).box (heap_setCell_same u4 X6 0 _ _ (.int .i64 n) F6.out) 1 _).more (by simp)
            have H6 : Below W4.heap.size W4 ((u4.setCell ⟨X6, 0, none⟩ (.int .i64 n)).setCell ⟨X6, 1, none⟩ (.slice A7 sh.length c7)) := (FB.out.setCell (p := ⟨X6, 0, none⟩) G6 _).setCell (p := ⟨X6, 1, none⟩) G6 _
            refine wpAnyH_ready (rs := [6]) (by kernel_rfl) (by simp) ?_
            refine AllReadyH.cons (o := ?o17) ?hi17 (fun K hK => ?_) AllReadyH.nil
            case hi17 => (simp only [List.getElem?_toArray, List.getElem?_cons_zero, List.getElem?_cons_succ]; exact rfl)
            go_simp
            refine hK.out _ _ (SN.out _ H6) (fun hHeld => ?_)
            clear hK K p0 p1 p2 p3
            try simp only [Act.put, List.setIfInBounds_toArray, List.set_cons_zero, List.set_cons_succ]
            clear F1 F3 F6 F7 FB
            generalize ((u4.setCell ⟨X6, 0, none⟩ (.int .i64 n)).setCell ⟨X6, 1, none⟩ (.slice A7 sh.length c7)) = um at *
            obtain ⟨⟨p0, p1⟩, p2, p3⟩ := obG T7
            have V7 : ((um.setCell ⟨X7, 0, none⟩ (.int .i64 n)).setCell ⟨X7, 1, none⟩ (.slice A8 sh.length c8)).heap[X7]? = some (.cells #[.int .i64 n, .slice A8 sh.length c8] 38 (0, 0)) := heap_setCell_same (um.setCell ⟨X7, 0, none⟩ (.int .i64 n)) X7 1 _ _ (.slice A8 sh.length c8) (heap_setCell_same um X7 0 _ _ (.int .i64 n) T7)
            have V6 : ((um.setCell ⟨X7, 0, none⟩ (.int .i64 n)).setCell ⟨X7, 1, none⟩ (.slice A8 sh.length c8)).heap[X6]? = some (.cells #[.int .i64 n, .slice A7 sh.length c7] 25 (0, 0)) := by rw [heap_setCell_other _ _ _ _ hne, heap_setCell_other _ _ _ _ hne]; exact T6
            have V1 : Edg ((um.setCell ⟨X7, 0, none⟩ (.int .i64 n)).setCell ⟨X7, 1, none⟩ (.slice A8 sh.length c8)) ((um.setCell ⟨X7, 0, none⟩ (.int .i64 n)).setCell ⟨X7, 1, none⟩ (.slice A8 sh.length c8)).heap.size A7 sh := ((E1.box T7 0 _).box (heap_setCell_same um X7 0 _ _ (.int .i64 n) T7) 1 _).more (by simp)
            have V3 : Edg ((um.setCell ⟨X7, 0, none⟩ (.int .i64 n)).setCell ⟨X7, 1, none⟩ (.slice A8 sh.length c8)) ((um.setCell ⟨X7, 0, none⟩ (.int .i64 n)).setCell ⟨X7, 1, none⟩ (.slice A8 sh.length c8)).heap.size A8 sh := ((E3.box T7 0 _).box (heap_setCell_same um X7 0 _ _ (.int .i64 n) T7) 1 _).more (by simp)
            have H7 : Below W4.heap.size W4 ((um.setCell ⟨X7, 0, none⟩ (.int .i64 n)).setCell ⟨X7, 1, none⟩ (.slice A8 sh.length c8)) := (H6.setCell (p := ⟨X7, 0, none⟩) G7 _).setCell (p := ⟨X7, 1, none⟩) G7 _
            refine wpAnyH_ready (rs := [7]) (by kernel_rfl) (by simp) ?_
            refine AllReadyH.cons (o := ?o18) ?hi18 (fun K hK => ?_) AllReadyH.nil
            case hi18 => (simp only [List.getElem?_toArray, List.getElem?_cons_zero, List.getElem?_cons_succ]; exact rfl)
            go_simp
            refine hK.out _ _ (SN.out _ H7) (fun hHeld => ?_)
            clear hK K p0 p1 p2 p3
            try simp only [Act.put, List.setIfInBounds_toArray, List.set_cons_zero, List.set_cons_succ]
            refine wpAnyH_done (by kernel_rfl) ?_ _
            exact ⟨X6, X7, A7, c7, A8, c8, (by simp only [Act.put, List.setIfInBounds_toArray, List.set_cons_zero, List.set_cons_succ]), Lib.hid V6, Lib.hid V7, Lib.hid V1, Lib.hid V3, Lib.hid H7⟩
      case st4_5 =>
        go_simp
        obtain ⟨X7, hX7⟩ : ∃ X7, X7 = u1.heap.size := ⟨_, rfl⟩
        obtain ⟨u2, hu2⟩ : ∃ u2, u2 = u1.alloc (.cells #[.int .i64 0, .slice none 0 0] 38) := ⟨_, rfl⟩
        first | rw [← hu2, ← hX7] | (simp only [World.drew] at hX7 ⊢; rw [← hu2, ← hX7]) | rw [← hu2, show W4.heap.size = X7 from hX7.symm]
        have bb : Below u1.heap.size u1 u2 := by rw [hu2]; exact (Below.refl _ _).alloc (Nat.le_refl _) _
        have G7 : W4.heap.size ≤ X7 := by have := FB.out.size; omega
        have F1 : Hid (Edg u2 u2.heap.size A7 sh) := Lib.hid (F1.out.on bb)
        have FB : Hid (Below W4.heap.size W4 u2) := Lib.hid (FB.out.trans (bb.mono FB.out.size))
        have F7 : Hid (u2.heap[X7]? = some (.cells #[.int .i64 0, .slice none 0 0] 38 (0, 0))) := Lib.hid (by rw [hu2, hX7]; exact heap_alloc_new ..)
        clear hu2 hX7 bb
        refine hK.out _ _ (SN.out _ FB.out) (fun hHeld => ?_)
        clear hK K
        try simp only [Act.put, List.setIfInBounds_toArray, List.set_cons_zero, List.set_cons_succ]
        refine wpAnyH_ready (rs := [3, 4]) (by kernel_rfl) (by simp) ?_
        refine AllReadyH.cons (o := ?o19_3) ?hi19_3 (fun K hK => ?st19_3) <| AllReadyH.cons (o := ?o19_4) ?hi19_4 (fun K hK => ?st19_4) <| AllReadyH.nil
        case hi19_3 => (simp only [List.getElem?_toArray, List.getElem?_cons_zero, List.getElem?_cons_succ]; exact rfl)
        case hi19_4 => (simp only [List.getElem?_toArray, List.getElem?_cons_zero, List.getElem?_cons_succ]; exact rfl)
        case st19_3 =>
          go_simp
          go_at_call 18
          (with_reducible refine (SR.out _ FB.out).mono ?_)
          rintro e u3 ⟨A8, c8, rfl, o8, b8⟩
          try dsimp only
          have F1 : Hid (Edg u3 u3.heap.size A7 sh) := Lib.hid (F1.out.on b8.out)
          have F7 : Hid (u3.heap[X7]? = some (.cells #[.int .i64 0, .slice none 0 0] 38 (0, 0))) := Lib.hid ((b8.out.block _ (lt_of_block F7.out)).trans F7.out)
          have FB : Hid (Below W4.heap.size W4 u3) := Lib.hid (FB.out.trans (b8.out.mono FB.out.size))
          have F3 : Hid (Edg u3 u3.heap.size A8 sh) := Lib.hid o8.out
          clear o8 b8
          refine hK.out _ _ (SN.out _ FB.out) (fun hHeld => ?_)
          clear hK K
          try simp only [Act.put, List.setIfInBounds_toArray, List.set_cons_zero, List.set_cons_succ]
          refine wpAnyH_ready (rs := [4]) (by kernel_rfl) (by simp) ?_
          refine AllReadyH.cons (o := ?o20_4) ?hi20_4 (fun K hK => ?st20_4) <| AllReadyH.nil
          case hi20_4 => (simp only [List.getElem?_toArray, List.getElem?_cons_zero, List.getElem?_cons_succ]; exact rfl)
          case st20_4 =>
            go_simp
            obtain ⟨X6, hX6⟩ : ∃ X6, X6 = u3.heap.size := ⟨_, rfl⟩
            obtain ⟨u4, hu4⟩ : ∃ u4, u4 = u3.alloc (.cells #[.int .i64 0, .slice none 0 0] 25) := ⟨_, rfl⟩
            first | rw [← hu4, ← hX6] | (simp only [World.drew] at hX6 ⊢; rw [← hu4, ← hX6]) | rw [← hu4, show W4.heap.size = X6 from hX6.symm]
            have bb : Below u3.heap.size u3 u4 := by rw [hu4]; exact (Below.refl _ _).alloc (Nat.le_refl _) _
            have hne : X6 ≠ X7 := by have := lt_of_block F7.out; omega
            have G6 : W4.heap.size ≤ X6 := by have := FB.out.size; omega
            have F1 : Hid (Edg u4 u4.heap.size A7 sh) := Lib.hid (F1.out.on bb)
            have F3 : Hid (Edg u4 u4.heap.size A8 sh) := Lib.hid (F3.out.on bb)
            have F7 : Hid (u4.heap[X7]? = some (.cells #[.int .i64 0, .slice none 0 0] 38 (0, 0))) := Lib.hid ((bb.block _ (lt_of_block F7.out)).trans F7.out)
            have FB : Hid (Below W4.heap.size W4 u4) := Lib.hid (FB.out.trans (bb.mono FB.out.size))
            have F6 : Hid (u4.heap[X6]? = some (.cells #[.int .i64 0, .slice none 0 0] 25 (0, 0))) := Lib.hid (by rw [hu4, hX6]; exact heap_alloc_new ..)
            clear hu4 hX6 bb
            refine hK.out _ _ (SN.out _ FB.out) (fun hHeld => ?_)
            clear hK K
            try simp only [Act.put, List.setIfInBounds_toArray, List.set_cons_zero, List.set_cons_succ]
            obtain ⟨⟨p0, p1⟩, p2, p3⟩ := obG F6.out
            have T6 : ((u4.setCell ⟨X6, 0, none⟩ (.int .i64 n)).setCell ⟨X6, 1, none⟩ (.slice A7 sh.length c7)).heap[X6]? = some (.cells #[.int .i64 n, .slice A7 sh.length c7] 25 (0, 0)) := heap_setCell_same (u4.setCell ⟨X6, 0, none⟩ (.int .i64 n)) X6 1 _ _ (.slice A7 sh.length c7) (heap_setCell_same u4 X6 0 _ _ (.int .i64 n) F6.out)
            have T7 : ((u4.setCell ⟨X6, 0, none⟩ (.int .i64 n)).setCell ⟨X6, 1, none⟩ (.slice A7 sh.length c7)).heap[X7]? = some (.cells #[.int .i64 0, .slice none 0 0] 38 (0, 0)) := by rw [heap_setCell_other _ _ _ _ (Ne.symm hne), heap_setCell_other _ _ _ _ (Ne.symm hne)]; exact F7.out
            have E1 : Edg ((u4.setCell ⟨X6, 0, none⟩ (.int .i64 n)).setCell ⟨X6, 1, none⟩ (.slice A7 sh.length c7)) ((u4.setCell ⟨X6, 0, none⟩ (.int .i64 n)).setCell ⟨X6, 1, none⟩ (.slice A7 sh.length c7)).heap.size A7 sh := ((F1.out.box F6.out 0 _).box (heap_setCell_same u4 X6 0 _ _ (.int .i64 n) F6.out) 1 _).more (by simp)
            have E3 : Edg ((u4.setCell ⟨X6, 0, none⟩ (.int .i64 n)).setCell ⟨X6, 1, none⟩ (.slice A7 sh.length c7)) ((u4.setCell ⟨X6, 0, none⟩ (.int .i64 n)).setCell ⟨X6, 1, none⟩ (.slice A7 sh.length c7)).heap.size A8 sh := ((F3.out.box F6.out 0 _).box (heap_setCell_same u4 X6 0 _ _ (.int .i64 n) F6.out) 1 _).more (by simp)
            have H6 : Below W4.heap.size W4 ((u4.setCell ⟨X6, 0, none⟩ (.int .i64 n)).setCell ⟨X6, 1, none⟩ (.slice A7 sh.length c7)) := (FB.out.setCell (p := ⟨X6, 0, none⟩) G6 _).setCell (p := ⟨X6, 1, none⟩) G6 _
            refine wpAnyH_ready (rs := [6]) (by kernel_rfl) (by simp) ?_
            refine AllReadyH.cons (o := ?o21) ?hi21 (fun K hK => ?_) AllReadyH.nil
            case hi21 => (simp only [List.getElem?_toArray, List.getElem?_cons_zero, List.getElem?_cons_succ]; exact rfl)
            go_simp
            refine hK.out _ _ (SN.out _ H6) (fun hHeld => ?_)
            clear hK K p0 p1 p2 p3
            try simp only [Act.put, List.setIfInBounds_toArray, List.set_cons_zero, List.set_cons_succ]
            clear F1 F3 F6 F7 FB
            generalize ((u4.setCell ⟨X6, 0, none⟩ (.int .i64 n)).setCell ⟨X6, 1, none⟩ (.slice A7 sh.length c7)) = um at *
            obtain ⟨⟨p0, p1⟩, p2, p3⟩ := obG T7
            have V7 : ((um.setCell ⟨X7, 0, none⟩ (.int .i64 n)).setCell ⟨X7, 1, none⟩ (.slice A8 sh.length c8)).heap[X7]? = some (.cells #[.int .i64 n, .slice A8 sh.length c8] 38 (0, 0)) := heap_setCell_same (um.setCell ⟨X7, 0, none⟩ (.int .i64 n)) X7 1 _ _ (.slice A8 sh.length c8) (heap_setCell_same um X7 0 _ _ (.int .i64 n) T7)
            have V6 : ((um.setCell ⟨X7, 0, none⟩ (.int .i64 n)).setCell ⟨X7, 1, none⟩ (.slice A8 sh.length c8)).heap[X6]? = some (.cells #[.int .i64 n, .slice A7 sh.length c7] 25 (0, 0)) := by rw [heap_setCell_other _ _ _ _ hne, heap_setCell_other _ _ _ _ hne]; exact T6
            have V1 : Edg ((um.setCell ⟨X7, 0, none⟩ (.int .i64 n)).setCell ⟨X7, 1, none⟩ (.slice A8 sh.length c8)) ((um.setCell ⟨X7, 0, none⟩ (.int .i64 n)).setCell ⟨X7, 1, none⟩ (.slice A8 sh.length c8)).heap.size A7 sh := ((E1.box T7 0 _).box (heap_setCell_same um X7 0 _ _ (.int .i64 n) T7) 1 _).more (by simp)
            have V3 : Edg ((um.setCell ⟨X7, 0, none⟩ (.int .i64 n)).setCell ⟨X7, 1, none⟩ (.slice A8 sh.length c8)) ((um.setCell ⟨X7, 0, none⟩ (.int .i64 n)).setCell ⟨X7, 1, none⟩ (.slice A8 sh.length c8)).heap.size A8 sh := ((E3.box T7 0 _).box (heap_setCell_same um X7 0 _ _ (.int .i64 n) T7) 1 _).more (by simp)
            have H7 : Below W4.heap.size W4 ((um.setCell ⟨X7, 0, none⟩ (.int .i64 n)).setCell ⟨X7, 1, none⟩ (.slice A8 sh.length c8)) := (H6.setCell (p := ⟨X7, 0, none⟩) G7 _).setCell (p := ⟨X7, 1, none⟩) G7 _
            refine wpAnyH_ready (rs := [7]) (by kernel_rfl) (by simp) ?_
            refine AllReadyH.cons (o := ?o22) ?hi22 (fun K hK => ?_) AllReadyH.nil
            case hi22 => (simp only [List.getElem?_toArray, List.getElem?_cons_zero, List.getElem?_cons_succ]; exact rfl)
            go_simp
            refine hK.out _ _ (SN.out _ H7) (fun hHeld => ?_)
            clear hK K p0 p1 p2 p3
            try simp only [Act.put, List.setIfInBounds_toArray, List.set_cons_zero, List.set_cons_succ]
            refine wpAnyH_done (by kernel_rfl) ?_ _
            exact ⟨X6, X7, A7, c7, A8, c8, (by simp only [Act.put, List.setIfInBounds_toArray, List.set_cons_zero, List.set_cons_succ]), Lib.hid V6, Lib.hid V7, Lib.hid V1, Lib.hid V3, Lib.hid H7⟩
        case st19_4 =>
          go_simp
          obtain ⟨X6, hX6⟩ : ∃ X6, X6 = u2.heap.size := ⟨_, rfl⟩
          obtain ⟨u3, hu3⟩ : ∃ u3, u3 = u2.alloc (.cells #[.int .i64 0, .slice none 0 0] 25) := ⟨_, rfl⟩
          first | rw [← hu3, ← hX6] | (simp only [World.drew] at hX6 ⊢; rw [← hu3, ← hX6]) | rw [← hu3, show W4.heap.size = X6 from hX6.symm]
          have bb : Below u2.heap.size u2 u3 := by rw [hu3]; exact (Below.refl _ _).alloc (Nat.le_refl _) _
          have hne : X6 ≠ X7 := by have := lt_of_block F7.out; omega
          have G6 : W4.heap.size ≤ X6 := by have := FB.out.size; omega
          have F1 : Hid (Edg u3 u3.heap.size A7 sh) := Lib.hid (F1.out.on bb)
          have F7 : Hid (u3.heap[X7]? = some (.cells #[.int .i64 0, .slice none 0 0] 38 (0, 0))) := Lib.hid ((bb.block _ (lt_of_block F7.out)).trans F7.out)
          have FB : Hid (Below W4.heap.size W4 u3) := Lib.hid (FB.out.trans (bb.mono FB.out.size))
          have F6 : Hid (u3.heap[X6]? = some (.cells #[.int .i64 0, .slice none 0 0] 25 (0, 0))) := Lib.hid (by rw [hu3, hX6]; exact heap_alloc_new ..)
          clear hu3 hX6 bb
          refine hK.out _ _ (SN.out _ FB.out) (fun hHeld => ?_)
          clear hK K
          try simp only [Act.put, List.setIfInBounds_toArray, List.set_cons_zero, List.set_cons_succ]
          refine wpAnyH_ready (rs := [3]) (by kernel_rfl) (by simp) ?_
          refine AllReadyH.cons (o := ?o23_3) ?hi23_3 (fun K hK => ?st23_3) <| AllReadyH.nil
          case hi23_3 => (simp only [List.getElem?_toArray, List.getElem?_cons_zero, List.getElem?_cons_succ]; exact rfl)
          case st23_3 =>
            go_simp
            go_at_call 18
            (with_reducible refine (SR.out _ FB.out).mono ?_)
            rintro e u4 ⟨A8, c8, rfl, o8, b8⟩
            try dsimp only
            have F1 : Hid (Edg u4 u4.heap.size A7 sh) := Lib.hid (F1.out.on b8.out)
            have F6 : Hid (u4.heap[X6]? = some (.cells #[.int .i64 0, .slice none 0 0] 25 (0, 0))) := Lib.hid ((b8.out.block _ (lt_of_block F6.out)).trans F6.out)
            have F7 : Hid (u4.heap[X7]? = some (.cells #[.int .i64 0, .slice none 0 0] 38 (0, 0))) := Lib.hid ((b8.out.block _ (lt_of_block F7.out)).trans F7.out)
            have FB : Hid (Below W4.heap.size W4 u4) := Lib.hid (FB.out.trans (b8.out.mono FB.out.size))
            have F3 : Hid (Edg u4 u4.heap.size A8 sh) := Lib.hid o8.out
            clear o8 b8
            refine hK.out _ _ (SN.out _ FB.out) (fun hHeld => ?_)
            clear hK K
            try simp only [Act.put, List.setIfInBounds_toArray, List.set_cons_zero, List.set_cons_succ]
            obtain ⟨⟨p0, p1⟩, p2, p3⟩ := obG F6.out
            have T6 : ((u4.setCell ⟨X6, 0, none⟩ (.int .i64 n)).setCell ⟨X6, 1, none⟩ (.slice A7 sh.length c7)).heap[X6]? = some (.cells #[.int .i64 n, .slice A7 sh.length c7] 25 (0, 0)) := heap_setCell_same (u4.setCell ⟨X6, 0, none⟩ (.int .i64 n)) X6 1 _ _ (.slice A7 sh.length c7) (heap_setCell_same u4 X6 0 _ _ (.int .i64 n) F6.out)
            have T7 : ((u4.setCell ⟨X6, 0, none⟩ (.int .i64 n)).setCell ⟨X6, 1, none⟩ (.slice A7 sh.length c7)).heap[X7]? = some (.cells #[.int .i64 0, .slice none 0 0] 38 (0, 0)) := by rw [heap_setCell_other _ _ _ _ (Ne.symm hne), heap_setCell_other _ _ _ _ (Ne.symm hne)]; exact F7.out
            have E1 : Edg ((u4.setCell ⟨X6, 0, none⟩ (.int .i64 n)).setCell ⟨X6, 1, none⟩ (.slice A7 sh.length c7)) ((u4.setCell ⟨X6, 0, none⟩ (.int .i64 n)).setCell ⟨X6, 1, none⟩ (.slice A7 sh.length c7)).heap.size A7 sh := ((F1.out.box F6.out 0 _).box (heap_setCell_same u4 X6 0 _ _ (.int .i64 n) F6.out) 1 _).more (by simp)
            have E3 : Edg ((u4.setCell ⟨X6, 0, none⟩ (.int .i64 n)).setCell ⟨X6, 1, none⟩ (.slice A7 sh.length c7)) ((u4.setCell ⟨X6, 0, none⟩ (.int .i64 n)).setCell ⟨X6, 1, none⟩ (.slice A7 sh.length c7)).heap.size A8 sh := ((F3.out.box F6.out 0 _).box (heap_setCell_same u4 X6 0 _ _ (.int .i64 n) F6.out) 1 _).more (by simp)
            have H6 : Below W4.heap.size W4 ((u4.setCell ⟨X6, 0, none⟩ (.int .i64 n)).setCell ⟨X6, 1, none⟩ (.slice A7 sh.length c7)) := (FB.out.setCell (p := ⟨X6, 0, none⟩) G6 _).setCell (p := ⟨X6, 1, none⟩) G6 _
            refine wpAnyH_ready (rs := [6]) (by kernel_rfl) (by simp) ?_
            refine AllReadyH.cons (o := ?o24) ?hi24 (fun K hK => ?_) AllReadyH.nil
            case hi24 => (simp only [List.getElem?_toArray, List.getElem?_cons_zero, List.getElem?_cons_succ]; exact rfl)
            go_simp
            refine hK.out _ _ (SN.out _ H6) (fun hHeld => ?_)
            clear hK K p0 p1 p2 p3
            try simp only [Act.put, List.setIfInBounds_toArray, List.set_cons_zero, List.set_cons_succ]
            clear F1 F3 F6 F7 FB
            generalize ((u4.setCell ⟨X6, 0, none⟩ (.int .i64 n)).setCell ⟨X6, 1, none⟩ (.slice A7 sh.length c7)) = um at *
            obtain ⟨⟨p0, p1⟩, p2, p3⟩ := obG T7
            have V7 : ((um.setCell ⟨X7, 0, none⟩ (.int .i64 n)).setCell ⟨X7, 1, none⟩ (.slice A8 sh.length c8)).heap[X7]? = some (.cells #[.int .i64 n, .slice A8 sh.length c8] 38 (0, 0)) := heap_setCell_same (um.setCell ⟨X7, 0, none⟩ (.int .i64 n)) X7 1 _ _ (.slice A8 sh.length c8) (heap_setCell_same um X7 0 _ _ (.int .i64 n) T7)
            have V6 : ((um.setCell ⟨X7, 0, none⟩ (.int .i64 n)).setCell ⟨X7, 1, none⟩ (.slice A8 sh.length c8)).heap[X6]? = some (.cells #[.int .i64 n, .slice A7 sh.length c7] 25 (0, 0)) := by rw [heap_setCell_other _ _ _ _ hne, heap_setCell_other _ _ _ _ hne]; exact T6
            have V1 : Edg ((um.setCell ⟨X7, 0, none⟩ (.int .i64 n)).setCell ⟨X7, 1, none⟩ (.slice A8 sh.length c8)) ((um.setCell ⟨X7, 0, none⟩ (.int .i64 n)).setCell ⟨X7, 1, none⟩ (.slice A8 sh.length c8)).heap.size A7 sh := ((E1.box T7 0 _).box (heap_setCell_same um X7 0 _ _ (.int .i64 n) T7) 1 _).more (by simp)
            have V3 : Edg ((um.setCell ⟨X7, 0, none⟩ (.int .i64 n)).setCell ⟨X7, 1, none⟩ (.slice A8 sh.length c8)) ((um.setCell ⟨X7, 0, none⟩ (.int .i64 n)).setCell ⟨X7, 1, none⟩ (.slice A8 sh.length c8)).heap.size A8 sh := ((E3.box T7 0 _).box (heap_setCell_same um X7 0 _ _ (.int .i64 n) T7) 1 _).more (by simp)
            have H7 : Below W4.heap.size W4 ((um.setCell ⟨X7, 0, none⟩ (.int .i64 n)).setCell ⟨X7, 1, none⟩ (.slice A8 sh.length c8)) := (H6.setCell (p := ⟨X7, 0, none⟩) G7 _).setCell (p := ⟨X7, 1, none⟩) G7 _
            refine wpAnyH_ready (rs := [7]) (by kernel_rfl) (by simp) ?_
            refine AllReadyH.cons (o := ?o25) ?hi25 (fun K hK => ?_) AllReadyH.nil
            case hi25 => (simp only [List.getElem?_toArray, List.getElem?_cons_zero, List.getElem?_cons_succ]; exact rfl)
            go_simp
            refine hK.out _ _ (SN.out _ H7) (fun hHeld => ?_)
            clear hK K p0 p1 p2 p3
            try simp only [Act.put, List.setIfInBounds_toArray, List.set_cons_zero, List.set_cons_succ]
            refine wpAnyH_done (by kernel_rfl) ?_ _
            exact ⟨X6, X7, A7, c7, A8, c8, (by simp only [Act.put, List.setIfInBounds_toArray, List.set_cons_zero, List.set_cons_succ]), Lib.hid V6, Lib.hid V7, Lib.hid V1, Lib.hid V3, Lib.hid H7⟩
    case st3_4 =>
      go_simp
      obtain ⟨X6, hX6⟩ : ∃ X6, X6 = u0.heap.size := ⟨_, rfl⟩
      obtain ⟨u1, hu1⟩ : ∃ u1, u1 = u0.alloc (.cells #[.int .i64 0, .slice none 0 0] 25) := ⟨_, rfl⟩
      first | rw [← hu1, ← hX6] | (simp only [World.drew] at hX6 ⊢; rw [← hu1, ← hX6]) | rw [← hu1, show W4.heap.size = X6 from hX6.symm]
      have bb : Below u0.heap.size u0 u1 := by rw [hu1]; exact (Below.refl _ _).alloc (Nat.le_refl _) _
      have G6 : W4.heap.size ≤ X6 := by have := FB.out.size; omega
      have FB : Hid (Below W4.heap.size W4 u1) := Lib.hid (FB.out.trans (bb.mono FB.out.size))
      have F6 : Hid (u1.heap[X6]? = some (.cells #[.int .i64 0, .slice none 0 0] 25 (0, 0))) := Lib.hid (by rw [hu1, hX6]; exact heap_alloc_new ..)
      clear hu1 hX6 bb
      refine hK.out _ _ (SN.out _ FB.out) (fun hHeld => ?_)
      clear hK K
      try simp only [Act.put, List.setIfInBounds_toArray, List.set_cons_zero, List.set_cons_succ]
      refine wpAnyH_ready (rs := [1, 5]) (by kernel_rfl) (by simp) ?_
      refine AllReadyH.cons (o := ?o26_1) ?hi26_1 (fun K hK => ?st26_1) <| AllReadyH.cons (o := ?o26_5) ?hi26_5 (fun K hK => ?st26_5) <| AllReadyH.nil
      case hi26_1 => (simp only [List.getElem?_toArray, List.getElem?_cons_zero, List.getElem?_cons_succ]; exact rfl)
      case hi26_5 => (simp only [List.getElem?_toArray, List.getElem?_cons_zero, List.getElem?_cons_succ]; exact rfl)
      case st26_1 =>
        go_simp
        go_at_call 13
        (with_reducible refine (SC.out _ FB.out).mono ?_)
        rintro e u2 ⟨A7, c7, rfl, o7, b7⟩
        try dsimp only
        have F6 : Hid (u2.heap[X6]? = some (.cells #[.int .i64 0, .slice none 0 0] 25 (0, 0))) := Lib.hid ((b7.out.block _ (lt_of_block F6.out)).trans F6.out)
        have FB : Hid (Below W4.heap.size W4 u2) := Lib.hid (FB.out.trans (b7.out.mono FB.out.size))
        have F1 : Hid (Edg u2 u2.heap.size A7 sh) := Lib.hid o7.out.edg
        clear o7 b7
        refine hK.out _ _ (SN.out _ FB.out) (fun hHeld => ?_)
        clear hK K
        try simp only [Act.put, List.setIfInBounds_toArray, List.set_cons_zero, List.set_cons_succ]
        refine wpAnyH_ready (rs := [3, 5]) (by kernel_rfl) (by simp) ?_
        refine AllReadyH.cons (o := ?o27_3) ?hi27_3 (fun K hK => ?st27_3) <| AllReadyH.cons (o := ?o27_5) ?hi27_5 (fun K hK => ?st27_5) <| AllReadyH.nil
        case hi27_3 => (simp only [List.getElem?_toArray, List.getElem?_cons_zero, List.getElem?_cons_succ]; exact rfl)
        case hi27_5 => (simp only [List.getElem?_toArray, List.getElem?_cons_zero, List.getElem?_cons_succ]; exact rfl)
        case st27_3 =>
          go_simp
          go_at_call 18
          (with_reducible refine (SR.out _ FB.out).mono ?_)
          rintro e u3 ⟨A8, c8, rfl, o8, b8⟩
          try dsimp only
          have F1 : Hid (Edg u3 u3.heap.size A7 sh) := Lib.hid (F1.out.on b8.out)
          have F6 : Hid (u3.heap[X6]? = some (.cells #[.int .i64 0, .slice none 0 0] 25 (0, 0))) := Lib.hid ((b8.out.block _ (lt_of_block F6.out)).trans F6.out)
          have FB : Hid (Below W4.heap.size W4 u3) := Lib.hid (FB.out.trans (b8.out.mono FB.out.size))
          have F3 : Hid (Edg u3 u3.heap.size A8 sh) := Lib.hid o8.out
          clear o8 b8
          refine hK.out _ _ (SN.out _ FB.out) (fun hHeld => ?_)
          clear hK K
          try simp only [Act.put, List.setIfInBounds_toArray, List.set_cons_zero, List.set_cons_succ]
          refine wpAnyH_ready (rs := [5]) (by kernel_rfl) (by simp) ?_
          refine AllReadyH.cons (o := ?o28_5) ?hi28_5 (fun K hK => ?st28_5) <| AllReadyH.nil
          case hi28_5 => (simp only [List.getElem?_toArray, List.getElem?_cons_zero, List.getElem?_cons_succ]; exact rfl)
          case st28_5 =>
            go_simp
            obtain ⟨X7, hX7⟩ : ∃ X7, X7 = u3.heap.size := ⟨_, rfl⟩
            obtain ⟨u4, hu4⟩ : ∃ u4, u4 = u3.alloc (.cells #[.int .i64 0, .slice none 0 0] 38) := ⟨_, rfl⟩
            first | rw [← hu4, ← hX7] | (simp only [World.drew] at hX7 ⊢; rw [← hu4, ← hX7]) | rw [← hu4, show W4.heap.size = X7 from hX7.symm]
            have bb : Below u3.heap.size u3 u4 := by rw [hu4]; exact (Below.refl _ _).alloc (Nat.le_refl _) _
            have hne : X6 ≠ X7 := by have := lt_of_block F6.out; omega
            have G7 : W4.heap.size ≤ X7 := by have := FB.out.size; omega
            have F1 : Hid (Edg u4 u4.heap.size A7 sh) := Lib.hid (F1.out.on bb)
            have F3 : Hid (Edg u4 u4.heap.size A8 sh) := Lib.hid (F3.out.on bb)
            have F6 : Hid (u4.heap[X6]? = some (.cells #[.int .i64 0, .slice none 0 0] 25 (0, 0))) := Lib.hid ((bb.block _ (lt_of_block F6.out)).trans F6.out)
            have FB : Hid (Below W4.heap.size W4 u4) := Lib.hid (FB.out.trans (bb.mono FB.out.size))
            have F7 : Hid (u4.heap[X7]? = some (.cells #[.int .i64 0, .slice none 0 0] 38 (0, 0))) := Lib.hid (by rw [hu4, hX7]; exact heap_alloc_new ..)
            clear hu4 hX7 bb
            refine hK.out _ _ (SN.out _ FB.out) (fun hHeld => ?_)
            clear hK K
            try simp only [Act.put, List.setIfInBounds_toArray, List.set_cons_zero, List.set_cons_succ]
            obtain ⟨⟨p0, p1⟩, p2, p3⟩ := obG F6.out
            have T6 : ((u4.setCell ⟨X6, 0, none⟩ (.int .i64 n)).setCell ⟨X6, 1, none⟩ (.slice A7 sh.length c7)).heap[X6]? = some (.cells #[.int .i64 n, .slice A7 sh.length c7] 25 (0, 0)) := heap_setCell_same (u4.setCell ⟨X6, 0, none⟩ (.int .i64 n)) X6 1 _ _ (.slice A7 sh.length c7) (heap_setCell_same u4 X6 0 _ _ (.int .i64 n) F6.out)
            have T7 : ((u4.setCell ⟨X6, 0, none⟩ (.int .i64 n)).setCell ⟨X6, 1, none⟩ (.slice A7 sh.length c7)).heap[X7]? = some (.cells #[.int .i64 0, .slice none 0 0] 38 (0, 0)) := by rw [heap_setCell_other _ _ _ _ (Ne.symm hne), heap_setCell_other _ _ _ _ (Ne.symm hne)]; exact F7.out
            have E1 : Edg ((u4.setCell ⟨X6, 0, none⟩ (.int .i64 n)).setCell ⟨X6, 1, none⟩ (.slice A7 sh.length c7)) ((u4.setCell ⟨X6, 0, none⟩ (.int .i64 n)).setCell ⟨X6, 1, none⟩ (.slice A7 sh.length c7)).heap.size A7 sh := ((F1.out.box F6.out 0 _).box (heap_setCell_same u4 X6 0 _ _ (.int .i64 n) F6.out) 1 _).more (by simp)
            have E3 : Edg ((u4.setCell ⟨X6, 0, none⟩ (.int .i64 n)).setCell ⟨X6, 1, none⟩ (.slice A7 sh.length c7)) ((u4.setCell ⟨X6, 0, none⟩ (.int .i64 n)).setCell ⟨X6, 1, none⟩ (.slice A7 sh.length c7)).heap.size A8 sh := ((F3.out.box F6.out 0 _).box (heap_setCell_same u4 X6 0 _ _ (.int .i64 n) F6.out) 1 _).more (by simp)
            have H6 : Below W4.heap.size W4 ((u4.setCell ⟨X6, 0, none⟩ (.int .i64 n)).setCell ⟨X6, 1, none⟩ (.slice A7 sh.length c7)) := (FB.out.setCell (p := ⟨X6, 0, none⟩) G6 _).setCell (p := ⟨X6, 1, none⟩) G6 _
            refine wpAnyH_ready (rs := [6]) (by kernel_rfl) (by simp) ?_
            refine AllReadyH.cons (o := ?o29) ?hi29 (fun K hK => ?_) AllReadyH.nil
            case hi29 => (simp only [List.getElem?_toArray, List.getElem?_cons_zero, List.getElem?_cons_succ]; exact rfl)
            go_simp
            refine hK.out _ _ (SN.out _ H6) (fun hHeld => ?_)
            clear hK K p0 p1 p2 p3
            try simp only [Act.put, List.setIfInBounds_toArray, List.set_cons_zero, List.set_cons_succ]
            clear F1 F3 F6 F7 FB
            generalize ((u4.setCell ⟨X6, 0, none⟩ (.int .i64 n)).setCell ⟨X6, 1, none⟩ (.slice A7 sh.length c7)) = um at *
            obtain ⟨⟨p0, p1⟩, p2, p3⟩ := obG T7
            have V7 : ((um.setCell ⟨X7, 0, none⟩ (.int .i64 n)).setCell ⟨X7, 1, none⟩ (.slice A8 sh.length c8)).heap[X7]? = some (.cells #[.int .i64 n, .slice A8 sh.length c8] 38 (0, 0)) := heap_setCell_same (um.setCell ⟨X7, 0, none⟩ (.int .i64 n)) X7 1 _ _ (.slice A8 sh.length c8) (heap_setCell_same um X7 0 _ _ (.int .i64 n) T7)
            have V6 : ((um.setCell ⟨X7, 0, none⟩ (.int .i64 n)).setCell ⟨X7, 1, none⟩ (.slice A8 sh.length c8)).heap[X6]? = some (.cells #[.int .i64 n, .slice A7 sh.length c7] 25 (0, 0)) := by rw [heap_setCell_other _ _ _ _ hne, heap_setCell_other _ _ _ _ hne]; exact T6
            have V1 : Edg ((um.setCell ⟨X7, 0, none⟩ (.int .i64 n)).setCell ⟨X7, 1, none⟩ (.slice A8 sh.length c8)) ((um.setCell ⟨X7, 0, none⟩ (.int .i64 n)).setCell ⟨X7, 1, none⟩ (.slice A8 sh.length c8)).heap.size A7 sh := ((E1.box T7 0 _).box (heap_setCell_same um X7 0 _ _ (.int .i64 n) T7) 1 _).more (by simp)
            have V3 : Edg ((um.setCell ⟨X7, 0, none⟩ (.int .i64 n)).setCell ⟨X7, 1, none⟩ (.slice A8 sh.length c8)) ((um.setCell ⟨X7, 0, none⟩ (.int .i64 n)).setCell ⟨X7, 1, none⟩ (.slice A8 sh.length c8)).heap.size A8 sh := ((E3.box T7 0 _).box (heap_setCell_same um X7 0 _ _ (.int .i64 n) T7) 1 _).more (by simp)
            have H7 : Below W4.heap.size W4 ((um.setCell ⟨X7, 0, none⟩ (.int .i64 n)).setCell ⟨X7, 1, none⟩ (.slice A8 sh.length c8)) := (H6.setCell (p := ⟨X7, 0, none⟩) G7 _).setCell (p := ⟨X7, 1, none⟩) G7 _
            refine wpAnyH_ready (rs := [7]) (by kernel_rfl) (by simp) ?_
            refine AllReadyH.cons (o := ?o30) ?hi30 (fun K hK => ?_) AllReadyH.nil
            case hi30 => (simp only [List.getElem?_toArray, List.getElem?_cons_zero, List.getElem?_cons_succ]; exact rfl)
            go_simp
            refine hK.out _ _ (SN.out _ H7) (fun hHeld => ?_)
            clear hK K p0 p1 p2 p3
            try simp only [Act.put, List.setIfInBounds_toArray, List.set_cons_zero, List.set_cons_succ]
            refine wpAnyH_done (by kernel_rfl) ?_ _
            exact ⟨X6, X7, A7, c7, A8, c8, (by simp only [Act.put, List.setIfInBounds_toArray, List.set_cons_zero, List.set_cons_succ]), Lib.hid V6, Lib.hid V7, Lib.hid V1, Lib.hid V3, Lib.hid H7⟩
        case st27_5 =>
          go_simp
          obtain ⟨X7, hX7⟩ : ∃ X7, X7 = u2.heap.size := ⟨_, rfl⟩
          obtain ⟨u3, hu3⟩ : ∃ u3, u3 = u2.alloc (.cells #[.int .i64 0, .slice none 0 0] 38) := ⟨_, rfl⟩
          first | rw [← hu3, ← hX7] | (simp only [World.drew] at hX7 ⊢; rw [← hu3, ← hX7]) | rw [← hu3, show W4.heap.size = X7 from hX7.symm]
          have bb : Below u2.heap.size u2 u3 := by rw [hu3]; exact (Below.refl _ _).alloc (Nat.le_refl _) _
          have hne : X6 ≠ X7 := by have := lt_of_block F6.out; omega
          have G7 : W4.heap.size ≤ X7 := by have := FB.out.size; omega
          have F1 : Hid (Edg u3 u3.heap.size A7 sh) := Lib.hid (F1.out.on bb)
          have F6 : Hid (u3.heap[X6]? = some (.cells #[.int .i64 0, .slice none 0 0] 25 (0, 0))) := Lib.hid ((bb.block _ (lt_of_block F6.out)).trans F6.out)
          have FB : Hid (Below W4.heap.size W4 u3) := Lib.hid (FB.out.trans (bb.mono FB.out.size))
          have F7 : Hid (u3.heap[X7]? = some (.cells #[.int .i64 0, .slice none 0 0] 38 (0, 0))) := Lib.hid (by rw [hu3, hX7]; exact heap_alloc_new ..)
          clear hu3 hX7 bb
          refine hK.out _ _ (SN.out _ FB.out) (fun hHeld => ?_)
          clear hK K
          try simp only [Act.put, List.setIfInBounds_toArray, List.set_cons_zero, List.set_cons_succ]
          refine wpAnyH_ready (rs := [3]) (by kernel_rfl) (by simp) ?_
          refine AllReadyH.cons (o := ?o31_3) ?hi31_3 (fun K hK => ?st31_3) <| AllReadyH.nil
          case hi31_3 => (simp only [List.getElem?_toArray, List.getElem?_cons_zero, List.getElem?_cons_succ]; exact rfl)
          case st31_3 =>
            go_simp
            go_at_call 18
            (with_reducible refine (SR.out _ FB.out).mono ?_)
            rintro e u4 ⟨A8, c8, rfl, o8, b8⟩
            try dsimp only
            have F1 : Hid (Edg u4 u4.heap.size A7 sh) := Lib.hid (F1.out.on b8.out)
            have F6 : Hid (u4.heap[X6]? = some (.cells #[.int .i64 0, .slice none 0 0] 25 (0, 0))) := Lib.hid ((b8.out.block _ (lt_of_block F6.out)).trans F6.out)
            have F7 : Hid (u4.heap[X7]? = some (.cells #[.int .i64 0, .slice none 0 0] 38 (0, 0))) := Lib.hid ((b8.out.block _ (lt_of_block F7.out)).trans F7.out)
            have FB : Hid (Below W4.heap.size W4 u4) := Lib.hid (FB.out.trans (b8.out.mono FB.out.size))
            have F3 : Hid (Edg u4 u4.heap.size A8 sh) := Lib.hid o8.out
            clear o8 b8
            refine hK.out _ _ (SN.out _ FB.out) (fun hHeld => ?_)
            clear hK K
            try simp only [Act.put, List.setIfInBounds_toArray, List.set_cons_zero, List.set_cons_succ]
            obtain ⟨⟨p0, p1⟩, p2, p3⟩ := obG F6.out
            have T6 : ((u4.setCell ⟨X6, 0, none⟩ (.int .i64 n)).setCell ⟨X6, 1, none⟩ (.slice A7 sh.length c7)).heap[X6]? = some (.cells #[.int .i64 n, .slice A7 sh.length c7] 25 (0, 0)) := heap_setCell_same (u4.setCell ⟨X6, 0, none⟩ (.int .i64 n)) X6 1 _ _ (.slice A7 sh.length c7) (heap_setCell_same u4 X6 0 _ _ (.int .i64 n) F6.out)
            have T7 : ((u4.setCell ⟨X6, 0, none⟩ (.int .i64 n)).setCell ⟨X6, 1, none⟩ (.slice A7 sh.length c7)).heap[X7]? = some (.cells #[.int .i64 0, .slice none 0 0] 38 (0, 0)) := by rw [heap_setCell_other _ _ _ _ (Ne.symm hne), heap_setCell_other _ _ _ _ (Ne.symm hne)]; exact F7.out
            have E1 : Edg ((u4.setCell ⟨X6, 0, none⟩ (.int .i64 n)).setCell ⟨X6, 1, none⟩ (.slice A7 sh.length c7)) ((u4.setCell ⟨X6, 0, none⟩ (.int .i64 n)).setCell ⟨X6, 1, none⟩ (.slice A7 sh.length c7)).heap.size A7 sh := ((F1.out.box F6.out 0 _).box (heap_setCell_same u4 X6 0 _ _ (.int .i64 n) F6.out) 1 _).more (by simp)
            have E3 : Edg ((u4.setCell ⟨X6, 0, none⟩ (.int .i64 n)).setCell ⟨X6, 1, none⟩ (.slice A7 sh.length c7)) ((u4.setCell ⟨X6, 0, none⟩ (.int .i64 n)).setCell ⟨X6, 1, none⟩ (.slice A7 sh.length c7)).heap.size A8 sh := ((F3.out.box F6.out 0 _).box (heap_setCell_same u4 X6 0 _ _ (.int .i64 n) F6.out) 1 _).more (by simp)
            have H6 : Below W4.heap.size W4 ((u4.setCell ⟨X6, 0, none⟩ (.int .i64 n)).setCell ⟨X6, 1, none⟩ (.slice A7 sh.length c7)) := (FB.out.setCell (p := ⟨X6, 0, none⟩) G6 _).setCell (p := ⟨X6, 1, none⟩) G6 _
            refine wpAnyH_ready (rs := [6]) (by kernel_rfl) (by simp) ?_
            refine AllReadyH.cons (o := ?o32) ?hi32 (fun K hK => ?_) AllReadyH.nil
            case hi32 => (simp only [List.getElem?_toArray, List.getElem?_cons_zero, List.getElem?_cons_succ]; exact rfl)
            go_simp
            refine hK.out _ _ (SN.out _ H6) (fun hHeld => ?_)
            clear hK K p0 p1 p2 p3
            try simp only [Act.put, List.setIfInBounds_toArray, List.set_cons_zero, List.set_cons_succ]
            clear F1 F3 F6 F7 FB
            generalize ((u4.setCell ⟨X6, 0, none⟩ (.int .i64 n)).setCell ⟨X6, 1, none⟩ (.slice A7 sh.length c7)) = um at *
            obtain ⟨⟨p0, p1⟩, p2, p3⟩ := obG T7
            have V7 : ((um.setCell ⟨X7, 0, none⟩ (.int .i64 n)).setCell ⟨X7, 1, none⟩ (.slice A8 sh.length c8)).heap[X7]? = some (.cells #[.int .i64 n, .slice A8 sh.length c8] 38 (0, 0)) := heap_setCell_same (um.setCell ⟨X7, 0, none⟩ (.int .i64 n)) X7 1 _ _ (.slice A8 sh.length c8) (heap_setCell_same um X7 0 _ _ (.int .i64 n) T7)
            have V6 : ((um.setCell ⟨X7, 0, none⟩ (.int .i64 n)).setCell ⟨X7, 1, none⟩ (.slice A8 sh.length c8)).heap[X6]? = some (.cells #[.int .i64 n, .slice A7 sh.length c7] 25 (0, 0)) := by rw [heap_setCell_other _ _ _ _ hne, heap_setCell_other _ _ _ _ hne]; exact T6
            have V1 : Edg ((um.setCell ⟨X7, 0, none⟩ (.int .i64 n)).setCell ⟨X7, 1, none⟩ (.slice A8 sh.length c8)) ((um.setCell ⟨X7, 0, none⟩ (.int .i64 n)).setCell ⟨X7, 1, none⟩ (.slice A8 sh.length c8)).heap.size A7 sh := ((E1.box T7 0 _).box (heap_setCell_same um X7 0 _ _ (.int .i64 n) T7) 1 _).more (by simp)
            have V3 : Edg ((um.setCell ⟨X7, 0, none⟩ (.int .i64 n)).setCell ⟨X7, 1, none⟩ (.slice A8 sh.length c8)) ((um.setCell ⟨X7, 0, none⟩ (.int .i64 n)).setCell ⟨X7, 1, none⟩ (.slice A8 sh.length c8)).heap.size A8 sh := ((E3.box T7 0 _).box (heap_setCell_same um X7 0 _ _ (.int .i64 n) T7) 1 _).more (by simp)
            have H7 : Below W4.heap.size W4 ((um.setCell ⟨X7, 0, none⟩ (.int .i64 n)).setCell ⟨X7, 1, none⟩ (.slice A8 sh.length c8)) := (H6.setCell (p := ⟨X7, 0, none⟩) G7 _).setCell (p := ⟨X7, 1, none⟩) G7 _
            refine wpAnyH_ready (rs := [7]) (by kernel_rfl) (by simp) ?_
            refine AllReadyH.cons (o := ?o33) ?hi33 (fun K hK => ?_) AllReadyH.nil
            case hi33 => (simp only [List.getElem?_toArray, List.getElem?_cons_zero, List.getElem?_cons_succ]; exact rfl)
            go_simp
            refine hK.out _ _ (SN.out _ H7) (fun hHeld => ?_)
            clear hK K p0 p1 p2 p3
            try simp only [Act.put, List.setIfInBounds_toArray, List.set_cons_zero, List.set_cons_succ]
            refine wpAnyH_done (by kernel_rfl) ?_ _
            exact ⟨X6, X7, A7, c7, A8, c8, (by simp only [Act.put, List.setIfInBounds_toArray, List.set_cons_zero, List.set_cons_succ]), Lib.hid V6, Lib.hid V7, Lib.hid V1, Lib.hid V3, Lib.hid H7⟩
      case st26_5 =>
        go_simp
        obtain ⟨X7, hX7⟩ : ∃ X7, X7 = u1.heap.size := ⟨_, rfl⟩
        obtain ⟨u2, hu2⟩ : ∃ u2, u2 = u1.alloc (.cells #[.int .i64 0, .slice none 0 0] 38) := ⟨_, rfl⟩
        first | rw [← hu2, ← hX7] | (simp only [World.drew] at hX7 ⊢; rw [← hu2, ← hX7]) | rw [← hu2, show W4.heap.size = X7 from hX7.symm]
        have bb : Below u1.heap.size u1 u2 := by rw [hu2]; exact (Below.refl _ _).alloc (Nat.le_refl _) _
        have hne : X6 ≠ X7 := by have := lt_of_block F6.out; omega
        have G7 : W4.heap.size ≤ X7 := by have := FB.out.size; omega
        have F6 : Hid (u2.heap[X6]? = some (.cells #[.int .i64 0, .slice none 0 0] 25 (0, 0))) := Lib.hid ((bb.block _ (lt_of_block F6.out)).trans F6.out)
        have FB : Hid (Below W4.heap.size W4 u2) := Lib.hid (FB.out.trans (bb.mono FB.out.size))
        have F7 : Hid (u2.heap[X7]? = some (.cells #[.int .i64 0, .slice none 0 0] 38 (0, 0))) := Lib.hid (by rw [hu2, hX7]; exact heap_alloc_new ..)
        clear hu2 hX7 bb
        refine hK.out _ _ (SN.out _ FB.out) (fun hHeld => ?_)
        clear hK K
        try simp only [Act.put, List.setIfInBounds_toArray, List.set_cons_zero, List.set_cons_succ]
        refine wpAnyH_ready (rs := [1]) (by kernel_rfl) (by simp) ?_
        refine AllReadyH.cons (o := ?o34_1) ?hi34_1 (fun K hK => ?st34_1) <| AllReadyH.nil
        case hi34_1 => (simp only [List.getElem?_toArray, List.getElem?_cons_zero, List.getElem?_cons_succ]; exact rfl)
        case st34_1 =>
          go_simp
          go_at_call 13
          (with_reducible refine (SC.out _ FB.out).mono ?_)
          rintro e u3 ⟨A7, c7, rfl, o7, b7⟩
          try dsimp only
          have F6 : Hid (u3.heap[X6]? = some (.cells #[.int .i64 0, .slice none 0 0] 25 (0, 0))) := Lib.hid ((b7.out.block _ (lt_of_block F6.out)).trans F6.out)
          have F7 : Hid (u3.heap[X7]? = some (.cells #[.int .i64 0, .slice none 0 0] 38 (0, 0))) := Lib.hid ((b7.out.block _ (lt_of_block F7.out)).trans F7.out)
          have FB : Hid (Below W4.heap.size W4 u3) := Lib.hid (FB.out.trans (b7.out.mono FB.out.size))
          have F1 : Hid (Edg u3 u3.heap.size A7 sh) := Lib.hid o7.out.edg
          clear o7 b7
          refine hK.out _ _ (SN.out _ FB.out) (fun hHeld => ?_)
          clear hK K
          try simp only [Act.put, List.setIfInBounds_toArray, List.set_cons_zero, List.set_cons_succ]
          refine wpAnyH_ready (rs := [3]) (by kernel_rfl) (by simp) ?_
          refine AllReadyH.cons (o := ?o35_3) ?hi35_3 (fun K hK => ?st35_3) <| AllReadyH.nil
          case hi35_3 => (simp only [List.getElem?_toArray, List.getElem?_cons_zero, List.getElem?_cons_succ]; exact rfl)
          case st35_3 =>
            go_simp
            go_at_call 18
            (with_reducible refine (SR.out _ FB.out).mono ?_)
            rintro e u4 ⟨A8, c8, rfl, o8, b8⟩
            try dsimp only
            have F1 : Hid (Edg u4 u4.heap.size A7 sh) := Lib.hid (F1.out.on b8.out)
            have F6 : Hid (u4.heap[X6]? = some (.cells #[.int .i64 0, .slice none 0 0] 25 (0, 0))) := Lib.hid ((b8.out.block _ (lt_of_block F6.out)).trans F6.out)
            have F7 : Hid (u4.heap[X7]? = some (.cells #[.int .i64 0, .slice none 0 0] 38 (0, 0))) := Lib.hid ((b8.out.block _ (lt_of_block F7.out)).trans F7.out)
            have FB : Hid (Below W4.heap.size W4 u4) := Lib.hid (FB.out.trans (b8.out.mono FB.out.size))
            have F3 : Hid (Edg u4 u4.heap.size A8 sh) := Lib.hid o8.out
            clear o8 b8
            refine hK.out _ _ (SN.out _ FB.out) (fun hHeld => ?_)
            clear hK K
            try simp only [Act.put, List.setIfInBounds_toArray, List.set_cons_zero, List.set_cons_succ]
            obtain ⟨⟨p0, p1⟩, p2, p3⟩ := obG F6.out
            have T6 : ((u4.setCell ⟨X6, 0, none⟩ (.int .i64 n)).setCell ⟨X6, 1, none⟩ (.slice A7 sh.length c7)).heap[X6]? = some (.cells #[.int .i64 n, .slice A7 sh.length c7] 25 (0, 0)) := heap_setCell_same (u4.setCell ⟨X6, 0, none⟩ (.int .i64 n)) X6 1 _ _ (.slice A7 sh.length c7) (heap_setCell_same u4 X6 0 _ _ (.int .i64 n) F6.out)
            have T7 : ((u4.setCell ⟨X6, 0, none⟩ (.int .i64 n)).setCell ⟨X6, 1, none⟩ (.slice A7 sh.length c7)).heap[X7]? = some (.cells #[.int .i64 0, .slice none 0 0] 38 (0, 0)) := by rw [heap_setCell_other _ _ _ _ (Ne.symm hne), heap_setCell_other _ _ _ _ (Ne.symm hne)]; exact F7.out
            have E1 : Edg ((u4.setCell ⟨X6, 0, none⟩ (.int .i64 n)).setCell ⟨X6, 1, none⟩ (.slice A7 sh.length c7)) ((u4.setCell ⟨X6, 0, none⟩ (.int .i64 n)).setCell ⟨X6, 1, none⟩ (.slice A7 sh.length c7)).heap.size A7 sh := ((F1.out.box F6.out 0 _).box (heap_setCell_same u4 X6 0 _ _ (.int .i64 n) F6.out) 1 _).more (by simp)
            have E3 : Edg ((u4.setCell ⟨X6, 0, none⟩ (.int .i64 n)).setCell ⟨X6, 1, none⟩ (.slice A7 sh.length c7)) ((u4.setCell ⟨X6, 0, none⟩ (.int .i64 n)).setCell ⟨X6, 1, none⟩ (.slice A7 sh.length c7)).heap.size A8 sh := ((F3.out.box F6.out 0 _).box (heap_setCell_same u4 X6 0 _ _ (.int .i64 n) F6.out) 1 _).more (by simp)
            have H6 : Below W4.heap.size W4 ((u4.setCell ⟨X6, 0, none⟩ (.int .i64 n)).setCell ⟨X6, 1, none⟩ (.slice A7 sh.length c7)) := (FB.out.setCell (p := ⟨X6, 0, none⟩) G6 _).setCell (p := ⟨X6, 1, none⟩) G6 _
            refine wpAnyH_ready (rs := [6]) (by kernel_rfl) (by simp) ?_
            refine AllReadyH.cons (o := ?o36) ?hi36 (fun K hK => ?_) AllReadyH.nil
            case hi36 => (simp only [List.getElem?_toArray, List.getElem?_cons_zero, List.getElem?_cons_succ]; exact rfl)
            go_simp
            refine hK.out _ _ (SN.out _ H6) (fun hHeld => ?_)
            clear hK K p0 p1 p2 p3
            try simp only [Act.put, List.setIfInBounds_toArray, List.set_cons_zero, List.set_cons_succ]
            clear F1 F3 F6 F7 FB
            generalize ((u4.setCell ⟨X6, 0, none⟩ (.int .i64 n)).setCell ⟨X6, 1, none⟩ (.slice A7 sh.length c7)) = um at *
            obtain ⟨⟨p0, p1⟩, p2, p3⟩ := obG T7
            have V7 : ((um.setCell ⟨X7, 0, none⟩ (.int .i64 n)).setCell ⟨X7, 1, none⟩ (.slice A8 sh.length c8)).heap[X7]? = some (.cells #[.int .i64 n, .slice A8 sh.length c8] 38 (0, 0)) := heap_setCell_same (um.setCell ⟨X7, 0, none⟩ (.int .i64 n)) X7 1 _ _ (.slice A8 sh.length c8) (heap_setCell_same um X7 0 _ _ (.int .i64 n) T7)
            have V6 : ((um.setCell ⟨X7, 0, none⟩ (.int .i64 n)).setCell ⟨X7, 1, none⟩ (.slice A8 sh.length c8)).heap[X6]? = some (.cells #[.int .i64 n, .slice A7 sh.length c7] 25 (0, 0)) := by rw [heap_setCell_other _ _ _ _ hne, heap_setCell_other _ _ _ _ hne]; exact T6
            have V1 : Edg ((um.setCell ⟨X7, 0, none⟩ (.int .i64 n)).setCell ⟨X7, 1, none⟩ (.slice A8 sh.length c8)) ((um.setCell ⟨X7, 0, none⟩ (.int .i64 n)).setCell ⟨X7, 1, none⟩ (.slice A8 sh.length c8)).heap.size A7 sh := ((E1.box T7 0 _).box (heap_setCell_same um X7 0 _ _ (.int .i64 n) T7) 1 _).more (by simp)
            have V3 : Edg ((um.setCell ⟨X7, 0, none⟩ (.int .i64 n)).setCell ⟨X7, 1, none⟩ (.slice A8 sh.length c8)) ((um.setCell ⟨X7, 0, none⟩ (.int .i64 n)).setCell ⟨X7, 1, none⟩ (.slice A8 sh.length c8)).heap.size A8 sh := ((E3.box T7 0 _).box (heap_setCell_same um X7 0 _ _ (.int .i64 n) T7) 1 _).more (by simp)
            have H7 : Below W4.heap.size W4 ((um.setCell ⟨X7, 0, none⟩ (.int .i64 n)).setCell ⟨X7, 1, none⟩ (.slice A8 sh.length c8)) := (H6.setCell (p := ⟨X7, 0, none⟩) G7 _).setCell (p := ⟨X7, 1, none⟩) G7 _
            refine wpAnyH_ready (rs := [7]) (by kernel_rfl) (by simp) ?_
            refine AllReadyH.cons (o := ?o37) ?hi37 (fun K hK => ?_) AllReadyH.nil
            case hi37 => (simp only [List.getElem?_toArray, List.getElem?_cons_zero, List.getElem?_cons_succ]; exact rfl)
            go_simp
            refine hK.out _ _ (SN.out _ H7) (fun hHeld => ?_)
            clear hK K p0 p1 p2 p3
            try simp only [Act.put, List.setIfInBounds_toArray, List.set_cons_zero, List.set_cons_succ]
            refine wpAnyH_done (by kernel_rfl) ?_ _
            exact ⟨X6, X7, A7, c7, A8, c8, (by simp only [Act.put, List.setIfInBounds_toArray, List.set_cons_zero, List.set_cons_succ]), Lib.hid V6, Lib.hid V7, Lib.hid V1, Lib.hid V3, Lib.hid H7⟩
    case st3_5 =>
      go_simp
      obtain ⟨X7, hX7⟩ : ∃ X7, X7 = u0.heap.size := ⟨_, rfl⟩
      obtain ⟨u1, hu1⟩ : ∃ u1, u1 = u0.alloc (.cells #[.int .i64 0, .slice none 0 0] 38) := ⟨_, rfl⟩
      first | rw [← hu1, ← hX7] | (simp only [World.drew] at hX7 ⊢; rw [← hu1, ← hX7]) | rw [← hu1, show W4.heap.size = X7 from hX7.symm]
      have bb : Below u0.heap.size u0 u1 := by rw [hu1]; exact (Below.refl _ _).alloc (Nat.le_refl _) _
      have G7 : W4.heap.size ≤ X7 := by have := FB.out.size; omega
      have FB : Hid (Below W4.heap.size W4 u1) := Lib.hid (FB.out.trans (bb.mono FB.out.size))
      have F7 : Hid (u1.heap[X7]? = some (.cells #[.int .i64 0, .slice none 0 0] 38 (0, 0))) := Lib.hid (by rw [hu1, hX7]; exact heap_alloc_new ..)
      clear hu1 hX7 bb
      refine hK.out _ _ (SN.out _ FB.out) (fun hHeld => ?_)
      clear hK K
      try simp only [Act.put, List.setIfInBounds_toArray, List.set_cons_zero, List.set_cons_succ]
      refine wpAnyH_ready (rs := [1, 4]) (by kernel_rfl) (by simp) ?_
      refine AllReadyH.cons (o := ?o38_1) ?hi38_1 (fun K hK => ?st38_1) <| AllReadyH.cons (o := ?o38_4) ?hi38_4 (fun K hK => ?st38_4) <| AllReadyH.nil
      case hi38_1 => (simp only [List.getElem?_toArray, List.getElem?_cons_zero, List.getElem?_cons_succ]; exact rfl)
      case hi38_4 => (simp only [List.getElem?_toArray, List.getElem?_cons_zero, List.getElem?_cons_succ]; exact rfl)
      case st38_1 =>
        go_simp
        go_at_call 13
        (with_reducible refine (SC.out _ FB.out).mono ?_)
        rintro e u2 ⟨A7, c7, rfl, o7, b7⟩
        try dsimp only
        have F7 : Hid (u2.heap[X7]? = some (.cells #[.int .i64 0, .slice none 0 0] 38 (0, 0))) := Lib.hid ((b7.out.block _ (lt_of_block F7.out)).trans F7.out)
        have FB : Hid (Below W4.heap.size W4 u2) := Lib.hid (FB.out.trans (b7.out.mono FB.out.size))
        have F1 : Hid (Edg u2 u2.heap.size A7 sh) := Lib.hid o7.out.edg
        clear o7 b7
        refine hK.out _ _ (SN.out _ FB.out) (fun hHeld => ?_)
        clear hK K
        try simp only [Act.put, List.setIfInBounds_toArray, List.set_cons_zero, List.set_cons_succ]
        refine wpAnyH_ready (rs := [3, 4]) (by kernel_rfl) (by simp) ?_
        refine AllReadyH.cons (o := ?o39_3) ?hi39_3 (fun K hK => ?st39_3) <| AllReadyH.cons (o := ?o39_4) ?hi39_4 (fun K hK => ?st39_4) <| AllReadyH.nil
        case hi39_3 => (simp only [List.getElem?_toArray, List.getElem?_cons_zero, List.getElem?_cons_succ]; exact rfl)
        case hi39_4 => (simp only [List.getElem?_toArray, List.getElem?_cons_zero, List.getElem?_cons_succ]; exact rfl)
        case st39_3 =>
          go_simp
          go_at_call 18
          (with_reducible refine (SR.out _ FB.out).mono ?_)
          rintro e u3 ⟨A8, c8, rfl, o8, b8⟩
          try dsimp only
          have F1 : Hid (Edg u3 u3.heap.size A7 sh) := Lib.hid (F1.out.on b8.out)
          have F7 : Hid (u3.heap[X7]? = some (.cells #[.int .i64 0, .slice none 0 0] 38 (0, 0))) := Lib.hid ((b8.out.block _ (lt_of_block F7.out)).trans F7.out)
          have FB : Hid (Below W4.heap.size W4 u3) := Lib.hid (FB.out.trans (b8.out.mono FB.out.size))
          have F3 : Hid (Edg u3 u3.heap.size A8 sh) := Lib.hid o8.out
          clear o8 b8
          refine hK.out _ _ (SN.out _ FB.out) (fun hHeld => ?_)
          clear hK K
          try simp only [Act.put, List.setIfInBounds_toArray, List.set_cons_zero, List.set_cons_succ]
          refine wpAnyH_ready (rs := [4]) (by kernel_rfl) (by simp) ?_
          refine AllReadyH.cons (o := ?o40_4) ?hi40_4 (fun K hK => ?st40_4) <| AllReadyH.nil
          case hi40_4 => (simp only [List.getElem?_toArray, List.getElem?_cons_zero, List.getElem?_cons_succ]; exact rfl)
          case st40_4 =>
            go_simp
            obtain ⟨X6, hX6⟩ : ∃ X6, X6 = u3.heap.size := ⟨_, rfl⟩
            obtain ⟨u4, hu4⟩ : ∃ u4, u4 = u3.alloc (.cells #[.int .i64 0, .slice none 0 0] 25) := ⟨_, rfl⟩
            first | rw [← hu4, ← hX6] | (simp only [World.drew] at hX6 ⊢; rw [← hu4, ← hX6]) | rw [← hu4, show W4.heap.size = X6 from hX6.symm]
            have bb : Below u3.heap.size u3 u4 := by rw [hu4]; exact (Below.refl _ _).alloc (Nat.le_refl _) _
            have hne : X6 ≠ X7 := by have := lt_of_block F7.out; omega
            have G6 : W4.heap.size ≤ X6 := by have := FB.out.size; omega
            have F1 : Hid (Edg u4 u4.heap.size A7 sh) := Lib.hid (F1.out.on bb)
            have F3 : Hid (Edg u4 u4.heap.size A8 sh) := Lib.hid (F3.out.on bb)
            have F7 : Hid (u4.heap[X7]? = some (.cells #[.int .i64 0, .slice none 0 0] 38 (0, 0))) := Lib.hid ((bb.block _ (lt_of_block F7.out)).trans F7.out)
            have FB : Hid (Below W4.heap.size W4 u4) := Lib.hid (FB.out.trans (bb.mono FB.out.size))
            have F6 : Hid (u4.heap[X6]? = some (.cells #[.int .i64 0, .slice none 0 0] 25 (0, 0))) := Lib.hid (by rw [hu4, hX6]; exact heap_alloc_new ..)
            clear hu4 hX6 bb
            refine hK.out _ _ (SN.out _ FB.out) (fun hHeld => ?_)
            clear hK K
            try simp only [Act.put, List.setIfInBounds_toArray, List.set_cons_zero, List.set_cons_succ]
            obtain ⟨⟨p0, p1⟩, p2, p3⟩ := obG F6.out
            have T6 : ((u4.setCell ⟨X6, 0, none⟩ (.int .i64 n)).setCell ⟨X6, 1, none⟩ (.slice A7 sh.length c7)).heap[X6]? = some (.cells #[.int .i64 n, .slice A7 sh.length c7] 25 (0, 0)) := heap_setCell_same (u4.setCell ⟨X6, 0, none⟩ (.int .i64 n)) X6 1 _ _ (.slice A7 sh.length c7) (heap_setCell_same u4 X6 0 _ _ (.int .i64 n) F6.out)
            have T7 : ((u4.setCell ⟨X6, 0, none⟩ (.int .i64 n)).setCell ⟨X6, 1, none⟩ (.slice A7 sh.length c7)).heap[X7]? = some (.cells #[.int .i64 0, .slice none 0 0] 38 (0, 0)) := by rw [heap_setCell_other _ _ _ _ (Ne.symm hne), heap_setCell_other _ _ _ _ (Ne.symm hne)]; exact F7.out
            have E1 : Edg ((u4.setCell ⟨X6, 0, none⟩ (.int .i64 n)).setCell ⟨X6, 1, none⟩ (.slice A7 sh.length c7)) ((u4.setCell ⟨X6, 0, none⟩ (.int .i64 n)).setCell ⟨X6, 1, none⟩ (.slice A7 sh.length c7)).heap.size A7 sh := ((F1.out.box F6.out 0 _).box (heap_setCell_same u4 X6 0 _ _ (.int .i64 n) F6.out) 1 _).more (by simp)
            have E3 : Edg ((u4.setCell ⟨X6, 0, none⟩ (.int .i64 n)).setCell ⟨X6, 1, none⟩ (.slice A7 sh.length c7)) ((u4.setCell ⟨X6, 0, none⟩ (.int .i64 n)).setCell ⟨X6, 1, none⟩ (.slice A7 sh.length c7)).heap.size A8 sh := ((F3.out.box F6.out 0 _).box (heap_setCell_same u4 X6 0 _ _ (.int .i64 n) F6.out) 1 _).more (by simp)
            have H6 : Below W4.heap.size W4 ((u4.setCell ⟨X6, 0, none⟩ (.int .i64 n)).setCell ⟨X6, 1, none⟩ (.slice A7 sh.length c7)) := (FB.out.setCell (p := ⟨X6, 0, none⟩) G6 _).setCell (p := ⟨X6, 1, none⟩) G6 _
            refine wpAnyH_ready (rs := [6]) (by kernel_rfl) (by simp) ?_
            refine AllReadyH.cons (o := ?o41) ?hi41 (fun K hK => ?_) AllReadyH.nil
            case hi41 => (simp only [List.getElem?_toArray, List.getElem?_cons_zero, List.getElem?_cons_succ]; exact rfl)
            go_simp
            refine hK.out _ _ (SN.out _ H6) (fun hHeld => ?_)
            clear hK K p0 p1 p2 p3
            try simp only [Act.put, List.setIfInBounds_toArray, List.set_cons_zero, List.set_cons_succ]
            clear F1 F3 F6 F7 FB
            generalize ((u4.setCell ⟨X6, 0, none⟩ (.int .i64 n)).setCell ⟨X6, 1, none⟩ (.slice A7 sh.length c7)) = um at *
            obtain ⟨⟨p0, p1⟩, p2, p3⟩ := obG T7
            have V7 : ((um.setCell ⟨X7, 0, none⟩ (.int .i64 n)).setCell ⟨X7, 1, none⟩ (.slice A8 sh.length c8)).heap[X7]? = some (.cells #[.int .i64 n, .slice A8 sh.length c8] 38 (0, 0)) := heap_setCell_same (um.setCell ⟨X7, 0, none⟩ (.int .i64 n)) X7 1 _ _ (.slice A8 sh.length c8) (heap_setCell_same um X7 0 _ _ (.int .i64 n) T7)
            have V6 : ((um.setCell ⟨X7, 0, none⟩ (.int .i64 n)).setCell ⟨X7, 1, none⟩ (.slice A8 sh.length c8)).heap[X6]? = some (.cells #[.int .i64 n, .slice A7 sh.length c7] 25 (0, 0)) := by rw [heap_setCell_other _ _ _ _ hne, heap_setCell_other _ _ _ _ hne]; exact T6
            have V1 : Edg ((um.setCell ⟨X7, 0, none⟩ (.int .i64 n)).setCell ⟨X7, 1, none⟩ (.slice A8 sh.length c8)) ((um.setCell ⟨X7, 0, none⟩ (.int .i64 n)).setCell ⟨X7, 1, none⟩ (.slice A8 sh.length c8)).heap.size A7 sh := ((E1.box T7 0 _).box (heap_setCell_same um X7 0 _ _ (.int .i64 n) T7) 1 _).more (by simp)
            have V3 : Edg ((um.setCell ⟨X7, 0, none⟩ (.int .i64 n)).setCell ⟨X7, 1, none⟩ (.slice A8 sh.length c8)) ((um.setCell ⟨X7, 0, none⟩ (.int .i64 n)).setCell ⟨X7, 1, none⟩ (.slice A8 sh.length c8)).heap.size A8 sh := ((E3.box T7 0 _).box (heap_setCell_same um X7 0 _ _ (.int .i64 n) T7) 1 _).more (by simp)
            have H7 : Below W4.heap.size W4 ((um.setCell ⟨X7, 0, none⟩ (.int .i64 n)).setCell ⟨X7, 1, none⟩ (.slice A8 sh.length c8)) := (H6.setCell (p := ⟨X7, 0, none⟩) G7 _).setCell (p := ⟨X7, 1, none⟩) G7 _
            refine wpAnyH_ready (rs := [7]) (by kernel_rfl) (by simp) ?_
            refine AllReadyH.cons (o := ?o42) ?hi42 (fun K hK => ?_) AllReadyH.nil
            case hi42 => (simp only [List.getElem?_toArray, List.getElem?_cons_zero, List.getElem?_cons_succ]; exact rfl)
            go_simp
            refine hK.out _ _ (SN.out _ H7) (fun hHeld => ?_)
            clear hK K p0 p1 p2 p3
            try simp only [Act.put, List.setIfInBounds_toArray, List.set_cons_zero, List.set_cons_succ]
            refine wpAnyH_done (by kernel_rfl) ?_ _
            exact ⟨X6, X7, A7, c7, A8, c8, (by simp only [Act.put, List.setIfInBounds_toArray, List.set_cons_zero, List.set_cons_succ]), Lib.hid V6, Lib.hid V7, Lib.hid V1, Lib.hid V3, Lib.hid H7⟩
        case st39_4 =>
          go_simp
          obtain ⟨X6, hX6⟩ : ∃ X6, X6 = u2.heap.size := ⟨_, rfl⟩
          obtain ⟨u3, hu3⟩ : ∃ u3, u3 = u2.alloc (.cells #[.int .i64 0, .slice none 0 0] 25) := ⟨_, rfl⟩
          first | rw [← hu3, ← hX6] | (simp only [World.drew] at hX6 ⊢; rw [← hu3, ← hX6]) | rw [← hu3, show W4.heap.size = X6 from hX6.symm]
          have bb : Below u2.heap.size u2 u3 := by rw [hu3]; exact (Below.refl _ _).alloc (Nat.le_refl _) _
          have hne : X6 ≠ X7 := by have := lt_of_block F7.out; omega
          have G6 : W4.heap.size ≤ X6 := by have := FB.out.size; omega
          have F1 : Hid (Edg u3 u3.heap.size A7 sh) := Lib.hid (F1.out.on bb)
          have F7 : Hid (u3.heap[X7]? = some (.cells #[.int .i64 0, .slice none 0 0] 38 (0, 0))) := Lib.hid ((bb.block _ (lt_of_block F7.out)).trans F7.out)
          have FB : Hid (Below W4.heap.size W4 u3) := Lib.hid (FB.out.trans (bb.mono FB.out.size))
          have F6 : Hid (u3.heap[X6]? = some (.cells #[.int .i64 0, .slice none 0 0] 25 (0, 0))) := Lib.hid (by rw [hu3, hX6]; exact heap_alloc_new ..)
          clear hu3 hX6 bb
          refine hK.out _ _ (SN.out _ FB.out) (fun hHeld => ?_)
          clear hK K
          try simp only [Act.put, List.setIfInBounds_toArray, List.set_cons_zero, List.set_cons_succ]
          refine wpAnyH_ready (rs := [3]) (by kernel_rfl) (by simp) ?_
          refine AllReadyH.cons (o := ?o43_3) ?hi43_3 (fun K hK => ?st43_3) <| AllReadyH.nil
          case hi43_3 => (simp only [List.getElem?_toArray, List.getElem?_cons_zero, List.getElem?_cons_succ]; exact rfl)
          case st43_3 =>
            go_simp
            go_at_call 18
            (with_reducible refine (SR.out _ FB.out).mono ?_)
            rintro e u4 ⟨A8, c8, rfl, o8, b8⟩
            try dsimp only
            have F1 : Hid (Edg u4 u4.heap.size A7 sh) := Lib.hid (F1.out.on b8.out)
            have F6 : Hid (u4.heap[X6]? = some (.cells #[.int .i64 0, .slice none 0 0] 25 (0, 0))) := Lib.hid ((b8.out.block _ (lt_of_block F6.out)).trans F6.out)
            have F7 : Hid (u4.heap[X7]? = some (.cells #[.int .i64 0, .slice none 0 0] 38 (0, 0))) := Lib.hid ((b8.out.block _ (lt_of_block F7.out)).trans F7.out)
            have FB : Hid (Below W4.heap.size W4 u4) := Lib.hid (FB.out.trans (b8.out.mono FB.out.size))
            have F3 : Hid (Edg u4 u4.heap.size A8 sh) := Lib.hid o8.out
            clear o8 b8
            refine hK.out _ _ (SN.out _ FB.out) (fun hHeld => ?_)
            clear hK K
            try simp only [Act.put, List.setIfInBounds_toArray, List.set_cons_zero, List.set_cons_succ]
            obtain ⟨⟨p0, p1⟩, p2, p3⟩ := obG F6.out
            have T6 : ((u4.setCell ⟨X6, 0, none⟩ (.int .i64 n)).setCell ⟨X6, 1, none⟩ (.slice A7 sh.length c7)).heap[X6]? = some (.cells #[.int .i64 n, .slice A7 sh.length c7] 25 (0, 0)) := heap_setCell_same (u4.setCell ⟨X6, 0, none⟩ (.int .i64 n)) X6 1 _ _ (.slice A7 sh.length c7) (heap_setCell_same u4 X6 0 _ _ (.int .i64 n) F6.out)
            have T7 : ((u4.setCell ⟨X6, 0, none⟩ (.int .i64 n)).setCell ⟨X6, 1, none⟩ (.slice A7 sh.length c7)).heap[X7]? = some (.cells #[.int .i64 0, .slice none 0 0] 38 (0, 0)) := by rw [heap_setCell_other _ _ _ _ (Ne.symm hne), heap_setCell_other _ _ _ _ (Ne.symm hne)]; exact F7.out
            have E1 : Edg ((u4.setCell ⟨X6, 0, none⟩ (.int .i64 n)).setCell ⟨X6, 1, none⟩ (.slice A7 sh.length c7)) ((u4.setCell ⟨X6, 0, none⟩ (.int .i64 n)).setCell ⟨X6, 1, none⟩ (.slice A7 sh.length c7)).heap.size A7 sh := ((F1.out.box F6.out 0 _).box (heap_setCell_same u4 X6 0 _ _ (.int .i64 n) F6.out) 1 _).more (by simp)
            have E3 : Edg ((u4.setCell ⟨X6, 0, none⟩ (.int .i64 n)).setCell ⟨X6, 1, none⟩ (.slice A7 sh.length c7)) ((u4.setCell ⟨X6, 0, none⟩ (.int .i64 n)).setCell ⟨X6, 1, none⟩ (.slice A7 sh.length c7)).heap.size A8 sh := ((F3.out.box F6.out 0 _).box (heap_setCell_same u4 X6 0 _ _ (.int .i64 n) F6.out) 1 _).more (by simp)
            have H6 : Below W4.heap.size W4 ((u4.setCell ⟨X6, 0, none⟩ (.int .i64 n)).setCell ⟨X6, 1, none⟩ (.slice A7 sh.length c7)) := (FB.out.setCell (p := ⟨X6, 0, none⟩) G6 _).setCell (p := ⟨X6, 1, none⟩) G6 _
            refine wpAnyH_ready (rs := [6]) (by kernel_rfl) (by simp) ?_
            refine AllReadyH.cons (o := ?o44) ?hi44 (fun K hK => ?_) AllReadyH.nil
            case hi44 => (simp only [List.getElem?_toArray, List.getElem?_cons_zero, List.getElem?_cons_succ]; exact rfl)
            go_simp
            refine hK.out _ _ (SN.out _ H6) (fun hHeld => ?_)
            clear hK K p0 p1 p2 p3
            try simp only [Act.put, List.setIfInBounds_toArray, List.set_cons_zero, List.set_cons_succ]
            clear F1 F3 F6 F7 FB
            generalize ((u4.setCell ⟨X6, 0, none⟩ (.int .i64 n)).setCell ⟨X6, 1, none⟩ (.slice A7 sh.length c7)) = um at *
            obtain ⟨⟨p0, p1⟩, p2, p3⟩ := obG T7
            have V7 : ((um.setCell ⟨X7, 0, none⟩ (.int .i64 n)).setCell ⟨X7, 1, none⟩ (.slice A8 sh.length c8)).heap[X7]? = some (.cells #[.int .i64 n, .slice A8 sh.length c8] 38 (0, 0)) := heap_setCell_same (um.setCell ⟨X7, 0, none⟩ (.int .i64 n)) X7 1 _ _ (.slice A8 sh.length c8) (heap_setCell_same um X7 0 _ _ (.int .i64 n) T7)
            have V6 : ((um.setCell ⟨X7, 0, none⟩ (.int .i64 n)).setCell ⟨X7, 1, none⟩ (.slice A8 sh.length c8)).heap[X6]? = some (.cells #[.int .i64 n, .slice A7 sh.length c7] 25 (0, 0)) := by rw [heap_setCell_other _ _ _ _ hne, heap_setCell_other _ _ _ _ hne]; exact T6
            have V1 : Edg ((um.setCell ⟨X7, 0, none⟩ (.int .i64 n)).setCell ⟨X7, 1, none⟩ (.slice A8 sh.length c8)) ((um.setCell ⟨X7, 0, none⟩ (.int .i64 n)).setCell ⟨X7, 1, none⟩ (.slice A8 sh.length c8)).heap.size A7 sh := ((E1.box T7 0 _).box (heap_setCell_same um X7 0 _ _ (.int .i64 n) T7) 1 _).more (by simp)
            have V3 : Edg ((um.setCell ⟨X7, 0, none⟩ (.int .i64 n)).setCell ⟨X7, 1, none⟩ (.slice A8 sh.length c8)) ((um.setCell ⟨X7, 0, none⟩ (.int .i64 n)).setCell ⟨X7, 1, none⟩ (.slice A8 sh.length c8)).heap.size A8 sh := ((E3.box T7 0 _).box (heap_setCell_same um X7 0 _ _ (.int .i64 n) T7) 1 _).more (by simp)
            have H7 : Below W4.heap.size W4 ((um.setCell ⟨X7, 0, none⟩ (.int .i64 n)).setCell ⟨X7, 1, none⟩ (.slice A8 sh.length c8)) := (H6.setCell (p := ⟨X7, 0, none⟩) G7 _).setCell (p := ⟨X7, 1, none⟩) G7 _
            refine wpAnyH_ready (rs := [7]) (by kernel_rfl) (by simp) ?_
            refine AllReadyH.cons (o := ?o45) ?hi45 (fun K hK => ?_) AllReadyH.nil
            case hi45 => (simp only [List.getElem?_toArray, List.getElem?_cons_zero, List.getElem?_cons_succ]; exact rfl)
            go_simp
            refine hK.out _ _ (SN.out _ H7) (fun hHeld => ?_)
            clear hK K p0 p1 p2 p3
            try simp only [Act.put, List.setIfInBounds_toArray, List.set_cons_zero, List.set_cons_succ]
            refine wpAnyH_done (by kernel_rfl) ?_ _
            exact ⟨X6, X7, A7, c7, A8, c8, (by simp only [Act.put, List.setIfInBounds_toArray, List.set_cons_zero, List.set_cons_succ]), Lib.hid V6, Lib.hid V7, Lib.hid V1, Lib.hid V3, Lib.hid H7⟩
      case st38_4 =>
        go_simp
        obtain ⟨X6, hX6⟩ : ∃ X6, X6 = u1.heap.size := ⟨_, rfl⟩
        obtain ⟨u2, hu2⟩ : ∃ u2, u2 = u1.alloc (.cells #[.int .i64 0, .slice none 0 0] 25) := ⟨_, rfl⟩
        first | rw [← hu2, ← hX6] | (simp only [World.drew] at hX6 ⊢; rw [← hu2, ← hX6]) | rw [← hu2, show W4.heap.size = X6 from hX6.symm]
        have bb : Below u1.heap.size u1 u2 := by rw [hu2]; exact (Below.refl _ _).alloc (Nat.le_refl _) _
        have hne : X6 ≠ X7 := by have := lt_of_block F7.out; omega
        have G6 : W4.heap.size ≤ X6 := by have := FB.out.size; omega
        have F7 : Hid (u2.heap[X7]? = some (.cells #[.int .i64 0, .slice none 0 0] 38 (0, 0))) := Lib.hid ((bb.block _ (lt_of_block F7.out)).trans F7.out)
        have FB : Hid (Below W4.heap.size W4 u2) := Lib.hid (FB.out.trans (bb.mono FB.out.size))
        have F6 : Hid (u2.heap[X6]? = some (.cells #[.int .i64 0, .slice none 0 0] 25 (0, 0))) := Lib.hid (by rw [hu2, hX6]; exact heap_alloc_new ..)
        clear hu2 hX6 bb
        refine hK.out _ _ (SN.out _ FB.out) (fun hHeld => ?_)
        clear hK K
        try simp only [Act.put, List.setIfInBounds_toArray, List.set_cons_zero, List.set_cons_succ]
        refine wpAnyH_ready (rs := [1]) (by kernel_rfl) (by simp) ?_
        refine AllReadyH.cons (o := ?o46_1) ?hi46_1 (fun K hK => ?st46_1) <| AllReadyH.nil
        case hi46_1 => (simp only [List.getElem?_toArray, List.getElem?_cons_zero, List.getElem?_cons_succ]; exact rfl)
        case st46_1 =>
          go_simp
          go_at_call 13
          (with_reducible refine (SC.out _ FB.out).mono ?_)
          rintro e u3 ⟨A7, c7, rfl, o7, b7⟩
          try dsimp only
          have F6 : Hid (u3.heap[X6]? = some (.cells #[.int .i64 0, .slice none 0 0] 25 (0, 0))) := Lib.hid ((b7.out.block _ (lt_of_block F6.out)).trans F6.out)
          have F7 : Hid (u3.heap[X7]? = some (.cells #[.int .i64 0, .slice none 0 0] 38 (0, 0))) := Lib.hid ((b7.out.block _ (lt_of_block F7.out)).trans F7.out)
          have FB : Hid (Below W4.heap.size W4 u3) := Lib.hid (FB.out.trans (b7.out.mono FB.out.size))
          have F1 : Hid (Edg u3 u3.heap.size A7 sh) := Lib.hid o7.out.edg
          clear o7 b7
          refine hK.out _ _ (SN.out _ FB.out) (fun hHeld => ?_)
          clear hK K
          try simp only [Act.put, List.setIfInBounds_toArray, List.set_cons_zero, List.set_cons_succ]
          refine wpAnyH_ready (rs := [3]) (by kernel_rfl) (by simp) ?_
          refine AllReadyH.cons (o := ?o47_3) ?hi47_3 (fun K hK => ?st47_3) <| AllReadyH.nil
          case hi47_3 => (simp only [List.getElem?_toArray, List.getElem?_cons_zero, List.getElem?_cons_succ]; exact rfl)
          case st47_3 =>
            go_simp
            go_at_call 18
            (with_reducible refine (SR.out _ FB.out).mono ?_)
            rintro e u4 ⟨A8, c8, rfl, o8, b8⟩
            try dsimp only
            have F1 : Hid (Edg u4 u4.heap.size A7 sh) := Lib.hid (F1.out.on b8.out)
            have F6 : Hid (u4.heap[X6]? = some (.cells #[.int .i64 0, .slice none 0 0] 25 (0, 0))) := Lib.hid ((b8.out.block _ (lt_of_block F6.out)).trans F6.out)
            have F7 : Hid (u4.heap[X7]? = some (.cells #[.int .i64 0, .slice none 0 0] 38 (0, 0))) := Lib.hid ((b8.out.block _ (lt_of_block F7.out)).trans F7.out)
            have FB : Hid (Below W4.heap.size W4 u4) := Lib.hid (FB.out.trans (b8.out.mono FB.out.size))
            have F3 : Hid (Edg u4 u4.heap.size A8 sh) := Lib.hid o8.out
            clear o8 b8
            refine hK.out _ _ (SN.out _ FB.out) (fun hHeld => ?_)
            clear hK K
            try simp only [Act.put, List.setIfInBounds_toArray, List.set_cons_zero, List.set_cons_succ]
            obtain ⟨⟨p0, p1⟩, p2, p3⟩ := obG F6.out
            have T6 : ((u4.setCell ⟨X6, 0, none⟩ (.int .i64 n)).setCell ⟨X6, 1, none⟩ (.slice A7 sh.length c7)).heap[X6]? = some (.cells #[.int .i64 n, .slice A7 sh.length c7] 25 (0, 0)) := heap_setCell_same (u4.setCell ⟨X6, 0, none⟩ (.int .i64 n)) X6 1 _ _ (.slice A7 sh.length c7) (heap_setCell_same u4 X6 0 _ _ (.int .i64 n) F6.out)
            have T7 : ((u4.setCell ⟨X6, 0, none⟩ (.int .i64 n)).setCell ⟨X6, 1, none⟩ (.slice A7 sh.length c7)).heap[X7]? = some (.cells #[.int .i64 0, .slice none 0 0] 38 (0, 0)) := by rw [heap_setCell_other _ _ _ _ (Ne.symm hne), heap_setCell_other _ _ _ _ (Ne.symm hne)]; exact F7.out
            have E1 : Edg ((u4.setCell ⟨X6, 0, none⟩ (.int .i64 n)).setCell ⟨X6, 1, none⟩ (.slice A7 sh.length c7)) ((u4.setCell ⟨X6, 0, none⟩ (.int .i64 n)).setCell ⟨X6, 1, none⟩ (.slice A7 sh.length c7)).heap.size A7 sh := ((F1.out.box F6.out 0 _).box (heap_setCell_same u4 X6 0 _ _ (.int .i64 n) F6.out) 1 _).more (by simp)
            have E3 : Edg ((u4.setCell ⟨X6, 0, none⟩ (.int .i64 n)).setCell ⟨X6, 1, none⟩ (.slice A7 sh.length c7)) ((u4.setCell ⟨X6, 0, none⟩ (.int .i64 n)).setCell ⟨X6, 1, none⟩ (.slice A7 sh.length c7)).heap.size A8 sh := ((F3.out.box F6.out 0 _).box (heap_setCell_same u4 X6 0 _ _ (.int .i64 n) F6.out) 1 _).more (by simp)
            have H6 : Below W4.heap.size W4 ((u4.setCell ⟨X6, 0, none⟩ (.int .i64 n)).setCell ⟨X6, 1, none⟩ (.slice A7 sh.length c7)) := (FB.out.setCell (p := ⟨X6, 0, none⟩) G6 _).setCell (p := ⟨X6, 1, none⟩) G6 _
            refine wpAnyH_ready (rs := [6]) (by kernel_rfl) (by simp) ?_
            refine AllReadyH.cons (o := ?o48) ?hi48 (fun K hK => ?_) AllReadyH.nil
            case hi48 => (simp only [List.getElem?_toArray, List.getElem?_cons_zero, List.getElem?_cons_succ]; exact rfl)
            go_simp
            refine hK.out _ _ (SN.out _ H6) (fun hHeld => ?_)
            clear hK K p0 p1 p2 p3
            try simp only [Act.put, List.setIfInBounds_toArray, List.set_cons_zero, List.set_cons_succ]
            clear F1 F3 F6 F7 FB
            generalize ((u4.setCell ⟨X6, 0, none⟩ (.int .i64 n)).setCell ⟨X6, 1, none⟩ (.slice A7 sh.length c7)) = um at *
            obtain ⟨⟨p0, p1⟩, p2, p3⟩ := obG T7
            have V7 : ((um.setCell ⟨X7, 0, none⟩ (.int .i64 n)).setCell ⟨X7, 1, none⟩ (.slice A8 sh.length c8)).heap[X7]? = some (.cells #[.int .i64 n, .slice A8 sh.length c8] 38 (0, 0)) := heap_setCell_same (um.setCell ⟨X7, 0, none⟩ (.int .i64 n)) X7 1 _ _ (.slice A8 sh.length c8) (heap_setCell_same um X7 0 _ _ (.int .i64 n) T7)
            have V6 : ((um.setCell ⟨X7, 0, none⟩ (.int .i64 n)).setCell ⟨X7, 1, none⟩ (.slice A8 sh.length c8)).heap[X6]? = some (.cells #[.int .i64 n, .slice A7 sh.length c7] 25 (0, 0)) := by rw [heap_setCell_other _ _ _ _ hne, heap_setCell_other _ _ _ _ hne]; exact T6
            have V1 : Edg ((um.setCell ⟨X7, 0, none⟩ (.int .i64 n)).setCell ⟨X7, 1, none⟩ (.slice A8 sh.length c8)) ((um.setCell ⟨X7, 0, none⟩ (.int .i64 n)).setCell ⟨X7, 1, none⟩ (.slice A8 sh.length c8)).heap.size A7 sh := ((E1.box T7 0 _).box (heap_setCell_same um X7 0 _ _ (.int .i64 n) T7) 1 _).more (by simp)
            have V3 : Edg ((um.setCell ⟨X7, 0, none⟩ (.int .i64 n)).setCell ⟨X7, 1, none⟩ (.slice A8 sh.length c8)) ((um.setCell ⟨X7, 0, none⟩ (.int .i64 n)).setCell ⟨X7, 1, none⟩ (.slice A8 sh.length c8)).heap.size A8 sh := ((E3.box T7 0 _).box (heap_setCell_same um X7 0 _ _ (.int .i64 n) T7) 1 _).more (by simp)
            have H7 : Below W4.heap.size W4 ((um.setCell ⟨X7, 0, none⟩ (.int .i64 n)).setCell ⟨X7, 1, none⟩ (.slice A8 sh.length c8)) := (H6.setCell (p := ⟨X7, 0, none⟩) G7 _).setCell (p := ⟨X7, 1, none⟩) G7 _
            refine wpAnyH_ready (rs := [7]) (by kernel_rfl) (by simp) ?_
            refine AllReadyH.cons (o := ?o49) ?hi49 (fun K hK => ?_) AllReadyH.nil
            case hi49 => (simp only [List.getElem?_toArray, List.getElem?_cons_zero, List.getElem?_cons_succ]; exact rfl)
            go_simp
            refine hK.out _ _ (SN.out _ H7) (fun hHeld => ?_)
            clear hK K p0 p1 p2 p3
            try simp only [Act.put, List.setIfInBounds_toArray, List.set_cons_zero, List.set_cons_succ]
            refine wpAnyH_done (by kernel_rfl) ?_ _
            exact ⟨X6, X7, A7, c7, A8, c8, (by simp only [Act.put, List.setIfInBounds_toArray, List.set_cons_zero, List.set_cons_succ]), Lib.hid V6, Lib.hid V7, Lib.hid V1, Lib.hid V3, Lib.hid H7⟩
  case rest =>
    rintro a' w5 ⟨X6, X7, A7, c7, A8, c8, rfl, F6, F7, F1, F3, FB⟩
    simp only [Act.put, List.setIfInBounds_toArray, List.set_cons_zero, List.set_cons_succ]
    have G5 : Hid (Edg w5 w5.heap.size A es) := Lib.hid (G4.out.on FB.out)
    have E5 : Hid (Edg w5 w5.heap.size A3 es) := Lib.hid (E4.out.on FB.out)
    have B5 : Hid (Below w.heap.size w w5) := Lib.hid (B4.out.trans (FB.out.mono B4.out.size))
    have P5 : Hid (w5.heap[w.heap.size]? = some (.cells #[.int .i64 n, .slice A l cap] 25 (0, 0))) := Lib.hid ((FB.out.block _ (lt_of_block P4.out)).trans P4.out)
    have X5 : Hid (w5.heap[X]? = some (.cells #[.int .i64 n, .slice A3 l c3] 38 (0, 0))) := Lib.hid ((FB.out.block _ (lt_of_block X4.out)).trans X4.out)
    obtain ⟨ls, hls⟩ : ∃ ls, ls = sh.length := ⟨_, rfl⟩
    have LS := Lib.hid hls
    rw [← hls] at F6 F7 ⊢
    have hl5 : es.length ≤ 100000 := by rw [← HLL.out]; omega
    have hl6 : es.length ≤ 1000000 := by rw [← HLL.out]; omega
    obtain ⟨gd, hgd⟩ : ∃ gd, gd = Gr.goodV n es := ⟨_, rfl⟩
    obtain ⟨cy, hcy⟩ : ∃ cy, cy = Gr.cycleI n es := ⟨_, rfl⟩
    obtain ⟨ah, hah⟩ : ∃ ah, ah = Gr.aheadI n es v := ⟨_, rfl⟩
    obtain ⟨be, hbe⟩ : ∃ be, be = Gr.behindI n es v := ⟨_, rfl⟩
    obtain ⟨re, hre⟩ : ∃ re, re = Gr.reachI n es v := ⟨_, rfl⟩
    have L1 : Hid (cy.length ≤ 16) := Lib.hid (by rw [hcy]; exact Gr.cyc16 _ _)
    have L2 : Hid (ah.length ≤ 16) := Lib.hid (by rw [hah]; exact Gr.ahead16 _ _ _)
    have L3 : Hid (be.length ≤ 16) := Lib.hid (by rw [hbe]; exact Gr.behind16 _ _ _)
    have L4 : Hid (re.length ≤ 16) := Lib.hid (by rw [hre]; exact Gr.reach16 _ _ _)
    have K1 : Hid (∀ W, Below w5.heap.size w5 W → Calls Try.prog 9 #[.agg #[.int .i64 n, .slice A l cap]] W (BoolG W gd)) := Lib.hid fun W hW => by
      have := good_any n A es cap hl6 W (G5.out.on hW)
      rwa [← HLL.out, ← hgd] at this
    have K2 : Hid (∀ W, Below w5.heap.size w5 W → Calls Try.prog 19 #[.agg #[.int .i64 n, .slice A3 l c3]] W (BoolG W gd)) := Lib.hid fun W hW => by
      have := refGood_any n A3 es c3 hl6 W (E5.out.on hW)
      rwa [← HLL.out, ← hgd] at this
    have K3 : Hid (∀ W, Below w5.heap.size w5 W → Calls Try.prog 10 #[.agg #[.int .i64 n, .slice A l cap]] W (ListG W cy)) := Lib.hid fun W hW => by
      have := cycle_any n A es cap hl5 W (G5.out.on hW)
      rwa [← HLL.out, ← hcy] at this
    have K4 : Hid (∀ W, Below w5.heap.size w5 W → Calls Try.prog 20 #[.agg #[.int .i64 n, .slice A3 l c3]] W (ListG W cy)) := Lib.hid fun W hW => by
      have := refCycle_any n A3 es c3 hl5 W (E5.out.on hW)
      rwa [← HLL.out, ← hcy] at this
    have K5 : Hid (∀ W, Below w5.heap.size w5 W → Calls Try.prog 11 #[.agg #[.int .i64 n, .slice A l cap], .int .i64 v] W (ListG W ah)) := Lib.hid fun W hW => by
      have := ahead_any n A es cap v hl5 W (G5.out.on hW)
      rwa [← HLL.out, ← hah] at this
    have K6 : Hid (∀ W, Below w5.heap.size w5 W → Calls Try.prog 21 #[.agg #[.int .i64 n, .slice A3 l c3], .int .i64 v] W (ListG W ah)) := Lib.hid fun W hW => by
      have := refAhead_any n A3 es c3 v hl6 W (E5.out.on hW)
      rwa [← HLL.out, ← hah] at this
    have K7 : Hid (∀ W, Below w5.heap.size w5 W → Calls Try.prog 15 #[.agg #[.int .i64 n, .slice A l cap], .int .i64 v] W (ListG W be)) := Lib.hid fun W hW => by
      have := behind_any n A es cap v hl5 W (G5.out.on hW)
      rwa [← HLL.out, ← hbe] at this
    have K8 : Hid (∀ W, Below w5.heap.size w5 W → Calls Try.prog 22 #[.agg #[.int .i64 n, .slice A3 l c3], .int .i64 v] W (ListG W be)) := Lib.hid fun W hW => by
      have := refBehind_any n A3 es c3 v hl6 W (E5.out.on hW)
      rwa [← HLL.out, ← hbe] at this
    have K9 : Hid (∀ W, Below w5.heap.size w5 W → Calls Try.prog 12 #[.agg #[.int .i64 n, .slice A l cap], .int .i64 v] W (ListG W re)) := Lib.hid fun W hW => by
      have := reach_any n A es cap v HV.out hl5 W (G5.out.on hW)
      rwa [← HLL.out, ← hre] at this
    have K10 : Hid (∀ W, Below w5.heap.size w5 W → Calls Try.prog 23 #[.agg #[.int .i64 n, .slice A3 l c3], .int .i64 v] W (ListG W re)) := Lib.hid fun W hW => by
      have := refReach_any n A3 es c3 v hl5 W (E5.out.on hW)
      rwa [← HLL.out, ← hre] at this
    have SM : Hid (∀ w', Below w5.heap.size w5 w' → w'.cell? ⟨w.heap.size, 0, none⟩ = some (.int .i64 n) ∧ w'.cell? ⟨w.heap.size, 1, none⟩ = some (.slice A l cap) ∧ w'.cell? ⟨X, 0, none⟩ = some (.int .i64 n) ∧ w'.cell? ⟨X, 1, none⟩ = some (.slice A3 l c3) ∧ w'.cell? ⟨X6, 0, none⟩ = some (.int .i64 n) ∧ w'.cell? ⟨X6, 1, none⟩ = some (.slice A7 ls c7) ∧ w'.cell? ⟨X7, 0, none⟩ = some (.int .i64 n) ∧ w'.cell? ⟨X7, 1, none⟩ = some (.slice A8 ls c8)) := Lib.hid fun w' hw => by
      have h1 := (obG ((hw.block _ (lt_of_block P5.out)).trans P5.out)).1
      have h2 := (obG ((hw.block _ (lt_of_block X5.out)).trans X5.out)).1
      have h3 := (obG ((hw.block _ (lt_of_block F6.out)).trans F6.out)).1
      have h4 := (obG ((hw.block _ (lt_of_block F7.out)).trans F7.out)).1
      exact ⟨h1.1, h1.2, h2.1, h2.2, h3.1, h3.2, h4.1, h4.2⟩
    clear hgd hcy hah hbe hre hls hl5 hl6 P5 X5 F6 F7 FB SN SC SR G4 E4 P4 X4 B4 H HV
    go_wp2_with fail
    have FB : Hid (Below w5.heap.size w5 w5.drew) := Lib.hid (Below.refl _ _).drew
    refine wp_region_held_drew (S := fun w' => w'.cell? ⟨w.heap.size, 0, none⟩ = some (.int .i64 n) ∧ w'.cell? ⟨w.heap.size, 1, none⟩ = some (.slice A l cap) ∧ w'.cell? ⟨X, 0, none⟩ = some (.int .i64 n) ∧ w'.cell? ⟨X, 1, none⟩ = some (.slice A3 l c3) ∧ w'.cell? ⟨X6, 0, none⟩ = some (.int .i64 n) ∧ w'.cell? ⟨X6, 1, none⟩ = some (.slice A7 ls c7) ∧ w'.cell? ⟨X7, 0, none⟩ = some (.int .i64 n) ∧ w'.cell? ⟨X7, 1, none⟩ = some (.slice A8 ls c8)) (by kernel_rfl) ?hS0 (fun hHeld => ?_)
    case hS0 => exact (SM.out _ FB.out)
    generalize w5.drew = z0 at *
    refine wpAnyH_take (i := 0) (oi := ?o50) (v := ?v50) ?hi50 (by kernel_rfl) (by kernel_rfl) (by kernel_rfl) ?hQ50 (Or.inl ⟨?hg50, ?hy50⟩) (by assumption) ?rest50
    case hi50 => (simp only [List.getElem?_toArray, List.getElem?_cons_zero]; exact rfl)
    case hQ50 => exact fun _ _ _ h => h
    case hg50 => rfl
    case hy50 => (intro w' hSw; (try dsimp only at hSw); go_simp; try with_reducible rfl)
    try simp only [Act.put, List.setIfInBounds_toArray, List.set_cons_zero, List.set_cons_succ]
    refine wpAnyH_take (i := 2) (oi := ?o51) (v := ?v51) ?hi51 (by kernel_rfl) (by kernel_rfl) (by kernel_rfl) ?hQ51 (Or.inl ⟨?hg51, ?hy51⟩) (by assumption) ?rest51
    case hi51 => (simp only [List.getElem?_toArray, List.getElem?_cons_zero, List.getElem?_cons_succ]; exact rfl)
    case hQ51 => exact fun _ _ _ h => h
    case hg51 => rfl
    case hy51 => (intro w' hSw; (try dsimp only at hSw); go_simp; try with_reducible rfl)
    try simp only [Act.put, List.setIfInBounds_toArray, List.set_cons_zero, List.set_cons_succ]
    refine wpAnyH_ready (rs := [1]) (by kernel_rfl) (by simp) ?_
    refine AllReadyH.cons (o := ?o52) ?hi52 (fun K hK => ?_) AllReadyH.nil
    case hi52 => (simp only [List.getElem?_toArray, List.getElem?_cons_zero, List.getElem?_cons_succ]; exact rfl)
    (go_simp; go_at_call 9; (with_reducible refine (K1.out _ FB.out).mono ?_); rintro e z1 ⟨rfl, b1⟩; try dsimp only)
    have FB : Hid (Below w5.heap.size w5 z1) := Lib.hid (FB.out.trans (b1.out.mono FB.out.size))
    refine hK.out _ _ ?_ (fun hHeld => ?_)
    · exact SM.out _ FB.out
    clear hK K
    try simp only [Act.put, List.setIfInBounds_toArray, List.set_cons_zero, List.set_cons_succ]
    refine wpAnyH_ready (rs := [3]) (by kernel_rfl) (by simp) ?_
    refine AllReadyH.cons (o := ?o53) ?hi53 (fun K hK => ?_) AllReadyH.nil
    case hi53 => (simp only [List.getElem?_toArray, List.getElem?_cons_zero, List.getElem?_cons_succ]; exact rfl)
    (go_simp; go_at_call 19; (with_reducible refine (K2.out _ FB.out).mono ?_); rintro e z2 ⟨rfl, b2⟩; try dsimp only)
    have FB : Hid (Below w5.heap.size w5 z2) := Lib.hid (FB.out.trans (b2.out.mono FB.out.size))
    refine hK.out _ _ ?_ (fun hHeld => ?_)
    · exact SM.out _ FB.out
    clear hK K
    try simp only [Act.put, List.setIfInBounds_toArray, List.set_cons_zero, List.set_cons_succ]
    refine wpAnyH_take (i := 4) (oi := ?o54) (v := ?v54) ?hi54 (by kernel_rfl) (by kernel_rfl) (by kernel_rfl) ?hQ54 (Or.inl ⟨?hg54, ?hy54⟩) (by assumption) ?rest54
    case hi54 => (simp only [List.getElem?_toArray, List.getElem?_cons_zero, List.getElem?_cons_succ]; exact rfl)
    case hQ54 => exact fun _ _ _ h => h
    case hg54 => rfl
    case hy54 => (intro w' hSw; (try dsimp only at hSw); go_simp; try with_reducible rfl)
    try simp only [Act.put, List.setIfInBounds_toArray, List.set_cons_zero, List.set_cons_succ]
    refine wpAnyH_take (i := 5) (oi := ?o55) (v := ?v55) ?hi55 (by kernel_rfl) (by kernel_rfl) (by kernel_rfl) ?hQ55 (Or.inl ⟨?hg55, ?hy55⟩) (by assumption) ?rest55
    case hi55 => (simp only [List.getElem?_toArray, List.getElem?_cons_zero, List.getElem?_cons_succ]; exact rfl)
    case hQ55 => exact fun _ _ _ h => h
    case hg55 => rfl
    case hy55 => (intro w' hSw; (try dsimp only at hSw); go_simp; try with_reducible rfl)
    try simp only [Act.put, List.setIfInBounds_toArray, List.set_cons_zero, List.set_cons_succ]
    refine wpAnyH_take (i := 6) (oi := ?o56) (v := ?v56) ?hi56 (by kernel_rfl) (by kernel_rfl) (by kernel_rfl) ?hQ56 (Or.inl ⟨?hg56, ?hy56⟩) (by assumption) ?rest56
    case hi56 => (simp only [List.getElem?_toArray, List.getElem?_cons_zero, List.getElem?_cons_succ]; exact rfl)
    case hQ56 => exact fun _ _ _ h => h
    case hg56 => rfl
    case hy56 => (intro w' hSw; (try dsimp only at hSw); go_simp; try with_reducible rfl)
    try simp only [Act.put, List.setIfInBounds_toArray, List.set_cons_zero, List.set_cons_succ]
    refine wpAnyH_take (i := 8) (oi := ?o57) (v := ?v57) ?hi57 (by kernel_rfl) (by kernel_rfl) (by kernel_rfl) ?hQ57 (Or.inl ⟨?hg57, ?hy57⟩) (by assumption) ?rest57
    case hi57 => (simp only [List.getElem?_toArray, List.getElem?_cons_zero, List.getElem?_cons_succ]; exact rfl)
    case hQ57 => exact fun _ _ _ h => h
    case hg57 => rfl
    case hy57 => (intro w' hSw; (try dsimp only at hSw); go_simp; try with_reducible rfl)
    try simp only [Act.put, List.setIfInBounds_toArray, List.set_cons_zero, List.set_cons_succ]
    refine wpAnyH_ready (rs := [7]) (by kernel_rfl) (by simp) ?_
    refine AllReadyH.cons (o := ?o58) ?hi58 (fun K hK => ?_) AllReadyH.nil
    case hi58 => (simp only [List.getElem?_toArray, List.getElem?_cons_zero, List.getElem?_cons_succ]; exact rfl)
    (go_simp; go_at_call 10; (with_reducible refine (K3.out _ FB.out).mono ?_); rintro e z3 ⟨Q3, q3, rfl, o3, b3⟩; try dsimp only)
    have FB : Hid (Below w5.heap.size w5 z3) := Lib.hid (FB.out.trans (b3.out.mono FB.out.size))
    have Z3 : Hid (Zs z3 z3.heap.size Q3 cy) := Lib.hid o3.out.zs
    refine hK.out _ _ ?_ (fun hHeld => ?_)
    · exact SM.out _ FB.out
    clear hK K
    try simp only [Act.put, List.setIfInBounds_toArray, List.set_cons_zero, List.set_cons_succ]
    refine wpAnyH_ready (rs := [9]) (by kernel_rfl) (by simp) ?_
    refine AllReadyH.cons (o := ?o59) ?hi59 (fun K hK => ?_) AllReadyH.nil
    case hi59 => (simp only [List.getElem?_toArray, List.getElem?_cons_zero, List.getElem?_cons_succ]; exact rfl)
    (go_simp; go_at_call 20; (with_reducible refine (K4.out _ FB.out).mono ?_); rintro e z4 ⟨Q4, q4, rfl, o4, b4⟩; try dsimp only)
    have FB : Hid (Below w5.heap.size w5 z4) := Lib.hid (FB.out.trans (b4.out.mono FB.out.size))
    have Z3 : Hid (Zs z4 z4.heap.size Q3 cy) := Lib.hid (Z3.out.on b4.out)
    have Z4 : Hid (Zs z4 z4.heap.size Q4 cy) := Lib.hid o4.out.zs
    have IN : Hid (Calls Try.prog 14 #[.slice Q3 cy.length q3, .slice Q4 cy.length q4] z4 (BoolG z4 true)) := Lib.hid (by
      have := ints_any Q3 cy q3 Q4 cy q4 (by have := L1.out; omega) (by have := L1.out; omega) z4 Z3.out Z4.out
      rwa [sameI_refl] at this)
    clear o3 o4 b3 b4
    refine hK.out _ _ ?_ (fun hHeld => ?_)
    · exact SM.out _ FB.out
    clear hK K
    try simp only [Act.put, List.setIfInBounds_toArray, List.set_cons_zero, List.set_cons_succ]
    refine wpAnyH_ready (rs := [10]) (by kernel_rfl) (by simp) ?_
    refine AllReadyH.cons (o := ?o60) ?hi60 (fun K hK => ?_) AllReadyH.nil
    case hi60 => (simp only [List.getElem?_toArray, List.getElem?_cons_zero, List.getElem?_cons_succ]; exact rfl)
    (go_simp; go_at_call 14; (with_reducible refine (IN.out).mono ?_); rintro e z5 ⟨rfl, b5⟩; try dsimp only)
    have FB : Hid (Below w5.heap.size w5 z5) := Lib.hid (FB.out.trans (b5.out.mono FB.out.size))
    clear IN Z3 Z4 b5
    refine hK.out _ _ ?_ (fun hHeld => ?_)
    · exact SM.out _ FB.out
    clear hK K
    try simp only [Act.put, List.setIfInBounds_toArray, List.set_cons_zero, List.set_cons_succ]
    refine wpAnyH_take (i := 11) (oi := ?o61) (v := ?v61) ?hi61 (by kernel_rfl) (by kernel_rfl) (by kernel_rfl) ?hQ61 (Or.inl ⟨?hg61, ?hy61⟩) (by assumption) ?rest61
    case hi61 => (simp only [List.getElem?_toArray, List.getElem?_cons_zero, List.getElem?_cons_succ]; exact rfl)
    case hQ61 => exact fun _ _ _ h => h
    case hg61 => rfl
    case hy61 => (intro w' hSw; (try dsimp only at hSw); go_simp; try with_reducible rfl)
    try simp only [Act.put, List.setIfInBounds_toArray, List.set_cons_zero, List.set_cons_succ]
    refine wpAnyH_take (i := 12) (oi := ?o62) (v := ?v62) ?hi62 (by kernel_rfl) (by kernel_rfl) (by kernel_rfl) ?hQ62 (Or.inl ⟨?hg62, ?hy62⟩) (by assumption) ?rest62
    case hi62 => (simp only [List.getElem?_toArray, List.getElem?_cons_zero, List.getElem?_cons_succ]; exact rfl)
    case hQ62 => exact fun _ _ _ h => h
    case hg62 => rfl
    case hy62 => (intro w' hSw; (try dsimp only at hSw); go_simp; try with_reducible rfl)
    try simp only [Act.put, List.setIfInBounds_toArray, List.set_cons_zero, List.set_cons_succ]
    refine wpAnyH_take (i := 13) (oi := ?o63) (v := ?v63) ?hi63 (by kernel_rfl) (by kernel_rfl) (by kernel_rfl) ?hQ63 (Or.inl ⟨?hg63, ?hy63⟩) (by assumption) ?rest63
    case hi63 => (simp only [List.getElem?_toArray, List.getElem?_cons_zero, List.getElem?_cons_succ]; exact rfl)
    case hQ63 => exact fun _ _ _ h => h
    case hg63 => rfl
    case hy63 => (intro w' hSw; (try dsimp only at hSw); go_simp; try with_reducible rfl)
    try simp only [Act.put, List.setIfInBounds_toArray, List.set_cons_zero, List.set_cons_succ]
    refine wpAnyH_take (i := 14) (oi := ?o64) (v := ?v64) ?hi64 (by kernel_rfl) (by kernel_rfl) (by kernel_rfl) ?hQ64 (Or.inl ⟨?hg64, ?hy64⟩) (by assumption) ?rest64
    case hi64 => (simp only [List.getElem?_toArray, List.getElem?_cons_zero, List.getElem?_cons_succ]; exact rfl)
    case hQ64 => exact fun _ _ _ h => h
    case hg64 => rfl
    case hy64 => (intro w' hSw; (try dsimp only at hSw); go_simp; try with_reducible rfl)
    try simp only [Act.put, List.setIfInBounds_toArray, List.set_cons_zero, List.set_cons_succ]
    refine wpAnyH_take (i := 16) (oi := ?o65) (v := ?v65) ?hi65 (by kernel_rfl) (by kernel_rfl) (by kernel_rfl) ?hQ65 (Or.inl ⟨?hg65, ?hy65⟩) (by assumption) ?rest65
    case hi65 => (simp only [List.getElem?_toArray, List.getElem?_cons_zero, List.getElem?_cons_succ]; exact rfl)
    case hQ65 => exact fun _ _ _ h => h
    case hg65 => rfl
    case hy65 => (intro w' hSw; (try dsimp only at hSw); go_simp; try with_reducible rfl)
    try simp only [Act.put, List.setIfInBounds_toArray, List.set_cons_zero, List.set_cons_succ]
    refine wpAnyH_take (i := 17) (oi := ?o66) (v := ?v66) ?hi66 (by kernel_rfl) (by kernel_rfl) (by kernel_rfl) ?hQ66 (Or.inl ⟨?hg66, ?hy66⟩) (by assumption) ?rest66
    case hi66 => (simp only [List.getElem?_toArray, List.getElem?_cons_zero, List.getElem?_cons_succ]; exact rfl)
    case hQ66 => exact fun _ _ _ h => h
    case hg66 => rfl
    case hy66 => (intro w' hSw; (try dsimp only at hSw); go_simp; try with_reducible rfl)
    try simp only [Act.put, List.setIfInBounds_toArray, List.set_cons_zero, List.set_cons_succ]
    refine wpAnyH_ready (rs := [15]) (by kernel_rfl) (by simp) ?_
    refine AllReadyH.cons (o := ?o67) ?hi67 (fun K hK => ?_) AllReadyH.nil
    case hi67 => (simp only [List.getElem?_toArray, List.getElem?_cons_zero, List.getElem?_cons_succ]; exact rfl)
    (go_simp; go_at_call 11; (with_reducible refine (K5.out _ FB.out).mono ?_); rintro e z6 ⟨Q6, q6, rfl, o6, b6⟩; try dsimp only)
    have FB : Hid (Below w5.heap.size w5 z6) := Lib.hid (FB.out.trans (b6.out.mono FB.out.size))
    have Z6 : Hid (Zs z6 z6.heap.size Q6 ah) := Lib.hid o6.out.zs
    refine hK.out _ _ ?_ (fun hHeld => ?_)
    · exact SM.out _ FB.out
    clear hK K
    try simp only [Act.put, List.setIfInBounds_toArray, List.set_cons_zero, List.set_cons_succ]
    refine wpAnyH_ready (rs := [18]) (by kernel_rfl) (by simp) ?_
    refine AllReadyH.cons (o := ?o68) ?hi68 (fun K hK => ?_) AllReadyH.nil
    case hi68 => (simp only [List.getElem?_toArray, List.getElem?_cons_zero, List.getElem?_cons_succ]; exact rfl)
    (go_simp; go_at_call 21; (with_reducible refine (K6.out _ FB.out).mono ?_); rintro e z7 ⟨Q7, q7, rfl, o7, b7⟩; try dsimp only)
    have FB : Hid (Below w5.heap.size w5 z7) := Lib.hid (FB.out.trans (b7.out.mono FB.out.size))
    have Z6 : Hid (Zs z7 z7.heap.size Q6 ah) := Lib.hid (Z6.out.on b7.out)
    have Z7 : Hid (Zs z7 z7.heap.size Q7 ah) := Lib.hid o7.out.zs
    have IN : Hid (Calls Try.prog 14 #[.slice Q6 ah.length q6, .slice Q7 ah.length q7] z7 (BoolG z7 true)) := Lib.hid (by
      have := ints_any Q6 ah q6 Q7 ah q7 (by have := L2.out; omega) (by have := L2.out; omega) z7 Z6.out Z7.out
      rwa [sameI_refl] at this)
    clear o6 o7 b6 b7
    refine hK.out _ _ ?_ (fun hHeld => ?_)
    · exact SM.out _ FB.out
    clear hK K
    try simp only [Act.put, List.setIfInBounds_toArray, List.set_cons_zero, List.set_cons_succ]
    refine wpAnyH_ready (rs := [19]) (by kernel_rfl) (by simp) ?_
    refine AllReadyH.cons (o := ?o69) ?hi69 (fun K hK => ?_) AllReadyH.nil
    case hi69 => (simp only [List.getElem?_toArray, List.getElem?_cons_zero, List.getElem?_cons_succ]; exact rfl)
    (go_simp; go_at_call 14; (with_reducible refine (IN.out).mono ?_); rintro e z8 ⟨rfl, b8⟩; try dsimp only)
    have FB : Hid (Below w5.heap.size w5 z8) := Lib.hid (FB.out.trans (b8.out.mono FB.out.size))
    clear IN Z6 Z7 b8
    refine hK.out _ _ ?_ (fun hHeld => ?_)
    · exact SM.out _ FB.out
    clear hK K
    try simp only [Act.put, List.setIfInBounds_toArray, List.set_cons_zero, List.set_cons_succ]
    refine wpAnyH_take (i := 20) (oi := ?o70) (v := ?v70) ?hi70 (by kernel_rfl) (by kernel_rfl) (by kernel_rfl) ?hQ70 (Or.inl ⟨?hg70, ?hy70⟩) (by assumption) ?rest70
    case hi70 => (simp only [List.getElem?_toArray, List.getElem?_cons_zero, List.getElem?_cons_succ]; exact rfl)
    case hQ70 => exact fun _ _ _ h => h
    case hg70 => rfl
    case hy70 => (intro w' hSw; (try dsimp only at hSw); go_simp; try with_reducible rfl)
    try simp only [Act.put, List.setIfInBounds_toArray, List.set_cons_zero, List.set_cons_succ]
    refine wpAnyH_take (i := 21) (oi := ?o71) (v := ?v71) ?hi71 (by kernel_rfl) (by kernel_rfl) (by kernel_rfl) ?hQ71 (Or.inl ⟨?hg71, ?hy71⟩) (by assumption) ?rest71
    case hi71 => (simp only [List.getElem?_toArray, List.getElem?_cons_zero, List.getElem?_cons_succ]; exact rfl)
    case hQ71 => exact fun _ _ _ h => h
    case hg71 => rfl
    case hy71 => (intro w' hSw; (try dsimp only at hSw); go_simp; try with_reducible rfl)
    try simp only [Act.put, List.setIfInBounds_toArray, List.set_cons_zero, List.set_cons_succ]
    refine wpAnyH_take (i := 22) (oi := ?o72) (v := ?v72) ?hi72 (by kernel_rfl) (by kernel_rfl) (by kernel_rfl) ?hQ72 (Or.inl ⟨?hg72, ?hy72⟩) (by assumption) ?rest72
    case hi72 => (simp only [List.getElem?_toArray, List.getElem?_cons_zero, List.getElem?_cons_succ]; exact rfl)
    case hQ72 => exact fun _ _ _ h => h
    case hg72 => rfl
    case hy72 => (intro w' hSw; (try dsimp only at hSw); go_simp; try with_reducible rfl)
    try simp only [Act.put, List.setIfInBounds_toArray, List.set_cons_zero, List.set_cons_succ]
    refine wpAnyH_take (i := 23) (oi := ?o73) (v := ?v73) ?hi73 (by kernel_rfl) (by kernel_rfl) (by kernel_rfl) ?hQ73 (Or.inl ⟨?hg73, ?hy73⟩) (by assumption) ?rest73
    case hi73 => (simp only [List.getElem?_toArray, List.getElem?_cons_zero, List.getElem?_cons_succ]; exact rfl)
    case hQ73 => exact fun _ _ _ h => h
    case hg73 => rfl
    case hy73 => (intro w' hSw; (try dsimp only at hSw); go_simp; try with_reducible rfl)
    try simp only [Act.put, List.setIfInBounds_toArray, List.set_cons_zero, List.set_cons_succ]
    refine wpAnyH_take (i := 25) (oi := ?o74) (v := ?v74) ?hi74 (by kernel_rfl) (by kernel_rfl) (by kernel_rfl) ?hQ74 (Or.inl ⟨?hg74, ?hy74⟩) (by assumption) ?rest74
    case hi74 => (simp only [List.getElem?_toArray, List.getElem?_cons_zero, List.getElem?_cons_succ]; exact rfl)
    case hQ74 => exact fun _ _ _ h => h
    case hg74 => rfl
    case hy74 => (intro w' hSw; (try dsimp only at hSw); go_simp; try with_reducible rfl)
    try simp only [Act.put, List.setIfInBounds_toArray, List.set_cons_zero, List.set_cons_succ]
    refine wpAnyH_take (i := 26) (oi := ?o75) (v := ?v75) ?hi75 (by kernel_rfl) (by kernel_rfl) (by kernel_rfl) ?hQ75 (Or.inl ⟨?hg75, ?hy75⟩) (by assumption) ?rest75
    case hi75 => (simp only [List.getElem?_toArray, List.getElem?_cons_zero, List.getElem?_cons_succ]; exact rfl)
    case hQ75 => exact fun _ _ _ h => h
    case hg75 => rfl
    case hy75 => (intro w' hSw; (try dsimp only at hSw); go_simp; try with_reducible rfl)
    try simp only [Act.put, List.setIfInBounds_toArray, List.set_cons_zero, List.set_cons_succ]
    refine wpAnyH_ready (rs := [24]) (by kernel_rfl) (by simp) ?_
    refine AllReadyH.cons (o := ?o76) ?hi76 (fun K hK => ?_) AllReadyH.nil
    case hi76 => (simp only [List.getElem?_toArray, List.getElem?_cons_zero, List.getElem?_cons_succ]; exact rfl)
    (go_simp; go_at_call 15; (with_reducible refine (K7.out _ FB.out).mono ?_); rintro e z9 ⟨Q9, q9, rfl, o9, b9⟩; try dsimp only)
    have FB : Hid (Below w5.heap.size w5 z9) := Lib.hid (FB.out.trans (b9.out.mono FB.out.size))
    have Z9 : Hid (Zs z9 z9.heap.size Q9 be) := Lib.hid o9.out.zs
    refine hK.out _ _ ?_ (fun hHeld => ?_)
    · exact SM.out _ FB.out
    clear hK K
    try simp only [Act.put, List.setIfInBounds_toArray, List.set_cons_zero, List.set_cons_succ]
    refine wpAnyH_ready (rs := [27]) (by kernel_rfl) (by simp) ?_
    refine AllReadyH.cons (o := ?o77) ?hi77 (fun K hK => ?_) AllReadyH.nil
    case hi77 => (simp only [List.getElem?_toArray, List.getElem?_cons_zero, List.getElem?_cons_succ]; exact rfl)
    (go_simp; go_at_call 22; (with_reducible refine (K8.out _ FB.out).mono ?_); rintro e z10 ⟨Q10, q10, rfl, o10, b10⟩; try dsimp only)
    have FB : Hid (Below w5.heap.size w5 z10) := Lib.hid (FB.out.trans (b10.out.mono FB.out.size))
    have Z9 : Hid (Zs z10 z10.heap.size Q9 be) := Lib.hid (Z9.out.on b10.out)
    have Z10 : Hid (Zs z10 z10.heap.size Q10 be) := Lib.hid o10.out.zs
    have IN : Hid (Calls Try.prog 14 #[.slice Q9 be.length q9, .slice Q10 be.length q10] z10 (BoolG z10 true)) := Lib.hid (by
      have := ints_any Q9 be q9 Q10 be q10 (by have := L3.out; omega) (by have := L3.out; omega) z10 Z9.out Z10.out
      rwa [sameI_refl] at this)
    clear o9 o10 b9 b10
    refine hK.out _ _ ?_ (fun hHeld => ?_)
    · exact SM.out _ FB.out
    clear hK K
    try simp only [Act.put, List.setIfInBounds_toArray, List.set_cons_zero, List.set_cons_succ]
    refine wpAnyH_ready (rs := [28]) (by kernel_rfl) (by simp) ?_
    refine AllReadyH.cons (o := ?o78) ?hi78 (fun K hK => ?_) AllReadyH.nil
    case hi78 => (simp only [List.getElem?_toArray, List.getElem?_cons_zero, List.getElem?_cons_succ]; exact rfl)
    (go_simp; go_at_call 14; (with_reducible refine (IN.out).mono ?_); rintro e z11 ⟨rfl, b11⟩; try dsimp only)
    have FB : Hid (Below w5.heap.size w5 z11) := Lib.hid (FB.out.trans (b11.out.mono FB.out.size))
    clear IN Z9 Z10 b11
    refine hK.out _ _ ?_ (fun hHeld => ?_)
    · exact SM.out _ FB.out
    clear hK K
    try simp only [Act.put, List.setIfInBounds_toArray, List.set_cons_zero, List.set_cons_succ]
    refine wpAnyH_take (i := 29) (oi := ?o79) (v := ?v79) ?hi79 (by kernel_rfl) (by kernel_rfl) (by kernel_rfl) ?hQ79 (Or.inl ⟨?hg79, ?hy79⟩) (by assumption) ?rest79
    case hi79 => (simp only [List.getElem?_toArray, List.getElem?_cons_zero, List.getElem?_cons_succ]; exact rfl)
    case hQ79 => exact fun _ _ _ h => h
    case hg79 => rfl
    case hy79 => (intro w' hSw; (try dsimp only at hSw); go_simp; try with_reducible rfl)
    try simp only [Act.put, List.setIfInBounds_toArray, List.set_cons_zero, List.set_cons_succ]
    refine wpAnyH_take (i := 30) (oi := ?o80) (v := ?v80) ?hi80 (by kernel_rfl) (by kernel_rfl) (by kernel_rfl) ?hQ80 (Or.inl ⟨?hg80, ?hy80⟩) (by assumption) ?rest80
    case hi80 => (simp only [List.getElem?_toArray, List.getElem?_cons_zero, List.getElem?_cons_succ]; exact rfl)
    case hQ80 => exact fun _ _ _ h => h
    case hg80 => rfl
    case hy80 => (intro w' hSw; (try dsimp only at hSw); go_simp; try with_reducible rfl)
    try simp only [Act.put, List.setIfInBounds_toArray, List.set_cons_zero, List.set_cons_succ]
    refine wpAnyH_take (i := 31) (oi := ?o81) (v := ?v81) ?hi81 (by kernel_rfl) (by kernel_rfl) (by kernel_rfl) ?hQ81 (Or.inl ⟨?hg81, ?hy81⟩) (by assumption) ?rest81
    case hi81 => (simp only [List.getElem?_toArray, List.getElem?_cons_zero, List.getElem?_cons_succ]; exact rfl)
    case hQ81 => exact fun _ _ _ h => h
    case hg81 => rfl
    case hy81 => (intro w' hSw; (try dsimp only at hSw); go_simp; try with_reducible rfl)
    try simp only [Act.put, List.setIfInBounds_toArray, List.set_cons_zero, List.set_cons_succ]
    refine wpAnyH_take (i := 32) (oi := ?o82) (v := ?v82) ?hi82 (by kernel_rfl) (by kernel_rfl) (by kernel_rfl) ?hQ82 (Or.inl ⟨?hg82, ?hy82⟩) (by assumption) ?rest82
    case hi82 => (simp only [List.getElem?_toArray, List.getElem?_cons_zero, List.getElem?_cons_succ]; exact rfl)
    case hQ82 => exact fun _ _ _ h => h
    case hg82 => rfl
    case hy82 => (intro w' hSw; (try dsimp only at hSw); go_simp; try with_reducible rfl)
    try simp only [Act.put, List.setIfInBounds_toArray, List.set_cons_zero, List.set_cons_succ]
    refine wpAnyH_take (i := 34) (oi := ?o83) (v := ?v83) ?hi83 (by kernel_rfl) (by kernel_rfl) (by kernel_rfl) ?hQ83 (Or.inl ⟨?hg83, ?hy83⟩) (by assumption) ?rest83
    case hi83 => (simp only [List.getElem?_toArray, List.getElem?_cons_zero, List.getElem?_cons_succ]; exact rfl)
    case hQ83 => exact fun _ _ _ h => h
    case hg83 => rfl
    case hy83 => (intro w' hSw; (try dsimp only at hSw); go_simp; try with_reducible rfl)
    try simp only [Act.put, List.setIfInBounds_toArray, List.set_cons_zero, List.set_cons_succ]
    refine wpAnyH_take (i := 35) (oi := ?o84) (v := ?v84) ?hi84 (by kernel_rfl) (by kernel_rfl) (by kernel_rfl) ?hQ84 (Or.inl ⟨?hg84, ?hy84⟩) (by assumption) ?rest84
    case hi84 => (simp only [List.getElem?_toArray, List.getElem?_cons_zero, List.getElem?_cons_succ]; exact rfl)
    case hQ84 => exact fun _ _ _ h => h
    case hg84 => rfl
    case hy84 => (intro w' hSw; (try dsimp only at hSw); go_simp; try with_reducible rfl)
    try simp only [Act.put, List.setIfInBounds_toArray, List.set_cons_zero, List.set_cons_succ]
    refine wpAnyH_ready (rs := [33]) (by kernel_rfl) (by simp) ?_
    refine AllReadyH.cons (o := ?o85) ?hi85 (fun K hK => ?_) AllReadyH.nil
    case hi85 => (simp only [List.getElem?_toArray, List.getElem?_cons_zero, List.getElem?_cons_succ]; exact rfl)
    (go_simp; go_at_call 12; (with_reducible refine (K9.out _ FB.out).mono ?_); rintro e z12 ⟨Q12, q12, rfl, o12, b12⟩; try dsimp only)
    have FB : Hid (Below w5.heap.size w5 z12) := Lib.hid (FB.out.trans (b12.out.mono FB.out.size))
    have Z12 : Hid (Zs z12 z12.heap.size Q12 re) := Lib.hid o12.out.zs
    refine hK.out _ _ ?_ (fun hHeld => ?_)
    · exact SM.out _ FB.out
    clear hK K
    try simp only [Act.put, List.setIfInBounds_toArray, List.set_cons_zero, List.set_cons_succ]
    refine wpAnyH_ready (rs := [36]) (by kernel_rfl) (by simp) ?_
    refine AllReadyH.cons (o := ?o86) ?hi86 (fun K hK => ?_) AllReadyH.nil
    case hi86 => (simp only [List.getElem?_toArray, List.getElem?_cons_zero, List.getElem?_cons_succ]; exact rfl)
    (go_simp; go_at_call 23; (with_reducible refine (K10.out _ FB.out).mono ?_); rintro e z13 ⟨Q13, q13, rfl, o13, b13⟩; try dsimp only)
    have FB : Hid (Below w5.heap.size w5 z13) := Lib.hid (FB.out.trans (b13.out.mono FB.out.size))
    have Z12 : Hid (Zs z13 z13.heap.size Q12 re) := Lib.hid (Z12.out.on b13.out)
    have Z13 : Hid (Zs z13 z13.heap.size Q13 re) := Lib.hid o13.out.zs
    have IN : Hid (Calls Try.prog 14 #[.slice Q12 re.length q12, .slice Q13 re.length q13] z13 (BoolG z13 true)) := Lib.hid (by
      have := ints_any Q12 re q12 Q13 re q13 (by have := L4.out; omega) (by have := L4.out; omega) z13 Z12.out Z13.out
      rwa [sameI_refl] at this)
    clear o12 o13 b12 b13
    refine hK.out _ _ ?_ (fun hHeld => ?_)
    · exact SM.out _ FB.out
    clear hK K
    try simp only [Act.put, List.setIfInBounds_toArray, List.set_cons_zero, List.set_cons_succ]
    refine wpAnyH_ready (rs := [37]) (by kernel_rfl) (by simp) ?_
    refine AllReadyH.cons (o := ?o87) ?hi87 (fun K hK => ?_) AllReadyH.nil
    case hi87 => (simp only [List.getElem?_toArray, List.getElem?_cons_zero, List.getElem?_cons_succ]; exact rfl)
    (go_simp; go_at_call 14; (with_reducible refine (IN.out).mono ?_); rintro e z14 ⟨rfl, b14⟩; try dsimp only)
    have FB : Hid (Below w5.heap.size w5 z14) := Lib.hid (FB.out.trans (b14.out.mono FB.out.size))
    clear IN Z12 Z13 b14
    refine hK.out _ _ ?_ (fun hHeld => ?_)
    · exact SM.out _ FB.out
    clear hK K
    try simp only [Act.put, List.setIfInBounds_toArray, List.set_cons_zero, List.set_cons_succ]
    refine wpAnyH_take (i := 38) (oi := ?o88) (v := ?v88) ?hi88 (by kernel_rfl) (by kernel_rfl) (by kernel_rfl) ?hQ88 (Or.inl ⟨?hg88, ?hy88⟩) (by assumption) ?rest88
    case hi88 => (simp only [List.getElem?_toArray, List.getElem?_cons_zero, List.getElem?_cons_succ]; exact rfl)
    case hQ88 => exact fun _ _ _ h => h
    case hg88 => rfl
    case hy88 => (intro w' hSw; (try dsimp only at hSw); go_simp; try with_reducible rfl)
    try simp only [Act.put, List.setIfInBounds_toArray, List.set_cons_zero, List.set_cons_succ]
    refine wpAnyH_take (i := 39) (oi := ?o89) (v := ?v89) ?hi89 (by kernel_rfl) (by kernel_rfl) (by kernel_rfl) ?hQ89 (Or.inl ⟨?hg89, ?hy89⟩) (by assumption) ?rest89
    case hi89 => (simp only [List.getElem?_toArray, List.getElem?_cons_zero, List.getElem?_cons_succ]; exact rfl)
    case hQ89 => exact fun _ _ _ h => h
    case hg89 => rfl
    case hy89 => (intro w' hSw; (try dsimp only at hSw); go_simp; try with_reducible rfl)
    try simp only [Act.put, List.setIfInBounds_toArray, List.set_cons_zero, List.set_cons_succ]
    refine wpAnyH_take (i := 40) (oi := ?o90) (v := ?v90) ?hi90 (by kernel_rfl) (by kernel_rfl) (by kernel_rfl) ?hQ90 (Or.inl ⟨?hg90, ?hy90⟩) (by assumption) ?rest90
    case hi90 => (simp only [List.getElem?_toArray, List.getElem?_cons_zero, List.getElem?_cons_succ]; exact rfl)
    case hQ90 => exact fun _ _ _ h => h
    case hg90 => rfl
    case hy90 => (intro w' hSw; (try dsimp only at hSw); go_simp; try with_reducible rfl)
    try simp only [Act.put, List.setIfInBounds_toArray, List.set_cons_zero, List.set_cons_succ]
    refine wpAnyH_take (i := 41) (oi := ?o91) (v := ?v91) ?hi91 (by kernel_rfl) (by kernel_rfl) (by kernel_rfl) ?hQ91 (Or.inl ⟨?hg91, ?hy91⟩) (by assumption) ?rest91
    case hi91 => (simp only [List.getElem?_toArray, List.getElem?_cons_zero, List.getElem?_cons_succ]; exact rfl)
    case hQ91 => exact fun _ _ _ h => h
    case hg91 => rfl
    case hy91 => (intro w' hSw; (try dsimp only at hSw); go_simp; try with_reducible rfl)
    try simp only [Act.put, List.setIfInBounds_toArray, List.set_cons_zero, List.set_cons_succ]
    refine wpAnyH_take (i := 42) (oi := ?o92) (v := ?v92) ?hi92 (by kernel_rfl) (by kernel_rfl) (by kernel_rfl) ?hQ92 (Or.inl ⟨?hg92, ?hy92⟩) (by assumption) ?rest92
    case hi92 => (simp only [List.getElem?_toArray, List.getElem?_cons_zero, List.getElem?_cons_succ]; exact rfl)
    case hQ92 => exact fun _ _ _ h => h
    case hg92 => rfl
    case hy92 => (intro w' hSw; (try dsimp only at hSw); go_simp; try with_reducible rfl)
    try simp only [Act.put, List.setIfInBounds_toArray, List.set_cons_zero, List.set_cons_succ]
    refine wpAnyH_take (i := 43) (oi := ?o93) (v := ?v93) ?hi93 (by kernel_rfl) (by kernel_rfl) (by kernel_rfl) ?hQ93 (Or.inl ⟨?hg93, ?hy93⟩) (by assumption) ?rest93
    case hi93 => (simp only [List.getElem?_toArray, List.getElem?_cons_zero, List.getElem?_cons_succ]; exact rfl)
    case hQ93 => exact fun _ _ _ h => h
    case hg93 => rfl
    case hy93 => (intro w' hSw; (try dsimp only at hSw); go_simp; try with_reducible rfl)
    try simp only [Act.put, List.setIfInBounds_toArray, List.set_cons_zero, List.set_cons_succ]
    refine wpAnyH_take (i := 44) (oi := ?o94) (v := ?v94) ?hi94 (by kernel_rfl) (by kernel_rfl) (by kernel_rfl) ?hQ94 (Or.inl ⟨?hg94, ?hy94⟩) (by assumption) ?rest94
    case hi94 => (simp only [List.getElem?_toArray, List.getElem?_cons_zero, List.getElem?_cons_succ]; exact rfl)
    case hQ94 => exact fun _ _ _ h => h
    case hg94 => rfl
    case hy94 => (intro w' hSw; (try dsimp only at hSw); go_simp; try with_reducible rfl)
    try simp only [Act.put, List.setIfInBounds_toArray, List.set_cons_zero, List.set_cons_succ]
    refine wpAnyH_take (i := 45) (oi := ?o95) (v := ?v95) ?hi95 (by kernel_rfl) (by kernel_rfl) (by kernel_rfl) ?hQ95 (Or.inl ⟨?hg95, ?hy95⟩) (by assumption) ?rest95
    case hi95 => (simp only [List.getElem?_toArray, List.getElem?_cons_zero, List.getElem?_cons_succ]; exact rfl)
    case hQ95 => exact fun _ _ _ h => h
    case hg95 => rfl
    case hy95 => (intro w' hSw; (try dsimp only at hSw); go_simp; try with_reducible rfl)
    try simp only [Act.put, List.setIfInBounds_toArray, List.set_cons_zero, List.set_cons_succ]
    refine wpAnyH_take (i := 46) (oi := ?o96) (v := ?v96) ?hi96 (by kernel_rfl) (by kernel_rfl) (by kernel_rfl) ?hQ96 (Or.inl ⟨?hg96, ?hy96⟩) (by assumption) ?rest96
    case hi96 => (simp only [List.getElem?_toArray, List.getElem?_cons_zero, List.getElem?_cons_succ]; exact rfl)
    case hQ96 => exact fun _ _ _ h => h
    case hg96 => rfl
    case hy96 => (intro w' hSw; (try dsimp only at hSw); go_simp; try with_reducible rfl)
    try simp only [Act.put, List.setIfInBounds_toArray, List.set_cons_zero, List.set_cons_succ]
    refine wpAnyH_take (i := 47) (oi := ?o97) (v := ?v97) ?hi97 (by kernel_rfl) (by kernel_rfl) (by kernel_rfl) ?hQ97 (Or.inl ⟨?hg97, ?hy97⟩) (by assumption) ?rest97
    case hi97 => (simp only [List.getElem?_toArray, List.getElem?_cons_zero, List.getElem?_cons_succ]; exact rfl)
    case hQ97 => exact fun _ _ _ h => h
    case hg97 => rfl
    case hy97 => (intro w' hSw; (try dsimp only at hSw); go_simp; try with_reducible rfl)
    try simp only [Act.put, List.setIfInBounds_toArray, List.set_cons_zero, List.set_cons_succ]
    refine wpAnyH_take (i := 48) (oi := ?o98) (v := ?v98) ?hi98 (by kernel_rfl) (by kernel_rfl) (by kernel_rfl) ?hQ98 (Or.inl ⟨?hg98, ?hy98⟩) (by assumption) ?rest98
    case hi98 => (simp only [List.getElem?_toArray, List.getElem?_cons_zero, List.getElem?_cons_succ]; exact rfl)
    case hQ98 => exact fun _ _ _ h => h
    case hg98 => rfl
    case hy98 => (intro w' hSw; (try dsimp only at hSw); go_simp; try with_reducible rfl)
    try simp only [Act.put, List.setIfInBounds_toArray, List.set_cons_zero, List.set_cons_succ]
    refine wpAnyH_take (i := 49) (oi := ?o99) (v := ?v99) ?hi99 (by kernel_rfl) (by kernel_rfl) (by kernel_rfl) ?hQ99 (Or.inl ⟨?hg99, ?hy99⟩) (by assumption) ?rest99
    case hi99 => (simp only [List.getElem?_toArray, List.getElem?_cons_zero, List.getElem?_cons_succ]; exact rfl)
    case hQ99 => exact fun _ _ _ h => h
    case hg99 => rfl
    case hy99 => (intro w' hSw; (try dsimp only at hSw); go_simp; try with_reducible rfl)
    try simp only [Act.put, List.setIfInBounds_toArray, List.set_cons_zero, List.set_cons_succ]
    refine wpAnyH_take (i := 50) (oi := ?o100) (v := ?v100) ?hi100 (by kernel_rfl) (by kernel_rfl) (by kernel_rfl) ?hQ100 (Or.inl ⟨?hg100, ?hy100⟩) (by assumption) ?rest100
    case hi100 => (simp only [List.getElem?_toArray, List.getElem?_cons_zero, List.getElem?_cons_succ]; exact rfl)
    case hQ100 => exact fun _ _ _ h => h
    case hg100 => rfl
    case hy100 => (intro w' hSw; (try dsimp only at hSw); go_simp; try with_reducible rfl)
    try simp only [Act.put, List.setIfInBounds_toArray, List.set_cons_zero, List.set_cons_succ]
    have F1 : Hid (Edg z14 z14.heap.size A7 sh) := Lib.hid (F1.out.on FB.out)
    have F3 : Hid (Edg z14 z14.heap.size A8 sh) := Lib.hid (F3.out.on FB.out)
    have IN : Hid (Calls Try.prog 24 #[.slice A7 ls c7, .slice A8 ls c8] z14 (BoolG z14 true)) := Lib.hid (by
      have := edges_any A7 sh c7 A8 sh c8 (by have := SL.out; omega) (by have := SL.out; omega) z14 F1.out F3.out
      rwa [sameE_refl, ← LS.out] at this)
    refine wpAnyH_ready (rs := [51]) (by kernel_rfl) (by simp) ?_
    refine AllReadyH.cons (o := ?o101) ?hi101 (fun K hK => ?_) AllReadyH.nil
    case hi101 => (simp only [List.getElem?_toArray, List.getElem?_cons_zero, List.getElem?_cons_succ]; exact rfl)
    (go_simp; go_at_call 24; (with_reducible refine (IN.out).mono ?_); rintro e z15 ⟨rfl, b15⟩; try dsimp only)
    have FB : Hid (Below w5.heap.size w5 z15) := Lib.hid (FB.out.trans (b15.out.mono FB.out.size))
    refine hK.out _ _ ?_ (fun hHeld => ?_)
    · exact SM.out _ FB.out
    clear hK K
    try simp only [Act.put, List.setIfInBounds_toArray, List.set_cons_zero, List.set_cons_succ]
    refine wpAnyH_take (i := 52) (oi := ?o102) (v := ?v102) ?hi102 (by kernel_rfl) (by kernel_rfl) (by kernel_rfl) ?hQ102 (Or.inl ⟨?hg102, ?hy102⟩) (by assumption) ?rest102
    case hi102 => (simp only [List.getElem?_toArray, List.getElem?_cons_zero, List.getElem?_cons_succ]; exact rfl)
    case hQ102 => exact fun _ _ _ h => h
    case hg102 => rfl
    case hy102 => (intro w' hSw; (try dsimp only at hSw); go_simp; try with_reducible rfl)
    try simp only [Act.put, List.setIfInBounds_toArray, List.set_cons_zero, List.set_cons_succ]
    refine wpAnyH_take (i := 53) (oi := ?o103) (v := ?v103) ?hi103 (by kernel_rfl) (by kernel_rfl) (by kernel_rfl) ?hQ103 (Or.inl ⟨?hg103, ?hy103⟩) (by assumption) ?rest103
    case hi103 => (simp only [List.getElem?_toArray, List.getElem?_cons_zero, List.getElem?_cons_succ]; exact rfl)
    case hQ103 => exact fun _ _ _ h => h
    case hg103 => rfl
    case hy103 => (intro w' hSw; (try dsimp only at hSw); go_simp; try with_reducible rfl)
    try simp only [Act.put, List.setIfInBounds_toArray, List.set_cons_zero, List.set_cons_succ]
    refine wpAnyH_done (by kernel_rfl) ?_ _
    go_wp2
    go_ret
    exact ⟨rfl, Lib.hid (B5.out.trans (FB.out.mono B5.out.size))⟩
end Go.Proofs.Ytiapacbbfgihdaa
