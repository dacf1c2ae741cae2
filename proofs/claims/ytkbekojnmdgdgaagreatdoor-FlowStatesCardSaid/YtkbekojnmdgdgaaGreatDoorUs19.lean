/-
  Part 19 of the texts behind the law: UDfGraph, UDfGood.
-/
import Derived.Test.YtkbekojnmdgdgaaGreatDoorUs16
import Derived.Test.YtkbekojnmdgdgaaGreatDoorUs17
import Derived.Test.YtkbekojnmdgdgaaGreatDoorUs18
import Derived.Deep.RegionHeld
/- DfGraph -/
namespace Go.Proofs.YtkbekojnmdgdgaaGreatDoor
open Go.RowKit
def Df.aft (d : Df.D) (k : Nat) : List Int := ((d[k]?).map Df.Task.after).getD []
def Df.gTo (d : Df.D) : Nat → Gr.EI
 | 0 => []
 | k + 1 => Df.addEdges d.length k (Df.aft d k) (Df.gTo d k)
theorem Df.aft_at {d : Df.D} {k : Nat} (hk : k < d.length) : Df.aft d k = d[k].after := by unfold Df.aft; rw [List.getElem?_eq_getElem hk]; rfl
theorem Df.gTo_next {d : Df.D} {k : Nat} (hk : k < d.length) : Df.gTo d (k + 1) = Df.addEdges d.length k d[k].after (Df.gTo d k) := by rw [← Df.aft_at hk]; rfl
theorem Df.gTo_all (d : Df.D) : Df.gTo d d.length = Df.graphI d := by
 have h : ∀ j k, k + j = d.length → Df.graphK d.length k (d.drop k) (Df.gTo d k) = Df.gTo d d.length := by
  intro j
  induction j with
  | zero =>
   intro k e
   have e : k = d.length := by omega
   subst e
   rw [List.drop_length]; rfl
  | succ j ih =>
   intro k e
   have hk : k < d.length := by omega
   rw [List.drop_eq_getElem_cons hk]
   show Df.graphK d.length (k + 1) (d.drop (k + 1)) (Df.addEdges d.length k d[k].after (Df.gTo d k)) = _
   rw [← Df.gTo_next hk]
   exact ih (k + 1) (by omega)
 have := h d.length 0 (by omega)
 exact this.symm
theorem Df.addEdges_next {n i : Nat} {l : List Int} {es : Gr.EI} {j : Nat} (hj : j < l.length) : Df.addEdges n i (l.take (j + 1)) es = Df.addEdge n i (Df.addEdges n i (l.take j) es) l[j] := by
 unfold Df.addEdges
 rw [List.take_succ_eq_append_getElem hj, List.foldl_append]; rfl
theorem Df.addEdge_len (n i : Nat) (es : Gr.EI) (a : Int) : (Df.addEdge n i es a).length ≤ es.length + 1 := by unfold Df.addEdge; split <;> simp
theorem Df.addEdges_len (n i : Nat) : ∀ (l : List Int) (es : Gr.EI), (Df.addEdges n i l es).length ≤ es.length + l.length
 | [], es => Nat.le_refl _
 | a :: r, es => by
  have h1 := Df.addEdges_len n i r (Df.addEdge n i es a)
  have h2 := Df.addEdge_len n i es a
  show (Df.addEdges n i r (Df.addEdge n i es a)).length ≤ _
  simp only [List.length_cons]
  omega
theorem Df.gTo_len {d : Df.D} (hf : Fair d) : ∀ k, (Df.gTo d k).length ≤ k * 1100
 | 0 => Nat.le_refl _
 | k + 1 => by
  have h1 := Df.gTo_len hf k
  have h2 := Df.addEdges_len d.length k (Df.aft d k) (Df.gTo d k)
  have h3 : (Df.aft d k).length ≤ 1100 := by
   unfold Df.aft
   cases h : d[k]? with
   | none => simp
   | some t => exact (hf.2 t (List.mem_of_getElem? h)).1
  show (Df.addEdges d.length k (Df.aft d k) (Df.gTo d k)).length ≤ _
  omega
structure GrSt (w0 w : World) (X : Nat) (V : Value) (n : Nat) (es : Gr.EI) (A : Option Addr) (cap : Nat) : Prop where
 box : w.heap[X]? = some (.cells #[V] 37 (0, 0))
 ans : w.heap[X + 1]? = some (.cells #[.int .i64 0, .slice none 0 0] 150 (0, 0))
 gr : w.heap[X + 1 + 1]? = some (.cells #[.int .i64 n, .slice A es.length cap] 150 (0, 0))
 set_ : SMap w (X + 1 + 1 + 1) es.length (fun a b => es.contains (a, b))
 own : OwnE w (X + 4) 185 A cap es
 below : Below X w0 w
theorem GrSt.size {w0 w : World} {X n : Nat} {V : Value} {es : Gr.EI} {A : Option Addr} {cap : Nat} (h : GrSt w0 w X V n es A cap) : X + 4 ≤ w.heap.size := by have := h.set_.lt; omega
theorem GrSt.on {w0 w w' : World} {X n : Nat} {V : Value} {es : Gr.EI} {A : Option Addr} {cap : Nat} (h : GrSt w0 w X V n es A cap) (hb : Below w.heap.size w w') : GrSt w0 w' X V n es A cap := by
 have hs := h.size
 exact ⟨(hb.block _ (by omega)).trans h.box, (hb.block _ (by omega)).trans h.ans, (hb.block _ (by omega)).trans h.gr, h.set_.grew hb, h.own.grew hb (Nat.le_refl _), h.below.trans (hb.mono (by omega))⟩
theorem GrSt.g0 {w0 w : World} {X n : Nat} {V : Value} {es : Gr.EI} {A : Option Addr} {cap : Nat} (h : GrSt w0 w X V n es A cap) :
  w.cell? ⟨X, 0, none⟩ = some V ∧ w.cell? ⟨X + 1 + 1, 0, none⟩ = some (.int .i64 n) ∧ w.cell? ⟨X + 1 + 1, 1, none⟩ = some (.slice A es.length cap) ∧ w.frozen? ⟨X + 1 + 1, 1, none⟩ = false :=
 ⟨by simp [World.cell?, h.box], (obG h.gr).1.1, (obG h.gr).1.2, (obG h.gr).2.2⟩
theorem GrSt.more {w0 w w2 w3 : World} {X n : Nat} {V : Value} {es : Gr.EI} {A A' : Option Addr} {cap cap' : Nat} {a b : Int} (h : GrSt w0 w X V n es A cap) (hm : SMap w2 (X + 1 + 1 + 1) (es.length + 1) (updS (fun a b => es.contains (a, b)) a b)) (ht : w.mapTurned w2 (X + 1 + 1 + 1))
  {w2' : World} (hb : Below w2.heap.size w2 w2') (ho : OwnE w3 (X + 4) 185 A' cap' (es ++ [(a, b)])) (hg : Below (X + 4) w2' w3) :
  GrSt w0 (w3.setCell ⟨X + 1 + 1, 1, none⟩ (.slice A' (es.length + 1) cap')) X V n (es ++ [(a, b)]) A' cap' := by
 have hs := h.size
 obtain ⟨t1, t2, t3, t4, t5⟩ := turned_frame ht
 have keep : ∀ i, i < X + 4 → i ≠ X + 1 + 1 + 1 → w3.heap[i]? = w.heap[i]? := fun i hi hne => ((hg.block i hi).trans (hb.block i (by omega))).trans (t5 i hne)
 have gr3 : w3.heap[X + 1 + 1]? = some (.cells #[.int .i64 n, .slice A es.length cap] 150 (0, 0)) := (keep _ (by omega) (by omega)).trans h.gr
 have e : (es ++ [(a, b)]).length = es.length + 1 := by simp
 refine ⟨?_, ?_, ?_, ?_, ho.set gr3 (by decide) 1 _, ?_⟩
 ·exact (Below.heap_setCell _ _ _ _ (show X ≠ X + 1 + 1 by omega)).trans ((keep _ (by omega) (by omega)).trans h.box)
 ·exact (Below.heap_setCell _ _ _ _ (show X + 1 ≠ X + 1 + 1 by omega)).trans ((keep _ (by omega) (by omega)).trans h.ans)
 ·rw [e]; exact heap_setCell_same w3 (X + 1 + 1) 1 _ _ _ gr3
 ·rw [e]
  have k3 : (w3.setCell ⟨X + 1 + 1, 1, none⟩ (.slice A' (es.length + 1) cap')).heap[X + 1 + 1 + 1]? = w2.heap[X + 1 + 1 + 1]? :=
   (Below.heap_setCell _ _ _ _ (show X + 1 + 1 + 1 ≠ X + 1 + 1 by omega)).trans ((hg.block _ (by omega)).trans (hb.block _ hm.lt))
  refine (hm.keep k3).congr fun x y => ?_
  unfold updS
  rw [Bool.eq_iff_iff, List.contains_iff_mem, List.mem_append]
  by_cases hxy : x = a ∧ y = b
  ·rw [if_pos hxy]; exact ⟨fun _ => rfl, fun _ => .inr (by rw [hxy.1, hxy.2]; exact List.mem_singleton.2 rfl)⟩
  ·rw [if_neg hxy, List.contains_iff_mem]
   exact ⟨fun h1 => h1.elim id fun h1 => by simp at h1; exact absurd h1 hxy, .inl⟩
 ·have hX : Below X w w3 := ⟨(hg.os.trans hb.os).trans t1, (hg.tape.trans hb.tape).trans t2, (hg.output.trans hb.output).trans t3, by have := hg.size; have := hb.size; omega, fun i hi => keep i (by omega) (by omega)⟩
  exact (h.below.trans hX).setCell (p := ⟨X + 1 + 1, 1, none⟩) (show X ≤ X + 1 + 1 by omega) _
theorem OwnE.turned {w w' : World} {base : Nat} {T : TypeId} {A : Option Addr} {cap m : Nat} {es : Gr.EI} (h : OwnE w base T A cap es) (ht : w.mapTurned w' m) (hm : m < base) : OwnE w' base T A cap es :=
 h.keep fun a ha => by subst ha; exact (turned_frame ht).2.2.2.2 _ (by have := h.lt.1; omega)
theorem Df.addEdge_old {n i : Nat} {es : Gr.EI} {a : Int} (h : ¬ (0 ≤ a ∧ a < (n : Int) ∧ a ≠ (i : Int) ∧ (a, (i : Int)) ∉ es)) : Df.addEdge n i es a = es := if_neg h
theorem Df.addEdge_new {n i : Nat} {es : Gr.EI} {a : Int} (h : 0 ≤ a ∧ a < (n : Int) ∧ a ≠ (i : Int) ∧ (a, (i : Int)) ∉ es) : Df.addEdge n i es a = es ++ [(a, (i : Int))] := if_pos h
set_option maxRecDepth 100000 in
set_option maxHeartbeats 4000000 in
theorem graphD_any (A : Option Addr) (d : Df.D) (cap : Nat) (hf : Fair d) (w : World) (hF : FactsD w) (h : DefIn w w.heap.size A d) : Calls Tryz.prog 96 #[.agg #[.slice A d.length cap]] w (GraphG w d.length (Df.graphI d)) := by
 have H := Lib.hid h
 have HF := Lib.hid hf
 clear hF
 obtain ⟨n, hn⟩ : ∃ n, n = d.length := ⟨_, rfl⟩
 have HN := Lib.hid hn
 have hn9 : n ≤ 1100 := by rw [hn]; exact hf.1
 rw [← hn]
 clear h hf hn
 have hmm := @run_makeMap Tryz.prog
 obtain ⟨X, hX⟩ : ∃ X, X = w.heap.size := ⟨_, rfl⟩
 obtain ⟨W1, hW1⟩ : ∃ W1, W1 = (((w.alloc (.cells #[.slice A n cap] 37)).alloc (.cells #[.int .i64 0, .slice none 0 0] 150)).alloc (.cells #[.int .i64 n, .slice none 0 0] 150)).alloc (.map #[] 0) := ⟨_, rfl⟩
 have S1 : Hid (GrSt w W1 X (.slice A n cap) n [] none 0) := Lib.hid (by
  rw [hW1, hX]
  refine ⟨?_, ?_, ?_, ?_, OwnE.none_ _ _ _, ?_⟩
  ·rw [Below.heap_alloc _ _ _ (by simp <;> omega), Below.heap_alloc _ _ _ (by simp <;> omega), Below.heap_alloc _ _ _ (by simp)]; exact heap_alloc_new ..
  ·rw [Below.heap_alloc _ _ _ (by simp <;> omega), Below.heap_alloc _ _ _ (by simp)]
   have := heap_alloc_new (w.alloc (.cells #[.slice A n cap] 37)) (.cells #[.int .i64 0, .slice none 0 0] 150)
   rwa [World.size_alloc] at this
  ·rw [Below.heap_alloc _ _ _ (by simp)]
   have := heap_alloc_new ((w.alloc (.cells #[.slice A n cap] 37)).alloc (.cells #[.int .i64 0, .slice none 0 0] 150)) (.cells #[.int .i64 n, .slice none 0 0] 150)
   rwa [World.size_alloc, World.size_alloc] at this
  ·have := SMap.made (((w.alloc (.cells #[.slice A n cap] 37)).alloc (.cells #[.int .i64 0, .slice none 0 0] 150)).alloc (.cells #[.int .i64 n, .slice none 0 0] 150))
   rw [World.size_alloc, World.size_alloc, World.size_alloc] at this
   exact this.congr fun _ _ => rfl
  ·exact ((((Below.refl _ _).alloc (Nat.le_refl _) _).alloc (by simp) _).alloc (by simp <;> omega) _).alloc (by simp <;> omega) _)
 obtain ⟨g0, g1, g2, -⟩ := S1.out.g0
 have HX := Lib.hid hX
 go_enter Tryz.func96, Tryz.ntmps96
 go_wp2_with fail
 rw [← hW1, ← hX]
 clear hW1 hX hmm
 go_loopw [20] (fun iv wr => ∃ (k : Nat) (A' : Option Addr) (cap' : Nat), k ≤ n ∧ iv = .int .i64 k ∧ Hid (GrSt w wr X (.slice A n cap) n (Df.gTo d k) A' cap')) (fun iv _ => n - (intOf iv).toNat)
 case atStart => exact ⟨0, none, 0, Nat.zero_le _, rfl, S1⟩
 case round =>
  obtain ⟨k, A', cap', hk, rfl, HS⟩ := hrel
  obtain ⟨v0, v1, v2, -⟩ := HS.out.g0
  by_cases hlt : k < n
  ·have hlt' : (k : Int) < (n : Int) := by omega
   have hkd : Hid (k < d.length) := Lib.hid (by rw [← HN.out]; exact hlt)
   have HI : DefIn wr X A d := by have := H.out; rw [← HX.out] at this; exact this.below HS.out.below
   obtain ⟨b, off, A2, c2, rfl, hb, z2, zc, ni, p0, p1, p2, p3, p4, p5⟩ := HI.at2 hkd.out
   clear HI
   have GN : Hid (Df.gTo d (k + 1) = Df.addEdges n k d[k].after (Df.gTo d k)) := Lib.hid (by rw [HN.out]; exact Df.gTo_next hkd.out)
   have GL : Hid ((Df.gTo d k).length ≤ k * 1100) := Lib.hid (Df.gTo_len HF.out k)
   have TL : Hid (d[k].after.length ≤ 1100) := Lib.hid (HF.out.2 _ (List.getElem_mem hkd.out)).1
   generalize d[k] = t at *
   generalize Df.gTo d k = e0 at *
   obtain ⟨m, hm⟩ : ∃ m, m = t.after.length := ⟨_, rfl⟩
   have HM := Lib.hid hm
   obtain ⟨W2, hW2⟩ : ∃ W2, W2 = wr.alloc (.cells #[.string (str t.name), .slice A2 m c2, .int .i64 t.retry, .int .i64 t.wait, .int .i64 t.base, .string (str t.on)] 96) := ⟨_, rfl⟩
   have B2 : Hid (Below wr.heap.size wr W2) := Lib.hid (by rw [hW2]; exact (Below.refl _ _).alloc (Nat.le_refl _) _)
   have q2 : W2.cell? ⟨wr.heap.size, 1, none⟩ = some (.slice A2 m c2) := by rw [hW2]; exact (ob6 (heap_alloc_new ..)).2.1
   have S2 := Lib.hid (HS.out.on B2.out)
   have Z2 : Hid (Zs W2 X A2 t.after) := Lib.hid (z2.out.below (B2.out.mono (by have := HS.out.size; omega)))
   have hm9 : m ≤ 1100 := by rw [hm]; exact TL.out
   rw [← hm] at p1
   clear hm
   go_upto_region 6 with fail
   rw [← hW2]
   clear hW2
   go_wp2_with fail
   clear q2 p0 p1 p2 p3 p4 p5 v0 v1 v2
   go_loopw [28] (fun iv wr => ∃ (j : Nat) (A3 : Option Addr) (cap3 : Nat), j ≤ m ∧ iv = .int .i64 j ∧ Hid (GrSt w wr X (.slice (some ⟨b, off, none⟩) n cap) n (Df.addEdges n k (t.after.take j) e0) A3 cap3) ∧ Hid (Below X W2 wr)) (fun iv _ => m - (intOf iv).toNat)
   case atStart => exact ⟨0, A', cap', Nat.zero_le _, rfl, S2, Lib.hid (Below.refl _ _)⟩
   case round =>
    obtain ⟨j, A3, cap3, hj, rfl, HS3, HB3⟩ := hrel
    by_cases hjm : j < m
    ·have hjm' : (j : Int) < (m : Int) := by omega
     have hjd : Hid (j < t.after.length) := Lib.hid (by rw [← HM.out]; exact hjm)
     obtain ⟨b2, off2, z, rfl, hb2, cz, hz, r0, r1⟩ := (Z2.out.below HB3.out).at_ hjd.out
     have NX := Lib.hid (Df.addEdges_next (n := n) (i := k) (es := e0) hjd.out)
     have hz2 : t.after[j]'hjd.out = z := by
      have := hz.out
      rwa [List.getD_eq_getElem?_getD, List.getElem?_eq_getElem hjd.out] at this
     have EL : Hid ((Df.addEdges n k (t.after.take j) e0).length ≤ 1100 * 1100) := Lib.hid (by
      have h1 := Df.addEdges_len n k (t.after.take j) e0
      rw [List.length_take] at h1
      have h2 := GL.out
      have h3 : k * 1100 + 1100 ≤ 1100 * 1100 := by have : k + 1 ≤ 1100 := by omega
                                                    have := Nat.mul_le_mul_right 1100 this
                                                    omega
      omega)
     rw [hz2] at NX
     generalize Df.addEdges n k (t.after.take j) e0 = es at *
     have inz : inE (z, (k : Int)) := ⟨⟨r0, r1⟩, by constructor <;> omega⟩
     obtain ⟨W3, hW3⟩ : ∃ W3, W3 = wr.alloc (.cells #[.int .i64 z, .int .i64 k] 185) := ⟨_, rfl⟩
     obtain ⟨W4, hW4⟩ : ∃ W4, W4 = W3.alloc (.cells #[] 182) := ⟨_, rfl⟩
     have B3 : Hid (Below wr.heap.size wr W3) := Lib.hid (by rw [hW3]; exact (Below.refl _ _).alloc (Nat.le_refl _) _)
     have B4 : Hid (Below wr.heap.size wr W4) := Lib.hid (by rw [hW4]; exact B3.out.alloc B3.out.size _)
     have E3 : Hid (W3.heap[wr.heap.size]? = some (.cells #[.int .i64 z, .int .i64 k] 185 (0, 0))) := Lib.hid (by rw [hW3]; exact heap_alloc_new ..)
     have E4 : Hid (W4.heap[wr.heap.size]? = some (.cells #[.int .i64 z, .int .i64 k] 185 (0, 0))) := Lib.hid (by rw [hW4]; exact (Below.heap_alloc _ _ _ (by have := lt_of_block E3.out; omega)).trans E3.out)
     have S4 := Lib.hid (HS3.out.on B4.out)
     have K3 := Lib.hid hW3
     have K4 := Lib.hid hW4
     clear hW3 hW4
     have R4 : Hid (Below X W2 W4) := Lib.hid (HB3.out.trans (B4.out.mono (by have := HS3.out.size; omega)))
     have hlk := (HS3.out.on B3.out).set_.look2 z k inz.1 inz.2
     obtain ⟨⟨x0, x1⟩, -⟩ := obG E3.out
     obtain ⟨s0, s1, s2, s3⟩ := S4.out.g0
     cases hseen : es.contains (z, (k : Int)) with
     | true =>
      rw [hseen] at hlk
      have ND : Hid (Df.addEdges n k (t.after.take (j + 1)) e0 = es) := Lib.hid (by rw [NX.out]; exact Df.addEdge_old fun hh => hh.2.2.2 (List.contains_iff_mem.1 hseen))
      clear hseen
      go_upto_region 10 with fail
      rw [← K3.out]
      go_upto_region 11 with fail
      rw [← K4.out]
      go_wp2
      go_roundw
      case rel => exact ⟨j + 1, A3, cap3, by omega, by go_num, by rw [ND.out]; exact S4, R4⟩
      case measure => simp [intOf]; omega
     | false =>
      rw [hseen] at hlk
      have NS : Hid ((z, (k : Int)) ∉ es) := Lib.hid fun hh => by rw [List.contains_iff_mem.2 hh] at hseen; cases hseen
      clear hseen
      by_cases h0 : z < 0
      ·have ND : Hid (Df.addEdges n k (t.after.take (j + 1)) e0 = es) := Lib.hid (by rw [NX.out]; exact Df.addEdge_old fun hh => by omega)
       go_upto_region 10 with fail
       rw [← K3.out]
       go_upto_region 11 with fail
       rw [← K4.out]
       go_wp2
       go_roundw
       case rel => exact ⟨j + 1, A3, cap3, by omega, by go_num, by rw [ND.out]; exact S4, R4⟩
       case measure => simp [intOf]; omega
      have h0' : 0 ≤ z := by omega
      clear h0 r0
      by_cases h1 : (n : Int) ≤ z
      ·have ND : Hid (Df.addEdges n k (t.after.take (j + 1)) e0 = es) := Lib.hid (by rw [NX.out]; exact Df.addEdge_old fun hh => by omega)
       go_upto_region 10 with fail
       rw [← K3.out]
       go_upto_region 11 with fail
       rw [← K4.out]
       go_wp2
       go_roundw
       case rel => exact ⟨j + 1, A3, cap3, by omega, by go_num, by rw [ND.out]; exact S4, R4⟩
       case measure => simp [intOf]; omega
      have h1' : z < (n : Int) := by omega
      clear h1
      by_cases h2 : z = (k : Int)
      ·have ND : Hid (Df.addEdges n k (t.after.take (j + 1)) e0 = es) := Lib.hid (by rw [NX.out]; exact Df.addEdge_old fun hh => hh.2.2.1 h2)
       have hd : (z == (k : Int)) = true := by simpa using h2
       clear h2
       go_upto_region 10 with fail
       rw [← K3.out]
       go_upto_region 11 with fail
       rw [← K4.out]
       go_wp2
       go_roundw
       case rel => exact ⟨j + 1, A3, cap3, by omega, by go_num, by rw [ND.out]; exact S4, R4⟩
       case measure => simp [intOf]; omega
      have hd : (z == (k : Int)) = false := by simpa using h2
      have ND : Hid (Df.addEdges n k (t.after.take (j + 1)) e0 = es ++ [(z, (k : Int))]) := Lib.hid (by rw [NX.out]; exact Df.addEdge_new ⟨h0', h1', h2, NS.out⟩)
      clear h2
      obtain ⟨W5, hup, m5, t5⟩ := S4.out.set_.store (by have := EL.out; omega) z k inz.1 inz.2
      have M5 := Lib.hid m5
      have T5 := Lib.hid t5
      have F5 := Lib.hid (turned_frame t5)
      have SZ := Lib.hid S4.out.size
      obtain ⟨L, hL⟩ : ∃ L, L = es.length := ⟨_, rfl⟩
      rw [← hL] at s2
      have HL := Lib.hid hL
      clear m5 t5 hL
      have keep5 : ∀ i, i ≠ X + 1 + 1 + 1 → W5.heap[i]? = W4.heap[i]? := F5.out.2.2.2.2
      have LX : wr.heap.size ≠ X + 1 + 1 + 1 := by have := HS3.out.size; omega
      have E5 : Hid (W5.heap[wr.heap.size]? = some (.cells #[.int .i64 z, .int .i64 k] 185 (0, 0))) := Lib.hid ((keep5 _ LX).trans E4.out)
      have G5 : Hid (W5.heap[X + 1 + 1]? = some (.cells #[.int .i64 n, .slice A3 L cap3] 150 (0, 0))) := Lib.hid ((keep5 _ (by omega)).trans (by rw [HL.out]; exact S4.out.gr))
      obtain ⟨W6, hW6⟩ : ∃ W6, W6 = W5.alloc (.cells #[.int .i64 z, .int .i64 k] 185) := ⟨_, rfl⟩
      have W6' := Lib.hid hW6
      have B6 : Hid (Below W5.heap.size W5 W6) := Lib.hid (by rw [hW6]; exact (Below.refl _ _).alloc (Nat.le_refl _) _)
      have O6 : Hid (OwnE W6 (X + 4) 185 A3 cap3 es) := Lib.hid ((S4.out.own.turned T5.out (by omega)).grew B6.out (Nat.le_refl _))
      have Y6 : Hid (W6.cell? ⟨W5.heap.size, 0, none⟩ = some (.int .i64 z) ∧ W6.cell? ⟨W5.heap.size, 1, none⟩ = some (.int .i64 k)) := Lib.hid (by rw [hW6]; exact (obG (heap_alloc_new ..)).1)
      have Z6 : Hid (X + 4 ≤ W6.heap.size) := Lib.hid (by have h1 := B6.out.size; have h2 := F5.out.2.2.2.1; have := SZ.out; omega)
      have G6 : Hid (W6.heap[X + 1 + 1]? = some (.cells #[.int .i64 n, .slice A3 L cap3] 150 (0, 0))) := Lib.hid ((B6.out.block _ (lt_of_block G5.out)).trans G5.out)
      have IN := Lib.hid inz
      have y0 := (obG E4.out).1
      have y1 := (obG E5.out).1
      have y2 := (obG G5.out).1.2
      have LL : Hid (L ≤ 100000000) := Lib.hid (by rw [HL.out]; have := EL.out; omega)
      clear keep5 LX hW6 inz
      go_upto_region 10 with fail
      rw [← K3.out]
      go_upto_region 11 with fail
      rw [← K4.out]
      clear hlk x0 x1
      go_upto_region 13 with fail
      clear hup s0 s1 s2 s3 y0
      go_wp2_with (at_builtin; rw [← W6'.out]; refine wp_appE rfl (.tmp 61) (.tmp 63) rfl Tryz.underlying148 edge_info rfl HL.out O6.out Z6.out rfl Y6.out.1 Y6.out.2 IN.out (by rw [← HL.out]; exact LL.out) ?_; intro A7 c7 w7 o7 d7; have D7 := Lib.hid (grownE_below O6.out Z6.out d7); have O7 := Lib.hid o7; have G7 : Hid (w7.heap[X + 1 + 1]? = some (.cells #[.int .i64 n, .slice A3 L cap3] 150 (0, 0))) := Lib.hid ((D7.out.block _ (by omega)).trans G6.out); have u0 := (obG G7.out).1.2; have u1 := (obG G7.out).2.2; clear o7 d7)
      go_roundw
      case rel => exact ⟨j + 1, A7, c7, by omega, by go_num, by rw [ND.out]; exact Lib.hid (S4.out.more M5.out T5.out B6.out O7.out D7.out), Lib.hid (((R4.out.trans ⟨F5.out.1, F5.out.2.1, F5.out.2.2.1, Nat.le_of_eq F5.out.2.2.2.1.symm, fun i hi => F5.out.2.2.2.2 i (by omega)⟩).trans ((B6.out.mono (by have h2 := F5.out.2.2.2.1; have := SZ.out; omega)).trans (D7.out.mono (by omega)))).setCell (p := ⟨X + 1 + 1, 1, none⟩) (show X ≤ X + 1 + 1 by omega) _)⟩
      case measure => simp [intOf]; omega
    ·obtain rfl : j = m := by omega
     have ND : Hid (Df.addEdges n k (t.after.take j) e0 = Df.gTo d (k + 1)) := Lib.hid (by rw [GN.out, HM.out, List.take_length])
     rw [ND.out] at HS3
     have hge : ¬ (j : Int) < (j : Int) := by omega
     go_wp2
     go_roundw
     case rel => exact ⟨k + 1, A3, cap3, by omega, by go_num, HS3⟩
     case measure => simp [intOf]; omega
  ·obtain rfl : k = n := by omega
   have E : Hid (Df.gTo d k = Df.graphI d) := Lib.hid (by rw [HN.out]; exact Df.gTo_all d)
   rw [E.out] at HS v2
   obtain ⟨L, hL⟩ : ∃ L, L = (Df.graphI d).length := ⟨_, rfl⟩
   rw [← hL] at v2
   have HL := Lib.hid hL
   clear hL
   obtain ⟨a0, a1⟩ := obG HS.out.ans
   obtain ⟨a2, a3⟩ := a1
   obtain ⟨a4, a5⟩ := a0
   have hge : ¬ (k : Int) < (k : Int) := by omega
   go_wp2
   exact bodyPost_ret (v := .agg #[.int .i64 k, .slice A' L cap']) (by simp [results, Tryz.results96, go_sem, a4, a5]) rfl
    ⟨A', cap', by rw [HL.out], Lib.hid (by
      have := (HS.out.own.set2 HS.out.ans (by decide) (.int .i64 k) (.slice A' L cap')).edg
      exact this), Lib.hid (by
      rw [← HX.out]
      exact (HS.out.below.setCell (p := ⟨X + 1, 0, none⟩) (by simp) _).setCell (p := ⟨X + 1, 1, none⟩) (by simp) _)⟩
end Go.Proofs.YtkbekojnmdgdgaaGreatDoor
/- DfGood -/
namespace Go.Proofs.YtkbekojnmdgdgaaGreatDoor
open Go.RowKit
theorem Df.addEdges_iff (n i : Nat) : ∀ (l : List Int) (es : Gr.EI), (Df.addEdges n i l es).length = es.length + l.length ↔ l.Nodup ∧ ∀ a ∈ l, 0 ≤ a ∧ a < (n : Int) ∧ a ≠ (i : Int) ∧ (a, (i : Int)) ∉ es
 | [], es => by simp [Df.addEdges]
 | a :: r, es => by
  have h := Df.addEdges_iff n i r (Df.addEdge n i es a)
  have hl := Df.addEdges_len n i r (Df.addEdge n i es a)
  show (Df.addEdges n i r (Df.addEdge n i es a)).length = _ ↔ _
  rw [List.length_cons]
  by_cases hc : 0 ≤ a ∧ a < (n : Int) ∧ a ≠ (i : Int) ∧ (a, (i : Int)) ∉ es
  ·rw [Df.addEdge_new hc] at h hl ⊢
   rw [List.length_append, List.length_singleton] at h hl
   rw [show es.length + (r.length + 1) = es.length + 1 + r.length by omega, h, List.nodup_cons]
   constructor
   ·rintro ⟨g1, g2⟩
    refine ⟨⟨fun ha => (g2 a ha).2.2.2 (by simp), g1⟩, fun x hx => ?_⟩
    rcases List.mem_cons.1 hx with rfl | hx
    ·exact hc
    ·have := g2 x hx
     exact ⟨this.1, this.2.1, this.2.2.1, fun hm => this.2.2.2 (List.mem_append.2 (.inl hm))⟩
   ·rintro ⟨⟨g1, g2⟩, g3⟩
    refine ⟨g2, fun x hx => ?_⟩
    have := g3 x (List.mem_cons_of_mem _ hx)
    refine ⟨this.1, this.2.1, this.2.2.1, fun hm => ?_⟩
    rcases List.mem_append.1 hm with hm | hm
    ·exact this.2.2.2 hm
    ·simp only [List.mem_singleton] at hm
     injection hm with hm _
     subst hm
     exact g1 hx
  ·rw [Df.addEdge_old hc] at hl ⊢
   exact ⟨fun e => by omega, fun e => absurd (e.2 a (by simp)) hc⟩
theorem Df.addEdges_mem (n i : Nat) : ∀ (l : List Int) (es : Gr.EI), ∀ e ∈ Df.addEdges n i l es, e ∈ es ∨ e.2 = (i : Int)
 | [], es, e, h => .inl h
 | a :: r, es, e, h => by
  rcases Df.addEdges_mem n i r (Df.addEdge n i es a) e h with h | h
  ·unfold Df.addEdge at h
   split at h
   ·rcases List.mem_append.1 h with h | h
    ·exact .inl h
    ·simp only [List.mem_singleton] at h
     subst h
     exact .inr rfl
   ·exact .inl h
  ·exact .inr h
theorem Df.gTo_below (d : Df.D) : ∀ k, ∀ e ∈ Df.gTo d k, e.2 < (k : Int)
 | 0, e, h => by cases h
 | k + 1, e, h => by
  rcases Df.addEdges_mem d.length k (Df.aft d k) (Df.gTo d k) e h with h | h
  ·have := Df.gTo_below d k e h; omega
  ·omega
theorem Df.gTo_count (d : Df.D) : ∀ k, k ≤ d.length → (Df.gTo d k).length ≤ afters (d.take k) ∧ ((Df.gTo d k).length = afters (d.take k) ↔ ∀ i (hi : i < d.length), i < k → Df.afterOk d.length i d[i].after = true)
 | 0, _ => ⟨Nat.le_refl _, by simp [Df.gTo, afters]⟩
 | k + 1, hk => by
  have hkd : k < d.length := hk
  obtain ⟨h1, h2⟩ := Df.gTo_count d k (by omega)
  have h3 := Df.addEdges_len d.length k d[k].after (Df.gTo d k)
  have h4 := Df.addEdges_iff d.length k d[k].after (Df.gTo d k)
  rw [Df.gTo_next hkd, afters_next hkd]
  refine ⟨by omega, ?_⟩
  have h5 : (d[k].after.Nodup ∧ ∀ a ∈ d[k].after, 0 ≤ a ∧ a < (d.length : Int) ∧ a ≠ (k : Int) ∧ (a, (k : Int)) ∉ Df.gTo d k) ↔ Df.afterOk d.length k d[k].after = true := by
   rw [Df.afterOk_iff]
   constructor
   ·rintro ⟨g1, g2⟩
    exact ⟨g1, fun a ha => ⟨(g2 a ha).1, (g2 a ha).2.1, (g2 a ha).2.2.1⟩⟩
   ·rintro ⟨g1, g2⟩
    refine ⟨g1, fun a ha => ⟨(g2 a ha).1, (g2 a ha).2.1, (g2 a ha).2.2, fun hm => ?_⟩⟩
    have := Df.gTo_below d k _ hm
    simp only at this
    omega
  rw [h5] at h4
  constructor
  ·intro e i hi hik
   by_cases hlt : i < k
   ·exact (h2.1 (by omega)) i hi hlt
   ·obtain rfl : i = k := by omega
    exact h4.1 (by omega)
  ·intro e
   have e1 := h2.2 fun i hi hik => e i hi (by omega)
   have e2 := h4.2 (e k hkd (by omega))
   omega
theorem Df.count_iff (d : Df.D) : (Df.graphI d).length = afters d ↔ Df.aftersOk d.length 0 d = true := by
 have h := (Df.gTo_count d d.length (Nat.le_refl _)).2
 rw [Df.gTo_all, List.take_length] at h
 rw [h, Df.aftersOk_iff]
 constructor
 ·intro g i hi
  rw [Nat.zero_add]
  exact g i hi hi
 ·intro g i hi _
  have := g i hi
  rwa [Nat.zero_add] at this
theorem any_not {d : Df.D} {p : Df.Task → Bool} : (d.any fun t => !p t) = !d.all p := by
 induction d with
 | nil => rfl
 | cons a r ih => rw [List.any_cons, List.all_cons, ih, Bool.not_and]
theorem order_ok (n : Int) (es : Gr.EI) : (To.orderI n es).isSome = To.okI n es := by
 unfold To.orderI To.okI
 cases Gr.goodV n es with
 | false => rfl
 | true => simp
theorem Df.good_two {d : Df.D} (h1 : 1 ≤ d.length) (h16 : d.length ≤ 16) (h : (d.any fun t => !Df.nameOk t) = true) : Df.good d = 2 := by
 rw [any_not, Bool.not_eq_true'] at h
 unfold Df.good
 rw [if_neg (by omega), if_pos h]
theorem Df.good_five {d : Df.D} (h1 : 1 ≤ d.length) (h16 : d.length ≤ 16) (h : (d.any fun t => !Df.nameOk t) = false) (h2 : decide (¬ (Df.names d).Nodup) = true) : Df.good d = 5 := by
 rw [any_not, Bool.not_eq_false'] at h
 unfold Df.good
 rw [if_neg (by omega), if_neg (by rw [h]; simp), if_pos (of_decide_eq_true h2)]
theorem Df.good_num {d : Df.D} (h1 : 1 ≤ d.length) (h16 : d.length ≤ 16) (h : (d.any fun t => !Df.nameOk t) = false) (h2 : decide (¬ (Df.names d).Nodup) = false) (h3 : (d.any fun t => !Df.numOk t) = true) : Df.good d = 1 := by
 rw [any_not, Bool.not_eq_false'] at h
 rw [any_not, Bool.not_eq_true'] at h3
 unfold Df.good
 rw [if_neg (by omega), if_neg (by rw [h]; simp), if_neg (of_decide_eq_false h2), if_pos h3]
theorem Df.good_aft {d : Df.D} (h1 : 1 ≤ d.length) (h16 : d.length ≤ 16) (h : (d.any fun t => !Df.nameOk t) = false) (h2 : decide (¬ (Df.names d).Nodup) = false) (h3 : (d.any fun t => !Df.numOk t) = false) (h4 : ¬ (Df.graphI d).length = afters d) : Df.good d = 1 := by
 rw [any_not, Bool.not_eq_false'] at h h3
 rw [Df.count_iff, Bool.not_eq_true] at h4
 unfold Df.good
 rw [if_neg (by omega), if_neg (by rw [h]; simp), if_neg (of_decide_eq_false h2), if_neg (by rw [h3]; simp), if_pos h4]
theorem Df.good_end {d : Df.D} (h1 : 1 ≤ d.length) (h16 : d.length ≤ 16) (h : (d.any fun t => !Df.nameOk t) = false) (h2 : decide (¬ (Df.names d).Nodup) = false) (h3 : (d.any fun t => !Df.numOk t) = false) (h4 : (Df.graphI d).length = afters d) :
  Df.good d = if (To.orderI (d.length : Int) (Df.graphI d)).isSome = true then 0 else 7 := by
 rw [any_not, Bool.not_eq_false'] at h h3
 rw [Df.count_iff] at h4
 unfold Df.good
 rw [if_neg (by omega), if_neg (by rw [h]; simp), if_neg (of_decide_eq_false h2), if_neg (by rw [h3]; simp), if_neg (by rw [h4]; simp), order_ok]
 cases To.okI (d.length : Int) (Df.graphI d) <;> rfl
set_option maxRecDepth 100000 in
set_option maxHeartbeats 4000000 in
theorem goodD_any (A : Option Addr) (d : Df.D) (cap : Nat) (hf : Fair d) (w : World) (hF : FactsD w) (h : DefIn w w.heap.size A d) : Calls Tryz.prog 75 #[.agg #[.slice A d.length cap]] w (IntG w (Df.good d)) := by
 have B1 : Hid (Below w.heap.size w (w.alloc (.cells #[.slice A d.length cap] 37))) := Lib.hid ((Below.refl _ _).alloc (Nat.le_refl _) _)
 by_cases h0 : d.length = 0
 ·have R : Hid (Df.good d = 1) := Lib.hid (by unfold Df.good; rw [if_pos (.inl h0)])
  rw [h0] at B1 ⊢
  clear h hf hF h0
  go_enter Tryz.func75, Tryz.ntmps75
  go_wp2
  go_ret
  exact ⟨ret_int R.out.symm, B1⟩
 by_cases h16 : 16 < d.length
 ·have R : Hid (Df.good d = 1) := Lib.hid (by unfold Df.good; rw [if_pos (.inr h16)])
  obtain ⟨n, hn⟩ : ∃ n, n = d.length := ⟨_, rfl⟩
  rw [← hn] at B1 h0 h16 ⊢
  have g0 : ((n : Int) == 0) = false := by simpa using h0
  have g1 : 16 < (n : Int) := by omega
  clear h hf hF h0 hn
  go_enter Tryz.func75, Tryz.ntmps75
  go_wp2
  go_ret
  exact ⟨ret_int R.out.symm, B1⟩
 have H1 : Hid (1 ≤ d.length) := Lib.hid (by omega)
 have H16 : Hid (d.length ≤ 16) := Lib.hid (by omega)
 have CN : Hid (∀ W, Below w.heap.size w W → Calls Tryz.prog 93 #[.slice A d.length cap, .func (.func 94) #[] #[]] W (BoolG W (d.any fun t => !Df.nameOk t))) := Lib.hid fun W hW => containsFunc_any _ wrongName_enters _ wrongName_test A d cap d.length rfl hf W (h.on hW)
 have CW : Hid (∀ W, Below w.heap.size w W → Calls Tryz.prog 93 #[.slice A d.length cap, .func (.func 97) #[] #[]] W (BoolG W (d.any fun t => !Df.numOk t))) := Lib.hid fun W hW => containsFunc_any _ wrongNumber_enters _ wrongNumber_test A d cap d.length rfl hf W (h.on hW)
 have SN : Hid (∀ W, Below w.heap.size w W → Calls Tryz.prog 95 #[.agg #[.slice A d.length cap]] W (BoolG W (decide (¬ (Df.names d).Nodup)))) := Lib.hid fun W hW => hasSameName_any A d cap d.length rfl hf W (h.on hW)
 have LA : Hid (∀ W, Below w.heap.size w W → Calls Tryz.prog 98 #[.agg #[.slice A d.length cap]] W (IntG W (afters d))) := Lib.hid fun W hW => lengthOfAfter_any A d cap d.length rfl hf W (h.on hW)
 have GR : Hid (∀ W, Below w.heap.size w W → Calls Tryz.prog 96 #[.agg #[.slice A d.length cap]] W (GraphG W d.length (Df.graphI d))) := Lib.hid fun W hW => graphD_any A d cap hf W (hF.on hW) (h.on hW)
 have gl : (Df.graphI d).length ≤ 1100 * 1100 := by
  have h1 := Df.gTo_len hf d.length
  rw [Df.gTo_all] at h1
  have := Nat.mul_le_mul_right 1100 hf.1
  omega
 have OD : Hid (∀ W A cap, Edg W W.heap.size A (Df.graphI d) → Calls Tryz.prog 99 #[.agg #[.int .i64 d.length, .slice A (Df.graphI d).length cap]] W (OptG W (To.orderI d.length (Df.graphI d)))) := Lib.hid fun W A cap hE => order_any d.length A (Df.graphI d) cap (by omega) W hE
 have R2 := Lib.hid (@Df.good_two d H1.out H16.out)
 have R5 := Lib.hid (@Df.good_five d H1.out H16.out)
 have RN := Lib.hid (@Df.good_num d H1.out H16.out)
 have RA := Lib.hid (@Df.good_aft d H1.out H16.out)
 have RE := Lib.hid (@Df.good_end d H1.out H16.out)
 generalize (d.any fun t => !Df.nameOk t) = b1 at *
 generalize decide (¬ (Df.names d).Nodup) = b2 at *
 generalize (d.any fun t => !Df.numOk t) = b3 at *
 obtain ⟨es, hes⟩ : ∃ es, es = Df.graphI d := ⟨_, rfl⟩
 rw [← hes] at GR OD RA RE gl
 obtain ⟨af, haf⟩ : ∃ af, af = afters d := ⟨_, rfl⟩
 have al : af ≤ 1100 * 1100 := by rw [haf]; have := afters_le hf d.length; rwa [List.take_length] at this
 rw [← haf] at LA RA RE
 obtain ⟨gd, hgd⟩ : ∃ gd, gd = Df.good d := ⟨_, rfl⟩
 rw [← hgd] at R2 R5 RN RA RE ⊢
 obtain ⟨n, hn⟩ : ∃ n, n = d.length := ⟨_, rfl⟩
 rw [← hn] at CN CW SN LA GR OD RE B1 H1 H16 ⊢
 have g0 : ((n : Int) == 0) = false := by rw [← hn] at h0; simpa using h0
 have g1 : ¬ 16 < (n : Int) := by have := H16.out; omega
 obtain ⟨L, hL⟩ : ∃ L, L = es.length := ⟨_, rfl⟩
 rw [← hL] at OD RA RE gl
 have HL := Lib.hid hL
 clear h hf hF h0 h16 hn hes haf hgd hL
 obtain ⟨X, hX⟩ : ∃ X, X = w.heap.size := ⟨_, rfl⟩
 obtain ⟨W1, hW1⟩ : ∃ W1, W1 = w.alloc (.cells #[.slice A n cap] 37) := ⟨_, rfl⟩
 have P1 : W1.cell? ⟨X, 0, none⟩ = some (.slice A n cap) := by rw [hW1, hX]; exact cell_lit _ _ _
 have HP1 := Lib.hid P1
 have Z1 : Hid (X < W1.heap.size) := Lib.hid (by rw [hW1, hX]; simp)
 rw [← hW1] at B1
 have SM : Hid (∀ W, Below W1.heap.size W1 W → W.cell? ⟨X, 0, none⟩ = some (.slice A n cap)) := Lib.hid fun W hW => (hW.cell (p := ⟨X, 0, none⟩) Z1.out).trans HP1.out
 have BB : Hid (∀ W, Below W1.heap.size W1 W → Below w.heap.size w W) := Lib.hid fun W hW => B1.out.trans (hW.mono B1.out.size)
 go_enter Tryz.func75, Tryz.ntmps75
 go_upto_region 1 with fail
 rw [← hW1, ← hX]
 clear hW1 hX
 go_wp2_with fail
 (with_reducible refine (CN.out _ B1.out).mono ?_); rintro e w2 ⟨rfl, c2⟩
 have F2 := c2
 have p2 := SM.out _ F2.out
 cases b1 with
 | true =>
  go_wp2
  go_ret
  exact ⟨ret_int (R2.out (by trivial)).symm, Lib.hid (BB.out _ F2.out)⟩
 | false =>
  go_wp2_with fail
  (with_reducible refine (SN.out _ (BB.out _ F2.out)).mono ?_); rintro e w3 ⟨rfl, c3⟩
  have F3 := Lib.hid (F2.out.trans (c3.out.mono F2.out.size))
  have p3 := SM.out _ F3.out
  cases b2 with
  | true =>
   go_wp2
   go_ret
   exact ⟨ret_int (R5.out (by trivial) (by trivial)).symm, Lib.hid (BB.out _ F3.out)⟩
  | false =>
   go_wp2_with fail
   (with_reducible refine (GR.out _ (BB.out _ F3.out)).mono ?_); rintro e w4 ⟨A4, cap4, rfl, e4, c4⟩
   rw [← HL.out]
   have F4 := Lib.hid (F3.out.trans (c4.out.mono F3.out.size))
   obtain ⟨Y, hY⟩ : ∃ Y, Y = w4.heap.size := ⟨_, rfl⟩
   obtain ⟨W5, hW5⟩ : ∃ W5, W5 = w4.alloc (.cells #[.int .i64 n, .slice A4 L cap4] 150) := ⟨_, rfl⟩
   have BA : Hid (Below w4.heap.size w4 W5) := Lib.hid (by rw [hW5]; exact (Below.refl _ _).alloc (Nat.le_refl _) _)
   have P5 : Hid (W5.heap[Y]? = some (.cells #[.int .i64 n, .slice A4 L cap4] 150 (0, 0))) := Lib.hid (by rw [hW5, hY]; exact heap_alloc_new ..)
   have E5 : Hid (Edg W5 W5.heap.size A4 es) := Lib.hid (e4.out.on BA.out)
   have F5 := Lib.hid (F4.out.trans (BA.out.mono F4.out.size))
   have x5 := SM.out _ F5.out
   have SG : Hid (∀ W, Below W5.heap.size W5 W → W.cell? ⟨X, 0, none⟩ = some (.slice A n cap) ∧ W.cell? ⟨Y, 0, none⟩ = some (.int .i64 n) ∧ W.cell? ⟨Y, 1, none⟩ = some (.slice A4 L cap4)) := Lib.hid fun W hW => by
    have hb := (hW.block Y (lt_of_block P5.out)).trans P5.out
    exact ⟨SM.out _ (F5.out.trans (hW.mono F5.out.size)), (obG hb).1.1, (obG hb).1.2⟩
   have B5 : Hid (∀ W, Below W5.heap.size W5 W → Below w.heap.size w W) := Lib.hid fun W hW => BB.out _ (F5.out.trans (hW.mono F5.out.size))
   go_upto_region 8 with fail
   rw [← hW5, ← hY]
   clear hW5 hY c2 c3 c4 e4 BA F2 F3 F4 F5 p2 p3 x5 P5
   have FB : Hid (Below W5.heap.size W5 W5.drew) := Lib.hid (Below.refl _ _).drew
   refine wp_region_held_drew (S := fun w' => w'.cell? ⟨X, 0, none⟩ = some (.slice A n cap) ∧ w'.cell? ⟨Y, 0, none⟩ = some (.int .i64 n) ∧ w'.cell? ⟨Y, 1, none⟩ = some (.slice A4 L cap4)) (by kernel_rfl) ?hS0 (fun hHeld => ?_)
   case hS0 => exact SG.out _ FB.out
   refine wpAnyH_take (i := 0) (oi := ?o1001) (v := ?v1001) ?hi1001 (by kernel_rfl) (by kernel_rfl) (by kernel_rfl) ?hQ1001 (Or.inl ⟨?hg1001, ?hy1001⟩) (by assumption) ?rest1001
   case hi1001 => (simp only [List.getElem?_toArray, List.getElem?_cons_zero]; exact rfl)
   case hQ1001 => exact fun _ _ _ h => h
   case hg1001 => rfl
   case hy1001 => (intro w' hSw; (try dsimp only at hSw); go_simp; try with_reducible rfl)
   try simp only [Act.put, List.setIfInBounds_toArray, List.set_cons_zero, List.set_cons_succ]
   refine wpAnyH_take (i := 1) (oi := ?o1002) (v := ?v1002) ?hi1002 (by kernel_rfl) (by kernel_rfl) (by kernel_rfl) ?hQ1002 (Or.inl ⟨?hg1002, ?hy1002⟩) (by assumption) ?rest1002
   case hi1002 => (simp only [List.getElem?_toArray, List.getElem?_cons_zero, List.getElem?_cons_succ]; exact rfl)
   case hQ1002 => exact fun _ _ _ h => h
   case hg1002 => rfl
   case hy1002 => (intro w' hSw; (try dsimp only at hSw); go_simp; try with_reducible rfl)
   try simp only [Act.put, List.setIfInBounds_toArray, List.set_cons_zero, List.set_cons_succ]
   refine wpAnyH_ready (rs := [2]) (by kernel_rfl) (by simp) ?_
   refine AllReadyH.cons (o := ?o1003) ?hi1003 (fun K hK => ?_) AllReadyH.nil
   case hi1003 => (simp only [List.getElem?_toArray, List.getElem?_cons_zero, List.getElem?_cons_succ]; exact rfl)
   (go_simp; go_at_call 93; (with_reducible refine (CW.out _ (B5.out _ FB.out)).mono ?_); rintro e u1 ⟨rfl, c1⟩; try dsimp only)
   have FB : Hid (Below W5.heap.size W5 _) := Lib.hid (FB.out.trans (c1.out.mono FB.out.size))
   refine hK.out _ _ ?_ (fun hHeld => ?_)
   ·exact SG.out _ FB.out
   clear hK K
   try simp only [Act.put, List.setIfInBounds_toArray, List.set_cons_zero, List.set_cons_succ]
   clear c1
   cases b3 with
   | true =>
    refine wpAnyH_take (i := 3) (oi := ?o1004) (v := ?v1004) ?hi1004 (by kernel_rfl) (by kernel_rfl) (by kernel_rfl) ?hQ1004 (Or.inl ⟨?hg1004, ?hy1004⟩) (by assumption) ?rest1004
    case hi1004 => (simp only [List.getElem?_toArray, List.getElem?_cons_zero, List.getElem?_cons_succ]; exact rfl)
    case hQ1004 => exact fun _ _ _ h => h
    case hg1004 => rfl
    case hy1004 => (intro w' hSw; (try dsimp only at hSw); go_simp; try with_reducible rfl)
    try simp only [Act.put, List.setIfInBounds_toArray, List.set_cons_zero, List.set_cons_succ]
    refine wpAnyH_take (i := 4) (oi := ?o1005) (v := undef) ?hi1005 (by kernel_rfl) (by kernel_rfl) (by kernel_rfl) ?hQ1005 (Or.inr ⟨?hg1005, rfl⟩) (by assumption) ?rest1005
    case hi1005 => (simp only [List.getElem?_toArray, List.getElem?_cons_zero, List.getElem?_cons_succ]; exact rfl)
    case hQ1005 => exact fun _ _ _ h => h
    case hg1005 => rfl
    try simp only [Act.put, List.setIfInBounds_toArray, List.set_cons_zero, List.set_cons_succ]
    refine wpAnyH_take (i := 5) (oi := ?o1006) (v := undef) ?hi1006 (by kernel_rfl) (by kernel_rfl) (by kernel_rfl) ?hQ1006 (Or.inr ⟨?hg1006, rfl⟩) (by assumption) ?rest1006
    case hi1006 => (simp only [List.getElem?_toArray, List.getElem?_cons_zero, List.getElem?_cons_succ]; exact rfl)
    case hQ1006 => exact fun _ _ _ h => h
    case hg1006 => rfl
    try simp only [Act.put, List.setIfInBounds_toArray, List.set_cons_zero, List.set_cons_succ]
    refine wpAnyH_take (i := 6) (oi := ?o1007) (v := undef) ?hi1007 (by kernel_rfl) (by kernel_rfl) (by kernel_rfl) ?hQ1007 (Or.inr ⟨?hg1007, rfl⟩) (by assumption) ?rest1007
    case hi1007 => (simp only [List.getElem?_toArray, List.getElem?_cons_zero, List.getElem?_cons_succ]; exact rfl)
    case hQ1007 => exact fun _ _ _ h => h
    case hg1007 => rfl
    try simp only [Act.put, List.setIfInBounds_toArray, List.set_cons_zero, List.set_cons_succ]
    refine wpAnyH_take (i := 7) (oi := ?o1008) (v := undef) ?hi1008 (by kernel_rfl) (by kernel_rfl) (by kernel_rfl) ?hQ1008 (Or.inr ⟨?hg1008, rfl⟩) (by assumption) ?rest1008
    case hi1008 => (simp only [List.getElem?_toArray, List.getElem?_cons_zero, List.getElem?_cons_succ]; exact rfl)
    case hQ1008 => exact fun _ _ _ h => h
    case hg1008 => rfl
    try simp only [Act.put, List.setIfInBounds_toArray, List.set_cons_zero, List.set_cons_succ]
    refine wpAnyH_take (i := 8) (oi := ?o1009) (v := undef) ?hi1009 (by kernel_rfl) (by kernel_rfl) (by kernel_rfl) ?hQ1009 (Or.inr ⟨?hg1009, rfl⟩) (by assumption) ?rest1009
    case hi1009 => (simp only [List.getElem?_toArray, List.getElem?_cons_zero, List.getElem?_cons_succ]; exact rfl)
    case hQ1009 => exact fun _ _ _ h => h
    case hg1009 => rfl
    try simp only [Act.put, List.setIfInBounds_toArray, List.set_cons_zero, List.set_cons_succ]
    refine wpAnyH_take (i := 9) (oi := ?o1010) (v := undef) ?hi1010 (by kernel_rfl) (by kernel_rfl) (by kernel_rfl) ?hQ1010 (Or.inr ⟨?hg1010, rfl⟩) (by assumption) ?rest1010
    case hi1010 => (simp only [List.getElem?_toArray, List.getElem?_cons_zero, List.getElem?_cons_succ]; exact rfl)
    case hQ1010 => exact fun _ _ _ h => h
    case hg1010 => rfl
    try simp only [Act.put, List.setIfInBounds_toArray, List.set_cons_zero, List.set_cons_succ]
    refine wpAnyH_take (i := 10) (oi := ?o1011) (v := ?v1011) ?hi1011 (by kernel_rfl) (by kernel_rfl) (by kernel_rfl) ?hQ1011 (Or.inl ⟨?hg1011, ?hy1011⟩) (by assumption) ?rest1011
    case hi1011 => (simp only [List.getElem?_toArray, List.getElem?_cons_zero, List.getElem?_cons_succ]; exact rfl)
    case hQ1011 => exact fun _ _ _ h => h
    case hg1011 => rfl
    case hy1011 => (intro w' hSw; (try dsimp only at hSw); go_simp; try with_reducible rfl)
    try simp only [Act.put, List.setIfInBounds_toArray, List.set_cons_zero, List.set_cons_succ]
    refine wpAnyH_done (by kernel_rfl) ?_ _
    go_wp2
    go_ret
    exact ⟨ret_int (RN.out (by trivial) (by trivial) (by trivial)).symm, Lib.hid (B5.out _ FB.out)⟩
   | false =>
    refine wpAnyH_take (i := 3) (oi := ?o1012) (v := ?v1012) ?hi1012 (by kernel_rfl) (by kernel_rfl) (by kernel_rfl) ?hQ1012 (Or.inl ⟨?hg1012, ?hy1012⟩) (by assumption) ?rest1012
    case hi1012 => (simp only [List.getElem?_toArray, List.getElem?_cons_zero, List.getElem?_cons_succ]; exact rfl)
    case hQ1012 => exact fun _ _ _ h => h
    case hg1012 => rfl
    case hy1012 => (intro w' hSw; (try dsimp only at hSw); go_simp; try with_reducible rfl)
    try simp only [Act.put, List.setIfInBounds_toArray, List.set_cons_zero, List.set_cons_succ]
    refine wpAnyH_take (i := 4) (oi := ?o1013) (v := ?v1013) ?hi1013 (by kernel_rfl) (by kernel_rfl) (by kernel_rfl) ?hQ1013 (Or.inl ⟨?hg1013, ?hy1013⟩) (by assumption) ?rest1013
    case hi1013 => (simp only [List.getElem?_toArray, List.getElem?_cons_zero, List.getElem?_cons_succ]; exact rfl)
    case hQ1013 => exact fun _ _ _ h => h
    case hg1013 => rfl
    case hy1013 => (intro w' hSw; (try dsimp only at hSw); go_simp; try with_reducible rfl)
    try simp only [Act.put, List.setIfInBounds_toArray, List.set_cons_zero, List.set_cons_succ]
    refine wpAnyH_take (i := 5) (oi := ?o1014) (v := ?v1014) ?hi1014 (by kernel_rfl) (by kernel_rfl) (by kernel_rfl) ?hQ1014 (Or.inl ⟨?hg1014, ?hy1014⟩) (by assumption) ?rest1014
    case hi1014 => (simp only [List.getElem?_toArray, List.getElem?_cons_zero, List.getElem?_cons_succ]; exact rfl)
    case hQ1014 => exact fun _ _ _ h => h
    case hg1014 => rfl
    case hy1014 => (intro w' hSw; (try dsimp only at hSw); go_simp; try with_reducible rfl)
    try simp only [Act.put, List.setIfInBounds_toArray, List.set_cons_zero, List.set_cons_succ]
    refine wpAnyH_take (i := 6) (oi := ?o1015) (v := ?v1015) ?hi1015 (by kernel_rfl) (by kernel_rfl) (by kernel_rfl) ?hQ1015 (Or.inl ⟨?hg1015, ?hy1015⟩) (by assumption) ?rest1015
    case hi1015 => (simp only [List.getElem?_toArray, List.getElem?_cons_zero, List.getElem?_cons_succ]; exact rfl)
    case hQ1015 => exact fun _ _ _ h => h
    case hg1015 => rfl
    case hy1015 => (intro w' hSw; (try dsimp only at hSw); go_simp; try with_reducible rfl)
    try simp only [Act.put, List.setIfInBounds_toArray, List.set_cons_zero, List.set_cons_succ]
    refine wpAnyH_take (i := 7) (oi := ?o1016) (v := ?v1016) ?hi1016 (by kernel_rfl) (by kernel_rfl) (by kernel_rfl) ?hQ1016 (Or.inl ⟨?hg1016, ?hy1016⟩) (by assumption) ?rest1016
    case hi1016 => (simp only [List.getElem?_toArray, List.getElem?_cons_zero, List.getElem?_cons_succ]; exact rfl)
    case hQ1016 => exact fun _ _ _ h => h
    case hg1016 => rfl
    case hy1016 => (intro w' hSw; (try dsimp only at hSw); go_simp; try with_reducible rfl)
    try simp only [Act.put, List.setIfInBounds_toArray, List.set_cons_zero, List.set_cons_succ]
    refine wpAnyH_ready (rs := [8]) (by kernel_rfl) (by simp) ?_
    refine AllReadyH.cons (o := ?o1017) ?hi1017 (fun K hK => ?_) AllReadyH.nil
    case hi1017 => (simp only [List.getElem?_toArray, List.getElem?_cons_zero, List.getElem?_cons_succ]; exact rfl)
    (go_simp; go_at_call 98; (with_reducible refine (LA.out _ (B5.out _ FB.out)).mono ?_); rintro e u2 ⟨rfl, c1⟩; try dsimp only)
    have FB : Hid (Below W5.heap.size W5 _) := Lib.hid (FB.out.trans (c1.out.mono FB.out.size))
    refine hK.out _ _ ?_ (fun hHeld => ?_)
    ·exact SG.out _ FB.out
    clear hK K
    try simp only [Act.put, List.setIfInBounds_toArray, List.set_cons_zero, List.set_cons_succ]
    clear c1
    by_cases hq : L = af
    ·have hd : ((L : Int) != (af : Int)) = false := by rw [hq]; simp
     have RE2 := Lib.hid (RE.out (by trivial) (by trivial) (by trivial) hq)
     clear hq
     refine wpAnyH_take (i := 9) (oi := ?o1018) (v := ?v1018) ?hi1018 (by kernel_rfl) (by kernel_rfl) (by kernel_rfl) ?hQ1018 (Or.inl ⟨?hg1018, ?hy1018⟩) (by assumption) ?rest1018
     case hi1018 => (simp only [List.getElem?_toArray, List.getElem?_cons_zero, List.getElem?_cons_succ]; exact rfl)
     case hQ1018 => exact fun _ _ _ h => h
     case hg1018 => rfl
     case hy1018 => (intro w' hSw; (try dsimp only at hSw); go_simp; try with_reducible rfl)
     try simp only [Act.put, List.setIfInBounds_toArray, List.set_cons_zero, List.set_cons_succ]
     refine wpAnyH_take (i := 10) (oi := ?o1019) (v := ?v1019) ?hi1019 (by kernel_rfl) (by kernel_rfl) (by kernel_rfl) ?hQ1019 (Or.inl ⟨?hg1019, ?hy1019⟩) (by assumption) ?rest1019
     case hi1019 => (simp only [List.getElem?_toArray, List.getElem?_cons_zero, List.getElem?_cons_succ]; exact rfl)
     case hQ1019 => exact fun _ _ _ h => h
     case hg1019 => rfl
     case hy1019 => (intro w' hSw; (try dsimp only at hSw); go_simp; try with_reducible rfl)
     try simp only [Act.put, List.setIfInBounds_toArray, List.set_cons_zero, List.set_cons_succ]
     refine wpAnyH_done (by kernel_rfl) ?_ _
     obtain ⟨y0, y1, y2⟩ := SG.out _ FB.out
     go_wp2_with fail
     (with_reducible refine (OD.out _ A4 cap4 (E5.out.on FB.out)).mono ?_); rintro e w6 ⟨A6, cap6, rfl, -, -, c6⟩
     have F6 := Lib.hid (B5.out _ (FB.out.trans (c6.out.mono FB.out.size)))
     cases ho : (To.orderI (n : Int) es).isSome with
     | true =>
      rw [ho] at RE2
      go_wp2
      go_ret
      exact ⟨ret_int RE2.out.symm, F6⟩
     | false =>
      rw [ho] at RE2
      go_wp2
      go_ret
      exact ⟨ret_int RE2.out.symm, F6⟩
    ·have hd : ((L : Int) != (af : Int)) = true := by simp; omega
     have RA2 := Lib.hid (RA.out (by trivial) (by trivial) (by trivial) hq)
     clear hq
     refine wpAnyH_take (i := 9) (oi := ?o1020) (v := ?v1020) ?hi1020 (by kernel_rfl) (by kernel_rfl) (by kernel_rfl) ?hQ1020 (Or.inl ⟨?hg1020, ?hy1020⟩) (by assumption) ?rest1020
     case hi1020 => (simp only [List.getElem?_toArray, List.getElem?_cons_zero, List.getElem?_cons_succ]; exact rfl)
     case hQ1020 => exact fun _ _ _ h => h
     case hg1020 => rfl
     case hy1020 => (intro w' hSw; (try dsimp only at hSw); go_simp; try with_reducible rfl)
     try simp only [Act.put, List.setIfInBounds_toArray, List.set_cons_zero, List.set_cons_succ]
     refine wpAnyH_take (i := 10) (oi := ?o1021) (v := ?v1021) ?hi1021 (by kernel_rfl) (by kernel_rfl) (by kernel_rfl) ?hQ1021 (Or.inl ⟨?hg1021, ?hy1021⟩) (by assumption) ?rest1021
     case hi1021 => (simp only [List.getElem?_toArray, List.getElem?_cons_zero, List.getElem?_cons_succ]; exact rfl)
     case hQ1021 => exact fun _ _ _ h => h
     case hg1021 => rfl
     case hy1021 => (intro w' hSw; (try dsimp only at hSw); go_simp; try with_reducible rfl)
     try simp only [Act.put, List.setIfInBounds_toArray, List.set_cons_zero, List.set_cons_succ]
     refine wpAnyH_done (by kernel_rfl) ?_ _
     go_wp2
     go_ret
     exact ⟨ret_int RA2.out.symm, Lib.hid (B5.out _ FB.out)⟩
end Go.Proofs.YtkbekojnmdgdgaaGreatDoor
