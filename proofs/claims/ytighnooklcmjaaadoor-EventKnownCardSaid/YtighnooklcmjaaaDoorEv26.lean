/-
  Part 26 of the texts behind the law: EvBackL.
-/
import Derived.Test.YtighnooklcmjaaaDoorEv25
/-
  The law EventBack, walked: an event that may be is read again; bytes that are read are written again; no first part of an event's bytes is read.
-/
namespace Go.Proofs.YtighnooklcmjaaaDoor
open Go.RowKit
/-- A first part of an event's bytes is no event's. -/
theorem Ev.cut_bad {e : Ev.E} (h : Ev.Good e) {c : Nat} (hc : c < (Ev.put e).length) : Ev.getE ((Ev.put e).take c) = 2 := by
  have : Ev.acc ((Ev.put e).take c) = false := by
    cases hx : Ev.acc ((Ev.put e).take c) with
    | false => rfl
    | true =>
      obtain ⟨x, hX, h2⟩ := (Ev.get_iff ((Ev.put_byte e h).take c)).1 hx
      have h3 := Ev.put_first h hX ((Ev.put e).drop c) (by rw [← h2, List.take_append_drop])
      have h4 := congrArg List.length h3
      rw [List.length_drop, List.length_nil] at h4
      omega
  unfold Ev.getE
  rw [this]; rfl
/-- What reading answers. -/
theorem Ev.get_cases {zs : List Int} (hb : En.Byte zs) : (∃ x, Ev.Good x ∧ zs = Ev.put x ∧ Ev.getV zs = x ∧ Ev.getE zs = 0) ∨ (Ev.getV zs = Ev.zero ∧ Ev.getE zs = 2) := by
  cases hx : Ev.acc zs with
  | true =>
    obtain ⟨x, hX, h2⟩ := (Ev.get_iff hb).1 hx
    left
    refine ⟨x, hX, h2, ?_⟩
    rw [h2]
    exact Ev.getV_put hX
  | false =>
    right
    unfold Ev.getV Ev.getE
    rw [hx]
    exact ⟨rfl, rfl⟩
theorem Ev.Good.evin {e : Ev.E} (h : Ev.Good e) : EvIn e := by
  obtain ⟨⟨k0, k1⟩, ⟨r0, r1⟩, ⟨t0, t1⟩, ⟨y0, y1⟩, ⟨n0, n1⟩, h1, h2, h3⟩ := h.cases
  exact ⟨⟨by omega, by omega⟩, ⟨by omega, by omega⟩, ⟨by omega, by omega⟩, ⟨by omega, by omega⟩, ⟨by omega, by omega⟩, by omega, by omega, by omega⟩
theorem zero_in : EvIn Ev.zero := EvIn.small (by decide) (by decide) (by decide) (by decide) (by decide) (by decide) (by decide) (by decide)
theorem Bytes.conv {w : World} {B : Nat} {A : Option Addr} {zs : List Int} (h : Bytes w B A zs) (cap : Nat) : (convert 27 9 (.slice A zs.length cap)).run Tryd.prog w = .ok (.string (strOfNums zs)) w := conv_str h cap
set_option maxRecDepth 100000 in
set_option maxHeartbeats 32000000 in
theorem back_walk (e : Ev.E) (he : EvIn e) (A : Option Addr) (zs : List Int) (cap : Nat) (hm : zs.length ≤ 9223372036854775807) (hl : zs.length ≤ cap) (cut : Int) (u0 : -9223372036854775808 ≤ cut) (u1 : cut ≤ 9223372036854775807) (w : World) (hF : FactsE w) (hb : Bytes w w.heap.size A zs) :
    Calls Tryd.prog 5 #[.agg (evc e), .slice A zs.length cap, .int .i64 cut] w fun r w' => r = .returned (.bool true) ∧ Below w.heap.size w w' := by
  have FF : Hid (∀ W, Below w.heap.size w W → FactsE W) := Lib.hid fun W h => hF.on h
  clear hF
  have AW := Lib.hid awake_any
  have X0 := Lib.hid (Bx.start w 24 e)
  have GA := Lib.hid (good_p e he)
  have PA := Lib.hid (put_p e he)
  have NQ := Lib.hid (ev_neq e e he he)
  have IA := Lib.hid (Ev.good_iff (e := e))
  have HB := Lib.hid hb
  have GC := Lib.hid (Ev.get_cases (zs := zs) hb.mem)
  have GP := Lib.hid (fun h => Ev.getV_put (e := e) h)
  have PL := Lib.hid (fun h => Ev.put_len (e := e) h)
  have CB := Lib.hid (fun h c hc => Ev.cut_bad (e := e) (c := c) h hc)
  have hd := he.data
  have HL := Lib.hid hl
  clear he hb hl
  generalize Ev.good e = ga at *
  generalize Ev.put e = pe at *
  have GP2 : Hid (Ev.Good e → Ev.getV pe = e ∧ Ev.getE pe = 0) := GP
  clear GP
  obtain ⟨k, r, t, y, n, na, ke, da⟩ := e
  simp only at hd
  change Calls _ _ #[.agg #[.int .i64 k, .int .i64 r, .int .i64 t, .int .i64 y, .int .i64 n, .string na, .string ke, .string da], _, _] _ _
  change Hid (∀ W, FactsS W → Calls _ _ #[.agg #[.int .i64 k, .int .i64 r, .int .i64 t, .int .i64 y, .int .i64 n, .string na, .string ke, .string da]] W _) at GA
  change Hid (∀ W, FactsS W → Calls _ _ #[.agg #[.int .i64 k, .int .i64 r, .int .i64 t, .int .i64 y, .int .i64 n, .string na, .string ke, .string da]] W _) at PA
  have nq : Hid (∀ W, (binOp .neq 24 (.agg #[.int .i64 k, .int .i64 r, .int .i64 t, .int .i64 y, .int .i64 n, .string na, .string ke, .string da]) (.agg #[.int .i64 k, .int .i64 r, .int .i64 t, .int .i64 y, .int .i64 n, .string na, .string ke, .string da])).run Tryd.prog W = .ok (.bool false) W) := Lib.hid fun W => by
    have := NQ.out W
    rw [decide_eq_true rfl] at this
    exact this
  clear NQ
  have ZQ : Hid (∀ W, (binOp .eql 24 (.agg #[.int .i64 0, .int .i64 0, .int .i64 0, .int .i64 0, .int .i64 0, .string ⟨#[]⟩, .string ⟨#[]⟩, .string ⟨#[]⟩]) (.agg #[.int .i64 0, .int .i64 0, .int .i64 0, .int .i64 0, .int .i64 0, .string ⟨#[]⟩, .string ⟨#[]⟩, .string ⟨#[]⟩])).run Tryd.prog W = .ok (.bool true) W) := Lib.hid fun W => by
    have := ev_eql _ _ zero_in zero_in W
    rw [decide_eq_true rfl] at this
    exact this
  obtain ⟨W0, hW0⟩ : ∃ W0, W0 = w.alloc (.cells #[.int .i64 k, .int .i64 r, .int .i64 t, .int .i64 y, .int .i64 n, .string na, .string ke, .string da] 24) := ⟨_, rfl⟩
  change Hid (Bx w _ _ (w.alloc (.cells #[.int .i64 k, .int .i64 r, .int .i64 t, .int .i64 y, .int .i64 n, .string na, .string ke, .string da] 24))) at X0
  rw [← hW0] at X0
  have HW := Lib.hid hW0
  clear hW0
  go_enter Tryd.func5, Tryd.ntmps5
  go_wp2_with fail
  rw [← HW.out]
  clear HW
  (with_reducible refine (AW.out _ (FF.out _ X0.out.b)).mono ?_); rintro e w1 ⟨rfl, b1⟩
  have X1 := Lib.hid (X0.out.more b1)
  clear X0 b1
  have c7 := X1.out.plain.2.2.2.2.2.2.2
  by_cases hd1 : 1000 < da.size
  · have hd1' : 1000 < (da.size : Int) := by omega
    go_wp2
    go_ret
    exact ⟨rfl, X1.out.b⟩
  have hd1' : (da.size : Int) ≤ 1000 := by omega
  by_cases hz1 : 1200 < zs.length
  · have hz1' : 1200 < (zs.length : Int) := by omega
    clear hd1
    go_wp2
    go_ret
    exact ⟨rfl, X1.out.b⟩
  have hz1' : (zs.length : Int) ≤ 1200 := by omega
  have GB : Hid (∀ W, Below w.heap.size w W → Calls Tryd.prog 11 #[.slice A zs.length cap] W (EvG W zs)) := Lib.hid fun W hW => get_p A zs cap HL.out (by omega) W (FF.out W hW).s ((HB.out.below hW).more hW.size)
  have CVB : Hid (∀ W, Below w.heap.size w W → (convert 27 9 (.slice A zs.length cap)).run Tryd.prog W = .ok (.string (strOfNums zs)) W) := Lib.hid fun W hW => (HB.out.below hW).conv cap
  clear hd1 hz1
  go_upto_region 5 with fail
  clear hd1' hz1' c7 hd
  obtain ⟨c0, c1, c2, c3, c4, c5, c6, c7⟩ := X1.out.plain
  go_wp2_with fail
  (with_reducible refine (PA.out _ (FF.out _ X1.out.b).s).mono ?_); rintro e w2 ⟨ys, A1, cap1, hy, rfl, o2, g2⟩
  have X2 := Lib.hid (X1.out.grew g2.out)
  have O2 := Lib.hid (o2.out.low X1.out.b.size)
  clear X1 o2 g2 c0 c1 c2 c3 c4 c5 c6 c7
  obtain ⟨c0, c1, c2, c3, c4, c5, c6, c7⟩ := X2.out.plain
  go_wp2_with fail
  (with_reducible refine (GA.out _ (FF.out _ X2.out.b).s).mono ?_); rintro e w3 ⟨rfl, b3⟩
  have X3 := Lib.hid (X2.out.more b3)
  have O3 := Lib.hid (O2.out.grew b3 (Nat.le_refl _))
  clear X2 O2 b3 c0 c1 c2 c3 c4 c5 c6 c7
  cases ga
  · have st := 0
    clear st
    go_upto_region 14 with fail
    go_wp2_with fail
    (with_reducible refine (GB.out _ X3.out.b).mono ?_); rintro e v1 ⟨k', r', t', y', n', na', ke', da', er, rfl, hv, b5⟩
    have B5 := Lib.hid (Below.trans X3.out.b (b5.out.mono (Below.size X3.out.b)))
    go_upto_region 15 with fail
    obtain ⟨g9, hg9⟩ : ∃ g9, g9 = v1.heap.size := ⟨_, rfl⟩
    obtain ⟨W9, hW9⟩ : ∃ W9, W9 = World.alloc v1 (.cells #[.int .i64 k', .int .i64 r', .int .i64 t', .int .i64 y', .int .i64 n', .string na', .string ke', .string da'] 24) := ⟨_, rfl⟩
    have E9 : Hid (W9.heap[g9]? = some (.cells #[.int .i64 k', .int .i64 r', .int .i64 t', .int .i64 y', .int .i64 n', .string na', .string ke', .string da'] 24 (0, 0))) := Lib.hid (by rw [hW9, hg9]; exact heap_alloc_new _ _)
    have B9 : Hid (Below w.heap.size w W9) := Lib.hid (by rw [hW9]; exact B5.out.alloc B5.out.size _)
    rw [← hW9, ← hg9]
    clear hW9 hg9 B5 b5
    rcases GC.out with ⟨x, hX, hz, h1, h2⟩ | ⟨h1, h2⟩
    · have hv1 := hv.out.1.trans h1
      obtain rfl : er = 0 := hv.out.2.trans h2
      subst hv1
      have GY := Lib.hid (good_p _ hX.evin)
      rw [Ev.good_iff.2 hX] at GY
      have PY := Lib.hid (put_p _ hX.evin)
      rw [← hz] at PY
      change Hid (∀ W, FactsS W → Calls _ _ #[.agg #[.int .i64 k', .int .i64 r', .int .i64 t', .int .i64 y', .int .i64 n', .string na', .string ke', .string da']] W _) at GY
      change Hid (∀ W, FactsS W → Calls _ _ #[.agg #[.int .i64 k', .int .i64 r', .int .i64 t', .int .i64 y', .int .i64 n', .string na', .string ke', .string da']] W _) at PY
      clear hX hz h1 h2 hv GC GA PA nq ZQ IA GP2 PL CB AW HL hm u0 u1
      have X : Hid (Below w.heap.size w W9.drew ∧ W9.drew.heap[g9]? = some (.cells #[.int .i64 k', .int .i64 r', .int .i64 t', .int .i64 y', .int .i64 n', .string na', .string ke', .string da'] 24 (0, 0))) := Lib.hid ⟨B9.out.drew, E9.out⟩
      clear B9 E9
      have ST : Hid (∀ W, Below w.heap.size w W ∧ W.heap[g9]? = some (.cells #[.int .i64 k', .int .i64 r', .int .i64 t', .int .i64 y', .int .i64 n', .string na', .string ke', .string da'] 24 (0, 0)) → (W.cell? ⟨g9, 0, none⟩ = some (.int .i64 k') ∧ W.cell? ⟨g9, 1, none⟩ = some (.int .i64 r') ∧ W.cell? ⟨g9, 2, none⟩ = some (.int .i64 t') ∧ W.cell? ⟨g9, 3, none⟩ = some (.int .i64 y') ∧ W.cell? ⟨g9, 4, none⟩ = some (.int .i64 n') ∧ W.cell? ⟨g9, 5, none⟩ = some (.string na') ∧ W.cell? ⟨g9, 6, none⟩ = some (.string ke') ∧ W.cell? ⟨g9, 7, none⟩ = some (.string da')) ∧ (convert 27 9 (.slice A zs.length cap)).run Tryd.prog W = .ok (.string (strOfNums zs)) W) := Lib.hid fun W h => ⟨ob8 h.2, CVB.out W h.1⟩
      have MO : Hid (∀ W W', Below w.heap.size w W ∧ W.heap[g9]? = some (.cells #[.int .i64 k', .int .i64 r', .int .i64 t', .int .i64 y', .int .i64 n', .string na', .string ke', .string da'] 24 (0, 0)) → Below W.heap.size W W' → Below w.heap.size w W' ∧ W'.heap[g9]? = some (.cells #[.int .i64 k', .int .i64 r', .int .i64 t', .int .i64 y', .int .i64 n', .string na', .string ke', .string da'] 24 (0, 0))) := Lib.hid fun W W' h h2 => ⟨h.1.trans (h2.mono h.1.size), (h2.block _ (lt_of_block h.2)).trans h.2⟩
      obtain ⟨sb, hsb⟩ : ∃ sb, sb = strOfNums zs := ⟨_, rfl⟩
      rw [← hsb] at ST
      have SB := Lib.hid hsb
      clear hsb CVB
      refine wp_region_held_drew (S := fun w' => (w'.cell? ⟨g9, 0, none⟩ = some (.int .i64 k') ∧ w'.cell? ⟨g9, 1, none⟩ = some (.int .i64 r') ∧ w'.cell? ⟨g9, 2, none⟩ = some (.int .i64 t') ∧ w'.cell? ⟨g9, 3, none⟩ = some (.int .i64 y') ∧ w'.cell? ⟨g9, 4, none⟩ = some (.int .i64 n') ∧ w'.cell? ⟨g9, 5, none⟩ = some (.string na') ∧ w'.cell? ⟨g9, 6, none⟩ = some (.string ke') ∧ w'.cell? ⟨g9, 7, none⟩ = some (.string da')) ∧ (convert 27 9 (.slice A zs.length cap)).run Tryd.prog w' = .ok (.string sb) w') (by kernel_rfl) ?hS2001 (fun hHeld => ?_)
      case hS2001 => exact ST.out _ X.out
      refine wpAnyH_take (i := 0) (oi := ?o2002) (v := ?v2002) ?hi2002 (by kernel_rfl) (by kernel_rfl) (by kernel_rfl) ?hQ2002 (Or.inl ⟨?hg2002, ?hy2002⟩) (by assumption) ?rest2002
      case hi2002 => (simp only [List.getElem?_toArray, List.getElem?_cons_zero]; exact rfl)
      case hQ2002 => exact fun _ _ _ h => h
      case hg2002 => rfl
      case hy2002 => (intro w' hSw; (try dsimp only at hSw); go_simp; try with_reducible rfl)
      try simp only [Act.put, List.setIfInBounds_toArray, List.set_cons_zero, List.set_cons_succ]
      refine wpAnyH_take (i := 1) (oi := ?o2003) (v := ?v2003) ?hi2003 (by kernel_rfl) (by kernel_rfl) (by kernel_rfl) ?hQ2003 (Or.inl ⟨?hg2003, ?hy2003⟩) (by assumption) ?rest2003
      case hi2003 => (simp only [List.getElem?_toArray, List.getElem?_cons_zero, List.getElem?_cons_succ]; exact rfl)
      case hQ2003 => exact fun _ _ _ h => h
      case hg2003 => rfl
      case hy2003 => (intro w' hSw; (try dsimp only at hSw); go_simp; try with_reducible rfl)
      try simp only [Act.put, List.setIfInBounds_toArray, List.set_cons_zero, List.set_cons_succ]
      refine wpAnyH_take (i := 2) (oi := ?o2004) (v := ?v2004) ?hi2004 (by kernel_rfl) (by kernel_rfl) (by kernel_rfl) ?hQ2004 (Or.inl ⟨?hg2004, ?hy2004⟩) (by assumption) ?rest2004
      case hi2004 => (simp only [List.getElem?_toArray, List.getElem?_cons_zero, List.getElem?_cons_succ]; exact rfl)
      case hQ2004 => exact fun _ _ _ h => h
      case hg2004 => rfl
      case hy2004 => (intro w' hSw; (try dsimp only at hSw); go_simp; try with_reducible rfl)
      try simp only [Act.put, List.setIfInBounds_toArray, List.set_cons_zero, List.set_cons_succ]
      refine wpAnyH_take (i := 3) (oi := ?o2005) (v := undef) ?hi2005 (by kernel_rfl) (by kernel_rfl) (by kernel_rfl) ?hQ2005 (Or.inr ⟨?hg2005, rfl⟩) (by assumption) ?rest2005
      case hi2005 => (simp only [List.getElem?_toArray, List.getElem?_cons_zero, List.getElem?_cons_succ]; exact rfl)
      case hQ2005 => exact fun _ _ _ h => h
      case hg2005 => rfl
      try simp only [Act.put, List.setIfInBounds_toArray, List.set_cons_zero, List.set_cons_succ]
      refine wpAnyH_take (i := 4) (oi := ?o2006) (v := undef) ?hi2006 (by kernel_rfl) (by kernel_rfl) (by kernel_rfl) ?hQ2006 (Or.inr ⟨?hg2006, rfl⟩) (by assumption) ?rest2006
      case hi2006 => (simp only [List.getElem?_toArray, List.getElem?_cons_zero, List.getElem?_cons_succ]; exact rfl)
      case hQ2006 => exact fun _ _ _ h => h
      case hg2006 => rfl
      try simp only [Act.put, List.setIfInBounds_toArray, List.set_cons_zero, List.set_cons_succ]
      refine wpAnyH_take (i := 5) (oi := ?o2007) (v := undef) ?hi2007 (by kernel_rfl) (by kernel_rfl) (by kernel_rfl) ?hQ2007 (Or.inr ⟨?hg2007, rfl⟩) (by assumption) ?rest2007
      case hi2007 => (simp only [List.getElem?_toArray, List.getElem?_cons_zero, List.getElem?_cons_succ]; exact rfl)
      case hQ2007 => exact fun _ _ _ h => h
      case hg2007 => rfl
      try simp only [Act.put, List.setIfInBounds_toArray, List.set_cons_zero, List.set_cons_succ]
      refine wpAnyH_take (i := 6) (oi := ?o2008) (v := ?v2008) ?hi2008 (by kernel_rfl) (by kernel_rfl) (by kernel_rfl) ?hQ2008 (Or.inl ⟨?hg2008, ?hy2008⟩) (by assumption) ?rest2008
      case hi2008 => (simp only [List.getElem?_toArray, List.getElem?_cons_zero, List.getElem?_cons_succ]; exact rfl)
      case hQ2008 => exact fun _ _ _ h => h
      case hg2008 => rfl
      case hy2008 => (intro w' hSw; (try dsimp only at hSw); go_simp; try with_reducible rfl)
      try simp only [Act.put, List.setIfInBounds_toArray, List.set_cons_zero, List.set_cons_succ]
      refine wpAnyH_take (i := 7) (oi := ?o2009) (v := ?v2009) ?hi2009 (by kernel_rfl) (by kernel_rfl) (by kernel_rfl) ?hQ2009 (Or.inl ⟨?hg2009, ?hy2009⟩) (by assumption) ?rest2009
      case hi2009 => (simp only [List.getElem?_toArray, List.getElem?_cons_zero, List.getElem?_cons_succ]; exact rfl)
      case hQ2009 => exact fun _ _ _ h => h
      case hg2009 => rfl
      case hy2009 => (intro w' hSw; (try dsimp only at hSw); go_simp; try with_reducible rfl)
      try simp only [Act.put, List.setIfInBounds_toArray, List.set_cons_zero, List.set_cons_succ]
      refine wpAnyH_take (i := 8) (oi := ?o2010) (v := ?v2010) ?hi2010 (by kernel_rfl) (by kernel_rfl) (by kernel_rfl) ?hQ2010 (Or.inl ⟨?hg2010, ?hy2010⟩) (by assumption) ?rest2010
      case hi2010 => (simp only [List.getElem?_toArray, List.getElem?_cons_zero, List.getElem?_cons_succ]; exact rfl)
      case hQ2010 => exact fun _ _ _ h => h
      case hg2010 => rfl
      case hy2010 => (intro w' hSw; (try dsimp only at hSw); go_simp; try with_reducible rfl)
      try simp only [Act.put, List.setIfInBounds_toArray, List.set_cons_zero, List.set_cons_succ]
      refine wpAnyH_take (i := 9) (oi := ?o2011) (v := ?v2011) ?hi2011 (by kernel_rfl) (by kernel_rfl) (by kernel_rfl) ?hQ2011 (Or.inl ⟨?hg2011, ?hy2011⟩) (by assumption) ?rest2011
      case hi2011 => (simp only [List.getElem?_toArray, List.getElem?_cons_zero, List.getElem?_cons_succ]; exact rfl)
      case hQ2011 => exact fun _ _ _ h => h
      case hg2011 => rfl
      case hy2011 => (intro w' hSw; (try dsimp only at hSw); go_simp; try with_reducible rfl)
      try simp only [Act.put, List.setIfInBounds_toArray, List.set_cons_zero, List.set_cons_succ]
      refine wpAnyH_take (i := 10) (oi := ?o2012) (v := ?v2012) ?hi2012 (by kernel_rfl) (by kernel_rfl) (by kernel_rfl) ?hQ2012 (Or.inl ⟨?hg2012, ?hy2012⟩) (by assumption) ?rest2012
      case hi2012 => (simp only [List.getElem?_toArray, List.getElem?_cons_zero, List.getElem?_cons_succ]; exact rfl)
      case hQ2012 => exact fun _ _ _ h => h
      case hg2012 => rfl
      case hy2012 => (intro w' hSw; (try dsimp only at hSw); go_simp; try with_reducible rfl)
      try simp only [Act.put, List.setIfInBounds_toArray, List.set_cons_zero, List.set_cons_succ]
      refine wpAnyH_take (i := 11) (oi := ?o2013) (v := ?v2013) ?hi2013 (by kernel_rfl) (by kernel_rfl) (by kernel_rfl) ?hQ2013 (Or.inl ⟨?hg2013, ?hy2013⟩) (by assumption) ?rest2013
      case hi2013 => (simp only [List.getElem?_toArray, List.getElem?_cons_zero, List.getElem?_cons_succ]; exact rfl)
      case hQ2013 => exact fun _ _ _ h => h
      case hg2013 => rfl
      case hy2013 => (intro w' hSw; (try dsimp only at hSw); go_simp; try with_reducible rfl)
      try simp only [Act.put, List.setIfInBounds_toArray, List.set_cons_zero, List.set_cons_succ]
      refine wpAnyH_ready (rs := [12]) (by kernel_rfl) (by simp) ?_
      refine AllReadyH.cons (o := ?o2014) ?hi2014 (fun K hK => ?_) AllReadyH.nil
      case hi2014 => (simp only [List.getElem?_toArray, List.getElem?_cons_zero, List.getElem?_cons_succ]; exact rfl)
      (go_simp; go_at_call 8; (with_reducible refine (GY.out _ (FF.out _ X.out.1).s).mono ?_); rintro e w7 ⟨rfl, b7⟩; try dsimp only)
      have X := Lib.hid (MO.out _ _ X.out b7)
      refine hK.out _ _ ?_ (fun hHeld => ?_)
      · exact ST.out _ X.out
      clear hK K
      try simp only [Act.put, List.setIfInBounds_toArray, List.set_cons_zero, List.set_cons_succ]
      refine wpAnyH_take (i := 13) (oi := ?o2015) (v := ?v2015) ?hi2015 (by kernel_rfl) (by kernel_rfl) (by kernel_rfl) ?hQ2015 (Or.inl ⟨?hg2015, ?hy2015⟩) (by assumption) ?rest2015
      case hi2015 => (simp only [List.getElem?_toArray, List.getElem?_cons_zero, List.getElem?_cons_succ]; exact rfl)
      case hQ2015 => exact fun _ _ _ h => h
      case hg2015 => rfl
      case hy2015 => (intro w' hSw; (try dsimp only at hSw); go_simp; try with_reducible rfl)
      try simp only [Act.put, List.setIfInBounds_toArray, List.set_cons_zero, List.set_cons_succ]
      refine wpAnyH_take (i := 14) (oi := ?o2016) (v := ?v2016) ?hi2016 (by kernel_rfl) (by kernel_rfl) (by kernel_rfl) ?hQ2016 (Or.inl ⟨?hg2016, ?hy2016⟩) (by assumption) ?rest2016
      case hi2016 => (simp only [List.getElem?_toArray, List.getElem?_cons_zero, List.getElem?_cons_succ]; exact rfl)
      case hQ2016 => exact fun _ _ _ h => h
      case hg2016 => rfl
      case hy2016 => (intro w' hSw; (try dsimp only at hSw); go_simp; try with_reducible rfl)
      try simp only [Act.put, List.setIfInBounds_toArray, List.set_cons_zero, List.set_cons_succ]
      refine wpAnyH_take (i := 15) (oi := ?o2017) (v := ?v2017) ?hi2017 (by kernel_rfl) (by kernel_rfl) (by kernel_rfl) ?hQ2017 (Or.inl ⟨?hg2017, ?hy2017⟩) (by assumption) ?rest2017
      case hi2017 => (simp only [List.getElem?_toArray, List.getElem?_cons_zero, List.getElem?_cons_succ]; exact rfl)
      case hQ2017 => exact fun _ _ _ h => h
      case hg2017 => rfl
      case hy2017 => (intro w' hSw; (try dsimp only at hSw); go_simp; try with_reducible rfl)
      try simp only [Act.put, List.setIfInBounds_toArray, List.set_cons_zero, List.set_cons_succ]
      refine wpAnyH_take (i := 18) (oi := ?o2018) (v := ?v2018) ?hi2018 (by kernel_rfl) (by kernel_rfl) (by kernel_rfl) ?hQ2018 (Or.inl ⟨?hg2018, ?hy2018⟩) (by assumption) ?rest2018
      case hi2018 => (simp only [List.getElem?_toArray, List.getElem?_cons_zero, List.getElem?_cons_succ]; exact rfl)
      case hQ2018 => exact fun _ _ _ h => h
      case hg2018 => rfl
      case hy2018 => (intro w' hSw; (try dsimp only at hSw); go_simp; try with_reducible rfl)
      try simp only [Act.put, List.setIfInBounds_toArray, List.set_cons_zero, List.set_cons_succ]
      refine wpAnyH_take (i := 19) (oi := ?o2019) (v := ?v2019) ?hi2019 (by kernel_rfl) (by kernel_rfl) (by kernel_rfl) ?hQ2019 (Or.inl ⟨?hg2019, ?hy2019⟩) (by assumption) ?rest2019
      case hi2019 => (simp only [List.getElem?_toArray, List.getElem?_cons_zero, List.getElem?_cons_succ]; exact rfl)
      case hQ2019 => exact fun _ _ _ h => h
      case hg2019 => rfl
      case hy2019 => (intro w' hSw; (try dsimp only at hSw); go_simp; try with_reducible rfl)
      try simp only [Act.put, List.setIfInBounds_toArray, List.set_cons_zero, List.set_cons_succ]
      refine wpAnyH_ready (rs := [16]) (by kernel_rfl) (by simp) ?_
      refine AllReadyH.cons (o := ?o2020) ?hi2020 (fun K hK => ?_) AllReadyH.nil
      case hi2020 => (simp only [List.getElem?_toArray, List.getElem?_cons_zero, List.getElem?_cons_succ]; exact rfl)
      (go_simp; go_at_call 9; (with_reducible refine (PY.out _ (FF.out _ X.out.1).s).mono ?_); rintro e w8 ⟨ps, A8, c8, hp, rfl, o8, g8⟩; try dsimp only)
      have X := Lib.hid (MO.out _ _ X.out g8.out.below)
      refine hK.out _ _ ?_ (fun hHeld => ?_)
      · exact ST.out _ X.out
      clear hK K
      try simp only [Act.put, List.setIfInBounds_toArray, List.set_cons_zero, List.set_cons_succ]
      refine wpAnyH_strong (S' := fun w' => ((w'.cell? ⟨g9, 0, none⟩ = some (.int .i64 k') ∧ w'.cell? ⟨g9, 1, none⟩ = some (.int .i64 r') ∧ w'.cell? ⟨g9, 2, none⟩ = some (.int .i64 t') ∧ w'.cell? ⟨g9, 3, none⟩ = some (.int .i64 y') ∧ w'.cell? ⟨g9, 4, none⟩ = some (.int .i64 n') ∧ w'.cell? ⟨g9, 5, none⟩ = some (.string na') ∧ w'.cell? ⟨g9, 6, none⟩ = some (.string ke') ∧ w'.cell? ⟨g9, 7, none⟩ = some (.string da')) ∧ (convert 27 9 (.slice A zs.length cap)).run Tryd.prog w' = .ok (.string sb) w') ∧ (convert 27 9 (.slice A8 ps.length c8)).run Tryd.prog w' = .ok (.string sb) w') (fun _ h => h.1) ?_
      have cv8 := o8.out.conv hp.out
      rw [← SB.out] at cv8
      have hS8 := And.intro hHeld cv8
      refine wpAnyH_take (i := 17) (oi := ?o2021) (v := ?v2021) ?hi2021 (by kernel_rfl) (by kernel_rfl) (by kernel_rfl) ?hQ2021 (Or.inl ⟨?hg2021, ?hy2021⟩) (by assumption) ?rest2021
      case hi2021 => (simp only [List.getElem?_toArray, List.getElem?_cons_zero, List.getElem?_cons_succ]; exact rfl)
      case hQ2021 => exact fun _ _ _ h => h
      case hg2021 => rfl
      case hy2021 => (intro w' hSw; (try dsimp only at hSw); go_simp; try with_reducible rfl)
      try simp only [Act.put, List.setIfInBounds_toArray, List.set_cons_zero, List.set_cons_succ]
      refine wpAnyH_take (i := 20) (oi := ?o2022) (v := ?v2022) ?hi2022 (by kernel_rfl) (by kernel_rfl) (by kernel_rfl) ?hQ2022 (Or.inl ⟨?hg2022, ?hy2022⟩) (by assumption) ?rest2022
      case hi2022 => (simp only [List.getElem?_toArray, List.getElem?_cons_zero, List.getElem?_cons_succ]; exact rfl)
      case hQ2022 => exact fun _ _ _ h => h
      case hg2022 => rfl
      case hy2022 => (intro w' hSw; (try dsimp only at hSw); go_simp; try with_reducible rfl)
      try simp only [Act.put, List.setIfInBounds_toArray, List.set_cons_zero, List.set_cons_succ]
      refine wpAnyH_take (i := 21) (oi := ?o2023) (v := ?v2023) ?hi2023 (by kernel_rfl) (by kernel_rfl) (by kernel_rfl) ?hQ2023 (Or.inl ⟨?hg2023, ?hy2023⟩) (by assumption) ?rest2023
      case hi2023 => (simp only [List.getElem?_toArray, List.getElem?_cons_zero, List.getElem?_cons_succ]; exact rfl)
      case hQ2023 => exact fun _ _ _ h => h
      case hg2023 => rfl
      case hy2023 => (intro w' hSw; (try dsimp only at hSw); go_simp; try with_reducible rfl)
      try simp only [Act.put, List.setIfInBounds_toArray, List.set_cons_zero, List.set_cons_succ]
      refine wpAnyH_take (i := 22) (oi := ?o2024) (v := ?v2024) ?hi2024 (by kernel_rfl) (by kernel_rfl) (by kernel_rfl) ?hQ2024 (Or.inl ⟨?hg2024, ?hy2024⟩) (by assumption) ?rest2024
      case hi2024 => (simp only [List.getElem?_toArray, List.getElem?_cons_zero, List.getElem?_cons_succ]; exact rfl)
      case hQ2024 => exact fun _ _ _ h => h
      case hg2024 => rfl
      case hy2024 => (intro w' hSw; (try dsimp only at hSw); go_simp; try with_reducible rfl)
      try simp only [Act.put, List.setIfInBounds_toArray, List.set_cons_zero, List.set_cons_succ]
      refine wpAnyH_take (i := 23) (oi := ?o2025) (v := ?v2025) ?hi2025 (by kernel_rfl) (by kernel_rfl) (by kernel_rfl) ?hQ2025 (Or.inl ⟨?hg2025, ?hy2025⟩) (by assumption) ?rest2025
      case hi2025 => (simp only [List.getElem?_toArray, List.getElem?_cons_zero, List.getElem?_cons_succ]; exact rfl)
      case hQ2025 => exact fun _ _ _ h => h
      case hg2025 => rfl
      case hy2025 => (intro w' hSw; (try dsimp only at hSw); go_simp; try with_reducible rfl)
      try simp only [Act.put, List.setIfInBounds_toArray, List.set_cons_zero, List.set_cons_succ]
      refine wpAnyH_done (by kernel_rfl) ?_ _
      go_wp2
      go_ret
      exact ⟨rfl, X.out.1⟩
    · have hv1 := hv.out.1.trans h1
      obtain rfl : er = 2 := hv.out.2.trans h2
      unfold Ev.zero at hv1
      simp only [Ev.E.mk.injEq] at hv1
      obtain ⟨rfl, rfl, rfl, rfl, rfl, rfl, rfl, rfl⟩ := hv1
      clear h1 h2 hv GC GA PA nq IA GP2 PL CB AW HL hm u0 u1 CVB GB
      have zq := ZQ.out
      obtain ⟨c0, c1, c2, c3, c4, c5, c6, c7⟩ := ob8 E9.out
      go_quiet (fail)
      go_wp2
      go_ret
      exact ⟨rfl, ⟨B9.out.os, B9.out.tape, B9.out.output, B9.out.size, B9.out.block⟩⟩
  have hG := IA.out.1 rfl
  have pl := PL.out hG
  have gp := GP2.out hG
  have CB2 := Lib.hid (CB.out hG)
  have YL : Hid (ys.length = pe.length) := Lib.hid (by rw [hy.out])
  have ylen := YL.out
  have pl1 : 1 ≤ (ys.length : Int) := by omega
  have pl2 : (ys.length : Int) ≤ 1000 := by omega
  have GE := Lib.hid (get_p A1 ys cap1 O3.out.cap_ (by omega) w3 (FF.out _ X3.out.b).s O3.out.bytes)
  clear hG ylen
  go_wp2_with fail
  (with_reducible refine GE.out.mono ?_); rintro e w4 ⟨k', r', t', y', n', na', ke', da', er, rfl, hv, b4⟩
  have h1 : (⟨k', r', t', y', n', na', ke', da'⟩ : Ev.E) = ⟨k, r, t, y, n, na, ke, da⟩ := by rw [hv.out.1, hy.out]; exact gp.1
  have h2 : er = 0 := by rw [hv.out.2, hy.out]; exact gp.2
  simp only [Ev.E.mk.injEq] at h1
  obtain ⟨rfl, rfl, rfl, rfl, rfl, rfl, rfl, rfl⟩ := h1
  subst h2
  have X4 := Lib.hid (X3.out.more b4.out)
  have O4 := Lib.hid (O3.out.grew b4.out (Nat.le_refl _))
  clear X3 O3 b4 hv gp GE
  go_upto_region 8 with fail
  obtain ⟨g2, hg2⟩ : ∃ g2, g2 = w4.heap.size := ⟨_, rfl⟩
  obtain ⟨W5, hW5⟩ : ∃ W5, W5 = w4.alloc (.cells #[.int .i64 k', .int .i64 r', .int .i64 t', .int .i64 y', .int .i64 n', .string na', .string ke', .string da'] 24) := ⟨_, rfl⟩
  have Y5 : Hid (W5.heap[g2]? = some (.cells #[.int .i64 k', .int .i64 r', .int .i64 t', .int .i64 y', .int .i64 n', .string na', .string ke', .string da'] 24 (0, 0))) := Lib.hid (by rw [hW5, hg2]; exact heap_alloc_new w4 _)
  have BB : Below w4.heap.size w4 W5 := by rw [hW5]; exact (Below.refl _ _).alloc (Nat.le_refl _) _
  have X5 := Lib.hid (X4.out.more BB)
  have O5 := Lib.hid (O4.out.grew BB (Nat.le_refl _))
  rw [← hW5, ← hg2]
  clear hW5 hg2 X4 O4 BB
  obtain ⟨c0, c1, c2, c3, c4, c5, c6, c7⟩ := X5.out.plain
  obtain ⟨d0, d1, d2, d3, d4, d5, d6, d7⟩ := ob8 Y5.out
  have nq' := nq.out
  have pn : ¬ (ys.length : Int) = 0 := by omega
  have pn2 : ¬ ys.length = 0 := by omega
  have pn3 : decide ((1024 : Int) < (ys.length : Int)) = false := decide_eq_false (by omega)
  by_cases hc : 0 ≤ cut ∧ cut < (ys.length : Int)
  · obtain ⟨hc0, hc1⟩ := hc
    obtain ⟨c, rfl⟩ : ∃ c : Nat, cut = (c : Int) := ⟨cut.toNat, by omega⟩
    have hcl : c < ys.length := by omega
    have SL := Lib.hid (fun W => slice_to A1 ys.length cap1 c (by have := O5.out.cap_; omega) .i64 W)
    have sl := SL.out
    have TL : (ys.take c).length = c := by rw [List.length_take]; omega
    have GE2 := Lib.hid (get_p A1 (ys.take c) cap1 (by rw [TL]; have := O5.out.cap_; omega) (by rw [TL]; omega) W5 (FF.out _ X5.out.b).s (O5.out.bytes.head c))
    rw [TL] at GE2
    have cb := CB2.out c (by have := YL.out; omega)
    rw [← hy.out] at cb
    go_wp2_with fail
    (with_reducible refine GE2.out.mono ?_); rintro e w6 ⟨k2, r2, t2, y2, n2, na2, ke2, da2, er, rfl, hv, b6⟩
    obtain rfl : er = 2 := hv.out.2.trans cb
    have B6 := Lib.hid (X5.out.b.trans (b6.out.mono X5.out.b.size))
    have B7 : Hid (Below w.heap.size w (w6.alloc (.cells #[.int .i64 k2, .int .i64 r2, .int .i64 t2, .int .i64 y2, .int .i64 n2, .string na2, .string ke2, .string da2] 24))) := Lib.hid (B6.out.alloc B6.out.size _)
    clear hv b6 B6 GE2 SL sl TL cb c0 c1 c2 c3 c4 c5 c6 c7 d0 d1 d2 d3 d4 d5 d6 d7 nq'
    go_upto_region 14 with fail
    go_wp2_with fail
    (with_reducible refine (GB.out _ B7.out).mono ?_); rintro e v2 ⟨k', r', t', y', n', na', ke', da', er, rfl, hv, b5⟩
    have B5 := Lib.hid (Below.trans B7.out (b5.out.mono (Below.size B7.out)))
    go_upto_region 15 with fail
    obtain ⟨g9, hg9⟩ : ∃ g9, g9 = v2.heap.size := ⟨_, rfl⟩
    obtain ⟨W9, hW9⟩ : ∃ W9, W9 = World.alloc v2 (.cells #[.int .i64 k', .int .i64 r', .int .i64 t', .int .i64 y', .int .i64 n', .string na', .string ke', .string da'] 24) := ⟨_, rfl⟩
    have E9 : Hid (W9.heap[g9]? = some (.cells #[.int .i64 k', .int .i64 r', .int .i64 t', .int .i64 y', .int .i64 n', .string na', .string ke', .string da'] 24 (0, 0))) := Lib.hid (by rw [hW9, hg9]; exact heap_alloc_new _ _)
    have B9 : Hid (Below w.heap.size w W9) := Lib.hid (by rw [hW9]; exact B5.out.alloc B5.out.size _)
    rw [← hW9, ← hg9]
    clear hW9 hg9 B5 b5
    rcases GC.out with ⟨x, hX, hz, h1, h2⟩ | ⟨h1, h2⟩
    · have hv1 := hv.out.1.trans h1
      obtain rfl : er = 0 := hv.out.2.trans h2
      subst hv1
      have GY := Lib.hid (good_p _ hX.evin)
      rw [Ev.good_iff.2 hX] at GY
      have PY := Lib.hid (put_p _ hX.evin)
      rw [← hz] at PY
      change Hid (∀ W, FactsS W → Calls _ _ #[.agg #[.int .i64 k', .int .i64 r', .int .i64 t', .int .i64 y', .int .i64 n', .string na', .string ke', .string da']] W _) at GY
      change Hid (∀ W, FactsS W → Calls _ _ #[.agg #[.int .i64 k', .int .i64 r', .int .i64 t', .int .i64 y', .int .i64 n', .string na', .string ke', .string da']] W _) at PY
      clear hX hz h1 h2 hv GC GA PA nq ZQ IA GP2 PL CB AW HL hm u0 u1
      have X : Hid (Below w.heap.size w W9.drew ∧ W9.drew.heap[g9]? = some (.cells #[.int .i64 k', .int .i64 r', .int .i64 t', .int .i64 y', .int .i64 n', .string na', .string ke', .string da'] 24 (0, 0))) := Lib.hid ⟨B9.out.drew, E9.out⟩
      clear B9 E9
      have ST : Hid (∀ W, Below w.heap.size w W ∧ W.heap[g9]? = some (.cells #[.int .i64 k', .int .i64 r', .int .i64 t', .int .i64 y', .int .i64 n', .string na', .string ke', .string da'] 24 (0, 0)) → (W.cell? ⟨g9, 0, none⟩ = some (.int .i64 k') ∧ W.cell? ⟨g9, 1, none⟩ = some (.int .i64 r') ∧ W.cell? ⟨g9, 2, none⟩ = some (.int .i64 t') ∧ W.cell? ⟨g9, 3, none⟩ = some (.int .i64 y') ∧ W.cell? ⟨g9, 4, none⟩ = some (.int .i64 n') ∧ W.cell? ⟨g9, 5, none⟩ = some (.string na') ∧ W.cell? ⟨g9, 6, none⟩ = some (.string ke') ∧ W.cell? ⟨g9, 7, none⟩ = some (.string da')) ∧ (convert 27 9 (.slice A zs.length cap)).run Tryd.prog W = .ok (.string (strOfNums zs)) W) := Lib.hid fun W h => ⟨ob8 h.2, CVB.out W h.1⟩
      have MO : Hid (∀ W W', Below w.heap.size w W ∧ W.heap[g9]? = some (.cells #[.int .i64 k', .int .i64 r', .int .i64 t', .int .i64 y', .int .i64 n', .string na', .string ke', .string da'] 24 (0, 0)) → Below W.heap.size W W' → Below w.heap.size w W' ∧ W'.heap[g9]? = some (.cells #[.int .i64 k', .int .i64 r', .int .i64 t', .int .i64 y', .int .i64 n', .string na', .string ke', .string da'] 24 (0, 0))) := Lib.hid fun W W' h h2 => ⟨h.1.trans (h2.mono h.1.size), (h2.block _ (lt_of_block h.2)).trans h.2⟩
      obtain ⟨sb, hsb⟩ : ∃ sb, sb = strOfNums zs := ⟨_, rfl⟩
      rw [← hsb] at ST
      have SB := Lib.hid hsb
      clear hsb CVB
      refine wp_region_held_drew (S := fun w' => (w'.cell? ⟨g9, 0, none⟩ = some (.int .i64 k') ∧ w'.cell? ⟨g9, 1, none⟩ = some (.int .i64 r') ∧ w'.cell? ⟨g9, 2, none⟩ = some (.int .i64 t') ∧ w'.cell? ⟨g9, 3, none⟩ = some (.int .i64 y') ∧ w'.cell? ⟨g9, 4, none⟩ = some (.int .i64 n') ∧ w'.cell? ⟨g9, 5, none⟩ = some (.string na') ∧ w'.cell? ⟨g9, 6, none⟩ = some (.string ke') ∧ w'.cell? ⟨g9, 7, none⟩ = some (.string da')) ∧ (convert 27 9 (.slice A zs.length cap)).run Tryd.prog w' = .ok (.string sb) w') (by kernel_rfl) ?hS2026 (fun hHeld => ?_)
      case hS2026 => exact ST.out _ X.out
      refine wpAnyH_take (i := 0) (oi := ?o2027) (v := ?v2027) ?hi2027 (by kernel_rfl) (by kernel_rfl) (by kernel_rfl) ?hQ2027 (Or.inl ⟨?hg2027, ?hy2027⟩) (by assumption) ?rest2027
      case hi2027 => (simp only [List.getElem?_toArray, List.getElem?_cons_zero]; exact rfl)
      case hQ2027 => exact fun _ _ _ h => h
      case hg2027 => rfl
      case hy2027 => (intro w' hSw; (try dsimp only at hSw); go_simp; try with_reducible rfl)
      try simp only [Act.put, List.setIfInBounds_toArray, List.set_cons_zero, List.set_cons_succ]
      refine wpAnyH_take (i := 1) (oi := ?o2028) (v := ?v2028) ?hi2028 (by kernel_rfl) (by kernel_rfl) (by kernel_rfl) ?hQ2028 (Or.inl ⟨?hg2028, ?hy2028⟩) (by assumption) ?rest2028
      case hi2028 => (simp only [List.getElem?_toArray, List.getElem?_cons_zero, List.getElem?_cons_succ]; exact rfl)
      case hQ2028 => exact fun _ _ _ h => h
      case hg2028 => rfl
      case hy2028 => (intro w' hSw; (try dsimp only at hSw); go_simp; try with_reducible rfl)
      try simp only [Act.put, List.setIfInBounds_toArray, List.set_cons_zero, List.set_cons_succ]
      refine wpAnyH_take (i := 2) (oi := ?o2029) (v := ?v2029) ?hi2029 (by kernel_rfl) (by kernel_rfl) (by kernel_rfl) ?hQ2029 (Or.inl ⟨?hg2029, ?hy2029⟩) (by assumption) ?rest2029
      case hi2029 => (simp only [List.getElem?_toArray, List.getElem?_cons_zero, List.getElem?_cons_succ]; exact rfl)
      case hQ2029 => exact fun _ _ _ h => h
      case hg2029 => rfl
      case hy2029 => (intro w' hSw; (try dsimp only at hSw); go_simp; try with_reducible rfl)
      try simp only [Act.put, List.setIfInBounds_toArray, List.set_cons_zero, List.set_cons_succ]
      refine wpAnyH_take (i := 3) (oi := ?o2030) (v := undef) ?hi2030 (by kernel_rfl) (by kernel_rfl) (by kernel_rfl) ?hQ2030 (Or.inr ⟨?hg2030, rfl⟩) (by assumption) ?rest2030
      case hi2030 => (simp only [List.getElem?_toArray, List.getElem?_cons_zero, List.getElem?_cons_succ]; exact rfl)
      case hQ2030 => exact fun _ _ _ h => h
      case hg2030 => rfl
      try simp only [Act.put, List.setIfInBounds_toArray, List.set_cons_zero, List.set_cons_succ]
      refine wpAnyH_take (i := 4) (oi := ?o2031) (v := undef) ?hi2031 (by kernel_rfl) (by kernel_rfl) (by kernel_rfl) ?hQ2031 (Or.inr ⟨?hg2031, rfl⟩) (by assumption) ?rest2031
      case hi2031 => (simp only [List.getElem?_toArray, List.getElem?_cons_zero, List.getElem?_cons_succ]; exact rfl)
      case hQ2031 => exact fun _ _ _ h => h
      case hg2031 => rfl
      try simp only [Act.put, List.setIfInBounds_toArray, List.set_cons_zero, List.set_cons_succ]
      refine wpAnyH_take (i := 5) (oi := ?o2032) (v := undef) ?hi2032 (by kernel_rfl) (by kernel_rfl) (by kernel_rfl) ?hQ2032 (Or.inr ⟨?hg2032, rfl⟩) (by assumption) ?rest2032
      case hi2032 => (simp only [List.getElem?_toArray, List.getElem?_cons_zero, List.getElem?_cons_succ]; exact rfl)
      case hQ2032 => exact fun _ _ _ h => h
      case hg2032 => rfl
      try simp only [Act.put, List.setIfInBounds_toArray, List.set_cons_zero, List.set_cons_succ]
      refine wpAnyH_take (i := 6) (oi := ?o2033) (v := ?v2033) ?hi2033 (by kernel_rfl) (by kernel_rfl) (by kernel_rfl) ?hQ2033 (Or.inl ⟨?hg2033, ?hy2033⟩) (by assumption) ?rest2033
      case hi2033 => (simp only [List.getElem?_toArray, List.getElem?_cons_zero, List.getElem?_cons_succ]; exact rfl)
      case hQ2033 => exact fun _ _ _ h => h
      case hg2033 => rfl
      case hy2033 => (intro w' hSw; (try dsimp only at hSw); go_simp; try with_reducible rfl)
      try simp only [Act.put, List.setIfInBounds_toArray, List.set_cons_zero, List.set_cons_succ]
      refine wpAnyH_take (i := 7) (oi := ?o2034) (v := ?v2034) ?hi2034 (by kernel_rfl) (by kernel_rfl) (by kernel_rfl) ?hQ2034 (Or.inl ⟨?hg2034, ?hy2034⟩) (by assumption) ?rest2034
      case hi2034 => (simp only [List.getElem?_toArray, List.getElem?_cons_zero, List.getElem?_cons_succ]; exact rfl)
      case hQ2034 => exact fun _ _ _ h => h
      case hg2034 => rfl
      case hy2034 => (intro w' hSw; (try dsimp only at hSw); go_simp; try with_reducible rfl)
      try simp only [Act.put, List.setIfInBounds_toArray, List.set_cons_zero, List.set_cons_succ]
      refine wpAnyH_take (i := 8) (oi := ?o2035) (v := ?v2035) ?hi2035 (by kernel_rfl) (by kernel_rfl) (by kernel_rfl) ?hQ2035 (Or.inl ⟨?hg2035, ?hy2035⟩) (by assumption) ?rest2035
      case hi2035 => (simp only [List.getElem?_toArray, List.getElem?_cons_zero, List.getElem?_cons_succ]; exact rfl)
      case hQ2035 => exact fun _ _ _ h => h
      case hg2035 => rfl
      case hy2035 => (intro w' hSw; (try dsimp only at hSw); go_simp; try with_reducible rfl)
      try simp only [Act.put, List.setIfInBounds_toArray, List.set_cons_zero, List.set_cons_succ]
      refine wpAnyH_take (i := 9) (oi := ?o2036) (v := ?v2036) ?hi2036 (by kernel_rfl) (by kernel_rfl) (by kernel_rfl) ?hQ2036 (Or.inl ⟨?hg2036, ?hy2036⟩) (by assumption) ?rest2036
      case hi2036 => (simp only [List.getElem?_toArray, List.getElem?_cons_zero, List.getElem?_cons_succ]; exact rfl)
      case hQ2036 => exact fun _ _ _ h => h
      case hg2036 => rfl
      case hy2036 => (intro w' hSw; (try dsimp only at hSw); go_simp; try with_reducible rfl)
      try simp only [Act.put, List.setIfInBounds_toArray, List.set_cons_zero, List.set_cons_succ]
      refine wpAnyH_take (i := 10) (oi := ?o2037) (v := ?v2037) ?hi2037 (by kernel_rfl) (by kernel_rfl) (by kernel_rfl) ?hQ2037 (Or.inl ⟨?hg2037, ?hy2037⟩) (by assumption) ?rest2037
      case hi2037 => (simp only [List.getElem?_toArray, List.getElem?_cons_zero, List.getElem?_cons_succ]; exact rfl)
      case hQ2037 => exact fun _ _ _ h => h
      case hg2037 => rfl
      case hy2037 => (intro w' hSw; (try dsimp only at hSw); go_simp; try with_reducible rfl)
      try simp only [Act.put, List.setIfInBounds_toArray, List.set_cons_zero, List.set_cons_succ]
      refine wpAnyH_take (i := 11) (oi := ?o2038) (v := ?v2038) ?hi2038 (by kernel_rfl) (by kernel_rfl) (by kernel_rfl) ?hQ2038 (Or.inl ⟨?hg2038, ?hy2038⟩) (by assumption) ?rest2038
      case hi2038 => (simp only [List.getElem?_toArray, List.getElem?_cons_zero, List.getElem?_cons_succ]; exact rfl)
      case hQ2038 => exact fun _ _ _ h => h
      case hg2038 => rfl
      case hy2038 => (intro w' hSw; (try dsimp only at hSw); go_simp; try with_reducible rfl)
      try simp only [Act.put, List.setIfInBounds_toArray, List.set_cons_zero, List.set_cons_succ]
      refine wpAnyH_ready (rs := [12]) (by kernel_rfl) (by simp) ?_
      refine AllReadyH.cons (o := ?o2039) ?hi2039 (fun K hK => ?_) AllReadyH.nil
      case hi2039 => (simp only [List.getElem?_toArray, List.getElem?_cons_zero, List.getElem?_cons_succ]; exact rfl)
      (go_simp; go_at_call 8; (with_reducible refine (GY.out _ (FF.out _ X.out.1).s).mono ?_); rintro e w7 ⟨rfl, b7⟩; try dsimp only)
      have X := Lib.hid (MO.out _ _ X.out b7)
      refine hK.out _ _ ?_ (fun hHeld => ?_)
      · exact ST.out _ X.out
      clear hK K
      try simp only [Act.put, List.setIfInBounds_toArray, List.set_cons_zero, List.set_cons_succ]
      refine wpAnyH_take (i := 13) (oi := ?o2040) (v := ?v2040) ?hi2040 (by kernel_rfl) (by kernel_rfl) (by kernel_rfl) ?hQ2040 (Or.inl ⟨?hg2040, ?hy2040⟩) (by assumption) ?rest2040
      case hi2040 => (simp only [List.getElem?_toArray, List.getElem?_cons_zero, List.getElem?_cons_succ]; exact rfl)
      case hQ2040 => exact fun _ _ _ h => h
      case hg2040 => rfl
      case hy2040 => (intro w' hSw; (try dsimp only at hSw); go_simp; try with_reducible rfl)
      try simp only [Act.put, List.setIfInBounds_toArray, List.set_cons_zero, List.set_cons_succ]
      refine wpAnyH_take (i := 14) (oi := ?o2041) (v := ?v2041) ?hi2041 (by kernel_rfl) (by kernel_rfl) (by kernel_rfl) ?hQ2041 (Or.inl ⟨?hg2041, ?hy2041⟩) (by assumption) ?rest2041
      case hi2041 => (simp only [List.getElem?_toArray, List.getElem?_cons_zero, List.getElem?_cons_succ]; exact rfl)
      case hQ2041 => exact fun _ _ _ h => h
      case hg2041 => rfl
      case hy2041 => (intro w' hSw; (try dsimp only at hSw); go_simp; try with_reducible rfl)
      try simp only [Act.put, List.setIfInBounds_toArray, List.set_cons_zero, List.set_cons_succ]
      refine wpAnyH_take (i := 15) (oi := ?o2042) (v := ?v2042) ?hi2042 (by kernel_rfl) (by kernel_rfl) (by kernel_rfl) ?hQ2042 (Or.inl ⟨?hg2042, ?hy2042⟩) (by assumption) ?rest2042
      case hi2042 => (simp only [List.getElem?_toArray, List.getElem?_cons_zero, List.getElem?_cons_succ]; exact rfl)
      case hQ2042 => exact fun _ _ _ h => h
      case hg2042 => rfl
      case hy2042 => (intro w' hSw; (try dsimp only at hSw); go_simp; try with_reducible rfl)
      try simp only [Act.put, List.setIfInBounds_toArray, List.set_cons_zero, List.set_cons_succ]
      refine wpAnyH_take (i := 18) (oi := ?o2043) (v := ?v2043) ?hi2043 (by kernel_rfl) (by kernel_rfl) (by kernel_rfl) ?hQ2043 (Or.inl ⟨?hg2043, ?hy2043⟩) (by assumption) ?rest2043
      case hi2043 => (simp only [List.getElem?_toArray, List.getElem?_cons_zero, List.getElem?_cons_succ]; exact rfl)
      case hQ2043 => exact fun _ _ _ h => h
      case hg2043 => rfl
      case hy2043 => (intro w' hSw; (try dsimp only at hSw); go_simp; try with_reducible rfl)
      try simp only [Act.put, List.setIfInBounds_toArray, List.set_cons_zero, List.set_cons_succ]
      refine wpAnyH_take (i := 19) (oi := ?o2044) (v := ?v2044) ?hi2044 (by kernel_rfl) (by kernel_rfl) (by kernel_rfl) ?hQ2044 (Or.inl ⟨?hg2044, ?hy2044⟩) (by assumption) ?rest2044
      case hi2044 => (simp only [List.getElem?_toArray, List.getElem?_cons_zero, List.getElem?_cons_succ]; exact rfl)
      case hQ2044 => exact fun _ _ _ h => h
      case hg2044 => rfl
      case hy2044 => (intro w' hSw; (try dsimp only at hSw); go_simp; try with_reducible rfl)
      try simp only [Act.put, List.setIfInBounds_toArray, List.set_cons_zero, List.set_cons_succ]
      refine wpAnyH_ready (rs := [16]) (by kernel_rfl) (by simp) ?_
      refine AllReadyH.cons (o := ?o2045) ?hi2045 (fun K hK => ?_) AllReadyH.nil
      case hi2045 => (simp only [List.getElem?_toArray, List.getElem?_cons_zero, List.getElem?_cons_succ]; exact rfl)
      (go_simp; go_at_call 9; (with_reducible refine (PY.out _ (FF.out _ X.out.1).s).mono ?_); rintro e w8 ⟨ps, A8, c8, hp, rfl, o8, g8⟩; try dsimp only)
      have X := Lib.hid (MO.out _ _ X.out g8.out.below)
      refine hK.out _ _ ?_ (fun hHeld => ?_)
      · exact ST.out _ X.out
      clear hK K
      try simp only [Act.put, List.setIfInBounds_toArray, List.set_cons_zero, List.set_cons_succ]
      refine wpAnyH_strong (S' := fun w' => ((w'.cell? ⟨g9, 0, none⟩ = some (.int .i64 k') ∧ w'.cell? ⟨g9, 1, none⟩ = some (.int .i64 r') ∧ w'.cell? ⟨g9, 2, none⟩ = some (.int .i64 t') ∧ w'.cell? ⟨g9, 3, none⟩ = some (.int .i64 y') ∧ w'.cell? ⟨g9, 4, none⟩ = some (.int .i64 n') ∧ w'.cell? ⟨g9, 5, none⟩ = some (.string na') ∧ w'.cell? ⟨g9, 6, none⟩ = some (.string ke') ∧ w'.cell? ⟨g9, 7, none⟩ = some (.string da')) ∧ (convert 27 9 (.slice A zs.length cap)).run Tryd.prog w' = .ok (.string sb) w') ∧ (convert 27 9 (.slice A8 ps.length c8)).run Tryd.prog w' = .ok (.string sb) w') (fun _ h => h.1) ?_
      have cv8 := o8.out.conv hp.out
      rw [← SB.out] at cv8
      have hS8 := And.intro hHeld cv8
      refine wpAnyH_take (i := 17) (oi := ?o2046) (v := ?v2046) ?hi2046 (by kernel_rfl) (by kernel_rfl) (by kernel_rfl) ?hQ2046 (Or.inl ⟨?hg2046, ?hy2046⟩) (by assumption) ?rest2046
      case hi2046 => (simp only [List.getElem?_toArray, List.getElem?_cons_zero, List.getElem?_cons_succ]; exact rfl)
      case hQ2046 => exact fun _ _ _ h => h
      case hg2046 => rfl
      case hy2046 => (intro w' hSw; (try dsimp only at hSw); go_simp; try with_reducible rfl)
      try simp only [Act.put, List.setIfInBounds_toArray, List.set_cons_zero, List.set_cons_succ]
      refine wpAnyH_take (i := 20) (oi := ?o2047) (v := ?v2047) ?hi2047 (by kernel_rfl) (by kernel_rfl) (by kernel_rfl) ?hQ2047 (Or.inl ⟨?hg2047, ?hy2047⟩) (by assumption) ?rest2047
      case hi2047 => (simp only [List.getElem?_toArray, List.getElem?_cons_zero, List.getElem?_cons_succ]; exact rfl)
      case hQ2047 => exact fun _ _ _ h => h
      case hg2047 => rfl
      case hy2047 => (intro w' hSw; (try dsimp only at hSw); go_simp; try with_reducible rfl)
      try simp only [Act.put, List.setIfInBounds_toArray, List.set_cons_zero, List.set_cons_succ]
      refine wpAnyH_take (i := 21) (oi := ?o2048) (v := ?v2048) ?hi2048 (by kernel_rfl) (by kernel_rfl) (by kernel_rfl) ?hQ2048 (Or.inl ⟨?hg2048, ?hy2048⟩) (by assumption) ?rest2048
      case hi2048 => (simp only [List.getElem?_toArray, List.getElem?_cons_zero, List.getElem?_cons_succ]; exact rfl)
      case hQ2048 => exact fun _ _ _ h => h
      case hg2048 => rfl
      case hy2048 => (intro w' hSw; (try dsimp only at hSw); go_simp; try with_reducible rfl)
      try simp only [Act.put, List.setIfInBounds_toArray, List.set_cons_zero, List.set_cons_succ]
      refine wpAnyH_take (i := 22) (oi := ?o2049) (v := ?v2049) ?hi2049 (by kernel_rfl) (by kernel_rfl) (by kernel_rfl) ?hQ2049 (Or.inl ⟨?hg2049, ?hy2049⟩) (by assumption) ?rest2049
      case hi2049 => (simp only [List.getElem?_toArray, List.getElem?_cons_zero, List.getElem?_cons_succ]; exact rfl)
      case hQ2049 => exact fun _ _ _ h => h
      case hg2049 => rfl
      case hy2049 => (intro w' hSw; (try dsimp only at hSw); go_simp; try with_reducible rfl)
      try simp only [Act.put, List.setIfInBounds_toArray, List.set_cons_zero, List.set_cons_succ]
      refine wpAnyH_take (i := 23) (oi := ?o2050) (v := ?v2050) ?hi2050 (by kernel_rfl) (by kernel_rfl) (by kernel_rfl) ?hQ2050 (Or.inl ⟨?hg2050, ?hy2050⟩) (by assumption) ?rest2050
      case hi2050 => (simp only [List.getElem?_toArray, List.getElem?_cons_zero, List.getElem?_cons_succ]; exact rfl)
      case hQ2050 => exact fun _ _ _ h => h
      case hg2050 => rfl
      case hy2050 => (intro w' hSw; (try dsimp only at hSw); go_simp; try with_reducible rfl)
      try simp only [Act.put, List.setIfInBounds_toArray, List.set_cons_zero, List.set_cons_succ]
      refine wpAnyH_done (by kernel_rfl) ?_ _
      go_wp2
      go_ret
      exact ⟨rfl, X.out.1⟩
    · have hv1 := hv.out.1.trans h1
      obtain rfl : er = 2 := hv.out.2.trans h2
      unfold Ev.zero at hv1
      simp only [Ev.E.mk.injEq] at hv1
      obtain ⟨rfl, rfl, rfl, rfl, rfl, rfl, rfl, rfl⟩ := hv1
      clear h1 h2 hv GC GA PA nq IA GP2 PL CB AW HL hm u0 u1 CVB GB
      have zq := ZQ.out
      obtain ⟨c0, c1, c2, c3, c4, c5, c6, c7⟩ := ob8 E9.out
      go_quiet (fail)
      go_wp2
      go_ret
      exact ⟨rfl, ⟨B9.out.os, B9.out.tape, B9.out.output, B9.out.size, B9.out.block⟩⟩
  · have st := 0
    clear st
    rcases (show cut < 0 ∨ (0 ≤ cut ∧ (ys.length : Int) ≤ cut) by omega) with hc2 | ⟨hc2, hc3⟩
    · clear hc
      go_upto_region 14 with fail
      go_wp2_with fail
      (with_reducible refine (GB.out _ X5.out.b).mono ?_); rintro e v3 ⟨k', r', t', y', n', na', ke', da', er, rfl, hv, b5⟩
      have B5 := Lib.hid (Below.trans X5.out.b (b5.out.mono (Below.size X5.out.b)))
      go_upto_region 15 with fail
      obtain ⟨g9, hg9⟩ : ∃ g9, g9 = v3.heap.size := ⟨_, rfl⟩
      obtain ⟨W9, hW9⟩ : ∃ W9, W9 = World.alloc v3 (.cells #[.int .i64 k', .int .i64 r', .int .i64 t', .int .i64 y', .int .i64 n', .string na', .string ke', .string da'] 24) := ⟨_, rfl⟩
      have E9 : Hid (W9.heap[g9]? = some (.cells #[.int .i64 k', .int .i64 r', .int .i64 t', .int .i64 y', .int .i64 n', .string na', .string ke', .string da'] 24 (0, 0))) := Lib.hid (by rw [hW9, hg9]; exact heap_alloc_new _ _)
      have B9 : Hid (Below w.heap.size w W9) := Lib.hid (by rw [hW9]; exact B5.out.alloc B5.out.size _)
      rw [← hW9, ← hg9]
      clear hW9 hg9 B5 b5
      rcases GC.out with ⟨x, hX, hz, h1, h2⟩ | ⟨h1, h2⟩
      · have hv1 := hv.out.1.trans h1
        obtain rfl : er = 0 := hv.out.2.trans h2
        subst hv1
        have GY := Lib.hid (good_p _ hX.evin)
        rw [Ev.good_iff.2 hX] at GY
        have PY := Lib.hid (put_p _ hX.evin)
        rw [← hz] at PY
        change Hid (∀ W, FactsS W → Calls _ _ #[.agg #[.int .i64 k', .int .i64 r', .int .i64 t', .int .i64 y', .int .i64 n', .string na', .string ke', .string da']] W _) at GY
        change Hid (∀ W, FactsS W → Calls _ _ #[.agg #[.int .i64 k', .int .i64 r', .int .i64 t', .int .i64 y', .int .i64 n', .string na', .string ke', .string da']] W _) at PY
        clear hX hz h1 h2 hv GC GA PA nq ZQ IA GP2 PL CB AW HL hm u0 u1
        have X : Hid (Below w.heap.size w W9.drew ∧ W9.drew.heap[g9]? = some (.cells #[.int .i64 k', .int .i64 r', .int .i64 t', .int .i64 y', .int .i64 n', .string na', .string ke', .string da'] 24 (0, 0))) := Lib.hid ⟨B9.out.drew, E9.out⟩
        clear B9 E9
        have ST : Hid (∀ W, Below w.heap.size w W ∧ W.heap[g9]? = some (.cells #[.int .i64 k', .int .i64 r', .int .i64 t', .int .i64 y', .int .i64 n', .string na', .string ke', .string da'] 24 (0, 0)) → (W.cell? ⟨g9, 0, none⟩ = some (.int .i64 k') ∧ W.cell? ⟨g9, 1, none⟩ = some (.int .i64 r') ∧ W.cell? ⟨g9, 2, none⟩ = some (.int .i64 t') ∧ W.cell? ⟨g9, 3, none⟩ = some (.int .i64 y') ∧ W.cell? ⟨g9, 4, none⟩ = some (.int .i64 n') ∧ W.cell? ⟨g9, 5, none⟩ = some (.string na') ∧ W.cell? ⟨g9, 6, none⟩ = some (.string ke') ∧ W.cell? ⟨g9, 7, none⟩ = some (.string da')) ∧ (convert 27 9 (.slice A zs.length cap)).run Tryd.prog W = .ok (.string (strOfNums zs)) W) := Lib.hid fun W h => ⟨ob8 h.2, CVB.out W h.1⟩
        have MO : Hid (∀ W W', Below w.heap.size w W ∧ W.heap[g9]? = some (.cells #[.int .i64 k', .int .i64 r', .int .i64 t', .int .i64 y', .int .i64 n', .string na', .string ke', .string da'] 24 (0, 0)) → Below W.heap.size W W' → Below w.heap.size w W' ∧ W'.heap[g9]? = some (.cells #[.int .i64 k', .int .i64 r', .int .i64 t', .int .i64 y', .int .i64 n', .string na', .string ke', .string da'] 24 (0, 0))) := Lib.hid fun W W' h h2 => ⟨h.1.trans (h2.mono h.1.size), (h2.block _ (lt_of_block h.2)).trans h.2⟩
        obtain ⟨sb, hsb⟩ : ∃ sb, sb = strOfNums zs := ⟨_, rfl⟩
        rw [← hsb] at ST
        have SB := Lib.hid hsb
        clear hsb CVB
        refine wp_region_held_drew (S := fun w' => (w'.cell? ⟨g9, 0, none⟩ = some (.int .i64 k') ∧ w'.cell? ⟨g9, 1, none⟩ = some (.int .i64 r') ∧ w'.cell? ⟨g9, 2, none⟩ = some (.int .i64 t') ∧ w'.cell? ⟨g9, 3, none⟩ = some (.int .i64 y') ∧ w'.cell? ⟨g9, 4, none⟩ = some (.int .i64 n') ∧ w'.cell? ⟨g9, 5, none⟩ = some (.string na') ∧ w'.cell? ⟨g9, 6, none⟩ = some (.string ke') ∧ w'.cell? ⟨g9, 7, none⟩ = some (.string da')) ∧ (convert 27 9 (.slice A zs.length cap)).run Tryd.prog w' = .ok (.string sb) w') (by kernel_rfl) ?hS2051 (fun hHeld => ?_)
        case hS2051 => exact ST.out _ X.out
        refine wpAnyH_take (i := 0) (oi := ?o2052) (v := ?v2052) ?hi2052 (by kernel_rfl) (by kernel_rfl) (by kernel_rfl) ?hQ2052 (Or.inl ⟨?hg2052, ?hy2052⟩) (by assumption) ?rest2052
        case hi2052 => (simp only [List.getElem?_toArray, List.getElem?_cons_zero]; exact rfl)
        case hQ2052 => exact fun _ _ _ h => h
        case hg2052 => rfl
        case hy2052 => (intro w' hSw; (try dsimp only at hSw); go_simp; try with_reducible rfl)
        try simp only [Act.put, List.setIfInBounds_toArray, List.set_cons_zero, List.set_cons_succ]
        refine wpAnyH_take (i := 1) (oi := ?o2053) (v := ?v2053) ?hi2053 (by kernel_rfl) (by kernel_rfl) (by kernel_rfl) ?hQ2053 (Or.inl ⟨?hg2053, ?hy2053⟩) (by assumption) ?rest2053
        case hi2053 => (simp only [List.getElem?_toArray, List.getElem?_cons_zero, List.getElem?_cons_succ]; exact rfl)
        case hQ2053 => exact fun _ _ _ h => h
        case hg2053 => rfl
        case hy2053 => (intro w' hSw; (try dsimp only at hSw); go_simp; try with_reducible rfl)
        try simp only [Act.put, List.setIfInBounds_toArray, List.set_cons_zero, List.set_cons_succ]
        refine wpAnyH_take (i := 2) (oi := ?o2054) (v := ?v2054) ?hi2054 (by kernel_rfl) (by kernel_rfl) (by kernel_rfl) ?hQ2054 (Or.inl ⟨?hg2054, ?hy2054⟩) (by assumption) ?rest2054
        case hi2054 => (simp only [List.getElem?_toArray, List.getElem?_cons_zero, List.getElem?_cons_succ]; exact rfl)
        case hQ2054 => exact fun _ _ _ h => h
        case hg2054 => rfl
        case hy2054 => (intro w' hSw; (try dsimp only at hSw); go_simp; try with_reducible rfl)
        try simp only [Act.put, List.setIfInBounds_toArray, List.set_cons_zero, List.set_cons_succ]
        refine wpAnyH_take (i := 3) (oi := ?o2055) (v := undef) ?hi2055 (by kernel_rfl) (by kernel_rfl) (by kernel_rfl) ?hQ2055 (Or.inr ⟨?hg2055, rfl⟩) (by assumption) ?rest2055
        case hi2055 => (simp only [List.getElem?_toArray, List.getElem?_cons_zero, List.getElem?_cons_succ]; exact rfl)
        case hQ2055 => exact fun _ _ _ h => h
        case hg2055 => rfl
        try simp only [Act.put, List.setIfInBounds_toArray, List.set_cons_zero, List.set_cons_succ]
        refine wpAnyH_take (i := 4) (oi := ?o2056) (v := undef) ?hi2056 (by kernel_rfl) (by kernel_rfl) (by kernel_rfl) ?hQ2056 (Or.inr ⟨?hg2056, rfl⟩) (by assumption) ?rest2056
        case hi2056 => (simp only [List.getElem?_toArray, List.getElem?_cons_zero, List.getElem?_cons_succ]; exact rfl)
        case hQ2056 => exact fun _ _ _ h => h
        case hg2056 => rfl
        try simp only [Act.put, List.setIfInBounds_toArray, List.set_cons_zero, List.set_cons_succ]
        refine wpAnyH_take (i := 5) (oi := ?o2057) (v := undef) ?hi2057 (by kernel_rfl) (by kernel_rfl) (by kernel_rfl) ?hQ2057 (Or.inr ⟨?hg2057, rfl⟩) (by assumption) ?rest2057
        case hi2057 => (simp only [List.getElem?_toArray, List.getElem?_cons_zero, List.getElem?_cons_succ]; exact rfl)
        case hQ2057 => exact fun _ _ _ h => h
        case hg2057 => rfl
        try simp only [Act.put, List.setIfInBounds_toArray, List.set_cons_zero, List.set_cons_succ]
        refine wpAnyH_take (i := 6) (oi := ?o2058) (v := ?v2058) ?hi2058 (by kernel_rfl) (by kernel_rfl) (by kernel_rfl) ?hQ2058 (Or.inl ⟨?hg2058, ?hy2058⟩) (by assumption) ?rest2058
        case hi2058 => (simp only [List.getElem?_toArray, List.getElem?_cons_zero, List.getElem?_cons_succ]; exact rfl)
        case hQ2058 => exact fun _ _ _ h => h
        case hg2058 => rfl
        case hy2058 => (intro w' hSw; (try dsimp only at hSw); go_simp; try with_reducible rfl)
        try simp only [Act.put, List.setIfInBounds_toArray, List.set_cons_zero, List.set_cons_succ]
        refine wpAnyH_take (i := 7) (oi := ?o2059) (v := ?v2059) ?hi2059 (by kernel_rfl) (by kernel_rfl) (by kernel_rfl) ?hQ2059 (Or.inl ⟨?hg2059, ?hy2059⟩) (by assumption) ?rest2059
        case hi2059 => (simp only [List.getElem?_toArray, List.getElem?_cons_zero, List.getElem?_cons_succ]; exact rfl)
        case hQ2059 => exact fun _ _ _ h => h
        case hg2059 => rfl
        case hy2059 => (intro w' hSw; (try dsimp only at hSw); go_simp; try with_reducible rfl)
        try simp only [Act.put, List.setIfInBounds_toArray, List.set_cons_zero, List.set_cons_succ]
        refine wpAnyH_take (i := 8) (oi := ?o2060) (v := ?v2060) ?hi2060 (by kernel_rfl) (by kernel_rfl) (by kernel_rfl) ?hQ2060 (Or.inl ⟨?hg2060, ?hy2060⟩) (by assumption) ?rest2060
        case hi2060 => (simp only [List.getElem?_toArray, List.getElem?_cons_zero, List.getElem?_cons_succ]; exact rfl)
        case hQ2060 => exact fun _ _ _ h => h
        case hg2060 => rfl
        case hy2060 => (intro w' hSw; (try dsimp only at hSw); go_simp; try with_reducible rfl)
        try simp only [Act.put, List.setIfInBounds_toArray, List.set_cons_zero, List.set_cons_succ]
        refine wpAnyH_take (i := 9) (oi := ?o2061) (v := ?v2061) ?hi2061 (by kernel_rfl) (by kernel_rfl) (by kernel_rfl) ?hQ2061 (Or.inl ⟨?hg2061, ?hy2061⟩) (by assumption) ?rest2061
        case hi2061 => (simp only [List.getElem?_toArray, List.getElem?_cons_zero, List.getElem?_cons_succ]; exact rfl)
        case hQ2061 => exact fun _ _ _ h => h
        case hg2061 => rfl
        case hy2061 => (intro w' hSw; (try dsimp only at hSw); go_simp; try with_reducible rfl)
        try simp only [Act.put, List.setIfInBounds_toArray, List.set_cons_zero, List.set_cons_succ]
        refine wpAnyH_take (i := 10) (oi := ?o2062) (v := ?v2062) ?hi2062 (by kernel_rfl) (by kernel_rfl) (by kernel_rfl) ?hQ2062 (Or.inl ⟨?hg2062, ?hy2062⟩) (by assumption) ?rest2062
        case hi2062 => (simp only [List.getElem?_toArray, List.getElem?_cons_zero, List.getElem?_cons_succ]; exact rfl)
        case hQ2062 => exact fun _ _ _ h => h
        case hg2062 => rfl
        case hy2062 => (intro w' hSw; (try dsimp only at hSw); go_simp; try with_reducible rfl)
        try simp only [Act.put, List.setIfInBounds_toArray, List.set_cons_zero, List.set_cons_succ]
        refine wpAnyH_take (i := 11) (oi := ?o2063) (v := ?v2063) ?hi2063 (by kernel_rfl) (by kernel_rfl) (by kernel_rfl) ?hQ2063 (Or.inl ⟨?hg2063, ?hy2063⟩) (by assumption) ?rest2063
        case hi2063 => (simp only [List.getElem?_toArray, List.getElem?_cons_zero, List.getElem?_cons_succ]; exact rfl)
        case hQ2063 => exact fun _ _ _ h => h
        case hg2063 => rfl
        case hy2063 => (intro w' hSw; (try dsimp only at hSw); go_simp; try with_reducible rfl)
        try simp only [Act.put, List.setIfInBounds_toArray, List.set_cons_zero, List.set_cons_succ]
        refine wpAnyH_ready (rs := [12]) (by kernel_rfl) (by simp) ?_
        refine AllReadyH.cons (o := ?o2064) ?hi2064 (fun K hK => ?_) AllReadyH.nil
        case hi2064 => (simp only [List.getElem?_toArray, List.getElem?_cons_zero, List.getElem?_cons_succ]; exact rfl)
        (go_simp; go_at_call 8; (with_reducible refine (GY.out _ (FF.out _ X.out.1).s).mono ?_); rintro e w7 ⟨rfl, b7⟩; try dsimp only)
        have X := Lib.hid (MO.out _ _ X.out b7)
        refine hK.out _ _ ?_ (fun hHeld => ?_)
        · exact ST.out _ X.out
        clear hK K
        try simp only [Act.put, List.setIfInBounds_toArray, List.set_cons_zero, List.set_cons_succ]
        refine wpAnyH_take (i := 13) (oi := ?o2065) (v := ?v2065) ?hi2065 (by kernel_rfl) (by kernel_rfl) (by kernel_rfl) ?hQ2065 (Or.inl ⟨?hg2065, ?hy2065⟩) (by assumption) ?rest2065
        case hi2065 => (simp only [List.getElem?_toArray, List.getElem?_cons_zero, List.getElem?_cons_succ]; exact rfl)
        case hQ2065 => exact fun _ _ _ h => h
        case hg2065 => rfl
        case hy2065 => (intro w' hSw; (try dsimp only at hSw); go_simp; try with_reducible rfl)
        try simp only [Act.put, List.setIfInBounds_toArray, List.set_cons_zero, List.set_cons_succ]
        refine wpAnyH_take (i := 14) (oi := ?o2066) (v := ?v2066) ?hi2066 (by kernel_rfl) (by kernel_rfl) (by kernel_rfl) ?hQ2066 (Or.inl ⟨?hg2066, ?hy2066⟩) (by assumption) ?rest2066
        case hi2066 => (simp only [List.getElem?_toArray, List.getElem?_cons_zero, List.getElem?_cons_succ]; exact rfl)
        case hQ2066 => exact fun _ _ _ h => h
        case hg2066 => rfl
        case hy2066 => (intro w' hSw; (try dsimp only at hSw); go_simp; try with_reducible rfl)
        try simp only [Act.put, List.setIfInBounds_toArray, List.set_cons_zero, List.set_cons_succ]
        refine wpAnyH_take (i := 15) (oi := ?o2067) (v := ?v2067) ?hi2067 (by kernel_rfl) (by kernel_rfl) (by kernel_rfl) ?hQ2067 (Or.inl ⟨?hg2067, ?hy2067⟩) (by assumption) ?rest2067
        case hi2067 => (simp only [List.getElem?_toArray, List.getElem?_cons_zero, List.getElem?_cons_succ]; exact rfl)
        case hQ2067 => exact fun _ _ _ h => h
        case hg2067 => rfl
        case hy2067 => (intro w' hSw; (try dsimp only at hSw); go_simp; try with_reducible rfl)
        try simp only [Act.put, List.setIfInBounds_toArray, List.set_cons_zero, List.set_cons_succ]
        refine wpAnyH_take (i := 18) (oi := ?o2068) (v := ?v2068) ?hi2068 (by kernel_rfl) (by kernel_rfl) (by kernel_rfl) ?hQ2068 (Or.inl ⟨?hg2068, ?hy2068⟩) (by assumption) ?rest2068
        case hi2068 => (simp only [List.getElem?_toArray, List.getElem?_cons_zero, List.getElem?_cons_succ]; exact rfl)
        case hQ2068 => exact fun _ _ _ h => h
        case hg2068 => rfl
        case hy2068 => (intro w' hSw; (try dsimp only at hSw); go_simp; try with_reducible rfl)
        try simp only [Act.put, List.setIfInBounds_toArray, List.set_cons_zero, List.set_cons_succ]
        refine wpAnyH_take (i := 19) (oi := ?o2069) (v := ?v2069) ?hi2069 (by kernel_rfl) (by kernel_rfl) (by kernel_rfl) ?hQ2069 (Or.inl ⟨?hg2069, ?hy2069⟩) (by assumption) ?rest2069
        case hi2069 => (simp only [List.getElem?_toArray, List.getElem?_cons_zero, List.getElem?_cons_succ]; exact rfl)
        case hQ2069 => exact fun _ _ _ h => h
        case hg2069 => rfl
        case hy2069 => (intro w' hSw; (try dsimp only at hSw); go_simp; try with_reducible rfl)
        try simp only [Act.put, List.setIfInBounds_toArray, List.set_cons_zero, List.set_cons_succ]
        refine wpAnyH_ready (rs := [16]) (by kernel_rfl) (by simp) ?_
        refine AllReadyH.cons (o := ?o2070) ?hi2070 (fun K hK => ?_) AllReadyH.nil
        case hi2070 => (simp only [List.getElem?_toArray, List.getElem?_cons_zero, List.getElem?_cons_succ]; exact rfl)
        (go_simp; go_at_call 9; (with_reducible refine (PY.out _ (FF.out _ X.out.1).s).mono ?_); rintro e w8 ⟨ps, A8, c8, hp, rfl, o8, g8⟩; try dsimp only)
        have X := Lib.hid (MO.out _ _ X.out g8.out.below)
        refine hK.out _ _ ?_ (fun hHeld => ?_)
        · exact ST.out _ X.out
        clear hK K
        try simp only [Act.put, List.setIfInBounds_toArray, List.set_cons_zero, List.set_cons_succ]
        refine wpAnyH_strong (S' := fun w' => ((w'.cell? ⟨g9, 0, none⟩ = some (.int .i64 k') ∧ w'.cell? ⟨g9, 1, none⟩ = some (.int .i64 r') ∧ w'.cell? ⟨g9, 2, none⟩ = some (.int .i64 t') ∧ w'.cell? ⟨g9, 3, none⟩ = some (.int .i64 y') ∧ w'.cell? ⟨g9, 4, none⟩ = some (.int .i64 n') ∧ w'.cell? ⟨g9, 5, none⟩ = some (.string na') ∧ w'.cell? ⟨g9, 6, none⟩ = some (.string ke') ∧ w'.cell? ⟨g9, 7, none⟩ = some (.string da')) ∧ (convert 27 9 (.slice A zs.length cap)).run Tryd.prog w' = .ok (.string sb) w') ∧ (convert 27 9 (.slice A8 ps.length c8)).run Tryd.prog w' = .ok (.string sb) w') (fun _ h => h.1) ?_
        have cv8 := o8.out.conv hp.out
        rw [← SB.out] at cv8
        have hS8 := And.intro hHeld cv8
        refine wpAnyH_take (i := 17) (oi := ?o2071) (v := ?v2071) ?hi2071 (by kernel_rfl) (by kernel_rfl) (by kernel_rfl) ?hQ2071 (Or.inl ⟨?hg2071, ?hy2071⟩) (by assumption) ?rest2071
        case hi2071 => (simp only [List.getElem?_toArray, List.getElem?_cons_zero, List.getElem?_cons_succ]; exact rfl)
        case hQ2071 => exact fun _ _ _ h => h
        case hg2071 => rfl
        case hy2071 => (intro w' hSw; (try dsimp only at hSw); go_simp; try with_reducible rfl)
        try simp only [Act.put, List.setIfInBounds_toArray, List.set_cons_zero, List.set_cons_succ]
        refine wpAnyH_take (i := 20) (oi := ?o2072) (v := ?v2072) ?hi2072 (by kernel_rfl) (by kernel_rfl) (by kernel_rfl) ?hQ2072 (Or.inl ⟨?hg2072, ?hy2072⟩) (by assumption) ?rest2072
        case hi2072 => (simp only [List.getElem?_toArray, List.getElem?_cons_zero, List.getElem?_cons_succ]; exact rfl)
        case hQ2072 => exact fun _ _ _ h => h
        case hg2072 => rfl
        case hy2072 => (intro w' hSw; (try dsimp only at hSw); go_simp; try with_reducible rfl)
        try simp only [Act.put, List.setIfInBounds_toArray, List.set_cons_zero, List.set_cons_succ]
        refine wpAnyH_take (i := 21) (oi := ?o2073) (v := ?v2073) ?hi2073 (by kernel_rfl) (by kernel_rfl) (by kernel_rfl) ?hQ2073 (Or.inl ⟨?hg2073, ?hy2073⟩) (by assumption) ?rest2073
        case hi2073 => (simp only [List.getElem?_toArray, List.getElem?_cons_zero, List.getElem?_cons_succ]; exact rfl)
        case hQ2073 => exact fun _ _ _ h => h
        case hg2073 => rfl
        case hy2073 => (intro w' hSw; (try dsimp only at hSw); go_simp; try with_reducible rfl)
        try simp only [Act.put, List.setIfInBounds_toArray, List.set_cons_zero, List.set_cons_succ]
        refine wpAnyH_take (i := 22) (oi := ?o2074) (v := ?v2074) ?hi2074 (by kernel_rfl) (by kernel_rfl) (by kernel_rfl) ?hQ2074 (Or.inl ⟨?hg2074, ?hy2074⟩) (by assumption) ?rest2074
        case hi2074 => (simp only [List.getElem?_toArray, List.getElem?_cons_zero, List.getElem?_cons_succ]; exact rfl)
        case hQ2074 => exact fun _ _ _ h => h
        case hg2074 => rfl
        case hy2074 => (intro w' hSw; (try dsimp only at hSw); go_simp; try with_reducible rfl)
        try simp only [Act.put, List.setIfInBounds_toArray, List.set_cons_zero, List.set_cons_succ]
        refine wpAnyH_take (i := 23) (oi := ?o2075) (v := ?v2075) ?hi2075 (by kernel_rfl) (by kernel_rfl) (by kernel_rfl) ?hQ2075 (Or.inl ⟨?hg2075, ?hy2075⟩) (by assumption) ?rest2075
        case hi2075 => (simp only [List.getElem?_toArray, List.getElem?_cons_zero, List.getElem?_cons_succ]; exact rfl)
        case hQ2075 => exact fun _ _ _ h => h
        case hg2075 => rfl
        case hy2075 => (intro w' hSw; (try dsimp only at hSw); go_simp; try with_reducible rfl)
        try simp only [Act.put, List.setIfInBounds_toArray, List.set_cons_zero, List.set_cons_succ]
        refine wpAnyH_done (by kernel_rfl) ?_ _
        go_wp2
        go_ret
        exact ⟨rfl, X.out.1⟩
      · have hv1 := hv.out.1.trans h1
        obtain rfl : er = 2 := hv.out.2.trans h2
        unfold Ev.zero at hv1
        simp only [Ev.E.mk.injEq] at hv1
        obtain ⟨rfl, rfl, rfl, rfl, rfl, rfl, rfl, rfl⟩ := hv1
        clear h1 h2 hv GC GA PA nq IA GP2 PL CB AW HL hm u0 u1 CVB GB
        have zq := ZQ.out
        obtain ⟨c0, c1, c2, c3, c4, c5, c6, c7⟩ := ob8 E9.out
        go_quiet (fail)
        go_wp2
        go_ret
        exact ⟨rfl, ⟨B9.out.os, B9.out.tape, B9.out.output, B9.out.size, B9.out.block⟩⟩
    · clear hc
      go_upto_region 14 with fail
      go_wp2_with fail
      (with_reducible refine (GB.out _ X5.out.b).mono ?_); rintro e v4 ⟨k', r', t', y', n', na', ke', da', er, rfl, hv, b5⟩
      have B5 := Lib.hid (Below.trans X5.out.b (b5.out.mono (Below.size X5.out.b)))
      go_upto_region 15 with fail
      obtain ⟨g9, hg9⟩ : ∃ g9, g9 = v4.heap.size := ⟨_, rfl⟩
      obtain ⟨W9, hW9⟩ : ∃ W9, W9 = World.alloc v4 (.cells #[.int .i64 k', .int .i64 r', .int .i64 t', .int .i64 y', .int .i64 n', .string na', .string ke', .string da'] 24) := ⟨_, rfl⟩
      have E9 : Hid (W9.heap[g9]? = some (.cells #[.int .i64 k', .int .i64 r', .int .i64 t', .int .i64 y', .int .i64 n', .string na', .string ke', .string da'] 24 (0, 0))) := Lib.hid (by rw [hW9, hg9]; exact heap_alloc_new _ _)
      have B9 : Hid (Below w.heap.size w W9) := Lib.hid (by rw [hW9]; exact B5.out.alloc B5.out.size _)
      rw [← hW9, ← hg9]
      clear hW9 hg9 B5 b5
      rcases GC.out with ⟨x, hX, hz, h1, h2⟩ | ⟨h1, h2⟩
      · have hv1 := hv.out.1.trans h1
        obtain rfl : er = 0 := hv.out.2.trans h2
        subst hv1
        have GY := Lib.hid (good_p _ hX.evin)
        rw [Ev.good_iff.2 hX] at GY
        have PY := Lib.hid (put_p _ hX.evin)
        rw [← hz] at PY
        change Hid (∀ W, FactsS W → Calls _ _ #[.agg #[.int .i64 k', .int .i64 r', .int .i64 t', .int .i64 y', .int .i64 n', .string na', .string ke', .string da']] W _) at GY
        change Hid (∀ W, FactsS W → Calls _ _ #[.agg #[.int .i64 k', .int .i64 r', .int .i64 t', .int .i64 y', .int .i64 n', .string na', .string ke', .string da']] W _) at PY
        clear hX hz h1 h2 hv GC GA PA nq ZQ IA GP2 PL CB AW HL hm u0 u1
        have X : Hid (Below w.heap.size w W9.drew ∧ W9.drew.heap[g9]? = some (.cells #[.int .i64 k', .int .i64 r', .int .i64 t', .int .i64 y', .int .i64 n', .string na', .string ke', .string da'] 24 (0, 0))) := Lib.hid ⟨B9.out.drew, E9.out⟩
        clear B9 E9
        have ST : Hid (∀ W, Below w.heap.size w W ∧ W.heap[g9]? = some (.cells #[.int .i64 k', .int .i64 r', .int .i64 t', .int .i64 y', .int .i64 n', .string na', .string ke', .string da'] 24 (0, 0)) → (W.cell? ⟨g9, 0, none⟩ = some (.int .i64 k') ∧ W.cell? ⟨g9, 1, none⟩ = some (.int .i64 r') ∧ W.cell? ⟨g9, 2, none⟩ = some (.int .i64 t') ∧ W.cell? ⟨g9, 3, none⟩ = some (.int .i64 y') ∧ W.cell? ⟨g9, 4, none⟩ = some (.int .i64 n') ∧ W.cell? ⟨g9, 5, none⟩ = some (.string na') ∧ W.cell? ⟨g9, 6, none⟩ = some (.string ke') ∧ W.cell? ⟨g9, 7, none⟩ = some (.string da')) ∧ (convert 27 9 (.slice A zs.length cap)).run Tryd.prog W = .ok (.string (strOfNums zs)) W) := Lib.hid fun W h => ⟨ob8 h.2, CVB.out W h.1⟩
        have MO : Hid (∀ W W', Below w.heap.size w W ∧ W.heap[g9]? = some (.cells #[.int .i64 k', .int .i64 r', .int .i64 t', .int .i64 y', .int .i64 n', .string na', .string ke', .string da'] 24 (0, 0)) → Below W.heap.size W W' → Below w.heap.size w W' ∧ W'.heap[g9]? = some (.cells #[.int .i64 k', .int .i64 r', .int .i64 t', .int .i64 y', .int .i64 n', .string na', .string ke', .string da'] 24 (0, 0))) := Lib.hid fun W W' h h2 => ⟨h.1.trans (h2.mono h.1.size), (h2.block _ (lt_of_block h.2)).trans h.2⟩
        obtain ⟨sb, hsb⟩ : ∃ sb, sb = strOfNums zs := ⟨_, rfl⟩
        rw [← hsb] at ST
        have SB := Lib.hid hsb
        clear hsb CVB
        refine wp_region_held_drew (S := fun w' => (w'.cell? ⟨g9, 0, none⟩ = some (.int .i64 k') ∧ w'.cell? ⟨g9, 1, none⟩ = some (.int .i64 r') ∧ w'.cell? ⟨g9, 2, none⟩ = some (.int .i64 t') ∧ w'.cell? ⟨g9, 3, none⟩ = some (.int .i64 y') ∧ w'.cell? ⟨g9, 4, none⟩ = some (.int .i64 n') ∧ w'.cell? ⟨g9, 5, none⟩ = some (.string na') ∧ w'.cell? ⟨g9, 6, none⟩ = some (.string ke') ∧ w'.cell? ⟨g9, 7, none⟩ = some (.string da')) ∧ (convert 27 9 (.slice A zs.length cap)).run Tryd.prog w' = .ok (.string sb) w') (by kernel_rfl) ?hS2076 (fun hHeld => ?_)
        case hS2076 => exact ST.out _ X.out
        refine wpAnyH_take (i := 0) (oi := ?o2077) (v := ?v2077) ?hi2077 (by kernel_rfl) (by kernel_rfl) (by kernel_rfl) ?hQ2077 (Or.inl ⟨?hg2077, ?hy2077⟩) (by assumption) ?rest2077
        case hi2077 => (simp only [List.getElem?_toArray, List.getElem?_cons_zero]; exact rfl)
        case hQ2077 => exact fun _ _ _ h => h
        case hg2077 => rfl
        case hy2077 => (intro w' hSw; (try dsimp only at hSw); go_simp; try with_reducible rfl)
        try simp only [Act.put, List.setIfInBounds_toArray, List.set_cons_zero, List.set_cons_succ]
        refine wpAnyH_take (i := 1) (oi := ?o2078) (v := ?v2078) ?hi2078 (by kernel_rfl) (by kernel_rfl) (by kernel_rfl) ?hQ2078 (Or.inl ⟨?hg2078, ?hy2078⟩) (by assumption) ?rest2078
        case hi2078 => (simp only [List.getElem?_toArray, List.getElem?_cons_zero, List.getElem?_cons_succ]; exact rfl)
        case hQ2078 => exact fun _ _ _ h => h
        case hg2078 => rfl
        case hy2078 => (intro w' hSw; (try dsimp only at hSw); go_simp; try with_reducible rfl)
        try simp only [Act.put, List.setIfInBounds_toArray, List.set_cons_zero, List.set_cons_succ]
        refine wpAnyH_take (i := 2) (oi := ?o2079) (v := ?v2079) ?hi2079 (by kernel_rfl) (by kernel_rfl) (by kernel_rfl) ?hQ2079 (Or.inl ⟨?hg2079, ?hy2079⟩) (by assumption) ?rest2079
        case hi2079 => (simp only [List.getElem?_toArray, List.getElem?_cons_zero, List.getElem?_cons_succ]; exact rfl)
        case hQ2079 => exact fun _ _ _ h => h
        case hg2079 => rfl
        case hy2079 => (intro w' hSw; (try dsimp only at hSw); go_simp; try with_reducible rfl)
        try simp only [Act.put, List.setIfInBounds_toArray, List.set_cons_zero, List.set_cons_succ]
        refine wpAnyH_take (i := 3) (oi := ?o2080) (v := undef) ?hi2080 (by kernel_rfl) (by kernel_rfl) (by kernel_rfl) ?hQ2080 (Or.inr ⟨?hg2080, rfl⟩) (by assumption) ?rest2080
        case hi2080 => (simp only [List.getElem?_toArray, List.getElem?_cons_zero, List.getElem?_cons_succ]; exact rfl)
        case hQ2080 => exact fun _ _ _ h => h
        case hg2080 => rfl
        try simp only [Act.put, List.setIfInBounds_toArray, List.set_cons_zero, List.set_cons_succ]
        refine wpAnyH_take (i := 4) (oi := ?o2081) (v := undef) ?hi2081 (by kernel_rfl) (by kernel_rfl) (by kernel_rfl) ?hQ2081 (Or.inr ⟨?hg2081, rfl⟩) (by assumption) ?rest2081
        case hi2081 => (simp only [List.getElem?_toArray, List.getElem?_cons_zero, List.getElem?_cons_succ]; exact rfl)
        case hQ2081 => exact fun _ _ _ h => h
        case hg2081 => rfl
        try simp only [Act.put, List.setIfInBounds_toArray, List.set_cons_zero, List.set_cons_succ]
        refine wpAnyH_take (i := 5) (oi := ?o2082) (v := undef) ?hi2082 (by kernel_rfl) (by kernel_rfl) (by kernel_rfl) ?hQ2082 (Or.inr ⟨?hg2082, rfl⟩) (by assumption) ?rest2082
        case hi2082 => (simp only [List.getElem?_toArray, List.getElem?_cons_zero, List.getElem?_cons_succ]; exact rfl)
        case hQ2082 => exact fun _ _ _ h => h
        case hg2082 => rfl
        try simp only [Act.put, List.setIfInBounds_toArray, List.set_cons_zero, List.set_cons_succ]
        refine wpAnyH_take (i := 6) (oi := ?o2083) (v := ?v2083) ?hi2083 (by kernel_rfl) (by kernel_rfl) (by kernel_rfl) ?hQ2083 (Or.inl ⟨?hg2083, ?hy2083⟩) (by assumption) ?rest2083
        case hi2083 => (simp only [List.getElem?_toArray, List.getElem?_cons_zero, List.getElem?_cons_succ]; exact rfl)
        case hQ2083 => exact fun _ _ _ h => h
        case hg2083 => rfl
        case hy2083 => (intro w' hSw; (try dsimp only at hSw); go_simp; try with_reducible rfl)
        try simp only [Act.put, List.setIfInBounds_toArray, List.set_cons_zero, List.set_cons_succ]
        refine wpAnyH_take (i := 7) (oi := ?o2084) (v := ?v2084) ?hi2084 (by kernel_rfl) (by kernel_rfl) (by kernel_rfl) ?hQ2084 (Or.inl ⟨?hg2084, ?hy2084⟩) (by assumption) ?rest2084
        case hi2084 => (simp only [List.getElem?_toArray, List.getElem?_cons_zero, List.getElem?_cons_succ]; exact rfl)
        case hQ2084 => exact fun _ _ _ h => h
        case hg2084 => rfl
        case hy2084 => (intro w' hSw; (try dsimp only at hSw); go_simp; try with_reducible rfl)
        try simp only [Act.put, List.setIfInBounds_toArray, List.set_cons_zero, List.set_cons_succ]
        refine wpAnyH_take (i := 8) (oi := ?o2085) (v := ?v2085) ?hi2085 (by kernel_rfl) (by kernel_rfl) (by kernel_rfl) ?hQ2085 (Or.inl ⟨?hg2085, ?hy2085⟩) (by assumption) ?rest2085
        case hi2085 => (simp only [List.getElem?_toArray, List.getElem?_cons_zero, List.getElem?_cons_succ]; exact rfl)
        case hQ2085 => exact fun _ _ _ h => h
        case hg2085 => rfl
        case hy2085 => (intro w' hSw; (try dsimp only at hSw); go_simp; try with_reducible rfl)
        try simp only [Act.put, List.setIfInBounds_toArray, List.set_cons_zero, List.set_cons_succ]
        refine wpAnyH_take (i := 9) (oi := ?o2086) (v := ?v2086) ?hi2086 (by kernel_rfl) (by kernel_rfl) (by kernel_rfl) ?hQ2086 (Or.inl ⟨?hg2086, ?hy2086⟩) (by assumption) ?rest2086
        case hi2086 => (simp only [List.getElem?_toArray, List.getElem?_cons_zero, List.getElem?_cons_succ]; exact rfl)
        case hQ2086 => exact fun _ _ _ h => h
        case hg2086 => rfl
        case hy2086 => (intro w' hSw; (try dsimp only at hSw); go_simp; try with_reducible rfl)
        try simp only [Act.put, List.setIfInBounds_toArray, List.set_cons_zero, List.set_cons_succ]
        refine wpAnyH_take (i := 10) (oi := ?o2087) (v := ?v2087) ?hi2087 (by kernel_rfl) (by kernel_rfl) (by kernel_rfl) ?hQ2087 (Or.inl ⟨?hg2087, ?hy2087⟩) (by assumption) ?rest2087
        case hi2087 => (simp only [List.getElem?_toArray, List.getElem?_cons_zero, List.getElem?_cons_succ]; exact rfl)
        case hQ2087 => exact fun _ _ _ h => h
        case hg2087 => rfl
        case hy2087 => (intro w' hSw; (try dsimp only at hSw); go_simp; try with_reducible rfl)
        try simp only [Act.put, List.setIfInBounds_toArray, List.set_cons_zero, List.set_cons_succ]
        refine wpAnyH_take (i := 11) (oi := ?o2088) (v := ?v2088) ?hi2088 (by kernel_rfl) (by kernel_rfl) (by kernel_rfl) ?hQ2088 (Or.inl ⟨?hg2088, ?hy2088⟩) (by assumption) ?rest2088
        case hi2088 => (simp only [List.getElem?_toArray, List.getElem?_cons_zero, List.getElem?_cons_succ]; exact rfl)
        case hQ2088 => exact fun _ _ _ h => h
        case hg2088 => rfl
        case hy2088 => (intro w' hSw; (try dsimp only at hSw); go_simp; try with_reducible rfl)
        try simp only [Act.put, List.setIfInBounds_toArray, List.set_cons_zero, List.set_cons_succ]
        refine wpAnyH_ready (rs := [12]) (by kernel_rfl) (by simp) ?_
        refine AllReadyH.cons (o := ?o2089) ?hi2089 (fun K hK => ?_) AllReadyH.nil
        case hi2089 => (simp only [List.getElem?_toArray, List.getElem?_cons_zero, List.getElem?_cons_succ]; exact rfl)
        (go_simp; go_at_call 8; (with_reducible refine (GY.out _ (FF.out _ X.out.1).s).mono ?_); rintro e w7 ⟨rfl, b7⟩; try dsimp only)
        have X := Lib.hid (MO.out _ _ X.out b7)
        refine hK.out _ _ ?_ (fun hHeld => ?_)
        · exact ST.out _ X.out
        clear hK K
        try simp only [Act.put, List.setIfInBounds_toArray, List.set_cons_zero, List.set_cons_succ]
        refine wpAnyH_take (i := 13) (oi := ?o2090) (v := ?v2090) ?hi2090 (by kernel_rfl) (by kernel_rfl) (by kernel_rfl) ?hQ2090 (Or.inl ⟨?hg2090, ?hy2090⟩) (by assumption) ?rest2090
        case hi2090 => (simp only [List.getElem?_toArray, List.getElem?_cons_zero, List.getElem?_cons_succ]; exact rfl)
        case hQ2090 => exact fun _ _ _ h => h
        case hg2090 => rfl
        case hy2090 => (intro w' hSw; (try dsimp only at hSw); go_simp; try with_reducible rfl)
        try simp only [Act.put, List.setIfInBounds_toArray, List.set_cons_zero, List.set_cons_succ]
        refine wpAnyH_take (i := 14) (oi := ?o2091) (v := ?v2091) ?hi2091 (by kernel_rfl) (by kernel_rfl) (by kernel_rfl) ?hQ2091 (Or.inl ⟨?hg2091, ?hy2091⟩) (by assumption) ?rest2091
        case hi2091 => (simp only [List.getElem?_toArray, List.getElem?_cons_zero, List.getElem?_cons_succ]; exact rfl)
        case hQ2091 => exact fun _ _ _ h => h
        case hg2091 => rfl
        case hy2091 => (intro w' hSw; (try dsimp only at hSw); go_simp; try with_reducible rfl)
        try simp only [Act.put, List.setIfInBounds_toArray, List.set_cons_zero, List.set_cons_succ]
        refine wpAnyH_take (i := 15) (oi := ?o2092) (v := ?v2092) ?hi2092 (by kernel_rfl) (by kernel_rfl) (by kernel_rfl) ?hQ2092 (Or.inl ⟨?hg2092, ?hy2092⟩) (by assumption) ?rest2092
        case hi2092 => (simp only [List.getElem?_toArray, List.getElem?_cons_zero, List.getElem?_cons_succ]; exact rfl)
        case hQ2092 => exact fun _ _ _ h => h
        case hg2092 => rfl
        case hy2092 => (intro w' hSw; (try dsimp only at hSw); go_simp; try with_reducible rfl)
        try simp only [Act.put, List.setIfInBounds_toArray, List.set_cons_zero, List.set_cons_succ]
        refine wpAnyH_take (i := 18) (oi := ?o2093) (v := ?v2093) ?hi2093 (by kernel_rfl) (by kernel_rfl) (by kernel_rfl) ?hQ2093 (Or.inl ⟨?hg2093, ?hy2093⟩) (by assumption) ?rest2093
        case hi2093 => (simp only [List.getElem?_toArray, List.getElem?_cons_zero, List.getElem?_cons_succ]; exact rfl)
        case hQ2093 => exact fun _ _ _ h => h
        case hg2093 => rfl
        case hy2093 => (intro w' hSw; (try dsimp only at hSw); go_simp; try with_reducible rfl)
        try simp only [Act.put, List.setIfInBounds_toArray, List.set_cons_zero, List.set_cons_succ]
        refine wpAnyH_take (i := 19) (oi := ?o2094) (v := ?v2094) ?hi2094 (by kernel_rfl) (by kernel_rfl) (by kernel_rfl) ?hQ2094 (Or.inl ⟨?hg2094, ?hy2094⟩) (by assumption) ?rest2094
        case hi2094 => (simp only [List.getElem?_toArray, List.getElem?_cons_zero, List.getElem?_cons_succ]; exact rfl)
        case hQ2094 => exact fun _ _ _ h => h
        case hg2094 => rfl
        case hy2094 => (intro w' hSw; (try dsimp only at hSw); go_simp; try with_reducible rfl)
        try simp only [Act.put, List.setIfInBounds_toArray, List.set_cons_zero, List.set_cons_succ]
        refine wpAnyH_ready (rs := [16]) (by kernel_rfl) (by simp) ?_
        refine AllReadyH.cons (o := ?o2095) ?hi2095 (fun K hK => ?_) AllReadyH.nil
        case hi2095 => (simp only [List.getElem?_toArray, List.getElem?_cons_zero, List.getElem?_cons_succ]; exact rfl)
        (go_simp; go_at_call 9; (with_reducible refine (PY.out _ (FF.out _ X.out.1).s).mono ?_); rintro e w8 ⟨ps, A8, c8, hp, rfl, o8, g8⟩; try dsimp only)
        have X := Lib.hid (MO.out _ _ X.out g8.out.below)
        refine hK.out _ _ ?_ (fun hHeld => ?_)
        · exact ST.out _ X.out
        clear hK K
        try simp only [Act.put, List.setIfInBounds_toArray, List.set_cons_zero, List.set_cons_succ]
        refine wpAnyH_strong (S' := fun w' => ((w'.cell? ⟨g9, 0, none⟩ = some (.int .i64 k') ∧ w'.cell? ⟨g9, 1, none⟩ = some (.int .i64 r') ∧ w'.cell? ⟨g9, 2, none⟩ = some (.int .i64 t') ∧ w'.cell? ⟨g9, 3, none⟩ = some (.int .i64 y') ∧ w'.cell? ⟨g9, 4, none⟩ = some (.int .i64 n') ∧ w'.cell? ⟨g9, 5, none⟩ = some (.string na') ∧ w'.cell? ⟨g9, 6, none⟩ = some (.string ke') ∧ w'.cell? ⟨g9, 7, none⟩ = some (.string da')) ∧ (convert 27 9 (.slice A zs.length cap)).run Tryd.prog w' = .ok (.string sb) w') ∧ (convert 27 9 (.slice A8 ps.length c8)).run Tryd.prog w' = .ok (.string sb) w') (fun _ h => h.1) ?_
        have cv8 := o8.out.conv hp.out
        rw [← SB.out] at cv8
        have hS8 := And.intro hHeld cv8
        refine wpAnyH_take (i := 17) (oi := ?o2096) (v := ?v2096) ?hi2096 (by kernel_rfl) (by kernel_rfl) (by kernel_rfl) ?hQ2096 (Or.inl ⟨?hg2096, ?hy2096⟩) (by assumption) ?rest2096
        case hi2096 => (simp only [List.getElem?_toArray, List.getElem?_cons_zero, List.getElem?_cons_succ]; exact rfl)
        case hQ2096 => exact fun _ _ _ h => h
        case hg2096 => rfl
        case hy2096 => (intro w' hSw; (try dsimp only at hSw); go_simp; try with_reducible rfl)
        try simp only [Act.put, List.setIfInBounds_toArray, List.set_cons_zero, List.set_cons_succ]
        refine wpAnyH_take (i := 20) (oi := ?o2097) (v := ?v2097) ?hi2097 (by kernel_rfl) (by kernel_rfl) (by kernel_rfl) ?hQ2097 (Or.inl ⟨?hg2097, ?hy2097⟩) (by assumption) ?rest2097
        case hi2097 => (simp only [List.getElem?_toArray, List.getElem?_cons_zero, List.getElem?_cons_succ]; exact rfl)
        case hQ2097 => exact fun _ _ _ h => h
        case hg2097 => rfl
        case hy2097 => (intro w' hSw; (try dsimp only at hSw); go_simp; try with_reducible rfl)
        try simp only [Act.put, List.setIfInBounds_toArray, List.set_cons_zero, List.set_cons_succ]
        refine wpAnyH_take (i := 21) (oi := ?o2098) (v := ?v2098) ?hi2098 (by kernel_rfl) (by kernel_rfl) (by kernel_rfl) ?hQ2098 (Or.inl ⟨?hg2098, ?hy2098⟩) (by assumption) ?rest2098
        case hi2098 => (simp only [List.getElem?_toArray, List.getElem?_cons_zero, List.getElem?_cons_succ]; exact rfl)
        case hQ2098 => exact fun _ _ _ h => h
        case hg2098 => rfl
        case hy2098 => (intro w' hSw; (try dsimp only at hSw); go_simp; try with_reducible rfl)
        try simp only [Act.put, List.setIfInBounds_toArray, List.set_cons_zero, List.set_cons_succ]
        refine wpAnyH_take (i := 22) (oi := ?o2099) (v := ?v2099) ?hi2099 (by kernel_rfl) (by kernel_rfl) (by kernel_rfl) ?hQ2099 (Or.inl ⟨?hg2099, ?hy2099⟩) (by assumption) ?rest2099
        case hi2099 => (simp only [List.getElem?_toArray, List.getElem?_cons_zero, List.getElem?_cons_succ]; exact rfl)
        case hQ2099 => exact fun _ _ _ h => h
        case hg2099 => rfl
        case hy2099 => (intro w' hSw; (try dsimp only at hSw); go_simp; try with_reducible rfl)
        try simp only [Act.put, List.setIfInBounds_toArray, List.set_cons_zero, List.set_cons_succ]
        refine wpAnyH_take (i := 23) (oi := ?o2100) (v := ?v2100) ?hi2100 (by kernel_rfl) (by kernel_rfl) (by kernel_rfl) ?hQ2100 (Or.inl ⟨?hg2100, ?hy2100⟩) (by assumption) ?rest2100
        case hi2100 => (simp only [List.getElem?_toArray, List.getElem?_cons_zero, List.getElem?_cons_succ]; exact rfl)
        case hQ2100 => exact fun _ _ _ h => h
        case hg2100 => rfl
        case hy2100 => (intro w' hSw; (try dsimp only at hSw); go_simp; try with_reducible rfl)
        try simp only [Act.put, List.setIfInBounds_toArray, List.set_cons_zero, List.set_cons_succ]
        refine wpAnyH_done (by kernel_rfl) ?_ _
        go_wp2
        go_ret
        exact ⟨rfl, X.out.1⟩
      · have hv1 := hv.out.1.trans h1
        obtain rfl : er = 2 := hv.out.2.trans h2
        unfold Ev.zero at hv1
        simp only [Ev.E.mk.injEq] at hv1
        obtain ⟨rfl, rfl, rfl, rfl, rfl, rfl, rfl, rfl⟩ := hv1
        clear h1 h2 hv GC GA PA nq IA GP2 PL CB AW HL hm u0 u1 CVB GB
        have zq := ZQ.out
        obtain ⟨c0, c1, c2, c3, c4, c5, c6, c7⟩ := ob8 E9.out
        go_quiet (fail)
        go_wp2
        go_ret
        exact ⟨rfl, ⟨B9.out.os, B9.out.tape, B9.out.output, B9.out.size, B9.out.block⟩⟩
end Go.Proofs.YtighnooklcmjaaaDoor
