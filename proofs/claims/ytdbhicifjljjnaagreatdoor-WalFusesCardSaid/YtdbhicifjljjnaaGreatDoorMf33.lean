/-
  Part 33 of the texts behind the law: WalAlike, FusRow, WalFusesW.
-/
import Derived.Test.YtdbhicifjljjnaaGreatDoorMf31
import Derived.Test.YtdbhicifjljjnaaGreatDoorMf32
import Derived.Test.YtdbhicifjljjnaaGreatDoorMf10
/-
  alike: a live log has the records of a row.
-/
namespace Go.Proofs.YtdbhicifjljjnaaGreatDoor
open Go.RowKit St
/-- A row of records in memory below B, its bytes too. -/
def RowsIn (w : World) (B : Nat) (A : Option Addr) (rs : List Fr.Rc) : Prop :=
  0 < rs.length → ∃ g, A = some ⟨g, 0, none⟩ ∧ g < B ∧ ∀ k, k < rs.length → ∃ Ak ck, w.cell? ⟨g, k * 2, none⟩ = some (.int .u64 (rs.getD k (0, [])).1) ∧ w.cell? ⟨g, k * 2 + 1, none⟩ = some (.slice Ak (rs.getD k (0, [])).2.length ck) ∧ Bytes w B Ak (rs.getD k (0, [])).2
theorem RowsIn.below {w w' : World} {B : Nat} {A : Option Addr} {rs : List Fr.Rc} (h : RowsIn w B A rs) (hb : Below B w w') : RowsIn w' B A rs := fun hn => by
  obtain ⟨g, e, hg, hc⟩ := h hn
  refine ⟨g, e, hg, fun k hk => ?_⟩
  obtain ⟨Ak, ck, h1, h2, h3⟩ := hc k hk
  exact ⟨Ak, ck, (hb.cell (p := ⟨g, k * 2, none⟩) hg).trans h1, (hb.cell (p := ⟨g, k * 2 + 1, none⟩) hg).trans h2, h3.below hb⟩
theorem first_live {w0 w : World} {T Lb : Nat} {most : Int} {rs : List Fr.Rc} {su : Int} {G : List (Nat × Obj)} (h : LiveAt w0 w T Lb most rs su G) : Calls Tryz.prog 17 #[.pointer (some ⟨Lb, 0, none⟩)] w fun e w' => e = .returned (.int .i64 0) ∧ w = w' := by
  obtain ⟨s, l, P, sa, sc, ra, rc, H, L, _⟩ := h
  have := first_w H
  rwa [L.first] at this
theorem LiveAt.few {w0 w : World} {T Lb : Nat} {most : Int} {rs : List Fr.Rc} {su : Int} {G : List (Nat × Obj)} (h : LiveAt w0 w T Lb most rs su G) : rs.length ≤ 30 := by
  obtain ⟨s, l, P, sa, sc, ra, rc, H, L, _⟩ := h
  exact L.few
set_option maxRecDepth 20000 in
set_option maxHeartbeats 8000000 in
theorem alike_live {w0 w : World} {T Lb : Nat} {most : Int} {rs : List Fr.Rc} {su : Int} {G : List (Nat × Obj)} (h : LiveAt w0 w T Lb most rs su G) (A : Option Addr) (n cap : Nat) (hn : n = rs.length) (hr : RowsIn w w.heap.size A rs) :
    Calls Tryz.prog 18 #[.pointer (some ⟨Lb, 0, none⟩), .int .i64 0, .slice A n cap] w fun e w' => e = .returned (.bool true) ∧ Hid (Below w.heap.size w w') := by
  have H := Lib.hid h
  have HR := Lib.hid hr
  have FI := Lib.hid (first_live h)
  have EN := Lib.hid (end_live h)
  have hfew := LiveAt.few h
  rw [← hn] at EN hfew
  have HN := Lib.hid hn
  have hn30 : (n : Int) ≤ 30 := by omega
  have hwn : IntKind.i64.wrap (n : Int) = (n : Int) := IntWalk.i64_in _ (by omega)
  clear h hr hn
  go_enter Tryz.func18, Tryz.ntmps18
  go_wp2_with fail
  (with_reducible refine FI.out.mono ?_); rintro e w' ⟨rfl, rfl⟩
  go_wp2_with fail
  (with_reducible refine EN.out.mono ?_); rintro e w1 ⟨rfl, q1, rfl⟩
  have B1 : Hid (Below w.heap.size w (w.drewN q1)) := Lib.hid (below_n (Below.refl _ w) q1)
  have H1 := Lib.hid (LiveAt.grow H.out B1.out)
  generalize w.drewN q1 = w1 at *
  have SI := Lib.hid (since_live H1.out 0 10000 (by decide) (by decide) (by decide) (by decide))
  have E0 : Hid ((rs.drop (max (0 : Int) 0).toNat).take (10000 : Int).toNat = rs) := Lib.hid (by
    have h0 : (max (0 : Int) 0).toNat = 0 := by decide
    rw [h0, List.drop_zero, List.take_of_length_le]
    show rs.length ≤ 10000
    have := HN.out
    omega)
  rw [E0.out] at SI
  unfold SincePost at SI
  rw [← HN.out] at SI
  clear FI EN E0
  go_wp2_with fail
  (with_reducible refine SI.out.mono ?_); rintro e w2 ⟨Ar, cr, rfl, OR, B2⟩
  have B3 : Hid (Below w.heap.size w w2) := Lib.hid (B1.out.trans (B2.out.mono B1.out.size))
  have H2 := Lib.hid (LiveAt.grow H1.out B2.out)
  have O2 : Hid (OwnR w2 w.heap.size Ar cr rs) := Lib.hid (by
    obtain ⟨vs, h1, h2, h3⟩ := OR.out
    have hs := B1.out.size
    exact ⟨vs, h1, Joins.ownsRow_le h2 hs, fun i hi => by
      obtain ⟨r1, Ai, ci, r2, r3⟩ := h3 i hi
      exact ⟨r1, Ai, ci, r2, r3.low hs⟩⟩)
  clear OR SI H1 B1 B2
  go_wp2_with fail
  go_loopg [8] n (fun q iv wr => ∃ k : Nat, k ≤ n ∧ q = n - k ∧ iv = .int .i64 (k : Int) ∧ Hid (LiveAt w0 wr T Lb most rs su G) ∧ Hid (OwnR wr w.heap.size Ar cr rs) ∧ Hid (Below w.heap.size w wr))
  case atStart => exact ⟨0, Nat.zero_le _, rfl, rfl, H2, O2, B3⟩
  case round =>
    obtain ⟨k, hk, hq, rfl, HLk, HOk, HBk⟩ := hrel
    subst hq
    by_cases hlt : k < n
    · have hkl : k < rs.length := by rw [← HN.out]; exact hlt
      have hlt' : (k : Int) < (n : Int) := by omega
      have hk0 : 0 ≤ (k : Int) := by omega
      have hwk : IntKind.i64.wrap (k : Int) = (k : Int) := IntWalk.i64_in _ (by omega)
      have GT := Lib.hid (get_live HLk.out k hkl)
      have RD : Hid (∃ r, r = rs.getD k (0, [])) := Lib.hid ⟨_, rfl⟩
      obtain ⟨g, rfl, hg, hcells⟩ := HR.out (by omega)
      obtain ⟨Aw, cw, a0, a1, ab⟩ := hcells k hkl
      have AB := Lib.hid ab
      have HKL := Lib.hid hkl
      clear hcells ab hkl RD
      generalize hrk : rs.getD k (0, []) = r at *
      have HRK := Lib.hid hrk
      clear hrk
      obtain ⟨st, p⟩ := r
      replace a0 : w.cell? ⟨g, k * 2, none⟩ = some (.int .u64 st) := a0
      replace a1 : w.cell? ⟨g, k * 2 + 1, none⟩ = some (.slice Aw p.length cw) := a1
      have AB' : Hid (Bytes w w.heap.size Aw p) := AB
      have HG := Lib.hid hg
      clear hg AB
      go_wp2_with fail
      (with_reducible refine GT.out.mono ?_); rintro e w5 ⟨Ag, cg, rfl, OG, B5⟩
      clear GT
      go_upto_region 10 with fail
      obtain ⟨X, hX⟩ : ∃ X, X = w5.heap.size := ⟨_, rfl⟩
      obtain ⟨W6, hW6⟩ : ∃ W6, W6 = w5.alloc (.cells #[.int .u64 st, .slice Ag p.length cg] 40) := ⟨_, rfl⟩
      have BB : Hid (Below wr.heap.size wr W6) := Lib.hid (by rw [hW6]; exact B5.out.alloc B5.out.size _)
      have L6 := Lib.hid (LiveAt.grow HLk.out BB.out)
      have O6 := Lib.hid (OwnR.grew HOk.out BB.out (Nat.le_refl _))
      have B6 : Hid (Below w.heap.size w W6) := Lib.hid (HBk.out.trans (BB.out.mono HBk.out.size))
      obtain ⟨x0, x1⟩ : W6.cell? ⟨X, 0, none⟩ = some (.int .u64 st) ∧ W6.cell? ⟨X, 1, none⟩ = some (.slice Ag p.length cg) := by
        rw [hW6, hX]; exact obj2P (heap_alloc_new w5 _)
      have OG6 : Hid (Bytes W6 W6.heap.size Ag p) := Lib.hid (by
        rw [hW6]
        exact (OG.out.bytes.below (one_alloc w5 _)).more (one_alloc w5 _).size)
      rw [← hW6, ← hX]
      clear hW6 hX OG B5
      have y0 := (B6.out.cell (p := ⟨g, k * 2, none⟩) HG.out).trans a0
      have y1 := (B6.out.cell (p := ⟨g, k * 2 + 1, none⟩) HG.out).trans a1
      have OY6 : Hid (Bytes W6 W6.heap.size Aw p) := Lib.hid ((AB'.out.below B6.out).more B6.out.size)
      obtain ⟨gR, A3, c3, rfl, z0, z1, OZ⟩ := OwnR.row O6.out HKL.out
      rw [HRK.out] at z0 z1 OZ
      dsimp only at z0 z1 OZ
      have OZ6 : Hid (Bytes W6 W6.heap.size A3 p) := Lib.hid OZ.out.bytes
      have v1 : ∀ q, (convert 31 9 (.slice Ag p.length cg)).run Tryz.prog (W6.drewN q) = .ok (.string (strOfNums p)) (W6.drewN q) := fun q => conv_str (w := W6.drewN q) (OG6.out.keep fun _ _ _ => rfl) cg
      have v2 : ∀ q, (convert 31 9 (.slice A3 p.length c3)).run Tryz.prog (W6.drewN q) = .ok (.string (strOfNums p)) (W6.drewN q) := fun q => conv_str (w := W6.drewN q) (OZ6.out.keep fun _ _ _ => rfl) c3
      have v3 : ∀ q, (convert 31 9 (.slice Aw p.length cw)).run Tryz.prog (W6.drewN q) = .ok (.string (strOfNums p)) (W6.drewN q) := fun q => conv_str (w := W6.drewN q) (OY6.out.keep fun _ _ _ => rfl) cw
      generalize strOfNums p = sp at *
      clear OZ a0 a1
      go_quiet (fail)
      have L7 := Lib.hid (LiveAt.grow L6.out (below_n (Below.refl _ W6) nq))
      have O7 := Lib.hid (OwnR.grew O6.out (below_n (Below.refl W6.heap.size W6) nq) (Nat.le_refl _))
      have B7 := Lib.hid (below_n B6.out nq)
      go_wp2
      go_roundg (n - (k + 1))
      case measure => omega
      case rel => exact ⟨k + 1, hlt, rfl, by go_num, L7, O7, B7⟩
    · have e : k = n := by omega
      have hge : ¬ (k : Int) < (n : Int) := by omega
      have E := Lib.hid e
      clear e
      go_wp2
      go_ret
      exact ⟨rfl, HBk⟩
end Go.Proofs.YtdbhicifjljjnaaGreatDoor
/-
  A row of records of the law's own, beside a log and its store.
-/
namespace Go.Proofs.YtdbhicifjljjnaaGreatDoor
open Go.RowKit Go.Lib St
/-- A row of records of the call's own whose bytes came in. -/
def RowOf (w0 w : World) (A : Option Addr) (cap : Nat) (Q : List Fr.Rc) : Prop :=
  ∃ vs : List (Value × Value), vs.length = Q.length ∧ OwnP w w0.heap.size 40 A cap vs ∧ ∀ k, k < Q.length → ∃ Ak ck, vs.getD k (undef, undef) = (.int .u64 (Q.getD k (0, [])).1, .slice Ak (Q.getD k (0, [])).2.length ck) ∧ Bytes w0 w0.heap.size Ak (Q.getD k (0, [])).2
/-- The row's block, as it stands. -/
def gOf (w : World) (A : Option Addr) : List (Nat × Obj) := match A with
  | none => []
  | some a => ((w.heap[a.block]?).map fun o => (a.block, o)).toList
theorem gOf_some (w : World) (a : Addr) : gOf w (some a) = ((w.heap[a.block]?).map fun o => (a.block, o)).toList := rfl
theorem gOf_keep {w w' : World} {A : Option Addr} (hl : ∀ a, A = some a → a.block < w.heap.size) (h : ∀ g ∈ gOf w A, w'.heap[g.1]? = some g.2) : gOf w' A = gOf w A ∧ ∀ a, A = some a → w'.heap[a.block]? = w.heap[a.block]? := by
  cases A with
  | none => exact ⟨rfl, fun a ha => by cases ha⟩
  | some a =>
    have hlt := hl a rfl
    have e : w.heap[a.block]? = some w.heap[a.block] := Array.getElem?_eq_getElem hlt
    have h2 := h (a.block, w.heap[a.block]) (by rw [gOf_some, e]; simp)
    refine ⟨?_, fun b hb => ?_⟩
    · rw [gOf_some, gOf_some, show w'.heap[a.block]? = some w.heap[a.block] from h2, e]
    · injection hb with hb; subst hb; rw [show w'.heap[a.block]? = some w.heap[a.block] from h2, e]
section
variable {w0 w : World} {T Lb : Nat} {most : Int} {rs : List Fr.Rc} {k : Nat} {off : Bool} {A : Option Addr} {cap : Nat} {Q : List Fr.Rc}
theorem RowOf.lt (h : RowOf w0 w A cap Q) : ∀ a, A = some a → w0.heap.size ≤ a.block ∧ a.block < w.heap.size := fun a ha => by
  obtain ⟨vs, _, h2, _⟩ := h
  subst ha
  exact h2.lt
theorem RowOf.keep {w' : World} (h : RowOf w0 w A cap Q) (hk : ∀ a, A = some a → w'.heap[a.block]? = w.heap[a.block]?) : RowOf w0 w' A cap Q := by
  obtain ⟨vs, h1, h2, h3⟩ := h
  exact ⟨vs, h1, h2.keep hk, h3⟩
theorem RowOf.nil_ : RowOf w0 w none 0 [] := ⟨[], rfl, OwnP.none_ _ _ _, fun k hk => by cases hk⟩
/-- The row behind a call whose guest it was. -/
theorem RowOf.after {w' : World} (h : RowOf w0 w A cap Q) (hg : ∀ g ∈ gOf w A, w'.heap[g.1]? = some g.2) : RowOf w0 w' A cap Q ∧ gOf w' A = gOf w A := by
  obtain ⟨e1, e2⟩ := gOf_keep (fun a ha => (h.lt a ha).2) hg
  exact ⟨h.keep e2, e1⟩
theorem RowOf.grow {w' : World} (h : RowOf w0 w A cap Q) (hb : Below w.heap.size w w') : RowOf w0 w' A cap Q ∧ gOf w' A = gOf w A := by
  have hk : ∀ a, A = some a → w'.heap[a.block]? = w.heap[a.block]? := fun a ha => hb.block _ (h.lt a ha).2
  refine ⟨h.keep hk, ?_⟩
  cases A with
  | none => rfl
  | some a => rw [gOf_some, gOf_some, hk a rfl]
def FzRow (w0 w : World) (T Lb : Nat) (most : Int) (rs : List Fr.Rc) (k : Nat) (A : Option Addr) (cap : Nat) (Q : List Fr.Rc) : Prop := FzAt w0 w T Lb most rs k (gOf w A) ∧ RowOf w0 w A cap Q
def DdRow (w0 w : World) (T Lb : Nat) (rs : List Fr.Rc) (k : Nat) (off : Bool) (A : Option Addr) (cap : Nat) (Q : List Fr.Rc) : Prop := DdAt w0 w T Lb rs k off (gOf w A) ∧ RowOf w0 w A cap Q
theorem fz_row {w' : World} (hr : RowOf w0 w A cap Q) (h : FzAt w0 w' T Lb most rs k (gOf w A)) : FzRow w0 w' T Lb most rs k A cap Q := by
  obtain ⟨h1, h2⟩ := hr.after (fun g hg => h.block hg)
  exact ⟨by rw [h2]; exact h, h1⟩
theorem dd_row {w' : World} (hr : RowOf w0 w A cap Q) (h : DdAt w0 w' T Lb rs k off (gOf w A)) : DdRow w0 w' T Lb rs k off A cap Q := by
  obtain ⟨h1, h2⟩ := hr.after (fun g hg => h.block hg)
  exact ⟨by rw [h2]; exact h, h1⟩
theorem FzRow.grow {w' : World} (h : FzRow w0 w T Lb most rs k A cap Q) (hb : Below w.heap.size w w') : FzRow w0 w' T Lb most rs k A cap Q := fz_row h.2 (h.1.grow hb)
theorem DdRow.grow {w' : World} (h : DdRow w0 w T Lb rs k off A cap Q) (hb : Below w.heap.size w w') : DdRow w0 w' T Lb rs k off A cap Q := dd_row h.2 (h.1.grow hb)
/-- The row one longer: the log and its store don't see it. -/
theorem WRun.pushed {s : S} {l : Wl.L} {sa : Option Addr} {sc : Nat} {ra : Option Addr} {rc : Nat} {w5 : World} {A5 : Option Addr} {n : Nat} (h : WRun w0 w T Lb s l (gOf w A) sa sc ra rc) (hA : ∀ a, A = some a → w0.heap.size ≤ a.block ∧ a.block < w.heap.size)
    (hg : w.grownBy w5 (Value.slice A n cap).ownBlock) (hn : ∀ a, A5 = some a → (∃ a0, A = some a0 ∧ a.block = a0.block) ∨ a.block = w.heap.size) : WRun w0 w5 T Lb s l (gOf w5 A5) sa sc ra rc := by
  obtain ⟨o1, O, p, q, h1, h2, h3, h4⟩ := h
  have hguest : ∀ a, A = some a → ¬ o1 a.block ∧ ¬ O a.block := fun a ha => by
    subst ha
    have hlt := (hA a rfl).2
    have e : w.heap[a.block]? = some w.heap[a.block] := Array.getElem?_eq_getElem hlt
    exact (h4 (a.block, w.heap[a.block]) (by rw [gOf_some, e]; simp)).2
  have keep5 : ∀ j, j < w.heap.size → (∀ a, A = some a → j ≠ a.block) → w5.heap[j]? = w.heap[j]? := fun j hj hne => hg.block j hj (by
    cases A with
    | none => simp [Value.ownBlock]
    | some a => simp [Value.ownBlock]; exact hne a rfl)
  refine ⟨o1, O, p.same hg.size fun j hj => keep5 j (p.lt j hj) fun a ha e => (hguest a ha).1 (e ▸ hj), q.same hg.size fun j hj => keep5 j (q.lt j hj) fun a ha e => (hguest a ha).2 (e ▸ hj), h1, h2, ?_, fun x hx => ?_⟩
  · refine h3.grown hg h3.size fun j hj => ?_
    cases A with
    | none => cases hj
    | some a => simp [Value.ownBlock] at hj; subst hj; exact (hA a rfl).1
  · cases A5 with
    | none => simp [gOf] at hx
    | some a =>
      rw [gOf_some] at hx
      cases e : w5.heap[a.block]? with
      | none => rw [e] at hx; simp at hx
      | some o =>
        rw [e] at hx
        simp at hx
        subst hx
        refine ⟨e, ?_⟩
        rcases hn a rfl with ⟨a0, e0, e1⟩ | e1
        · have := hguest a0 e0
          rw [e1]; exact this
        · exact ⟨fun hj => by have := p.lt _ hj; show False; omega, fun hj => by have := q.lt _ hj; show False; omega⟩
theorem RowOf.snoc {w5 : World} {A5 : Option Addr} {c5 : Nat} {vs : List (Value × Value)} (h1 : vs.length = Q.length) (h3 : ∀ k, k < Q.length → ∃ Ak ck, vs.getD k (undef, undef) = (.int .u64 (Q.getD k (0, [])).1, .slice Ak (Q.getD k (0, [])).2.length ck) ∧ Bytes w0 w0.heap.size Ak (Q.getD k (0, [])).2)
    {st : Int} {Ab : Option Addr} {p : List Int} {cb : Nat} (hp : Bytes w0 w0.heap.size Ab p) (h5 : OwnP w5 w0.heap.size 40 A5 c5 (vs ++ [(.int .u64 st, .slice Ab p.length cb)])) : RowOf w0 w5 A5 c5 (Q ++ [(st, p)]) := by
  refine ⟨_, by simp [h1], h5, fun i hi => ?_⟩
  by_cases hi2 : i < Q.length
  · rw [getD_snoc_lt _ _ _ _ hi2, getD_snoc_lt _ _ _ _ (by omega)]
    exact h3 i hi2
  · rw [List.length_append, List.length_singleton] at hi
    have e : i = Q.length := by omega
    subst e
    rw [getD_snoc_eq, ← h1, getD_snoc_eq]
    exact ⟨Ab, cb, rfl, hp⟩
/-- A first part of the row, as alike takes it. -/
theorem RowOf.rows (h : RowOf w0 w A cap Q) (hb : Below w0.heap.size w0 w) (m : Nat) (hm : m ≤ Q.length) : RowsIn w w.heap.size A (Q.take m) := fun hn => by
  obtain ⟨vs, h1, h2, h3⟩ := h
  have hl : (Q.take m).length = m := by rw [List.length_take]; omega
  rw [hl] at hn
  obtain ⟨g, e, hg1, hg2⟩ := h2.shape (by omega)
  subst e
  refine ⟨g, rfl, hg2, fun i hi => ?_⟩
  rw [hl] at hi
  have e2 : (Q.take m).getD i (0, []) = Q.getD i (0, []) := by rw [List.getD_eq_getElem?_getD, List.getD_eq_getElem?_getD, List.getElem?_take_of_lt hi]
  rw [e2]
  obtain ⟨Ak, ck, k1, k2⟩ := h3 i (by omega)
  have hc := h2.cell (undef, undef) (i := i) (by omega)
  rw [k1] at hc
  exact ⟨Ak, ck, hc.1, hc.2, (k2.below hb).more hb.size⟩
theorem FzAt.pushed {w5 : World} {A5 : Option Addr} {n : Nat} (h : FzAt w0 w T Lb most rs k (gOf w A)) (hA : ∀ a, A = some a → w0.heap.size ≤ a.block ∧ a.block < w.heap.size)
    (hg : w.grownBy w5 (Value.slice A n cap).ownBlock) (hn : ∀ a, A5 = some a → (∃ a0, A = some a0 ∧ a.block = a0.block) ∨ a.block = w.heap.size) : FzAt w0 w5 T Lb most rs k (gOf w5 A5) := by
  obtain ⟨s, l, P, sa, sc, ra, rc, H, L⟩ := h
  exact ⟨s, l, P, sa, sc, ra, rc, H.pushed hA hg hn, L⟩
theorem DdAt.pushed {w5 : World} {A5 : Option Addr} {n : Nat} (h : DdAt w0 w T Lb rs k off (gOf w A)) (hA : ∀ a, A = some a → w0.heap.size ≤ a.block ∧ a.block < w.heap.size)
    (hg : w.grownBy w5 (Value.slice A n cap).ownBlock) (hn : ∀ a, A5 = some a → (∃ a0, A = some a0 ∧ a.block = a0.block) ∨ a.block = w.heap.size) : DdAt w0 w5 T Lb rs k off (gOf w5 A5) := by
  obtain ⟨s, l, C, sa, sc, ra, rc, H, L⟩ := h
  exact ⟨s, l, C, sa, sc, ra, rc, H.pushed hA hg hn, L⟩
theorem FzRow.below (h : FzRow w0 w T Lb most rs k A cap Q) : Below w0.heap.size w0 w := h.1.below
theorem DdRow.below (h : DdRow w0 w T Lb rs k off A cap Q) : Below w0.heap.size w0 w := h.1.below
theorem slice_toR (A : Option Addr) (n cap m : Nat) (h : m ≤ cap) (W : World) :
    (Instr.slice 29 (.slice A n cap) none (some (.int .i64 (m : Int))) none).run Tryz.prog W = .ok (.slice A m cap) W := by
  rw [run_slice_h (P := Tryz.prog) (w := W) 29 A n cap undRc .i64 (m : Int) (by omega) (by omega), elemRc, size2R]
  cases A with
  | none => simp [Result.andThen, sliced]
  | some a => simp [Result.andThen, sliced, Addr.add]
theorem RowOf.cap_ (h : RowOf w0 w A cap Q) : Q.length ≤ cap := by
  obtain ⟨vs, h1, h2, h3⟩ := h
  rcases h2.2 with ⟨e, e0⟩ | ⟨g', c', cur, e, hb, hg, hle, hm, hsz, htk⟩
  · omega
  · injection e with e1 e2 e3
    subst e3
    omega
/-- The stamp of a row's record. -/
theorem RowOf.stamp (h : RowOf w0 w A cap Q) {i : Nat} (hi : i < Q.length) : ∃ g, A = some ⟨g, 0, none⟩ ∧ w.cell? ⟨g, i * 2, none⟩ = some (.int .u64 (Q.getD i (0, [])).1) := by
  obtain ⟨vs, h1, h2, h3⟩ := h
  obtain ⟨g, e, hg1, hg2⟩ := h2.shape (by omega)
  subst e
  obtain ⟨Ak, ck, k1, k2⟩ := h3 i hi
  have hc := h2.cell (undef, undef) (i := i) (by omega)
  rw [k1] at hc
  exact ⟨g, rfl, hc.1⟩
end
end Go.Proofs.YtdbhicifjljjnaaGreatDoor
/-
  The law WalFuses: after a crash at any write, Open restores a prefix with all durable records.
-/
namespace Go.Proofs.YtdbhicifjljjnaaGreatDoor
open Go.RowKit Go.Lib St
def TrueF (w0 : World) (e : Ending) (w' : World) : Prop := e = .returned (.bool true) ∧ Below w0.heap.size w0 w'
def LoopOut (w0 w : World) (T Lb : Nat) (ps : List (List Int)) (i : Nat) (k : Nat) (A : Option Addr) (cap : Nat) : Prop :=
  FzRow w0 w T Lb 100 (recsX 1 [] ps i) k A cap (recsX 1 [] ps i) ∨ ∃ j, j ≤ i ∧ DdRow w0 w T Lb (recsX 1 [] ps j) k true A cap (recsX 1 [] ps i)
theorem recsX_take (ep : Int) (ps : List (List Int)) (i j : Nat) (h : j ≤ i) : (recsX ep [] ps i).take j = recsX ep [] ps j := by
  unfold recsX
  rw [List.nil_append, List.nil_append, ← List.map_take, List.take_range, Nat.min_eq_left h]
theorem chain_take {rs : List Fr.Rc} (c : Nat) (h : Chain 0 0 rs) : Chain 0 0 (rs.take c) := by
  have e : rs = rs.take c ++ rs.drop c := (List.take_append_drop _ _).symm
  rw [e, chain_app] at h
  exact h.1
theorem ints_old {w0 w : World} {A : Option Addr} {ks : List Int} (h : Nums w0 w0.heap.size A ks) (hb : Below w0.heap.size w0 w) : Ints w A ks := fun hn => by
  obtain ⟨b, o, e, hlt, hc⟩ := h.2 hn
  exact ⟨b, o, e, fun i hi => (hb.cell (p := ⟨b, o + i, none⟩) hlt).trans (hc i hi)⟩
/-- Behind the loop and Cut: alive or dead. -/
def Later (w0 w : World) (T Lb : Nat) (Q : List Fr.Rc) (k : Nat) (A : Option Addr) (cap : Nat) : Prop :=
  ∃ c, FzRow w0 w T Lb 100 (Q.take c) k A cap Q ∨ DdRow w0 w T Lb (Q.take c) k true A cap Q
set_option maxRecDepth 20000 in
set_option maxHeartbeats 16000000 in
theorem fuses_core (A0 : Option Addr) (ms : List Fa) (cap0 : Nat) (at_ : Int) (A2 : Option Addr) (ks : List Int) (cap2 : Nat) (cut : Int) (h15 : ms.length ≤ 15) (h70 : ks.length ≤ 70) (hkc : ks.length ≤ cap2) (a0 : 1 ≤ at_) (a1 : at_ ≤ 100) (u0 : -9223372036854775808 ≤ cut) (u1 : cut ≤ 9223372036854775807) (w : World) (hm : FActs w w.heap.size A0 ms) (hm2 : Nums w w.heap.size A2 ks) (hF : Facts w) :
    Calls Tryz.prog 3 #[.slice A0 ms.length cap0, .int .i64 at_, .slice A2 ks.length cap2, .int .i64 cut] w (TrueF w) := by
  have HM := Lib.hid hm
  have HM2 := Lib.hid hm2
  have HF := Lib.hid hF
  have AW := Lib.hid (awake_any (w0 := w) (Below.refl _ _) hF)
  have FU := Lib.hid (fun (W : World) (T Lb : Nat) sa sc ra rc (h : WRun w W T Lb st0 (newL 100) [] sa sc ra rc) => fz_fuse (most := 100) h at_ (by omega) A2 ks cap2 hkc hm2)
  obtain ⟨n, hn⟩ : ∃ n, n = ms.length := ⟨_, rfl⟩
  rw [← hn] at h15 ⊢
  have HN := Lib.hid hn
  obtain ⟨kn, hk⟩ : ∃ kn, kn = ks.length := ⟨_, rfl⟩
  rw [← hk] at h70 FU ⊢
  have HK := Lib.hid hk
  have HKC := Lib.hid hkc
  have PSg : Hid (∀ i, (ms.map (·.2)).getD i [] = (ms.getD i (0, [])).2) := Lib.hid (fun i => by
    rw [List.getD_eq_getElem?_getD, List.getD_eq_getElem?_getD, List.getElem?_map]
    cases ms[i]? <;> rfl)
  generalize ms.map (·.2) = ps at *
  have h15' : (n : Int) ≤ 15 := by omega
  have h70' : (kn : Int) ≤ 70 := by omega
  clear hm hm2 hF hn hk hkc
  go_enter Tryz.func3, Tryz.ntmps3
  go_wp2_with fail
  (with_reducible refine AW.out.mono ?_); rintro e w1 ⟨rfl, B1⟩
  clear AW
  have BG := Lib.hid (begun_any B1.out HF.out 100 (by decide) (by decide))
  have c1 : ¬ (15 : Int) < (n : Int) := by omega
  have c2 : ¬ (70 : Int) < (kn : Int) := by omega
  have c3 : ¬ at_ < 1 := by omega
  have c4 : ¬ (100 : Int) < at_ := by omega
  go_wp2_with fail
  (with_reducible refine BG.out.mono ?_); rintro e w2 ⟨Lb, T, rfl, H2⟩
  clear BG B1 c1 c2 c3 c4
  obtain ⟨sa, sc, ra, rc, H2⟩ := H2.out
  have FQ := Lib.hid (FU.out w2 T Lb sa sc ra rc H2)
  clear FU H2
  go_wp2_with fail
  (with_reducible refine FQ.out.mono ?_); rintro e w3 ⟨rfl, H3⟩
  clear FQ
  have F3 : Hid (FzRow w w3 T Lb 100 (recsX 1 [] ps 0) 0 none 0 (recsX 1 [] ps 0)) := Lib.hid (by rw [recsX_zero]; exact ⟨H3.out, RowOf.nil_⟩)
  clear H3
  go_upto_block 0 with fail
  go_cut [11, 12, 13, 14, 15] from 46 to 100 (fun wv sv _ _ _ wx => ∃ (i k : Nat) (A : Option Addr) (cap : Nat), wv = .slice A i cap ∧ sv = .int .i64 (k : Int) ∧ i ≤ n ∧ Hid (LoopOut w wx T Lb ps i k A cap) ∧ Hid (∀ j, j < i → (ps.getD j []).length ≤ 1024))
  case first =>
    go_wp2_with fail
    go_loopg [11, 12, 13] n (fun q wv sv iv wr => ∃ (i k : Nat) (A : Option Addr) (cap : Nat), i ≤ n ∧ q = n - i ∧ wv = .slice A i cap ∧ sv = .int .i64 (k : Int) ∧ iv = .int .i64 (i : Int) ∧ Hid (FzRow w wr T Lb 100 (recsX 1 [] ps i) k A cap (recsX 1 [] ps i)) ∧ Hid (∀ j, j < i → (ps.getD j []).length ≤ 1024))
    case atStart => exact ⟨0, 0, none, 0, Nat.zero_le _, rfl, rfl, rfl, rfl, F3, Lib.hid fun j hj => by omega⟩
    case round =>
      obtain ⟨i, k, A, cap, hi, hq, rfl, rfl, rfl, HL, HP⟩ := hrel
      subst hq
      by_cases hlt : i < n
      · have hlp : i < ms.length := by rw [← HN.out]; exact hlt
        have hlt' : (i : Int) < (n : Int) := by omega
        have hi0 : 0 ≤ (i : Int) := by omega
        obtain ⟨b, o, Ai, ci, rfl, hbb, hop0, hc0, hby, hat, _⟩ := HM.out.at_ hlp
        have hop := ((FzRow.below HL.out).cell (p := ⟨b, o + i * 4, none⟩) hbb.out).trans hop0
        have hc := ((FzRow.below HL.out).cell (p := ⟨b, o + i * 4 + 2, none⟩) hbb.out).trans hc0
        have RS := Lib.hid (recsX_succ 1 [] ps i)
        have PG : Hid ((ps.getD i []).length ≤ 1024 → ∀ j, j < i + 1 → (ps.getD j []).length ≤ 1024) := Lib.hid (fun h j hj => by
          by_cases he : j = i
          · subst he; exact h
          · exact HP.out j (by omega))
        have EPI := Lib.hid (recsX_ep (ep := 1) (rs0 := []) ps i (by decide) (by decide) (by decide) (by simp; omega))
        have RL : Hid ((recsX 1 [] ps i).length = i) := Lib.hid (by rw [recsX_len]; simp)
        have RL1 : Hid ((recsX 1 [] ps (i + 1)).length = i + 1) := Lib.hid (by rw [recsX_len]; simp)
        rw [PSg.out i] at PG RS
        generalize ms.getD i (0, []) = act at *
        obtain ⟨op, p⟩ := act
        dsimp only at hop hc hby hat PG RS hop0 hc0
        obtain ⟨pn, hpn⟩ : ∃ pn, pn = p.length := ⟨_, rfl⟩
        rw [← hpn] at hc hc0 PG
        have HPN := Lib.hid hpn
        clear hpn
        by_cases h200 : 200 < pn
        · have h200' : (200 : Int) < (pn : Int) := by omega
          go_wp2
          go_ret
          exact ⟨rfl, FzRow.below HL.out⟩
        · have h200' : ¬ (200 : Int) < (pn : Int) := by omega
          have AP := Lib.hid (fz_append HL.out.1 HF.out 1 (by decide) (by decide) EPI.out Ai pn ci p HPN.out (by omega) (by rw [RL.out]; omega) (by have := hat.out; exact this)
            (fun W s l G' sa sc ra rc hW => (hby.out.below (WRun.below hW)).more (WRun.below hW).size))
          have PG2 := Lib.hid (PG.out (by omega))
          obtain ⟨q1, q2, q3⟩ := pack_of (show (0 : Int) ≤ 1 by decide) (show (1 : Int) ≤ 1048575 by decide) hi0 (show (i : Int) ≤ 17592186044415 by omega)
          have hst : IntKind.u64.wrap (17592186044416 + (i : Int)) = Pl.packV 1 (i : Int) := by rw [IntKind.wrap_u64, q1]; omega
          have hcu : IntKind.u64.wrap (i : Int) = (i : Int) := by rw [IntKind.wrap_u64]; omega
          have RX : Hid (recX 1 (recsX 1 [] ps i) p = (Pl.packV 1 (i : Int), p)) := Lib.hid (by unfold recX; rw [RL.out])
          rw [RX.out] at RS AP
          rw [RL.out] at AP
          clear q1 q2 q3
          generalize Pl.packV 1 (i : Int) = st at *
          have ROW := Lib.hid HL.out.2
          have HO := Lib.hid hop0
          have HC := Lib.hid hc0
          clear hop0 hc0
          go_wp2_with fail
          (with_reducible refine AP.out.mono ?_); rintro e w3 hcase
          rcases hcase with ⟨rfl, H3⟩ | ⟨rfl, H3⟩
          · -- appended
            have F4 := Lib.hid (fz_row ROW.out H3.out)
            clear AP H3 F3 HL
            have hc3 := ((FzRow.below F4.out).cell (p := ⟨b, o + i * 4 + 2, none⟩) hbb.out).trans HC.out
            have hs3 := (FzRow.below F4.out).size
            have OB : Hid (Below w3.heap.size w3 (w3.alloc (.cells #[.int .u64 st, .slice Ai pn ci] 40))) := Lib.hid (one_alloc w3 _)
            obtain ⟨vs, v1, v2, v3⟩ := F4.out.2
            have VL : Hid (vs.length = i) := Lib.hid (v1.trans RL.out)
            have OP := Lib.hid v2
            have V1 := Lib.hid v1
            have V3 := Lib.hid v3
            clear v1 v2 v3
            go_upto_region 18 with (at_builtin; refine wp_appP4 rfl (.tmp 69) (.tmp 79) rfl Tryz.underlying29 rec_info rfl (by decide) rfl VL.out.symm (OP.out.grew (one_alloc w3 _) (Nat.le_refl _)) (by simp; omega) rfl (obj2P (heap_alloc_new w3 _)).1 (obj2P (heap_alloc_new w3 _)).2 rfl rfl (by rw [VL.out]; omega) (r := i + 1) (by rw [VL.out]) ?_; intro A5 c5 w5 o5 g5 d5 k5; have O5 := Lib.hid o5; have G5 := Lib.hid g5; have D5 := Lib.hid d5; clear o5 g5 d5 k5)
            have R5 : Hid (RowOf w w5 A5 c5 (recsX 1 [] ps (i + 1))) := Lib.hid (by
              have o := O5.out
              rw [HPN.out] at o
              rw [RS.out]
              exact RowOf.snoc V1.out V3.out hby.out o)
            have F4a := Lib.hid (FzRow.grow F4.out OB.out)
            have F5 : Hid (FzRow w w5 T Lb 100 (recsX 1 [] ps (i + 1)) k A5 c5 (recsX 1 [] ps (i + 1))) := Lib.hid (by
              rw [← RS.out] at F4a
              exact ⟨FzAt.pushed F4a.out.1 F4a.out.2.lt G5.out D5.out, R5.out⟩)
            clear F4 F4a G5 O5 D5 V1 V3 OP VL OB
            have hop5 := ((FzRow.below F5.out).cell (p := ⟨b, o + i * 4, none⟩) hbb.out).trans HO.out
            obtain ⟨g5, rfl, y0⟩ := RowOf.stamp R5.out (i := i) (by rw [RL1.out]; omega)
            have e5 : (recsX 1 [] ps (i + 1)).getD i (0, []) = (st, p) := by
              have h := getD_snoc_eq (recsX 1 [] ps i) (st, p) ((0, []) : Fr.Rc)
              rw [RL.out] at h
              rw [RS.out]; exact h
            rw [e5] at y0
            replace y0 : w5.cell? ⟨g5, i * 2, none⟩ = some (.int .u64 st) := y0
            have hi1 : (i : Int) < ((i + 1 : Nat) : Int) := by omega
            clear e5 hc3 hs3
            by_cases hopq : op = 1
            · have hopb : (op == 1) = true := by simpa using hopq
              have SY := Lib.hid (fz_sync F5.out.1 HF.out)
              rw [RL1.out] at SY
              subst hopq
              go_wp2_with fail
              (with_reducible refine SY.out.mono ?_); rintro e w6 hcase
              rcases hcase with ⟨rfl, H6⟩ | ⟨rfl, H6⟩
              · have F6 := Lib.hid (fz_row R5.out H6.out)
                go_wp2
                go_roundg (n - (i + 1))
                case measure => omega
                case rel => exact ⟨i + 1, i + 1, _, c5, hlt, rfl, rfl, by go_num, by go_num, F6, PG2⟩
              · have D6 := Lib.hid (dd_row R5.out H6.out)
                go_wp2
                go_meet
                exact ⟨i + 1, k, _, c5, rfl, rfl, hlt, Lib.hid (.inr ⟨i + 1, Nat.le_refl _, D6.out⟩), PG2⟩
            · have hopb : (op == 1) = false := by simpa using hopq
              go_wp2
              go_roundg (n - (i + 1))
              case measure => omega
              case rel => exact ⟨i + 1, k, _, c5, hlt, rfl, rfl, rfl, by go_num, F5, PG2⟩
          · -- the power has failed
            have F4 := Lib.hid (dd_row ROW.out H3.out)
            clear AP H3 F3 HL
            have hc3 := ((DdRow.below F4.out).cell (p := ⟨b, o + i * 4 + 2, none⟩) hbb.out).trans HC.out
            have hs3 := (DdRow.below F4.out).size
            have OB : Hid (Below w3.heap.size w3 (w3.alloc (.cells #[.int .u64 st, .slice Ai pn ci] 40))) := Lib.hid (one_alloc w3 _)
            obtain ⟨vs, v1, v2, v3⟩ := F4.out.2
            have VL : Hid (vs.length = i) := Lib.hid (v1.trans RL.out)
            have OP := Lib.hid v2
            have V1 := Lib.hid v1
            have V3 := Lib.hid v3
            clear v1 v2 v3
            go_upto_region 18 with (at_builtin; refine wp_appP4 rfl (.tmp 69) (.tmp 79) rfl Tryz.underlying29 rec_info rfl (by decide) rfl VL.out.symm (OP.out.grew (one_alloc w3 _) (Nat.le_refl _)) (by simp; omega) rfl (obj2P (heap_alloc_new w3 _)).1 (obj2P (heap_alloc_new w3 _)).2 rfl rfl (by rw [VL.out]; omega) (r := i + 1) (by rw [VL.out]) ?_; intro A5 c5 w5 o5 g5 d5 k5; have O5 := Lib.hid o5; have G5 := Lib.hid g5; have D5 := Lib.hid d5; clear o5 g5 d5 k5)
            have R5 : Hid (RowOf w w5 A5 c5 (recsX 1 [] ps (i + 1))) := Lib.hid (by
              have o := O5.out
              rw [HPN.out] at o
              rw [RS.out]
              exact RowOf.snoc V1.out V3.out hby.out o)
            have F4a := Lib.hid (DdRow.grow F4.out OB.out)
            have F5 : Hid (DdRow w w5 T Lb (recsX 1 [] ps i) k true A5 c5 (recsX 1 [] ps (i + 1))) := Lib.hid ⟨DdAt.pushed F4a.out.1 F4a.out.2.lt G5.out D5.out, R5.out⟩
            clear F4 F4a G5 O5 D5 V1 V3 OP VL OB
            go_wp2
            go_meet
            exact ⟨i + 1, k, _, c5, rfl, rfl, hlt, Lib.hid (.inr ⟨i, by omega, F5.out⟩), PG2⟩
      · have e : i = n := by omega
        subst e
        go_wp2
        go_meet
        exact ⟨i, k, A, cap, rfl, rfl, Nat.le_refl _, Lib.hid (.inl HL.out), HP⟩
  case rest =>
    obtain ⟨i, k, A, cap, rfl, rfl, hi, HO, HP⟩ := hcut
    have CH := Lib.hid (recsX_chain (ep := 1) (rs0 := []) ps (by decide) (by decide) (by decide) trivial i (by simp; omega) HP.out)
    have QL : Hid ((recsX 1 [] ps i).length = i) := Lib.hid (by rw [recsX_len]; simp)
    have HO2 : Hid (FzRow w wc T Lb 100 (recsX 1 [] ps i) k A cap (recsX 1 [] ps i) ∨ ∃ j, DdRow w wc T Lb ((recsX 1 [] ps i).take j) k true A cap (recsX 1 [] ps i)) := Lib.hid (by
      rcases HO.out with F | ⟨j, hj, D⟩
      · exact .inl F
      · exact .inr ⟨j, by rw [recsX_take 1 ps i j hj]; exact D⟩)
    clear HO HP F3
    generalize recsX 1 [] ps i = Q at *
    have hi15 : (i : Int) ≤ 15 := by omega
    go_upto_region 24 with fail
    go_cut [113] from 101 to 112 (fun bv wx => (bv = .bool true ∧ 0 ≤ cut ∧ cut ≤ (i : Int) ∧ Hid (FzRow w wx T Lb 100 Q k A cap Q)) ∨ (bv = .bool false ∧ Hid (Later w wx T Lb Q k A cap)))
    case first =>
      rcases HO2.out with F | ⟨j, D⟩
      · have FF := Lib.hid F
        have OFF := Lib.hid (fz_off F.1)
        have ENq := Lib.hid (fz_end F.1)
        rw [QL.out] at ENq
        have hQ := Lib.hid (show Q.take i = Q by rw [List.take_of_length_le]; rw [QL.out]; exact Nat.le_refl _)
        clear F
        by_cases hc0 : 0 ≤ cut
        · go_wp2_with fail
          (with_reducible refine OFF.out.mono ?_); rintro e w' ⟨rfl, rfl⟩
          go_wp2_with fail
          (with_reducible refine ENq.out.mono ?_); rintro e w5 ⟨rfl, q1, rfl⟩
          have F5 := Lib.hid (FzRow.grow FF.out (below_n (Below.refl _ wc) q1))
          generalize wc.drewN q1 = w5 at *
          by_cases hce : cut ≤ (i : Int)
          · go_wp2
            go_meet
            exact .inl ⟨rfl, hc0, hce, F5⟩
          · go_wp2
            go_meet
            exact .inr ⟨by rw [decide_eq_false (by omega : ¬ cut ≤ (i : Int))], Lib.hid ⟨i, .inl (by rw [hQ.out]; exact F5.out)⟩⟩
        · go_wp2_with fail
          (with_reducible refine OFF.out.mono ?_); rintro e w' ⟨rfl, rfl⟩
          go_wp2
          go_meet
          exact .inr ⟨rfl, Lib.hid ⟨i, .inl (by rw [hQ.out]; exact FF.out)⟩⟩
      · have DD := Lib.hid D
        have OFF := Lib.hid (dd_off D.1)
        clear D
        go_wp2_with fail
        (with_reducible refine OFF.out.mono ?_); rintro e w' ⟨rfl, rfl⟩
        go_wp2
        go_meet
        exact .inr ⟨rfl, Lib.hid ⟨j, .inr DD.out⟩⟩
    case rest =>
    clear HO2
    go_upto_if 113 with fail
    go_cut [12] from 114 to 120 (fun sv wx => ∃ k2 : Nat, sv = .int .i64 (k2 : Int) ∧ Hid (Later w wx T Lb Q k2 A cap))
    case first =>
      rcases hcut with ⟨rfl, hc0, hce, F5⟩ | ⟨rfl, HL⟩
      · have CT := Lib.hid (fz_cut F5.out.1 HF.out cut hc0 (by rw [QL.out]; exact hce))
        go_wp2_with fail
        (with_reducible refine CT.out.mono ?_); rintro e w6 ⟨⟨er, rfl⟩, HC⟩
        have LT : Hid (Later w w6 T Lb Q (min k cut.toNat) A cap) := Lib.hid (by
          obtain ⟨c, F | D⟩ := HC.out
          · exact ⟨c, .inl (fz_row F5.out.2 F)⟩
          · exact ⟨c, .inr (dd_row F5.out.2 D)⟩)
        by_cases hlt : cut < (k : Int)
        · have E := Lib.hid (show ((min k cut.toNat : Nat) : Int) = cut by omega)
          go_wp2
          go_meet
          exact ⟨min k cut.toNat, by rw [E.out], LT⟩
        · have E := Lib.hid (show min k cut.toNat = k by omega)
          go_wp2
          go_meet
          exact ⟨min k cut.toNat, by rw [E.out], LT⟩
      · go_wp2
        go_meet
        exact ⟨k, rfl, HL⟩
    case rest =>
      obtain ⟨k2, rfl, HL⟩ := hcut
      have CR : Hid (Calls Tryz.prog 14 #[.pointer (some ⟨T, 0, none⟩), .slice A2 kn cap2] wc fun e w' => e = .returned (.tuple #[]) ∧ Hid (∃ c, DdRow w w' T Lb (Q.take c) k2 true A cap Q)) := Lib.hid (by
        rw [HK.out]
        obtain ⟨c, F | D⟩ := HL.out
        · exact (fz_crash F.1 A2 ks cap2 HKC.out (by rw [← HK.out]; omega) (ints_old HM2.out F.below)).mono fun e w' ⟨h1, h2⟩ => ⟨h1, Lib.hid ⟨c, dd_row F.2 h2.out⟩⟩
        · exact (dd_crash D.1 A2 ks cap2 HKC.out (by rw [← HK.out]; omega) (ints_old HM2.out D.below)).mono fun e w' ⟨h1, h2⟩ => ⟨h1, Lib.hid ⟨c, dd_row D.2 h2.out⟩⟩)
      clear HL
      go_wp2_with fail
      (with_reducible refine CR.out.mono ?_); rintro e w7 ⟨rfl, H7⟩
      obtain ⟨c, D7⟩ := H7.out
      have D7 := Lib.hid D7
      have ON := Lib.hid (dd_on D7.out.1)
      clear CR H7
      go_wp2_with fail
      (with_reducible refine ON.out.mono ?_); rintro e w8 ⟨rfl, H8⟩
      have D8 := Lib.hid (dd_row D7.out.2 H8.out)
      have OP := Lib.hid (dd_open (most := 100) D8.out.1 HF.out (chain_take c CH.out) (by decide) (by decide))
      clear ON H8 D7
      go_wp2_with fail
      (with_reducible refine OP.out.mono ?_); rintro e w9 ⟨Ly, m, rfl, hm1, hm2, L9⟩
      have hmi : m ≤ i := by
        rw [List.length_take, QL.out] at hm2
        omega
      have R9 := Lib.hid (RowOf.after D8.out.2 (fun g hg => LiveAt.block L9.out hg)).1
      have L9' : Hid (LiveAt w w9 T Ly 100 (Q.take m) m (gOf w8 A)) := Lib.hid (by
        have h := L9.out
        rw [List.length_take, QL.out] at hm2
        rw [List.take_take, Nat.min_eq_left (by omega)] at h
        exact h)
      have ML : Hid ((Q.take m).length = m) := Lib.hid (by rw [List.length_take, QL.out]; omega)
      have FI := Lib.hid (first_live L9'.out)
      have EN := Lib.hid (fun (W : World) (h : LiveAt w W T Ly 100 (Q.take m) m (gOf w8 A)) => by
        have := end_live h
        rw [ML.out] at this
        exact this)
      have E1 := Lib.hid (EN.out w9 L9'.out)
      have hlt1 : ¬ (m : Int) < (k2 : Int) := by omega
      have hlt2 : ¬ (i : Int) < (m : Int) := by omega
      clear OP L9 D8 hm2
      go_wp2_with fail
      (with_reducible refine FI.out.mono ?_); rintro e w' ⟨rfl, rfl⟩
      go_wp2_with fail
      (with_reducible refine E1.out.mono ?_); rintro e wa ⟨rfl, q1, rfl⟩
      have La := Lib.hid (LiveAt.grow L9'.out (below_n (Below.refl _ w9) q1))
      have Ra := Lib.hid (RowOf.grow R9.out (below_n (Below.refl _ w9) q1)).1
      generalize w9.drewN q1 = wa at *
      have E2 := Lib.hid (EN.out wa La.out)
      clear FI E1
      go_wp2_with fail
      (with_reducible refine E2.out.mono ?_); rintro e wb ⟨rfl, q2, rfl⟩
      have Lb2 := Lib.hid (LiveAt.grow La.out (below_n (Below.refl _ wa) q2))
      have Rb := Lib.hid (RowOf.grow Ra.out (below_n (Below.refl _ wa) q2)).1
      generalize wa.drewN q2 = wb at *
      have E3 := Lib.hid (EN.out wb Lb2.out)
      clear E2
      go_wp2_with fail
      (with_reducible refine E3.out.mono ?_); rintro e wd ⟨rfl, q3, rfl⟩
      have Ld := Lib.hid (LiveAt.grow Lb2.out (below_n (Below.refl _ wb) q3))
      have Rd := Lib.hid (RowOf.grow Rb.out (below_n (Below.refl _ wb) q3)).1
      generalize wb.drewN q3 = wd at *
      have hcap : m ≤ cap := by
        have := Rd.out.cap_
        rw [QL.out] at this
        omega
      have SLT := fun W => slice_toR A i cap m hcap W
      have AL := Lib.hid (alike_live Ld.out A m cap ML.out.symm (RowOf.rows Rd.out (LiveAt.below Ld.out) m (by rw [QL.out]; exact hmi)))
      clear E3 EN
      go_wp2_with fail
      (with_reducible refine AL.out.mono ?_); rintro e we ⟨rfl, BE⟩
      have BF : Hid (Below w.heap.size w we) := Lib.hid ((LiveAt.below Ld.out).trans (BE.out.mono (LiveAt.below Ld.out).size))
      go_wp2
      go_ret
      exact ⟨rfl, BF.out⟩
set_option maxRecDepth 20000 in
set_option maxHeartbeats 4000000 in
theorem fuses_off (A0 : Option Addr) (n cap0 : Nat) (at_ : Int) (A2 : Option Addr) (k cap2 : Nat) (cut : Int) (h : 15 < n ∨ 70 < k ∨ at_ < 1 ∨ 100 < at_) (w : World) (hF : Facts w) :
    Calls Tryz.prog 3 #[.slice A0 n cap0, .int .i64 at_, .slice A2 k cap2, .int .i64 cut] w (TrueF w) := by
  have AW := Lib.hid (awake_any (w0 := w) (Below.refl _ _) hF)
  clear hF
  have hc : (15 : Int) < (n : Int) ∨ (¬ (15 : Int) < (n : Int) ∧ (70 : Int) < (k : Int)) ∨ (¬ (15 : Int) < (n : Int) ∧ ¬ (70 : Int) < (k : Int) ∧ at_ < 1) ∨ (¬ (15 : Int) < (n : Int) ∧ ¬ (70 : Int) < (k : Int) ∧ ¬ at_ < 1 ∧ 100 < at_) := by omega
  clear h
  rcases hc with hc | ⟨hc, hc2⟩ | ⟨hc, hc2, hc3⟩ | ⟨hc, hc2, hc3, hc4⟩
  all_goals
    go_enter Tryz.func3, Tryz.ntmps3
    go_wp2_with fail
    (with_reducible refine AW.out.mono ?_); rintro e w1 ⟨rfl, B1⟩
    go_wp2
    go_ret
    exact ⟨rfl, B1.out⟩
theorem fuses_walk (A0 : Option Addr) (ms : List Fa) (cap0 : Nat) (at_ : Int) (A2 : Option Addr) (ks : List Int) (cap2 : Nat) (cut : Int) (w : World) (hm : FActs w w.heap.size A0 ms) (hkc : ks.length ≤ cap2) (hm2 : Nums w w.heap.size A2 ks) (u0 : -9223372036854775808 ≤ cut) (u1 : cut ≤ 9223372036854775807) (hF : Facts w) :
    Calls Tryz.prog 3 #[.slice A0 ms.length cap0, .int .i64 at_, .slice A2 ks.length cap2, .int .i64 cut] w fun e w' => e = .returned (.bool true) ∧ Below w.heap.size w w' := by
  by_cases h : ms.length ≤ 15 ∧ ks.length ≤ 70 ∧ 1 ≤ at_ ∧ at_ ≤ 100
  · exact fuses_core A0 ms cap0 at_ A2 ks cap2 cut h.1 h.2.1 hkc h.2.2.1 h.2.2.2 u0 u1 w hm hm2 hF
  · exact fuses_off A0 _ cap0 at_ A2 _ cap2 cut (by omega) w hF
end Go.Proofs.YtdbhicifjljjnaaGreatDoor
