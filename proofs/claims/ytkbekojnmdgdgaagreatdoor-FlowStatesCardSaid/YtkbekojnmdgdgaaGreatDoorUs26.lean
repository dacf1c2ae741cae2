/-
  Part 26 of the texts behind the law: UFlCopies, UFlKeyPut, UFlCloneF, UFlEqs, UFlSame.
-/
import Derived.Test.YtkbekojnmdgdgaaGreatDoorUs20
import Derived.Test.YtkbekojnmdgdgaaGreatDoorUs11
import Derived.Test.YtkbekojnmdgdgaaGreatDoorUs24
import Derived.Laws.MakeOwn
import Derived.Test.YtkbekojnmdgdgaaGreatDoorUs5
import Derived.Test.YtkbekojnmdgdgaaGreatDoorUs25
import Derived.Test.YtkbekojnmdgdgaaGreatDoorUs9
import Derived.Test.YtkbekojnmdgdgaaGreatDoorUs2
import Derived.Test.YtkbekojnmdgdgaaGreatDoorUs23
import Derived.BigQuiet
import Derived.Deep.QuietTactic
/- FlCopies -/
namespace Go.Proofs.YtkbekojnmdgdgaaGreatDoor
open Go.RowKit
set_option maxRecDepth 20000
theorem made_flatK (z : Array Value) (k n : Nat) (hk : z.size = k) (h0 : 0 < k) (hw : Wide k (List.replicate n z.toList)) : (madeCells z (n * k)).toList = (List.replicate n z.toList).flatten := by
 have hl := hw.len
 rw [List.length_replicate] at hl
 refine List.ext_getElem (by rw [Array.length_toList, size_madeCells, hl]) fun j h1 h2 => ?_
 have hj : j < n * k := by rw [hl] at h2; exact h2
 have hi : j / k < n := by rw [Nat.div_lt_iff_lt_mul h0]; exact hj
 have hg := hw.get (j / k) (j % k) (by rw [List.length_replicate]; exact hi) (Nat.mod_lt _ h0)
 rw [show j / k * k + j % k = j by rw [Nat.mul_comm]; exact Nat.div_add_mod j k, getD_at (by rw [List.length_replicate]; exact hi), List.getElem_replicate, List.getElem?_eq_getElem h2] at hg
 have e : (madeCells z (n * k)).toList[j] = z[j % z.size]! := by simp [madeCells]
 have hm : j % z.size < z.size := Nat.mod_lt _ (by omega)
 rw [e, getElem!_pos z _ hm]
 subst hk
 have h3 : z.toList[j % z.size]? = some z[j % z.size] := by rw [List.getElem?_eq_getElem (by simpa using hm)]; simp
 rw [h3] at hg
 exact (Option.some.inj hg).symm
theorem own_made (W : World) (T : TypeId) (z : Array Value) (n k : Nat) (hk : z.size = k) (h0 : 0 < k) (hz : ∀ u ∈ z.toList, u.oneCell' = true) (hn : n ≤ 1000000) : OwnK (W.alloc (.cells (madeCells z (n * k)) T)) W.heap.size T k (some ⟨W.heap.size, 0, none⟩) n (List.replicate n z.toList) := by
 have hw : Wide k (List.replicate n z.toList) := fun v hv => by
  rw [List.eq_of_mem_replicate hv]
  exact ⟨by rw [Array.length_toList]; exact hk, hz⟩
 have := OwnK.lit (w := W) (T := T) (List.replicate n z.toList) hw (by rw [List.length_replicate]; omega) (madeCells z (n * k)) (made_flatK z k n hk h0 hw)
 rw [List.length_replicate] at this
 exact this
def rwV (rs : List Rn.R) (f : Nat → At3) : List (List Value) := (List.range rs.length).map fun i => rnV (f i) (rs.getD i Rn.r0)
def cpV (rs : List Rn.R) (f : Nat → At3) (k : Nat) : List (List Value) := (List.range rs.length).map fun i => if i < k then rnV (f i) (rs.getD i Rn.r0) else rnV at0 Rn.r0
theorem cpV_len (rs : List Rn.R) (f : Nat → At3) (k : Nat) : (cpV rs f k).length = rs.length := by simp [cpV]
theorem cpV_zero (rs : List Rn.R) (f : Nat → At3) : cpV rs f 0 = List.replicate rs.length (rnV at0 Rn.r0) := by
 refine List.ext_getElem (by simp [cpV]) fun i h1 h2 => ?_
 simp [cpV]
theorem cpV_all (rs : List Rn.R) (f : Nat → At3) : cpV rs f rs.length = rwV rs f := by
 refine List.ext_getElem (by simp [cpV, rwV]) fun i h1 h2 => ?_
 have : i < rs.length := by simpa [cpV] using h1
 simp [cpV, rwV, this]
theorem cpV_set (rs : List Rn.R) (f : Nat → At3) {k : Nat} (hk : k < rs.length) (q : At3) : (cpV rs f k).set k (rnV q (rs.getD k Rn.r0)) = cpV rs (fun i => if i = k then q else f i) (k + 1) := by
 refine List.ext_getElem (by simp [cpV]) fun i h1 h2 => ?_
 rw [List.getElem_set]
 simp only [cpV, List.getElem_map, List.getElem_range]
 by_cases e : k = i
 ·subst e
  rw [if_pos rfl, if_pos (by omega), if_pos rfl]
 ·have e2 : i ≠ k := fun h => e h.symm
  by_cases h : i < k
  ·simp [h, e, e2, show i < k + 1 by omega]
  ·simp [h, e, show ¬ i < k + 1 by omega]
theorem rsV_rw (l : List (Rn.R × ByteArray)) (f : Nat → At3) : rsV l f = rwV (l.map (·.1)) f := by
 refine List.ext_getElem (by simp [rsV, rwV]) fun i h1 h2 => ?_
 have hi : i < l.length := by rw [rsV_len] at h1; exact h1
 rw [rsV_get, rAt_get hi]
 simp [rwV, hi]
def CopsG (w : World) (rs : List Rn.R) (n : Nat) (e : Ending) (w' : World) : Prop :=
 ∃ Y f, e = .returned (.slice (some ⟨Y, 0, none⟩) n n) ∧ Hid (OwnK w' w.heap.size 41 4 (some ⟨Y, 0, none⟩) n (rwV rs f)) ∧ Hid (∀ i, i < rs.length → RunO w' (fun b => w.heap.size ≤ b ∧ b ≠ Y) (f i) (rs.getD i Rn.r0)) ∧ Hid (Below w.heap.size w w')
def zeroRn : Array Value := #[.slice none 0 0, .int .i64 0, .slice none 0 0, .slice none 0 0]
theorem made_Rn (n : Nat) (hn : n ≤ 1000000) (W : World) : (Instr.makeSlice 54 (.int .i64 (n : Int)) (.int .i64 (n : Int))).run Tryz.prog W = .ok (.slice (some ⟨W.heap.size, 0, none⟩) n n) (W.alloc (.cells (madeCells zeroRn (n * 4)) 41)) := by
 obtain ⟨i, hi, hz, hs, hy⟩ := info_parts infoRn
 have hr := run_make (P := Tryz.prog) W 54 41 i _ Tryz.underlying54 hi hz .i64 .i64 n n (by omega) (Int.le_refl _) (by rw [hy]; omega) (by omega)
 rw [hs, Int.toNat_natCast] at hr
 exact hr
theorem OwnK.four {w : World} {base b cap : Nat} {T : TypeId} {vs : List (List Value)} (h : OwnK w base T 4 (some ⟨b, 0, none⟩) cap vs) {k : Nat} (hk : k < vs.length) :
  ∃ u0 u1 u2 u3, w.cell? ⟨b, k * 4, none⟩ = some u0 ∧ w.cell? ⟨b, k * 4 + 1, none⟩ = some u1 ∧ w.cell? ⟨b, k * 4 + 2, none⟩ = some u2 ∧ w.cell? ⟨b, k * 4 + 3, none⟩ = some u3 := by
 have hl := (h.2 (vs.getD k []) (by rw [getD_at hk]; exact List.getElem_mem _)).1
 obtain ⟨x0, x1, x2, x3, e⟩ : ∃ x0 x1 x2 x3, vs.getD k [] = [x0, x1, x2, x3] := by
  match vs.getD k [], hl with
  | [x0, x1, x2, x3], _ => exact ⟨x0, x1, x2, x3, rfl⟩
 have key : ∀ (j : Nat) (u : Value), j < 4 → [x0, x1, x2, x3][j]? = some u → w.cell? ⟨b, k * 4 + j, none⟩ = some u := fun j u hj hu => h.cell hk hj (by rw [e]; exact hu)
 exact ⟨x0, x1, x2, x3, key 0 _ (by decide) rfl, key 1 _ (by decide) rfl, key 2 _ (by decide) rfl, key 3 _ (by decide) rfl⟩
def CpI (w : World) (rs : List Rn.R) (n k : Nat) (wr : World) : Prop := ∃ f, OwnK wr w.heap.size 41 4 (some ⟨w.heap.size, 0, none⟩) n (cpV rs f k) ∧ (∀ i, i < k → RunO wr (fun b => w.heap.size < b) (f i) (rs.getD i Rn.r0)) ∧ Below w.heap.size w wr
set_option maxHeartbeats 4000000 in
theorem copiesOf_any (A : Option Addr) (c : Nat) (rs : List Rn.R) (hB : ∀ r ∈ rs, Bd r) (h9 : rs.length ≤ 1000) (n : Nat) (hn : n = rs.length) (w : World) (O : Nat → Prop) (h : RunsO w O A rs) :
  Calls Tryz.prog 37 #[.slice A n c] w (CopsG w rs n) := by
 have H := Lib.hid h
 have HB := Lib.hid hB
 have HN := Lib.hid hn
 have hn9 : n ≤ 1000 := by rw [hn]; exact h9
 have ME := made_Rn n (by omega)
 obtain ⟨w1, hw1⟩ : ∃ w1, w1 = w.alloc (.cells (madeCells zeroRn (n * 4)) 41) := ⟨_, rfl⟩
 have I0 : Hid (CpI w rs n 0 w1) := Lib.hid ⟨fun _ => at0, by
  rw [cpV_zero, ← hn, hw1]
  exact own_made w _ zeroRn n 4 rfl (by decide) (fun u hu => by simp [zeroRn] at hu; rcases hu with rfl | rfl | rfl | rfl <;> rfl) (by omega), fun i hi => by omega, by rw [hw1]; exact (Below.refl _ _).alloc (Nat.le_refl _) _⟩
 clear h hB h9 hn
 go_enter Tryz.func37, Tryz.ntmps37
 go_upto_region 2 with (fail)
 rw [← hw1]
 clear hw1 ME
 go_wp2_with fail
 go_loopw [11] (fun iv wr => ∃ k : Nat, k ≤ n ∧ iv = .int .i64 k ∧ Hid (CpI w rs n k wr)) (fun iv _ => n - (intOf iv).toNat)
 case atStart => exact ⟨0, Nat.zero_le _, rfl, I0⟩
 case round =>
  obtain ⟨k, hk, rfl, HI⟩ := hrel
  by_cases hlt : k < n
  ·have hlt' : (k : Int) < (n : Int) := by omega
   have HK : Hid (k < rs.length) := Lib.hid (by rw [← HN.out]; exact hlt)
   obtain ⟨f, own, inn, bel⟩ := HI.out
   have OW := Lib.hid own
   have IN := Lib.hid inn
   have BW := Lib.hid bel
   obtain ⟨b, off, hA, ho, hb, hc⟩ := H.out (by have := HK.out; omega)
   obtain ⟨p, e0, e1, e2, e3, hr, hst⟩ := hc k HK.out
   have d0 : wr.cell? ⟨b, off + k * 4, none⟩ = some (.slice p.A (rs.getD k Rn.r0).d.length p.ca) := (bel.cell (p := ⟨b, off + k * 4, none⟩) hb).trans e0
   have d1 : wr.cell? ⟨b, off + k * 4 + 1, none⟩ = some (.int .i64 (rs.getD k Rn.r0).st) := (bel.cell (p := ⟨b, off + k * 4 + 1, none⟩) hb).trans e1
   have d2 : wr.cell? ⟨b, off + k * 4 + 2, none⟩ = some (.slice p.T (rs.getD k Rn.r0).ts.length p.ct) := (bel.cell (p := ⟨b, off + k * 4 + 2, none⟩) hb).trans e2
   have d3 : wr.cell? ⟨b, off + k * 4 + 3, none⟩ = some (.slice p.S (rs.getD k Rn.r0).sg.length p.cs) := (bel.cell (p := ⟨b, off + k * 4 + 3, none⟩) hb).trans e3
   have CU := Lib.hid (fun W (hW : Below w.heap.size w W) => copyOf_p p (rs.getD k Rn.r0) (HB.out _ (by rw [getD_at HK.out]; exact List.getElem_mem _)) W O (hr.on hW))
   have CS := Lib.hid (fun q => cpV_set rs f HK.out q)
   subst hA
   clear own inn bel hc e0 e1 e2 e3 hr hst ho hb HI
   unfold rv at CU
   obtain ⟨r, hr⟩ : ∃ r, r = rs.getD k Rn.r0 := ⟨_, rfl⟩
   have RR := Lib.hid hr
   rw [← hr] at d0 d1 d2 d3 CU CS
   clear hr
   obtain ⟨an, han⟩ : ∃ z, z = r.d.length := ⟨_, rfl⟩
   obtain ⟨st, hst⟩ : ∃ z, z = r.st := ⟨_, rfl⟩
   obtain ⟨tn, htn⟩ : ∃ z, z = r.ts.length := ⟨_, rfl⟩
   obtain ⟨sn, hsn⟩ : ∃ z, z = r.sg.length := ⟨_, rfl⟩
   have RL : Hid (r.d.length = an ∧ r.st = st ∧ r.ts.length = tn ∧ r.sg.length = sn) := Lib.hid ⟨han.symm, hst.symm, htn.symm, hsn.symm⟩
   rw [← han] at d0 CU
   rw [← hst] at d1 CU
   rw [← htn] at d2 CU
   rw [← hsn] at d3 CU
   clear han hst htn hsn
   obtain ⟨w2, hw2⟩ : ∃ w2, w2 = wr.alloc (.cells #[.slice p.A an p.ca, .int .i64 st, .slice p.T tn p.ct, .slice p.S sn p.cs] 41) := ⟨_, rfl⟩
   have B2 : Hid (Below wr.heap.size wr w2) := Lib.hid (by rw [hw2]; exact (Below.refl _ _).alloc (Nat.le_refl _) _)
   have X2 : Hid (w2.heap[wr.heap.size]? = some (.cells #[.slice p.A an p.ca, .int .i64 st, .slice p.T tn p.ct, .slice p.S sn p.cs] 41 (0, 0))) := Lib.hid (by rw [hw2]; exact heap_alloc_new _ _)
   have BB : Hid (Below w.heap.size w w2) := Lib.hid (BW.out.trans (B2.out.mono BW.out.size))
   go_upto_region 5 with (fail)
   rw [← hw2]
   obtain ⟨⟨z0, z1, z2, z3⟩, -⟩ := obj4 X2.out
   clear hw2 d0 d1 d2 d3
   go_wp2_with fail
   refine (CU.out w2 BB.out).mono ?_; rintro e w3 ⟨q, rfl, o3, b3⟩
   have O3 : Hid (OwnK w3 w.heap.size 41 4 (some ⟨w.heap.size, 0, none⟩) n (cpV rs f k)) := Lib.hid (OW.out.kept fun i _ hl => (b3.out.block i (Nat.lt_of_lt_of_le hl B2.out.size)).trans (B2.out.block i hl))
   have ff := fun i => O3.out.thawed i
   have g0 := ff (k * 4)
   have g1 := ff (k * 4 + 1)
   have g2 := ff (k * 4 + 2)
   have g3 := ff (k * 4 + 3)
   obtain ⟨u0, u1, u2, u3, c0, c1, c2, c3⟩ := O3.out.four (k := k) (by rw [cpV_len]; exact HK.out)
   have R3 : Hid (RunO w3 (fun b => w2.heap.size ≤ b) q r) := Lib.hid o3.out.runO
   have NX : Hid (CpI w rs n (k + 1) (RS w3 w.heap.size k q an st tn sn)) := Lib.hid (by
    have ks : (cpV rs f k).length = rs.length := cpV_len _ _ _
    have p1 := rnV_put O3.out (k := k) (by rw [ks]; exact HK.out) q r
    rw [CS.out q, RL.out.1, RL.out.2.1, RL.out.2.2.1, RL.out.2.2.2] at p1
    have sz := RS.size_ w3 w.heap.size k q an st tn sn
    have yl : w.heap.size < wr.heap.size := lt_of_block (OW.out.block_).choose_spec
    have s2 := B2.out.size
    have s3 := b3.out.size
    refine ⟨_, p1, fun i hi => ?_, ?_⟩
    ·by_cases e : i = k
     ·subst e
      rw [if_pos rfl, ← RR.out]
      exact (R3.out.keep (Nat.le_of_eq sz.symm) fun b hb _ => RS.else_ _ _ _ _ _ _ _ _ (by omega)).imp fun b _ hb => by omega
     ·rw [if_neg e]
      exact (IN.out i (by omega)).keep (by omega) fun b hb hl => (RS.else_ _ _ _ _ _ _ _ _ (by omega)).trans ((b3.out.block b (by omega)).trans (B2.out.block b hl))
    ·exact ⟨by show w3.os = _; exact b3.out.os.trans BB.out.os, by show w3.tape = _; exact b3.out.tape.trans BB.out.tape, by show w3.output = _; exact b3.out.output.trans BB.out.output, by rw [sz]; have := BB.out.size; omega, fun b hb => (RS.else_ _ _ _ _ _ _ _ _ (by omega)).trans ((b3.out.block b (by have := BB.out.size; omega)).trans (BB.out.block b hb))⟩)
   clear ff z0 z1 z2 z3
   go_wp2
   rw [RS.lit]
   clear g0 g1 g2 g3 c0 c1 c2 c3
   go_roundw
   case rel => exact ⟨k + 1, by omega, by go_num, NX⟩
   case measure => simp [intOf]; omega
  ·obtain rfl : k = n := by omega
   have hge : ¬ (k : Int) < (k : Int) := by omega
   go_wp2
   go_ret
   obtain ⟨f, own, inn, bel⟩ := HI.out
   rw [HN.out, cpV_all, ← HN.out] at own
   exact ⟨w.heap.size, f, rfl, Lib.hid own, Lib.hid fun i hi => (inn i (by rw [HN.out]; exact hi)).imp fun b _ hb => ⟨by omega, by omega⟩, Lib.hid bel⟩
end Go.Proofs.YtkbekojnmdgdgaaGreatDoor
/- FlKeyPut -/
namespace Go.Proofs.YtkbekojnmdgdgaaGreatDoor
open Go.RowKit Go.Maps
set_option maxRecDepth 20000
theorem OwnK.srcK {w : World} {base k cap : Nat} {T : TypeId} {A : Option Addr} {vs : List (List Value)} (h : OwnK w base T k A cap vs) (hk : 0 < k) : Src w A vs :=
 src_of hk h.2 fun hn => by
  obtain ⟨b, rfl, _, hb⟩ := h.shape hn
  refine ⟨b, 0, rfl, hb, fun i hi j hj => ?_⟩
  have hl : j < (vs.getD i []).length := by
   rw [getD_at hi, (h.2 _ (List.getElem_mem hi)).1]
   exact hj
  rw [Nat.zero_add]
  exact (h.cell hi hj (List.getElem?_eq_getElem hl)).trans (List.getElem?_eq_getElem hl).symm
structure Sound (s : Fw.S) : Prop where
 bd : ∀ p ∈ s.runs, Bd p.1
 st : ∀ p ∈ s.runs, inI p.1.st
 ki : Ky.Inv (Fw.ks s)
 c : inI s.clock
 nd : ∀ p ∈ s.defs, p.1.size ≤ 16
 no : ∀ p ∈ s.runs, p.2.size ≤ 16
theorem FPM.runsO {w : World} {g : Nat} {a : FAt} {s : Fw.S} (h : FPM w g a s) (hS : ∀ p ∈ s.runs, inI p.1.st) : RunsO w (fun i => mine g a i ∨ a.Q i) a.R (s.runs.map (·.1)) := fun hn => by
 rw [List.length_map] at hn
 obtain ⟨b, hA, -, hb⟩ := h.runs.shape (by rw [rsV_len]; exact hn)
 have hrow := h.runs
 rw [hA] at hrow
 refine ⟨b, 0, hA, .inl (.inr (.inr (.inl ⟨_, hA, rfl⟩))), hb, fun i hi => ?_⟩
 rw [List.length_map] at hi
 obtain ⟨y0, y1, y2, y3⟩ := rsV_cells hrow hi
 have e : (s.runs.map (·.1)).getD i Rn.r0 = rAt s.runs i := by
  rw [rAt_get hi, getD_at (by rw [List.length_map]; exact hi), List.getElem_map]
 rw [e]
 refine ⟨a.f i, ?_, ?_, ?_, ?_, (h.inner i hi).imp fun _ _ h => .inr h, by rw [rAt_get hi]; exact hS _ (List.getElem_mem hi)⟩
 ·show w.cell? ⟨b, 0 + i * 4 + 0, none⟩ = _
  rw [Nat.zero_add]; exact y0
 ·show w.cell? ⟨b, 0 + i * 4 + 1, none⟩ = _
  rw [Nat.zero_add]; exact y1
 ·show w.cell? ⟨b, 0 + i * 4 + 2, none⟩ = _
  rw [Nat.zero_add]; exact y2
 ·show w.cell? ⟨b, 0 + i * 4 + 3, none⟩ = _
  rw [Nat.zero_add]; exact y3
theorem Ky.putS_new {l : List Ky.T} {t : Ky.T} (h : ∀ a ∈ l, Ky.same a t.name t.key = false) (hl : l.length < 128) : Ky.putS ⟨128, l⟩ t.name t.key t.id = ⟨128, l ++ [t]⟩ := by
 have hf : Ky.findV ⟨128, l⟩ t.name t.key = none := Ky.find_none.2 h
 unfold Ky.putS
 rw [hf]
 show (⟨128, Ky.pushL ⟨128, l⟩ t⟩ : Ky.S) = _
 unfold Ky.pushL
 rw [if_neg (by show ¬ ((l.length : Int) = 128); omega)]
theorem Ky.Inv.fresh {l : List Ky.T} (h : Ky.Inv ⟨128, l⟩) {k : Nat} (hk : k < l.length) : ∀ a ∈ l.take k, Ky.same a l[k].name l[k].key = false := fun a ha => by
 obtain ⟨i, hi, rfl⟩ := List.getElem_of_mem ha
 rw [List.length_take] at hi
 rw [List.getElem_take]
 have hik : i < k := by omega
 have h1 : Ky.same l[k] l[i].name l[i].key = false := List.pairwise_iff_getElem.1 h.once i k (by show i < l.length; omega) hk hik
 cases hs : Ky.same l[i] l[k].name l[k].key with
 | false => rfl
 | true =>
  obtain ⟨e1, e2⟩ := Ky.same_iff.1 hs
  rw [Ky.same_iff.2 ⟨e1.symm, e2.symm⟩] at h1
  cases h1
theorem PK.oks {w : World} {g : Nat} {O : Nat → Prop} {s : Ky.S} (h : PK w g O s) : ∀ t ∈ s.l, Ky.ok t.name t.key t.id := fun t ht => by
 obtain ⟨m, A, c, p, ho⟩ := h
 obtain ⟨h1, h2, h3⟩ := p.map.okK2 t ht
 exact ⟨⟨h1, h2⟩, h3⟩
end Go.Proofs.YtkbekojnmdgdgaaGreatDoor
/- FlCloneF -/
namespace Go.Proofs.YtkbekojnmdgdgaaGreatDoor
open Go.RowKit Go.Maps
set_option maxRecDepth 20000
theorem rwO {W : World} {Y : Nat} {rs : List Rn.R} {f : Nat → At3} {O : Nat → Prop} (h : ∀ i, i < rs.length → RunO W O (f i) (rs.getD i Rn.r0)) {l : List (Rn.R × ByteArray)} (hl : rs = l.map (·.1)) : ∀ i, i < l.length → RunO W O (f i) (rAt l i) := fun i hi => by
 subst hl
 have := h i (by rw [List.length_map]; exact hi)
 rw [getD_at (by rw [List.length_map]; exact hi), List.getElem_map] at this
 rw [rAt_get hi]
 exact this
end Go.Proofs.YtkbekojnmdgdgaaGreatDoor
/- FlEqs -/
namespace Go.Proofs.YtkbekojnmdgdgaaGreatDoor
open Go.RowKit Go.Maps
set_option maxRecDepth 20000
theorem dfE_cells : Tryz.prog.cellsOf 81 = 2 := by kernel_rfl
theorem dfE_key : Tryz.prog.keyTypeAt 2 81 = true := by kernel_rfl
theorem dfE_lits (d : Nat) (a b : ByteArray) (h : Ky.okk a b) : Tryz.prog.keyLits (d + 2) 81 [.string a, .string b] = some [.string a.data.toList, .string b.data.toList] := by
 have h1 : ∀ x : ByteArray, x.size ≤ 9223372036854775807 → Tryz.prog.keyLits (d + 1) 9 [.string x] = some [.string x.data.toList] := fun x hx => by
  unfold Program.keyLits
  simp only [Tryz.underlying9]
  rw [if_pos (by unfold maxLen; omega)]
 conv => lhs; unfold Program.keyLits
 simp only [Tryz.underlying81, dfE_cells]
 simp [h1 a h.1, h1 b h.2, strE_cells]
theorem dfE_neq (a b a' b' : ByteArray) (h : Ky.okk a b) (h' : Ky.okk a' b') (W : World) :
  (binOp .neq 81 (.agg #[.string a, .string b]) (.agg #[.string a', .string b'])).run Tryz.prog W = .ok (.bool (!decide ((a, b) = (a', b')))) W := by
 have hf : ∀ (x y : ByteArray), (Value.agg #[.string x, .string y]).formed Tryz.prog 81 = true := fun x y => by simp [Value.formed, Tryz.underlying81, dfE_cells]
 obtain ⟨r, hr, hiff⟩ := run_equalIn_deep 9998 2 81 dfE_key W 2 2 (.agg #[.string a, .string b]) (.agg #[.string a', .string b']) _ _ (hf a b) (hf a' b') (dfE_lits 0 a b h) (dfE_lits 0 a' b' h')
 rw [run_neq_struct, hr]
 have e : r = decide ((a, b) = (a', b')) := by
  rw [Bool.eq_iff_iff, hiff]
  simp [bdata]
 rw [e]; rfl
def PrsO (w : World) (A : Option Addr) (l : List (ByteArray × ByteArray)) : Prop := (∀ p ∈ l, Ky.okk p.1 p.2) ∧ (0 < l.length → ∃ b off, A = some ⟨b, off, none⟩ ∧ b < w.heap.size ∧ ∀ i (hi : i < l.length), w.cell? ⟨b, off + i * 2, none⟩ = some (.string l[i].1) ∧ w.cell? ⟨b, off + i * 2 + 1, none⟩ = some (.string l[i].2))
def EnsO (w : World) (A : Option Addr) (l : List Ky.T) : Prop := (∀ t ∈ l, Ky.ok t.name t.key t.id) ∧ (0 < l.length → ∃ b off, A = some ⟨b, off, none⟩ ∧ b < w.heap.size ∧ ∀ i (hi : i < l.length), w.cell? ⟨b, off + i * 3, none⟩ = some (.string l[i].name) ∧ w.cell? ⟨b, off + i * 3 + 1, none⟩ = some (.string l[i].key) ∧ w.cell? ⟨b, off + i * 3 + 2, none⟩ = some (.int .i64 l[i].id))
set_option maxHeartbeats 1000000 in
theorem equalDf_p (A B : Option Addr) (l l2 : List (ByteArray × ByteArray)) (n m c c2 : Nat) (hn : n = l.length) (hm : m = l2.length) (h9 : n ≤ 1100) (w : World) (h : PrsO w A l) (h2 : PrsO w B l2) :
  Calls Tryz.prog 41 #[.slice A n c, .slice B m c2] w (BoolG w (decide (l = l2))) := by
 have H1 := Lib.hid h
 have H2 := Lib.hid h2
 have HN := Lib.hid hn
 have HM := Lib.hid hm
 obtain ⟨v, hv⟩ : ∃ v, v = decide (l = l2) := ⟨_, rfl⟩
 have V := Lib.hid hv
 rw [← hv]
 clear h h2 hn hm hv
 by_cases hl : n = m
 ·subst hl
  go_enter Tryz.func41, Tryz.ntmps41
  go_wp2
  go_loopw [13] (fun iv wr => ∃ k : Nat, k ≤ n ∧ iv = .int .i64 k ∧ Hid (EqTo l l2 k) ∧ Hid (Below w.heap.size w wr)) (fun iv _ => n - (intOf iv).toNat)
  case atStart => exact ⟨0, Nat.zero_le _, rfl, Lib.hid rfl, Lib.hid (Below.refl _ _)⟩
  case round =>
   obtain ⟨k, hk, rfl, HK, HB⟩ := hrel
   by_cases hlt : k < n
   ·have hlt' : (k : Int) < (n : Int) := by omega
    have K1 : Hid (k < l.length) := Lib.hid (by rw [← HN.out]; exact hlt)
    have K2 : Hid (k < l2.length) := Lib.hid (by rw [← HM.out]; exact hlt)
    obtain ⟨b1, o1, rfl, hb1, hc1⟩ := H1.out.2 (by rw [← HN.out]; omega)
    have hq1 := hc1 k K1.out
    clear hc1
    obtain ⟨z1, E1⟩ : ∃ z, Hid (z = l[k]'K1.out) := ⟨_, Lib.hid rfl⟩
    have I1 : Hid (Ky.okk z1.1 z1.2) := Lib.hid (by rw [E1.out]; exact H1.out.1 _ (List.getElem_mem _))
    rw [← E1.out] at hq1
    have s10 : w.cell? ⟨b1, o1 + k * 2, none⟩ = some (.string z1.1) := hq1.1
    have s11 : w.cell? ⟨b1, o1 + k * 2 + 1, none⟩ = some (.string z1.2) := hq1.2
    have t10 := (HB.out.cell (block_lt s10)).trans s10
    have t11 := (HB.out.cell (block_lt s11)).trans s11
    clear s10 s11 hb1 hq1
    obtain ⟨b2, o2, rfl, hb2, hc2⟩ := H2.out.2 (by rw [← HM.out]; omega)
    have hq2 := hc2 k K2.out
    clear hc2
    obtain ⟨z2, E2⟩ : ∃ z, Hid (z = l2[k]'K2.out) := ⟨_, Lib.hid rfl⟩
    have I2 : Hid (Ky.okk z2.1 z2.2) := Lib.hid (by rw [E2.out]; exact H2.out.1 _ (List.getElem_mem _))
    rw [← E2.out] at hq2
    have s20 : w.cell? ⟨b2, o2 + k * 2, none⟩ = some (.string z2.1) := hq2.1
    have s21 : w.cell? ⟨b2, o2 + k * 2 + 1, none⟩ = some (.string z2.2) := hq2.2
    have t20 := (HB.out.cell (block_lt s20)).trans s20
    have t21 := (HB.out.cell (block_lt s21)).trans s21
    clear s20 s21 hb2 hq2
    have BN : ∀ nq, Hid (Below w.heap.size w (wr.drewN nq)) := fun nq => Lib.hid (below_n HB.out nq)
    by_cases e : z1 = z2
    ·have R := Lib.hid (HK.out.next K1.out K2.out (by rw [← E1.out, ← E2.out, e]))
     clear E1 E2
     subst e
     have NQ : ∀ W, (binOp .neq 81 (.agg #[.string z1.1, .string z1.2]) (.agg #[.string z1.1, .string z1.2])).run Tryz.prog W = .ok (.bool false) W := fun W => by have := dfE_neq z1.1 z1.2 z1.1 z1.2 I1.out I1.out W; rw [decide_eq_true rfl] at this; exact this
     go_wp2_with fail
     go_quiet (fail)
     go_wp2
     go_roundw
     case rel => exact ⟨k + 1, by omega, by go_num, R, BN _⟩
     case measure => simp [intOf]; omega
    ·have R : Hid (v = false) := Lib.hid (by rw [V.out]; exact decide_eq_false (at_ne K1.out K2.out (by rw [← E1.out, ← E2.out]; exact e)))
     have NQ : ∀ W, (binOp .neq 81 (.agg #[.string z1.1, .string z1.2]) (.agg #[.string z2.1, .string z2.2])).run Tryz.prog W = .ok (.bool true) W := fun W => by have := dfE_neq z1.1 z1.2 z2.1 z2.2 I1.out I2.out W; rw [decide_eq_false (fun h => e (by cases z1; cases z2; exact h))] at this; exact this
     clear E1 E2
     go_wp2_with fail
     go_quiet (fail)
     go_wp2
     go_ret
     exact ⟨ret_bool R.out.symm, BN _⟩
   ·obtain rfl : k = n := by omega
    have hge : ¬ (k : Int) < (k : Int) := by omega
    have R : Hid (v = true) := Lib.hid (by rw [V.out]; exact decide_eq_true (HK.out.done HN.out HM.out))
    go_wp2
    go_ret
    exact ⟨ret_bool R.out.symm, HB⟩
 ·have R : Hid (v = false) := Lib.hid (by rw [V.out]; exact decide_eq_false fun e => hl (by rw [HN.out, HM.out, e]))
  have hl' : ((n : Int) != (m : Int)) = true := by simp; omega
  go_enter Tryz.func41, Tryz.ntmps41
  go_wp2
  go_ret
  exact ⟨ret_bool R.out.symm, Lib.hid (Below.refl _ _)⟩
set_option maxHeartbeats 1000000 in
theorem equalEn_p (A B : Option Addr) (l l2 : List Ky.T) (n m c c2 : Nat) (hn : n = l.length) (hm : m = l2.length) (h9 : n ≤ 1100) (w : World) (h : EnsO w A l) (h2 : EnsO w B l2) :
  Calls Tryz.prog 44 #[.slice A n c, .slice B m c2] w (BoolG w (decide (l = l2))) := by
 have H1 := Lib.hid h
 have H2 := Lib.hid h2
 have HN := Lib.hid hn
 have HM := Lib.hid hm
 obtain ⟨v, hv⟩ : ∃ v, v = decide (l = l2) := ⟨_, rfl⟩
 have V := Lib.hid hv
 rw [← hv]
 clear h h2 hn hm hv
 by_cases hl : n = m
 ·subst hl
  go_enter Tryz.func44, Tryz.ntmps44
  go_wp2
  go_loopw [13] (fun iv wr => ∃ k : Nat, k ≤ n ∧ iv = .int .i64 k ∧ Hid (EqTo l l2 k) ∧ Hid (Below w.heap.size w wr)) (fun iv _ => n - (intOf iv).toNat)
  case atStart => exact ⟨0, Nat.zero_le _, rfl, Lib.hid rfl, Lib.hid (Below.refl _ _)⟩
  case round =>
   obtain ⟨k, hk, rfl, HK, HB⟩ := hrel
   by_cases hlt : k < n
   ·have hlt' : (k : Int) < (n : Int) := by omega
    have K1 : Hid (k < l.length) := Lib.hid (by rw [← HN.out]; exact hlt)
    have K2 : Hid (k < l2.length) := Lib.hid (by rw [← HM.out]; exact hlt)
    obtain ⟨b1, o1, rfl, hb1, hc1⟩ := H1.out.2 (by rw [← HN.out]; omega)
    have hq1 := hc1 k K1.out
    clear hc1
    obtain ⟨z1, E1⟩ : ∃ z, Hid (z = l[k]'K1.out) := ⟨_, Lib.hid rfl⟩
    have I1 : Hid (Ky.ok z1.name z1.key z1.id) := Lib.hid (by rw [E1.out]; exact H1.out.1 _ (List.getElem_mem _))
    rw [← E1.out] at hq1
    have s10 : w.cell? ⟨b1, o1 + k * 3, none⟩ = some (.string z1.name) := hq1.1
    have s11 : w.cell? ⟨b1, o1 + k * 3 + 1, none⟩ = some (.string z1.key) := hq1.2.1
    have s12 : w.cell? ⟨b1, o1 + k * 3 + 2, none⟩ = some (.int .i64 z1.id) := hq1.2.2
    have t10 := (HB.out.cell (block_lt s10)).trans s10
    have t11 := (HB.out.cell (block_lt s11)).trans s11
    have t12 := (HB.out.cell (block_lt s12)).trans s12
    clear s10 s11 s12 hb1 hq1
    obtain ⟨b2, o2, rfl, hb2, hc2⟩ := H2.out.2 (by rw [← HM.out]; omega)
    have hq2 := hc2 k K2.out
    clear hc2
    obtain ⟨z2, E2⟩ : ∃ z, Hid (z = l2[k]'K2.out) := ⟨_, Lib.hid rfl⟩
    have I2 : Hid (Ky.ok z2.name z2.key z2.id) := Lib.hid (by rw [E2.out]; exact H2.out.1 _ (List.getElem_mem _))
    rw [← E2.out] at hq2
    have s20 : w.cell? ⟨b2, o2 + k * 3, none⟩ = some (.string z2.name) := hq2.1
    have s21 : w.cell? ⟨b2, o2 + k * 3 + 1, none⟩ = some (.string z2.key) := hq2.2.1
    have s22 : w.cell? ⟨b2, o2 + k * 3 + 2, none⟩ = some (.int .i64 z2.id) := hq2.2.2
    have t20 := (HB.out.cell (block_lt s20)).trans s20
    have t21 := (HB.out.cell (block_lt s21)).trans s21
    have t22 := (HB.out.cell (block_lt s22)).trans s22
    clear s20 s21 s22 hb2 hq2
    have BN : ∀ nq, Hid (Below w.heap.size w (wr.drewN nq)) := fun nq => Lib.hid (below_n HB.out nq)
    by_cases e : z1 = z2
    ·have R := Lib.hid (HK.out.next K1.out K2.out (by rw [← E1.out, ← E2.out, e]))
     clear E1 E2
     subst e
     have NQ : ∀ W, (binOp .neq 65 (.agg #[.string z1.name, .string z1.key, .int .i64 z1.id]) (.agg #[.string z1.name, .string z1.key, .int .i64 z1.id])).run Tryz.prog W = .ok (.bool false) W := fun W => by have := entE_neq z1.name z1.key z1.id z1.name z1.key z1.id I1.out I1.out W; rw [decide_eq_true rfl] at this; exact this
     go_wp2_with fail
     go_quiet (fail)
     go_wp2
     go_roundw
     case rel => exact ⟨k + 1, by omega, by go_num, R, BN _⟩
     case measure => simp [intOf]; omega
    ·have R : Hid (v = false) := Lib.hid (by rw [V.out]; exact decide_eq_false (at_ne K1.out K2.out (by rw [← E1.out, ← E2.out]; exact e)))
     have NQ : ∀ W, (binOp .neq 65 (.agg #[.string z1.name, .string z1.key, .int .i64 z1.id]) (.agg #[.string z2.name, .string z2.key, .int .i64 z2.id])).run Tryz.prog W = .ok (.bool true) W := fun W => by have := entE_neq z1.name z1.key z1.id z2.name z2.key z2.id I1.out I2.out W; rw [decide_eq_false (fun h => e (by cases z1; cases z2; exact h))] at this; exact this
     clear E1 E2
     go_wp2_with fail
     go_quiet (fail)
     go_wp2
     go_ret
     exact ⟨ret_bool R.out.symm, BN _⟩
   ·obtain rfl : k = n := by omega
    have hge : ¬ (k : Int) < (k : Int) := by omega
    have R : Hid (v = true) := Lib.hid (by rw [V.out]; exact decide_eq_true (HK.out.done HN.out HM.out))
    go_wp2
    go_ret
    exact ⟨ret_bool R.out.symm, HB⟩
 ·have R : Hid (v = false) := Lib.hid (by rw [V.out]; exact decide_eq_false fun e => hl (by rw [HN.out, HM.out, e]))
  have hl' : ((n : Int) != (m : Int)) = true := by simp; omega
  go_enter Tryz.func44, Tryz.ntmps44
  go_wp2
  go_ret
  exact ⟨ret_bool R.out.symm, Lib.hid (Below.refl _ _)⟩
set_option maxHeartbeats 2000000 in
theorem equalRn_p (A B : Option Addr) (l l2 : List Rn.R) (n m c c2 : Nat) (hn : n = l.length) (hm : m = l2.length) (h9 : n ≤ 1100) (hi1 : ∀ r ∈ l, Rn.Inv r) (hi2 : ∀ r ∈ l2, Rn.Inv r) (w : World) (O O2 : Nat → Prop) (h : RunsO w O A l) (h2 : RunsO w O2 B l2) :
  Calls Tryz.prog 43 #[.slice A n c, .slice B m c2, .func (.func 26) #[] #[]] w (BoolG w (decide (l = l2))) := by
 have H1 := Lib.hid h
 have H2 := Lib.hid h2
 have HN := Lib.hid hn
 have HM := Lib.hid hm
 have I1 := Lib.hid hi1
 have I2 := Lib.hid hi2
 obtain ⟨v, hv⟩ : ∃ v, v = decide (l = l2) := ⟨_, rfl⟩
 have V := Lib.hid hv
 rw [← hv]
 clear h h2 hn hm hv hi1 hi2
 by_cases hl : n = m
 ·subst hl
  go_enter Tryz.func43, Tryz.ntmps43
  go_wp2
  go_loopw [17] (fun iv wr => ∃ k : Nat, k ≤ n ∧ iv = .int .i64 k ∧ Hid (EqTo l l2 k) ∧ Hid (Below w.heap.size w wr)) (fun iv _ => n - (intOf iv).toNat)
  case atStart => exact ⟨0, Nat.zero_le _, rfl, Lib.hid rfl, Lib.hid (Below.refl _ _)⟩
  case round =>
   obtain ⟨k, hk, rfl, HK, HB⟩ := hrel
   by_cases hlt : k < n
   ·have hlt' : (k : Int) < (n : Int) := by omega
    have K1 : Hid (k < l.length) := Lib.hid (by rw [← HN.out]; exact hlt)
    have K2 : Hid (k < l2.length) := Lib.hid (by rw [← HM.out]; exact hlt)
    obtain ⟨g1, o1, rfl, -, hb1, hc1⟩ := (H1.out.keep HB.out.size fun b _ hl => HB.out.block b hl) (by rw [← HN.out]; omega)
    obtain ⟨p1, c10, c11, c12, c13, hr1, -⟩ := hc1 k K1.out
    rw [getD_at K1.out] at c10 c11 c12 c13 hr1
    have w10 : wr.cell? ⟨g1, o1 + k * 4, none⟩ = _ := c10
    have w11 : wr.cell? ⟨g1, o1 + k * 4 + 1, none⟩ = _ := c11
    have w12 : wr.cell? ⟨g1, o1 + k * 4 + 2, none⟩ = _ := c12
    have w13 : wr.cell? ⟨g1, o1 + k * 4 + 3, none⟩ = _ := c13
    obtain ⟨t1, E1⟩ : ∃ t, Hid (t = l[k]'K1.out) := ⟨_, Lib.hid rfl⟩
    rw [← E1.out] at w10 w11 w12 w13 hr1
    have R1 := Lib.hid hr1
    have J1 : Hid (Rn.Inv t1) := Lib.hid (by rw [E1.out]; exact I1.out _ (List.getElem_mem _))
    clear c10 c11 c12 c13 hr1 hc1 hb1
    obtain ⟨g2, o2, rfl, -, hb2, hc2⟩ := (H2.out.keep HB.out.size fun b _ hl => HB.out.block b hl) (by rw [← HM.out]; omega)
    obtain ⟨p2, c20, c21, c22, c23, hr2, -⟩ := hc2 k K2.out
    rw [getD_at K2.out] at c20 c21 c22 c23 hr2
    have w20 : wr.cell? ⟨g2, o2 + k * 4, none⟩ = _ := c20
    have w21 : wr.cell? ⟨g2, o2 + k * 4 + 1, none⟩ = _ := c21
    have w22 : wr.cell? ⟨g2, o2 + k * 4 + 2, none⟩ = _ := c22
    have w23 : wr.cell? ⟨g2, o2 + k * 4 + 3, none⟩ = _ := c23
    obtain ⟨t2, E2⟩ : ∃ t, Hid (t = l2[k]'K2.out) := ⟨_, Lib.hid rfl⟩
    rw [← E2.out] at w20 w21 w22 w23 hr2
    have R2 := Lib.hid hr2
    have J2 : Hid (Rn.Inv t2) := Lib.hid (by rw [E2.out]; exact I2.out _ (List.getElem_mem _))
    clear c20 c21 c22 c23 hr2 hc2 hb2
    have CS : Hid (∀ W, Below wr.heap.size wr W → Calls Tryz.prog 26 #[rv p1 t1, rv p2 t2] W (BoolG W (decide (t1 = t2)))) := Lib.hid fun W hW => same_p p1 t1 J1.out W (fun _ => True) ((R1.out.on hW).imp fun _ _ _ => trivial) p2 t2 J2.out ((R2.out.on hW).imp fun _ _ _ => trivial)
    unfold rv at CS
    obtain ⟨a1, ha1⟩ : ∃ z, z = t1.d.length := ⟨_, rfl⟩
    obtain ⟨s1, hs1⟩ : ∃ z, z = t1.st := ⟨_, rfl⟩
    obtain ⟨m1, hm1⟩ : ∃ z, z = t1.ts.length := ⟨_, rfl⟩
    obtain ⟨x1, hx1⟩ : ∃ z, z = t1.sg.length := ⟨_, rfl⟩
    rw [← ha1] at w10 CS
    rw [← hs1] at w11 CS
    rw [← hm1] at w12 CS
    rw [← hx1] at w13 CS
    clear ha1 hs1 hm1 hx1
    obtain ⟨a2, ha2⟩ : ∃ z, z = t2.d.length := ⟨_, rfl⟩
    obtain ⟨s2, hs2⟩ : ∃ z, z = t2.st := ⟨_, rfl⟩
    obtain ⟨m2, hm2⟩ : ∃ z, z = t2.ts.length := ⟨_, rfl⟩
    obtain ⟨x2, hx2⟩ : ∃ z, z = t2.sg.length := ⟨_, rfl⟩
    rw [← ha2] at w20 CS
    rw [← hs2] at w21 CS
    rw [← hm2] at w22 CS
    rw [← hx2] at w23 CS
    clear ha2 hs2 hm2 hx2
    obtain ⟨W1, hW1⟩ : ∃ W1, W1 = (wr.alloc (.cells #[.slice p1.A a1 p1.ca, .int .i64 s1, .slice p1.T m1 p1.ct, .slice p1.S x1 p1.cs] 41)).alloc (.cells #[.slice p2.A a2 p2.ca, .int .i64 s2, .slice p2.T m2 p2.ct, .slice p2.S x2 p2.cs] 41) := ⟨_, rfl⟩
    have BB : Hid (Below wr.heap.size wr W1) := Lib.hid (by rw [hW1]; exact box2 _ _ _)
    have X1 : Hid (W1.heap[wr.heap.size]? = some (.cells #[.slice p1.A a1 p1.ca, .int .i64 s1, .slice p1.T m1 p1.ct, .slice p1.S x1 p1.cs] 41 (0, 0))) := Lib.hid (by rw [hW1]; exact box0' _ _ _)
    have Y1 : Hid (W1.heap[wr.heap.size + 1]? = some (.cells #[.slice p2.A a2 p2.ca, .int .i64 s2, .slice p2.T m2 p2.ct, .slice p2.S x2 p2.cs] 41 (0, 0))) := Lib.hid (by rw [hW1]; exact box1 _ _ _)
    have AL := fun (o : Nat) (v : Value) (hc : wr.cell? ⟨g2, o, none⟩ = some v) => (((Below.refl wr.heap.size wr).alloc (Nat.le_refl _) (.cells #[.slice p1.A a1 p1.ca, .int .i64 s1, .slice p1.T m1 p1.ct, .slice p1.S x1 p1.cs] 41)).cell (block_lt hc)).trans hc
    have Z0 := AL _ _ w20
    have Z1 := AL _ _ w21
    have Z2 := AL _ _ w22
    have Z3 := AL _ _ w23
    clear AL
    go_upto_region 7 with (fail)
    rw [← hW1]
    clear hW1 w10 w11 w12 w13 w20 w21 w22 w23 Z0 Z1 Z2 Z3
    obtain ⟨⟨xx0, xx1, xx2, xx3⟩, -⟩ := obj4 X1.out
    obtain ⟨⟨y0, y1, y2, y3⟩, -⟩ := obj4 Y1.out
    have BW : Hid (Below w.heap.size w W1) := Lib.hid (HB.out.trans (BB.out.mono HB.out.size))
    go_wp2_with fail
    (with_reducible refine (CS.out W1 BB.out).mono ?_); rintro e W2 ⟨rfl, b2⟩
    have B2 : Hid (Below w.heap.size w W2) := Lib.hid (BW.out.trans (b2.out.mono BW.out.size))
    clear CS xx0 xx1 xx2 xx3 y0 y1 y2 y3
    by_cases e : t1 = t2
    ·rw [decide_eq_true e]
     have R := Lib.hid (HK.out.next K1.out K2.out (by rw [← E1.out, ← E2.out, e]))
     clear E1 E2 e
     go_wp2
     go_roundw
     case rel => exact ⟨k + 1, by omega, by go_num, R, B2⟩
     case measure => simp [intOf]; omega
    ·rw [decide_eq_false e]
     have R : Hid (v = false) := Lib.hid (by rw [V.out]; exact decide_eq_false (at_ne K1.out K2.out (by rw [← E1.out, ← E2.out]; exact e)))
     clear E1 E2 e
     go_wp2
     go_ret
     exact ⟨ret_bool R.out.symm, B2⟩
   ·obtain rfl : k = n := by omega
    have hge : ¬ (k : Int) < (k : Int) := by omega
    have R : Hid (v = true) := Lib.hid (by rw [V.out]; exact decide_eq_true (HK.out.done HN.out HM.out))
    go_wp2
    go_ret
    exact ⟨ret_bool R.out.symm, HB⟩
 ·have R : Hid (v = false) := Lib.hid (by rw [V.out]; exact decide_eq_false fun e => hl (by rw [HN.out, HM.out, e]))
  have hl' : ((n : Int) != (m : Int)) = true := by simp; omega
  go_enter Tryz.func43, Tryz.ntmps43
  go_wp2
  go_ret
  exact ⟨ret_bool R.out.symm, Lib.hid (Below.refl _ _)⟩
end Go.Proofs.YtkbekojnmdgdgaaGreatDoor
/- FlSame -/
namespace Go.Proofs.YtkbekojnmdgdgaaGreatDoor
open Go.RowKit Go.Maps
set_option maxRecDepth 20000
def prV (p : ByteArray × Df.D) : ByteArray × ByteArray := (p.1, str (Df.showT p.2))
def nmV (p : Rn.R × ByteArray) : Tx.T := p.2.data.toList
theorem map_inj_on {α β : Type} {f : α → β} : ∀ {l l2 : List α}, (∀ a ∈ l, ∀ b ∈ l2, f a = f b → a = b) → l.map f = l2.map f → l = l2
 | [], [], _, _ => rfl
 | [], b :: r, _, h => by cases h
 | a :: r, [], _, h => by cases h
 | a :: r, b :: r2, hi, h => by
  rw [List.map_cons, List.map_cons] at h
  injection h with h1 h2
  rw [hi a (List.mem_cons_self ..) b (List.mem_cons_self ..) h1, map_inj_on (fun x hx y hy => hi x (List.mem_cons_of_mem _ hx) y (List.mem_cons_of_mem _ hy)) h2]
theorem same_iff_parts {s s2 : Fw.S} (hI : Fw.Inv s) (hI2 : Fw.Inv s2) : s = s2 ↔ s.clock = s2.clock ∧ s.defs.map prV = s2.defs.map prV ∧ s.runs.map nmV = s2.runs.map nmV ∧ s.runs.map (·.1) = s2.runs.map (·.1) ∧ s.keys = s2.keys := by
 constructor
 ·rintro rfl
  exact ⟨rfl, rfl, rfl, rfl, rfl⟩
 ·rintro ⟨h1, h2, h3, h4, h5⟩
  have hd : s.defs = s2.defs := map_inj_on (fun a ha b hb e => by
   obtain ⟨a1, a2⟩ := a
   obtain ⟨b1, b2⟩ := b
   unfold prV at e
   injection e with e1 e2
   have h6 := (hI.dok _ ha).2.2
   have h7 := (hI2.dok _ hb).2.2
   have e3 : Df.showT a2 = Df.showT b2 := str_inj.1 e2
   simp only at h6 h7 e1
   rw [e3, h7] at h6
   injection h6 with h6
   rw [e1, h6]) h2
  have hr : s.runs = s2.runs := by
   have hl : s.runs.length = s2.runs.length := by have := congrArg List.length h4; simpa using this
   refine List.ext_getElem hl fun i i1 i2 => Prod.ext ?_ ?_
   ·have := List.getElem_of_eq h4 (i := i) (by simpa using i1)
    simpa using this
   ·have := List.getElem_of_eq h3 (i := i) (by simpa using i1)
    simp only [List.getElem_map, nmV] at this
    have e2 : s.runs[i].2.data = s2.runs[i].2.data := Array.toList_inj.1 this
    generalize s.runs[i].2 = x at *
    generalize s2.runs[i].2 = y at *
    cases x
    cases y
    simp only at e2
    rw [e2]
  obtain ⟨c, d, r, k⟩ := s
  obtain ⟨c2, d2, r2, k2⟩ := s2
  simp only at h1 hd hr h5
  rw [h1, hd, hr, h5]
theorem FPM.prs {w : World} {g : Nat} {a : FAt} {s : Fw.S} (h : FPM w g a s) : PrsO w a.D (s.defs.map prV) := by
 refine ⟨fun p hp => ?_, fun hn => ?_⟩
 ·obtain ⟨q, hq, rfl⟩ := List.mem_map.1 hp
  exact ⟨(h.sz q hq).1, by show (str (Df.showT q.2)).size ≤ _; exact Nat.le_trans (Nat.le_of_eq (by show (Df.showT q.2).toArray.size = _; exact List.size_toArray)) (h.sz q hq).2⟩
 ·rw [List.length_map] at hn
  obtain ⟨b, hA, -, hb⟩ := h.defs.shape (by rw [List.length_map]; exact hn)
  have hrow := h.defs
  rw [hA] at hrow
  refine ⟨b, 0, hA, hb, fun i hi => ?_⟩
  rw [List.length_map] at hi
  obtain ⟨y0, y1⟩ := dfV_cells hrow hi
  rw [List.getElem_map, Nat.zero_add]
  exact ⟨y0, y1⟩
theorem FPM.sgs {w : World} {g : Nat} {a : FAt} {s : Fw.S} (h : FPM w g a s) : SigsO w (fun _ => True) a.F (s.runs.map nmV) := fun hn => by
 rw [List.length_map] at hn
 obtain ⟨b, hA, -, hb⟩ := h.of.shape (by rw [List.length_map]; exact hn)
 have hrow := h.of
 rw [hA] at hrow
 refine ⟨b, 0, hA, trivial, hb, fun i hi => ?_⟩
 rw [List.length_map] at hi
 have y0 := ofV_cell hrow hi
 rw [getD_at (by rw [List.length_map]; exact hi), List.getElem_map]
 show w.cell? ⟨b, 0 + i * 1 + 0, none⟩ = some (.string (str (nmV s.runs[i])))
 rw [Nat.zero_add, Nat.mul_one, Nat.add_zero, y0]
 unfold nmV
 rw [str_list]
theorem ents_ens {w : World} {O : Nat → Prop} {A : Option Addr} {l : List Ky.T} (h : Ents w O A l) (ho : ∀ t ∈ l, Ky.ok t.name t.key t.id) : EnsO w A l := ⟨ho, fun hn => by
 obtain ⟨b, off, e, _, hb, hc⟩ := h hn
 exact ⟨b, off, e, hb, hc⟩⟩
set_option maxHeartbeats 8000000 in
theorem same_any {w : World} {g g2 : Nat} {a a2 : FAt} {s s2 : Fw.S} (h : FPM w g a s) (h2 : FPM w g2 a2 s2) (hI : Fw.Inv s) (hI2 : Fw.Inv s2) :
  Calls Tryz.prog 19 #[.pointer (some ⟨g, 0, none⟩), .pointer (some ⟨g2, 0, none⟩)] w fun e w' => e = .returned (.bool (decide (s = s2))) ∧ Hid (Below w.heap.size w w') := by
 have H := Lib.hid h
 have H2 := Lib.hid h2
 have IF := Lib.hid (same_iff_parts hI hI2)
 obtain ⟨v, hv⟩ : ∃ v, v = decide (s = s2) := ⟨_, rfl⟩
 have V := Lib.hid hv
 rw [← hv]
 obtain ⟨n, hn⟩ : ∃ n, n = s.defs.length := ⟨_, rfl⟩
 obtain ⟨n2, hn2⟩ : ∃ n, n = s2.defs.length := ⟨_, rfl⟩
 obtain ⟨m, hm⟩ : ∃ n, n = s.runs.length := ⟨_, rfl⟩
 obtain ⟨m2, hm2⟩ : ∃ n, n = s2.runs.length := ⟨_, rfl⟩
 obtain ⟨c, hc⟩ : ∃ n, n = s.clock := ⟨_, rfl⟩
 obtain ⟨c2, hc2⟩ : ∃ n, n = s2.clock := ⟨_, rfl⟩
 have SA : Hid (∀ W, Below w.heap.size w W → (W.cell? ⟨g, 0, none⟩ = some (.int .i64 c) ∧ W.cell? ⟨g, 1, none⟩ = some (.slice a.D n a.cd) ∧ W.cell? ⟨g, 2, none⟩ = some (.slice a.R m a.cr) ∧ W.cell? ⟨g, 3, none⟩ = some (.slice a.F m a.cf)) ∧
   W.cell? ⟨g2, 0, none⟩ = some (.int .i64 c2) ∧ W.cell? ⟨g2, 1, none⟩ = some (.slice a2.D n2 a2.cd) ∧ W.cell? ⟨g2, 2, none⟩ = some (.slice a2.R m2 a2.cr) ∧ W.cell? ⟨g2, 3, none⟩ = some (.slice a2.F m2 a2.cf)) := Lib.hid fun W hW => by
  obtain ⟨q0, q1, q2, q3, -⟩ := (H.out.on hW).cells.1
  obtain ⟨p0, p1, p2, p3, -⟩ := (H2.out.on hW).cells.1
  exact ⟨⟨by rw [hc]; exact q0, by rw [hn]; exact q1, by rw [hm]; exact q2, by rw [hm]; exact q3⟩, by rw [hc2]; exact p0, by rw [hn2]; exact p1, by rw [hm2]; exact p2, by rw [hm2]; exact p3⟩
 obtain ⟨dd, hdd⟩ : ∃ x, x = decide (s.defs.map prV = s2.defs.map prV) := ⟨_, rfl⟩
 obtain ⟨dn, hdn⟩ : ∃ x, x = decide (s.runs.map nmV = s2.runs.map nmV) := ⟨_, rfl⟩
 obtain ⟨dr, hdr⟩ : ∃ x, x = decide (s.runs.map (·.1) = s2.runs.map (·.1)) := ⟨_, rfl⟩
 obtain ⟨dk, hdk⟩ : ∃ x, x = decide (s.keys = s2.keys) := ⟨_, rfl⟩
 have RI : ∀ {s : Fw.S}, Fw.Inv s → (∀ r ∈ s.runs.map (·.1), Rn.Inv r) ∧ ∀ p ∈ s.runs, inI p.1.st := fun {s} hI => ⟨fun r hr => by obtain ⟨p, hp, rfl⟩ := List.mem_map.1 hr; exact (hI.rok p hp).1.toInv, fun p hp => by have h1 := (hI.rok p hp).1.toInv; have h2 := h1.st0; have h3 := h1.st3; exact ⟨by omega, by omega⟩⟩
 have C1 : Hid (∀ W, Below w.heap.size w W → Calls Tryz.prog 41 #[.slice a.D n a.cd, .slice a2.D n2 a2.cd] W (BoolG W dd)) := Lib.hid fun W hW => by
  rw [hdd]
  exact equalDf_p a.D a2.D _ _ n n2 a.cd a2.cd (by rw [List.length_map]; exact hn) (by rw [List.length_map]; exact hn2) (by have := H.out.dm; omega) W (H.out.on hW).prs (H2.out.on hW).prs
 have C2 : Hid (∀ W, Below w.heap.size w W → Calls Tryz.prog 42 #[.slice a.F m a.cf, .slice a2.F m2 a2.cf] W (BoolG W dn)) := Lib.hid fun W hW => by
  rw [hdn]
  exact equalS_p a.F a2.F _ _ m m2 a.cf a2.cf (by rw [List.length_map]; exact hm) (by rw [List.length_map]; exact hm2) (by have := H.out.rm; omega) W _ _ (H.out.on hW).sgs (H2.out.on hW).sgs
 have C3 : Hid (∀ W, Below w.heap.size w W → Calls Tryz.prog 43 #[.slice a.R m a.cr, .slice a2.R m2 a2.cr, .func (.func 26) #[] #[]] W (BoolG W dr)) := Lib.hid fun W hW => by
  rw [hdr]
  exact equalRn_p a.R a2.R _ _ m m2 a.cr a2.cr (by rw [List.length_map]; exact hm) (by rw [List.length_map]; exact hm2) (by have := H.out.rm; omega) (RI hI).1 (RI hI2).1 W _ _ ((H.out.on hW).runsO (RI hI).2) ((H2.out.on hW).runsO (RI hI2).2)
 obtain ⟨q, hq⟩ : ∃ n, n = s.keys.length := ⟨_, rfl⟩
 obtain ⟨q2, hq2⟩ : ∃ n, n = s2.keys.length := ⟨_, rfl⟩
 have C4 : Hid (∀ W, Below w.heap.size w W → Calls Tryz.prog 45 #[.pointer (some ⟨g, 0, none⟩)] W fun e w' => ∃ A c, e = .returned (.slice A q c) ∧ Hid (Below W.heap.size W w') ∧ Hid (EnsO w' A s.keys ∧ Ents w' (fun _ => True) A s.keys)) := Lib.hid fun W hW => by
  rw [hq]
  exact (keys_any (H.out.on hW) hI.ki).mono fun _ _ ⟨A, c, e1, e2, e3⟩ => ⟨A, c, e1, e2, Lib.hid ⟨ents_ens e3.out H.out.keys.oks, e3.out.imp fun _ _ _ => trivial⟩⟩
 have C5 : Hid (∀ W, Below w.heap.size w W → Calls Tryz.prog 45 #[.pointer (some ⟨g2, 0, none⟩)] W fun e w' => ∃ A c, e = .returned (.slice A q2 c) ∧ Hid (Below W.heap.size W w') ∧ Hid (EnsO w' A s2.keys)) := Lib.hid fun W hW => by
  rw [hq2]
  exact (keys_any (H2.out.on hW) hI2.ki).mono fun _ _ ⟨A, c, e1, e2, e3⟩ => ⟨A, c, e1, e2, Lib.hid (ents_ens e3.out H2.out.keys.oks)⟩
 have C6 : Hid (∀ W A B c c2, EnsO W A s.keys → EnsO W B s2.keys → Calls Tryz.prog 44 #[.slice A q c, .slice B q2 c2] W (BoolG W dk)) := Lib.hid fun W A B c c2 h1 h2 => by
  rw [hdk]
  exact equalEn_p A B _ _ q q2 c c2 hq hq2 (by rw [hq]; have := hI.ki.few; have h3 : (s.keys.length : Int) ≤ 128 := this; omega) W h1 h2
 have VV : Hid (v = (decide (c = c2) && (dd && (dn && (dr && dk))))) := Lib.hid (by
  rw [hv, hdd, hdn, hdr, hdk, hc, hc2, Bool.eq_iff_iff]
  simp only [Bool.and_eq_true, decide_eq_true_eq]
  exact IF.out)
 have BW : Hid (Below w.heap.size w w.drew) := Lib.hid (Below.refl _ _).drew
 clear h h2 hI hI2 IF hv V hn hn2 hm hm2 hc hc2 hdd hdn hdr hdk RI hq hq2
 by_cases hcc : c = c2
 ·subst hcc
  cases dd with
  | false =>
   go_enter Tryz.func19, Tryz.ntmps19
   go_upto_region 1 with (fail)
   refine wp_region_held_drew (S := (fun w' => (w'.cell? ⟨g, 0, none⟩ = some (.int .i64 c) ∧ w'.cell? ⟨g, 1, none⟩ = some (.slice a.D n a.cd) ∧ w'.cell? ⟨g, 2, none⟩ = some (.slice a.R m a.cr) ∧ w'.cell? ⟨g, 3, none⟩ = some (.slice a.F m a.cf)) ∧ w'.cell? ⟨g2, 0, none⟩ = some (.int .i64 c) ∧ w'.cell? ⟨g2, 1, none⟩ = some (.slice a2.D n2 a2.cd) ∧ w'.cell? ⟨g2, 2, none⟩ = some (.slice a2.R m2 a2.cr) ∧ w'.cell? ⟨g2, 3, none⟩ = some (.slice a2.F m2 a2.cf))) (by kernel_rfl) ?hS1001 (fun hHeld => ?_)
   case hS1001 => exact (SA.out _ BW.out)
   refine takH 0 (h := ?_)
   try simp only [Act.put, List.setIfInBounds_toArray, List.set_cons_zero, List.set_cons_succ]
   refine takH 1 (h := ?_)
   try simp only [Act.put, List.setIfInBounds_toArray, List.set_cons_zero, List.set_cons_succ]
   refine takH 2 (h := ?_)
   try simp only [Act.put, List.setIfInBounds_toArray, List.set_cons_zero, List.set_cons_succ]
   refine takH 3 (h := ?_)
   try simp only [Act.put, List.setIfInBounds_toArray, List.set_cons_zero, List.set_cons_succ]
   refine takH 4 (h := ?_)
   try simp only [Act.put, List.setIfInBounds_toArray, List.set_cons_zero, List.set_cons_succ]
   refine takH 5 (h := ?_)
   try simp only [Act.put, List.setIfInBounds_toArray, List.set_cons_zero, List.set_cons_succ]
   refine takH 6 (h := ?_)
   try simp only [Act.put, List.setIfInBounds_toArray, List.set_cons_zero, List.set_cons_succ]
   refine takH 7 (h := ?_)
   try simp only [Act.put, List.setIfInBounds_toArray, List.set_cons_zero, List.set_cons_succ]
   refine takH 8 (h := ?_)
   try simp only [Act.put, List.setIfInBounds_toArray, List.set_cons_zero, List.set_cons_succ]
   refine takH 9 (h := ?_)
   try simp only [Act.put, List.setIfInBounds_toArray, List.set_cons_zero, List.set_cons_succ]
   refine takH 10 (h := ?_)
   try simp only [Act.put, List.setIfInBounds_toArray, List.set_cons_zero, List.set_cons_succ]
   refine takH 11 (h := ?_)
   try simp only [Act.put, List.setIfInBounds_toArray, List.set_cons_zero, List.set_cons_succ]
   refine takH 12 (h := ?_)
   try simp only [Act.put, List.setIfInBounds_toArray, List.set_cons_zero, List.set_cons_succ]
   refine takH 13 (h := ?_)
   try simp only [Act.put, List.setIfInBounds_toArray, List.set_cons_zero, List.set_cons_succ]
   refine takH 14 (h := ?_)
   try simp only [Act.put, List.setIfInBounds_toArray, List.set_cons_zero, List.set_cons_succ]
   refine takH 15 (h := ?_)
   try simp only [Act.put, List.setIfInBounds_toArray, List.set_cons_zero, List.set_cons_succ]
   refine takH 16 (h := ?_)
   try simp only [Act.put, List.setIfInBounds_toArray, List.set_cons_zero, List.set_cons_succ]
   refine takH 17 (h := ?_)
   try simp only [Act.put, List.setIfInBounds_toArray, List.set_cons_zero, List.set_cons_succ]
   refine wpAnyH_ready (rs := [18]) (by kernel_rfl) (by simp) ?_
   refine AllReadyH.cons (o := ?o1002) ?hi1002 (fun K hK => ?_) AllReadyH.nil
   case hi1002 => (simp only [List.getElem?_toArray, List.getElem?_cons_zero, List.getElem?_cons_succ]; exact rfl)
   (go_simp; go_at_call 41; (with_reducible refine (C1.out _ BW.out).mono ?_); rintro e W1 ⟨rfl, b1⟩; have B1 : Hid (Below w.heap.size w W1) := Lib.hid (BW.out.trans (b1.out.mono BW.out.size)); try dsimp only)
   refine hK.out _ _ ?_ (fun hHeld => ?_)
   ·exact SA.out _ B1.out
   clear hK K
   try simp only [Act.put, List.setIfInBounds_toArray, List.set_cons_zero, List.set_cons_succ]
   refine takH 19 (h := ?_)
   try simp only [Act.put, List.setIfInBounds_toArray, List.set_cons_zero, List.set_cons_succ]
   refine takH 20 (h := ?_)
   try simp only [Act.put, List.setIfInBounds_toArray, List.set_cons_zero, List.set_cons_succ]
   refine skiH 21 (h := ?_)
   try simp only [Act.put, List.setIfInBounds_toArray, List.set_cons_zero, List.set_cons_succ]
   refine skiH 22 (h := ?_)
   try simp only [Act.put, List.setIfInBounds_toArray, List.set_cons_zero, List.set_cons_succ]
   refine skiH 23 (h := ?_)
   try simp only [Act.put, List.setIfInBounds_toArray, List.set_cons_zero, List.set_cons_succ]
   refine skiH 24 (h := ?_)
   try simp only [Act.put, List.setIfInBounds_toArray, List.set_cons_zero, List.set_cons_succ]
   refine skiH 25 (h := ?_)
   try simp only [Act.put, List.setIfInBounds_toArray, List.set_cons_zero, List.set_cons_succ]
   refine skiH 26 (h := ?_)
   try simp only [Act.put, List.setIfInBounds_toArray, List.set_cons_zero, List.set_cons_succ]
   refine skiH 27 (h := ?_)
   try simp only [Act.put, List.setIfInBounds_toArray, List.set_cons_zero, List.set_cons_succ]
   refine skiH 28 (h := ?_)
   try simp only [Act.put, List.setIfInBounds_toArray, List.set_cons_zero, List.set_cons_succ]
   refine skiH 29 (h := ?_)
   try simp only [Act.put, List.setIfInBounds_toArray, List.set_cons_zero, List.set_cons_succ]
   refine takH 30 (h := ?_)
   try simp only [Act.put, List.setIfInBounds_toArray, List.set_cons_zero, List.set_cons_succ]
   refine takH 31 (h := ?_)
   try simp only [Act.put, List.setIfInBounds_toArray, List.set_cons_zero, List.set_cons_succ]
   refine skiH 32 (h := ?_)
   try simp only [Act.put, List.setIfInBounds_toArray, List.set_cons_zero, List.set_cons_succ]
   refine skiH 33 (h := ?_)
   try simp only [Act.put, List.setIfInBounds_toArray, List.set_cons_zero, List.set_cons_succ]
   refine skiH 34 (h := ?_)
   try simp only [Act.put, List.setIfInBounds_toArray, List.set_cons_zero, List.set_cons_succ]
   refine skiH 35 (h := ?_)
   try simp only [Act.put, List.setIfInBounds_toArray, List.set_cons_zero, List.set_cons_succ]
   refine skiH 36 (h := ?_)
   try simp only [Act.put, List.setIfInBounds_toArray, List.set_cons_zero, List.set_cons_succ]
   refine skiH 37 (h := ?_)
   try simp only [Act.put, List.setIfInBounds_toArray, List.set_cons_zero, List.set_cons_succ]
   refine skiH 38 (h := ?_)
   try simp only [Act.put, List.setIfInBounds_toArray, List.set_cons_zero, List.set_cons_succ]
   refine skiH 39 (h := ?_)
   try simp only [Act.put, List.setIfInBounds_toArray, List.set_cons_zero, List.set_cons_succ]
   refine skiH 40 (h := ?_)
   try simp only [Act.put, List.setIfInBounds_toArray, List.set_cons_zero, List.set_cons_succ]
   refine takH 41 (h := ?_)
   try simp only [Act.put, List.setIfInBounds_toArray, List.set_cons_zero, List.set_cons_succ]
   refine takH 42 (h := ?_)
   try simp only [Act.put, List.setIfInBounds_toArray, List.set_cons_zero, List.set_cons_succ]
   refine skiH 43 (h := ?_)
   try simp only [Act.put, List.setIfInBounds_toArray, List.set_cons_zero, List.set_cons_succ]
   refine skiH 44 (h := ?_)
   try simp only [Act.put, List.setIfInBounds_toArray, List.set_cons_zero, List.set_cons_succ]
   refine skiH 45 (h := ?_)
   try simp only [Act.put, List.setIfInBounds_toArray, List.set_cons_zero, List.set_cons_succ]
   refine skiH 46 (h := ?_)
   try simp only [Act.put, List.setIfInBounds_toArray, List.set_cons_zero, List.set_cons_succ]
   refine skiH 47 (h := ?_)
   try simp only [Act.put, List.setIfInBounds_toArray, List.set_cons_zero, List.set_cons_succ]
   refine takH 48 (h := ?_)
   try simp only [Act.put, List.setIfInBounds_toArray, List.set_cons_zero, List.set_cons_succ]
   refine takH 49 (h := ?_)
   try simp only [Act.put, List.setIfInBounds_toArray, List.set_cons_zero, List.set_cons_succ]
   refine wpAnyH_done (by kernel_rfl) ?_ _
   go_wp2
   go_ret
   exact ⟨ret_bool (by rw [VV.out]; simp), B1⟩
  | true =>
   cases dn with
   | false =>
    go_enter Tryz.func19, Tryz.ntmps19
    go_upto_region 1 with (fail)
    refine wp_region_held_drew (S := (fun w' => (w'.cell? ⟨g, 0, none⟩ = some (.int .i64 c) ∧ w'.cell? ⟨g, 1, none⟩ = some (.slice a.D n a.cd) ∧ w'.cell? ⟨g, 2, none⟩ = some (.slice a.R m a.cr) ∧ w'.cell? ⟨g, 3, none⟩ = some (.slice a.F m a.cf)) ∧ w'.cell? ⟨g2, 0, none⟩ = some (.int .i64 c) ∧ w'.cell? ⟨g2, 1, none⟩ = some (.slice a2.D n2 a2.cd) ∧ w'.cell? ⟨g2, 2, none⟩ = some (.slice a2.R m2 a2.cr) ∧ w'.cell? ⟨g2, 3, none⟩ = some (.slice a2.F m2 a2.cf))) (by kernel_rfl) ?hS1003 (fun hHeld => ?_)
    case hS1003 => exact (SA.out _ BW.out)
    refine takH 0 (h := ?_)
    try simp only [Act.put, List.setIfInBounds_toArray, List.set_cons_zero, List.set_cons_succ]
    refine takH 1 (h := ?_)
    try simp only [Act.put, List.setIfInBounds_toArray, List.set_cons_zero, List.set_cons_succ]
    refine takH 2 (h := ?_)
    try simp only [Act.put, List.setIfInBounds_toArray, List.set_cons_zero, List.set_cons_succ]
    refine takH 3 (h := ?_)
    try simp only [Act.put, List.setIfInBounds_toArray, List.set_cons_zero, List.set_cons_succ]
    refine takH 4 (h := ?_)
    try simp only [Act.put, List.setIfInBounds_toArray, List.set_cons_zero, List.set_cons_succ]
    refine takH 5 (h := ?_)
    try simp only [Act.put, List.setIfInBounds_toArray, List.set_cons_zero, List.set_cons_succ]
    refine takH 6 (h := ?_)
    try simp only [Act.put, List.setIfInBounds_toArray, List.set_cons_zero, List.set_cons_succ]
    refine takH 7 (h := ?_)
    try simp only [Act.put, List.setIfInBounds_toArray, List.set_cons_zero, List.set_cons_succ]
    refine takH 8 (h := ?_)
    try simp only [Act.put, List.setIfInBounds_toArray, List.set_cons_zero, List.set_cons_succ]
    refine takH 9 (h := ?_)
    try simp only [Act.put, List.setIfInBounds_toArray, List.set_cons_zero, List.set_cons_succ]
    refine takH 10 (h := ?_)
    try simp only [Act.put, List.setIfInBounds_toArray, List.set_cons_zero, List.set_cons_succ]
    refine takH 11 (h := ?_)
    try simp only [Act.put, List.setIfInBounds_toArray, List.set_cons_zero, List.set_cons_succ]
    refine takH 12 (h := ?_)
    try simp only [Act.put, List.setIfInBounds_toArray, List.set_cons_zero, List.set_cons_succ]
    refine takH 13 (h := ?_)
    try simp only [Act.put, List.setIfInBounds_toArray, List.set_cons_zero, List.set_cons_succ]
    refine takH 14 (h := ?_)
    try simp only [Act.put, List.setIfInBounds_toArray, List.set_cons_zero, List.set_cons_succ]
    refine takH 15 (h := ?_)
    try simp only [Act.put, List.setIfInBounds_toArray, List.set_cons_zero, List.set_cons_succ]
    refine takH 16 (h := ?_)
    try simp only [Act.put, List.setIfInBounds_toArray, List.set_cons_zero, List.set_cons_succ]
    refine takH 17 (h := ?_)
    try simp only [Act.put, List.setIfInBounds_toArray, List.set_cons_zero, List.set_cons_succ]
    refine wpAnyH_ready (rs := [18]) (by kernel_rfl) (by simp) ?_
    refine AllReadyH.cons (o := ?o1004) ?hi1004 (fun K hK => ?_) AllReadyH.nil
    case hi1004 => (simp only [List.getElem?_toArray, List.getElem?_cons_zero, List.getElem?_cons_succ]; exact rfl)
    (go_simp; go_at_call 41; (with_reducible refine (C1.out _ BW.out).mono ?_); rintro e W1 ⟨rfl, b1⟩; have B1 : Hid (Below w.heap.size w W1) := Lib.hid (BW.out.trans (b1.out.mono BW.out.size)); try dsimp only)
    refine hK.out _ _ ?_ (fun hHeld => ?_)
    ·exact SA.out _ B1.out
    clear hK K
    try simp only [Act.put, List.setIfInBounds_toArray, List.set_cons_zero, List.set_cons_succ]
    refine takH 19 (h := ?_)
    try simp only [Act.put, List.setIfInBounds_toArray, List.set_cons_zero, List.set_cons_succ]
    refine takH 20 (h := ?_)
    try simp only [Act.put, List.setIfInBounds_toArray, List.set_cons_zero, List.set_cons_succ]
    refine takH 21 (h := ?_)
    try simp only [Act.put, List.setIfInBounds_toArray, List.set_cons_zero, List.set_cons_succ]
    refine takH 22 (h := ?_)
    try simp only [Act.put, List.setIfInBounds_toArray, List.set_cons_zero, List.set_cons_succ]
    refine takH 23 (h := ?_)
    try simp only [Act.put, List.setIfInBounds_toArray, List.set_cons_zero, List.set_cons_succ]
    refine takH 24 (h := ?_)
    try simp only [Act.put, List.setIfInBounds_toArray, List.set_cons_zero, List.set_cons_succ]
    refine takH 25 (h := ?_)
    try simp only [Act.put, List.setIfInBounds_toArray, List.set_cons_zero, List.set_cons_succ]
    refine takH 26 (h := ?_)
    try simp only [Act.put, List.setIfInBounds_toArray, List.set_cons_zero, List.set_cons_succ]
    refine takH 27 (h := ?_)
    try simp only [Act.put, List.setIfInBounds_toArray, List.set_cons_zero, List.set_cons_succ]
    refine takH 28 (h := ?_)
    try simp only [Act.put, List.setIfInBounds_toArray, List.set_cons_zero, List.set_cons_succ]
    refine wpAnyH_ready (rs := [29]) (by kernel_rfl) (by simp) ?_
    refine AllReadyH.cons (o := ?o1005) ?hi1005 (fun K hK => ?_) AllReadyH.nil
    case hi1005 => (simp only [List.getElem?_toArray, List.getElem?_cons_zero, List.getElem?_cons_succ]; exact rfl)
    (go_simp; go_at_call 42; (with_reducible refine (C2.out _ B1.out).mono ?_); rintro e W2 ⟨rfl, b2⟩; have B2 : Hid (Below w.heap.size w W2) := Lib.hid (B1.out.trans (b2.out.mono B1.out.size)); try dsimp only)
    refine hK.out _ _ ?_ (fun hHeld => ?_)
    ·exact SA.out _ B2.out
    clear hK K
    try simp only [Act.put, List.setIfInBounds_toArray, List.set_cons_zero, List.set_cons_succ]
    refine takH 30 (h := ?_)
    try simp only [Act.put, List.setIfInBounds_toArray, List.set_cons_zero, List.set_cons_succ]
    refine takH 31 (h := ?_)
    try simp only [Act.put, List.setIfInBounds_toArray, List.set_cons_zero, List.set_cons_succ]
    refine skiH 32 (h := ?_)
    try simp only [Act.put, List.setIfInBounds_toArray, List.set_cons_zero, List.set_cons_succ]
    refine skiH 33 (h := ?_)
    try simp only [Act.put, List.setIfInBounds_toArray, List.set_cons_zero, List.set_cons_succ]
    refine skiH 34 (h := ?_)
    try simp only [Act.put, List.setIfInBounds_toArray, List.set_cons_zero, List.set_cons_succ]
    refine skiH 35 (h := ?_)
    try simp only [Act.put, List.setIfInBounds_toArray, List.set_cons_zero, List.set_cons_succ]
    refine skiH 36 (h := ?_)
    try simp only [Act.put, List.setIfInBounds_toArray, List.set_cons_zero, List.set_cons_succ]
    refine skiH 37 (h := ?_)
    try simp only [Act.put, List.setIfInBounds_toArray, List.set_cons_zero, List.set_cons_succ]
    refine skiH 38 (h := ?_)
    try simp only [Act.put, List.setIfInBounds_toArray, List.set_cons_zero, List.set_cons_succ]
    refine skiH 39 (h := ?_)
    try simp only [Act.put, List.setIfInBounds_toArray, List.set_cons_zero, List.set_cons_succ]
    refine skiH 40 (h := ?_)
    try simp only [Act.put, List.setIfInBounds_toArray, List.set_cons_zero, List.set_cons_succ]
    refine takH 41 (h := ?_)
    try simp only [Act.put, List.setIfInBounds_toArray, List.set_cons_zero, List.set_cons_succ]
    refine takH 42 (h := ?_)
    try simp only [Act.put, List.setIfInBounds_toArray, List.set_cons_zero, List.set_cons_succ]
    refine skiH 43 (h := ?_)
    try simp only [Act.put, List.setIfInBounds_toArray, List.set_cons_zero, List.set_cons_succ]
    refine skiH 44 (h := ?_)
    try simp only [Act.put, List.setIfInBounds_toArray, List.set_cons_zero, List.set_cons_succ]
    refine skiH 45 (h := ?_)
    try simp only [Act.put, List.setIfInBounds_toArray, List.set_cons_zero, List.set_cons_succ]
    refine skiH 46 (h := ?_)
    try simp only [Act.put, List.setIfInBounds_toArray, List.set_cons_zero, List.set_cons_succ]
    refine skiH 47 (h := ?_)
    try simp only [Act.put, List.setIfInBounds_toArray, List.set_cons_zero, List.set_cons_succ]
    refine takH 48 (h := ?_)
    try simp only [Act.put, List.setIfInBounds_toArray, List.set_cons_zero, List.set_cons_succ]
    refine takH 49 (h := ?_)
    try simp only [Act.put, List.setIfInBounds_toArray, List.set_cons_zero, List.set_cons_succ]
    refine wpAnyH_done (by kernel_rfl) ?_ _
    go_wp2
    go_ret
    exact ⟨ret_bool (by rw [VV.out]; simp), B2⟩
   | true =>
    cases dr with
    | false =>
     go_enter Tryz.func19, Tryz.ntmps19
     go_upto_region 1 with (fail)
     refine wp_region_held_drew (S := (fun w' => (w'.cell? ⟨g, 0, none⟩ = some (.int .i64 c) ∧ w'.cell? ⟨g, 1, none⟩ = some (.slice a.D n a.cd) ∧ w'.cell? ⟨g, 2, none⟩ = some (.slice a.R m a.cr) ∧ w'.cell? ⟨g, 3, none⟩ = some (.slice a.F m a.cf)) ∧ w'.cell? ⟨g2, 0, none⟩ = some (.int .i64 c) ∧ w'.cell? ⟨g2, 1, none⟩ = some (.slice a2.D n2 a2.cd) ∧ w'.cell? ⟨g2, 2, none⟩ = some (.slice a2.R m2 a2.cr) ∧ w'.cell? ⟨g2, 3, none⟩ = some (.slice a2.F m2 a2.cf))) (by kernel_rfl) ?hS1006 (fun hHeld => ?_)
     case hS1006 => exact (SA.out _ BW.out)
     refine takH 0 (h := ?_)
     try simp only [Act.put, List.setIfInBounds_toArray, List.set_cons_zero, List.set_cons_succ]
     refine takH 1 (h := ?_)
     try simp only [Act.put, List.setIfInBounds_toArray, List.set_cons_zero, List.set_cons_succ]
     refine takH 2 (h := ?_)
     try simp only [Act.put, List.setIfInBounds_toArray, List.set_cons_zero, List.set_cons_succ]
     refine takH 3 (h := ?_)
     try simp only [Act.put, List.setIfInBounds_toArray, List.set_cons_zero, List.set_cons_succ]
     refine takH 4 (h := ?_)
     try simp only [Act.put, List.setIfInBounds_toArray, List.set_cons_zero, List.set_cons_succ]
     refine takH 5 (h := ?_)
     try simp only [Act.put, List.setIfInBounds_toArray, List.set_cons_zero, List.set_cons_succ]
     refine takH 6 (h := ?_)
     try simp only [Act.put, List.setIfInBounds_toArray, List.set_cons_zero, List.set_cons_succ]
     refine takH 7 (h := ?_)
     try simp only [Act.put, List.setIfInBounds_toArray, List.set_cons_zero, List.set_cons_succ]
     refine takH 8 (h := ?_)
     try simp only [Act.put, List.setIfInBounds_toArray, List.set_cons_zero, List.set_cons_succ]
     refine takH 9 (h := ?_)
     try simp only [Act.put, List.setIfInBounds_toArray, List.set_cons_zero, List.set_cons_succ]
     refine takH 10 (h := ?_)
     try simp only [Act.put, List.setIfInBounds_toArray, List.set_cons_zero, List.set_cons_succ]
     refine takH 11 (h := ?_)
     try simp only [Act.put, List.setIfInBounds_toArray, List.set_cons_zero, List.set_cons_succ]
     refine takH 12 (h := ?_)
     try simp only [Act.put, List.setIfInBounds_toArray, List.set_cons_zero, List.set_cons_succ]
     refine takH 13 (h := ?_)
     try simp only [Act.put, List.setIfInBounds_toArray, List.set_cons_zero, List.set_cons_succ]
     refine takH 14 (h := ?_)
     try simp only [Act.put, List.setIfInBounds_toArray, List.set_cons_zero, List.set_cons_succ]
     refine takH 15 (h := ?_)
     try simp only [Act.put, List.setIfInBounds_toArray, List.set_cons_zero, List.set_cons_succ]
     refine takH 16 (h := ?_)
     try simp only [Act.put, List.setIfInBounds_toArray, List.set_cons_zero, List.set_cons_succ]
     refine takH 17 (h := ?_)
     try simp only [Act.put, List.setIfInBounds_toArray, List.set_cons_zero, List.set_cons_succ]
     refine wpAnyH_ready (rs := [18]) (by kernel_rfl) (by simp) ?_
     refine AllReadyH.cons (o := ?o1007) ?hi1007 (fun K hK => ?_) AllReadyH.nil
     case hi1007 => (simp only [List.getElem?_toArray, List.getElem?_cons_zero, List.getElem?_cons_succ]; exact rfl)
     (go_simp; go_at_call 41; (with_reducible refine (C1.out _ BW.out).mono ?_); rintro e W1 ⟨rfl, b1⟩; have B1 : Hid (Below w.heap.size w W1) := Lib.hid (BW.out.trans (b1.out.mono BW.out.size)); try dsimp only)
     refine hK.out _ _ ?_ (fun hHeld => ?_)
     ·exact SA.out _ B1.out
     clear hK K
     try simp only [Act.put, List.setIfInBounds_toArray, List.set_cons_zero, List.set_cons_succ]
     refine takH 19 (h := ?_)
     try simp only [Act.put, List.setIfInBounds_toArray, List.set_cons_zero, List.set_cons_succ]
     refine takH 20 (h := ?_)
     try simp only [Act.put, List.setIfInBounds_toArray, List.set_cons_zero, List.set_cons_succ]
     refine takH 21 (h := ?_)
     try simp only [Act.put, List.setIfInBounds_toArray, List.set_cons_zero, List.set_cons_succ]
     refine takH 22 (h := ?_)
     try simp only [Act.put, List.setIfInBounds_toArray, List.set_cons_zero, List.set_cons_succ]
     refine takH 23 (h := ?_)
     try simp only [Act.put, List.setIfInBounds_toArray, List.set_cons_zero, List.set_cons_succ]
     refine takH 24 (h := ?_)
     try simp only [Act.put, List.setIfInBounds_toArray, List.set_cons_zero, List.set_cons_succ]
     refine takH 25 (h := ?_)
     try simp only [Act.put, List.setIfInBounds_toArray, List.set_cons_zero, List.set_cons_succ]
     refine takH 26 (h := ?_)
     try simp only [Act.put, List.setIfInBounds_toArray, List.set_cons_zero, List.set_cons_succ]
     refine takH 27 (h := ?_)
     try simp only [Act.put, List.setIfInBounds_toArray, List.set_cons_zero, List.set_cons_succ]
     refine takH 28 (h := ?_)
     try simp only [Act.put, List.setIfInBounds_toArray, List.set_cons_zero, List.set_cons_succ]
     refine wpAnyH_ready (rs := [29]) (by kernel_rfl) (by simp) ?_
     refine AllReadyH.cons (o := ?o1008) ?hi1008 (fun K hK => ?_) AllReadyH.nil
     case hi1008 => (simp only [List.getElem?_toArray, List.getElem?_cons_zero, List.getElem?_cons_succ]; exact rfl)
     (go_simp; go_at_call 42; (with_reducible refine (C2.out _ B1.out).mono ?_); rintro e W2 ⟨rfl, b2⟩; have B2 : Hid (Below w.heap.size w W2) := Lib.hid (B1.out.trans (b2.out.mono B1.out.size)); try dsimp only)
     refine hK.out _ _ ?_ (fun hHeld => ?_)
     ·exact SA.out _ B2.out
     clear hK K
     try simp only [Act.put, List.setIfInBounds_toArray, List.set_cons_zero, List.set_cons_succ]
     refine takH 30 (h := ?_)
     try simp only [Act.put, List.setIfInBounds_toArray, List.set_cons_zero, List.set_cons_succ]
     refine takH 31 (h := ?_)
     try simp only [Act.put, List.setIfInBounds_toArray, List.set_cons_zero, List.set_cons_succ]
     refine takH 32 (h := ?_)
     try simp only [Act.put, List.setIfInBounds_toArray, List.set_cons_zero, List.set_cons_succ]
     refine takH 33 (h := ?_)
     try simp only [Act.put, List.setIfInBounds_toArray, List.set_cons_zero, List.set_cons_succ]
     refine takH 34 (h := ?_)
     try simp only [Act.put, List.setIfInBounds_toArray, List.set_cons_zero, List.set_cons_succ]
     refine takH 35 (h := ?_)
     try simp only [Act.put, List.setIfInBounds_toArray, List.set_cons_zero, List.set_cons_succ]
     refine takH 36 (h := ?_)
     try simp only [Act.put, List.setIfInBounds_toArray, List.set_cons_zero, List.set_cons_succ]
     refine takH 37 (h := ?_)
     try simp only [Act.put, List.setIfInBounds_toArray, List.set_cons_zero, List.set_cons_succ]
     refine takH 38 (h := ?_)
     try simp only [Act.put, List.setIfInBounds_toArray, List.set_cons_zero, List.set_cons_succ]
     refine takH 39 (h := ?_)
     try simp only [Act.put, List.setIfInBounds_toArray, List.set_cons_zero, List.set_cons_succ]
     refine wpAnyH_ready (rs := [40]) (by kernel_rfl) (by simp) ?_
     refine AllReadyH.cons (o := ?o1009) ?hi1009 (fun K hK => ?_) AllReadyH.nil
     case hi1009 => (simp only [List.getElem?_toArray, List.getElem?_cons_zero, List.getElem?_cons_succ]; exact rfl)
     (go_simp; go_at_call 43; (with_reducible refine (C3.out _ B2.out).mono ?_); rintro e W3 ⟨rfl, b3⟩; have B3 : Hid (Below w.heap.size w W3) := Lib.hid (B2.out.trans (b3.out.mono B2.out.size)); try dsimp only)
     refine hK.out _ _ ?_ (fun hHeld => ?_)
     ·exact SA.out _ B3.out
     clear hK K
     try simp only [Act.put, List.setIfInBounds_toArray, List.set_cons_zero, List.set_cons_succ]
     refine takH 41 (h := ?_)
     try simp only [Act.put, List.setIfInBounds_toArray, List.set_cons_zero, List.set_cons_succ]
     refine takH 42 (h := ?_)
     try simp only [Act.put, List.setIfInBounds_toArray, List.set_cons_zero, List.set_cons_succ]
     refine skiH 43 (h := ?_)
     try simp only [Act.put, List.setIfInBounds_toArray, List.set_cons_zero, List.set_cons_succ]
     refine skiH 44 (h := ?_)
     try simp only [Act.put, List.setIfInBounds_toArray, List.set_cons_zero, List.set_cons_succ]
     refine skiH 45 (h := ?_)
     try simp only [Act.put, List.setIfInBounds_toArray, List.set_cons_zero, List.set_cons_succ]
     refine skiH 46 (h := ?_)
     try simp only [Act.put, List.setIfInBounds_toArray, List.set_cons_zero, List.set_cons_succ]
     refine skiH 47 (h := ?_)
     try simp only [Act.put, List.setIfInBounds_toArray, List.set_cons_zero, List.set_cons_succ]
     refine takH 48 (h := ?_)
     try simp only [Act.put, List.setIfInBounds_toArray, List.set_cons_zero, List.set_cons_succ]
     refine takH 49 (h := ?_)
     try simp only [Act.put, List.setIfInBounds_toArray, List.set_cons_zero, List.set_cons_succ]
     refine wpAnyH_done (by kernel_rfl) ?_ _
     go_wp2
     go_ret
     exact ⟨ret_bool (by rw [VV.out]; simp), B3⟩
    | true =>
     go_enter Tryz.func19, Tryz.ntmps19
     go_upto_region 1 with (fail)
     refine wp_region_held_drew (S := (fun w' => (w'.cell? ⟨g, 0, none⟩ = some (.int .i64 c) ∧ w'.cell? ⟨g, 1, none⟩ = some (.slice a.D n a.cd) ∧ w'.cell? ⟨g, 2, none⟩ = some (.slice a.R m a.cr) ∧ w'.cell? ⟨g, 3, none⟩ = some (.slice a.F m a.cf)) ∧ w'.cell? ⟨g2, 0, none⟩ = some (.int .i64 c) ∧ w'.cell? ⟨g2, 1, none⟩ = some (.slice a2.D n2 a2.cd) ∧ w'.cell? ⟨g2, 2, none⟩ = some (.slice a2.R m2 a2.cr) ∧ w'.cell? ⟨g2, 3, none⟩ = some (.slice a2.F m2 a2.cf))) (by kernel_rfl) ?hS1010 (fun hHeld => ?_)
     case hS1010 => exact (SA.out _ BW.out)
     refine takH 0 (h := ?_)
     try simp only [Act.put, List.setIfInBounds_toArray, List.set_cons_zero, List.set_cons_succ]
     refine takH 1 (h := ?_)
     try simp only [Act.put, List.setIfInBounds_toArray, List.set_cons_zero, List.set_cons_succ]
     refine takH 2 (h := ?_)
     try simp only [Act.put, List.setIfInBounds_toArray, List.set_cons_zero, List.set_cons_succ]
     refine takH 3 (h := ?_)
     try simp only [Act.put, List.setIfInBounds_toArray, List.set_cons_zero, List.set_cons_succ]
     refine takH 4 (h := ?_)
     try simp only [Act.put, List.setIfInBounds_toArray, List.set_cons_zero, List.set_cons_succ]
     refine takH 5 (h := ?_)
     try simp only [Act.put, List.setIfInBounds_toArray, List.set_cons_zero, List.set_cons_succ]
     refine takH 6 (h := ?_)
     try simp only [Act.put, List.setIfInBounds_toArray, List.set_cons_zero, List.set_cons_succ]
     refine takH 7 (h := ?_)
     try simp only [Act.put, List.setIfInBounds_toArray, List.set_cons_zero, List.set_cons_succ]
     refine takH 8 (h := ?_)
     try simp only [Act.put, List.setIfInBounds_toArray, List.set_cons_zero, List.set_cons_succ]
     refine takH 9 (h := ?_)
     try simp only [Act.put, List.setIfInBounds_toArray, List.set_cons_zero, List.set_cons_succ]
     refine takH 10 (h := ?_)
     try simp only [Act.put, List.setIfInBounds_toArray, List.set_cons_zero, List.set_cons_succ]
     refine takH 11 (h := ?_)
     try simp only [Act.put, List.setIfInBounds_toArray, List.set_cons_zero, List.set_cons_succ]
     refine takH 12 (h := ?_)
     try simp only [Act.put, List.setIfInBounds_toArray, List.set_cons_zero, List.set_cons_succ]
     refine takH 13 (h := ?_)
     try simp only [Act.put, List.setIfInBounds_toArray, List.set_cons_zero, List.set_cons_succ]
     refine takH 14 (h := ?_)
     try simp only [Act.put, List.setIfInBounds_toArray, List.set_cons_zero, List.set_cons_succ]
     refine takH 15 (h := ?_)
     try simp only [Act.put, List.setIfInBounds_toArray, List.set_cons_zero, List.set_cons_succ]
     refine takH 16 (h := ?_)
     try simp only [Act.put, List.setIfInBounds_toArray, List.set_cons_zero, List.set_cons_succ]
     refine takH 17 (h := ?_)
     try simp only [Act.put, List.setIfInBounds_toArray, List.set_cons_zero, List.set_cons_succ]
     refine wpAnyH_ready (rs := [18]) (by kernel_rfl) (by simp) ?_
     refine AllReadyH.cons (o := ?o1011) ?hi1011 (fun K hK => ?_) AllReadyH.nil
     case hi1011 => (simp only [List.getElem?_toArray, List.getElem?_cons_zero, List.getElem?_cons_succ]; exact rfl)
     (go_simp; go_at_call 41; (with_reducible refine (C1.out _ BW.out).mono ?_); rintro e W1 ⟨rfl, b1⟩; have B1 : Hid (Below w.heap.size w W1) := Lib.hid (BW.out.trans (b1.out.mono BW.out.size)); try dsimp only)
     refine hK.out _ _ ?_ (fun hHeld => ?_)
     ·exact SA.out _ B1.out
     clear hK K
     try simp only [Act.put, List.setIfInBounds_toArray, List.set_cons_zero, List.set_cons_succ]
     refine takH 19 (h := ?_)
     try simp only [Act.put, List.setIfInBounds_toArray, List.set_cons_zero, List.set_cons_succ]
     refine takH 20 (h := ?_)
     try simp only [Act.put, List.setIfInBounds_toArray, List.set_cons_zero, List.set_cons_succ]
     refine takH 21 (h := ?_)
     try simp only [Act.put, List.setIfInBounds_toArray, List.set_cons_zero, List.set_cons_succ]
     refine takH 22 (h := ?_)
     try simp only [Act.put, List.setIfInBounds_toArray, List.set_cons_zero, List.set_cons_succ]
     refine takH 23 (h := ?_)
     try simp only [Act.put, List.setIfInBounds_toArray, List.set_cons_zero, List.set_cons_succ]
     refine takH 24 (h := ?_)
     try simp only [Act.put, List.setIfInBounds_toArray, List.set_cons_zero, List.set_cons_succ]
     refine takH 25 (h := ?_)
     try simp only [Act.put, List.setIfInBounds_toArray, List.set_cons_zero, List.set_cons_succ]
     refine takH 26 (h := ?_)
     try simp only [Act.put, List.setIfInBounds_toArray, List.set_cons_zero, List.set_cons_succ]
     refine takH 27 (h := ?_)
     try simp only [Act.put, List.setIfInBounds_toArray, List.set_cons_zero, List.set_cons_succ]
     refine takH 28 (h := ?_)
     try simp only [Act.put, List.setIfInBounds_toArray, List.set_cons_zero, List.set_cons_succ]
     refine wpAnyH_ready (rs := [29]) (by kernel_rfl) (by simp) ?_
     refine AllReadyH.cons (o := ?o1012) ?hi1012 (fun K hK => ?_) AllReadyH.nil
     case hi1012 => (simp only [List.getElem?_toArray, List.getElem?_cons_zero, List.getElem?_cons_succ]; exact rfl)
     (go_simp; go_at_call 42; (with_reducible refine (C2.out _ B1.out).mono ?_); rintro e W2 ⟨rfl, b2⟩; have B2 : Hid (Below w.heap.size w W2) := Lib.hid (B1.out.trans (b2.out.mono B1.out.size)); try dsimp only)
     refine hK.out _ _ ?_ (fun hHeld => ?_)
     ·exact SA.out _ B2.out
     clear hK K
     try simp only [Act.put, List.setIfInBounds_toArray, List.set_cons_zero, List.set_cons_succ]
     refine takH 30 (h := ?_)
     try simp only [Act.put, List.setIfInBounds_toArray, List.set_cons_zero, List.set_cons_succ]
     refine takH 31 (h := ?_)
     try simp only [Act.put, List.setIfInBounds_toArray, List.set_cons_zero, List.set_cons_succ]
     refine takH 32 (h := ?_)
     try simp only [Act.put, List.setIfInBounds_toArray, List.set_cons_zero, List.set_cons_succ]
     refine takH 33 (h := ?_)
     try simp only [Act.put, List.setIfInBounds_toArray, List.set_cons_zero, List.set_cons_succ]
     refine takH 34 (h := ?_)
     try simp only [Act.put, List.setIfInBounds_toArray, List.set_cons_zero, List.set_cons_succ]
     refine takH 35 (h := ?_)
     try simp only [Act.put, List.setIfInBounds_toArray, List.set_cons_zero, List.set_cons_succ]
     refine takH 36 (h := ?_)
     try simp only [Act.put, List.setIfInBounds_toArray, List.set_cons_zero, List.set_cons_succ]
     refine takH 37 (h := ?_)
     try simp only [Act.put, List.setIfInBounds_toArray, List.set_cons_zero, List.set_cons_succ]
     refine takH 38 (h := ?_)
     try simp only [Act.put, List.setIfInBounds_toArray, List.set_cons_zero, List.set_cons_succ]
     refine takH 39 (h := ?_)
     try simp only [Act.put, List.setIfInBounds_toArray, List.set_cons_zero, List.set_cons_succ]
     refine wpAnyH_ready (rs := [40]) (by kernel_rfl) (by simp) ?_
     refine AllReadyH.cons (o := ?o1013) ?hi1013 (fun K hK => ?_) AllReadyH.nil
     case hi1013 => (simp only [List.getElem?_toArray, List.getElem?_cons_zero, List.getElem?_cons_succ]; exact rfl)
     (go_simp; go_at_call 43; (with_reducible refine (C3.out _ B2.out).mono ?_); rintro e W3 ⟨rfl, b3⟩; have B3 : Hid (Below w.heap.size w W3) := Lib.hid (B2.out.trans (b3.out.mono B2.out.size)); try dsimp only)
     refine hK.out _ _ ?_ (fun hHeld => ?_)
     ·exact SA.out _ B3.out
     clear hK K
     try simp only [Act.put, List.setIfInBounds_toArray, List.set_cons_zero, List.set_cons_succ]
     refine takH 41 (h := ?_)
     try simp only [Act.put, List.setIfInBounds_toArray, List.set_cons_zero, List.set_cons_succ]
     refine takH 42 (h := ?_)
     try simp only [Act.put, List.setIfInBounds_toArray, List.set_cons_zero, List.set_cons_succ]
     refine takH 43 (h := ?_)
     try simp only [Act.put, List.setIfInBounds_toArray, List.set_cons_zero, List.set_cons_succ]
     refine takH 45 (h := ?_)
     try simp only [Act.put, List.setIfInBounds_toArray, List.set_cons_zero, List.set_cons_succ]
     refine wpAnyH_ready (rs := [44]) (by kernel_rfl) (by simp) ?_
     refine AllReadyH.cons (o := ?o1014) ?hi1014 (fun K hK => ?_) AllReadyH.nil
     case hi1014 => (simp only [List.getElem?_toArray, List.getElem?_cons_zero, List.getElem?_cons_succ]; exact rfl)
     (go_simp; go_at_call 45; (with_reducible refine (C4.out _ B3.out).mono ?_); rintro e W4 ⟨A4, c4, rfl, b4, n4⟩; have B4 : Hid (Below w.heap.size w W4) := Lib.hid (B3.out.trans (b4.out.mono B3.out.size)); try dsimp only)
     refine hK.out _ _ ?_ (fun hHeld => ?_)
     ·exact SA.out _ B4.out
     clear hK K
     try simp only [Act.put, List.setIfInBounds_toArray, List.set_cons_zero, List.set_cons_succ]
     refine wpAnyH_ready (rs := [46]) (by kernel_rfl) (by simp) ?_
     refine AllReadyH.cons (o := ?o1015) ?hi1015 (fun K hK => ?_) AllReadyH.nil
     case hi1015 => (simp only [List.getElem?_toArray, List.getElem?_cons_zero, List.getElem?_cons_succ]; exact rfl)
     (go_simp; go_at_call 45; (with_reducible refine (C5.out _ B4.out).mono ?_); rintro e W5 ⟨A5, c5, rfl, b5, n5⟩; have B5 : Hid (Below w.heap.size w W5) := Lib.hid (B4.out.trans (b5.out.mono B4.out.size)); try dsimp only)
     refine hK.out _ _ ?_ (fun hHeld => ?_)
     ·exact SA.out _ B5.out
     clear hK K
     try simp only [Act.put, List.setIfInBounds_toArray, List.set_cons_zero, List.set_cons_succ]
     have N4 : Hid (EnsO W5 A4 s.keys) := Lib.hid (ents_ens (n4.out.2.keep b5.out.size fun b _ hl => b5.out.block b hl) n4.out.1.1)
     refine wpAnyH_ready (rs := [47]) (by kernel_rfl) (by simp) ?_
     refine AllReadyH.cons (o := ?o1016) ?hi1016 (fun K hK => ?_) AllReadyH.nil
     case hi1016 => (simp only [List.getElem?_toArray, List.getElem?_cons_zero, List.getElem?_cons_succ]; exact rfl)
     (go_simp; go_at_call 44; (with_reducible refine (C6.out _ _ _ _ _ N4.out n5.out).mono ?_); rintro e W6 ⟨rfl, b6⟩; have B6 : Hid (Below w.heap.size w W6) := Lib.hid (B5.out.trans (b6.out.mono B5.out.size)); try dsimp only)
     refine hK.out _ _ ?_ (fun hHeld => ?_)
     ·exact SA.out _ B6.out
     clear hK K
     try simp only [Act.put, List.setIfInBounds_toArray, List.set_cons_zero, List.set_cons_succ]
     refine takH 48 (h := ?_)
     try simp only [Act.put, List.setIfInBounds_toArray, List.set_cons_zero, List.set_cons_succ]
     refine takH 49 (h := ?_)
     try simp only [Act.put, List.setIfInBounds_toArray, List.set_cons_zero, List.set_cons_succ]
     refine wpAnyH_done (by kernel_rfl) ?_ _
     go_wp2
     go_ret
     exact ⟨ret_bool (by rw [VV.out]; simp), B6⟩
 ·have hc3 : (c == c2) = false := by simpa using hcc
  go_enter Tryz.func19, Tryz.ntmps19
  go_upto_region 1 with (fail)
  refine wp_region_held_drew (S := (fun w' => (w'.cell? ⟨g, 0, none⟩ = some (.int .i64 c) ∧ w'.cell? ⟨g, 1, none⟩ = some (.slice a.D n a.cd) ∧ w'.cell? ⟨g, 2, none⟩ = some (.slice a.R m a.cr) ∧ w'.cell? ⟨g, 3, none⟩ = some (.slice a.F m a.cf)) ∧ w'.cell? ⟨g2, 0, none⟩ = some (.int .i64 c2) ∧ w'.cell? ⟨g2, 1, none⟩ = some (.slice a2.D n2 a2.cd) ∧ w'.cell? ⟨g2, 2, none⟩ = some (.slice a2.R m2 a2.cr) ∧ w'.cell? ⟨g2, 3, none⟩ = some (.slice a2.F m2 a2.cf))) (by kernel_rfl) ?hS1017 (fun hHeld => ?_)
  case hS1017 => exact (SA.out _ BW.out)
  refine takH 0 (h := ?_)
  try simp only [Act.put, List.setIfInBounds_toArray, List.set_cons_zero, List.set_cons_succ]
  refine takH 1 (h := ?_)
  try simp only [Act.put, List.setIfInBounds_toArray, List.set_cons_zero, List.set_cons_succ]
  refine takH 2 (h := ?_)
  try simp only [Act.put, List.setIfInBounds_toArray, List.set_cons_zero, List.set_cons_succ]
  refine takH 3 (h := ?_)
  try simp only [Act.put, List.setIfInBounds_toArray, List.set_cons_zero, List.set_cons_succ]
  refine takH 4 (h := ?_)
  try simp only [Act.put, List.setIfInBounds_toArray, List.set_cons_zero, List.set_cons_succ]
  refine takH 5 (h := ?_)
  try simp only [Act.put, List.setIfInBounds_toArray, List.set_cons_zero, List.set_cons_succ]
  refine takH 6 (h := ?_)
  try simp only [Act.put, List.setIfInBounds_toArray, List.set_cons_zero, List.set_cons_succ]
  refine takH 7 (h := ?_)
  try simp only [Act.put, List.setIfInBounds_toArray, List.set_cons_zero, List.set_cons_succ]
  refine takH 8 (h := ?_)
  try simp only [Act.put, List.setIfInBounds_toArray, List.set_cons_zero, List.set_cons_succ]
  refine takH 9 (h := ?_)
  try simp only [Act.put, List.setIfInBounds_toArray, List.set_cons_zero, List.set_cons_succ]
  refine skiH 10 (h := ?_)
  try simp only [Act.put, List.setIfInBounds_toArray, List.set_cons_zero, List.set_cons_succ]
  refine skiH 11 (h := ?_)
  try simp only [Act.put, List.setIfInBounds_toArray, List.set_cons_zero, List.set_cons_succ]
  refine skiH 12 (h := ?_)
  try simp only [Act.put, List.setIfInBounds_toArray, List.set_cons_zero, List.set_cons_succ]
  refine skiH 13 (h := ?_)
  try simp only [Act.put, List.setIfInBounds_toArray, List.set_cons_zero, List.set_cons_succ]
  refine skiH 14 (h := ?_)
  try simp only [Act.put, List.setIfInBounds_toArray, List.set_cons_zero, List.set_cons_succ]
  refine skiH 15 (h := ?_)
  try simp only [Act.put, List.setIfInBounds_toArray, List.set_cons_zero, List.set_cons_succ]
  refine skiH 16 (h := ?_)
  try simp only [Act.put, List.setIfInBounds_toArray, List.set_cons_zero, List.set_cons_succ]
  refine skiH 17 (h := ?_)
  try simp only [Act.put, List.setIfInBounds_toArray, List.set_cons_zero, List.set_cons_succ]
  refine skiH 18 (h := ?_)
  try simp only [Act.put, List.setIfInBounds_toArray, List.set_cons_zero, List.set_cons_succ]
  refine takH 19 (h := ?_)
  try simp only [Act.put, List.setIfInBounds_toArray, List.set_cons_zero, List.set_cons_succ]
  refine takH 20 (h := ?_)
  try simp only [Act.put, List.setIfInBounds_toArray, List.set_cons_zero, List.set_cons_succ]
  refine skiH 21 (h := ?_)
  try simp only [Act.put, List.setIfInBounds_toArray, List.set_cons_zero, List.set_cons_succ]
  refine skiH 22 (h := ?_)
  try simp only [Act.put, List.setIfInBounds_toArray, List.set_cons_zero, List.set_cons_succ]
  refine skiH 23 (h := ?_)
  try simp only [Act.put, List.setIfInBounds_toArray, List.set_cons_zero, List.set_cons_succ]
  refine skiH 24 (h := ?_)
  try simp only [Act.put, List.setIfInBounds_toArray, List.set_cons_zero, List.set_cons_succ]
  refine skiH 25 (h := ?_)
  try simp only [Act.put, List.setIfInBounds_toArray, List.set_cons_zero, List.set_cons_succ]
  refine skiH 26 (h := ?_)
  try simp only [Act.put, List.setIfInBounds_toArray, List.set_cons_zero, List.set_cons_succ]
  refine skiH 27 (h := ?_)
  try simp only [Act.put, List.setIfInBounds_toArray, List.set_cons_zero, List.set_cons_succ]
  refine skiH 28 (h := ?_)
  try simp only [Act.put, List.setIfInBounds_toArray, List.set_cons_zero, List.set_cons_succ]
  refine skiH 29 (h := ?_)
  try simp only [Act.put, List.setIfInBounds_toArray, List.set_cons_zero, List.set_cons_succ]
  refine takH 30 (h := ?_)
  try simp only [Act.put, List.setIfInBounds_toArray, List.set_cons_zero, List.set_cons_succ]
  refine takH 31 (h := ?_)
  try simp only [Act.put, List.setIfInBounds_toArray, List.set_cons_zero, List.set_cons_succ]
  refine skiH 32 (h := ?_)
  try simp only [Act.put, List.setIfInBounds_toArray, List.set_cons_zero, List.set_cons_succ]
  refine skiH 33 (h := ?_)
  try simp only [Act.put, List.setIfInBounds_toArray, List.set_cons_zero, List.set_cons_succ]
  refine skiH 34 (h := ?_)
  try simp only [Act.put, List.setIfInBounds_toArray, List.set_cons_zero, List.set_cons_succ]
  refine skiH 35 (h := ?_)
  try simp only [Act.put, List.setIfInBounds_toArray, List.set_cons_zero, List.set_cons_succ]
  refine skiH 36 (h := ?_)
  try simp only [Act.put, List.setIfInBounds_toArray, List.set_cons_zero, List.set_cons_succ]
  refine skiH 37 (h := ?_)
  try simp only [Act.put, List.setIfInBounds_toArray, List.set_cons_zero, List.set_cons_succ]
  refine skiH 38 (h := ?_)
  try simp only [Act.put, List.setIfInBounds_toArray, List.set_cons_zero, List.set_cons_succ]
  refine skiH 39 (h := ?_)
  try simp only [Act.put, List.setIfInBounds_toArray, List.set_cons_zero, List.set_cons_succ]
  refine skiH 40 (h := ?_)
  try simp only [Act.put, List.setIfInBounds_toArray, List.set_cons_zero, List.set_cons_succ]
  refine takH 41 (h := ?_)
  try simp only [Act.put, List.setIfInBounds_toArray, List.set_cons_zero, List.set_cons_succ]
  refine takH 42 (h := ?_)
  try simp only [Act.put, List.setIfInBounds_toArray, List.set_cons_zero, List.set_cons_succ]
  refine skiH 43 (h := ?_)
  try simp only [Act.put, List.setIfInBounds_toArray, List.set_cons_zero, List.set_cons_succ]
  refine skiH 44 (h := ?_)
  try simp only [Act.put, List.setIfInBounds_toArray, List.set_cons_zero, List.set_cons_succ]
  refine skiH 45 (h := ?_)
  try simp only [Act.put, List.setIfInBounds_toArray, List.set_cons_zero, List.set_cons_succ]
  refine skiH 46 (h := ?_)
  try simp only [Act.put, List.setIfInBounds_toArray, List.set_cons_zero, List.set_cons_succ]
  refine skiH 47 (h := ?_)
  try simp only [Act.put, List.setIfInBounds_toArray, List.set_cons_zero, List.set_cons_succ]
  refine takH 48 (h := ?_)
  try simp only [Act.put, List.setIfInBounds_toArray, List.set_cons_zero, List.set_cons_succ]
  refine takH 49 (h := ?_)
  try simp only [Act.put, List.setIfInBounds_toArray, List.set_cons_zero, List.set_cons_succ]
  refine wpAnyH_done (by kernel_rfl) ?_ _
  go_wp2
  go_ret
  exact ⟨ret_bool (by rw [VV.out, decide_eq_false hcc]; rfl), BW⟩
end Go.Proofs.YtkbekojnmdgdgaaGreatDoor
