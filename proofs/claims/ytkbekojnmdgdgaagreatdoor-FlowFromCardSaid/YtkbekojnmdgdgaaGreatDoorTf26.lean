/-
  Part 26 of the texts behind the law: TFlCopies, TFlKeyPut, TFlCloneF, TFlDefs, TFlStateP, TFlIsTask, TFlDelS, TFlSigs.
-/
import Derived.Test.YtkbekojnmdgdgaaGreatDoorTf20
import Derived.Test.YtkbekojnmdgdgaaGreatDoorTf11
import Derived.Test.YtkbekojnmdgdgaaGreatDoorTf24
import Derived.Laws.MakeOwn
import Derived.Test.YtkbekojnmdgdgaaGreatDoorTf5
import Derived.Test.YtkbekojnmdgdgaaGreatDoorTf25
import Derived.Test.YtkbekojnmdgdgaaGreatDoorTf9
import Derived.Test.YtkbekojnmdgdgaaGreatDoorTf2
import Derived.Test.YtkbekojnmdgdgaaGreatDoorTf21
import Derived.Deep.RegionLaw
import Derived.Deep.RegionWith
import Derived.Test.YtkbekojnmdgdgaaGreatDoorTf22
/- FlCopies -/
namespace Go.Proofs.YtkbekojnmdgdgaaGreatDoor
open Go.RowKit
set_option maxRecDepth 20000
theorem made_flatK (z : Array Value) (k n : Nat) (hk : z.size = k) (h0 : 0 < k) (hw : Wide k (List.replicate n z.toList)) : (madeCells z (n * k)).toList = (List.replicate n z.toList).flatten := by
 have hl := hw.len
 rw [List.length_replicate] at hl
 refine List.ext_getElem (by rw [Array.length_toList, size_madeCells, hl]) fun j h1 h2 => ?_
 have hj : j < n * k := by rw [hl] at h2; exact h2
 have hi : j / k < n := by rw [Nat.div_lt_iff_lt_mul h0]; exact hj
 have hg := hw.get (j / k) (j % k) (by rw [List.length_replicate]; exact hi) (Nat.mod_lt _ h0)
 rw [show j / k * k + j % k = j by rw [Nat.mul_comm]; exact Nat.div_add_mod j k, getD_at (by rw [List.length_replicate]; exact hi), List.getElem_replicate, List.getElem?_eq_getElem h2] at hg
 have e : (madeCells z (n * k)).toList[j] = z[j % z.size]! := by simp [madeCells]
 have hm : j % z.size < z.size := Nat.mod_lt _ (by omega)
 rw [e, getElem!_pos z _ hm]
 subst hk
 have h3 : z.toList[j % z.size]? = some z[j % z.size] := by rw [List.getElem?_eq_getElem (by simpa using hm)]; simp
 rw [h3] at hg
 exact (Option.some.inj hg).symm
theorem own_made (W : World) (T : TypeId) (z : Array Value) (n k : Nat) (hk : z.size = k) (h0 : 0 < k) (hz : ∀ u ∈ z.toList, u.oneCell' = true) (hn : n ≤ 1000000) : OwnK (W.alloc (.cells (madeCells z (n * k)) T)) W.heap.size T k (some ⟨W.heap.size, 0, none⟩) n (List.replicate n z.toList) := by
 have hw : Wide k (List.replicate n z.toList) := fun v hv => by
  rw [List.eq_of_mem_replicate hv]
  exact ⟨by rw [Array.length_toList]; exact hk, hz⟩
 have := OwnK.lit (w := W) (T := T) (List.replicate n z.toList) hw (by rw [List.length_replicate]; omega) (madeCells z (n * k)) (made_flatK z k n hk h0 hw)
 rw [List.length_replicate] at this
 exact this
def rwV (rs : List Rn.R) (f : Nat → At3) : List (List Value) := (List.range rs.length).map fun i => rnV (f i) (rs.getD i Rn.r0)
def cpV (rs : List Rn.R) (f : Nat → At3) (k : Nat) : List (List Value) := (List.range rs.length).map fun i => if i < k then rnV (f i) (rs.getD i Rn.r0) else rnV at0 Rn.r0
theorem cpV_len (rs : List Rn.R) (f : Nat → At3) (k : Nat) : (cpV rs f k).length = rs.length := by simp [cpV]
theorem cpV_zero (rs : List Rn.R) (f : Nat → At3) : cpV rs f 0 = List.replicate rs.length (rnV at0 Rn.r0) := by
 refine List.ext_getElem (by simp [cpV]) fun i h1 h2 => ?_
 simp [cpV]
theorem cpV_all (rs : List Rn.R) (f : Nat → At3) : cpV rs f rs.length = rwV rs f := by
 refine List.ext_getElem (by simp [cpV, rwV]) fun i h1 h2 => ?_
 have : i < rs.length := by simpa [cpV] using h1
 simp [cpV, rwV, this]
theorem cpV_set (rs : List Rn.R) (f : Nat → At3) {k : Nat} (hk : k < rs.length) (q : At3) : (cpV rs f k).set k (rnV q (rs.getD k Rn.r0)) = cpV rs (fun i => if i = k then q else f i) (k + 1) := by
 refine List.ext_getElem (by simp [cpV]) fun i h1 h2 => ?_
 rw [List.getElem_set]
 simp only [cpV, List.getElem_map, List.getElem_range]
 by_cases e : k = i
 ·subst e
  rw [if_pos rfl, if_pos (by omega), if_pos rfl]
 ·have e2 : i ≠ k := fun h => e h.symm
  by_cases h : i < k
  ·simp [h, e, e2, show i < k + 1 by omega]
  ·simp [h, e, show ¬ i < k + 1 by omega]
theorem rsV_rw (l : List (Rn.R × ByteArray)) (f : Nat → At3) : rsV l f = rwV (l.map (·.1)) f := by
 refine List.ext_getElem (by simp [rsV, rwV]) fun i h1 h2 => ?_
 have hi : i < l.length := by rw [rsV_len] at h1; exact h1
 rw [rsV_get, rAt_get hi]
 simp [rwV, hi]
def CopsG (w : World) (rs : List Rn.R) (n : Nat) (e : Ending) (w' : World) : Prop :=
 ∃ Y f, e = .returned (.slice (some ⟨Y, 0, none⟩) n n) ∧ Hid (OwnK w' w.heap.size 41 4 (some ⟨Y, 0, none⟩) n (rwV rs f)) ∧ Hid (∀ i, i < rs.length → RunO w' (fun b => w.heap.size ≤ b ∧ b ≠ Y) (f i) (rs.getD i Rn.r0)) ∧ Hid (Below w.heap.size w w')
def zeroRn : Array Value := #[.slice none 0 0, .int .i64 0, .slice none 0 0, .slice none 0 0]
theorem made_Rn (n : Nat) (hn : n ≤ 1000000) (W : World) : (Instr.makeSlice 54 (.int .i64 (n : Int)) (.int .i64 (n : Int))).run Tryz.prog W = .ok (.slice (some ⟨W.heap.size, 0, none⟩) n n) (W.alloc (.cells (madeCells zeroRn (n * 4)) 41)) := by
 obtain ⟨i, hi, hz, hs, hy⟩ := info_parts infoRn
 have hr := run_make (P := Tryz.prog) W 54 41 i _ Tryz.underlying54 hi hz .i64 .i64 n n (by omega) (Int.le_refl _) (by rw [hy]; omega) (by omega)
 rw [hs, Int.toNat_natCast] at hr
 exact hr
theorem OwnK.four {w : World} {base b cap : Nat} {T : TypeId} {vs : List (List Value)} (h : OwnK w base T 4 (some ⟨b, 0, none⟩) cap vs) {k : Nat} (hk : k < vs.length) :
  ∃ u0 u1 u2 u3, w.cell? ⟨b, k * 4, none⟩ = some u0 ∧ w.cell? ⟨b, k * 4 + 1, none⟩ = some u1 ∧ w.cell? ⟨b, k * 4 + 2, none⟩ = some u2 ∧ w.cell? ⟨b, k * 4 + 3, none⟩ = some u3 := by
 have hl := (h.2 (vs.getD k []) (by rw [getD_at hk]; exact List.getElem_mem _)).1
 obtain ⟨x0, x1, x2, x3, e⟩ : ∃ x0 x1 x2 x3, vs.getD k [] = [x0, x1, x2, x3] := by
  match vs.getD k [], hl with
  | [x0, x1, x2, x3], _ => exact ⟨x0, x1, x2, x3, rfl⟩
 have key : ∀ (j : Nat) (u : Value), j < 4 → [x0, x1, x2, x3][j]? = some u → w.cell? ⟨b, k * 4 + j, none⟩ = some u := fun j u hj hu => h.cell hk hj (by rw [e]; exact hu)
 exact ⟨x0, x1, x2, x3, key 0 _ (by decide) rfl, key 1 _ (by decide) rfl, key 2 _ (by decide) rfl, key 3 _ (by decide) rfl⟩
def CpI (w : World) (rs : List Rn.R) (n k : Nat) (wr : World) : Prop := ∃ f, OwnK wr w.heap.size 41 4 (some ⟨w.heap.size, 0, none⟩) n (cpV rs f k) ∧ (∀ i, i < k → RunO wr (fun b => w.heap.size < b) (f i) (rs.getD i Rn.r0)) ∧ Below w.heap.size w wr
set_option maxHeartbeats 4000000 in
theorem copiesOf_any (A : Option Addr) (c : Nat) (rs : List Rn.R) (hB : ∀ r ∈ rs, Bd r) (h9 : rs.length ≤ 1000) (n : Nat) (hn : n = rs.length) (w : World) (O : Nat → Prop) (h : RunsO w O A rs) :
  Calls Tryz.prog 37 #[.slice A n c] w (CopsG w rs n) := by
 have H := Lib.hid h
 have HB := Lib.hid hB
 have HN := Lib.hid hn
 have hn9 : n ≤ 1000 := by rw [hn]; exact h9
 have ME := made_Rn n (by omega)
 obtain ⟨w1, hw1⟩ : ∃ w1, w1 = w.alloc (.cells (madeCells zeroRn (n * 4)) 41) := ⟨_, rfl⟩
 have I0 : Hid (CpI w rs n 0 w1) := Lib.hid ⟨fun _ => at0, by
  rw [cpV_zero, ← hn, hw1]
  exact own_made w _ zeroRn n 4 rfl (by decide) (fun u hu => by simp [zeroRn] at hu; rcases hu with rfl | rfl | rfl | rfl <;> rfl) (by omega), fun i hi => by omega, by rw [hw1]; exact (Below.refl _ _).alloc (Nat.le_refl _) _⟩
 clear h hB h9 hn
 go_enter Tryz.func37, Tryz.ntmps37
 go_upto_region 2 with (fail)
 rw [← hw1]
 clear hw1 ME
 go_wp2_with fail
 go_loopw [11] (fun iv wr => ∃ k : Nat, k ≤ n ∧ iv = .int .i64 k ∧ Hid (CpI w rs n k wr)) (fun iv _ => n - (intOf iv).toNat)
 case atStart => exact ⟨0, Nat.zero_le _, rfl, I0⟩
 case round =>
  obtain ⟨k, hk, rfl, HI⟩ := hrel
  by_cases hlt : k < n
  ·have hlt' : (k : Int) < (n : Int) := by omega
   have HK : Hid (k < rs.length) := Lib.hid (by rw [← HN.out]; exact hlt)
   obtain ⟨f, own, inn, bel⟩ := HI.out
   have OW := Lib.hid own
   have IN := Lib.hid inn
   have BW := Lib.hid bel
   obtain ⟨b, off, hA, ho, hb, hc⟩ := H.out (by have := HK.out; omega)
   obtain ⟨p, e0, e1, e2, e3, hr, hst⟩ := hc k HK.out
   have d0 : wr.cell? ⟨b, off + k * 4, none⟩ = some (.slice p.A (rs.getD k Rn.r0).d.length p.ca) := (bel.cell (p := ⟨b, off + k * 4, none⟩) hb).trans e0
   have d1 : wr.cell? ⟨b, off + k * 4 + 1, none⟩ = some (.int .i64 (rs.getD k Rn.r0).st) := (bel.cell (p := ⟨b, off + k * 4 + 1, none⟩) hb).trans e1
   have d2 : wr.cell? ⟨b, off + k * 4 + 2, none⟩ = some (.slice p.T (rs.getD k Rn.r0).ts.length p.ct) := (bel.cell (p := ⟨b, off + k * 4 + 2, none⟩) hb).trans e2
   have d3 : wr.cell? ⟨b, off + k * 4 + 3, none⟩ = some (.slice p.S (rs.getD k Rn.r0).sg.length p.cs) := (bel.cell (p := ⟨b, off + k * 4 + 3, none⟩) hb).trans e3
   have CU := Lib.hid (fun W (hW : Below w.heap.size w W) => copyOf_p p (rs.getD k Rn.r0) (HB.out _ (by rw [getD_at HK.out]; exact List.getElem_mem _)) W O (hr.on hW))
   have CS := Lib.hid (fun q => cpV_set rs f HK.out q)
   subst hA
   clear own inn bel hc e0 e1 e2 e3 hr hst ho hb HI
   unfold rv at CU
   obtain ⟨r, hr⟩ : ∃ r, r = rs.getD k Rn.r0 := ⟨_, rfl⟩
   have RR := Lib.hid hr
   rw [← hr] at d0 d1 d2 d3 CU CS
   clear hr
   obtain ⟨an, han⟩ : ∃ z, z = r.d.length := ⟨_, rfl⟩
   obtain ⟨st, hst⟩ : ∃ z, z = r.st := ⟨_, rfl⟩
   obtain ⟨tn, htn⟩ : ∃ z, z = r.ts.length := ⟨_, rfl⟩
   obtain ⟨sn, hsn⟩ : ∃ z, z = r.sg.length := ⟨_, rfl⟩
   have RL : Hid (r.d.length = an ∧ r.st = st ∧ r.ts.length = tn ∧ r.sg.length = sn) := Lib.hid ⟨han.symm, hst.symm, htn.symm, hsn.symm⟩
   rw [← han] at d0 CU
   rw [← hst] at d1 CU
   rw [← htn] at d2 CU
   rw [← hsn] at d3 CU
   clear han hst htn hsn
   obtain ⟨w2, hw2⟩ : ∃ w2, w2 = wr.alloc (.cells #[.slice p.A an p.ca, .int .i64 st, .slice p.T tn p.ct, .slice p.S sn p.cs] 41) := ⟨_, rfl⟩
   have B2 : Hid (Below wr.heap.size wr w2) := Lib.hid (by rw [hw2]; exact (Below.refl _ _).alloc (Nat.le_refl _) _)
   have X2 : Hid (w2.heap[wr.heap.size]? = some (.cells #[.slice p.A an p.ca, .int .i64 st, .slice p.T tn p.ct, .slice p.S sn p.cs] 41 (0, 0))) := Lib.hid (by rw [hw2]; exact heap_alloc_new _ _)
   have BB : Hid (Below w.heap.size w w2) := Lib.hid (BW.out.trans (B2.out.mono BW.out.size))
   go_upto_region 5 with (fail)
   rw [← hw2]
   obtain ⟨⟨z0, z1, z2, z3⟩, -⟩ := obj4 X2.out
   clear hw2 d0 d1 d2 d3
   go_wp2_with fail
   refine (CU.out w2 BB.out).mono ?_; rintro e w3 ⟨q, rfl, o3, b3⟩
   have O3 : Hid (OwnK w3 w.heap.size 41 4 (some ⟨w.heap.size, 0, none⟩) n (cpV rs f k)) := Lib.hid (OW.out.kept fun i _ hl => (b3.out.block i (Nat.lt_of_lt_of_le hl B2.out.size)).trans (B2.out.block i hl))
   have ff := fun i => O3.out.thawed i
   have g0 := ff (k * 4)
   have g1 := ff (k * 4 + 1)
   have g2 := ff (k * 4 + 2)
   have g3 := ff (k * 4 + 3)
   obtain ⟨u0, u1, u2, u3, c0, c1, c2, c3⟩ := O3.out.four (k := k) (by rw [cpV_len]; exact HK.out)
   have R3 : Hid (RunO w3 (fun b => w2.heap.size ≤ b) q r) := Lib.hid o3.out.runO
   have NX : Hid (CpI w rs n (k + 1) (RS w3 w.heap.size k q an st tn sn)) := Lib.hid (by
    have ks : (cpV rs f k).length = rs.length := cpV_len _ _ _
    have p1 := rnV_put O3.out (k := k) (by rw [ks]; exact HK.out) q r
    rw [CS.out q, RL.out.1, RL.out.2.1, RL.out.2.2.1, RL.out.2.2.2] at p1
    have sz := RS.size_ w3 w.heap.size k q an st tn sn
    have yl : w.heap.size < wr.heap.size := lt_of_block (OW.out.block_).choose_spec
    have s2 := B2.out.size
    have s3 := b3.out.size
    refine ⟨_, p1, fun i hi => ?_, ?_⟩
    ·by_cases e : i = k
     ·subst e
      rw [if_pos rfl, ← RR.out]
      exact (R3.out.keep (Nat.le_of_eq sz.symm) fun b hb _ => RS.else_ _ _ _ _ _ _ _ _ (by omega)).imp fun b _ hb => by omega
     ·rw [if_neg e]
      exact (IN.out i (by omega)).keep (by omega) fun b hb hl => (RS.else_ _ _ _ _ _ _ _ _ (by omega)).trans ((b3.out.block b (by omega)).trans (B2.out.block b hl))
    ·exact ⟨by show w3.os = _; exact b3.out.os.trans BB.out.os, by show w3.tape = _; exact b3.out.tape.trans BB.out.tape, by show w3.output = _; exact b3.out.output.trans BB.out.output, by rw [sz]; have := BB.out.size; omega, fun b hb => (RS.else_ _ _ _ _ _ _ _ _ (by omega)).trans ((b3.out.block b (by have := BB.out.size; omega)).trans (BB.out.block b hb))⟩)
   clear ff z0 z1 z2 z3
   go_wp2
   rw [RS.lit]
   clear g0 g1 g2 g3 c0 c1 c2 c3
   go_roundw
   case rel => exact ⟨k + 1, by omega, by go_num, NX⟩
   case measure => simp [intOf]; omega
  ·obtain rfl : k = n := by omega
   have hge : ¬ (k : Int) < (k : Int) := by omega
   go_wp2
   go_ret
   obtain ⟨f, own, inn, bel⟩ := HI.out
   rw [HN.out, cpV_all, ← HN.out] at own
   exact ⟨w.heap.size, f, rfl, Lib.hid own, Lib.hid fun i hi => (inn i (by rw [HN.out]; exact hi)).imp fun b _ hb => ⟨by omega, by omega⟩, Lib.hid bel⟩
end Go.Proofs.YtkbekojnmdgdgaaGreatDoor
/- FlKeyPut -/
namespace Go.Proofs.YtkbekojnmdgdgaaGreatDoor
open Go.RowKit Go.Maps
set_option maxRecDepth 20000
theorem OwnK.srcK {w : World} {base k cap : Nat} {T : TypeId} {A : Option Addr} {vs : List (List Value)} (h : OwnK w base T k A cap vs) (hk : 0 < k) : Src w A vs :=
 src_of hk h.2 fun hn => by
  obtain ⟨b, rfl, _, hb⟩ := h.shape hn
  refine ⟨b, 0, rfl, hb, fun i hi j hj => ?_⟩
  have hl : j < (vs.getD i []).length := by
   rw [getD_at hi, (h.2 _ (List.getElem_mem hi)).1]
   exact hj
  rw [Nat.zero_add]
  exact (h.cell hi hj (List.getElem?_eq_getElem hl)).trans (List.getElem?_eq_getElem hl).symm
structure Sound (s : Fw.S) : Prop where
 bd : ∀ p ∈ s.runs, Bd p.1
 st : ∀ p ∈ s.runs, inI p.1.st
 ki : Ky.Inv (Fw.ks s)
 c : inI s.clock
 nd : ∀ p ∈ s.defs, p.1.size ≤ 16
 no : ∀ p ∈ s.runs, p.2.size ≤ 16
theorem FPM.runsO {w : World} {g : Nat} {a : FAt} {s : Fw.S} (h : FPM w g a s) (hS : ∀ p ∈ s.runs, inI p.1.st) : RunsO w (fun i => mine g a i ∨ a.Q i) a.R (s.runs.map (·.1)) := fun hn => by
 rw [List.length_map] at hn
 obtain ⟨b, hA, -, hb⟩ := h.runs.shape (by rw [rsV_len]; exact hn)
 have hrow := h.runs
 rw [hA] at hrow
 refine ⟨b, 0, hA, .inl (.inr (.inr (.inl ⟨_, hA, rfl⟩))), hb, fun i hi => ?_⟩
 rw [List.length_map] at hi
 obtain ⟨y0, y1, y2, y3⟩ := rsV_cells hrow hi
 have e : (s.runs.map (·.1)).getD i Rn.r0 = rAt s.runs i := by
  rw [rAt_get hi, getD_at (by rw [List.length_map]; exact hi), List.getElem_map]
 rw [e]
 refine ⟨a.f i, ?_, ?_, ?_, ?_, (h.inner i hi).imp fun _ _ h => .inr h, by rw [rAt_get hi]; exact hS _ (List.getElem_mem hi)⟩
 ·show w.cell? ⟨b, 0 + i * 4 + 0, none⟩ = _
  rw [Nat.zero_add]; exact y0
 ·show w.cell? ⟨b, 0 + i * 4 + 1, none⟩ = _
  rw [Nat.zero_add]; exact y1
 ·show w.cell? ⟨b, 0 + i * 4 + 2, none⟩ = _
  rw [Nat.zero_add]; exact y2
 ·show w.cell? ⟨b, 0 + i * 4 + 3, none⟩ = _
  rw [Nat.zero_add]; exact y3
theorem Ky.putS_new {l : List Ky.T} {t : Ky.T} (h : ∀ a ∈ l, Ky.same a t.name t.key = false) (hl : l.length < 128) : Ky.putS ⟨128, l⟩ t.name t.key t.id = ⟨128, l ++ [t]⟩ := by
 have hf : Ky.findV ⟨128, l⟩ t.name t.key = none := Ky.find_none.2 h
 unfold Ky.putS
 rw [hf]
 show (⟨128, Ky.pushL ⟨128, l⟩ t⟩ : Ky.S) = _
 unfold Ky.pushL
 rw [if_neg (by show ¬ ((l.length : Int) = 128); omega)]
theorem Ky.Inv.fresh {l : List Ky.T} (h : Ky.Inv ⟨128, l⟩) {k : Nat} (hk : k < l.length) : ∀ a ∈ l.take k, Ky.same a l[k].name l[k].key = false := fun a ha => by
 obtain ⟨i, hi, rfl⟩ := List.getElem_of_mem ha
 rw [List.length_take] at hi
 rw [List.getElem_take]
 have hik : i < k := by omega
 have h1 : Ky.same l[k] l[i].name l[i].key = false := List.pairwise_iff_getElem.1 h.once i k (by show i < l.length; omega) hk hik
 cases hs : Ky.same l[i] l[k].name l[k].key with
 | false => rfl
 | true =>
  obtain ⟨e1, e2⟩ := Ky.same_iff.1 hs
  rw [Ky.same_iff.2 ⟨e1.symm, e2.symm⟩] at h1
  cases h1
theorem PK.oks {w : World} {g : Nat} {O : Nat → Prop} {s : Ky.S} (h : PK w g O s) : ∀ t ∈ s.l, Ky.ok t.name t.key t.id := fun t ht => by
 obtain ⟨m, A, c, p, ho⟩ := h
 obtain ⟨h1, h2, h3⟩ := p.map.okK2 t ht
 exact ⟨⟨h1, h2⟩, h3⟩
end Go.Proofs.YtkbekojnmdgdgaaGreatDoor
/- FlCloneF -/
namespace Go.Proofs.YtkbekojnmdgdgaaGreatDoor
open Go.RowKit Go.Maps
set_option maxRecDepth 20000
theorem rwO {W : World} {Y : Nat} {rs : List Rn.R} {f : Nat → At3} {O : Nat → Prop} (h : ∀ i, i < rs.length → RunO W O (f i) (rs.getD i Rn.r0)) {l : List (Rn.R × ByteArray)} (hl : rs = l.map (·.1)) : ∀ i, i < l.length → RunO W O (f i) (rAt l i) := fun i hi => by
 subst hl
 have := h i (by rw [List.length_map]; exact hi)
 rw [getD_at (by rw [List.length_map]; exact hi), List.getElem_map] at this
 rw [rAt_get hi]
 exact this
end Go.Proofs.YtkbekojnmdgdgaaGreatDoor
/- FlDefs -/
namespace Go.Proofs.YtkbekojnmdgdgaaGreatDoor
open Go.RowKit Go.Maps
set_option maxRecDepth 20000
def txC (x : ByteArray) : List Value := [.string x]
def txK (l : List ByteArray) (k : Nat) : List (List Value) := (List.range l.length).map fun i => txC (if i < k then l.getD i ByteArray.empty else ⟨#[]⟩)
theorem txK_len (l : List ByteArray) (k : Nat) : (txK l k).length = l.length := by simp [txK]
theorem txK_zero (l : List ByteArray) : txK l 0 = List.replicate l.length (txC ⟨#[]⟩) := List.ext_getElem (by simp [txK]) fun i h1 h2 => by simp [txK]
theorem txK_all (l : List ByteArray) : txK l l.length = l.map txC := List.ext_getElem (by simp [txK]) fun i h1 h2 => by
 have : i < l.length := by simpa [txK] using h1
 simp [txK, this]
theorem txK_set (l : List ByteArray) {k : Nat} (hk : k < l.length) : (txK l k).set k (txC l[k]) = txK l (k + 1) := by
 refine List.ext_getElem (by simp [txK]) fun i h1 h2 => ?_
 rw [List.getElem_set]
 simp only [txK, List.getElem_map, List.getElem_range]
 by_cases e : k = i
 ·subst e
  rw [if_pos rfl, if_pos (by omega), getD_at hk]
 ·by_cases h : i < k
  ·simp [h, e, show i < k + 1 by omega]
  ·simp [h, e, show ¬ i < k + 1 by omega]
def zeroTx : Array Value := #[.string ⟨#[]⟩]
theorem made_Tx (n : Nat) (hn : n ≤ 1000000) (W : World) : (Instr.makeSlice 39 (.int .i64 (n : Int)) (.int .i64 (n : Int))).run Tryz.prog W = .ok (.slice (some ⟨W.heap.size, 0, none⟩) n n) (W.alloc (.cells (madeCells zeroTx n) 9)) := by
 obtain ⟨i, hi, hz, hs, hy⟩ := info_parts infoS
 have hr := run_make (P := Tryz.prog) W 39 9 i _ Tryz.underlying39 hi hz .i64 .i64 n n (by omega) (Int.le_refl _) (by rw [hy]; omega) (by omega)
 rw [hs, Int.toNat_natCast, Nat.mul_one] at hr
 exact hr
def TxI (w : World) (Y : Nat) (l : List ByteArray) (n k : Nat) (wr : World) : Prop := OwnK wr Y 9 1 (some ⟨Y, 0, none⟩) n (txK l k) ∧ Below w.heap.size w wr
theorem TxI.made {w : World} {W : World} {l : List ByteArray} {n : Nat} (hn : n = l.length) (h9 : n ≤ 1000000) (hb : Below w.heap.size w W) : TxI w W.heap.size l n 0 (W.alloc (.cells (madeCells zeroTx n) 9)) := by
 refine ⟨?_, hb.alloc hb.size _⟩
 rw [txK_zero, ← hn]
 have := own_made W 9 zeroTx n 1 rfl (by decide) (fun u hu => by simp [zeroTx] at hu; rcases hu with rfl; rfl) h9
 rw [Nat.mul_one] at this
 exact this
theorem TxI.next {w wr W : World} {Y n k : Nat} {l : List ByteArray} {x : ByteArray} (h : TxI w Y l n k wr) (hY : w.heap.size ≤ Y) (hb : Below wr.heap.size wr W) (hk : k < l.length) (hx : l[k] = x) : TxI w Y l n (k + 1) (W.setCell ⟨Y, k, none⟩ (.string x)) := by
 subst hx
 refine ⟨?_, (h.2.trans (hb.mono h.2.size)).setCell (p := ⟨Y, k, none⟩) hY _⟩
 have o := h.1.kept (w' := W) fun b _ hl => hb.block b hl
 have p := o.put1 (i := k) (j := 0) (u := .string l[k]) (by rw [txK_len]; exact hk) (by decide) rfl
 rw [Nat.mul_one, Nat.add_zero] at p
 have e : ((txK l k).getD k []).set 0 (.string l[k]) = txC l[k] := by
  have hl : ((txK l k).getD k []).length = 1 := (o.2 _ (by rw [getD_at (by rw [txK_len]; exact hk)]; exact List.getElem_mem _)).1
  match (txK l k).getD k [], hl with
  | [y], _ => rfl
 rw [e, txK_set l hk] at p
 exact p
theorem TxI.cellY {w wr : World} {Y n k : Nat} {l : List ByteArray} (h : TxI w Y l n k wr) (hk : k < l.length) : (∃ u, wr.cell? ⟨Y, k, none⟩ = some u) ∧ wr.frozen? ⟨Y, k, none⟩ = false ∧ Y < wr.heap.size := by
 refine ⟨?_, h.1.thawed k, h.1.lt.2⟩
 have hl : ((txK l k).getD k []).length = 1 := (h.1.2 _ (by rw [getD_at (by rw [txK_len]; exact hk)]; exact List.getElem_mem _)).1
 have := h.1.cell (i := k) (j := 0) (by rw [txK_len]; exact hk) (by decide) (List.getElem?_eq_getElem (by rw [hl]; decide))
 rw [Nat.mul_one, Nat.add_zero] at this
 exact ⟨_, this⟩
def TxG (w : World) (l : List ByteArray) (n : Nat) (e : Ending) (w' : World) : Prop :=
 ∃ Y, e = .returned (.slice (some ⟨Y, 0, none⟩) n n) ∧ Hid (OwnK w' w.heap.size 9 1 (some ⟨Y, 0, none⟩) n (l.map txC)) ∧ Hid (Below w.heap.size w w')
set_option maxHeartbeats 2000000 in
theorem defs_any {w : World} {g : Nat} {a : FAt} {s : Fw.S} (h : FPM w g a s) : Calls Tryz.prog 49 #[.pointer (some ⟨g, 0, none⟩)] w (TxG w (s.defs.map (·.1)) s.defs.length) := by
 have H := Lib.hid h
 obtain ⟨n, hn⟩ : ∃ n, n = s.defs.length := ⟨_, rfl⟩
 have HN := Lib.hid hn
 have hn9 : n ≤ 16 := by rw [hn]; exact h.dm
 obtain ⟨l, hl⟩ : ∃ l, l = s.defs.map (·.1) := ⟨_, rfl⟩
 have HL : Hid (n = l.length) := Lib.hid (by rw [hl, List.length_map]; exact hn)
 have LG : Hid (∀ k (h1 : k < l.length) (h2 : k < s.defs.length), l[k] = s.defs[k].1) := Lib.hid fun k h1 h2 => by subst hl; rw [List.getElem_map]
 obtain ⟨⟨-, c1, -, -, -⟩, -⟩ := h.cells
 rw [← hl, ← hn]
 rw [← hn] at c1
 have ME := made_Tx n (by omega)
 obtain ⟨w1, hw1⟩ : ∃ w1, w1 = w.alloc (.cells (madeCells zeroTx n) 9) := ⟨_, rfl⟩
 have I0 : Hid (TxI w w.heap.size l n 0 w1) := Lib.hid (by rw [hw1]; exact TxI.made HL.out (by omega) (Below.refl _ _))
 have c1' := (I0.out.2.cell (block_lt c1)).trans c1
 clear h hn hl
 go_enter Tryz.func49, Tryz.ntmps49
 go_upto_region 2 with (fail)
 rw [← hw1]
 clear hw1 ME c1
 go_wp2_with fail
 go_loopw [17] (fun iv wr => ∃ k : Nat, k ≤ n ∧ iv = .int .i64 k ∧ Hid (TxI w w.heap.size l n k wr)) (fun iv _ => n - (intOf iv).toNat)
 case atStart => exact ⟨0, Nat.zero_le _, rfl, I0⟩
 case round =>
  obtain ⟨k, hk, rfl, HI⟩ := hrel
  by_cases hlt : k < n
  ·have hlt' : (k : Int) < (n : Int) := by omega
   have HK : Hid (k < s.defs.length) := Lib.hid (by rw [← HN.out]; exact hlt)
   have HK2 : Hid (k < l.length) := Lib.hid (by rw [← HL.out]; exact hlt)
   have H2 := Lib.hid (H.out.on HI.out.2)
   obtain ⟨b, hA, -, hb⟩ := H2.out.defs.shape (by rw [List.length_map]; have := HK.out; omega)
   have hrow := H2.out.defs
   rw [hA] at hrow
   obtain ⟨y0, y1⟩ := dfV_cells hrow HK.out
   have LK := Lib.hid (LG.out k HK2.out HK.out)
   rw [hA]
   generalize (s.defs[k]'HK.out) = d at *
   obtain ⟨d1, d2⟩ := d
   dsimp only at y0 y1 LK
   generalize str (Df.showT d2) = tx at *
   obtain ⟨w2, hw2⟩ : ∃ w2, w2 = wr.alloc (.cells #[.string d1, .string tx] 81) := ⟨_, rfl⟩
   have B2 : Hid (Below wr.heap.size wr w2) := Lib.hid (by rw [hw2]; exact (Below.refl _ _).alloc (Nat.le_refl _) _)
   have x0 : w2.cell? ⟨wr.heap.size, 0, none⟩ = some (.string d1) := by rw [hw2]; simp
   have NX := Lib.hid (HI.out.next (Nat.le_refl _) B2.out HK2.out LK.out)
   obtain ⟨⟨u, hu⟩, hf, hY⟩ := HI.out.cellY HK2.out
   have hu2 := (B2.out.cell (p := ⟨w.heap.size, k, none⟩) hY).trans hu
   have hf2 : w2.frozen? ⟨w.heap.size, k, none⟩ = false := (HI.out.1.kept (w' := w2) fun b _ hl => B2.out.block b hl).thawed k
   clear hrow hA hu hf hY hb
   go_upto_region 5 with (fail)
   rw [← hw2]
   clear hw2 y0 y1
   go_wp2
   go_roundw
   case rel => exact ⟨k + 1, by omega, by go_num, NX⟩
   case measure => simp [intOf]; omega
  ·obtain rfl : k = n := by omega
   have hge : ¬ (k : Int) < (k : Int) := by omega
   go_wp2
   go_ret
   obtain ⟨o, bb⟩ := HI.out
   rw [HL.out, txK_all, ← HL.out] at o
   exact ⟨w.heap.size, rfl, Lib.hid o, Lib.hid bb⟩
end Go.Proofs.YtkbekojnmdgdgaaGreatDoor
/- FlStateP -/
namespace Go.Proofs.YtkbekojnmdgdgaaGreatDoor
open Go.RowKit Go.Maps
set_option maxRecDepth 20000
theorem txC_nms {w : World} {base cap : Nat} {A : Option Addr} {l : List ByteArray} (h : OwnK w base 9 1 A cap (l.map txC)) {O : Nat → Prop} (hO : ∀ a, A = some a → O a.block) (hs : ∀ x ∈ l, x.size ≤ 9223372036854775807) : NmsO w O A l :=
 ⟨hs, h.rowO hO (by rw [List.length_map]) fun i c hi hc => by
  rw [getD_map hi] at hc
  rw [getD_at hi]
  exact hc 0 (by decide)⟩
theorem rw_runsO {w : World} {base cap : Nat} {A : Option Addr} {rs : List Rn.R} {f : Nat → At3} {O : Nat → Prop} (h : OwnK w base 41 4 A cap (rwV rs f)) (hO : ∀ a, A = some a → O a.block) (hr : ∀ i, i < rs.length → RunO w O (f i) (rs.getD i Rn.r0)) (hst : ∀ r ∈ rs, inI r.st) : RunsO w O A rs :=
 h.rowO hO (by simp [rwV]) fun i c hi hc => by
  have e : (rwV rs f).getD i [] = rnV (f i) (rs.getD i Rn.r0) := by
   unfold rwV
   rw [getD_map (by simpa using hi), List.getElem_range]
  rw [e] at hc
  exact ⟨f i, hc 0 (by decide), hc 1 (by decide), hc 2 (by decide), hc 3 (by decide), hr i hi, by rw [getD_at hi]; exact hst _ (List.getElem_mem hi)⟩
set_option maxHeartbeats 4000000 in
theorem state_any {w : World} {g : Nat} {a : FAt} {s : Fw.S} (h : FPM w g a s) (hS : Sound s) :
  Calls Tryz.prog 24 #[.pointer (some ⟨g, 0, none⟩)] w fun e w' => ∃ p, e = .returned (sv p (Fw.stateV s)) ∧ Hid (StO w' (since w) p (Fw.stateV s)) ∧ Hid (Below w.heap.size w w') := by
 have H := Lib.hid h
 have SS := Lib.hid hS
 obtain ⟨n, hn⟩ : ∃ n, n = s.defs.length := ⟨_, rfl⟩
 obtain ⟨m, hm⟩ : ∃ m, m = s.runs.length := ⟨_, rfl⟩
 obtain ⟨q, hq⟩ : ∃ q, q = s.keys.length := ⟨_, rfl⟩
 obtain ⟨c, hc⟩ : ∃ c, c = s.clock := ⟨_, rfl⟩
 have HN := Lib.hid hn
 have HM := Lib.hid hm
 have HQ := Lib.hid hq
 have HC := Lib.hid hc
 have hn9 : n ≤ 16 := by rw [hn]; exact h.dm
 obtain ⟨l, hl⟩ : ∃ l, l = s.defs.map fun p => str (Df.showT p.2) := ⟨_, rfl⟩
 have HL : Hid (n = l.length) := Lib.hid (by rw [hl, List.length_map]; exact hn)
 have LL := Lib.hid hl
 have LG : Hid (∀ k (h1 : k < l.length) (h2 : k < s.defs.length), l[k] = str (Df.showT s.defs[k].2)) := Lib.hid fun k h1 h2 => by subst hl; rw [List.getElem_map]
 have S1 : Hid (∀ W, Below w.heap.size w W → W.cell? ⟨g, 0, none⟩ = some (.int .i64 c) ∧ W.cell? ⟨g, 1, none⟩ = some (.slice a.D n a.cd) ∧ W.cell? ⟨g, 2, none⟩ = some (.slice a.R m a.cr) ∧ W.cell? ⟨g, 3, none⟩ = some (.slice a.F m a.cf)) := Lib.hid fun W hW => by
  obtain ⟨q0, q1, q2, q3, -⟩ := (H.out.on hW).cells.1
  exact ⟨by rw [hc]; exact q0, by rw [hn]; exact q1, by rw [hm]; exact q2, by rw [hm]; exact q3⟩
 have CD : Hid (∀ W, Below w.heap.size w W → Calls Tryz.prog 49 #[.pointer (some ⟨g, 0, none⟩)] W (TxG W (s.defs.map (·.1)) n)) := Lib.hid fun W hW => by rw [hn]; exact defs_any (H.out.on hW)
 have CO : Hid (∀ W, Below w.heap.size w W → Calls Tryz.prog 38 #[.slice a.F m a.cf] W (RowK W 9 1 m (s.runs.map ofV))) :=
  Lib.hid fun W hW => cloneS a.F _ (ofV_wide _) (by rw [List.length_map]; have := H.out.rm; omega) m (by rw [List.length_map]; exact hm) a.cf W (((H.out.on hW).of).srcK (by decide))
 have CR : Hid (∀ W, Below w.heap.size w W → Calls Tryz.prog 37 #[.slice a.R m a.cr] W (CopsG W (s.runs.map (·.1)) m)) :=
  Lib.hid fun W hW => copiesOf_any a.R a.cr _ (fun r hr => by obtain ⟨p, hp, rfl⟩ := List.mem_map.1 hr; exact SS.out.bd p hp) (by rw [List.length_map]; have := H.out.rm; omega) m (by rw [List.length_map]; exact hm) W _ ((H.out.on hW).runsO SS.out.st)
 have CK : Hid (∀ W, Below w.heap.size w W → Calls Tryz.prog 45 #[.pointer (some ⟨g, 0, none⟩)] W fun e w' => ∃ A c, e = .returned (.slice A q c) ∧ Hid (Below W.heap.size W w') ∧ Hid (Ents w' (fun b => W.heap.size ≤ b) A s.keys) ∧ Hid (q ≤ c)) := Lib.hid fun W hW => by
  rw [hq]
  exact keys_c (H.out.on hW) SS.out.ki
 obtain ⟨w1, hw1⟩ : ∃ w1, w1 = w.alloc (.cells #[.int .i64 0, .slice none 0 0, .slice none 0 0, .slice none 0 0, .slice none 0 0, .slice none 0 0] 57) := ⟨_, rfl⟩
 have B1 : Hid (Below w.heap.size w w1) := Lib.hid (by rw [hw1]; exact (Below.refl _ _).alloc (Nat.le_refl _) _)
 have Z1 : Hid (w1.heap[w.heap.size]? = some (.cells #[.int .i64 0, .slice none 0 0, .slice none 0 0, .slice none 0 0, .slice none 0 0, .slice none 0 0] 57 (0, 0))) := Lib.hid (by rw [hw1]; exact heap_alloc_new _ _)
 have ME := made_Tx n (by omega)
 obtain ⟨w2, hw2⟩ : ∃ w2, w2 = w1.alloc (.cells (madeCells zeroTx n) 9) := ⟨_, rfl⟩
 have I0 : Hid (TxI w w1.heap.size l n 0 w2 ∧ w2.heap[w.heap.size]? = some (.cells #[.int .i64 0, .slice none 0 0, .slice none 0 0, .slice none 0 0, .slice none 0 0, .slice none 0 0] 57 (0, 0))) := Lib.hid (by
  rw [hw2]
  exact ⟨TxI.made HL.out (by omega) B1.out, (Below.heap_alloc _ _ _ (lt_of_block Z1.out)).trans Z1.out⟩)
 have YG : Hid (w.heap.size < w1.heap.size) := Lib.hid (lt_of_block Z1.out)
 clear h hS hn hm hq hc hl
 obtain ⟨c0, c1, c2, c3⟩ := S1.out w1 B1.out
 go_enter Tryz.func24, Tryz.ntmps24
 go_upto_region 1 with (fail)
 rw [← hw1]
 clear hw1
 go_upto_region 2 with (fail)
 rw [← hw2]
 clear hw2 ME c0 c1 c2 c3
 obtain ⟨c0, c1, c2, c3⟩ := S1.out w2 I0.out.1.2
 go_wp2_with fail
 clear c0 c1 c2 c3
 go_loopw [17] (fun iv wr => ∃ k : Nat, k ≤ n ∧ iv = .int .i64 k ∧ Hid (TxI w w1.heap.size l n k wr ∧ wr.heap[w.heap.size]? = some (.cells #[.int .i64 0, .slice none 0 0, .slice none 0 0, .slice none 0 0, .slice none 0 0, .slice none 0 0] 57 (0, 0)))) (fun iv _ => n - (intOf iv).toNat)
 case atStart => exact ⟨0, Nat.zero_le _, rfl, I0⟩
 case round =>
  obtain ⟨k, hk, rfl, HI⟩ := hrel
  by_cases hlt : k < n
  ·have hlt' : (k : Int) < (n : Int) := by omega
   have HK : Hid (k < s.defs.length) := Lib.hid (by rw [← HN.out]; exact hlt)
   have HK2 : Hid (k < l.length) := Lib.hid (by rw [← HL.out]; exact hlt)
   have H2 := Lib.hid (H.out.on HI.out.1.2)
   obtain ⟨b, hA, -, hb⟩ := H2.out.defs.shape (by rw [List.length_map]; have := HK.out; omega)
   have hrow := H2.out.defs
   rw [hA] at hrow
   obtain ⟨y0, y1⟩ := dfV_cells hrow HK.out
   have LK := Lib.hid (LG.out k HK2.out HK.out)
   rw [hA]
   generalize (s.defs[k]'HK.out) = d at *
   obtain ⟨d1, d2⟩ := d
   dsimp only at y0 y1 LK
   generalize str (Df.showT d2) = tx at *
   obtain ⟨w3, hw3⟩ : ∃ w3, w3 = wr.alloc (.cells #[.string d1, .string tx] 81) := ⟨_, rfl⟩
   have B3 : Hid (Below wr.heap.size wr w3) := Lib.hid (by rw [hw3]; exact (Below.refl _ _).alloc (Nat.le_refl _) _)
   have x1 : w3.cell? ⟨wr.heap.size, 1, none⟩ = some (.string tx) := by rw [hw3]; simp
   have NX := Lib.hid (And.intro (HI.out.1.next (Nat.le_of_lt YG.out) B3.out HK2.out LK.out) (((Below.heap_setCell w3 ⟨w1.heap.size, k, none⟩ (.string tx) w.heap.size (by have := YG.out; show w.heap.size ≠ w1.heap.size; omega)).trans (B3.out.block _ (lt_of_block HI.out.2))).trans HI.out.2))
   obtain ⟨⟨u, hu⟩, hf, hY⟩ := HI.out.1.cellY HK2.out
   have hu2 := (B3.out.cell (p := ⟨w1.heap.size, k, none⟩) hY).trans hu
   have hf2 : w3.frozen? ⟨w1.heap.size, k, none⟩ = false := (HI.out.1.1.kept (w' := w3) fun b _ hl => B3.out.block b hl).thawed k
   clear hrow hA hu hf hY hb
   go_upto_region 5 with (fail)
   rw [← hw3]
   clear hw3 y0 y1
   go_wp2
   go_roundw
   case rel => exact ⟨k + 1, by omega, by go_num, NX⟩
   case measure => simp [intOf]; omega
  ·obtain rfl : k = n := by omega
   have hge : ¬ (k : Int) < (k : Int) := by omega
   have BR : Hid (Below w.heap.size w wr) := Lib.hid HI.out.1.2
   have OT : Hid (OwnK wr w1.heap.size 9 1 (some ⟨w1.heap.size, 0, none⟩) k (l.map txC)) := Lib.hid (by
    have o := HI.out.1.1
    have e : txK l k = l.map txC := by rw [HL.out]; exact txK_all l
    rw [← e]; exact o)
   have ZR : Hid (wr.heap[w.heap.size]? = _) := Lib.hid HI.out.2
   clear HI
   go_upto_region 7 with (fail)
   refine wp_region_held_drew (S := (fun w' => w'.cell? ⟨g, 0, none⟩ = some (.int .i64 c) ∧ w'.cell? ⟨g, 1, none⟩ = some (.slice a.D k a.cd) ∧ w'.cell? ⟨g, 2, none⟩ = some (.slice a.R m a.cr) ∧ w'.cell? ⟨g, 3, none⟩ = some (.slice a.F m a.cf))) (by kernel_rfl) ?hS1001 (fun hHeld => ?_)
   case hS1001 => exact (S1.out _ BR.out.drew)
   refine takH 0 (h := ?_)
   try simp only [Act.put, List.setIfInBounds_toArray, List.set_cons_zero, List.set_cons_succ]
   refine takH 1 (h := ?_)
   try simp only [Act.put, List.setIfInBounds_toArray, List.set_cons_zero, List.set_cons_succ]
   refine takH 2 (h := ?_)
   try simp only [Act.put, List.setIfInBounds_toArray, List.set_cons_zero, List.set_cons_succ]
   refine takH 3 (h := ?_)
   try simp only [Act.put, List.setIfInBounds_toArray, List.set_cons_zero, List.set_cons_succ]
   refine takH 4 (h := ?_)
   try simp only [Act.put, List.setIfInBounds_toArray, List.set_cons_zero, List.set_cons_succ]
   refine takH 6 (h := ?_)
   try simp only [Act.put, List.setIfInBounds_toArray, List.set_cons_zero, List.set_cons_succ]
   refine takH 7 (h := ?_)
   try simp only [Act.put, List.setIfInBounds_toArray, List.set_cons_zero, List.set_cons_succ]
   refine takH 8 (h := ?_)
   try simp only [Act.put, List.setIfInBounds_toArray, List.set_cons_zero, List.set_cons_succ]
   refine takH 9 (h := ?_)
   try simp only [Act.put, List.setIfInBounds_toArray, List.set_cons_zero, List.set_cons_succ]
   refine takH 10 (h := ?_)
   try simp only [Act.put, List.setIfInBounds_toArray, List.set_cons_zero, List.set_cons_succ]
   refine takH 12 (h := ?_)
   try simp only [Act.put, List.setIfInBounds_toArray, List.set_cons_zero, List.set_cons_succ]
   refine takH 13 (h := ?_)
   try simp only [Act.put, List.setIfInBounds_toArray, List.set_cons_zero, List.set_cons_succ]
   refine takH 14 (h := ?_)
   try simp only [Act.put, List.setIfInBounds_toArray, List.set_cons_zero, List.set_cons_succ]
   refine takH 15 (h := ?_)
   try simp only [Act.put, List.setIfInBounds_toArray, List.set_cons_zero, List.set_cons_succ]
   refine takH 17 (h := ?_)
   try simp only [Act.put, List.setIfInBounds_toArray, List.set_cons_zero, List.set_cons_succ]
   have BD : Hid (Below w.heap.size w wr.drew) := Lib.hid BR.out.drew
   refine wpAnyH_ready (rs := [5]) (by kernel_rfl) (by simp) ?_
   refine AllReadyH.cons (o := ?o1002) ?hi1002 (fun K hK => ?_) AllReadyH.nil
   case hi1002 => (simp only [List.getElem?_toArray, List.getElem?_cons_zero, List.getElem?_cons_succ]; exact rfl)
   (go_simp; go_at_call 49; (with_reducible refine (CD.out _ BD.out).mono ?_); rintro e w4 ⟨Y4, rfl, o4, b4⟩; have B4 : Hid (Below w.heap.size w w4) := Lib.hid (BD.out.trans (b4.out.mono BD.out.size)); try dsimp only)
   refine hK.out _ _ ?_ (fun hHeld => ?_)
   ·exact S1.out _ B4.out
   clear hK K
   try simp only [Act.put, List.setIfInBounds_toArray, List.set_cons_zero, List.set_cons_succ]
   refine wpAnyH_ready (rs := [11]) (by kernel_rfl) (by simp) ?_
   refine AllReadyH.cons (o := ?o1003) ?hi1003 (fun K hK => ?_) AllReadyH.nil
   case hi1003 => (simp only [List.getElem?_toArray, List.getElem?_cons_zero, List.getElem?_cons_succ]; exact rfl)
   (go_simp; go_at_call 37; (with_reducible refine (CR.out _ B4.out).mono ?_); rintro e w5 ⟨Y5, f5, rfl, o5, i5, b5⟩; have B5 : Hid (Below w.heap.size w w5) := Lib.hid (B4.out.trans (b5.out.mono B4.out.size)); try dsimp only)
   refine hK.out _ _ ?_ (fun hHeld => ?_)
   ·exact S1.out _ B5.out
   clear hK K
   try simp only [Act.put, List.setIfInBounds_toArray, List.set_cons_zero, List.set_cons_succ]
   refine wpAnyH_ready (rs := [16]) (by kernel_rfl) (by simp) ?_
   refine AllReadyH.cons (o := ?o1004) ?hi1004 (fun K hK => ?_) AllReadyH.nil
   case hi1004 => (simp only [List.getElem?_toArray, List.getElem?_cons_zero, List.getElem?_cons_succ]; exact rfl)
   (go_simp; go_at_call 38; (with_reducible refine (CO.out _ B5.out).mono ?_); rintro e w6 ⟨F6, cf6, rfl, o6, b6⟩; have B6 : Hid (Below w.heap.size w w6) := Lib.hid (B5.out.trans (b6.out.mono B5.out.size)); try dsimp only)
   refine hK.out _ _ ?_ (fun hHeld => ?_)
   ·exact S1.out _ B6.out
   clear hK K
   try simp only [Act.put, List.setIfInBounds_toArray, List.set_cons_zero, List.set_cons_succ]
   refine wpAnyH_ready (rs := [18]) (by kernel_rfl) (by simp) ?_
   refine AllReadyH.cons (o := ?o1005) ?hi1005 (fun K hK => ?_) AllReadyH.nil
   case hi1005 => (simp only [List.getElem?_toArray, List.getElem?_cons_zero, List.getElem?_cons_succ]; exact rfl)
   (go_simp; go_at_call 45; (with_reducible refine (CK.out _ B6.out).mono ?_); rintro e w7 ⟨A7, c7, rfl, b7, n7, k7⟩; have B7 : Hid (Below w.heap.size w w7) := Lib.hid (B6.out.trans (b7.out.mono B6.out.size)); try dsimp only)
   refine hK.out _ _ ?_ (fun hHeld => ?_)
   ·exact S1.out _ B7.out
   clear hK K
   try simp only [Act.put, List.setIfInBounds_toArray, List.set_cons_zero, List.set_cons_succ]
   refine wpAnyH_ready (rs := [19]) (by kernel_rfl) (by simp) ?_
   refine AllReadyH.cons (o := ?o1006) ?hi1006 (fun K hK => ?_) AllReadyH.nil
   case hi1006 => (simp only [List.getElem?_toArray, List.getElem?_cons_zero, List.getElem?_cons_succ]; exact rfl)
   go_simp
   refine hK.out _ _ ?_ (fun hHeld => ?_)
   ·exact S1.out _ B7.out
   clear hK K
   try simp only [Act.put, List.setIfInBounds_toArray, List.set_cons_zero, List.set_cons_succ]
   have Z7 : Hid (w7.heap[w.heap.size]? = some (.cells #[.int .i64 0, .slice none 0 0, .slice none 0 0, .slice none 0 0, .slice none 0 0, .slice none 0 0] 57 (0, 0))) := Lib.hid (by
    have h0 := lt_of_block ZR.out
    have h1 : wr.drew.heap.size = wr.heap.size := rfl
    have h4 := b4.out.size
    have h5 := b5.out.size
    have h6 := b6.out.size
    exact (b7.out.block _ (by omega)).trans ((b6.out.block _ (by omega)).trans ((b5.out.block _ (by omega)).trans ((b4.out.block _ (by omega)).trans ZR.out))))
   have KS : Hid (∀ W : World, (∀ i, i ≠ w.heap.size → W.heap[i]? = w7.heap[i]?) → W.cell? ⟨g, 0, none⟩ = some (.int .i64 c) ∧ W.cell? ⟨g, 1, none⟩ = some (.slice a.D k a.cd) ∧ W.cell? ⟨g, 2, none⟩ = some (.slice a.R m a.cr) ∧ W.cell? ⟨g, 3, none⟩ = some (.slice a.F m a.cf)) := Lib.hid fun W hW => by
    obtain ⟨q0, q1, q2, q3⟩ := S1.out w7 B7.out
    have e := hW g (by have := lt_of_block H.out.obj; omega)
    exact ⟨(World.cell?_of_block (w := w7) e).trans q0, (World.cell?_of_block (w := w7) e).trans q1, (World.cell?_of_block (w := w7) e).trans q2, (World.cell?_of_block (w := w7) e).trans q3⟩
   obtain ⟨z0, z1, z2, z3, z4, z5⟩ := ob6 Z7.out
   obtain ⟨f0, f1, f2, f3, f4, f5'⟩ := ob6f Z7.out
   refine wpAnyH_ready (rs := [20]) (by kernel_rfl) (by simp) ?_
   refine AllReadyH.cons (o := ?o1007) ?hi1007 (fun K hK => ?_) AllReadyH.nil
   case hi1007 => (simp only [List.getElem?_toArray, List.getElem?_cons_zero, List.getElem?_cons_succ]; exact rfl)
   go_simp
   refine hK.out _ _ ?_ (fun hHeld => ?_)
   ·exact KS.out _ fun i hi => S6.else_ w7 w.heap.size _ _ _ _ _ _ hi
   clear hK K
   try simp only [Act.put, List.setIfInBounds_toArray, List.set_cons_zero, List.set_cons_succ]
   refine wpAnyH_done (by kernel_rfl) ?_ _
   obtain ⟨w8, hw8⟩ : ∃ w8, w8 = S6 w7 w.heap.size (.int .i64 c) (.slice (some ⟨Y4, 0, none⟩) k k) (.slice (some ⟨w1.heap.size, 0, none⟩) k k) (.slice (some ⟨Y5, 0, none⟩) m m) (.slice F6 m cf6) (.slice A7 q c7) := ⟨_, rfl⟩
   have Z8 : w8.heap[w.heap.size]? = some (.cells #[.int .i64 c, .slice (some ⟨Y4, 0, none⟩) k k, .slice (some ⟨w1.heap.size, 0, none⟩) k k, .slice (some ⟨Y5, 0, none⟩) m m, .slice F6 m cf6, .slice A7 q c7] 57 (0, 0)) := by rw [hw8]; exact S6.at_ Z7.out _ _ _ _ _ _
   have K8 : Hid (∀ i, i ≠ w.heap.size → w8.heap[i]? = w7.heap[i]?) := Lib.hid fun i hi => by rw [hw8]; exact S6.else_ _ _ _ _ _ _ _ _ hi
   have N8 : Hid (w8.heap.size = w7.heap.size) := Lib.hid (by rw [hw8]; exact S6.size_ _ _ _ _ _ _ _ _)
   have B8 : Hid (Below w.heap.size w w8) := Lib.hid (by rw [hw8]; exact S6.below B7.out (Nat.le_refl _) _ _ _ _ _ _)
   have hw9 : (((((w7.setCell ⟨w.heap.size, 0, none⟩ (.int .i64 c)).setCell ⟨w.heap.size, 1, none⟩ (.slice (some ⟨Y4, 0, none⟩) k k)).setCell ⟨w.heap.size, 2, none⟩ (.slice (some ⟨w1.heap.size, 0, none⟩) k k)).setCell ⟨w.heap.size, 3, none⟩ (.slice (some ⟨Y5, 0, none⟩) m m)).setCell ⟨w.heap.size, 4, none⟩ (.slice F6 m cf6)).setCell ⟨w.heap.size, 5, none⟩ (.slice A7 q c7) = w8 := hw8.symm
   rw [hw9]
   obtain ⟨d0, d1, d2, d3, d4, d5⟩ := ob6 Z8
   clear hw8 hw9 z0 z1 z2 z3 z4 z5 f0 f1 f2 f3 f4 f5' KS Z7 Z8
   go_wp2
   refine bodyPost_ret (v := .agg #[.int .i64 c, .slice (some ⟨Y4, 0, none⟩) k k, .slice (some ⟨w1.heap.size, 0, none⟩) k k, .slice (some ⟨Y5, 0, none⟩) m m, .slice F6 m cf6, .slice A7 q c7]) (by simp [results, Tryz.results24, go_sem, d0, d1, d2, d3, d4, d5]) rfl ⟨⟨some ⟨Y4, 0, none⟩, k, some ⟨w1.heap.size, 0, none⟩, k, some ⟨Y5, 0, none⟩, m, F6, cf6, A7, c7⟩, ?_, Lib.hid ?_, B8⟩
   ·unfold sv Fw.stateV
    simp only [List.length_map]
    rw [HC.out, ← HN.out, ← HM.out, ← HQ.out]
   ·have L0 := BR.out.size
    have L1 : wr.drew.heap.size = wr.heap.size := rfl
    have L4 := b4.out.size
    have L5 := b5.out.size
    have L6 := b6.out.size
    have L7 := b7.out.size
    have k8 : ∀ i, w.heap.size < i → i < w7.heap.size → w8.heap[i]? = w7.heap[i]? := fun i h1 _ => K8.out i (by omega)
    have k6 : ∀ i, w.heap.size < i → i < w6.heap.size → w8.heap[i]? = w6.heap[i]? := fun i h1 h2 => (k8 i h1 (by omega)).trans (b7.out.block i h2)
    have k5 : ∀ i, w.heap.size < i → i < w5.heap.size → w8.heap[i]? = w5.heap[i]? := fun i h1 h2 => (k6 i h1 (by omega)).trans (b6.out.block i h2)
    have k4 : ∀ i, w.heap.size < i → i < w4.heap.size → w8.heap[i]? = w4.heap[i]? := fun i h1 h2 => (k5 i h1 (by omega)).trans (b5.out.block i h2)
    have kr : ∀ i, w.heap.size < i → i < wr.heap.size → w8.heap[i]? = wr.heap[i]? := fun i h1 h2 => (k4 i h1 (by omega)).trans (b4.out.block i h2)
    have ZL : w.heap.size < wr.heap.size := lt_of_block ZR.out
    have p4 := o4.out.kept (w' := w8) fun i hi hl => k4 i (by omega) hl
    have pt := OT.out.kept (w' := w8) fun i hi hl => kr i (by have := YG.out; omega) hl
    have p5 := o5.out.kept (w' := w8) fun i hi hl => k5 i (by omega) hl
    have p6 := o6.out.kept (w' := w8) fun i hi hl => k6 i (by omega) hl
    have sinceO : ∀ {base : Nat} {kk cp : Nat} {T : TypeId} {A : Option Addr} {vs : List (List Value)}, OwnK w8 base T kk A cp vs → w.heap.size ≤ base → ∀ x, A = some x → since w x.block := fun h hb x hx => Nat.le_trans hb (h.own x hx)
    have pt' : OwnK w8 w1.heap.size 9 1 (some ⟨w1.heap.size, 0, none⟩) k ((s.defs.map fun p => Fw.bs (Df.showT p.2)).map txC) := by
     have e : l = s.defs.map fun p => Fw.bs (Df.showT p.2) := LL.out
     rw [← e]
     exact pt
    have p6' : OwnK w8 w5.heap.size 9 1 F6 cf6 ((s.runs.map (·.2)).map txC) := by
     rw [List.map_map]
     exact p6
    refine ⟨SS.out.c, txC_nms (l := s.defs.map (·.1)) p4 (sinceO p4 (by omega)) (fun x hx => ?_), ?_, txC_nms (l := s.defs.map fun p => Fw.bs (Df.showT p.2)) pt' (sinceO pt (Nat.le_of_lt YG.out)) (fun x hx => ?_), ?_, rw_runsO (f := f5) p5 (sinceO p5 (by omega)) (fun i hi => ?_) (fun r hr => ?_), ?_, txC_nms (l := s.runs.map (·.2)) p6' (sinceO p6 (by omega)) (fun x hx => ?_), ?_, ?_, ?_, ?_⟩
    ·obtain ⟨p, hp, rfl⟩ := List.mem_map.1 hx
     exact (H.out.sz p hp).1
    ·show (s.defs.map (·.1)).length ≤ k
     rw [List.length_map, HN.out]
     exact Nat.le_refl _
    ·obtain ⟨p, hp, rfl⟩ := List.mem_map.1 hx
     show (Df.showT p.2).toArray.size ≤ _
     rw [List.size_toArray]
     exact (H.out.sz p hp).2
    ·show (s.defs.map _).length ≤ k
     rw [List.length_map, HN.out]
     exact Nat.le_refl _
    ·exact ((i5.out i hi).keep (w' := w8) (by rw [N8.out]; omega) fun b hb hl => k5 b (by have := hb.1; omega) hl).imp fun b _ hb => by have := hb.1; show w.heap.size ≤ b; omega
    ·obtain ⟨p, hp, rfl⟩ := List.mem_map.1 hr
     exact SS.out.st p hp
    ·show (s.runs.map _).length ≤ m
     rw [List.length_map, HM.out]
     exact Nat.le_refl _
    ·obtain ⟨p, hp, rfl⟩ := List.mem_map.1 hx
     have := SS.out.no p hp
     omega
    ·have := p6.cap_
     show (s.runs.map _).length ≤ cf6
     rw [List.length_map] at this ⊢
     exact this
    ·exact (n7.out.keep (w' := w8) (by rw [N8.out]; exact Nat.le_refl _) fun b hb hl => k8 b (by omega) hl).imp fun b _ hb => by show w.heap.size ≤ b; omega
    ·exact H.out.keys.oks
    ·show s.keys.length ≤ c7
     have := k7.out
     rw [HQ.out] at this
     exact this
end Go.Proofs.YtkbekojnmdgdgaaGreatDoor
/- FlIsTask -/
namespace Go.Proofs.YtkbekojnmdgdgaaGreatDoor
open Go.RowKit
set_option maxRecDepth 20000
def mostU (k : Rn.Tk) : Int := if k.ph = 2 ∨ k.ph = 5 then 1099511691776 else 0
def tkB (rt : Int) (k : Rn.Tk) : Bool := decide (0 ≤ k.ph ∧ k.ph ≤ 5 ∧ 0 ≤ k.tr ∧ k.tr ≤ rt + 1 ∧ 0 ≤ k.un ∧ k.un ≤ mostU k ∧ k.da.length ≤ 64)
theorem tkB_iff {c : Df.Task} {k : Rn.Tk} : tkB c.retry k = true ↔ Fw.TkV c k := by
 unfold tkB mostU
 rw [decide_eq_true_eq]
 constructor
 ·rintro ⟨h1, h2, h3, h4, h5, h6, h7⟩
  refine ⟨h1, h2, h3, h4, fun e1 e2 => ?_, h5, ?_, h7⟩
  ·rw [if_neg (by omega)] at h6; omega
  ·split at h6 <;> omega
 ·rintro ⟨h1, h2, h3, h4, h5, h6, h7, h8⟩
  refine ⟨h1, h2, h3, h4, h6, ?_, h8⟩
  split
  ·omega
  ·next h => have := h5 (fun e => h (.inl e)) (fun e => h (.inr e)); omega
theorem str_sizeF (l : Tx.T) : (str l).size = l.length := List.size_toArray
set_option maxHeartbeats 4000000 in
theorem isTask_any (ph tr un : Int) (da : Tx.T) (rt : Int) (h0 : 0 ≤ rt) (h1 : rt ≤ 1000) (w : World) :
  Calls Tryz.prog 88 #[.agg #[.int .i64 ph, .int .i64 tr, .int .i64 un, .string (str da)], .int .i64 rt] w (BoolG w (tkB rt ⟨ph, tr, un, da⟩)) := by
 obtain ⟨w1, hw1⟩ : ∃ w1, w1 = w.alloc (.cells #[.int .i64 ph, .int .i64 tr, .int .i64 un, .string (str da)] 47) := ⟨_, rfl⟩
 have B1 : Hid (Below w.heap.size w w1) := Lib.hid (by rw [hw1]; exact (Below.refl _ _).alloc (Nat.le_refl _) _)
 have X1 : w1.heap[w.heap.size]? = some (.cells #[.int .i64 ph, .int .i64 tr, .int .i64 un, .string (str da)] 47 (0, 0)) := by rw [hw1]; exact heap_alloc_new _ _
 obtain ⟨⟨x0, x1, x2, x3⟩, -⟩ := obj4 X1
 have V : Hid (tkB rt ⟨ph, tr, un, da⟩ = decide (0 ≤ ph ∧ ph ≤ 5 ∧ 0 ≤ tr ∧ tr ≤ rt + 1 ∧ 0 ≤ un ∧ un ≤ (if ph = 2 ∨ ph = 5 then 1099511691776 else 0) ∧ da.length ≤ 64)) := Lib.hid rfl
 generalize tkB rt ⟨ph, tr, un, da⟩ = v at *
 have SZ : Hid ((str da).size = da.length) := Lib.hid (str_sizeF da)
 obtain ⟨ds, hds⟩ : ∃ ds, ds = str da := ⟨_, rfl⟩
 rw [← hds] at hw1 x3 SZ ⊢
 clear hds X1
 have h2 : ¬ (rt + 1 < 0) := by omega
 by_cases p2 : ph = 2
 ·subst p2
  by_cases tr0' : ¬ (0 ≤ tr)
  ·have R : Hid (v = false) := Lib.hid (by rw [V.out]; exact decide_eq_false (by rintro ⟨a1, a2, a3, a4, a5, a6, a7⟩; omega))
   go_enter Tryz.func88, Tryz.ntmps88
   go_upto_region 1 with (fail)
   rw [← hw1]
   clear hw1 V SZ
   go_wp2
   go_ret
   exact ⟨ret_bool R.out.symm, B1⟩
  have tr0 : 0 ≤ tr := Decidable.not_not.1 tr0'
  clear tr0'
  by_cases tr1' : ¬ (tr ≤ rt + 1)
  ·have R : Hid (v = false) := Lib.hid (by rw [V.out]; exact decide_eq_false (by rintro ⟨a1, a2, a3, a4, a5, a6, a7⟩; omega))
   go_enter Tryz.func88, Tryz.ntmps88
   go_upto_region 1 with (fail)
   rw [← hw1]
   clear hw1 V SZ
   go_wp2
   go_ret
   exact ⟨ret_bool R.out.symm, B1⟩
  have tr1 : tr ≤ rt + 1 := Decidable.not_not.1 tr1'
  clear tr1'
  by_cases un0' : ¬ (0 ≤ un)
  ·have R : Hid (v = false) := Lib.hid (by rw [V.out]; exact decide_eq_false (by rintro ⟨a1, a2, a3, a4, a5, a6, a7⟩; omega))
   go_enter Tryz.func88, Tryz.ntmps88
   go_upto_region 1 with (fail)
   rw [← hw1]
   clear hw1 V SZ
   go_wp2
   go_ret
   exact ⟨ret_bool R.out.symm, B1⟩
  have un0 : 0 ≤ un := Decidable.not_not.1 un0'
  clear un0'
  by_cases un1' : ¬ (un ≤ 1099511691776)
  ·have R : Hid (v = false) := Lib.hid (by rw [V.out]; exact decide_eq_false (by rintro ⟨a1, a2, a3, a4, a5, a6, a7⟩; split at a6 <;> omega))
   go_enter Tryz.func88, Tryz.ntmps88
   go_upto_region 1 with (fail)
   rw [← hw1]
   clear hw1 V SZ
   go_wp2
   go_ret
   exact ⟨ret_bool R.out.symm, B1⟩
  have un1 : un ≤ 1099511691776 := Decidable.not_not.1 un1'
  clear un1'
  by_cases da1' : ¬ ((ds.size : Int) ≤ 64)
  ·have R : Hid (v = false) := Lib.hid (by rw [V.out]; exact decide_eq_false (by rintro ⟨-, -, -, -, -, -, h⟩; have := SZ.out; omega))
   go_enter Tryz.func88, Tryz.ntmps88
   go_upto_region 1 with (fail)
   rw [← hw1]
   clear hw1 V SZ
   go_wp2
   go_ret
   exact ⟨ret_bool R.out.symm, B1⟩
  have da1 : (ds.size : Int) ≤ 64 := Decidable.not_not.1 da1'
  clear da1'
  have R : Hid (v = true) := Lib.hid (by rw [V.out]; exact decide_eq_true ⟨by omega, by omega, by omega, by omega, by omega, by rw [if_pos (by omega)]; omega, by have := SZ.out; omega⟩)
  go_enter Tryz.func88, Tryz.ntmps88
  go_upto_region 1 with (fail)
  rw [← hw1]
  clear hw1 V SZ
  go_wp2
  go_ret
  exact ⟨ret_bool R.out.symm, B1⟩
 have n2 : (ph == 2) = false := by simpa using p2
 by_cases p5 : ph = 5
 ·subst p5
  by_cases tr0' : ¬ (0 ≤ tr)
  ·have R : Hid (v = false) := Lib.hid (by rw [V.out]; exact decide_eq_false (by rintro ⟨a1, a2, a3, a4, a5, a6, a7⟩; omega))
   go_enter Tryz.func88, Tryz.ntmps88
   go_upto_region 1 with (fail)
   rw [← hw1]
   clear hw1 V SZ
   go_wp2
   go_ret
   exact ⟨ret_bool R.out.symm, B1⟩
  have tr0 : 0 ≤ tr := Decidable.not_not.1 tr0'
  clear tr0'
  by_cases tr1' : ¬ (tr ≤ rt + 1)
  ·have R : Hid (v = false) := Lib.hid (by rw [V.out]; exact decide_eq_false (by rintro ⟨a1, a2, a3, a4, a5, a6, a7⟩; omega))
   go_enter Tryz.func88, Tryz.ntmps88
   go_upto_region 1 with (fail)
   rw [← hw1]
   clear hw1 V SZ
   go_wp2
   go_ret
   exact ⟨ret_bool R.out.symm, B1⟩
  have tr1 : tr ≤ rt + 1 := Decidable.not_not.1 tr1'
  clear tr1'
  by_cases un0' : ¬ (0 ≤ un)
  ·have R : Hid (v = false) := Lib.hid (by rw [V.out]; exact decide_eq_false (by rintro ⟨a1, a2, a3, a4, a5, a6, a7⟩; omega))
   go_enter Tryz.func88, Tryz.ntmps88
   go_upto_region 1 with (fail)
   rw [← hw1]
   clear hw1 V SZ
   go_wp2
   go_ret
   exact ⟨ret_bool R.out.symm, B1⟩
  have un0 : 0 ≤ un := Decidable.not_not.1 un0'
  clear un0'
  by_cases un1' : ¬ (un ≤ 1099511691776)
  ·have R : Hid (v = false) := Lib.hid (by rw [V.out]; exact decide_eq_false (by rintro ⟨a1, a2, a3, a4, a5, a6, a7⟩; split at a6 <;> omega))
   go_enter Tryz.func88, Tryz.ntmps88
   go_upto_region 1 with (fail)
   rw [← hw1]
   clear hw1 V SZ
   go_wp2
   go_ret
   exact ⟨ret_bool R.out.symm, B1⟩
  have un1 : un ≤ 1099511691776 := Decidable.not_not.1 un1'
  clear un1'
  by_cases da1' : ¬ ((ds.size : Int) ≤ 64)
  ·have R : Hid (v = false) := Lib.hid (by rw [V.out]; exact decide_eq_false (by rintro ⟨-, -, -, -, -, -, h⟩; have := SZ.out; omega))
   go_enter Tryz.func88, Tryz.ntmps88
   go_upto_region 1 with (fail)
   rw [← hw1]
   clear hw1 V SZ
   go_wp2
   go_ret
   exact ⟨ret_bool R.out.symm, B1⟩
  have da1 : (ds.size : Int) ≤ 64 := Decidable.not_not.1 da1'
  clear da1'
  have R : Hid (v = true) := Lib.hid (by rw [V.out]; exact decide_eq_true ⟨by omega, by omega, by omega, by omega, by omega, by rw [if_pos (by omega)]; omega, by have := SZ.out; omega⟩)
  go_enter Tryz.func88, Tryz.ntmps88
  go_upto_region 1 with (fail)
  rw [← hw1]
  clear hw1 V SZ
  go_wp2
  go_ret
  exact ⟨ret_bool R.out.symm, B1⟩
 have n5 : (ph == 5) = false := by simpa using p5
 by_cases ph0' : ¬ (0 ≤ ph)
 ·have R : Hid (v = false) := Lib.hid (by rw [V.out]; exact decide_eq_false (by rintro ⟨a1, a2, a3, a4, a5, a6, a7⟩; omega))
  go_enter Tryz.func88, Tryz.ntmps88
  go_upto_region 1 with (fail)
  rw [← hw1]
  clear hw1 V SZ
  go_wp2
  go_ret
  exact ⟨ret_bool R.out.symm, B1⟩
 have ph0 : 0 ≤ ph := Decidable.not_not.1 ph0'
 clear ph0'
 by_cases ph1' : ¬ (ph ≤ 5)
 ·have R : Hid (v = false) := Lib.hid (by rw [V.out]; exact decide_eq_false (by rintro ⟨a1, a2, a3, a4, a5, a6, a7⟩; omega))
  go_enter Tryz.func88, Tryz.ntmps88
  go_upto_region 1 with (fail)
  rw [← hw1]
  clear hw1 V SZ
  go_wp2
  go_ret
  exact ⟨ret_bool R.out.symm, B1⟩
 have ph1 : ph ≤ 5 := Decidable.not_not.1 ph1'
 clear ph1'
 by_cases tr0' : ¬ (0 ≤ tr)
 ·have R : Hid (v = false) := Lib.hid (by rw [V.out]; exact decide_eq_false (by rintro ⟨a1, a2, a3, a4, a5, a6, a7⟩; omega))
  go_enter Tryz.func88, Tryz.ntmps88
  go_upto_region 1 with (fail)
  rw [← hw1]
  clear hw1 V SZ
  go_wp2
  go_ret
  exact ⟨ret_bool R.out.symm, B1⟩
 have tr0 : 0 ≤ tr := Decidable.not_not.1 tr0'
 clear tr0'
 by_cases tr1' : ¬ (tr ≤ rt + 1)
 ·have R : Hid (v = false) := Lib.hid (by rw [V.out]; exact decide_eq_false (by rintro ⟨a1, a2, a3, a4, a5, a6, a7⟩; omega))
  go_enter Tryz.func88, Tryz.ntmps88
  go_upto_region 1 with (fail)
  rw [← hw1]
  clear hw1 V SZ
  go_wp2
  go_ret
  exact ⟨ret_bool R.out.symm, B1⟩
 have tr1 : tr ≤ rt + 1 := Decidable.not_not.1 tr1'
 clear tr1'
 by_cases un0' : ¬ (0 ≤ un)
 ·have R : Hid (v = false) := Lib.hid (by rw [V.out]; exact decide_eq_false (by rintro ⟨a1, a2, a3, a4, a5, a6, a7⟩; omega))
  go_enter Tryz.func88, Tryz.ntmps88
  go_upto_region 1 with (fail)
  rw [← hw1]
  clear hw1 V SZ
  go_wp2
  go_ret
  exact ⟨ret_bool R.out.symm, B1⟩
 have un0 : 0 ≤ un := Decidable.not_not.1 un0'
 clear un0'
 by_cases un1' : ¬ (un ≤ 0)
 ·have R : Hid (v = false) := Lib.hid (by rw [V.out]; exact decide_eq_false (by rintro ⟨a1, a2, a3, a4, a5, a6, a7⟩; split at a6 <;> omega))
  go_enter Tryz.func88, Tryz.ntmps88
  go_upto_region 1 with (fail)
  rw [← hw1]
  clear hw1 V SZ
  go_wp2
  go_ret
  exact ⟨ret_bool R.out.symm, B1⟩
 have un1 : un ≤ 0 := Decidable.not_not.1 un1'
 clear un1'
 by_cases da1' : ¬ ((ds.size : Int) ≤ 64)
 ·have R : Hid (v = false) := Lib.hid (by rw [V.out]; exact decide_eq_false (by rintro ⟨-, -, -, -, -, -, h⟩; have := SZ.out; omega))
  go_enter Tryz.func88, Tryz.ntmps88
  go_upto_region 1 with (fail)
  rw [← hw1]
  clear hw1 V SZ
  go_wp2
  go_ret
  exact ⟨ret_bool R.out.symm, B1⟩
 have da1 : (ds.size : Int) ≤ 64 := Decidable.not_not.1 da1'
 clear da1'
 have R : Hid (v = true) := Lib.hid (by rw [V.out]; exact decide_eq_true ⟨by omega, by omega, by omega, by omega, by omega, by rw [if_neg (by omega)]; omega, by have := SZ.out; omega⟩)
 go_enter Tryz.func88, Tryz.ntmps88
 go_upto_region 1 with (fail)
 rw [← hw1]
 clear hw1 V SZ
 go_wp2
 go_ret
 exact ⟨ret_bool R.out.symm, B1⟩
def shB (s : ByteArray) : Bool := decide ((Df.parse s.data.toList).2 = 0 ∧ str (Df.showT (Df.parse s.data.toList).1) = s)
set_option maxHeartbeats 1000000 in
theorem isShown_any (s : ByteArray) (hs : s.size ≤ 9223372036854775807) (w : World) (hF : FactsD w) : Calls Tryz.prog 67 #[.string s] w (BoolG w (shB s)) := by
 have CP := Lib.hid (parse_wide s hs w hF)
 have V : Hid (shB s = decide ((Df.parse s.data.toList).2 = 0 ∧ str (Df.showT (Df.parse s.data.toList).1) = s)) := Lib.hid rfl
 have PK : Hid ((Df.parse s.data.toList).2 = 0 → Df.Ok (Df.parse s.data.toList).1) := Lib.hid fun h0 => (Df.parse_back (t := s.data.toList) (d := (Df.parse s.data.toList).1) (Prod.ext rfl h0)).1
 have HF := Lib.hid hF
 generalize shB s = v at *
 generalize Df.parse s.data.toList = px at *
 unfold ParseG at CP
 obtain ⟨d, x⟩ := px
 dsimp only at CP V PK
 obtain ⟨n, hn⟩ : ∃ n, n = d.length := ⟨_, rfl⟩
 have HN := Lib.hid hn
 rw [← hn] at CP
 clear hn hF hs
 go_enter Tryz.func67, Tryz.ntmps67
 go_wp2_with fail
 refine CP.out.mono ?_; rintro e w1 ⟨A1, c1, rfl, d1, b1⟩
 obtain ⟨w2, hw2⟩ : ∃ w2, w2 = w1.alloc (.cells #[.slice A1 n c1] 37) := ⟨_, rfl⟩
 have B2 : Hid (Below w1.heap.size w1 w2) := Lib.hid (by rw [hw2]; exact (Below.refl _ _).alloc (Nat.le_refl _) _)
 have BW : Hid (Below w.heap.size w w2) := Lib.hid (b1.out.trans (B2.out.mono b1.out.size))
 have y0 : w2.cell? ⟨w1.heap.size, 0, none⟩ = some (.slice A1 n c1) := by rw [hw2]; simp
 go_upto_region 2 with (fail)
 rw [← hw2]
 clear hw2
 by_cases hx : x = 0
 ·subst hx
  have CS : Hid (Calls Tryz.prog 58 #[.agg #[.slice A1 n c1]] w2 (StrG w2 (str (Df.showT d)))) := Lib.hid (by
   rw [HN.out]
   exact show_any A1 d c1 (PK.out rfl).fair w2 (HF.out.on BW.out) (d1.out.on B2.out))
  have V2 : Hid (v = decide (str (Df.showT d) = s)) := Lib.hid (by rw [V.out]; simp)
  clear V PK
  generalize str (Df.showT d) = tx at *
  go_wp2_with fail
  refine CS.out.mono ?_; rintro e w3 ⟨rfl, b3⟩
  have E := Lib.hid (eqB tx s)
  have BF : Hid (Below w.heap.size w w3) := Lib.hid (BW.out.trans (b3.out.mono BW.out.size))
  clear CS y0
  go_wp2
  go_ret
  exact ⟨ret_bool (by rw [V2.out, ← E.out]), BF⟩
 ·have hx2 : (x == 0) = false := by simpa using hx
  have R : Hid (v = false) := Lib.hid (by rw [V.out]; exact decide_eq_false fun h => hx h.1)
  clear V PK hx
  go_wp2
  go_ret
  exact ⟨ret_bool R.out.symm, BW⟩
def hrB (ns : List ByteArray) (n : ByteArray) (id : Int) : Bool := decide (1 ≤ id ∧ id ≤ ns.length ∧ ns.getD (id - 1).toNat ByteArray.empty = n)
set_option maxHeartbeats 1000000 in
theorem hasRun_any {w : World} {g : Nat} {a : FAt} {s : Fw.S} (h : FPM w g a s) (n : ByteArray) (id : Int) (hid : inI id) :
  Calls Tryz.prog 69 #[.pointer (some ⟨g, 0, none⟩), .string n, .int .i64 id] w (BoolG w (hrB (s.runs.map (·.2)) n id)) := by
 obtain ⟨m, hm⟩ : ∃ m, m = s.runs.length := ⟨_, rfl⟩
 have hm9 : m ≤ 64 := by rw [hm]; exact h.rm
 have V : Hid (hrB (s.runs.map (·.2)) n id = decide (1 ≤ id ∧ id ≤ (m : Int) ∧ (s.runs.map (·.2)).getD (id - 1).toNat ByteArray.empty = n)) := Lib.hid (by unfold hrB; rw [List.length_map, hm])
 generalize hrB (s.runs.map (·.2)) n id = v at *
 obtain ⟨⟨-, -, -, c3, -⟩, -⟩ := h.cells
 rw [← hm] at c3
 obtain ⟨i0, i1⟩ := hid
 have BR : Hid (Below w.heap.size w w) := Lib.hid (Below.refl _ _)
 by_cases h1 : ¬ (1 ≤ id)
 ·have R : Hid (v = false) := Lib.hid (by rw [V.out]; exact decide_eq_false fun h => h1 h.1)
  clear V h hm
  go_enter Tryz.func69, Tryz.ntmps69
  go_wp2
  go_ret
  exact ⟨ret_bool R.out.symm, BR⟩
 have h1 : 1 ≤ id := Decidable.not_not.1 h1
 by_cases h2 : ¬ (id ≤ (m : Int))
 ·have R : Hid (v = false) := Lib.hid (by rw [V.out]; exact decide_eq_false fun h => h2 h.2.1)
  clear V h hm
  go_enter Tryz.func69, Tryz.ntmps69
  go_wp2
  go_ret
  exact ⟨ret_bool R.out.symm, BR⟩
 have h2 : id ≤ (m : Int) := Decidable.not_not.1 h2
 obtain ⟨k, rfl⟩ : ∃ k : Nat, id = (k : Int) + 1 := ⟨(id - 1).toNat, by omega⟩
 have hk : k < s.runs.length := by rw [← hm]; omega
 obtain ⟨b, hF, -, hb⟩ := h.of.shape (by rw [List.length_map]; omega)
 have hof := h.of
 rw [hF] at hof c3
 have o0 := ofV_cell hof hk
 have V2 : Hid (v = decide (s.runs[k].2 = n)) := Lib.hid (by
  rw [V.out, show ((k : Int) + 1 - 1).toNat = k by omega, getD_at (by rw [List.length_map]; exact hk), List.getElem_map]
  congr 1
  exact propext ⟨fun h => h.2.2, fun h => ⟨by omega, by omega, h⟩⟩)
 have E := Lib.hid (eqB s.runs[k].2 n)
 have hk' : (k : Int) < (m : Int) := by omega
 have hkw : IntKind.i64.wrap (k : Int) = (k : Int) := IntWalk.i64_in _ (by omega)
 clear V h hof hF hm
 generalize s.runs[k].2 = na at *
 go_enter Tryz.func69, Tryz.ntmps69
 go_wp2
 go_ret
 exact ⟨ret_bool (by rw [V2.out, ← E.out]), BR⟩
end Go.Proofs.YtkbekojnmdgdgaaGreatDoor
/- FlDelS -/
namespace Go.Proofs.YtkbekojnmdgdgaaGreatDoor
open Go.RowKit Go.Maps
theorem OwnK.movedAt {w : World} {base g cap k : Nat} {T : TypeId} {vs : List (List Value)} (h : OwnK w base T k (some ⟨g, 0, none⟩) cap vs) {i : Nat} (hi : i < vs.length) (us : List Value) :
  OwnK ((w.setCells g (i * k) (vs.drop (i + 1)).flatten).setCells g ((vs.length - 1) * k) us) base T k (some ⟨g, 0, none⟩) cap (vs.take i ++ vs.drop (i + 1)) := by
 obtain ⟨s1, s2, s3⟩ := h.spare
 obtain ⟨cur, hg, hb, hl, hm, hsz, htk⟩ := h.inner
 obtain ⟨c1, h1, e1⟩ := setCells_block g (vs.drop (i + 1)).flatten (i * k) w cur T (0, 0) hg
 obtain ⟨c2, h2, e2⟩ := setCells_block g us ((vs.length - 1) * k) _ c1 T (0, 0) h1
 have hy : Wide k (vs.take i ++ vs.drop (i + 1)) := Wide.app (fun v hv => h.2 v (List.mem_of_mem_take hv)) (h.2.drop _)
 have ht : Wide k (vs.take i) := fun v hv => h.2 v (List.mem_of_mem_take hv)
 have hyl : (vs.take i ++ vs.drop (i + 1)).length = vs.length - 1 := by rw [List.length_append, List.length_take, List.length_drop]; omega
 have hlen := hy.len
 have htl : (vs.take i).flatten.length = i * k := by rw [ht.len, List.length_take, Nat.min_eq_left (by omega)]
 have hdl : (vs.drop (i + 1)).flatten.length = (vs.length - (i + 1)) * k := by rw [(h.2.drop _).len, List.length_drop]
 have hmul : (vs.length - 1) * k ≤ cap * k := Nat.mul_le_mul_right k (by omega)
 have hsum : (vs.length - 1) * k = i * k + (vs.length - (i + 1)) * k := by rw [← Nat.add_mul]; congr 1; omega
 rw [hyl] at hlen
 refine ⟨⟨by rw [hyl]; exact hlen, .inr ⟨g, cap, c2, rfl, hb, h2, by rw [hyl]; omega, hm, by rw [e2, e1, hsz], ?_⟩⟩, hy⟩
 rw [hyl]
 refine List.ext_getElem? fun j => ?_
 rw [List.getElem?_take]
 split
 ·next hj =>
  have a1 : ((w.setCells g (i * k) (vs.drop (i + 1)).flatten).setCells g ((vs.length - 1) * k) us).cell? ⟨g, j, none⟩ = c2.toList[j]? := by simp [World.cell?, h2]
  have a2 := World.cell?_setCells_out g us ((vs.length - 1) * k) (w.setCells g (i * k) (vs.drop (i + 1)).flatten) ⟨g, j, none⟩ fun _ _ => .inl hj
  rw [← a1, a2, List.flatten_append]
  by_cases hji : j < i * k
  ·rw [World.cell?_setCells_out g _ (i * k) w ⟨g, j, none⟩ fun _ _ => .inl hji, List.getElem?_append_left (by rw [htl]; exact hji)]
   have hfl : vs.flatten = (vs.take i).flatten ++ (vs.drop i).flatten := by rw [← List.flatten_append, List.take_append_drop]
   have hjl : j < vs.length * k := by
    have : i * k ≤ vs.length * k := Nat.mul_le_mul_right k (by omega)
    omega
   have := World.ownsRow.cellAt h.1 j hjl
   rw [this, hfl, List.getElem?_append_left (by rw [htl]; exact hji)]
  ·have a3 := World.cell?_setCells_in g (vs.drop (i + 1)).flatten (i * k) w (fun t ht => (s3 (i * k + t) (by rw [hdl] at ht; omega)).1) (j - i * k) (by rw [hdl]; omega)
   rw [show i * k + (j - i * k) = j by omega] at a3
   rw [a3, List.getElem?_append_right (by rw [htl]; omega), htl, List.getElem?_eq_getElem (by rw [hdl]; omega)]
 ·next hj => rw [List.getElem?_eq_none (by rw [hlen]; omega)]
theorem undSS : Tryz.prog.underlying 39 = some (.slice 9) := Tryz.underlying39
theorem clear_tx (w : World) (ty : TypeId) (b o c : Nat) (hc : (w.cell? ⟨b, o, none⟩).isSome = true) (hf : w.frozen? ⟨b, o, none⟩ = false) :
  (Builtin.clear_ #[39] ty #[.slice (some ⟨b, o, none⟩) 1 c]).run Tryz.prog w = .ok (.tuple #[]) (w.setCells b o [.string ⟨#[]⟩]) := by
 have hst := run_storeCells_cells (P := Tryz.prog) b o [.string ⟨#[]⟩] 0 w (fun j hj => by
  obtain rfl : j = 0 := (by simpa using hj)
  simpa using hc) (fun j hj => by
  obtain rfl : j = 0 := (by simpa using hj)
  simpa using hf) (by simp [Value.oneCell'])
 simp only [Nat.add_zero] at hst
 have hcs : (Value.string ⟨#[]⟩).cells = #[.string ⟨#[]⟩] := rfl
 have hz : (Builtin.zeroCells #[.string ⟨#[]⟩] 1).toList = [.string ⟨#[]⟩] := by simp [Builtin.zeroCells, List.range, List.range.loop]
 simp [Builtin.clear_, run_underlying undSS, hcs, hst, hz]
set_option maxRecDepth 20000 in
set_option maxHeartbeats 4000000 in
theorem delS_any {w : World} {base g cap : Nat} {vs : List (List Value)} (h : OwnK w base 9 1 (some ⟨g, 0, none⟩) cap vs) (n : Nat) (hn : n = vs.length) (i : Nat) (hi : i < n) :
  Calls Tryz.prog 112 #[.slice (some ⟨g, 0, none⟩) n cap, .int .i64 (i : Int), .int .i64 ((i : Int) + 1)] w fun e w' => e = .returned (.slice (some ⟨g, 0, none⟩) (n - 1 : Nat) cap) ∧ Hid (OwnK w' base 9 1 (some ⟨g, 0, none⟩) cap (vs.take i ++ vs.drop (i + 1))) ∧ Hid (Only (fun b => b = g) w w') := by
 obtain ⟨s1, s2, s3⟩ := h.spare
 rw [← hn] at s1
 have SP := Lib.hid s3
 have HO := Lib.hid h
 have hl : (vs.drop (i + 1)).length = n - (i + 1) := by rw [List.length_drop, ← hn]
 have hfl : (vs.drop (i + 1)).flatten.length = (n - (i + 1)) * 1 := by rw [(h.2.drop (i + 1)).len, hl]
 have W1 := Lib.hid (h.2.drop (i + 1)).mem
 obtain ⟨i0, hi0, hz0, hz1, hz2⟩ := info_parts infoS
 obtain ⟨A, hA, hA2⟩ : ∃ A : Addr, (if cap = i + 1 then (some ⟨g, 0, none⟩ : Option Addr) else some ⟨g, i + 1, none⟩) = some A ∧ ∀ j u, (vs.drop (i + 1)).flatten[j]? = some u → w.drew.cell? (A.add j) = some u := by
  by_cases hh : cap = i + 1
  ·refine ⟨_, by rw [if_pos hh], fun j u hu => ?_⟩
   have := (List.getElem?_eq_some_iff.1 hu).1
   omega
  ·refine ⟨_, by rw [if_neg hh], fun j u hu => ?_⟩
   rw [add_off]
   have := h.cells (i + 1) j u hu
   rw [Nat.mul_one] at this
   exact this
 have HA2 := Lib.hid hA2
 have MV := Lib.hid (fun us => h.drew.movedAt (i := i) (by rw [← hn]; exact hi) us)
 generalize hF : (vs.drop (i + 1)).flatten = F at *
 have HFL := Lib.hid hfl
 rw [← hn] at MV
 obtain ⟨W2, hW2⟩ : ∃ W2, W2 = w.drew.setCells g (i * 1) F := ⟨_, rfl⟩
 have HW2 := Lib.hid hW2
 have SP2 : Hid ((W2.cell? ⟨g, n - 1, none⟩).isSome = true ∧ W2.frozen? ⟨g, n - 1, none⟩ = false) := Lib.hid (by
  obtain ⟨cur, hg, _, _, _, hsz, _⟩ := h.inner
  obtain ⟨c1, hb1, e1⟩ := setCells_block g F (i * 1) w.drew cur _ _ hg
  rw [hW2]
  constructor
  ·simp only [World.cell?, hb1]
   have : n - 1 < c1.size := by omega
   simp [this]
  ·rw [Nat.mul_one] at hb1
   simp [World.frozen?, hb1])
 have CL : ∀ ty c, (Builtin.clear_ #[39] ty #[.slice (some ⟨g, n - 1, none⟩) (n - (n - 1)) c]).run Tryz.prog W2 = .ok (.tuple #[]) (W2.setCells g (n - 1) [.string ⟨#[]⟩]) := fun ty c => by
  rw [show n - (n - 1) = 1 by omega]
  exact clear_tx W2 ty g _ c SP2.out.1 SP2.out.2
 clear s3 h hl hfl hA2 hF hW2
 clear hn
 have h1i : (i : Int) < (n : Int) := by omega
 have h2i : (i : Int) + 1 ≤ (n : Int) := by omega
 have h4i : (i : Int) ≤ (cap : Int) := by omega
 have h5i : (i : Int) + 1 ≤ (cap : Int) := by omega
 have h6i : ((i : Int) + 1).toNat = i + 1 := by omega
 have h7i : (0 : Int) ≤ (i : Int) + 1 := by omega
 have h3i : ((i : Int) == (i : Int) + 1) = false := by simp; omega
 go_enter Tryz.func112, Tryz.ntmps112
 go_wp2_with fail
 go_region_law (refine step_append_room rfl (.tmp 22) (.tmp 25) 39 rfl 9 i0 1 undSS hi0 hz1 g 0 i cap (by simp [Act.eval, Act.put]) A (n - (i + 1)) (cap - (i + 1)) F (by simp [Act.eval, Act.put]) HFL.out (fun j u hu => HA2.out j u hu) (fun u hu => W1.out u hu) (by omega) (fun j hj => by (have h3 := HFL.out; have h4 := SP.out (0 + i * 1 + j) (by omega); exact h4)) ?_; rw [show w.drew.setCells g (0 + i * 1) F = W2 from by rw [Nat.zero_add]; exact HW2.out.symm])
 rw [show i + (n - (i + 1)) = n - 1 by omega]
 have h8i : (n - 1 : Nat) ≤ n := by omega
 go_wp2
 go_ret
 refine ⟨rfl, Lib.hid ?_, Lib.hid ?_⟩
 ·have := MV.out [.string ⟨#[]⟩]
  rw [← HW2.out, Nat.mul_one] at this
  exact this
 ·rw [HW2.out]
  exact ((Only.refl _ _).drew.trans (setCells_only g F (i * 1) w.drew) fun _ h => .inl h).trans (setCells_only g _ _ _) fun _ h => .inl h
end Go.Proofs.YtkbekojnmdgdgaaGreatDoor
/- FlSigs -/
namespace Go.Proofs.YtkbekojnmdgdgaaGreatDoor
open Go.RowKit Go.Maps
set_option maxRecDepth 20000
def lstepS (l : List Tx.T) (t : Df.Task) : List Tx.T := if t.on ≠ [] ∧ t.on ∉ l then l ++ [t.on] else l
def leftS (d : Df.D) : List Tx.T := d.foldl lstepS []
def sgB : List Tx.T → List Tx.T → Bool
 | _, [] => true
 | l, s :: r => if s ∈ l then sgB (l.erase s) r else false
def areB (d : Df.D) (sg : List Tx.T) : Bool := sgB (leftS d) sg
theorem leftS_mem (d : Df.D) : ∀ l : List Tx.T, l.Nodup → (d.foldl lstepS l).Nodup ∧ ∀ s, s ∈ d.foldl lstepS l ↔ s ∈ l ∨ (s ≠ [] ∧ ∃ t ∈ d, t.on = s) := by
 induction d with
 | nil => intro l h; exact ⟨h, fun s => by simp⟩
 | cons t d ih =>
  intro l h
  have h2 : (lstepS l t).Nodup := by
   unfold lstepS
   split
   ·next hc =>
    rw [List.nodup_append]
    refine ⟨h, by simp, ?_⟩
    intro a ha b hb
    rw [List.mem_singleton] at hb
    rintro rfl
    rw [hb] at ha
    exact hc.2 ha
   ·exact h
  obtain ⟨i1, i2⟩ := ih _ h2
  rw [List.foldl_cons]
  refine ⟨i1, fun s => ?_⟩
  rw [i2]
  have hs : s ∈ lstepS l t ↔ s ∈ l ∨ (s ≠ [] ∧ t.on = s) := by
   unfold lstepS
   split
   ·next hc =>
    rw [List.mem_append, List.mem_singleton]
    constructor
    ·rintro (h | rfl)
     ·exact .inl h
     ·exact .inr ⟨hc.1, rfl⟩
    ·rintro (h | ⟨_, rfl⟩)
     ·exact .inl h
     ·exact .inr rfl
   ·next hc =>
    constructor
    ·exact .inl
    ·rintro (h | ⟨h1, rfl⟩)
     ·exact h
     ·exact Classical.not_not.1 fun hn => hc ⟨h1, hn⟩
  rw [hs]
  constructor
  ·rintro ((h | ⟨h1, h5⟩) | ⟨h1, x, hx, h5⟩)
   ·exact .inl h
   ·exact .inr ⟨h1, t, List.mem_cons_self .., h5⟩
   ·exact .inr ⟨h1, x, List.mem_cons_of_mem _ hx, h5⟩
  ·rintro (h | ⟨h1, x, hx, h5⟩)
   ·exact .inl (.inl h)
   ·rcases List.mem_cons.1 hx with rfl | hx
    ·exact .inl (.inr ⟨h1, h5⟩)
    ·exact .inr ⟨h1, x, hx, h5⟩
theorem sgB_iff : ∀ (sg l : List Tx.T), l.Nodup → (sgB l sg = true ↔ sg.Nodup ∧ ∀ s ∈ sg, s ∈ l)
 | [], l, _ => by simp [sgB]
 | s :: r, l, h => by
  unfold sgB
  by_cases hs : s ∈ l
  ·rw [if_pos hs, sgB_iff r (l.erase s) (h.erase s), List.nodup_cons]
   constructor
   ·rintro ⟨h1, h2⟩
    refine ⟨⟨fun hr => ?_, h1⟩, fun x hx => ?_⟩
    ·exact ((h.mem_erase_iff).1 (h2 s hr)).1 rfl
    ·rcases List.mem_cons.1 hx with rfl | hx
     ·exact hs
     ·exact List.mem_of_mem_erase (h2 x hx)
   ·rintro ⟨⟨h1, h2⟩, h3⟩
    exact ⟨h2, fun x hx => (h.mem_erase_iff).2 ⟨fun e => h1 (e ▸ hx), h3 x (List.mem_cons_of_mem _ hx)⟩⟩
  ·rw [if_neg hs]
   constructor
   ·intro h; cases h
   ·rintro ⟨_, h3⟩
    exact absurd (h3 s (List.mem_cons_self ..)) hs
theorem areB_iff (d : Df.D) (sg : List Tx.T) : areB d sg = true ↔ sg.Nodup ∧ ∀ s ∈ sg, s ≠ [] ∧ ∃ t ∈ d, t.on = s := by
 obtain ⟨h1, h2⟩ := leftS_mem d [] List.nodup_nil
 unfold areB leftS
 rw [sgB_iff _ _ h1]
 constructor
 ·rintro ⟨a, b⟩
  exact ⟨a, fun s hs => by have := (h2 s).1 (b s hs); simpa using this⟩
 ·rintro ⟨a, b⟩
  exact ⟨a, fun s hs => (h2 s).2 (.inr (b s hs))⟩
theorem leftS_take (d : Df.D) {k : Nat} (hk : k < d.length) : leftS (d.take (k + 1)) = lstepS (leftS (d.take k)) d[k] := by
 unfold leftS
 rw [List.take_succ_eq_append_getElem hk, List.foldl_append]
 rfl
theorem lstepS_few (l : List Tx.T) (t : Df.Task) : (lstepS l t).length ≤ l.length + 1 := by
 unfold lstepS
 split
 ·rw [List.length_append, List.length_singleton]; exact Nat.le_refl _
 ·omega
theorem lstepS_short {l : List Tx.T} {t : Df.Task} (h : ∀ x ∈ l, x.length ≤ 1100) (ht : t.on.length ≤ 1100) : ∀ x ∈ lstepS l t, x.length ≤ 1100 := by
 unfold lstepS
 split
 ·intro x hx
  rcases List.mem_append.1 hx with hx | hx
  ·exact h x hx
  ·rw [List.mem_singleton.1 hx]; exact ht
 ·exact h
def LfI (w : World) (L : Option Addr) (cl : Nat) (l : List Tx.T) (wr : World) : Prop := OwnK wr w.heap.size 9 1 L cl (l.map sgV) ∧ (∀ x ∈ l, x.length ≤ 1100) ∧ Below w.heap.size w wr
theorem LfI.sigs {w wr : World} {L : Option Addr} {cl : Nat} {l : List Tx.T} (h : LfI w L cl l wr) : SigsO wr (fun _ => True) L l := h.1.sigs fun _ _ => trivial
theorem LfI.on {w wr W : World} {L : Option Addr} {cl : Nat} {l : List Tx.T} (h : LfI w L cl l wr) (hb : Below wr.heap.size wr W) : LfI w L cl l W := ⟨h.1.kept fun b _ hl => hb.block b hl, h.2.1, h.2.2.trans (hb.mono h.2.2.size)⟩
set_option maxHeartbeats 4000000 in
theorem areSignals_any (A : Option Addr) (sg : List Tx.T) (c : Nat) (n : Nat) (hn : n = sg.length) (h9 : n ≤ 1000) (B : Option Addr) (d : Df.D) (m c2 : Nat) (hm : m = d.length) (hf : Fair d) (w : World) (O : Nat → Prop) (h : SigsO w O A sg) (hd : DefIn w w.heap.size B d) :
  Calls Tryz.prog 89 #[.slice A n c, .agg #[.slice B m c2]] w (BoolG w (areB d sg)) := by
 have HN := Lib.hid hn
 have HM := Lib.hid hm
 have HF := Lib.hid hf
 have HS := Lib.hid h
 have HD := Lib.hid hd
 have hm9 : m ≤ 1100 := by rw [hm]; exact hf.1
 obtain ⟨v, hv⟩ : ∃ v, v = areB d sg := ⟨_, rfl⟩
 have V : Hid (v = sgB (leftS d) (sg.drop 0)) := Lib.hid hv
 rw [← hv]
 obtain ⟨w1, hw1⟩ : ∃ w1, w1 = w.alloc (.cells #[.slice B m c2] 37) := ⟨_, rfl⟩
 have B1 : Hid (Below w.heap.size w w1) := Lib.hid (by rw [hw1]; exact (Below.refl _ _).alloc (Nat.le_refl _) _)
 have x0 : w1.cell? ⟨w.heap.size, 0, none⟩ = some (.slice B m c2) := by rw [hw1]; simp
 have I0 : Hid (LfI w none 0 (leftS (d.take 0)) w1) := Lib.hid ⟨OwnK.none_ _ _ _ _, (fun x hx => by simp [leftS] at hx), B1.out⟩
 clear hv h hd hf hn hm
 go_enter Tryz.func89, Tryz.ntmps89
 go_upto_region 1 with (fail)
 rw [← hw1]
 clear hw1
 go_wp2_with fail
 clear x0
 go_loopw [5, 14] (fun lv iv wr => ∃ (k q : Nat) (L : Option Addr) (cl : Nat), k ≤ m ∧ q ≤ k ∧ lv = .slice L q cl ∧ iv = .int .i64 k ∧ Hid (q = (leftS (d.take k)).length) ∧ Hid (LfI w L cl (leftS (d.take k)) wr)) (fun _ iv _ => m - (intOf iv).toNat)
 case atStart => exact ⟨0, 0, none, 0, Nat.zero_le _, Nat.le_refl _, rfl, rfl, Lib.hid rfl, I0⟩
 case round =>
  obtain ⟨k, q, L, cl, hk, hqk, rfl, rfl, HQ, HI⟩ := hrel
  by_cases hlt : k < m
  ·have hlt' : (k : Int) < (m : Int) := by omega
   have hkd : Hid (k < d.length) := Lib.hid (by rw [← HM.out]; exact hlt)
   have NX := Lib.hid (leftS_take d hkd.out)
   have ON : Hid (d[k]'hkd.out ∈ d) := Lib.hid (List.getElem_mem _)
   obtain ⟨b, off, A2, ca2, rfl, hb, z2, zc, ni, p0, p1, p2, p3, p4, p5⟩ := ((HD.out.on HI.out.2.2)).at2 hkd.out
   have OL : Hid ((d[k]'hkd.out).on.length ≤ 1100) := Lib.hid (HF.out.2 _ ON.out).2.2
   clear hb z2 zc ni
   generalize d[k]'hkd.out = t at *
   obtain ⟨l, hl⟩ : ∃ l, l = leftS (d.take k) := ⟨_, rfl⟩
   rw [← hl] at NX HQ HI
   clear hl
   have FEW := Lib.hid (lstepS_few l t)
   have SHT := Lib.hid (lstepS_short HI.out.2.1 OL.out)
   have ST : Hid (lstepS l t = if t.on ≠ [] ∧ t.on ∉ l then l ++ [t.on] else l) := Lib.hid rfl
   generalize lstepS l t = l2 at *
   obtain ⟨an, han⟩ : ∃ an, an = t.after.length := ⟨_, rfl⟩
   rw [← han] at p1
   clear han
   obtain ⟨w2, hw2⟩ : ∃ w2, w2 = wr.alloc (.cells #[.string (str t.name), .slice A2 an ca2, .int .i64 t.retry, .int .i64 t.wait, .int .i64 t.base, .string (str t.on)] 96) := ⟨_, rfl⟩
   have B2 : Hid (Below wr.heap.size wr w2) := Lib.hid (by rw [hw2]; exact (Below.refl _ _).alloc (Nat.le_refl _) _)
   have X2 : w2.heap[wr.heap.size]? = some (.cells #[.string (str t.name), .slice A2 an ca2, .int .i64 t.retry, .int .i64 t.wait, .int .i64 t.base, .string (str t.on)] 96 (0, 0)) := by rw [hw2]; exact heap_alloc_new _ _
   obtain ⟨-, -, -, -, -, y5⟩ := ob6 X2
   have I2 := Lib.hid (HI.out.on B2.out)
   have CT := Lib.hid (contains_p L l cl (by have := HQ.out; omega) HI.out.2.1 t.on q HQ.out w2 _ I2.out.sigs)
   clear X2
   go_upto_region 5 with (fail)
   rw [← hw2]
   clear hw2 p0 p1 p2 p3 p4 p5
   by_cases he : t.on = []
   ·have E : Hid (l2 = l) := Lib.hid (by rw [ST.out, if_neg (fun h => h.1 he)])
    rw [he] at y5
    have y6 : w2.cell? ⟨wr.heap.size, 5, none⟩ = some (.string ⟨#[]⟩) := y5
    clear y5 he CT ST
    go_wp2
    go_roundw
    case rel => exact ⟨k + 1, q, L, cl, by omega, by omega, rfl, by go_num, by rw [NX.out, E.out]; exact HQ, by rw [NX.out, E.out]; exact I2⟩
    case measure => simp [intOf]; omega
   ·have NE : (str t.on).toList.isEmpty = false := bs_nonempty fun e => he (by
     have h1 : (str t.on).data.toList = [] := by rw [e]
     rwa [str_data] at h1)
    by_cases hin : t.on ∈ l
    ·have E : Hid (l2 = l) := Lib.hid (by rw [ST.out, if_neg (fun h => h.2 hin)])
     rw [decide_eq_true hin] at CT
     clear he hin ST
     generalize str t.on = on at *
     go_wp2_with fail
     refine CT.out.mono ?_; rintro e w3 ⟨rfl, b3⟩
     have I3 := Lib.hid (I2.out.on b3.out)
     clear CT y5 NE
     go_wp2
     go_roundw
     case rel => exact ⟨k + 1, q, L, cl, by omega, by omega, rfl, by go_num, by rw [NX.out, E.out]; exact HQ, by rw [NX.out, E.out]; exact I3⟩
     case measure => simp [intOf]; omega
    ·have E : Hid (l2 = l ++ [t.on]) := Lib.hid (by rw [ST.out, if_pos ⟨he, hin⟩])
     rw [decide_eq_false hin] at CT
     have SG : Hid (∃ x, x = t.on) := Lib.hid ⟨_, rfl⟩
     clear he hin ST
     obtain ⟨on, hon⟩ : ∃ on, on = str t.on := ⟨_, rfl⟩
     have HO := Lib.hid hon
     rw [← hon] at y5 CT NE
     clear hon
     go_wp2_with fail
     refine CT.out.mono ?_; rintro e w3 ⟨rfl, b3⟩
     have I3 := Lib.hid (I2.out.on b3.out)
     have y7 := (b3.out.cell (block_lt y5)).trans y5
     clear CT y5
     have B4 : Hid (Below w3.heap.size w3 (w3.alloc (.cells #[.string on] 9))) := Lib.hid ((Below.refl _ _).alloc (Nat.le_refl _) _)
     have X4 : Hid ((w3.alloc (.cells #[.string on] 9)).heap[w3.heap.size]? = some (.cells #[.string on] 9 (0, 0))) := Lib.hid (heap_alloc_new _ _)
     have I4 := Lib.hid (I3.out.on B4.out)
     have LL : Hid ((l.map sgV).length = q) := Lib.hid (by rw [List.length_map]; exact HQ.out.symm)
     go_wp2_with (at_builtin; refine wp_appK (vs := l.map sgV) (us := [[.string on]]) rfl (.tmp 28) (.tmp 31) rfl Tryz.underlying39 infoS rfl (by decide) (by decide) rfl LL.out.symm I4.out.1 I4.out.2.2.size rfl rfl (by rw [HO.out]; exact sgV_wide [t.on]) (fun j u hu => lit_at X4.out hu) (by rw [LL.out]; show q + 1 ≤ _; omega) ?_; intro L5 c5 w5 o5 g5 q5; have O5 := Lib.hid o5; have G5 := Lib.hid g5; clear o5 g5 q5)
     have I5 : Hid (LfI w L5 c5 l2 w5) := Lib.hid (by
      refine ⟨?_, SHT.out, ?_⟩
      ·have e : l2.map sgV = l.map sgV ++ [[Value.string on]] := by rw [E.out, List.map_append, HO.out]; rfl
       rw [e]; exact O5.out
      ·exact I4.out.2.2.grown G5.out I4.out.2.2.size fun k hk => by
        cases L with
        | none => simp [Value.ownBlock] at hk
        | some x => simp [Value.ownBlock] at hk; rw [← hk]; exact I4.out.1.lt.1)
     have Q5 : Hid ((l.map sgV ++ [[Value.string on]]).length = q + 1) := Lib.hid (by rw [List.length_append, LL.out]; rfl)
     clear y7
     refine ⟨⟨k + 1, q + 1, L5, c5, by omega, by omega, by rw [HQ.out], by go_num, Lib.hid (by rw [NX.out, E.out, List.length_append, ← HQ.out]; rfl), by rw [NX.out]; exact I5⟩, ?_⟩
     simp [intOf]; omega
  ·obtain rfl : k = m := by omega
   have hge : ¬ (k : Int) < (k : Int) := by omega
   have TK : Hid (leftS (d.take k) = leftS d) := Lib.hid (by rw [HM.out, List.take_length])
   have I6 : Hid (LfI w L cl (leftS d) wr) := Lib.hid (by rw [← TK.out]; exact HI.out)
   have Q6 : Hid (q = (leftS d).length) := Lib.hid (by rw [← TK.out]; exact HQ.out)
   have BR : Hid (Below w.heap.size w wr) := Lib.hid I6.out.2.2
   clear HI HQ TK
   go_wp2_with fail
   have FW : Hid ((leftS d).length ≤ 1100) := Lib.hid (by rw [← Q6.out]; omega)
   go_loopw [5, 36] (fun lv iv wr => ∃ (j q : Nat) (L : Option Addr) (cl : Nat) (l : List Tx.T), j ≤ n ∧ lv = .slice L q cl ∧ iv = .int .i64 j ∧ Hid (q = l.length) ∧ Hid (l.length ≤ 1100) ∧ Hid (LfI w L cl l wr) ∧ Hid (v = sgB l (sg.drop j))) (fun _ iv _ => n - (intOf iv).toNat)
   case atStart => exact ⟨0, q, L, cl, leftS d, Nat.zero_le _, rfl, rfl, Q6, FW, I6, V⟩
   case round =>
    obtain ⟨j, q, L, cl, l, hj, rfl, rfl, HQ, HW, HI, HV⟩ := hrel
    by_cases hjn : j < n
    ·have hjn' : (j : Int) < (n : Int) := by omega
     have HJ : Hid (j < sg.length) := Lib.hid (by rw [← HN.out]; exact hjn)
     obtain ⟨b, off, sx, rfl, -, hsx, p0⟩ := SigsO.at_ (RowO.keep HS.out HI.out.2.2.size fun b _ hl => HI.out.2.2.block b hl : SigsO wr O A sg) HJ.out
     have DR : Hid (sg.drop j = sx :: sg.drop (j + 1)) := Lib.hid (by
      obtain ⟨h1, h2⟩ := List.getElem?_eq_some_iff.1 hsx.out
      rw [List.drop_eq_getElem_cons h1, h2])
     have IX := Lib.hid (index_any l sx L q cl wr.heap.size HQ.out HW.out wr (HI.out.sigs.strs HI.out.2.1))
     have V3 : Hid (v = if sx ∈ l then sgB (l.erase sx) (sg.drop (j + 1)) else false) := Lib.hid (by rw [HV.out, DR.out]; rfl)
     clear hsx HV DR
     by_cases hin : sx ∈ l
     ·have V4 : Hid (v = sgB (l.erase sx) (sg.drop (j + 1))) := Lib.hid (by rw [V3.out, if_pos hin])
      have IE : Df.idxI l sx = ((l.idxOf sx : Nat) : Int) := by unfold Df.idxI; rw [if_pos hin]
      have IL : l.idxOf sx < l.length := List.idxOf_lt_length_iff.2 hin
      have ER : Hid (l.erase sx = l.take (l.idxOf sx) ++ l.drop (l.idxOf sx + 1)) := Lib.hid (by
       rw [List.erase_eq_eraseIdx_of_idxOf rfl, List.eraseIdx_eq_take_drop_succ])
      obtain ⟨g, hL, hg0, hg1⟩ := HI.out.1.shape (by rw [List.length_map]; omega)
      have own := HI.out.1
      rw [hL] at own
      rw [IE, hL] at IX
      have GG : Hid (w.heap.size ≤ g) := Lib.hid hg0
      have SH : Hid (∀ x ∈ l.erase sx, x.length ≤ 1100) := Lib.hid fun x hx => HI.out.2.1 x (List.mem_of_mem_erase hx)
      have LE : Hid ((l.erase sx).length = q - 1) := Lib.hid (by rw [List.length_erase_of_mem hin, HQ.out])
      have BI : Hid (Below w.heap.size w wr) := Lib.hid HI.out.2.2
      generalize l.idxOf sx = i at *
      have hiq : i < q := by rw [HQ.out]; exact IL
      have CD := Lib.hid (delS_any own q (by rw [List.length_map]; exact HQ.out) i hiq)
      rw [hL]
      clear V3 IE IL hin own hg0 hg1 HI
      have h0i : ¬ (i : Int) < 0 := by omega
      have hiw : IntKind.i64.wrap ((i : Int) + 1) = (i : Int) + 1 := IntWalk.i64_in _ (by have := HW.out; have := HQ.out; omega)
      generalize str sx = xs at *
      go_wp2_with fail
      refine IX.out.mono ?_; rintro e w2 ⟨rfl, rfl⟩
      go_wp2_with fail
      refine CD.out.mono ?_; rintro e w3 ⟨rfl, o3, y3⟩
      have I3 : Hid (LfI w (some ⟨g, 0, none⟩) cl (l.erase sx) w3) := Lib.hid (by
       refine ⟨?_, SH.out, BI.out.trans (y3.out.below BI.out.size fun k hk => by rw [hk]; exact GG.out)⟩
       have := o3.out
       rw [ER.out, List.map_append, List.map_take, List.map_drop]
       exact this)
      clear IX CD p0
      go_wp2
      go_roundw
      case rel => exact ⟨j + 1, q - 1, some ⟨g, 0, none⟩, cl, l.erase sx, by omega, rfl, by go_num, Lib.hid LE.out.symm, Lib.hid (by have := LE.out; have := HW.out; have := HQ.out; omega), I3, V4⟩
      case measure => simp [intOf]; omega
     ·have R : Hid (v = false) := Lib.hid (by rw [V3.out, if_neg hin])
      have IE : Df.idxI l sx = -1 := by unfold Df.idxI; rw [if_neg hin]
      rw [IE] at IX
      have BI : Hid (Below w.heap.size w wr) := Lib.hid HI.out.2.2
      clear V3 IE hin
      generalize str sx = xs at *
      go_wp2_with fail
      refine IX.out.mono ?_; rintro e w2 ⟨rfl, rfl⟩
      clear IX
      go_wp2
      go_ret
      exact ⟨ret_bool R.out.symm, BI⟩
    ·obtain rfl : j = n := by omega
     have hge2 : ¬ (j : Int) < (j : Int) := by omega
     have R : Hid (v = true) := Lib.hid (by rw [HV.out, HN.out, List.drop_length]; cases l <;> rfl)
     have BI : Hid (Below w.heap.size w wr) := Lib.hid HI.out.2.2
     go_wp2
     go_ret
     exact ⟨ret_bool R.out.symm, BI⟩
end Go.Proofs.YtkbekojnmdgdgaaGreatDoor
