/-
  Part 26 of the texts behind the law: VFlCopies, VFlKeyPut, VFlCloneF, VFlEqs.
-/
import Derived.Test.YtkbekojnmdgdgaaGreatDoorVk20
import Derived.Test.YtkbekojnmdgdgaaGreatDoorVk11
import Derived.Test.YtkbekojnmdgdgaaGreatDoorVk24
import Derived.Laws.MakeOwn
import Derived.Test.YtkbekojnmdgdgaaGreatDoorVk25
import Derived.Test.YtkbekojnmdgdgaaGreatDoorVk9
import Derived.Test.YtkbekojnmdgdgaaGreatDoorVk2
import Derived.Test.YtkbekojnmdgdgaaGreatDoorVk23
import Derived.BigQuiet
import Derived.Deep.QuietTactic
/- FlCopies -/
namespace Go.Proofs.YtkbekojnmdgdgaaGreatDoor
open Go.RowKit
set_option maxRecDepth 20000
theorem made_flatK (z : Array Value) (k n : Nat) (hk : z.size = k) (h0 : 0 < k) (hw : Wide k (List.replicate n z.toList)) : (madeCells z (n * k)).toList = (List.replicate n z.toList).flatten := by
  have hl := hw.len
  rw [List.length_replicate] at hl
  refine List.ext_getElem (by rw [Array.length_toList, size_madeCells, hl]) fun j h1 h2 => ?_
  have hj : j < n * k := by rw [hl] at h2; exact h2
  have hi : j / k < n := by rw [Nat.div_lt_iff_lt_mul h0]; exact hj
  have hg := hw.get (j / k) (j % k) (by rw [List.length_replicate]; exact hi) (Nat.mod_lt _ h0)
  rw [show j / k * k + j % k = j by rw [Nat.mul_comm]; exact Nat.div_add_mod j k, getD_at (by rw [List.length_replicate]; exact hi), List.getElem_replicate, List.getElem?_eq_getElem h2] at hg
  have e : (madeCells z (n * k)).toList[j] = z[j % z.size]! := by simp [madeCells]
  have hm : j % z.size < z.size := Nat.mod_lt _ (by omega)
  rw [e, getElem!_pos z _ hm]
  subst hk
  have h3 : z.toList[j % z.size]? = some z[j % z.size] := by rw [List.getElem?_eq_getElem (by simpa using hm)]; simp
  rw [h3] at hg
  exact (Option.some.inj hg).symm
theorem own_made (W : World) (T : TypeId) (z : Array Value) (n k : Nat) (hk : z.size = k) (h0 : 0 < k) (hz : ∀ u ∈ z.toList, u.oneCell' = true) (hn : n ≤ 1000000) : OwnK (W.alloc (.cells (madeCells z (n * k)) T)) W.heap.size T k (some ⟨W.heap.size, 0, none⟩) n (List.replicate n z.toList) := by
  have hw : Wide k (List.replicate n z.toList) := fun v hv => by
    rw [List.eq_of_mem_replicate hv]
    exact ⟨by rw [Array.length_toList]; exact hk, hz⟩
  have := OwnK.lit (w := W) (T := T) (List.replicate n z.toList) hw (by rw [List.length_replicate]; omega) (madeCells z (n * k)) (made_flatK z k n hk h0 hw)
  rw [List.length_replicate] at this
  exact this
def rwV (rs : List Rn.R) (f : Nat → At3) : List (List Value) := (List.range rs.length).map fun i => rnV (f i) (rs.getD i Rn.r0)
def cpV (rs : List Rn.R) (f : Nat → At3) (k : Nat) : List (List Value) := (List.range rs.length).map fun i => if i < k then rnV (f i) (rs.getD i Rn.r0) else rnV at0 Rn.r0
theorem cpV_len (rs : List Rn.R) (f : Nat → At3) (k : Nat) : (cpV rs f k).length = rs.length := by simp [cpV]
theorem cpV_zero (rs : List Rn.R) (f : Nat → At3) : cpV rs f 0 = List.replicate rs.length (rnV at0 Rn.r0) := by
  refine List.ext_getElem (by simp [cpV]) fun i h1 h2 => ?_
  simp [cpV]
theorem cpV_all (rs : List Rn.R) (f : Nat → At3) : cpV rs f rs.length = rwV rs f := by
  refine List.ext_getElem (by simp [cpV, rwV]) fun i h1 h2 => ?_
  have : i < rs.length := by simpa [cpV] using h1
  simp [cpV, rwV, this]
theorem cpV_set (rs : List Rn.R) (f : Nat → At3) {k : Nat} (hk : k < rs.length) (q : At3) : (cpV rs f k).set k (rnV q (rs.getD k Rn.r0)) = cpV rs (fun i => if i = k then q else f i) (k + 1) := by
  refine List.ext_getElem (by simp [cpV]) fun i h1 h2 => ?_
  rw [List.getElem_set]
  simp only [cpV, List.getElem_map, List.getElem_range]
  by_cases e : k = i
  · subst e
    rw [if_pos rfl, if_pos (by omega), if_pos rfl]
  · have e2 : i ≠ k := fun h => e h.symm
    by_cases h : i < k
    · simp [h, e, e2, show i < k + 1 by omega]
    · simp [h, e, show ¬ i < k + 1 by omega]
theorem rsV_rw (l : List (Rn.R × ByteArray)) (f : Nat → At3) : rsV l f = rwV (l.map (·.1)) f := by
  refine List.ext_getElem (by simp [rsV, rwV]) fun i h1 h2 => ?_
  have hi : i < l.length := by rw [rsV_len] at h1; exact h1
  rw [rsV_get, rAt_get hi]
  simp [rwV, hi]
def CopsG (w : World) (rs : List Rn.R) (n : Nat) (e : Ending) (w' : World) : Prop :=
  ∃ Y f, e = .returned (.slice (some ⟨Y, 0, none⟩) n n) ∧ Hid (OwnK w' w.heap.size 41 4 (some ⟨Y, 0, none⟩) n (rwV rs f)) ∧ Hid (∀ i, i < rs.length → RunO w' (fun b => w.heap.size ≤ b ∧ b ≠ Y) (f i) (rs.getD i Rn.r0)) ∧ Hid (Below w.heap.size w w')
def zeroRn : Array Value := #[.slice none 0 0, .int .i64 0, .slice none 0 0, .slice none 0 0]
theorem made_Rn (n : Nat) (hn : n ≤ 1000000) (W : World) : (Instr.makeSlice 54 (.int .i64 (n : Int)) (.int .i64 (n : Int))).run Tryz.prog W = .ok (.slice (some ⟨W.heap.size, 0, none⟩) n n) (W.alloc (.cells (madeCells zeroRn (n * 4)) 41)) := by
  obtain ⟨i, hi, hz, hs, hy⟩ := info_parts infoRn
  have hr := run_make (P := Tryz.prog) W 54 41 i _ Tryz.underlying54 hi hz .i64 .i64 n n (by omega) (Int.le_refl _) (by rw [hy]; omega) (by omega)
  rw [hs, Int.toNat_natCast] at hr
  exact hr
theorem OwnK.four {w : World} {base b cap : Nat} {T : TypeId} {vs : List (List Value)} (h : OwnK w base T 4 (some ⟨b, 0, none⟩) cap vs) {k : Nat} (hk : k < vs.length) :
    ∃ u0 u1 u2 u3, w.cell? ⟨b, k * 4, none⟩ = some u0 ∧ w.cell? ⟨b, k * 4 + 1, none⟩ = some u1 ∧ w.cell? ⟨b, k * 4 + 2, none⟩ = some u2 ∧ w.cell? ⟨b, k * 4 + 3, none⟩ = some u3 := by
  have hl := (h.2 (vs.getD k []) (by rw [getD_at hk]; exact List.getElem_mem _)).1
  obtain ⟨x0, x1, x2, x3, e⟩ : ∃ x0 x1 x2 x3, vs.getD k [] = [x0, x1, x2, x3] := by
    match vs.getD k [], hl with
    | [x0, x1, x2, x3], _ => exact ⟨x0, x1, x2, x3, rfl⟩
  have key : ∀ (j : Nat) (u : Value), j < 4 → [x0, x1, x2, x3][j]? = some u → w.cell? ⟨b, k * 4 + j, none⟩ = some u := fun j u hj hu => h.cell hk hj (by rw [e]; exact hu)
  exact ⟨x0, x1, x2, x3, key 0 _ (by decide) rfl, key 1 _ (by decide) rfl, key 2 _ (by decide) rfl, key 3 _ (by decide) rfl⟩
def CpI (w : World) (rs : List Rn.R) (n k : Nat) (wr : World) : Prop := ∃ f, OwnK wr w.heap.size 41 4 (some ⟨w.heap.size, 0, none⟩) n (cpV rs f k) ∧ (∀ i, i < k → RunO wr (fun b => w.heap.size < b) (f i) (rs.getD i Rn.r0)) ∧ Below w.heap.size w wr
set_option maxHeartbeats 4000000 in
theorem copiesOf_any (A : Option Addr) (c : Nat) (rs : List Rn.R) (hB : ∀ r ∈ rs, Bd r) (h9 : rs.length ≤ 1000) (n : Nat) (hn : n = rs.length) (w : World) (O : Nat → Prop) (h : RunsO w O A rs) :
    Calls Tryz.prog 37 #[.slice A n c] w (CopsG w rs n) := by
  have H := Lib.hid h
  have HB := Lib.hid hB
  have HN := Lib.hid hn
  have hn9 : n ≤ 1000 := by rw [hn]; exact h9
  have ME := made_Rn n (by omega)
  obtain ⟨w1, hw1⟩ : ∃ w1, w1 = w.alloc (.cells (madeCells zeroRn (n * 4)) 41) := ⟨_, rfl⟩
  have I0 : Hid (CpI w rs n 0 w1) := Lib.hid ⟨fun _ => at0, by
    rw [cpV_zero, ← hn, hw1]
    exact own_made w _ zeroRn n 4 rfl (by decide) (fun u hu => by simp [zeroRn] at hu; rcases hu with rfl | rfl | rfl | rfl <;> rfl) (by omega), fun i hi => by omega, by rw [hw1]; exact (Below.refl _ _).alloc (Nat.le_refl _) _⟩
  clear h hB h9 hn
  go_enter Tryz.func37, Tryz.ntmps37
  go_upto_region 2 with (fail)
  rw [← hw1]
  clear hw1 ME
  go_wp2_with fail
  go_loopw [11] (fun iv wr => ∃ k : Nat, k ≤ n ∧ iv = .int .i64 k ∧ Hid (CpI w rs n k wr)) (fun iv _ => n - (intOf iv).toNat)
  case atStart => exact ⟨0, Nat.zero_le _, rfl, I0⟩
  case round =>
    obtain ⟨k, hk, rfl, HI⟩ := hrel
    by_cases hlt : k < n
    · have hlt' : (k : Int) < (n : Int) := by omega
      have HK : Hid (k < rs.length) := Lib.hid (by rw [← HN.out]; exact hlt)
      obtain ⟨f, own, inn, bel⟩ := HI.out
      have OW := Lib.hid own
      have IN := Lib.hid inn
      have BW := Lib.hid bel
      obtain ⟨b, off, hA, ho, hb, hc⟩ := H.out (by have := HK.out; omega)
      obtain ⟨p, e0, e1, e2, e3, hr, hst⟩ := hc k HK.out
      have d0 : wr.cell? ⟨b, off + k * 4, none⟩ = some (.slice p.A (rs.getD k Rn.r0).d.length p.ca) := (bel.cell (p := ⟨b, off + k * 4, none⟩) hb).trans e0
      have d1 : wr.cell? ⟨b, off + k * 4 + 1, none⟩ = some (.int .i64 (rs.getD k Rn.r0).st) := (bel.cell (p := ⟨b, off + k * 4 + 1, none⟩) hb).trans e1
      have d2 : wr.cell? ⟨b, off + k * 4 + 2, none⟩ = some (.slice p.T (rs.getD k Rn.r0).ts.length p.ct) := (bel.cell (p := ⟨b, off + k * 4 + 2, none⟩) hb).trans e2
      have d3 : wr.cell? ⟨b, off + k * 4 + 3, none⟩ = some (.slice p.S (rs.getD k Rn.r0).sg.length p.cs) := (bel.cell (p := ⟨b, off + k * 4 + 3, none⟩) hb).trans e3
      have CU := Lib.hid (fun W (hW : Below w.heap.size w W) => copyOf_p p (rs.getD k Rn.r0) (HB.out _ (by rw [getD_at HK.out]; exact List.getElem_mem _)) W O (hr.on hW))
      have CS := Lib.hid (fun q => cpV_set rs f HK.out q)
      subst hA
      clear own inn bel hc e0 e1 e2 e3 hr hst ho hb HI
      unfold rv at CU
      obtain ⟨r, hr⟩ : ∃ r, r = rs.getD k Rn.r0 := ⟨_, rfl⟩
      have RR := Lib.hid hr
      rw [← hr] at d0 d1 d2 d3 CU CS
      clear hr
      obtain ⟨an, han⟩ : ∃ z, z = r.d.length := ⟨_, rfl⟩
      obtain ⟨st, hst⟩ : ∃ z, z = r.st := ⟨_, rfl⟩
      obtain ⟨tn, htn⟩ : ∃ z, z = r.ts.length := ⟨_, rfl⟩
      obtain ⟨sn, hsn⟩ : ∃ z, z = r.sg.length := ⟨_, rfl⟩
      have RL : Hid (r.d.length = an ∧ r.st = st ∧ r.ts.length = tn ∧ r.sg.length = sn) := Lib.hid ⟨han.symm, hst.symm, htn.symm, hsn.symm⟩
      rw [← han] at d0 CU
      rw [← hst] at d1 CU
      rw [← htn] at d2 CU
      rw [← hsn] at d3 CU
      clear han hst htn hsn
      obtain ⟨w2, hw2⟩ : ∃ w2, w2 = wr.alloc (.cells #[.slice p.A an p.ca, .int .i64 st, .slice p.T tn p.ct, .slice p.S sn p.cs] 41) := ⟨_, rfl⟩
      have B2 : Hid (Below wr.heap.size wr w2) := Lib.hid (by rw [hw2]; exact (Below.refl _ _).alloc (Nat.le_refl _) _)
      have X2 : Hid (w2.heap[wr.heap.size]? = some (.cells #[.slice p.A an p.ca, .int .i64 st, .slice p.T tn p.ct, .slice p.S sn p.cs] 41 (0, 0))) := Lib.hid (by rw [hw2]; exact heap_alloc_new _ _)
      have BB : Hid (Below w.heap.size w w2) := Lib.hid (BW.out.trans (B2.out.mono BW.out.size))
      go_upto_region 5 with (fail)
      rw [← hw2]
      obtain ⟨⟨z0, z1, z2, z3⟩, -⟩ := obj4 X2.out
      clear hw2 d0 d1 d2 d3
      go_wp2_with fail
      refine (CU.out w2 BB.out).mono ?_; rintro e w3 ⟨q, rfl, o3, b3⟩
      have O3 : Hid (OwnK w3 w.heap.size 41 4 (some ⟨w.heap.size, 0, none⟩) n (cpV rs f k)) := Lib.hid (OW.out.kept fun i _ hl => (b3.out.block i (Nat.lt_of_lt_of_le hl B2.out.size)).trans (B2.out.block i hl))
      have ff := fun i => O3.out.thawed i
      have g0 := ff (k * 4)
      have g1 := ff (k * 4 + 1)
      have g2 := ff (k * 4 + 2)
      have g3 := ff (k * 4 + 3)
      obtain ⟨u0, u1, u2, u3, c0, c1, c2, c3⟩ := O3.out.four (k := k) (by rw [cpV_len]; exact HK.out)
      have R3 : Hid (RunO w3 (fun b => w2.heap.size ≤ b) q r) := Lib.hid o3.out.runO
      have NX : Hid (CpI w rs n (k + 1) (RS w3 w.heap.size k q an st tn sn)) := Lib.hid (by
        have ks : (cpV rs f k).length = rs.length := cpV_len _ _ _
        have p1 := rnV_put O3.out (k := k) (by rw [ks]; exact HK.out) q r
        rw [CS.out q, RL.out.1, RL.out.2.1, RL.out.2.2.1, RL.out.2.2.2] at p1
        have sz := RS.size_ w3 w.heap.size k q an st tn sn
        have yl : w.heap.size < wr.heap.size := lt_of_block (OW.out.block_).choose_spec
        have s2 := B2.out.size
        have s3 := b3.out.size
        refine ⟨_, p1, fun i hi => ?_, ?_⟩
        · by_cases e : i = k
          · subst e
            rw [if_pos rfl, ← RR.out]
            exact (R3.out.keep (Nat.le_of_eq sz.symm) fun b hb _ => RS.else_ _ _ _ _ _ _ _ _ (by omega)).imp fun b _ hb => by omega
          · rw [if_neg e]
            exact (IN.out i (by omega)).keep (by omega) fun b hb hl => (RS.else_ _ _ _ _ _ _ _ _ (by omega)).trans ((b3.out.block b (by omega)).trans (B2.out.block b hl))
        · exact ⟨by show w3.os = _; exact b3.out.os.trans BB.out.os, by show w3.tape = _; exact b3.out.tape.trans BB.out.tape, by show w3.output = _; exact b3.out.output.trans BB.out.output, by rw [sz]; have := BB.out.size; omega, fun b hb => (RS.else_ _ _ _ _ _ _ _ _ (by omega)).trans ((b3.out.block b (by have := BB.out.size; omega)).trans (BB.out.block b hb))⟩)
      clear ff z0 z1 z2 z3
      go_wp2
      rw [RS.lit]
      clear g0 g1 g2 g3 c0 c1 c2 c3
      go_roundw
      case rel => exact ⟨k + 1, by omega, by go_num, NX⟩
      case measure => simp [intOf]; omega
    · obtain rfl : k = n := by omega
      have hge : ¬ (k : Int) < (k : Int) := by omega
      go_wp2
      go_ret
      obtain ⟨f, own, inn, bel⟩ := HI.out
      rw [HN.out, cpV_all, ← HN.out] at own
      exact ⟨w.heap.size, f, rfl, Lib.hid own, Lib.hid fun i hi => (inn i (by rw [HN.out]; exact hi)).imp fun b _ hb => ⟨by omega, by omega⟩, Lib.hid bel⟩
end Go.Proofs.YtkbekojnmdgdgaaGreatDoor
/- FlKeyPut -/
namespace Go.Proofs.YtkbekojnmdgdgaaGreatDoor
open Go.RowKit Go.Maps
set_option maxRecDepth 20000
theorem OwnK.srcK {w : World} {base k cap : Nat} {T : TypeId} {A : Option Addr} {vs : List (List Value)} (h : OwnK w base T k A cap vs) (hk : 0 < k) : Src w A vs :=
  src_of hk h.2 fun hn => by
    obtain ⟨b, rfl, _, hb⟩ := h.shape hn
    refine ⟨b, 0, rfl, hb, fun i hi j hj => ?_⟩
    have hl : j < (vs.getD i []).length := by
      rw [getD_at hi, (h.2 _ (List.getElem_mem hi)).1]
      exact hj
    rw [Nat.zero_add]
    exact (h.cell hi hj (List.getElem?_eq_getElem hl)).trans (List.getElem?_eq_getElem hl).symm
structure Sound (s : Fw.S) : Prop where
  bd : ∀ p ∈ s.runs, Bd p.1
  st : ∀ p ∈ s.runs, inI p.1.st
  ki : Ky.Inv (Fw.ks s)
  c : inI s.clock
  nd : ∀ p ∈ s.defs, p.1.size ≤ 16
  no : ∀ p ∈ s.runs, p.2.size ≤ 16
theorem FPM.runsO {w : World} {g : Nat} {a : FAt} {s : Fw.S} (h : FPM w g a s) (hS : ∀ p ∈ s.runs, inI p.1.st) : RunsO w (fun i => mine g a i ∨ a.Q i) a.R (s.runs.map (·.1)) := fun hn => by
  rw [List.length_map] at hn
  obtain ⟨b, hA, -, hb⟩ := h.runs.shape (by rw [rsV_len]; exact hn)
  have hrow := h.runs
  rw [hA] at hrow
  refine ⟨b, 0, hA, .inl (.inr (.inr (.inl ⟨_, hA, rfl⟩))), hb, fun i hi => ?_⟩
  rw [List.length_map] at hi
  obtain ⟨y0, y1, y2, y3⟩ := rsV_cells hrow hi
  have e : (s.runs.map (·.1)).getD i Rn.r0 = rAt s.runs i := by
    rw [rAt_get hi, getD_at (by rw [List.length_map]; exact hi), List.getElem_map]
  rw [e]
  refine ⟨a.f i, ?_, ?_, ?_, ?_, (h.inner i hi).imp fun _ _ h => .inr h, by rw [rAt_get hi]; exact hS _ (List.getElem_mem hi)⟩
  · show w.cell? ⟨b, 0 + i * 4 + 0, none⟩ = _
    rw [Nat.zero_add]; exact y0
  · show w.cell? ⟨b, 0 + i * 4 + 1, none⟩ = _
    rw [Nat.zero_add]; exact y1
  · show w.cell? ⟨b, 0 + i * 4 + 2, none⟩ = _
    rw [Nat.zero_add]; exact y2
  · show w.cell? ⟨b, 0 + i * 4 + 3, none⟩ = _
    rw [Nat.zero_add]; exact y3
theorem Ky.putS_new {l : List Ky.T} {t : Ky.T} (h : ∀ a ∈ l, Ky.same a t.name t.key = false) (hl : l.length < 128) : Ky.putS ⟨128, l⟩ t.name t.key t.id = ⟨128, l ++ [t]⟩ := by
  have hf : Ky.findV ⟨128, l⟩ t.name t.key = none := Ky.find_none.2 h
  unfold Ky.putS
  rw [hf]
  show (⟨128, Ky.pushL ⟨128, l⟩ t⟩ : Ky.S) = _
  unfold Ky.pushL
  rw [if_neg (by show ¬ ((l.length : Int) = 128); omega)]
theorem Ky.Inv.take {l : List Ky.T} (h : Ky.Inv ⟨128, l⟩) (k : Nat) : Ky.Inv ⟨128, l.take k⟩ :=
  ⟨by show (1 : Int) ≤ 128; decide, by show (128 : Int) ≤ 128; decide, by have := h.few; show ((l.take k).length : Int) ≤ 128; rw [List.length_take]; have h2 : (l.length : Int) ≤ 128 := this; omega, h.once.sublist (List.take_sublist _ _)⟩
theorem Ky.Inv.fresh {l : List Ky.T} (h : Ky.Inv ⟨128, l⟩) {k : Nat} (hk : k < l.length) : ∀ a ∈ l.take k, Ky.same a l[k].name l[k].key = false := fun a ha => by
  obtain ⟨i, hi, rfl⟩ := List.getElem_of_mem ha
  rw [List.length_take] at hi
  rw [List.getElem_take]
  have hik : i < k := by omega
  have h1 : Ky.same l[k] l[i].name l[i].key = false := List.pairwise_iff_getElem.1 h.once i k (by show i < l.length; omega) hk hik
  cases hs : Ky.same l[i] l[k].name l[k].key with
  | false => rfl
  | true =>
    obtain ⟨e1, e2⟩ := Ky.same_iff.1 hs
    rw [Ky.same_iff.2 ⟨e1.symm, e2.symm⟩] at h1
    cases h1
theorem PK.oks {w : World} {g : Nat} {O : Nat → Prop} {s : Ky.S} (h : PK w g O s) : ∀ t ∈ s.l, Ky.ok t.name t.key t.id := fun t ht => by
  obtain ⟨m, A, c, p, ho⟩ := h
  obtain ⟨h1, h2, h3⟩ := p.map.okK2 t ht
  exact ⟨⟨h1, h2⟩, h3⟩
end Go.Proofs.YtkbekojnmdgdgaaGreatDoor
/- FlCloneF -/
namespace Go.Proofs.YtkbekojnmdgdgaaGreatDoor
open Go.RowKit Go.Maps
set_option maxRecDepth 20000
def ClI (w : World) (gc : Nat) (s : Fw.S) (A : Option Addr) (k : Nat) (wr : World) : Prop :=
  ∃ a, FPM wr gc a { s with keys := s.keys.take k } ∧ (∀ i, mine gc a i ∨ a.Q i → w.heap.size ≤ i) ∧ Below w.heap.size w wr ∧ Ents wr (fun b => ¬ mine gc a b) A s.keys
theorem rwO {W : World} {Y : Nat} {rs : List Rn.R} {f : Nat → At3} {O : Nat → Prop} (h : ∀ i, i < rs.length → RunO W O (f i) (rs.getD i Rn.r0)) {l : List (Rn.R × ByteArray)} (hl : rs = l.map (·.1)) : ∀ i, i < l.length → RunO W O (f i) (rAt l i) := fun i hi => by
  subst hl
  have := h i (by rw [List.length_map]; exact hi)
  rw [getD_at (by rw [List.length_map]; exact hi), List.getElem_map] at this
  rw [rAt_get hi]
  exact this
set_option maxHeartbeats 4000000 in
theorem clone_any {w : World} {g : Nat} {a : FAt} {s : Fw.S} (h : FPM w g a s) (hS : Sound s) :
    Calls Tryz.prog 16 #[.pointer (some ⟨g, 0, none⟩)] w fun e w' => ∃ g2 M2 R2, e = .returned (.pointer (some ⟨g2, 0, none⟩)) ∧ FP w' g2 M2 R2 s ∧ (∀ k, R2 k → w.heap.size ≤ k) ∧ Below w.heap.size w w' := by
  have H := Lib.hid h
  have SS := Lib.hid hS
  have CN := Lib.hid (flowNew_any w)
  obtain ⟨m, hm⟩ : ∃ m, m = s.runs.length := ⟨_, rfl⟩
  obtain ⟨n, hn⟩ : ∃ n, n = s.defs.length := ⟨_, rfl⟩
  obtain ⟨c, hc⟩ : ∃ c, c = s.clock := ⟨_, rfl⟩
  have HM := Lib.hid hm
  have HN := Lib.hid hn
  have HC := Lib.hid hc
  have hm9 : m ≤ 64 := by rw [hm]; exact h.rm
  have hn9 : n ≤ 16 := by rw [hn]; exact h.dm
  have CD : Hid (∀ W, Below w.heap.size w W → Calls Tryz.prog 36 #[.slice a.D n a.cd] W (RowK W 81 2 n (s.defs.map dfV))) :=
    Lib.hid fun W hW => cloneDf a.D _ (dfV_wide _) (by rw [List.length_map]; have := H.out.dm; omega) n (by rw [List.length_map]; exact hn) a.cd W (((H.out.on hW).defs).srcK (by decide))
  have CO : Hid (∀ W, Below w.heap.size w W → Calls Tryz.prog 38 #[.slice a.F m a.cf] W (RowK W 9 1 m (s.runs.map ofV))) :=
    Lib.hid fun W hW => cloneS a.F _ (ofV_wide _) (by rw [List.length_map]; have := H.out.rm; omega) m (by rw [List.length_map]; exact hm) a.cf W (((H.out.on hW).of).srcK (by decide))
  have CR : Hid (∀ W, Below w.heap.size w W → Calls Tryz.prog 37 #[.slice a.R m a.cr] W (CopsG W (s.runs.map (·.1)) m)) :=
    Lib.hid fun W hW => copiesOf_any a.R a.cr _ (fun r hr => by obtain ⟨p, hp, rfl⟩ := List.mem_map.1 hr; exact SS.out.bd p hp) (by rw [List.length_map]; have := H.out.rm; omega) m (by rw [List.length_map]; exact hm) W _ ((H.out.on hW).runsO SS.out.st)
  clear h hS hm hn hc
  go_enter Tryz.func16, Tryz.ntmps16
  go_wp2_with fail
  refine CN.out.mono ?_; rintro e w1 ⟨gc, M, R, rfl, ⟨ac, hp, hM, hR⟩, hr, hb⟩
  have P1 := Lib.hid hp
  have R1 : Hid (∀ i, mine gc ac i ∨ ac.Q i → w.heap.size ≤ i) := Lib.hid fun i hi => hr i ((hR i).2 hi)
  have B1 := Lib.hid hb
  clear hp hM hR hr hb CN
  have S1 : Hid (∀ W, Below w.heap.size w W → W.cell? ⟨g, 0, none⟩ = some (.int .i64 c) ∧ W.cell? ⟨g, 1, none⟩ = some (.slice a.D n a.cd) ∧ W.cell? ⟨g, 2, none⟩ = some (.slice a.R m a.cr) ∧ W.cell? ⟨g, 3, none⟩ = some (.slice a.F m a.cf) ∧ W.cell? ⟨g, 4, none⟩ = some (.pointer (some ⟨a.k, 0, none⟩))) := Lib.hid fun W hW => by
    have := (H.out.on hW).cells.1
    rw [← HM.out, ← HN.out, ← HC.out] at this
    exact this
  have GW : Hid (g < w.heap.size ∧ w.heap.size ≤ gc ∧ gc < w1.heap.size) := Lib.hid ⟨lt_of_block H.out.obj, R1.out gc (.inl (.inl rfl)), lt_of_block P1.out.obj⟩
  have hne : g ≠ gc := by have := GW.out; omega
  obtain ⟨c0, c1, c2, c3, c4⟩ := S1.out w1 B1.out
  obtain ⟨⟨y0, y1, y2, y3, y4⟩, f0, f1, f2, f3, f4⟩ := P1.out.cells
  have OB : Hid (∀ W, Below w1.heap.size w1 W → W.heap[gc]? = w1.heap[gc]?) := Lib.hid fun W hW => hW.block gc GW.out.2.2
  go_upto_region 2 with (fail)
  have SA : Hid (∀ W, Below w.heap.size w W → W.cell? ⟨g, 0, none⟩ = some (.int .i64 c) ∧ W.cell? ⟨g, 1, none⟩ = some (.slice a.D n a.cd) ∧ W.cell? ⟨g, 2, none⟩ = some (.slice a.R m a.cr) ∧ W.cell? ⟨g, 3, none⟩ = some (.slice a.F m a.cf)) := Lib.hid fun W hW => ⟨(S1.out W hW).1, (S1.out W hW).2.1, (S1.out W hW).2.2.1, (S1.out W hW).2.2.2.1⟩
  have BD1 : Hid (Below w.heap.size w w1.drew) := Lib.hid B1.out.drew
  clear c0 c1 c2 c3 c4 y0 y1 y2 y3 y4 f0 f1 f2 f3 f4
  refine wp_region_held_drew (S := (fun w' => w'.cell? ⟨g, 0, none⟩ = some (.int .i64 c) ∧ w'.cell? ⟨g, 1, none⟩ = some (.slice a.D n a.cd) ∧ w'.cell? ⟨g, 2, none⟩ = some (.slice a.R m a.cr) ∧ w'.cell? ⟨g, 3, none⟩ = some (.slice a.F m a.cf))) (by kernel_rfl) ?hS1001 (fun hHeld => ?_)
  case hS1001 => exact (SA.out _ B1.out.drew)
  refine takH 0 (h := ?_)
  try simp only [Act.put, List.setIfInBounds_toArray, List.set_cons_zero, List.set_cons_succ]
  refine takH 1 (h := ?_)
  try simp only [Act.put, List.setIfInBounds_toArray, List.set_cons_zero, List.set_cons_succ]
  refine takH 2 (h := ?_)
  try simp only [Act.put, List.setIfInBounds_toArray, List.set_cons_zero, List.set_cons_succ]
  refine takH 3 (h := ?_)
  try simp only [Act.put, List.setIfInBounds_toArray, List.set_cons_zero, List.set_cons_succ]
  refine takH 4 (h := ?_)
  try simp only [Act.put, List.setIfInBounds_toArray, List.set_cons_zero, List.set_cons_succ]
  refine takH 5 (h := ?_)
  try simp only [Act.put, List.setIfInBounds_toArray, List.set_cons_zero, List.set_cons_succ]
  refine takH 6 (h := ?_)
  try simp only [Act.put, List.setIfInBounds_toArray, List.set_cons_zero, List.set_cons_succ]
  refine takH 7 (h := ?_)
  try simp only [Act.put, List.setIfInBounds_toArray, List.set_cons_zero, List.set_cons_succ]
  refine takH 8 (h := ?_)
  try simp only [Act.put, List.setIfInBounds_toArray, List.set_cons_zero, List.set_cons_succ]
  refine takH 9 (h := ?_)
  try simp only [Act.put, List.setIfInBounds_toArray, List.set_cons_zero, List.set_cons_succ]
  refine takH 10 (h := ?_)
  try simp only [Act.put, List.setIfInBounds_toArray, List.set_cons_zero, List.set_cons_succ]
  refine takH 11 (h := ?_)
  try simp only [Act.put, List.setIfInBounds_toArray, List.set_cons_zero, List.set_cons_succ]
  refine takH 13 (h := ?_)
  try simp only [Act.put, List.setIfInBounds_toArray, List.set_cons_zero, List.set_cons_succ]
  refine takH 14 (h := ?_)
  try simp only [Act.put, List.setIfInBounds_toArray, List.set_cons_zero, List.set_cons_succ]
  refine takH 15 (h := ?_)
  try simp only [Act.put, List.setIfInBounds_toArray, List.set_cons_zero, List.set_cons_succ]
  refine takH 16 (h := ?_)
  try simp only [Act.put, List.setIfInBounds_toArray, List.set_cons_zero, List.set_cons_succ]
  refine takH 18 (h := ?_)
  try simp only [Act.put, List.setIfInBounds_toArray, List.set_cons_zero, List.set_cons_succ]
  refine takH 19 (h := ?_)
  try simp only [Act.put, List.setIfInBounds_toArray, List.set_cons_zero, List.set_cons_succ]
  refine takH 20 (h := ?_)
  try simp only [Act.put, List.setIfInBounds_toArray, List.set_cons_zero, List.set_cons_succ]
  refine takH 21 (h := ?_)
  try simp only [Act.put, List.setIfInBounds_toArray, List.set_cons_zero, List.set_cons_succ]
  refine wpAnyH_ready (rs := [12]) (by kernel_rfl) (by simp) ?_
  refine AllReadyH.cons (o := ?o1002) ?hi1002 (fun K hK => ?_) AllReadyH.nil
  case hi1002 => (simp only [List.getElem?_toArray, List.getElem?_cons_zero, List.getElem?_cons_succ]; exact rfl)
  (go_simp; go_at_call 36; (with_reducible refine (CD.out _ BD1.out).mono ?_); rintro e w2 ⟨D2, cd2, rfl, o2, b2⟩; have B2 : Hid (Below w.heap.size w w2) := Lib.hid (BD1.out.trans (b2.out.mono BD1.out.size)); try dsimp only)
  refine hK.out _ _ ?_ (fun hHeld => ?_)
  · exact SA.out _ B2.out
  clear hK K
  try simp only [Act.put, List.setIfInBounds_toArray, List.set_cons_zero, List.set_cons_succ]
  refine wpAnyH_ready (rs := [17]) (by kernel_rfl) (by simp) ?_
  refine AllReadyH.cons (o := ?o1003) ?hi1003 (fun K hK => ?_) AllReadyH.nil
  case hi1003 => (simp only [List.getElem?_toArray, List.getElem?_cons_zero, List.getElem?_cons_succ]; exact rfl)
  (go_simp; go_at_call 37; (with_reducible refine (CR.out _ B2.out).mono ?_); rintro e w3 ⟨Y, f3, rfl, o3, i3, b3⟩; have B3 : Hid (Below w.heap.size w w3) := Lib.hid (B2.out.trans (b3.out.mono B2.out.size)); try dsimp only)
  refine hK.out _ _ ?_ (fun hHeld => ?_)
  · exact SA.out _ B3.out
  clear hK K
  try simp only [Act.put, List.setIfInBounds_toArray, List.set_cons_zero, List.set_cons_succ]
  refine wpAnyH_ready (rs := [22]) (by kernel_rfl) (by simp) ?_
  refine AllReadyH.cons (o := ?o1004) ?hi1004 (fun K hK => ?_) AllReadyH.nil
  case hi1004 => (simp only [List.getElem?_toArray, List.getElem?_cons_zero, List.getElem?_cons_succ]; exact rfl)
  (go_simp; go_at_call 38; (with_reducible refine (CO.out _ B3.out).mono ?_); rintro e w4 ⟨F4, cf4, rfl, o4, b4⟩; have B4 : Hid (Below w.heap.size w w4) := Lib.hid (B3.out.trans (b4.out.mono B3.out.size)); try dsimp only)
  refine hK.out _ _ ?_ (fun hHeld => ?_)
  · exact SA.out _ B4.out
  clear hK K
  try simp only [Act.put, List.setIfInBounds_toArray, List.set_cons_zero, List.set_cons_succ]
  have G4 : Hid (w4.heap[gc]? = some (.cells (flC ac Fw.new) 75 (0, 0))) := Lib.hid ((b4.out.block gc (by have := GW.out; have := b2.out.size; have := b3.out.size; have : w1.drew.heap.size = w1.heap.size := rfl; omega)).trans ((b3.out.block gc (by have := GW.out; have := b2.out.size; have : w1.drew.heap.size = w1.heap.size := rfl; omega)).trans ((b2.out.block gc GW.out.2.2).trans P1.out.obj)))
  have KS : Hid (∀ W : World, W.heap[g]? = w4.heap[g]? → W.cell? ⟨g, 0, none⟩ = some (.int .i64 c) ∧ W.cell? ⟨g, 1, none⟩ = some (.slice a.D n a.cd) ∧ W.cell? ⟨g, 2, none⟩ = some (.slice a.R m a.cr) ∧ W.cell? ⟨g, 3, none⟩ = some (.slice a.F m a.cf)) := Lib.hid fun W hW => by
    obtain ⟨q0, q1, q2, q3⟩ := SA.out w4 B4.out
    exact ⟨(World.cell?_of_block (w := w4) hW).trans q0, (World.cell?_of_block (w := w4) hW).trans q1, (World.cell?_of_block (w := w4) hW).trans q2, (World.cell?_of_block (w := w4) hW).trans q3⟩
  have E4 : Hid (w4.heap[g]? = w4.heap[g]?) := Lib.hid rfl
  obtain ⟨⟨y0, y1, y2, y3, y4⟩, e0, e1, e2, e3, e4⟩ := obF G4.out
  clear y1 e1 y2 e2 y3 e3 y4 e4
  refine wpAnyH_ready (rs := [23]) (by kernel_rfl) (by simp) ?_
  refine AllReadyH.cons (o := ?o1005) ?hi1005 (fun K hK => ?_) AllReadyH.nil
  case hi1005 => (simp only [List.getElem?_toArray, List.getElem?_cons_zero, List.getElem?_cons_succ]; exact rfl)
  go_simp
  refine hK.out _ _ ?_ (fun hHeld => ?_)
  · exact KS.out _ E4.out
  clear hK K
  try simp only [Act.put, List.setIfInBounds_toArray, List.set_cons_zero, List.set_cons_succ]
  refine wpAnyH_ready (rs := [24]) (by kernel_rfl) (by simp) ?_
  refine AllReadyH.cons (o := ?o1006) ?hi1006 (fun K hK => ?_) AllReadyH.nil
  case hi1006 => (simp only [List.getElem?_toArray, List.getElem?_cons_zero, List.getElem?_cons_succ]; exact rfl)
  go_simp
  refine hK.out _ _ ?_ (fun hHeld => ?_)
  · exact KS.out _ E4.out
  clear hK K
  try simp only [Act.put, List.setIfInBounds_toArray, List.set_cons_zero, List.set_cons_succ]
  refine wpAnyH_ready (rs := [25]) (by kernel_rfl) (by simp) ?_
  refine AllReadyH.cons (o := ?o1007) ?hi1007 (fun K hK => ?_) AllReadyH.nil
  case hi1007 => (simp only [List.getElem?_toArray, List.getElem?_cons_zero, List.getElem?_cons_succ]; exact rfl)
  go_simp
  refine hK.out _ _ ?_ (fun hHeld => ?_)
  · exact KS.out _ ((Below.heap_setCell _ _ _ _ hne).trans E4.out)
  clear hK K
  try simp only [Act.put, List.setIfInBounds_toArray, List.set_cons_zero, List.set_cons_succ]
  obtain ⟨w5, hw5⟩ : ∃ w5, w5 = w4.setCell ⟨gc, 0, none⟩ (.int .i64 c) := ⟨_, rfl⟩
  have G5 : Hid (w5.heap[gc]? = some (.cells #[.int .i64 c, .slice ac.D Fw.new.defs.length ac.cd, .slice ac.R Fw.new.runs.length ac.cr, .slice ac.F Fw.new.runs.length ac.cf, .pointer (some ⟨ac.k, 0, none⟩)] 75 (0, 0))) := Lib.hid (by rw [hw5]; exact heap_setCell_same _ gc 0 _ _ _ G4.out)
  have E5 : Hid (w5.heap[g]? = w4.heap[g]?) := Lib.hid (by rw [hw5]; exact (Below.heap_setCell _ _ _ _ hne).trans E4.out)
  have K5 : Hid (∀ i, i ≠ gc → w5.heap[i]? = w4.heap[i]?) := Lib.hid fun i hi => by rw [hw5]; exact (Below.heap_setCell _ _ _ _ hi)
  have Z5 : Hid (w5.heap.size = w4.heap.size) := Lib.hid (by rw [hw5]; simp [World.setCell])
  have B5 : Hid (Below w.heap.size w w5) := Lib.hid (by rw [hw5]; exact B4.out.setCell (p := ⟨gc, 0, none⟩) GW.out.2.1 _)
  rw [← hw5]
  clear hw5 y0 e0
  obtain ⟨⟨y0, y1, y2, y3, y4⟩, e0, e1, e2, e3, e4⟩ := obF G5.out
  clear y0 e0 y2 e2 y3 e3 y4 e4
  refine wpAnyH_ready (rs := [26]) (by kernel_rfl) (by simp) ?_
  refine AllReadyH.cons (o := ?o1008) ?hi1008 (fun K hK => ?_) AllReadyH.nil
  case hi1008 => (simp only [List.getElem?_toArray, List.getElem?_cons_zero, List.getElem?_cons_succ]; exact rfl)
  go_simp
  refine hK.out _ _ ?_ (fun hHeld => ?_)
  · exact KS.out _ E5.out
  clear hK K
  try simp only [Act.put, List.setIfInBounds_toArray, List.set_cons_zero, List.set_cons_succ]
  refine wpAnyH_ready (rs := [27]) (by kernel_rfl) (by simp) ?_
  refine AllReadyH.cons (o := ?o1009) ?hi1009 (fun K hK => ?_) AllReadyH.nil
  case hi1009 => (simp only [List.getElem?_toArray, List.getElem?_cons_zero, List.getElem?_cons_succ]; exact rfl)
  go_simp
  refine hK.out _ _ ?_ (fun hHeld => ?_)
  · exact KS.out _ E5.out
  clear hK K
  try simp only [Act.put, List.setIfInBounds_toArray, List.set_cons_zero, List.set_cons_succ]
  refine wpAnyH_ready (rs := [28]) (by kernel_rfl) (by simp) ?_
  refine AllReadyH.cons (o := ?o1010) ?hi1010 (fun K hK => ?_) AllReadyH.nil
  case hi1010 => (simp only [List.getElem?_toArray, List.getElem?_cons_zero, List.getElem?_cons_succ]; exact rfl)
  go_simp
  refine hK.out _ _ ?_ (fun hHeld => ?_)
  · exact KS.out _ ((Below.heap_setCell _ _ _ _ hne).trans E5.out)
  clear hK K
  try simp only [Act.put, List.setIfInBounds_toArray, List.set_cons_zero, List.set_cons_succ]
  obtain ⟨w6, hw6⟩ : ∃ w6, w6 = w5.setCell ⟨gc, 1, none⟩ (.slice D2 n cd2) := ⟨_, rfl⟩
  have G6 : Hid (w6.heap[gc]? = some (.cells #[.int .i64 c, .slice D2 n cd2, .slice ac.R Fw.new.runs.length ac.cr, .slice ac.F Fw.new.runs.length ac.cf, .pointer (some ⟨ac.k, 0, none⟩)] 75 (0, 0))) := Lib.hid (by rw [hw6]; exact heap_setCell_same _ gc 1 _ _ _ G5.out)
  have E6 : Hid (w6.heap[g]? = w4.heap[g]?) := Lib.hid (by rw [hw6]; exact (Below.heap_setCell _ _ _ _ hne).trans E5.out)
  have K6 : Hid (∀ i, i ≠ gc → w6.heap[i]? = w4.heap[i]?) := Lib.hid fun i hi => by rw [hw6]; exact (Below.heap_setCell _ _ _ _ hi).trans (K5.out i hi)
  have Z6 : Hid (w6.heap.size = w4.heap.size) := Lib.hid (by rw [hw6]; simp [World.setCell]; exact Z5.out)
  have B6 : Hid (Below w.heap.size w w6) := Lib.hid (by rw [hw6]; exact B5.out.setCell (p := ⟨gc, 1, none⟩) GW.out.2.1 _)
  rw [← hw6]
  clear hw6 y1 e1
  obtain ⟨⟨y0, y1, y2, y3, y4⟩, e0, e1, e2, e3, e4⟩ := obF G6.out
  clear y0 e0 y1 e1 y3 e3 y4 e4
  refine wpAnyH_ready (rs := [29]) (by kernel_rfl) (by simp) ?_
  refine AllReadyH.cons (o := ?o1011) ?hi1011 (fun K hK => ?_) AllReadyH.nil
  case hi1011 => (simp only [List.getElem?_toArray, List.getElem?_cons_zero, List.getElem?_cons_succ]; exact rfl)
  go_simp
  refine hK.out _ _ ?_ (fun hHeld => ?_)
  · exact KS.out _ E6.out
  clear hK K
  try simp only [Act.put, List.setIfInBounds_toArray, List.set_cons_zero, List.set_cons_succ]
  refine wpAnyH_ready (rs := [30]) (by kernel_rfl) (by simp) ?_
  refine AllReadyH.cons (o := ?o1012) ?hi1012 (fun K hK => ?_) AllReadyH.nil
  case hi1012 => (simp only [List.getElem?_toArray, List.getElem?_cons_zero, List.getElem?_cons_succ]; exact rfl)
  go_simp
  refine hK.out _ _ ?_ (fun hHeld => ?_)
  · exact KS.out _ E6.out
  clear hK K
  try simp only [Act.put, List.setIfInBounds_toArray, List.set_cons_zero, List.set_cons_succ]
  refine wpAnyH_ready (rs := [31]) (by kernel_rfl) (by simp) ?_
  refine AllReadyH.cons (o := ?o1013) ?hi1013 (fun K hK => ?_) AllReadyH.nil
  case hi1013 => (simp only [List.getElem?_toArray, List.getElem?_cons_zero, List.getElem?_cons_succ]; exact rfl)
  go_simp
  refine hK.out _ _ ?_ (fun hHeld => ?_)
  · exact KS.out _ ((Below.heap_setCell _ _ _ _ hne).trans E6.out)
  clear hK K
  try simp only [Act.put, List.setIfInBounds_toArray, List.set_cons_zero, List.set_cons_succ]
  obtain ⟨w7, hw7⟩ : ∃ w7, w7 = w6.setCell ⟨gc, 2, none⟩ (.slice (some ⟨Y, 0, none⟩) m m) := ⟨_, rfl⟩
  have G7 : Hid (w7.heap[gc]? = some (.cells #[.int .i64 c, .slice D2 n cd2, .slice (some ⟨Y, 0, none⟩) m m, .slice ac.F Fw.new.runs.length ac.cf, .pointer (some ⟨ac.k, 0, none⟩)] 75 (0, 0))) := Lib.hid (by rw [hw7]; exact heap_setCell_same _ gc 2 _ _ _ G6.out)
  have E7 : Hid (w7.heap[g]? = w4.heap[g]?) := Lib.hid (by rw [hw7]; exact (Below.heap_setCell _ _ _ _ hne).trans E6.out)
  have K7 : Hid (∀ i, i ≠ gc → w7.heap[i]? = w4.heap[i]?) := Lib.hid fun i hi => by rw [hw7]; exact (Below.heap_setCell _ _ _ _ hi).trans (K6.out i hi)
  have Z7 : Hid (w7.heap.size = w4.heap.size) := Lib.hid (by rw [hw7]; simp [World.setCell]; exact Z6.out)
  have B7 : Hid (Below w.heap.size w w7) := Lib.hid (by rw [hw7]; exact B6.out.setCell (p := ⟨gc, 2, none⟩) GW.out.2.1 _)
  rw [← hw7]
  clear hw7 y2 e2
  obtain ⟨⟨y0, y1, y2, y3, y4⟩, e0, e1, e2, e3, e4⟩ := obF G7.out
  clear y0 e0 y1 e1 y2 e2 y4 e4
  refine wpAnyH_ready (rs := [32]) (by kernel_rfl) (by simp) ?_
  refine AllReadyH.cons (o := ?o1014) ?hi1014 (fun K hK => ?_) AllReadyH.nil
  case hi1014 => (simp only [List.getElem?_toArray, List.getElem?_cons_zero, List.getElem?_cons_succ]; exact rfl)
  go_simp
  refine hK.out _ _ ?_ (fun hHeld => ?_)
  · exact KS.out _ E7.out
  clear hK K
  try simp only [Act.put, List.setIfInBounds_toArray, List.set_cons_zero, List.set_cons_succ]
  refine wpAnyH_ready (rs := [33]) (by kernel_rfl) (by simp) ?_
  refine AllReadyH.cons (o := ?o1015) ?hi1015 (fun K hK => ?_) AllReadyH.nil
  case hi1015 => (simp only [List.getElem?_toArray, List.getElem?_cons_zero, List.getElem?_cons_succ]; exact rfl)
  go_simp
  refine hK.out _ _ ?_ (fun hHeld => ?_)
  · exact KS.out _ E7.out
  clear hK K
  try simp only [Act.put, List.setIfInBounds_toArray, List.set_cons_zero, List.set_cons_succ]
  refine wpAnyH_ready (rs := [34]) (by kernel_rfl) (by simp) ?_
  refine AllReadyH.cons (o := ?o1016) ?hi1016 (fun K hK => ?_) AllReadyH.nil
  case hi1016 => (simp only [List.getElem?_toArray, List.getElem?_cons_zero, List.getElem?_cons_succ]; exact rfl)
  go_simp
  refine hK.out _ _ ?_ (fun hHeld => ?_)
  · exact KS.out _ ((Below.heap_setCell _ _ _ _ hne).trans E7.out)
  clear hK K
  try simp only [Act.put, List.setIfInBounds_toArray, List.set_cons_zero, List.set_cons_succ]
  obtain ⟨w8, hw8⟩ : ∃ w8, w8 = w7.setCell ⟨gc, 3, none⟩ (.slice F4 m cf4) := ⟨_, rfl⟩
  have G8 : Hid (w8.heap[gc]? = some (.cells #[.int .i64 c, .slice D2 n cd2, .slice (some ⟨Y, 0, none⟩) m m, .slice F4 m cf4, .pointer (some ⟨ac.k, 0, none⟩)] 75 (0, 0))) := Lib.hid (by rw [hw8]; exact heap_setCell_same _ gc 3 _ _ _ G7.out)
  have E8 : Hid (w8.heap[g]? = w4.heap[g]?) := Lib.hid (by rw [hw8]; exact (Below.heap_setCell _ _ _ _ hne).trans E7.out)
  have K8 : Hid (∀ i, i ≠ gc → w8.heap[i]? = w4.heap[i]?) := Lib.hid fun i hi => by rw [hw8]; exact (Below.heap_setCell _ _ _ _ hi).trans (K7.out i hi)
  have Z8 : Hid (w8.heap.size = w4.heap.size) := Lib.hid (by rw [hw8]; simp [World.setCell]; exact Z7.out)
  have B8 : Hid (Below w.heap.size w w8) := Lib.hid (by rw [hw8]; exact B7.out.setCell (p := ⟨gc, 3, none⟩) GW.out.2.1 _)
  rw [← hw8]
  clear hw8 y3 e3
  refine wpAnyH_done (by kernel_rfl) ?_ _
  have PC : Hid (ClI w gc s none 0 w8 ∨ True) := Lib.hid (.inr trivial)
  clear PC
  have LL : Hid (w.heap.size ≤ gc ∧ gc < w1.heap.size ∧ w1.heap.size ≤ w2.heap.size ∧ w2.heap.size ≤ w3.heap.size ∧ w3.heap.size ≤ w4.heap.size ∧ w8.heap.size = w4.heap.size ∧ w.heap.size ≤ w1.heap.size) := Lib.hid ⟨GW.out.2.1, GW.out.2.2, b2.out.size, b3.out.size, b4.out.size, Z8.out, B1.out.size⟩
  have k1 : ∀ i, i ≠ gc → i < w1.heap.size → w8.heap[i]? = w1.heap[i]? := fun i hg hl => by
    have := LL.out
    exact (K8.out i hg).trans ((b4.out.block i (by omega)).trans ((b3.out.block i (by omega)).trans (b2.out.block i hl)))
  have k2 : ∀ i, i ≠ gc → i < w2.heap.size → w8.heap[i]? = w2.heap[i]? := fun i hg hl => by
    have := LL.out
    exact (K8.out i hg).trans ((b4.out.block i (by omega)).trans (b3.out.block i (by omega)))
  have k3 : ∀ i, i ≠ gc → i < w3.heap.size → w8.heap[i]? = w3.heap[i]? := fun i hg hl => (K8.out i hg).trans (b4.out.block i hl)
  obtain ⟨aC, haC⟩ : ∃ aC : FAt, aC = ⟨D2, cd2, some ⟨Y, 0, none⟩, m, F4, cf4, ac.k, ac.K, f3, fun b => (w2.heap.size ≤ b ∧ b ≠ Y) ∧ b < w3.heap.size⟩ := ⟨_, rfl⟩
  have mD : ∀ i, isB D2 i → w1.heap.size ≤ i ∧ i < w2.heap.size := fun i ⟨x, hx, hi⟩ => by subst hx hi; exact o2.out.lt
  have mY : w2.heap.size ≤ Y ∧ Y < w3.heap.size := o3.out.lt
  have mF : ∀ i, isB F4 i → w3.heap.size ≤ i ∧ i < w4.heap.size := fun i ⟨x, hx, hi⟩ => by subst hx hi; exact o4.out.lt
  have mK : ∀ i, ac.K i → w.heap.size ≤ i ∧ i < w1.heap.size := fun i hi => ⟨R1.out i (.inl (.inr (.inr (.inr (.inr hi))))), P1.out.keys.lt i hi⟩
  have PC : Hid (FPM w8 gc aC { s with keys := s.keys.take 0 }) := Lib.hid (by
    have L := LL.out
    subst haC
    refine ⟨?_, (o2.out.keepB fun i hi => k2 i (by have := mD i hi; omega) (mD i hi).2).low (Nat.zero_le _), ?_, (o4.out.keepB fun i hi => K8.out i (by have := mF i hi; omega)).low (Nat.zero_le _), ?_, ?_, fun b hb => ⟨by have := hb.2; omega, fun hm => ?_⟩, H.out.sz, H.out.dm, H.out.rm⟩
    · rw [G8.out, HC.out, HN.out, HM.out]
      rfl
    · have := (o3.out.keepB (w' := w8) fun i hi => by obtain ⟨x, hx, rfl⟩ := hi; cases hx; exact k3 Y (by omega) mY.2).low (Nat.zero_le _)
      show OwnK w8 0 _ 4 _ _ (rsV s.runs f3)
      rw [rsV_rw]
      exact this
    · exact P1.out.keys.keep (by omega) fun i hi => k1 i (by rintro rfl; exact P1.out.apart.k hi) (mK i hi).2
    · exact rwO (Y := Y) (fun i hi => ((i3.out i hi).here.keep (by omega) fun b hb hl => k3 b (by have := hb.1.1; omega) hl)) rfl
    · have hb' : (w2.heap.size ≤ b ∧ b ≠ Y) ∧ b < w3.heap.size := hb
      rcases hm with rfl | hm | ⟨x, hx, hm⟩ | hm | hm
      · omega
      · have := mD _ hm; omega
      · cases hx; exact hb'.1.2 hm
      · have := mF _ hm; omega
      · have := mK _ hm; omega)
  have MC : Hid (∀ i, mine gc aC i ∨ aC.Q i → w.heap.size ≤ i) := Lib.hid fun i hi => by
    have L := LL.out
    subst haC
    rcases hi with (rfl | hi | ⟨x, hx, hi⟩ | hi | hi) | hi
    · omega
    · have := mD _ hi; omega
    · cases hx; have hi' : i = Y := hi; omega
    · have := mF _ hi; omega
    · have := mK _ hi; omega
    · have hi' : (w2.heap.size ≤ i ∧ i ≠ Y) ∧ i < w3.heap.size := hi
      omega
  clear k1 k2 k3 mD mY mF mK haC E4 E5 E6 E7 E8 K5 K6 K7 K8 Z5 Z6 Z7 Z8 B5 B6 B7 G4 G5 G6 G7 G8 o2 o3 o4 i3 b2 b3 b4 LL B2 B3 B4 KS SA CD CO CR P1 R1 BD1 OB
  have c4 := (S1.out w8 B8.out).2.2.2.2
  have CA := Lib.hid (keysAll_any a.k a.K (Fw.ks s) w8 ((H.out.on B8.out).keys) SS.out.ki)
  have e0 : (Fw.ks s).l = s.keys := rfl
  rw [e0] at CA
  obtain ⟨q, hq⟩ : ∃ q, q = s.keys.length := ⟨_, rfl⟩
  have HQ := Lib.hid hq
  have hq9 : q ≤ 128 := by rw [hq]; have := SS.out.ki.few; have h2 : (s.keys.length : Int) ≤ 128 := this; omega
  rw [← hq] at CA
  clear e0 hq S1
  go_wp2_with fail
  refine CA.out.mono ?_; rintro e w9 ⟨A9, c9, rfl, b9, n9⟩
  have I0 : Hid (ClI w gc s A9 0 w9) := Lib.hid ⟨aC, PC.out.on b9.out, MC.out, B8.out.trans (b9.out.mono B8.out.size), n9.out.imp fun b _ hb hm => by have := PC.out.lt b (.inl hm); omega⟩
  have OKS := Lib.hid (H.out.keys.oks)
  clear c4 CA b9 n9
  go_wp2_with fail
  go_loopw [44] (fun iv wr => ∃ k : Nat, k ≤ q ∧ iv = .int .i64 k ∧ Hid (ClI w gc s A9 k wr)) (fun iv _ => q - (intOf iv).toNat)
  case atStart => exact ⟨0, Nat.zero_le _, rfl, I0⟩
  case round =>
    obtain ⟨k, hk, rfl, HI⟩ := hrel
    by_cases hlt : k < q
    · have hlt' : (k : Int) < (q : Int) := by omega
      have HK : Hid (k < s.keys.length) := Lib.hid (by rw [← HQ.out]; exact hlt)
      obtain ⟨a', p', m', b', n'⟩ := HI.out
      have P := Lib.hid p'
      have M := Lib.hid m'
      have BW := Lib.hid b'
      have NN := Lib.hid n'
      obtain ⟨b, off, t, hA, hb, ht, y0, y1, y2⟩ := n'.at_ HK.out
      have HT : Hid (s.keys[k]'HK.out = t) := Lib.hid (by
        obtain ⟨h1, h2⟩ := List.getElem?_eq_some_iff.1 ht.out
        exact h2)
      have HBL : Hid (b < wr.heap.size ∧ ¬ mine gc a' b) := Lib.hid ⟨block_lt y0, hb.out⟩
      subst hA
      clear p' m' b' n' hb ht HI
      obtain ⟨w10, hw10⟩ : ∃ w10, w10 = wr.alloc (.cells #[.string t.name, .string t.key, .int .i64 t.id] 65) := ⟨_, rfl⟩
      have B10 : Hid (Below wr.heap.size wr w10) := Lib.hid (by rw [hw10]; exact (Below.refl _ _).alloc (Nat.le_refl _) _)
      have X10 : Hid (w10.heap[wr.heap.size]? = some (.cells #[.string t.name, .string t.key, .int .i64 t.id] 65 (0, 0))) := Lib.hid (by rw [hw10]; exact heap_alloc_new _ _)
      have P10 := Lib.hid (P.out.on B10.out)
      have TO : Hid (Ky.ok t.name t.key t.id) := Lib.hid (OKS.out t (by rw [← HT.out]; exact List.getElem_mem (l := s.keys) HK.out))
      have CP := Lib.hid (keysPut_any a'.k a'.K (Fw.ks { s with keys := s.keys.take k }) t.name t.key t.id w10.drew P10.out.drew.keys (SS.out.ki.take k) TO.out)
      have SP : Hid (∀ O2 W, Step a'.K O2 w10.drew W → W.cell? ⟨gc, 4, none⟩ = some (.pointer (some ⟨a'.k, 0, none⟩)) ∧ W.cell? ⟨wr.heap.size, 0, none⟩ = some (.string t.name) ∧ W.cell? ⟨wr.heap.size, 1, none⟩ = some (.string t.key) ∧ W.cell? ⟨wr.heap.size, 2, none⟩ = some (.int .i64 t.id)) := Lib.hid fun O2 W st => by
        have h1 := st.only.block gc (lt_of_block P10.out.obj) P10.out.apart.k
        have h2 := st.only.block wr.heap.size (lt_of_block X10.out) fun hk => by have := P.out.lt _ (.inl (.inr (.inr (.inr (.inr hk))))); omega
        obtain ⟨⟨x0, x1, x2⟩, -⟩ := obT X10.out
        exact ⟨(World.cell?_of_block (w := w10) h1).trans P10.out.cells.1.2.2.2.2, (World.cell?_of_block (w := w10) h2).trans x0, (World.cell?_of_block (w := w10) h2).trans x1, (World.cell?_of_block (w := w10) h2).trans x2⟩
      have S0 : Hid (w10.drew.cell? ⟨gc, 4, none⟩ = some (.pointer (some ⟨a'.k, 0, none⟩)) ∧ w10.drew.cell? ⟨wr.heap.size, 0, none⟩ = some (.string t.name) ∧ w10.drew.cell? ⟨wr.heap.size, 1, none⟩ = some (.string t.key) ∧ w10.drew.cell? ⟨wr.heap.size, 2, none⟩ = some (.int .i64 t.id)) := Lib.hid (SP.out a'.K _ (Step.refl _ _))
      go_upto_region 6 with (fail)
      rw [← hw10]
      clear hw10 y0 y1 y2
      refine wp_region_held_drew (S := (fun w' => w'.cell? ⟨gc, 4, none⟩ = some (.pointer (some ⟨a'.k, 0, none⟩)) ∧ w'.cell? ⟨wr.heap.size, 0, none⟩ = some (.string t.name) ∧ w'.cell? ⟨wr.heap.size, 1, none⟩ = some (.string t.key) ∧ w'.cell? ⟨wr.heap.size, 2, none⟩ = some (.int .i64 t.id))) (by kernel_rfl) ?hS1017 (fun hHeld => ?_)
      case hS1017 => exact S0.out
      refine takH 0 (h := ?_)
      try simp only [Act.put, List.setIfInBounds_toArray, List.set_cons_zero, List.set_cons_succ]
      refine takH 1 (h := ?_)
      try simp only [Act.put, List.setIfInBounds_toArray, List.set_cons_zero, List.set_cons_succ]
      refine takH 2 (h := ?_)
      try simp only [Act.put, List.setIfInBounds_toArray, List.set_cons_zero, List.set_cons_succ]
      refine takH 3 (h := ?_)
      try simp only [Act.put, List.setIfInBounds_toArray, List.set_cons_zero, List.set_cons_succ]
      refine takH 4 (h := ?_)
      try simp only [Act.put, List.setIfInBounds_toArray, List.set_cons_zero, List.set_cons_succ]
      refine takH 5 (h := ?_)
      try simp only [Act.put, List.setIfInBounds_toArray, List.set_cons_zero, List.set_cons_succ]
      refine takH 6 (h := ?_)
      try simp only [Act.put, List.setIfInBounds_toArray, List.set_cons_zero, List.set_cons_succ]
      refine takH 7 (h := ?_)
      try simp only [Act.put, List.setIfInBounds_toArray, List.set_cons_zero, List.set_cons_succ]
      refine wpAnyH_ready (rs := [8]) (by kernel_rfl) (by simp) ?_
      refine AllReadyH.cons (o := ?o1018) ?hi1018 (fun K hK => ?_) AllReadyH.nil
      case hi1018 => (simp only [List.getElem?_toArray, List.getElem?_cons_zero, List.getElem?_cons_succ]; exact rfl)
      (go_simp; go_at_call 40; (with_reducible refine CP.out.mono ?_); rintro e w11 ⟨rfl, O2, k11, st⟩; have K11 := Lib.hid k11; have ST := Lib.hid st; clear k11 st; try dsimp only)
      refine hK.out _ _ ?_ (fun hHeld => ?_)
      · exact SP.out _ _ ST.out
      clear hK K
      try simp only [Act.put, List.setIfInBounds_toArray, List.set_cons_zero, List.set_cons_succ]
      refine wpAnyH_done (by kernel_rfl) ?_ _
      have NX : Hid (ClI w gc s (some ⟨b, off, none⟩) (k + 1) w11) := Lib.hid (by
        obtain ⟨p12, q12⟩ := P10.out.drew.putKey K11.out ST.out
        have hn := Ky.putS_new (l := s.keys.take k) (t := t) (by have := Ky.Inv.fresh SS.out.ki HK.out; rw [HT.out] at this; exact this) (by rw [List.length_take]; omega)
        have e1 : (Ky.putS (Fw.ks { s with keys := s.keys.take k }) t.name t.key t.id).l = s.keys.take (k + 1) := by
          show (Ky.putS ⟨128, s.keys.take k⟩ t.name t.key t.id).l = _
          rw [hn, List.take_succ_eq_append_getElem HK.out, HT.out]
        have p13 : FPM w11 gc { a' with K := O2 } { s with keys := s.keys.take (k + 1) } := by
          rw [← e1]; exact p12
        have stp : StepM gc a' { a' with K := O2 } wr w11 := StepM.ahead B10.out.drew q12
        refine ⟨_, p13, fun i hi => ?_, BW.out.trans (stp.only.below BW.out.size fun k hk => M.out k (.inl hk)), ?_⟩
        · rcases hi with hi | hi
          · rcases stp.m i hi with h1 | h1
            · exact M.out i (.inl h1)
            · exact Nat.le_trans BW.out.size h1
          · exact M.out i (.inr hi)
        · refine ((NN.out.imp (O' := fun b => ¬ mine gc a' b ∧ b < wr.heap.size) fun b hl hb => ⟨hb, hl⟩).keep stp.only.size fun b hb hl => stp.only.block b hl hb.1).imp fun b _ hb hm => ?_
          rcases stp.m b hm with h1 | h1
          · exact hb.1 h1
          · omega)
      go_wp2
      go_roundw
      case rel => exact ⟨k + 1, by omega, by go_num, NX⟩
      case measure => simp [intOf]; omega
    · obtain rfl : k = q := by omega
      have hge : ¬ (k : Int) < (k : Int) := by omega
      go_wp2
      go_ret
      obtain ⟨a', p', m', b', n'⟩ := HI.out
      rw [HQ.out, List.take_length] at p'
      exact ⟨gc, rfl, mine gc a', fun i => mine gc a' i ∨ a'.Q i, p'.fp, m', b'⟩
end Go.Proofs.YtkbekojnmdgdgaaGreatDoor
/- FlEqs -/
namespace Go.Proofs.YtkbekojnmdgdgaaGreatDoor
open Go.RowKit Go.Maps
set_option maxRecDepth 20000
theorem dfE_cells : Tryz.prog.cellsOf 81 = 2 := by kernel_rfl
theorem dfE_key : Tryz.prog.keyTypeAt 2 81 = true := by kernel_rfl
theorem dfE_lits (d : Nat) (a b : ByteArray) (h : Ky.okk a b) : Tryz.prog.keyLits (d + 2) 81 [.string a, .string b] = some [.string a.data.toList, .string b.data.toList] := by
  have h1 : ∀ x : ByteArray, x.size ≤ 9223372036854775807 → Tryz.prog.keyLits (d + 1) 9 [.string x] = some [.string x.data.toList] := fun x hx => by
    unfold Program.keyLits
    simp only [Tryz.underlying9]
    rw [if_pos (by unfold maxLen; omega)]
  conv => lhs; unfold Program.keyLits
  simp only [Tryz.underlying81, dfE_cells]
  simp [h1 a h.1, h1 b h.2, strE_cells]
theorem dfE_neq (a b a' b' : ByteArray) (h : Ky.okk a b) (h' : Ky.okk a' b') (W : World) :
    (binOp .neq 81 (.agg #[.string a, .string b]) (.agg #[.string a', .string b'])).run Tryz.prog W = .ok (.bool (!decide ((a, b) = (a', b')))) W := by
  have hf : ∀ (x y : ByteArray), (Value.agg #[.string x, .string y]).formed Tryz.prog 81 = true := fun x y => by simp [Value.formed, Tryz.underlying81, dfE_cells]
  obtain ⟨r, hr, hiff⟩ := run_equalIn_deep 9998 2 81 dfE_key W 2 2 (.agg #[.string a, .string b]) (.agg #[.string a', .string b']) _ _ (hf a b) (hf a' b') (dfE_lits 0 a b h) (dfE_lits 0 a' b' h')
  rw [run_neq_struct, hr]
  have e : r = decide ((a, b) = (a', b')) := by
    rw [Bool.eq_iff_iff, hiff]
    simp [bdata]
  rw [e]; rfl
def PrsO (w : World) (A : Option Addr) (l : List (ByteArray × ByteArray)) : Prop := (∀ p ∈ l, Ky.okk p.1 p.2) ∧ (0 < l.length → ∃ b off, A = some ⟨b, off, none⟩ ∧ b < w.heap.size ∧ ∀ i (hi : i < l.length), w.cell? ⟨b, off + i * 2, none⟩ = some (.string l[i].1) ∧ w.cell? ⟨b, off + i * 2 + 1, none⟩ = some (.string l[i].2))
def EnsO (w : World) (A : Option Addr) (l : List Ky.T) : Prop := (∀ t ∈ l, Ky.ok t.name t.key t.id) ∧ (0 < l.length → ∃ b off, A = some ⟨b, off, none⟩ ∧ b < w.heap.size ∧ ∀ i (hi : i < l.length), w.cell? ⟨b, off + i * 3, none⟩ = some (.string l[i].name) ∧ w.cell? ⟨b, off + i * 3 + 1, none⟩ = some (.string l[i].key) ∧ w.cell? ⟨b, off + i * 3 + 2, none⟩ = some (.int .i64 l[i].id))
set_option maxHeartbeats 1000000 in
theorem equalDf_p (A B : Option Addr) (l l2 : List (ByteArray × ByteArray)) (n m c c2 : Nat) (hn : n = l.length) (hm : m = l2.length) (h9 : n ≤ 1100) (w : World) (h : PrsO w A l) (h2 : PrsO w B l2) :
    Calls Tryz.prog 41 #[.slice A n c, .slice B m c2] w (BoolG w (decide (l = l2))) := by
  have H1 := Lib.hid h
  have H2 := Lib.hid h2
  have HN := Lib.hid hn
  have HM := Lib.hid hm
  obtain ⟨v, hv⟩ : ∃ v, v = decide (l = l2) := ⟨_, rfl⟩
  have V := Lib.hid hv
  rw [← hv]
  clear h h2 hn hm hv
  by_cases hl : n = m
  · subst hl
    go_enter Tryz.func41, Tryz.ntmps41
    go_wp2
    go_loopw [13] (fun iv wr => ∃ k : Nat, k ≤ n ∧ iv = .int .i64 k ∧ Hid (EqTo l l2 k) ∧ Hid (Below w.heap.size w wr)) (fun iv _ => n - (intOf iv).toNat)
    case atStart => exact ⟨0, Nat.zero_le _, rfl, Lib.hid rfl, Lib.hid (Below.refl _ _)⟩
    case round =>
      obtain ⟨k, hk, rfl, HK, HB⟩ := hrel
      by_cases hlt : k < n
      · have hlt' : (k : Int) < (n : Int) := by omega
        have K1 : Hid (k < l.length) := Lib.hid (by rw [← HN.out]; exact hlt)
        have K2 : Hid (k < l2.length) := Lib.hid (by rw [← HM.out]; exact hlt)
        obtain ⟨b1, o1, rfl, hb1, hc1⟩ := H1.out.2 (by rw [← HN.out]; omega)
        have hq1 := hc1 k K1.out
        clear hc1
        obtain ⟨z1, E1⟩ : ∃ z, Hid (z = l[k]'K1.out) := ⟨_, Lib.hid rfl⟩
        have I1 : Hid (Ky.okk z1.1 z1.2) := Lib.hid (by rw [E1.out]; exact H1.out.1 _ (List.getElem_mem _))
        rw [← E1.out] at hq1
        have s10 : w.cell? ⟨b1, o1 + k * 2, none⟩ = some (.string z1.1) := hq1.1
        have s11 : w.cell? ⟨b1, o1 + k * 2 + 1, none⟩ = some (.string z1.2) := hq1.2
        have t10 := (HB.out.cell (block_lt s10)).trans s10
        have t11 := (HB.out.cell (block_lt s11)).trans s11
        clear s10 s11 hb1 hq1
        obtain ⟨b2, o2, rfl, hb2, hc2⟩ := H2.out.2 (by rw [← HM.out]; omega)
        have hq2 := hc2 k K2.out
        clear hc2
        obtain ⟨z2, E2⟩ : ∃ z, Hid (z = l2[k]'K2.out) := ⟨_, Lib.hid rfl⟩
        have I2 : Hid (Ky.okk z2.1 z2.2) := Lib.hid (by rw [E2.out]; exact H2.out.1 _ (List.getElem_mem _))
        rw [← E2.out] at hq2
        have s20 : w.cell? ⟨b2, o2 + k * 2, none⟩ = some (.string z2.1) := hq2.1
        have s21 : w.cell? ⟨b2, o2 + k * 2 + 1, none⟩ = some (.string z2.2) := hq2.2
        have t20 := (HB.out.cell (block_lt s20)).trans s20
        have t21 := (HB.out.cell (block_lt s21)).trans s21
        clear s20 s21 hb2 hq2
        have BN : ∀ nq, Hid (Below w.heap.size w (wr.drewN nq)) := fun nq => Lib.hid (below_n HB.out nq)
        by_cases e : z1 = z2
        · have R := Lib.hid (HK.out.next K1.out K2.out (by rw [← E1.out, ← E2.out, e]))
          clear E1 E2
          subst e
          have NQ : ∀ W, (binOp .neq 81 (.agg #[.string z1.1, .string z1.2]) (.agg #[.string z1.1, .string z1.2])).run Tryz.prog W = .ok (.bool false) W := fun W => by have := dfE_neq z1.1 z1.2 z1.1 z1.2 I1.out I1.out W; rw [decide_eq_true rfl] at this; exact this
          go_wp2_with fail
          go_quiet (fail)
          go_wp2
          go_roundw
          case rel => exact ⟨k + 1, by omega, by go_num, R, BN _⟩
          case measure => simp [intOf]; omega
        · have R : Hid (v = false) := Lib.hid (by rw [V.out]; exact decide_eq_false (at_ne K1.out K2.out (by rw [← E1.out, ← E2.out]; exact e)))
          have NQ : ∀ W, (binOp .neq 81 (.agg #[.string z1.1, .string z1.2]) (.agg #[.string z2.1, .string z2.2])).run Tryz.prog W = .ok (.bool true) W := fun W => by have := dfE_neq z1.1 z1.2 z2.1 z2.2 I1.out I2.out W; rw [decide_eq_false (fun h => e (by cases z1; cases z2; exact h))] at this; exact this
          clear E1 E2
          go_wp2_with fail
          go_quiet (fail)
          go_wp2
          go_ret
          exact ⟨ret_bool R.out.symm, BN _⟩
      · obtain rfl : k = n := by omega
        have hge : ¬ (k : Int) < (k : Int) := by omega
        have R : Hid (v = true) := Lib.hid (by rw [V.out]; exact decide_eq_true (HK.out.done HN.out HM.out))
        go_wp2
        go_ret
        exact ⟨ret_bool R.out.symm, HB⟩
  · have R : Hid (v = false) := Lib.hid (by rw [V.out]; exact decide_eq_false fun e => hl (by rw [HN.out, HM.out, e]))
    have hl' : ((n : Int) != (m : Int)) = true := by simp; omega
    go_enter Tryz.func41, Tryz.ntmps41
    go_wp2
    go_ret
    exact ⟨ret_bool R.out.symm, Lib.hid (Below.refl _ _)⟩
set_option maxHeartbeats 1000000 in
theorem equalEn_p (A B : Option Addr) (l l2 : List Ky.T) (n m c c2 : Nat) (hn : n = l.length) (hm : m = l2.length) (h9 : n ≤ 1100) (w : World) (h : EnsO w A l) (h2 : EnsO w B l2) :
    Calls Tryz.prog 44 #[.slice A n c, .slice B m c2] w (BoolG w (decide (l = l2))) := by
  have H1 := Lib.hid h
  have H2 := Lib.hid h2
  have HN := Lib.hid hn
  have HM := Lib.hid hm
  obtain ⟨v, hv⟩ : ∃ v, v = decide (l = l2) := ⟨_, rfl⟩
  have V := Lib.hid hv
  rw [← hv]
  clear h h2 hn hm hv
  by_cases hl : n = m
  · subst hl
    go_enter Tryz.func44, Tryz.ntmps44
    go_wp2
    go_loopw [13] (fun iv wr => ∃ k : Nat, k ≤ n ∧ iv = .int .i64 k ∧ Hid (EqTo l l2 k) ∧ Hid (Below w.heap.size w wr)) (fun iv _ => n - (intOf iv).toNat)
    case atStart => exact ⟨0, Nat.zero_le _, rfl, Lib.hid rfl, Lib.hid (Below.refl _ _)⟩
    case round =>
      obtain ⟨k, hk, rfl, HK, HB⟩ := hrel
      by_cases hlt : k < n
      · have hlt' : (k : Int) < (n : Int) := by omega
        have K1 : Hid (k < l.length) := Lib.hid (by rw [← HN.out]; exact hlt)
        have K2 : Hid (k < l2.length) := Lib.hid (by rw [← HM.out]; exact hlt)
        obtain ⟨b1, o1, rfl, hb1, hc1⟩ := H1.out.2 (by rw [← HN.out]; omega)
        have hq1 := hc1 k K1.out
        clear hc1
        obtain ⟨z1, E1⟩ : ∃ z, Hid (z = l[k]'K1.out) := ⟨_, Lib.hid rfl⟩
        have I1 : Hid (Ky.ok z1.name z1.key z1.id) := Lib.hid (by rw [E1.out]; exact H1.out.1 _ (List.getElem_mem _))
        rw [← E1.out] at hq1
        have s10 : w.cell? ⟨b1, o1 + k * 3, none⟩ = some (.string z1.name) := hq1.1
        have s11 : w.cell? ⟨b1, o1 + k * 3 + 1, none⟩ = some (.string z1.key) := hq1.2.1
        have s12 : w.cell? ⟨b1, o1 + k * 3 + 2, none⟩ = some (.int .i64 z1.id) := hq1.2.2
        have t10 := (HB.out.cell (block_lt s10)).trans s10
        have t11 := (HB.out.cell (block_lt s11)).trans s11
        have t12 := (HB.out.cell (block_lt s12)).trans s12
        clear s10 s11 s12 hb1 hq1
        obtain ⟨b2, o2, rfl, hb2, hc2⟩ := H2.out.2 (by rw [← HM.out]; omega)
        have hq2 := hc2 k K2.out
        clear hc2
        obtain ⟨z2, E2⟩ : ∃ z, Hid (z = l2[k]'K2.out) := ⟨_, Lib.hid rfl⟩
        have I2 : Hid (Ky.ok z2.name z2.key z2.id) := Lib.hid (by rw [E2.out]; exact H2.out.1 _ (List.getElem_mem _))
        rw [← E2.out] at hq2
        have s20 : w.cell? ⟨b2, o2 + k * 3, none⟩ = some (.string z2.name) := hq2.1
        have s21 : w.cell? ⟨b2, o2 + k * 3 + 1, none⟩ = some (.string z2.key) := hq2.2.1
        have s22 : w.cell? ⟨b2, o2 + k * 3 + 2, none⟩ = some (.int .i64 z2.id) := hq2.2.2
        have t20 := (HB.out.cell (block_lt s20)).trans s20
        have t21 := (HB.out.cell (block_lt s21)).trans s21
        have t22 := (HB.out.cell (block_lt s22)).trans s22
        clear s20 s21 s22 hb2 hq2
        have BN : ∀ nq, Hid (Below w.heap.size w (wr.drewN nq)) := fun nq => Lib.hid (below_n HB.out nq)
        by_cases e : z1 = z2
        · have R := Lib.hid (HK.out.next K1.out K2.out (by rw [← E1.out, ← E2.out, e]))
          clear E1 E2
          subst e
          have NQ : ∀ W, (binOp .neq 65 (.agg #[.string z1.name, .string z1.key, .int .i64 z1.id]) (.agg #[.string z1.name, .string z1.key, .int .i64 z1.id])).run Tryz.prog W = .ok (.bool false) W := fun W => by have := entE_neq z1.name z1.key z1.id z1.name z1.key z1.id I1.out I1.out W; rw [decide_eq_true rfl] at this; exact this
          go_wp2_with fail
          go_quiet (fail)
          go_wp2
          go_roundw
          case rel => exact ⟨k + 1, by omega, by go_num, R, BN _⟩
          case measure => simp [intOf]; omega
        · have R : Hid (v = false) := Lib.hid (by rw [V.out]; exact decide_eq_false (at_ne K1.out K2.out (by rw [← E1.out, ← E2.out]; exact e)))
          have NQ : ∀ W, (binOp .neq 65 (.agg #[.string z1.name, .string z1.key, .int .i64 z1.id]) (.agg #[.string z2.name, .string z2.key, .int .i64 z2.id])).run Tryz.prog W = .ok (.bool true) W := fun W => by have := entE_neq z1.name z1.key z1.id z2.name z2.key z2.id I1.out I2.out W; rw [decide_eq_false (fun h => e (by cases z1; cases z2; exact h))] at this; exact this
          clear E1 E2
          go_wp2_with fail
          go_quiet (fail)
          go_wp2
          go_ret
          exact ⟨ret_bool R.out.symm, BN _⟩
      · obtain rfl : k = n := by omega
        have hge : ¬ (k : Int) < (k : Int) := by omega
        have R : Hid (v = true) := Lib.hid (by rw [V.out]; exact decide_eq_true (HK.out.done HN.out HM.out))
        go_wp2
        go_ret
        exact ⟨ret_bool R.out.symm, HB⟩
  · have R : Hid (v = false) := Lib.hid (by rw [V.out]; exact decide_eq_false fun e => hl (by rw [HN.out, HM.out, e]))
    have hl' : ((n : Int) != (m : Int)) = true := by simp; omega
    go_enter Tryz.func44, Tryz.ntmps44
    go_wp2
    go_ret
    exact ⟨ret_bool R.out.symm, Lib.hid (Below.refl _ _)⟩
set_option maxHeartbeats 2000000 in
theorem equalRn_p (A B : Option Addr) (l l2 : List Rn.R) (n m c c2 : Nat) (hn : n = l.length) (hm : m = l2.length) (h9 : n ≤ 1100) (hi1 : ∀ r ∈ l, Rn.Inv r) (hi2 : ∀ r ∈ l2, Rn.Inv r) (w : World) (O O2 : Nat → Prop) (h : RunsO w O A l) (h2 : RunsO w O2 B l2) :
    Calls Tryz.prog 43 #[.slice A n c, .slice B m c2, .func (.func 26) #[] #[]] w (BoolG w (decide (l = l2))) := by
  have H1 := Lib.hid h
  have H2 := Lib.hid h2
  have HN := Lib.hid hn
  have HM := Lib.hid hm
  have I1 := Lib.hid hi1
  have I2 := Lib.hid hi2
  obtain ⟨v, hv⟩ : ∃ v, v = decide (l = l2) := ⟨_, rfl⟩
  have V := Lib.hid hv
  rw [← hv]
  clear h h2 hn hm hv hi1 hi2
  by_cases hl : n = m
  · subst hl
    go_enter Tryz.func43, Tryz.ntmps43
    go_wp2
    go_loopw [17] (fun iv wr => ∃ k : Nat, k ≤ n ∧ iv = .int .i64 k ∧ Hid (EqTo l l2 k) ∧ Hid (Below w.heap.size w wr)) (fun iv _ => n - (intOf iv).toNat)
    case atStart => exact ⟨0, Nat.zero_le _, rfl, Lib.hid rfl, Lib.hid (Below.refl _ _)⟩
    case round =>
      obtain ⟨k, hk, rfl, HK, HB⟩ := hrel
      by_cases hlt : k < n
      · have hlt' : (k : Int) < (n : Int) := by omega
        have K1 : Hid (k < l.length) := Lib.hid (by rw [← HN.out]; exact hlt)
        have K2 : Hid (k < l2.length) := Lib.hid (by rw [← HM.out]; exact hlt)
        obtain ⟨g1, o1, rfl, -, hb1, hc1⟩ := (H1.out.keep HB.out.size fun b _ hl => HB.out.block b hl) (by rw [← HN.out]; omega)
        obtain ⟨p1, c10, c11, c12, c13, hr1, -⟩ := hc1 k K1.out
        rw [getD_at K1.out] at c10 c11 c12 c13 hr1
        have w10 : wr.cell? ⟨g1, o1 + k * 4, none⟩ = _ := c10
        have w11 : wr.cell? ⟨g1, o1 + k * 4 + 1, none⟩ = _ := c11
        have w12 : wr.cell? ⟨g1, o1 + k * 4 + 2, none⟩ = _ := c12
        have w13 : wr.cell? ⟨g1, o1 + k * 4 + 3, none⟩ = _ := c13
        obtain ⟨t1, E1⟩ : ∃ t, Hid (t = l[k]'K1.out) := ⟨_, Lib.hid rfl⟩
        rw [← E1.out] at w10 w11 w12 w13 hr1
        have R1 := Lib.hid hr1
        have J1 : Hid (Rn.Inv t1) := Lib.hid (by rw [E1.out]; exact I1.out _ (List.getElem_mem _))
        clear c10 c11 c12 c13 hr1 hc1 hb1
        obtain ⟨g2, o2, rfl, -, hb2, hc2⟩ := (H2.out.keep HB.out.size fun b _ hl => HB.out.block b hl) (by rw [← HM.out]; omega)
        obtain ⟨p2, c20, c21, c22, c23, hr2, -⟩ := hc2 k K2.out
        rw [getD_at K2.out] at c20 c21 c22 c23 hr2
        have w20 : wr.cell? ⟨g2, o2 + k * 4, none⟩ = _ := c20
        have w21 : wr.cell? ⟨g2, o2 + k * 4 + 1, none⟩ = _ := c21
        have w22 : wr.cell? ⟨g2, o2 + k * 4 + 2, none⟩ = _ := c22
        have w23 : wr.cell? ⟨g2, o2 + k * 4 + 3, none⟩ = _ := c23
        obtain ⟨t2, E2⟩ : ∃ t, Hid (t = l2[k]'K2.out) := ⟨_, Lib.hid rfl⟩
        rw [← E2.out] at w20 w21 w22 w23 hr2
        have R2 := Lib.hid hr2
        have J2 : Hid (Rn.Inv t2) := Lib.hid (by rw [E2.out]; exact I2.out _ (List.getElem_mem _))
        clear c20 c21 c22 c23 hr2 hc2 hb2
        have CS : Hid (∀ W, Below wr.heap.size wr W → Calls Tryz.prog 26 #[rv p1 t1, rv p2 t2] W (BoolG W (decide (t1 = t2)))) := Lib.hid fun W hW => same_p p1 t1 J1.out W (fun _ => True) ((R1.out.on hW).imp fun _ _ _ => trivial) p2 t2 J2.out ((R2.out.on hW).imp fun _ _ _ => trivial)
        unfold rv at CS
        obtain ⟨a1, ha1⟩ : ∃ z, z = t1.d.length := ⟨_, rfl⟩
        obtain ⟨s1, hs1⟩ : ∃ z, z = t1.st := ⟨_, rfl⟩
        obtain ⟨m1, hm1⟩ : ∃ z, z = t1.ts.length := ⟨_, rfl⟩
        obtain ⟨x1, hx1⟩ : ∃ z, z = t1.sg.length := ⟨_, rfl⟩
        rw [← ha1] at w10 CS
        rw [← hs1] at w11 CS
        rw [← hm1] at w12 CS
        rw [← hx1] at w13 CS
        clear ha1 hs1 hm1 hx1
        obtain ⟨a2, ha2⟩ : ∃ z, z = t2.d.length := ⟨_, rfl⟩
        obtain ⟨s2, hs2⟩ : ∃ z, z = t2.st := ⟨_, rfl⟩
        obtain ⟨m2, hm2⟩ : ∃ z, z = t2.ts.length := ⟨_, rfl⟩
        obtain ⟨x2, hx2⟩ : ∃ z, z = t2.sg.length := ⟨_, rfl⟩
        rw [← ha2] at w20 CS
        rw [← hs2] at w21 CS
        rw [← hm2] at w22 CS
        rw [← hx2] at w23 CS
        clear ha2 hs2 hm2 hx2
        obtain ⟨W1, hW1⟩ : ∃ W1, W1 = (wr.alloc (.cells #[.slice p1.A a1 p1.ca, .int .i64 s1, .slice p1.T m1 p1.ct, .slice p1.S x1 p1.cs] 41)).alloc (.cells #[.slice p2.A a2 p2.ca, .int .i64 s2, .slice p2.T m2 p2.ct, .slice p2.S x2 p2.cs] 41) := ⟨_, rfl⟩
        have BB : Hid (Below wr.heap.size wr W1) := Lib.hid (by rw [hW1]; exact box2 _ _ _)
        have X1 : Hid (W1.heap[wr.heap.size]? = some (.cells #[.slice p1.A a1 p1.ca, .int .i64 s1, .slice p1.T m1 p1.ct, .slice p1.S x1 p1.cs] 41 (0, 0))) := Lib.hid (by rw [hW1]; exact box0' _ _ _)
        have Y1 : Hid (W1.heap[wr.heap.size + 1]? = some (.cells #[.slice p2.A a2 p2.ca, .int .i64 s2, .slice p2.T m2 p2.ct, .slice p2.S x2 p2.cs] 41 (0, 0))) := Lib.hid (by rw [hW1]; exact box1 _ _ _)
        have AL := fun (o : Nat) (v : Value) (hc : wr.cell? ⟨g2, o, none⟩ = some v) => (((Below.refl wr.heap.size wr).alloc (Nat.le_refl _) (.cells #[.slice p1.A a1 p1.ca, .int .i64 s1, .slice p1.T m1 p1.ct, .slice p1.S x1 p1.cs] 41)).cell (block_lt hc)).trans hc
        have Z0 := AL _ _ w20
        have Z1 := AL _ _ w21
        have Z2 := AL _ _ w22
        have Z3 := AL _ _ w23
        clear AL
        go_upto_region 7 with (fail)
        rw [← hW1]
        clear hW1 w10 w11 w12 w13 w20 w21 w22 w23 Z0 Z1 Z2 Z3
        obtain ⟨⟨xx0, xx1, xx2, xx3⟩, -⟩ := obj4 X1.out
        obtain ⟨⟨y0, y1, y2, y3⟩, -⟩ := obj4 Y1.out
        have BW : Hid (Below w.heap.size w W1) := Lib.hid (HB.out.trans (BB.out.mono HB.out.size))
        go_wp2_with fail
        (with_reducible refine (CS.out W1 BB.out).mono ?_); rintro e W2 ⟨rfl, b2⟩
        have B2 : Hid (Below w.heap.size w W2) := Lib.hid (BW.out.trans (b2.out.mono BW.out.size))
        clear CS xx0 xx1 xx2 xx3 y0 y1 y2 y3
        by_cases e : t1 = t2
        · rw [decide_eq_true e]
          have R := Lib.hid (HK.out.next K1.out K2.out (by rw [← E1.out, ← E2.out, e]))
          clear E1 E2 e
          go_wp2
          go_roundw
          case rel => exact ⟨k + 1, by omega, by go_num, R, B2⟩
          case measure => simp [intOf]; omega
        · rw [decide_eq_false e]
          have R : Hid (v = false) := Lib.hid (by rw [V.out]; exact decide_eq_false (at_ne K1.out K2.out (by rw [← E1.out, ← E2.out]; exact e)))
          clear E1 E2 e
          go_wp2
          go_ret
          exact ⟨ret_bool R.out.symm, B2⟩
      · obtain rfl : k = n := by omega
        have hge : ¬ (k : Int) < (k : Int) := by omega
        have R : Hid (v = true) := Lib.hid (by rw [V.out]; exact decide_eq_true (HK.out.done HN.out HM.out))
        go_wp2
        go_ret
        exact ⟨ret_bool R.out.symm, HB⟩
  · have R : Hid (v = false) := Lib.hid (by rw [V.out]; exact decide_eq_false fun e => hl (by rw [HN.out, HM.out, e]))
    have hl' : ((n : Int) != (m : Int)) = true := by simp; omega
    go_enter Tryz.func43, Tryz.ntmps43
    go_wp2
    go_ret
    exact ⟨ret_bool R.out.symm, Lib.hid (Below.refl _ _)⟩
end Go.Proofs.YtkbekojnmdgdgaaGreatDoor
