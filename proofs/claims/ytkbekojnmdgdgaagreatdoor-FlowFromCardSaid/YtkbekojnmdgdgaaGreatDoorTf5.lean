/-
  Part 5 of the texts behind the law: TRnClone, TRnOwn, TRnEq.
-/
import Derived.Test.YtkbekojnmdgdgaaGreatDoorTf4
import Derived.Test.YtkbekojnmdgdgaaGreatDoorTf1
import Derived.Lib.SliceRun
import Derived.Laws.StructEq
/- RnClone -/
namespace Go.Proofs.YtkbekojnmdgdgaaGreatDoor
open Go.RowKit
theorem infoZ : (Tryz.prog.info? 3).map (fun i => (i.zero, i.size, i.bytes)) = some (some (.int .i64 0), 1, 8) := by kernel_rfl
set_option maxHeartbeats 1000000 in
theorem cloneZ (A : Option Addr) (vs : List (List Value)) (hw : Wide 1 vs) (hl : vs.length ≤ 1000000) (n : Nat) (hn : n = vs.length) (cap : Nat) (w : World) (h : Src w A vs) :
  Calls Tryz.prog 64 #[.slice A n cap] w (RowK w 3 1 n vs) := by
 have H := Lib.hid h
 have HL := Lib.hid hl
 have HW := Lib.hid hw
 have HN := Lib.hid hn
 cases A with
 | none =>
  have hnil : (binOp .eql 94 (.slice none n cap) (.slice none 0 0)).run Tryz.prog w = .ok (.bool true) w := Lib.run_eql_slice_nil w 94 3 _ _ _ _ _ Tryz.underlying94
  have HE : Hid (vs = []) := Lib.hid (by
   rcases Nat.eq_zero_or_pos vs.length with h0 | h0
   ·exact List.eq_nil_of_length_eq_zero h0
   ·obtain ⟨_, _, e, _⟩ := h h0; cases e)
  have HZ : Hid (n = 0) := Lib.hid (by rw [hn, HE.out]; rfl)
  clear h hl hw hn
  go_enter Tryz.func64, Tryz.ntmps64
  go_wp2
  go_ret
  exact ⟨none, 0, by rw [HZ.out]; rfl, by rw [HE.out]; exact Lib.hid (OwnK.none_ w _ _ _), Lib.hid (Below.refl _ _)⟩
 | some ad =>
  have hnil : (binOp .eql 94 (.slice (some ad) n cap) (.slice none 0 0)).run Tryz.prog w = .ok (.bool false) w := Lib.run_eql_slice_nil w 94 3 _ _ _ _ _ Tryz.underlying94
  clear h hl hw hn
  have B1 : Hid (Below w.heap.size w (w.alloc (.cells #[] 3))) := Lib.hid ((Below.refl _ _).alloc (Nat.le_refl _) _)
  go_enter Tryz.func64, Tryz.ntmps64
  go_wp2_with (at_builtin; refine wp_appKa (vs := []) (us := vs) rfl (.tmp 5) (.tmp 6) rfl Tryz.underlying94 infoZ rfl (by decide) (by decide) rfl rfl (OwnK.lit (w := w) [] (Wide.nil 1) (by decide) #[] rfl) (by simp) rfl HN.out HW.out (H.out.below B1.out) (by have := HL.out; simp; omega) ?_; intro A4 cap4 w4 o4 g4 q4; rw [List.nil_append] at o4; have O4 := Lib.hid o4; have G4 := Lib.hid g4; clear o4 g4 q4)
  go_ret
  refine ⟨A4, cap4, by rw [HN.out]; simp, O4, Lib.hid (B1.out.grown G4.out (by simp) fun k hk => ?_)⟩
  simp [Value.ownBlock] at hk
  omega
theorem infoS : (Tryz.prog.info? 9).map (fun i => (i.zero, i.size, i.bytes)) = some (some (.string ⟨#[]⟩), 1, 16) := by kernel_rfl
set_option maxHeartbeats 1000000 in
theorem cloneS (A : Option Addr) (vs : List (List Value)) (hw : Wide 1 vs) (hl : vs.length ≤ 1000000) (n : Nat) (hn : n = vs.length) (cap : Nat) (w : World) (h : Src w A vs) :
  Calls Tryz.prog 38 #[.slice A n cap] w (RowK w 9 1 n vs) := by
 have H := Lib.hid h
 have HL := Lib.hid hl
 have HW := Lib.hid hw
 have HN := Lib.hid hn
 cases A with
 | none =>
  have hnil : (binOp .eql 39 (.slice none n cap) (.slice none 0 0)).run Tryz.prog w = .ok (.bool true) w := Lib.run_eql_slice_nil w 39 9 _ _ _ _ _ Tryz.underlying39
  have HE : Hid (vs = []) := Lib.hid (by
   rcases Nat.eq_zero_or_pos vs.length with h0 | h0
   ·exact List.eq_nil_of_length_eq_zero h0
   ·obtain ⟨_, _, e, _⟩ := h h0; cases e)
  have HZ : Hid (n = 0) := Lib.hid (by rw [hn, HE.out]; rfl)
  clear h hl hw hn
  go_enter Tryz.func38, Tryz.ntmps38
  go_wp2
  go_ret
  exact ⟨none, 0, by rw [HZ.out]; rfl, by rw [HE.out]; exact Lib.hid (OwnK.none_ w _ _ _), Lib.hid (Below.refl _ _)⟩
 | some ad =>
  have hnil : (binOp .eql 39 (.slice (some ad) n cap) (.slice none 0 0)).run Tryz.prog w = .ok (.bool false) w := Lib.run_eql_slice_nil w 39 9 _ _ _ _ _ Tryz.underlying39
  clear h hl hw hn
  have B1 : Hid (Below w.heap.size w (w.alloc (.cells #[] 9))) := Lib.hid ((Below.refl _ _).alloc (Nat.le_refl _) _)
  go_enter Tryz.func38, Tryz.ntmps38
  go_wp2_with (at_builtin; refine wp_appKa (vs := []) (us := vs) rfl (.tmp 5) (.tmp 6) rfl Tryz.underlying39 infoS rfl (by decide) (by decide) rfl rfl (OwnK.lit (w := w) [] (Wide.nil 1) (by decide) #[] rfl) (by simp) rfl HN.out HW.out (H.out.below B1.out) (by have := HL.out; simp; omega) ?_; intro A4 cap4 w4 o4 g4 q4; rw [List.nil_append] at o4; have O4 := Lib.hid o4; have G4 := Lib.hid g4; clear o4 g4 q4)
  go_ret
  refine ⟨A4, cap4, by rw [HN.out]; simp, O4, Lib.hid (B1.out.grown G4.out (by simp) fun k hk => ?_)⟩
  simp [Value.ownBlock] at hk
  omega
theorem infoD : (Tryz.prog.info? 96).map (fun i => (i.zero, i.size, i.bytes)) = some (some (.agg #[.string ⟨#[]⟩, .slice none 0 0, .int .i64 0, .int .i64 0, .int .i64 0, .string ⟨#[]⟩]), 6, 80) := by kernel_rfl
set_option maxHeartbeats 1000000 in
theorem cloneD (A : Option Addr) (vs : List (List Value)) (hw : Wide 6 vs) (hl : vs.length ≤ 1000000) (n : Nat) (hn : n = vs.length) (cap : Nat) (w : World) (h : Src w A vs) :
  Calls Tryz.prog 63 #[.slice A n cap] w (RowK w 96 6 n vs) := by
 have H := Lib.hid h
 have HL := Lib.hid hl
 have HW := Lib.hid hw
 have HN := Lib.hid hn
 cases A with
 | none =>
  have hnil : (binOp .eql 35 (.slice none n cap) (.slice none 0 0)).run Tryz.prog w = .ok (.bool true) w := Lib.run_eql_slice_nil w 35 96 _ _ _ _ _ Tryz.underlying35
  have HE : Hid (vs = []) := Lib.hid (by
   rcases Nat.eq_zero_or_pos vs.length with h0 | h0
   ·exact List.eq_nil_of_length_eq_zero h0
   ·obtain ⟨_, _, e, _⟩ := h h0; cases e)
  have HZ : Hid (n = 0) := Lib.hid (by rw [hn, HE.out]; rfl)
  clear h hl hw hn
  go_enter Tryz.func63, Tryz.ntmps63
  go_wp2
  go_ret
  exact ⟨none, 0, by rw [HZ.out]; rfl, by rw [HE.out]; exact Lib.hid (OwnK.none_ w _ _ _), Lib.hid (Below.refl _ _)⟩
 | some ad =>
  have hnil : (binOp .eql 35 (.slice (some ad) n cap) (.slice none 0 0)).run Tryz.prog w = .ok (.bool false) w := Lib.run_eql_slice_nil w 35 96 _ _ _ _ _ Tryz.underlying35
  clear h hl hw hn
  have B1 : Hid (Below w.heap.size w (w.alloc (.cells #[] 96))) := Lib.hid ((Below.refl _ _).alloc (Nat.le_refl _) _)
  go_enter Tryz.func63, Tryz.ntmps63
  go_wp2_with (at_builtin; refine wp_appKa (vs := []) (us := vs) rfl (.tmp 5) (.tmp 6) rfl Tryz.underlying35 infoD rfl (by decide) (by decide) rfl rfl (OwnK.lit (w := w) [] (Wide.nil 6) (by decide) #[] rfl) (by simp) rfl HN.out HW.out (H.out.below B1.out) (by have := HL.out; simp; omega) ?_; intro A4 cap4 w4 o4 g4 q4; rw [List.nil_append] at o4; have O4 := Lib.hid o4; have G4 := Lib.hid g4; clear o4 g4 q4)
  go_ret
  refine ⟨A4, cap4, by rw [HN.out]; simp, O4, Lib.hid (B1.out.grown G4.out (by simp) fun k hk => ?_)⟩
  simp [Value.ownBlock] at hk
  omega
theorem infoT : (Tryz.prog.info? 47).map (fun i => (i.zero, i.size, i.bytes)) = some (some (.agg #[.int .i64 0, .int .i64 0, .int .i64 0, .string ⟨#[]⟩]), 4, 40) := by kernel_rfl
set_option maxHeartbeats 1000000 in
theorem cloneT (A : Option Addr) (vs : List (List Value)) (hw : Wide 4 vs) (hl : vs.length ≤ 1000000) (n : Nat) (hn : n = vs.length) (cap : Nat) (w : World) (h : Src w A vs) :
  Calls Tryz.prog 65 #[.slice A n cap] w (RowK w 47 4 n vs) := by
 have H := Lib.hid h
 have HL := Lib.hid hl
 have HW := Lib.hid hw
 have HN := Lib.hid hn
 cases A with
 | none =>
  have hnil : (binOp .eql 38 (.slice none n cap) (.slice none 0 0)).run Tryz.prog w = .ok (.bool true) w := Lib.run_eql_slice_nil w 38 47 _ _ _ _ _ Tryz.underlying38
  have HE : Hid (vs = []) := Lib.hid (by
   rcases Nat.eq_zero_or_pos vs.length with h0 | h0
   ·exact List.eq_nil_of_length_eq_zero h0
   ·obtain ⟨_, _, e, _⟩ := h h0; cases e)
  have HZ : Hid (n = 0) := Lib.hid (by rw [hn, HE.out]; rfl)
  clear h hl hw hn
  go_enter Tryz.func65, Tryz.ntmps65
  go_wp2
  go_ret
  exact ⟨none, 0, by rw [HZ.out]; rfl, by rw [HE.out]; exact Lib.hid (OwnK.none_ w _ _ _), Lib.hid (Below.refl _ _)⟩
 | some ad =>
  have hnil : (binOp .eql 38 (.slice (some ad) n cap) (.slice none 0 0)).run Tryz.prog w = .ok (.bool false) w := Lib.run_eql_slice_nil w 38 47 _ _ _ _ _ Tryz.underlying38
  clear h hl hw hn
  have B1 : Hid (Below w.heap.size w (w.alloc (.cells #[] 47))) := Lib.hid ((Below.refl _ _).alloc (Nat.le_refl _) _)
  go_enter Tryz.func65, Tryz.ntmps65
  go_wp2_with (at_builtin; refine wp_appKa (vs := []) (us := vs) rfl (.tmp 5) (.tmp 6) rfl Tryz.underlying38 infoT rfl (by decide) (by decide) rfl rfl (OwnK.lit (w := w) [] (Wide.nil 4) (by decide) #[] rfl) (by simp) rfl HN.out HW.out (H.out.below B1.out) (by have := HL.out; simp; omega) ?_; intro A4 cap4 w4 o4 g4 q4; rw [List.nil_append] at o4; have O4 := Lib.hid o4; have G4 := Lib.hid g4; clear o4 g4 q4)
  go_ret
  refine ⟨A4, cap4, by rw [HN.out]; simp, O4, Lib.hid (B1.out.grown G4.out (by simp) fun k hk => ?_)⟩
  simp [Value.ownBlock] at hk
  omega
end Go.Proofs.YtkbekojnmdgdgaaGreatDoor
/- RnOwn -/
namespace Go.Proofs.YtkbekojnmdgdgaaGreatDoor
open Go.RowKit
def tkV (k : Rn.Tk) : List Value := [.int .i64 k.ph, .int .i64 k.tr, .int .i64 k.un, .string (str k.da)]
def sgV (s : Tx.T) : List Value := [.string (str s)]
def zV (z : Int) : List Value := [.int .i64 z]
theorem tkV_wide (ts : List Rn.Tk) : Wide 4 (ts.map tkV) := fun v hv => by
 obtain ⟨x, _, rfl⟩ := List.mem_map.1 hv
 exact ⟨rfl, fun u hu => by simp [tkV] at hu; rcases hu with rfl | rfl | rfl | rfl <;> rfl⟩
theorem sgV_wide (sg : List Tx.T) : Wide 1 (sg.map sgV) := fun v hv => by
 obtain ⟨x, _, rfl⟩ := List.mem_map.1 hv
 exact ⟨rfl, fun u hu => by simp [sgV] at hu; rcases hu with rfl; rfl⟩
theorem zV_wide (zs : List Int) : Wide 1 (zs.map zV) := fun v hv => by
 obtain ⟨x, _, rfl⟩ := List.mem_map.1 hv
 exact ⟨rfl, fun u hu => by simp [zV] at hu; rcases hu with rfl; rfl⟩
theorem src_of {w : World} {A : Option Addr} {vs : List (List Value)} {k : Nat} (hk : 0 < k) (hw : Wide k vs)
  (h : 0 < vs.length → ∃ b off, A = some ⟨b, off, none⟩ ∧ b < w.heap.size ∧ ∀ i, i < vs.length → ∀ j, j < k → w.cell? ⟨b, off + i * k + j, none⟩ = (vs.getD i [])[j]?) : Src w A vs := fun hn => by
 obtain ⟨b, off, e, hb, hc⟩ := h hn
 refine ⟨b, off, e, hb, fun j u hu => ?_⟩
 have hj := (List.getElem?_eq_some_iff.1 hu).1
 rw [hw.len] at hj
 have h1 : j / k < vs.length := by rw [Nat.div_lt_iff_lt_mul hk]; exact hj
 have h2 := hw.get (j / k) (j % k) h1 (Nat.mod_lt _ hk)
 have e2 : j / k * k + j % k = j := by rw [Nat.mul_comm]; exact Nat.div_add_mod j k
 rw [e2, hu] at h2
 rw [h2, ← hc _ h1 _ (Nat.mod_lt _ hk), Nat.add_assoc, e2]
theorem getD_map {α : Type} {f : α → List Value} {l : List α} {i : Nat} (hi : i < l.length) : (l.map f).getD i [] = f l[i] := by
 rw [List.getD_eq_getElem?_getD, List.getElem?_map, List.getElem?_eq_getElem hi]
 rfl
theorem getD_at {α : Type} {d : α} {l : List α} {i : Nat} (hi : i < l.length) : l.getD i d = l[i] := by
 rw [List.getD_eq_getElem?_getD, List.getElem?_eq_getElem hi]
 rfl
theorem four_cases {p : Nat → Prop} (h0 : p 0) (h1 : p 1) (h2 : p 2) (h3 : p 3) : ∀ j, j < 4 → p j
 | 0, _ => h0
 | 1, _ => h1
 | 2, _ => h2
 | 3, _ => h3
 | j + 4, h => by omega
theorem six_cases {p : Nat → Prop} (h0 : p 0) (h1 : p 1) (h2 : p 2) (h3 : p 3) (h4 : p 4) (h5 : p 5) : ∀ j, j < 6 → p j
 | 0, _ => h0
 | 1, _ => h1
 | 2, _ => h2
 | 3, _ => h3
 | 4, _ => h4
 | 5, _ => h5
 | j + 6, h => by omega
theorem TksO.src {w : World} {O : Nat → Prop} {A : Option Addr} {ts : List Rn.Tk} (h : TksO w O A ts) : Src w A (ts.map tkV) :=
 src_of (by decide) (tkV_wide ts) fun hn => by
  rw [List.length_map] at hn
  obtain ⟨b, off, e, _, hb, hc⟩ := h.2 hn
  refine ⟨b, off, e, hb, fun i hi => ?_⟩
  rw [List.length_map] at hi
  obtain ⟨c0, c1, c2, c3⟩ := hc i hi
  rw [getD_at hi] at c0 c1 c2 c3
  rw [getD_map hi]
  exact four_cases c0 c1 c2 c3
theorem SigsO.src {w : World} {O : Nat → Prop} {A : Option Addr} {sg : List Tx.T} (h : SigsO w O A sg) : Src w A (sg.map sgV) :=
 src_of (by decide) (sgV_wide sg) fun hn => by
  rw [List.length_map] at hn
  obtain ⟨b, off, e, _, hb, hc⟩ := h hn
  refine ⟨b, off, e, hb, fun i hi => ?_⟩
  rw [List.length_map] at hi
  have c0 := hc i hi
  simp only [getD_at hi] at c0
  rw [getD_map hi]
  intro j hj
  obtain rfl : j = 0 := by omega
  exact c0
theorem ZsO.src {w : World} {O : Nat → Prop} {A : Option Addr} {zs : List Int} (h : ZsO w O A zs) : Src w A (zs.map zV) :=
 src_of (by decide) (zV_wide zs) fun hn => by
  rw [List.length_map] at hn
  obtain ⟨b, off, e, _, hb, hc⟩ := h.2 hn
  refine ⟨b, off, e, hb, fun i hi => ?_⟩
  rw [List.length_map] at hi
  have c0 := hc i hi
  simp only [getD_at hi] at c0
  rw [getD_map hi]
  intro j hj
  obtain rfl : j = 0 := by omega
  exact c0
theorem OwnK.rowO {w : World} {base k cap : Nat} {T : TypeId} {A : Option Addr} {vs : List (List Value)} (h : OwnK w base T k A cap vs) {O : Nat → Prop} (hO : ∀ a, A = some a → O a.block) {n : Nat} (hn : n = vs.length) {P : Nat → (Nat → Option Value) → Prop}
  (hP : ∀ i (c : Nat → Option Value), i < n → (∀ j, j < k → c j = (vs.getD i [])[j]?) → P i c) : RowO w O A n k P := fun h0 => by
 subst hn
 obtain ⟨g, rfl, _, hg⟩ := h.shape h0
 refine ⟨g, 0, rfl, hO _ rfl, hg, fun i hi => hP i _ hi fun j hj => ?_⟩
 show w.cell? ⟨g, 0 + i * k + j, none⟩ = _
 rw [Nat.zero_add]
 have hl : j < (vs.getD i []).length := by
  rw [getD_at hi, (h.2 _ (List.getElem_mem hi)).1]
  exact hj
 exact (h.cell hi hj (List.getElem?_eq_getElem hl)).trans (List.getElem?_eq_getElem hl).symm
theorem OwnK.tks {w : World} {base cap : Nat} {T : TypeId} {A : Option Addr} {ts : List Rn.Tk} (h : OwnK w base T 4 A cap (ts.map tkV)) (hi : ∀ k ∈ ts, tkIn k) {O : Nat → Prop} (hO : ∀ a, A = some a → O a.block) : TksO w O A ts :=
 ⟨hi, h.rowO hO (by rw [List.length_map]) fun i c hi2 hc => by
  rw [getD_map hi2] at hc
  rw [getD_at hi2]
  exact ⟨hc 0 (by decide), hc 1 (by decide), hc 2 (by decide), hc 3 (by decide)⟩⟩
theorem OwnK.sigs {w : World} {base cap : Nat} {T : TypeId} {A : Option Addr} {sg : List Tx.T} (h : OwnK w base T 1 A cap (sg.map sgV)) {O : Nat → Prop} (hO : ∀ a, A = some a → O a.block) : SigsO w O A sg :=
 h.rowO hO (by rw [List.length_map]) fun i c hi2 hc => by
  rw [getD_map hi2] at hc
  rw [getD_at hi2]
  exact hc 0 (by decide)
theorem OwnK.zsO {w : World} {base cap : Nat} {T : TypeId} {A : Option Addr} {zs : List Int} (h : OwnK w base T 1 A cap (zs.map zV)) (hi : ∀ i, i < zs.length → inI (zs.getD i 0)) {O : Nat → Prop} (hO : ∀ a, A = some a → O a.block) : ZsO w O A zs :=
 ⟨hi, h.rowO hO (by rw [List.length_map]) fun i c hi2 hc => by
  rw [getD_map hi2] at hc
  rw [getD_at hi2]
  exact hc 0 (by decide)⟩
def dV (d : Df.D) (f : Nat → Option Addr × Nat) : List (List Value) := (List.range d.length).map fun i => taskV (d.getD i tz) (f i)
theorem dV_len (d : Df.D) (f : Nat → Option Addr × Nat) : (dV d f).length = d.length := by simp [dV]
theorem dV_wide (d : Df.D) (f : Nat → Option Addr × Nat) : Wide 6 (dV d f) := fun v hv => by
 obtain ⟨x, _, rfl⟩ := List.mem_map.1 hv
 exact ⟨rfl, fun u hu => by simp [taskV] at hu; rcases hu with rfl | rfl | rfl | rfl | rfl | rfl <;> rfl⟩
theorem dV_at {d : Df.D} {f : Nat → Option Addr × Nat} {i : Nat} (hi : i < d.length) : (dV d f).getD i [] = taskV (d.getD i tz) (f i) := by
 unfold dV
 rw [getD_map (by simpa using hi), List.getElem_range]
theorem dV_get {d : Df.D} {f : Nat → Option Addr × Nat} {i : Nat} (h : i < (dV d f).length) : (dV d f)[i] = taskV (d.getD i tz) (f i) := by
 simp only [dV, List.getElem_map, List.getElem_range]
theorem dV_set {d : Df.D} {f : Nat → Option Addr × Nat} {k : Nat} (hk : k < d.length) (A : Option Addr) (c : Nat) :
  (dV d f).set k (((dV d f).getD k []).set 1 (.slice A (d.getD k tz).after.length c)) = dV d fun i => if i = k then (A, c) else f i := by
 rw [dV_at hk]
 refine List.ext_getElem (by rw [List.length_set, dV_len, dV_len]) fun i h1 h2 => ?_
 rw [List.getElem_set, dV_get, dV_get]
 by_cases e : k = i
 ·subst e
  rw [if_pos rfl, if_pos rfl]
  rfl
 ·rw [if_neg e, if_neg fun h => e h.symm]
def NumsAt (w : World) (O : Nat → Prop) (d : Df.D) (f : Nat → Option Addr × Nat) (i : Nat) : Prop := ZsO w O (f i).1 (d.getD i tz).after ∧ (d.getD i tz).after.length ≤ (f i).2
theorem DefO.src {w : World} {O : Nat → Prop} {A : Option Addr} {d : Df.D} (h : DefO w O A d) : ∃ f, Src w A (dV d f) ∧ ∀ i, i < d.length → NumsAt w O d f i := by
 rcases Nat.eq_zero_or_pos d.length with h0 | h0
 ·exact ⟨fun _ => (none, 0), fun hn => by rw [dV_len] at hn; omega, fun i hi => by omega⟩
 ·obtain ⟨b, off, e, _, hb, hc⟩ := h.2 h0
  have hs : ∀ i, ∃ q : Option Addr × Nat, i < d.length → NumsAt w O d (fun _ => q) i ∧ ∀ j, j < 6 → w.cell? ⟨b, off + i * 6 + j, none⟩ = (taskV (d.getD i tz) q)[j]? := fun i => by
   by_cases hi : i < d.length
   ·obtain ⟨A2, c2, h0, h1, h2, h3, h4, h5, h6, h7⟩ := hc i hi
    exact ⟨(A2, c2), fun _ => ⟨⟨h6, h7⟩, six_cases h0 h1 h2 h3 h4 h5⟩⟩
   ·exact ⟨(none, 0), fun h => absurd h hi⟩
  obtain ⟨f, hf⟩ := Classical.skolem.1 hs
  refine ⟨f, src_of (by decide) (dV_wide d f) fun _ => ⟨b, off, e, hb, fun i hi => ?_⟩, fun i hi => (hf i hi).1⟩
  rw [dV_len] at hi
  rw [dV_at hi]
  exact (hf i hi).2
theorem OwnK.defO {w : World} {base cap : Nat} {T : TypeId} {A : Option Addr} {d : Df.D} {f : Nat → Option Addr × Nat} (h : OwnK w base T 6 A cap (dV d f)) (hi : ∀ t ∈ d, numIn t) {O : Nat → Prop} (hO : ∀ a, A = some a → O a.block) (hf : ∀ i, i < d.length → NumsAt w O d f i) : DefO w O A d :=
 ⟨hi, h.rowO hO (by rw [dV_len]) fun i c hi2 hc => by
  rw [dV_at hi2] at hc
  exact ⟨(f i).1, (f i).2, hc 0 (by decide), hc 1 (by decide), hc 2 (by decide), hc 3 (by decide), hc 4 (by decide), hc 5 (by decide), (hf i hi2).1, (hf i hi2).2⟩⟩
def Off (b : Nat) (A : Option Addr) : Prop := ∀ a, A = some a → a.block ≠ b
structure Own3 (w : World) (base : Nat) (p : At3) (r : Rn.R) : Prop where
 d : DefO w (fun b => base ≤ b ∧ Off b p.T ∧ Off b p.S) p.A r.d
 dc : r.d.length ≤ p.ca
 t : OwnK w base 47 4 p.T p.ct (r.ts.map tkV)
 ti : ∀ k ∈ r.ts, tkIn k
 s : OwnK w base 9 1 p.S p.cs (r.sg.map sgV)
 ap : ∀ a, p.S = some a → Off a.block p.T
theorem OwnK.own {w : World} {base k cap : Nat} {T : TypeId} {A : Option Addr} {vs : List (List Value)} (h : OwnK w base T k A cap vs) : ∀ a, A = some a → base ≤ a.block := fun a e => by subst e; exact h.lt.1
theorem OwnK.kept {w w' : World} {base k cap : Nat} {T : TypeId} {A : Option Addr} {vs : List (List Value)} (h : OwnK w base T k A cap vs) (hk : ∀ b, base ≤ b → b < w.heap.size → w'.heap[b]? = w.heap[b]?) : OwnK w' base T k A cap vs :=
 h.keep fun a e => by subst e; exact hk _ h.lt.1 h.lt.2
theorem Own3.runO {w : World} {base : Nat} {p : At3} {r : Rn.R} (h : Own3 w base p r) : RunO w (fun b => base ≤ b) p r :=
 ⟨h.d.imp fun _ _ hb => hb.1, h.dc, h.t.tks h.ti h.t.own, by have := h.t.cap_; rwa [List.length_map] at this, h.s.sigs h.s.own, by have := h.s.cap_; rwa [List.length_map] at this⟩
theorem Own3.keep {w w' : World} {base : Nat} {p : At3} {r : Rn.R} (h : Own3 w base p r) (hs : w.heap.size ≤ w'.heap.size) (hk : ∀ b, base ≤ b → b < w.heap.size → w'.heap[b]? = w.heap[b]?) : Own3 w' base p r :=
 ⟨h.d.keep hs fun b hb hl => hk b hb.1 hl, h.dc, h.t.kept hk, h.ti, h.s.kept hk, h.ap⟩
theorem Own3.grew {w w' : World} {base : Nat} {p : At3} {r : Rn.R} (h : Own3 w base p r) (hb : Below w.heap.size w w') : Own3 w' base p r := h.keep hb.size fun b _ hl => hb.block b hl
end Go.Proofs.YtkbekojnmdgdgaaGreatDoor
/- RnEq -/
namespace Go.Proofs.YtkbekojnmdgdgaaGreatDoor
open Go.RowKit
theorem wf_inI {a : Int} (h : inI a) : (Lit.int .i64 a).wf = true := by
 unfold inI at h
 simpa [Lit.wf, IntKind.min, IntKind.max, IntKind.bits, IntKind.signed] using h
theorem int_cellsT : Tryz.prog.cellsOf 3 = 1 := by kernel_rfl
theorem int64_cellsT : Tryz.prog.cellsOf 2 = 1 := by kernel_rfl
theorem str_cellsT : Tryz.prog.cellsOf 9 = 1 := by kernel_rfl
def tkl (k : Rn.Tk) : List Lit := [.int .i64 k.ph, .int .i64 k.tr, .int .i64 k.un, .string k.da]
theorem tkl_inj (a b : Rn.Tk) : tkl a = tkl b ↔ a = b := by
 constructor
 ·intro h
  unfold tkl at h
  simp only [List.cons.injEq, Lit.int.injEq, Lit.string.injEq, true_and, and_true] at h
  obtain ⟨h1, h2, h3, h4⟩ := h
  obtain ⟨p, t, u, d⟩ := a
  obtain ⟨p', t', u', d'⟩ := b
  simp only at *
  subst h1 h2 h3 h4
  rfl
 ·rintro rfl; rfl
theorem tk_cells : Tryz.prog.cellsOf 47 = 4 := by kernel_rfl
theorem tk_key : Tryz.prog.keyTypeAt 2 47 = true := by kernel_rfl
def tkv (k : Rn.Tk) : Array Value := #[.int .i64 k.ph, .int .i64 k.tr, .int .i64 k.un, .string (str k.da)]
theorem tk_lits (k : Rn.Tk) (h : tkIn k) (hd : k.da.length ≤ 9223372036854775807) : Tryz.prog.keyLits 2 47 (tkv k).toList = some (tkl k) := by
 have h1 : ∀ x : Int, inI x → Tryz.prog.keyLits 1 3 [.int .i64 x] = some [.int .i64 x] := fun x hx => by
  have := wf_inI hx
  simp [Program.keyLits, Tryz.underlying3, this]
 have h2 : ∀ x : Int, inI x → Tryz.prog.keyLits 1 2 [.int .i64 x] = some [.int .i64 x] := fun x hx => by
  have := wf_inI hx
  simp [Program.keyLits, Tryz.underlying2, this]
 have h3 : ∀ s : Tx.T, s.length ≤ 9223372036854775807 → Tryz.prog.keyLits 1 9 [.string (str s)] = some [.string s] := fun s hs => by
  simp [Program.keyLits, Tryz.underlying9, str]
  exact hs
 conv => lhs; unfold Program.keyLits
 simp only [Tryz.underlying47, tk_cells]
 unfold tkv tkl
 simp [h1 _ h.1, h1 _ h.2.1, h2 _ h.2.2, h3 _ hd, int_cellsT, int64_cellsT, str_cellsT]
theorem tk_formed (k : Rn.Tk) : (Value.agg (tkv k)).formed Tryz.prog 47 = true := by simp [Value.formed, Tryz.underlying47, tk_cells, tkv]
theorem tk_run (a b : Rn.Tk) (ha : tkIn a) (hb : tkIn b) (la : a.da.length ≤ 9223372036854775807) (lb : b.da.length ≤ 9223372036854775807) (W : World) : (Op.equalIn 10000 47 (.agg (tkv a)) (.agg (tkv b))).run Tryz.prog W = .ok (decide (a = b)) W := by
 obtain ⟨r, hr, hiff⟩ := run_equalIn_deep 9998 2 47 tk_key W 2 2 (.agg (tkv a)) (.agg (tkv b)) _ _ (tk_formed a) (tk_formed b) (tk_lits a ha la) (tk_lits b hb lb)
 rw [hr]
 have e : r = decide (a = b) := by
  rw [Bool.eq_iff_iff, hiff, tkl_inj]
  simp
 rw [e]
theorem tk_neq (a b : Rn.Tk) (ha : tkIn a) (hb : tkIn b) (la : a.da.length ≤ 9223372036854775807) (lb : b.da.length ≤ 9223372036854775807) (W : World) : (binOp .neq 47 (.agg (tkv a)) (.agg (tkv b))).run Tryz.prog W = .ok (.bool (!decide (a = b))) W := by
 rw [run_neq_struct, tk_run a b ha hb la lb]; rfl
end Go.Proofs.YtkbekojnmdgdgaaGreatDoor
