/-
  Part 11 of the texts behind the law: TFlMem, TFlStMem.
-/
import Derived.Test.YtkbekojnmdgdgaaGreatDoorTf4
import Derived.Test.YtkbekojnmdgdgaaGreatDoorTf6
import Derived.Test.YtkbekojnmdgdgaaGreatDoorTf7
import Derived.Test.YtkbekojnmdgdgaaGreatDoorTf5
import Derived.Test.YtkbekojnmdgdgaaGreatDoorTf1
import Derived.Test.YtkbekojnmdgdgaaGreatDoorTf10
import Derived.Test.YtkbekojnmdgdgaaGreatDoorTf8
/- FlMem -/
namespace Go.Proofs.YtkbekojnmdgdgaaGreatDoor
open Go.RowKit Go.Maps
set_option maxRecDepth 20000
def dfV (p : ByteArray × Df.D) : List Value := [.string p.1, .string (str (Df.showT p.2))]
def ofV (p : Rn.R × ByteArray) : List Value := [.string p.2]
def rnV (p : At3) (r : Rn.R) : List Value := [.slice p.A r.d.length p.ca, .int .i64 r.st, .slice p.T r.ts.length p.ct, .slice p.S r.sg.length p.cs]
def rAt (l : List (Rn.R × ByteArray)) (i : Nat) : Rn.R := (l.getD i (Rn.r0, ByteArray.empty)).1
def rsV (l : List (Rn.R × ByteArray)) (f : Nat → At3) : List (List Value) := (List.range l.length).map fun i => rnV (f i) (rAt l i)
theorem dfV_wide (l : List (ByteArray × Df.D)) : Wide 2 (l.map dfV) := fun v hv => by
 obtain ⟨t, _, rfl⟩ := List.mem_map.1 hv
 exact ⟨rfl, fun u hu => by simp [dfV] at hu; rcases hu with rfl | rfl <;> rfl⟩
theorem ofV_wide (l : List (Rn.R × ByteArray)) : Wide 1 (l.map ofV) := fun v hv => by
 obtain ⟨t, _, rfl⟩ := List.mem_map.1 hv
 exact ⟨rfl, fun u hu => by simp [ofV] at hu; rcases hu with rfl; rfl⟩
theorem rnV_wide (p : At3) (r : Rn.R) : (rnV p r).length = 4 ∧ ∀ u ∈ rnV p r, u.oneCell' = true := ⟨rfl, fun u hu => by simp [rnV] at hu; rcases hu with rfl | rfl | rfl | rfl <;> rfl⟩
theorem rsV_len (l : List (Rn.R × ByteArray)) (f : Nat → At3) : (rsV l f).length = l.length := by simp [rsV]
theorem rsV_at {l : List (Rn.R × ByteArray)} {f : Nat → At3} {i : Nat} (hi : i < l.length) : (rsV l f).getD i [] = rnV (f i) (rAt l i) := by
 unfold rsV
 rw [getD_map (by simpa using hi), List.getElem_range]
theorem rsV_get {l : List (Rn.R × ByteArray)} {f : Nat → At3} {i : Nat} (h : i < (rsV l f).length) : (rsV l f)[i] = rnV (f i) (rAt l i) := by
 simp only [rsV, List.getElem_map, List.getElem_range]
theorem rAt_get {l : List (Rn.R × ByteArray)} {i : Nat} (h : i < l.length) : rAt l i = l[i].1 := by
 unfold rAt
 rw [List.getD_eq_getElem?_getD, List.getElem?_eq_getElem h]
 rfl
theorem rsV_set {l : List (Rn.R × ByteArray)} {f : Nat → At3} {k : Nat} (hk : k < l.length) (p : At3) (r : Rn.R) :
  (rsV l f).set k (rnV p r) = rsV (l.modify k fun q => (r, q.2)) fun i => if i = k then p else f i := by
 refine List.ext_getElem (by rw [List.length_set, rsV_len, rsV_len, List.length_modify]) fun i h1 h2 => ?_
 have h3 : i < l.length := by rw [List.length_set, rsV_len] at h1; exact h1
 rw [List.getElem_set, rsV_get, rsV_get, rAt_get (l := l) h3, rAt_get (l := l.modify k fun q => (r, q.2)) (by rw [List.length_modify]; exact h3), List.getElem_modify]
 by_cases e : k = i
 ·subst e
  rw [if_pos rfl, if_pos rfl, if_pos rfl]
 ·rw [if_neg e, if_neg e, if_neg fun h => e h.symm]
theorem rsV_app (l : List (Rn.R × ByteArray)) (f : Nat → At3) (p : At3) (r : Rn.R) (n : ByteArray) :
  rsV l f ++ [rnV p r] = rsV (l ++ [(r, n)]) fun i => if i = l.length then p else f i := by
 refine List.ext_getElem (by simp [rsV_len]) fun i h1 h2 => ?_
 rw [rsV_get, List.getElem_append]
 rw [rsV_len, List.length_append, List.length_singleton] at h2
 rw [rAt_get (by rw [List.length_append, List.length_singleton]; exact h2), List.getElem_append]
 by_cases h : i < l.length
 ·rw [dif_pos (by rw [rsV_len]; exact h), dif_pos h, rsV_get, rAt_get h, if_neg (by omega)]
 ·obtain rfl : i = l.length := by omega
  rw [dif_neg (by rw [rsV_len]; exact h), dif_neg h, if_pos rfl]
  simp
structure FAt where
 D : Option Addr
 cd : Nat
 R : Option Addr
 cr : Nat
 F : Option Addr
 cf : Nat
 k : Nat
 K : Nat → Prop
 f : Nat → At3
 Q : Nat → Prop
def isB (A : Option Addr) (i : Nat) : Prop := ∃ x, A = some x ∧ i = x.block
def mine (g : Nat) (a : FAt) (i : Nat) : Prop := i = g ∨ isB a.D i ∨ isB a.R i ∨ isB a.F i ∨ a.K i
def flC (a : FAt) (s : Fw.S) : Array Value := #[.int .i64 s.clock, .slice a.D s.defs.length a.cd, .slice a.R s.runs.length a.cr, .slice a.F s.runs.length a.cf, .pointer (some ⟨a.k, 0, none⟩)]
structure FPM (w : World) (g : Nat) (a : FAt) (s : Fw.S) : Prop where
 obj : w.heap[g]? = some (.cells (flC a s) 75 (0, 0))
 defs : OwnK w 0 81 2 a.D a.cd (s.defs.map dfV)
 runs : OwnK w 0 41 4 a.R a.cr (rsV s.runs a.f)
 of : OwnK w 0 9 1 a.F a.cf (s.runs.map ofV)
 keys : PK w a.k a.K (Fw.ks s)
 inner : ∀ i, i < s.runs.length → RunO w a.Q (a.f i) (rAt s.runs i)
 q : ∀ b, a.Q b → b < w.heap.size ∧ ¬ mine g a b
 sz : ∀ p ∈ s.defs, p.1.size ≤ 9223372036854775807 ∧ (Df.showT p.2).length ≤ 9223372036854775807
 dm : s.defs.length ≤ 16
 rm : s.runs.length ≤ 64
def FP (w : World) (g : Nat) (M R : Nat → Prop) (s : Fw.S) : Prop := ∃ a, FPM w g a s ∧ (∀ i, M i ↔ mine g a i) ∧ ∀ i, R i ↔ mine g a i ∨ a.Q i
theorem OwnK.kindB {w : World} {base k cap : Nat} {T : TypeId} {A : Option Addr} {vs : List (List Value)} (h : OwnK w base T k A cap vs) {i : Nat} (hi : isB A i) : ∃ cur, w.heap[i]? = some (.cells cur T (0, 0)) := by
 obtain ⟨x, rfl, rfl⟩ := hi
 exact h.block_
theorem PK.kind {w : World} {g : Nat} {O : Nat → Prop} {s : Ky.S} (h : PK w g O s) {i : Nat} (hi : O i) : (∃ es n, w.heap[i]? = some (.map es n)) ∨ (∃ cur, w.heap[i]? = some (.cells cur 101 (0, 0))) ∨ ∃ cur, w.heap[i]? = some (.cells cur 63 (0, 0)) := by
 obtain ⟨m, A, c, p, ho⟩ := h
 rcases (ho i).1 hi with rfl | rfl | ⟨a, ha, rfl⟩
 ·exact .inr (.inl ⟨_, p.obj⟩)
 ·obtain ⟨D, ⟨es, clock, hb, _⟩, _⟩ := p.map
  exact .inl ⟨_, _, hb⟩
 ·subst ha
  exact .inr (.inr p.row.block_)
theorem block_ne {w : World} {i j : Nat} {c1 c2 : Array Value} {T1 T2 : TypeId} {z1 z2 : Nat × Nat} (h1 : w.heap[i]? = some (.cells c1 T1 z1)) (h2 : w.heap[j]? = some (.cells c2 T2 z2)) (hT : T1 ≠ T2) : i ≠ j := by
 rintro rfl
 rw [h1] at h2
 injection h2 with h2
 injection h2 with _ h3 _
 exact hT h3
theorem PK.neT {w : World} {g : Nat} {O : Nat → Prop} {s : Ky.S} (h : PK w g O s) {i j : Nat} (hi : O i) {c : Array Value} {T : TypeId} {z : Nat × Nat} (hj : w.heap[j]? = some (.cells c T z)) (h1 : 101 ≠ T) (h2 : 63 ≠ T) : i ≠ j := by
 rcases h.kind hi with ⟨es, n, e⟩ | ⟨cur, e⟩ | ⟨cur, e⟩
 ·rintro rfl
  rw [e] at hj
  cases hj
 ·exact block_ne e hj h1
 ·exact block_ne e hj h2
section
variable {w w' : World} {g : Nat} {a : FAt} {s : Fw.S}
structure FPM.Apart (g : Nat) (a : FAt) : Prop where
 d : ¬ isB a.D g
 r : ¬ isB a.R g
 f : ¬ isB a.F g
 k : ¬ a.K g
 dr : ∀ i, isB a.D i → ¬ isB a.R i
 df : ∀ i, isB a.D i → ¬ isB a.F i
 rf : ∀ i, isB a.R i → ¬ isB a.F i
 dk : ∀ i, isB a.D i → ¬ a.K i
 rk : ∀ i, isB a.R i → ¬ a.K i
 fk : ∀ i, isB a.F i → ¬ a.K i
theorem FPM.apart (h : FPM w g a s) : FPM.Apart g a where
 d := fun hi => by obtain ⟨c, e⟩ := h.defs.kindB hi; exact block_ne e h.obj (by decide) rfl
 r := fun hi => by obtain ⟨c, e⟩ := h.runs.kindB hi; exact block_ne e h.obj (by decide) rfl
 f := fun hi => by obtain ⟨c, e⟩ := h.of.kindB hi; exact block_ne e h.obj (by decide) rfl
 k := fun hi => h.keys.neT hi h.obj (by decide) (by decide) rfl
 dr := fun i h1 h2 => by obtain ⟨c, e⟩ := h.defs.kindB h1; obtain ⟨c2, e2⟩ := h.runs.kindB h2; exact block_ne e e2 (by decide) rfl
 df := fun i h1 h2 => by obtain ⟨c, e⟩ := h.defs.kindB h1; obtain ⟨c2, e2⟩ := h.of.kindB h2; exact block_ne e e2 (by decide) rfl
 rf := fun i h1 h2 => by obtain ⟨c, e⟩ := h.runs.kindB h1; obtain ⟨c2, e2⟩ := h.of.kindB h2; exact block_ne e e2 (by decide) rfl
 dk := fun i h1 h2 => by obtain ⟨c, e⟩ := h.defs.kindB h1; exact h.keys.neT h2 e (by decide) (by decide) rfl
 rk := fun i h1 h2 => by obtain ⟨c, e⟩ := h.runs.kindB h1; exact h.keys.neT h2 e (by decide) (by decide) rfl
 fk := fun i h1 h2 => by obtain ⟨c, e⟩ := h.of.kindB h1; exact h.keys.neT h2 e (by decide) (by decide) rfl
theorem OwnK.ltB {base k cap : Nat} {T : TypeId} {A : Option Addr} {vs : List (List Value)} (h : OwnK w base T k A cap vs) {i : Nat} (hi : isB A i) : i < w.heap.size := by
 obtain ⟨x, rfl, rfl⟩ := hi
 exact h.lt.2
theorem OwnK.keepB {base k cap : Nat} {T : TypeId} {A : Option Addr} {vs : List (List Value)} (h : OwnK w base T k A cap vs) (hk : ∀ i, isB A i → w'.heap[i]? = w.heap[i]?) : OwnK w' base T k A cap vs := h.keep fun a ha => hk _ ⟨a, ha, rfl⟩
theorem FPM.lt (h : FPM w g a s) : ∀ i, mine g a i ∨ a.Q i → i < w.heap.size := fun i hi => by
 rcases hi with (rfl | hi | hi | hi | hi) | hi
 ·exact lt_of_block h.obj
 ·exact h.defs.ltB hi
 ·exact h.runs.ltB hi
 ·exact h.of.ltB hi
 ·exact h.keys.lt i hi
 ·exact (h.q i hi).1
theorem FPM.keep (h : FPM w g a s) (hs : w.heap.size ≤ w'.heap.size) (hk : ∀ i, mine g a i ∨ a.Q i → w'.heap[i]? = w.heap[i]?) : FPM w' g a s where
 obj := (hk g (.inl (.inl rfl))).trans h.obj
 defs := h.defs.keepB fun i hi => hk i (.inl (.inr (.inl hi)))
 runs := h.runs.keepB fun i hi => hk i (.inl (.inr (.inr (.inl hi))))
 of := h.of.keepB fun i hi => hk i (.inl (.inr (.inr (.inr (.inl hi)))))
 keys := h.keys.keep hs fun i hi => hk i (.inl (.inr (.inr (.inr (.inr hi)))))
 inner := fun i hi => (h.inner i hi).keep hs fun b hb _ => hk b (.inr hb)
 q := fun b hb => ⟨Nat.lt_of_lt_of_le (h.q b hb).1 hs, (h.q b hb).2⟩
 sz := h.sz
 dm := h.dm
 rm := h.rm
theorem FPM.on (h : FPM w g a s) (hb : Below w.heap.size w w') : FPM w' g a s := h.keep hb.size fun i hi => hb.block i (h.lt i hi)
theorem FP.keep {M R : Nat → Prop} (h : FP w g M R s) (hs : w.heap.size ≤ w'.heap.size) (hk : ∀ i, R i → w'.heap[i]? = w.heap[i]?) : FP w' g M R s := by
 obtain ⟨a, h, hm, hr⟩ := h
 exact ⟨a, h.keep hs fun i hi => hk i ((hr i).2 hi), hm, hr⟩
theorem FP.lt {M R : Nat → Prop} (h : FP w g M R s) : ∀ i, R i → i < w.heap.size := fun i hi => by
 obtain ⟨a, h, hm, hr⟩ := h
 exact h.lt i ((hr i).1 hi)
theorem FP.sub {M R : Nat → Prop} (h : FP w g M R s) : ∀ i, M i → R i := fun i hi => by
 obtain ⟨a, h, hm, hr⟩ := h
 exact (hr i).2 (.inl ((hm i).1 hi))
theorem FPM.fp (h : FPM w g a s) : FP w g (mine g a) (fun i => mine g a i ∨ a.Q i) s := ⟨a, h, fun _ => Iff.rfl, fun _ => Iff.rfl⟩
end
structure FStep (M R M2 R2 : Nat → Prop) (w w' : World) : Prop where
 only : Only M w w'
 m : ∀ k, M2 k → M k ∨ w.heap.size ≤ k
 r : ∀ k, R2 k → R k ∨ w.heap.size ≤ k
theorem obF {w : World} {g : Nat} {v0 v1 v2 v3 v4 : Value} {t : TypeId} (h : w.heap[g]? = some (.cells #[v0, v1, v2, v3, v4] t (0, 0))) :
  (w.cell? ⟨g, 0, none⟩ = some v0 ∧ w.cell? ⟨g, 1, none⟩ = some v1 ∧ w.cell? ⟨g, 2, none⟩ = some v2 ∧ w.cell? ⟨g, 3, none⟩ = some v3 ∧ w.cell? ⟨g, 4, none⟩ = some v4) ∧
   w.frozen? ⟨g, 0, none⟩ = false ∧ w.frozen? ⟨g, 1, none⟩ = false ∧ w.frozen? ⟨g, 2, none⟩ = false ∧ w.frozen? ⟨g, 3, none⟩ = false ∧ w.frozen? ⟨g, 4, none⟩ = false :=
 ⟨⟨by simp [World.cell?, h], by simp [World.cell?, h], by simp [World.cell?, h], by simp [World.cell?, h], by simp [World.cell?, h]⟩, by simp [World.frozen?, h], by simp [World.frozen?, h], by simp [World.frozen?, h], by simp [World.frozen?, h], by simp [World.frozen?, h]⟩
theorem FPM.cells {w : World} {g : Nat} {a : FAt} {s : Fw.S} (h : FPM w g a s) :
  (w.cell? ⟨g, 0, none⟩ = some (.int .i64 s.clock) ∧ w.cell? ⟨g, 1, none⟩ = some (.slice a.D s.defs.length a.cd) ∧ w.cell? ⟨g, 2, none⟩ = some (.slice a.R s.runs.length a.cr) ∧ w.cell? ⟨g, 3, none⟩ = some (.slice a.F s.runs.length a.cf) ∧ w.cell? ⟨g, 4, none⟩ = some (.pointer (some ⟨a.k, 0, none⟩))) ∧
   w.frozen? ⟨g, 0, none⟩ = false ∧ w.frozen? ⟨g, 1, none⟩ = false ∧ w.frozen? ⟨g, 2, none⟩ = false ∧ w.frozen? ⟨g, 3, none⟩ = false ∧ w.frozen? ⟨g, 4, none⟩ = false := obF h.obj
theorem dfV_cells {w : World} {base g cap : Nat} {T : TypeId} {l : List (ByteArray × Df.D)} (h : OwnK w base T 2 (some ⟨g, 0, none⟩) cap (l.map dfV)) {k : Nat} (hk : k < l.length) :
  w.cell? ⟨g, k * 2, none⟩ = some (.string l[k].1) ∧ w.cell? ⟨g, k * 2 + 1, none⟩ = some (.string (str (Df.showT l[k].2))) := by
 have key : ∀ (j : Nat) (u : Value), j < 2 → (dfV l[k])[j]? = some u → w.cell? ⟨g, k * 2 + j, none⟩ = some u := fun j u hj hu =>
  h.cell (by rw [List.length_map]; exact hk) hj (by rw [getD_map hk]; exact hu)
 exact ⟨key 0 _ (by decide) rfl, key 1 _ (by decide) rfl⟩
theorem rsV_cells {w : World} {base g cap : Nat} {T : TypeId} {l : List (Rn.R × ByteArray)} {f : Nat → At3} (h : OwnK w base T 4 (some ⟨g, 0, none⟩) cap (rsV l f)) {k : Nat} (hk : k < l.length) :
  w.cell? ⟨g, k * 4, none⟩ = some (.slice (f k).A (rAt l k).d.length (f k).ca) ∧ w.cell? ⟨g, k * 4 + 1, none⟩ = some (.int .i64 (rAt l k).st) ∧ w.cell? ⟨g, k * 4 + 2, none⟩ = some (.slice (f k).T (rAt l k).ts.length (f k).ct) ∧ w.cell? ⟨g, k * 4 + 3, none⟩ = some (.slice (f k).S (rAt l k).sg.length (f k).cs) := by
 have key : ∀ (j : Nat) (u : Value), j < 4 → (rnV (f k) (rAt l k))[j]? = some u → w.cell? ⟨g, k * 4 + j, none⟩ = some u := fun j u hj hu =>
  h.cell (by rw [rsV_len]; exact hk) hj (by rw [rsV_at hk]; exact hu)
 exact ⟨key 0 _ (by decide) rfl, key 1 _ (by decide) rfl, key 2 _ (by decide) rfl, key 3 _ (by decide) rfl⟩
theorem ofV_cell {w : World} {base g cap : Nat} {T : TypeId} {l : List (Rn.R × ByteArray)} (h : OwnK w base T 1 (some ⟨g, 0, none⟩) cap (l.map ofV)) {k : Nat} (hk : k < l.length) : w.cell? ⟨g, k, none⟩ = some (.string l[k].2) := by
 have := h.cell (i := k) (j := 0) (by rw [List.length_map]; exact hk) (by decide) (by rw [getD_map hk]; rfl)
 rwa [Nat.mul_one, Nat.add_zero] at this
theorem infoDf : (Tryz.prog.info? 81).map (fun i => (i.zero, i.size, i.bytes)) = some (some (.agg #[.string ⟨#[]⟩, .string ⟨#[]⟩]), 2, 32) := by kernel_rfl
theorem infoRn : (Tryz.prog.info? 41).map (fun i => (i.zero, i.size, i.bytes)) = some (some (.agg #[.slice none 0 0, .int .i64 0, .slice none 0 0, .slice none 0 0]), 4, 80) := by kernel_rfl
end Go.Proofs.YtkbekojnmdgdgaaGreatDoor
/- FlStMem -/
namespace Go.Proofs.YtkbekojnmdgdgaaGreatDoor
open Go.RowKit
set_option maxRecDepth 20000
def NmsO (w : World) (O : Nat → Prop) (A : Option Addr) (ns : List ByteArray) : Prop := (∀ n ∈ ns, n.size ≤ 9223372036854775807) ∧ RowO w O A ns.length 1 fun i c => c 0 = some (.string (ns.getD i ByteArray.empty))
def runC (w : World) (O : Nat → Prop) (r : Rn.R) (c : Nat → Option Value) : Prop :=
 ∃ p : At3, c 0 = some (.slice p.A r.d.length p.ca) ∧ c 1 = some (.int .i64 r.st) ∧ c 2 = some (.slice p.T r.ts.length p.ct) ∧ c 3 = some (.slice p.S r.sg.length p.cs) ∧ RunO w O p r ∧ inI r.st
def RunsO (w : World) (O : Nat → Prop) (A : Option Addr) (rs : List Rn.R) : Prop := RowO w O A rs.length 4 fun i c => runC w O (rs.getD i Rn.r0) c
structure At5 where
 N : Option Addr
 cn : Nat
 X : Option Addr
 cx : Nat
 R : Option Addr
 cr : Nat
 F : Option Addr
 cf : Nat
 K : Option Addr
 ck : Nat
structure StO (w : World) (O : Nat → Prop) (p : At5) (t : Fw.St) : Prop where
 clock : inI t.clock
 names : NmsO w O p.N t.names
 nc : t.names.length ≤ p.cn
 texts : NmsO w O p.X t.texts
 xc : t.texts.length ≤ p.cx
 runs : RunsO w O p.R t.runs
 rc : t.runs.length ≤ p.cr
 of : NmsO w O p.F t.of
 fc : t.of.length ≤ p.cf
 keys : Ents w O p.K t.keys
 kok : ∀ k ∈ t.keys, Ky.ok k.name k.key k.id
 kc : t.keys.length ≤ p.ck
def sv (p : At5) (t : Fw.St) : Value := .agg #[.int .i64 t.clock, .slice p.N t.names.length p.cn, .slice p.X t.texts.length p.cx, .slice p.R t.runs.length p.cr, .slice p.F t.of.length p.cf, .slice p.K t.keys.length p.ck]
section
variable {w w' : World} {O O' : Nat → Prop} {A : Option Addr} {p : At5} {t : Fw.St}
theorem NmsO.keep {ns : List ByteArray} (h : NmsO w O A ns) (hs : w.heap.size ≤ w'.heap.size) (hk : ∀ b, O b → b < w.heap.size → w'.heap[b]? = w.heap[b]?) : NmsO w' O A ns := ⟨h.1, h.2.keep hs hk⟩
theorem RunsO.keep {rs : List Rn.R} (h : RunsO w O A rs) (hs : w.heap.size ≤ w'.heap.size) (hk : ∀ b, O b → b < w.heap.size → w'.heap[b]? = w.heap[b]?) : RunsO w' O A rs :=
 (RowO.keep h hs hk).with fun _ _ _ ⟨p, h0, h1, h2, h3, h4, h5⟩ => ⟨p, h0, h1, h2, h3, h4.keep hs hk, h5⟩
theorem Ents.imp {l : List Ky.T} (h : Ents w O A l) (hO : ∀ b, b < w.heap.size → O b → O' b) : Ents w O' A l := fun hn => by
 obtain ⟨b, off, e, ho, hb, hc⟩ := h hn
 exact ⟨b, off, e, hO b hb ho, hb, hc⟩
theorem StO.keep (h : StO w O p t) (hs : w.heap.size ≤ w'.heap.size) (hk : ∀ b, O b → b < w.heap.size → w'.heap[b]? = w.heap[b]?) : StO w' O p t :=
 ⟨h.clock, h.names.keep hs hk, h.nc, h.texts.keep hs hk, h.xc, h.runs.keep hs hk, h.rc, h.of.keep hs hk, h.fc, h.keys.keep hs hk, h.kok, h.kc⟩
theorem StO.on (h : StO w O p t) (hb : Below w.heap.size w w') : StO w' O p t := h.keep hb.size fun b _ hl => hb.block b hl
end
def Fw.Fine (s : Fw.S) : Prop := Fw.Inv s ∨ ∃ t, Fw.Valid t ∧ s = Fw.build t
end Go.Proofs.YtkbekojnmdgdgaaGreatDoor
