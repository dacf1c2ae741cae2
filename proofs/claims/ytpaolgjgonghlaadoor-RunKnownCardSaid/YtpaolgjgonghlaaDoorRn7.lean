/-
  Part 7 of the texts behind the law: RnOwn, DfKnownP, RnEq, RnKnownP, RnRetP, RnMono, RnEnds, RnActs.
-/
import Derived.Test.YtpaolgjgonghlaaDoorRn6
import Derived.Test.YtpaolgjgonghlaaDoorRn2
import Derived.Laws.StructEq
/-
  A run whose lists are the call's own: its row of tasks' states may be stored into.
-/
namespace Go.Proofs.YtpaolgjgonghlaaDoor
open Go.RowKit
def tkV (k : Rn.Tk) : List Value := [.int .i64 k.ph, .int .i64 k.tr, .int .i64 k.un, .string (str k.da)]
def sgV (s : Tx.T) : List Value := [.string (str s)]
def zV (z : Int) : List Value := [.int .i64 z]
theorem tkV_wide (ts : List Rn.Tk) : Wide 4 (ts.map tkV) := fun v hv => by
  obtain ⟨x, _, rfl⟩ := List.mem_map.1 hv
  exact ⟨rfl, fun u hu => by simp [tkV] at hu; rcases hu with rfl | rfl | rfl | rfl <;> rfl⟩
theorem sgV_wide (sg : List Tx.T) : Wide 1 (sg.map sgV) := fun v hv => by
  obtain ⟨x, _, rfl⟩ := List.mem_map.1 hv
  exact ⟨rfl, fun u hu => by simp [sgV] at hu; rcases hu with rfl; rfl⟩
theorem zV_wide (zs : List Int) : Wide 1 (zs.map zV) := fun v hv => by
  obtain ⟨x, _, rfl⟩ := List.mem_map.1 hv
  exact ⟨rfl, fun u hu => by simp [zV] at hu; rcases hu with rfl; rfl⟩
/-- Cells told element by element. -/
theorem src_of {w : World} {A : Option Addr} {vs : List (List Value)} {k : Nat} (hk : 0 < k) (hw : Wide k vs)
    (h : 0 < vs.length → ∃ b off, A = some ⟨b, off, none⟩ ∧ b < w.heap.size ∧ ∀ i, i < vs.length → ∀ j, j < k → w.cell? ⟨b, off + i * k + j, none⟩ = (vs.getD i [])[j]?) : Src w A vs := fun hn => by
  obtain ⟨b, off, e, hb, hc⟩ := h hn
  refine ⟨b, off, e, hb, fun j u hu => ?_⟩
  have hj := (List.getElem?_eq_some_iff.1 hu).1
  rw [hw.len] at hj
  have h1 : j / k < vs.length := by rw [Nat.div_lt_iff_lt_mul hk]; exact hj
  have h2 := hw.get (j / k) (j % k) h1 (Nat.mod_lt _ hk)
  have e2 : j / k * k + j % k = j := by rw [Nat.mul_comm]; exact Nat.div_add_mod j k
  rw [e2, hu] at h2
  rw [h2, ← hc _ h1 _ (Nat.mod_lt _ hk), Nat.add_assoc, e2]
theorem getD_map {α : Type} {f : α → List Value} {l : List α} {i : Nat} (hi : i < l.length) : (l.map f).getD i [] = f l[i] := by
  rw [List.getD_eq_getElem?_getD, List.getElem?_map, List.getElem?_eq_getElem hi]
  rfl
theorem getD_at {α : Type} {d : α} {l : List α} {i : Nat} (hi : i < l.length) : l.getD i d = l[i] := by
  rw [List.getD_eq_getElem?_getD, List.getElem?_eq_getElem hi]
  rfl
theorem four_cases {p : Nat → Prop} (h0 : p 0) (h1 : p 1) (h2 : p 2) (h3 : p 3) : ∀ j, j < 4 → p j
  | 0, _ => h0
  | 1, _ => h1
  | 2, _ => h2
  | 3, _ => h3
  | j + 4, h => by omega
theorem six_cases {p : Nat → Prop} (h0 : p 0) (h1 : p 1) (h2 : p 2) (h3 : p 3) (h4 : p 4) (h5 : p 5) : ∀ j, j < 6 → p j
  | 0, _ => h0
  | 1, _ => h1
  | 2, _ => h2
  | 3, _ => h3
  | 4, _ => h4
  | 5, _ => h5
  | j + 6, h => by omega
theorem TksO.src {w : World} {O : Nat → Prop} {A : Option Addr} {ts : List Rn.Tk} (h : TksO w O A ts) : Src w A (ts.map tkV) :=
  src_of (by decide) (tkV_wide ts) fun hn => by
    rw [List.length_map] at hn
    obtain ⟨b, off, e, _, hb, hc⟩ := h.2 hn
    refine ⟨b, off, e, hb, fun i hi => ?_⟩
    rw [List.length_map] at hi
    obtain ⟨c0, c1, c2, c3⟩ := hc i hi
    rw [getD_at hi] at c0 c1 c2 c3
    rw [getD_map hi]
    exact four_cases c0 c1 c2 c3
theorem SigsO.src {w : World} {O : Nat → Prop} {A : Option Addr} {sg : List Tx.T} (h : SigsO w O A sg) : Src w A (sg.map sgV) :=
  src_of (by decide) (sgV_wide sg) fun hn => by
    rw [List.length_map] at hn
    obtain ⟨b, off, e, _, hb, hc⟩ := h hn
    refine ⟨b, off, e, hb, fun i hi => ?_⟩
    rw [List.length_map] at hi
    have c0 := hc i hi
    simp only [getD_at hi] at c0
    rw [getD_map hi]
    intro j hj
    obtain rfl : j = 0 := by omega
    exact c0
theorem ZsO.src {w : World} {O : Nat → Prop} {A : Option Addr} {zs : List Int} (h : ZsO w O A zs) : Src w A (zs.map zV) :=
  src_of (by decide) (zV_wide zs) fun hn => by
    rw [List.length_map] at hn
    obtain ⟨b, off, e, _, hb, hc⟩ := h.2 hn
    refine ⟨b, off, e, hb, fun i hi => ?_⟩
    rw [List.length_map] at hi
    have c0 := hc i hi
    simp only [getD_at hi] at c0
    rw [getD_map hi]
    intro j hj
    obtain rfl : j = 0 := by omega
    exact c0
/-- A row of the call's own, as a row in blocks of O. -/
theorem OwnK.rowO {w : World} {base k cap : Nat} {T : TypeId} {A : Option Addr} {vs : List (List Value)} (h : OwnK w base T k A cap vs) {O : Nat → Prop} (hO : ∀ a, A = some a → O a.block) {n : Nat} (hn : n = vs.length) {P : Nat → (Nat → Option Value) → Prop}
    (hP : ∀ i (c : Nat → Option Value), i < n → (∀ j, j < k → c j = (vs.getD i [])[j]?) → P i c) : RowO w O A n k P := fun h0 => by
  subst hn
  obtain ⟨g, rfl, _, hg⟩ := h.shape h0
  refine ⟨g, 0, rfl, hO _ rfl, hg, fun i hi => hP i _ hi fun j hj => ?_⟩
  show w.cell? ⟨g, 0 + i * k + j, none⟩ = _
  rw [Nat.zero_add]
  have hl : j < (vs.getD i []).length := by
    rw [getD_at hi, (h.2 _ (List.getElem_mem hi)).1]
    exact hj
  exact (h.cell hi hj (List.getElem?_eq_getElem hl)).trans (List.getElem?_eq_getElem hl).symm
theorem OwnK.tks {w : World} {base cap : Nat} {T : TypeId} {A : Option Addr} {ts : List Rn.Tk} (h : OwnK w base T 4 A cap (ts.map tkV)) (hi : ∀ k ∈ ts, tkIn k) {O : Nat → Prop} (hO : ∀ a, A = some a → O a.block) : TksO w O A ts :=
  ⟨hi, h.rowO hO (by rw [List.length_map]) fun i c hi2 hc => by
    rw [getD_map hi2] at hc
    rw [getD_at hi2]
    exact ⟨hc 0 (by decide), hc 1 (by decide), hc 2 (by decide), hc 3 (by decide)⟩⟩
theorem OwnK.sigs {w : World} {base cap : Nat} {T : TypeId} {A : Option Addr} {sg : List Tx.T} (h : OwnK w base T 1 A cap (sg.map sgV)) {O : Nat → Prop} (hO : ∀ a, A = some a → O a.block) : SigsO w O A sg :=
  h.rowO hO (by rw [List.length_map]) fun i c hi2 hc => by
    rw [getD_map hi2] at hc
    rw [getD_at hi2]
    exact hc 0 (by decide)
theorem OwnK.zsO {w : World} {base cap : Nat} {T : TypeId} {A : Option Addr} {zs : List Int} (h : OwnK w base T 1 A cap (zs.map zV)) (hi : ∀ i, i < zs.length → inI (zs.getD i 0)) {O : Nat → Prop} (hO : ∀ a, A = some a → O a.block) : ZsO w O A zs :=
  ⟨hi, h.rowO hO (by rw [List.length_map]) fun i c hi2 hc => by
    rw [getD_map hi2] at hc
    rw [getD_at hi2]
    exact hc 0 (by decide)⟩
/-- The tasks d, told by a function that says where each one's numbers lie. -/
def dV (d : Df.D) (f : Nat → Option Addr × Nat) : List (List Value) := (List.range d.length).map fun i => taskV (d.getD i tz) (f i)
theorem dV_len (d : Df.D) (f : Nat → Option Addr × Nat) : (dV d f).length = d.length := by simp [dV]
theorem dV_wide (d : Df.D) (f : Nat → Option Addr × Nat) : Wide 6 (dV d f) := fun v hv => by
  obtain ⟨x, _, rfl⟩ := List.mem_map.1 hv
  exact ⟨rfl, fun u hu => by simp [taskV] at hu; rcases hu with rfl | rfl | rfl | rfl | rfl | rfl <;> rfl⟩
theorem dV_at {d : Df.D} {f : Nat → Option Addr × Nat} {i : Nat} (hi : i < d.length) : (dV d f).getD i [] = taskV (d.getD i tz) (f i) := by
  unfold dV
  rw [getD_map (by simpa using hi), List.getElem_range]
theorem dV_get {d : Df.D} {f : Nat → Option Addr × Nat} {i : Nat} (h : i < (dV d f).length) : (dV d f)[i] = taskV (d.getD i tz) (f i) := by
  simp only [dV, List.getElem_map, List.getElem_range]
theorem dV_set {d : Df.D} {f : Nat → Option Addr × Nat} {k : Nat} (hk : k < d.length) (A : Option Addr) (c : Nat) :
    (dV d f).set k (((dV d f).getD k []).set 1 (.slice A (d.getD k tz).after.length c)) = dV d fun i => if i = k then (A, c) else f i := by
  rw [dV_at hk]
  refine List.ext_getElem (by rw [List.length_set, dV_len, dV_len]) fun i h1 h2 => ?_
  rw [List.getElem_set, dV_get, dV_get]
  by_cases e : k = i
  · subst e
    rw [if_pos rfl, if_pos rfl]
    rfl
  · rw [if_neg e, if_neg fun h => e h.symm]
/-- Where each task's numbers lie. -/
def NumsAt (w : World) (O : Nat → Prop) (d : Df.D) (f : Nat → Option Addr × Nat) (i : Nat) : Prop := ZsO w O (f i).1 (d.getD i tz).after ∧ (d.getD i tz).after.length ≤ (f i).2
theorem DefO.src {w : World} {O : Nat → Prop} {A : Option Addr} {d : Df.D} (h : DefO w O A d) : ∃ f, Src w A (dV d f) ∧ ∀ i, i < d.length → NumsAt w O d f i := by
  rcases Nat.eq_zero_or_pos d.length with h0 | h0
  · exact ⟨fun _ => (none, 0), fun hn => by rw [dV_len] at hn; omega, fun i hi => by omega⟩
  · obtain ⟨b, off, e, _, hb, hc⟩ := h.2 h0
    have hs : ∀ i, ∃ q : Option Addr × Nat, i < d.length → NumsAt w O d (fun _ => q) i ∧ ∀ j, j < 6 → w.cell? ⟨b, off + i * 6 + j, none⟩ = (taskV (d.getD i tz) q)[j]? := fun i => by
      by_cases hi : i < d.length
      · obtain ⟨A2, c2, h0, h1, h2, h3, h4, h5, h6, h7⟩ := hc i hi
        exact ⟨(A2, c2), fun _ => ⟨⟨h6, h7⟩, six_cases h0 h1 h2 h3 h4 h5⟩⟩
      · exact ⟨(none, 0), fun h => absurd h hi⟩
    obtain ⟨f, hf⟩ := Classical.skolem.1 hs
    refine ⟨f, src_of (by decide) (dV_wide d f) fun _ => ⟨b, off, e, hb, fun i hi => ?_⟩, fun i hi => (hf i hi).1⟩
    rw [dV_len] at hi
    rw [dV_at hi]
    exact (hf i hi).2
theorem OwnK.defO {w : World} {base cap : Nat} {T : TypeId} {A : Option Addr} {d : Df.D} {f : Nat → Option Addr × Nat} (h : OwnK w base T 6 A cap (dV d f)) (hi : ∀ t ∈ d, numIn t) {O : Nat → Prop} (hO : ∀ a, A = some a → O a.block) (hf : ∀ i, i < d.length → NumsAt w O d f i) : DefO w O A d :=
  ⟨hi, h.rowO hO (by rw [dV_len]) fun i c hi2 hc => by
    rw [dV_at hi2] at hc
    exact ⟨(f i).1, (f i).2, hc 0 (by decide), hc 1 (by decide), hc 2 (by decide), hc 3 (by decide), hc 4 (by decide), hc 5 (by decide), (hf i hi2).1, (hf i hi2).2⟩⟩
/-- Block b is not where A points to. -/
def Off (b : Nat) (A : Option Addr) : Prop := ∀ a, A = some a → a.block ≠ b
/-- A run whose lists lie in blocks of the call's own, each apart. -/
structure Own3 (w : World) (base : Nat) (p : At3) (r : Rn.R) : Prop where
  d : DefO w (fun b => base ≤ b ∧ Off b p.T ∧ Off b p.S) p.A r.d
  dc : r.d.length ≤ p.ca
  t : OwnK w base 42 4 p.T p.ct (r.ts.map tkV)
  ti : ∀ k ∈ r.ts, tkIn k
  s : OwnK w base 9 1 p.S p.cs (r.sg.map sgV)
  ap : ∀ a, p.S = some a → Off a.block p.T
theorem OwnK.own {w : World} {base k cap : Nat} {T : TypeId} {A : Option Addr} {vs : List (List Value)} (h : OwnK w base T k A cap vs) : ∀ a, A = some a → base ≤ a.block := fun a e => by subst e; exact h.lt.1
theorem OwnK.kept {w w' : World} {base k cap : Nat} {T : TypeId} {A : Option Addr} {vs : List (List Value)} (h : OwnK w base T k A cap vs) (hk : ∀ b, base ≤ b → b < w.heap.size → w'.heap[b]? = w.heap[b]?) : OwnK w' base T k A cap vs :=
  h.keep fun a e => by subst e; exact hk _ h.lt.1 h.lt.2
theorem Own3.runO {w : World} {base : Nat} {p : At3} {r : Rn.R} (h : Own3 w base p r) : RunO w (fun b => base ≤ b) p r :=
  ⟨h.d.imp fun _ _ hb => hb.1, h.dc, h.t.tks h.ti h.t.own, by have := h.t.cap_; rwa [List.length_map] at this, h.s.sigs h.s.own, by have := h.s.cap_; rwa [List.length_map] at this⟩
theorem Own3.keep {w w' : World} {base : Nat} {p : At3} {r : Rn.R} (h : Own3 w base p r) (hs : w.heap.size ≤ w'.heap.size) (hk : ∀ b, base ≤ b → b < w.heap.size → w'.heap[b]? = w.heap[b]?) : Own3 w' base p r :=
  ⟨h.d.keep hs fun b hb hl => hk b hb.1 hl, h.dc, h.t.kept hk, h.ti, h.s.kept hk, h.ap⟩
theorem Own3.grew {w w' : World} {base : Nat} {p : At3} {r : Rn.R} (h : Own3 w base p r) (hb : Below w.heap.size w w') : Own3 w' base p r := h.keep hb.size fun b _ hl => hb.block b hl
end Go.Proofs.YtpaolgjgonghlaaDoor
/-
  The examples of chapter 12 in plain words.
-/
namespace Go.Proofs.YtpaolgjgonghlaaDoor.Df
open Tx Go.Lib
set_option maxRecDepth 20000
theorem bad0 : parse [] = ([], 2) := by decide +kernel
theorem bad1 : parse [59] = ([], 2) := by decide +kernel
theorem bad2 : parse [97, 59] = ([], 2) := by decide +kernel
theorem bad3 : parse [65] = ([], 2) := by decide +kernel
theorem bad4 : parse [97, 32, 32, 114, 101, 116, 114, 121, 61, 49] = ([], 2) := by decide +kernel
theorem bad5 : parse [32, 97] = ([], 2) := by decide +kernel
theorem bad6 : parse [97, 32] = ([], 2) := by decide +kernel
theorem bad7 : parse [97, 32, 114, 101, 116, 114, 121] = ([], 2) := by decide +kernel
theorem bad8 : parse [97, 32, 114, 101, 116, 114, 121, 61] = ([], 2) := by decide +kernel
theorem bad9 : parse [97, 32, 114, 101, 116, 114, 121, 61, 48, 49] = ([], 2) := by decide +kernel
theorem bad10 : parse [97, 32, 114, 101, 116, 114, 121, 61, 49, 50, 51, 52, 53] = ([], 2) := by decide +kernel
theorem bad11 : parse [97, 32, 114, 101, 116, 114, 121, 61, 49, 32, 114, 101, 116, 114, 121, 61, 50] = ([], 2) := by decide +kernel
theorem bad12 : parse [97, 32, 114, 101, 116, 114, 121, 61, 49, 32, 97, 102, 116, 101, 114, 61, 97] = ([], 2) := by decide +kernel
theorem bad13 : parse [97, 32, 97, 102, 116, 101, 114, 61, 120] = ([], 2) := by decide +kernel
theorem bad14 : parse [97, 32, 97, 102, 116, 101, 114, 61] = ([], 2) := by decide +kernel
theorem bad15 : parse [97, 32, 97, 102, 116, 101, 114, 61, 98, 44, 59, 98] = ([], 2) := by decide +kernel
theorem bad16 : parse [97, 32, 111, 110, 61] = ([], 2) := by decide +kernel
theorem bad17 : parse [97, 32, 111, 110, 61, 66] = ([], 2) := by decide +kernel
theorem bad18 : parse [97, 32, 119, 104, 97, 116, 61, 49] = ([], 2) := by decide +kernel
theorem bad19 : parse [97, 98, 99, 100, 101, 102, 103, 104, 105, 106, 107, 108, 109, 110, 111, 112, 113] = ([], 2) := by decide +kernel
theorem oth0 : parse [116, 48, 59, 116, 48, 49, 59, 116, 48, 50, 59, 116, 48, 51, 59, 116, 48, 52, 59, 116, 48, 53, 59, 116, 48, 54, 59, 116, 48, 55, 59, 116, 48, 56, 59, 116, 48, 57, 59, 116, 49, 48, 59, 116, 49, 49, 59, 116, 49, 50, 59, 116, 49, 51, 59, 116, 49, 52, 59, 116, 49, 53, 59, 116, 49, 54] = ([], 1) := by decide +kernel
theorem oth1 : parse [97, 59, 97] = ([], 5) := by decide +kernel
theorem oth2 : parse [97, 32, 114, 101, 116, 114, 121, 61, 57] = ([], 1) := by decide +kernel
theorem oth3 : parse [97, 32, 119, 97, 105, 116, 61, 48] = ([], 1) := by decide +kernel
theorem oth4 : parse [97, 32, 98, 97, 115, 101, 61, 49, 48, 48, 49] = ([], 1) := by decide +kernel
theorem oth5 : parse [97, 32, 97, 102, 116, 101, 114, 61, 97] = ([], 1) := by decide +kernel
theorem oth6 : parse [97, 59, 98, 32, 97, 102, 116, 101, 114, 61, 97, 44, 97] = ([], 1) := by decide +kernel
theorem oth7 : parse [97, 32, 97, 102, 116, 101, 114, 61, 98, 59, 98, 32, 97, 102, 116, 101, 114, 61, 97] = ([], 7) := by decide +kernel
theorem oth8 : parse [97, 32, 119, 97, 105, 116, 61, 48, 59, 97] = ([], 5) := by decide +kernel
def awakeD : D := [⟨[97], [], 0, 10, 1, []⟩, ⟨[98], [0], 2, 10, 1, []⟩]
theorem awake_p : parse [97, 59, 98, 32, 97, 102, 116, 101, 114, 61, 97, 32, 114, 101, 116, 114, 121, 61, 50] = (awakeD, 0) := by decide +kernel
def knD : D := [⟨[120], [], 0, 5, 1, [103, 111]⟩, ⟨[121], [0, 2], 0, 10, 3, []⟩, ⟨[122], [], 0, 10, 1, []⟩]
theorem kn_p : parse [120, 32, 119, 97, 105, 116, 61, 53, 32, 111, 110, 61, 103, 111, 59, 121, 32, 97, 102, 116, 101, 114, 61, 120, 44, 122, 32, 98, 97, 115, 101, 61, 51, 59, 122] = (knD, 0) := by decide +kernel
theorem kn_g : graphI knD = [(0, 1), (2, 1)] := by decide +kernel
def badD : D := [⟨[97], [1, 1, 0, 7], 0, 10, 1, []⟩, ⟨[98], [], 0, 10, 1, []⟩]
theorem badD_good : good badD = 1 := by decide +kernel
theorem badD_graph : graphI badD = [(1, 0)] := by decide +kernel
theorem noD_good : good [] = 1 := by decide +kernel
theorem badD_show : showT badD = [] := by unfold showT; rw [badD_good]; rfl
theorem a1_name : isName [97, 49] = true := by decide +kernel
theorem awake_s : showT awakeD = [97, 59, 98, 32, 97, 102, 116, 101, 114, 61, 97, 32, 114, 101, 116, 114, 121, 61, 50] := by
  have h : good awakeD = 0 := by decide +kernel
  have e : decDigits 2 = [50] := Pl.dec_small (by decide)
  unfold showT
  rw [if_pos h]
  show join 59 [join 32 (words (rawOf (names awakeD) ⟨[97], [], 0, 10, 1, []⟩)), join 32 (words ⟨[98], some [97], some (decDigits 2), none, none, none⟩)] = _
  rw [e]
  rfl
theorem kn_s : showT knD = [120, 32, 119, 97, 105, 116, 61, 53, 32, 111, 110, 61, 103, 111, 59, 121, 32, 97, 102, 116, 101, 114, 61, 120, 44, 122, 32, 98, 97, 115, 101, 61, 51, 59, 122] := by
  have h : good knD = 0 := by decide +kernel
  have e : decDigits 5 = [53] := Pl.dec_small (by decide)
  have e2 : decDigits 3 = [51] := Pl.dec_small (by decide)
  unfold showT
  rw [if_pos h]
  show join 59 [join 32 (words ⟨[120], none, none, some (decDigits 5), none, some [103, 111]⟩), join 32 (words ⟨[121], some [120, 44, 122], none, none, some (decDigits 3), none⟩), join 32 (words ⟨[122], none, none, none, none, none⟩)] = _
  rw [e, e2]
  rfl
end Go.Proofs.YtpaolgjgonghlaaDoor.Df
/-
  Tasks' states compared.
-/
namespace Go.Proofs.YtpaolgjgonghlaaDoor
open Go.RowKit
theorem wf_inI {a : Int} (h : inI a) : (Lit.int .i64 a).wf = true := by
  unfold inI at h
  simpa [Lit.wf, IntKind.min, IntKind.max, IntKind.bits, IntKind.signed] using h
theorem int_cellsT : Tryd.prog.cellsOf 3 = 1 := by kernel_rfl
theorem int64_cellsT : Tryd.prog.cellsOf 2 = 1 := by kernel_rfl
theorem str_cellsT : Tryd.prog.cellsOf 9 = 1 := by kernel_rfl
def tkl (k : Rn.Tk) : List Lit := [.int .i64 k.ph, .int .i64 k.tr, .int .i64 k.un, .string k.da]
theorem tkl_inj (a b : Rn.Tk) : tkl a = tkl b ↔ a = b := by
  constructor
  · intro h
    unfold tkl at h
    simp only [List.cons.injEq, Lit.int.injEq, Lit.string.injEq, true_and, and_true] at h
    obtain ⟨h1, h2, h3, h4⟩ := h
    obtain ⟨p, t, u, d⟩ := a
    obtain ⟨p', t', u', d'⟩ := b
    simp only at *
    subst h1 h2 h3 h4
    rfl
  · rintro rfl; rfl
theorem tk_cells : Tryd.prog.cellsOf 42 = 4 := by kernel_rfl
theorem tk_key : Tryd.prog.keyTypeAt 2 42 = true := by kernel_rfl
/-- A task's state as a value. -/
def tkv (k : Rn.Tk) : Array Value := #[.int .i64 k.ph, .int .i64 k.tr, .int .i64 k.un, .string (str k.da)]
theorem tk_lits (k : Rn.Tk) (h : tkIn k) (hd : k.da.length ≤ 9223372036854775807) : Tryd.prog.keyLits 2 42 (tkv k).toList = some (tkl k) := by
  have h1 : ∀ x : Int, inI x → Tryd.prog.keyLits 1 3 [.int .i64 x] = some [.int .i64 x] := fun x hx => by
    have := wf_inI hx
    simp [Program.keyLits, Tryd.underlying3, this]
  have h2 : ∀ x : Int, inI x → Tryd.prog.keyLits 1 2 [.int .i64 x] = some [.int .i64 x] := fun x hx => by
    have := wf_inI hx
    simp [Program.keyLits, Tryd.underlying2, this]
  have h3 : ∀ s : Tx.T, s.length ≤ 9223372036854775807 → Tryd.prog.keyLits 1 9 [.string (str s)] = some [.string s] := fun s hs => by
    simp [Program.keyLits, Tryd.underlying9, str]
    exact hs
  conv => lhs; unfold Program.keyLits
  simp only [Tryd.underlying42, tk_cells]
  unfold tkv tkl
  simp [h1 _ h.1, h1 _ h.2.1, h2 _ h.2.2, h3 _ hd, int_cellsT, int64_cellsT, str_cellsT]
theorem tk_formed (k : Rn.Tk) : (Value.agg (tkv k)).formed Tryd.prog 42 = true := by simp [Value.formed, Tryd.underlying42, tk_cells, tkv]
theorem tk_run (a b : Rn.Tk) (ha : tkIn a) (hb : tkIn b) (la : a.da.length ≤ 9223372036854775807) (lb : b.da.length ≤ 9223372036854775807) (W : World) : (Op.equalIn 10000 42 (.agg (tkv a)) (.agg (tkv b))).run Tryd.prog W = .ok (decide (a = b)) W := by
  obtain ⟨r, hr, hiff⟩ := run_equalIn_deep 9998 2 42 tk_key W 2 2 (.agg (tkv a)) (.agg (tkv b)) _ _ (tk_formed a) (tk_formed b) (tk_lits a ha la) (tk_lits b hb lb)
  rw [hr]
  have e : r = decide (a = b) := by
    rw [Bool.eq_iff_iff, hiff, tkl_inj]
    simp
  rw [e]
theorem tk_eql (a b : Rn.Tk) (ha : tkIn a) (hb : tkIn b) (la : a.da.length ≤ 9223372036854775807) (lb : b.da.length ≤ 9223372036854775807) (W : World) : (binOp .eql 42 (.agg (tkv a)) (.agg (tkv b))).run Tryd.prog W = .ok (.bool (decide (a = b))) W := by
  rw [run_eql_struct, tk_run a b ha hb la lb]; rfl
theorem tk_neq (a b : Rn.Tk) (ha : tkIn a) (hb : tkIn b) (la : a.da.length ≤ 9223372036854775807) (lb : b.da.length ≤ 9223372036854775807) (W : World) : (binOp .neq 42 (.agg (tkv a)) (.agg (tkv b))).run Tryd.prog W = .ok (.bool (!decide (a = b))) W := by
  rw [run_neq_struct, tk_run a b ha hb la lb]; rfl
end Go.Proofs.YtpaolgjgonghlaaDoor
/-
  The examples of chapter 16 in plain words.
-/
namespace Go.Proofs.YtpaolgjgonghlaaDoor.Rn
set_option maxRecDepth 20000
def dA : Df.D := [⟨[97], [], 0, 10, 1, []⟩, ⟨[98], [0], 0, 10, 1, []⟩]
def dK : Df.D := [⟨[97], [], 1, 5, 3, []⟩, ⟨[98], [0], 0, 10, 1, [103, 111]⟩]
theorem pA : Df.parse [97, 59, 98, 32, 97, 102, 116, 101, 114, 61, 97] = (dA, 0) := by decide +kernel
theorem pK : Df.parse [97, 32, 114, 101, 116, 114, 121, 61, 49, 32, 119, 97, 105, 116, 61, 53, 32, 98, 97, 115, 101, 61, 51, 59, 98, 32, 97, 102, 116, 101, 114, 61, 97, 32, 111, 110, 61, 103, 111] = (dK, 0) := by decide +kernel
def rA : R := ⟨dA, 0, [⟨1, 0, 0, []⟩, ⟨0, 0, 0, []⟩], []⟩
def rK : R := ⟨dK, 0, [⟨1, 0, 0, []⟩, ⟨0, 0, 0, []⟩], []⟩
def xK : R := ⟨dK, 0, [⟨2, 1, 105, []⟩, ⟨0, 0, 0, []⟩], []⟩
def yK : R := ⟨dK, 0, [⟨5, 1, 104, []⟩, ⟨0, 0, 0, []⟩], []⟩
def wK : R := ⟨dK, 0, [⟨1, 1, 0, []⟩, ⟨0, 0, 0, []⟩], []⟩
def pKr : R := ⟨dK, 0, [⟨2, 2, 109, []⟩, ⟨0, 0, 0, []⟩], []⟩
def qK : R := ⟨dK, 2, [⟨4, 2, 0, []⟩, ⟨0, 0, 0, []⟩], []⟩
def sK : R := ⟨dK, 0, [⟨3, 2, 0, [111, 107]⟩, ⟨0, 0, 0, []⟩], []⟩
def tK : R := ⟨dK, 0, [⟨3, 2, 0, [111, 107]⟩, ⟨1, 0, 0, []⟩], [[103, 111]]⟩
def oK : R := ⟨dK, 0, [⟨3, 2, 0, [111, 107]⟩, ⟨2, 1, 210, []⟩], [[103, 111]]⟩
def finK : R := ⟨dK, 1, [⟨3, 2, 0, [111, 107]⟩, ⟨3, 1, 0, []⟩], [[103, 111]]⟩
def canK : R := ⟨dK, 3, [⟨1, 0, 0, []⟩, ⟨0, 0, 0, []⟩], []⟩
theorem kNo : newV [] = (r0, 1) := by decide +kernel
theorem kA : newV dA = (rA, 0) := by decide +kernel
theorem kK : newV dK = (rK, 0) := by decide +kernel
theorem kb : leaseV rK 2 1 0 = (r0, 1) := by decide +kernel
theorem kc : leaseV rK 1 1 0 = (r0, 4) := by decide +kernel
theorem kd : leaseV rK 0 2 0 = (r0, 8) := by decide +kernel
theorem kx : leaseV rK 0 1 100 = (xK, 0) := by decide +kernel
theorem ku : nextV xK = some 105 := by decide +kernel
theorem kg : doneV xK 0 2 [] = (r0, 8) := by decide +kernel
theorem ky : failV xK 0 1 101 = (yK, 0) := by decide +kernel
theorem kv : nextV yK = some 104 := by decide +kernel
theorem kz : tickS yK 103 = yK := by decide +kernel
theorem kw : tickS yK 104 = wK := by decide +kernel
theorem kp : leaseV wK 0 2 104 = (pKr, 0) := by decide +kernel
theorem kq : tickS pKr 109 = qK := by decide +kernel
theorem kj : cancelV qK = (r0, 9) := by decide +kernel
theorem ks : doneV pKr 0 2 [111, 107] = (sK, 0) := by decide +kernel
theorem kl : sigV sK [120] = (r0, 1) := by decide +kernel
theorem kt : sigV sK [103, 111] = (tK, 0) := by decide +kernel
theorem kn : sigV tK [103, 111] = (r0, 5) := by decide +kernel
theorem ko : leaseV tK 1 1 200 = (oK, 0) := by decide +kernel
theorem kfin : doneV oK 1 1 [] = (finK, 0) := by decide +kernel
theorem kcan : cancelV rK = (canK, 0) := by decide +kernel
theorem knx : nextV finK = none := by decide +kernel
theorem kover : leaseV canK 0 1 0 = (r0, 9) := by decide +kernel
theorem okA : Df.Ok dA := Df.good_iff.1 (by decide +kernel)
theorem okK : Df.Ok dK := Df.good_iff.1 (by decide +kernel)
theorem of_new {d : Df.D} {r : R} (h : newV d = (r, 0)) : Inv r := by
  unfold newV at h
  split at h
  · next hg => injection h with h1 h2; rw [← h1]; exact new_inv (Df.good_iff.1 hg)
  · next hg => injection h with h1 h2; exact absurd h2 hg
theorem of_lease {r x : R} {a y now : Int} (hI : Inv r) (hn0 : 0 ≤ now) (hn : now ≤ tickMax) (h : leaseV r a y now = (x, 0)) : Inv x := by
  unfold leaseV at h
  split at h
  · next hg => injection h with h1 h2; rw [← h1]; exact hI.lease hg hn0 hn
  · next hg => injection h with h1 h2; exact absurd h2 hg
theorem of_fail {r x : R} {a y now : Int} (hI : Inv r) (hn0 : 0 ≤ now) (hn : now ≤ tickMax) (h : failV r a y now = (x, 0)) : Inv x := by
  unfold failV at h
  split at h
  · next hg => injection h with h1 h2; rw [← h1]; exact hI.fail hg hn0 hn
  · next hg => injection h with h1 h2; exact absurd h2 hg
theorem of_done {r x : R} {a y : Int} {s : Tx.T} (hI : Inv r) (hs : s.length ≤ 140737488355328) (h : doneV r a y s = (x, 0)) : Inv x := by
  unfold doneV at h
  split at h
  · next hg => injection h with h1 h2; rw [← h1]; exact hI.done hg s hs
  · next hg => injection h with h1 h2; exact absurd h2 hg
theorem of_sig {r x : R} {s : Tx.T} (hI : Inv r) (h : sigV r s = (x, 0)) : Inv x := by
  unfold sigV at h
  split at h
  · next hg => injection h with h1 h2; rw [← h1]; exact hI.sig hg
  · next hg => injection h with h1 h2; exact absurd h2 hg
theorem of_cancel {r x : R} (hI : Inv r) (h : cancelV r = (x, 0)) : Inv x := by
  unfold cancelV at h
  split at h
  · next hg => injection h with h1 h2; rw [← h1]; exact hI.cancel hg
  · next hg => injection h with h1 h2; exact absurd h2 (by decide)
theorem iA : Inv rA := of_new kA
theorem iK : Inv rK := of_new kK
theorem ix : Inv xK := of_lease iK (by decide) (by decide) kx
theorem iy : Inv yK := of_fail ix (by decide) (by decide) ky
theorem iw : Inv wK := kw ▸ iy.tick (by decide) (by decide)
theorem ip : Inv pKr := of_lease iw (by decide) (by decide) kp
theorem iq : Inv qK := kq ▸ ip.tick (by decide) (by decide)
theorem is_ : Inv sK := of_done ip (by decide) ks
theorem it : Inv tK := of_sig is_ kt
theorem io : Inv oK := of_lease it (by decide) (by decide) ko
theorem ifin : Inv finK := of_done io (by decide) kfin
theorem ican : Inv canK := of_cancel iK kcan
end Go.Proofs.YtpaolgjgonghlaaDoor.Rn
/-
  A run of one task that fails each time, in plain words.
-/
namespace Go.Proofs.YtpaolgjgonghlaaDoor.Rn
set_option maxRecDepth 20000
def d1 (c b : Int) : Df.D := [⟨[97], [], c, 7, b, []⟩]
def r1 (c b : Int) (k : Tk) (st : Int) : R := ⟨d1 c b, st, [k], []⟩
theorem ok1 {c b : Int} (h0 : 0 ≤ c) (h1 : c ≤ 8) (h2 : 1 ≤ b) (h3 : b ≤ 1000) : Df.Ok (d1 c b) := by
  refine ⟨by simp [d1], by simp [d1], fun t ht => ?_, by simp [d1, Df.names], fun t ht => ?_, rfl, ?_⟩
  · rw [List.mem_singleton.1 ht]; rfl
  · rw [List.mem_singleton.1 ht]
    unfold Df.numOk
    exact decide_eq_true ⟨h0, h1, by show (1 : Int) ≤ 7; decide, by show (7 : Int) ≤ 1000; decide, h2, h3⟩
  · have e : Df.graphI (d1 c b) = [] := rfl
    rw [e]
    show To.okI 1 [] = true
    decide +kernel
theorem new1 {c b : Int} (h : Df.Ok (d1 c b)) : newV (d1 c b) = (r1 c b ⟨1, 0, 0, []⟩ 0, 0) := by
  unfold newV
  rw [if_pos (Df.good_iff.2 h)]
  rfl
theorem may1 (c b : Int) (k : Tk) : mayE (r1 c b k 0) 0 = 0 := by
  unfold mayE
  rw [if_neg (by show ¬ ((0 : Int) < 0 ∨ ((1 : Nat) : Int) ≤ 0); decide), if_neg (by show ¬ (0 : Int) ≠ 0; decide)]
theorem tk1 (c b : Int) (k : Tk) (st : Int) : tk (r1 c b k st) 0 = k := rfl
theorem lease1 (c b x now : Int) : leaseV (r1 c b ⟨1, x - 1, 0, []⟩ 0) 0 x now = (r1 c b ⟨2, x, now + 7, []⟩ 0, 0) := by
  have he : leaseE (r1 c b ⟨1, x - 1, 0, []⟩ 0) 0 x = 0 := by
    unfold leaseE
    rw [if_neg (by rw [may1]; decide), tk1, if_neg (by show ¬ (1 : Int) ≠ 1; decide), if_neg (by show ¬ x ≠ x - 1 + 1; omega)]
  unfold leaseV
  rw [if_pos he]
  rfl
theorem held1 (c b x u : Int) : heldE (r1 c b ⟨2, x, u, []⟩ 0) 0 x = 0 := by
  unfold heldE
  rw [if_neg (by rw [may1]; decide), tk1, if_neg (by simp)]
theorem rest1 {c b x u now : Int} (h : x ≤ c) : failV (r1 c b ⟨2, x, u, []⟩ 0) 0 x now = (r1 c b ⟨5, x, now + delay b x, []⟩ 0, 0) := by
  unfold failV
  rw [if_pos (held1 c b x u)]
  unfold failsS
  rw [tk1, if_pos (by show x ≤ c; exact h)]
  rfl
theorem over1 {c b x u now : Int} (h : c < x) : failV (r1 c b ⟨2, x, u, []⟩ 0) 0 x now = (r1 c b ⟨4, x, 0, []⟩ 2, 0) := by
  unfold failV
  rw [if_pos (held1 c b x u)]
  unfold failsS
  rw [tk1, if_neg (by show ¬ x ≤ c; omega)]
  rfl
theorem next1 (c b x u : Int) : nextV (r1 c b ⟨5, x, u, []⟩ 0) = some u := rfl
theorem early1 {c b x u now : Int} (h : now < u) : tickS (r1 c b ⟨5, x, u, []⟩ 0) now = r1 c b ⟨5, x, u, []⟩ 0 := by
  show tick1 now (r1 c b ⟨5, x, u, []⟩ 0) 0 = _
  unfold tick1
  rw [if_neg (by show ¬ (0 : Int) ≠ 0; decide), if_pos (by show now < u; exact h)]
theorem due1 (c b x u : Int) : tickS (r1 c b ⟨5, x, u, []⟩ 0) u = r1 c b ⟨1, x, 0, []⟩ 0 := by
  show tick1 u (r1 c b ⟨5, x, u, []⟩ 0) 0 = _
  unfold tick1
  rw [if_neg (by show ¬ (0 : Int) ≠ 0; decide), if_neg (by show ¬ u < u; omega), if_neg (by show ¬ (5 : Int) = 2; decide), if_pos (by rfl)]
  rfl
end Go.Proofs.YtpaolgjgonghlaaDoor.Rn
/-
  Tries never fall, and what is done stays: for each call on a run.
-/
namespace Go.Proofs.YtpaolgjgonghlaaDoor.Rn
structure Mono (r x : R) : Prop where
  d : x.d = r.d
  len : x.ts.length = r.ts.length
  tr : ∀ i, i < r.ts.length → (r.ts.getD i t0).tr ≤ (x.ts.getD i t0).tr
  done : ∀ i, i < r.ts.length → (r.ts.getD i t0).ph = 3 → x.ts.getD i t0 = r.ts.getD i t0
theorem Mono.refl (r : R) : Mono r r := ⟨rfl, rfl, fun _ _ => Int.le_refl _, fun _ _ _ => rfl⟩
theorem Mono.trans {a b c : R} (h : Mono a b) (k : Mono b c) : Mono a c :=
  ⟨k.d.trans h.d, k.len.trans h.len, fun i hi => Int.le_trans (h.tr i hi) (k.tr i (by rw [h.len]; exact hi)), fun i hi hp => by
    have e := h.done i hi hp
    rw [← e]
    exact k.done i (by rw [h.len]; exact hi) (by rw [e]; exact hp)⟩
theorem Mono.set {r : R} {i : Nat} {k : Tk} (hi : i < r.ts.length) (h3 : (r.ts.getD i t0).ph ≠ 3) (ht : (r.ts.getD i t0).tr ≤ k.tr) (st : Int) : Mono r ⟨r.d, st, r.ts.set i k, r.sg⟩ := by
  refine ⟨rfl, List.length_set, fun j hj => ?_, fun j hj hp => ?_⟩
  · show _ ≤ ((r.ts.set i k).getD j t0).tr
    rw [getD_set hi]
    by_cases e : j = i
    · rw [if_pos e, e]; exact ht
    · rw [if_neg e]; exact Int.le_refl _
  · show (r.ts.set i k).getD j t0 = _
    rw [getD_set hi, if_neg (fun e : j = i => h3 (by rw [← e]; exact hp))]
theorem Mono.upd {r : R} (hl : r.ts.length = r.d.length) : Mono r (Rn.upd r) := by
  refine ⟨rfl, by show (List.zipWith _ r.d r.ts).length = _; rw [List.length_zipWith]; omega, fun i hi => ?_, fun i hi hp => ?_⟩
  · show _ ≤ ((List.zipWith (upT r.ts r.sg) r.d r.ts).getD i t0).tr
    rw [getD_up hl _ (by omega)]
    unfold upT
    split <;> exact Int.le_refl _
  · show (List.zipWith (upT r.ts r.sg) r.d r.ts).getD i t0 = _
    rw [getD_up hl _ (by omega)]
    unfold upT
    rw [if_neg (fun e => by rw [hp] at e; exact absurd e.1 (by decide))]
theorem Inv.mono_lease {r : R} (h : Inv r) {a x now : Int} (he : leaseE r a x = 0) : Mono r (leaseS r a x now) := by
  obtain ⟨h1, h2, h3⟩ := leaseE_ok he
  obtain ⟨h4, h5, h6⟩ := mayE_ok h1
  obtain ⟨i1, i2, i3, i4⟩ := h.ix h4 h5
  unfold tk at h2 h3
  exact Mono.set i1 (by rw [h2]; decide) (by show _ ≤ x; omega) r.st
theorem Inv.mono_fails {r : R} (h : Inv r) {a now : Int} (hm : mayE r a = 0) (hp : (tk r a).ph = 2) : Mono r (failsS r a now) := by
  obtain ⟨h4, h5, h6⟩ := mayE_ok hm
  obtain ⟨i1, i2, i3, i4⟩ := h.ix h4 h5
  unfold tk at hp
  unfold failsS
  split
  · exact Mono.set (k := ⟨5, (tk r a).tr, _, []⟩) i1 (by rw [hp]; decide) (Int.le_refl _) r.st
  · exact Mono.set (k := ⟨4, (tk r a).tr, 0, []⟩) i1 (by rw [hp]; decide) (Int.le_refl _) 2
theorem Inv.mono_done {r : R} (h : Inv r) {a x : Int} (he : heldE r a x = 0) (s : Tx.T) : Mono r (doneS r a x s) := by
  obtain ⟨h1, h2, h3⟩ := heldE_ok he
  obtain ⟨h4, h5, h6⟩ := mayE_ok h1
  obtain ⟨i1, i2, i3, i4⟩ := h.ix h4 h5
  unfold tk at h2 h3
  exact (Mono.set (k := ⟨3, x, 0, s⟩) i1 (by rw [h2]; decide) (by show _ ≤ x; omega) r.st).trans (Mono.upd (r := setT r a ⟨3, x, 0, s⟩) (by show (r.ts.set _ _).length = _; rw [List.length_set]; exact h.len))
theorem Inv.mono_sig {r : R} (h : Inv r) (s : Tx.T) : Mono r (sigS r s) :=
  (show Mono r ⟨r.d, r.st, r.ts, r.sg ++ [s]⟩ from ⟨rfl, rfl, fun _ _ => Int.le_refl _, fun _ _ _ => rfl⟩).trans (Mono.upd (r := ⟨r.d, r.st, r.ts, r.sg ++ [s]⟩) h.len)
theorem Inv.mono_tick1 {r : R} (h : Inv r) (now : Int) {i : Nat} (hi : i < r.ts.length) : Mono r (Rn.tick1 now r i) := by
  unfold Rn.tick1
  split
  · exact Mono.refl r
  · next h1 =>
    have hm : mayE r (i : Int) = 0 := by unfold mayE; rw [if_neg (by omega), if_neg (by omega)]
    split
    · exact Mono.refl r
    · split
      · next h2 => exact h.mono_fails hm h2
      · split
        · next h2 => exact Mono.set (i := i) (k := ⟨1, (tk r (i : Int)).tr, 0, []⟩) hi (by show (tk r (i : Int)).ph ≠ 3; rw [h2]; decide) (Int.le_refl _) r.st
        · exact Mono.refl r
theorem Inv.mono_tickK {r : R} (h : Inv r) {now : Int} (hn0 : 0 ≤ now) (hn : now ≤ tickMax) : ∀ k, k ≤ r.ts.length → Mono r (Rn.tickK r now k)
  | 0, _ => Mono.refl r
  | k + 1, hk => by
    rw [tickK_next]
    exact (Inv.mono_tickK h hn0 hn k (by omega)).trans ((h.tickK hn0 hn k (by omega)).mono_tick1 now (by rw [(tickK_len r now k).1]; omega))
theorem Inv.mono_tick {r : R} (h : Inv r) {now : Int} (hn0 : 0 ≤ now) (hn : now ≤ tickMax) : Mono r (tickS r now) := h.mono_tickK hn0 hn _ (Nat.le_refl _)
/-! ### How many tasks are done -/
def dones (ts : List Tk) : Nat := ts.countP fun k => decide (k.ph = 3)
theorem dones_le (ts : List Tk) : dones ts ≤ ts.length := List.countP_le_length
theorem dones_all {ts : List Tk} : dones ts = ts.length ↔ allDone ts = true := by
  unfold dones allDone
  rw [List.countP_eq_length, List.all_eq_true]
theorem dones_next {ts : List Tk} {k : Nat} (hk : k < ts.length) : dones (ts.take (k + 1)) = dones (ts.take k) + (if (ts.getD k t0).ph = 3 then 1 else 0) := by
  unfold dones
  rw [List.take_add_one, List.getElem?_eq_getElem hk, List.countP_append, List.getD_eq_getElem?_getD, List.getElem?_eq_getElem hk]
  simp [List.countP_cons]
theorem dones_like : ∀ {ts ts' : List Tk}, Like ts ts' → dones ts' = dones ts := fun {ts ts'} h => by
  have key : ∀ k, k ≤ ts.length → dones (ts'.take k) = dones (ts.take k) := fun k => by
    induction k with
    | zero => intro _; rfl
    | succ k ih =>
      intro hk
      rw [dones_next (ts := ts') (by rw [h.1]; omega), dones_next (ts := ts) (by omega), ih (by omega)]
      by_cases e : (ts.getD k t0).ph = 3
      · rw [if_pos e, if_pos ((h.2 k).2 e)]
      · rw [if_neg e, if_neg (fun e' => e ((h.2 k).1 e'))]
  have := key ts.length (Nat.le_refl _)
  rw [List.take_of_length_le (by rw [h.1]; exact Nat.le_refl _), List.take_of_length_le (Nat.le_refl _)] at this
  exact this
theorem dones_set {ts : List Tk} {i : Nat} {k : Tk} (hi : i < ts.length) (h : (ts.getD i t0).ph ≠ 3) (hk : k.ph = 3) : dones (ts.set i k) = dones ts + 1 := by
  have e : (ts.getD i t0) = ts[i] := by rw [List.getD_eq_getElem?_getD, List.getElem?_eq_getElem hi]; rfl
  rw [e] at h
  unfold dones
  rw [List.countP_set hi]
  simp [h, hk]
end Go.Proofs.YtpaolgjgonghlaaDoor.Rn
/-
  A run without signals: some task is always ready till all are done; leased and done one by one it ends.
-/
namespace Go.Proofs.YtpaolgjgonghlaaDoor.Rn
theorem rank {d : Df.D} (h : Df.Ok d) : ∃ f : Nat → Nat, ∀ i (hi : i < d.length), ∀ a ∈ d[i].after, f a.toNat < f i := by
  obtain ⟨o, -, -, HO, hlen⟩ := To.orderI_yes h.tree
  rw [Int.toNat_natCast] at HO hlen
  refine ⟨fun i => o.idxOf i, fun i hi a ha => ?_⟩
  have h1 := h.edge hi ha
  have hG : Gr.Good (d.length : Int) (Df.graphI d) := Df.graph_good h.n16
  have h0 := (h.after hi).2 a ha
  have e : ((a.toNat : Nat) : Int) = a := by omega
  rw [← e] at h1
  have h2 : (a.toNat, i) ∈ Gr.nat (Df.graphI d) := (hG.mem a.toNat i).2 h1
  exact (HO.pos h2 (To.nodup_full HO.once HO.low hlen i hi)).2
structure Ends (d : Df.D) (r : R) (k : Nat) : Prop where
  inv : Inv r
  de : r.d = d
  ph : ∀ i, i < r.ts.length → (r.ts.getD i t0).ph = 0 ∨ (r.ts.getD i t0).ph = 1 ∨ (r.ts.getD i t0).ph = 3
  tr : ∀ i, i < r.ts.length → (r.ts.getD i t0).ph ≠ 3 → (r.ts.getD i t0).tr = 0
  st : r.st = 0 ∨ r.st = 1
  cnt : dones r.ts = k
theorem Ends.live {d : Df.D} {r : R} {k : Nat} (h : Ends d r k) (hk : k < d.length) : r.st = 0 := by
  rcases h.st with e | e
  · exact e
  · have := dones_all.2 (h.inv.fin.1 e)
    rw [h.cnt, h.inv.len, h.de] at this
    omega
theorem Ends.ready {d : Df.D} {r : R} {k : Nat} (h : Ends d r k) (hk : k < d.length) (hon : ∀ t ∈ d, t.on = []) : ∃ i, i < r.ts.length ∧ (r.ts.getD i t0).ph = 1 := by
  have hs := h.live hk
  obtain ⟨f, hf⟩ := rank h.inv.good
  have key : ∀ n i, i < r.ts.length → (r.ts.getD i t0).ph ≠ 3 → f i ≤ n → ∃ i, i < r.ts.length ∧ (r.ts.getD i t0).ph = 1 := fun n => by
    induction n with
    | zero =>
      intro i hi hp hfi
      rcases h.ph i hi with e | e | e
      · have hi' : i < r.d.length := by rw [← h.inv.len]; exact hi
        have hfr := h.inv.settled hs i hi' e
        have : free r.ts r.sg r.d[i] = true := free_iff.2 ⟨fun a ha => by have := hf i hi' a ha; omega, .inl (hon _ (h.de ▸ List.getElem_mem hi'))⟩
        rw [hfr] at this; cases this
      · exact ⟨i, hi, e⟩
      · exact absurd e hp
    | succ n ih =>
      intro i hi hp hfi
      rcases h.ph i hi with e | e | e
      · have hi' : i < r.d.length := by rw [← h.inv.len]; exact hi
        have hfr := h.inv.settled hs i hi' e
        refine Classical.byContradiction fun hno => ?_
        have : free r.ts r.sg r.d[i] = true := free_iff.2 ⟨fun a ha => Classical.byContradiction fun hne => hno (ih a.toNat (by
          have := ((Df.Ok.after h.inv.good hi').2 a ha); rw [h.inv.len]; omega) hne (by have := hf i hi' a ha; omega)), .inl (hon _ (h.de ▸ List.getElem_mem hi'))⟩
        rw [hfr] at this; cases this
      · exact ⟨i, hi, e⟩
      · exact absurd e hp
  refine Classical.byContradiction fun hno => ?_
  have hall : allDone r.ts = true := allDone_iff.2 fun i hi => Classical.byContradiction fun hp => hno (key (f i) i hi hp (Nat.le_refl _))
  have := h.inv.fin.2 hall
  omega
theorem Ends.new {d : Df.D} (h : Df.Ok d) : Ends d (newS d) 0 := by
  have hl : (List.replicate d.length t0).length = d.length := List.length_replicate
  have hL := up_like (d := d) (ts := List.replicate d.length t0) (sg := []) hl
  have hn1 := h.n1
  have e0 : dones (newS d).ts = 0 := by
    refine (dones_like hL).trans ?_
    unfold dones
    rw [List.countP_eq_zero]
    intro k hk
    rw [(List.mem_replicate.1 hk).2]
    decide
  have key : ∀ i, i < d.length → (newS d).ts.getD i t0 = upT (List.replicate d.length t0) [] (d.getD i tz) t0 := fun i hi => by
    show (List.zipWith (upT (List.replicate d.length t0) []) d (List.replicate d.length t0)).getD i t0 = _
    rw [getD_up hl _ hi, getD_rep, List.getD_eq_getElem?_getD, List.getElem?_eq_getElem hi]; rfl
  have hlen : (newS d).ts.length = d.length := (new_inv h).len
  refine ⟨new_inv h, rfl, fun i hi => ?_, fun i hi _ => ?_, ?_, e0⟩
  · rw [key i (by omega)]
    unfold upT
    split
    · exact .inr (.inl rfl)
    · exact .inl rfl
  · rw [key i (by omega)]
    unfold upT
    split <;> rfl
  · show (if _ then (1 : Int) else 0) = 0 ∨ (if _ then (1 : Int) else 0) = 1
    split
    · exact .inr rfl
    · exact .inl rfl
theorem Ends.step {d : Df.D} {r : R} {k : Nat} (h : Ends d r k) (hk : k < d.length) {i : Nat} (hi : i < r.ts.length) (hp : (r.ts.getD i t0).ph = 1) :
    leaseE r (i : Int) 1 = 0 ∧ heldE (leaseS r (i : Int) 1 5) (i : Int) 1 = 0 ∧ Ends d (doneS (leaseS r (i : Int) 1 5) (i : Int) 1 []) (k + 1) := by
  have hs := h.live hk
  have hm : mayE r (i : Int) = 0 := by unfold mayE; rw [if_neg (by omega), if_neg (by omega)]
  have htr := h.tr i hi (by rw [hp]; decide)
  have he : leaseE r (i : Int) 1 = 0 := by
    unfold leaseE tk
    rw [if_neg (by omega), Int.toNat_natCast, if_neg (by omega), if_neg (by omega)]
  have hx : ((leaseS r (i : Int) 1 5).ts.getD i t0) = ⟨2, 1, 5 + (df r (i : Int)).wait, []⟩ := by
    show (r.ts.set (i : Int).toNat _).getD i t0 = _
    rw [Int.toNat_natCast, getD_set hi, if_pos rfl]
  have hxl : (leaseS r (i : Int) 1 5).ts.length = r.ts.length := by
    show (r.ts.set _ _).length = _; rw [List.length_set]
  have he2 : heldE (leaseS r (i : Int) 1 5) (i : Int) 1 = 0 := by
    have hm2 : mayE (leaseS r (i : Int) 1 5) (i : Int) = 0 := by
      unfold mayE
      rw [hxl, if_neg (by omega), if_neg (by show ¬ r.st ≠ 0; omega)]
    unfold heldE tk
    rw [if_neg (by omega), Int.toNat_natCast, hx, if_neg (by simp)]
  have hix := h.inv.lease he (by decide) (by decide : (5 : Int) ≤ tickMax)
  have hiy := hix.done he2 [] (Nat.zero_le _)
  have ets : (setT (leaseS r (i : Int) 1 5) (i : Int) ⟨3, 1, 0, []⟩).ts = r.ts.set i ⟨3, 1, 0, []⟩ := by
    show (r.ts.set (i : Int).toNat _).set (i : Int).toNat _ = _
    rw [Int.toNat_natCast, List.set_set]
  have hyl : (doneS (leaseS r (i : Int) 1 5) (i : Int) 1 []).ts.length = r.ts.length := by
    rw [hiy.len]; show r.d.length = _; exact h.inv.len.symm
  have hlen2 : (r.ts.set i ⟨3, 1, 0, []⟩).length = r.d.length := by rw [List.length_set]; exact h.inv.len
  have eyt : (doneS (leaseS r (i : Int) 1 5) (i : Int) 1 []).ts = List.zipWith (upT (r.ts.set i ⟨3, 1, 0, []⟩) r.sg) r.d (r.ts.set i ⟨3, 1, 0, []⟩) := by
    show List.zipWith (upT (setT _ _ _).ts _) _ (setT _ _ _).ts = _
    rw [ets]; rfl
  have yat : ∀ j, j < r.ts.length → (doneS (leaseS r (i : Int) 1 5) (i : Int) 1 []).ts.getD j t0 = upT (r.ts.set i ⟨3, 1, 0, []⟩) r.sg (r.d.getD j tz) (if j = i then ⟨3, 1, 0, []⟩ else r.ts.getD j t0) := fun j hj => by
    have hj2 : j < r.d.length := by rw [← h.inv.len]; exact hj
    rw [eyt, getD_up hlen2 _ hj2, getD_set hi, show r.d.getD j tz = r.d[j] by rw [List.getD_eq_getElem?_getD, List.getElem?_eq_getElem hj2]; rfl]
  refine ⟨he, he2, hiy, h.de, fun j hj => ?_, fun j hj hp3 => ?_, ?_, ?_⟩
  · rw [yat j (by omega)]
    by_cases e : j = i
    · rw [if_pos e]
      exact .inr (.inr (up_ph.2 rfl))
    · rw [if_neg e]
      unfold upT
      split
      · exact .inr (.inl rfl)
      · exact h.ph j (by omega)
  · rw [yat j (by omega)] at hp3 ⊢
    rw [Ne, up_ph] at hp3
    by_cases e : j = i
    · rw [if_pos e] at hp3; exact absurd rfl hp3
    · rw [if_neg e] at hp3 ⊢
      have := h.tr j (by omega) hp3
      unfold upT
      split <;> exact this
  · show (if _ then (1 : Int) else r.st) = 0 ∨ (if _ then (1 : Int) else r.st) = 1
    split
    · exact .inr rfl
    · exact .inl hs
  · rw [eyt, dones_like (up_like (d := r.d) hlen2), dones_set hi (by rw [hp]; decide) rfl, h.cnt]
theorem Ends.end_ {d : Df.D} {r : R} (h : Ends d r d.length) : r.st = 1 := h.inv.fin.2 (dones_all.1 (by rw [h.cnt, h.inv.len, h.de]))
end Go.Proofs.YtpaolgjgonghlaaDoor.Rn
/-
  A row of acts (structs of five cells) that came in.
-/
namespace Go.Proofs.YtpaolgjgonghlaaDoor
open Go.RowKit
structure Rn.Ac where
  op : Int
  task : Int
  tr : Int
  n : Int
  name : ByteArray
def acIn (a : Rn.Ac) : Prop := inI a.op ∧ inI a.task ∧ inI a.tr ∧ inI a.n ∧ a.name.size ≤ 9223372036854775807
/-- The slice at address A holds the acts l, below block B. -/
def ActsR (w : World) (B : Nat) (A : Option Addr) (l : List Rn.Ac) : Prop :=
  (∀ a ∈ l, acIn a) ∧ (0 < l.length → ∃ b off, A = some ⟨b, off, none⟩ ∧ b < B ∧ ∀ i (hi : i < l.length), w.cell? ⟨b, off + i * 5, none⟩ = some (.int .i64 l[i].op) ∧ w.cell? ⟨b, off + i * 5 + 1, none⟩ = some (.int .i64 l[i].task) ∧ w.cell? ⟨b, off + i * 5 + 2, none⟩ = some (.int .i64 l[i].tr) ∧ w.cell? ⟨b, off + i * 5 + 3, none⟩ = some (.int .i64 l[i].n) ∧ w.cell? ⟨b, off + i * 5 + 4, none⟩ = some (.string l[i].name))
theorem ActsR.below {w w' : World} {B : Nat} {A : Option Addr} {l : List Rn.Ac} (h : ActsR w B A l) (hb : Below B w w') : ActsR w' B A l :=
  ⟨h.1, fun hn => by
    obtain ⟨b, off, e, hl, hc⟩ := h.2 hn
    have hk : ∀ o, w'.cell? ⟨b, o, none⟩ = w.cell? ⟨b, o, none⟩ := fun o => hb.cell (p := ⟨b, o, none⟩) hl
    exact ⟨b, off, e, hl, fun i hi => by rw [hk, hk, hk, hk, hk]; exact hc i hi⟩⟩
theorem ActsR.at_ {w : World} {B : Nat} {A : Option Addr} {l : List Rn.Ac} {i : Nat} (h : ActsR w B A l) (hi : i < l.length) :
    ∃ b off a, A = some ⟨b, off, none⟩ ∧ Hid (b < B) ∧ Hid (acIn a) ∧ w.cell? ⟨b, off + i * 5, none⟩ = some (.int .i64 a.op) ∧ w.cell? ⟨b, off + i * 5 + 1, none⟩ = some (.int .i64 a.task) ∧ w.cell? ⟨b, off + i * 5 + 2, none⟩ = some (.int .i64 a.tr) ∧ w.cell? ⟨b, off + i * 5 + 3, none⟩ = some (.int .i64 a.n) ∧ w.cell? ⟨b, off + i * 5 + 4, none⟩ = some (.string a.name) := by
  obtain ⟨b, off, e, hb, hc⟩ := h.2 (by omega)
  obtain ⟨h0, h1, h2, h3, h4⟩ := hc i hi
  exact ⟨b, off, l[i], e, Lib.hid hb, Lib.hid (h.1 _ (List.getElem_mem hi)), h0, h1, h2, h3, h4⟩
end Go.Proofs.YtpaolgjgonghlaaDoor
