/-
  Part 10 of the texts behind the law: TKyOwn, TKyAll.
-/
import Derived.Test.YtkbekojnmdgdgaaGreatDoorTf1
import Derived.Deep.RegionHeld3
import Derived.Deep.Cut
import Derived.Deep.DrawnRows
import Derived.Lib.MinMax
import Derived.Test.YtkbekojnmdgdgaaGreatDoorTf9
import Derived.Laws.MakeOwn
/- KyOwn -/
namespace Go.Proofs.YtkbekojnmdgdgaaGreatDoor
open Go.RowKit Go.Maps
attribute [local go_sem ↓] Go.wp_at_zero Go.wp_at_succ
set_option maxRecDepth 20000
def kc (t : Ky.T) : List Value := [.string t.name, .string t.key]
theorem kc_wide (l : List Ky.T) : Wide 2 (l.map kc) := fun v hv => by
 obtain ⟨t, _, rfl⟩ := List.mem_map.1 hv
 refine ⟨rfl, fun u hu => ?_⟩
 simp [kc] at hu
 rcases hu with rfl | rfl <;> rfl
theorem kkey_info : (Tryz.prog.info? 63).map (fun i => (i.zero, i.size, i.bytes)) = some (some (.agg #[.string ⟨#[]⟩, .string ⟨#[]⟩]), 2, 32) := by kernel_rfl
structure PMK (w : World) (g m : Nat) (A : Option Addr) (c : Nat) (s : Ky.S) : Prop where
 obj : w.heap[g]? = some (.cells #[.int .i64 s.most, .map (some m), .slice A s.l.length c] 101 (0, 0))
 map : TMap w m s.l
 row : OwnK w 0 63 2 A c (s.l.map kc)
section
variable {w w' : World} {g m c : Nat} {A : Option Addr} {s : Ky.S}
theorem PMK.ltg (h : PMK w g m A c s) : g < w.heap.size := lt_of_block h.obj
theorem PMK.ltm (h : PMK w g m A c s) : m < w.heap.size := h.map.lt
theorem OwnK.block_ {base k : Nat} {T : TypeId} {a : Addr} {vs : List (List Value)} (h : OwnK w base T k (some a) c vs) : ∃ cur, w.heap[a.block]? = some (.cells cur T (0, 0)) := by
 rcases h.1.2 with ⟨e, _⟩ | ⟨g', c', cur, e, _, hg, _⟩
 ·cases e
 ·injection e with e1 e2 e3
  injection e1 with e1
  subst e1
  exact ⟨cur, hg⟩
theorem TMap.neK {l : List Ky.T} (h : TMap w m l) {g : Nat} {cs : Array Value} {t : TypeId} {fz : Nat × Nat} (hg : w.heap[g]? = some (.cells cs t fz)) : g ≠ m := by
 rintro rfl
 obtain ⟨D, ⟨es, clock, hb, _⟩, _⟩ := h
 rw [hg] at hb; cases hb
theorem PMK.ne (h : PMK w g m A c s) : g ≠ m := h.map.neK h.obj
theorem PMK.rowm (h : PMK w g m A c s) {a : Addr} (ha : A = some a) : a.block ≠ m ∧ a.block ≠ g := by
 subst ha
 obtain ⟨cur, hc⟩ := h.row.block_
 refine ⟨h.map.neK hc, fun e => ?_⟩
 rw [e, h.obj] at hc
 injection hc with hc
 injection hc with _ hc _
 exact absurd hc (by decide)
theorem PMK.keep (h : PMK w g m A c s) (hg : w'.heap[g]? = w.heap[g]?) (hm : w'.heap[m]? = w.heap[m]?) (hr : ∀ a, A = some a → w'.heap[a.block]? = w.heap[a.block]?) : PMK w' g m A c s := ⟨hg.trans h.obj, h.map.keep hm, h.row.keep hr⟩
theorem PMK.grew (h : PMK w g m A c s) (hb : Below w.heap.size w w') : PMK w' g m A c s := h.keep (hb.block g h.ltg) (hb.block m h.ltm) fun a ha => by
 subst ha
 exact hb.block _ h.row.lt.2
end
def three (g m : Nat) (A : Option Addr) (i : Nat) : Prop := i = g ∨ i = m ∨ ∃ a, A = some a ∧ i = a.block
def PK (w : World) (g : Nat) (O : Nat → Prop) (s : Ky.S) : Prop := ∃ m A c, PMK w g m A c s ∧ ∀ i, O i ↔ three g m A i
theorem PK.keep {w w' : World} {g : Nat} {O : Nat → Prop} {s : Ky.S} (h : PK w g O s) (_ : w.heap.size ≤ w'.heap.size) (hk : ∀ i, O i → w'.heap[i]? = w.heap[i]?) : PK w' g O s := by
 obtain ⟨m, A, c, p, ho⟩ := h
 exact ⟨m, A, c, p.keep (hk g ((ho g).2 (.inl rfl))) (hk m ((ho m).2 (.inr (.inl rfl)))) (fun a ha => hk _ ((ho _).2 (.inr (.inr ⟨a, ha, rfl⟩)))), ho⟩
theorem PK.lt {w : World} {g : Nat} {O : Nat → Prop} {s : Ky.S} (h : PK w g O s) : ∀ i, O i → i < w.heap.size := fun i hi => by
 obtain ⟨m, A, c, p, ho⟩ := h
 rcases (ho i).1 hi with rfl | rfl | ⟨a, rfl, rfl⟩
 ·exact p.ltg
 ·exact p.ltm
 ·exact p.row.lt.2
theorem obT {w : World} {g : Nat} {x y z : Value} {t : TypeId} (h : w.heap[g]? = some (.cells #[x, y, z] t (0, 0))) :
  (w.cell? ⟨g, 0, none⟩ = some x ∧ w.cell? ⟨g, 1, none⟩ = some y ∧ w.cell? ⟨g, 2, none⟩ = some z) ∧ w.frozen? ⟨g, 2, none⟩ = false :=
 ⟨⟨by simp [World.cell?, h], by simp [World.cell?, h], by simp [World.cell?, h]⟩, by simp [World.frozen?, h]⟩
set_option maxHeartbeats 1000000 in
theorem keysNew_any (m : Int) (w : World) : Calls Tryz.prog 27 #[.int .i64 m] w fun e w' => ∃ g O, e = .returned (.pointer (some ⟨g, 0, none⟩)) ∧ PK w' g O (Ky.newS m) ∧ (∀ i, O i → w.heap.size ≤ i) ∧ Below w.heap.size w w' := by
 have hmm := @run_makeMap Tryz.prog
 have EC : min (max m 1) 128 = Ky.clamp m := by
  unfold Ky.clamp
  split
  ·omega
  ·split <;> omega
 go_enter Tryz.func27, Tryz.ntmps27
 go_wp2
 go_ret
 refine ⟨_, three (w.heap.size + 1) w.heap.size none, rfl, ⟨w.heap.size, none, 0, ⟨?_, ?_, ?_⟩, fun _ => Iff.rfl⟩, ?_, ?_⟩
 ·have e : w.heap.size + 1 = (w.alloc (.map #[] 0)).heap.size := by simp
  rw [e]; exact heap_alloc_new _ _
 ·exact TMap.keep (TMap.made w) (Below.heap_alloc _ _ _ (by simp))
 ·exact OwnK.none_ ..
 ·rintro i (rfl | rfl | ⟨a, h, _⟩)
  ·omega
  ·omega
  ·cases h
 ·exact ((Below.refl _ _).alloc (Nat.le_refl _) _).alloc (by simp) _
theorem Ky.getV_in (s : Ky.S) (n k : ByteArray) : (Ky.inL s.l n k).getD 0 = Ky.getV s n k := rfl
theorem Ky.getB_in (s : Ky.S) (n k : ByteArray) : (Ky.inL s.l n k).isSome = Ky.getB s n k := by unfold Ky.inL Ky.getB Ky.findV; simp
set_option maxHeartbeats 2000000 in
theorem keysGet_any (g : Nat) (O : Nat → Prop) (s : Ky.S) (n k : ByteArray) (w : World) (h : PK w g O s) (_ : Ky.Inv s) (hx : Ky.okk n k) :
  Calls Tryz.prog 34 #[.pointer (some ⟨g, 0, none⟩), .agg #[.string n, .string k]] w fun e w' => e = .returned (.tuple #[.int .i64 (Ky.getV s n k), .bool (Ky.getB s n k)]) ∧ Hid (Below w.heap.size w w') := by
 obtain ⟨m, A, c, p, ho⟩ := h
 rw [← Ky.getV_in, ← Ky.getB_in]
 generalize hw1 : w.alloc (Obj.cells #[Value.string n, Value.string k] 63) = w1
 have B1 : Below w.heap.size w w1 := hw1 ▸ (Below.refl _ _).alloc (Nat.le_refl _) _
 have p1 := p.grew B1
 obtain ⟨⟨-, c1, -⟩, -⟩ := obT p1.obj
 have k0 : w1.cell? ⟨w.heap.size, 0, none⟩ = some (.string n) ∧ w1.cell? ⟨w.heap.size, 1, none⟩ = some (.string k) := by rw [← hw1]; simp
 obtain ⟨k0, k1⟩ := k0
 have L := TMap.look2 (w := w1.drew) p1.map n k hx.1 hx.2
 generalize (Ky.inL s.l n k).getD 0 = a at *
 generalize (Ky.inL s.l n k).isSome = b at *
 have HB := Lib.hid B1
 have HW := Lib.hid hw1
 clear p p1 ho B1 hw1 hx
 go_enter Tryz.func34, Tryz.ntmps34
 go_upto_region 1 with (fail)
 rw [HW.out]
 go_region_held3 (fun w' => w'.cell? ⟨g, 1, none⟩ = some (.map (some m)) ∧ w'.cell? ⟨w.heap.size, 0, none⟩ = some (.string n) ∧ w'.cell? ⟨w.heap.size, 1, none⟩ = some (.string k)) (go_keep) (fail)
 go_wp2
 go_ret2
 exact ⟨rfl, Lib.hid HB.out.drew⟩
end Go.Proofs.YtkbekojnmdgdgaaGreatDoor
/- KyAll -/
namespace Go.Proofs.YtkbekojnmdgdgaaGreatDoor
open Go.RowKit Go.Maps
attribute [local go_sem ↓] Go.wp_at_zero Go.wp_at_succ
set_option maxRecDepth 20000
theorem entK_info : (Tryz.prog.info? 65).map (fun i => (i.zero, i.size, i.bytes)) = some (some (.agg #[.string ⟨#[]⟩, .string ⟨#[]⟩, .int .i64 0]), 3, 40) := by kernel_rfl
def zeroE : Array Value := #[.string ⟨#[]⟩, .string ⟨#[]⟩, .int .i64 0]
theorem made_E (n : Nat) (hn : n ≤ 1000000) (W : World) : (Instr.makeSlice 55 (.int .i64 (n : Int)) (.int .i64 (n : Int))).run Tryz.prog W = .ok (.slice (some ⟨W.heap.size, 0, none⟩) n n) (W.alloc (.cells (madeCells zeroE (n * 3)) 65)) := by
 obtain ⟨i, hi, hz, hs, hy⟩ := info_parts entK_info
 have hr := run_make (P := Tryz.prog) W 55 65 i _ Tryz.underlying55 hi hz .i64 .i64 n n (by omega) (Int.le_refl _) (by rw [hy]; omega) (by omega)
 rw [hs, Int.toNat_natCast] at hr
 exact hr
structure RowE (W : World) (Y n i : Nat) (l : List Ky.T) : Prop where
 blk : ∃ cur, W.heap[Y]? = some (.cells cur 65 (0, 0)) ∧ cur.size = n * 3
 done : ∀ j (hj : j < l.length), j < i → W.cell? ⟨Y, j * 3, none⟩ = some (.string l[j].name) ∧ W.cell? ⟨Y, j * 3 + 1, none⟩ = some (.string l[j].key) ∧ W.cell? ⟨Y, j * 3 + 2, none⟩ = some (.int .i64 l[j].id)
theorem RowE.lt {W : World} {Y n i : Nat} {l : List Ky.T} (h : RowE W Y n i l) : Y < W.heap.size := by obtain ⟨_, h, _⟩ := h.blk; exact lt_of_block h
theorem RowE.made (W : World) (n : Nat) (l : List Ky.T) : RowE (W.alloc (.cells (madeCells zeroE (n * 3)) 65)) W.heap.size n 0 l :=
 ⟨⟨_, heap_alloc_new _ _, by simp [madeCells]⟩, fun j _ h => by omega⟩
theorem RowE.on {W W' : World} {Y n i : Nat} {l : List Ky.T} (h : RowE W Y n i l) (hb : Below W.heap.size W W') : RowE W' Y n i l := by
 obtain ⟨cur, h1, h2⟩ := h.blk
 have hc : ∀ o, W'.cell? ⟨Y, o, none⟩ = W.cell? ⟨Y, o, none⟩ := fun o => hb.cell (p := ⟨Y, o, none⟩) h.lt
 exact ⟨⟨cur, (hb.block Y h.lt).trans h1, h2⟩, fun j hj hi => ⟨(hc _).trans (h.done j hj hi).1, (hc _).trans (h.done j hj hi).2.1, (hc _).trans (h.done j hj hi).2.2⟩⟩
theorem RowE.drew {W : World} {Y n i : Nat} {l : List Ky.T} (h : RowE W Y n i l) : RowE W.drew Y n i l := ⟨h.blk, h.done⟩
theorem RowE.cells {W : World} {Y n i k : Nat} {l : List Ky.T} (h : RowE W Y n i l) (hk : k < n) : ∃ v0 v1 v2, (W.cell? ⟨Y, k * 3, none⟩ = some v0 ∧ W.cell? ⟨Y, k * 3 + 1, none⟩ = some v1 ∧ W.cell? ⟨Y, k * 3 + 2, none⟩ = some v2) ∧ W.frozen? ⟨Y, k * 3, none⟩ = false ∧ W.frozen? ⟨Y, k * 3 + 1, none⟩ = false ∧ W.frozen? ⟨Y, k * 3 + 2, none⟩ = false := by
 obtain ⟨cur, h1, h2⟩ := h.blk
 have hc : ∀ o, o < n * 3 → ∃ v, W.cell? ⟨Y, o, none⟩ = some v := fun o ho => by
  simp only [World.cell?, h1]
  exact ⟨_, Array.getElem?_eq_getElem (by omega)⟩
 obtain ⟨v0, e0⟩ := hc (k * 3) (by omega)
 obtain ⟨v1, e1⟩ := hc (k * 3 + 1) (by omega)
 obtain ⟨v2, e2⟩ := hc (k * 3 + 2) (by omega)
 exact ⟨v0, v1, v2, ⟨e0, e1, e2⟩, by simp [World.frozen?, h1], by simp [World.frozen?, h1], by simp [World.frozen?, h1]⟩
def S3 (w : World) (g o : Nat) (a b c : Value) : World := ((w.setCell ⟨g, o, none⟩ a).setCell ⟨g, o + 1, none⟩ b).setCell ⟨g, o + 2, none⟩ c
theorem S3.cells (w : World) (g o : Nat) (a b c : Value) : S3 w g o a b c = w.setCells g o [a, b, c] := rfl
theorem setCells_blk (b : Nat) : ∀ (vs : List Value) (o : Nat) (w : World) (cur : Array Value) (T : TypeId) (fz : Nat × Nat), w.heap[b]? = some (.cells cur T fz) → ∃ cur', (w.setCells b o vs).heap[b]? = some (.cells cur' T fz) ∧ cur'.size = cur.size
 | [], _, _, cur, _, _, h => ⟨cur, h, rfl⟩
 | v :: r, o, w, cur, T, fz, h => by
  have hs : (w.setCell ⟨b, o, none⟩ v).heap[b]? = some (.cells (cur.setIfInBounds o v) T fz) := by
   unfold World.setCell
   simp only
   rw [Array.getElem?_modify, if_pos rfl, h]
   rfl
  obtain ⟨c2, h2, e2⟩ := setCells_blk b r (o + 1) _ _ T fz hs
  exact ⟨c2, by rw [World.setCells]; exact h2, by rw [e2]; simp⟩
theorem RowE.put {W : World} {Y n i : Nat} {l : List Ky.T} (h : RowE W Y n i l) (hi : i < l.length) (hn : n = l.length) : RowE (S3 W Y (i * 3) (.string l[i].name) (.string l[i].key) (.int .i64 l[i].id)) Y n (i + 1) l := by
 subst hn
 obtain ⟨v0, v1, v2, ⟨e0, e1, e2⟩, _⟩ := h.cells hi
 obtain ⟨cur, h1, h2⟩ := h.blk
 rw [S3.cells]
 obtain ⟨c2, h3, h4⟩ := setCells_blk Y [.string l[i].name, .string l[i].key, .int .i64 l[i].id] (i * 3) W cur _ _ h1
 have hin := World.cell?_setCells_in Y [.string l[i].name, .string l[i].key, .int .i64 l[i].id] (i * 3) W (fun j hj => by
  have hj' : j < 3 := hj
  rcases (show j = 0 ∨ j = 1 ∨ j = 2 by omega) with rfl | rfl | rfl
  ·rw [Nat.add_zero, e0]; rfl
  ·rw [e1]; rfl
  ·rw [e2]; rfl)
 refine ⟨⟨c2, h3, by rw [h4, h2]⟩, fun j hj hji => ?_⟩
 by_cases he : j = i
 ·subst he
  exact ⟨hin 0 (by simp), hin 1 (by simp), hin 2 (by simp)⟩
 ·have hout : ∀ o, o < i * 3 → (W.setCells Y (i * 3) [.string l[i].name, .string l[i].key, .int .i64 l[i].id]).cell? ⟨Y, o, none⟩ = W.cell? ⟨Y, o, none⟩ := fun o ho =>
   World.cell?_setCells_out Y _ (i * 3) W _ fun _ _ => .inl ho
  have hd := h.done j hj (by omega)
  exact ⟨(hout _ (by omega)).trans hd.1, (hout _ (by omega)).trans hd.2.1, (hout _ (by omega)).trans hd.2.2⟩
theorem RowE.ents {W : World} {Y n B : Nat} {l : List Ky.T} (h : RowE W Y n l.length l) (hB : B ≤ Y) : Ents W (fun b => B ≤ b) (some ⟨Y, 0, none⟩) l := fun _ =>
 ⟨Y, 0, rfl, hB, h.lt, fun i hi => by
  have := h.done i hi hi
  simpa using this⟩
theorem S3.below {w0 w : World} {B g o : Nat} {a b c : Value} (h : Below B w0 w) (hg : B ≤ g) : Below B w0 (S3 w g o a b c) :=
 ⟨h.os, h.tape, h.output, by simp [S3, World.setCell]; exact h.size, fun k hk => by
  unfold S3
  rw [Below.heap_setCell _ _ _ _ (by show k ≠ g; omega), Below.heap_setCell _ _ _ _ (by show k ≠ g; omega), Below.heap_setCell _ _ _ _ (by show k ≠ g; omega)]
  exact h.block k hk⟩
theorem TMap.okK2 {w : World} {m : Nat} {l : List Ky.T} (h : TMap w m l) : ∀ t ∈ l, okS t.name ∧ okS t.key ∧ is64 t.id := by obtain ⟨_, _, h⟩ := h; exact h.ok
theorem TMap.onceK2 {w : World} {m : Nat} {l : List Ky.T} (h : TMap w m l) : Ky.Once l := by obtain ⟨_, _, h⟩ := h; exact h.once
theorem Ky.inL_at {l : List T} (h : Once l) {i : Nat} (hi : i < l.length) : inL l l[i].name l[i].key = some l[i].id := (inL_some h).2 (List.getElem_mem hi)
set_option maxHeartbeats 2000000 in
theorem keysAll_c (g : Nat) (O : Nat → Prop) (s : Ky.S) (w : World) (h : PK w g O s) (hI : Ky.Inv s) :
  Calls Tryz.prog 39 #[.pointer (some ⟨g, 0, none⟩)] w fun e w' => ∃ A c, e = .returned (.slice A s.l.length c) ∧ Hid (Below w.heap.size w w') ∧ Hid (Ents w' (fun b => w.heap.size ≤ b) A s.l) ∧ Hid (s.l.length ≤ c) := by
 obtain ⟨m, A, c, p, ho⟩ := h
 obtain ⟨⟨-, c1, c2⟩, -⟩ := obT p.obj
 have hq : s.l.length ≤ 128 := by have := hI.few; have := hI.most1; omega
 have ME := made_E s.l.length (by omega)
 have P := Lib.hid p
 obtain ⟨w1, hw1⟩ : ∃ w1, w1 = w.alloc (.cells (madeCells zeroE (s.l.length * 3)) 65) := ⟨_, rfl⟩
 have B1 : Hid (Below w.heap.size w w1) := Lib.hid (by rw [hw1]; exact (Below.refl _ _).alloc (Nat.le_refl _) _)
 have R1 : Hid (RowE w1 w.heap.size s.l.length 0 s.l) := Lib.hid (by rw [hw1]; exact RowE.made w _ _)
 have HW := Lib.hid hw1
 have d2 : w1.cell? ⟨g, 2, none⟩ = some (.slice A s.l.length c) := (B1.out.cell (p := ⟨g, 2, none⟩) p.ltg).trans c2
 generalize hn : s.l.length = n at *
 have HN := Lib.hid hn
 clear hn p ho hI hw1
 go_enter Tryz.func39, Tryz.ntmps39
 go_upto_region 2 with (fail)
 rw [← HW.out]
 clear ME c1 c2
 go_wp2_with fail
 go_loopw [17] (fun iv wr => ∃ i : Nat, i ≤ n ∧ iv = .int .i64 i ∧ RowE wr w.heap.size n i s.l ∧ Below w.heap.size w wr) (fun iv _ => n - (intOf iv).toNat)
 case atStart => exact ⟨0, Nat.zero_le _, rfl, R1.out, B1.out⟩
 case round =>
  obtain ⟨i, hi, rfl, hr, hb⟩ := hrel
  have RR := Lib.hid hr
  have BB := Lib.hid hb
  clear hr hb
  by_cases hlt : i < n
  ·have hlt' : (i : Int) < (n : Int) := by omega
   have P2 := Lib.hid (P.out.grew BB.out)
   obtain ⟨gr, hA, -, hgr⟩ := P2.out.row.shape (by rw [List.length_map, HN.out]; omega)
   have hl : i < s.l.length := by rw [HN.out]; exact hlt
   obtain ⟨t, ht⟩ : ∃ t, s.l[i] = t := ⟨_, rfl⟩
   have ok := P2.out.map.okK2 t (by rw [← ht]; exact List.getElem_mem hl)
   have gd : ((s.l.map kc).getD i []) = kc t := by rw [List.getD_eq_getElem?_getD, List.getElem?_map, List.getElem?_eq_getElem hl, ht]; rfl
   subst hA
   have x0 : wr.cell? ⟨gr, i * 2, none⟩ = some (.string t.name) := P2.out.row.cell (i := i) (j := 0) (by rw [List.length_map]; exact hl) (by omega) (by rw [gd]; rfl)
   have x1 : wr.cell? ⟨gr, i * 2 + 1, none⟩ = some (.string t.key) := P2.out.row.cell (i := i) (j := 1) (by rw [List.length_map]; exact hl) (by omega) (by rw [gd]; rfl)
   have GR := Lib.hid hgr
   have TT : Hid (∃ h : i < s.l.length, s.l[i] = t) := Lib.hid ⟨hl, ht⟩
   clear gd ht hl hgr
   go_upto_region 5 with (fail)
   obtain ⟨w2, hw2⟩ : ∃ w2, w2 = wr.alloc (.cells #[.string t.name, .string t.key] 63) := ⟨_, rfl⟩
   have B2 : Hid (Below wr.heap.size wr w2) := Lib.hid (by rw [hw2]; exact (Below.refl _ _).alloc (Nat.le_refl _) _)
   have k01 : w2.cell? ⟨wr.heap.size, 0, none⟩ = some (.string t.name) ∧ w2.cell? ⟨wr.heap.size, 1, none⟩ = some (.string t.key) := by rw [hw2]; simp
   obtain ⟨k0, k1⟩ := k01
   have P3 := Lib.hid (P2.out.grew B2.out)
   obtain ⟨⟨-, c1, -⟩, -⟩ := obT P3.out.obj
   have L := TMap.look (w := w2.drew) P3.out.map t.name t.key ok.1 ok.2.1
   obtain ⟨hl, ht⟩ := TT.out
   rw [show Ky.inL s.l t.name t.key = some t.id by rw [← ht]; exact Ky.inL_at P3.out.map.onceK2 hl, Option.getD_some] at L
   have R2 := Lib.hid (RR.out.on B2.out)
   obtain ⟨v0, v1, v2, ⟨y0, y1, y2⟩, f0, f1, f2⟩ := R2.out.cells hlt
   rw [← hw2]
   clear hw2 ok ht hl x0 x1
   refine wp_region_C (fun w' => w'.cell? ⟨g, 1, none⟩ = some (.map (some m)) ∧ w'.cell? ⟨wr.heap.size, 0, none⟩ = some (.string t.name) ∧ w'.cell? ⟨wr.heap.size, 1, none⟩ = some (.string t.key) ∧ (Instr.lookup 98 (.map (some m)) (.agg #[.string t.name, .string t.key]) false).run Tryz.prog w' = .ok (.int .i64 t.id) w') 11 (by kernel_rfl) ?_
   have hS0 : (fun w' : World => w'.cell? ⟨g, 1, none⟩ = some (.map (some m)) ∧ w'.cell? ⟨wr.heap.size, 0, none⟩ = some (.string t.name) ∧ w'.cell? ⟨wr.heap.size, 1, none⟩ = some (.string t.key) ∧ (Instr.lookup 98 (.map (some m)) (.agg #[.string t.name, .string t.key]) false).run Tryz.prog w' = .ok (.int .i64 t.id) w') w2.drew := ⟨c1, k0, k1, L⟩
   refine takC 0 (h := ?_)
   try simp only [Act.put, List.setIfInBounds_toArray, List.set_cons_zero, List.set_cons_succ]
   refine takC 1 (h := ?_)
   try simp only [Act.put, List.setIfInBounds_toArray, List.set_cons_zero, List.set_cons_succ]
   refine takC 2 (h := ?_)
   try simp only [Act.put, List.setIfInBounds_toArray, List.set_cons_zero, List.set_cons_succ]
   refine takC 3 (h := ?_)
   try simp only [Act.put, List.setIfInBounds_toArray, List.set_cons_zero, List.set_cons_succ]
   refine takC 4 (h := ?_)
   try simp only [Act.put, List.setIfInBounds_toArray, List.set_cons_zero, List.set_cons_succ]
   refine takC 5 (h := ?_)
   try simp only [Act.put, List.setIfInBounds_toArray, List.set_cons_zero, List.set_cons_succ]
   refine takC 6 (h := ?_)
   try simp only [Act.put, List.setIfInBounds_toArray, List.set_cons_zero, List.set_cons_succ]
   refine takC 7 (h := ?_)
   try simp only [Act.put, List.setIfInBounds_toArray, List.set_cons_zero, List.set_cons_succ]
   refine takC 8 (h := ?_)
   try simp only [Act.put, List.setIfInBounds_toArray, List.set_cons_zero, List.set_cons_succ]
   refine takC 9 (h := ?_)
   try simp only [Act.put, List.setIfInBounds_toArray, List.set_cons_zero, List.set_cons_succ]
   clear c1 k0 k1 L
   refine wpAnyC_one (i := 10) (oi := ?o1) ?hi1 (by kernel_rfl) ?step1
   case hi1 => (simp only [List.getElem?_toArray, List.getElem?_cons_zero, List.getElem?_cons_succ]; exact rfl)
   intro K' hK
   go_simp
   refine hK.out _ _ ?_ (fun hHeld => ?_)
   ·exact fun _ => (by assumption)
   clear hK K' hHeld
   try simp only [Act.put, List.setIfInBounds_toArray, List.set_cons_zero, List.set_cons_succ]
   refine wpAnyC_one (i := 11) (oi := ?o2) ?hi2 (by kernel_rfl) ?step2
   case hi2 => (simp only [List.getElem?_toArray, List.getElem?_cons_zero, List.getElem?_cons_succ]; exact rfl)
   intro K' hK
   go_simp
   refine hK.out _ _ ?_ (fun hHeld => ?_)
   ·exact fun h => (by cases h)
   clear hK K' hHeld
   try simp only [Act.put, List.setIfInBounds_toArray, List.set_cons_zero, List.set_cons_succ]
   refine wpAnyC_done (by kernel_rfl) ?_ _
   go_wp2_with fail
   obtain ⟨hl, ht⟩ := TT.out
   have RP := R2.out.put hl HN.out.symm
   rw [ht] at RP
   refine ⟨⟨i + 1, by omega, by go_num, RP.drew, (S3.below (BB.out.trans (B2.out.mono BB.out.size)) (Nat.le_refl _)).drew⟩, ?_⟩
   simp [intOf]; omega
  ·obtain rfl : n = i := by omega
   go_wp2_with fail
   go_ret
   refine ⟨_, _, rfl, Lib.hid BB.out, Lib.hid ?_, Lib.hid (Nat.le_refl _)⟩
   have := RR.out
   rw [← HN.out] at this
   exact this.ents (Nat.le_refl _)
end Go.Proofs.YtkbekojnmdgdgaaGreatDoor
