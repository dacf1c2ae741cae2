/-
  Part 10 of the texts behind the law: QKyOwn, QKyAll.
-/
import Derived.Test.YtkbekojnmdgdgaaGreatDoorQc1
import Derived.Deep.RegionHeld3
import Derived.Deep.Cut
import Derived.Deep.DrawnRows
import Derived.Lib.MinMax
import Derived.Test.YtkbekojnmdgdgaaGreatDoorQc9
import Derived.Laws.MakeOwn
/- KyOwn -/
namespace Go.Proofs.YtkbekojnmdgdgaaGreatDoor
open Go.RowKit Go.Maps
attribute [local go_sem ↓] Go.wp_at_zero Go.wp_at_succ
set_option maxRecDepth 20000
def kc (t : Ky.T) : List Value := [.string t.name, .string t.key]
theorem kc_wide (l : List Ky.T) : Wide 2 (l.map kc) := fun v hv => by
  obtain ⟨t, _, rfl⟩ := List.mem_map.1 hv
  refine ⟨rfl, fun u hu => ?_⟩
  simp [kc] at hu
  rcases hu with rfl | rfl <;> rfl
theorem kkey_info : (Tryz.prog.info? 63).map (fun i => (i.zero, i.size, i.bytes)) = some (some (.agg #[.string ⟨#[]⟩, .string ⟨#[]⟩]), 2, 32) := by kernel_rfl
structure PMK (w : World) (g m : Nat) (A : Option Addr) (c : Nat) (s : Ky.S) : Prop where
  obj : w.heap[g]? = some (.cells #[.int .i64 s.most, .map (some m), .slice A s.l.length c] 101 (0, 0))
  map : TMap w m s.l
  row : OwnK w 0 63 2 A c (s.l.map kc)
section
variable {w w' : World} {g m c : Nat} {A : Option Addr} {s : Ky.S}
theorem PMK.ltg (h : PMK w g m A c s) : g < w.heap.size := lt_of_block h.obj
theorem PMK.ltm (h : PMK w g m A c s) : m < w.heap.size := h.map.lt
theorem OwnK.block_ {base k : Nat} {T : TypeId} {a : Addr} {vs : List (List Value)} (h : OwnK w base T k (some a) c vs) : ∃ cur, w.heap[a.block]? = some (.cells cur T (0, 0)) := by
  rcases h.1.2 with ⟨e, _⟩ | ⟨g', c', cur, e, _, hg, _⟩
  · cases e
  · injection e with e1 e2 e3
    injection e1 with e1
    subst e1
    exact ⟨cur, hg⟩
theorem TMap.neK {l : List Ky.T} (h : TMap w m l) {g : Nat} {cs : Array Value} {t : TypeId} {fz : Nat × Nat} (hg : w.heap[g]? = some (.cells cs t fz)) : g ≠ m := by
  rintro rfl
  obtain ⟨D, ⟨es, clock, hb, _⟩, _⟩ := h
  rw [hg] at hb; cases hb
theorem PMK.ne (h : PMK w g m A c s) : g ≠ m := h.map.neK h.obj
theorem PMK.rowm (h : PMK w g m A c s) {a : Addr} (ha : A = some a) : a.block ≠ m ∧ a.block ≠ g := by
  subst ha
  obtain ⟨cur, hc⟩ := h.row.block_
  refine ⟨h.map.neK hc, fun e => ?_⟩
  rw [e, h.obj] at hc
  injection hc with hc
  injection hc with _ hc _
  exact absurd hc (by decide)
theorem PMK.keep (h : PMK w g m A c s) (hg : w'.heap[g]? = w.heap[g]?) (hm : w'.heap[m]? = w.heap[m]?) (hr : ∀ a, A = some a → w'.heap[a.block]? = w.heap[a.block]?) : PMK w' g m A c s := ⟨hg.trans h.obj, h.map.keep hm, h.row.keep hr⟩
theorem PMK.grew (h : PMK w g m A c s) (hb : Below w.heap.size w w') : PMK w' g m A c s := h.keep (hb.block g h.ltg) (hb.block m h.ltm) fun a ha => by
  subst ha
  exact hb.block _ h.row.lt.2
end
def three (g m : Nat) (A : Option Addr) (i : Nat) : Prop := i = g ∨ i = m ∨ ∃ a, A = some a ∧ i = a.block
def PK (w : World) (g : Nat) (O : Nat → Prop) (s : Ky.S) : Prop := ∃ m A c, PMK w g m A c s ∧ ∀ i, O i ↔ three g m A i
theorem PK.keep {w w' : World} {g : Nat} {O : Nat → Prop} {s : Ky.S} (h : PK w g O s) (_ : w.heap.size ≤ w'.heap.size) (hk : ∀ i, O i → w'.heap[i]? = w.heap[i]?) : PK w' g O s := by
  obtain ⟨m, A, c, p, ho⟩ := h
  exact ⟨m, A, c, p.keep (hk g ((ho g).2 (.inl rfl))) (hk m ((ho m).2 (.inr (.inl rfl)))) (fun a ha => hk _ ((ho _).2 (.inr (.inr ⟨a, ha, rfl⟩)))), ho⟩
theorem PK.lt {w : World} {g : Nat} {O : Nat → Prop} {s : Ky.S} (h : PK w g O s) : ∀ i, O i → i < w.heap.size := fun i hi => by
  obtain ⟨m, A, c, p, ho⟩ := h
  rcases (ho i).1 hi with rfl | rfl | ⟨a, rfl, rfl⟩
  · exact p.ltg
  · exact p.ltm
  · exact p.row.lt.2
theorem obT {w : World} {g : Nat} {x y z : Value} {t : TypeId} (h : w.heap[g]? = some (.cells #[x, y, z] t (0, 0))) :
    (w.cell? ⟨g, 0, none⟩ = some x ∧ w.cell? ⟨g, 1, none⟩ = some y ∧ w.cell? ⟨g, 2, none⟩ = some z) ∧ w.frozen? ⟨g, 2, none⟩ = false :=
  ⟨⟨by simp [World.cell?, h], by simp [World.cell?, h], by simp [World.cell?, h]⟩, by simp [World.frozen?, h]⟩
set_option maxHeartbeats 1000000 in
theorem keysNew_any (m : Int) (w : World) : Calls Tryz.prog 27 #[.int .i64 m] w fun e w' => ∃ g O, e = .returned (.pointer (some ⟨g, 0, none⟩)) ∧ PK w' g O (Ky.newS m) ∧ (∀ i, O i → w.heap.size ≤ i) ∧ Below w.heap.size w w' := by
  have hmm := @run_makeMap Tryz.prog
  have EC : min (max m 1) 128 = Ky.clamp m := by
    unfold Ky.clamp
    split
    · omega
    · split <;> omega
  go_enter Tryz.func27, Tryz.ntmps27
  go_wp2
  go_ret
  refine ⟨_, three (w.heap.size + 1) w.heap.size none, rfl, ⟨w.heap.size, none, 0, ⟨?_, ?_, ?_⟩, fun _ => Iff.rfl⟩, ?_, ?_⟩
  · have e : w.heap.size + 1 = (w.alloc (.map #[] 0)).heap.size := by simp
    rw [e]; exact heap_alloc_new _ _
  · exact TMap.keep (TMap.made w) (Below.heap_alloc _ _ _ (by simp))
  · exact OwnK.none_ ..
  · rintro i (rfl | rfl | ⟨a, h, _⟩)
    · omega
    · omega
    · cases h
  · exact ((Below.refl _ _).alloc (Nat.le_refl _) _).alloc (by simp) _
theorem Ky.getV_in (s : Ky.S) (n k : ByteArray) : (Ky.inL s.l n k).getD 0 = Ky.getV s n k := rfl
theorem Ky.getB_in (s : Ky.S) (n k : ByteArray) : (Ky.inL s.l n k).isSome = Ky.getB s n k := by unfold Ky.inL Ky.getB Ky.findV; simp
set_option maxHeartbeats 2000000 in
theorem keysGet_any (g : Nat) (O : Nat → Prop) (s : Ky.S) (n k : ByteArray) (w : World) (h : PK w g O s) (_ : Ky.Inv s) (hx : Ky.okk n k) :
    Calls Tryz.prog 34 #[.pointer (some ⟨g, 0, none⟩), .agg #[.string n, .string k]] w fun e w' => e = .returned (.tuple #[.int .i64 (Ky.getV s n k), .bool (Ky.getB s n k)]) ∧ Hid (Below w.heap.size w w') := by
  obtain ⟨m, A, c, p, ho⟩ := h
  rw [← Ky.getV_in, ← Ky.getB_in]
  generalize hw1 : w.alloc (Obj.cells #[Value.string n, Value.string k] 63) = w1
  have B1 : Below w.heap.size w w1 := hw1 ▸ (Below.refl _ _).alloc (Nat.le_refl _) _
  have p1 := p.grew B1
  obtain ⟨⟨-, c1, -⟩, -⟩ := obT p1.obj
  have k0 : w1.cell? ⟨w.heap.size, 0, none⟩ = some (.string n) ∧ w1.cell? ⟨w.heap.size, 1, none⟩ = some (.string k) := by rw [← hw1]; simp
  obtain ⟨k0, k1⟩ := k0
  have L := TMap.look2 (w := w1.drew) p1.map n k hx.1 hx.2
  generalize (Ky.inL s.l n k).getD 0 = a at *
  generalize (Ky.inL s.l n k).isSome = b at *
  have HB := Lib.hid B1
  have HW := Lib.hid hw1
  clear p p1 ho B1 hw1 hx
  go_enter Tryz.func34, Tryz.ntmps34
  go_upto_region 1 with (fail)
  rw [HW.out]
  go_region_held3 (fun w' => w'.cell? ⟨g, 1, none⟩ = some (.map (some m)) ∧ w'.cell? ⟨w.heap.size, 0, none⟩ = some (.string n) ∧ w'.cell? ⟨w.heap.size, 1, none⟩ = some (.string k)) (go_keep) (fail)
  go_wp2
  go_ret2
  exact ⟨rfl, Lib.hid HB.out.drew⟩
end Go.Proofs.YtkbekojnmdgdgaaGreatDoor
/- KyAll -/
namespace Go.Proofs.YtkbekojnmdgdgaaGreatDoor
open Go.RowKit Go.Maps
attribute [local go_sem ↓] Go.wp_at_zero Go.wp_at_succ
set_option maxRecDepth 20000
def S3 (w : World) (g o : Nat) (a b c : Value) : World := ((w.setCell ⟨g, o, none⟩ a).setCell ⟨g, o + 1, none⟩ b).setCell ⟨g, o + 2, none⟩ c
end Go.Proofs.YtkbekojnmdgdgaaGreatDoor
