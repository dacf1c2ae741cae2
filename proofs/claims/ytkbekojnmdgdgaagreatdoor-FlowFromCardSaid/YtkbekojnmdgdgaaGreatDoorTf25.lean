/-
  Part 25 of the texts behind the law: TKyDel, TKyDrop, TKyPut.
-/
import Derived.Test.YtkbekojnmdgdgaaGreatDoorTf10
import Derived.Test.YtkbekojnmdgdgaaGreatDoorTf2
import Derived.Deep.RegionLaw
import Derived.Deep.RegionWith
import Derived.Test.YtkbekojnmdgdgaaGreatDoorTf8
import Derived.Test.YtkbekojnmdgdgaaGreatDoorTf9
/- KyDel -/
namespace Go.Proofs.YtkbekojnmdgdgaaGreatDoor
open Go.RowKit Go.Maps
theorem undKK : Tryz.prog.underlying 99 = some (.slice 63) := Tryz.underlying99
theorem clear_key (w : World) (ty : TypeId) (b o c : Nat) (hc : ∀ j, j < 2 → (w.cell? ⟨b, o + j, none⟩).isSome = true) (hf : ∀ j, j < 2 → w.frozen? ⟨b, o + j, none⟩ = false) :
  (Builtin.clear_ #[99] ty #[.slice (some ⟨b, o, none⟩) 1 c]).run Tryz.prog w = .ok (.tuple #[]) (w.setCells b o [.string ⟨#[]⟩, .string ⟨#[]⟩]) := by
 have hst := run_storeCells_cells (P := Tryz.prog) b o [.string ⟨#[]⟩, .string ⟨#[]⟩] 0 w (by simpa using hc) (by simpa using hf) (by simp [Value.oneCell'])
 simp only [Nat.add_zero] at hst
 have hcs : (Value.agg #[.string ⟨#[]⟩, .string ⟨#[]⟩]).cells = #[.string ⟨#[]⟩, .string ⟨#[]⟩] := rfl
 have hz : (Builtin.zeroCells #[.string ⟨#[]⟩, .string ⟨#[]⟩] 1).toList = [.string ⟨#[]⟩, .string ⟨#[]⟩] := by simp [Builtin.zeroCells, List.range, List.range.loop]
 simp [Builtin.clear_, run_underlying undKK, hcs, hst, hz]
set_option maxRecDepth 20000 in
set_option maxHeartbeats 4000000 in
theorem keyDel_any {w : World} {g cap : Nat} {vs : List (List Value)} (h : OwnK w 0 63 2 (some ⟨g, 0, none⟩) cap vs) (n : Nat) (hn : n = vs.length) (h1 : 1 ≤ n) :
  Calls Tryz.prog 87 #[.slice (some ⟨g, 0, none⟩) n cap, .int .i64 0, .int .i64 1] w fun e w' => e = .returned (.slice (some ⟨g, 0, none⟩) (n - 1 : Nat) cap) ∧ Hid (OwnK w' 0 63 2 (some ⟨g, 0, none⟩) cap (vs.drop 1)) ∧ Hid (Only (fun i => i = g) w w') := by
 obtain ⟨s1, s2, s3⟩ := h.spare
 rw [← hn] at s1
 have SP := Lib.hid s3
 have HO := Lib.hid h
 have hl : (vs.drop 1).length = n - 1 := by rw [List.length_drop, ← hn]
 have hfl : (vs.drop 1).flatten.length = (n - 1) * 2 := by rw [(h.2.drop 1).len, hl]
 have W1 := Lib.hid (h.2.drop 1).mem
 have HL := Lib.hid hl
 obtain ⟨i0, hi0, hz0, hz1, hz2⟩ := info_parts kkey_info
 obtain ⟨A, hA, hA2⟩ : ∃ A : Addr, (if cap = 1 then (some ⟨g, 0, none⟩ : Option Addr) else some ⟨g, 2, none⟩) = some A ∧ ∀ j u, (vs.drop 1).flatten[j]? = some u → w.drew.cell? (A.add j) = some u := by
  by_cases hh : cap = 1
  ·refine ⟨_, by rw [if_pos hh], fun j u hu => ?_⟩
   have := (List.getElem?_eq_some_iff.1 hu).1
   omega
  ·refine ⟨_, by rw [if_neg hh], fun j u hu => ?_⟩
   rw [add_off]
   exact h.cells 1 j u hu
 have HA2 := Lib.hid hA2
 generalize hF : (vs.drop 1).flatten = F at *
 have HF := Lib.hid hF
 have HFL := Lib.hid hfl
 obtain ⟨W2, hW2⟩ : ∃ W2, W2 = w.drew.setCells g 0 F := ⟨_, rfl⟩
 have HW2 := Lib.hid hW2
 have SP2 : Hid (∀ j, j < 2 → (W2.cell? ⟨g, (n - 1) * 2 + j, none⟩).isSome = true ∧ W2.frozen? ⟨g, (n - 1) * 2 + j, none⟩ = false) := Lib.hid fun j hj => by
  obtain ⟨cur, hg, _, _, _, hsz, _⟩ := h.inner
  obtain ⟨c1, hb1, e1⟩ := setCells_block g F 0 w.drew cur _ _ hg
  rw [hW2]
  constructor
  ·simp only [World.cell?, hb1]
   have : (n - 1) * 2 + j < c1.size := by omega
   simp [this]
  ·simp [World.frozen?, hb1]
 have CL : ∀ ty c, (Builtin.clear_ #[99] ty #[.slice (some ⟨g, (n - 1) * 2, none⟩) (n - (n - 1)) c]).run Tryz.prog W2 = .ok (.tuple #[]) (W2.setCells g ((n - 1) * 2) [.string ⟨#[]⟩, .string ⟨#[]⟩]) := fun ty c => by
  rw [show n - (n - 1) = 1 by omega]
  exact clear_key W2 ty g _ c (fun j hj => (SP2.out j hj).1) (fun j hj => (SP2.out j hj).2)
 clear s3 h hl hfl hA2 hF hW2
 clear hn
 have h1i : (1 : Int) ≤ (n : Int) := by omega
 go_enter Tryz.func87, Tryz.ntmps87
 go_wp2_with fail
 go_region_law (refine step_append_room rfl (.tmp 22) (.tmp 25) 99 rfl 63 i0 2 undKK hi0 hz1 g 0 0 cap (by simp [Act.eval, Act.put]) A (n - 1) (cap - 1) F (by simp [Act.eval, Act.put]) HFL.out (fun j u hu => HA2.out j u hu) (fun u hu => W1.out u hu) (by omega) (fun j hj => by (have h3 := HFL.out; have h4 := SP.out (0 + 0 * 2 + j) (by omega); exact h4)) ?_; rw [show w.drew.setCells g (0 + 0 * 2) F = W2 from HW2.out.symm])
 go_wp2
 go_ret
 refine ⟨rfl, Lib.hid ?_, Lib.hid ?_⟩
 ·have := HO.out.drew.moved (HO.out.2.drop 1) (by rw [List.length_drop]; omega) [.string ⟨#[]⟩, .string ⟨#[]⟩]
  rw [HF.out, HL.out, ← HW2.out] at this
  exact this
 ·rw [HW2.out]
  exact ((Only.refl _ _).drew.trans (setCells_only g F 0 w.drew) fun _ h => .inl h).trans (setCells_only g _ _ _) fun _ h => .inl h
end Go.Proofs.YtkbekojnmdgdgaaGreatDoor
/- KyDrop -/
namespace Go.Proofs.YtkbekojnmdgdgaaGreatDoor
open Go.RowKit Go.Maps
attribute [local go_sem ↓] Go.wp_at_zero Go.wp_at_succ
set_option maxRecDepth 20000
theorem TMap.onceK {w : World} {m : Nat} {l : List Ky.T} (h : TMap w m l) : Ky.Once l := by obtain ⟨_, _, h⟩ := h; exact h.once
theorem TMap.okK {w : World} {m : Nat} {l : List Ky.T} (h : TMap w m l) : ∀ t ∈ l, okS t.name ∧ okS t.key ∧ is64 t.id := by obtain ⟨_, _, h⟩ := h; exact h.ok
theorem Ky.del_first {x : T} {r : List T} (h : Once (x :: r)) : del x.name x.key (x :: r) = r := by
 obtain ⟨h1, h2⟩ := List.pairwise_cons.1 h
 have e : Ky.del x.name x.key (x :: r) = Ky.del x.name x.key r := by unfold Ky.del; rw [List.filter_cons, same_iff.2 ⟨rfl, rfl⟩]; rfl
 rw [e]
 exact del_none (inL_none.2 fun t ht e => h1 t ht ⟨e.1.symm, e.2.symm⟩)
theorem turnedK_only {w w' : World} {m : Nat} {O : Nat → Prop} (h : w.mapTurned w' m) (hm : O m) : Only O w w' := by
 obtain ⟨h1, h2, h3, h4, h5⟩ := turned_frameK h
 exact ⟨h1, h2, h3, by omega, fun k _ hk => h5 k fun e => hk (e ▸ hm)⟩
theorem set2_obj {w : World} {g : Nat} {x y z v : Value} {t : TypeId} (h : w.heap[g]? = some (.cells #[x, y, z] t (0, 0))) : (w.setCell ⟨g, 2, none⟩ v).heap[g]? = some (.cells #[x, y, v] t (0, 0)) := by
 unfold World.setCell
 simp only
 rw [Array.getElem?_modify, if_pos rfl, h]
 rfl
set_option maxHeartbeats 2000000 in
theorem keysDrop_any {w : World} {g m c : Nat} {A : Option Addr} {s : Ky.S} (h : PMK w g m A c s) (hn : 1 ≤ s.l.length) (hs : s.l.length ≤ 128) :
  Calls Tryz.prog 66 #[.pointer (some ⟨g, 0, none⟩)] w fun e w' => e = .returned (.tuple #[]) ∧ Hid (PMK w' g m A c ⟨s.most, s.l.drop 1⟩) ∧ Hid (Only (three g m A) w w') := by
 obtain ⟨gr, hA, -, hgr⟩ := h.row.shape (by rw [List.length_map]; omega)
 subst hA
 obtain ⟨r1, r2⟩ := h.rowm rfl
 obtain ⟨x, r, hl⟩ : ∃ x r, s.l = x :: r := by
  cases hl : s.l with
  | nil => rw [hl] at hn; simp at hn
  | cons x r => exact ⟨x, r, rfl⟩
 have ok := h.map.okK x (by rw [hl]; simp)
 obtain ⟨⟨-, c1, c2⟩, f2⟩ := obT h.obj
 have x0 : w.cell? ⟨gr, 0, none⟩ = some (.string x.name) := h.row.cell (i := 0) (j := 0) (by rw [List.length_map]; omega) (by omega) (by rw [hl]; rfl)
 have x1 : w.cell? ⟨gr, 1, none⟩ = some (.string x.key) := h.row.cell (i := 0) (j := 1) (by rw [List.length_map]; omega) (by omega) (by rw [hl]; rfl)
 obtain ⟨w3, D, hm, ht⟩ := TMap.drop (w := w.drew) h.map x.name x.key ok.1 ok.2.1 0
 rw [hl, Ky.del_first (by rw [← hl]; exact h.map.onceK)] at hm
 have TF := Lib.hid (turned_frameK ht)
 have TC : ∀ {b o : Nat} {v : Value}, b ≠ m → w.cell? ⟨b, o, none⟩ = some v → w3.cell? ⟨b, o, none⟩ = some v := fun hb hv => (World.cell?_of_block (w := w) (TF.out.2.2.2.2 _ hb)).trans hv
 have OB : Hid (w3.heap[g]? = some (.cells #[.int .i64 s.most, .map (some m), .slice (some ⟨gr, 0, none⟩) s.l.length c] 101 (0, 0))) := Lib.hid ((TF.out.2.2.2.2 g h.ne).trans h.obj)
 have RW : Hid (OwnK w3 0 63 2 (some ⟨gr, 0, none⟩) c (s.l.map kc)) := Lib.hid (h.row.keep fun a ha => by
  injection ha with ha
  subst ha
  exact TF.out.2.2.2.2 _ r1)
 have e1 := TC h.ne c1
 have e2 := TC h.ne c2
 have e4 := TC r1 x0
 have e5 := TC r1 x1
 have e3 : w3.frozen? ⟨g, 2, none⟩ = false := (obT OB.out).2
 have ON : Hid (Only (three g m (some ⟨gr, 0, none⟩)) w w3) := Lib.hid (by
  have h := turnedK_only (O := three g m (some ⟨gr, 0, none⟩)) ht (.inr (.inl rfl))
  exact ⟨h.os, h.tape, h.output, h.size, h.block⟩)
 have MP := Lib.hid hm
 have HL := Lib.hid hl
 have HN : Hid (s.l.length ≤ 128) := Lib.hid hs
 have NE := Lib.hid h.ne
 have R1 := Lib.hid r1
 have R2 := Lib.hid r2
 have e0 : ¬ (s.l.length : Int) ≤ 0 := by omega
 have hp : 0 < s.l.length := by omega
 have DL := Lib.hid (keyDel_any RW.out s.l.length (by rw [List.length_map]) hn)
 generalize hq : s.l.length = n at *
 have HQ := Lib.hid hq
 clear hq h hgr ok TC hm ht hl hs r1 r2
 go_enter Tryz.func66, Tryz.ntmps66
 go_upto_region 0 with (fail)
 go_region_held3 (fun w' => w'.cell? ⟨g, 1, none⟩ = some (.map (some m)) ∧ w'.cell? ⟨g, 2, none⟩ = some (.slice (some ⟨gr, 0, none⟩) n c) ∧ w'.cell? ⟨gr, 0, none⟩ = some (.string x.name) ∧ w'.cell? ⟨gr, 1, none⟩ = some (.string x.key)) (go_keep) (fail)
 go_wp2_with fail
 (with_reducible refine DL.out.mono ?_); rintro e w4 ⟨rfl, o4, o5⟩
 have g4 : w4.heap[g]? = w3.heap[g]? := o5.out.block g (lt_of_block OB.out) fun e => R2.out e.symm
 have m4 : w4.heap[m]? = w3.heap[m]? := o5.out.block m MP.out.lt fun e => R1.out e.symm
 have P4 := Lib.hid (g4.trans OB.out)
 have e7 := (obT P4.out).1.2.2
 have e6 : w4.frozen? ⟨g, 2, none⟩ = false := (obT P4.out).2
 have M4 := Lib.hid (MP.out.keep m4)
 have O4 : Hid (Only (three g m (some ⟨gr, 0, none⟩)) w w4) := Lib.hid ((ON.out.trans o5.out) fun i hi => .inl (.inr (.inr ⟨_, rfl, hi⟩)))
 clear g4 m4 o5
 go_wp2
 refine bodyPost_end (results_none rfl _ _ _) rfl ?_
 have hlen : (Ky.S.mk s.most (s.l.drop 1)).l.length = n - 1 := by show (s.l.drop 1).length = n - 1; rw [List.length_drop, HQ.out]
 refine ⟨rfl, Lib.hid ⟨?_, ?_, ?_⟩, Lib.hid (O4.out.trans (Only.set (three g m (some ⟨gr, 0, none⟩)) 2 w4 _ (.inl rfl)) fun _ h => .inl h)⟩
 ·rw [hlen]
  exact set2_obj P4.out
 ·show TMap _ m (s.l.drop 1)
  rw [HL.out]
  exact M4.out.keep (Below.heap_setCell _ _ _ _ (fun e => NE.out e.symm))
 ·show OwnK _ _ _ _ _ _ ((s.l.drop 1).map kc)
  rw [List.map_drop]
  exact o4.out.keep fun a ha => by
   injection ha with ha
   subst ha
   exact Below.heap_setCell _ _ _ _ R2.out
end Go.Proofs.YtkbekojnmdgdgaaGreatDoor
/- KyPut -/
namespace Go.Proofs.YtkbekojnmdgdgaaGreatDoor
open Go.RowKit Go.Maps
attribute [local go_sem ↓] Go.wp_at_zero Go.wp_at_succ
set_option maxRecDepth 20000
theorem Ky.inL_drop {l : List T} {n k : ByteArray} (h : inL l n k = none) : inL (l.drop 1) n k = none := inL_none.2 fun t ht => inL_none.1 h t (List.mem_of_mem_drop ht)
theorem Ky.set_perm {l : List T} {n k : ByteArray} (h : inL l n k = none) (id : Int) : (l ++ [(⟨n, k, id⟩ : T)]).Perm (setL n k id l) := by
 unfold setL
 rw [del_none h]
 exact List.perm_append_comm (l₁ := l) (l₂ := [(⟨n, k, id⟩ : T)])
structure PutR (w w' : World) (g m : Nat) (A : Option Addr) (c : Nat) (s1 : Ky.S) (n k : ByteArray) : Prop where
 mem : PMK w' g m A c s1
 only : Only (three g m A) w w'
 low : ∀ a, A = some a → a.block < w.heap.size
 ltg : g < w.heap.size
 ltm : m < w.heap.size
 new : Ky.inL s1.l n k = none
 len : s1.l.length ≤ 127
 b0 : w'.cell? ⟨w.heap.size, 0, none⟩ = some (.string n)
 b1 : w'.cell? ⟨w.heap.size, 1, none⟩ = some (.string k)
structure PutM (w w' : World) (g m : Nat) (A : Option Addr) (c : Nat) (s1 : Ky.S) (n k : ByteArray) (id : Int) : Prop where
 obj : w'.heap[g]? = some (.cells #[.int .i64 s1.most, .map (some m), .slice A s1.l.length c] 101 (0, 0))
 map : TMap w' m (s1.l ++ [⟨n, k, id⟩])
 row : OwnK w' 0 63 2 A c (s1.l.map kc)
 only : Only (three g m A) w w'
 low : ∀ a, A = some a → a.block < w.heap.size
 ltg : g < w.heap.size
 ltm : m < w.heap.size
 len : s1.l.length ≤ 127
 b0 : w'.cell? ⟨w.heap.size, 0, none⟩ = some (.string n)
 b1 : w'.cell? ⟨w.heap.size, 1, none⟩ = some (.string k)
theorem PutR.map_ {w w' : World} {g m : Nat} {A : Option Addr} {c : Nat} {s1 : Ky.S} {n k : ByteArray} {id : Int} (h : PutR w w' g m A c s1 n k) (hx : Ky.ok n k id) :
  ∃ w3, (Instr.mapUpdate 98 (.map (some m)) (.agg #[.string n, .string k]) (.int .i64 id)).run Tryz.prog w'.drew = .ok () w3 ∧ PutM w w3 g m A c s1 n k id := by
 have hlen := h.len
 obtain ⟨w3, D, hm, ht⟩ := TMap.store (w := w'.drew) h.mem.map (by omega) n k id hx.1.1 hx.1.2 hx.2
 have TF := turned_frameK ht
 have TC : ∀ {b o : Nat} {v : Value}, b ≠ m → w'.cell? ⟨b, o, none⟩ = some v → w3.cell? ⟨b, o, none⟩ = some v := fun hb hv => (World.cell?_of_block (w := w') (TF.2.2.2.2 _ hb)).trans hv
 have hbm : w.heap.size ≠ m := by have := h.ltm; omega
 have o1 := turnedK_only (O := three g m A) ht (.inr (.inl rfl))
 have o2 : Only (three g m A) w' w3 := ⟨o1.os, o1.tape, o1.output, o1.size, o1.block⟩
 refine ⟨w3, D, (TF.2.2.2.2 g h.mem.ne).trans h.mem.obj, hm.perm (Ky.set_perm h.new id), h.mem.row.keep fun a ha => TF.2.2.2.2 _ (h.mem.rowm ha).1, h.only.trans o2 fun _ hi => .inl hi, h.low, h.ltg, h.ltm, hlen, TC hbm h.b0, TC hbm h.b1⟩
structure PutA (w w' : World) (g m : Nat) (A A' : Option Addr) (c' : Nat) (s1 : Ky.S) (n k : ByteArray) (id : Int) : Prop where
 obj : ∃ v, w'.heap[g]? = some (.cells #[.int .i64 s1.most, .map (some m), v] 101 (0, 0))
 map : TMap w' m (s1.l ++ [⟨n, k, id⟩])
 row : OwnK w' 0 63 2 A' c' ((s1.l ++ [(⟨n, k, id⟩ : Ky.T)]).map kc)
 only : Only (three g m A) w w'
 sub : ∀ a, A' = some a → (∃ a0, A = some a0 ∧ a.block = a0.block) ∨ w.heap.size ≤ a.block
theorem PutA.done {w w' : World} {g m : Nat} {A A' : Option Addr} {c' : Nat} {s1 : Ky.S} {n k : ByteArray} {id : Int} {O : Nat → Prop} (h : PutA w w' g m A A' c' s1 n k id) (ho : ∀ i, O i ↔ three g m A i) (q : Nat) (hq : q = s1.l.length + 1) :
  ∃ O2, PK (w'.setCell ⟨g, 2, none⟩ (.slice A' q c')) g O2 ⟨s1.most, s1.l ++ [⟨n, k, id⟩]⟩ ∧ Step O O2 w (w'.setCell ⟨g, 2, none⟩ (.slice A' q c')) := by
 subst hq
 obtain ⟨v, hv⟩ := h.obj
 have P : PMK (w'.setCell ⟨g, 2, none⟩ (.slice A' (s1.l.length + 1) c')) g m A' c' ⟨s1.most, s1.l ++ [⟨n, k, id⟩]⟩ := by
  refine ⟨?_, h.map.keep (Below.heap_setCell _ _ _ _ fun e => h.map.neK hv e.symm), h.row.keep fun a ha => Below.heap_setCell _ _ _ _ ?_⟩
  ·show _ = some (Obj.cells #[_, _, .slice A' (s1.l ++ [_]).length c'] _ _)
   rw [List.length_append]
   exact set2_obj hv
  ·subst ha
   obtain ⟨cur, hc⟩ := h.row.block_
   intro e
   rw [e, hv] at hc
   injection hc with hc
   injection hc with _ hc _
   exact absurd hc (by decide)
 refine ⟨three g m A', ⟨m, A', c', P, fun _ => Iff.rfl⟩, ?_, fun i hi => ?_⟩
 ·exact (h.only.trans (own2 := three g m A) (Only.set (three g m A) 2 w' _ (.inl rfl)) fun _ hi => .inl hi).mono fun i _ hi => (ho i).2 hi
 ·rcases hi with rfl | rfl | ⟨a, ha, rfl⟩
  ·exact .inl ((ho _).2 (.inl rfl))
  ·exact .inl ((ho _).2 (.inr (.inl rfl)))
  ·rcases h.sub a ha with ⟨a0, h0, e⟩ | h0
   ·exact .inl ((ho _).2 (.inr (.inr ⟨a0, h0, e⟩)))
   ·exact .inr h0
structure PutL (w3 : World) (n k : ByteArray) (W : World) : Prop where
 blk : W.heap[w3.heap.size]? = some (.cells #[.string n, .string k] 63 (0, 0))
 grew : Below w3.heap.size w3 W
theorem PutL.of (w3 : World) (n k : ByteArray) : PutL w3 n k (w3.alloc (.cells #[.string n, .string k] 63)).drew :=
 ⟨heap_alloc_new _ _, ((Below.refl _ _).alloc (Nat.le_refl _) _).drew⟩
theorem kc_one (n k : ByteArray) (id : Int) : Wide 2 [[Value.string n, .string k]] := kc_wide [⟨n, k, id⟩]
theorem PutM.app {w w3 W w5 : World} {g m : Nat} {A A' : Option Addr} {c c' : Nat} {s1 : Ky.S} {n k : ByteArray} {id : Int} (h : PutM w w3 g m A c s1 n k id) (hL : PutL w3 n k W)
  (o5 : OwnK w5 0 63 2 A' c' (s1.l.map kc ++ [[.string n, .string k]])) (g5 : W.grownBy w5 (Value.slice A (s1.l.map kc).length c).ownBlock) (l5 : ∀ a, A' = some a → (∃ a0, A = some a0 ∧ a.block = a0.block) ∨ a.block = W.heap.size) :
  PutA w w5 g m A A' c' s1 n k id ∧ w5.heap[g]? = some (.cells #[.int .i64 s1.most, .map (some m), .slice A s1.l.length c] 101 (0, 0)) ∧ w5.cell? ⟨w.heap.size, 0, none⟩ = some (.string n) ∧ w5.cell? ⟨w.heap.size, 1, none⟩ = some (.string k) := by
 have hA : ∀ b, some b = (Value.slice A (s1.l.map kc).length c).ownBlock → ∃ a, A = some a ∧ b = a.block := fun b hb => by
  cases A with
  | none => simp [Value.ownBlock] at hb
  | some a => exact ⟨a, rfl, by simpa [Value.ownBlock] using hb⟩
 have keep : ∀ b, b < w3.heap.size → (∀ a, A = some a → b ≠ a.block) → w5.heap[b]? = w3.heap[b]? := fun b hb hn =>
  (g5.block b (by have := hL.grew.size; omega) fun e => by
   obtain ⟨a, ha, e2⟩ := hA b e
   exact hn a ha e2).trans (hL.grew.block b hb)
 have lg : g < w3.heap.size := lt_of_block h.obj
 have hg : w5.heap[g]? = w3.heap[g]? := keep g lg fun a ha e => by
  subst ha
  obtain ⟨cur, hc⟩ := h.row.block_
  rw [← e, h.obj] at hc
  injection hc with hc
  injection hc with _ hc _
  exact absurd hc (by decide)
 have hm : w5.heap[m]? = w3.heap[m]? := keep m h.map.lt fun a ha e => by
  subst ha
  obtain ⟨cur, hc⟩ := h.row.block_
  exact h.map.neK hc e.symm
 have hb : ∀ o, w5.cell? ⟨w.heap.size, o, none⟩ = w3.cell? ⟨w.heap.size, o, none⟩ := fun o => World.cell?_of_block (w := w3) (keep w.heap.size (by
   have := h.b0
   rcases Nat.lt_or_ge w.heap.size w3.heap.size with h1 | h1
   ·exact h1
   ·simp [World.cell?, Array.getElem?_eq_none h1] at this) fun a ha e => by have := h.low a ha; omega)
 refine ⟨⟨⟨_, hg.trans h.obj⟩, h.map.keep hm, ?_, ?_, fun a ha => ?_⟩, hg.trans h.obj, (hb 0).trans h.b0, (hb 1).trans h.b1⟩
 ·rw [List.map_append]
  exact o5
 ·have h1 : Only (three g m A) w3 W := Only.of hL.grew
  have h2 : Only (three g m A) W w5 := Only.grown g5 fun b e => by
   obtain ⟨a, ha, e2⟩ := hA b e.symm
   exact .inr (.inr ⟨a, ha, e2⟩)
  exact (h.only.trans h1 fun _ hi => .inl hi).trans h2 fun _ hi => .inl hi
 ·rcases l5 a ha with h1 | h1
  ·exact .inl h1
  ·right
   have := hL.grew.size
   have := h.only.size
   omega
set_option maxHeartbeats 2000000 in
theorem keysPut_any (g : Nat) (O : Nat → Prop) (s : Ky.S) (n k : ByteArray) (id : Int) (w : World) (h : PK w g O s) (hI : Ky.Inv s) (hx : Ky.ok n k id) :
  Calls Tryz.prog 40 #[.pointer (some ⟨g, 0, none⟩), .agg #[.string n, .string k], .int .i64 id] w fun e w' => e = .returned (.tuple #[.int .i64 (Ky.putV s n k id), .bool (Ky.putB s n k)]) ∧ ∃ O2, PK w' g O2 (Ky.putS s n k id) ∧ Step O O2 w w' := by
 obtain ⟨m, A, c, p, ho⟩ := h
 generalize hw1 : w.alloc (Obj.cells #[Value.string n, Value.string k] 63) = w1
 have B1 : Below w.heap.size w w1 := hw1 ▸ (Below.refl _ _).alloc (Nat.le_refl _) _
 have p1 := p.grew B1
 obtain ⟨⟨c0, c1, c2⟩, -⟩ := obT p1.obj
 have k0 : w1.cell? ⟨w.heap.size, 0, none⟩ = some (.string n) ∧ w1.cell? ⟨w.heap.size, 1, none⟩ = some (.string k) := by rw [← hw1]; simp
 obtain ⟨k0, k1⟩ := k0
 have HW := Lib.hid hw1
 have HB := Lib.hid B1
 have L := TMap.look2 (w := w1.drew) p1.map n k hx.1.1 hx.1.2
 cases hf : Ky.findV s n k with
 | some a =>
  have e1 : Ky.inL s.l n k = some a.id := by unfold Ky.findV at hf; unfold Ky.inL; rw [hf]; rfl
  have e2 : Ky.putV s n k id = a.id := by unfold Ky.putV; rw [hf]
  have e3 : Ky.putB s n k = false := by unfold Ky.putB; rw [hf]; rfl
  have e4 : Ky.putS s n k id = s := by unfold Ky.putS; rw [hf]
  rw [e1] at L
  rw [e2, e3, e4]
  have PT : Hid (PK w1.drew g O s ∧ Step O O w w1.drew) := Lib.hid ⟨⟨m, A, c, p1.keep rfl rfl fun _ _ => rfl, ho⟩, (Only.of B1).drew, fun _ hi => .inl hi⟩
  generalize a.id = v at *
  simp only [Option.getD_some, Option.isSome_some] at L
  clear p p1 ho B1 hw1 hx hI e1 e2 e3 e4 hf
  go_enter Tryz.func40, Tryz.ntmps40
  go_upto_region 1 with (fail)
  rw [HW.out]
  go_region_held3 (fun w' => w'.cell? ⟨g, 1, none⟩ = some (.map (some m)) ∧ w'.cell? ⟨w.heap.size, 0, none⟩ = some (.string n) ∧ w'.cell? ⟨w.heap.size, 1, none⟩ = some (.string k)) (go_keep) (fail)
  go_wp2
  go_ret2
  exact ⟨rfl, O, PT.out⟩
 | none =>
  have e1 : Ky.inL s.l n k = none := by unfold Ky.findV at hf; unfold Ky.inL; rw [hf]; rfl
  have e2 : Ky.putV s n k id = id := by unfold Ky.putV; rw [hf]
  have e3 : Ky.putB s n k = true := by unfold Ky.putB; rw [hf]; rfl
  have e4 : Ky.putS s n k id = ⟨s.most, Ky.pushL s ⟨n, k, id⟩⟩ := by unfold Ky.putS; rw [hf]
  rw [e1] at L
  rw [e2, e3, e4]
  simp only [Option.getD_none, Option.isSome_none] at L
  have HX := Lib.hid hx
  have HO := Lib.hid ho
  by_cases hfull : (s.l.length : Int) = s.most
  ·have hd : ((s.l.length : Int) == s.most) = true := by simpa using hfull
   obtain ⟨s1, hs1⟩ : ∃ s1, s1 = Ky.S.mk s.most (s.l.drop 1) := ⟨_, rfl⟩
   have PE : Hid (Ky.pushL s ⟨n, k, id⟩ = s1.l ++ [⟨n, k, id⟩] ∧ s1.most = s.most) := Lib.hid (by rw [hs1]; unfold Ky.pushL; rw [if_pos hfull]; exact ⟨rfl, rfl⟩)
   have n1 : 1 ≤ s.l.length := by have := hI.most0; omega
   have n2 : s.l.length ≤ 128 := by have := hI.most1; omega
   have DR := Lib.hid (keysDrop_any (w := w1.drew.drew) (p1.keep rfl rfl fun _ _ => rfl) n1 n2)
   rw [← hs1] at DR
   have BX : Hid (w.heap.size < w1.heap.size) := Lib.hid (by rw [← hw1]; simp)
   have PR0 : Hid (∀ w2, PMK w2 g m A c s1 → Only (three g m A) w1.drew.drew w2 → PutR w w2 g m A c s1 n k) := Lib.hid fun w2 q1 q2 => by
    have hb : ∀ o, w2.cell? ⟨w.heap.size, o, none⟩ = w1.cell? ⟨w.heap.size, o, none⟩ := fun o => World.cell?_of_block (w := w1) (q2.block _ BX.out fun ht => by
     rcases ht with e | e | ⟨a, ha, e⟩
     ·have e' : w.heap.size = g := e
      have := p.ltg
      omega
     ·have e' : w.heap.size = m := e
      have := p.ltm
      omega
     ·subst ha
      have e' : w.heap.size = a.block := e
      have := p.row.lt.2
      omega)
    have hl1 : s1.l = s.l.drop 1 := by rw [hs1]
    have q3 : Only (three g m A) w1 w2 := ⟨q2.os, q2.tape, q2.output, q2.size, q2.block⟩
    refine ⟨q1, (Only.of B1).trans q3 fun _ hi => .inl hi, fun a ha => ?_, p.ltg, p.ltm, by rw [hl1]; exact Ky.inL_drop e1, ?_, (hb 0).trans k0, (hb 1).trans k1⟩
    ·subst ha
     exact p.row.lt.2
    ·rw [hl1, List.length_drop]; omega
   generalize s.l.length = q at *
   clear p p1 B1 hw1 hx ho hI e1 e2 e3 e4 hf hfull hs1
   go_enter Tryz.func40, Tryz.ntmps40
   go_upto_region 1 with (fail)
   rw [HW.out]
   go_region_held3 (fun w' => w'.cell? ⟨g, 1, none⟩ = some (.map (some m)) ∧ w'.cell? ⟨w.heap.size, 0, none⟩ = some (.string n) ∧ w'.cell? ⟨w.heap.size, 1, none⟩ = some (.string k)) (go_keep) (fail)
   clear L
   go_upto_region 4 with (fail)
   go_region_held3 (fun w' => w'.cell? ⟨g, 0, none⟩ = some (.int .i64 s.most) ∧ w'.cell? ⟨g, 2, none⟩ = some (.slice A q c)) (go_keep) (fail)
   go_wp2_with fail
   (with_reducible refine DR.out.mono ?_); rintro e w2 ⟨rfl, q1, q2⟩
   have PR := Lib.hid (PR0.out w2 q1.out q2.out)
   clear c0 c1 c2 k0 k1 PR0 DR q1 q2
   obtain ⟨w3, D, hM⟩ := PR.out.map_ (id := id) HX.out
   obtain ⟨⟨-, m1, -⟩, -⟩ := obT PR.out.mem.obj
   have b0 := PR.out.b0
   have b1 := PR.out.b1
   obtain ⟨⟨-, e1, e2⟩, e3⟩ := obT hM.obj
   have e4 := hM.b0
   have e5 := hM.b1
   have PM := Lib.hid hM
   clear hM
   go_upto_region 6 with (fail)
   go_region_held3 (fun w' => w'.cell? ⟨g, 1, none⟩ = some (.map (some m)) ∧ w'.cell? ⟨w.heap.size, 0, none⟩ = some (.string n) ∧ w'.cell? ⟨w.heap.size, 1, none⟩ = some (.string k)) (go_keep) (fail)
   clear m1 b0 b1 e1 D
   go_upto_region 7 with (fail)
   have S4 : Hid (∀ W, Below w3.heap.size w3 W → W.cell? ⟨g, 2, none⟩ = some (.slice A s1.l.length c) ∧ W.cell? ⟨w.heap.size, 0, none⟩ = some (.string n) ∧ W.cell? ⟨w.heap.size, 1, none⟩ = some (.string k)) := Lib.hid fun W hB => ⟨(hB.cell (block_lt e2)).trans e2, (hB.cell (block_lt e4)).trans e4, (hB.cell (block_lt e5)).trans e5⟩
   have LQ : Hid (s1.l.length ≤ 127) := Lib.hid PM.out.len
   have LM : Hid ((s1.l.map kc).length = s1.l.length) := Lib.hid (List.length_map ..)
   refine wp_region_C (fun w' => w'.cell? ⟨g, 2, none⟩ = some (.slice A s1.l.length c) ∧ w'.cell? ⟨w.heap.size, 0, none⟩ = some (.string n) ∧ w'.cell? ⟨w.heap.size, 1, none⟩ = some (.string k)) 10 (by kernel_rfl) ?_
   have hS0 : (fun w' : World => w'.cell? ⟨g, 2, none⟩ = some (.slice A s1.l.length c) ∧ w'.cell? ⟨w.heap.size, 0, none⟩ = some (.string n) ∧ w'.cell? ⟨w.heap.size, 1, none⟩ = some (.string k)) w3 := ⟨e2, e4, e5⟩
   clear e2 e4 e5
   refine takC 0 (h := ?_)
   try simp only [Act.put, List.setIfInBounds_toArray, List.set_cons_zero, List.set_cons_succ]
   refine takC 1 (h := ?_)
   try simp only [Act.put, List.setIfInBounds_toArray, List.set_cons_zero, List.set_cons_succ]
   refine takC 2 (h := ?_)
   try simp only [Act.put, List.setIfInBounds_toArray, List.set_cons_zero, List.set_cons_succ]
   refine takC 3 (h := ?_)
   try simp only [Act.put, List.setIfInBounds_toArray, List.set_cons_zero, List.set_cons_succ]
   refine takC 4 (h := ?_)
   try simp only [Act.put, List.setIfInBounds_toArray, List.set_cons_zero, List.set_cons_succ]
   refine takC 5 (h := ?_)
   try simp only [Act.put, List.setIfInBounds_toArray, List.set_cons_zero, List.set_cons_succ]
   refine wpAnyC_one (i := 6) (oi := ?o1) ?hi1 (by kernel_rfl) ?step1
   case hi1 => (simp only [List.getElem?_toArray, List.getElem?_cons_zero, List.getElem?_cons_succ]; exact rfl)
   intro K' hK
   go_simp
   refine hK.out _ _ ?_ (fun hHeld => ?_)
   ·exact fun _ => S4.out _ (PutL.of w3 n k).grew
   clear hK K' hHeld
   try simp only [Act.put, List.setIfInBounds_toArray, List.set_cons_zero, List.set_cons_succ]
   obtain ⟨w4, hw4⟩ : ∃ w4, w4 = (w3.alloc (.cells #[.string n, .string k] 63)).drew := ⟨_, rfl⟩
   have L4 : Hid (PutL w3 n k w4) := Lib.hid (by rw [hw4]; exact PutL.of w3 n k)
   rw [← hw4]
   clear hw4
   refine wpAnyC_one (i := 7) (oi := ?o2) ?hi2 (by kernel_rfl) ?step2
   case hi2 => (simp only [List.getElem?_toArray, List.getElem?_cons_zero, List.getElem?_cons_succ]; exact rfl)
   intro K' hK
   refine step_appK' _ _ (by rfl) (vs := s1.l.map kc) (us := [[.string n, .string k]]) undKK kkey_info rfl (by decide) (by decide) (by rfl) LM.out.symm (PM.out.row.grew L4.out.grew (Nat.le_refl _)) (Nat.zero_le _) (by rfl) (by rfl) (kc_one n k 0) (fun j u hu => lit_at L4.out.blk hu) (by have h1 := LQ.out; have h2 := LM.out; show _ + 1 ≤ _; omega) (r := s1.l.length + 1) (by show _ + 1 = _ + 1; rw [LM.out]) ?_; intro A5 c5 w5 o5 g5 l5; obtain ⟨q5, q6, q7, q8⟩ := PM.out.app L4.out o5 g5 l5; have Q5 := Lib.hid q5; have q9 := (obT q6).1.2.2; have q10 := (obT q6).2; clear o5 g5 l5 q5 q6
   refine hK.out _ _ ?_ (fun hHeld => ?_)
   ·exact fun _ => ⟨q9, q7, q8⟩
   clear hK K' hHeld
   try simp only [Act.put, List.setIfInBounds_toArray, List.set_cons_zero, List.set_cons_succ]
   refine wpAnyC_one (i := 8) (oi := ?o3) ?hi3 (by kernel_rfl) ?step3
   case hi3 => (simp only [List.getElem?_toArray, List.getElem?_cons_zero, List.getElem?_cons_succ]; exact rfl)
   intro K' hK
   go_simp
   refine hK.out _ _ ?_ (fun hHeld => ?_)
   ·exact fun _ => ⟨q9, q7, q8⟩
   clear hK K' hHeld
   try simp only [Act.put, List.setIfInBounds_toArray, List.set_cons_zero, List.set_cons_succ]
   refine wpAnyC_one (i := 9) (oi := ?o4) ?hi4 (by kernel_rfl) ?step4
   case hi4 => (simp only [List.getElem?_toArray, List.getElem?_cons_zero, List.getElem?_cons_succ]; exact rfl)
   intro K' hK
   go_simp
   refine hK.out _ _ ?_ (fun hHeld => ?_)
   ·exact fun _ => ⟨q9, q7, q8⟩
   clear hK K' hHeld
   try simp only [Act.put, List.setIfInBounds_toArray, List.set_cons_zero, List.set_cons_succ]
   refine wpAnyC_one (i := 10) (oi := ?o5) ?hi5 (by kernel_rfl) ?step5
   case hi5 => (simp only [List.getElem?_toArray, List.getElem?_cons_zero, List.getElem?_cons_succ]; exact rfl)
   intro K' hK
   go_simp
   refine hK.out _ _ ?_ (fun hHeld => ?_)
   ·exact fun h => (by cases h)
   clear hK K' hHeld
   try simp only [Act.put, List.setIfInBounds_toArray, List.set_cons_zero, List.set_cons_succ]
   refine wpAnyC_done (by kernel_rfl) ?_ _
   clear q7 q8 q9 q10 e3
   go_wp2
   go_ret2
   rw [PE.out.1, ← PE.out.2]
   exact ⟨rfl, Q5.out.done HO.out _ rfl⟩
  ·have hd : ((s.l.length : Int) == s.most) = false := by simpa using hfull
   have PE : Hid (Ky.pushL s ⟨n, k, id⟩ = s.l ++ [⟨n, k, id⟩] ∧ s.most = s.most) := Lib.hid (by unfold Ky.pushL; rw [if_neg hfull]; exact ⟨rfl, rfl⟩)
   have n2 : s.l.length ≤ 127 := by have := hI.most1; have := hI.few; omega
   obtain ⟨w2, hw2⟩ : ∃ w2, w2 = w1.drew.drew := ⟨_, rfl⟩
   have PR : Hid (PutR w w2 g m A c s n k) := Lib.hid (by
    have q3 : Only (three g m A) w1 w2 := by rw [hw2]; exact (Only.refl _ _).drew.drew
    refine ⟨by rw [hw2]; exact p1.keep rfl rfl fun _ _ => rfl, (Only.of B1).trans q3 fun _ hi => .inl hi, fun a ha => ?_, p.ltg, p.ltm, e1, n2, by rw [hw2]; exact k0, by rw [hw2]; exact k1⟩
    subst ha
    exact p.row.lt.2)
   have HW2 := Lib.hid hw2
   generalize hq : s.l.length = q at *
   have HQ := Lib.hid hq
   clear hq p p1 B1 hw1 hx ho hI e1 e2 e3 e4 hf hfull hw2
   go_enter Tryz.func40, Tryz.ntmps40
   go_upto_region 1 with (fail)
   rw [HW.out]
   go_region_held3 (fun w' => w'.cell? ⟨g, 1, none⟩ = some (.map (some m)) ∧ w'.cell? ⟨w.heap.size, 0, none⟩ = some (.string n) ∧ w'.cell? ⟨w.heap.size, 1, none⟩ = some (.string k)) (go_keep) (fail)
   clear L
   go_upto_region 4 with (fail)
   go_region_held3 (fun w' => w'.cell? ⟨g, 0, none⟩ = some (.int .i64 s.most) ∧ w'.cell? ⟨g, 2, none⟩ = some (.slice A q c)) (go_keep) (fail)
   clear c0 c1 c2 k0 k1
   go_upto_region 6 with (fail)
   rw [← HW2.out]
   obtain ⟨w3, D, hM⟩ := PR.out.map_ (id := id) HX.out
   obtain ⟨⟨-, m1, -⟩, -⟩ := obT PR.out.mem.obj
   have b0 := PR.out.b0
   have b1 := PR.out.b1
   obtain ⟨⟨-, e1, e2⟩, e3⟩ := obT hM.obj
   have e4 := hM.b0
   have e5 := hM.b1
   have PM := Lib.hid hM
   clear hM
   go_upto_region 6 with (fail)
   go_region_held3 (fun w' => w'.cell? ⟨g, 1, none⟩ = some (.map (some m)) ∧ w'.cell? ⟨w.heap.size, 0, none⟩ = some (.string n) ∧ w'.cell? ⟨w.heap.size, 1, none⟩ = some (.string k)) (go_keep) (fail)
   clear m1 b0 b1 e1 D
   go_upto_region 7 with (fail)
   have S4 : Hid (∀ W, Below w3.heap.size w3 W → W.cell? ⟨g, 2, none⟩ = some (.slice A s.l.length c) ∧ W.cell? ⟨w.heap.size, 0, none⟩ = some (.string n) ∧ W.cell? ⟨w.heap.size, 1, none⟩ = some (.string k)) := Lib.hid fun W hB => ⟨(hB.cell (block_lt e2)).trans e2, (hB.cell (block_lt e4)).trans e4, (hB.cell (block_lt e5)).trans e5⟩
   have LQ : Hid (s.l.length ≤ 127) := Lib.hid PM.out.len
   have LM : Hid ((s.l.map kc).length = s.l.length) := Lib.hid (List.length_map ..)
   refine wp_region_C (fun w' => w'.cell? ⟨g, 2, none⟩ = some (.slice A s.l.length c) ∧ w'.cell? ⟨w.heap.size, 0, none⟩ = some (.string n) ∧ w'.cell? ⟨w.heap.size, 1, none⟩ = some (.string k)) 10 (by kernel_rfl) ?_
   have hS0 : (fun w' : World => w'.cell? ⟨g, 2, none⟩ = some (.slice A s.l.length c) ∧ w'.cell? ⟨w.heap.size, 0, none⟩ = some (.string n) ∧ w'.cell? ⟨w.heap.size, 1, none⟩ = some (.string k)) w3 := ⟨e2, e4, e5⟩
   clear e2 e4 e5
   refine takC 0 (h := ?_)
   try simp only [Act.put, List.setIfInBounds_toArray, List.set_cons_zero, List.set_cons_succ]
   refine takC 1 (h := ?_)
   try simp only [Act.put, List.setIfInBounds_toArray, List.set_cons_zero, List.set_cons_succ]
   refine takC 2 (h := ?_)
   try simp only [Act.put, List.setIfInBounds_toArray, List.set_cons_zero, List.set_cons_succ]
   refine takC 3 (h := ?_)
   try simp only [Act.put, List.setIfInBounds_toArray, List.set_cons_zero, List.set_cons_succ]
   refine takC 4 (h := ?_)
   try simp only [Act.put, List.setIfInBounds_toArray, List.set_cons_zero, List.set_cons_succ]
   refine takC 5 (h := ?_)
   try simp only [Act.put, List.setIfInBounds_toArray, List.set_cons_zero, List.set_cons_succ]
   refine wpAnyC_one (i := 6) (oi := ?o6) ?hi6 (by kernel_rfl) ?step6
   case hi6 => (simp only [List.getElem?_toArray, List.getElem?_cons_zero, List.getElem?_cons_succ]; exact rfl)
   intro K' hK
   go_simp
   refine hK.out _ _ ?_ (fun hHeld => ?_)
   ·exact fun _ => S4.out _ (PutL.of w3 n k).grew
   clear hK K' hHeld
   try simp only [Act.put, List.setIfInBounds_toArray, List.set_cons_zero, List.set_cons_succ]
   obtain ⟨w4, hw4⟩ : ∃ w4, w4 = (w3.alloc (.cells #[.string n, .string k] 63)).drew := ⟨_, rfl⟩
   have L4 : Hid (PutL w3 n k w4) := Lib.hid (by rw [hw4]; exact PutL.of w3 n k)
   rw [← hw4]
   clear hw4
   refine wpAnyC_one (i := 7) (oi := ?o7) ?hi7 (by kernel_rfl) ?step7
   case hi7 => (simp only [List.getElem?_toArray, List.getElem?_cons_zero, List.getElem?_cons_succ]; exact rfl)
   intro K' hK
   refine step_appK' _ _ (by rfl) (vs := s.l.map kc) (us := [[.string n, .string k]]) undKK kkey_info rfl (by decide) (by decide) (by rfl) LM.out.symm (PM.out.row.grew L4.out.grew (Nat.le_refl _)) (Nat.zero_le _) (by rfl) (by rfl) (kc_one n k 0) (fun j u hu => lit_at L4.out.blk hu) (by have h1 := LQ.out; have h2 := LM.out; show _ + 1 ≤ _; omega) (r := s.l.length + 1) (by show _ + 1 = _ + 1; rw [LM.out]) ?_; intro A5 c5 w5 o5 g5 l5; obtain ⟨q5, q6, q7, q8⟩ := PM.out.app L4.out o5 g5 l5; have Q5 := Lib.hid q5; have q9 := (obT q6).1.2.2; have q10 := (obT q6).2; clear o5 g5 l5 q5 q6
   refine hK.out _ _ ?_ (fun hHeld => ?_)
   ·exact fun _ => ⟨q9, q7, q8⟩
   clear hK K' hHeld
   try simp only [Act.put, List.setIfInBounds_toArray, List.set_cons_zero, List.set_cons_succ]
   refine wpAnyC_one (i := 8) (oi := ?o8) ?hi8 (by kernel_rfl) ?step8
   case hi8 => (simp only [List.getElem?_toArray, List.getElem?_cons_zero, List.getElem?_cons_succ]; exact rfl)
   intro K' hK
   go_simp
   refine hK.out _ _ ?_ (fun hHeld => ?_)
   ·exact fun _ => ⟨q9, q7, q8⟩
   clear hK K' hHeld
   try simp only [Act.put, List.setIfInBounds_toArray, List.set_cons_zero, List.set_cons_succ]
   refine wpAnyC_one (i := 9) (oi := ?o9) ?hi9 (by kernel_rfl) ?step9
   case hi9 => (simp only [List.getElem?_toArray, List.getElem?_cons_zero, List.getElem?_cons_succ]; exact rfl)
   intro K' hK
   go_simp
   refine hK.out _ _ ?_ (fun hHeld => ?_)
   ·exact fun _ => ⟨q9, q7, q8⟩
   clear hK K' hHeld
   try simp only [Act.put, List.setIfInBounds_toArray, List.set_cons_zero, List.set_cons_succ]
   refine wpAnyC_one (i := 10) (oi := ?o10) ?hi10 (by kernel_rfl) ?step10
   case hi10 => (simp only [List.getElem?_toArray, List.getElem?_cons_zero, List.getElem?_cons_succ]; exact rfl)
   intro K' hK
   go_simp
   refine hK.out _ _ ?_ (fun hHeld => ?_)
   ·exact fun h => (by cases h)
   clear hK K' hHeld
   try simp only [Act.put, List.setIfInBounds_toArray, List.set_cons_zero, List.set_cons_succ]
   refine wpAnyC_done (by kernel_rfl) ?_ _
   clear q7 q8 q9 q10 e3
   go_wp2
   go_ret2
   rw [PE.out.1]
   exact ⟨rfl, Q5.out.done HO.out _ rfl⟩
end Go.Proofs.YtkbekojnmdgdgaaGreatDoor
