/-
  dropFirst: the first entry goes, of the map and of the row.
-/
import Derived.Test.YteppokokabgniaaKyDel
namespace Go.Proofs.Yteppokokabgniaa
open Go.RowKit Go.Maps
attribute [local go_sem ↓] Go.wp_at_zero Go.wp_at_succ
set_option maxRecDepth 20000
theorem TMap.onceK {w : World} {m : Nat} {l : List Ky.T} (h : TMap w m l) : Ky.Once l := by obtain ⟨_, _, h⟩ := h; exact h.once
theorem TMap.okK {w : World} {m : Nat} {l : List Ky.T} (h : TMap w m l) : ∀ t ∈ l, okS t.name ∧ okS t.key ∧ is64 t.id := by obtain ⟨_, _, h⟩ := h; exact h.ok
theorem Ky.del_first {x : T} {r : List T} (h : Once (x :: r)) : del x.name x.key (x :: r) = r := by
  obtain ⟨h1, h2⟩ := List.pairwise_cons.1 h
  have e : Ky.del x.name x.key (x :: r) = Ky.del x.name x.key r := by unfold Ky.del; rw [List.filter_cons, same_iff.2 ⟨rfl, rfl⟩]; rfl
  rw [e]
  exact del_none (inL_none.2 fun t ht e => h1 t ht ⟨e.1.symm, e.2.symm⟩)
theorem turnedK_only {w w' : World} {m : Nat} {O : Nat → Prop} (h : w.mapTurned w' m) (hm : O m) : Only O w w' := by
  obtain ⟨h1, h2, h3, h4, h5⟩ := turned_frameK h
  exact ⟨h1, h2, h3, by omega, fun k _ hk => h5 k fun e => hk (e ▸ hm)⟩
theorem set2_obj {w : World} {g : Nat} {x y z v : Value} {t : TypeId} (h : w.heap[g]? = some (.cells #[x, y, z] t (0, 0))) : (w.setCell ⟨g, 2, none⟩ v).heap[g]? = some (.cells #[x, y, v] t (0, 0)) := by
  unfold World.setCell
  simp only
  rw [Array.getElem?_modify, if_pos rfl, h]
  rfl
set_option maxHeartbeats 2000000 in
theorem keysDrop_any {w : World} {g m c : Nat} {A : Option Addr} {s : Ky.S} (h : PMK w g m A c s) (hn : 1 ≤ s.l.length) (hs : s.l.length ≤ 128) :
    Calls Try.prog 17 #[.pointer (some ⟨g, 0, none⟩)] w fun e w' => e = .returned (.tuple #[]) ∧ Hid (PMK w' g m A c ⟨s.most, s.l.drop 1⟩) ∧ Hid (Only (three g m A) w w') := by
  obtain ⟨gr, hA, -, hgr⟩ := h.row.shape (by rw [List.length_map]; omega)
  subst hA
  obtain ⟨r1, r2⟩ := h.rowm rfl
  obtain ⟨x, r, hl⟩ : ∃ x r, s.l = x :: r := by
    cases hl : s.l with
    | nil => rw [hl] at hn; simp at hn
    | cons x r => exact ⟨x, r, rfl⟩
  have ok := h.map.okK x (by rw [hl]; simp)
  obtain ⟨⟨-, c1, c2⟩, f2⟩ := obT h.obj
  have x0 : w.cell? ⟨gr, 0, none⟩ = some (.string x.name) := h.row.cell (i := 0) (j := 0) (by rw [List.length_map]; omega) (by omega) (by rw [hl]; rfl)
  have x1 : w.cell? ⟨gr, 1, none⟩ = some (.string x.key) := h.row.cell (i := 0) (j := 1) (by rw [List.length_map]; omega) (by omega) (by rw [hl]; rfl)
  obtain ⟨w3, D, hm, ht⟩ := TMap.drop (w := w.drew) h.map x.name x.key ok.1 ok.2.1 0
  rw [hl, Ky.del_first (by rw [← hl]; exact h.map.onceK)] at hm
  have TF := Lib.hid (turned_frameK ht)
  have TC : ∀ {b o : Nat} {v : Value}, b ≠ m → w.cell? ⟨b, o, none⟩ = some v → w3.cell? ⟨b, o, none⟩ = some v := fun hb hv => (World.cell?_of_block (w := w) (TF.out.2.2.2.2 _ hb)).trans hv
  have OB : Hid (w3.heap[g]? = some (.cells #[.int .i64 s.most, .map (some m), .slice (some ⟨gr, 0, none⟩) s.l.length c] 55 (0, 0))) := Lib.hid ((TF.out.2.2.2.2 g h.ne).trans h.obj)
  have RW : Hid (OwnK w3 0 28 2 (some ⟨gr, 0, none⟩) c (s.l.map kc)) := Lib.hid (h.row.keep fun a ha => by
    injection ha with ha
    subst ha
    exact TF.out.2.2.2.2 _ r1)
  have e1 := TC h.ne c1
  have e2 := TC h.ne c2
  have e4 := TC r1 x0
  have e5 := TC r1 x1
  have e3 : w3.frozen? ⟨g, 2, none⟩ = false := (obT OB.out).2
  have ON : Hid (Only (three g m (some ⟨gr, 0, none⟩)) w w3) := Lib.hid (by
    have h := turnedK_only (O := three g m (some ⟨gr, 0, none⟩)) ht (.inr (.inl rfl))
    exact ⟨h.os, h.tape, h.output, h.size, h.block⟩)
  have MP := Lib.hid hm
  have HL := Lib.hid hl
  have HN : Hid (s.l.length ≤ 128) := Lib.hid hs
  have NE := Lib.hid h.ne
  have R1 := Lib.hid r1
  have R2 := Lib.hid r2
  have e0 : ¬ (s.l.length : Int) ≤ 0 := by omega
  have hp : 0 < s.l.length := by omega
  have DL := Lib.hid (keyDel_any RW.out s.l.length (by rw [List.length_map]) hn)
  generalize hq : s.l.length = n at *
  have HQ := Lib.hid hq
  clear hq h hgr ok TC hm ht hl hs r1 r2
  go_enter Try.func17, Try.ntmps17
  go_upto_region 0 with (fail)
  go_region_held3 (fun w' => w'.cell? ⟨g, 1, none⟩ = some (.map (some m)) ∧ w'.cell? ⟨g, 2, none⟩ = some (.slice (some ⟨gr, 0, none⟩) n c) ∧ w'.cell? ⟨gr, 0, none⟩ = some (.string x.name) ∧ w'.cell? ⟨gr, 1, none⟩ = some (.string x.key)) (go_keep) (fail)
  go_wp2_with fail
  (with_reducible refine DL.out.mono ?_); rintro e w4 ⟨rfl, o4, o5⟩
  have g4 : w4.heap[g]? = w3.heap[g]? := o5.out.block g (lt_of_block OB.out) fun e => R2.out e.symm
  have m4 : w4.heap[m]? = w3.heap[m]? := o5.out.block m MP.out.lt fun e => R1.out e.symm
  have P4 := Lib.hid (g4.trans OB.out)
  have e7 := (obT P4.out).1.2.2
  have e6 : w4.frozen? ⟨g, 2, none⟩ = false := (obT P4.out).2
  have M4 := Lib.hid (MP.out.keep m4)
  have O4 : Hid (Only (three g m (some ⟨gr, 0, none⟩)) w w4) := Lib.hid ((ON.out.trans o5.out) fun i hi => .inl (.inr (.inr ⟨_, rfl, hi⟩)))
  clear g4 m4 o5
  go_wp2
  refine bodyPost_end (results_none rfl _ _ _) rfl ?_
  have hlen : (Ky.S.mk s.most (s.l.drop 1)).l.length = n - 1 := by show (s.l.drop 1).length = n - 1; rw [List.length_drop, HQ.out]
  refine ⟨rfl, Lib.hid ⟨?_, ?_, ?_⟩, Lib.hid (O4.out.trans (Only.set (three g m (some ⟨gr, 0, none⟩)) 2 w4 _ (.inl rfl)) fun _ h => .inl h)⟩
  · rw [hlen]
    exact set2_obj P4.out
  · show TMap _ m (s.l.drop 1)
    rw [HL.out]
    exact M4.out.keep (Below.heap_setCell _ _ _ _ (fun e => NE.out e.symm))
  · show OwnK _ _ _ _ _ _ ((s.l.drop 1).map kc)
    rw [List.map_drop]
    exact o4.out.keep fun a ha => by
      injection ha with ha
      subst ha
      exact Below.heap_setCell _ _ _ _ R2.out
end Go.Proofs.Yteppokokabgniaa
