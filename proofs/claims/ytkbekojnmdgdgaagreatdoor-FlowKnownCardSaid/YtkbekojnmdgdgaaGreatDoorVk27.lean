/-
  Part 27 of the texts behind the law: VFlSame, VFlRun.
-/
import Derived.Test.YtkbekojnmdgdgaaGreatDoorVk26
import Derived.Test.YtkbekojnmdgdgaaGreatDoorVk9
import Derived.Test.YtkbekojnmdgdgaaGreatDoorVk5
import Derived.Test.YtkbekojnmdgdgaaGreatDoorVk24
/- FlSame -/
namespace Go.Proofs.YtkbekojnmdgdgaaGreatDoor
open Go.RowKit Go.Maps
set_option maxRecDepth 20000
def prV (p : ByteArray × Df.D) : ByteArray × ByteArray := (p.1, str (Df.showT p.2))
def nmV (p : Rn.R × ByteArray) : Tx.T := p.2.data.toList
theorem map_inj_on {α β : Type} {f : α → β} : ∀ {l l2 : List α}, (∀ a ∈ l, ∀ b ∈ l2, f a = f b → a = b) → l.map f = l2.map f → l = l2
  | [], [], _, _ => rfl
  | [], b :: r, _, h => by cases h
  | a :: r, [], _, h => by cases h
  | a :: r, b :: r2, hi, h => by
    rw [List.map_cons, List.map_cons] at h
    injection h with h1 h2
    rw [hi a (List.mem_cons_self ..) b (List.mem_cons_self ..) h1, map_inj_on (fun x hx y hy => hi x (List.mem_cons_of_mem _ hx) y (List.mem_cons_of_mem _ hy)) h2]
theorem same_iff_parts {s s2 : Fw.S} (hI : Fw.Inv s) (hI2 : Fw.Inv s2) : s = s2 ↔ s.clock = s2.clock ∧ s.defs.map prV = s2.defs.map prV ∧ s.runs.map nmV = s2.runs.map nmV ∧ s.runs.map (·.1) = s2.runs.map (·.1) ∧ s.keys = s2.keys := by
  constructor
  · rintro rfl
    exact ⟨rfl, rfl, rfl, rfl, rfl⟩
  · rintro ⟨h1, h2, h3, h4, h5⟩
    have hd : s.defs = s2.defs := map_inj_on (fun a ha b hb e => by
      obtain ⟨a1, a2⟩ := a
      obtain ⟨b1, b2⟩ := b
      unfold prV at e
      injection e with e1 e2
      have h6 := (hI.dok _ ha).2.2
      have h7 := (hI2.dok _ hb).2.2
      have e3 : Df.showT a2 = Df.showT b2 := str_inj.1 e2
      simp only at h6 h7 e1
      rw [e3, h7] at h6
      injection h6 with h6
      rw [e1, h6]) h2
    have hr : s.runs = s2.runs := by
      have hl : s.runs.length = s2.runs.length := by have := congrArg List.length h4; simpa using this
      refine List.ext_getElem hl fun i i1 i2 => Prod.ext ?_ ?_
      · have := List.getElem_of_eq h4 (i := i) (by simpa using i1)
        simpa using this
      · have := List.getElem_of_eq h3 (i := i) (by simpa using i1)
        simp only [List.getElem_map, nmV] at this
        have e2 : s.runs[i].2.data = s2.runs[i].2.data := Array.toList_inj.1 this
        generalize s.runs[i].2 = x at *
        generalize s2.runs[i].2 = y at *
        cases x
        cases y
        simp only at e2
        rw [e2]
    obtain ⟨c, d, r, k⟩ := s
    obtain ⟨c2, d2, r2, k2⟩ := s2
    simp only at h1 hd hr h5
    rw [h1, hd, hr, h5]
theorem FPM.prs {w : World} {g : Nat} {a : FAt} {s : Fw.S} (h : FPM w g a s) : PrsO w a.D (s.defs.map prV) := by
  refine ⟨fun p hp => ?_, fun hn => ?_⟩
  · obtain ⟨q, hq, rfl⟩ := List.mem_map.1 hp
    exact ⟨(h.sz q hq).1, by show (str (Df.showT q.2)).size ≤ _; exact Nat.le_trans (Nat.le_of_eq (by show (Df.showT q.2).toArray.size = _; exact List.size_toArray)) (h.sz q hq).2⟩
  · rw [List.length_map] at hn
    obtain ⟨b, hA, -, hb⟩ := h.defs.shape (by rw [List.length_map]; exact hn)
    have hrow := h.defs
    rw [hA] at hrow
    refine ⟨b, 0, hA, hb, fun i hi => ?_⟩
    rw [List.length_map] at hi
    obtain ⟨y0, y1⟩ := dfV_cells hrow hi
    rw [List.getElem_map, Nat.zero_add]
    exact ⟨y0, y1⟩
theorem FPM.sgs {w : World} {g : Nat} {a : FAt} {s : Fw.S} (h : FPM w g a s) : SigsO w (fun _ => True) a.F (s.runs.map nmV) := fun hn => by
  rw [List.length_map] at hn
  obtain ⟨b, hA, -, hb⟩ := h.of.shape (by rw [List.length_map]; exact hn)
  have hrow := h.of
  rw [hA] at hrow
  refine ⟨b, 0, hA, trivial, hb, fun i hi => ?_⟩
  rw [List.length_map] at hi
  have y0 := ofV_cell hrow hi
  rw [getD_at (by rw [List.length_map]; exact hi), List.getElem_map]
  show w.cell? ⟨b, 0 + i * 1 + 0, none⟩ = some (.string (str (nmV s.runs[i])))
  rw [Nat.zero_add, Nat.mul_one, Nat.add_zero, y0]
  unfold nmV
  rw [str_list]
theorem ents_ens {w : World} {O : Nat → Prop} {A : Option Addr} {l : List Ky.T} (h : Ents w O A l) (ho : ∀ t ∈ l, Ky.ok t.name t.key t.id) : EnsO w A l := ⟨ho, fun hn => by
  obtain ⟨b, off, e, _, hb, hc⟩ := h hn
  exact ⟨b, off, e, hb, hc⟩⟩
set_option maxHeartbeats 8000000 in
theorem same_any {w : World} {g g2 : Nat} {a a2 : FAt} {s s2 : Fw.S} (h : FPM w g a s) (h2 : FPM w g2 a2 s2) (hI : Fw.Inv s) (hI2 : Fw.Inv s2) :
    Calls Tryz.prog 19 #[.pointer (some ⟨g, 0, none⟩), .pointer (some ⟨g2, 0, none⟩)] w fun e w' => e = .returned (.bool (decide (s = s2))) ∧ Hid (Below w.heap.size w w') := by
  have H := Lib.hid h
  have H2 := Lib.hid h2
  have IF := Lib.hid (same_iff_parts hI hI2)
  obtain ⟨v, hv⟩ : ∃ v, v = decide (s = s2) := ⟨_, rfl⟩
  have V := Lib.hid hv
  rw [← hv]
  obtain ⟨n, hn⟩ : ∃ n, n = s.defs.length := ⟨_, rfl⟩
  obtain ⟨n2, hn2⟩ : ∃ n, n = s2.defs.length := ⟨_, rfl⟩
  obtain ⟨m, hm⟩ : ∃ n, n = s.runs.length := ⟨_, rfl⟩
  obtain ⟨m2, hm2⟩ : ∃ n, n = s2.runs.length := ⟨_, rfl⟩
  obtain ⟨c, hc⟩ : ∃ n, n = s.clock := ⟨_, rfl⟩
  obtain ⟨c2, hc2⟩ : ∃ n, n = s2.clock := ⟨_, rfl⟩
  have SA : Hid (∀ W, Below w.heap.size w W → (W.cell? ⟨g, 0, none⟩ = some (.int .i64 c) ∧ W.cell? ⟨g, 1, none⟩ = some (.slice a.D n a.cd) ∧ W.cell? ⟨g, 2, none⟩ = some (.slice a.R m a.cr) ∧ W.cell? ⟨g, 3, none⟩ = some (.slice a.F m a.cf)) ∧
      W.cell? ⟨g2, 0, none⟩ = some (.int .i64 c2) ∧ W.cell? ⟨g2, 1, none⟩ = some (.slice a2.D n2 a2.cd) ∧ W.cell? ⟨g2, 2, none⟩ = some (.slice a2.R m2 a2.cr) ∧ W.cell? ⟨g2, 3, none⟩ = some (.slice a2.F m2 a2.cf)) := Lib.hid fun W hW => by
    obtain ⟨q0, q1, q2, q3, -⟩ := (H.out.on hW).cells.1
    obtain ⟨p0, p1, p2, p3, -⟩ := (H2.out.on hW).cells.1
    exact ⟨⟨by rw [hc]; exact q0, by rw [hn]; exact q1, by rw [hm]; exact q2, by rw [hm]; exact q3⟩, by rw [hc2]; exact p0, by rw [hn2]; exact p1, by rw [hm2]; exact p2, by rw [hm2]; exact p3⟩
  obtain ⟨dd, hdd⟩ : ∃ x, x = decide (s.defs.map prV = s2.defs.map prV) := ⟨_, rfl⟩
  obtain ⟨dn, hdn⟩ : ∃ x, x = decide (s.runs.map nmV = s2.runs.map nmV) := ⟨_, rfl⟩
  obtain ⟨dr, hdr⟩ : ∃ x, x = decide (s.runs.map (·.1) = s2.runs.map (·.1)) := ⟨_, rfl⟩
  obtain ⟨dk, hdk⟩ : ∃ x, x = decide (s.keys = s2.keys) := ⟨_, rfl⟩
  have RI : ∀ {s : Fw.S}, Fw.Inv s → (∀ r ∈ s.runs.map (·.1), Rn.Inv r) ∧ ∀ p ∈ s.runs, inI p.1.st := fun {s} hI => ⟨fun r hr => by obtain ⟨p, hp, rfl⟩ := List.mem_map.1 hr; exact (hI.rok p hp).1.toInv, fun p hp => by have h1 := (hI.rok p hp).1.toInv; have h2 := h1.st0; have h3 := h1.st3; exact ⟨by omega, by omega⟩⟩
  have C1 : Hid (∀ W, Below w.heap.size w W → Calls Tryz.prog 41 #[.slice a.D n a.cd, .slice a2.D n2 a2.cd] W (BoolG W dd)) := Lib.hid fun W hW => by
    rw [hdd]
    exact equalDf_p a.D a2.D _ _ n n2 a.cd a2.cd (by rw [List.length_map]; exact hn) (by rw [List.length_map]; exact hn2) (by have := H.out.dm; omega) W (H.out.on hW).prs (H2.out.on hW).prs
  have C2 : Hid (∀ W, Below w.heap.size w W → Calls Tryz.prog 42 #[.slice a.F m a.cf, .slice a2.F m2 a2.cf] W (BoolG W dn)) := Lib.hid fun W hW => by
    rw [hdn]
    exact equalS_p a.F a2.F _ _ m m2 a.cf a2.cf (by rw [List.length_map]; exact hm) (by rw [List.length_map]; exact hm2) (by have := H.out.rm; omega) W _ _ (H.out.on hW).sgs (H2.out.on hW).sgs
  have C3 : Hid (∀ W, Below w.heap.size w W → Calls Tryz.prog 43 #[.slice a.R m a.cr, .slice a2.R m2 a2.cr, .func (.func 26) #[] #[]] W (BoolG W dr)) := Lib.hid fun W hW => by
    rw [hdr]
    exact equalRn_p a.R a2.R _ _ m m2 a.cr a2.cr (by rw [List.length_map]; exact hm) (by rw [List.length_map]; exact hm2) (by have := H.out.rm; omega) (RI hI).1 (RI hI2).1 W _ _ ((H.out.on hW).runsO (RI hI).2) ((H2.out.on hW).runsO (RI hI2).2)
  obtain ⟨q, hq⟩ : ∃ n, n = s.keys.length := ⟨_, rfl⟩
  obtain ⟨q2, hq2⟩ : ∃ n, n = s2.keys.length := ⟨_, rfl⟩
  have C4 : Hid (∀ W, Below w.heap.size w W → Calls Tryz.prog 45 #[.pointer (some ⟨g, 0, none⟩)] W fun e w' => ∃ A c, e = .returned (.slice A q c) ∧ Hid (Below W.heap.size W w') ∧ Hid (EnsO w' A s.keys ∧ Ents w' (fun _ => True) A s.keys)) := Lib.hid fun W hW => by
    rw [hq]
    exact (keys_any (H.out.on hW) hI.ki).mono fun _ _ ⟨A, c, e1, e2, e3⟩ => ⟨A, c, e1, e2, Lib.hid ⟨ents_ens e3.out H.out.keys.oks, e3.out.imp fun _ _ _ => trivial⟩⟩
  have C5 : Hid (∀ W, Below w.heap.size w W → Calls Tryz.prog 45 #[.pointer (some ⟨g2, 0, none⟩)] W fun e w' => ∃ A c, e = .returned (.slice A q2 c) ∧ Hid (Below W.heap.size W w') ∧ Hid (EnsO w' A s2.keys)) := Lib.hid fun W hW => by
    rw [hq2]
    exact (keys_any (H2.out.on hW) hI2.ki).mono fun _ _ ⟨A, c, e1, e2, e3⟩ => ⟨A, c, e1, e2, Lib.hid (ents_ens e3.out H2.out.keys.oks)⟩
  have C6 : Hid (∀ W A B c c2, EnsO W A s.keys → EnsO W B s2.keys → Calls Tryz.prog 44 #[.slice A q c, .slice B q2 c2] W (BoolG W dk)) := Lib.hid fun W A B c c2 h1 h2 => by
    rw [hdk]
    exact equalEn_p A B _ _ q q2 c c2 hq hq2 (by rw [hq]; have := hI.ki.few; have h3 : (s.keys.length : Int) ≤ 128 := this; omega) W h1 h2
  have VV : Hid (v = (decide (c = c2) && (dd && (dn && (dr && dk))))) := Lib.hid (by
    rw [hv, hdd, hdn, hdr, hdk, hc, hc2, Bool.eq_iff_iff]
    simp only [Bool.and_eq_true, decide_eq_true_eq]
    exact IF.out)
  have BW : Hid (Below w.heap.size w w.drew) := Lib.hid (Below.refl _ _).drew
  clear h h2 hI hI2 IF hv V hn hn2 hm hm2 hc hc2 hdd hdn hdr hdk RI hq hq2
  by_cases hcc : c = c2
  · subst hcc
    cases dd with
    | false =>
      go_enter Tryz.func19, Tryz.ntmps19
      go_upto_region 1 with (fail)
      refine wp_region_held_drew (S := (fun w' => (w'.cell? ⟨g, 0, none⟩ = some (.int .i64 c) ∧ w'.cell? ⟨g, 1, none⟩ = some (.slice a.D n a.cd) ∧ w'.cell? ⟨g, 2, none⟩ = some (.slice a.R m a.cr) ∧ w'.cell? ⟨g, 3, none⟩ = some (.slice a.F m a.cf)) ∧ w'.cell? ⟨g2, 0, none⟩ = some (.int .i64 c) ∧ w'.cell? ⟨g2, 1, none⟩ = some (.slice a2.D n2 a2.cd) ∧ w'.cell? ⟨g2, 2, none⟩ = some (.slice a2.R m2 a2.cr) ∧ w'.cell? ⟨g2, 3, none⟩ = some (.slice a2.F m2 a2.cf))) (by kernel_rfl) ?hS1001 (fun hHeld => ?_)
      case hS1001 => exact (SA.out _ BW.out)
      refine takH 0 (h := ?_)
      try simp only [Act.put, List.setIfInBounds_toArray, List.set_cons_zero, List.set_cons_succ]
      refine takH 1 (h := ?_)
      try simp only [Act.put, List.setIfInBounds_toArray, List.set_cons_zero, List.set_cons_succ]
      refine takH 2 (h := ?_)
      try simp only [Act.put, List.setIfInBounds_toArray, List.set_cons_zero, List.set_cons_succ]
      refine takH 3 (h := ?_)
      try simp only [Act.put, List.setIfInBounds_toArray, List.set_cons_zero, List.set_cons_succ]
      refine takH 4 (h := ?_)
      try simp only [Act.put, List.setIfInBounds_toArray, List.set_cons_zero, List.set_cons_succ]
      refine takH 5 (h := ?_)
      try simp only [Act.put, List.setIfInBounds_toArray, List.set_cons_zero, List.set_cons_succ]
      refine takH 6 (h := ?_)
      try simp only [Act.put, List.setIfInBounds_toArray, List.set_cons_zero, List.set_cons_succ]
      refine takH 7 (h := ?_)
      try simp only [Act.put, List.setIfInBounds_toArray, List.set_cons_zero, List.set_cons_succ]
      refine takH 8 (h := ?_)
      try simp only [Act.put, List.setIfInBounds_toArray, List.set_cons_zero, List.set_cons_succ]
      refine takH 9 (h := ?_)
      try simp only [Act.put, List.setIfInBounds_toArray, List.set_cons_zero, List.set_cons_succ]
      refine takH 10 (h := ?_)
      try simp only [Act.put, List.setIfInBounds_toArray, List.set_cons_zero, List.set_cons_succ]
      refine takH 11 (h := ?_)
      try simp only [Act.put, List.setIfInBounds_toArray, List.set_cons_zero, List.set_cons_succ]
      refine takH 12 (h := ?_)
      try simp only [Act.put, List.setIfInBounds_toArray, List.set_cons_zero, List.set_cons_succ]
      refine takH 13 (h := ?_)
      try simp only [Act.put, List.setIfInBounds_toArray, List.set_cons_zero, List.set_cons_succ]
      refine takH 14 (h := ?_)
      try simp only [Act.put, List.setIfInBounds_toArray, List.set_cons_zero, List.set_cons_succ]
      refine takH 15 (h := ?_)
      try simp only [Act.put, List.setIfInBounds_toArray, List.set_cons_zero, List.set_cons_succ]
      refine takH 16 (h := ?_)
      try simp only [Act.put, List.setIfInBounds_toArray, List.set_cons_zero, List.set_cons_succ]
      refine takH 17 (h := ?_)
      try simp only [Act.put, List.setIfInBounds_toArray, List.set_cons_zero, List.set_cons_succ]
      refine wpAnyH_ready (rs := [18]) (by kernel_rfl) (by simp) ?_
      refine AllReadyH.cons (o := ?o1002) ?hi1002 (fun K hK => ?_) AllReadyH.nil
      case hi1002 => (simp only [List.getElem?_toArray, List.getElem?_cons_zero, List.getElem?_cons_succ]; exact rfl)
      (go_simp; go_at_call 41; (with_reducible refine (C1.out _ BW.out).mono ?_); rintro e W1 ⟨rfl, b1⟩; have B1 : Hid (Below w.heap.size w W1) := Lib.hid (BW.out.trans (b1.out.mono BW.out.size)); try dsimp only)
      refine hK.out _ _ ?_ (fun hHeld => ?_)
      · exact SA.out _ B1.out
      clear hK K
      try simp only [Act.put, List.setIfInBounds_toArray, List.set_cons_zero, List.set_cons_succ]
      refine takH 19 (h := ?_)
      try simp only [Act.put, List.setIfInBounds_toArray, List.set_cons_zero, List.set_cons_succ]
      refine takH 20 (h := ?_)
      try simp only [Act.put, List.setIfInBounds_toArray, List.set_cons_zero, List.set_cons_succ]
      refine skiH 21 (h := ?_)
      try simp only [Act.put, List.setIfInBounds_toArray, List.set_cons_zero, List.set_cons_succ]
      refine skiH 22 (h := ?_)
      try simp only [Act.put, List.setIfInBounds_toArray, List.set_cons_zero, List.set_cons_succ]
      refine skiH 23 (h := ?_)
      try simp only [Act.put, List.setIfInBounds_toArray, List.set_cons_zero, List.set_cons_succ]
      refine skiH 24 (h := ?_)
      try simp only [Act.put, List.setIfInBounds_toArray, List.set_cons_zero, List.set_cons_succ]
      refine skiH 25 (h := ?_)
      try simp only [Act.put, List.setIfInBounds_toArray, List.set_cons_zero, List.set_cons_succ]
      refine skiH 26 (h := ?_)
      try simp only [Act.put, List.setIfInBounds_toArray, List.set_cons_zero, List.set_cons_succ]
      refine skiH 27 (h := ?_)
      try simp only [Act.put, List.setIfInBounds_toArray, List.set_cons_zero, List.set_cons_succ]
      refine skiH 28 (h := ?_)
      try simp only [Act.put, List.setIfInBounds_toArray, List.set_cons_zero, List.set_cons_succ]
      refine skiH 29 (h := ?_)
      try simp only [Act.put, List.setIfInBounds_toArray, List.set_cons_zero, List.set_cons_succ]
      refine takH 30 (h := ?_)
      try simp only [Act.put, List.setIfInBounds_toArray, List.set_cons_zero, List.set_cons_succ]
      refine takH 31 (h := ?_)
      try simp only [Act.put, List.setIfInBounds_toArray, List.set_cons_zero, List.set_cons_succ]
      refine skiH 32 (h := ?_)
      try simp only [Act.put, List.setIfInBounds_toArray, List.set_cons_zero, List.set_cons_succ]
      refine skiH 33 (h := ?_)
      try simp only [Act.put, List.setIfInBounds_toArray, List.set_cons_zero, List.set_cons_succ]
      refine skiH 34 (h := ?_)
      try simp only [Act.put, List.setIfInBounds_toArray, List.set_cons_zero, List.set_cons_succ]
      refine skiH 35 (h := ?_)
      try simp only [Act.put, List.setIfInBounds_toArray, List.set_cons_zero, List.set_cons_succ]
      refine skiH 36 (h := ?_)
      try simp only [Act.put, List.setIfInBounds_toArray, List.set_cons_zero, List.set_cons_succ]
      refine skiH 37 (h := ?_)
      try simp only [Act.put, List.setIfInBounds_toArray, List.set_cons_zero, List.set_cons_succ]
      refine skiH 38 (h := ?_)
      try simp only [Act.put, List.setIfInBounds_toArray, List.set_cons_zero, List.set_cons_succ]
      refine skiH 39 (h := ?_)
      try simp only [Act.put, List.setIfInBounds_toArray, List.set_cons_zero, List.set_cons_succ]
      refine skiH 40 (h := ?_)
      try simp only [Act.put, List.setIfInBounds_toArray, List.set_cons_zero, List.set_cons_succ]
      refine takH 41 (h := ?_)
      try simp only [Act.put, List.setIfInBounds_toArray, List.set_cons_zero, List.set_cons_succ]
      refine takH 42 (h := ?_)
      try simp only [Act.put, List.setIfInBounds_toArray, List.set_cons_zero, List.set_cons_succ]
      refine skiH 43 (h := ?_)
      try simp only [Act.put, List.setIfInBounds_toArray, List.set_cons_zero, List.set_cons_succ]
      refine skiH 44 (h := ?_)
      try simp only [Act.put, List.setIfInBounds_toArray, List.set_cons_zero, List.set_cons_succ]
      refine skiH 45 (h := ?_)
      try simp only [Act.put, List.setIfInBounds_toArray, List.set_cons_zero, List.set_cons_succ]
      refine skiH 46 (h := ?_)
      try simp only [Act.put, List.setIfInBounds_toArray, List.set_cons_zero, List.set_cons_succ]
      refine skiH 47 (h := ?_)
      try simp only [Act.put, List.setIfInBounds_toArray, List.set_cons_zero, List.set_cons_succ]
      refine takH 48 (h := ?_)
      try simp only [Act.put, List.setIfInBounds_toArray, List.set_cons_zero, List.set_cons_succ]
      refine takH 49 (h := ?_)
      try simp only [Act.put, List.setIfInBounds_toArray, List.set_cons_zero, List.set_cons_succ]
      refine wpAnyH_done (by kernel_rfl) ?_ _
      go_wp2
      go_ret
      exact ⟨ret_bool (by rw [VV.out]; simp), B1⟩
    | true =>
      cases dn with
      | false =>
        go_enter Tryz.func19, Tryz.ntmps19
        go_upto_region 1 with (fail)
        refine wp_region_held_drew (S := (fun w' => (w'.cell? ⟨g, 0, none⟩ = some (.int .i64 c) ∧ w'.cell? ⟨g, 1, none⟩ = some (.slice a.D n a.cd) ∧ w'.cell? ⟨g, 2, none⟩ = some (.slice a.R m a.cr) ∧ w'.cell? ⟨g, 3, none⟩ = some (.slice a.F m a.cf)) ∧ w'.cell? ⟨g2, 0, none⟩ = some (.int .i64 c) ∧ w'.cell? ⟨g2, 1, none⟩ = some (.slice a2.D n2 a2.cd) ∧ w'.cell? ⟨g2, 2, none⟩ = some (.slice a2.R m2 a2.cr) ∧ w'.cell? ⟨g2, 3, none⟩ = some (.slice a2.F m2 a2.cf))) (by kernel_rfl) ?hS1003 (fun hHeld => ?_)
        case hS1003 => exact (SA.out _ BW.out)
        refine takH 0 (h := ?_)
        try simp only [Act.put, List.setIfInBounds_toArray, List.set_cons_zero, List.set_cons_succ]
        refine takH 1 (h := ?_)
        try simp only [Act.put, List.setIfInBounds_toArray, List.set_cons_zero, List.set_cons_succ]
        refine takH 2 (h := ?_)
        try simp only [Act.put, List.setIfInBounds_toArray, List.set_cons_zero, List.set_cons_succ]
        refine takH 3 (h := ?_)
        try simp only [Act.put, List.setIfInBounds_toArray, List.set_cons_zero, List.set_cons_succ]
        refine takH 4 (h := ?_)
        try simp only [Act.put, List.setIfInBounds_toArray, List.set_cons_zero, List.set_cons_succ]
        refine takH 5 (h := ?_)
        try simp only [Act.put, List.setIfInBounds_toArray, List.set_cons_zero, List.set_cons_succ]
        refine takH 6 (h := ?_)
        try simp only [Act.put, List.setIfInBounds_toArray, List.set_cons_zero, List.set_cons_succ]
        refine takH 7 (h := ?_)
        try simp only [Act.put, List.setIfInBounds_toArray, List.set_cons_zero, List.set_cons_succ]
        refine takH 8 (h := ?_)
        try simp only [Act.put, List.setIfInBounds_toArray, List.set_cons_zero, List.set_cons_succ]
        refine takH 9 (h := ?_)
        try simp only [Act.put, List.setIfInBounds_toArray, List.set_cons_zero, List.set_cons_succ]
        refine takH 10 (h := ?_)
        try simp only [Act.put, List.setIfInBounds_toArray, List.set_cons_zero, List.set_cons_succ]
        refine takH 11 (h := ?_)
        try simp only [Act.put, List.setIfInBounds_toArray, List.set_cons_zero, List.set_cons_succ]
        refine takH 12 (h := ?_)
        try simp only [Act.put, List.setIfInBounds_toArray, List.set_cons_zero, List.set_cons_succ]
        refine takH 13 (h := ?_)
        try simp only [Act.put, List.setIfInBounds_toArray, List.set_cons_zero, List.set_cons_succ]
        refine takH 14 (h := ?_)
        try simp only [Act.put, List.setIfInBounds_toArray, List.set_cons_zero, List.set_cons_succ]
        refine takH 15 (h := ?_)
        try simp only [Act.put, List.setIfInBounds_toArray, List.set_cons_zero, List.set_cons_succ]
        refine takH 16 (h := ?_)
        try simp only [Act.put, List.setIfInBounds_toArray, List.set_cons_zero, List.set_cons_succ]
        refine takH 17 (h := ?_)
        try simp only [Act.put, List.setIfInBounds_toArray, List.set_cons_zero, List.set_cons_succ]
        refine wpAnyH_ready (rs := [18]) (by kernel_rfl) (by simp) ?_
        refine AllReadyH.cons (o := ?o1004) ?hi1004 (fun K hK => ?_) AllReadyH.nil
        case hi1004 => (simp only [List.getElem?_toArray, List.getElem?_cons_zero, List.getElem?_cons_succ]; exact rfl)
        (go_simp; go_at_call 41; (with_reducible refine (C1.out _ BW.out).mono ?_); rintro e W1 ⟨rfl, b1⟩; have B1 : Hid (Below w.heap.size w W1) := Lib.hid (BW.out.trans (b1.out.mono BW.out.size)); try dsimp only)
        refine hK.out _ _ ?_ (fun hHeld => ?_)
        · exact SA.out _ B1.out
        clear hK K
        try simp only [Act.put, List.setIfInBounds_toArray, List.set_cons_zero, List.set_cons_succ]
        refine takH 19 (h := ?_)
        try simp only [Act.put, List.setIfInBounds_toArray, List.set_cons_zero, List.set_cons_succ]
        refine takH 20 (h := ?_)
        try simp only [Act.put, List.setIfInBounds_toArray, List.set_cons_zero, List.set_cons_succ]
        refine takH 21 (h := ?_)
        try simp only [Act.put, List.setIfInBounds_toArray, List.set_cons_zero, List.set_cons_succ]
        refine takH 22 (h := ?_)
        try simp only [Act.put, List.setIfInBounds_toArray, List.set_cons_zero, List.set_cons_succ]
        refine takH 23 (h := ?_)
        try simp only [Act.put, List.setIfInBounds_toArray, List.set_cons_zero, List.set_cons_succ]
        refine takH 24 (h := ?_)
        try simp only [Act.put, List.setIfInBounds_toArray, List.set_cons_zero, List.set_cons_succ]
        refine takH 25 (h := ?_)
        try simp only [Act.put, List.setIfInBounds_toArray, List.set_cons_zero, List.set_cons_succ]
        refine takH 26 (h := ?_)
        try simp only [Act.put, List.setIfInBounds_toArray, List.set_cons_zero, List.set_cons_succ]
        refine takH 27 (h := ?_)
        try simp only [Act.put, List.setIfInBounds_toArray, List.set_cons_zero, List.set_cons_succ]
        refine takH 28 (h := ?_)
        try simp only [Act.put, List.setIfInBounds_toArray, List.set_cons_zero, List.set_cons_succ]
        refine wpAnyH_ready (rs := [29]) (by kernel_rfl) (by simp) ?_
        refine AllReadyH.cons (o := ?o1005) ?hi1005 (fun K hK => ?_) AllReadyH.nil
        case hi1005 => (simp only [List.getElem?_toArray, List.getElem?_cons_zero, List.getElem?_cons_succ]; exact rfl)
        (go_simp; go_at_call 42; (with_reducible refine (C2.out _ B1.out).mono ?_); rintro e W2 ⟨rfl, b2⟩; have B2 : Hid (Below w.heap.size w W2) := Lib.hid (B1.out.trans (b2.out.mono B1.out.size)); try dsimp only)
        refine hK.out _ _ ?_ (fun hHeld => ?_)
        · exact SA.out _ B2.out
        clear hK K
        try simp only [Act.put, List.setIfInBounds_toArray, List.set_cons_zero, List.set_cons_succ]
        refine takH 30 (h := ?_)
        try simp only [Act.put, List.setIfInBounds_toArray, List.set_cons_zero, List.set_cons_succ]
        refine takH 31 (h := ?_)
        try simp only [Act.put, List.setIfInBounds_toArray, List.set_cons_zero, List.set_cons_succ]
        refine skiH 32 (h := ?_)
        try simp only [Act.put, List.setIfInBounds_toArray, List.set_cons_zero, List.set_cons_succ]
        refine skiH 33 (h := ?_)
        try simp only [Act.put, List.setIfInBounds_toArray, List.set_cons_zero, List.set_cons_succ]
        refine skiH 34 (h := ?_)
        try simp only [Act.put, List.setIfInBounds_toArray, List.set_cons_zero, List.set_cons_succ]
        refine skiH 35 (h := ?_)
        try simp only [Act.put, List.setIfInBounds_toArray, List.set_cons_zero, List.set_cons_succ]
        refine skiH 36 (h := ?_)
        try simp only [Act.put, List.setIfInBounds_toArray, List.set_cons_zero, List.set_cons_succ]
        refine skiH 37 (h := ?_)
        try simp only [Act.put, List.setIfInBounds_toArray, List.set_cons_zero, List.set_cons_succ]
        refine skiH 38 (h := ?_)
        try simp only [Act.put, List.setIfInBounds_toArray, List.set_cons_zero, List.set_cons_succ]
        refine skiH 39 (h := ?_)
        try simp only [Act.put, List.setIfInBounds_toArray, List.set_cons_zero, List.set_cons_succ]
        refine skiH 40 (h := ?_)
        try simp only [Act.put, List.setIfInBounds_toArray, List.set_cons_zero, List.set_cons_succ]
        refine takH 41 (h := ?_)
        try simp only [Act.put, List.setIfInBounds_toArray, List.set_cons_zero, List.set_cons_succ]
        refine takH 42 (h := ?_)
        try simp only [Act.put, List.setIfInBounds_toArray, List.set_cons_zero, List.set_cons_succ]
        refine skiH 43 (h := ?_)
        try simp only [Act.put, List.setIfInBounds_toArray, List.set_cons_zero, List.set_cons_succ]
        refine skiH 44 (h := ?_)
        try simp only [Act.put, List.setIfInBounds_toArray, List.set_cons_zero, List.set_cons_succ]
        refine skiH 45 (h := ?_)
        try simp only [Act.put, List.setIfInBounds_toArray, List.set_cons_zero, List.set_cons_succ]
        refine skiH 46 (h := ?_)
        try simp only [Act.put, List.setIfInBounds_toArray, List.set_cons_zero, List.set_cons_succ]
        refine skiH 47 (h := ?_)
        try simp only [Act.put, List.setIfInBounds_toArray, List.set_cons_zero, List.set_cons_succ]
        refine takH 48 (h := ?_)
        try simp only [Act.put, List.setIfInBounds_toArray, List.set_cons_zero, List.set_cons_succ]
        refine takH 49 (h := ?_)
        try simp only [Act.put, List.setIfInBounds_toArray, List.set_cons_zero, List.set_cons_succ]
        refine wpAnyH_done (by kernel_rfl) ?_ _
        go_wp2
        go_ret
        exact ⟨ret_bool (by rw [VV.out]; simp), B2⟩
      | true =>
        cases dr with
        | false =>
          go_enter Tryz.func19, Tryz.ntmps19
          go_upto_region 1 with (fail)
          refine wp_region_held_drew (S := (fun w' => (w'.cell? ⟨g, 0, none⟩ = some (.int .i64 c) ∧ w'.cell? ⟨g, 1, none⟩ = some (.slice a.D n a.cd) ∧ w'.cell? ⟨g, 2, none⟩ = some (.slice a.R m a.cr) ∧ w'.cell? ⟨g, 3, none⟩ = some (.slice a.F m a.cf)) ∧ w'.cell? ⟨g2, 0, none⟩ = some (.int .i64 c) ∧ w'.cell? ⟨g2, 1, none⟩ = some (.slice a2.D n2 a2.cd) ∧ w'.cell? ⟨g2, 2, none⟩ = some (.slice a2.R m2 a2.cr) ∧ w'.cell? ⟨g2, 3, none⟩ = some (.slice a2.F m2 a2.cf))) (by kernel_rfl) ?hS1006 (fun hHeld => ?_)
          case hS1006 => exact (SA.out _ BW.out)
          refine takH 0 (h := ?_)
          try simp only [Act.put, List.setIfInBounds_toArray, List.set_cons_zero, List.set_cons_succ]
          refine takH 1 (h := ?_)
          try simp only [Act.put, List.setIfInBounds_toArray, List.set_cons_zero, List.set_cons_succ]
          refine takH 2 (h := ?_)
          try simp only [Act.put, List.setIfInBounds_toArray, List.set_cons_zero, List.set_cons_succ]
          refine takH 3 (h := ?_)
          try simp only [Act.put, List.setIfInBounds_toArray, List.set_cons_zero, List.set_cons_succ]
          refine takH 4 (h := ?_)
          try simp only [Act.put, List.setIfInBounds_toArray, List.set_cons_zero, List.set_cons_succ]
          refine takH 5 (h := ?_)
          try simp only [Act.put, List.setIfInBounds_toArray, List.set_cons_zero, List.set_cons_succ]
          refine takH 6 (h := ?_)
          try simp only [Act.put, List.setIfInBounds_toArray, List.set_cons_zero, List.set_cons_succ]
          refine takH 7 (h := ?_)
          try simp only [Act.put, List.setIfInBounds_toArray, List.set_cons_zero, List.set_cons_succ]
          refine takH 8 (h := ?_)
          try simp only [Act.put, List.setIfInBounds_toArray, List.set_cons_zero, List.set_cons_succ]
          refine takH 9 (h := ?_)
          try simp only [Act.put, List.setIfInBounds_toArray, List.set_cons_zero, List.set_cons_succ]
          refine takH 10 (h := ?_)
          try simp only [Act.put, List.setIfInBounds_toArray, List.set_cons_zero, List.set_cons_succ]
          refine takH 11 (h := ?_)
          try simp only [Act.put, List.setIfInBounds_toArray, List.set_cons_zero, List.set_cons_succ]
          refine takH 12 (h := ?_)
          try simp only [Act.put, List.setIfInBounds_toArray, List.set_cons_zero, List.set_cons_succ]
          refine takH 13 (h := ?_)
          try simp only [Act.put, List.setIfInBounds_toArray, List.set_cons_zero, List.set_cons_succ]
          refine takH 14 (h := ?_)
          try simp only [Act.put, List.setIfInBounds_toArray, List.set_cons_zero, List.set_cons_succ]
          refine takH 15 (h := ?_)
          try simp only [Act.put, List.setIfInBounds_toArray, List.set_cons_zero, List.set_cons_succ]
          refine takH 16 (h := ?_)
          try simp only [Act.put, List.setIfInBounds_toArray, List.set_cons_zero, List.set_cons_succ]
          refine takH 17 (h := ?_)
          try simp only [Act.put, List.setIfInBounds_toArray, List.set_cons_zero, List.set_cons_succ]
          refine wpAnyH_ready (rs := [18]) (by kernel_rfl) (by simp) ?_
          refine AllReadyH.cons (o := ?o1007) ?hi1007 (fun K hK => ?_) AllReadyH.nil
          case hi1007 => (simp only [List.getElem?_toArray, List.getElem?_cons_zero, List.getElem?_cons_succ]; exact rfl)
          (go_simp; go_at_call 41; (with_reducible refine (C1.out _ BW.out).mono ?_); rintro e W1 ⟨rfl, b1⟩; have B1 : Hid (Below w.heap.size w W1) := Lib.hid (BW.out.trans (b1.out.mono BW.out.size)); try dsimp only)
          refine hK.out _ _ ?_ (fun hHeld => ?_)
          · exact SA.out _ B1.out
          clear hK K
          try simp only [Act.put, List.setIfInBounds_toArray, List.set_cons_zero, List.set_cons_succ]
          refine takH 19 (h := ?_)
          try simp only [Act.put, List.setIfInBounds_toArray, List.set_cons_zero, List.set_cons_succ]
          refine takH 20 (h := ?_)
          try simp only [Act.put, List.setIfInBounds_toArray, List.set_cons_zero, List.set_cons_succ]
          refine takH 21 (h := ?_)
          try simp only [Act.put, List.setIfInBounds_toArray, List.set_cons_zero, List.set_cons_succ]
          refine takH 22 (h := ?_)
          try simp only [Act.put, List.setIfInBounds_toArray, List.set_cons_zero, List.set_cons_succ]
          refine takH 23 (h := ?_)
          try simp only [Act.put, List.setIfInBounds_toArray, List.set_cons_zero, List.set_cons_succ]
          refine takH 24 (h := ?_)
          try simp only [Act.put, List.setIfInBounds_toArray, List.set_cons_zero, List.set_cons_succ]
          refine takH 25 (h := ?_)
          try simp only [Act.put, List.setIfInBounds_toArray, List.set_cons_zero, List.set_cons_succ]
          refine takH 26 (h := ?_)
          try simp only [Act.put, List.setIfInBounds_toArray, List.set_cons_zero, List.set_cons_succ]
          refine takH 27 (h := ?_)
          try simp only [Act.put, List.setIfInBounds_toArray, List.set_cons_zero, List.set_cons_succ]
          refine takH 28 (h := ?_)
          try simp only [Act.put, List.setIfInBounds_toArray, List.set_cons_zero, List.set_cons_succ]
          refine wpAnyH_ready (rs := [29]) (by kernel_rfl) (by simp) ?_
          refine AllReadyH.cons (o := ?o1008) ?hi1008 (fun K hK => ?_) AllReadyH.nil
          case hi1008 => (simp only [List.getElem?_toArray, List.getElem?_cons_zero, List.getElem?_cons_succ]; exact rfl)
          (go_simp; go_at_call 42; (with_reducible refine (C2.out _ B1.out).mono ?_); rintro e W2 ⟨rfl, b2⟩; have B2 : Hid (Below w.heap.size w W2) := Lib.hid (B1.out.trans (b2.out.mono B1.out.size)); try dsimp only)
          refine hK.out _ _ ?_ (fun hHeld => ?_)
          · exact SA.out _ B2.out
          clear hK K
          try simp only [Act.put, List.setIfInBounds_toArray, List.set_cons_zero, List.set_cons_succ]
          refine takH 30 (h := ?_)
          try simp only [Act.put, List.setIfInBounds_toArray, List.set_cons_zero, List.set_cons_succ]
          refine takH 31 (h := ?_)
          try simp only [Act.put, List.setIfInBounds_toArray, List.set_cons_zero, List.set_cons_succ]
          refine takH 32 (h := ?_)
          try simp only [Act.put, List.setIfInBounds_toArray, List.set_cons_zero, List.set_cons_succ]
          refine takH 33 (h := ?_)
          try simp only [Act.put, List.setIfInBounds_toArray, List.set_cons_zero, List.set_cons_succ]
          refine takH 34 (h := ?_)
          try simp only [Act.put, List.setIfInBounds_toArray, List.set_cons_zero, List.set_cons_succ]
          refine takH 35 (h := ?_)
          try simp only [Act.put, List.setIfInBounds_toArray, List.set_cons_zero, List.set_cons_succ]
          refine takH 36 (h := ?_)
          try simp only [Act.put, List.setIfInBounds_toArray, List.set_cons_zero, List.set_cons_succ]
          refine takH 37 (h := ?_)
          try simp only [Act.put, List.setIfInBounds_toArray, List.set_cons_zero, List.set_cons_succ]
          refine takH 38 (h := ?_)
          try simp only [Act.put, List.setIfInBounds_toArray, List.set_cons_zero, List.set_cons_succ]
          refine takH 39 (h := ?_)
          try simp only [Act.put, List.setIfInBounds_toArray, List.set_cons_zero, List.set_cons_succ]
          refine wpAnyH_ready (rs := [40]) (by kernel_rfl) (by simp) ?_
          refine AllReadyH.cons (o := ?o1009) ?hi1009 (fun K hK => ?_) AllReadyH.nil
          case hi1009 => (simp only [List.getElem?_toArray, List.getElem?_cons_zero, List.getElem?_cons_succ]; exact rfl)
          (go_simp; go_at_call 43; (with_reducible refine (C3.out _ B2.out).mono ?_); rintro e W3 ⟨rfl, b3⟩; have B3 : Hid (Below w.heap.size w W3) := Lib.hid (B2.out.trans (b3.out.mono B2.out.size)); try dsimp only)
          refine hK.out _ _ ?_ (fun hHeld => ?_)
          · exact SA.out _ B3.out
          clear hK K
          try simp only [Act.put, List.setIfInBounds_toArray, List.set_cons_zero, List.set_cons_succ]
          refine takH 41 (h := ?_)
          try simp only [Act.put, List.setIfInBounds_toArray, List.set_cons_zero, List.set_cons_succ]
          refine takH 42 (h := ?_)
          try simp only [Act.put, List.setIfInBounds_toArray, List.set_cons_zero, List.set_cons_succ]
          refine skiH 43 (h := ?_)
          try simp only [Act.put, List.setIfInBounds_toArray, List.set_cons_zero, List.set_cons_succ]
          refine skiH 44 (h := ?_)
          try simp only [Act.put, List.setIfInBounds_toArray, List.set_cons_zero, List.set_cons_succ]
          refine skiH 45 (h := ?_)
          try simp only [Act.put, List.setIfInBounds_toArray, List.set_cons_zero, List.set_cons_succ]
          refine skiH 46 (h := ?_)
          try simp only [Act.put, List.setIfInBounds_toArray, List.set_cons_zero, List.set_cons_succ]
          refine skiH 47 (h := ?_)
          try simp only [Act.put, List.setIfInBounds_toArray, List.set_cons_zero, List.set_cons_succ]
          refine takH 48 (h := ?_)
          try simp only [Act.put, List.setIfInBounds_toArray, List.set_cons_zero, List.set_cons_succ]
          refine takH 49 (h := ?_)
          try simp only [Act.put, List.setIfInBounds_toArray, List.set_cons_zero, List.set_cons_succ]
          refine wpAnyH_done (by kernel_rfl) ?_ _
          go_wp2
          go_ret
          exact ⟨ret_bool (by rw [VV.out]; simp), B3⟩
        | true =>
          go_enter Tryz.func19, Tryz.ntmps19
          go_upto_region 1 with (fail)
          refine wp_region_held_drew (S := (fun w' => (w'.cell? ⟨g, 0, none⟩ = some (.int .i64 c) ∧ w'.cell? ⟨g, 1, none⟩ = some (.slice a.D n a.cd) ∧ w'.cell? ⟨g, 2, none⟩ = some (.slice a.R m a.cr) ∧ w'.cell? ⟨g, 3, none⟩ = some (.slice a.F m a.cf)) ∧ w'.cell? ⟨g2, 0, none⟩ = some (.int .i64 c) ∧ w'.cell? ⟨g2, 1, none⟩ = some (.slice a2.D n2 a2.cd) ∧ w'.cell? ⟨g2, 2, none⟩ = some (.slice a2.R m2 a2.cr) ∧ w'.cell? ⟨g2, 3, none⟩ = some (.slice a2.F m2 a2.cf))) (by kernel_rfl) ?hS1010 (fun hHeld => ?_)
          case hS1010 => exact (SA.out _ BW.out)
          refine takH 0 (h := ?_)
          try simp only [Act.put, List.setIfInBounds_toArray, List.set_cons_zero, List.set_cons_succ]
          refine takH 1 (h := ?_)
          try simp only [Act.put, List.setIfInBounds_toArray, List.set_cons_zero, List.set_cons_succ]
          refine takH 2 (h := ?_)
          try simp only [Act.put, List.setIfInBounds_toArray, List.set_cons_zero, List.set_cons_succ]
          refine takH 3 (h := ?_)
          try simp only [Act.put, List.setIfInBounds_toArray, List.set_cons_zero, List.set_cons_succ]
          refine takH 4 (h := ?_)
          try simp only [Act.put, List.setIfInBounds_toArray, List.set_cons_zero, List.set_cons_succ]
          refine takH 5 (h := ?_)
          try simp only [Act.put, List.setIfInBounds_toArray, List.set_cons_zero, List.set_cons_succ]
          refine takH 6 (h := ?_)
          try simp only [Act.put, List.setIfInBounds_toArray, List.set_cons_zero, List.set_cons_succ]
          refine takH 7 (h := ?_)
          try simp only [Act.put, List.setIfInBounds_toArray, List.set_cons_zero, List.set_cons_succ]
          refine takH 8 (h := ?_)
          try simp only [Act.put, List.setIfInBounds_toArray, List.set_cons_zero, List.set_cons_succ]
          refine takH 9 (h := ?_)
          try simp only [Act.put, List.setIfInBounds_toArray, List.set_cons_zero, List.set_cons_succ]
          refine takH 10 (h := ?_)
          try simp only [Act.put, List.setIfInBounds_toArray, List.set_cons_zero, List.set_cons_succ]
          refine takH 11 (h := ?_)
          try simp only [Act.put, List.setIfInBounds_toArray, List.set_cons_zero, List.set_cons_succ]
          refine takH 12 (h := ?_)
          try simp only [Act.put, List.setIfInBounds_toArray, List.set_cons_zero, List.set_cons_succ]
          refine takH 13 (h := ?_)
          try simp only [Act.put, List.setIfInBounds_toArray, List.set_cons_zero, List.set_cons_succ]
          refine takH 14 (h := ?_)
          try simp only [Act.put, List.setIfInBounds_toArray, List.set_cons_zero, List.set_cons_succ]
          refine takH 15 (h := ?_)
          try simp only [Act.put, List.setIfInBounds_toArray, List.set_cons_zero, List.set_cons_succ]
          refine takH 16 (h := ?_)
          try simp only [Act.put, List.setIfInBounds_toArray, List.set_cons_zero, List.set_cons_succ]
          refine takH 17 (h := ?_)
          try simp only [Act.put, List.setIfInBounds_toArray, List.set_cons_zero, List.set_cons_succ]
          refine wpAnyH_ready (rs := [18]) (by kernel_rfl) (by simp) ?_
          refine AllReadyH.cons (o := ?o1011) ?hi1011 (fun K hK => ?_) AllReadyH.nil
          case hi1011 => (simp only [List.getElem?_toArray, List.getElem?_cons_zero, List.getElem?_cons_succ]; exact rfl)
          (go_simp; go_at_call 41; (with_reducible refine (C1.out _ BW.out).mono ?_); rintro e W1 ⟨rfl, b1⟩; have B1 : Hid (Below w.heap.size w W1) := Lib.hid (BW.out.trans (b1.out.mono BW.out.size)); try dsimp only)
          refine hK.out _ _ ?_ (fun hHeld => ?_)
          · exact SA.out _ B1.out
          clear hK K
          try simp only [Act.put, List.setIfInBounds_toArray, List.set_cons_zero, List.set_cons_succ]
          refine takH 19 (h := ?_)
          try simp only [Act.put, List.setIfInBounds_toArray, List.set_cons_zero, List.set_cons_succ]
          refine takH 20 (h := ?_)
          try simp only [Act.put, List.setIfInBounds_toArray, List.set_cons_zero, List.set_cons_succ]
          refine takH 21 (h := ?_)
          try simp only [Act.put, List.setIfInBounds_toArray, List.set_cons_zero, List.set_cons_succ]
          refine takH 22 (h := ?_)
          try simp only [Act.put, List.setIfInBounds_toArray, List.set_cons_zero, List.set_cons_succ]
          refine takH 23 (h := ?_)
          try simp only [Act.put, List.setIfInBounds_toArray, List.set_cons_zero, List.set_cons_succ]
          refine takH 24 (h := ?_)
          try simp only [Act.put, List.setIfInBounds_toArray, List.set_cons_zero, List.set_cons_succ]
          refine takH 25 (h := ?_)
          try simp only [Act.put, List.setIfInBounds_toArray, List.set_cons_zero, List.set_cons_succ]
          refine takH 26 (h := ?_)
          try simp only [Act.put, List.setIfInBounds_toArray, List.set_cons_zero, List.set_cons_succ]
          refine takH 27 (h := ?_)
          try simp only [Act.put, List.setIfInBounds_toArray, List.set_cons_zero, List.set_cons_succ]
          refine takH 28 (h := ?_)
          try simp only [Act.put, List.setIfInBounds_toArray, List.set_cons_zero, List.set_cons_succ]
          refine wpAnyH_ready (rs := [29]) (by kernel_rfl) (by simp) ?_
          refine AllReadyH.cons (o := ?o1012) ?hi1012 (fun K hK => ?_) AllReadyH.nil
          case hi1012 => (simp only [List.getElem?_toArray, List.getElem?_cons_zero, List.getElem?_cons_succ]; exact rfl)
          (go_simp; go_at_call 42; (with_reducible refine (C2.out _ B1.out).mono ?_); rintro e W2 ⟨rfl, b2⟩; have B2 : Hid (Below w.heap.size w W2) := Lib.hid (B1.out.trans (b2.out.mono B1.out.size)); try dsimp only)
          refine hK.out _ _ ?_ (fun hHeld => ?_)
          · exact SA.out _ B2.out
          clear hK K
          try simp only [Act.put, List.setIfInBounds_toArray, List.set_cons_zero, List.set_cons_succ]
          refine takH 30 (h := ?_)
          try simp only [Act.put, List.setIfInBounds_toArray, List.set_cons_zero, List.set_cons_succ]
          refine takH 31 (h := ?_)
          try simp only [Act.put, List.setIfInBounds_toArray, List.set_cons_zero, List.set_cons_succ]
          refine takH 32 (h := ?_)
          try simp only [Act.put, List.setIfInBounds_toArray, List.set_cons_zero, List.set_cons_succ]
          refine takH 33 (h := ?_)
          try simp only [Act.put, List.setIfInBounds_toArray, List.set_cons_zero, List.set_cons_succ]
          refine takH 34 (h := ?_)
          try simp only [Act.put, List.setIfInBounds_toArray, List.set_cons_zero, List.set_cons_succ]
          refine takH 35 (h := ?_)
          try simp only [Act.put, List.setIfInBounds_toArray, List.set_cons_zero, List.set_cons_succ]
          refine takH 36 (h := ?_)
          try simp only [Act.put, List.setIfInBounds_toArray, List.set_cons_zero, List.set_cons_succ]
          refine takH 37 (h := ?_)
          try simp only [Act.put, List.setIfInBounds_toArray, List.set_cons_zero, List.set_cons_succ]
          refine takH 38 (h := ?_)
          try simp only [Act.put, List.setIfInBounds_toArray, List.set_cons_zero, List.set_cons_succ]
          refine takH 39 (h := ?_)
          try simp only [Act.put, List.setIfInBounds_toArray, List.set_cons_zero, List.set_cons_succ]
          refine wpAnyH_ready (rs := [40]) (by kernel_rfl) (by simp) ?_
          refine AllReadyH.cons (o := ?o1013) ?hi1013 (fun K hK => ?_) AllReadyH.nil
          case hi1013 => (simp only [List.getElem?_toArray, List.getElem?_cons_zero, List.getElem?_cons_succ]; exact rfl)
          (go_simp; go_at_call 43; (with_reducible refine (C3.out _ B2.out).mono ?_); rintro e W3 ⟨rfl, b3⟩; have B3 : Hid (Below w.heap.size w W3) := Lib.hid (B2.out.trans (b3.out.mono B2.out.size)); try dsimp only)
          refine hK.out _ _ ?_ (fun hHeld => ?_)
          · exact SA.out _ B3.out
          clear hK K
          try simp only [Act.put, List.setIfInBounds_toArray, List.set_cons_zero, List.set_cons_succ]
          refine takH 41 (h := ?_)
          try simp only [Act.put, List.setIfInBounds_toArray, List.set_cons_zero, List.set_cons_succ]
          refine takH 42 (h := ?_)
          try simp only [Act.put, List.setIfInBounds_toArray, List.set_cons_zero, List.set_cons_succ]
          refine takH 43 (h := ?_)
          try simp only [Act.put, List.setIfInBounds_toArray, List.set_cons_zero, List.set_cons_succ]
          refine takH 45 (h := ?_)
          try simp only [Act.put, List.setIfInBounds_toArray, List.set_cons_zero, List.set_cons_succ]
          refine wpAnyH_ready (rs := [44]) (by kernel_rfl) (by simp) ?_
          refine AllReadyH.cons (o := ?o1014) ?hi1014 (fun K hK => ?_) AllReadyH.nil
          case hi1014 => (simp only [List.getElem?_toArray, List.getElem?_cons_zero, List.getElem?_cons_succ]; exact rfl)
          (go_simp; go_at_call 45; (with_reducible refine (C4.out _ B3.out).mono ?_); rintro e W4 ⟨A4, c4, rfl, b4, n4⟩; have B4 : Hid (Below w.heap.size w W4) := Lib.hid (B3.out.trans (b4.out.mono B3.out.size)); try dsimp only)
          refine hK.out _ _ ?_ (fun hHeld => ?_)
          · exact SA.out _ B4.out
          clear hK K
          try simp only [Act.put, List.setIfInBounds_toArray, List.set_cons_zero, List.set_cons_succ]
          refine wpAnyH_ready (rs := [46]) (by kernel_rfl) (by simp) ?_
          refine AllReadyH.cons (o := ?o1015) ?hi1015 (fun K hK => ?_) AllReadyH.nil
          case hi1015 => (simp only [List.getElem?_toArray, List.getElem?_cons_zero, List.getElem?_cons_succ]; exact rfl)
          (go_simp; go_at_call 45; (with_reducible refine (C5.out _ B4.out).mono ?_); rintro e W5 ⟨A5, c5, rfl, b5, n5⟩; have B5 : Hid (Below w.heap.size w W5) := Lib.hid (B4.out.trans (b5.out.mono B4.out.size)); try dsimp only)
          refine hK.out _ _ ?_ (fun hHeld => ?_)
          · exact SA.out _ B5.out
          clear hK K
          try simp only [Act.put, List.setIfInBounds_toArray, List.set_cons_zero, List.set_cons_succ]
          have N4 : Hid (EnsO W5 A4 s.keys) := Lib.hid (ents_ens (n4.out.2.keep b5.out.size fun b _ hl => b5.out.block b hl) n4.out.1.1)
          refine wpAnyH_ready (rs := [47]) (by kernel_rfl) (by simp) ?_
          refine AllReadyH.cons (o := ?o1016) ?hi1016 (fun K hK => ?_) AllReadyH.nil
          case hi1016 => (simp only [List.getElem?_toArray, List.getElem?_cons_zero, List.getElem?_cons_succ]; exact rfl)
          (go_simp; go_at_call 44; (with_reducible refine (C6.out _ _ _ _ _ N4.out n5.out).mono ?_); rintro e W6 ⟨rfl, b6⟩; have B6 : Hid (Below w.heap.size w W6) := Lib.hid (B5.out.trans (b6.out.mono B5.out.size)); try dsimp only)
          refine hK.out _ _ ?_ (fun hHeld => ?_)
          · exact SA.out _ B6.out
          clear hK K
          try simp only [Act.put, List.setIfInBounds_toArray, List.set_cons_zero, List.set_cons_succ]
          refine takH 48 (h := ?_)
          try simp only [Act.put, List.setIfInBounds_toArray, List.set_cons_zero, List.set_cons_succ]
          refine takH 49 (h := ?_)
          try simp only [Act.put, List.setIfInBounds_toArray, List.set_cons_zero, List.set_cons_succ]
          refine wpAnyH_done (by kernel_rfl) ?_ _
          go_wp2
          go_ret
          exact ⟨ret_bool (by rw [VV.out]; simp), B6⟩
  · have hc3 : (c == c2) = false := by simpa using hcc
    go_enter Tryz.func19, Tryz.ntmps19
    go_upto_region 1 with (fail)
    refine wp_region_held_drew (S := (fun w' => (w'.cell? ⟨g, 0, none⟩ = some (.int .i64 c) ∧ w'.cell? ⟨g, 1, none⟩ = some (.slice a.D n a.cd) ∧ w'.cell? ⟨g, 2, none⟩ = some (.slice a.R m a.cr) ∧ w'.cell? ⟨g, 3, none⟩ = some (.slice a.F m a.cf)) ∧ w'.cell? ⟨g2, 0, none⟩ = some (.int .i64 c2) ∧ w'.cell? ⟨g2, 1, none⟩ = some (.slice a2.D n2 a2.cd) ∧ w'.cell? ⟨g2, 2, none⟩ = some (.slice a2.R m2 a2.cr) ∧ w'.cell? ⟨g2, 3, none⟩ = some (.slice a2.F m2 a2.cf))) (by kernel_rfl) ?hS1017 (fun hHeld => ?_)
    case hS1017 => exact (SA.out _ BW.out)
    refine takH 0 (h := ?_)
    try simp only [Act.put, List.setIfInBounds_toArray, List.set_cons_zero, List.set_cons_succ]
    refine takH 1 (h := ?_)
    try simp only [Act.put, List.setIfInBounds_toArray, List.set_cons_zero, List.set_cons_succ]
    refine takH 2 (h := ?_)
    try simp only [Act.put, List.setIfInBounds_toArray, List.set_cons_zero, List.set_cons_succ]
    refine takH 3 (h := ?_)
    try simp only [Act.put, List.setIfInBounds_toArray, List.set_cons_zero, List.set_cons_succ]
    refine takH 4 (h := ?_)
    try simp only [Act.put, List.setIfInBounds_toArray, List.set_cons_zero, List.set_cons_succ]
    refine takH 5 (h := ?_)
    try simp only [Act.put, List.setIfInBounds_toArray, List.set_cons_zero, List.set_cons_succ]
    refine takH 6 (h := ?_)
    try simp only [Act.put, List.setIfInBounds_toArray, List.set_cons_zero, List.set_cons_succ]
    refine takH 7 (h := ?_)
    try simp only [Act.put, List.setIfInBounds_toArray, List.set_cons_zero, List.set_cons_succ]
    refine takH 8 (h := ?_)
    try simp only [Act.put, List.setIfInBounds_toArray, List.set_cons_zero, List.set_cons_succ]
    refine takH 9 (h := ?_)
    try simp only [Act.put, List.setIfInBounds_toArray, List.set_cons_zero, List.set_cons_succ]
    refine skiH 10 (h := ?_)
    try simp only [Act.put, List.setIfInBounds_toArray, List.set_cons_zero, List.set_cons_succ]
    refine skiH 11 (h := ?_)
    try simp only [Act.put, List.setIfInBounds_toArray, List.set_cons_zero, List.set_cons_succ]
    refine skiH 12 (h := ?_)
    try simp only [Act.put, List.setIfInBounds_toArray, List.set_cons_zero, List.set_cons_succ]
    refine skiH 13 (h := ?_)
    try simp only [Act.put, List.setIfInBounds_toArray, List.set_cons_zero, List.set_cons_succ]
    refine skiH 14 (h := ?_)
    try simp only [Act.put, List.setIfInBounds_toArray, List.set_cons_zero, List.set_cons_succ]
    refine skiH 15 (h := ?_)
    try simp only [Act.put, List.setIfInBounds_toArray, List.set_cons_zero, List.set_cons_succ]
    refine skiH 16 (h := ?_)
    try simp only [Act.put, List.setIfInBounds_toArray, List.set_cons_zero, List.set_cons_succ]
    refine skiH 17 (h := ?_)
    try simp only [Act.put, List.setIfInBounds_toArray, List.set_cons_zero, List.set_cons_succ]
    refine skiH 18 (h := ?_)
    try simp only [Act.put, List.setIfInBounds_toArray, List.set_cons_zero, List.set_cons_succ]
    refine takH 19 (h := ?_)
    try simp only [Act.put, List.setIfInBounds_toArray, List.set_cons_zero, List.set_cons_succ]
    refine takH 20 (h := ?_)
    try simp only [Act.put, List.setIfInBounds_toArray, List.set_cons_zero, List.set_cons_succ]
    refine skiH 21 (h := ?_)
    try simp only [Act.put, List.setIfInBounds_toArray, List.set_cons_zero, List.set_cons_succ]
    refine skiH 22 (h := ?_)
    try simp only [Act.put, List.setIfInBounds_toArray, List.set_cons_zero, List.set_cons_succ]
    refine skiH 23 (h := ?_)
    try simp only [Act.put, List.setIfInBounds_toArray, List.set_cons_zero, List.set_cons_succ]
    refine skiH 24 (h := ?_)
    try simp only [Act.put, List.setIfInBounds_toArray, List.set_cons_zero, List.set_cons_succ]
    refine skiH 25 (h := ?_)
    try simp only [Act.put, List.setIfInBounds_toArray, List.set_cons_zero, List.set_cons_succ]
    refine skiH 26 (h := ?_)
    try simp only [Act.put, List.setIfInBounds_toArray, List.set_cons_zero, List.set_cons_succ]
    refine skiH 27 (h := ?_)
    try simp only [Act.put, List.setIfInBounds_toArray, List.set_cons_zero, List.set_cons_succ]
    refine skiH 28 (h := ?_)
    try simp only [Act.put, List.setIfInBounds_toArray, List.set_cons_zero, List.set_cons_succ]
    refine skiH 29 (h := ?_)
    try simp only [Act.put, List.setIfInBounds_toArray, List.set_cons_zero, List.set_cons_succ]
    refine takH 30 (h := ?_)
    try simp only [Act.put, List.setIfInBounds_toArray, List.set_cons_zero, List.set_cons_succ]
    refine takH 31 (h := ?_)
    try simp only [Act.put, List.setIfInBounds_toArray, List.set_cons_zero, List.set_cons_succ]
    refine skiH 32 (h := ?_)
    try simp only [Act.put, List.setIfInBounds_toArray, List.set_cons_zero, List.set_cons_succ]
    refine skiH 33 (h := ?_)
    try simp only [Act.put, List.setIfInBounds_toArray, List.set_cons_zero, List.set_cons_succ]
    refine skiH 34 (h := ?_)
    try simp only [Act.put, List.setIfInBounds_toArray, List.set_cons_zero, List.set_cons_succ]
    refine skiH 35 (h := ?_)
    try simp only [Act.put, List.setIfInBounds_toArray, List.set_cons_zero, List.set_cons_succ]
    refine skiH 36 (h := ?_)
    try simp only [Act.put, List.setIfInBounds_toArray, List.set_cons_zero, List.set_cons_succ]
    refine skiH 37 (h := ?_)
    try simp only [Act.put, List.setIfInBounds_toArray, List.set_cons_zero, List.set_cons_succ]
    refine skiH 38 (h := ?_)
    try simp only [Act.put, List.setIfInBounds_toArray, List.set_cons_zero, List.set_cons_succ]
    refine skiH 39 (h := ?_)
    try simp only [Act.put, List.setIfInBounds_toArray, List.set_cons_zero, List.set_cons_succ]
    refine skiH 40 (h := ?_)
    try simp only [Act.put, List.setIfInBounds_toArray, List.set_cons_zero, List.set_cons_succ]
    refine takH 41 (h := ?_)
    try simp only [Act.put, List.setIfInBounds_toArray, List.set_cons_zero, List.set_cons_succ]
    refine takH 42 (h := ?_)
    try simp only [Act.put, List.setIfInBounds_toArray, List.set_cons_zero, List.set_cons_succ]
    refine skiH 43 (h := ?_)
    try simp only [Act.put, List.setIfInBounds_toArray, List.set_cons_zero, List.set_cons_succ]
    refine skiH 44 (h := ?_)
    try simp only [Act.put, List.setIfInBounds_toArray, List.set_cons_zero, List.set_cons_succ]
    refine skiH 45 (h := ?_)
    try simp only [Act.put, List.setIfInBounds_toArray, List.set_cons_zero, List.set_cons_succ]
    refine skiH 46 (h := ?_)
    try simp only [Act.put, List.setIfInBounds_toArray, List.set_cons_zero, List.set_cons_succ]
    refine skiH 47 (h := ?_)
    try simp only [Act.put, List.setIfInBounds_toArray, List.set_cons_zero, List.set_cons_succ]
    refine takH 48 (h := ?_)
    try simp only [Act.put, List.setIfInBounds_toArray, List.set_cons_zero, List.set_cons_succ]
    refine takH 49 (h := ?_)
    try simp only [Act.put, List.setIfInBounds_toArray, List.set_cons_zero, List.set_cons_succ]
    refine wpAnyH_done (by kernel_rfl) ?_ _
    go_wp2
    go_ret
    exact ⟨ret_bool (by rw [VV.out, decide_eq_false hcc]; rfl), BW⟩
end Go.Proofs.YtkbekojnmdgdgaaGreatDoor
/- FlRun -/
namespace Go.Proofs.YtkbekojnmdgdgaaGreatDoor
open Go.RowKit Go.Maps
set_option maxRecDepth 20000
set_option maxHeartbeats 4000000 in
theorem run_any {w : World} {g : Nat} {a : FAt} {s : Fw.S} (h : FPM w g a s) (hS : Sound s) (id : Int) (hid : inI id) :
    Calls Tryz.prog 15 #[.pointer (some ⟨g, 0, none⟩), .int .i64 id] w fun e w' => ∃ p, e = .returned (.tuple #[rv p (Fw.runV s id).1, .string (Fw.runV s id).2.1, .bool (Fw.runV s id).2.2]) ∧ Hid (RunO w' (since w) p (Fw.runV s id).1) ∧ Hid (Below w.heap.size w w') := by
  obtain ⟨m, hm⟩ : ∃ m, m = s.runs.length := ⟨_, rfl⟩
  have HM := Lib.hid hm
  have hm9 : m ≤ 64 := by rw [hm]; exact h.rm
  have V : Hid (Fw.runV s id = if 1 ≤ id ∧ id ≤ (m : Int) then ((s.runs.getD (id - 1).toNat (Rn.r0, ⟨#[]⟩)).1, (s.runs.getD (id - 1).toNat (Rn.r0, ⟨#[]⟩)).2, true) else (Rn.r0, ⟨#[]⟩, false)) := Lib.hid (by rw [hm]; rfl)
  generalize Fw.runV s id = v at *
  obtain ⟨w1, hw1⟩ : ∃ w1, w1 = w.alloc (.cells #[.slice none 0 0, .int .i64 0, .slice none 0 0, .slice none 0 0] 41) := ⟨_, rfl⟩
  have B1 : Hid (Below w.heap.size w w1) := Lib.hid (by rw [hw1]; exact (Below.refl _ _).alloc (Nat.le_refl _) _)
  have Z1 : Hid (w1.heap[w.heap.size]? = some (.cells #[.slice none 0 0, .int .i64 0, .slice none 0 0, .slice none 0 0] 41 (0, 0))) := Lib.hid (by rw [hw1]; exact heap_alloc_new _ _)
  have H := Lib.hid h
  have H1 := Lib.hid (h.on B1.out)
  have SS := Lib.hid hS
  obtain ⟨⟨-, -, c2, c3, -⟩, -⟩ := H1.out.cells
  rw [← hm] at c2 c3
  obtain ⟨⟨z0, z1, z2, z3⟩, f0, f1, f2, f3⟩ := obj4 Z1.out
  obtain ⟨i0, i1⟩ := hid
  clear h hS hm
  have NO : ¬ (1 ≤ id ∧ id ≤ (m : Int)) → v = (Rn.r0, ⟨#[]⟩, false) := fun hn => by rw [V.out, if_neg hn]
  have ZR : Hid (∃ W, W = S4 w1 w.heap.size (.slice none 0 0) (.int .i64 0) (.slice none 0 0) (.slice none 0 0)) := Lib.hid ⟨_, rfl⟩
  have DZ := S4.at_ Z1.out (.slice none 0 0) (.int .i64 0) (.slice none 0 0) (.slice none 0 0)
  obtain ⟨⟨d0, d1, d2, d3⟩, -⟩ := obj4 DZ
  have BZ : Hid (Below w.heap.size w (S4 w1 w.heap.size (.slice none 0 0) (.int .i64 0) (.slice none 0 0) (.slice none 0 0))) := Lib.hid (S4.below B1.out (Nat.le_refl _) _ _ _ _)
  by_cases h1 : id < 1
  · have R : Hid (v = (Rn.r0, ⟨#[]⟩, false)) := Lib.hid (NO (by omega))
    clear NO V c2 c3 DZ ZR
    go_enter Tryz.func15, Tryz.ntmps15
    go_upto_region 1 with (fail)
    rw [← hw1]
    clear hw1
    go_wp2
    rw [S4.lit]
    refine bodyPost_ret (v := .tuple #[.agg #[.slice none 0 0, .int .i64 0, .slice none 0 0, .slice none 0 0], .string ⟨#[]⟩, .bool false]) (by simp [results, Tryz.results15, go_sem, d0, d1, d2, d3]) rfl ?_
    rw [R.out]
    exact ⟨at0, rfl, Lib.hid (run0_o _ _), BZ⟩
  by_cases h2 : (m : Int) < id
  · have R : Hid (v = (Rn.r0, ⟨#[]⟩, false)) := Lib.hid (NO (by omega))
    clear NO V c3 DZ ZR
    go_enter Tryz.func15, Tryz.ntmps15
    go_upto_region 1 with (fail)
    rw [← hw1]
    clear hw1
    go_wp2
    rw [S4.lit]
    refine bodyPost_ret (v := .tuple #[.agg #[.slice none 0 0, .int .i64 0, .slice none 0 0, .slice none 0 0], .string ⟨#[]⟩, .bool false]) (by simp [results, Tryz.results15, go_sem, d0, d1, d2, d3]) rfl ?_
    rw [R.out]
    exact ⟨at0, rfl, Lib.hid (run0_o _ _), BZ⟩
  obtain ⟨k, rfl⟩ : ∃ k : Nat, id = (k : Int) + 1 := ⟨(id - 1).toNat, by omega⟩
  have hkm : k < m := by omega
  have HK : Hid (k < s.runs.length) := Lib.hid (by rw [← HM.out]; exact hkm)
  have R : Hid (v = (rAt s.runs k, (s.runs[k]'HK.out).2, true)) := Lib.hid (by
    rw [V.out, if_pos (by omega), show ((k : Int) + 1 - 1).toNat = k by omega, getD_at HK.out, rAt_get HK.out])
  obtain ⟨b, hA, y0, y1, y2, y3⟩ := H1.out.runC HK.out
  obtain ⟨b2, hF, -, hb2⟩ := H1.out.of.shape (by rw [List.length_map]; have := HK.out; omega)
  have hof := H1.out.of
  rw [hF] at hof c3
  have o0 := ofV_cell hof HK.out
  rw [hA] at c2
  have CC := Lib.hid (fun W (hW : Below w1.heap.size w1 W) => copyOf_p (a.f k) (rAt s.runs k) (by rw [rAt_get HK.out]; exact SS.out.bd _ (List.getElem_mem _)) W a.Q ((H1.out.inner k HK.out).on hW))
  clear NO V DZ ZR d0 d1 d2 d3 BZ h1 h2 hof hb2
  generalize (s.runs[k]'HK.out).2 = na at *
  generalize rAt s.runs k = r at *
  generalize a.f k = p at *
  unfold rv at CC
  obtain ⟨an, han⟩ : ∃ z, z = r.d.length := ⟨_, rfl⟩
  obtain ⟨st, hst⟩ : ∃ z, z = r.st := ⟨_, rfl⟩
  obtain ⟨tn, htn⟩ : ∃ z, z = r.ts.length := ⟨_, rfl⟩
  obtain ⟨sn, hsn⟩ : ∃ z, z = r.sg.length := ⟨_, rfl⟩
  have RL : Hid (r.d.length = an ∧ r.st = st ∧ r.ts.length = tn ∧ r.sg.length = sn) := Lib.hid ⟨han.symm, hst.symm, htn.symm, hsn.symm⟩
  rw [← han] at y0 CC
  rw [← hst] at y1 CC
  rw [← htn] at y2 CC
  rw [← hsn] at y3 CC
  clear han hst htn hsn
  have hk' : (k : Int) < (m : Int) := by omega
  have hkw : IntKind.i64.wrap (k : Int) = (k : Int) := IntWalk.i64_in _ (by omega)
  have hge : ¬ (k : Int) + 1 < 1 := by omega
  have hle : ¬ (m : Int) < (k : Int) + 1 := by omega
  have SA : Hid (∀ W, Below w1.heap.size w1 W → W.cell? ⟨g, 2, none⟩ = some (.slice (some ⟨b, 0, none⟩) m a.cr) ∧ W.cell? ⟨g, 3, none⟩ = some (.slice (some ⟨b2, 0, none⟩) m a.cf) ∧ (W.cell? ⟨b, k * 4, none⟩ = some (.slice p.A an p.ca) ∧ W.cell? ⟨b, k * 4 + 1, none⟩ = some (.int .i64 st) ∧ W.cell? ⟨b, k * 4 + 2, none⟩ = some (.slice p.T tn p.ct) ∧ W.cell? ⟨b, k * 4 + 3, none⟩ = some (.slice p.S sn p.cs)) ∧ W.cell? ⟨b2, k, none⟩ = some (.string na)) := Lib.hid fun W hW => by
    have hc : ∀ {bb o : Nat} {u : Value}, w1.cell? ⟨bb, o, none⟩ = some u → W.cell? ⟨bb, o, none⟩ = some u := fun h => (hW.cell (block_lt h)).trans h
    exact ⟨hc c2, hc c3, ⟨hc y0, hc y1, hc y2, hc y3⟩, hc o0⟩
  have AW : Hid (Below w1.heap.size w1 w1) := Lib.hid (Below.refl _ _)
  have NB : Hid (g ≠ w.heap.size ∧ b ≠ w.heap.size ∧ b2 ≠ w.heap.size) := Lib.hid (by
    have h1 := lt_of_block H.out.obj
    have h2 := H.out.lt b (.inl (.inr (.inr (.inl ⟨_, hA, rfl⟩))))
    have h3 := H.out.lt b2 (.inl (.inr (.inr (.inr (.inl ⟨_, hF, rfl⟩)))))
    exact ⟨by omega, by omega, by omega⟩)
  clear hA hF y0 y1 y2 y3 o0
  go_enter Tryz.func15, Tryz.ntmps15
  go_upto_region 1 with (fail)
  rw [← hw1]
  clear hw1
  go_upto_region 3 with (fail)
  clear c2 c3 z0 z1 z2 z3 f0 f1 f2 f3
  refine wp_region_held_drew (S := (fun w' => w'.cell? ⟨g, 2, none⟩ = some (.slice (some ⟨b, 0, none⟩) m a.cr) ∧ w'.cell? ⟨g, 3, none⟩ = some (.slice (some ⟨b2, 0, none⟩) m a.cf) ∧ (w'.cell? ⟨b, k * 4, none⟩ = some (.slice p.A an p.ca) ∧ w'.cell? ⟨b, k * 4 + 1, none⟩ = some (.int .i64 st) ∧ w'.cell? ⟨b, k * 4 + 2, none⟩ = some (.slice p.T tn p.ct) ∧ w'.cell? ⟨b, k * 4 + 3, none⟩ = some (.slice p.S sn p.cs)) ∧ w'.cell? ⟨b2, k, none⟩ = some (.string na))) (by kernel_rfl) ?hS1001 (fun hHeld => ?_)
  case hS1001 => exact (SA.out _ AW.out.drew)
  refine takH 0 (h := ?_)
  try simp only [Act.put, List.setIfInBounds_toArray, List.set_cons_zero, List.set_cons_succ]
  refine takH 1 (h := ?_)
  try simp only [Act.put, List.setIfInBounds_toArray, List.set_cons_zero, List.set_cons_succ]
  refine takH 2 (h := ?_)
  try simp only [Act.put, List.setIfInBounds_toArray, List.set_cons_zero, List.set_cons_succ]
  refine takH 3 (h := ?_)
  try simp only [Act.put, List.setIfInBounds_toArray, List.set_cons_zero, List.set_cons_succ]
  refine takH 4 (h := ?_)
  try simp only [Act.put, List.setIfInBounds_toArray, List.set_cons_zero, List.set_cons_succ]
  refine takH 5 (h := ?_)
  try simp only [Act.put, List.setIfInBounds_toArray, List.set_cons_zero, List.set_cons_succ]
  refine takH 6 (h := ?_)
  try simp only [Act.put, List.setIfInBounds_toArray, List.set_cons_zero, List.set_cons_succ]
  refine takH 7 (h := ?_)
  try simp only [Act.put, List.setIfInBounds_toArray, List.set_cons_zero, List.set_cons_succ]
  refine takH 9 (h := ?_)
  try simp only [Act.put, List.setIfInBounds_toArray, List.set_cons_zero, List.set_cons_succ]
  refine takH 10 (h := ?_)
  try simp only [Act.put, List.setIfInBounds_toArray, List.set_cons_zero, List.set_cons_succ]
  refine takH 11 (h := ?_)
  try simp only [Act.put, List.setIfInBounds_toArray, List.set_cons_zero, List.set_cons_succ]
  refine takH 12 (h := ?_)
  try simp only [Act.put, List.setIfInBounds_toArray, List.set_cons_zero, List.set_cons_succ]
  refine takH 13 (h := ?_)
  try simp only [Act.put, List.setIfInBounds_toArray, List.set_cons_zero, List.set_cons_succ]
  refine takH 14 (h := ?_)
  try simp only [Act.put, List.setIfInBounds_toArray, List.set_cons_zero, List.set_cons_succ]
  refine takH 15 (h := ?_)
  try simp only [Act.put, List.setIfInBounds_toArray, List.set_cons_zero, List.set_cons_succ]
  refine takH 16 (h := ?_)
  try simp only [Act.put, List.setIfInBounds_toArray, List.set_cons_zero, List.set_cons_succ]
  refine wpAnyH_ready (rs := [8]) (by kernel_rfl) (by simp) ?_
  refine AllReadyH.cons (o := ?o1002) ?hi1002 (fun K hK => ?_) AllReadyH.nil
  case hi1002 => (simp only [List.getElem?_toArray, List.getElem?_cons_zero, List.getElem?_cons_succ]; exact rfl)
  (go_simp; go_at_call 35; (with_reducible refine (CC.out _ AW.out.drew).mono ?_); rintro e w2 ⟨q, rfl, o2, b2'⟩; have B2 : Hid (Below w1.heap.size w1 w2) := Lib.hid (AW.out.drew.trans (b2'.out.mono AW.out.drew.size)); try dsimp only)
  refine hK.out _ _ ?_ (fun hHeld => ?_)
  · exact SA.out _ B2.out
  clear hK K
  try simp only [Act.put, List.setIfInBounds_toArray, List.set_cons_zero, List.set_cons_succ]
  have Z2 : Hid (w2.heap[w.heap.size]? = some (.cells #[.slice none 0 0, .int .i64 0, .slice none 0 0, .slice none 0 0] 41 (0, 0))) := Lib.hid ((B2.out.block _ (lt_of_block Z1.out)).trans Z1.out)
  obtain ⟨⟨z0, z1, z2, z3⟩, f0, f1, f2, f3⟩ := obj4 Z2.out
  have KS : Hid (∀ W : World, (∀ i, i ≠ w.heap.size → W.heap[i]? = w2.heap[i]?) → W.cell? ⟨g, 2, none⟩ = some (.slice (some ⟨b, 0, none⟩) m a.cr) ∧ W.cell? ⟨g, 3, none⟩ = some (.slice (some ⟨b2, 0, none⟩) m a.cf) ∧ (W.cell? ⟨b, k * 4, none⟩ = some (.slice p.A an p.ca) ∧ W.cell? ⟨b, k * 4 + 1, none⟩ = some (.int .i64 st) ∧ W.cell? ⟨b, k * 4 + 2, none⟩ = some (.slice p.T tn p.ct) ∧ W.cell? ⟨b, k * 4 + 3, none⟩ = some (.slice p.S sn p.cs)) ∧ W.cell? ⟨b2, k, none⟩ = some (.string na)) := Lib.hid fun W hW => by
    obtain ⟨q0, q1, ⟨q2, q3, q4, q5⟩, q6⟩ := SA.out w2 B2.out
    have n1 := hW g NB.out.1
    have n2 := hW b NB.out.2.1
    have n3 := hW b2 NB.out.2.2
    exact ⟨(World.cell?_of_block (w := w2) n1).trans q0, (World.cell?_of_block (w := w2) n1).trans q1, ⟨(World.cell?_of_block (w := w2) n2).trans q2, (World.cell?_of_block (w := w2) n2).trans q3, (World.cell?_of_block (w := w2) n2).trans q4, (World.cell?_of_block (w := w2) n2).trans q5⟩, (World.cell?_of_block (w := w2) n3).trans q6⟩
  refine wpAnyH_ready (rs := [17]) (by kernel_rfl) (by simp) ?_
  refine AllReadyH.cons (o := ?o1003) ?hi1003 (fun K hK => ?_) AllReadyH.nil
  case hi1003 => (simp only [List.getElem?_toArray, List.getElem?_cons_zero, List.getElem?_cons_succ]; exact rfl)
  go_simp
  refine hK.out _ _ ?_ (fun hHeld => ?_)
  · exact KS.out _ fun i hi => S4.else_ w2 w.heap.size _ _ _ _ hi
  clear hK K
  try simp only [Act.put, List.setIfInBounds_toArray, List.set_cons_zero, List.set_cons_succ]
  rw [S4.lit]
  have D4 := S4.at_ Z2.out (.slice q.A an q.ca) (.int .i64 st) (.slice q.T tn q.ct) (.slice q.S sn q.cs)
  have BF : Hid (Below w.heap.size w (S4 w2 w.heap.size (.slice q.A an q.ca) (.int .i64 st) (.slice q.T tn q.ct) (.slice q.S sn q.cs))) := Lib.hid (S4.below (B1.out.trans (B2.out.mono B1.out.size)) (Nat.le_refl _) _ _ _ _)
  have OF : Hid (RunO (S4 w2 w.heap.size (.slice q.A an q.ca) (.int .i64 st) (.slice q.T tn q.ct) (.slice q.S sn q.cs)) (since w) q r) := Lib.hid ((o2.out.runO.keep (Nat.le_of_eq (S4.size_ _ _ _ _ _ _).symm) fun b hb _ => S4.else_ _ _ _ _ _ _ (by have h1 : w1.heap.size ≤ b := hb; have h2 := lt_of_block Z1.out; omega)).imp fun b _ hb => by have h1 : w1.heap.size ≤ b := hb; have h2 := lt_of_block Z1.out; unfold since; omega)
  obtain ⟨⟨d0, d1, d2, d3⟩, -⟩ := obj4 D4
  have KF : Hid (∀ i, i ≠ w.heap.size → (S4 w2 w.heap.size (.slice q.A an q.ca) (.int .i64 st) (.slice q.T tn q.ct) (.slice q.S sn q.cs)).heap[i]? = w2.heap[i]?) := Lib.hid fun i hi => S4.else_ w2 w.heap.size _ _ _ _ hi
  clear D4 z0 z1 z2 z3 f0 f1 f2 f3
  generalize S4 w2 w.heap.size (.slice q.A an q.ca) (.int .i64 st) (.slice q.T tn q.ct) (.slice q.S sn q.cs) = wf at *
  refine wpAnyH_ready (rs := [18]) (by kernel_rfl) (by simp) ?_
  refine AllReadyH.cons (o := ?o1004) ?hi1004 (fun K hK => ?_) AllReadyH.nil
  case hi1004 => (simp only [List.getElem?_toArray, List.getElem?_cons_zero, List.getElem?_cons_succ]; exact rfl)
  go_simp
  refine hK.out _ _ ?_ (fun hHeld => ?_)
  · exact KS.out _ KF.out
  clear hK K
  try simp only [Act.put, List.setIfInBounds_toArray, List.set_cons_zero, List.set_cons_succ]
  refine wpAnyH_ready (rs := [19]) (by kernel_rfl) (by simp) ?_
  refine AllReadyH.cons (o := ?o1005) ?hi1005 (fun K hK => ?_) AllReadyH.nil
  case hi1005 => (simp only [List.getElem?_toArray, List.getElem?_cons_zero, List.getElem?_cons_succ]; exact rfl)
  go_simp
  refine hK.out _ _ ?_ (fun hHeld => ?_)
  · exact KS.out _ KF.out
  clear hK K
  try simp only [Act.put, List.setIfInBounds_toArray, List.set_cons_zero, List.set_cons_succ]
  refine wpAnyH_done (by kernel_rfl) ?_ _
  go_wp2
  refine bodyPost_ret (v := .tuple #[.agg #[.slice q.A an q.ca, .int .i64 st, .slice q.T tn q.ct, .slice q.S sn q.cs], .string na, .bool true]) (by simp [results, Tryz.results15, go_sem, d0, d1, d2, d3]) rfl ?_
  rw [R.out]
  exact ⟨q, by unfold rv; rw [RL.out.1, RL.out.2.1, RL.out.2.2.1, RL.out.2.2.2], OF, BF⟩
end Go.Proofs.YtkbekojnmdgdgaaGreatDoor
