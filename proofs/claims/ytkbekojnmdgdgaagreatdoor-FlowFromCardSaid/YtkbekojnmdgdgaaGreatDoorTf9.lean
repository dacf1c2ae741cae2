/-
  Part 9 of the texts behind the law: TLastOp, TLastPath, THeldTake.
-/
import Derived.Deep.RegionHeld3
/- LastOp -/
namespace Go.Proofs.YtkbekojnmdgdgaaGreatDoor
open Go
section
variable {P : Program} {ops : Array Oper} {Q : Exit → Act → World → Prop} {md : Region.Mode} {S : World → Prop} {st : Nat}
def wpAnyC (P : Program) (md : Region.Mode) (ops : Array Oper) (Q : Exit → Act → World → Prop) (S : World → Prop) (st : Nat) : Nat → Array Bool → Act → World → Prop
 | 0, listed, a, w => Region.ready md ops listed = [] ∧ Q .normal a w
 | fuel + 1, listed, a, w =>
  (Region.ready md ops listed = [] → Q .normal a w) ∧
  ∀ i ∈ Region.ready md ops listed, wpOp P ops Q i (fun a' w' => ((listed.setIfInBounds i true).getD st true = false → S w') ∧ wpAnyC P md ops Q S st fuel (listed.setIfInBounds i true) a' w') a w
theorem wpAny_of_C : ∀ (fuel : Nat) (listed : Array Bool) (a : Act) (w : World), wpAnyC P md ops Q S st fuel listed a w → wpAny P md ops Q fuel listed a w
 | 0, _, _, _, h => h
 | fuel + 1, _, _, _, h => ⟨h.1, fun i hi => wpOp_mono (fun a' w' h' => wpAny_of_C fuel _ a' w' h'.2) (h.2 i hi)⟩
def waitsOn (md : Region.Mode) (ops : Array Oper) (st i : Nat) : Bool := ((ops[st]?).map (·.after.toList.any fun e => e.on == i && Region.binds md e)).getD false
theorem waits_ready {i : Nat} (h : waitsOn md ops st i = true) {listed : Array Bool} (hi : listed.getD i true = false) : st ∉ Region.ready md ops listed := by
 intro hr
 obtain ⟨_, o, ho, hall⟩ := mem_ready.1 hr
 unfold waitsOn at h
 rw [ho] at h
 simp only [Option.map_some, Option.getD_some, List.any_eq_true, Bool.and_eq_true, beq_iff_eq] at h
 obtain ⟨e, he, h1, h2⟩ := h
 have h3 := hall e (Array.mem_toList_iff.1 he) h2
 rw [h1] at h3
 rcases Nat.lt_or_ge i listed.size with h' | h'
 ·simp [h'] at hi h3; rw [hi] at h3; cases h3
 ·simp [Array.getElem?_eq_none h'] at h3
theorem wpAnyC_first {i : Nat} {oi : Oper} {v : Value} (hi : ops[i]? = some oi) (hsel : ∀ (j : Nat) (o : Oper) cs b, ops[j]? = some o → o.op ≠ .select cs b)
  (hQ : ∀ c a w, Q (.panic c) (a.put oi.dst v) w → Q (.panic c) a w) (hw : waitsOn md ops st i = true) (hne : i ≠ st) :
  ∀ (fuel : Nat) (listed : Array Bool) (a : Act) (w : World),
   (∀ j oj, ops[j]? = some oj → j ≠ i → listed.getD j true = false → (∀ e ∈ oj.after, Region.binds md e = true → e.on ≠ i) → oi.apart ops oj = true) →
   listed.getD st true = false → i ∈ Region.ready md ops listed → YieldsIf P ops S oi v a → S w →
   wpAnyC P md ops Q S st fuel (listed.setIfInBounds i true) (a.put oi.dst v) w → wpAnyC P md ops Q S st (fuel + 1) listed a w := by
 intro fuel
 induction fuel with
 | zero =>
  intro listed a w _ hu hr hy hS H
  refine ⟨fun h => (by rw [h] at hr; cases hr), fun j hj => ?_⟩
  by_cases hji : j = i
  ·subst hji; exact hy.wpOp hi hS ⟨fun _ => hS, H⟩
  ·have := ready_mono hj hji
   rw [H.1] at this
   cases this
 | succ fuel ih =>
  intro listed a w hfree hu hr hy hS H
  refine ⟨fun h => (by rw [h] at hr; cases hr), fun j hj => ?_⟩
  by_cases hji : j = i
  ·subst hji; exact hy.wpOp hi hS ⟨fun _ => hS, H⟩
  ·have hil : listed.getD i true = false := (mem_ready.1 hr).1
   have hjs : j ≠ st := fun e => waits_ready hw hil (e ▸ hj)
   have h1 := H.2 j (ready_mono hj hji)
   obtain ⟨hjun, oj, hoj, hall⟩ := mem_ready.1 hj
   have hnot : ∀ e ∈ oj.after, Region.binds md e = true → e.on ≠ i := fun e he hb heq => by
    have h1 := hall e he hb
    have h0 := (mem_ready.1 hr).1
    rw [heq] at h1
    rcases Nat.lt_or_ge i listed.size with h' | h'
    ·simp [h'] at h0 h1; rw [h0] at h1; cases h1
    ·simp [Array.getElem?_eq_none h'] at h1
   have h2 := wpOp_putIf hoj (hfree j oj hoj hji hjun hnot) (fun cs b => hsel i oi cs b hi) (fun cs b => hsel j oj cs b hoj) hQ hy h1
   have hfree' : ∀ k ok, ops[k]? = some ok → k ≠ i → (listed.setIfInBounds j true).getD k true = false →
     (∀ e ∈ ok.after, Region.binds md e = true → e.on ≠ i) → oi.apart ops ok = true := fun k ok hk hki hun hno => by
    refine hfree k ok hk hki ?_ hno
    by_cases hjk : j = k
    ·subst hjk; exact hjun
    ·rw [getD_set_ne true hjk] at hun; exact hun
   have hu' : (listed.setIfInBounds j true).getD st true = false := by rw [getD_set_ne true hjs]; exact hu
   have hu2 : ((listed.setIfInBounds i true).setIfInBounds j true).getD st true = false := by rw [getD_set_ne true hjs, getD_set_ne true hne]; exact hu
   refine wpOp_mono (fun a' w' h3 => ⟨fun _ => h3.2.1 hu2, ih (listed.setIfInBounds j true) a' w' hfree' hu' (ready_mono hr (Ne.symm hji)) h3.1 (h3.2.1 hu2) ?_⟩) h2
   rw [Array.setIfInBounds_comm _ _ hji]
   exact h3.2.2
theorem wpAnyC_take {i : Nat} {oi : Oper} {v : Value} {fuel : Nat} {listed : Array Bool} {a : Act} {w : World} (hi : ops[i]? = some oi)
  (hs : Region.noSelect ops = true) (hf : Region.free md ops listed i = true) (hr : (Region.ready md ops listed).contains i = true)
  (hQ : ∀ c a w, Q (.panic c) (a.put oi.dst v) w → Q (.panic c) a w) (hw : waitsOn md ops st i = true) (hne : i ≠ st) (hu : listed.getD st true = false) (hy : YieldsIf P ops S oi v a) (hS : S w)
  (h : wpAnyC P md ops Q S st fuel (listed.setIfInBounds i true) (a.put oi.dst v) w) : wpAnyC P md ops Q S st (fuel + 1) listed a w :=
 wpAnyC_first hi (Region.noSelect_spec hs) hQ hw hne fuel listed a w (Region.free_spec hi hf) hu (by simpa using hr) hy hS h
theorem wpAnyC_one {i : Nat} {oi : Oper} {fuel : Nat} {listed : Array Bool} {a : Act} {w : World} (hi : ops[i]? = some oi) (hr : Region.ready md ops listed = [i])
  (h : ∀ K' : Act → World → Prop, Shut (∀ a w, ((listed.setIfInBounds i true).getD st true = false → S w) → (((listed.setIfInBounds i true).getD st true = false → S w) → wpAnyC P md ops Q S st fuel (listed.setIfInBounds i true) a w) → K' a w) → if Region.wanted oi (yielded ops a.tmps) = true then Oper.wp P oi a w K' Q else K' (a.put oi.dst undef) w) :
  wpAnyC P md ops Q S st (fuel + 1) listed a w := by
 refine ⟨fun h0 => (by rw [h0] at hr; cases hr), fun j hj => ?_⟩
 rw [hr] at hj
 obtain rfl : j = i := by simpa using hj
 exact wpOp_step hi (fun K' hK => h K' (fun a w hS hW => hK a w ⟨hS, hW hS⟩))
theorem wpAnyC_two {i j : Nat} {oi oj : Oper} {fuel : Nat} {listed : Array Bool} {a : Act} {w : World} (hi : ops[i]? = some oi) (hj : ops[j]? = some oj) (hr : Region.ready md ops listed = [i, j])
  (h : ∀ K' : Act → World → Prop, Shut (∀ a w, ((listed.setIfInBounds i true).getD st true = false → S w) → (((listed.setIfInBounds i true).getD st true = false → S w) → wpAnyC P md ops Q S st fuel (listed.setIfInBounds i true) a w) → K' a w) → if Region.wanted oi (yielded ops a.tmps) = true then Oper.wp P oi a w K' Q else K' (a.put oi.dst undef) w)
  (h2 : ∀ K' : Act → World → Prop, Shut (∀ a w, ((listed.setIfInBounds j true).getD st true = false → S w) → (((listed.setIfInBounds j true).getD st true = false → S w) → wpAnyC P md ops Q S st fuel (listed.setIfInBounds j true) a w) → K' a w) → if Region.wanted oj (yielded ops a.tmps) = true then Oper.wp P oj a w K' Q else K' (a.put oj.dst undef) w) :
  wpAnyC P md ops Q S st (fuel + 1) listed a w := by
 refine ⟨fun h0 => (by rw [h0] at hr; cases hr), fun k hk => ?_⟩
 rw [hr] at hk
 rcases List.mem_cons.1 hk with rfl | hk
 ·exact wpOp_step hi (fun K' hK => h K' (fun a w hS hW => hK a w ⟨hS, hW hS⟩))
 ·obtain rfl : k = j := by simpa using hk
  exact wpOp_step hj (fun K' hK => h2 K' (fun a w hS hW => hK a w ⟨hS, hW hS⟩))
theorem wpAnyC_done {listed : Array Bool} {a : Act} {w : World} (hr : Region.ready md ops listed = []) (h : Q .normal a w) : ∀ fuel, wpAnyC P md ops Q S st fuel listed a w
 | 0 => ⟨hr, h⟩
 | _ + 1 => ⟨fun _ => h, by rw [hr]; simp⟩
theorem wp_region_C {id : Nat} {a : Act} {w : World} (S : World → Prop) (st : Nat) (hm : P.follows .mixedOrders = true) (h : wpAnyC P .any ops Q S st ops.size (Array.replicate ops.size false) a w.drew) : (Code.region id ops true).wp P Q a w :=
 wp_region_any hm (wpAny_of_C _ _ _ _ h)
end
end Go.Proofs.YtkbekojnmdgdgaaGreatDoor
/- LastPath -/
namespace Go.Proofs.YtkbekojnmdgdgaaGreatDoor
open Go
section
variable {P : Program} {ops : Array Oper} {Q : Exit → Act → World → Prop} {md : Region.Mode} {S : World → Prop} {st : Nat}
def waitsPath (md : Region.Mode) (ops : Array Oper) : Nat → List Nat → Nat → Bool
 | st, [], i => waitsOn md ops st i
 | st, j :: r, i => waitsOn md ops st j && waitsPath md ops j r i
theorem path_ready : ∀ {path : List Nat} {st i : Nat}, waitsPath md ops st path i = true → ∀ {listed : Array Bool}, listed.getD i true = false → (∀ j ∈ path, listed.getD j true = false) → st ∉ Region.ready md ops listed ∧ ∀ j ∈ path, j ∉ Region.ready md ops listed
 | [], st, i, h, listed, hi, _ => ⟨waits_ready h hi, fun j hj => by cases hj⟩
 | j :: r, st, i, h, listed, hi, hp => by
  unfold waitsPath at h
  rw [Bool.and_eq_true] at h
  have ih := path_ready h.2 hi fun k hk => hp k (List.mem_cons_of_mem _ hk)
  refine ⟨waits_ready h.1 (hp j (List.mem_cons_self ..)), fun k hk => ?_⟩
  rcases List.mem_cons.1 hk with rfl | hk
  ·exact ih.1
  ·exact ih.2 k hk
theorem wpAnyC_firstP {i : Nat} {oi : Oper} {v : Value} {path : List Nat} (hi : ops[i]? = some oi) (hsel : ∀ (j : Nat) (o : Oper) cs b, ops[j]? = some o → o.op ≠ .select cs b)
  (hQ : ∀ c a w, Q (.panic c) (a.put oi.dst v) w → Q (.panic c) a w) (hw : waitsPath md ops st path i = true) (hne : i ≠ st) :
  ∀ (fuel : Nat) (listed : Array Bool) (a : Act) (w : World),
   (∀ j oj, ops[j]? = some oj → j ≠ i → listed.getD j true = false → (∀ e ∈ oj.after, Region.binds md e = true → e.on ≠ i) → oi.apart ops oj = true) →
   listed.getD st true = false → (∀ j ∈ path, listed.getD j true = false) → i ∈ Region.ready md ops listed → YieldsIf P ops S oi v a → S w →
   wpAnyC P md ops Q S st fuel (listed.setIfInBounds i true) (a.put oi.dst v) w → wpAnyC P md ops Q S st (fuel + 1) listed a w := by
 intro fuel
 induction fuel with
 | zero =>
  intro listed a w _ hu _ hr hy hS H
  refine ⟨fun h => (by rw [h] at hr; cases hr), fun j hj => ?_⟩
  by_cases hji : j = i
  ·subst hji; exact hy.wpOp hi hS ⟨fun _ => hS, H⟩
  ·have := ready_mono hj hji
   rw [H.1] at this
   cases this
 | succ fuel ih =>
  intro listed a w hfree hu hp hr hy hS H
  refine ⟨fun h => (by rw [h] at hr; cases hr), fun j hj => ?_⟩
  by_cases hji : j = i
  ·subst hji; exact hy.wpOp hi hS ⟨fun _ => hS, H⟩
  ·have hil : listed.getD i true = false := (mem_ready.1 hr).1
   have hpr := path_ready hw hil hp
   have hjs : j ≠ st := fun e => hpr.1 (e ▸ hj)
   have h1 := H.2 j (ready_mono hj hji)
   obtain ⟨hjun, oj, hoj, hall⟩ := mem_ready.1 hj
   have hnot : ∀ e ∈ oj.after, Region.binds md e = true → e.on ≠ i := fun e he hb heq => by
    have h1 := hall e he hb
    have h0 := (mem_ready.1 hr).1
    rw [heq] at h1
    rcases Nat.lt_or_ge i listed.size with h' | h'
    ·simp [h'] at h0 h1; rw [h0] at h1; cases h1
    ·simp [Array.getElem?_eq_none h'] at h1
   have h2 := wpOp_putIf hoj (hfree j oj hoj hji hjun hnot) (fun cs b => hsel i oi cs b hi) (fun cs b => hsel j oj cs b hoj) hQ hy h1
   have hfree' : ∀ k ok, ops[k]? = some ok → k ≠ i → (listed.setIfInBounds j true).getD k true = false →
     (∀ e ∈ ok.after, Region.binds md e = true → e.on ≠ i) → oi.apart ops ok = true := fun k ok hk hki hun hno => by
    refine hfree k ok hk hki ?_ hno
    by_cases hjk : j = k
    ·subst hjk; exact hjun
    ·rw [getD_set_ne true hjk] at hun; exact hun
   have hu' : (listed.setIfInBounds j true).getD st true = false := by rw [getD_set_ne true hjs]; exact hu
   have hp' : ∀ k ∈ path, (listed.setIfInBounds j true).getD k true = false := fun k hk => by rw [getD_set_ne true (fun e : j = k => hpr.2 k hk (e ▸ hj))]; exact hp k hk
   have hu2 : ((listed.setIfInBounds i true).setIfInBounds j true).getD st true = false := by rw [getD_set_ne true hjs, getD_set_ne true hne]; exact hu
   refine wpOp_mono (fun a' w' h3 => ⟨fun _ => h3.2.1 hu2, ih (listed.setIfInBounds j true) a' w' hfree' hu' hp' (ready_mono hr (Ne.symm hji)) h3.1 (h3.2.1 hu2) ?_⟩) h2
   rw [Array.setIfInBounds_comm _ _ hji]
   exact h3.2.2
theorem wpAnyC_takeP {i : Nat} {oi : Oper} {v : Value} {path : List Nat} {fuel : Nat} {listed : Array Bool} {a : Act} {w : World} (hi : ops[i]? = some oi)
  (hs : Region.noSelect ops = true) (hf : Region.free md ops listed i = true) (hr : (Region.ready md ops listed).contains i = true)
  (hQ : ∀ c a w, Q (.panic c) (a.put oi.dst v) w → Q (.panic c) a w) (hw : waitsPath md ops st path i = true) (hne : i ≠ st) (hu : listed.getD st true = false) (hp : (path.all fun j => listed.getD j true == false) = true) (hy : YieldsIf P ops S oi v a) (hS : S w)
  (h : wpAnyC P md ops Q S st fuel (listed.setIfInBounds i true) (a.put oi.dst v) w) : wpAnyC P md ops Q S st (fuel + 1) listed a w :=
 wpAnyC_firstP hi (Region.noSelect_spec hs) hQ hw hne fuel listed a w (Region.free_spec hi hf) hu (fun j hj => by have := List.all_eq_true.1 hp j hj; simpa using this) (by simpa using hr) hy hS h
theorem wpAnyC_firstA {i : Nat} {oi : Oper} {v : Value} (hi : ops[i]? = some oi) (hsel : ∀ (j : Nat) (o : Oper) cs b, ops[j]? = some o → o.op ≠ .select cs b)
  (hQ : ∀ c a w, Q (.panic c) (a.put oi.dst v) w → Q (.panic c) a w) (hne : i ≠ st) :
  ∀ (fuel : Nat) (listed : Array Bool) (a : Act) (w : World),
   (∀ j oj, ops[j]? = some oj → j ≠ i → listed.getD j true = false → (∀ e ∈ oj.after, Region.binds md e = true → e.on ≠ i) → oi.apart ops oj = true) →
   i ∈ Region.ready md ops listed → YieldsIf P ops (fun _ => True) oi v a → (listed.getD st true = false → S w) →
   wpAnyC P md ops Q S st fuel (listed.setIfInBounds i true) (a.put oi.dst v) w → wpAnyC P md ops Q S st (fuel + 1) listed a w := by
 intro fuel
 induction fuel with
 | zero =>
  intro listed a w _ hr hy hS H
  refine ⟨fun h => (by rw [h] at hr; cases hr), fun j hj => ?_⟩
  by_cases hji : j = i
  ·subst hji; exact hy.wpOp hi trivial ⟨fun h0 => hS (by rw [getD_set_ne true hne] at h0; exact h0), H⟩
  ·have := ready_mono hj hji
   rw [H.1] at this
   cases this
 | succ fuel ih =>
  intro listed a w hfree hr hy hS H
  refine ⟨fun h => (by rw [h] at hr; cases hr), fun j hj => ?_⟩
  by_cases hji : j = i
  ·subst hji; exact hy.wpOp hi trivial ⟨fun h0 => hS (by rw [getD_set_ne true hne] at h0; exact h0), H⟩
  ·have h1 := H.2 j (ready_mono hj hji)
   obtain ⟨hjun, oj, hoj, hall⟩ := mem_ready.1 hj
   have hnot : ∀ e ∈ oj.after, Region.binds md e = true → e.on ≠ i := fun e he hb heq => by
    have h1 := hall e he hb
    have h0 := (mem_ready.1 hr).1
    rw [heq] at h1
    rcases Nat.lt_or_ge i listed.size with h' | h'
    ·simp [h'] at h0 h1; rw [h0] at h1; cases h1
    ·simp [Array.getElem?_eq_none h'] at h1
   have h2 := wpOp_putIf hoj (hfree j oj hoj hji hjun hnot) (fun cs b => hsel i oi cs b hi) (fun cs b => hsel j oj cs b hoj) hQ hy h1
   have hfree' : ∀ k ok, ops[k]? = some ok → k ≠ i → (listed.setIfInBounds j true).getD k true = false →
     (∀ e ∈ ok.after, Region.binds md e = true → e.on ≠ i) → oi.apart ops ok = true := fun k ok hk hki hun hno => by
    refine hfree k ok hk hki ?_ hno
    by_cases hjk : j = k
    ·subst hjk; exact hjun
    ·rw [getD_set_ne true hjk] at hun; exact hun
   have hc : ((listed.setIfInBounds i true).setIfInBounds j true).getD st true = (listed.setIfInBounds j true).getD st true := by
    rw [Array.setIfInBounds_comm _ _ (Ne.symm hji), getD_set_ne true hne]
   refine wpOp_mono (fun a' w' h3 => ⟨fun h0 => h3.2.1 (by rw [hc]; exact h0), ih (listed.setIfInBounds j true) a' w' hfree' (ready_mono hr (Ne.symm hji)) h3.1 (fun h0 => h3.2.1 (by rw [hc]; exact h0)) ?_⟩) h2
   rw [Array.setIfInBounds_comm _ _ hji]
   exact h3.2.2
theorem wpAnyC_takeA {i : Nat} {oi : Oper} {v : Value} {fuel : Nat} {listed : Array Bool} {a : Act} {w : World} (hi : ops[i]? = some oi)
  (hs : Region.noSelect ops = true) (hf : Region.free md ops listed i = true) (hr : (Region.ready md ops listed).contains i = true)
  (hQ : ∀ c a w, Q (.panic c) (a.put oi.dst v) w → Q (.panic c) a w) (hne : i ≠ st) (hy : YieldsIf P ops (fun _ => True) oi v a) (hS : S w)
  (h : wpAnyC P md ops Q S st fuel (listed.setIfInBounds i true) (a.put oi.dst v) w) : wpAnyC P md ops Q S st (fuel + 1) listed a w :=
 wpAnyC_firstA hi (Region.noSelect_spec hs) hQ hne fuel listed a w (Region.free_spec hi hf) (by simpa using hr) hy (fun _ => hS) h
end
end Go.Proofs.YtkbekojnmdgdgaaGreatDoor
/- HeldTake -/
namespace Go.Proofs.YtkbekojnmdgdgaaGreatDoor
open Go
section
variable {P : Program} {ops : Array Oper} {Q : Exit → Act → World → Prop} {md : Region.Mode} {S : World → Prop} {st : Nat}
theorem takH (i : Nat) {oi : Oper} {v : Value} {fuel : Nat} {listed : Array Bool} {a : Act} {w : World}
  (hi : ops[i]? = some oi := by (simp only [List.getElem?_toArray, List.getElem?_cons_zero, List.getElem?_cons_succ]; exact rfl))
  (hd : (Region.noSelect ops && Region.free md ops listed i && (Region.ready md ops listed).contains i) = true := by kernel_rfl)
  (hQ : ∀ c a w, Q (.panic c) (a.put oi.dst v) w → Q (.panic c) a w := by exact fun _ _ _ h => h)
  (hg : Region.wanted oi (yielded ops a.tmps) = true := by rfl)
  (hy : ∀ w, S w → (execOp a.eval oi).run P w = .ok (.value v) w := by (intro w' hSw; (try dsimp only at hSw); go_simp; try with_reducible rfl))
  (hS : S w := by assumption)
  (h : wpAnyH P md ops Q S fuel (listed.setIfInBounds i true) (a.put oi.dst v) w) : wpAnyH P md ops Q S (fuel + 1) listed a w := by
 simp only [Bool.and_eq_true] at hd
 exact wpAnyH_take hi hd.1.1 hd.1.2 hd.2 hQ (.inl ⟨hg, hy⟩) hS h
theorem takC (i : Nat) {oi : Oper} {v : Value} {fuel : Nat} {listed : Array Bool} {a : Act} {w : World}
  (hi : ops[i]? = some oi := by (simp only [List.getElem?_toArray, List.getElem?_cons_zero, List.getElem?_cons_succ]; exact rfl))
  (hd : (Region.noSelect ops && Region.free md ops listed i && (Region.ready md ops listed).contains i && waitsOn md ops st i && decide (i ≠ st) && listed.getD st true == false) = true := by kernel_rfl)
  (hQ : ∀ c a w, Q (.panic c) (a.put oi.dst v) w → Q (.panic c) a w := by exact fun _ _ _ h => h)
  (hg : Region.wanted oi (yielded ops a.tmps) = true := by rfl)
  (hy : ∀ w, S w → (execOp a.eval oi).run P w = .ok (.value v) w := by (intro w' hSw; (try dsimp only at hSw); go_simp; try with_reducible rfl))
  (hS : S w := by assumption)
  (h : wpAnyC P md ops Q S st fuel (listed.setIfInBounds i true) (a.put oi.dst v) w) : wpAnyC P md ops Q S st (fuel + 1) listed a w := by
 simp only [Bool.and_eq_true, decide_eq_true_eq, beq_iff_eq] at hd
 exact wpAnyC_take hi hd.1.1.1.1.1 hd.1.1.1.1.2 hd.1.1.1.2 hQ hd.1.1.2 hd.1.2 hd.2 (.inl ⟨hg, hy⟩) hS h
theorem takP (path : List Nat) (i : Nat) {oi : Oper} {v : Value} {fuel : Nat} {listed : Array Bool} {a : Act} {w : World}
  (hi : ops[i]? = some oi := by (simp only [List.getElem?_toArray, List.getElem?_cons_zero, List.getElem?_cons_succ]; exact rfl))
  (hd : (Region.noSelect ops && Region.free md ops listed i && (Region.ready md ops listed).contains i && waitsPath md ops st path i && decide (i ≠ st) && listed.getD st true == false && path.all fun j => listed.getD j true == false) = true := by kernel_rfl)
  (hQ : ∀ c a w, Q (.panic c) (a.put oi.dst v) w → Q (.panic c) a w := by exact fun _ _ _ h => h)
  (hg : Region.wanted oi (yielded ops a.tmps) = true := by rfl)
  (hy : ∀ w, S w → (execOp a.eval oi).run P w = .ok (.value v) w := by (intro w' hSw; (try dsimp only at hSw); go_simp; try with_reducible rfl))
  (hS : S w := by assumption)
  (h : wpAnyC P md ops Q S st fuel (listed.setIfInBounds i true) (a.put oi.dst v) w) : wpAnyC P md ops Q S st (fuel + 1) listed a w := by
 rw [Bool.and_eq_true] at hd
 obtain ⟨hd, hp⟩ := hd
 simp only [Bool.and_eq_true, decide_eq_true_eq, beq_iff_eq] at hd
 exact wpAnyC_takeP hi hd.1.1.1.1.1 hd.1.1.1.1.2 hd.1.1.1.2 hQ hd.1.1.2 hd.1.2 hd.2 hp (.inl ⟨hg, hy⟩) hS h
theorem takA (i : Nat) {oi : Oper} {v : Value} {fuel : Nat} {listed : Array Bool} {a : Act} {w : World}
  (hi : ops[i]? = some oi := by (simp only [List.getElem?_toArray, List.getElem?_cons_zero, List.getElem?_cons_succ]; exact rfl))
  (hd : (Region.noSelect ops && Region.free md ops listed i && (Region.ready md ops listed).contains i && decide (i ≠ st)) = true := by kernel_rfl)
  (hQ : ∀ c a w, Q (.panic c) (a.put oi.dst v) w → Q (.panic c) a w := by exact fun _ _ _ h => h)
  (hg : Region.wanted oi (yielded ops a.tmps) = true := by rfl)
  (hy : ∀ w, (execOp a.eval oi).run P w = .ok (.value v) w := by (intro w'; go_simp; try with_reducible rfl))
  (hS : S w := by assumption)
  (h : wpAnyC P md ops Q S st fuel (listed.setIfInBounds i true) (a.put oi.dst v) w) : wpAnyC P md ops Q S st (fuel + 1) listed a w := by
 simp only [Bool.and_eq_true, decide_eq_true_eq] at hd
 exact wpAnyC_takeA hi hd.1.1.1 hd.1.1.2 hd.1.2 hQ hd.2 (.inl ⟨hg, fun w _ => hy w⟩) hS h
end
end Go.Proofs.YtkbekojnmdgdgaaGreatDoor
