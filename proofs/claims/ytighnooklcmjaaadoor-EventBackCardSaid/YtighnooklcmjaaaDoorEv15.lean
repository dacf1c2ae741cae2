/-
  Part 15 of the texts behind the law: EvGetP, EvReadV, EvGetRef.
-/
import Derived.Test.YtighnooklcmjaaaDoorEv14
import Derived.Test.YtighnooklcmjaaaDoorEv12
import Derived.Test.YtighnooklcmjaaaDoorEv13
import Derived.Test.YtighnooklcmjaaaDoorEv7
import Derived.IntWalk
/-
  Reading an event, step by step: the reader, the event that is filled, and their boxes.
-/
namespace Go.Proofs.YtighnooklcmjaaaDoor
open Go.RowKit
namespace Ev
open En
/-- Where the reading stands behind j fields. -/
def rAt (zs : List Int) (j : Nat) : R := ((codes (valM zs false 9)).take j).foldl step (start zs)
theorem rAt_next {zs : List Int} {j : Nat} {c : UInt8} (h : (codes (valM zs false 9))[j]? = some c) : rAt zs (j + 1) = step (rAt zs j) c := by
  unfold rAt
  rw [List.take_add_one, h, List.foldl_append]
  rfl
theorem rAt_all {zs : List Int} {j : Nat} (h : (codes (valM zs false 9)).length ≤ j) : rAt zs j = final zs := by
  unfold rAt final
  rw [List.take_of_length_le h]
theorem valM_in (zs : List Int) (b : Bool) (most : Int) (h0 : 0 ≤ most) (hb : Byte zs) : 0 ≤ valM zs b most ∧ valM zs b most ≤ most := by
  unfold valM
  split
  · next h =>
    unfold okM at h
    simp only [Bool.and_eq_true, decide_eq_true_eq] at h
    exact ⟨(valU_range zs b hb).1, h.1.2⟩
  · exact ⟨Int.le_refl _, h0⟩
theorem valS_size (zs : List Int) (b : Bool) (most : Int) (h0 : 0 ≤ most) : ((valS zs b most).size : Int) ≤ most := by
  unfold valS
  split
  · next h =>
    unfold okS at h
    simp only [Bool.and_eq_true, decide_eq_true_eq] at h
    rw [strOfNums_size, List.length_take]
    omega
  · exact h0
theorem step_in {r : R} {c : UInt8} (h : EvIn r.e) (hb : Byte r.zs) (hn : c = 110 → valU r.zs r.b ≤ 1099511627776) : EvIn (step r c).e := by
  have m64 := valM_in r.zs r.b 64 (by decide) hb
  have s64 := valS_size r.zs r.b 64 (by decide)
  have s900 := valS_size r.zs r.b 900 (by decide)
  have hu := valU_range r.zs r.b hb
  unfold step
  by_cases h1 : c = 114
  · rw [if_pos h1]; exact { h with run := ⟨by show _ ≤ valM _ _ _; omega, by show valM _ _ _ ≤ _; omega⟩ }
  by_cases h2 : c = 116
  · rw [if_neg h1, if_pos h2]; exact { h with task := ⟨by show _ ≤ valM _ _ _; omega, by show valM _ _ _ ≤ _; omega⟩ }
  by_cases h3 : c = 121
  · rw [if_neg h1, if_neg h2, if_pos h3]; exact { h with try_ := ⟨by show _ ≤ valM _ _ _; omega, by show valM _ _ _ ≤ _; omega⟩ }
  by_cases h4 : c = 110
  · rw [if_neg h1, if_neg h2, if_neg h3, if_pos h4]
    have := hn h4
    exact { h with n := ⟨by show _ ≤ valU _ _; omega, by show valU _ _ ≤ _; omega⟩ }
  by_cases h5 : c = 97
  · rw [if_neg h1, if_neg h2, if_neg h3, if_neg h4, if_pos h5]; exact { h with name := by show (valS _ _ _).size ≤ _; omega }
  by_cases h6 : c = 107
  · rw [if_neg h1, if_neg h2, if_neg h3, if_neg h4, if_neg h5, if_pos h6]; exact { h with key := by show (valS _ _ _).size ≤ _; omega }
  · rw [if_neg h1, if_neg h2, if_neg h3, if_neg h4, if_neg h5, if_neg h6]; exact { h with data := by show (valS _ _ _).size ≤ _; omega }
theorem start_in (zs : List Int) (hb : Byte zs) : EvIn (start zs).e := by
  have m := valM_in zs false 9 (by decide) hb
  have z0 : is64 0 := ⟨by decide, by decide⟩
  exact ⟨⟨by show _ ≤ valM _ _ _; omega, by show valM _ _ _ ≤ _; omega⟩, z0, z0, z0, z0, Nat.zero_le _, Nat.zero_le _, Nat.zero_le _⟩
/-- A number beyond the greatest tick: no event. -/
theorem far_bad {zs : List Int} {j : Nat} (h : (codes (valM zs false 9))[j]? = some 110) (hf : 1099511627776 < valU (rAt zs j).zs (rAt zs j).b) : acc zs = false := by
  have hc : codes (valM zs false 9) = [110] ∧ j = 0 := by
    rcases codes_in (valM zs false 9) with e | e | e | e | e | e | e | e | e | e <;> rw [e] at h ⊢ <;> (try simp [codes] at h ⊢)
    all_goals (first | exact h.1 | omega | (rcases j with _ | _ | _ | _ | j <;> simp at h ⊢))
  obtain ⟨h1, rfl⟩ := hc
  have hr : final zs = step (rAt zs 0) 110 := by
    rw [← rAt_all (j := 1) (by rw [h1]; decide), rAt_next (by rw [h1]; rfl)]
  have he : (final zs).e.n = valU (rAt zs 0).zs (rAt zs 0).b := by rw [hr]; rfl
  cases hx : acc zs with
  | false => rfl
  | true =>
    unfold acc at hx
    simp only [Bool.and_eq_true] at hx
    have := (good_iff.1 hx.2.2).fits.n.2
    omega
end Ev
theorem ev_no8 (e : Ev.E) : ∀ (i : Nat) (n : Int), (evc e)[i]? ≠ some (.int .u8 n) := by
  intro i n
  unfold evc
  rcases i with _ | _ | _ | _ | _ | _ | _ | _ | i <;> simp
/-- While an event is read: the result's cell, the reader, the event that is filled. -/
structure GS (w wr : World) (g1 g2 : Nat) (r : Ev.R) : Prop where
  b : Below w.heap.size w wr
  z : wr.heap[w.heap.size]? = some (.cells (evc Ev.zero) 33 (0, 0))
  i : InAt wr 63 g1 r.zs r.b
  e : wr.heap[g2]? = some (.cells (evc r.e) 33 (0, 0))
  n0 : w.heap.size < g1
  n1 : g1 ≠ g2
  n2 : w.heap.size < g2
theorem GS.read {w wr w' : World} {g1 g2 : Nat} {r : Ev.R} {zs : List Int} {b : Bool} (h : GS w wr g1 g2 r) (hp : InPost wr 63 g1 zs b w') : GS w w' g1 g2 ⟨zs, b, r.e⟩ :=
  ⟨h.b.trans (hp.2.below h.b.size (by have := h.n0; omega)), (hp.2.block _ (lt_of_block h.z) (by have := h.n0; omega)).trans h.z, hp.1, (hp.2.block _ (lt_of_block h.e) (Ne.symm h.n1)).trans h.e, h.n0, h.n1, h.n2⟩
theorem GS.store {w wr : World} {g1 g2 : Nat} {r : Ev.R} (h : GS w wr g1 g2 r) {j : Nat} {v : Value} {x : Ev.E} (hx : (evc r.e).setIfInBounds j v = evc x) : GS w (wr.setCell ⟨g2, j, none⟩ v) g1 g2 ⟨r.zs, r.b, x⟩ :=
  ⟨h.b.setCell (p := ⟨g2, j, none⟩) (by have := h.n2; show _ ≤ g2; omega) _, (Below.heap_setCell _ _ _ _ (by have := h.n2; show _ ≠ g2; omega)).trans h.z,
    h.i.keep (But.set _ _ _ _ _) h.e (ev_no8 _) h.n1, by rw [← hx]; exact obj_set h.e v, h.n0, h.n1, h.n2⟩
theorem GS.more {w wr w' : World} {g1 g2 : Nat} {r : Ev.R} (h : GS w wr g1 g2 r) (hb : Below wr.heap.size wr w') : GS w w' g1 g2 r :=
  ⟨h.b.trans (hb.mono h.b.size), (hb.block _ (lt_of_block h.z)).trans h.z, h.i.below hb (Nat.le_refl _), (hb.block _ (lt_of_block h.e)).trans h.e, h.n0, h.n1, h.n2⟩
end Go.Proofs.YtighnooklcmjaaaDoor
/-
  How the program reads an event, in plain words; it accepts just what the reference accepts.
-/
namespace Go.Proofs.YtighnooklcmjaaaDoor.Ev
open En Go.RowKit
def stepP (r : R) (c : UInt8) : R :=
  if c = 114 then ⟨restM r.zs r.b 64, !okM r.zs r.b 64, { r.e with run := valM r.zs r.b 64 }⟩
  else if c = 116 then ⟨restM r.zs r.b 15, !okM r.zs r.b 15, { r.e with task := valM r.zs r.b 15 }⟩
  else if c = 121 then ⟨restM r.zs r.b 9, !okM r.zs r.b 9, { r.e with try_ := valM r.zs r.b 9 }⟩
  else if c = 110 then ⟨restU r.zs r.b, !okU r.zs r.b, { r.e with n := wrap64 (valU r.zs r.b) }⟩
  else if c = 97 then ⟨restS r.zs r.b 16, !okS r.zs r.b 16, { r.e with name := valS r.zs r.b 16 }⟩
  else if c = 107 then ⟨restS r.zs r.b 16, !okS r.zs r.b 16, { r.e with key := valS r.zs r.b 16 }⟩
  else ⟨restS r.zs r.b (most r.e.kind), !okS r.zs r.b (most r.e.kind), { r.e with data := valS r.zs r.b (most r.e.kind) }⟩
def rdP (zs : List Int) : R := (codes (valM zs false 9)).foldl stepP (start zs)
def accP (zs : List Int) : Bool := !(rdP zs).b && (decide ((rdP zs).zs.length = 0) && good (rdP zs).e)
theorem stepP_kind (r : R) (c : UInt8) : (stepP r c).e.kind = r.e.kind := by
  unfold stepP
  repeat' split
  all_goals rfl
theorem stepP_bad (r : R) (c : UInt8) (h : r.b = true) : (stepP r c).b = true := by
  obtain ⟨zs, b, e⟩ := r
  simp only at h
  subst h
  unfold stepP
  repeat' split
  all_goals rfl
theorem foldP_bad (cs : List UInt8) : ∀ r : R, r.b = true → (cs.foldl stepP r).b = true := by
  induction cs with
  | nil => intro r h; exact h
  | cons c cs ih => intro r h; rw [List.foldl_cons]; exact ih _ (stepP_bad r c h)
theorem foldP_kind (cs : List UInt8) : ∀ r : R, (cs.foldl stepP r).e.kind = r.e.kind := by
  induction cs with
  | nil => intro r; rfl
  | cons c cs ih => intro r; rw [List.foldl_cons, ih, stepP_kind]
theorem rdP_kind (zs : List Int) : (rdP zs).e.kind = valM zs false 9 := foldP_kind _ _
theorem stepP_byte (r : R) (c : UInt8) (h : Byte r.zs) : Byte (stepP r c).zs := by
  unfold stepP
  repeat' split
  · exact restM_byte _ _ _ h
  · exact restM_byte _ _ _ h
  · exact restM_byte _ _ _ h
  · exact restU_byte _ _ h
  · exact restS_byte _ _ _ h
  · exact restS_byte _ _ _ h
  · exact restS_byte _ _ _ h
theorem stepP_sound (r : R) (c : UInt8) (hb : Byte r.zs) (h : (stepP r c).b = false) (hn : c = 110 → 0 ≤ (stepP r c).e.n) : r.b = false ∧ r.zs = field (stepP r c).e c ++ (stepP r c).zs := by
  have hr : r.b = false := by
    cases hx : r.b with
    | false => rfl
    | true => rw [stepP_bad r c hx] at h; cases h
  obtain ⟨zs, b, e⟩ := r
  simp only at hr hb
  subst hr
  refine ⟨rfl, ?_⟩
  unfold stepP at h hn ⊢
  unfold field
  by_cases h1 : c = 114
  · simp only [if_pos h1] at h ⊢
    exact (canonM hb (by simpa using h)).1
  by_cases h2 : c = 116
  · simp only [if_neg h1, if_pos h2] at h ⊢
    exact (canonM hb (by simpa using h)).1
  by_cases h3 : c = 121
  · simp only [if_neg h1, if_neg h2, if_pos h3] at h ⊢
    exact (canonM hb (by simpa using h)).1
  by_cases h4 : c = 110
  · simp only [if_neg h1, if_neg h2, if_neg h3, if_pos h4] at h hn ⊢
    have hu := valU_range zs false hb
    have hw : wrap64 (valU zs false) = valU zs false := by
      have h0 := hn h4
      unfold wrap64 at h0 ⊢
      omega
    rw [hw]
    exact (canonU hb (by simpa using h)).1
  by_cases h5 : c = 97
  · simp only [if_neg h1, if_neg h2, if_neg h3, if_neg h4, if_pos h5] at h ⊢
    exact (canonS hb (by simpa using h)).1
  by_cases h6 : c = 107
  · simp only [if_neg h1, if_neg h2, if_neg h3, if_neg h4, if_neg h5, if_pos h6] at h ⊢
    exact (canonS hb (by simpa using h)).1
  · simp only [if_neg h1, if_neg h2, if_neg h3, if_neg h4, if_neg h5, if_neg h6] at h ⊢
    exact (canonS hb (by simpa using h)).1
theorem stepP_other (r : R) (c d : UInt8) (hc : Code c) (hd : Code d) (h : c ≠ d) : field (stepP r c).e d = field r.e d := by
  unfold Code at hc hd
  rcases hc with rfl | rfl | rfl | rfl | rfl | rfl | rfl <;> rcases hd with rfl | rfl | rfl | rfl | rfl | rfl | rfl <;> first | exact absurd rfl h | rfl
theorem foldP_other (d : UInt8) (hd : Code d) : ∀ (cs : List UInt8) (r : R), (∀ c ∈ cs, Code c) → d ∉ cs → field (cs.foldl stepP r).e d = field r.e d
  | [], _, _, _ => rfl
  | c :: cs, r, hc, hn => by
    rw [List.foldl_cons, foldP_other d hd cs _ (fun x hx => hc x (List.mem_cons_of_mem _ hx)) (fun hm => hn (List.mem_cons_of_mem _ hm))]
    exact stepP_other r c d (hc c (List.mem_cons_self ..)) hd (fun e => hn (e ▸ List.mem_cons_self ..))
theorem stepP_n (r : R) (c : UInt8) (h : c ≠ 110) : (stepP r c).e.n = r.e.n := by
  unfold stepP
  repeat' split
  all_goals first | rfl | (exact absurd (by assumption) h)
theorem foldP_n : ∀ (cs : List UInt8) (r : R), 110 ∉ cs → (cs.foldl stepP r).e.n = r.e.n
  | [], _, _ => rfl
  | c :: cs, r, hn => by
    rw [List.foldl_cons, foldP_n cs _ (fun hm => hn (List.mem_cons_of_mem _ hm))]
    exact stepP_n r c (fun e => hn (e ▸ List.mem_cons_self ..))
theorem foldP_sound : ∀ (cs : List UInt8) (r : R), (∀ c ∈ cs, Code c) → cs.Nodup → Byte r.zs → (cs.foldl stepP r).b = false → 0 ≤ (cs.foldl stepP r).e.n → r.b = false ∧ r.zs = cs.flatMap (field (cs.foldl stepP r).e) ++ (cs.foldl stepP r).zs
  | [], _, _, _, _, h, _ => ⟨h, rfl⟩
  | c :: cs, r, hc, hn, hb, h, h0 => by
    rw [List.nodup_cons] at hn
    rw [List.foldl_cons] at h h0 ⊢
    have hcs : ∀ x ∈ cs, Code x := fun x hx => hc x (List.mem_cons_of_mem _ hx)
    obtain ⟨h1, h2⟩ := foldP_sound cs (stepP r c) hcs hn.2 (stepP_byte r c hb) h h0
    obtain ⟨h3, h4⟩ := stepP_sound r c hb h1 (fun e => by
      subst e
      rw [foldP_n cs _ hn.1] at h0
      exact h0)
    refine ⟨h3, ?_⟩
    rw [List.flatMap_cons, foldP_other c (hc c (List.mem_cons_self ..)) cs _ hcs hn.1, List.append_assoc, ← h2]
    exact h4
theorem accP_put {zs : List Int} (hb : Byte zs) (h : accP zs = true) : good (rdP zs).e = true ∧ zs = put (rdP zs).e := by
  unfold accP at h
  simp only [Bool.and_eq_true, Bool.not_eq_true', decide_eq_true_eq] at h
  obtain ⟨h1, h2, h3⟩ := h
  refine ⟨h3, ?_⟩
  unfold put
  rw [if_pos h3]
  unfold bytes
  have hk : okM zs false 9 = true := by
    cases hx : okM zs false 9 with
    | true => rfl
    | false =>
      have := foldP_bad (codes (valM zs false 9)) (start zs) (by show (!okM zs false 9) = true; rw [hx]; rfl)
      rw [show (codes (valM zs false 9)).foldl stepP (start zs) = rdP zs from rfl, h1] at this
      cases this
  obtain ⟨c1, _, _⟩ := canonM hb hk
  obtain ⟨_, s2⟩ := foldP_sound (codes (valM zs false 9)) (start zs) (codes_code _) (codes_nodup _) (restM_byte _ _ _ hb) h1 (good_iff.1 h3).fits.n.1
  rw [show (codes (valM zs false 9)).foldl stepP (start zs) = rdP zs from rfl] at s2
  rw [List.eq_nil_of_length_eq_zero h2, List.append_nil] at s2
  rw [rdP_kind, ← s2]
  exact c1
/-! ### What was written is read -/
structure FitsP (e : E) : Prop where
  r : 0 ≤ e.run ∧ e.run ≤ 64
  t : 0 ≤ e.task ∧ e.task ≤ 15
  y : 0 ≤ e.try_ ∧ e.try_ ≤ 9
  n : 0 ≤ e.n ∧ e.n ≤ 1099511627776
  a : e.name.size ≤ 16
  k : e.key.size ≤ 16
  d : (e.data.size : Int) ≤ most e.kind
theorem Good.fitsP {e : E} (h : Good e) : FitsP e := by
  have h1 := within_in h.run
  have h2 := within_in h.task
  have h3 := within_in h.try_
  have h4 := within_in h.n
  have h5 := h.nameIn
  have h6 := h.keyIn
  have h7 := h.dataIn
  have h8 := top_le e.kind
  have h9 := most_ge e.kind
  exact ⟨by omega, by omega, by omega, by omega, by omega, by omega, by omega⟩
theorem stepP_full (e : E) (c : UInt8) (hc : Code c) (he : FitsP e) (rest : List Int) (x : E) (hk : x.kind = e.kind) : stepP ⟨field e c ++ rest, false, x⟩ c = ⟨rest, false, ov e x [c]⟩ := by
  have hm := most_le e.kind
  have hd := he.d
  unfold Code at hc
  rcases hc with rfl | rfl | rfl | rfl | rfl | rfl | rfl
  · obtain ⟨q1, q2, q3⟩ := readM e.run rest 64 he.r.1 he.r.2 (by have := he.r.2; omega)
    show (⟨restM (leb e.run ++ rest) false 64, !okM (leb e.run ++ rest) false 64, { x with run := valM (leb e.run ++ rest) false 64 }⟩ : R) = _
    rw [q1, q2, q3]; rfl
  · obtain ⟨q1, q2, q3⟩ := readM e.task rest 15 he.t.1 he.t.2 (by have := he.t.2; omega)
    show (⟨restM (leb e.task ++ rest) false 15, !okM (leb e.task ++ rest) false 15, { x with task := valM (leb e.task ++ rest) false 15 }⟩ : R) = _
    rw [q1, q2, q3]; rfl
  · obtain ⟨q1, q2, q3⟩ := readM e.try_ rest 9 he.y.1 he.y.2 (by have := he.y.2; omega)
    show (⟨restM (leb e.try_ ++ rest) false 9, !okM (leb e.try_ ++ rest) false 9, { x with try_ := valM (leb e.try_ ++ rest) false 9 }⟩ : R) = _
    rw [q1, q2, q3]; rfl
  · obtain ⟨q1, q2, q3⟩ := readU e.n rest he.n.1 (by have := he.n.2; omega)
    have hw : wrap64 e.n = e.n := by have h0 := he.n.1; have h1 := he.n.2; unfold wrap64; omega
    show (⟨restU (leb e.n ++ rest) false, !okU (leb e.n ++ rest) false, { x with n := wrap64 (valU (leb e.n ++ rest) false) }⟩ : R) = _
    rw [q1, q2, q3, hw]; rfl
  · obtain ⟨q1, q2, q3⟩ := readS e.name rest 16 (by have := he.a; omega) (by have := he.a; omega)
    show (⟨restS (putS e.name ++ rest) false 16, !okS (putS e.name ++ rest) false 16, { x with name := valS (putS e.name ++ rest) false 16 }⟩ : R) = _
    rw [q1, q2, q3]; rfl
  · obtain ⟨q1, q2, q3⟩ := readS e.key rest 16 (by have := he.k; omega) (by have := he.k; omega)
    show (⟨restS (putS e.key ++ rest) false 16, !okS (putS e.key ++ rest) false 16, { x with key := valS (putS e.key ++ rest) false 16 }⟩ : R) = _
    rw [q1, q2, q3]; rfl
  · obtain ⟨q1, q2, q3⟩ := readS e.data rest (most e.kind) hd (by omega)
    show (⟨restS (putS e.data ++ rest) false (most x.kind), !okS (putS e.data ++ rest) false (most x.kind), { x with data := valS (putS e.data ++ rest) false (most x.kind) }⟩ : R) = _
    rw [show most x.kind = most e.kind by rw [hk], q1, q2, q3]; rfl
theorem foldP_full {e : E} (he : FitsP e) (rest : List Int) : ∀ (cs : List UInt8) (x : E), (∀ c ∈ cs, Code c) → x.kind = e.kind → cs.foldl stepP ⟨cs.flatMap (field e) ++ rest, false, x⟩ = ⟨rest, false, ov e x cs⟩
  | [], x, _, _ => by simp [ov]
  | c :: cs, x, hc, hk => by
    have hC := hc c (List.mem_cons_self ..)
    rw [List.flatMap_cons, List.append_assoc, List.foldl_cons, stepP_full e c hC he _ x hk, foldP_full he rest cs _ (fun d hd => hc d (List.mem_cons_of_mem _ hd)) (by exact hk)]
    congr 1
    unfold Code at hC
    rcases hC with rfl | rfl | rfl | rfl | rfl | rfl | rfl
    · by_cases hm : (114 : UInt8) ∈ cs <;> simp [ov, hm]
    · by_cases hm : (116 : UInt8) ∈ cs <;> simp [ov, hm]
    · by_cases hm : (121 : UInt8) ∈ cs <;> simp [ov, hm]
    · by_cases hm : (110 : UInt8) ∈ cs <;> simp [ov, hm]
    · by_cases hm : (97 : UInt8) ∈ cs <;> simp [ov, hm]
    · by_cases hm : (107 : UInt8) ∈ cs <;> simp [ov, hm]
    · by_cases hm : (100 : UInt8) ∈ cs <;> simp [ov, hm]
theorem rdP_bytes {e : E} (h : Good e) (rest : List Int) : rdP (bytes e ++ rest) = ⟨rest, false, e⟩ := by
  have hk := h.kind
  obtain ⟨q1, q2, q3⟩ := readM e.kind ((codes e.kind).flatMap (field e) ++ rest) 9 (by omega) (by omega) (by omega)
  have hb : bytes e ++ rest = leb e.kind ++ ((codes e.kind).flatMap (field e) ++ rest) := by unfold bytes; rw [List.append_assoc]
  unfold rdP start
  rw [hb, q1, q2, q3]
  rw [show (!true) = false from rfl, foldP_full h.fitsP rest (codes e.kind) { zero with kind := e.kind } (codes_code _) rfl, h.ov_eq]
theorem accP_bytes {e : E} (h : Good e) : accP (bytes e) = true ∧ (rdP (bytes e)).e = e := by
  have h1 := rdP_bytes h []
  rw [List.append_nil] at h1
  unfold accP
  rw [h1]
  exact ⟨by rw [good_iff.2 h]; rfl, rfl⟩
/-- The program accepts just what the reference accepts, and reads it as the same event. -/
theorem accP_acc {zs : List Int} (hb : Byte zs) : accP zs = acc zs ∧ (acc zs = true → (rdP zs).e = (final zs).e) := by
  have key : ∀ e, Good e → zs = put e → accP zs = true ∧ acc zs = true ∧ (rdP zs).e = e ∧ (final zs).e = e := by
    rintro e h rfl
    rw [put_bytes h]
    exact ⟨(accP_bytes h).1, (acc_bytes h).1, (accP_bytes h).2, (acc_bytes h).2⟩
  cases h1 : accP zs with
  | true =>
    obtain ⟨h2, h3⟩ := accP_put hb h1
    obtain ⟨k1, k2, k3, k4⟩ := key _ (good_iff.1 h2) h3
    exact ⟨k2.symm, fun _ => k4.symm⟩
  | false =>
    cases h2 : acc zs with
    | false => exact ⟨rfl, fun h => absurd h (by decide)⟩
    | true =>
      obtain ⟨e, h3, h4⟩ := (get_iff hb).1 h2
      rw [(key e h3 h4).1] at h1
      cases h1
end Go.Proofs.YtighnooklcmjaaaDoor.Ev
/-
  The reference's GetEvent at all bytes.
-/
namespace Go.Proofs.YtighnooklcmjaaaDoor
open Go.RowKit
/-- An event read, or none. -/
def EvG (w : World) (zs : List Int) (e : Ending) (w' : World) : Prop := ∃ kd ru ta tr n na ke da er, e = .returned (.tuple #[.agg #[.int .i64 kd, .int .i64 ru, .int .i64 ta, .int .i64 tr, .int .i64 n, .string na, .string ke, .string da], .int .i64 er]) ∧ Hid ((⟨kd, ru, ta, tr, n, na, ke, da⟩ : Ev.E) = Ev.getV zs ∧ er = Ev.getE zs) ∧ Hid (Below w.heap.size w w')
theorem EvG.bad {w w' : World} {zs : List Int} (h : Ev.acc zs = false) (hb : Below w.heap.size w w') : EvG w zs (.returned (.tuple #[.agg #[.int .i64 0, .int .i64 0, .int .i64 0, .int .i64 0, .int .i64 0, .string ⟨#[]⟩, .string ⟨#[]⟩, .string ⟨#[]⟩], .int .i64 2])) w' :=
  ⟨0, 0, 0, 0, 0, ⟨#[]⟩, ⟨#[]⟩, ⟨#[]⟩, 2, rfl, Lib.hid ⟨by unfold Ev.getV; rw [h]; rfl, by unfold Ev.getE; rw [h]; rfl⟩, Lib.hid hb⟩
theorem EvG.good {w w' : World} {zs : List Int} {x : Ev.E} (h : Ev.acc zs = true) (hx : (Ev.final zs).e = x) (hb : Below w.heap.size w w') : EvG w zs (.returned (.tuple #[.agg (evc x), .int .i64 0])) w' := by
  refine ⟨x.kind, x.run, x.task, x.try_, x.n, x.name, x.key, x.data, 0, rfl, Lib.hid ⟨?_, by unfold Ev.getE; rw [h]; rfl⟩, Lib.hid hb⟩
  unfold Ev.getV
  rw [h, hx]; rfl
set_option maxRecDepth 8000 in
set_option maxHeartbeats 16000000 in
theorem getEvent_any (A : Option Addr) (zs : List Int) (cap : Nat) (hl : zs.length ≤ cap) (h62 : zs.length ≤ 4611686018427387904) (w : World) (h : Bytes w w.heap.size A zs) :
    Calls Tryd.prog 12 #[.slice A zs.length cap] w (EvG w zs) := by
  obtain ⟨W0, hW0⟩ : ∃ W0, W0 = (w.alloc (.cells #[.int .i64 0, .int .i64 0, .int .i64 0, .int .i64 0, .int .i64 0, .string ⟨#[]⟩, .string ⟨#[]⟩, .string ⟨#[]⟩] 33)).alloc (.cells #[.slice A zs.length cap, .bool false] 63) := ⟨_, rfl⟩
  have hB := h.mem
  have HB0 := Lib.hid (hB : En.Byte zs)
  have B0 : Hid (Below w.heap.size w W0) := Lib.hid (by rw [hW0]; exact ((Below.refl _ w).alloc (Nat.le_refl _) _).alloc (by simp) _)
  have S0 : Hid (W0.heap.size = w.heap.size + 1 + 1) := Lib.hid (by rw [hW0]; simp)
  have Z0 : Hid (W0.heap[w.heap.size]? = some (.cells (evc Ev.zero) 33 (0, 0))) := Lib.hid (by rw [hW0, Below.heap_alloc _ _ _ (by simp)]; exact heap_alloc_new w _)
  have I0 : Hid (InAt W0 63 (w.heap.size + 1) zs false) := Lib.hid ⟨A, cap, by rw [hW0]; have := heap_alloc_new (w.alloc (.cells #[.int .i64 0, .int .i64 0, .int .i64 0, .int .i64 0, .int .i64 0, .string ⟨#[]⟩, .string ⟨#[]⟩, .string ⟨#[]⟩] 33)) (.cells #[.slice A zs.length cap, .bool false] 63); rwa [World.size_alloc] at this, hl, h62, (h.below B0.out).more B0.out.size⟩
  obtain ⟨g1, hg1⟩ : ∃ g1, g1 = w.heap.size + 1 := ⟨_, rfl⟩
  rw [← hg1] at I0
  have G1 := Lib.hid hg1
  have HW := Lib.hid hW0
  clear hW0 hl h62 hB h
  have SM := Lib.hid (fun w' (hi : InAt w' 63 g1 zs false) => refSmall_any g1 zs false 9 (by decide) (by decide) w' hi)
  have SK := Lib.hid (Ev.start_in zs HB0.out)
  have KR := Lib.hid (Ev.valM_in zs false 9 (by decide) HB0.out)
  have RN := Lib.hid (fun j c h => Ev.rAt_next (zs := zs) (j := j) (c := c) h)
  have RA := Lib.hid (fun j h => Ev.rAt_all (zs := zs) (j := j) h)
  have FB := Lib.hid (fun j h hf => Ev.far_bad (zs := zs) (j := j) h hf)
  have R0 : Hid (Ev.rAt zs 0 = ⟨En.restM zs false 9, !En.okM zs false 9, ⟨En.valM zs false 9, 0, 0, 0, 0, ⟨#[]⟩, ⟨#[]⟩, ⟨#[]⟩⟩⟩) := Lib.hid rfl
  have FL : Hid (∀ W, Calls Tryd.prog 30 #[.int .i64 (En.valM zs false 9)] W fun e w' => e = .returned (.tuple #[.string (Ev.cstr (En.valM zs false 9)), .int .i64 (Ev.most (En.valM zs false 9))]) ∧ Below W.heap.size W w') := Lib.hid (fields_any _ ⟨by have := KR.out; omega, by have := KR.out; omega⟩)
  have CC := Lib.hid (Ev.codes_code (En.valM zs false 9))
  have CG := Lib.hid (cstr_get (En.valM zs false 9))
  have CS := Lib.hid (cstr_size (En.valM zs false 9))
  have C4 := Lib.hid (codes_few (En.valM zs false 9))
  have SK2 : Hid (EvIn (Ev.rAt zs 0).e) := SK
  have AC : Hid ((Ev.final zs).b = true → Ev.acc zs = false) := Lib.hid fun h => by unfold Ev.acc; rw [h]; rfl
  have AL : Hid (0 < (Ev.final zs).zs.length → Ev.acc zs = false) := Lib.hid fun h => by unfold Ev.acc; rw [decide_eq_false (by omega)]; simp
  have AG : Hid ((Ev.final zs).b = false → (Ev.final zs).zs.length = 0 → Ev.acc zs = Ev.good (Ev.final zs).e) := Lib.hid fun h h2 => by unfold Ev.acc; rw [h, decide_eq_true h2]; rfl
  clear SK KR
  generalize En.valM zs false 9 = kd at *
  generalize En.restM zs false 9 = zs1 at *
  generalize En.okM zs false 9 = ok1 at *
  generalize Ev.rAt zs = ra at *
  generalize Ev.codes kd = cs at *
  generalize Ev.cstr kd = s at *
  generalize Ev.most kd = mo at *
  go_enter Tryd.func12, Tryd.ntmps12
  go_wp2_with fail
  rw [← HW.out, ← hg1]
  clear HW hg1
  (with_reducible refine (SM.out _ I0.out).mono ?_); rintro e w1 ⟨rfl, p1⟩
  go_wp2_with fail
  obtain ⟨g2, hg2⟩ : ∃ g2, g2 = w1.heap.size := ⟨_, rfl⟩
  obtain ⟨W2, hW2⟩ : ∃ W2, W2 = w1.alloc (.cells #[.int .i64 kd, .int .i64 0, .int .i64 0, .int .i64 0, .int .i64 0, .string ⟨#[]⟩, .string ⟨#[]⟩, .string ⟨#[]⟩] 33) := ⟨_, rfl⟩
  rw [← hW2, ← hg2]
  have GS0 : Hid (GS w W2 g1 g2 (ra 0)) := Lib.hid (by
    have hs0 := S0.out
    have h1 := G1.out
    have hs1 := p1.2.size
    have hb1 : Below w1.heap.size w1 W2 := by rw [hW2]; exact (Below.refl _ _).alloc (Nat.le_refl _) _
    rw [R0.out]
    refine ⟨(B0.out.trans (p1.2.below B0.out.size (by omega))).trans (hb1.mono (by omega)), ?_, p1.1.below hb1 (Nat.le_refl _), ?_, by omega, by omega, by omega⟩
    · exact (hb1.block _ (by omega)).trans ((p1.2.block _ (by omega) (by omega)).trans Z0.out)
    · rw [hW2, hg2]; exact heap_alloc_new w1 _)
  clear hW2 hg2 p1 R0 B0 S0 Z0 I0 SM G1
  (with_reducible refine (FL.out _).mono ?_); rintro e w3 ⟨rfl, b3⟩
  have GS1 := Lib.hid (GS0.out.more b3)
  clear GS0 b3 FL
  go_wp2_with fail
  go_loopw [8] (fun iv wr => ∃ j : Nat, j ≤ s.size ∧ iv = .int .i64 j ∧ Hid (GS w wr g1 g2 (ra j)) ∧ Hid (EvIn (ra j).e)) (fun iv _ => s.size - (intOf iv).toNat)
  case atStart => exact ⟨0, Nat.zero_le _, rfl, GS1, SK2⟩
  case round =>
    obtain ⟨j, hj, rfl, HG, HI⟩ := hrel
    have SL : s.size ≤ 4 := by rw [CS.out]; exact C4.out
    by_cases hlt : j < s.size
    · have hlt' : (j : Int) < (s.size : Int) := by omega
      have hc := CG.out j hlt
      have HC := Lib.hid hc
      have NX := RN.out j _ hc
      have hm := CC.out _ (List.mem_of_getElem? hc)
      have FBj := FB.out j
      obtain ⟨r, hr⟩ : ∃ r, r = ra j := ⟨_, rfl⟩
      rw [← hr] at HG HI NX FBj
      have FBJ := Lib.hid FBj
      clear hr FBj
      obtain ⟨ys, b, k, ru, ta, tr, n, na, ke, da⟩ := r
      unfold Ev.Code at hm
      rcases hm with hm | hm | hm | hm | hm | hm | hm
      · have hm' : ((s[j]).toNat : Int) = 114 := by rw [hm]; rfl
        rw [hm] at NX
        have HC2 : Hid (cs[j]? = some 114) := Lib.hid (by rw [← hm]; exact hc)
        have NY := Lib.hid NX
        have IN2 := fun hn => Ev.step_in (c := 114) HI.out HG.out.i.byte hn
        rw [← NX] at IN2
        clear NX hc hm HC
        have IN3 := Lib.hid (IN2 (fun h => absurd h (by decide)))
        go_wp2_with fail
        (with_reducible refine (refSmall_any g1 ys b 64 (by decide) (by decide) _ HG.out.i).mono ?_); rintro e w4 ⟨rfl, p4⟩
        have HG2 := Lib.hid (HG.out.read p4)
        clear p4
        have E2 := HG2.out.e
        unfold evc at E2
        obtain ⟨⟨c0, c1, c2, c3, c4, c5, c6, c7⟩, f0, f1, f2, f3, f4, f5, f6, f7⟩ := And.intro (ob8 E2) (ob8f E2)
        clear E2 IN2
        go_wp2
        go_roundw
        case rel =>
          refine ⟨j + 1, by omega, by go_num, Lib.hid ?_, IN3⟩
          rw [NY.out]
          exact HG2.out.store rfl
        case measure => simp [intOf]; omega
      · have hm' : ((s[j]).toNat : Int) = 116 := by rw [hm]; rfl
        rw [hm] at NX
        have HC2 : Hid (cs[j]? = some 116) := Lib.hid (by rw [← hm]; exact hc)
        have NY := Lib.hid NX
        have IN2 := fun hn => Ev.step_in (c := 116) HI.out HG.out.i.byte hn
        rw [← NX] at IN2
        clear NX hc hm HC
        have IN3 := Lib.hid (IN2 (fun h => absurd h (by decide)))
        go_wp2_with fail
        (with_reducible refine (refSmall_any g1 ys b 64 (by decide) (by decide) _ HG.out.i).mono ?_); rintro e w4 ⟨rfl, p4⟩
        have HG2 := Lib.hid (HG.out.read p4)
        clear p4
        have E2 := HG2.out.e
        unfold evc at E2
        obtain ⟨⟨c0, c1, c2, c3, c4, c5, c6, c7⟩, f0, f1, f2, f3, f4, f5, f6, f7⟩ := And.intro (ob8 E2) (ob8f E2)
        clear E2 IN2
        go_wp2
        go_roundw
        case rel =>
          refine ⟨j + 1, by omega, by go_num, Lib.hid ?_, IN3⟩
          rw [NY.out]
          exact HG2.out.store rfl
        case measure => simp [intOf]; omega
      · have hm' : ((s[j]).toNat : Int) = 121 := by rw [hm]; rfl
        rw [hm] at NX
        have HC2 : Hid (cs[j]? = some 121) := Lib.hid (by rw [← hm]; exact hc)
        have NY := Lib.hid NX
        have IN2 := fun hn => Ev.step_in (c := 121) HI.out HG.out.i.byte hn
        rw [← NX] at IN2
        clear NX hc hm HC
        have IN3 := Lib.hid (IN2 (fun h => absurd h (by decide)))
        go_wp2_with fail
        (with_reducible refine (refSmall_any g1 ys b 64 (by decide) (by decide) _ HG.out.i).mono ?_); rintro e w4 ⟨rfl, p4⟩
        have HG2 := Lib.hid (HG.out.read p4)
        clear p4
        have E2 := HG2.out.e
        unfold evc at E2
        obtain ⟨⟨c0, c1, c2, c3, c4, c5, c6, c7⟩, f0, f1, f2, f3, f4, f5, f6, f7⟩ := And.intro (ob8 E2) (ob8f E2)
        clear E2 IN2
        go_wp2
        go_roundw
        case rel =>
          refine ⟨j + 1, by omega, by go_num, Lib.hid ?_, IN3⟩
          rw [NY.out]
          exact HG2.out.store rfl
        case measure => simp [intOf]; omega
      · have hm' : ((s[j]).toNat : Int) = 110 := by rw [hm]; rfl
        rw [hm] at NX
        have HC2 : Hid (cs[j]? = some 110) := Lib.hid (by rw [← hm]; exact hc)
        have NY := Lib.hid NX
        have IN2 := fun hn => Ev.step_in (c := 110) HI.out HG.out.i.byte hn
        rw [← NX] at IN2
        clear NX hc hm HC
        have VR := En.valU_range ys b HG.out.i.byte
        go_wp2_with fail
        (with_reducible refine (refU_any g1 ys b _ HG.out.i).mono ?_); rintro e w4 ⟨rfl, p4⟩
        have HG2 := Lib.hid (HG.out.read p4)
        clear p4
        by_cases hf : 1099511627776 < En.valU ys b
        · have AB : Hid (Ev.acc zs = false) := Lib.hid (FBJ.out HC2.out hf)
          have E2 := HG2.out.z
          unfold evc Ev.zero at E2
          obtain ⟨⟨c0, c1, c2, c3, c4, c5, c6, c7⟩, f0, f1, f2, f3, f4, f5, f6, f7⟩ := And.intro (ob8 E2) (ob8f E2)
          clear E2 IN2
          generalize En.valU ys b = v at *
          go_wp2
          have E3 := S8.at_ HG2.out.z (.int .i64 0) (.int .i64 0) (.int .i64 0) (.int .i64 0) (.int .i64 0) (.string ⟨#[]⟩) (.string ⟨#[]⟩) (.string ⟨#[]⟩)
          obtain ⟨d0, d1, d2, d3, d4, d5, d6, d7⟩ := ob8 E3
          unfold S8 at d0 d1 d2 d3 d4 d5 d6 d7
          exact bodyPost_ret (v := .tuple #[.agg #[.int .i64 0, .int .i64 0, .int .i64 0, .int .i64 0, .int .i64 0, .string ⟨#[]⟩, .string ⟨#[]⟩, .string ⟨#[]⟩], .int .i64 2]) (by simp [results, Tryd.results12, go_sem, d0, d1, d2, d3, d4, d5, d6, d7]) rfl (EvG.bad AB.out (S8.below HG2.out.b (Nat.le_refl _) _ _ _ _ _ _ _ _))
        have IN3 := Lib.hid (IN2 (fun _ => by show En.valU ys b ≤ _; omega))
        have tw : wrap64 (En.valU ys b) = En.valU ys b := by unfold wrap64; omega
        have tw2 : IntKind.i64.wrap (En.valU ys b) = En.valU ys b := IntWalk.i64_in _ (by omega)
        have E2 := HG2.out.e
        unfold evc at E2
        obtain ⟨⟨c0, c1, c2, c3, c4, c5, c6, c7⟩, f0, f1, f2, f3, f4, f5, f6, f7⟩ := And.intro (ob8 E2) (ob8f E2)
        clear E2 IN2
        go_wp2
        go_roundw
        case rel =>
          refine ⟨j + 1, by omega, by go_num, Lib.hid ?_, IN3⟩
          rw [NY.out]
          exact HG2.out.store rfl
        case measure => simp [intOf]; omega
      · have hm' : ((s[j]).toNat : Int) = 97 := by rw [hm]; rfl
        rw [hm] at NX
        have HC2 : Hid (cs[j]? = some 97) := Lib.hid (by rw [← hm]; exact hc)
        have NY := Lib.hid NX
        have IN2 := fun hn => Ev.step_in (c := 97) HI.out HG.out.i.byte hn
        rw [← NX] at IN2
        clear NX hc hm HC
        have IN3 := Lib.hid (IN2 (fun h => absurd h (by decide)))
        go_wp2_with fail
        (with_reducible refine (refS_any g1 ys b 64 (by decide) (by decide) _ HG.out.i).mono ?_); rintro e w4 ⟨rfl, p4⟩
        have HG2 := Lib.hid (HG.out.read p4)
        clear p4
        have E2 := HG2.out.e
        unfold evc at E2
        obtain ⟨⟨c0, c1, c2, c3, c4, c5, c6, c7⟩, f0, f1, f2, f3, f4, f5, f6, f7⟩ := And.intro (ob8 E2) (ob8f E2)
        clear E2 IN2
        go_wp2
        go_roundw
        case rel =>
          refine ⟨j + 1, by omega, by go_num, Lib.hid ?_, IN3⟩
          rw [NY.out]
          exact HG2.out.store rfl
        case measure => simp [intOf]; omega
      · have hm' : ((s[j]).toNat : Int) = 107 := by rw [hm]; rfl
        rw [hm] at NX
        have HC2 : Hid (cs[j]? = some 107) := Lib.hid (by rw [← hm]; exact hc)
        have NY := Lib.hid NX
        have IN2 := fun hn => Ev.step_in (c := 107) HI.out HG.out.i.byte hn
        rw [← NX] at IN2
        clear NX hc hm HC
        have IN3 := Lib.hid (IN2 (fun h => absurd h (by decide)))
        go_wp2_with fail
        (with_reducible refine (refS_any g1 ys b 64 (by decide) (by decide) _ HG.out.i).mono ?_); rintro e w4 ⟨rfl, p4⟩
        have HG2 := Lib.hid (HG.out.read p4)
        clear p4
        have E2 := HG2.out.e
        unfold evc at E2
        obtain ⟨⟨c0, c1, c2, c3, c4, c5, c6, c7⟩, f0, f1, f2, f3, f4, f5, f6, f7⟩ := And.intro (ob8 E2) (ob8f E2)
        clear E2 IN2
        go_wp2
        go_roundw
        case rel =>
          refine ⟨j + 1, by omega, by go_num, Lib.hid ?_, IN3⟩
          rw [NY.out]
          exact HG2.out.store rfl
        case measure => simp [intOf]; omega
      · have hm' : ((s[j]).toNat : Int) = 100 := by rw [hm]; rfl
        rw [hm] at NX
        have HC2 : Hid (cs[j]? = some 100) := Lib.hid (by rw [← hm]; exact hc)
        have NY := Lib.hid NX
        have IN2 := fun hn => Ev.step_in (c := 100) HI.out HG.out.i.byte hn
        rw [← NX] at IN2
        clear NX hc hm HC
        have IN3 := Lib.hid (IN2 (fun h => absurd h (by decide)))
        go_wp2_with fail
        (with_reducible refine (refS_any g1 ys b 900 (by decide) (by decide) _ HG.out.i).mono ?_); rintro e w4 ⟨rfl, p4⟩
        have HG2 := Lib.hid (HG.out.read p4)
        clear p4
        have E2 := HG2.out.e
        unfold evc at E2
        obtain ⟨⟨c0, c1, c2, c3, c4, c5, c6, c7⟩, f0, f1, f2, f3, f4, f5, f6, f7⟩ := And.intro (ob8 E2) (ob8f E2)
        clear E2 IN2
        go_wp2
        go_roundw
        case rel =>
          refine ⟨j + 1, by omega, by go_num, Lib.hid ?_, IN3⟩
          rw [NY.out]
          exact HG2.out.store rfl
        case measure => simp [intOf]; omega
    · obtain rfl : j = s.size := by omega
      rw [RA.out s.size (by rw [CS.out]; exact Nat.le_refl _)] at HG HI
      have FE : Hid (∃ r, r = Ev.final zs) := Lib.hid ⟨_, rfl⟩
      have EG : Hid (∀ x w', (Ev.final zs).e = x → Ev.acc zs = true → Below w.heap.size w w' → EvG w zs (.returned (.tuple #[.agg (evc x), .int .i64 0])) w') := Lib.hid fun x w' h1 h2 h3 => EvG.good h2 h1 h3
      clear FE
      generalize Ev.final zs = r at *
      obtain ⟨ys, b, kk, ru, ta, tr, n, na, ke, da⟩ := r
      have AC' := AC.out
      have AL' := AL.out
      have AG' := AG.out
      simp only at AC' AL' AG'
      obtain ⟨A2, cap2, ho, _, _, _⟩ := HG.out.i
      obtain ⟨⟨b0, b1⟩, _, _⟩ := obj2P ho
      clear ho RN RA FB AC AL AG CC CG CS C4
      cases b
      · by_cases hy : ys.length = 0
        · have GE := Lib.hid (goodEvent_any _ HI.out)
          have AX := AG' rfl hy
          have hy' : (ys.length : Int) = 0 := by omega
          have E2 := HG.out.e
          unfold evc at E2
          obtain ⟨c0, c1, c2, c3, c4, c5, c6, c7⟩ := ob8 E2
          clear E2 AC' AL' AG'
          change Hid (∀ W, Calls _ _ #[.agg #[.int .i64 kk, .int .i64 ru, .int .i64 ta, .int .i64 tr, .int .i64 n, .string na, .string ke, .string da]] W _) at GE
          (try simp only at AX)
          generalize Ev.good ⟨kk, ru, ta, tr, n, na, ke, da⟩ = gd at *
          go_wp2_with fail
          (with_reducible refine (GE.out _).mono ?_); rintro e w5 ⟨rfl, b5⟩
          have HG5 := Lib.hid (HG.out.more b5)
          clear b5 b0 b1 c0 c1 c2 c3 c4 c5 c6 c7
          cases gd
          · have AB := Lib.hid AX
            clear AX
            have E2 := HG5.out.z
            unfold evc Ev.zero at E2
            obtain ⟨⟨c0, c1, c2, c3, c4, c5, c6, c7⟩, f0, f1, f2, f3, f4, f5, f6, f7⟩ := And.intro (ob8 E2) (ob8f E2)
            clear E2
            go_wp2
            have E3 := S8.at_ HG5.out.z (.int .i64 0) (.int .i64 0) (.int .i64 0) (.int .i64 0) (.int .i64 0) (.string ⟨#[]⟩) (.string ⟨#[]⟩) (.string ⟨#[]⟩)
            obtain ⟨d0, d1, d2, d3, d4, d5, d6, d7⟩ := ob8 E3
            unfold S8 at d0 d1 d2 d3 d4 d5 d6 d7
            exact bodyPost_ret (v := .tuple #[.agg #[.int .i64 0, .int .i64 0, .int .i64 0, .int .i64 0, .int .i64 0, .string ⟨#[]⟩, .string ⟨#[]⟩, .string ⟨#[]⟩], .int .i64 2]) (by simp [results, Tryd.results12, go_sem, d0, d1, d2, d3, d4, d5, d6, d7]) rfl (EvG.bad AB.out (S8.below HG5.out.b (Nat.le_refl _) _ _ _ _ _ _ _ _))
          · have E2 := HG5.out.e
            unfold evc at E2
            obtain ⟨a0, a1, a2, a3, a4, a5, a6, a7⟩ := ob8 E2
            have E4 := HG5.out.z
            unfold evc Ev.zero at E4
            obtain ⟨⟨c0, c1, c2, c3, c4, c5, c6, c7⟩, f0, f1, f2, f3, f4, f5, f6, f7⟩ := And.intro (ob8 E4) (ob8f E4)
            clear E2 E4
            go_wp2
            have E3 := S8.at_ HG5.out.z (.int .i64 kk) (.int .i64 ru) (.int .i64 ta) (.int .i64 tr) (.int .i64 n) (.string na) (.string ke) (.string da)
            obtain ⟨d0, d1, d2, d3, d4, d5, d6, d7⟩ := ob8 E3
            unfold S8 at d0 d1 d2 d3 d4 d5 d6 d7
            exact bodyPost_ret (v := .tuple #[.agg #[.int .i64 kk, .int .i64 ru, .int .i64 ta, .int .i64 tr, .int .i64 n, .string na, .string ke, .string da], .int .i64 0]) (by simp [results, Tryd.results12, go_sem, d0, d1, d2, d3, d4, d5, d6, d7]) rfl (EG.out _ _ rfl AX (S8.below HG5.out.b (Nat.le_refl _) _ _ _ _ _ _ _ _))
        · have AB := Lib.hid (AL' (by omega))
          have hy' : 0 < (ys.length : Int) := by omega
          clear AC' AL' AG'
          have E2 := HG.out.z
          unfold evc Ev.zero at E2
          obtain ⟨⟨c0, c1, c2, c3, c4, c5, c6, c7⟩, f0, f1, f2, f3, f4, f5, f6, f7⟩ := And.intro (ob8 E2) (ob8f E2)
          clear E2
          go_wp2
          have E3 := S8.at_ HG.out.z (.int .i64 0) (.int .i64 0) (.int .i64 0) (.int .i64 0) (.int .i64 0) (.string ⟨#[]⟩) (.string ⟨#[]⟩) (.string ⟨#[]⟩)
          obtain ⟨d0, d1, d2, d3, d4, d5, d6, d7⟩ := ob8 E3
          unfold S8 at d0 d1 d2 d3 d4 d5 d6 d7
          exact bodyPost_ret (v := .tuple #[.agg #[.int .i64 0, .int .i64 0, .int .i64 0, .int .i64 0, .int .i64 0, .string ⟨#[]⟩, .string ⟨#[]⟩, .string ⟨#[]⟩], .int .i64 2]) (by simp [results, Tryd.results12, go_sem, d0, d1, d2, d3, d4, d5, d6, d7]) rfl (EvG.bad AB.out (S8.below HG.out.b (Nat.le_refl _) _ _ _ _ _ _ _ _))
      · have AB := Lib.hid (AC' rfl)
        clear AC' AL' AG'
        have E2 := HG.out.z
        unfold evc Ev.zero at E2
        obtain ⟨⟨c0, c1, c2, c3, c4, c5, c6, c7⟩, f0, f1, f2, f3, f4, f5, f6, f7⟩ := And.intro (ob8 E2) (ob8f E2)
        clear E2
        go_wp2
        have E3 := S8.at_ HG.out.z (.int .i64 0) (.int .i64 0) (.int .i64 0) (.int .i64 0) (.int .i64 0) (.string ⟨#[]⟩) (.string ⟨#[]⟩) (.string ⟨#[]⟩)
        obtain ⟨d0, d1, d2, d3, d4, d5, d6, d7⟩ := ob8 E3
        unfold S8 at d0 d1 d2 d3 d4 d5 d6 d7
        exact bodyPost_ret (v := .tuple #[.agg #[.int .i64 0, .int .i64 0, .int .i64 0, .int .i64 0, .int .i64 0, .string ⟨#[]⟩, .string ⟨#[]⟩, .string ⟨#[]⟩], .int .i64 2]) (by simp [results, Tryd.results12, go_sem, d0, d1, d2, d3, d4, d5, d6, d7]) rfl (EvG.bad AB.out (S8.below HG.out.b (Nat.le_refl _) _ _ _ _ _ _ _ _))
end Go.Proofs.YtighnooklcmjaaaDoor
