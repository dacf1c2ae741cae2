/-
  The reference's Crash: the plain side, and what a round leaves.
-/
import Derived.Test.YtmahbcpkilegpaaStoRefSet
import Derived.Test.YtmahbcpkilegpaaStepApp
import Derived.Deep.RegionHeld3
import Derived.Deep.QuietTactic
import Derived.BigQuiet
namespace Go.Proofs.Ytmahbcpkilegpaa
open Go.RowKit St

/-! ### The plain side: the first k files have fallen -/
def cnt : List F → Nat
  | [] => 0
  | f :: r => (if f.sure = f.zs.length then 0 else 1) + cnt r
def crashTo (l : List F) (ks : List Int) (k : Nat) : List F := crashL (l.take k) ks ++ l.drop k
theorem cnt_app : ∀ a b : List F, cnt (a ++ b) = cnt a + cnt b
  | [], b => by simp [cnt]
  | f :: a, b => by rw [List.cons_append, cnt, cnt, cnt_app a b]; omega
theorem cnt_le : ∀ a : List F, cnt a ≤ a.length
  | [] => Nat.le_refl _
  | f :: a => by
    have := cnt_le a
    rw [cnt, List.length_cons]
    split <;> omega
theorem crashL_len : ∀ (l : List F) (ks : List Int), (crashL l ks).length = l.length := fun l ks => by
  have := congrArg List.length (crashL_names l ks)
  simpa using this
theorem crashL_app : ∀ (a b : List F) (ks : List Int), crashL (a ++ b) ks = crashL a ks ++ crashL b (ks.drop (cnt a))
  | [], b, ks => rfl
  | f :: a, b, ks => by
    rw [List.cons_append]
    by_cases h : f.sure = f.zs.length
    · rw [crashL, if_pos h, crashL, if_pos h, crashL_app a b ks, cnt, if_pos h, Nat.zero_add]; rfl
    · rw [crashL, if_neg h, crashL, if_neg h, crashL_app a b ks.tail, cnt, if_neg h, Nat.add_comm]
      cases ks with
      | nil => simp
      | cons x t => rfl
theorem crashTo_len (l : List F) (ks : List Int) (k : Nat) : (crashTo l ks k).length = l.length := by
  unfold crashTo
  rw [List.length_append, crashL_len, List.length_take, List.length_drop]; omega
theorem crashTo_end (l : List F) (ks : List Int) : crashTo l ks l.length = crashL l ks := by
  unfold crashTo
  rw [List.take_length, List.drop_length, List.append_nil]
theorem crashTo_at (l : List F) (ks : List Int) (k : Nat) (hk : k < l.length) : (crashTo l ks k)[k]? = some (l[k]'hk) := by
  unfold crashTo
  have : (crashL (l.take k) ks).length = k := by rw [crashL_len, List.length_take]; omega
  rw [List.getElem?_append_right (by omega), this, Nat.sub_self, List.getElem?_drop, Nat.add_zero, List.getElem?_eq_getElem hk]
theorem take_one {l : List F} {k : Nat} (hk : k < l.length) : l.take (k + 1) = l.take k ++ [l[k]'hk] := by
  rw [List.take_add_one, List.getElem?_eq_getElem hk]; rfl
theorem crashTo_skip (l : List F) (ks : List Int) (k : Nat) (hk : k < l.length) (h : (l[k]'hk).sure = (l[k]'hk).zs.length) : crashTo l ks (k + 1) = crashTo l ks k ∧ cnt (l.take (k + 1)) = cnt (l.take k) := by
  unfold crashTo
  rw [take_one hk, crashL_app, cnt_app]
  refine ⟨?_, by rw [cnt, if_pos h]; rfl⟩
  rw [crashL, if_pos h, List.drop_eq_getElem_cons hk, List.append_assoc]; rfl
theorem crashTo_step (l : List F) (ks : List Int) (k : Nat) (hk : k < l.length) (h : (l[k]'hk).sure ≠ (l[k]'hk).zs.length) :
    crashTo l ks (k + 1) = (crashTo l ks k).set k (crashF (l[k]'hk) (ks.getD (cnt (l.take k)) 0)) ∧ cnt (l.take (k + 1)) = cnt (l.take k) + 1 := by
  have hl : (crashL (l.take k) ks).length = k := by rw [crashL_len, List.length_take]; omega
  unfold crashTo
  rw [take_one hk, crashL_app, cnt_app]
  refine ⟨?_, by rw [cnt, if_neg h]; rfl⟩
  rw [crashL, if_neg h, List.drop_eq_getElem_cons hk, List.append_assoc, List.set_append_right _ _ (by omega), hl, Nat.sub_self, List.set_cons_zero]
  rw [show (ks.drop (cnt (l.take k))).headD 0 = ks.getD (cnt (l.take k)) 0 by rw [List.headD_eq_head?_getD, List.head?_drop, List.getD_eq_getElem?_getD]]
  rfl

/-! ### Under way -/
structure RCr (w wr : World) (R : Nat) (own : Nat → Prop) (s : S) (rf : Int) (rk : List Int) (fa : Option Addr) (fc : Nat) (ka : Option Addr) (kc : Nat) (l : List F) (own2 : Nat → Prop) (Ad : List UInt8 → Option Addr × Nat) : Prop where
  rp : RP wr R own2 { s with fs := l } rf rk Ad fa fc ka kc
  sub : ∀ j, own2 j → own j ∨ w.heap.size ≤ j
  only : Only (fun b => ∃ a, fa = some a ∧ b = a.block) w wr
section
variable {w wr : World} {R : Nat} {own : Nat → Prop} {s : S} {rf : Int} {rk : List Int} {fa : Option Addr} {fc : Nat} {ka : Option Addr} {kc : Nat} {l : List F} {own2 : Nat → Prop} {Ad : List UInt8 → Option Addr × Nat}
theorem RCr.start (h : RP w R own s rf rk Ad fa fc ka kc) : RCr w w R own s rf rk fa fc ka kc s.fs own Ad := ⟨h, fun _ h => .inl h, Only.refl _ _⟩
theorem RCr.ints (h : RCr w wr R own s rf rk fa fc ka kc l own2 Ad) {A : Option Addr} {ks : List Int} (hi : Ints w A ks) (hA : 0 < ks.length → ∀ a b, A = some a → fa = some b → a.block ≠ b.block) : Ints wr A ks := fun hp => by
  obtain ⟨b, off, e, hc⟩ := hi hp
  refine ⟨b, off, e, fun i hi => ?_⟩
  have h0 := hc i hi
  exact (World.cell?_of_block (w := w) (h.only.block b (block_lt h0) fun ⟨a, ha, hb⟩ => hA hp _ _ e ha hb)).trans h0
/-- One file cut to where it is sure then: the two stores of a round. -/
theorem RCr.step (h : RCr w wr R own s rf rk fa fc ka kc l own2 Ad) {k g : Nat} (hk : k < l.length) (hg : fa = some ⟨g, 0, none⟩) {x : Nat} (hx : x ≤ (l[k]'hk).zs.length)
    {w2 : World} {A : Option Addr} {c : Nat} (hb : Below wr.heap.size (wr.setCell ⟨g, k * 3 + 2, none⟩ (.int .i64 (x : Int))) w2) (hown : OwnB w2 wr.heap.size A c ((l[k]'hk).zs.take x)) :
    ∃ own3 Ad3, RCr w (w2.setCell ⟨g, k * 3 + 1, none⟩ (.slice A x c)) R own s rf rk fa fc ka kc (l.set k { (l[k]'hk) with zs := (l[k]'hk).zs.take x, sure := x }) own3 Ad3 := by
  have hsz : (wr.setCell ⟨g, k * 3 + 2, none⟩ (.int .i64 (x : Int))).heap.size = wr.heap.size := by simp [World.setCell]
  have hlen : ((l[k]'hk).zs.take x).length = x := by rw [List.length_take]; omega
  obtain ⟨f, hf⟩ : ∃ f, f = ({ (l[k]'hk) with sure := x } : F) := ⟨_, rfl⟩
  obtain ⟨l1, hl1⟩ : ∃ l1, l1 = l.set k f := ⟨_, rfl⟩
  have p1 : RP (wr.setCell ⟨g, k * 3 + 2, none⟩ (.int .i64 (x : Int))) R own2 { s with fs := l1 } rf rk Ad fa fc ka kc := by rw [hl1, hf]; exact h.rp.sure hk hg x hx
  have p2 := p1.grow (by rw [hsz]; exact hb)
  have hk2 : k < l1.length := by rw [hl1, List.length_set]; exact hk
  have e0 : l1[k]'hk2 = f := by subst hl1; exact List.getElem_set_self _
  have htot : total l1 ≤ s.room := p2.rs.inv.tot
  have fz : f.zs = (l[k]'hk).zs := by rw [hf]
  have fn : f.nm = (l[k]'hk).nm := by rw [hf]
  have fs : f.sure = x := by rw [hf]
  have p3 := p2.bytes (k := k) hk2 hg (A := A) (c := c) (zs := (l[k]'hk).zs.take x) (by
      show (l1[k]'hk2).sure ≤ _
      rw [e0, hlen, fs]; exact Nat.le_refl _) (by
      show total l1 + _ ≤ s.room + (l1[k]'hk2).zs.length
      rw [e0, hlen, fz]
      exact Nat.add_le_add htot hx) hown (fun j hj => h.rp.lt j hj)
  have p4 : RP (w2.setCell ⟨g, k * 3 + 1, none⟩ (.slice A ((l[k]'hk).zs.take x).length c)) R (fun j => own2 j ∨ ∃ a, A = some a ∧ j = a.block) { s with fs := l1.set k { (l1[k]'hk2) with zs := (l[k]'hk).zs.take x } } rf rk (turnAd Ad (l1[k]'hk2).nm (A, c)) fa fc ka kc := p3
  rw [e0, hl1, List.set_set, hlen, fn, hf] at p4
  refine ⟨fun j => own2 j ∨ ∃ a, A = some a ∧ j = a.block, turnAd Ad (l[k]'hk).nm (A, c), ⟨p4, ?_, ?_⟩⟩
  · rintro j (h1 | ⟨a, ha, rfl⟩)
    · exact h.sub j h1
    · subst ha; right; exact Nat.le_trans h.only.size (OwnB.lt hown).1
  · refine h.only.trans (own2 := fun b => ∃ a, fa = some a ∧ b = a.block) ?_ (fun _ h => .inl h)
    have o1 : Only (fun b => ∃ a, fa = some a ∧ b = a.block) wr (wr.setCell ⟨g, k * 3 + 2, none⟩ (.int .i64 (x : Int))) := Only.set _ _ _ _ ⟨_, hg, rfl⟩
    have o2 : Only (fun b => ∃ a, fa = some a ∧ b = a.block) (wr.setCell ⟨g, k * 3 + 2, none⟩ (.int .i64 (x : Int))) w2 := Only.of (by rw [hsz]; exact hb)
    have o3 : Only (fun b => ∃ a, fa = some a ∧ b = a.block) w2 (w2.setCell ⟨g, k * 3 + 1, none⟩ (.slice A x c)) := Only.set _ _ _ _ ⟨_, hg, rfl⟩
    exact (o1.trans o2 (fun _ h => .inl h)).trans o3 (fun _ h => .inl h)
theorem RCr.drewN (h : RCr w wr R own s rf rk fa fc ka kc l own2 Ad) (n : Nat) : RCr w (wr.drewN n) R own s rf rk fa fc ka kc l own2 Ad := ⟨h.rp.same (Nat.le_refl _) fun _ _ => rfl, h.sub, h.only.drewN n⟩
/-- What a round reads. -/
theorem RCr.facts {ks : List Int} {k : Nat} (h : RCr w wr R own s rf rk fa fc ka kc (crashTo s.fs ks k) own2 Ad) (hk : k < s.fs.length) :
    ∃ g f, fa = some ⟨g, 0, none⟩ ∧ Hid (f = s.fs[k]'hk) ∧ wr.cell? ⟨R, 1, none⟩ = some (.slice fa s.fs.length fc) ∧ wr.cell? ⟨g, k * 3 + 1, none⟩ = some (.slice (Ad f.nm).1 f.zs.length (Ad f.nm).2) ∧ wr.cell? ⟨g, k * 3 + 2, none⟩ = some (.int .i64 (f.sure : Int))
      ∧ R ≠ g ∧ wr.frozen? ⟨g, k * 3 + 1, none⟩ = false ∧ wr.frozen? ⟨g, k * 3 + 2, none⟩ = false ∧ Hid (OwnB wr 0 (Ad f.nm).1 (Ad f.nm).2 f.zs) ∧ f.sure ≤ f.zs.length ∧ f.zs.length ≤ 16777216 ∧ g < wr.heap.size ∧ R < wr.heap.size := by
  have hl2 : k < (crashTo s.fs ks k).length := by rw [crashTo_len]; exact hk
  have e : (crashTo s.fs ks k)[k]'hl2 = s.fs[k]'hk := by
    have := crashTo_at s.fs ks k hk
    rw [List.getElem?_eq_getElem hl2] at this
    exact Option.some.inj this
  obtain ⟨g, hg, d1, d2, d3⟩ := h.rp.rs.cell (i := k) hl2
  have d2 : wr.cell? ⟨g, k * 3 + 1, none⟩ = some (.slice (Ad ((crashTo s.fs ks k)[k]'hl2).nm).1 ((crashTo s.fs ks k)[k]'hl2).zs.length (Ad ((crashTo s.fs ks k)[k]'hl2).nm).2) := d2
  have d3 : wr.cell? ⟨g, k * 3 + 2, none⟩ = some (.int .i64 (((crashTo s.fs ks k)[k]'hl2).sure : Int)) := d3
  rw [e] at d2 d3
  have hm : s.fs[k]'hk ∈ crashTo s.fs ks k := by rw [← e]; exact List.getElem_mem hl2
  obtain ⟨cells, _⟩ := obj5 h.rp.rs.obj
  have c1 := cells.2.1
  have c1 : wr.cell? ⟨R, 1, none⟩ = some (.slice fa (crashTo s.fs ks k).length fc) := c1
  rw [crashTo_len] at c1
  have hfl := h.rp.rs.files
  rw [hg] at hfl
  obtain ⟨cur, hb⟩ := ownsRow_block hfl
  have hb : wr.heap[g]? = some (.cells cur 76 (0, 0)) := hb
  have hi := h.rp.rs.inv
  have h1 : (s.fs[k]'hk).sure ≤ (s.fs[k]'hk).zs.length := hi.sure _ hm
  have h2 : (s.fs[k]'hk).zs.length ≤ total (crashTo s.fs ks k) := total_mem hm
  have h3 : total (crashTo s.fs ks k) ≤ s.room := hi.tot
  have h4 : s.room ≤ 16777216 := hi.room
  exact ⟨g, s.fs[k]'hk, hg, Lib.hid rfl, c1, d2, d3, fun e => (h.rp.files_ne hg).1 e.symm, by simp [World.frozen?, hb], by simp [World.frozen?, hb], Lib.hid (h.rp.rs.rows _ hm), h1, by omega, h.rp.lt g (h.rp.ownF ⟨g, 0, none⟩ hg), h.rp.lt R h.rp.ownT⟩
end
/-! ### --- -/
open Go.RowKit St

section
variable {w wr : World} {R : Nat} {own : Nat → Prop} {s : S} {rf : Int} {rk : List Int} {fa : Option Addr} {fc : Nat} {ka : Option Addr} {kc : Nat} {own2 : Nat → Prop} {Ad : List UInt8 → Option Addr × Nat} {ks : List Int} {k g : Nat} {f : F}
/-- Behind the first store. -/
theorem RCr.next (h : RCr w wr R own s rf rk fa fc ka kc (crashTo s.fs ks k) own2 Ad) (hk : k < s.fs.length) (hg : fa = some ⟨g, 0, none⟩) (hf : f = s.fs[k]'hk) {x : Nat} (hx : x ≤ f.zs.length) {w1 : World} (hw : w1 = (wr.setCell ⟨g, k * 3 + 2, none⟩ (.int .i64 (x : Int))).drew) :
    w1.cell? ⟨R, 1, none⟩ = some (.slice fa s.fs.length fc) ∧ w1.cell? ⟨g, k * 3 + 1, none⟩ = some (.slice (Ad f.nm).1 f.zs.length (Ad f.nm).2) ∧ w1.cell? ⟨g, k * 3 + 2, none⟩ = some (.int .i64 (x : Int))
      ∧ w1.frozen? ⟨g, k * 3 + 1, none⟩ = false ∧ Hid (OwnB w1 0 (Ad f.nm).1 (Ad f.nm).2 f.zs) ∧ w1.heap.size = wr.heap.size ∧ Hid (Below wr.heap.size (wr.setCell ⟨g, k * 3 + 2, none⟩ (.int .i64 (x : Int))) w1) := by
  have hl2 : k < (crashTo s.fs ks k).length := by rw [crashTo_len]; exact hk
  have e : (crashTo s.fs ks k)[k]'hl2 = f := by
    have := crashTo_at s.fs ks k hk
    rw [List.getElem?_eq_getElem hl2] at this
    rw [hf]; exact Option.some.inj this
  obtain ⟨f1, hf1⟩ : ∃ f1, f1 = ({ f with sure := x } : F) := ⟨_, rfl⟩
  obtain ⟨l1, hl1⟩ : ∃ l1, l1 = (crashTo s.fs ks k).set k f1 := ⟨_, rfl⟩
  have p0 : RP (wr.setCell ⟨g, k * 3 + 2, none⟩ (.int .i64 (x : Int))) R own2 { s with fs := l1 } rf rk Ad fa fc ka kc := by
    have := h.rp.sure (k := k) hl2 hg x (by show x ≤ ((crashTo s.fs ks k)[k]'hl2).zs.length; rw [e]; exact hx)
    rw [hl1, hf1, ← e]; exact this
  have p1 : RP w1 R own2 { s with fs := l1 } rf rk Ad fa fc ka kc := by subst hw; exact p0.same (Nat.le_refl _) fun _ _ => rfl
  have hk1 : k < l1.length := by rw [hl1, List.length_set]; exact hl2
  have e1 : l1[k]'hk1 = f1 := by subst hl1; exact List.getElem_set_self _
  obtain ⟨g', hg', d1, d2, d3⟩ := p1.rs.cell (i := k) hk1
  obtain rfl : g = g' := by rw [hg] at hg'; injection hg' with e; injection e
  have d2 : w1.cell? ⟨g, k * 3 + 1, none⟩ = some (.slice (Ad (l1[k]'hk1).nm).1 (l1[k]'hk1).zs.length (Ad (l1[k]'hk1).nm).2) := d2
  have d3 : w1.cell? ⟨g, k * 3 + 2, none⟩ = some (.int .i64 ((l1[k]'hk1).sure : Int)) := d3
  have hrow : OwnB w1 0 (Ad (l1[k]'hk1).nm).1 (Ad (l1[k]'hk1).nm).2 (l1[k]'hk1).zs := p1.rs.rows _ (List.getElem_mem hk1)
  rw [e1, hf1] at d2 d3 hrow
  obtain ⟨cells, _⟩ := obj5 p1.rs.obj
  have c1 : w1.cell? ⟨R, 1, none⟩ = some (.slice fa l1.length fc) := cells.2.1
  rw [hl1, List.length_set, crashTo_len] at c1
  have hfl := p1.rs.files
  rw [hg] at hfl
  obtain ⟨cur, hb⟩ := ownsRow_block hfl
  have hb : w1.heap[g]? = some (.cells cur 76 (0, 0)) := hb
  have hsz : w1.heap.size = wr.heap.size := by subst hw; simp [World.setCell, World.drew]
  refine ⟨c1, d2, d3, by simp [World.frozen?, hb], Lib.hid hrow, hsz, Lib.hid ?_⟩
  subst hw
  exact (Below.refl _ _).drew
/-- Behind the second. -/
theorem RCr.fall (h : RCr w wr R own s rf rk fa fc ka kc (crashTo s.fs ks k) own2 Ad) (hk : k < s.fs.length) (hg : fa = some ⟨g, 0, none⟩) (hf : f = s.fs[k]'hk) (hne : f.sure ≠ f.zs.length) {at_ : Nat} (hat : at_ = cnt (s.fs.take k)) {kv : Int} (hkv : kv = ks.getD at_ 0) {x : Nat} (hx : x = f.sure + min kv.toNat (f.zs.length - f.sure)) (hsu : f.sure ≤ f.zs.length)
    {w2 : World} {A : Option Addr} {c : Nat} (hb : Below wr.heap.size (wr.setCell ⟨g, k * 3 + 2, none⟩ (.int .i64 (x : Int))) w2) (hown : OwnB w2 wr.heap.size A c (f.zs.take x)) :
    ∃ own3 Ad3, at_ + 1 = cnt (s.fs.take (k + 1)) ∧ RCr w (w2.setCell ⟨g, k * 3 + 1, none⟩ (.slice A x c)) R own s rf rk fa fc ka kc (crashTo s.fs ks (k + 1)) own3 Ad3 := by
  have hl2 : k < (crashTo s.fs ks k).length := by rw [crashTo_len]; exact hk
  have e : (crashTo s.fs ks k)[k]'hl2 = f := by
    have := crashTo_at s.fs ks k hk
    rw [List.getElem?_eq_getElem hl2] at this
    rw [hf]; exact Option.some.inj this
  obtain ⟨st1, st2⟩ := crashTo_step s.fs ks k hk (by rw [← hf]; exact hne)
  obtain ⟨own3, Ad3, r⟩ := h.step hl2 hg (x := x) (by rw [e]; omega) hb (by rw [e]; exact hown)
  refine ⟨own3, Ad3, by rw [st2, hat], ?_⟩
  have e3 : crashF f kv = { f with zs := f.zs.take x, sure := x } := by unfold crashF; rw [hx]
  rw [st1, ← hat, ← hkv, ← hf, e3]
  rw [e] at r
  exact r
end
end Go.Proofs.Ytmahbcpkilegpaa
