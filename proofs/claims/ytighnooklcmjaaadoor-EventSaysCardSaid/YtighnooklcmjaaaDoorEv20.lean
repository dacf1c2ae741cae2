/-
  Part 20 of the texts behind the law: EvReadP.
-/
import Derived.Test.YtighnooklcmjaaaDoorEv15
import Derived.Test.YtighnooklcmjaaaDoorEv17
import Derived.Test.YtighnooklcmjaaaDoorEv13
/-
  The program's read, at all bytes.
-/
namespace Go.Proofs.YtighnooklcmjaaaDoor
open Go.RowKit
theorem Ev.stepP_in {r : Ev.R} {c : UInt8} (h : EvIn r.e) (_hk : 0 ≤ r.e.kind ∧ r.e.kind ≤ 9) (hb : En.Byte r.zs) : EvIn (Ev.stepP r c).e := by
  have m64 := Ev.valM_in r.zs r.b 64 (by decide) hb
  have m15 := Ev.valM_in r.zs r.b 15 (by decide) hb
  have m9 := Ev.valM_in r.zs r.b 9 (by decide) hb
  have s16 := Ev.valS_size r.zs r.b 16 (by decide)
  have sm := Ev.valS_size r.zs r.b (Ev.most r.e.kind) (Ev.most_ge _)
  have mm := Ev.most_le r.e.kind
  unfold Ev.stepP
  by_cases h1 : c = 114
  · rw [if_pos h1]; exact { h with run := ⟨by show _ ≤ En.valM _ _ _; omega, by show En.valM _ _ _ ≤ _; omega⟩ }
  by_cases h2 : c = 116
  · rw [if_neg h1, if_pos h2]; exact { h with task := ⟨by show _ ≤ En.valM _ _ _; omega, by show En.valM _ _ _ ≤ _; omega⟩ }
  by_cases h3 : c = 121
  · rw [if_neg h1, if_neg h2, if_pos h3]; exact { h with try_ := ⟨by show _ ≤ En.valM _ _ _; omega, by show En.valM _ _ _ ≤ _; omega⟩ }
  by_cases h4 : c = 110
  · rw [if_neg h1, if_neg h2, if_neg h3, if_pos h4]
    exact { h with n := ⟨by show _ ≤ wrap64 _; unfold wrap64; omega, by show wrap64 _ ≤ _; unfold wrap64; omega⟩ }
  by_cases h5 : c = 97
  · rw [if_neg h1, if_neg h2, if_neg h3, if_neg h4, if_pos h5]; exact { h with name := by show (En.valS _ _ _).size ≤ _; omega }
  by_cases h6 : c = 107
  · rw [if_neg h1, if_neg h2, if_neg h3, if_neg h4, if_neg h5, if_pos h6]; exact { h with key := by show (En.valS _ _ _).size ≤ _; omega }
  · rw [if_neg h1, if_neg h2, if_neg h3, if_neg h4, if_neg h5, if_neg h6]; exact { h with data := by show (En.valS _ _ _).size ≤ _; omega }
theorem Ev.foldP_in : ∀ (cs : List UInt8) (r : Ev.R), EvIn r.e → (0 ≤ r.e.kind ∧ r.e.kind ≤ 9) → En.Byte r.zs → EvIn (cs.foldl Ev.stepP r).e
  | [], _, h, _, _ => h
  | c :: cs, r, h, hk, hb => by
    rw [List.foldl_cons]
    exact Ev.foldP_in cs _ (Ev.stepP_in h hk hb) (by rw [Ev.stepP_kind]; exact hk) (Ev.stepP_byte r c hb)
theorem Ev.rdP_in (zs : List Int) (hb : En.Byte zs) : EvIn (Ev.rdP zs).e :=
  Ev.foldP_in _ _ (Ev.start_in zs hb) (Ev.valM_in zs false 9 (by decide) hb) (En.restM_byte _ _ _ hb)
/-- While an event is read: the result's cell, the reader, the event that is filled, the shape of its kind. -/
structure GP (w wr : World) (g g2 : Nat) (cs : Array Value) (r : Ev.R) : Prop where
  b : But w.heap.size g w wr
  z : wr.heap[w.heap.size]? = some (.cells (evc Ev.zero) 24 (0, 0))
  i : InAt wr 59 g r.zs r.b
  e : wr.heap[g2]? = some (.cells (evc r.e) 24 (0, 0))
  s : wr.heap[g2 + 1]? = some (.cells cs 44 (0, 0))
  n0 : g < w.heap.size
  n1 : w.heap.size < g2
theorem GP.read {w wr w' : World} {g g2 : Nat} {cs : Array Value} {r : Ev.R} {zs : List Int} {b : Bool} (h : GP w wr g g2 cs r) (hp : InPost wr 59 g zs b w') : GP w w' g g2 cs ⟨zs, b, r.e⟩ :=
  ⟨h.b.trans (hp.2.mono h.b.size), (hp.2.block _ (lt_of_block h.z) (by have := h.n0; omega)).trans h.z, hp.1, (hp.2.block _ (lt_of_block h.e) (by have := h.n0; have := h.n1; omega)).trans h.e,
    (hp.2.block _ (lt_of_block h.s) (by have := h.n0; have := h.n1; omega)).trans h.s, h.n0, h.n1⟩
theorem GP.store {w wr : World} {g g2 : Nat} {cs : Array Value} {r : Ev.R} (h : GP w wr g g2 cs r) {j : Nat} {v : Value} {x : Ev.E} (hx : (evc r.e).setIfInBounds j v = evc x) : GP w (wr.setCell ⟨g2, j, none⟩ v) g g2 cs ⟨r.zs, r.b, x⟩ :=
  ⟨h.b.trans (But.of ((Below.refl _ _).setCell (p := ⟨g2, j, none⟩) (by have := h.n1; show _ ≤ g2; omega) _)), (Below.heap_setCell _ _ _ _ (by have := h.n1; show _ ≠ g2; omega)).trans h.z,
    h.i.keep (But.set _ _ _ _ _) h.e (ev_no8 _) (by have := h.n0; have := h.n1; omega), by rw [← hx]; exact obj_set h.e v, (Below.heap_setCell _ _ _ _ (by show _ ≠ g2; omega)).trans h.s, h.n0, h.n1⟩
theorem GP.ret {w wr : World} {g g2 : Nat} {cs : Array Value} {r : Ev.R} (h : GP w wr g g2 cs r) (v0 v1 v2 v3 v4 v5 v6 v7 : Value) :
    InAt (S8 wr w.heap.size v0 v1 v2 v3 v4 v5 v6 v7) 59 g r.zs r.b ∧ But w.heap.size g w (S8 wr w.heap.size v0 v1 v2 v3 v4 v5 v6 v7) :=
  ⟨h.i.keep (S8.but _ _ _ _ _ _ _ _ _ _ _) h.z (ev_no8 _) (by have := h.n0; omega), h.b.trans (But.of (S8.below (Below.refl _ _) (Nat.le_refl _) _ _ _ _ _ _ _ _))⟩
theorem wrap_i64_eq (z : Int) : IntKind.i64.wrap z = wrap64 z := by rw [IntKind.wrap_i64]; unfold wrap64; rfl
def RdP (w : World) (g : Nat) (zs : List Int) (r : Ending) (w' : World) : Prop := r = .returned (.agg (evc (Ev.rdP zs).e)) ∧ InAt w' 59 g (Ev.rdP zs).zs (Ev.rdP zs).b ∧ But w.heap.size g w w'
theorem RdP.mk_ {w w' : World} {g : Nat} {zs ys : List Int} {b : Bool} {e : Ev.E} {v : Value} (h : Ev.rdP zs = ⟨ys, b, e⟩) (hv : v = .agg (evc e)) (h2 : InAt w' 59 g ys b ∧ But w.heap.size g w w') : RdP w g zs (.returned v) w' := by
  unfold RdP
  rw [h, hv]
  exact ⟨rfl, h2⟩
set_option maxRecDepth 100000 in
set_option maxHeartbeats 16000000 in
theorem read_p (g : Nat) (zs : List Int) (w : World) (h : InAt w 59 g zs false) (hF : ∀ W, But w.heap.size g w W → FactsS W) :
    Calls Tryd.prog 27 #[.pointer (some ⟨g, 0, none⟩)] w (RdP w g zs) := by
  have hb := h.byte
  have hgw : g < w.heap.size := by obtain ⟨A, cap, h1, _⟩ := h; exact lt_of_block h1
  have HGW := Lib.hid hgw
  have FF := Lib.hid hF
  have VR := Ev.valM_in zs false 9 (by decide) hb
  have RD : Hid (Ev.rdP zs = (Ev.codes (En.valM zs false 9)).foldl Ev.stepP ⟨En.restM zs false 9, !En.okM zs false 9, { Ev.zero with kind := En.valM zs false 9 }⟩) := Lib.hid rfl
  obtain ⟨W1, hW1⟩ : ∃ W1, W1 = w.alloc (.cells #[.int .i64 0, .int .i64 0, .int .i64 0, .int .i64 0, .int .i64 0, .string ⟨#[]⟩, .string ⟨#[]⟩, .string ⟨#[]⟩] 24) := ⟨_, rfl⟩
  have B1 : Below w.heap.size w W1 := by rw [hW1]; exact (Below.refl _ _).alloc (Nat.le_refl _) _
  have Z1 : W1.heap[w.heap.size]? = some (.cells (evc Ev.zero) 24 (0, 0)) := by rw [hW1]; exact heap_alloc_new w _
  have SM := Lib.hid (inSmall_any g zs false 9 (by decide) (by decide) W1 (h.below B1 (Nat.le_refl _)))
  have HB1 := Lib.hid B1
  have HZ1 := Lib.hid Z1
  have HW := Lib.hid hW1
  clear h hb hF hgw B1 Z1 hW1
  go_enter Tryd.func27, Tryd.ntmps27
  go_wp2_with fail
  rw [← HW.out]
  (with_reducible refine SM.out.mono ?_); rintro e w2 ⟨rfl, hp⟩
  have HP := Lib.hid hp
  clear HW SM hp
  obtain ⟨vk, hvk⟩ : ∃ vk, vk = En.valM zs false 9 := ⟨_, rfl⟩
  rw [← hvk] at RD VR
  have HVK := Lib.hid hvk
  clear hvk
  go_upto_region 2 with fail
  rw [← HVK.out]
  obtain ⟨g2, hg2⟩ : ∃ g2, g2 = w2.heap.size := ⟨_, rfl⟩
  obtain ⟨W3, hW3⟩ : ∃ W3, W3 = w2.alloc (.cells #[.int .i64 vk, .int .i64 0, .int .i64 0, .int .i64 0, .int .i64 0, .string ⟨#[]⟩, .string ⟨#[]⟩, .string ⟨#[]⟩] 24) := ⟨_, rfl⟩
  have n2 : w.heap.size < w2.heap.size := by have := HP.out.2.size; have := lt_of_block HZ1.out; omega
  have P3 : Below w2.heap.size w2 W3 := by rw [hW3]; exact (Below.refl _ _).alloc (Nat.le_refl _) _
  have BW : Hid (But w.heap.size g w W3) := Lib.hid ((But.of HB1.out).trans ((HP.out.2.mono HB1.out.size).trans (But.of (P3.mono (Nat.le_of_lt n2)))))
  have ZW : Hid (W3.heap[w.heap.size]? = some (.cells (evc Ev.zero) 24 (0, 0))) := Lib.hid ((P3.block _ n2).trans ((HP.out.2.block _ (lt_of_block HZ1.out) (by have := HGW.out; omega)).trans HZ1.out))
  have IW : Hid (InAt W3 59 g (En.restM zs false 9) (!En.okM zs false 9)) := Lib.hid (HP.out.1.below P3 (Nat.le_refl _))
  have EW : Hid (W3.heap[g2]? = some (.cells #[.int .i64 vk, .int .i64 0, .int .i64 0, .int .i64 0, .int .i64 0, .string ⟨#[]⟩, .string ⟨#[]⟩, .string ⟨#[]⟩] 24 (0, 0))) := Lib.hid (by rw [hW3, hg2]; exact heap_alloc_new w2 _)
  have SW : Hid (W3.heap.size = g2 + 1) := Lib.hid (by rw [hW3, hg2]; simp)
  have N2 : Hid (w.heap.size < g2) := Lib.hid (by rw [hg2]; exact n2)
  rw [← hW3, ← hg2]
  clear hW3 hg2 n2 P3 HP HB1 HZ1
  obtain ⟨zs0, hz0⟩ : ∃ z, z = En.restM zs false 9 := ⟨_, rfl⟩
  obtain ⟨b0, hb0⟩ : ∃ b, b = !En.okM zs false 9 := ⟨_, rfl⟩
  rw [← hz0, ← hb0] at RD IW
  clear hz0 hb0 HVK
  have hc : vk = 0 ∨ vk = 1 ∨ vk = 2 ∨ vk = 3 ∨ vk = 4 ∨ vk = 5 ∨ vk = 6 ∨ vk = 7 ∨ vk = 8 ∨ vk = 9 := by omega
  clear VR
  rcases hc with rfl | rfl | rfl | rfl | rfl | rfl | rfl | rfl | rfl | rfl
  · have st := 0
    clear st
    have RD0 : Hid (Ev.rdP zs = [].foldl Ev.stepP ⟨zs0, b0, ⟨0, 0, 0, 0, 0, ⟨#[]⟩, ⟨#[]⟩, ⟨#[]⟩⟩⟩) := Lib.hid RD.out
    obtain ⟨c0, c1, c2, c3, c4, c5, c6, c7⟩ := (FF.out W3 BW.out).row (k := 0) (by decide)
    rw [show shW 0 = ⟨#[]⟩ from rfl] at c0
    rw [show shV 0 1 = 0 from rfl] at c1
    rw [show shV 0 2 = 0 from rfl] at c2
    rw [show shV 0 3 = 0 from rfl] at c3
    rw [show shV 0 4 = 0 from rfl] at c4
    rw [show shV 0 5 = 0 from rfl] at c5
    rw [show shV 0 6 = 0 from rfl] at c6
    rw [show shV 0 7 = 0 from rfl] at c7
    (simp only [Nat.reduceMul, Nat.reduceAdd] at c0 c1 c2 c3 c4 c5 c6 c7)
    obtain ⟨e0, e1, e2, e3, e4, e5, e6, e7⟩ := ob8 EW.out
    have sw := SW.out
    go_upto_region 3 with fail
    (try rw [sw])
    clear sw
    obtain ⟨W4, hW4⟩ : ∃ W4, W4 = W3.alloc (.cells #[.string ⟨#[]⟩, .int .i64 0, .int .i64 0, .int .i64 0, .int .i64 0, .int .i64 0, .int .i64 0, .int .i64 0] 44) := ⟨_, rfl⟩
    have P4 : Below W3.heap.size W3 W4 := by rw [hW4]; exact (Below.refl _ _).alloc (Nat.le_refl _) _
    have G0 : Hid (GP w W4 g g2 #[.string ⟨#[]⟩, .int .i64 0, .int .i64 0, .int .i64 0, .int .i64 0, .int .i64 0, .int .i64 0, .int .i64 0] ⟨zs0, b0, ⟨0, 0, 0, 0, 0, ⟨#[]⟩, ⟨#[]⟩, ⟨#[]⟩⟩⟩) := Lib.hid ⟨BW.out.trans (But.of (P4.mono BW.out.size)), (P4.block _ (lt_of_block ZW.out)).trans ZW.out, IW.out.below P4 (Nat.le_refl _), (P4.block _ (lt_of_block EW.out)).trans EW.out, by rw [hW4, ← SW.out]; exact heap_alloc_new W3 _, HGW.out, N2.out⟩
    rw [← hW4]
    clear hW4 P4 BW ZW IW EW SW RD FF c0 c1 c2 c3 c4 c5 c6 c7 e0 e1 e2 e3 e4 e5 e6 e7
    obtain ⟨d0, d1, d2, d3, d4, d5, d6, d7⟩ := ob8 G0.out.s
    have E1 : W4.heap[g2]? = some (.cells #[.int .i64 0, .int .i64 0, .int .i64 0, .int .i64 0, .int .i64 0, .string ⟨#[]⟩, .string ⟨#[]⟩, .string ⟨#[]⟩] 24 (0, 0)) := G0.out.e
    have E2 : W4.heap[w.heap.size]? = some (.cells #[.int .i64 0, .int .i64 0, .int .i64 0, .int .i64 0, .int .i64 0, .string ⟨#[]⟩, .string ⟨#[]⟩, .string ⟨#[]⟩] 24 (0, 0)) := G0.out.z
    obtain ⟨a0, a1, a2, a3, a4, a5, a6, a7⟩ := ob8 E1
    obtain ⟨⟨c0, c1, c2, c3, c4, c5, c6, c7⟩, f0, f1, f2, f3, f4, f5, f6, f7⟩ := And.intro (ob8 E2) (ob8f E2)
    clear E1 E2
    go_wp2
    have E3 := S8.at_ G0.out.z (.int .i64 0) (.int .i64 0) (.int .i64 0) (.int .i64 0) (.int .i64 0) (.string ⟨#[]⟩) (.string ⟨#[]⟩) (.string ⟨#[]⟩)
    have E4 := G0.out.ret (.int .i64 0) (.int .i64 0) (.int .i64 0) (.int .i64 0) (.int .i64 0) (.string ⟨#[]⟩) (.string ⟨#[]⟩) (.string ⟨#[]⟩)
    obtain ⟨d0, d1, d2, d3, d4, d5, d6, d7⟩ := ob8 E3
    unfold S8 at d0 d1 d2 d3 d4 d5 d6 d7
    exact bodyPost_ret (v := .agg #[.int .i64 0, .int .i64 0, .int .i64 0, .int .i64 0, .int .i64 0, .string ⟨#[]⟩, .string ⟨#[]⟩, .string ⟨#[]⟩]) (by simp [results, Tryd.results27, go_sem, d0, d1, d2, d3, d4, d5, d6, d7]) rfl (RdP.mk_ RD0.out rfl E4)
  · have st := 0
    clear st
    have RD0 : Hid (Ev.rdP zs = [97, 100].foldl Ev.stepP ⟨zs0, b0, ⟨1, 0, 0, 0, 0, ⟨#[]⟩, ⟨#[]⟩, ⟨#[]⟩⟩⟩) := Lib.hid RD.out
    obtain ⟨c0, c1, c2, c3, c4, c5, c6, c7⟩ := (FF.out W3 BW.out).row (k := 1) (by decide)
    rw [show shW 1 = ⟨#[100, 101, 102, 105, 110, 101]⟩ from rfl] at c0
    rw [show shV 1 1 = 0 from rfl] at c1
    rw [show shV 1 2 = 0 from rfl] at c2
    rw [show shV 1 3 = 0 from rfl] at c3
    rw [show shV 1 4 = 0 from rfl] at c4
    rw [show shV 1 5 = 16 from rfl] at c5
    rw [show shV 1 6 = 0 from rfl] at c6
    rw [show shV 1 7 = 900 from rfl] at c7
    (simp only [Nat.reduceMul, Nat.reduceAdd] at c0 c1 c2 c3 c4 c5 c6 c7)
    obtain ⟨e0, e1, e2, e3, e4, e5, e6, e7⟩ := ob8 EW.out
    have sw := SW.out
    go_upto_region 3 with fail
    (try rw [sw])
    clear sw
    obtain ⟨W4, hW4⟩ : ∃ W4, W4 = W3.alloc (.cells #[.string ⟨#[100, 101, 102, 105, 110, 101]⟩, .int .i64 0, .int .i64 0, .int .i64 0, .int .i64 0, .int .i64 16, .int .i64 0, .int .i64 900] 44) := ⟨_, rfl⟩
    have P4 : Below W3.heap.size W3 W4 := by rw [hW4]; exact (Below.refl _ _).alloc (Nat.le_refl _) _
    have G0 : Hid (GP w W4 g g2 #[.string ⟨#[100, 101, 102, 105, 110, 101]⟩, .int .i64 0, .int .i64 0, .int .i64 0, .int .i64 0, .int .i64 16, .int .i64 0, .int .i64 900] ⟨zs0, b0, ⟨1, 0, 0, 0, 0, ⟨#[]⟩, ⟨#[]⟩, ⟨#[]⟩⟩⟩) := Lib.hid ⟨BW.out.trans (But.of (P4.mono BW.out.size)), (P4.block _ (lt_of_block ZW.out)).trans ZW.out, IW.out.below P4 (Nat.le_refl _), (P4.block _ (lt_of_block EW.out)).trans EW.out, by rw [hW4, ← SW.out]; exact heap_alloc_new W3 _, HGW.out, N2.out⟩
    rw [← hW4]
    clear hW4 P4 BW ZW IW EW SW RD FF c0 c1 c2 c3 c4 c5 c6 c7 e0 e1 e2 e3 e4 e5 e6 e7
    obtain ⟨d0, d1, d2, d3, d4, d5, d6, d7⟩ := ob8 G0.out.s
    go_wp2_with fail
    (with_reducible refine (inS_any g zs0 b0 16 (by decide) (by decide) _ G0.out.i).mono ?_); rintro e w5 ⟨rfl, hp⟩
    have GR := Lib.hid (G0.out.read hp)
    clear hp G0 d0 d1 d2 d3 d4 d5 d6 d7
    obtain ⟨v1, hv⟩ : ∃ v, v = En.valS zs0 b0 16 := ⟨_, rfl⟩
    obtain ⟨zs1, hz⟩ : ∃ z, z = En.restS zs0 b0 16 := ⟨_, rfl⟩
    obtain ⟨b1, hb⟩ : ∃ b, b = !En.okS zs0 b0 16 := ⟨_, rfl⟩
    have RD1 : Hid (Ev.rdP zs = [100].foldl Ev.stepP ⟨zs1, b1, ⟨1, 0, 0, 0, 0, v1, ⟨#[]⟩, ⟨#[]⟩⟩⟩) := Lib.hid (by rw [RD0.out, hv, hz, hb]; rfl)
    rw [← hz, ← hb] at GR
    have HV := Lib.hid hv
    clear hv hz hb RD0
    have E1 : w5.heap[g2]? = some (.cells #[.int .i64 1, .int .i64 0, .int .i64 0, .int .i64 0, .int .i64 0, .string ⟨#[]⟩, .string ⟨#[]⟩, .string ⟨#[]⟩] 24 (0, 0)) := GR.out.e
    obtain ⟨c0, c1, c2, c3, c4, c5, c6, c7⟩ := ob8 E1
    obtain ⟨f0, f1, f2, f3, f4, f5, f6, f7⟩ := ob8f E1
    clear E1
    go_upto_region 13 with fail
    rw [← HV.out]
    clear HV
    obtain ⟨W5, hW⟩ : ∃ W, W = w5.setCell ⟨g2, 5, none⟩ (.string v1) := ⟨_, rfl⟩
    have G1 : Hid (GP w W5 g g2 #[.string ⟨#[100, 101, 102, 105, 110, 101]⟩, .int .i64 0, .int .i64 0, .int .i64 0, .int .i64 0, .int .i64 16, .int .i64 0, .int .i64 900] ⟨zs1, b1, ⟨1, 0, 0, 0, 0, v1, ⟨#[]⟩, ⟨#[]⟩⟩⟩) := Lib.hid (by rw [hW]; exact GR.out.store rfl)
    rw [← hW]
    clear hW GR c0 c1 c2 c3 c4 c5 c6 c7 f0 f1 f2 f3 f4 f5 f6 f7
    obtain ⟨d0, d1, d2, d3, d4, d5, d6, d7⟩ := ob8 G1.out.s
    go_wp2_with fail
    (with_reducible refine (inS_any g zs1 b1 900 (by decide) (by decide) _ G1.out.i).mono ?_); rintro e w6 ⟨rfl, hp⟩
    have GR := Lib.hid (G1.out.read hp)
    clear hp G1 d0 d1 d2 d3 d4 d5 d6 d7
    obtain ⟨v2, hv⟩ : ∃ v, v = En.valS zs1 b1 900 := ⟨_, rfl⟩
    obtain ⟨zs2, hz⟩ : ∃ z, z = En.restS zs1 b1 900 := ⟨_, rfl⟩
    obtain ⟨b2, hb⟩ : ∃ b, b = !En.okS zs1 b1 900 := ⟨_, rfl⟩
    have RD2 : Hid (Ev.rdP zs = [].foldl Ev.stepP ⟨zs2, b2, ⟨1, 0, 0, 0, 0, v1, ⟨#[]⟩, v2⟩⟩) := Lib.hid (by rw [RD1.out, hv, hz, hb]; rfl)
    rw [← hz, ← hb] at GR
    have HV := Lib.hid hv
    clear hv hz hb RD1
    have E1 : w6.heap[g2]? = some (.cells #[.int .i64 1, .int .i64 0, .int .i64 0, .int .i64 0, .int .i64 0, .string v1, .string ⟨#[]⟩, .string ⟨#[]⟩] 24 (0, 0)) := GR.out.e
    obtain ⟨c0, c1, c2, c3, c4, c5, c6, c7⟩ := ob8 E1
    obtain ⟨f0, f1, f2, f3, f4, f5, f6, f7⟩ := ob8f E1
    clear E1
    go_upto_region 17 with fail
    rw [← HV.out]
    clear HV
    obtain ⟨W6, hW⟩ : ∃ W, W = w6.setCell ⟨g2, 7, none⟩ (.string v2) := ⟨_, rfl⟩
    have G2 : Hid (GP w W6 g g2 #[.string ⟨#[100, 101, 102, 105, 110, 101]⟩, .int .i64 0, .int .i64 0, .int .i64 0, .int .i64 0, .int .i64 16, .int .i64 0, .int .i64 900] ⟨zs2, b2, ⟨1, 0, 0, 0, 0, v1, ⟨#[]⟩, v2⟩⟩) := Lib.hid (by rw [hW]; exact GR.out.store rfl)
    rw [← hW]
    clear hW GR c0 c1 c2 c3 c4 c5 c6 c7 f0 f1 f2 f3 f4 f5 f6 f7
    obtain ⟨d0, d1, d2, d3, d4, d5, d6, d7⟩ := ob8 G2.out.s
    have E1 : W6.heap[g2]? = some (.cells #[.int .i64 1, .int .i64 0, .int .i64 0, .int .i64 0, .int .i64 0, .string v1, .string ⟨#[]⟩, .string v2] 24 (0, 0)) := G2.out.e
    have E2 : W6.heap[w.heap.size]? = some (.cells #[.int .i64 0, .int .i64 0, .int .i64 0, .int .i64 0, .int .i64 0, .string ⟨#[]⟩, .string ⟨#[]⟩, .string ⟨#[]⟩] 24 (0, 0)) := G2.out.z
    obtain ⟨a0, a1, a2, a3, a4, a5, a6, a7⟩ := ob8 E1
    obtain ⟨⟨c0, c1, c2, c3, c4, c5, c6, c7⟩, f0, f1, f2, f3, f4, f5, f6, f7⟩ := And.intro (ob8 E2) (ob8f E2)
    clear E1 E2
    go_wp2
    have E3 := S8.at_ G2.out.z (.int .i64 1) (.int .i64 0) (.int .i64 0) (.int .i64 0) (.int .i64 0) (.string v1) (.string ⟨#[]⟩) (.string v2)
    have E4 := G2.out.ret (.int .i64 1) (.int .i64 0) (.int .i64 0) (.int .i64 0) (.int .i64 0) (.string v1) (.string ⟨#[]⟩) (.string v2)
    obtain ⟨d0, d1, d2, d3, d4, d5, d6, d7⟩ := ob8 E3
    unfold S8 at d0 d1 d2 d3 d4 d5 d6 d7
    exact bodyPost_ret (v := .agg #[.int .i64 1, .int .i64 0, .int .i64 0, .int .i64 0, .int .i64 0, .string v1, .string ⟨#[]⟩, .string v2]) (by simp [results, Tryd.results27, go_sem, d0, d1, d2, d3, d4, d5, d6, d7]) rfl (RdP.mk_ RD2.out rfl E4)
  · have st := 0
    clear st
    have RD0 : Hid (Ev.rdP zs = [114, 97, 107].foldl Ev.stepP ⟨zs0, b0, ⟨2, 0, 0, 0, 0, ⟨#[]⟩, ⟨#[]⟩, ⟨#[]⟩⟩⟩) := Lib.hid RD.out
    obtain ⟨c0, c1, c2, c3, c4, c5, c6, c7⟩ := (FF.out W3 BW.out).row (k := 2) (by decide)
    rw [show shW 2 = ⟨#[115, 116, 97, 114, 116]⟩ from rfl] at c0
    rw [show shV 2 1 = 64 from rfl] at c1
    rw [show shV 2 2 = 0 from rfl] at c2
    rw [show shV 2 3 = 0 from rfl] at c3
    rw [show shV 2 4 = 0 from rfl] at c4
    rw [show shV 2 5 = 16 from rfl] at c5
    rw [show shV 2 6 = 16 from rfl] at c6
    rw [show shV 2 7 = 0 from rfl] at c7
    (simp only [Nat.reduceMul, Nat.reduceAdd] at c0 c1 c2 c3 c4 c5 c6 c7)
    obtain ⟨e0, e1, e2, e3, e4, e5, e6, e7⟩ := ob8 EW.out
    have sw := SW.out
    go_upto_region 3 with fail
    (try rw [sw])
    clear sw
    obtain ⟨W4, hW4⟩ : ∃ W4, W4 = W3.alloc (.cells #[.string ⟨#[115, 116, 97, 114, 116]⟩, .int .i64 64, .int .i64 0, .int .i64 0, .int .i64 0, .int .i64 16, .int .i64 16, .int .i64 0] 44) := ⟨_, rfl⟩
    have P4 : Below W3.heap.size W3 W4 := by rw [hW4]; exact (Below.refl _ _).alloc (Nat.le_refl _) _
    have G0 : Hid (GP w W4 g g2 #[.string ⟨#[115, 116, 97, 114, 116]⟩, .int .i64 64, .int .i64 0, .int .i64 0, .int .i64 0, .int .i64 16, .int .i64 16, .int .i64 0] ⟨zs0, b0, ⟨2, 0, 0, 0, 0, ⟨#[]⟩, ⟨#[]⟩, ⟨#[]⟩⟩⟩) := Lib.hid ⟨BW.out.trans (But.of (P4.mono BW.out.size)), (P4.block _ (lt_of_block ZW.out)).trans ZW.out, IW.out.below P4 (Nat.le_refl _), (P4.block _ (lt_of_block EW.out)).trans EW.out, by rw [hW4, ← SW.out]; exact heap_alloc_new W3 _, HGW.out, N2.out⟩
    rw [← hW4]
    clear hW4 P4 BW ZW IW EW SW RD FF c0 c1 c2 c3 c4 c5 c6 c7 e0 e1 e2 e3 e4 e5 e6 e7
    obtain ⟨d0, d1, d2, d3, d4, d5, d6, d7⟩ := ob8 G0.out.s
    go_wp2_with fail
    (with_reducible refine (inSmall_any g zs0 b0 64 (by decide) (by decide) _ G0.out.i).mono ?_); rintro e w5 ⟨rfl, hp⟩
    have GR := Lib.hid (G0.out.read hp)
    clear hp G0 d0 d1 d2 d3 d4 d5 d6 d7
    obtain ⟨v1, hv⟩ : ∃ v, v = En.valM zs0 b0 64 := ⟨_, rfl⟩
    obtain ⟨zs1, hz⟩ : ∃ z, z = En.restM zs0 b0 64 := ⟨_, rfl⟩
    obtain ⟨b1, hb⟩ : ∃ b, b = !En.okM zs0 b0 64 := ⟨_, rfl⟩
    have RD1 : Hid (Ev.rdP zs = [97, 107].foldl Ev.stepP ⟨zs1, b1, ⟨2, v1, 0, 0, 0, ⟨#[]⟩, ⟨#[]⟩, ⟨#[]⟩⟩⟩) := Lib.hid (by rw [RD0.out, hv, hz, hb]; rfl)
    rw [← hz, ← hb] at GR
    have HV := Lib.hid hv
    clear hv hz hb RD0
    have E1 : w5.heap[g2]? = some (.cells #[.int .i64 2, .int .i64 0, .int .i64 0, .int .i64 0, .int .i64 0, .string ⟨#[]⟩, .string ⟨#[]⟩, .string ⟨#[]⟩] 24 (0, 0)) := GR.out.e
    obtain ⟨c0, c1, c2, c3, c4, c5, c6, c7⟩ := ob8 E1
    obtain ⟨f0, f1, f2, f3, f4, f5, f6, f7⟩ := ob8f E1
    clear E1
    go_upto_region 5 with fail
    rw [← HV.out]
    clear HV
    obtain ⟨W5, hW⟩ : ∃ W, W = w5.setCell ⟨g2, 1, none⟩ (.int .i64 v1) := ⟨_, rfl⟩
    have G1 : Hid (GP w W5 g g2 #[.string ⟨#[115, 116, 97, 114, 116]⟩, .int .i64 64, .int .i64 0, .int .i64 0, .int .i64 0, .int .i64 16, .int .i64 16, .int .i64 0] ⟨zs1, b1, ⟨2, v1, 0, 0, 0, ⟨#[]⟩, ⟨#[]⟩, ⟨#[]⟩⟩⟩) := Lib.hid (by rw [hW]; exact GR.out.store rfl)
    rw [← hW]
    clear hW GR c0 c1 c2 c3 c4 c5 c6 c7 f0 f1 f2 f3 f4 f5 f6 f7
    obtain ⟨d0, d1, d2, d3, d4, d5, d6, d7⟩ := ob8 G1.out.s
    go_wp2_with fail
    (with_reducible refine (inS_any g zs1 b1 16 (by decide) (by decide) _ G1.out.i).mono ?_); rintro e w6 ⟨rfl, hp⟩
    have GR := Lib.hid (G1.out.read hp)
    clear hp G1 d0 d1 d2 d3 d4 d5 d6 d7
    obtain ⟨v2, hv⟩ : ∃ v, v = En.valS zs1 b1 16 := ⟨_, rfl⟩
    obtain ⟨zs2, hz⟩ : ∃ z, z = En.restS zs1 b1 16 := ⟨_, rfl⟩
    obtain ⟨b2, hb⟩ : ∃ b, b = !En.okS zs1 b1 16 := ⟨_, rfl⟩
    have RD2 : Hid (Ev.rdP zs = [107].foldl Ev.stepP ⟨zs2, b2, ⟨2, v1, 0, 0, 0, v2, ⟨#[]⟩, ⟨#[]⟩⟩⟩) := Lib.hid (by rw [RD1.out, hv, hz, hb]; rfl)
    rw [← hz, ← hb] at GR
    have HV := Lib.hid hv
    clear hv hz hb RD1
    have E1 : w6.heap[g2]? = some (.cells #[.int .i64 2, .int .i64 v1, .int .i64 0, .int .i64 0, .int .i64 0, .string ⟨#[]⟩, .string ⟨#[]⟩, .string ⟨#[]⟩] 24 (0, 0)) := GR.out.e
    obtain ⟨c0, c1, c2, c3, c4, c5, c6, c7⟩ := ob8 E1
    obtain ⟨f0, f1, f2, f3, f4, f5, f6, f7⟩ := ob8f E1
    clear E1
    go_upto_region 13 with fail
    rw [← HV.out]
    clear HV
    obtain ⟨W6, hW⟩ : ∃ W, W = w6.setCell ⟨g2, 5, none⟩ (.string v2) := ⟨_, rfl⟩
    have G2 : Hid (GP w W6 g g2 #[.string ⟨#[115, 116, 97, 114, 116]⟩, .int .i64 64, .int .i64 0, .int .i64 0, .int .i64 0, .int .i64 16, .int .i64 16, .int .i64 0] ⟨zs2, b2, ⟨2, v1, 0, 0, 0, v2, ⟨#[]⟩, ⟨#[]⟩⟩⟩) := Lib.hid (by rw [hW]; exact GR.out.store rfl)
    rw [← hW]
    clear hW GR c0 c1 c2 c3 c4 c5 c6 c7 f0 f1 f2 f3 f4 f5 f6 f7
    obtain ⟨d0, d1, d2, d3, d4, d5, d6, d7⟩ := ob8 G2.out.s
    go_wp2_with fail
    (with_reducible refine (inS_any g zs2 b2 16 (by decide) (by decide) _ G2.out.i).mono ?_); rintro e w7 ⟨rfl, hp⟩
    have GR := Lib.hid (G2.out.read hp)
    clear hp G2 d0 d1 d2 d3 d4 d5 d6 d7
    obtain ⟨v3, hv⟩ : ∃ v, v = En.valS zs2 b2 16 := ⟨_, rfl⟩
    obtain ⟨zs3, hz⟩ : ∃ z, z = En.restS zs2 b2 16 := ⟨_, rfl⟩
    obtain ⟨b3, hb⟩ : ∃ b, b = !En.okS zs2 b2 16 := ⟨_, rfl⟩
    have RD3 : Hid (Ev.rdP zs = [].foldl Ev.stepP ⟨zs3, b3, ⟨2, v1, 0, 0, 0, v2, v3, ⟨#[]⟩⟩⟩) := Lib.hid (by rw [RD2.out, hv, hz, hb]; rfl)
    rw [← hz, ← hb] at GR
    have HV := Lib.hid hv
    clear hv hz hb RD2
    have E1 : w7.heap[g2]? = some (.cells #[.int .i64 2, .int .i64 v1, .int .i64 0, .int .i64 0, .int .i64 0, .string v2, .string ⟨#[]⟩, .string ⟨#[]⟩] 24 (0, 0)) := GR.out.e
    obtain ⟨c0, c1, c2, c3, c4, c5, c6, c7⟩ := ob8 E1
    obtain ⟨f0, f1, f2, f3, f4, f5, f6, f7⟩ := ob8f E1
    clear E1
    go_upto_region 15 with fail
    rw [← HV.out]
    clear HV
    obtain ⟨W7, hW⟩ : ∃ W, W = w7.setCell ⟨g2, 6, none⟩ (.string v3) := ⟨_, rfl⟩
    have G3 : Hid (GP w W7 g g2 #[.string ⟨#[115, 116, 97, 114, 116]⟩, .int .i64 64, .int .i64 0, .int .i64 0, .int .i64 0, .int .i64 16, .int .i64 16, .int .i64 0] ⟨zs3, b3, ⟨2, v1, 0, 0, 0, v2, v3, ⟨#[]⟩⟩⟩) := Lib.hid (by rw [hW]; exact GR.out.store rfl)
    rw [← hW]
    clear hW GR c0 c1 c2 c3 c4 c5 c6 c7 f0 f1 f2 f3 f4 f5 f6 f7
    obtain ⟨d0, d1, d2, d3, d4, d5, d6, d7⟩ := ob8 G3.out.s
    have E1 : W7.heap[g2]? = some (.cells #[.int .i64 2, .int .i64 v1, .int .i64 0, .int .i64 0, .int .i64 0, .string v2, .string v3, .string ⟨#[]⟩] 24 (0, 0)) := G3.out.e
    have E2 : W7.heap[w.heap.size]? = some (.cells #[.int .i64 0, .int .i64 0, .int .i64 0, .int .i64 0, .int .i64 0, .string ⟨#[]⟩, .string ⟨#[]⟩, .string ⟨#[]⟩] 24 (0, 0)) := G3.out.z
    obtain ⟨a0, a1, a2, a3, a4, a5, a6, a7⟩ := ob8 E1
    obtain ⟨⟨c0, c1, c2, c3, c4, c5, c6, c7⟩, f0, f1, f2, f3, f4, f5, f6, f7⟩ := And.intro (ob8 E2) (ob8f E2)
    clear E1 E2
    go_wp2
    have E3 := S8.at_ G3.out.z (.int .i64 2) (.int .i64 v1) (.int .i64 0) (.int .i64 0) (.int .i64 0) (.string v2) (.string v3) (.string ⟨#[]⟩)
    have E4 := G3.out.ret (.int .i64 2) (.int .i64 v1) (.int .i64 0) (.int .i64 0) (.int .i64 0) (.string v2) (.string v3) (.string ⟨#[]⟩)
    obtain ⟨d0, d1, d2, d3, d4, d5, d6, d7⟩ := ob8 E3
    unfold S8 at d0 d1 d2 d3 d4 d5 d6 d7
    exact bodyPost_ret (v := .agg #[.int .i64 2, .int .i64 v1, .int .i64 0, .int .i64 0, .int .i64 0, .string v2, .string v3, .string ⟨#[]⟩]) (by simp [results, Tryd.results27, go_sem, d0, d1, d2, d3, d4, d5, d6, d7]) rfl (RdP.mk_ RD3.out rfl E4)
  · have st := 0
    clear st
    have RD0 : Hid (Ev.rdP zs = [114, 116, 121].foldl Ev.stepP ⟨zs0, b0, ⟨3, 0, 0, 0, 0, ⟨#[]⟩, ⟨#[]⟩, ⟨#[]⟩⟩⟩) := Lib.hid RD.out
    obtain ⟨c0, c1, c2, c3, c4, c5, c6, c7⟩ := (FF.out W3 BW.out).row (k := 3) (by decide)
    rw [show shW 3 = ⟨#[108, 101, 97, 115, 101]⟩ from rfl] at c0
    rw [show shV 3 1 = 64 from rfl] at c1
    rw [show shV 3 2 = 15 from rfl] at c2
    rw [show shV 3 3 = 9 from rfl] at c3
    rw [show shV 3 4 = 0 from rfl] at c4
    rw [show shV 3 5 = 0 from rfl] at c5
    rw [show shV 3 6 = 0 from rfl] at c6
    rw [show shV 3 7 = 0 from rfl] at c7
    (simp only [Nat.reduceMul, Nat.reduceAdd] at c0 c1 c2 c3 c4 c5 c6 c7)
    obtain ⟨e0, e1, e2, e3, e4, e5, e6, e7⟩ := ob8 EW.out
    have sw := SW.out
    go_upto_region 3 with fail
    (try rw [sw])
    clear sw
    obtain ⟨W4, hW4⟩ : ∃ W4, W4 = W3.alloc (.cells #[.string ⟨#[108, 101, 97, 115, 101]⟩, .int .i64 64, .int .i64 15, .int .i64 9, .int .i64 0, .int .i64 0, .int .i64 0, .int .i64 0] 44) := ⟨_, rfl⟩
    have P4 : Below W3.heap.size W3 W4 := by rw [hW4]; exact (Below.refl _ _).alloc (Nat.le_refl _) _
    have G0 : Hid (GP w W4 g g2 #[.string ⟨#[108, 101, 97, 115, 101]⟩, .int .i64 64, .int .i64 15, .int .i64 9, .int .i64 0, .int .i64 0, .int .i64 0, .int .i64 0] ⟨zs0, b0, ⟨3, 0, 0, 0, 0, ⟨#[]⟩, ⟨#[]⟩, ⟨#[]⟩⟩⟩) := Lib.hid ⟨BW.out.trans (But.of (P4.mono BW.out.size)), (P4.block _ (lt_of_block ZW.out)).trans ZW.out, IW.out.below P4 (Nat.le_refl _), (P4.block _ (lt_of_block EW.out)).trans EW.out, by rw [hW4, ← SW.out]; exact heap_alloc_new W3 _, HGW.out, N2.out⟩
    rw [← hW4]
    clear hW4 P4 BW ZW IW EW SW RD FF c0 c1 c2 c3 c4 c5 c6 c7 e0 e1 e2 e3 e4 e5 e6 e7
    obtain ⟨d0, d1, d2, d3, d4, d5, d6, d7⟩ := ob8 G0.out.s
    go_wp2_with fail
    (with_reducible refine (inSmall_any g zs0 b0 64 (by decide) (by decide) _ G0.out.i).mono ?_); rintro e w5 ⟨rfl, hp⟩
    have GR := Lib.hid (G0.out.read hp)
    clear hp G0 d0 d1 d2 d3 d4 d5 d6 d7
    obtain ⟨v1, hv⟩ : ∃ v, v = En.valM zs0 b0 64 := ⟨_, rfl⟩
    obtain ⟨zs1, hz⟩ : ∃ z, z = En.restM zs0 b0 64 := ⟨_, rfl⟩
    obtain ⟨b1, hb⟩ : ∃ b, b = !En.okM zs0 b0 64 := ⟨_, rfl⟩
    have RD1 : Hid (Ev.rdP zs = [116, 121].foldl Ev.stepP ⟨zs1, b1, ⟨3, v1, 0, 0, 0, ⟨#[]⟩, ⟨#[]⟩, ⟨#[]⟩⟩⟩) := Lib.hid (by rw [RD0.out, hv, hz, hb]; rfl)
    rw [← hz, ← hb] at GR
    have HV := Lib.hid hv
    clear hv hz hb RD0
    have E1 : w5.heap[g2]? = some (.cells #[.int .i64 3, .int .i64 0, .int .i64 0, .int .i64 0, .int .i64 0, .string ⟨#[]⟩, .string ⟨#[]⟩, .string ⟨#[]⟩] 24 (0, 0)) := GR.out.e
    obtain ⟨c0, c1, c2, c3, c4, c5, c6, c7⟩ := ob8 E1
    obtain ⟨f0, f1, f2, f3, f4, f5, f6, f7⟩ := ob8f E1
    clear E1
    go_upto_region 5 with fail
    rw [← HV.out]
    clear HV
    obtain ⟨W5, hW⟩ : ∃ W, W = w5.setCell ⟨g2, 1, none⟩ (.int .i64 v1) := ⟨_, rfl⟩
    have G1 : Hid (GP w W5 g g2 #[.string ⟨#[108, 101, 97, 115, 101]⟩, .int .i64 64, .int .i64 15, .int .i64 9, .int .i64 0, .int .i64 0, .int .i64 0, .int .i64 0] ⟨zs1, b1, ⟨3, v1, 0, 0, 0, ⟨#[]⟩, ⟨#[]⟩, ⟨#[]⟩⟩⟩) := Lib.hid (by rw [hW]; exact GR.out.store rfl)
    rw [← hW]
    clear hW GR c0 c1 c2 c3 c4 c5 c6 c7 f0 f1 f2 f3 f4 f5 f6 f7
    obtain ⟨d0, d1, d2, d3, d4, d5, d6, d7⟩ := ob8 G1.out.s
    go_wp2_with fail
    (with_reducible refine (inSmall_any g zs1 b1 15 (by decide) (by decide) _ G1.out.i).mono ?_); rintro e w6 ⟨rfl, hp⟩
    have GR := Lib.hid (G1.out.read hp)
    clear hp G1 d0 d1 d2 d3 d4 d5 d6 d7
    obtain ⟨v2, hv⟩ : ∃ v, v = En.valM zs1 b1 15 := ⟨_, rfl⟩
    obtain ⟨zs2, hz⟩ : ∃ z, z = En.restM zs1 b1 15 := ⟨_, rfl⟩
    obtain ⟨b2, hb⟩ : ∃ b, b = !En.okM zs1 b1 15 := ⟨_, rfl⟩
    have RD2 : Hid (Ev.rdP zs = [121].foldl Ev.stepP ⟨zs2, b2, ⟨3, v1, v2, 0, 0, ⟨#[]⟩, ⟨#[]⟩, ⟨#[]⟩⟩⟩) := Lib.hid (by rw [RD1.out, hv, hz, hb]; rfl)
    rw [← hz, ← hb] at GR
    have HV := Lib.hid hv
    clear hv hz hb RD1
    have E1 : w6.heap[g2]? = some (.cells #[.int .i64 3, .int .i64 v1, .int .i64 0, .int .i64 0, .int .i64 0, .string ⟨#[]⟩, .string ⟨#[]⟩, .string ⟨#[]⟩] 24 (0, 0)) := GR.out.e
    obtain ⟨c0, c1, c2, c3, c4, c5, c6, c7⟩ := ob8 E1
    obtain ⟨f0, f1, f2, f3, f4, f5, f6, f7⟩ := ob8f E1
    clear E1
    go_upto_region 7 with fail
    rw [← HV.out]
    clear HV
    obtain ⟨W6, hW⟩ : ∃ W, W = w6.setCell ⟨g2, 2, none⟩ (.int .i64 v2) := ⟨_, rfl⟩
    have G2 : Hid (GP w W6 g g2 #[.string ⟨#[108, 101, 97, 115, 101]⟩, .int .i64 64, .int .i64 15, .int .i64 9, .int .i64 0, .int .i64 0, .int .i64 0, .int .i64 0] ⟨zs2, b2, ⟨3, v1, v2, 0, 0, ⟨#[]⟩, ⟨#[]⟩, ⟨#[]⟩⟩⟩) := Lib.hid (by rw [hW]; exact GR.out.store rfl)
    rw [← hW]
    clear hW GR c0 c1 c2 c3 c4 c5 c6 c7 f0 f1 f2 f3 f4 f5 f6 f7
    obtain ⟨d0, d1, d2, d3, d4, d5, d6, d7⟩ := ob8 G2.out.s
    go_wp2_with fail
    (with_reducible refine (inSmall_any g zs2 b2 9 (by decide) (by decide) _ G2.out.i).mono ?_); rintro e w7 ⟨rfl, hp⟩
    have GR := Lib.hid (G2.out.read hp)
    clear hp G2 d0 d1 d2 d3 d4 d5 d6 d7
    obtain ⟨v3, hv⟩ : ∃ v, v = En.valM zs2 b2 9 := ⟨_, rfl⟩
    obtain ⟨zs3, hz⟩ : ∃ z, z = En.restM zs2 b2 9 := ⟨_, rfl⟩
    obtain ⟨b3, hb⟩ : ∃ b, b = !En.okM zs2 b2 9 := ⟨_, rfl⟩
    have RD3 : Hid (Ev.rdP zs = [].foldl Ev.stepP ⟨zs3, b3, ⟨3, v1, v2, v3, 0, ⟨#[]⟩, ⟨#[]⟩, ⟨#[]⟩⟩⟩) := Lib.hid (by rw [RD2.out, hv, hz, hb]; rfl)
    rw [← hz, ← hb] at GR
    have HV := Lib.hid hv
    clear hv hz hb RD2
    have E1 : w7.heap[g2]? = some (.cells #[.int .i64 3, .int .i64 v1, .int .i64 v2, .int .i64 0, .int .i64 0, .string ⟨#[]⟩, .string ⟨#[]⟩, .string ⟨#[]⟩] 24 (0, 0)) := GR.out.e
    obtain ⟨c0, c1, c2, c3, c4, c5, c6, c7⟩ := ob8 E1
    obtain ⟨f0, f1, f2, f3, f4, f5, f6, f7⟩ := ob8f E1
    clear E1
    go_upto_region 9 with fail
    rw [← HV.out]
    clear HV
    obtain ⟨W7, hW⟩ : ∃ W, W = w7.setCell ⟨g2, 3, none⟩ (.int .i64 v3) := ⟨_, rfl⟩
    have G3 : Hid (GP w W7 g g2 #[.string ⟨#[108, 101, 97, 115, 101]⟩, .int .i64 64, .int .i64 15, .int .i64 9, .int .i64 0, .int .i64 0, .int .i64 0, .int .i64 0] ⟨zs3, b3, ⟨3, v1, v2, v3, 0, ⟨#[]⟩, ⟨#[]⟩, ⟨#[]⟩⟩⟩) := Lib.hid (by rw [hW]; exact GR.out.store rfl)
    rw [← hW]
    clear hW GR c0 c1 c2 c3 c4 c5 c6 c7 f0 f1 f2 f3 f4 f5 f6 f7
    obtain ⟨d0, d1, d2, d3, d4, d5, d6, d7⟩ := ob8 G3.out.s
    have E1 : W7.heap[g2]? = some (.cells #[.int .i64 3, .int .i64 v1, .int .i64 v2, .int .i64 v3, .int .i64 0, .string ⟨#[]⟩, .string ⟨#[]⟩, .string ⟨#[]⟩] 24 (0, 0)) := G3.out.e
    have E2 : W7.heap[w.heap.size]? = some (.cells #[.int .i64 0, .int .i64 0, .int .i64 0, .int .i64 0, .int .i64 0, .string ⟨#[]⟩, .string ⟨#[]⟩, .string ⟨#[]⟩] 24 (0, 0)) := G3.out.z
    obtain ⟨a0, a1, a2, a3, a4, a5, a6, a7⟩ := ob8 E1
    obtain ⟨⟨c0, c1, c2, c3, c4, c5, c6, c7⟩, f0, f1, f2, f3, f4, f5, f6, f7⟩ := And.intro (ob8 E2) (ob8f E2)
    clear E1 E2
    go_wp2
    have E3 := S8.at_ G3.out.z (.int .i64 3) (.int .i64 v1) (.int .i64 v2) (.int .i64 v3) (.int .i64 0) (.string ⟨#[]⟩) (.string ⟨#[]⟩) (.string ⟨#[]⟩)
    have E4 := G3.out.ret (.int .i64 3) (.int .i64 v1) (.int .i64 v2) (.int .i64 v3) (.int .i64 0) (.string ⟨#[]⟩) (.string ⟨#[]⟩) (.string ⟨#[]⟩)
    obtain ⟨d0, d1, d2, d3, d4, d5, d6, d7⟩ := ob8 E3
    unfold S8 at d0 d1 d2 d3 d4 d5 d6 d7
    exact bodyPost_ret (v := .agg #[.int .i64 3, .int .i64 v1, .int .i64 v2, .int .i64 v3, .int .i64 0, .string ⟨#[]⟩, .string ⟨#[]⟩, .string ⟨#[]⟩]) (by simp [results, Tryd.results27, go_sem, d0, d1, d2, d3, d4, d5, d6, d7]) rfl (RdP.mk_ RD3.out rfl E4)
  · have st := 0
    clear st
    have RD0 : Hid (Ev.rdP zs = [114, 116, 121, 100].foldl Ev.stepP ⟨zs0, b0, ⟨4, 0, 0, 0, 0, ⟨#[]⟩, ⟨#[]⟩, ⟨#[]⟩⟩⟩) := Lib.hid RD.out
    obtain ⟨c0, c1, c2, c3, c4, c5, c6, c7⟩ := (FF.out W3 BW.out).row (k := 4) (by decide)
    rw [show shW 4 = ⟨#[100, 111, 110, 101]⟩ from rfl] at c0
    rw [show shV 4 1 = 64 from rfl] at c1
    rw [show shV 4 2 = 15 from rfl] at c2
    rw [show shV 4 3 = 9 from rfl] at c3
    rw [show shV 4 4 = 0 from rfl] at c4
    rw [show shV 4 5 = 0 from rfl] at c5
    rw [show shV 4 6 = 0 from rfl] at c6
    rw [show shV 4 7 = 64 from rfl] at c7
    (simp only [Nat.reduceMul, Nat.reduceAdd] at c0 c1 c2 c3 c4 c5 c6 c7)
    obtain ⟨e0, e1, e2, e3, e4, e5, e6, e7⟩ := ob8 EW.out
    have sw := SW.out
    go_upto_region 3 with fail
    (try rw [sw])
    clear sw
    obtain ⟨W4, hW4⟩ : ∃ W4, W4 = W3.alloc (.cells #[.string ⟨#[100, 111, 110, 101]⟩, .int .i64 64, .int .i64 15, .int .i64 9, .int .i64 0, .int .i64 0, .int .i64 0, .int .i64 64] 44) := ⟨_, rfl⟩
    have P4 : Below W3.heap.size W3 W4 := by rw [hW4]; exact (Below.refl _ _).alloc (Nat.le_refl _) _
    have G0 : Hid (GP w W4 g g2 #[.string ⟨#[100, 111, 110, 101]⟩, .int .i64 64, .int .i64 15, .int .i64 9, .int .i64 0, .int .i64 0, .int .i64 0, .int .i64 64] ⟨zs0, b0, ⟨4, 0, 0, 0, 0, ⟨#[]⟩, ⟨#[]⟩, ⟨#[]⟩⟩⟩) := Lib.hid ⟨BW.out.trans (But.of (P4.mono BW.out.size)), (P4.block _ (lt_of_block ZW.out)).trans ZW.out, IW.out.below P4 (Nat.le_refl _), (P4.block _ (lt_of_block EW.out)).trans EW.out, by rw [hW4, ← SW.out]; exact heap_alloc_new W3 _, HGW.out, N2.out⟩
    rw [← hW4]
    clear hW4 P4 BW ZW IW EW SW RD FF c0 c1 c2 c3 c4 c5 c6 c7 e0 e1 e2 e3 e4 e5 e6 e7
    obtain ⟨d0, d1, d2, d3, d4, d5, d6, d7⟩ := ob8 G0.out.s
    go_wp2_with fail
    (with_reducible refine (inSmall_any g zs0 b0 64 (by decide) (by decide) _ G0.out.i).mono ?_); rintro e w5 ⟨rfl, hp⟩
    have GR := Lib.hid (G0.out.read hp)
    clear hp G0 d0 d1 d2 d3 d4 d5 d6 d7
    obtain ⟨v1, hv⟩ : ∃ v, v = En.valM zs0 b0 64 := ⟨_, rfl⟩
    obtain ⟨zs1, hz⟩ : ∃ z, z = En.restM zs0 b0 64 := ⟨_, rfl⟩
    obtain ⟨b1, hb⟩ : ∃ b, b = !En.okM zs0 b0 64 := ⟨_, rfl⟩
    have RD1 : Hid (Ev.rdP zs = [116, 121, 100].foldl Ev.stepP ⟨zs1, b1, ⟨4, v1, 0, 0, 0, ⟨#[]⟩, ⟨#[]⟩, ⟨#[]⟩⟩⟩) := Lib.hid (by rw [RD0.out, hv, hz, hb]; rfl)
    rw [← hz, ← hb] at GR
    have HV := Lib.hid hv
    clear hv hz hb RD0
    have E1 : w5.heap[g2]? = some (.cells #[.int .i64 4, .int .i64 0, .int .i64 0, .int .i64 0, .int .i64 0, .string ⟨#[]⟩, .string ⟨#[]⟩, .string ⟨#[]⟩] 24 (0, 0)) := GR.out.e
    obtain ⟨c0, c1, c2, c3, c4, c5, c6, c7⟩ := ob8 E1
    obtain ⟨f0, f1, f2, f3, f4, f5, f6, f7⟩ := ob8f E1
    clear E1
    go_upto_region 5 with fail
    rw [← HV.out]
    clear HV
    obtain ⟨W5, hW⟩ : ∃ W, W = w5.setCell ⟨g2, 1, none⟩ (.int .i64 v1) := ⟨_, rfl⟩
    have G1 : Hid (GP w W5 g g2 #[.string ⟨#[100, 111, 110, 101]⟩, .int .i64 64, .int .i64 15, .int .i64 9, .int .i64 0, .int .i64 0, .int .i64 0, .int .i64 64] ⟨zs1, b1, ⟨4, v1, 0, 0, 0, ⟨#[]⟩, ⟨#[]⟩, ⟨#[]⟩⟩⟩) := Lib.hid (by rw [hW]; exact GR.out.store rfl)
    rw [← hW]
    clear hW GR c0 c1 c2 c3 c4 c5 c6 c7 f0 f1 f2 f3 f4 f5 f6 f7
    obtain ⟨d0, d1, d2, d3, d4, d5, d6, d7⟩ := ob8 G1.out.s
    go_wp2_with fail
    (with_reducible refine (inSmall_any g zs1 b1 15 (by decide) (by decide) _ G1.out.i).mono ?_); rintro e w6 ⟨rfl, hp⟩
    have GR := Lib.hid (G1.out.read hp)
    clear hp G1 d0 d1 d2 d3 d4 d5 d6 d7
    obtain ⟨v2, hv⟩ : ∃ v, v = En.valM zs1 b1 15 := ⟨_, rfl⟩
    obtain ⟨zs2, hz⟩ : ∃ z, z = En.restM zs1 b1 15 := ⟨_, rfl⟩
    obtain ⟨b2, hb⟩ : ∃ b, b = !En.okM zs1 b1 15 := ⟨_, rfl⟩
    have RD2 : Hid (Ev.rdP zs = [121, 100].foldl Ev.stepP ⟨zs2, b2, ⟨4, v1, v2, 0, 0, ⟨#[]⟩, ⟨#[]⟩, ⟨#[]⟩⟩⟩) := Lib.hid (by rw [RD1.out, hv, hz, hb]; rfl)
    rw [← hz, ← hb] at GR
    have HV := Lib.hid hv
    clear hv hz hb RD1
    have E1 : w6.heap[g2]? = some (.cells #[.int .i64 4, .int .i64 v1, .int .i64 0, .int .i64 0, .int .i64 0, .string ⟨#[]⟩, .string ⟨#[]⟩, .string ⟨#[]⟩] 24 (0, 0)) := GR.out.e
    obtain ⟨c0, c1, c2, c3, c4, c5, c6, c7⟩ := ob8 E1
    obtain ⟨f0, f1, f2, f3, f4, f5, f6, f7⟩ := ob8f E1
    clear E1
    go_upto_region 7 with fail
    rw [← HV.out]
    clear HV
    obtain ⟨W6, hW⟩ : ∃ W, W = w6.setCell ⟨g2, 2, none⟩ (.int .i64 v2) := ⟨_, rfl⟩
    have G2 : Hid (GP w W6 g g2 #[.string ⟨#[100, 111, 110, 101]⟩, .int .i64 64, .int .i64 15, .int .i64 9, .int .i64 0, .int .i64 0, .int .i64 0, .int .i64 64] ⟨zs2, b2, ⟨4, v1, v2, 0, 0, ⟨#[]⟩, ⟨#[]⟩, ⟨#[]⟩⟩⟩) := Lib.hid (by rw [hW]; exact GR.out.store rfl)
    rw [← hW]
    clear hW GR c0 c1 c2 c3 c4 c5 c6 c7 f0 f1 f2 f3 f4 f5 f6 f7
    obtain ⟨d0, d1, d2, d3, d4, d5, d6, d7⟩ := ob8 G2.out.s
    go_wp2_with fail
    (with_reducible refine (inSmall_any g zs2 b2 9 (by decide) (by decide) _ G2.out.i).mono ?_); rintro e w7 ⟨rfl, hp⟩
    have GR := Lib.hid (G2.out.read hp)
    clear hp G2 d0 d1 d2 d3 d4 d5 d6 d7
    obtain ⟨v3, hv⟩ : ∃ v, v = En.valM zs2 b2 9 := ⟨_, rfl⟩
    obtain ⟨zs3, hz⟩ : ∃ z, z = En.restM zs2 b2 9 := ⟨_, rfl⟩
    obtain ⟨b3, hb⟩ : ∃ b, b = !En.okM zs2 b2 9 := ⟨_, rfl⟩
    have RD3 : Hid (Ev.rdP zs = [100].foldl Ev.stepP ⟨zs3, b3, ⟨4, v1, v2, v3, 0, ⟨#[]⟩, ⟨#[]⟩, ⟨#[]⟩⟩⟩) := Lib.hid (by rw [RD2.out, hv, hz, hb]; rfl)
    rw [← hz, ← hb] at GR
    have HV := Lib.hid hv
    clear hv hz hb RD2
    have E1 : w7.heap[g2]? = some (.cells #[.int .i64 4, .int .i64 v1, .int .i64 v2, .int .i64 0, .int .i64 0, .string ⟨#[]⟩, .string ⟨#[]⟩, .string ⟨#[]⟩] 24 (0, 0)) := GR.out.e
    obtain ⟨c0, c1, c2, c3, c4, c5, c6, c7⟩ := ob8 E1
    obtain ⟨f0, f1, f2, f3, f4, f5, f6, f7⟩ := ob8f E1
    clear E1
    go_upto_region 9 with fail
    rw [← HV.out]
    clear HV
    obtain ⟨W7, hW⟩ : ∃ W, W = w7.setCell ⟨g2, 3, none⟩ (.int .i64 v3) := ⟨_, rfl⟩
    have G3 : Hid (GP w W7 g g2 #[.string ⟨#[100, 111, 110, 101]⟩, .int .i64 64, .int .i64 15, .int .i64 9, .int .i64 0, .int .i64 0, .int .i64 0, .int .i64 64] ⟨zs3, b3, ⟨4, v1, v2, v3, 0, ⟨#[]⟩, ⟨#[]⟩, ⟨#[]⟩⟩⟩) := Lib.hid (by rw [hW]; exact GR.out.store rfl)
    rw [← hW]
    clear hW GR c0 c1 c2 c3 c4 c5 c6 c7 f0 f1 f2 f3 f4 f5 f6 f7
    obtain ⟨d0, d1, d2, d3, d4, d5, d6, d7⟩ := ob8 G3.out.s
    go_wp2_with fail
    (with_reducible refine (inS_any g zs3 b3 64 (by decide) (by decide) _ G3.out.i).mono ?_); rintro e w8 ⟨rfl, hp⟩
    have GR := Lib.hid (G3.out.read hp)
    clear hp G3 d0 d1 d2 d3 d4 d5 d6 d7
    obtain ⟨v4, hv⟩ : ∃ v, v = En.valS zs3 b3 64 := ⟨_, rfl⟩
    obtain ⟨zs4, hz⟩ : ∃ z, z = En.restS zs3 b3 64 := ⟨_, rfl⟩
    obtain ⟨b4, hb⟩ : ∃ b, b = !En.okS zs3 b3 64 := ⟨_, rfl⟩
    have RD4 : Hid (Ev.rdP zs = [].foldl Ev.stepP ⟨zs4, b4, ⟨4, v1, v2, v3, 0, ⟨#[]⟩, ⟨#[]⟩, v4⟩⟩) := Lib.hid (by rw [RD3.out, hv, hz, hb]; rfl)
    rw [← hz, ← hb] at GR
    have HV := Lib.hid hv
    clear hv hz hb RD3
    have E1 : w8.heap[g2]? = some (.cells #[.int .i64 4, .int .i64 v1, .int .i64 v2, .int .i64 v3, .int .i64 0, .string ⟨#[]⟩, .string ⟨#[]⟩, .string ⟨#[]⟩] 24 (0, 0)) := GR.out.e
    obtain ⟨c0, c1, c2, c3, c4, c5, c6, c7⟩ := ob8 E1
    obtain ⟨f0, f1, f2, f3, f4, f5, f6, f7⟩ := ob8f E1
    clear E1
    go_upto_region 17 with fail
    rw [← HV.out]
    clear HV
    obtain ⟨W8, hW⟩ : ∃ W, W = w8.setCell ⟨g2, 7, none⟩ (.string v4) := ⟨_, rfl⟩
    have G4 : Hid (GP w W8 g g2 #[.string ⟨#[100, 111, 110, 101]⟩, .int .i64 64, .int .i64 15, .int .i64 9, .int .i64 0, .int .i64 0, .int .i64 0, .int .i64 64] ⟨zs4, b4, ⟨4, v1, v2, v3, 0, ⟨#[]⟩, ⟨#[]⟩, v4⟩⟩) := Lib.hid (by rw [hW]; exact GR.out.store rfl)
    rw [← hW]
    clear hW GR c0 c1 c2 c3 c4 c5 c6 c7 f0 f1 f2 f3 f4 f5 f6 f7
    obtain ⟨d0, d1, d2, d3, d4, d5, d6, d7⟩ := ob8 G4.out.s
    have E1 : W8.heap[g2]? = some (.cells #[.int .i64 4, .int .i64 v1, .int .i64 v2, .int .i64 v3, .int .i64 0, .string ⟨#[]⟩, .string ⟨#[]⟩, .string v4] 24 (0, 0)) := G4.out.e
    have E2 : W8.heap[w.heap.size]? = some (.cells #[.int .i64 0, .int .i64 0, .int .i64 0, .int .i64 0, .int .i64 0, .string ⟨#[]⟩, .string ⟨#[]⟩, .string ⟨#[]⟩] 24 (0, 0)) := G4.out.z
    obtain ⟨a0, a1, a2, a3, a4, a5, a6, a7⟩ := ob8 E1
    obtain ⟨⟨c0, c1, c2, c3, c4, c5, c6, c7⟩, f0, f1, f2, f3, f4, f5, f6, f7⟩ := And.intro (ob8 E2) (ob8f E2)
    clear E1 E2
    go_wp2
    have E3 := S8.at_ G4.out.z (.int .i64 4) (.int .i64 v1) (.int .i64 v2) (.int .i64 v3) (.int .i64 0) (.string ⟨#[]⟩) (.string ⟨#[]⟩) (.string v4)
    have E4 := G4.out.ret (.int .i64 4) (.int .i64 v1) (.int .i64 v2) (.int .i64 v3) (.int .i64 0) (.string ⟨#[]⟩) (.string ⟨#[]⟩) (.string v4)
    obtain ⟨d0, d1, d2, d3, d4, d5, d6, d7⟩ := ob8 E3
    unfold S8 at d0 d1 d2 d3 d4 d5 d6 d7
    exact bodyPost_ret (v := .agg #[.int .i64 4, .int .i64 v1, .int .i64 v2, .int .i64 v3, .int .i64 0, .string ⟨#[]⟩, .string ⟨#[]⟩, .string v4]) (by simp [results, Tryd.results27, go_sem, d0, d1, d2, d3, d4, d5, d6, d7]) rfl (RdP.mk_ RD4.out rfl E4)
  · have st := 0
    clear st
    have RD0 : Hid (Ev.rdP zs = [114, 116, 121].foldl Ev.stepP ⟨zs0, b0, ⟨5, 0, 0, 0, 0, ⟨#[]⟩, ⟨#[]⟩, ⟨#[]⟩⟩⟩) := Lib.hid RD.out
    obtain ⟨c0, c1, c2, c3, c4, c5, c6, c7⟩ := (FF.out W3 BW.out).row (k := 5) (by decide)
    rw [show shW 5 = ⟨#[102, 97, 105, 108]⟩ from rfl] at c0
    rw [show shV 5 1 = 64 from rfl] at c1
    rw [show shV 5 2 = 15 from rfl] at c2
    rw [show shV 5 3 = 9 from rfl] at c3
    rw [show shV 5 4 = 0 from rfl] at c4
    rw [show shV 5 5 = 0 from rfl] at c5
    rw [show shV 5 6 = 0 from rfl] at c6
    rw [show shV 5 7 = 0 from rfl] at c7
    (simp only [Nat.reduceMul, Nat.reduceAdd] at c0 c1 c2 c3 c4 c5 c6 c7)
    obtain ⟨e0, e1, e2, e3, e4, e5, e6, e7⟩ := ob8 EW.out
    have sw := SW.out
    go_upto_region 3 with fail
    (try rw [sw])
    clear sw
    obtain ⟨W4, hW4⟩ : ∃ W4, W4 = W3.alloc (.cells #[.string ⟨#[102, 97, 105, 108]⟩, .int .i64 64, .int .i64 15, .int .i64 9, .int .i64 0, .int .i64 0, .int .i64 0, .int .i64 0] 44) := ⟨_, rfl⟩
    have P4 : Below W3.heap.size W3 W4 := by rw [hW4]; exact (Below.refl _ _).alloc (Nat.le_refl _) _
    have G0 : Hid (GP w W4 g g2 #[.string ⟨#[102, 97, 105, 108]⟩, .int .i64 64, .int .i64 15, .int .i64 9, .int .i64 0, .int .i64 0, .int .i64 0, .int .i64 0] ⟨zs0, b0, ⟨5, 0, 0, 0, 0, ⟨#[]⟩, ⟨#[]⟩, ⟨#[]⟩⟩⟩) := Lib.hid ⟨BW.out.trans (But.of (P4.mono BW.out.size)), (P4.block _ (lt_of_block ZW.out)).trans ZW.out, IW.out.below P4 (Nat.le_refl _), (P4.block _ (lt_of_block EW.out)).trans EW.out, by rw [hW4, ← SW.out]; exact heap_alloc_new W3 _, HGW.out, N2.out⟩
    rw [← hW4]
    clear hW4 P4 BW ZW IW EW SW RD FF c0 c1 c2 c3 c4 c5 c6 c7 e0 e1 e2 e3 e4 e5 e6 e7
    obtain ⟨d0, d1, d2, d3, d4, d5, d6, d7⟩ := ob8 G0.out.s
    go_wp2_with fail
    (with_reducible refine (inSmall_any g zs0 b0 64 (by decide) (by decide) _ G0.out.i).mono ?_); rintro e w5 ⟨rfl, hp⟩
    have GR := Lib.hid (G0.out.read hp)
    clear hp G0 d0 d1 d2 d3 d4 d5 d6 d7
    obtain ⟨v1, hv⟩ : ∃ v, v = En.valM zs0 b0 64 := ⟨_, rfl⟩
    obtain ⟨zs1, hz⟩ : ∃ z, z = En.restM zs0 b0 64 := ⟨_, rfl⟩
    obtain ⟨b1, hb⟩ : ∃ b, b = !En.okM zs0 b0 64 := ⟨_, rfl⟩
    have RD1 : Hid (Ev.rdP zs = [116, 121].foldl Ev.stepP ⟨zs1, b1, ⟨5, v1, 0, 0, 0, ⟨#[]⟩, ⟨#[]⟩, ⟨#[]⟩⟩⟩) := Lib.hid (by rw [RD0.out, hv, hz, hb]; rfl)
    rw [← hz, ← hb] at GR
    have HV := Lib.hid hv
    clear hv hz hb RD0
    have E1 : w5.heap[g2]? = some (.cells #[.int .i64 5, .int .i64 0, .int .i64 0, .int .i64 0, .int .i64 0, .string ⟨#[]⟩, .string ⟨#[]⟩, .string ⟨#[]⟩] 24 (0, 0)) := GR.out.e
    obtain ⟨c0, c1, c2, c3, c4, c5, c6, c7⟩ := ob8 E1
    obtain ⟨f0, f1, f2, f3, f4, f5, f6, f7⟩ := ob8f E1
    clear E1
    go_upto_region 5 with fail
    rw [← HV.out]
    clear HV
    obtain ⟨W5, hW⟩ : ∃ W, W = w5.setCell ⟨g2, 1, none⟩ (.int .i64 v1) := ⟨_, rfl⟩
    have G1 : Hid (GP w W5 g g2 #[.string ⟨#[102, 97, 105, 108]⟩, .int .i64 64, .int .i64 15, .int .i64 9, .int .i64 0, .int .i64 0, .int .i64 0, .int .i64 0] ⟨zs1, b1, ⟨5, v1, 0, 0, 0, ⟨#[]⟩, ⟨#[]⟩, ⟨#[]⟩⟩⟩) := Lib.hid (by rw [hW]; exact GR.out.store rfl)
    rw [← hW]
    clear hW GR c0 c1 c2 c3 c4 c5 c6 c7 f0 f1 f2 f3 f4 f5 f6 f7
    obtain ⟨d0, d1, d2, d3, d4, d5, d6, d7⟩ := ob8 G1.out.s
    go_wp2_with fail
    (with_reducible refine (inSmall_any g zs1 b1 15 (by decide) (by decide) _ G1.out.i).mono ?_); rintro e w6 ⟨rfl, hp⟩
    have GR := Lib.hid (G1.out.read hp)
    clear hp G1 d0 d1 d2 d3 d4 d5 d6 d7
    obtain ⟨v2, hv⟩ : ∃ v, v = En.valM zs1 b1 15 := ⟨_, rfl⟩
    obtain ⟨zs2, hz⟩ : ∃ z, z = En.restM zs1 b1 15 := ⟨_, rfl⟩
    obtain ⟨b2, hb⟩ : ∃ b, b = !En.okM zs1 b1 15 := ⟨_, rfl⟩
    have RD2 : Hid (Ev.rdP zs = [121].foldl Ev.stepP ⟨zs2, b2, ⟨5, v1, v2, 0, 0, ⟨#[]⟩, ⟨#[]⟩, ⟨#[]⟩⟩⟩) := Lib.hid (by rw [RD1.out, hv, hz, hb]; rfl)
    rw [← hz, ← hb] at GR
    have HV := Lib.hid hv
    clear hv hz hb RD1
    have E1 : w6.heap[g2]? = some (.cells #[.int .i64 5, .int .i64 v1, .int .i64 0, .int .i64 0, .int .i64 0, .string ⟨#[]⟩, .string ⟨#[]⟩, .string ⟨#[]⟩] 24 (0, 0)) := GR.out.e
    obtain ⟨c0, c1, c2, c3, c4, c5, c6, c7⟩ := ob8 E1
    obtain ⟨f0, f1, f2, f3, f4, f5, f6, f7⟩ := ob8f E1
    clear E1
    go_upto_region 7 with fail
    rw [← HV.out]
    clear HV
    obtain ⟨W6, hW⟩ : ∃ W, W = w6.setCell ⟨g2, 2, none⟩ (.int .i64 v2) := ⟨_, rfl⟩
    have G2 : Hid (GP w W6 g g2 #[.string ⟨#[102, 97, 105, 108]⟩, .int .i64 64, .int .i64 15, .int .i64 9, .int .i64 0, .int .i64 0, .int .i64 0, .int .i64 0] ⟨zs2, b2, ⟨5, v1, v2, 0, 0, ⟨#[]⟩, ⟨#[]⟩, ⟨#[]⟩⟩⟩) := Lib.hid (by rw [hW]; exact GR.out.store rfl)
    rw [← hW]
    clear hW GR c0 c1 c2 c3 c4 c5 c6 c7 f0 f1 f2 f3 f4 f5 f6 f7
    obtain ⟨d0, d1, d2, d3, d4, d5, d6, d7⟩ := ob8 G2.out.s
    go_wp2_with fail
    (with_reducible refine (inSmall_any g zs2 b2 9 (by decide) (by decide) _ G2.out.i).mono ?_); rintro e w7 ⟨rfl, hp⟩
    have GR := Lib.hid (G2.out.read hp)
    clear hp G2 d0 d1 d2 d3 d4 d5 d6 d7
    obtain ⟨v3, hv⟩ : ∃ v, v = En.valM zs2 b2 9 := ⟨_, rfl⟩
    obtain ⟨zs3, hz⟩ : ∃ z, z = En.restM zs2 b2 9 := ⟨_, rfl⟩
    obtain ⟨b3, hb⟩ : ∃ b, b = !En.okM zs2 b2 9 := ⟨_, rfl⟩
    have RD3 : Hid (Ev.rdP zs = [].foldl Ev.stepP ⟨zs3, b3, ⟨5, v1, v2, v3, 0, ⟨#[]⟩, ⟨#[]⟩, ⟨#[]⟩⟩⟩) := Lib.hid (by rw [RD2.out, hv, hz, hb]; rfl)
    rw [← hz, ← hb] at GR
    have HV := Lib.hid hv
    clear hv hz hb RD2
    have E1 : w7.heap[g2]? = some (.cells #[.int .i64 5, .int .i64 v1, .int .i64 v2, .int .i64 0, .int .i64 0, .string ⟨#[]⟩, .string ⟨#[]⟩, .string ⟨#[]⟩] 24 (0, 0)) := GR.out.e
    obtain ⟨c0, c1, c2, c3, c4, c5, c6, c7⟩ := ob8 E1
    obtain ⟨f0, f1, f2, f3, f4, f5, f6, f7⟩ := ob8f E1
    clear E1
    go_upto_region 9 with fail
    rw [← HV.out]
    clear HV
    obtain ⟨W7, hW⟩ : ∃ W, W = w7.setCell ⟨g2, 3, none⟩ (.int .i64 v3) := ⟨_, rfl⟩
    have G3 : Hid (GP w W7 g g2 #[.string ⟨#[102, 97, 105, 108]⟩, .int .i64 64, .int .i64 15, .int .i64 9, .int .i64 0, .int .i64 0, .int .i64 0, .int .i64 0] ⟨zs3, b3, ⟨5, v1, v2, v3, 0, ⟨#[]⟩, ⟨#[]⟩, ⟨#[]⟩⟩⟩) := Lib.hid (by rw [hW]; exact GR.out.store rfl)
    rw [← hW]
    clear hW GR c0 c1 c2 c3 c4 c5 c6 c7 f0 f1 f2 f3 f4 f5 f6 f7
    obtain ⟨d0, d1, d2, d3, d4, d5, d6, d7⟩ := ob8 G3.out.s
    have E1 : W7.heap[g2]? = some (.cells #[.int .i64 5, .int .i64 v1, .int .i64 v2, .int .i64 v3, .int .i64 0, .string ⟨#[]⟩, .string ⟨#[]⟩, .string ⟨#[]⟩] 24 (0, 0)) := G3.out.e
    have E2 : W7.heap[w.heap.size]? = some (.cells #[.int .i64 0, .int .i64 0, .int .i64 0, .int .i64 0, .int .i64 0, .string ⟨#[]⟩, .string ⟨#[]⟩, .string ⟨#[]⟩] 24 (0, 0)) := G3.out.z
    obtain ⟨a0, a1, a2, a3, a4, a5, a6, a7⟩ := ob8 E1
    obtain ⟨⟨c0, c1, c2, c3, c4, c5, c6, c7⟩, f0, f1, f2, f3, f4, f5, f6, f7⟩ := And.intro (ob8 E2) (ob8f E2)
    clear E1 E2
    go_wp2
    have E3 := S8.at_ G3.out.z (.int .i64 5) (.int .i64 v1) (.int .i64 v2) (.int .i64 v3) (.int .i64 0) (.string ⟨#[]⟩) (.string ⟨#[]⟩) (.string ⟨#[]⟩)
    have E4 := G3.out.ret (.int .i64 5) (.int .i64 v1) (.int .i64 v2) (.int .i64 v3) (.int .i64 0) (.string ⟨#[]⟩) (.string ⟨#[]⟩) (.string ⟨#[]⟩)
    obtain ⟨d0, d1, d2, d3, d4, d5, d6, d7⟩ := ob8 E3
    unfold S8 at d0 d1 d2 d3 d4 d5 d6 d7
    exact bodyPost_ret (v := .agg #[.int .i64 5, .int .i64 v1, .int .i64 v2, .int .i64 v3, .int .i64 0, .string ⟨#[]⟩, .string ⟨#[]⟩, .string ⟨#[]⟩]) (by simp [results, Tryd.results27, go_sem, d0, d1, d2, d3, d4, d5, d6, d7]) rfl (RdP.mk_ RD3.out rfl E4)
  · have st := 0
    clear st
    have RD0 : Hid (Ev.rdP zs = [110].foldl Ev.stepP ⟨zs0, b0, ⟨6, 0, 0, 0, 0, ⟨#[]⟩, ⟨#[]⟩, ⟨#[]⟩⟩⟩) := Lib.hid RD.out
    obtain ⟨c0, c1, c2, c3, c4, c5, c6, c7⟩ := (FF.out W3 BW.out).row (k := 6) (by decide)
    rw [show shW 6 = ⟨#[116, 105, 99, 107]⟩ from rfl] at c0
    rw [show shV 6 1 = 0 from rfl] at c1
    rw [show shV 6 2 = 0 from rfl] at c2
    rw [show shV 6 3 = 0 from rfl] at c3
    rw [show shV 6 4 = 1099511627776 from rfl] at c4
    rw [show shV 6 5 = 0 from rfl] at c5
    rw [show shV 6 6 = 0 from rfl] at c6
    rw [show shV 6 7 = 0 from rfl] at c7
    (simp only [Nat.reduceMul, Nat.reduceAdd] at c0 c1 c2 c3 c4 c5 c6 c7)
    obtain ⟨e0, e1, e2, e3, e4, e5, e6, e7⟩ := ob8 EW.out
    have sw := SW.out
    go_upto_region 3 with fail
    (try rw [sw])
    clear sw
    obtain ⟨W4, hW4⟩ : ∃ W4, W4 = W3.alloc (.cells #[.string ⟨#[116, 105, 99, 107]⟩, .int .i64 0, .int .i64 0, .int .i64 0, .int .i64 1099511627776, .int .i64 0, .int .i64 0, .int .i64 0] 44) := ⟨_, rfl⟩
    have P4 : Below W3.heap.size W3 W4 := by rw [hW4]; exact (Below.refl _ _).alloc (Nat.le_refl _) _
    have G0 : Hid (GP w W4 g g2 #[.string ⟨#[116, 105, 99, 107]⟩, .int .i64 0, .int .i64 0, .int .i64 0, .int .i64 1099511627776, .int .i64 0, .int .i64 0, .int .i64 0] ⟨zs0, b0, ⟨6, 0, 0, 0, 0, ⟨#[]⟩, ⟨#[]⟩, ⟨#[]⟩⟩⟩) := Lib.hid ⟨BW.out.trans (But.of (P4.mono BW.out.size)), (P4.block _ (lt_of_block ZW.out)).trans ZW.out, IW.out.below P4 (Nat.le_refl _), (P4.block _ (lt_of_block EW.out)).trans EW.out, by rw [hW4, ← SW.out]; exact heap_alloc_new W3 _, HGW.out, N2.out⟩
    rw [← hW4]
    clear hW4 P4 BW ZW IW EW SW RD FF c0 c1 c2 c3 c4 c5 c6 c7 e0 e1 e2 e3 e4 e5 e6 e7
    obtain ⟨d0, d1, d2, d3, d4, d5, d6, d7⟩ := ob8 G0.out.s
    go_wp2_with fail
    (with_reducible refine (inU_any g zs0 b0 _ G0.out.i).mono ?_); rintro e w5 ⟨rfl, hp⟩
    have GR := Lib.hid (G0.out.read hp)
    clear hp G0 d0 d1 d2 d3 d4 d5 d6 d7
    obtain ⟨v1, hv⟩ : ∃ v, v = En.valU zs0 b0 := ⟨_, rfl⟩
    obtain ⟨zs1, hz⟩ : ∃ z, z = En.restU zs0 b0 := ⟨_, rfl⟩
    obtain ⟨b1, hb⟩ : ∃ b, b = !En.okU zs0 b0 := ⟨_, rfl⟩
    have RD1 : Hid (Ev.rdP zs = [].foldl Ev.stepP ⟨zs1, b1, ⟨6, 0, 0, 0, wrap64 v1, ⟨#[]⟩, ⟨#[]⟩, ⟨#[]⟩⟩⟩) := Lib.hid (by rw [RD0.out, hv, hz, hb]; rfl)
    rw [← hz, ← hb] at GR
    have HV := Lib.hid hv
    clear hv hz hb RD0
    obtain ⟨n1, hn⟩ : ∃ n, n = wrap64 v1 := ⟨_, rfl⟩
    have tw : wrap64 (En.valU zs0 b0) = n1 := by rw [← HV.out]; exact hn.symm
    have tw2 : IntKind.i64.wrap (En.valU zs0 b0) = n1 := by rw [← HV.out]; exact (wrap_i64_eq _).trans hn.symm
    rw [← hn] at RD1
    clear hn HV
    have E1 : w5.heap[g2]? = some (.cells #[.int .i64 6, .int .i64 0, .int .i64 0, .int .i64 0, .int .i64 0, .string ⟨#[]⟩, .string ⟨#[]⟩, .string ⟨#[]⟩] 24 (0, 0)) := GR.out.e
    obtain ⟨c0, c1, c2, c3, c4, c5, c6, c7⟩ := ob8 E1
    obtain ⟨f0, f1, f2, f3, f4, f5, f6, f7⟩ := ob8f E1
    clear E1
    go_upto_region 11 with fail
    obtain ⟨W5, hW⟩ : ∃ W, W = w5.setCell ⟨g2, 4, none⟩ (.int .i64 n1) := ⟨_, rfl⟩
    have G1 : Hid (GP w W5 g g2 #[.string ⟨#[116, 105, 99, 107]⟩, .int .i64 0, .int .i64 0, .int .i64 0, .int .i64 1099511627776, .int .i64 0, .int .i64 0, .int .i64 0] ⟨zs1, b1, ⟨6, 0, 0, 0, n1, ⟨#[]⟩, ⟨#[]⟩, ⟨#[]⟩⟩⟩) := Lib.hid (by rw [hW]; exact GR.out.store rfl)
    rw [← hW]
    clear hW GR c0 c1 c2 c3 c4 c5 c6 c7 f0 f1 f2 f3 f4 f5 f6 f7
    obtain ⟨d0, d1, d2, d3, d4, d5, d6, d7⟩ := ob8 G1.out.s
    have E1 : W5.heap[g2]? = some (.cells #[.int .i64 6, .int .i64 0, .int .i64 0, .int .i64 0, .int .i64 n1, .string ⟨#[]⟩, .string ⟨#[]⟩, .string ⟨#[]⟩] 24 (0, 0)) := G1.out.e
    have E2 : W5.heap[w.heap.size]? = some (.cells #[.int .i64 0, .int .i64 0, .int .i64 0, .int .i64 0, .int .i64 0, .string ⟨#[]⟩, .string ⟨#[]⟩, .string ⟨#[]⟩] 24 (0, 0)) := G1.out.z
    obtain ⟨a0, a1, a2, a3, a4, a5, a6, a7⟩ := ob8 E1
    obtain ⟨⟨c0, c1, c2, c3, c4, c5, c6, c7⟩, f0, f1, f2, f3, f4, f5, f6, f7⟩ := And.intro (ob8 E2) (ob8f E2)
    clear E1 E2
    go_wp2
    have E3 := S8.at_ G1.out.z (.int .i64 6) (.int .i64 0) (.int .i64 0) (.int .i64 0) (.int .i64 n1) (.string ⟨#[]⟩) (.string ⟨#[]⟩) (.string ⟨#[]⟩)
    have E4 := G1.out.ret (.int .i64 6) (.int .i64 0) (.int .i64 0) (.int .i64 0) (.int .i64 n1) (.string ⟨#[]⟩) (.string ⟨#[]⟩) (.string ⟨#[]⟩)
    obtain ⟨d0, d1, d2, d3, d4, d5, d6, d7⟩ := ob8 E3
    unfold S8 at d0 d1 d2 d3 d4 d5 d6 d7
    exact bodyPost_ret (v := .agg #[.int .i64 6, .int .i64 0, .int .i64 0, .int .i64 0, .int .i64 n1, .string ⟨#[]⟩, .string ⟨#[]⟩, .string ⟨#[]⟩]) (by simp [results, Tryd.results27, go_sem, d0, d1, d2, d3, d4, d5, d6, d7]) rfl (RdP.mk_ RD1.out rfl E4)
  · have st := 0
    clear st
    have RD0 : Hid (Ev.rdP zs = [114, 97].foldl Ev.stepP ⟨zs0, b0, ⟨7, 0, 0, 0, 0, ⟨#[]⟩, ⟨#[]⟩, ⟨#[]⟩⟩⟩) := Lib.hid RD.out
    obtain ⟨c0, c1, c2, c3, c4, c5, c6, c7⟩ := (FF.out W3 BW.out).row (k := 7) (by decide)
    rw [show shW 7 = ⟨#[115, 105, 103, 110, 97, 108]⟩ from rfl] at c0
    rw [show shV 7 1 = 64 from rfl] at c1
    rw [show shV 7 2 = 0 from rfl] at c2
    rw [show shV 7 3 = 0 from rfl] at c3
    rw [show shV 7 4 = 0 from rfl] at c4
    rw [show shV 7 5 = 16 from rfl] at c5
    rw [show shV 7 6 = 0 from rfl] at c6
    rw [show shV 7 7 = 0 from rfl] at c7
    (simp only [Nat.reduceMul, Nat.reduceAdd] at c0 c1 c2 c3 c4 c5 c6 c7)
    obtain ⟨e0, e1, e2, e3, e4, e5, e6, e7⟩ := ob8 EW.out
    have sw := SW.out
    go_upto_region 3 with fail
    (try rw [sw])
    clear sw
    obtain ⟨W4, hW4⟩ : ∃ W4, W4 = W3.alloc (.cells #[.string ⟨#[115, 105, 103, 110, 97, 108]⟩, .int .i64 64, .int .i64 0, .int .i64 0, .int .i64 0, .int .i64 16, .int .i64 0, .int .i64 0] 44) := ⟨_, rfl⟩
    have P4 : Below W3.heap.size W3 W4 := by rw [hW4]; exact (Below.refl _ _).alloc (Nat.le_refl _) _
    have G0 : Hid (GP w W4 g g2 #[.string ⟨#[115, 105, 103, 110, 97, 108]⟩, .int .i64 64, .int .i64 0, .int .i64 0, .int .i64 0, .int .i64 16, .int .i64 0, .int .i64 0] ⟨zs0, b0, ⟨7, 0, 0, 0, 0, ⟨#[]⟩, ⟨#[]⟩, ⟨#[]⟩⟩⟩) := Lib.hid ⟨BW.out.trans (But.of (P4.mono BW.out.size)), (P4.block _ (lt_of_block ZW.out)).trans ZW.out, IW.out.below P4 (Nat.le_refl _), (P4.block _ (lt_of_block EW.out)).trans EW.out, by rw [hW4, ← SW.out]; exact heap_alloc_new W3 _, HGW.out, N2.out⟩
    rw [← hW4]
    clear hW4 P4 BW ZW IW EW SW RD FF c0 c1 c2 c3 c4 c5 c6 c7 e0 e1 e2 e3 e4 e5 e6 e7
    obtain ⟨d0, d1, d2, d3, d4, d5, d6, d7⟩ := ob8 G0.out.s
    go_wp2_with fail
    (with_reducible refine (inSmall_any g zs0 b0 64 (by decide) (by decide) _ G0.out.i).mono ?_); rintro e w5 ⟨rfl, hp⟩
    have GR := Lib.hid (G0.out.read hp)
    clear hp G0 d0 d1 d2 d3 d4 d5 d6 d7
    obtain ⟨v1, hv⟩ : ∃ v, v = En.valM zs0 b0 64 := ⟨_, rfl⟩
    obtain ⟨zs1, hz⟩ : ∃ z, z = En.restM zs0 b0 64 := ⟨_, rfl⟩
    obtain ⟨b1, hb⟩ : ∃ b, b = !En.okM zs0 b0 64 := ⟨_, rfl⟩
    have RD1 : Hid (Ev.rdP zs = [97].foldl Ev.stepP ⟨zs1, b1, ⟨7, v1, 0, 0, 0, ⟨#[]⟩, ⟨#[]⟩, ⟨#[]⟩⟩⟩) := Lib.hid (by rw [RD0.out, hv, hz, hb]; rfl)
    rw [← hz, ← hb] at GR
    have HV := Lib.hid hv
    clear hv hz hb RD0
    have E1 : w5.heap[g2]? = some (.cells #[.int .i64 7, .int .i64 0, .int .i64 0, .int .i64 0, .int .i64 0, .string ⟨#[]⟩, .string ⟨#[]⟩, .string ⟨#[]⟩] 24 (0, 0)) := GR.out.e
    obtain ⟨c0, c1, c2, c3, c4, c5, c6, c7⟩ := ob8 E1
    obtain ⟨f0, f1, f2, f3, f4, f5, f6, f7⟩ := ob8f E1
    clear E1
    go_upto_region 5 with fail
    rw [← HV.out]
    clear HV
    obtain ⟨W5, hW⟩ : ∃ W, W = w5.setCell ⟨g2, 1, none⟩ (.int .i64 v1) := ⟨_, rfl⟩
    have G1 : Hid (GP w W5 g g2 #[.string ⟨#[115, 105, 103, 110, 97, 108]⟩, .int .i64 64, .int .i64 0, .int .i64 0, .int .i64 0, .int .i64 16, .int .i64 0, .int .i64 0] ⟨zs1, b1, ⟨7, v1, 0, 0, 0, ⟨#[]⟩, ⟨#[]⟩, ⟨#[]⟩⟩⟩) := Lib.hid (by rw [hW]; exact GR.out.store rfl)
    rw [← hW]
    clear hW GR c0 c1 c2 c3 c4 c5 c6 c7 f0 f1 f2 f3 f4 f5 f6 f7
    obtain ⟨d0, d1, d2, d3, d4, d5, d6, d7⟩ := ob8 G1.out.s
    go_wp2_with fail
    (with_reducible refine (inS_any g zs1 b1 16 (by decide) (by decide) _ G1.out.i).mono ?_); rintro e w6 ⟨rfl, hp⟩
    have GR := Lib.hid (G1.out.read hp)
    clear hp G1 d0 d1 d2 d3 d4 d5 d6 d7
    obtain ⟨v2, hv⟩ : ∃ v, v = En.valS zs1 b1 16 := ⟨_, rfl⟩
    obtain ⟨zs2, hz⟩ : ∃ z, z = En.restS zs1 b1 16 := ⟨_, rfl⟩
    obtain ⟨b2, hb⟩ : ∃ b, b = !En.okS zs1 b1 16 := ⟨_, rfl⟩
    have RD2 : Hid (Ev.rdP zs = [].foldl Ev.stepP ⟨zs2, b2, ⟨7, v1, 0, 0, 0, v2, ⟨#[]⟩, ⟨#[]⟩⟩⟩) := Lib.hid (by rw [RD1.out, hv, hz, hb]; rfl)
    rw [← hz, ← hb] at GR
    have HV := Lib.hid hv
    clear hv hz hb RD1
    have E1 : w6.heap[g2]? = some (.cells #[.int .i64 7, .int .i64 v1, .int .i64 0, .int .i64 0, .int .i64 0, .string ⟨#[]⟩, .string ⟨#[]⟩, .string ⟨#[]⟩] 24 (0, 0)) := GR.out.e
    obtain ⟨c0, c1, c2, c3, c4, c5, c6, c7⟩ := ob8 E1
    obtain ⟨f0, f1, f2, f3, f4, f5, f6, f7⟩ := ob8f E1
    clear E1
    go_upto_region 13 with fail
    rw [← HV.out]
    clear HV
    obtain ⟨W6, hW⟩ : ∃ W, W = w6.setCell ⟨g2, 5, none⟩ (.string v2) := ⟨_, rfl⟩
    have G2 : Hid (GP w W6 g g2 #[.string ⟨#[115, 105, 103, 110, 97, 108]⟩, .int .i64 64, .int .i64 0, .int .i64 0, .int .i64 0, .int .i64 16, .int .i64 0, .int .i64 0] ⟨zs2, b2, ⟨7, v1, 0, 0, 0, v2, ⟨#[]⟩, ⟨#[]⟩⟩⟩) := Lib.hid (by rw [hW]; exact GR.out.store rfl)
    rw [← hW]
    clear hW GR c0 c1 c2 c3 c4 c5 c6 c7 f0 f1 f2 f3 f4 f5 f6 f7
    obtain ⟨d0, d1, d2, d3, d4, d5, d6, d7⟩ := ob8 G2.out.s
    have E1 : W6.heap[g2]? = some (.cells #[.int .i64 7, .int .i64 v1, .int .i64 0, .int .i64 0, .int .i64 0, .string v2, .string ⟨#[]⟩, .string ⟨#[]⟩] 24 (0, 0)) := G2.out.e
    have E2 : W6.heap[w.heap.size]? = some (.cells #[.int .i64 0, .int .i64 0, .int .i64 0, .int .i64 0, .int .i64 0, .string ⟨#[]⟩, .string ⟨#[]⟩, .string ⟨#[]⟩] 24 (0, 0)) := G2.out.z
    obtain ⟨a0, a1, a2, a3, a4, a5, a6, a7⟩ := ob8 E1
    obtain ⟨⟨c0, c1, c2, c3, c4, c5, c6, c7⟩, f0, f1, f2, f3, f4, f5, f6, f7⟩ := And.intro (ob8 E2) (ob8f E2)
    clear E1 E2
    go_wp2
    have E3 := S8.at_ G2.out.z (.int .i64 7) (.int .i64 v1) (.int .i64 0) (.int .i64 0) (.int .i64 0) (.string v2) (.string ⟨#[]⟩) (.string ⟨#[]⟩)
    have E4 := G2.out.ret (.int .i64 7) (.int .i64 v1) (.int .i64 0) (.int .i64 0) (.int .i64 0) (.string v2) (.string ⟨#[]⟩) (.string ⟨#[]⟩)
    obtain ⟨d0, d1, d2, d3, d4, d5, d6, d7⟩ := ob8 E3
    unfold S8 at d0 d1 d2 d3 d4 d5 d6 d7
    exact bodyPost_ret (v := .agg #[.int .i64 7, .int .i64 v1, .int .i64 0, .int .i64 0, .int .i64 0, .string v2, .string ⟨#[]⟩, .string ⟨#[]⟩]) (by simp [results, Tryd.results27, go_sem, d0, d1, d2, d3, d4, d5, d6, d7]) rfl (RdP.mk_ RD2.out rfl E4)
  · have st := 0
    clear st
    have RD0 : Hid (Ev.rdP zs = [114].foldl Ev.stepP ⟨zs0, b0, ⟨8, 0, 0, 0, 0, ⟨#[]⟩, ⟨#[]⟩, ⟨#[]⟩⟩⟩) := Lib.hid RD.out
    obtain ⟨c0, c1, c2, c3, c4, c5, c6, c7⟩ := (FF.out W3 BW.out).row (k := 8) (by decide)
    rw [show shW 8 = ⟨#[99, 97, 110, 99, 101, 108]⟩ from rfl] at c0
    rw [show shV 8 1 = 64 from rfl] at c1
    rw [show shV 8 2 = 0 from rfl] at c2
    rw [show shV 8 3 = 0 from rfl] at c3
    rw [show shV 8 4 = 0 from rfl] at c4
    rw [show shV 8 5 = 0 from rfl] at c5
    rw [show shV 8 6 = 0 from rfl] at c6
    rw [show shV 8 7 = 0 from rfl] at c7
    (simp only [Nat.reduceMul, Nat.reduceAdd] at c0 c1 c2 c3 c4 c5 c6 c7)
    obtain ⟨e0, e1, e2, e3, e4, e5, e6, e7⟩ := ob8 EW.out
    have sw := SW.out
    go_upto_region 3 with fail
    (try rw [sw])
    clear sw
    obtain ⟨W4, hW4⟩ : ∃ W4, W4 = W3.alloc (.cells #[.string ⟨#[99, 97, 110, 99, 101, 108]⟩, .int .i64 64, .int .i64 0, .int .i64 0, .int .i64 0, .int .i64 0, .int .i64 0, .int .i64 0] 44) := ⟨_, rfl⟩
    have P4 : Below W3.heap.size W3 W4 := by rw [hW4]; exact (Below.refl _ _).alloc (Nat.le_refl _) _
    have G0 : Hid (GP w W4 g g2 #[.string ⟨#[99, 97, 110, 99, 101, 108]⟩, .int .i64 64, .int .i64 0, .int .i64 0, .int .i64 0, .int .i64 0, .int .i64 0, .int .i64 0] ⟨zs0, b0, ⟨8, 0, 0, 0, 0, ⟨#[]⟩, ⟨#[]⟩, ⟨#[]⟩⟩⟩) := Lib.hid ⟨BW.out.trans (But.of (P4.mono BW.out.size)), (P4.block _ (lt_of_block ZW.out)).trans ZW.out, IW.out.below P4 (Nat.le_refl _), (P4.block _ (lt_of_block EW.out)).trans EW.out, by rw [hW4, ← SW.out]; exact heap_alloc_new W3 _, HGW.out, N2.out⟩
    rw [← hW4]
    clear hW4 P4 BW ZW IW EW SW RD FF c0 c1 c2 c3 c4 c5 c6 c7 e0 e1 e2 e3 e4 e5 e6 e7
    obtain ⟨d0, d1, d2, d3, d4, d5, d6, d7⟩ := ob8 G0.out.s
    go_wp2_with fail
    (with_reducible refine (inSmall_any g zs0 b0 64 (by decide) (by decide) _ G0.out.i).mono ?_); rintro e w5 ⟨rfl, hp⟩
    have GR := Lib.hid (G0.out.read hp)
    clear hp G0 d0 d1 d2 d3 d4 d5 d6 d7
    obtain ⟨v1, hv⟩ : ∃ v, v = En.valM zs0 b0 64 := ⟨_, rfl⟩
    obtain ⟨zs1, hz⟩ : ∃ z, z = En.restM zs0 b0 64 := ⟨_, rfl⟩
    obtain ⟨b1, hb⟩ : ∃ b, b = !En.okM zs0 b0 64 := ⟨_, rfl⟩
    have RD1 : Hid (Ev.rdP zs = [].foldl Ev.stepP ⟨zs1, b1, ⟨8, v1, 0, 0, 0, ⟨#[]⟩, ⟨#[]⟩, ⟨#[]⟩⟩⟩) := Lib.hid (by rw [RD0.out, hv, hz, hb]; rfl)
    rw [← hz, ← hb] at GR
    have HV := Lib.hid hv
    clear hv hz hb RD0
    have E1 : w5.heap[g2]? = some (.cells #[.int .i64 8, .int .i64 0, .int .i64 0, .int .i64 0, .int .i64 0, .string ⟨#[]⟩, .string ⟨#[]⟩, .string ⟨#[]⟩] 24 (0, 0)) := GR.out.e
    obtain ⟨c0, c1, c2, c3, c4, c5, c6, c7⟩ := ob8 E1
    obtain ⟨f0, f1, f2, f3, f4, f5, f6, f7⟩ := ob8f E1
    clear E1
    go_upto_region 5 with fail
    rw [← HV.out]
    clear HV
    obtain ⟨W5, hW⟩ : ∃ W, W = w5.setCell ⟨g2, 1, none⟩ (.int .i64 v1) := ⟨_, rfl⟩
    have G1 : Hid (GP w W5 g g2 #[.string ⟨#[99, 97, 110, 99, 101, 108]⟩, .int .i64 64, .int .i64 0, .int .i64 0, .int .i64 0, .int .i64 0, .int .i64 0, .int .i64 0] ⟨zs1, b1, ⟨8, v1, 0, 0, 0, ⟨#[]⟩, ⟨#[]⟩, ⟨#[]⟩⟩⟩) := Lib.hid (by rw [hW]; exact GR.out.store rfl)
    rw [← hW]
    clear hW GR c0 c1 c2 c3 c4 c5 c6 c7 f0 f1 f2 f3 f4 f5 f6 f7
    obtain ⟨d0, d1, d2, d3, d4, d5, d6, d7⟩ := ob8 G1.out.s
    have E1 : W5.heap[g2]? = some (.cells #[.int .i64 8, .int .i64 v1, .int .i64 0, .int .i64 0, .int .i64 0, .string ⟨#[]⟩, .string ⟨#[]⟩, .string ⟨#[]⟩] 24 (0, 0)) := G1.out.e
    have E2 : W5.heap[w.heap.size]? = some (.cells #[.int .i64 0, .int .i64 0, .int .i64 0, .int .i64 0, .int .i64 0, .string ⟨#[]⟩, .string ⟨#[]⟩, .string ⟨#[]⟩] 24 (0, 0)) := G1.out.z
    obtain ⟨a0, a1, a2, a3, a4, a5, a6, a7⟩ := ob8 E1
    obtain ⟨⟨c0, c1, c2, c3, c4, c5, c6, c7⟩, f0, f1, f2, f3, f4, f5, f6, f7⟩ := And.intro (ob8 E2) (ob8f E2)
    clear E1 E2
    go_wp2
    have E3 := S8.at_ G1.out.z (.int .i64 8) (.int .i64 v1) (.int .i64 0) (.int .i64 0) (.int .i64 0) (.string ⟨#[]⟩) (.string ⟨#[]⟩) (.string ⟨#[]⟩)
    have E4 := G1.out.ret (.int .i64 8) (.int .i64 v1) (.int .i64 0) (.int .i64 0) (.int .i64 0) (.string ⟨#[]⟩) (.string ⟨#[]⟩) (.string ⟨#[]⟩)
    obtain ⟨d0, d1, d2, d3, d4, d5, d6, d7⟩ := ob8 E3
    unfold S8 at d0 d1 d2 d3 d4 d5 d6 d7
    exact bodyPost_ret (v := .agg #[.int .i64 8, .int .i64 v1, .int .i64 0, .int .i64 0, .int .i64 0, .string ⟨#[]⟩, .string ⟨#[]⟩, .string ⟨#[]⟩]) (by simp [results, Tryd.results27, go_sem, d0, d1, d2, d3, d4, d5, d6, d7]) rfl (RdP.mk_ RD1.out rfl E4)
  · have st := 0
    clear st
    have RD0 : Hid (Ev.rdP zs = [110].foldl Ev.stepP ⟨zs0, b0, ⟨9, 0, 0, 0, 0, ⟨#[]⟩, ⟨#[]⟩, ⟨#[]⟩⟩⟩) := Lib.hid RD.out
    obtain ⟨c0, c1, c2, c3, c4, c5, c6, c7⟩ := (FF.out W3 BW.out).row (k := 9) (by decide)
    rw [show shW 9 = ⟨#[101, 112, 111, 99, 104]⟩ from rfl] at c0
    rw [show shV 9 1 = 0 from rfl] at c1
    rw [show shV 9 2 = 0 from rfl] at c2
    rw [show shV 9 3 = 0 from rfl] at c3
    rw [show shV 9 4 = 1048575 from rfl] at c4
    rw [show shV 9 5 = 0 from rfl] at c5
    rw [show shV 9 6 = 0 from rfl] at c6
    rw [show shV 9 7 = 0 from rfl] at c7
    (simp only [Nat.reduceMul, Nat.reduceAdd] at c0 c1 c2 c3 c4 c5 c6 c7)
    obtain ⟨e0, e1, e2, e3, e4, e5, e6, e7⟩ := ob8 EW.out
    have sw := SW.out
    go_upto_region 3 with fail
    (try rw [sw])
    clear sw
    obtain ⟨W4, hW4⟩ : ∃ W4, W4 = W3.alloc (.cells #[.string ⟨#[101, 112, 111, 99, 104]⟩, .int .i64 0, .int .i64 0, .int .i64 0, .int .i64 1048575, .int .i64 0, .int .i64 0, .int .i64 0] 44) := ⟨_, rfl⟩
    have P4 : Below W3.heap.size W3 W4 := by rw [hW4]; exact (Below.refl _ _).alloc (Nat.le_refl _) _
    have G0 : Hid (GP w W4 g g2 #[.string ⟨#[101, 112, 111, 99, 104]⟩, .int .i64 0, .int .i64 0, .int .i64 0, .int .i64 1048575, .int .i64 0, .int .i64 0, .int .i64 0] ⟨zs0, b0, ⟨9, 0, 0, 0, 0, ⟨#[]⟩, ⟨#[]⟩, ⟨#[]⟩⟩⟩) := Lib.hid ⟨BW.out.trans (But.of (P4.mono BW.out.size)), (P4.block _ (lt_of_block ZW.out)).trans ZW.out, IW.out.below P4 (Nat.le_refl _), (P4.block _ (lt_of_block EW.out)).trans EW.out, by rw [hW4, ← SW.out]; exact heap_alloc_new W3 _, HGW.out, N2.out⟩
    rw [← hW4]
    clear hW4 P4 BW ZW IW EW SW RD FF c0 c1 c2 c3 c4 c5 c6 c7 e0 e1 e2 e3 e4 e5 e6 e7
    obtain ⟨d0, d1, d2, d3, d4, d5, d6, d7⟩ := ob8 G0.out.s
    go_wp2_with fail
    (with_reducible refine (inU_any g zs0 b0 _ G0.out.i).mono ?_); rintro e w5 ⟨rfl, hp⟩
    have GR := Lib.hid (G0.out.read hp)
    clear hp G0 d0 d1 d2 d3 d4 d5 d6 d7
    obtain ⟨v1, hv⟩ : ∃ v, v = En.valU zs0 b0 := ⟨_, rfl⟩
    obtain ⟨zs1, hz⟩ : ∃ z, z = En.restU zs0 b0 := ⟨_, rfl⟩
    obtain ⟨b1, hb⟩ : ∃ b, b = !En.okU zs0 b0 := ⟨_, rfl⟩
    have RD1 : Hid (Ev.rdP zs = [].foldl Ev.stepP ⟨zs1, b1, ⟨9, 0, 0, 0, wrap64 v1, ⟨#[]⟩, ⟨#[]⟩, ⟨#[]⟩⟩⟩) := Lib.hid (by rw [RD0.out, hv, hz, hb]; rfl)
    rw [← hz, ← hb] at GR
    have HV := Lib.hid hv
    clear hv hz hb RD0
    obtain ⟨n1, hn⟩ : ∃ n, n = wrap64 v1 := ⟨_, rfl⟩
    have tw : wrap64 (En.valU zs0 b0) = n1 := by rw [← HV.out]; exact hn.symm
    have tw2 : IntKind.i64.wrap (En.valU zs0 b0) = n1 := by rw [← HV.out]; exact (wrap_i64_eq _).trans hn.symm
    rw [← hn] at RD1
    clear hn HV
    have E1 : w5.heap[g2]? = some (.cells #[.int .i64 9, .int .i64 0, .int .i64 0, .int .i64 0, .int .i64 0, .string ⟨#[]⟩, .string ⟨#[]⟩, .string ⟨#[]⟩] 24 (0, 0)) := GR.out.e
    obtain ⟨c0, c1, c2, c3, c4, c5, c6, c7⟩ := ob8 E1
    obtain ⟨f0, f1, f2, f3, f4, f5, f6, f7⟩ := ob8f E1
    clear E1
    go_upto_region 11 with fail
    obtain ⟨W5, hW⟩ : ∃ W, W = w5.setCell ⟨g2, 4, none⟩ (.int .i64 n1) := ⟨_, rfl⟩
    have G1 : Hid (GP w W5 g g2 #[.string ⟨#[101, 112, 111, 99, 104]⟩, .int .i64 0, .int .i64 0, .int .i64 0, .int .i64 1048575, .int .i64 0, .int .i64 0, .int .i64 0] ⟨zs1, b1, ⟨9, 0, 0, 0, n1, ⟨#[]⟩, ⟨#[]⟩, ⟨#[]⟩⟩⟩) := Lib.hid (by rw [hW]; exact GR.out.store rfl)
    rw [← hW]
    clear hW GR c0 c1 c2 c3 c4 c5 c6 c7 f0 f1 f2 f3 f4 f5 f6 f7
    obtain ⟨d0, d1, d2, d3, d4, d5, d6, d7⟩ := ob8 G1.out.s
    have E1 : W5.heap[g2]? = some (.cells #[.int .i64 9, .int .i64 0, .int .i64 0, .int .i64 0, .int .i64 n1, .string ⟨#[]⟩, .string ⟨#[]⟩, .string ⟨#[]⟩] 24 (0, 0)) := G1.out.e
    have E2 : W5.heap[w.heap.size]? = some (.cells #[.int .i64 0, .int .i64 0, .int .i64 0, .int .i64 0, .int .i64 0, .string ⟨#[]⟩, .string ⟨#[]⟩, .string ⟨#[]⟩] 24 (0, 0)) := G1.out.z
    obtain ⟨a0, a1, a2, a3, a4, a5, a6, a7⟩ := ob8 E1
    obtain ⟨⟨c0, c1, c2, c3, c4, c5, c6, c7⟩, f0, f1, f2, f3, f4, f5, f6, f7⟩ := And.intro (ob8 E2) (ob8f E2)
    clear E1 E2
    go_wp2
    have E3 := S8.at_ G1.out.z (.int .i64 9) (.int .i64 0) (.int .i64 0) (.int .i64 0) (.int .i64 n1) (.string ⟨#[]⟩) (.string ⟨#[]⟩) (.string ⟨#[]⟩)
    have E4 := G1.out.ret (.int .i64 9) (.int .i64 0) (.int .i64 0) (.int .i64 0) (.int .i64 n1) (.string ⟨#[]⟩) (.string ⟨#[]⟩) (.string ⟨#[]⟩)
    obtain ⟨d0, d1, d2, d3, d4, d5, d6, d7⟩ := ob8 E3
    unfold S8 at d0 d1 d2 d3 d4 d5 d6 d7
    exact bodyPost_ret (v := .agg #[.int .i64 9, .int .i64 0, .int .i64 0, .int .i64 0, .int .i64 n1, .string ⟨#[]⟩, .string ⟨#[]⟩, .string ⟨#[]⟩]) (by simp [results, Tryd.results27, go_sem, d0, d1, d2, d3, d4, d5, d6, d7]) rfl (RdP.mk_ RD1.out rfl E4)
end Go.Proofs.YtighnooklcmjaaaDoor
