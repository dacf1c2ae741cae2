/-
  Part 21 of the texts behind the law: EvGetPP.
-/
import Derived.Test.YtighnooklcmjaaaDoorEv20
import Derived.Test.YtighnooklcmjaaaDoorEv15
/-
  The program's Get at all bytes.
-/
namespace Go.Proofs.YtighnooklcmjaaaDoor
open Go.RowKit
/-- What is asked of the pieces that were read: the program's answer is the reference's. -/
theorem Ev.ask {zs : List Int} (hb : En.Byte zs) {ys : List Int} {b : Bool} {e : Ev.E} (h : Ev.rdP zs = ⟨ys, b, e⟩) :
    (En.isEnd ys b = false → Ev.acc zs = false) ∧ (Ev.good e = false → Ev.acc zs = false) ∧ (En.isEnd ys b = true → Ev.good e = true → Ev.acc zs = true ∧ (Ev.final zs).e = e) := by
  obtain ⟨h1, h2⟩ := Ev.accP_acc hb
  have hp : Ev.accP zs = (En.isEnd ys b && Ev.good e) := by unfold Ev.accP En.isEnd; rw [h, Bool.and_assoc]
  rw [hp] at h1
  refine ⟨fun hq => ?_, fun hq => ?_, fun hq hg => ?_⟩
  · rw [← h1, hq]; rfl
  · rw [← h1, hq, Bool.and_false]
  · have ha : Ev.acc zs = true := by rw [← h1, hq, hg]; rfl
    exact ⟨ha, by rw [← h2 ha, h]⟩
theorem EvG.bad8 {w wr : World} {zs : List Int} (h : Ev.acc zs = false) (hb : Below w.heap.size w wr) (v0 v1 v2 v3 v4 v5 v6 v7 : Value) : EvG w zs (.returned (.tuple #[.agg #[.int .i64 0, .int .i64 0, .int .i64 0, .int .i64 0, .int .i64 0, .string ⟨#[]⟩, .string ⟨#[]⟩, .string ⟨#[]⟩], .int .i64 2])) (S8 wr w.heap.size v0 v1 v2 v3 v4 v5 v6 v7) :=
  EvG.bad h (S8.below hb (Nat.le_refl _) _ _ _ _ _ _ _ _)
set_option maxRecDepth 20000 in
set_option maxHeartbeats 16000000 in
theorem get_p (A : Option Addr) (zs : List Int) (cap : Nat) (hl : zs.length ≤ cap) (h62 : zs.length ≤ 4611686018427387904) (w : World) (hF : FactsS w) (h : Bytes w w.heap.size A zs) :
    Calls Tryd.prog 11 #[.slice A zs.length cap] w (EvG w zs) := by
  obtain ⟨W0, hW0⟩ : ∃ W0, W0 = (w.alloc (.cells #[.int .i64 0, .int .i64 0, .int .i64 0, .int .i64 0, .int .i64 0, .string ⟨#[]⟩, .string ⟨#[]⟩, .string ⟨#[]⟩] 24)).alloc (.cells #[.slice A zs.length cap, .bool false] 59) := ⟨_, rfl⟩
  have hB := h.mem
  have HB0 := Lib.hid (hB : En.Byte zs)
  have B0 : Below w.heap.size w W0 := by rw [hW0]; exact ((Below.refl _ w).alloc (Nat.le_refl _) _).alloc (by simp) _
  have S0 : W0.heap.size = w.heap.size + 1 + 1 := by rw [hW0]; simp
  have Z0 : W0.heap[w.heap.size]? = some (.cells (evc Ev.zero) 24 (0, 0)) := by rw [hW0, Below.heap_alloc _ _ _ (by simp)]; exact heap_alloc_new w _
  obtain ⟨g1, hg1⟩ : ∃ g1, g1 = w.heap.size + 1 := ⟨_, rfl⟩
  have I0 : InAt W0 59 g1 zs false := ⟨A, cap, by rw [hW0, hg1]; have := heap_alloc_new (w.alloc (.cells #[.int .i64 0, .int .i64 0, .int .i64 0, .int .i64 0, .int .i64 0, .string ⟨#[]⟩, .string ⟨#[]⟩, .string ⟨#[]⟩] 24)) (.cells #[.slice A zs.length cap, .bool false] 59); rwa [World.size_alloc] at this, hl, h62, (h.below B0).more B0.size⟩
  obtain ⟨R, hR⟩ : ∃ R, R = Ev.rdP zs := ⟨_, rfl⟩
  have RP0 := read_p g1 zs W0 I0 (fun W hB => hF.on (B0.trans (hB.below B0.size (by omega))))
  have EI := Ev.rdP_in zs hB
  have FF : Hid (∀ W, Below w.heap.size w W → FactsS W) := Lib.hid fun W hb => hF.on hb
  have RP : Calls Tryd.prog 27 #[.pointer (some ⟨g1, 0, none⟩)] W0 fun r w' => r = .returned (.agg (evc R.e)) ∧ InAt w' 59 g1 R.zs R.b ∧ Below w.heap.size w w' ∧ w'.heap[w.heap.size]? = some (.cells (evc Ev.zero) 24 (0, 0)) ∧ w.heap.size < w'.heap.size := by
    refine RP0.mono fun r w' hr => ?_
    obtain ⟨q1, q2, q3⟩ := hr
    rw [hR]
    refine ⟨q1, q2, B0.trans (q3.below B0.size (by omega)), (q3.block _ (by omega) (by omega)).trans Z0, by have := q3.size; omega⟩
  rw [← hR] at EI
  have AK := Ev.ask (zs := zs) hB (ys := R.zs) (b := R.b) (e := R.e) hR.symm
  obtain ⟨ys, b, kk, ru, ta, tr, n, na, ke, da⟩ := R
  have GE := Lib.hid (good_p _ EI)
  simp only at AK
  obtain ⟨K1, K2, K3⟩ := AK
  have K1' := Lib.hid K1
  have K2' := Lib.hid K2
  have K3' := Lib.hid K3
  have RPH := Lib.hid RP
  change Hid (Calls Tryd.prog 27 #[.pointer (some ⟨g1, 0, none⟩)] W0 fun r w' => r = .returned (.agg #[.int .i64 kk, .int .i64 ru, .int .i64 ta, .int .i64 tr, .int .i64 n, .string na, .string ke, .string da]) ∧ InAt w' 59 g1 ys b ∧ Below w.heap.size w w' ∧ w'.heap[w.heap.size]? = some (.cells #[.int .i64 0, .int .i64 0, .int .i64 0, .int .i64 0, .int .i64 0, .string ⟨#[]⟩, .string ⟨#[]⟩, .string ⟨#[]⟩] 24 (0, 0)) ∧ w.heap.size < w'.heap.size) at RPH
  change Hid (∀ W, FactsS W → Calls _ _ #[.agg #[.int .i64 kk, .int .i64 ru, .int .i64 ta, .int .i64 tr, .int .i64 n, .string na, .string ke, .string da]] W _) at GE
  have IE := Lib.hid (fun W h => inEnd_any 59 g1 ys b W h)
  have EG : Hid (∀ w', Ev.acc zs = true → (Ev.final zs).e = ⟨kk, ru, ta, tr, n, na, ke, da⟩ → Below w.heap.size w w' → EvG w zs (.returned (.tuple #[.agg #[.int .i64 kk, .int .i64 ru, .int .i64 ta, .int .i64 tr, .int .i64 n, .string na, .string ke, .string da], .int .i64 0])) w') := Lib.hid fun w' h1 h2 h3 => EvG.good h1 h2 h3
  generalize Ev.good ⟨kk, ru, ta, tr, n, na, ke, da⟩ = gd at *
  generalize En.isEnd ys b = q at *
  have HW := Lib.hid hW0
  have HG1 := Lib.hid hg1
  clear hW0 hl h62 hB h B0 S0 Z0 I0 hR RP0 EI RP hF K1 K2 K3 hg1
  go_enter Tryd.func11, Tryd.ntmps11
  go_wp2_with fail
  rw [← HW.out, ← HG1.out]
  clear HW
  (with_reducible refine RPH.out.mono ?_); rintro e w1 ⟨rfl, i1, b1, z1, n1⟩
  have X1 := Lib.hid (And.intro i1 (And.intro b1 (And.intro z1 n1)))
  clear i1 b1 z1 n1 RPH
  go_upto_region 3 with fail
  obtain ⟨W2, hW2⟩ : ∃ W2, W2 = w1.alloc (.cells #[.int .i64 kk, .int .i64 ru, .int .i64 ta, .int .i64 tr, .int .i64 n, .string na, .string ke, .string da] 24) := ⟨_, rfl⟩
  obtain ⟨g2, hg2⟩ : ∃ g2, g2 = w1.heap.size := ⟨_, rfl⟩
  have P2 : Below w1.heap.size w1 W2 := by rw [hW2]; exact (Below.refl _ _).alloc (Nat.le_refl _) _
  have I2 : Hid (InAt W2 59 g1 ys b) := Lib.hid (X1.out.1.below P2 (Nat.le_refl _))
  have B2 : Hid (Below w.heap.size w W2) := Lib.hid (X1.out.2.1.trans (P2.mono X1.out.2.1.size))
  have Z2 : Hid (W2.heap[w.heap.size]? = some (.cells #[.int .i64 0, .int .i64 0, .int .i64 0, .int .i64 0, .int .i64 0, .string ⟨#[]⟩, .string ⟨#[]⟩, .string ⟨#[]⟩] 24 (0, 0))) := Lib.hid ((P2.block _ X1.out.2.2.2).trans X1.out.2.2.1)
  have E2 : Hid (W2.heap[g2]? = some (.cells #[.int .i64 kk, .int .i64 ru, .int .i64 ta, .int .i64 tr, .int .i64 n, .string na, .string ke, .string da] 24 (0, 0))) := Lib.hid (by rw [hW2, hg2]; exact heap_alloc_new w1 _)
  rw [← hW2, ← hg2]
  clear hW2 hg2 P2 X1
  go_wp2_with fail
  (with_reducible refine (IE.out _ I2.out).mono ?_); rintro e w3 ⟨rfl, rfl⟩
  cases q
  · have AB := Lib.hid (K1'.out (by trivial))
    obtain ⟨⟨c0, c1, c2, c3, c4, c5, c6, c7⟩, f0, f1, f2, f3, f4, f5, f6, f7⟩ := And.intro (ob8 Z2.out) (ob8f Z2.out)
    go_wp2
    have E3 := S8.at_ Z2.out (.int .i64 0) (.int .i64 0) (.int .i64 0) (.int .i64 0) (.int .i64 0) (.string ⟨#[]⟩) (.string ⟨#[]⟩) (.string ⟨#[]⟩)
    obtain ⟨d0, d1, d2, d3, d4, d5, d6, d7⟩ := ob8 E3
    unfold S8 at d0 d1 d2 d3 d4 d5 d6 d7
    exact bodyPost_ret (v := .tuple #[.agg #[.int .i64 0, .int .i64 0, .int .i64 0, .int .i64 0, .int .i64 0, .string ⟨#[]⟩, .string ⟨#[]⟩, .string ⟨#[]⟩], .int .i64 2]) (by simp [results, Tryd.results11, go_sem, d0, d1, d2, d3, d4, d5, d6, d7]) rfl (EvG.bad8 AB.out B2.out _ _ _ _ _ _ _ _)
  obtain ⟨a0, a1, a2, a3, a4, a5, a6, a7⟩ := ob8 E2.out
  go_wp2_with fail
  (with_reducible refine (GE.out _ (FF.out _ B2.out)).mono ?_); rintro e w5 ⟨rfl, b5⟩
  have B5 := Lib.hid (B2.out.trans (b5.mono B2.out.size))
  have Z5 := Lib.hid ((b5.block _ (lt_of_block Z2.out)).trans Z2.out)
  have E5 := Lib.hid ((b5.block _ (lt_of_block E2.out)).trans E2.out)
  clear b5 B2 Z2 E2 I2 a0 a1 a2 a3 a4 a5 a6 a7
  obtain ⟨⟨c0, c1, c2, c3, c4, c5, c6, c7⟩, f0, f1, f2, f3, f4, f5, f6, f7⟩ := And.intro (ob8 Z5.out) (ob8f Z5.out)
  cases gd
  · have AB := Lib.hid (K2'.out (by trivial))
    go_wp2
    have E3 := S8.at_ Z5.out (.int .i64 0) (.int .i64 0) (.int .i64 0) (.int .i64 0) (.int .i64 0) (.string ⟨#[]⟩) (.string ⟨#[]⟩) (.string ⟨#[]⟩)
    obtain ⟨d0, d1, d2, d3, d4, d5, d6, d7⟩ := ob8 E3
    unfold S8 at d0 d1 d2 d3 d4 d5 d6 d7
    exact bodyPost_ret (v := .tuple #[.agg #[.int .i64 0, .int .i64 0, .int .i64 0, .int .i64 0, .int .i64 0, .string ⟨#[]⟩, .string ⟨#[]⟩, .string ⟨#[]⟩], .int .i64 2]) (by simp [results, Tryd.results11, go_sem, d0, d1, d2, d3, d4, d5, d6, d7]) rfl (EvG.bad8 AB.out B5.out _ _ _ _ _ _ _ _)
  · have AG := Lib.hid (K3'.out (by trivial) (by trivial))
    obtain ⟨a0, a1, a2, a3, a4, a5, a6, a7⟩ := ob8 E5.out
    go_wp2
    have E3 := S8.at_ Z5.out (.int .i64 kk) (.int .i64 ru) (.int .i64 ta) (.int .i64 tr) (.int .i64 n) (.string na) (.string ke) (.string da)
    obtain ⟨d0, d1, d2, d3, d4, d5, d6, d7⟩ := ob8 E3
    unfold S8 at d0 d1 d2 d3 d4 d5 d6 d7
    exact bodyPost_ret (v := .tuple #[.agg #[.int .i64 kk, .int .i64 ru, .int .i64 ta, .int .i64 tr, .int .i64 n, .string na, .string ke, .string da], .int .i64 0]) (by simp [results, Tryd.results11, go_sem, d0, d1, d2, d3, d4, d5, d6, d7]) rfl (EG.out _ AG.out.1 AG.out.2 (S8.below B5.out (Nat.le_refl _) _ _ _ _ _ _ _ _))
end Go.Proofs.YtighnooklcmjaaaDoor
