/-
  Part 18 of the texts behind the law: EvFoldS.
-/
import Derived.Test.YtighnooklcmjaaaDoorEv17
/-
  eachField with Show's two functions.
-/
namespace Go.Proofs.YtighnooklcmjaaaDoor
open Go.RowKit
set_option maxRecDepth 100000 in
set_option maxHeartbeats 16000000 in
theorem fold_show (g : Nat) (e : Ev.E) (hg : Ev.Good e) (w : World) (hF : FactsS w) (S : Nat → World → Prop)
    (grow : ∀ j W W', S j W → Below W.heap.size W W' → S j W') 
    (num : ∀ j c z W, (Ev.codes e.kind)[j]? = some c → Ev.numF e c = some z → 0 ≤ z → z ≤ 1099511627776 → S j W → Calls Tryd.prog 23 #[.int .u64 z, .pointer (some ⟨g, 0, none⟩)] W fun r W' => r = .returned (.tuple #[]) ∧ S (j + 1) W' ∧ Kp W W')
    (txt : ∀ j c s W, (Ev.codes e.kind)[j]? = some c → Ev.txtF e c = some s → S j W → Calls Tryd.prog 25 #[.string s, .pointer (some ⟨g, 0, none⟩)] W fun r W' => r = .returned (.tuple #[]) ∧ S (j + 1) W' ∧ Kp W W')
    (h0 : S 0 w) : Calls Tryd.prog 21 #[.agg (evc e), .func (.func 23) #[] #[.pointer (some ⟨g, 0, none⟩)], .func (.func 25) #[] #[.pointer (some ⟨g, 0, none⟩)]] w fun r w' => r = .returned (.tuple #[]) ∧ S (Ev.codes e.kind).length w' := by
  have hk := hg.kind
  obtain ⟨⟨r0, r1⟩, ⟨t0, t1⟩, ⟨y0, y1⟩, ⟨n0, n1⟩⟩ := ev_fits hg
  obtain ⟨kd, ru, ta, tr, n, na, ke, da⟩ := e
  simp only at hk r0 r1 t0 t1 y0 y1 n0 n1
  have NUM := Lib.hid num
  have TXT := Lib.hid txt
  have hF2 := hF.on ((Below.refl _ w).alloc (Nat.le_refl _) (.cells #[.int .i64 kd, .int .i64 ru, .int .i64 ta, .int .i64 tr, .int .i64 n, .string na, .string ke, .string da] 24))
  clear num txt hg hF
  have u1 : IntKind.u64.wrap ru = ru := IntWalk.u64_in _ (by omega)
  have u2 : IntKind.u64.wrap ta = ta := IntWalk.u64_in _ (by omega)
  have u3 : IntKind.u64.wrap tr = tr := IntWalk.u64_in _ (by omega)
  have u4 : IntKind.u64.wrap n = n := IntWalk.u64_in _ (by omega)
  have hkc : kd = 1 ∨ kd = 2 ∨ kd = 3 ∨ kd = 4 ∨ kd = 5 ∨ kd = 6 ∨ kd = 7 ∨ kd = 8 ∨ kd = 9 := by omega
  clear hk
  change Calls _ _ #[.agg #[.int .i64 kd, .int .i64 ru, .int .i64 ta, .int .i64 tr, .int .i64 n, .string na, .string ke, .string da], .func (.func 23) #[] #[.pointer (some ⟨g, 0, none⟩)], .func (.func 25) #[] #[.pointer (some ⟨g, 0, none⟩)]] _ _
  rcases hkc with rfl | rfl | rfl | rfl | rfl | rfl | rfl | rfl | rfl
  · as_aux_lemma =>
    obtain ⟨c0, c1, c2, c3, c4, c5, c6, c7⟩ := hF2.row (k := 1) (by decide)
    rw [show shW 1 = ⟨#[100, 101, 102, 105, 110, 101]⟩ from rfl] at c0
    rw [show shV 1 1 = 0 from rfl] at c1
    rw [show shV 1 2 = 0 from rfl] at c2
    rw [show shV 1 3 = 0 from rfl] at c3
    rw [show shV 1 4 = 0 from rfl] at c4
    rw [show shV 1 5 = 16 from rfl] at c5
    rw [show shV 1 6 = 0 from rfl] at c6
    rw [show shV 1 7 = 900 from rfl] at c7
    (simp only [Nat.reduceMul, Nat.reduceAdd] at c0 c1 c2 c3 c4 c5 c6 c7)
    have X0 := Lib.hid (Fl.p (Fl.start w ⟨1, ru, ta, tr, n, na, ke, da⟩ #[.string ⟨#[100, 101, 102, 105, 110, 101]⟩, .int .i64 0, .int .i64 0, .int .i64 0, .int .i64 0, .int .i64 16, .int .i64 0, .int .i64 900]))
    have S0 : Hid (S 0 ((w.alloc (.cells #[.int .i64 1, .int .i64 ru, .int .i64 ta, .int .i64 tr, .int .i64 n, .string na, .string ke, .string da] 24)).alloc (.cells #[.string ⟨#[100, 101, 102, 105, 110, 101]⟩, .int .i64 0, .int .i64 0, .int .i64 0, .int .i64 0, .int .i64 16, .int .i64 0, .int .i64 900] 44))) := Lib.hid (grow 0 w _ h0 (((Below.refl _ w).alloc (Nat.le_refl _) _).alloc (by simp) _))
    obtain ⟨W0, hW0⟩ : ∃ W0, W0 = (w.alloc (.cells #[.int .i64 1, .int .i64 ru, .int .i64 ta, .int .i64 tr, .int .i64 n, .string na, .string ke, .string da] 24)).alloc (.cells #[.string ⟨#[100, 101, 102, 105, 110, 101]⟩, .int .i64 0, .int .i64 0, .int .i64 0, .int .i64 0, .int .i64 16, .int .i64 0, .int .i64 900] 44) := ⟨_, rfl⟩
    change Hid (Fp w _ _ ((w.alloc (.cells #[.int .i64 1, .int .i64 ru, .int .i64 ta, .int .i64 tr, .int .i64 n, .string na, .string ke, .string da] 24)).alloc (.cells #[.string ⟨#[100, 101, 102, 105, 110, 101]⟩, .int .i64 0, .int .i64 0, .int .i64 0, .int .i64 0, .int .i64 16, .int .i64 0, .int .i64 900] 44))) at X0
    rw [← hW0] at X0 S0
    have HW := Lib.hid hW0
    clear hW0 hF2 h0 grow
    go_enter Tryd.func21, Tryd.ntmps21
    go_upto_region 2 with fail
    rw [← HW.out]
    clear HW c0 c1 c2 c3 c4 c5 c6 c7
    have E1 := X0.out.x
    have E2 := X0.out.y
    unfold evc at E1
    obtain ⟨c0, c1, c2, c3, c4, c5, c6, c7⟩ := ob8 E1
    obtain ⟨d0, d1, d2, d3, d4, d5, d6, d7⟩ := ob8 E2
    clear E1 E2
    go_wp2_with fail
    (with_reducible refine (TXT.out 0 97 na _ rfl rfl S0.out).mono ?_); rintro e w1 ⟨rfl, hs, hp⟩
    have X1 := Lib.hid (X0.out.kp hp)
    have S1 := Lib.hid hs
    clear hs hp X0 S0 c0 c1 c2 c3 c4 c5 c6 c7 d0 d1 d2 d3 d4 d5 d6 d7
    have E1 := X1.out.x
    have E2 := X1.out.y
    unfold evc at E1
    obtain ⟨c0, c1, c2, c3, c4, c5, c6, c7⟩ := ob8 E1
    obtain ⟨d0, d1, d2, d3, d4, d5, d6, d7⟩ := ob8 E2
    clear E1 E2
    go_wp2_with fail
    (with_reducible refine (TXT.out 1 100 da _ rfl rfl S1.out).mono ?_); rintro e w2 ⟨rfl, hs, hp⟩
    have X2 := Lib.hid (X1.out.kp hp)
    have S2 := Lib.hid hs
    clear hs hp X1 S1 c0 c1 c2 c3 c4 c5 c6 c7 d0 d1 d2 d3 d4 d5 d6 d7
    have E1 := X2.out.x
    have E2 := X2.out.y
    unfold evc at E1
    obtain ⟨c0, c1, c2, c3, c4, c5, c6, c7⟩ := ob8 E1
    obtain ⟨d0, d1, d2, d3, d4, d5, d6, d7⟩ := ob8 E2
    clear E1 E2
    go_wp2
    go_end0
    exact ⟨rfl, S2.out⟩
  · as_aux_lemma =>
    obtain ⟨c0, c1, c2, c3, c4, c5, c6, c7⟩ := hF2.row (k := 2) (by decide)
    rw [show shW 2 = ⟨#[115, 116, 97, 114, 116]⟩ from rfl] at c0
    rw [show shV 2 1 = 64 from rfl] at c1
    rw [show shV 2 2 = 0 from rfl] at c2
    rw [show shV 2 3 = 0 from rfl] at c3
    rw [show shV 2 4 = 0 from rfl] at c4
    rw [show shV 2 5 = 16 from rfl] at c5
    rw [show shV 2 6 = 16 from rfl] at c6
    rw [show shV 2 7 = 0 from rfl] at c7
    (simp only [Nat.reduceMul, Nat.reduceAdd] at c0 c1 c2 c3 c4 c5 c6 c7)
    have X0 := Lib.hid (Fl.p (Fl.start w ⟨2, ru, ta, tr, n, na, ke, da⟩ #[.string ⟨#[115, 116, 97, 114, 116]⟩, .int .i64 64, .int .i64 0, .int .i64 0, .int .i64 0, .int .i64 16, .int .i64 16, .int .i64 0]))
    have S0 : Hid (S 0 ((w.alloc (.cells #[.int .i64 2, .int .i64 ru, .int .i64 ta, .int .i64 tr, .int .i64 n, .string na, .string ke, .string da] 24)).alloc (.cells #[.string ⟨#[115, 116, 97, 114, 116]⟩, .int .i64 64, .int .i64 0, .int .i64 0, .int .i64 0, .int .i64 16, .int .i64 16, .int .i64 0] 44))) := Lib.hid (grow 0 w _ h0 (((Below.refl _ w).alloc (Nat.le_refl _) _).alloc (by simp) _))
    obtain ⟨W0, hW0⟩ : ∃ W0, W0 = (w.alloc (.cells #[.int .i64 2, .int .i64 ru, .int .i64 ta, .int .i64 tr, .int .i64 n, .string na, .string ke, .string da] 24)).alloc (.cells #[.string ⟨#[115, 116, 97, 114, 116]⟩, .int .i64 64, .int .i64 0, .int .i64 0, .int .i64 0, .int .i64 16, .int .i64 16, .int .i64 0] 44) := ⟨_, rfl⟩
    change Hid (Fp w _ _ ((w.alloc (.cells #[.int .i64 2, .int .i64 ru, .int .i64 ta, .int .i64 tr, .int .i64 n, .string na, .string ke, .string da] 24)).alloc (.cells #[.string ⟨#[115, 116, 97, 114, 116]⟩, .int .i64 64, .int .i64 0, .int .i64 0, .int .i64 0, .int .i64 16, .int .i64 16, .int .i64 0] 44))) at X0
    rw [← hW0] at X0 S0
    have HW := Lib.hid hW0
    clear hW0 hF2 h0 grow
    go_enter Tryd.func21, Tryd.ntmps21
    go_upto_region 2 with fail
    rw [← HW.out]
    clear HW c0 c1 c2 c3 c4 c5 c6 c7
    have E1 := X0.out.x
    have E2 := X0.out.y
    unfold evc at E1
    obtain ⟨c0, c1, c2, c3, c4, c5, c6, c7⟩ := ob8 E1
    obtain ⟨d0, d1, d2, d3, d4, d5, d6, d7⟩ := ob8 E2
    clear E1 E2
    go_wp2_with fail
    (with_reducible refine (NUM.out 0 114 ru _ rfl rfl (by omega) (by omega) S0.out).mono ?_); rintro e w1 ⟨rfl, hs, hp⟩
    have X1 := Lib.hid (X0.out.kp hp)
    have S1 := Lib.hid hs
    clear hs hp X0 S0 c0 c1 c2 c3 c4 c5 c6 c7 d0 d1 d2 d3 d4 d5 d6 d7
    have E1 := X1.out.x
    have E2 := X1.out.y
    unfold evc at E1
    obtain ⟨c0, c1, c2, c3, c4, c5, c6, c7⟩ := ob8 E1
    obtain ⟨d0, d1, d2, d3, d4, d5, d6, d7⟩ := ob8 E2
    clear E1 E2
    go_wp2_with fail
    (with_reducible refine (TXT.out 1 97 na _ rfl rfl S1.out).mono ?_); rintro e w2 ⟨rfl, hs, hp⟩
    have X2 := Lib.hid (X1.out.kp hp)
    have S2 := Lib.hid hs
    clear hs hp X1 S1 c0 c1 c2 c3 c4 c5 c6 c7 d0 d1 d2 d3 d4 d5 d6 d7
    have E1 := X2.out.x
    have E2 := X2.out.y
    unfold evc at E1
    obtain ⟨c0, c1, c2, c3, c4, c5, c6, c7⟩ := ob8 E1
    obtain ⟨d0, d1, d2, d3, d4, d5, d6, d7⟩ := ob8 E2
    clear E1 E2
    go_wp2_with fail
    (with_reducible refine (TXT.out 2 107 ke _ rfl rfl S2.out).mono ?_); rintro e w3 ⟨rfl, hs, hp⟩
    have X3 := Lib.hid (X2.out.kp hp)
    have S3 := Lib.hid hs
    clear hs hp X2 S2 c0 c1 c2 c3 c4 c5 c6 c7 d0 d1 d2 d3 d4 d5 d6 d7
    have E1 := X3.out.x
    have E2 := X3.out.y
    unfold evc at E1
    obtain ⟨c0, c1, c2, c3, c4, c5, c6, c7⟩ := ob8 E1
    obtain ⟨d0, d1, d2, d3, d4, d5, d6, d7⟩ := ob8 E2
    clear E1 E2
    go_wp2
    go_end0
    exact ⟨rfl, S3.out⟩
  · as_aux_lemma =>
    obtain ⟨c0, c1, c2, c3, c4, c5, c6, c7⟩ := hF2.row (k := 3) (by decide)
    rw [show shW 3 = ⟨#[108, 101, 97, 115, 101]⟩ from rfl] at c0
    rw [show shV 3 1 = 64 from rfl] at c1
    rw [show shV 3 2 = 15 from rfl] at c2
    rw [show shV 3 3 = 9 from rfl] at c3
    rw [show shV 3 4 = 0 from rfl] at c4
    rw [show shV 3 5 = 0 from rfl] at c5
    rw [show shV 3 6 = 0 from rfl] at c6
    rw [show shV 3 7 = 0 from rfl] at c7
    (simp only [Nat.reduceMul, Nat.reduceAdd] at c0 c1 c2 c3 c4 c5 c6 c7)
    have X0 := Lib.hid (Fl.p (Fl.start w ⟨3, ru, ta, tr, n, na, ke, da⟩ #[.string ⟨#[108, 101, 97, 115, 101]⟩, .int .i64 64, .int .i64 15, .int .i64 9, .int .i64 0, .int .i64 0, .int .i64 0, .int .i64 0]))
    have S0 : Hid (S 0 ((w.alloc (.cells #[.int .i64 3, .int .i64 ru, .int .i64 ta, .int .i64 tr, .int .i64 n, .string na, .string ke, .string da] 24)).alloc (.cells #[.string ⟨#[108, 101, 97, 115, 101]⟩, .int .i64 64, .int .i64 15, .int .i64 9, .int .i64 0, .int .i64 0, .int .i64 0, .int .i64 0] 44))) := Lib.hid (grow 0 w _ h0 (((Below.refl _ w).alloc (Nat.le_refl _) _).alloc (by simp) _))
    obtain ⟨W0, hW0⟩ : ∃ W0, W0 = (w.alloc (.cells #[.int .i64 3, .int .i64 ru, .int .i64 ta, .int .i64 tr, .int .i64 n, .string na, .string ke, .string da] 24)).alloc (.cells #[.string ⟨#[108, 101, 97, 115, 101]⟩, .int .i64 64, .int .i64 15, .int .i64 9, .int .i64 0, .int .i64 0, .int .i64 0, .int .i64 0] 44) := ⟨_, rfl⟩
    change Hid (Fp w _ _ ((w.alloc (.cells #[.int .i64 3, .int .i64 ru, .int .i64 ta, .int .i64 tr, .int .i64 n, .string na, .string ke, .string da] 24)).alloc (.cells #[.string ⟨#[108, 101, 97, 115, 101]⟩, .int .i64 64, .int .i64 15, .int .i64 9, .int .i64 0, .int .i64 0, .int .i64 0, .int .i64 0] 44))) at X0
    rw [← hW0] at X0 S0
    have HW := Lib.hid hW0
    clear hW0 hF2 h0 grow
    go_enter Tryd.func21, Tryd.ntmps21
    go_upto_region 2 with fail
    rw [← HW.out]
    clear HW c0 c1 c2 c3 c4 c5 c6 c7
    have E1 := X0.out.x
    have E2 := X0.out.y
    unfold evc at E1
    obtain ⟨c0, c1, c2, c3, c4, c5, c6, c7⟩ := ob8 E1
    obtain ⟨d0, d1, d2, d3, d4, d5, d6, d7⟩ := ob8 E2
    clear E1 E2
    go_wp2_with fail
    (with_reducible refine (NUM.out 0 114 ru _ rfl rfl (by omega) (by omega) S0.out).mono ?_); rintro e w1 ⟨rfl, hs, hp⟩
    have X1 := Lib.hid (X0.out.kp hp)
    have S1 := Lib.hid hs
    clear hs hp X0 S0 c0 c1 c2 c3 c4 c5 c6 c7 d0 d1 d2 d3 d4 d5 d6 d7
    have E1 := X1.out.x
    have E2 := X1.out.y
    unfold evc at E1
    obtain ⟨c0, c1, c2, c3, c4, c5, c6, c7⟩ := ob8 E1
    obtain ⟨d0, d1, d2, d3, d4, d5, d6, d7⟩ := ob8 E2
    clear E1 E2
    go_wp2_with fail
    (with_reducible refine (NUM.out 1 116 ta _ rfl rfl (by omega) (by omega) S1.out).mono ?_); rintro e w2 ⟨rfl, hs, hp⟩
    have X2 := Lib.hid (X1.out.kp hp)
    have S2 := Lib.hid hs
    clear hs hp X1 S1 c0 c1 c2 c3 c4 c5 c6 c7 d0 d1 d2 d3 d4 d5 d6 d7
    have E1 := X2.out.x
    have E2 := X2.out.y
    unfold evc at E1
    obtain ⟨c0, c1, c2, c3, c4, c5, c6, c7⟩ := ob8 E1
    obtain ⟨d0, d1, d2, d3, d4, d5, d6, d7⟩ := ob8 E2
    clear E1 E2
    go_wp2_with fail
    (with_reducible refine (NUM.out 2 121 tr _ rfl rfl (by omega) (by omega) S2.out).mono ?_); rintro e w3 ⟨rfl, hs, hp⟩
    have X3 := Lib.hid (X2.out.kp hp)
    have S3 := Lib.hid hs
    clear hs hp X2 S2 c0 c1 c2 c3 c4 c5 c6 c7 d0 d1 d2 d3 d4 d5 d6 d7
    have E1 := X3.out.x
    have E2 := X3.out.y
    unfold evc at E1
    obtain ⟨c0, c1, c2, c3, c4, c5, c6, c7⟩ := ob8 E1
    obtain ⟨d0, d1, d2, d3, d4, d5, d6, d7⟩ := ob8 E2
    clear E1 E2
    go_wp2
    go_end0
    exact ⟨rfl, S3.out⟩
  · as_aux_lemma =>
    obtain ⟨c0, c1, c2, c3, c4, c5, c6, c7⟩ := hF2.row (k := 4) (by decide)
    rw [show shW 4 = ⟨#[100, 111, 110, 101]⟩ from rfl] at c0
    rw [show shV 4 1 = 64 from rfl] at c1
    rw [show shV 4 2 = 15 from rfl] at c2
    rw [show shV 4 3 = 9 from rfl] at c3
    rw [show shV 4 4 = 0 from rfl] at c4
    rw [show shV 4 5 = 0 from rfl] at c5
    rw [show shV 4 6 = 0 from rfl] at c6
    rw [show shV 4 7 = 64 from rfl] at c7
    (simp only [Nat.reduceMul, Nat.reduceAdd] at c0 c1 c2 c3 c4 c5 c6 c7)
    have X0 := Lib.hid (Fl.p (Fl.start w ⟨4, ru, ta, tr, n, na, ke, da⟩ #[.string ⟨#[100, 111, 110, 101]⟩, .int .i64 64, .int .i64 15, .int .i64 9, .int .i64 0, .int .i64 0, .int .i64 0, .int .i64 64]))
    have S0 : Hid (S 0 ((w.alloc (.cells #[.int .i64 4, .int .i64 ru, .int .i64 ta, .int .i64 tr, .int .i64 n, .string na, .string ke, .string da] 24)).alloc (.cells #[.string ⟨#[100, 111, 110, 101]⟩, .int .i64 64, .int .i64 15, .int .i64 9, .int .i64 0, .int .i64 0, .int .i64 0, .int .i64 64] 44))) := Lib.hid (grow 0 w _ h0 (((Below.refl _ w).alloc (Nat.le_refl _) _).alloc (by simp) _))
    obtain ⟨W0, hW0⟩ : ∃ W0, W0 = (w.alloc (.cells #[.int .i64 4, .int .i64 ru, .int .i64 ta, .int .i64 tr, .int .i64 n, .string na, .string ke, .string da] 24)).alloc (.cells #[.string ⟨#[100, 111, 110, 101]⟩, .int .i64 64, .int .i64 15, .int .i64 9, .int .i64 0, .int .i64 0, .int .i64 0, .int .i64 64] 44) := ⟨_, rfl⟩
    change Hid (Fp w _ _ ((w.alloc (.cells #[.int .i64 4, .int .i64 ru, .int .i64 ta, .int .i64 tr, .int .i64 n, .string na, .string ke, .string da] 24)).alloc (.cells #[.string ⟨#[100, 111, 110, 101]⟩, .int .i64 64, .int .i64 15, .int .i64 9, .int .i64 0, .int .i64 0, .int .i64 0, .int .i64 64] 44))) at X0
    rw [← hW0] at X0 S0
    have HW := Lib.hid hW0
    clear hW0 hF2 h0 grow
    go_enter Tryd.func21, Tryd.ntmps21
    go_upto_region 2 with fail
    rw [← HW.out]
    clear HW c0 c1 c2 c3 c4 c5 c6 c7
    have E1 := X0.out.x
    have E2 := X0.out.y
    unfold evc at E1
    obtain ⟨c0, c1, c2, c3, c4, c5, c6, c7⟩ := ob8 E1
    obtain ⟨d0, d1, d2, d3, d4, d5, d6, d7⟩ := ob8 E2
    clear E1 E2
    go_wp2_with fail
    (with_reducible refine (NUM.out 0 114 ru _ rfl rfl (by omega) (by omega) S0.out).mono ?_); rintro e w1 ⟨rfl, hs, hp⟩
    have X1 := Lib.hid (X0.out.kp hp)
    have S1 := Lib.hid hs
    clear hs hp X0 S0 c0 c1 c2 c3 c4 c5 c6 c7 d0 d1 d2 d3 d4 d5 d6 d7
    have E1 := X1.out.x
    have E2 := X1.out.y
    unfold evc at E1
    obtain ⟨c0, c1, c2, c3, c4, c5, c6, c7⟩ := ob8 E1
    obtain ⟨d0, d1, d2, d3, d4, d5, d6, d7⟩ := ob8 E2
    clear E1 E2
    go_wp2_with fail
    (with_reducible refine (NUM.out 1 116 ta _ rfl rfl (by omega) (by omega) S1.out).mono ?_); rintro e w2 ⟨rfl, hs, hp⟩
    have X2 := Lib.hid (X1.out.kp hp)
    have S2 := Lib.hid hs
    clear hs hp X1 S1 c0 c1 c2 c3 c4 c5 c6 c7 d0 d1 d2 d3 d4 d5 d6 d7
    have E1 := X2.out.x
    have E2 := X2.out.y
    unfold evc at E1
    obtain ⟨c0, c1, c2, c3, c4, c5, c6, c7⟩ := ob8 E1
    obtain ⟨d0, d1, d2, d3, d4, d5, d6, d7⟩ := ob8 E2
    clear E1 E2
    go_wp2_with fail
    (with_reducible refine (NUM.out 2 121 tr _ rfl rfl (by omega) (by omega) S2.out).mono ?_); rintro e w3 ⟨rfl, hs, hp⟩
    have X3 := Lib.hid (X2.out.kp hp)
    have S3 := Lib.hid hs
    clear hs hp X2 S2 c0 c1 c2 c3 c4 c5 c6 c7 d0 d1 d2 d3 d4 d5 d6 d7
    have E1 := X3.out.x
    have E2 := X3.out.y
    unfold evc at E1
    obtain ⟨c0, c1, c2, c3, c4, c5, c6, c7⟩ := ob8 E1
    obtain ⟨d0, d1, d2, d3, d4, d5, d6, d7⟩ := ob8 E2
    clear E1 E2
    go_wp2_with fail
    (with_reducible refine (TXT.out 3 100 da _ rfl rfl S3.out).mono ?_); rintro e w4 ⟨rfl, hs, hp⟩
    have X4 := Lib.hid (X3.out.kp hp)
    have S4 := Lib.hid hs
    clear hs hp X3 S3 c0 c1 c2 c3 c4 c5 c6 c7 d0 d1 d2 d3 d4 d5 d6 d7
    have E1 := X4.out.x
    have E2 := X4.out.y
    unfold evc at E1
    obtain ⟨c0, c1, c2, c3, c4, c5, c6, c7⟩ := ob8 E1
    obtain ⟨d0, d1, d2, d3, d4, d5, d6, d7⟩ := ob8 E2
    clear E1 E2
    go_wp2
    go_end0
    exact ⟨rfl, S4.out⟩
  · as_aux_lemma =>
    obtain ⟨c0, c1, c2, c3, c4, c5, c6, c7⟩ := hF2.row (k := 5) (by decide)
    rw [show shW 5 = ⟨#[102, 97, 105, 108]⟩ from rfl] at c0
    rw [show shV 5 1 = 64 from rfl] at c1
    rw [show shV 5 2 = 15 from rfl] at c2
    rw [show shV 5 3 = 9 from rfl] at c3
    rw [show shV 5 4 = 0 from rfl] at c4
    rw [show shV 5 5 = 0 from rfl] at c5
    rw [show shV 5 6 = 0 from rfl] at c6
    rw [show shV 5 7 = 0 from rfl] at c7
    (simp only [Nat.reduceMul, Nat.reduceAdd] at c0 c1 c2 c3 c4 c5 c6 c7)
    have X0 := Lib.hid (Fl.p (Fl.start w ⟨5, ru, ta, tr, n, na, ke, da⟩ #[.string ⟨#[102, 97, 105, 108]⟩, .int .i64 64, .int .i64 15, .int .i64 9, .int .i64 0, .int .i64 0, .int .i64 0, .int .i64 0]))
    have S0 : Hid (S 0 ((w.alloc (.cells #[.int .i64 5, .int .i64 ru, .int .i64 ta, .int .i64 tr, .int .i64 n, .string na, .string ke, .string da] 24)).alloc (.cells #[.string ⟨#[102, 97, 105, 108]⟩, .int .i64 64, .int .i64 15, .int .i64 9, .int .i64 0, .int .i64 0, .int .i64 0, .int .i64 0] 44))) := Lib.hid (grow 0 w _ h0 (((Below.refl _ w).alloc (Nat.le_refl _) _).alloc (by simp) _))
    obtain ⟨W0, hW0⟩ : ∃ W0, W0 = (w.alloc (.cells #[.int .i64 5, .int .i64 ru, .int .i64 ta, .int .i64 tr, .int .i64 n, .string na, .string ke, .string da] 24)).alloc (.cells #[.string ⟨#[102, 97, 105, 108]⟩, .int .i64 64, .int .i64 15, .int .i64 9, .int .i64 0, .int .i64 0, .int .i64 0, .int .i64 0] 44) := ⟨_, rfl⟩
    change Hid (Fp w _ _ ((w.alloc (.cells #[.int .i64 5, .int .i64 ru, .int .i64 ta, .int .i64 tr, .int .i64 n, .string na, .string ke, .string da] 24)).alloc (.cells #[.string ⟨#[102, 97, 105, 108]⟩, .int .i64 64, .int .i64 15, .int .i64 9, .int .i64 0, .int .i64 0, .int .i64 0, .int .i64 0] 44))) at X0
    rw [← hW0] at X0 S0
    have HW := Lib.hid hW0
    clear hW0 hF2 h0 grow
    go_enter Tryd.func21, Tryd.ntmps21
    go_upto_region 2 with fail
    rw [← HW.out]
    clear HW c0 c1 c2 c3 c4 c5 c6 c7
    have E1 := X0.out.x
    have E2 := X0.out.y
    unfold evc at E1
    obtain ⟨c0, c1, c2, c3, c4, c5, c6, c7⟩ := ob8 E1
    obtain ⟨d0, d1, d2, d3, d4, d5, d6, d7⟩ := ob8 E2
    clear E1 E2
    go_wp2_with fail
    (with_reducible refine (NUM.out 0 114 ru _ rfl rfl (by omega) (by omega) S0.out).mono ?_); rintro e w1 ⟨rfl, hs, hp⟩
    have X1 := Lib.hid (X0.out.kp hp)
    have S1 := Lib.hid hs
    clear hs hp X0 S0 c0 c1 c2 c3 c4 c5 c6 c7 d0 d1 d2 d3 d4 d5 d6 d7
    have E1 := X1.out.x
    have E2 := X1.out.y
    unfold evc at E1
    obtain ⟨c0, c1, c2, c3, c4, c5, c6, c7⟩ := ob8 E1
    obtain ⟨d0, d1, d2, d3, d4, d5, d6, d7⟩ := ob8 E2
    clear E1 E2
    go_wp2_with fail
    (with_reducible refine (NUM.out 1 116 ta _ rfl rfl (by omega) (by omega) S1.out).mono ?_); rintro e w2 ⟨rfl, hs, hp⟩
    have X2 := Lib.hid (X1.out.kp hp)
    have S2 := Lib.hid hs
    clear hs hp X1 S1 c0 c1 c2 c3 c4 c5 c6 c7 d0 d1 d2 d3 d4 d5 d6 d7
    have E1 := X2.out.x
    have E2 := X2.out.y
    unfold evc at E1
    obtain ⟨c0, c1, c2, c3, c4, c5, c6, c7⟩ := ob8 E1
    obtain ⟨d0, d1, d2, d3, d4, d5, d6, d7⟩ := ob8 E2
    clear E1 E2
    go_wp2_with fail
    (with_reducible refine (NUM.out 2 121 tr _ rfl rfl (by omega) (by omega) S2.out).mono ?_); rintro e w3 ⟨rfl, hs, hp⟩
    have X3 := Lib.hid (X2.out.kp hp)
    have S3 := Lib.hid hs
    clear hs hp X2 S2 c0 c1 c2 c3 c4 c5 c6 c7 d0 d1 d2 d3 d4 d5 d6 d7
    have E1 := X3.out.x
    have E2 := X3.out.y
    unfold evc at E1
    obtain ⟨c0, c1, c2, c3, c4, c5, c6, c7⟩ := ob8 E1
    obtain ⟨d0, d1, d2, d3, d4, d5, d6, d7⟩ := ob8 E2
    clear E1 E2
    go_wp2
    go_end0
    exact ⟨rfl, S3.out⟩
  · as_aux_lemma =>
    obtain ⟨c0, c1, c2, c3, c4, c5, c6, c7⟩ := hF2.row (k := 6) (by decide)
    rw [show shW 6 = ⟨#[116, 105, 99, 107]⟩ from rfl] at c0
    rw [show shV 6 1 = 0 from rfl] at c1
    rw [show shV 6 2 = 0 from rfl] at c2
    rw [show shV 6 3 = 0 from rfl] at c3
    rw [show shV 6 4 = 1099511627776 from rfl] at c4
    rw [show shV 6 5 = 0 from rfl] at c5
    rw [show shV 6 6 = 0 from rfl] at c6
    rw [show shV 6 7 = 0 from rfl] at c7
    (simp only [Nat.reduceMul, Nat.reduceAdd] at c0 c1 c2 c3 c4 c5 c6 c7)
    have X0 := Lib.hid (Fl.p (Fl.start w ⟨6, ru, ta, tr, n, na, ke, da⟩ #[.string ⟨#[116, 105, 99, 107]⟩, .int .i64 0, .int .i64 0, .int .i64 0, .int .i64 1099511627776, .int .i64 0, .int .i64 0, .int .i64 0]))
    have S0 : Hid (S 0 ((w.alloc (.cells #[.int .i64 6, .int .i64 ru, .int .i64 ta, .int .i64 tr, .int .i64 n, .string na, .string ke, .string da] 24)).alloc (.cells #[.string ⟨#[116, 105, 99, 107]⟩, .int .i64 0, .int .i64 0, .int .i64 0, .int .i64 1099511627776, .int .i64 0, .int .i64 0, .int .i64 0] 44))) := Lib.hid (grow 0 w _ h0 (((Below.refl _ w).alloc (Nat.le_refl _) _).alloc (by simp) _))
    obtain ⟨W0, hW0⟩ : ∃ W0, W0 = (w.alloc (.cells #[.int .i64 6, .int .i64 ru, .int .i64 ta, .int .i64 tr, .int .i64 n, .string na, .string ke, .string da] 24)).alloc (.cells #[.string ⟨#[116, 105, 99, 107]⟩, .int .i64 0, .int .i64 0, .int .i64 0, .int .i64 1099511627776, .int .i64 0, .int .i64 0, .int .i64 0] 44) := ⟨_, rfl⟩
    change Hid (Fp w _ _ ((w.alloc (.cells #[.int .i64 6, .int .i64 ru, .int .i64 ta, .int .i64 tr, .int .i64 n, .string na, .string ke, .string da] 24)).alloc (.cells #[.string ⟨#[116, 105, 99, 107]⟩, .int .i64 0, .int .i64 0, .int .i64 0, .int .i64 1099511627776, .int .i64 0, .int .i64 0, .int .i64 0] 44))) at X0
    rw [← hW0] at X0 S0
    have HW := Lib.hid hW0
    clear hW0 hF2 h0 grow
    go_enter Tryd.func21, Tryd.ntmps21
    go_upto_region 2 with fail
    rw [← HW.out]
    clear HW c0 c1 c2 c3 c4 c5 c6 c7
    have E1 := X0.out.x
    have E2 := X0.out.y
    unfold evc at E1
    obtain ⟨c0, c1, c2, c3, c4, c5, c6, c7⟩ := ob8 E1
    obtain ⟨d0, d1, d2, d3, d4, d5, d6, d7⟩ := ob8 E2
    clear E1 E2
    go_wp2_with fail
    (with_reducible refine (NUM.out 0 110 n _ rfl rfl (by omega) (by omega) S0.out).mono ?_); rintro e w1 ⟨rfl, hs, hp⟩
    have X1 := Lib.hid (X0.out.kp hp)
    have S1 := Lib.hid hs
    clear hs hp X0 S0 c0 c1 c2 c3 c4 c5 c6 c7 d0 d1 d2 d3 d4 d5 d6 d7
    have E1 := X1.out.x
    have E2 := X1.out.y
    unfold evc at E1
    obtain ⟨c0, c1, c2, c3, c4, c5, c6, c7⟩ := ob8 E1
    obtain ⟨d0, d1, d2, d3, d4, d5, d6, d7⟩ := ob8 E2
    clear E1 E2
    go_wp2
    go_end0
    exact ⟨rfl, S1.out⟩
  · as_aux_lemma =>
    obtain ⟨c0, c1, c2, c3, c4, c5, c6, c7⟩ := hF2.row (k := 7) (by decide)
    rw [show shW 7 = ⟨#[115, 105, 103, 110, 97, 108]⟩ from rfl] at c0
    rw [show shV 7 1 = 64 from rfl] at c1
    rw [show shV 7 2 = 0 from rfl] at c2
    rw [show shV 7 3 = 0 from rfl] at c3
    rw [show shV 7 4 = 0 from rfl] at c4
    rw [show shV 7 5 = 16 from rfl] at c5
    rw [show shV 7 6 = 0 from rfl] at c6
    rw [show shV 7 7 = 0 from rfl] at c7
    (simp only [Nat.reduceMul, Nat.reduceAdd] at c0 c1 c2 c3 c4 c5 c6 c7)
    have X0 := Lib.hid (Fl.p (Fl.start w ⟨7, ru, ta, tr, n, na, ke, da⟩ #[.string ⟨#[115, 105, 103, 110, 97, 108]⟩, .int .i64 64, .int .i64 0, .int .i64 0, .int .i64 0, .int .i64 16, .int .i64 0, .int .i64 0]))
    have S0 : Hid (S 0 ((w.alloc (.cells #[.int .i64 7, .int .i64 ru, .int .i64 ta, .int .i64 tr, .int .i64 n, .string na, .string ke, .string da] 24)).alloc (.cells #[.string ⟨#[115, 105, 103, 110, 97, 108]⟩, .int .i64 64, .int .i64 0, .int .i64 0, .int .i64 0, .int .i64 16, .int .i64 0, .int .i64 0] 44))) := Lib.hid (grow 0 w _ h0 (((Below.refl _ w).alloc (Nat.le_refl _) _).alloc (by simp) _))
    obtain ⟨W0, hW0⟩ : ∃ W0, W0 = (w.alloc (.cells #[.int .i64 7, .int .i64 ru, .int .i64 ta, .int .i64 tr, .int .i64 n, .string na, .string ke, .string da] 24)).alloc (.cells #[.string ⟨#[115, 105, 103, 110, 97, 108]⟩, .int .i64 64, .int .i64 0, .int .i64 0, .int .i64 0, .int .i64 16, .int .i64 0, .int .i64 0] 44) := ⟨_, rfl⟩
    change Hid (Fp w _ _ ((w.alloc (.cells #[.int .i64 7, .int .i64 ru, .int .i64 ta, .int .i64 tr, .int .i64 n, .string na, .string ke, .string da] 24)).alloc (.cells #[.string ⟨#[115, 105, 103, 110, 97, 108]⟩, .int .i64 64, .int .i64 0, .int .i64 0, .int .i64 0, .int .i64 16, .int .i64 0, .int .i64 0] 44))) at X0
    rw [← hW0] at X0 S0
    have HW := Lib.hid hW0
    clear hW0 hF2 h0 grow
    go_enter Tryd.func21, Tryd.ntmps21
    go_upto_region 2 with fail
    rw [← HW.out]
    clear HW c0 c1 c2 c3 c4 c5 c6 c7
    have E1 := X0.out.x
    have E2 := X0.out.y
    unfold evc at E1
    obtain ⟨c0, c1, c2, c3, c4, c5, c6, c7⟩ := ob8 E1
    obtain ⟨d0, d1, d2, d3, d4, d5, d6, d7⟩ := ob8 E2
    clear E1 E2
    go_wp2_with fail
    (with_reducible refine (NUM.out 0 114 ru _ rfl rfl (by omega) (by omega) S0.out).mono ?_); rintro e w1 ⟨rfl, hs, hp⟩
    have X1 := Lib.hid (X0.out.kp hp)
    have S1 := Lib.hid hs
    clear hs hp X0 S0 c0 c1 c2 c3 c4 c5 c6 c7 d0 d1 d2 d3 d4 d5 d6 d7
    have E1 := X1.out.x
    have E2 := X1.out.y
    unfold evc at E1
    obtain ⟨c0, c1, c2, c3, c4, c5, c6, c7⟩ := ob8 E1
    obtain ⟨d0, d1, d2, d3, d4, d5, d6, d7⟩ := ob8 E2
    clear E1 E2
    go_wp2_with fail
    (with_reducible refine (TXT.out 1 97 na _ rfl rfl S1.out).mono ?_); rintro e w2 ⟨rfl, hs, hp⟩
    have X2 := Lib.hid (X1.out.kp hp)
    have S2 := Lib.hid hs
    clear hs hp X1 S1 c0 c1 c2 c3 c4 c5 c6 c7 d0 d1 d2 d3 d4 d5 d6 d7
    have E1 := X2.out.x
    have E2 := X2.out.y
    unfold evc at E1
    obtain ⟨c0, c1, c2, c3, c4, c5, c6, c7⟩ := ob8 E1
    obtain ⟨d0, d1, d2, d3, d4, d5, d6, d7⟩ := ob8 E2
    clear E1 E2
    go_wp2
    go_end0
    exact ⟨rfl, S2.out⟩
  · as_aux_lemma =>
    obtain ⟨c0, c1, c2, c3, c4, c5, c6, c7⟩ := hF2.row (k := 8) (by decide)
    rw [show shW 8 = ⟨#[99, 97, 110, 99, 101, 108]⟩ from rfl] at c0
    rw [show shV 8 1 = 64 from rfl] at c1
    rw [show shV 8 2 = 0 from rfl] at c2
    rw [show shV 8 3 = 0 from rfl] at c3
    rw [show shV 8 4 = 0 from rfl] at c4
    rw [show shV 8 5 = 0 from rfl] at c5
    rw [show shV 8 6 = 0 from rfl] at c6
    rw [show shV 8 7 = 0 from rfl] at c7
    (simp only [Nat.reduceMul, Nat.reduceAdd] at c0 c1 c2 c3 c4 c5 c6 c7)
    have X0 := Lib.hid (Fl.p (Fl.start w ⟨8, ru, ta, tr, n, na, ke, da⟩ #[.string ⟨#[99, 97, 110, 99, 101, 108]⟩, .int .i64 64, .int .i64 0, .int .i64 0, .int .i64 0, .int .i64 0, .int .i64 0, .int .i64 0]))
    have S0 : Hid (S 0 ((w.alloc (.cells #[.int .i64 8, .int .i64 ru, .int .i64 ta, .int .i64 tr, .int .i64 n, .string na, .string ke, .string da] 24)).alloc (.cells #[.string ⟨#[99, 97, 110, 99, 101, 108]⟩, .int .i64 64, .int .i64 0, .int .i64 0, .int .i64 0, .int .i64 0, .int .i64 0, .int .i64 0] 44))) := Lib.hid (grow 0 w _ h0 (((Below.refl _ w).alloc (Nat.le_refl _) _).alloc (by simp) _))
    obtain ⟨W0, hW0⟩ : ∃ W0, W0 = (w.alloc (.cells #[.int .i64 8, .int .i64 ru, .int .i64 ta, .int .i64 tr, .int .i64 n, .string na, .string ke, .string da] 24)).alloc (.cells #[.string ⟨#[99, 97, 110, 99, 101, 108]⟩, .int .i64 64, .int .i64 0, .int .i64 0, .int .i64 0, .int .i64 0, .int .i64 0, .int .i64 0] 44) := ⟨_, rfl⟩
    change Hid (Fp w _ _ ((w.alloc (.cells #[.int .i64 8, .int .i64 ru, .int .i64 ta, .int .i64 tr, .int .i64 n, .string na, .string ke, .string da] 24)).alloc (.cells #[.string ⟨#[99, 97, 110, 99, 101, 108]⟩, .int .i64 64, .int .i64 0, .int .i64 0, .int .i64 0, .int .i64 0, .int .i64 0, .int .i64 0] 44))) at X0
    rw [← hW0] at X0 S0
    have HW := Lib.hid hW0
    clear hW0 hF2 h0 grow
    go_enter Tryd.func21, Tryd.ntmps21
    go_upto_region 2 with fail
    rw [← HW.out]
    clear HW c0 c1 c2 c3 c4 c5 c6 c7
    have E1 := X0.out.x
    have E2 := X0.out.y
    unfold evc at E1
    obtain ⟨c0, c1, c2, c3, c4, c5, c6, c7⟩ := ob8 E1
    obtain ⟨d0, d1, d2, d3, d4, d5, d6, d7⟩ := ob8 E2
    clear E1 E2
    go_wp2_with fail
    (with_reducible refine (NUM.out 0 114 ru _ rfl rfl (by omega) (by omega) S0.out).mono ?_); rintro e w1 ⟨rfl, hs, hp⟩
    have X1 := Lib.hid (X0.out.kp hp)
    have S1 := Lib.hid hs
    clear hs hp X0 S0 c0 c1 c2 c3 c4 c5 c6 c7 d0 d1 d2 d3 d4 d5 d6 d7
    have E1 := X1.out.x
    have E2 := X1.out.y
    unfold evc at E1
    obtain ⟨c0, c1, c2, c3, c4, c5, c6, c7⟩ := ob8 E1
    obtain ⟨d0, d1, d2, d3, d4, d5, d6, d7⟩ := ob8 E2
    clear E1 E2
    go_wp2
    go_end0
    exact ⟨rfl, S1.out⟩
  · as_aux_lemma =>
    obtain ⟨c0, c1, c2, c3, c4, c5, c6, c7⟩ := hF2.row (k := 9) (by decide)
    rw [show shW 9 = ⟨#[101, 112, 111, 99, 104]⟩ from rfl] at c0
    rw [show shV 9 1 = 0 from rfl] at c1
    rw [show shV 9 2 = 0 from rfl] at c2
    rw [show shV 9 3 = 0 from rfl] at c3
    rw [show shV 9 4 = 1048575 from rfl] at c4
    rw [show shV 9 5 = 0 from rfl] at c5
    rw [show shV 9 6 = 0 from rfl] at c6
    rw [show shV 9 7 = 0 from rfl] at c7
    (simp only [Nat.reduceMul, Nat.reduceAdd] at c0 c1 c2 c3 c4 c5 c6 c7)
    have X0 := Lib.hid (Fl.p (Fl.start w ⟨9, ru, ta, tr, n, na, ke, da⟩ #[.string ⟨#[101, 112, 111, 99, 104]⟩, .int .i64 0, .int .i64 0, .int .i64 0, .int .i64 1048575, .int .i64 0, .int .i64 0, .int .i64 0]))
    have S0 : Hid (S 0 ((w.alloc (.cells #[.int .i64 9, .int .i64 ru, .int .i64 ta, .int .i64 tr, .int .i64 n, .string na, .string ke, .string da] 24)).alloc (.cells #[.string ⟨#[101, 112, 111, 99, 104]⟩, .int .i64 0, .int .i64 0, .int .i64 0, .int .i64 1048575, .int .i64 0, .int .i64 0, .int .i64 0] 44))) := Lib.hid (grow 0 w _ h0 (((Below.refl _ w).alloc (Nat.le_refl _) _).alloc (by simp) _))
    obtain ⟨W0, hW0⟩ : ∃ W0, W0 = (w.alloc (.cells #[.int .i64 9, .int .i64 ru, .int .i64 ta, .int .i64 tr, .int .i64 n, .string na, .string ke, .string da] 24)).alloc (.cells #[.string ⟨#[101, 112, 111, 99, 104]⟩, .int .i64 0, .int .i64 0, .int .i64 0, .int .i64 1048575, .int .i64 0, .int .i64 0, .int .i64 0] 44) := ⟨_, rfl⟩
    change Hid (Fp w _ _ ((w.alloc (.cells #[.int .i64 9, .int .i64 ru, .int .i64 ta, .int .i64 tr, .int .i64 n, .string na, .string ke, .string da] 24)).alloc (.cells #[.string ⟨#[101, 112, 111, 99, 104]⟩, .int .i64 0, .int .i64 0, .int .i64 0, .int .i64 1048575, .int .i64 0, .int .i64 0, .int .i64 0] 44))) at X0
    rw [← hW0] at X0 S0
    have HW := Lib.hid hW0
    clear hW0 hF2 h0 grow
    go_enter Tryd.func21, Tryd.ntmps21
    go_upto_region 2 with fail
    rw [← HW.out]
    clear HW c0 c1 c2 c3 c4 c5 c6 c7
    have E1 := X0.out.x
    have E2 := X0.out.y
    unfold evc at E1
    obtain ⟨c0, c1, c2, c3, c4, c5, c6, c7⟩ := ob8 E1
    obtain ⟨d0, d1, d2, d3, d4, d5, d6, d7⟩ := ob8 E2
    clear E1 E2
    go_wp2_with fail
    (with_reducible refine (NUM.out 0 110 n _ rfl rfl (by omega) (by omega) S0.out).mono ?_); rintro e w1 ⟨rfl, hs, hp⟩
    have X1 := Lib.hid (X0.out.kp hp)
    have S1 := Lib.hid hs
    clear hs hp X0 S0 c0 c1 c2 c3 c4 c5 c6 c7 d0 d1 d2 d3 d4 d5 d6 d7
    have E1 := X1.out.x
    have E2 := X1.out.y
    unfold evc at E1
    obtain ⟨c0, c1, c2, c3, c4, c5, c6, c7⟩ := ob8 E1
    obtain ⟨d0, d1, d2, d3, d4, d5, d6, d7⟩ := ob8 E2
    clear E1 E2
    go_wp2
    go_end0
    exact ⟨rfl, S1.out⟩
end Go.Proofs.YtighnooklcmjaaaDoor
