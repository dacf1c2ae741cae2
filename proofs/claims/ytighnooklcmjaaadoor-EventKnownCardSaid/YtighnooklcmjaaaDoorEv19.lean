/-
  Part 19 of the texts behind the law: EvFoldP, EvPutP.
-/
import Derived.Test.YtighnooklcmjaaaDoorEv17
import Derived.Test.YtighnooklcmjaaaDoorEv12
import Derived.Test.YtighnooklcmjaaaDoorEv14
/-
  eachField with Put's two functions.
-/
namespace Go.Proofs.YtighnooklcmjaaaDoor
open Go.RowKit
set_option maxRecDepth 100000 in
set_option maxHeartbeats 16000000 in
theorem fold_put (g : Nat) (e : Ev.E) (hg : Ev.Good e) (w : World) (hF : FactsS w) (S : Nat → World → Prop)
    (grow : ∀ j W W', S j W → Below W.heap.size W W' → S j W') 
    (num : ∀ j c z W, (Ev.codes e.kind)[j]? = some c → Ev.numF e c = some z → 0 ≤ z → z ≤ 1099511627776 → S j W → Calls Tryd.prog 20 #[.pointer (some ⟨g, 0, none⟩), .int .u64 z] W fun r W' => r = .returned (.tuple #[]) ∧ S (j + 1) W' ∧ Kp W W')
    (txt : ∀ j c s W, (Ev.codes e.kind)[j]? = some c → Ev.txtF e c = some s → S j W → Calls Tryd.prog 22 #[.pointer (some ⟨g, 0, none⟩), .string s] W fun r W' => r = .returned (.tuple #[]) ∧ S (j + 1) W' ∧ Kp W W')
    (h0 : S 0 w) : Calls Tryd.prog 21 #[.agg (evc e), .func (.func 20) #[.pointer (some ⟨g, 0, none⟩)] #[], .func (.func 22) #[.pointer (some ⟨g, 0, none⟩)] #[]] w fun r w' => r = .returned (.tuple #[]) ∧ S (Ev.codes e.kind).length w' := by
  have hk := hg.kind
  obtain ⟨⟨r0, r1⟩, ⟨t0, t1⟩, ⟨y0, y1⟩, ⟨n0, n1⟩⟩ := ev_fits hg
  obtain ⟨kd, ru, ta, tr, n, na, ke, da⟩ := e
  simp only at hk r0 r1 t0 t1 y0 y1 n0 n1
  have NUM := Lib.hid num
  have TXT := Lib.hid txt
  have hF2 := hF.on ((Below.refl _ w).alloc (Nat.le_refl _) (.cells #[.int .i64 kd, .int .i64 ru, .int .i64 ta, .int .i64 tr, .int .i64 n, .string na, .string ke, .string da] 24))
  clear num txt hg hF
  have u1 : IntKind.u64.wrap ru = ru := IntWalk.u64_in _ (by omega)
  have u2 : IntKind.u64.wrap ta = ta := IntWalk.u64_in _ (by omega)
  have u3 : IntKind.u64.wrap tr = tr := IntWalk.u64_in _ (by omega)
  have u4 : IntKind.u64.wrap n = n := IntWalk.u64_in _ (by omega)
  have hkc : kd = 1 ∨ kd = 2 ∨ kd = 3 ∨ kd = 4 ∨ kd = 5 ∨ kd = 6 ∨ kd = 7 ∨ kd = 8 ∨ kd = 9 := by omega
  clear hk
  change Calls _ _ #[.agg #[.int .i64 kd, .int .i64 ru, .int .i64 ta, .int .i64 tr, .int .i64 n, .string na, .string ke, .string da], .func (.func 20) #[.pointer (some ⟨g, 0, none⟩)] #[], .func (.func 22) #[.pointer (some ⟨g, 0, none⟩)] #[]] _ _
  rcases hkc with rfl | rfl | rfl | rfl | rfl | rfl | rfl | rfl | rfl
  · as_aux_lemma =>
    obtain ⟨c0, c1, c2, c3, c4, c5, c6, c7⟩ := hF2.row (k := 1) (by decide)
    rw [show shW 1 = ⟨#[100, 101, 102, 105, 110, 101]⟩ from rfl] at c0
    rw [show shV 1 1 = 0 from rfl] at c1
    rw [show shV 1 2 = 0 from rfl] at c2
    rw [show shV 1 3 = 0 from rfl] at c3
    rw [show shV 1 4 = 0 from rfl] at c4
    rw [show shV 1 5 = 16 from rfl] at c5
    rw [show shV 1 6 = 0 from rfl] at c6
    rw [show shV 1 7 = 900 from rfl] at c7
    (simp only [Nat.reduceMul, Nat.reduceAdd] at c0 c1 c2 c3 c4 c5 c6 c7)
    have X0 := Lib.hid (Fl.p (Fl.start w ⟨1, ru, ta, tr, n, na, ke, da⟩ #[.string ⟨#[100, 101, 102, 105, 110, 101]⟩, .int .i64 0, .int .i64 0, .int .i64 0, .int .i64 0, .int .i64 16, .int .i64 0, .int .i64 900]))
    have S0 : Hid (S 0 ((w.alloc (.cells #[.int .i64 1, .int .i64 ru, .int .i64 ta, .int .i64 tr, .int .i64 n, .string na, .string ke, .string da] 24)).alloc (.cells #[.string ⟨#[100, 101, 102, 105, 110, 101]⟩, .int .i64 0, .int .i64 0, .int .i64 0, .int .i64 0, .int .i64 16, .int .i64 0, .int .i64 900] 44))) := Lib.hid (grow 0 w _ h0 (((Below.refl _ w).alloc (Nat.le_refl _) _).alloc (by simp) _))
    obtain ⟨W0, hW0⟩ : ∃ W0, W0 = (w.alloc (.cells #[.int .i64 1, .int .i64 ru, .int .i64 ta, .int .i64 tr, .int .i64 n, .string na, .string ke, .string da] 24)).alloc (.cells #[.string ⟨#[100, 101, 102, 105, 110, 101]⟩, .int .i64 0, .int .i64 0, .int .i64 0, .int .i64 0, .int .i64 16, .int .i64 0, .int .i64 900] 44) := ⟨_, rfl⟩
    change Hid (Fp w _ _ ((w.alloc (.cells #[.int .i64 1, .int .i64 ru, .int .i64 ta, .int .i64 tr, .int .i64 n, .string na, .string ke, .string da] 24)).alloc (.cells #[.string ⟨#[100, 101, 102, 105, 110, 101]⟩, .int .i64 0, .int .i64 0, .int .i64 0, .int .i64 0, .int .i64 16, .int .i64 0, .int .i64 900] 44))) at X0
    rw [← hW0] at X0 S0
    have HW := Lib.hid hW0
    clear hW0 hF2 h0 grow
    go_enter Tryd.func21, Tryd.ntmps21
    go_upto_region 2 with fail
    rw [← HW.out]
    clear HW c0 c1 c2 c3 c4 c5 c6 c7
    have E1 := X0.out.x
    have E2 := X0.out.y
    unfold evc at E1
    obtain ⟨c0, c1, c2, c3, c4, c5, c6, c7⟩ := ob8 E1
    obtain ⟨d0, d1, d2, d3, d4, d5, d6, d7⟩ := ob8 E2
    clear E1 E2
    go_wp2_with fail
    (with_reducible refine (TXT.out 0 97 na _ rfl rfl S0.out).mono ?_); rintro e w1 ⟨rfl, hs, hp⟩
    have X1 := Lib.hid (X0.out.kp hp)
    have S1 := Lib.hid hs
    clear hs hp X0 S0 c0 c1 c2 c3 c4 c5 c6 c7 d0 d1 d2 d3 d4 d5 d6 d7
    have E1 := X1.out.x
    have E2 := X1.out.y
    unfold evc at E1
    obtain ⟨c0, c1, c2, c3, c4, c5, c6, c7⟩ := ob8 E1
    obtain ⟨d0, d1, d2, d3, d4, d5, d6, d7⟩ := ob8 E2
    clear E1 E2
    go_wp2_with fail
    (with_reducible refine (TXT.out 1 100 da _ rfl rfl S1.out).mono ?_); rintro e w2 ⟨rfl, hs, hp⟩
    have X2 := Lib.hid (X1.out.kp hp)
    have S2 := Lib.hid hs
    clear hs hp X1 S1 c0 c1 c2 c3 c4 c5 c6 c7 d0 d1 d2 d3 d4 d5 d6 d7
    have E1 := X2.out.x
    have E2 := X2.out.y
    unfold evc at E1
    obtain ⟨c0, c1, c2, c3, c4, c5, c6, c7⟩ := ob8 E1
    obtain ⟨d0, d1, d2, d3, d4, d5, d6, d7⟩ := ob8 E2
    clear E1 E2
    go_wp2
    go_end0
    exact ⟨rfl, S2.out⟩
  · as_aux_lemma =>
    obtain ⟨c0, c1, c2, c3, c4, c5, c6, c7⟩ := hF2.row (k := 2) (by decide)
    rw [show shW 2 = ⟨#[115, 116, 97, 114, 116]⟩ from rfl] at c0
    rw [show shV 2 1 = 64 from rfl] at c1
    rw [show shV 2 2 = 0 from rfl] at c2
    rw [show shV 2 3 = 0 from rfl] at c3
    rw [show shV 2 4 = 0 from rfl] at c4
    rw [show shV 2 5 = 16 from rfl] at c5
    rw [show shV 2 6 = 16 from rfl] at c6
    rw [show shV 2 7 = 0 from rfl] at c7
    (simp only [Nat.reduceMul, Nat.reduceAdd] at c0 c1 c2 c3 c4 c5 c6 c7)
    have X0 := Lib.hid (Fl.p (Fl.start w ⟨2, ru, ta, tr, n, na, ke, da⟩ #[.string ⟨#[115, 116, 97, 114, 116]⟩, .int .i64 64, .int .i64 0, .int .i64 0, .int .i64 0, .int .i64 16, .int .i64 16, .int .i64 0]))
    have S0 : Hid (S 0 ((w.alloc (.cells #[.int .i64 2, .int .i64 ru, .int .i64 ta, .int .i64 tr, .int .i64 n, .string na, .string ke, .string da] 24)).alloc (.cells #[.string ⟨#[115, 116, 97, 114, 116]⟩, .int .i64 64, .int .i64 0, .int .i64 0, .int .i64 0, .int .i64 16, .int .i64 16, .int .i64 0] 44))) := Lib.hid (grow 0 w _ h0 (((Below.refl _ w).alloc (Nat.le_refl _) _).alloc (by simp) _))
    obtain ⟨W0, hW0⟩ : ∃ W0, W0 = (w.alloc (.cells #[.int .i64 2, .int .i64 ru, .int .i64 ta, .int .i64 tr, .int .i64 n, .string na, .string ke, .string da] 24)).alloc (.cells #[.string ⟨#[115, 116, 97, 114, 116]⟩, .int .i64 64, .int .i64 0, .int .i64 0, .int .i64 0, .int .i64 16, .int .i64 16, .int .i64 0] 44) := ⟨_, rfl⟩
    change Hid (Fp w _ _ ((w.alloc (.cells #[.int .i64 2, .int .i64 ru, .int .i64 ta, .int .i64 tr, .int .i64 n, .string na, .string ke, .string da] 24)).alloc (.cells #[.string ⟨#[115, 116, 97, 114, 116]⟩, .int .i64 64, .int .i64 0, .int .i64 0, .int .i64 0, .int .i64 16, .int .i64 16, .int .i64 0] 44))) at X0
    rw [← hW0] at X0 S0
    have HW := Lib.hid hW0
    clear hW0 hF2 h0 grow
    go_enter Tryd.func21, Tryd.ntmps21
    go_upto_region 2 with fail
    rw [← HW.out]
    clear HW c0 c1 c2 c3 c4 c5 c6 c7
    have E1 := X0.out.x
    have E2 := X0.out.y
    unfold evc at E1
    obtain ⟨c0, c1, c2, c3, c4, c5, c6, c7⟩ := ob8 E1
    obtain ⟨d0, d1, d2, d3, d4, d5, d6, d7⟩ := ob8 E2
    clear E1 E2
    go_wp2_with fail
    (with_reducible refine (NUM.out 0 114 ru _ rfl rfl (by omega) (by omega) S0.out).mono ?_); rintro e w1 ⟨rfl, hs, hp⟩
    have X1 := Lib.hid (X0.out.kp hp)
    have S1 := Lib.hid hs
    clear hs hp X0 S0 c0 c1 c2 c3 c4 c5 c6 c7 d0 d1 d2 d3 d4 d5 d6 d7
    have E1 := X1.out.x
    have E2 := X1.out.y
    unfold evc at E1
    obtain ⟨c0, c1, c2, c3, c4, c5, c6, c7⟩ := ob8 E1
    obtain ⟨d0, d1, d2, d3, d4, d5, d6, d7⟩ := ob8 E2
    clear E1 E2
    go_wp2_with fail
    (with_reducible refine (TXT.out 1 97 na _ rfl rfl S1.out).mono ?_); rintro e w2 ⟨rfl, hs, hp⟩
    have X2 := Lib.hid (X1.out.kp hp)
    have S2 := Lib.hid hs
    clear hs hp X1 S1 c0 c1 c2 c3 c4 c5 c6 c7 d0 d1 d2 d3 d4 d5 d6 d7
    have E1 := X2.out.x
    have E2 := X2.out.y
    unfold evc at E1
    obtain ⟨c0, c1, c2, c3, c4, c5, c6, c7⟩ := ob8 E1
    obtain ⟨d0, d1, d2, d3, d4, d5, d6, d7⟩ := ob8 E2
    clear E1 E2
    go_wp2_with fail
    (with_reducible refine (TXT.out 2 107 ke _ rfl rfl S2.out).mono ?_); rintro e w3 ⟨rfl, hs, hp⟩
    have X3 := Lib.hid (X2.out.kp hp)
    have S3 := Lib.hid hs
    clear hs hp X2 S2 c0 c1 c2 c3 c4 c5 c6 c7 d0 d1 d2 d3 d4 d5 d6 d7
    have E1 := X3.out.x
    have E2 := X3.out.y
    unfold evc at E1
    obtain ⟨c0, c1, c2, c3, c4, c5, c6, c7⟩ := ob8 E1
    obtain ⟨d0, d1, d2, d3, d4, d5, d6, d7⟩ := ob8 E2
    clear E1 E2
    go_wp2
    go_end0
    exact ⟨rfl, S3.out⟩
  · as_aux_lemma =>
    obtain ⟨c0, c1, c2, c3, c4, c5, c6, c7⟩ := hF2.row (k := 3) (by decide)
    rw [show shW 3 = ⟨#[108, 101, 97, 115, 101]⟩ from rfl] at c0
    rw [show shV 3 1 = 64 from rfl] at c1
    rw [show shV 3 2 = 15 from rfl] at c2
    rw [show shV 3 3 = 9 from rfl] at c3
    rw [show shV 3 4 = 0 from rfl] at c4
    rw [show shV 3 5 = 0 from rfl] at c5
    rw [show shV 3 6 = 0 from rfl] at c6
    rw [show shV 3 7 = 0 from rfl] at c7
    (simp only [Nat.reduceMul, Nat.reduceAdd] at c0 c1 c2 c3 c4 c5 c6 c7)
    have X0 := Lib.hid (Fl.p (Fl.start w ⟨3, ru, ta, tr, n, na, ke, da⟩ #[.string ⟨#[108, 101, 97, 115, 101]⟩, .int .i64 64, .int .i64 15, .int .i64 9, .int .i64 0, .int .i64 0, .int .i64 0, .int .i64 0]))
    have S0 : Hid (S 0 ((w.alloc (.cells #[.int .i64 3, .int .i64 ru, .int .i64 ta, .int .i64 tr, .int .i64 n, .string na, .string ke, .string da] 24)).alloc (.cells #[.string ⟨#[108, 101, 97, 115, 101]⟩, .int .i64 64, .int .i64 15, .int .i64 9, .int .i64 0, .int .i64 0, .int .i64 0, .int .i64 0] 44))) := Lib.hid (grow 0 w _ h0 (((Below.refl _ w).alloc (Nat.le_refl _) _).alloc (by simp) _))
    obtain ⟨W0, hW0⟩ : ∃ W0, W0 = (w.alloc (.cells #[.int .i64 3, .int .i64 ru, .int .i64 ta, .int .i64 tr, .int .i64 n, .string na, .string ke, .string da] 24)).alloc (.cells #[.string ⟨#[108, 101, 97, 115, 101]⟩, .int .i64 64, .int .i64 15, .int .i64 9, .int .i64 0, .int .i64 0, .int .i64 0, .int .i64 0] 44) := ⟨_, rfl⟩
    change Hid (Fp w _ _ ((w.alloc (.cells #[.int .i64 3, .int .i64 ru, .int .i64 ta, .int .i64 tr, .int .i64 n, .string na, .string ke, .string da] 24)).alloc (.cells #[.string ⟨#[108, 101, 97, 115, 101]⟩, .int .i64 64, .int .i64 15, .int .i64 9, .int .i64 0, .int .i64 0, .int .i64 0, .int .i64 0] 44))) at X0
    rw [← hW0] at X0 S0
    have HW := Lib.hid hW0
    clear hW0 hF2 h0 grow
    go_enter Tryd.func21, Tryd.ntmps21
    go_upto_region 2 with fail
    rw [← HW.out]
    clear HW c0 c1 c2 c3 c4 c5 c6 c7
    have E1 := X0.out.x
    have E2 := X0.out.y
    unfold evc at E1
    obtain ⟨c0, c1, c2, c3, c4, c5, c6, c7⟩ := ob8 E1
    obtain ⟨d0, d1, d2, d3, d4, d5, d6, d7⟩ := ob8 E2
    clear E1 E2
    go_wp2_with fail
    (with_reducible refine (NUM.out 0 114 ru _ rfl rfl (by omega) (by omega) S0.out).mono ?_); rintro e w1 ⟨rfl, hs, hp⟩
    have X1 := Lib.hid (X0.out.kp hp)
    have S1 := Lib.hid hs
    clear hs hp X0 S0 c0 c1 c2 c3 c4 c5 c6 c7 d0 d1 d2 d3 d4 d5 d6 d7
    have E1 := X1.out.x
    have E2 := X1.out.y
    unfold evc at E1
    obtain ⟨c0, c1, c2, c3, c4, c5, c6, c7⟩ := ob8 E1
    obtain ⟨d0, d1, d2, d3, d4, d5, d6, d7⟩ := ob8 E2
    clear E1 E2
    go_wp2_with fail
    (with_reducible refine (NUM.out 1 116 ta _ rfl rfl (by omega) (by omega) S1.out).mono ?_); rintro e w2 ⟨rfl, hs, hp⟩
    have X2 := Lib.hid (X1.out.kp hp)
    have S2 := Lib.hid hs
    clear hs hp X1 S1 c0 c1 c2 c3 c4 c5 c6 c7 d0 d1 d2 d3 d4 d5 d6 d7
    have E1 := X2.out.x
    have E2 := X2.out.y
    unfold evc at E1
    obtain ⟨c0, c1, c2, c3, c4, c5, c6, c7⟩ := ob8 E1
    obtain ⟨d0, d1, d2, d3, d4, d5, d6, d7⟩ := ob8 E2
    clear E1 E2
    go_wp2_with fail
    (with_reducible refine (NUM.out 2 121 tr _ rfl rfl (by omega) (by omega) S2.out).mono ?_); rintro e w3 ⟨rfl, hs, hp⟩
    have X3 := Lib.hid (X2.out.kp hp)
    have S3 := Lib.hid hs
    clear hs hp X2 S2 c0 c1 c2 c3 c4 c5 c6 c7 d0 d1 d2 d3 d4 d5 d6 d7
    have E1 := X3.out.x
    have E2 := X3.out.y
    unfold evc at E1
    obtain ⟨c0, c1, c2, c3, c4, c5, c6, c7⟩ := ob8 E1
    obtain ⟨d0, d1, d2, d3, d4, d5, d6, d7⟩ := ob8 E2
    clear E1 E2
    go_wp2
    go_end0
    exact ⟨rfl, S3.out⟩
  · as_aux_lemma =>
    obtain ⟨c0, c1, c2, c3, c4, c5, c6, c7⟩ := hF2.row (k := 4) (by decide)
    rw [show shW 4 = ⟨#[100, 111, 110, 101]⟩ from rfl] at c0
    rw [show shV 4 1 = 64 from rfl] at c1
    rw [show shV 4 2 = 15 from rfl] at c2
    rw [show shV 4 3 = 9 from rfl] at c3
    rw [show shV 4 4 = 0 from rfl] at c4
    rw [show shV 4 5 = 0 from rfl] at c5
    rw [show shV 4 6 = 0 from rfl] at c6
    rw [show shV 4 7 = 64 from rfl] at c7
    (simp only [Nat.reduceMul, Nat.reduceAdd] at c0 c1 c2 c3 c4 c5 c6 c7)
    have X0 := Lib.hid (Fl.p (Fl.start w ⟨4, ru, ta, tr, n, na, ke, da⟩ #[.string ⟨#[100, 111, 110, 101]⟩, .int .i64 64, .int .i64 15, .int .i64 9, .int .i64 0, .int .i64 0, .int .i64 0, .int .i64 64]))
    have S0 : Hid (S 0 ((w.alloc (.cells #[.int .i64 4, .int .i64 ru, .int .i64 ta, .int .i64 tr, .int .i64 n, .string na, .string ke, .string da] 24)).alloc (.cells #[.string ⟨#[100, 111, 110, 101]⟩, .int .i64 64, .int .i64 15, .int .i64 9, .int .i64 0, .int .i64 0, .int .i64 0, .int .i64 64] 44))) := Lib.hid (grow 0 w _ h0 (((Below.refl _ w).alloc (Nat.le_refl _) _).alloc (by simp) _))
    obtain ⟨W0, hW0⟩ : ∃ W0, W0 = (w.alloc (.cells #[.int .i64 4, .int .i64 ru, .int .i64 ta, .int .i64 tr, .int .i64 n, .string na, .string ke, .string da] 24)).alloc (.cells #[.string ⟨#[100, 111, 110, 101]⟩, .int .i64 64, .int .i64 15, .int .i64 9, .int .i64 0, .int .i64 0, .int .i64 0, .int .i64 64] 44) := ⟨_, rfl⟩
    change Hid (Fp w _ _ ((w.alloc (.cells #[.int .i64 4, .int .i64 ru, .int .i64 ta, .int .i64 tr, .int .i64 n, .string na, .string ke, .string da] 24)).alloc (.cells #[.string ⟨#[100, 111, 110, 101]⟩, .int .i64 64, .int .i64 15, .int .i64 9, .int .i64 0, .int .i64 0, .int .i64 0, .int .i64 64] 44))) at X0
    rw [← hW0] at X0 S0
    have HW := Lib.hid hW0
    clear hW0 hF2 h0 grow
    go_enter Tryd.func21, Tryd.ntmps21
    go_upto_region 2 with fail
    rw [← HW.out]
    clear HW c0 c1 c2 c3 c4 c5 c6 c7
    have E1 := X0.out.x
    have E2 := X0.out.y
    unfold evc at E1
    obtain ⟨c0, c1, c2, c3, c4, c5, c6, c7⟩ := ob8 E1
    obtain ⟨d0, d1, d2, d3, d4, d5, d6, d7⟩ := ob8 E2
    clear E1 E2
    go_wp2_with fail
    (with_reducible refine (NUM.out 0 114 ru _ rfl rfl (by omega) (by omega) S0.out).mono ?_); rintro e w1 ⟨rfl, hs, hp⟩
    have X1 := Lib.hid (X0.out.kp hp)
    have S1 := Lib.hid hs
    clear hs hp X0 S0 c0 c1 c2 c3 c4 c5 c6 c7 d0 d1 d2 d3 d4 d5 d6 d7
    have E1 := X1.out.x
    have E2 := X1.out.y
    unfold evc at E1
    obtain ⟨c0, c1, c2, c3, c4, c5, c6, c7⟩ := ob8 E1
    obtain ⟨d0, d1, d2, d3, d4, d5, d6, d7⟩ := ob8 E2
    clear E1 E2
    go_wp2_with fail
    (with_reducible refine (NUM.out 1 116 ta _ rfl rfl (by omega) (by omega) S1.out).mono ?_); rintro e w2 ⟨rfl, hs, hp⟩
    have X2 := Lib.hid (X1.out.kp hp)
    have S2 := Lib.hid hs
    clear hs hp X1 S1 c0 c1 c2 c3 c4 c5 c6 c7 d0 d1 d2 d3 d4 d5 d6 d7
    have E1 := X2.out.x
    have E2 := X2.out.y
    unfold evc at E1
    obtain ⟨c0, c1, c2, c3, c4, c5, c6, c7⟩ := ob8 E1
    obtain ⟨d0, d1, d2, d3, d4, d5, d6, d7⟩ := ob8 E2
    clear E1 E2
    go_wp2_with fail
    (with_reducible refine (NUM.out 2 121 tr _ rfl rfl (by omega) (by omega) S2.out).mono ?_); rintro e w3 ⟨rfl, hs, hp⟩
    have X3 := Lib.hid (X2.out.kp hp)
    have S3 := Lib.hid hs
    clear hs hp X2 S2 c0 c1 c2 c3 c4 c5 c6 c7 d0 d1 d2 d3 d4 d5 d6 d7
    have E1 := X3.out.x
    have E2 := X3.out.y
    unfold evc at E1
    obtain ⟨c0, c1, c2, c3, c4, c5, c6, c7⟩ := ob8 E1
    obtain ⟨d0, d1, d2, d3, d4, d5, d6, d7⟩ := ob8 E2
    clear E1 E2
    go_wp2_with fail
    (with_reducible refine (TXT.out 3 100 da _ rfl rfl S3.out).mono ?_); rintro e w4 ⟨rfl, hs, hp⟩
    have X4 := Lib.hid (X3.out.kp hp)
    have S4 := Lib.hid hs
    clear hs hp X3 S3 c0 c1 c2 c3 c4 c5 c6 c7 d0 d1 d2 d3 d4 d5 d6 d7
    have E1 := X4.out.x
    have E2 := X4.out.y
    unfold evc at E1
    obtain ⟨c0, c1, c2, c3, c4, c5, c6, c7⟩ := ob8 E1
    obtain ⟨d0, d1, d2, d3, d4, d5, d6, d7⟩ := ob8 E2
    clear E1 E2
    go_wp2
    go_end0
    exact ⟨rfl, S4.out⟩
  · as_aux_lemma =>
    obtain ⟨c0, c1, c2, c3, c4, c5, c6, c7⟩ := hF2.row (k := 5) (by decide)
    rw [show shW 5 = ⟨#[102, 97, 105, 108]⟩ from rfl] at c0
    rw [show shV 5 1 = 64 from rfl] at c1
    rw [show shV 5 2 = 15 from rfl] at c2
    rw [show shV 5 3 = 9 from rfl] at c3
    rw [show shV 5 4 = 0 from rfl] at c4
    rw [show shV 5 5 = 0 from rfl] at c5
    rw [show shV 5 6 = 0 from rfl] at c6
    rw [show shV 5 7 = 0 from rfl] at c7
    (simp only [Nat.reduceMul, Nat.reduceAdd] at c0 c1 c2 c3 c4 c5 c6 c7)
    have X0 := Lib.hid (Fl.p (Fl.start w ⟨5, ru, ta, tr, n, na, ke, da⟩ #[.string ⟨#[102, 97, 105, 108]⟩, .int .i64 64, .int .i64 15, .int .i64 9, .int .i64 0, .int .i64 0, .int .i64 0, .int .i64 0]))
    have S0 : Hid (S 0 ((w.alloc (.cells #[.int .i64 5, .int .i64 ru, .int .i64 ta, .int .i64 tr, .int .i64 n, .string na, .string ke, .string da] 24)).alloc (.cells #[.string ⟨#[102, 97, 105, 108]⟩, .int .i64 64, .int .i64 15, .int .i64 9, .int .i64 0, .int .i64 0, .int .i64 0, .int .i64 0] 44))) := Lib.hid (grow 0 w _ h0 (((Below.refl _ w).alloc (Nat.le_refl _) _).alloc (by simp) _))
    obtain ⟨W0, hW0⟩ : ∃ W0, W0 = (w.alloc (.cells #[.int .i64 5, .int .i64 ru, .int .i64 ta, .int .i64 tr, .int .i64 n, .string na, .string ke, .string da] 24)).alloc (.cells #[.string ⟨#[102, 97, 105, 108]⟩, .int .i64 64, .int .i64 15, .int .i64 9, .int .i64 0, .int .i64 0, .int .i64 0, .int .i64 0] 44) := ⟨_, rfl⟩
    change Hid (Fp w _ _ ((w.alloc (.cells #[.int .i64 5, .int .i64 ru, .int .i64 ta, .int .i64 tr, .int .i64 n, .string na, .string ke, .string da] 24)).alloc (.cells #[.string ⟨#[102, 97, 105, 108]⟩, .int .i64 64, .int .i64 15, .int .i64 9, .int .i64 0, .int .i64 0, .int .i64 0, .int .i64 0] 44))) at X0
    rw [← hW0] at X0 S0
    have HW := Lib.hid hW0
    clear hW0 hF2 h0 grow
    go_enter Tryd.func21, Tryd.ntmps21
    go_upto_region 2 with fail
    rw [← HW.out]
    clear HW c0 c1 c2 c3 c4 c5 c6 c7
    have E1 := X0.out.x
    have E2 := X0.out.y
    unfold evc at E1
    obtain ⟨c0, c1, c2, c3, c4, c5, c6, c7⟩ := ob8 E1
    obtain ⟨d0, d1, d2, d3, d4, d5, d6, d7⟩ := ob8 E2
    clear E1 E2
    go_wp2_with fail
    (with_reducible refine (NUM.out 0 114 ru _ rfl rfl (by omega) (by omega) S0.out).mono ?_); rintro e w1 ⟨rfl, hs, hp⟩
    have X1 := Lib.hid (X0.out.kp hp)
    have S1 := Lib.hid hs
    clear hs hp X0 S0 c0 c1 c2 c3 c4 c5 c6 c7 d0 d1 d2 d3 d4 d5 d6 d7
    have E1 := X1.out.x
    have E2 := X1.out.y
    unfold evc at E1
    obtain ⟨c0, c1, c2, c3, c4, c5, c6, c7⟩ := ob8 E1
    obtain ⟨d0, d1, d2, d3, d4, d5, d6, d7⟩ := ob8 E2
    clear E1 E2
    go_wp2_with fail
    (with_reducible refine (NUM.out 1 116 ta _ rfl rfl (by omega) (by omega) S1.out).mono ?_); rintro e w2 ⟨rfl, hs, hp⟩
    have X2 := Lib.hid (X1.out.kp hp)
    have S2 := Lib.hid hs
    clear hs hp X1 S1 c0 c1 c2 c3 c4 c5 c6 c7 d0 d1 d2 d3 d4 d5 d6 d7
    have E1 := X2.out.x
    have E2 := X2.out.y
    unfold evc at E1
    obtain ⟨c0, c1, c2, c3, c4, c5, c6, c7⟩ := ob8 E1
    obtain ⟨d0, d1, d2, d3, d4, d5, d6, d7⟩ := ob8 E2
    clear E1 E2
    go_wp2_with fail
    (with_reducible refine (NUM.out 2 121 tr _ rfl rfl (by omega) (by omega) S2.out).mono ?_); rintro e w3 ⟨rfl, hs, hp⟩
    have X3 := Lib.hid (X2.out.kp hp)
    have S3 := Lib.hid hs
    clear hs hp X2 S2 c0 c1 c2 c3 c4 c5 c6 c7 d0 d1 d2 d3 d4 d5 d6 d7
    have E1 := X3.out.x
    have E2 := X3.out.y
    unfold evc at E1
    obtain ⟨c0, c1, c2, c3, c4, c5, c6, c7⟩ := ob8 E1
    obtain ⟨d0, d1, d2, d3, d4, d5, d6, d7⟩ := ob8 E2
    clear E1 E2
    go_wp2
    go_end0
    exact ⟨rfl, S3.out⟩
  · as_aux_lemma =>
    obtain ⟨c0, c1, c2, c3, c4, c5, c6, c7⟩ := hF2.row (k := 6) (by decide)
    rw [show shW 6 = ⟨#[116, 105, 99, 107]⟩ from rfl] at c0
    rw [show shV 6 1 = 0 from rfl] at c1
    rw [show shV 6 2 = 0 from rfl] at c2
    rw [show shV 6 3 = 0 from rfl] at c3
    rw [show shV 6 4 = 1099511627776 from rfl] at c4
    rw [show shV 6 5 = 0 from rfl] at c5
    rw [show shV 6 6 = 0 from rfl] at c6
    rw [show shV 6 7 = 0 from rfl] at c7
    (simp only [Nat.reduceMul, Nat.reduceAdd] at c0 c1 c2 c3 c4 c5 c6 c7)
    have X0 := Lib.hid (Fl.p (Fl.start w ⟨6, ru, ta, tr, n, na, ke, da⟩ #[.string ⟨#[116, 105, 99, 107]⟩, .int .i64 0, .int .i64 0, .int .i64 0, .int .i64 1099511627776, .int .i64 0, .int .i64 0, .int .i64 0]))
    have S0 : Hid (S 0 ((w.alloc (.cells #[.int .i64 6, .int .i64 ru, .int .i64 ta, .int .i64 tr, .int .i64 n, .string na, .string ke, .string da] 24)).alloc (.cells #[.string ⟨#[116, 105, 99, 107]⟩, .int .i64 0, .int .i64 0, .int .i64 0, .int .i64 1099511627776, .int .i64 0, .int .i64 0, .int .i64 0] 44))) := Lib.hid (grow 0 w _ h0 (((Below.refl _ w).alloc (Nat.le_refl _) _).alloc (by simp) _))
    obtain ⟨W0, hW0⟩ : ∃ W0, W0 = (w.alloc (.cells #[.int .i64 6, .int .i64 ru, .int .i64 ta, .int .i64 tr, .int .i64 n, .string na, .string ke, .string da] 24)).alloc (.cells #[.string ⟨#[116, 105, 99, 107]⟩, .int .i64 0, .int .i64 0, .int .i64 0, .int .i64 1099511627776, .int .i64 0, .int .i64 0, .int .i64 0] 44) := ⟨_, rfl⟩
    change Hid (Fp w _ _ ((w.alloc (.cells #[.int .i64 6, .int .i64 ru, .int .i64 ta, .int .i64 tr, .int .i64 n, .string na, .string ke, .string da] 24)).alloc (.cells #[.string ⟨#[116, 105, 99, 107]⟩, .int .i64 0, .int .i64 0, .int .i64 0, .int .i64 1099511627776, .int .i64 0, .int .i64 0, .int .i64 0] 44))) at X0
    rw [← hW0] at X0 S0
    have HW := Lib.hid hW0
    clear hW0 hF2 h0 grow
    go_enter Tryd.func21, Tryd.ntmps21
    go_upto_region 2 with fail
    rw [← HW.out]
    clear HW c0 c1 c2 c3 c4 c5 c6 c7
    have E1 := X0.out.x
    have E2 := X0.out.y
    unfold evc at E1
    obtain ⟨c0, c1, c2, c3, c4, c5, c6, c7⟩ := ob8 E1
    obtain ⟨d0, d1, d2, d3, d4, d5, d6, d7⟩ := ob8 E2
    clear E1 E2
    go_wp2_with fail
    (with_reducible refine (NUM.out 0 110 n _ rfl rfl (by omega) (by omega) S0.out).mono ?_); rintro e w1 ⟨rfl, hs, hp⟩
    have X1 := Lib.hid (X0.out.kp hp)
    have S1 := Lib.hid hs
    clear hs hp X0 S0 c0 c1 c2 c3 c4 c5 c6 c7 d0 d1 d2 d3 d4 d5 d6 d7
    have E1 := X1.out.x
    have E2 := X1.out.y
    unfold evc at E1
    obtain ⟨c0, c1, c2, c3, c4, c5, c6, c7⟩ := ob8 E1
    obtain ⟨d0, d1, d2, d3, d4, d5, d6, d7⟩ := ob8 E2
    clear E1 E2
    go_wp2
    go_end0
    exact ⟨rfl, S1.out⟩
  · as_aux_lemma =>
    obtain ⟨c0, c1, c2, c3, c4, c5, c6, c7⟩ := hF2.row (k := 7) (by decide)
    rw [show shW 7 = ⟨#[115, 105, 103, 110, 97, 108]⟩ from rfl] at c0
    rw [show shV 7 1 = 64 from rfl] at c1
    rw [show shV 7 2 = 0 from rfl] at c2
    rw [show shV 7 3 = 0 from rfl] at c3
    rw [show shV 7 4 = 0 from rfl] at c4
    rw [show shV 7 5 = 16 from rfl] at c5
    rw [show shV 7 6 = 0 from rfl] at c6
    rw [show shV 7 7 = 0 from rfl] at c7
    (simp only [Nat.reduceMul, Nat.reduceAdd] at c0 c1 c2 c3 c4 c5 c6 c7)
    have X0 := Lib.hid (Fl.p (Fl.start w ⟨7, ru, ta, tr, n, na, ke, da⟩ #[.string ⟨#[115, 105, 103, 110, 97, 108]⟩, .int .i64 64, .int .i64 0, .int .i64 0, .int .i64 0, .int .i64 16, .int .i64 0, .int .i64 0]))
    have S0 : Hid (S 0 ((w.alloc (.cells #[.int .i64 7, .int .i64 ru, .int .i64 ta, .int .i64 tr, .int .i64 n, .string na, .string ke, .string da] 24)).alloc (.cells #[.string ⟨#[115, 105, 103, 110, 97, 108]⟩, .int .i64 64, .int .i64 0, .int .i64 0, .int .i64 0, .int .i64 16, .int .i64 0, .int .i64 0] 44))) := Lib.hid (grow 0 w _ h0 (((Below.refl _ w).alloc (Nat.le_refl _) _).alloc (by simp) _))
    obtain ⟨W0, hW0⟩ : ∃ W0, W0 = (w.alloc (.cells #[.int .i64 7, .int .i64 ru, .int .i64 ta, .int .i64 tr, .int .i64 n, .string na, .string ke, .string da] 24)).alloc (.cells #[.string ⟨#[115, 105, 103, 110, 97, 108]⟩, .int .i64 64, .int .i64 0, .int .i64 0, .int .i64 0, .int .i64 16, .int .i64 0, .int .i64 0] 44) := ⟨_, rfl⟩
    change Hid (Fp w _ _ ((w.alloc (.cells #[.int .i64 7, .int .i64 ru, .int .i64 ta, .int .i64 tr, .int .i64 n, .string na, .string ke, .string da] 24)).alloc (.cells #[.string ⟨#[115, 105, 103, 110, 97, 108]⟩, .int .i64 64, .int .i64 0, .int .i64 0, .int .i64 0, .int .i64 16, .int .i64 0, .int .i64 0] 44))) at X0
    rw [← hW0] at X0 S0
    have HW := Lib.hid hW0
    clear hW0 hF2 h0 grow
    go_enter Tryd.func21, Tryd.ntmps21
    go_upto_region 2 with fail
    rw [← HW.out]
    clear HW c0 c1 c2 c3 c4 c5 c6 c7
    have E1 := X0.out.x
    have E2 := X0.out.y
    unfold evc at E1
    obtain ⟨c0, c1, c2, c3, c4, c5, c6, c7⟩ := ob8 E1
    obtain ⟨d0, d1, d2, d3, d4, d5, d6, d7⟩ := ob8 E2
    clear E1 E2
    go_wp2_with fail
    (with_reducible refine (NUM.out 0 114 ru _ rfl rfl (by omega) (by omega) S0.out).mono ?_); rintro e w1 ⟨rfl, hs, hp⟩
    have X1 := Lib.hid (X0.out.kp hp)
    have S1 := Lib.hid hs
    clear hs hp X0 S0 c0 c1 c2 c3 c4 c5 c6 c7 d0 d1 d2 d3 d4 d5 d6 d7
    have E1 := X1.out.x
    have E2 := X1.out.y
    unfold evc at E1
    obtain ⟨c0, c1, c2, c3, c4, c5, c6, c7⟩ := ob8 E1
    obtain ⟨d0, d1, d2, d3, d4, d5, d6, d7⟩ := ob8 E2
    clear E1 E2
    go_wp2_with fail
    (with_reducible refine (TXT.out 1 97 na _ rfl rfl S1.out).mono ?_); rintro e w2 ⟨rfl, hs, hp⟩
    have X2 := Lib.hid (X1.out.kp hp)
    have S2 := Lib.hid hs
    clear hs hp X1 S1 c0 c1 c2 c3 c4 c5 c6 c7 d0 d1 d2 d3 d4 d5 d6 d7
    have E1 := X2.out.x
    have E2 := X2.out.y
    unfold evc at E1
    obtain ⟨c0, c1, c2, c3, c4, c5, c6, c7⟩ := ob8 E1
    obtain ⟨d0, d1, d2, d3, d4, d5, d6, d7⟩ := ob8 E2
    clear E1 E2
    go_wp2
    go_end0
    exact ⟨rfl, S2.out⟩
  · as_aux_lemma =>
    obtain ⟨c0, c1, c2, c3, c4, c5, c6, c7⟩ := hF2.row (k := 8) (by decide)
    rw [show shW 8 = ⟨#[99, 97, 110, 99, 101, 108]⟩ from rfl] at c0
    rw [show shV 8 1 = 64 from rfl] at c1
    rw [show shV 8 2 = 0 from rfl] at c2
    rw [show shV 8 3 = 0 from rfl] at c3
    rw [show shV 8 4 = 0 from rfl] at c4
    rw [show shV 8 5 = 0 from rfl] at c5
    rw [show shV 8 6 = 0 from rfl] at c6
    rw [show shV 8 7 = 0 from rfl] at c7
    (simp only [Nat.reduceMul, Nat.reduceAdd] at c0 c1 c2 c3 c4 c5 c6 c7)
    have X0 := Lib.hid (Fl.p (Fl.start w ⟨8, ru, ta, tr, n, na, ke, da⟩ #[.string ⟨#[99, 97, 110, 99, 101, 108]⟩, .int .i64 64, .int .i64 0, .int .i64 0, .int .i64 0, .int .i64 0, .int .i64 0, .int .i64 0]))
    have S0 : Hid (S 0 ((w.alloc (.cells #[.int .i64 8, .int .i64 ru, .int .i64 ta, .int .i64 tr, .int .i64 n, .string na, .string ke, .string da] 24)).alloc (.cells #[.string ⟨#[99, 97, 110, 99, 101, 108]⟩, .int .i64 64, .int .i64 0, .int .i64 0, .int .i64 0, .int .i64 0, .int .i64 0, .int .i64 0] 44))) := Lib.hid (grow 0 w _ h0 (((Below.refl _ w).alloc (Nat.le_refl _) _).alloc (by simp) _))
    obtain ⟨W0, hW0⟩ : ∃ W0, W0 = (w.alloc (.cells #[.int .i64 8, .int .i64 ru, .int .i64 ta, .int .i64 tr, .int .i64 n, .string na, .string ke, .string da] 24)).alloc (.cells #[.string ⟨#[99, 97, 110, 99, 101, 108]⟩, .int .i64 64, .int .i64 0, .int .i64 0, .int .i64 0, .int .i64 0, .int .i64 0, .int .i64 0] 44) := ⟨_, rfl⟩
    change Hid (Fp w _ _ ((w.alloc (.cells #[.int .i64 8, .int .i64 ru, .int .i64 ta, .int .i64 tr, .int .i64 n, .string na, .string ke, .string da] 24)).alloc (.cells #[.string ⟨#[99, 97, 110, 99, 101, 108]⟩, .int .i64 64, .int .i64 0, .int .i64 0, .int .i64 0, .int .i64 0, .int .i64 0, .int .i64 0] 44))) at X0
    rw [← hW0] at X0 S0
    have HW := Lib.hid hW0
    clear hW0 hF2 h0 grow
    go_enter Tryd.func21, Tryd.ntmps21
    go_upto_region 2 with fail
    rw [← HW.out]
    clear HW c0 c1 c2 c3 c4 c5 c6 c7
    have E1 := X0.out.x
    have E2 := X0.out.y
    unfold evc at E1
    obtain ⟨c0, c1, c2, c3, c4, c5, c6, c7⟩ := ob8 E1
    obtain ⟨d0, d1, d2, d3, d4, d5, d6, d7⟩ := ob8 E2
    clear E1 E2
    go_wp2_with fail
    (with_reducible refine (NUM.out 0 114 ru _ rfl rfl (by omega) (by omega) S0.out).mono ?_); rintro e w1 ⟨rfl, hs, hp⟩
    have X1 := Lib.hid (X0.out.kp hp)
    have S1 := Lib.hid hs
    clear hs hp X0 S0 c0 c1 c2 c3 c4 c5 c6 c7 d0 d1 d2 d3 d4 d5 d6 d7
    have E1 := X1.out.x
    have E2 := X1.out.y
    unfold evc at E1
    obtain ⟨c0, c1, c2, c3, c4, c5, c6, c7⟩ := ob8 E1
    obtain ⟨d0, d1, d2, d3, d4, d5, d6, d7⟩ := ob8 E2
    clear E1 E2
    go_wp2
    go_end0
    exact ⟨rfl, S1.out⟩
  · as_aux_lemma =>
    obtain ⟨c0, c1, c2, c3, c4, c5, c6, c7⟩ := hF2.row (k := 9) (by decide)
    rw [show shW 9 = ⟨#[101, 112, 111, 99, 104]⟩ from rfl] at c0
    rw [show shV 9 1 = 0 from rfl] at c1
    rw [show shV 9 2 = 0 from rfl] at c2
    rw [show shV 9 3 = 0 from rfl] at c3
    rw [show shV 9 4 = 1048575 from rfl] at c4
    rw [show shV 9 5 = 0 from rfl] at c5
    rw [show shV 9 6 = 0 from rfl] at c6
    rw [show shV 9 7 = 0 from rfl] at c7
    (simp only [Nat.reduceMul, Nat.reduceAdd] at c0 c1 c2 c3 c4 c5 c6 c7)
    have X0 := Lib.hid (Fl.p (Fl.start w ⟨9, ru, ta, tr, n, na, ke, da⟩ #[.string ⟨#[101, 112, 111, 99, 104]⟩, .int .i64 0, .int .i64 0, .int .i64 0, .int .i64 1048575, .int .i64 0, .int .i64 0, .int .i64 0]))
    have S0 : Hid (S 0 ((w.alloc (.cells #[.int .i64 9, .int .i64 ru, .int .i64 ta, .int .i64 tr, .int .i64 n, .string na, .string ke, .string da] 24)).alloc (.cells #[.string ⟨#[101, 112, 111, 99, 104]⟩, .int .i64 0, .int .i64 0, .int .i64 0, .int .i64 1048575, .int .i64 0, .int .i64 0, .int .i64 0] 44))) := Lib.hid (grow 0 w _ h0 (((Below.refl _ w).alloc (Nat.le_refl _) _).alloc (by simp) _))
    obtain ⟨W0, hW0⟩ : ∃ W0, W0 = (w.alloc (.cells #[.int .i64 9, .int .i64 ru, .int .i64 ta, .int .i64 tr, .int .i64 n, .string na, .string ke, .string da] 24)).alloc (.cells #[.string ⟨#[101, 112, 111, 99, 104]⟩, .int .i64 0, .int .i64 0, .int .i64 0, .int .i64 1048575, .int .i64 0, .int .i64 0, .int .i64 0] 44) := ⟨_, rfl⟩
    change Hid (Fp w _ _ ((w.alloc (.cells #[.int .i64 9, .int .i64 ru, .int .i64 ta, .int .i64 tr, .int .i64 n, .string na, .string ke, .string da] 24)).alloc (.cells #[.string ⟨#[101, 112, 111, 99, 104]⟩, .int .i64 0, .int .i64 0, .int .i64 0, .int .i64 1048575, .int .i64 0, .int .i64 0, .int .i64 0] 44))) at X0
    rw [← hW0] at X0 S0
    have HW := Lib.hid hW0
    clear hW0 hF2 h0 grow
    go_enter Tryd.func21, Tryd.ntmps21
    go_upto_region 2 with fail
    rw [← HW.out]
    clear HW c0 c1 c2 c3 c4 c5 c6 c7
    have E1 := X0.out.x
    have E2 := X0.out.y
    unfold evc at E1
    obtain ⟨c0, c1, c2, c3, c4, c5, c6, c7⟩ := ob8 E1
    obtain ⟨d0, d1, d2, d3, d4, d5, d6, d7⟩ := ob8 E2
    clear E1 E2
    go_wp2_with fail
    (with_reducible refine (NUM.out 0 110 n _ rfl rfl (by omega) (by omega) S0.out).mono ?_); rintro e w1 ⟨rfl, hs, hp⟩
    have X1 := Lib.hid (X0.out.kp hp)
    have S1 := Lib.hid hs
    clear hs hp X0 S0 c0 c1 c2 c3 c4 c5 c6 c7 d0 d1 d2 d3 d4 d5 d6 d7
    have E1 := X1.out.x
    have E2 := X1.out.y
    unfold evc at E1
    obtain ⟨c0, c1, c2, c3, c4, c5, c6, c7⟩ := ob8 E1
    obtain ⟨d0, d1, d2, d3, d4, d5, d6, d7⟩ := ob8 E2
    clear E1 E2
    go_wp2
    go_end0
    exact ⟨rfl, S1.out⟩
end Go.Proofs.YtighnooklcmjaaaDoor
/-
  The program's Put at every event.
-/
namespace Go.Proofs.YtighnooklcmjaaaDoor
open Go.RowKit
theorem Oth.kp {g : Nat} {cs : Array Value} {w w' : World} (h : Oth g w w') (hg : w.heap[g]? = some (.cells cs 50 (0, 0))) : Kp w w' := by
  intro i cs2 t fz ht hx
  refine h i cs2 t fz ?_ (by rcases ht with rfl | rfl <;> decide) hx
  rintro rfl
  rw [hg] at hx
  simp only [Option.some.injEq, Obj.cells.injEq] at hx
  rcases ht with rfl | rfl
  · exact absurd hx.2.1 (by decide)
  · exact absurd hx.2.1 (by decide)
theorem Ev.num_field {e : Ev.E} {c : UInt8} {z : Int} (h : Ev.numF e c = some z) : Ev.field e c = En.leb z := by
  unfold Ev.numF at h
  unfold Ev.field
  repeat' split at h
  all_goals first | (cases h; simp_all) | (exact absurd h (by simp))
theorem Ev.txt_field {e : Ev.E} {c : UInt8} {s : ByteArray} (h : Ev.txtF e c = some s) : Ev.field e c = En.putS s := by
  unfold Ev.txtF at h
  unfold Ev.field
  repeat' split at h
  all_goals first | (cases h; simp_all) | (exact absurd h (by simp))
theorem Ev.txt_size {e : Ev.E} {c : UInt8} {s : ByteArray} (hg : Ev.Good e) (h : Ev.txtF e c = some s) : s.size ≤ 1000000 := by
  have h1 := hg.fits.a
  have h2 := hg.fits.k
  have h3 := hg.fits.d
  unfold Ev.txtF at h
  repeat' split at h
  all_goals first | (cases h; omega) | (exact absurd h (by simp))
/-- What stands while the fields are written: the writer at block g holds the first of them. -/
def PutS (w : World) (g : Nat) (e : Ev.E) (j : Nat) (W : World) : Prop := OutOwn W w.heap.size g (Ev.upTo e j) ∧ Below w.heap.size w W
theorem PutS.grow {w : World} {g : Nat} {e : Ev.E} (j : Nat) (W W' : World) (h : PutS w g e j W) (hb : Below W.heap.size W W') : PutS w g e j W' :=
  ⟨h.1.below hb (Nat.le_refl _), h.2.trans (hb.mono h.2.size)⟩
theorem PutS.num {w : World} {g : Nat} {e : Ev.E} (hg : Ev.Good e) (hb : w.heap.size ≤ g) (j : Nat) (c : UInt8) (z : Int) (W : World) (hc : (Ev.codes e.kind)[j]? = some c) (hz : Ev.numF e c = some z) (z0 : 0 ≤ z) (z1 : z ≤ 1099511627776) (h : PutS w g e j W) :
    Calls Tryd.prog 20 #[.pointer (some ⟨g, 0, none⟩), .int .u64 z] W fun r W' => r = .returned (.tuple #[]) ∧ PutS w g e (j + 1) W' ∧ Kp W W' := by
  have hl := Ev.upTo_len hg j
  obtain ⟨A, cap, ho, _⟩ := id h.1
  refine (outUk_any z z0 (by omega) w.heap.size g (Ev.upTo e j) (by omega) W h.1.at_).mono ?_
  rintro r W' ⟨rfl, h1, h2⟩
  refine ⟨rfl, ⟨?_, h.2.trans (h1.2.below (Nat.le_refl _) hb)⟩, h2.kp ho⟩
  rw [Ev.upTo_next hc, Ev.num_field hz]
  exact h1.1
theorem PutS.txt {w : World} {g : Nat} {e : Ev.E} (hg : Ev.Good e) (hb : w.heap.size ≤ g) (j : Nat) (c : UInt8) (s : ByteArray) (W : World) (hc : (Ev.codes e.kind)[j]? = some c) (hs : Ev.txtF e c = some s) (h : PutS w g e j W) :
    Calls Tryd.prog 22 #[.pointer (some ⟨g, 0, none⟩), .string s] W fun r W' => r = .returned (.tuple #[]) ∧ PutS w g e (j + 1) W' ∧ Kp W W' := by
  have hl := Ev.upTo_len hg j
  obtain ⟨A, cap, ho, _⟩ := id h.1
  refine (outSk_any s (Ev.txt_size hg hs) w.heap.size g (Ev.upTo e j) (by omega) W h.1.at_).mono ?_
  rintro r W' ⟨rfl, h1, h2⟩
  refine ⟨rfl, ⟨?_, h.2.trans (h1.2.below (Nat.le_refl _) hb)⟩, h2.kp ho⟩
  rw [Ev.upTo_next hc, Ev.txt_field hs]
  exact h1.1
theorem Bx.plain {w wr : World} {T : TypeId} {kd ru ta tr n : Int} {na ke da : ByteArray} (h : Bx w T ⟨kd, ru, ta, tr, n, na, ke, da⟩ wr) :
    wr.cell? ⟨w.heap.size, 0, none⟩ = some (.int .i64 kd) ∧ wr.cell? ⟨w.heap.size, 1, none⟩ = some (.int .i64 ru) ∧ wr.cell? ⟨w.heap.size, 2, none⟩ = some (.int .i64 ta) ∧ wr.cell? ⟨w.heap.size, 3, none⟩ = some (.int .i64 tr) ∧
    wr.cell? ⟨w.heap.size, 4, none⟩ = some (.int .i64 n) ∧ wr.cell? ⟨w.heap.size, 5, none⟩ = some (.string na) ∧ wr.cell? ⟨w.heap.size, 6, none⟩ = some (.string ke) ∧ wr.cell? ⟨w.heap.size, 7, none⟩ = some (.string da) := h.c
set_option maxRecDepth 20000 in
set_option maxHeartbeats 8000000 in
theorem put_p (e : Ev.E) (he : EvIn e) (w : World) (hF : FactsS w) : Calls Tryd.prog 9 #[.agg (evc e)] w (BytesP w (Ev.put e)) := by
  have X0 := Lib.hid (Bx.start w 24 e)
  have GD := Lib.hid (fun W h => good_p e he W h)
  have FF : Hid (∀ W, Below w.heap.size w W → FactsS W) := Lib.hid fun W h => hF.on h
  clear hF
  cases hg : Ev.good e with
  | false =>
    have PE : Hid (Ev.put e = []) := Lib.hid (by unfold Ev.put; rw [hg]; rfl)
    rw [hg] at GD
    clear hg he
    obtain ⟨kd, ru, ta, tr, n, na, ke, da⟩ := e
    change Calls _ _ #[.agg #[.int .i64 kd, .int .i64 ru, .int .i64 ta, .int .i64 tr, .int .i64 n, .string na, .string ke, .string da]] _ _
    change Hid (∀ W, FactsS W → Calls _ _ #[.agg #[.int .i64 kd, .int .i64 ru, .int .i64 ta, .int .i64 tr, .int .i64 n, .string na, .string ke, .string da]] W _) at GD
    go_enter Tryd.func9, Tryd.ntmps9
    go_wp2_with fail
    (with_reducible refine (GD.out _ (FF.out _ ((Below.refl _ w).alloc (Nat.le_refl _) _))).mono ?_); rintro e w1 ⟨rfl, b1⟩
    go_wp2
    go_ret
    have hb : Below w.heap.size w w1 := ((Below.refl _ w).alloc (Nat.le_refl _) _).trans (b1.mono (by simp))
    rw [PE.out]
    exact ⟨[], none, 0, Lib.hid rfl, rfl, Lib.hid (OwnB.none_ _ _), Lib.hid ⟨hb, fun g cs t fz hh _ => by rw [hb.block g (lt_of_block hh)]; exact hh⟩⟩
  | true =>
    have hG := Ev.good_iff.1 hg
    have PE : Hid (Ev.bytes e = Ev.put e) := Lib.hid (Ev.put_bytes hG).symm
    have U0 : Ev.upTo e 0 = En.leb e.kind := by unfold Ev.upTo; simp
    have UA : Ev.upTo e (Ev.codes e.kind).length = Ev.bytes e := Ev.upTo_all (Nat.le_refl _)
    rw [hg] at GD
    obtain ⟨k0, k1⟩ := hG.kind
    have u0 : IntKind.u64.wrap e.kind = e.kind := IntWalk.u64_in _ (by omega)
    have UU : Hid (∀ base g W, OutAt W base g [] → Calls Tryd.prog 20 #[.pointer (some ⟨g, 0, none⟩), .int .u64 e.kind] W fun r W' => r = .returned (.tuple #[]) ∧ OutPost W base g ([] ++ En.leb e.kind) W' ∧ Oth g W W') :=
      Lib.hid fun base g W h => outUk_any e.kind (by omega) (by omega) base g [] (by simp) W h
    have FO : Hid (∀ g W, w.heap.size ≤ g → FactsS W → OutOwn W w.heap.size g (En.leb e.kind) → Below w.heap.size w W → Calls Tryd.prog 21 #[.agg (evc e), .func (.func 20) #[.pointer (some ⟨g, 0, none⟩)] #[], .func (.func 22) #[.pointer (some ⟨g, 0, none⟩)] #[]] W fun r w' => r = .returned (.tuple #[]) ∧ OutOwn w' w.heap.size g (Ev.bytes e) ∧ Below w.heap.size w w') :=
      Lib.hid fun g W hb hf h1 h2 => (fold_put g e hG W hf (PutS w g e) PutS.grow (PutS.num hG hb) (PutS.txt hG hb) ⟨by rw [U0]; exact h1, h2⟩).mono fun r w' ⟨h, h3, h4⟩ => ⟨h, by rw [← UA]; exact h3, h4⟩
    clear hg he hG U0 UA k0 k1
    generalize Ev.bytes e = BY at *
    generalize Ev.put e = PU at *
    obtain ⟨kd, ru, ta, tr, n, na, ke, da⟩ := e
    simp only at u0 UU FO
    generalize En.leb kd = L0 at *
    change Calls _ _ #[.agg #[.int .i64 kd, .int .i64 ru, .int .i64 ta, .int .i64 tr, .int .i64 n, .string na, .string ke, .string da]] _ _
    change Hid (∀ W, FactsS W → Calls _ _ #[.agg #[.int .i64 kd, .int .i64 ru, .int .i64 ta, .int .i64 tr, .int .i64 n, .string na, .string ke, .string da]] W _) at GD
    change Hid (∀ g W, w.heap.size ≤ g → FactsS W → OutOwn W w.heap.size g L0 → Below w.heap.size w W → Calls Tryd.prog _ #[.agg #[.int .i64 kd, .int .i64 ru, .int .i64 ta, .int .i64 tr, .int .i64 n, .string na, .string ke, .string da], _, _] W _) at FO
    obtain ⟨W0, hW0⟩ : ∃ W0, W0 = w.alloc (.cells #[.int .i64 kd, .int .i64 ru, .int .i64 ta, .int .i64 tr, .int .i64 n, .string na, .string ke, .string da] 24) := ⟨_, rfl⟩
    change Hid (Bx w _ _ (w.alloc (.cells #[.int .i64 kd, .int .i64 ru, .int .i64 ta, .int .i64 tr, .int .i64 n, .string na, .string ke, .string da] 24))) at X0
    rw [← hW0] at X0
    have HW := Lib.hid hW0
    clear hW0
    go_enter Tryd.func9, Tryd.ntmps9
    go_wp2_with fail
    rw [← HW.out]
    clear HW
    (with_reducible refine (GD.out _ (FF.out _ X0.out.b)).mono ?_); rintro e w1 ⟨rfl, b1⟩
    have X1 := Lib.hid (X0.out.more b1)
    clear X0 b1
    obtain ⟨c0, c1, c2, c3, c4, c5, c6, c7⟩ := X1.out.plain
    go_upto_region 4 with fail
    obtain ⟨g, hg⟩ : ∃ g, g = w1.heap.size := ⟨_, rfl⟩
    obtain ⟨W2, hW2⟩ : ∃ W2, W2 = w1.alloc (.cells #[.slice none 0 0] 50) := ⟨_, rfl⟩
    have HO : Hid (OutOwn W2 w.heap.size g []) := Lib.hid (OutOwn.start (by rw [hW2, hg]; exact heap_alloc_new w1 _) (by rw [hW2]; have := X1.out.b.size; simp; omega))
    have HG : Hid (w.heap.size ≤ g) := Lib.hid (by rw [hg]; exact X1.out.b.size)
    have HGN : Hid (w.heap.size ≠ g) := Lib.hid (by have := lt_of_block X1.out.x; omega)
    have X2 : Hid (Bx w 24 ⟨kd, ru, ta, tr, n, na, ke, da⟩ W2) := Lib.hid (X1.out.more (by rw [hW2]; exact (Below.refl _ _).alloc (Nat.le_refl _) _))
    rw [← hW2, ← hg]
    clear hW2 hg X1 c0 c1 c2 c3 c4 c5 c6 c7
    obtain ⟨c0, c1, c2, c3, c4, c5, c6, c7⟩ := X2.out.plain
    go_wp2_with fail
    (with_reducible refine (UU.out w.heap.size g _ HO.out.at_).mono ?_); rintro e w3 ⟨rfl, hp, ht⟩
    have X3 : Hid (Bx w 24 ⟨kd, ru, ta, tr, n, na, ke, da⟩ w3) := Lib.hid ⟨X2.out.b.trans (hp.2.below (Nat.le_refl _) HG.out), ht _ _ _ _ HGN.out (by decide) X2.out.x⟩
    have HO3 : Hid (OutOwn w3 w.heap.size g L0) := Lib.hid (by have := hp.1; rwa [List.nil_append] at this)
    clear hp ht X2 HO c0 c1 c2 c3 c4 c5 c6 c7
    obtain ⟨c0, c1, c2, c3, c4, c5, c6, c7⟩ := X3.out.plain
    go_wp2_with fail
    (with_reducible refine (FO.out g _ HG.out (FF.out _ X3.out.b) HO3.out X3.out.b).mono ?_); rintro e w4 ⟨rfl, h3, h4⟩
    obtain ⟨A, cap, ho, hb, hown⟩ := h3
    obtain ⟨d0, df⟩ := obj1 ho
    have H4 := Lib.hid h4
    have HN := Lib.hid hown
    clear h4 ho hb hown c0 c1 c2 c3 c4 c5 c6 c7
    go_wp2
    go_ret
    exact BytesP.mk_ (by rw [PE.out]) (by rw [← PE.out]; exact HN.out) (Grew.of_below H4.out)
end Go.Proofs.YtighnooklcmjaaaDoor
