/-
  Part 12 of the texts behind the law: EvGetRef, EvEq.
-/
import Derived.Test.YtighnooklcmjaaaDoorEv11
import Derived.Laws.StructEq
/-
  The reference's GetEvent at all bytes.
-/
namespace Go.Proofs.YtighnooklcmjaaaDoor
open Go.RowKit
/-- An event read, or none. -/
def EvG (w : World) (zs : List Int) (e : Ending) (w' : World) : Prop := ∃ kd ru ta tr n na ke da er, e = .returned (.tuple #[.agg #[.int .i64 kd, .int .i64 ru, .int .i64 ta, .int .i64 tr, .int .i64 n, .string na, .string ke, .string da], .int .i64 er]) ∧ Hid ((⟨kd, ru, ta, tr, n, na, ke, da⟩ : Ev.E) = Ev.getV zs ∧ er = Ev.getE zs) ∧ Hid (Below w.heap.size w w')
theorem EvG.bad {w w' : World} {zs : List Int} (h : Ev.acc zs = false) (hb : Below w.heap.size w w') : EvG w zs (.returned (.tuple #[.agg #[.int .i64 0, .int .i64 0, .int .i64 0, .int .i64 0, .int .i64 0, .string ⟨#[]⟩, .string ⟨#[]⟩, .string ⟨#[]⟩], .int .i64 2])) w' :=
  ⟨0, 0, 0, 0, 0, ⟨#[]⟩, ⟨#[]⟩, ⟨#[]⟩, 2, rfl, Lib.hid ⟨by unfold Ev.getV; rw [h]; rfl, by unfold Ev.getE; rw [h]; rfl⟩, Lib.hid hb⟩
theorem EvG.good {w w' : World} {zs : List Int} {x : Ev.E} (h : Ev.acc zs = true) (hx : (Ev.final zs).e = x) (hb : Below w.heap.size w w') : EvG w zs (.returned (.tuple #[.agg (evc x), .int .i64 0])) w' := by
  refine ⟨x.kind, x.run, x.task, x.try_, x.n, x.name, x.key, x.data, 0, rfl, Lib.hid ⟨?_, by unfold Ev.getE; rw [h]; rfl⟩, Lib.hid hb⟩
  unfold Ev.getV
  rw [h, hx]; rfl
set_option maxRecDepth 8000 in
set_option maxHeartbeats 16000000 in
theorem getEvent_any (A : Option Addr) (zs : List Int) (cap : Nat) (hl : zs.length ≤ cap) (h62 : zs.length ≤ 4611686018427387904) (w : World) (h : Bytes w w.heap.size A zs) :
    Calls Tryd.prog 12 #[.slice A zs.length cap] w (EvG w zs) := by
  obtain ⟨W0, hW0⟩ : ∃ W0, W0 = (w.alloc (.cells #[.int .i64 0, .int .i64 0, .int .i64 0, .int .i64 0, .int .i64 0, .string ⟨#[]⟩, .string ⟨#[]⟩, .string ⟨#[]⟩] 33)).alloc (.cells #[.slice A zs.length cap, .bool false] 63) := ⟨_, rfl⟩
  have hB := h.mem
  have HB0 := Lib.hid (hB : En.Byte zs)
  have B0 : Hid (Below w.heap.size w W0) := Lib.hid (by rw [hW0]; exact ((Below.refl _ w).alloc (Nat.le_refl _) _).alloc (by simp) _)
  have S0 : Hid (W0.heap.size = w.heap.size + 1 + 1) := Lib.hid (by rw [hW0]; simp)
  have Z0 : Hid (W0.heap[w.heap.size]? = some (.cells (evc Ev.zero) 33 (0, 0))) := Lib.hid (by rw [hW0, Below.heap_alloc _ _ _ (by simp)]; exact heap_alloc_new w _)
  have I0 : Hid (InAt W0 63 (w.heap.size + 1) zs false) := Lib.hid ⟨A, cap, by rw [hW0]; have := heap_alloc_new (w.alloc (.cells #[.int .i64 0, .int .i64 0, .int .i64 0, .int .i64 0, .int .i64 0, .string ⟨#[]⟩, .string ⟨#[]⟩, .string ⟨#[]⟩] 33)) (.cells #[.slice A zs.length cap, .bool false] 63); rwa [World.size_alloc] at this, hl, h62, (h.below B0.out).more B0.out.size⟩
  obtain ⟨g1, hg1⟩ : ∃ g1, g1 = w.heap.size + 1 := ⟨_, rfl⟩
  rw [← hg1] at I0
  have G1 := Lib.hid hg1
  have HW := Lib.hid hW0
  clear hW0 hl h62 hB h
  have SM := Lib.hid (fun w' (hi : InAt w' 63 g1 zs false) => refSmall_any g1 zs false 9 (by decide) (by decide) w' hi)
  have SK := Lib.hid (Ev.start_in zs HB0.out)
  have KR := Lib.hid (Ev.valM_in zs false 9 (by decide) HB0.out)
  have RN := Lib.hid (fun j c h => Ev.rAt_next (zs := zs) (j := j) (c := c) h)
  have RA := Lib.hid (fun j h => Ev.rAt_all (zs := zs) (j := j) h)
  have FB := Lib.hid (fun j h hf => Ev.far_bad (zs := zs) (j := j) h hf)
  have R0 : Hid (Ev.rAt zs 0 = ⟨En.restM zs false 9, !En.okM zs false 9, ⟨En.valM zs false 9, 0, 0, 0, 0, ⟨#[]⟩, ⟨#[]⟩, ⟨#[]⟩⟩⟩) := Lib.hid rfl
  have FL : Hid (∀ W, Calls Tryd.prog 30 #[.int .i64 (En.valM zs false 9)] W fun e w' => e = .returned (.tuple #[.string (Ev.cstr (En.valM zs false 9)), .int .i64 (Ev.most (En.valM zs false 9))]) ∧ Below W.heap.size W w') := Lib.hid (fields_any _ ⟨by have := KR.out; omega, by have := KR.out; omega⟩)
  have CC := Lib.hid (Ev.codes_code (En.valM zs false 9))
  have CG := Lib.hid (cstr_get (En.valM zs false 9))
  have CS := Lib.hid (cstr_size (En.valM zs false 9))
  have C4 := Lib.hid (codes_few (En.valM zs false 9))
  have SK2 : Hid (EvIn (Ev.rAt zs 0).e) := SK
  have AC : Hid ((Ev.final zs).b = true → Ev.acc zs = false) := Lib.hid fun h => by unfold Ev.acc; rw [h]; rfl
  have AL : Hid (0 < (Ev.final zs).zs.length → Ev.acc zs = false) := Lib.hid fun h => by unfold Ev.acc; rw [decide_eq_false (by omega)]; simp
  have AG : Hid ((Ev.final zs).b = false → (Ev.final zs).zs.length = 0 → Ev.acc zs = Ev.good (Ev.final zs).e) := Lib.hid fun h h2 => by unfold Ev.acc; rw [h, decide_eq_true h2]; rfl
  clear SK KR
  generalize En.valM zs false 9 = kd at *
  generalize En.restM zs false 9 = zs1 at *
  generalize En.okM zs false 9 = ok1 at *
  generalize Ev.rAt zs = ra at *
  generalize Ev.codes kd = cs at *
  generalize Ev.cstr kd = s at *
  generalize Ev.most kd = mo at *
  go_enter Tryd.func12, Tryd.ntmps12
  go_wp2_with fail
  rw [← HW.out, ← hg1]
  clear HW hg1
  (with_reducible refine (SM.out _ I0.out).mono ?_); rintro e w1 ⟨rfl, p1⟩
  go_wp2_with fail
  obtain ⟨g2, hg2⟩ : ∃ g2, g2 = w1.heap.size := ⟨_, rfl⟩
  obtain ⟨W2, hW2⟩ : ∃ W2, W2 = w1.alloc (.cells #[.int .i64 kd, .int .i64 0, .int .i64 0, .int .i64 0, .int .i64 0, .string ⟨#[]⟩, .string ⟨#[]⟩, .string ⟨#[]⟩] 33) := ⟨_, rfl⟩
  rw [← hW2, ← hg2]
  have GS0 : Hid (GS w W2 g1 g2 (ra 0)) := Lib.hid (by
    have hs0 := S0.out
    have h1 := G1.out
    have hs1 := p1.2.size
    have hb1 : Below w1.heap.size w1 W2 := by rw [hW2]; exact (Below.refl _ _).alloc (Nat.le_refl _) _
    rw [R0.out]
    refine ⟨(B0.out.trans (p1.2.below B0.out.size (by omega))).trans (hb1.mono (by omega)), ?_, p1.1.below hb1 (Nat.le_refl _), ?_, by omega, by omega, by omega⟩
    · exact (hb1.block _ (by omega)).trans ((p1.2.block _ (by omega) (by omega)).trans Z0.out)
    · rw [hW2, hg2]; exact heap_alloc_new w1 _)
  clear hW2 hg2 p1 R0 B0 S0 Z0 I0 SM G1
  (with_reducible refine (FL.out _).mono ?_); rintro e w3 ⟨rfl, b3⟩
  have GS1 := Lib.hid (GS0.out.more b3)
  clear GS0 b3 FL
  go_wp2_with fail
  go_loopw [8] (fun iv wr => ∃ j : Nat, j ≤ s.size ∧ iv = .int .i64 j ∧ Hid (GS w wr g1 g2 (ra j)) ∧ Hid (EvIn (ra j).e)) (fun iv _ => s.size - (intOf iv).toNat)
  case atStart => exact ⟨0, Nat.zero_le _, rfl, GS1, SK2⟩
  case round =>
    obtain ⟨j, hj, rfl, HG, HI⟩ := hrel
    have SL : s.size ≤ 4 := by rw [CS.out]; exact C4.out
    by_cases hlt : j < s.size
    · have hlt' : (j : Int) < (s.size : Int) := by omega
      have hc := CG.out j hlt
      have HC := Lib.hid hc
      have NX := RN.out j _ hc
      have hm := CC.out _ (List.mem_of_getElem? hc)
      have FBj := FB.out j
      obtain ⟨r, hr⟩ : ∃ r, r = ra j := ⟨_, rfl⟩
      rw [← hr] at HG HI NX FBj
      have FBJ := Lib.hid FBj
      clear hr FBj
      obtain ⟨ys, b, k, ru, ta, tr, n, na, ke, da⟩ := r
      unfold Ev.Code at hm
      rcases hm with hm | hm | hm | hm | hm | hm | hm
      · have hm' : ((s[j]).toNat : Int) = 114 := by rw [hm]; rfl
        rw [hm] at NX
        have HC2 : Hid (cs[j]? = some 114) := Lib.hid (by rw [← hm]; exact hc)
        have NY := Lib.hid NX
        have IN2 := fun hn => Ev.step_in (c := 114) HI.out HG.out.i.byte hn
        rw [← NX] at IN2
        clear NX hc hm HC
        have IN3 := Lib.hid (IN2 (fun h => absurd h (by decide)))
        go_wp2_with fail
        (with_reducible refine (refSmall_any g1 ys b 64 (by decide) (by decide) _ HG.out.i).mono ?_); rintro e w4 ⟨rfl, p4⟩
        have HG2 := Lib.hid (HG.out.read p4)
        clear p4
        have E2 := HG2.out.e
        unfold evc at E2
        obtain ⟨⟨c0, c1, c2, c3, c4, c5, c6, c7⟩, f0, f1, f2, f3, f4, f5, f6, f7⟩ := And.intro (ob8 E2) (ob8f E2)
        clear E2 IN2
        go_wp2
        go_roundw
        case rel =>
          refine ⟨j + 1, by omega, by go_num, Lib.hid ?_, IN3⟩
          rw [NY.out]
          exact HG2.out.store rfl
        case measure => simp [intOf]; omega
      · have hm' : ((s[j]).toNat : Int) = 116 := by rw [hm]; rfl
        rw [hm] at NX
        have HC2 : Hid (cs[j]? = some 116) := Lib.hid (by rw [← hm]; exact hc)
        have NY := Lib.hid NX
        have IN2 := fun hn => Ev.step_in (c := 116) HI.out HG.out.i.byte hn
        rw [← NX] at IN2
        clear NX hc hm HC
        have IN3 := Lib.hid (IN2 (fun h => absurd h (by decide)))
        go_wp2_with fail
        (with_reducible refine (refSmall_any g1 ys b 64 (by decide) (by decide) _ HG.out.i).mono ?_); rintro e w4 ⟨rfl, p4⟩
        have HG2 := Lib.hid (HG.out.read p4)
        clear p4
        have E2 := HG2.out.e
        unfold evc at E2
        obtain ⟨⟨c0, c1, c2, c3, c4, c5, c6, c7⟩, f0, f1, f2, f3, f4, f5, f6, f7⟩ := And.intro (ob8 E2) (ob8f E2)
        clear E2 IN2
        go_wp2
        go_roundw
        case rel =>
          refine ⟨j + 1, by omega, by go_num, Lib.hid ?_, IN3⟩
          rw [NY.out]
          exact HG2.out.store rfl
        case measure => simp [intOf]; omega
      · have hm' : ((s[j]).toNat : Int) = 121 := by rw [hm]; rfl
        rw [hm] at NX
        have HC2 : Hid (cs[j]? = some 121) := Lib.hid (by rw [← hm]; exact hc)
        have NY := Lib.hid NX
        have IN2 := fun hn => Ev.step_in (c := 121) HI.out HG.out.i.byte hn
        rw [← NX] at IN2
        clear NX hc hm HC
        have IN3 := Lib.hid (IN2 (fun h => absurd h (by decide)))
        go_wp2_with fail
        (with_reducible refine (refSmall_any g1 ys b 64 (by decide) (by decide) _ HG.out.i).mono ?_); rintro e w4 ⟨rfl, p4⟩
        have HG2 := Lib.hid (HG.out.read p4)
        clear p4
        have E2 := HG2.out.e
        unfold evc at E2
        obtain ⟨⟨c0, c1, c2, c3, c4, c5, c6, c7⟩, f0, f1, f2, f3, f4, f5, f6, f7⟩ := And.intro (ob8 E2) (ob8f E2)
        clear E2 IN2
        go_wp2
        go_roundw
        case rel =>
          refine ⟨j + 1, by omega, by go_num, Lib.hid ?_, IN3⟩
          rw [NY.out]
          exact HG2.out.store rfl
        case measure => simp [intOf]; omega
      · have hm' : ((s[j]).toNat : Int) = 110 := by rw [hm]; rfl
        rw [hm] at NX
        have HC2 : Hid (cs[j]? = some 110) := Lib.hid (by rw [← hm]; exact hc)
        have NY := Lib.hid NX
        have IN2 := fun hn => Ev.step_in (c := 110) HI.out HG.out.i.byte hn
        rw [← NX] at IN2
        clear NX hc hm HC
        have VR := En.valU_range ys b HG.out.i.byte
        go_wp2_with fail
        (with_reducible refine (refU_any g1 ys b _ HG.out.i).mono ?_); rintro e w4 ⟨rfl, p4⟩
        have HG2 := Lib.hid (HG.out.read p4)
        clear p4
        by_cases hf : 1099511627776 < En.valU ys b
        · have AB : Hid (Ev.acc zs = false) := Lib.hid (FBJ.out HC2.out hf)
          have E2 := HG2.out.z
          unfold evc Ev.zero at E2
          obtain ⟨⟨c0, c1, c2, c3, c4, c5, c6, c7⟩, f0, f1, f2, f3, f4, f5, f6, f7⟩ := And.intro (ob8 E2) (ob8f E2)
          clear E2 IN2
          generalize En.valU ys b = v at *
          go_wp2
          have E3 := S8.at_ HG2.out.z (.int .i64 0) (.int .i64 0) (.int .i64 0) (.int .i64 0) (.int .i64 0) (.string ⟨#[]⟩) (.string ⟨#[]⟩) (.string ⟨#[]⟩)
          obtain ⟨d0, d1, d2, d3, d4, d5, d6, d7⟩ := ob8 E3
          unfold S8 at d0 d1 d2 d3 d4 d5 d6 d7
          exact bodyPost_ret (v := .tuple #[.agg #[.int .i64 0, .int .i64 0, .int .i64 0, .int .i64 0, .int .i64 0, .string ⟨#[]⟩, .string ⟨#[]⟩, .string ⟨#[]⟩], .int .i64 2]) (by simp [results, Tryd.results12, go_sem, d0, d1, d2, d3, d4, d5, d6, d7]) rfl (EvG.bad AB.out (S8.below HG2.out.b (Nat.le_refl _) _ _ _ _ _ _ _ _))
        have IN3 := Lib.hid (IN2 (fun _ => by show En.valU ys b ≤ _; omega))
        have tw : wrap64 (En.valU ys b) = En.valU ys b := by unfold wrap64; omega
        have tw2 : IntKind.i64.wrap (En.valU ys b) = En.valU ys b := IntWalk.i64_in _ (by omega)
        have E2 := HG2.out.e
        unfold evc at E2
        obtain ⟨⟨c0, c1, c2, c3, c4, c5, c6, c7⟩, f0, f1, f2, f3, f4, f5, f6, f7⟩ := And.intro (ob8 E2) (ob8f E2)
        clear E2 IN2
        go_wp2
        go_roundw
        case rel =>
          refine ⟨j + 1, by omega, by go_num, Lib.hid ?_, IN3⟩
          rw [NY.out]
          exact HG2.out.store rfl
        case measure => simp [intOf]; omega
      · have hm' : ((s[j]).toNat : Int) = 97 := by rw [hm]; rfl
        rw [hm] at NX
        have HC2 : Hid (cs[j]? = some 97) := Lib.hid (by rw [← hm]; exact hc)
        have NY := Lib.hid NX
        have IN2 := fun hn => Ev.step_in (c := 97) HI.out HG.out.i.byte hn
        rw [← NX] at IN2
        clear NX hc hm HC
        have IN3 := Lib.hid (IN2 (fun h => absurd h (by decide)))
        go_wp2_with fail
        (with_reducible refine (refS_any g1 ys b 64 (by decide) (by decide) _ HG.out.i).mono ?_); rintro e w4 ⟨rfl, p4⟩
        have HG2 := Lib.hid (HG.out.read p4)
        clear p4
        have E2 := HG2.out.e
        unfold evc at E2
        obtain ⟨⟨c0, c1, c2, c3, c4, c5, c6, c7⟩, f0, f1, f2, f3, f4, f5, f6, f7⟩ := And.intro (ob8 E2) (ob8f E2)
        clear E2 IN2
        go_wp2
        go_roundw
        case rel =>
          refine ⟨j + 1, by omega, by go_num, Lib.hid ?_, IN3⟩
          rw [NY.out]
          exact HG2.out.store rfl
        case measure => simp [intOf]; omega
      · have hm' : ((s[j]).toNat : Int) = 107 := by rw [hm]; rfl
        rw [hm] at NX
        have HC2 : Hid (cs[j]? = some 107) := Lib.hid (by rw [← hm]; exact hc)
        have NY := Lib.hid NX
        have IN2 := fun hn => Ev.step_in (c := 107) HI.out HG.out.i.byte hn
        rw [← NX] at IN2
        clear NX hc hm HC
        have IN3 := Lib.hid (IN2 (fun h => absurd h (by decide)))
        go_wp2_with fail
        (with_reducible refine (refS_any g1 ys b 64 (by decide) (by decide) _ HG.out.i).mono ?_); rintro e w4 ⟨rfl, p4⟩
        have HG2 := Lib.hid (HG.out.read p4)
        clear p4
        have E2 := HG2.out.e
        unfold evc at E2
        obtain ⟨⟨c0, c1, c2, c3, c4, c5, c6, c7⟩, f0, f1, f2, f3, f4, f5, f6, f7⟩ := And.intro (ob8 E2) (ob8f E2)
        clear E2 IN2
        go_wp2
        go_roundw
        case rel =>
          refine ⟨j + 1, by omega, by go_num, Lib.hid ?_, IN3⟩
          rw [NY.out]
          exact HG2.out.store rfl
        case measure => simp [intOf]; omega
      · have hm' : ((s[j]).toNat : Int) = 100 := by rw [hm]; rfl
        rw [hm] at NX
        have HC2 : Hid (cs[j]? = some 100) := Lib.hid (by rw [← hm]; exact hc)
        have NY := Lib.hid NX
        have IN2 := fun hn => Ev.step_in (c := 100) HI.out HG.out.i.byte hn
        rw [← NX] at IN2
        clear NX hc hm HC
        have IN3 := Lib.hid (IN2 (fun h => absurd h (by decide)))
        go_wp2_with fail
        (with_reducible refine (refS_any g1 ys b 900 (by decide) (by decide) _ HG.out.i).mono ?_); rintro e w4 ⟨rfl, p4⟩
        have HG2 := Lib.hid (HG.out.read p4)
        clear p4
        have E2 := HG2.out.e
        unfold evc at E2
        obtain ⟨⟨c0, c1, c2, c3, c4, c5, c6, c7⟩, f0, f1, f2, f3, f4, f5, f6, f7⟩ := And.intro (ob8 E2) (ob8f E2)
        clear E2 IN2
        go_wp2
        go_roundw
        case rel =>
          refine ⟨j + 1, by omega, by go_num, Lib.hid ?_, IN3⟩
          rw [NY.out]
          exact HG2.out.store rfl
        case measure => simp [intOf]; omega
    · obtain rfl : j = s.size := by omega
      rw [RA.out s.size (by rw [CS.out]; exact Nat.le_refl _)] at HG HI
      have FE : Hid (∃ r, r = Ev.final zs) := Lib.hid ⟨_, rfl⟩
      have EG : Hid (∀ x w', (Ev.final zs).e = x → Ev.acc zs = true → Below w.heap.size w w' → EvG w zs (.returned (.tuple #[.agg (evc x), .int .i64 0])) w') := Lib.hid fun x w' h1 h2 h3 => EvG.good h2 h1 h3
      clear FE
      generalize Ev.final zs = r at *
      obtain ⟨ys, b, kk, ru, ta, tr, n, na, ke, da⟩ := r
      have AC' := AC.out
      have AL' := AL.out
      have AG' := AG.out
      simp only at AC' AL' AG'
      obtain ⟨A2, cap2, ho, _, _, _⟩ := HG.out.i
      obtain ⟨⟨b0, b1⟩, _, _⟩ := obj2P ho
      clear ho RN RA FB AC AL AG CC CG CS C4
      cases b
      · by_cases hy : ys.length = 0
        · have GE := Lib.hid (goodEvent_any _ HI.out)
          have AX := AG' rfl hy
          have hy' : (ys.length : Int) = 0 := by omega
          have E2 := HG.out.e
          unfold evc at E2
          obtain ⟨c0, c1, c2, c3, c4, c5, c6, c7⟩ := ob8 E2
          clear E2 AC' AL' AG'
          change Hid (∀ W, Calls _ _ #[.agg #[.int .i64 kk, .int .i64 ru, .int .i64 ta, .int .i64 tr, .int .i64 n, .string na, .string ke, .string da]] W _) at GE
          (try simp only at AX)
          generalize Ev.good ⟨kk, ru, ta, tr, n, na, ke, da⟩ = gd at *
          go_wp2_with fail
          (with_reducible refine (GE.out _).mono ?_); rintro e w5 ⟨rfl, b5⟩
          have HG5 := Lib.hid (HG.out.more b5)
          clear b5 b0 b1 c0 c1 c2 c3 c4 c5 c6 c7
          cases gd
          · have AB := Lib.hid AX
            clear AX
            have E2 := HG5.out.z
            unfold evc Ev.zero at E2
            obtain ⟨⟨c0, c1, c2, c3, c4, c5, c6, c7⟩, f0, f1, f2, f3, f4, f5, f6, f7⟩ := And.intro (ob8 E2) (ob8f E2)
            clear E2
            go_wp2
            have E3 := S8.at_ HG5.out.z (.int .i64 0) (.int .i64 0) (.int .i64 0) (.int .i64 0) (.int .i64 0) (.string ⟨#[]⟩) (.string ⟨#[]⟩) (.string ⟨#[]⟩)
            obtain ⟨d0, d1, d2, d3, d4, d5, d6, d7⟩ := ob8 E3
            unfold S8 at d0 d1 d2 d3 d4 d5 d6 d7
            exact bodyPost_ret (v := .tuple #[.agg #[.int .i64 0, .int .i64 0, .int .i64 0, .int .i64 0, .int .i64 0, .string ⟨#[]⟩, .string ⟨#[]⟩, .string ⟨#[]⟩], .int .i64 2]) (by simp [results, Tryd.results12, go_sem, d0, d1, d2, d3, d4, d5, d6, d7]) rfl (EvG.bad AB.out (S8.below HG5.out.b (Nat.le_refl _) _ _ _ _ _ _ _ _))
          · have E2 := HG5.out.e
            unfold evc at E2
            obtain ⟨a0, a1, a2, a3, a4, a5, a6, a7⟩ := ob8 E2
            have E4 := HG5.out.z
            unfold evc Ev.zero at E4
            obtain ⟨⟨c0, c1, c2, c3, c4, c5, c6, c7⟩, f0, f1, f2, f3, f4, f5, f6, f7⟩ := And.intro (ob8 E4) (ob8f E4)
            clear E2 E4
            go_wp2
            have E3 := S8.at_ HG5.out.z (.int .i64 kk) (.int .i64 ru) (.int .i64 ta) (.int .i64 tr) (.int .i64 n) (.string na) (.string ke) (.string da)
            obtain ⟨d0, d1, d2, d3, d4, d5, d6, d7⟩ := ob8 E3
            unfold S8 at d0 d1 d2 d3 d4 d5 d6 d7
            exact bodyPost_ret (v := .tuple #[.agg #[.int .i64 kk, .int .i64 ru, .int .i64 ta, .int .i64 tr, .int .i64 n, .string na, .string ke, .string da], .int .i64 0]) (by simp [results, Tryd.results12, go_sem, d0, d1, d2, d3, d4, d5, d6, d7]) rfl (EG.out _ _ rfl AX (S8.below HG5.out.b (Nat.le_refl _) _ _ _ _ _ _ _ _))
        · have AB := Lib.hid (AL' (by omega))
          have hy' : 0 < (ys.length : Int) := by omega
          clear AC' AL' AG'
          have E2 := HG.out.z
          unfold evc Ev.zero at E2
          obtain ⟨⟨c0, c1, c2, c3, c4, c5, c6, c7⟩, f0, f1, f2, f3, f4, f5, f6, f7⟩ := And.intro (ob8 E2) (ob8f E2)
          clear E2
          go_wp2
          have E3 := S8.at_ HG.out.z (.int .i64 0) (.int .i64 0) (.int .i64 0) (.int .i64 0) (.int .i64 0) (.string ⟨#[]⟩) (.string ⟨#[]⟩) (.string ⟨#[]⟩)
          obtain ⟨d0, d1, d2, d3, d4, d5, d6, d7⟩ := ob8 E3
          unfold S8 at d0 d1 d2 d3 d4 d5 d6 d7
          exact bodyPost_ret (v := .tuple #[.agg #[.int .i64 0, .int .i64 0, .int .i64 0, .int .i64 0, .int .i64 0, .string ⟨#[]⟩, .string ⟨#[]⟩, .string ⟨#[]⟩], .int .i64 2]) (by simp [results, Tryd.results12, go_sem, d0, d1, d2, d3, d4, d5, d6, d7]) rfl (EvG.bad AB.out (S8.below HG.out.b (Nat.le_refl _) _ _ _ _ _ _ _ _))
      · have AB := Lib.hid (AC' rfl)
        clear AC' AL' AG'
        have E2 := HG.out.z
        unfold evc Ev.zero at E2
        obtain ⟨⟨c0, c1, c2, c3, c4, c5, c6, c7⟩, f0, f1, f2, f3, f4, f5, f6, f7⟩ := And.intro (ob8 E2) (ob8f E2)
        clear E2
        go_wp2
        have E3 := S8.at_ HG.out.z (.int .i64 0) (.int .i64 0) (.int .i64 0) (.int .i64 0) (.int .i64 0) (.string ⟨#[]⟩) (.string ⟨#[]⟩) (.string ⟨#[]⟩)
        obtain ⟨d0, d1, d2, d3, d4, d5, d6, d7⟩ := ob8 E3
        unfold S8 at d0 d1 d2 d3 d4 d5 d6 d7
        exact bodyPost_ret (v := .tuple #[.agg #[.int .i64 0, .int .i64 0, .int .i64 0, .int .i64 0, .int .i64 0, .string ⟨#[]⟩, .string ⟨#[]⟩, .string ⟨#[]⟩], .int .i64 2]) (by simp [results, Tryd.results12, go_sem, d0, d1, d2, d3, d4, d5, d6, d7]) rfl (EvG.bad AB.out (S8.below HG.out.b (Nat.le_refl _) _ _ _ _ _ _ _ _))
end Go.Proofs.YtighnooklcmjaaaDoor
/-
  Events compared.
-/
namespace Go.Proofs.YtighnooklcmjaaaDoor
open Go.RowKit
theorem wf_i64 {a : Int} (h : is64 a) : (Lit.int .i64 a).wf = true := by
  unfold is64 at h
  simpa [Lit.wf, IntKind.min, IntKind.max, IntKind.bits, IntKind.signed] using h
theorem int_cellsE : Tryd.prog.cellsOf 3 = 1 := by kernel_rfl
theorem int64_cellsE : Tryd.prog.cellsOf 2 = 1 := by kernel_rfl
theorem str_cellsE : Tryd.prog.cellsOf 9 = 1 := by kernel_rfl
/-- An event as literals. -/
def evl (e : Ev.E) : List Lit := [.int .i64 e.kind, .int .i64 e.run, .int .i64 e.task, .int .i64 e.try_, .int .i64 e.n, .string e.name.data.toList, .string e.key.data.toList, .string e.data.data.toList]
theorem evl_inj (a b : Ev.E) : evl a = evl b ↔ a = b := by
  constructor
  · intro h
    unfold evl at h
    simp only [List.cons.injEq, Lit.int.injEq, Lit.string.injEq, true_and, and_true, Array.toList_inj] at h
    obtain ⟨h1, h2, h3, h4, h5, h6, h7, h8⟩ := h
    obtain ⟨k, r, t, y, n, na, ke, da⟩ := a
    obtain ⟨k', r', t', y', n', na', ke', da'⟩ := b
    simp only at *
    obtain ⟨na⟩ := na
    obtain ⟨ke⟩ := ke
    obtain ⟨da⟩ := da
    obtain ⟨na'⟩ := na'
    obtain ⟨ke'⟩ := ke'
    obtain ⟨da'⟩ := da'
    simp only at *
    subst h1 h2 h3 h4 h5 h6 h7 h8
    rfl
  · rintro rfl; rfl
theorem ev_cells : Tryd.prog.cellsOf 24 = 8 := by kernel_rfl
theorem ev_key : Tryd.prog.keyTypeAt 2 24 = true := by kernel_rfl
theorem ev_lits (e : Ev.E) (h : EvIn e) : Tryd.prog.keyLits 2 24 (evc e).toList = some (evl e) := by
  have h1 : ∀ x : Int, is64 x → Tryd.prog.keyLits 1 3 [.int .i64 x] = some [.int .i64 x] := fun x hx => by
    have := wf_i64 hx
    simp [Program.keyLits, Tryd.underlying3, this]
  have h2 : ∀ x : Int, is64 x → Tryd.prog.keyLits 1 2 [.int .i64 x] = some [.int .i64 x] := fun x hx => by
    have := wf_i64 hx
    simp [Program.keyLits, Tryd.underlying2, this]
  have h3 : ∀ s : ByteArray, s.size ≤ 9223372036854775807 → Tryd.prog.keyLits 1 9 [.string s] = some [.string s.data.toList] := fun s hs => by
    simp [Program.keyLits, Tryd.underlying9]
    exact hs
  conv => lhs; unfold Program.keyLits
  simp only [Tryd.underlying24, ev_cells]
  unfold evc evl
  simp [h1 _ h.kind, h1 _ h.run, h1 _ h.task, h1 _ h.try_, h2 _ h.n, h3 _ h.name, h3 _ h.key, h3 _ h.data, int_cellsE, int64_cellsE, str_cellsE]
theorem ev_formed (e : Ev.E) : (Value.agg (evc e)).formed Tryd.prog 24 = true := by simp [Value.formed, Tryd.underlying24, ev_cells, evc]
theorem ev_run (a b : Ev.E) (ha : EvIn a) (hb : EvIn b) (W : World) : (Op.equalIn 10000 24 (.agg (evc a)) (.agg (evc b))).run Tryd.prog W = .ok (decide (a = b)) W := by
  obtain ⟨r, hr, hiff⟩ := run_equalIn_deep 9998 2 24 ev_key W 2 2 (.agg (evc a)) (.agg (evc b)) _ _ (ev_formed a) (ev_formed b) (ev_lits a ha) (ev_lits b hb)
  rw [hr]
  have e : r = decide (a = b) := by
    rw [Bool.eq_iff_iff, hiff, evl_inj]
    simp
  rw [e]
theorem ev_eql (a b : Ev.E) (ha : EvIn a) (hb : EvIn b) (W : World) : (binOp .eql 24 (.agg (evc a)) (.agg (evc b))).run Tryd.prog W = .ok (.bool (decide (a = b))) W := by
  rw [run_eql_struct, ev_run a b ha hb]; rfl
theorem ev_neq (a b : Ev.E) (ha : EvIn a) (hb : EvIn b) (W : World) : (binOp .neq 24 (.agg (evc a)) (.agg (evc b))).run Tryd.prog W = .ok (.bool (!decide (a = b))) W := by
  rw [run_neq_struct, ev_run a b ha hb]; rfl
theorem rf_cells : Tryd.prog.cellsOf 33 = 8 := by kernel_rfl
theorem rf_key : Tryd.prog.keyTypeAt 2 33 = true := by kernel_rfl
theorem rf_lits (e : Ev.E) (h : EvIn e) : Tryd.prog.keyLits 2 33 (evc e).toList = some (evl e) := by
  have h1 : ∀ x : Int, is64 x → Tryd.prog.keyLits 1 3 [.int .i64 x] = some [.int .i64 x] := fun x hx => by
    have := wf_i64 hx
    simp [Program.keyLits, Tryd.underlying3, this]
  have h2 : ∀ x : Int, is64 x → Tryd.prog.keyLits 1 2 [.int .i64 x] = some [.int .i64 x] := fun x hx => by
    have := wf_i64 hx
    simp [Program.keyLits, Tryd.underlying2, this]
  have h3 : ∀ s : ByteArray, s.size ≤ 9223372036854775807 → Tryd.prog.keyLits 1 9 [.string s] = some [.string s.data.toList] := fun s hs => by
    simp [Program.keyLits, Tryd.underlying9]
    exact hs
  conv => lhs; unfold Program.keyLits
  simp only [Tryd.underlying33, rf_cells]
  unfold evc evl
  simp [h1 _ h.kind, h1 _ h.run, h1 _ h.task, h1 _ h.try_, h2 _ h.n, h3 _ h.name, h3 _ h.key, h3 _ h.data, int_cellsE, int64_cellsE, str_cellsE]
theorem rf_formed (e : Ev.E) : (Value.agg (evc e)).formed Tryd.prog 33 = true := by simp [Value.formed, Tryd.underlying33, rf_cells, evc]
theorem rf_run (a b : Ev.E) (ha : EvIn a) (hb : EvIn b) (W : World) : (Op.equalIn 10000 33 (.agg (evc a)) (.agg (evc b))).run Tryd.prog W = .ok (decide (a = b)) W := by
  obtain ⟨r, hr, hiff⟩ := run_equalIn_deep 9998 2 33 rf_key W 2 2 (.agg (evc a)) (.agg (evc b)) _ _ (rf_formed a) (rf_formed b) (rf_lits a ha) (rf_lits b hb)
  rw [hr]
  have e : r = decide (a = b) := by
    rw [Bool.eq_iff_iff, hiff, evl_inj]
    simp
  rw [e]
theorem rf_eql (a b : Ev.E) (ha : EvIn a) (hb : EvIn b) (W : World) : (binOp .eql 33 (.agg (evc a)) (.agg (evc b))).run Tryd.prog W = .ok (.bool (decide (a = b))) W := by
  rw [run_eql_struct, rf_run a b ha hb]; rfl
theorem rf_neq (a b : Ev.E) (ha : EvIn a) (hb : EvIn b) (W : World) : (binOp .neq 33 (.agg (evc a)) (.agg (evc b))).run Tryd.prog W = .ok (.bool (!decide (a = b))) W := by
  rw [run_neq_struct, rf_run a b ha hb]; rfl
end Go.Proofs.YtighnooklcmjaaaDoor
