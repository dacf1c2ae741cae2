/-
  The reference's Cut.
-/
import Derived.Test.YtmahbcpkilegpaaStoRefCutP
import Derived.Test.YtmahbcpkilegpaaStepApp
import Derived.Test.YtmahbcpkilegpaaLastOp
namespace Go.Proofs.Ytmahbcpkilegpaa
open Go.RowKit St

set_option maxRecDepth 20000 in
set_option maxHeartbeats 4000000 in
theorem rcut_any (R : Nat) (own : Nat → Prop) (s : S) (w : World) (h : RState w R own s) (sn : ByteArray) (hsn : sn.size ≤ 9223372036854775807) (n : Int) :
    Calls Try.prog 27 #[.pointer (some ⟨R, 0, none⟩), .string sn, .int .i64 n] w fun e w' => e = .returned (.int .i64 (actE s (cutE s (bs sn) n))) ∧ RLeaves w R own (actS s (cutE s (bs sn) n) (cutL s (bs sn) n.toNat)) w' := by
  have H := Lib.hid h
  have LK : Hid (Calls Try.prog 44 #[.pointer (some ⟨R, 0, none⟩), .string sn, .bool true] w fun e w' => e = .returned (.int .i64 (fnd s (bs sn) [bs sn])) ∧ w = w') := Lib.hid (by
    obtain ⟨rf, rk, Ad, fa, fc, ka, kc, p, _⟩ := h
    exact rlook_there p.rs sn hsn)
  by_cases hE : fnd s (bs sn) [bs sn] = 0
  · obtain ⟨ho, _, f0, hf0⟩ := fnd_zero hE
    have HO := Lib.hid ho
    have HF0 := Lib.hid hf0
    have BL := Lib.hid (rblown_any R own s w H.out HO.out)
    have PF : (∃ k, ∃ hk : k < s.fs.length, placeV (bs sn) s.fs = (k : Int) ∧ find (bs sn) s.fs = some (s.fs[k]'hk)) ∨ (placeV (bs sn) s.fs = -1 ∧ find (bs sn) s.fs = none) := placeV_find (bs sn) s.fs
    rcases PF with ⟨k, hk, p1, p2⟩ | ⟨_, p2⟩
    · have CE : Hid (cutE s (bs sn) n = if n < 0 ∨ (((s.fs[k]'hk).zs.length : Nat) : Int) < n then 1 else 0) := Lib.hid (by
        unfold cutE
        rw [if_neg (by simpa using hE), show file s (bs sn) = s.fs[k]'hk by unfold file; rw [p2]; rfl])
      rw [hE] at LK
      obtain ⟨rf, rk, Ad, fa, fc, ka, kc, p, b⟩ := h
      have FD : Hid (Calls Try.prog 45 #[.pointer (some ⟨R, 0, none⟩), .string sn] w fun e w' => e = .returned (.int .i64 (k : Int)) ∧ w = w') := Lib.hid (by rw [← p1]; exact rfind_any p.rs sn)
      have SW := Lib.hid (fun m => cut_at (nm := bs sn) H.out.inv hk p2 m)
      obtain ⟨g, hg, d1, d2, d3⟩ := p.rs.cell (i := k) hk
      clear d1 d3
      obtain ⟨⟨_, c1, _, _, _⟩, _⟩ := obj5 p.rs.obj
      have b1 : (k : Int) < (s.fs.length : Int) := by omega
      have hzl : ((s.fs[k]'hk).zs.length : Int) ≤ 16777216 := by
        have h1 := total_mem (List.getElem_mem hk); have h2 := H.out.inv.tot; have h3 := H.out.inv.room; omega
      have HK := Lib.hid hk
      have b0 : 0 ≤ (k : Int) := by omega
      clear ho hf0 hE p1 p2 hsn b
      obtain ⟨f, HF⟩ : ∃ f, Hid (f = s.fs[k]'hk) := ⟨_, Lib.hid rfl⟩
      rw [← HF.out] at d2 CE hzl SW
      have HFl : Hid (∀ (hk : k < s.fs.length), f = s.fs[k]'hk) := Lib.hid (fun _ => HF.out)
      obtain ⟨zn, hzn⟩ : ∃ zn, zn = f.zs.length := ⟨_, rfl⟩
      rw [← hzn] at d2 CE hzl
      have ZN := Lib.hid hzn
      clear hzn
      obtain ⟨ln, hln⟩ : ∃ ln, ln = s.fs.length := ⟨_, rfl⟩
      rw [← hln] at c1 b1
      have LN := Lib.hid hln
      clear hln hk HF
      subst hg
      by_cases hn0 : n < 0
      · have E0 : cutE s (bs sn) n = 1 := by rw [CE.out, if_pos (.inl hn0)]
        have E1 : Hid (actE s (cutE s (bs sn) n) = 1) := Lib.hid (by rw [E0]; rfl)
        have E2 : Hid (actS s (cutE s (bs sn) n) (cutL s (bs sn) n.toNat) = s) := Lib.hid (by rw [E0]; rfl)
        rw [E1.out, E2.out]
        clear E0 E1 E2 CE
        go_enter Try.func27, Try.ntmps27
        go_wp2_with fail
        refine LK.out.mono ?_; rintro e w' ⟨rfl, rfl⟩
        go_wp2_with fail
        refine FD.out.mono ?_; rintro e w' ⟨rfl, rfl⟩
        go_wp2
        go_ret
        exact ⟨rfl, RLeaves.same H.out (Below.refl _ _)⟩
      · obtain ⟨j, rfl⟩ : ∃ j : Nat, n = j := ⟨n.toNat, by omega⟩
        by_cases hn1 : (zn : Int) < (j : Int)
        · have E0 : cutE s (bs sn) (j : Int) = 1 := by rw [CE.out, if_pos (.inr hn1)]
          have E1 : Hid (actE s (cutE s (bs sn) (j : Int)) = 1) := Lib.hid (by rw [E0]; rfl)
          have E2 : Hid (actS s (cutE s (bs sn) (j : Int)) (cutL s (bs sn) (j : Int).toNat) = s) := Lib.hid (by rw [E0]; rfl)
          rw [E1.out, E2.out]
          clear E0 E1 E2 CE
          go_enter Try.func27, Try.ntmps27
          go_wp2_with fail
          refine LK.out.mono ?_; rintro e w' ⟨rfl, rfl⟩
          go_wp2_with fail
          refine FD.out.mono ?_; rintro e w' ⟨rfl, rfl⟩
          go_wp2
          go_ret
          exact ⟨rfl, RLeaves.same H.out (Below.refl _ _)⟩
        · have E0 : cutE s (bs sn) (j : Int) = 0 := by rw [CE.out, if_neg (by omega)]
          rw [E0]
          clear E0 CE
          by_cases hf : s.fuse = 1
          · rw [hf] at BL
            have E1 : Hid (actE s 0 = 11) := Lib.hid (by unfold actE; simp [hf])
            have E2 : Hid (actS s 0 (cutL s (bs sn) (j : Int).toNat) = crash { s with fuse := 0 } s.keep) := Lib.hid (by unfold actS; simp [hf])
            clear hf
            go_enter Try.func27, Try.ntmps27
            go_wp2_with fail
            refine LK.out.mono ?_; rintro e w' ⟨rfl, rfl⟩
            go_wp2_with fail
            refine FD.out.mono ?_; rintro e w' ⟨rfl, rfl⟩
            go_wp2_with fail
            refine BL.out.mono ?_; rintro e w' ⟨rfl, hl⟩
            have HL := Lib.hid hl
            clear hl
            go_wp2
            go_ret
            exact ⟨ret_int E1.out.symm, by rw [E2.out]; exact HL.out⟩
          · have E1 : Hid (actE s 0 = 0) := Lib.hid (by unfold actE; simp [hf])
            have E2 : Hid (actS s 0 (cutL s (bs sn) j) = { s with fs := cutL s (bs sn) j, fuse := s.fuse - 1 }) := Lib.hid (by unfold actS; simp [hf])
            rw [if_neg hf, decide_eq_false hf] at BL
            clear hf
            go_enter Try.func27, Try.ntmps27
            go_wp2_with fail
            refine LK.out.mono ?_; rintro e w' ⟨rfl, rfl⟩
            go_wp2_with fail
            refine FD.out.mono ?_; rintro e w' ⟨rfl, rfl⟩
            go_wp2_with fail
            refine BL.out.mono ?_; rintro e w2 ⟨rfl, own2, ⟨rf2, rk2, Ad2, fa2, fc2, ka2, kc2, p2, bb2⟩, st⟩
            clear c1 d2 p LK FD BL
            have P := Lib.hid p2
            have B := Lib.hid bb2
            have ST := Lib.hid st
            clear p2 bb2 st
            obtain ⟨g2, hg2, d1, d20, d30⟩ := P.out.rs.cell (i := k) HK.out
            obtain ⟨⟨_, c10, _, _, _⟩, _⟩ := obj5 P.out.rs.obj
            have hfl := P.out.rs.files
            rw [hg2] at hfl
            obtain ⟨cur, hb⟩ := ownsRow_block hfl
            replace hb : w2.heap[g2]? = some (.cells cur 76 (0, 0)) := hb
            have fz1 : w2.frozen? ⟨g2, k * 3 + 1, none⟩ = false := by simp [World.frozen?, hb]
            have fz2 : w2.frozen? ⟨g2, k * 3 + 2, none⟩ = false := by simp [World.frozen?, hb]
            have d2 : w2.cell? ⟨g2, k * 3 + 1, none⟩ = some (.slice (Ad2 f.nm).1 f.zs.length (Ad2 f.nm).2) := by rw [HFl.out HK.out]; exact d20
            have d3 : w2.cell? ⟨g2, k * 3 + 2, none⟩ = some (.int .i64 (f.sure : Int)) := by rw [HFl.out HK.out]; exact d30
            have c1 : w2.cell? ⟨R, 1, none⟩ = some (.slice fa2 s.fs.length fc2) := c10
            have ne : R ≠ g2 := fun e => (P.out.files_ne hg2).1 e.symm
            have ROW : Hid (OwnB w2 0 (Ad2 f.nm).1 (Ad2 f.nm).2 f.zs) := Lib.hid (P.out.rs.rows f (by rw [HFl.out HK.out]; exact List.getElem_mem HK.out))
            obtain ⟨su, hsu⟩ : ∃ su, su = f.sure := ⟨_, rfl⟩
            rw [← hsu] at d3
            have SU := Lib.hid hsu
            have SUB := Lib.hid (H.out.inv.sure f (by rw [HFl.out HK.out]; exact List.getElem_mem HK.out))
            have HG2 := Lib.hid hg2
            have hjz : j ≤ f.zs.length := by have := ZN.out; omega
            have hjb : j ≤ 16777216 := by omega
            have hsub : (su : Int) ≤ 16777216 := by have := SUB.out; have := ZN.out; omega
            have HJ := Lib.hid hjz
            rw [← LN.out] at c1
            rw [← ZN.out] at d2
            subst hg2
            have hsl := slice_to (Ad2 f.nm).1 zn (Ad2 f.nm).2 j (Nat.le_trans hjz ROW.out.cap_) .i64
            have TL : Hid ((f.zs.take j).length = j) := Lib.hid (by rw [List.length_take]; omega)
            have RB := Lib.hid (ROW.out.bytes.head j)
            have lg1 : g2 < w2.heap.size := P.out.lt _ (P.out.ownF _ HG2.out)
            have lR1 : R < w2.heap.size := P.out.lt _ P.out.ownT
            have BA : Hid (Below w2.heap.size w2 (w2.alloc (.cells #[] 5)).drew) := Lib.hid (((Below.refl _ _).alloc (Nat.le_refl _) (.cells #[] 5)).drew)
            have q4 : Hid ((w2.alloc (.cells #[] 5)).drew.cell? ⟨R, 1, none⟩ = some (.slice (some ⟨g2, 0, none⟩) ln fc2) ∧ (w2.alloc (.cells #[] 5)).drew.cell? ⟨g2, k * 3 + 2, none⟩ = some (.int .i64 (su : Int))) := Lib.hid ⟨(BA.out.cell (p := ⟨R, 1, none⟩) lR1).trans c1, (BA.out.cell (p := ⟨g2, k * 3 + 2, none⟩) lg1).trans d3⟩
            have z2 : (w2.alloc (.cells #[] 5)).drew.cell? ⟨g2, k * 3 + 1, none⟩ = some (.slice (Ad2 f.nm).1 zn (Ad2 f.nm).2) := (BA.out.cell (p := ⟨g2, k * 3 + 1, none⟩) lg1).trans d2
            clear hsu hfl hb hjz d1 d20 d30 c10
            go_wp2_with fail
            refine wp_region_C (fun w' => w'.cell? ⟨R, 1, none⟩ = some (.slice (some ⟨g2, 0, none⟩) ln fc2) ∧ w'.cell? ⟨g2, k * 3 + 1, none⟩ = some (.slice (Ad2 f.nm).1 zn (Ad2 f.nm).2)) 19 (by kernel_rfl) ?_
            have hS0 : (fun w' : World => w'.cell? ⟨R, 1, none⟩ = some (.slice (some ⟨g2, 0, none⟩) ln fc2) ∧ w'.cell? ⟨g2, k * 3 + 1, none⟩ = some (.slice (Ad2 f.nm).1 zn (Ad2 f.nm).2)) w2.drew := ⟨c1, d2⟩
            refine wpAnyC_take (i := 0) (oi := ?o1) (v := ?v1) ?hi1 (by kernel_rfl) (by kernel_rfl) (by kernel_rfl) ?hQ1 (by kernel_rfl) (by decide) (by kernel_rfl) (Or.inl ⟨?hg1, ?hy1⟩) (by assumption) ?rest1
            case hi1 => (simp only [List.getElem?_toArray, List.getElem?_cons_zero]; exact rfl)
            case hQ1 => exact fun _ _ _ h => h
            case hg1 => rfl
            case hy1 => (intro w' hSw; (try dsimp only at hSw); go_simp; try with_reducible rfl)
            try simp only [Act.put, List.setIfInBounds_toArray, List.set_cons_zero, List.set_cons_succ]
            refine wpAnyC_take (i := 1) (oi := ?o2) (v := ?v2) ?hi2 (by kernel_rfl) (by kernel_rfl) (by kernel_rfl) ?hQ2 (by kernel_rfl) (by decide) (by kernel_rfl) (Or.inl ⟨?hg2, ?hy2⟩) (by assumption) ?rest2
            case hi2 => (simp only [List.getElem?_toArray, List.getElem?_cons_zero, List.getElem?_cons_succ]; exact rfl)
            case hQ2 => exact fun _ _ _ h => h
            case hg2 => rfl
            case hy2 => (intro w' hSw; (try dsimp only at hSw); go_simp; try with_reducible rfl)
            try simp only [Act.put, List.setIfInBounds_toArray, List.set_cons_zero, List.set_cons_succ]
            refine wpAnyC_take (i := 2) (oi := ?o3) (v := ?v3) ?hi3 (by kernel_rfl) (by kernel_rfl) (by kernel_rfl) ?hQ3 (by kernel_rfl) (by decide) (by kernel_rfl) (Or.inl ⟨?hg3, ?hy3⟩) (by assumption) ?rest3
            case hi3 => (simp only [List.getElem?_toArray, List.getElem?_cons_zero, List.getElem?_cons_succ]; exact rfl)
            case hQ3 => exact fun _ _ _ h => h
            case hg3 => rfl
            case hy3 => (intro w' hSw; (try dsimp only at hSw); go_simp; try with_reducible rfl)
            try simp only [Act.put, List.setIfInBounds_toArray, List.set_cons_zero, List.set_cons_succ]
            refine wpAnyC_take (i := 3) (oi := ?o4) (v := ?v4) ?hi4 (by kernel_rfl) (by kernel_rfl) (by kernel_rfl) ?hQ4 (by kernel_rfl) (by decide) (by kernel_rfl) (Or.inl ⟨?hg4, ?hy4⟩) (by assumption) ?rest4
            case hi4 => (simp only [List.getElem?_toArray, List.getElem?_cons_zero, List.getElem?_cons_succ]; exact rfl)
            case hQ4 => exact fun _ _ _ h => h
            case hg4 => rfl
            case hy4 => (intro w' hSw; (try dsimp only at hSw); go_simp; try with_reducible rfl)
            try simp only [Act.put, List.setIfInBounds_toArray, List.set_cons_zero, List.set_cons_succ]
            refine wpAnyC_take (i := 4) (oi := ?o5) (v := ?v5) ?hi5 (by kernel_rfl) (by kernel_rfl) (by kernel_rfl) ?hQ5 (by kernel_rfl) (by decide) (by kernel_rfl) (Or.inl ⟨?hg5, ?hy5⟩) (by assumption) ?rest5
            case hi5 => (simp only [List.getElem?_toArray, List.getElem?_cons_zero, List.getElem?_cons_succ]; exact rfl)
            case hQ5 => exact fun _ _ _ h => h
            case hg5 => rfl
            case hy5 => (intro w' hSw; (try dsimp only at hSw); go_simp; try with_reducible rfl)
            try simp only [Act.put, List.setIfInBounds_toArray, List.set_cons_zero, List.set_cons_succ]
            refine wpAnyC_take (i := 6) (oi := ?o6) (v := ?v6) ?hi6 (by kernel_rfl) (by kernel_rfl) (by kernel_rfl) ?hQ6 (by kernel_rfl) (by decide) (by kernel_rfl) (Or.inl ⟨?hg6, ?hy6⟩) (by assumption) ?rest6
            case hi6 => (simp only [List.getElem?_toArray, List.getElem?_cons_zero, List.getElem?_cons_succ]; exact rfl)
            case hQ6 => exact fun _ _ _ h => h
            case hg6 => rfl
            case hy6 => (intro w' hSw; (try dsimp only at hSw); go_simp; try with_reducible rfl)
            try simp only [Act.put, List.setIfInBounds_toArray, List.set_cons_zero, List.set_cons_succ]
            refine wpAnyC_take (i := 7) (oi := ?o7) (v := ?v7) ?hi7 (by kernel_rfl) (by kernel_rfl) (by kernel_rfl) ?hQ7 (by kernel_rfl) (by decide) (by kernel_rfl) (Or.inl ⟨?hg7, ?hy7⟩) (by assumption) ?rest7
            case hi7 => (simp only [List.getElem?_toArray, List.getElem?_cons_zero, List.getElem?_cons_succ]; exact rfl)
            case hQ7 => exact fun _ _ _ h => h
            case hg7 => rfl
            case hy7 => (intro w' hSw; (try dsimp only at hSw); go_simp; try with_reducible rfl)
            try simp only [Act.put, List.setIfInBounds_toArray, List.set_cons_zero, List.set_cons_succ]
            refine wpAnyC_take (i := 8) (oi := ?o8) (v := ?v8) ?hi8 (by kernel_rfl) (by kernel_rfl) (by kernel_rfl) ?hQ8 (by kernel_rfl) (by decide) (by kernel_rfl) (Or.inl ⟨?hg8, ?hy8⟩) (by assumption) ?rest8
            case hi8 => (simp only [List.getElem?_toArray, List.getElem?_cons_zero, List.getElem?_cons_succ]; exact rfl)
            case hQ8 => exact fun _ _ _ h => h
            case hg8 => rfl
            case hy8 => (intro w' hSw; (try dsimp only at hSw); go_simp; try with_reducible rfl)
            try simp only [Act.put, List.setIfInBounds_toArray, List.set_cons_zero, List.set_cons_succ]
            refine wpAnyC_take (i := 9) (oi := ?o9) (v := ?v9) ?hi9 (by kernel_rfl) (by kernel_rfl) (by kernel_rfl) ?hQ9 (by kernel_rfl) (by decide) (by kernel_rfl) (Or.inl ⟨?hg9, ?hy9⟩) (by assumption) ?rest9
            case hi9 => (simp only [List.getElem?_toArray, List.getElem?_cons_zero, List.getElem?_cons_succ]; exact rfl)
            case hQ9 => exact fun _ _ _ h => h
            case hg9 => rfl
            case hy9 => (intro w' hSw; (try dsimp only at hSw); go_simp; try with_reducible rfl)
            try simp only [Act.put, List.setIfInBounds_toArray, List.set_cons_zero, List.set_cons_succ]
            refine wpAnyC_take (i := 10) (oi := ?o10) (v := ?v10) ?hi10 (by kernel_rfl) (by kernel_rfl) (by kernel_rfl) ?hQ10 (by kernel_rfl) (by decide) (by kernel_rfl) (Or.inl ⟨?hg10, ?hy10⟩) (by assumption) ?rest10
            case hi10 => (simp only [List.getElem?_toArray, List.getElem?_cons_zero, List.getElem?_cons_succ]; exact rfl)
            case hQ10 => exact fun _ _ _ h => h
            case hg10 => rfl
            case hy10 => (intro w' hSw; (try dsimp only at hSw); go_simp; try with_reducible rfl)
            try simp only [Act.put, List.setIfInBounds_toArray, List.set_cons_zero, List.set_cons_succ]
            refine wpAnyC_take (i := 11) (oi := ?o11) (v := ?v11) ?hi11 (by kernel_rfl) (by kernel_rfl) (by kernel_rfl) ?hQ11 (by kernel_rfl) (by decide) (by kernel_rfl) (Or.inl ⟨?hg11, ?hy11⟩) (by assumption) ?rest11
            case hi11 => (simp only [List.getElem?_toArray, List.getElem?_cons_zero, List.getElem?_cons_succ]; exact rfl)
            case hQ11 => exact fun _ _ _ h => h
            case hg11 => rfl
            case hy11 => (intro w' hSw; (try dsimp only at hSw); go_simp; try with_reducible rfl)
            try simp only [Act.put, List.setIfInBounds_toArray, List.set_cons_zero, List.set_cons_succ]
            refine wpAnyC_take (i := 12) (oi := ?o12) (v := ?v12) ?hi12 (by kernel_rfl) (by kernel_rfl) (by kernel_rfl) ?hQ12 (by kernel_rfl) (by decide) (by kernel_rfl) (Or.inl ⟨?hg12, ?hy12⟩) (by assumption) ?rest12
            case hi12 => (simp only [List.getElem?_toArray, List.getElem?_cons_zero, List.getElem?_cons_succ]; exact rfl)
            case hQ12 => exact fun _ _ _ h => h
            case hg12 => rfl
            case hy12 => (intro w' hSw; (try dsimp only at hSw); go_simp; try with_reducible rfl)
            try simp only [Act.put, List.setIfInBounds_toArray, List.set_cons_zero, List.set_cons_succ]
            refine wpAnyC_take (i := 13) (oi := ?o13) (v := ?v13) ?hi13 (by kernel_rfl) (by kernel_rfl) (by kernel_rfl) ?hQ13 (by kernel_rfl) (by decide) (by kernel_rfl) (Or.inl ⟨?hg13, ?hy13⟩) (by assumption) ?rest13
            case hi13 => (simp only [List.getElem?_toArray, List.getElem?_cons_zero, List.getElem?_cons_succ]; exact rfl)
            case hQ13 => exact fun _ _ _ h => h
            case hg13 => rfl
            case hy13 => (intro w' hSw; (try dsimp only at hSw); go_simp; try with_reducible rfl)
            try simp only [Act.put, List.setIfInBounds_toArray, List.set_cons_zero, List.set_cons_succ]
            refine wpAnyC_take (i := 14) (oi := ?o14) (v := ?v14) ?hi14 (by kernel_rfl) (by kernel_rfl) (by kernel_rfl) ?hQ14 (by kernel_rfl) (by decide) (by kernel_rfl) (Or.inl ⟨?hg14, ?hy14⟩) (by assumption) ?rest14
            case hi14 => (simp only [List.getElem?_toArray, List.getElem?_cons_zero, List.getElem?_cons_succ]; exact rfl)
            case hQ14 => exact fun _ _ _ h => h
            case hg14 => rfl
            case hy14 => (intro w' hSw; (try dsimp only at hSw); go_simp; try with_reducible rfl)
            try simp only [Act.put, List.setIfInBounds_toArray, List.set_cons_zero, List.set_cons_succ]
            refine wpAnyC_take (i := 15) (oi := ?o15) (v := ?v15) ?hi15 (by kernel_rfl) (by kernel_rfl) (by kernel_rfl) ?hQ15 (by kernel_rfl) (by decide) (by kernel_rfl) (Or.inl ⟨?hg15, ?hy15⟩) (by assumption) ?rest15
            case hi15 => (simp only [List.getElem?_toArray, List.getElem?_cons_zero, List.getElem?_cons_succ]; exact rfl)
            case hQ15 => exact fun _ _ _ h => h
            case hg15 => rfl
            case hy15 => (intro w' hSw; (try dsimp only at hSw); go_simp; try with_reducible rfl)
            try simp only [Act.put, List.setIfInBounds_toArray, List.set_cons_zero, List.set_cons_succ]
            refine wpAnyC_one (i := 5) (oi := ?o16) ?hi16 (by kernel_rfl) ?step16
            case hi16 => (simp only [List.getElem?_toArray, List.getElem?_cons_zero, List.getElem?_cons_succ]; exact rfl)
            intro K' hK
            go_simp
            refine hK.out _ _ ?_ (fun hHeld => ?_)
            · exact fun _ => ⟨q4.out.1, z2⟩
            clear hK K' hHeld
            try simp only [Act.put, List.setIfInBounds_toArray, List.set_cons_zero, List.set_cons_succ]
            refine wpAnyC_one (i := 16) (oi := ?o17) ?hi17 (by kernel_rfl) ?step17
            case hi17 => (simp only [List.getElem?_toArray, List.getElem?_cons_zero, List.getElem?_cons_succ]; exact rfl)
            intro K' hK
            (refine step_app (by rfl) _ _ (by rfl) (n := 0) (by rfl) (by rfl) (base := w2.heap.size) (xs := []) (OwnB.start w2 w2.heap.size (Nat.le_refl _) |>.keep fun _ _ => rfl) (by simp) (by rfl) TL.out.symm (RB.out.below BA.out) (by rw [TL.out]; simp; omega) ?_; intro A5 c5 w5 o5 g5; have B5 : Hid (Below w2.heap.size w2 w5) := Lib.hid (BA.out.trans g5.below); have O5 := Lib.hid o5; have q5 : Hid (w5.cell? ⟨R, 1, none⟩ = some (.slice (some ⟨g2, 0, none⟩) ln fc2) ∧ w5.cell? ⟨g2, k * 3 + 2, none⟩ = some (.int .i64 (su : Int))) := Lib.hid ⟨(B5.out.cell (p := ⟨R, 1, none⟩) lR1).trans c1, (B5.out.cell (p := ⟨g2, k * 3 + 2, none⟩) lg1).trans d3⟩; have y4 : w5.frozen? ⟨g2, k * 3 + 1, none⟩ = false := (by simp only [World.frozen?, B5.out.block g2 lg1]; exact fz1); have y5 : w5.frozen? ⟨g2, k * 3 + 2, none⟩ = false := (by simp only [World.frozen?, B5.out.block g2 lg1]; exact fz2); have y2 := (B5.out.cell (p := ⟨g2, k * 3 + 1, none⟩) lg1).trans d2; have q6 : Hid (∀ v, (w5.setCell ⟨g2, k * 3 + 1, none⟩ v).cell? ⟨R, 1, none⟩ = some (.slice (some ⟨g2, 0, none⟩) ln fc2) ∧ (w5.setCell ⟨g2, k * 3 + 1, none⟩ v).cell? ⟨g2, k * 3 + 2, none⟩ = some (.int .i64 (su : Int))) := Lib.hid (fun v => ⟨(World.cell?_of_block (w := w5) (Below.heap_setCell _ _ _ _ ne)).trans q5.out.1, (far_cell (by omega)).trans q5.out.2⟩); clear o5 g5)
            refine hK.out _ _ ?_ (fun hHeld => ?_)
            · exact fun _ => ⟨q5.out.1, y2⟩
            clear hK K' hHeld
            try simp only [Act.put, List.setIfInBounds_toArray, List.set_cons_zero, List.set_cons_succ]
            refine wpAnyC_one (i := 17) (oi := ?o18) ?hi18 (by kernel_rfl) ?step18
            case hi18 => (simp only [List.getElem?_toArray, List.getElem?_cons_zero, List.getElem?_cons_succ]; exact rfl)
            intro K' hK
            go_simp
            refine hK.out _ _ ?_ (fun hHeld => ?_)
            · exact fun _ => ⟨q5.out.1, y2⟩
            clear hK K' hHeld
            try simp only [Act.put, List.setIfInBounds_toArray, List.set_cons_zero, List.set_cons_succ]
            refine wpAnyC_one (i := 18) (oi := ?o19) ?hi19 (by kernel_rfl) ?step19
            case hi19 => (simp only [List.getElem?_toArray, List.getElem?_cons_zero, List.getElem?_cons_succ]; exact rfl)
            intro K' hK
            go_simp
            refine hK.out _ _ ?_ (fun hHeld => ?_)
            · exact fun _ => ⟨q5.out.1, y2⟩
            clear hK K' hHeld
            try simp only [Act.put, List.setIfInBounds_toArray, List.set_cons_zero, List.set_cons_succ]
            refine wpAnyC_one (i := 19) (oi := ?o20) ?hi20 (by kernel_rfl) ?step20
            case hi20 => (simp only [List.getElem?_toArray, List.getElem?_cons_zero, List.getElem?_cons_succ]; exact rfl)
            intro K' hK
            go_simp
            refine hK.out _ _ ?_ (fun hHeld => ?_)
            · exact fun h => (by cases h)
            clear hK K' hHeld
            try simp only [Act.put, List.setIfInBounds_toArray, List.set_cons_zero, List.set_cons_succ]
            refine wpAnyC_done (by kernel_rfl) ?_ _
            all_goals
              obtain ⟨e6, e7⟩ := q6.out (.slice A5 (min j f.zs.length) c5)
              have fz6 : (w5.setCell ⟨g2, k * 3 + 1, none⟩ (.slice A5 (min j f.zs.length) c5)).frozen? ⟨g2, k * 3 + 2, none⟩ = false := by
                rw [World.frozen?_setCell]; exact y5
              have P5 := Lib.hid (P.out.grow B5.out)
              have E5 : Hid ((f.zs.take j).length = min j f.zs.length) := Lib.hid List.length_take
              have FE : Hid (f = s.fs[k]'HK.out) := Lib.hid (HFl.out HK.out)
              have HB := Lib.hid (show ∀ i, own2 i → i < w2.heap.size from P.out.lt)
              by_cases hsj : (j : Int) < (su : Int)
              · have NW := Lib.hid (P5.out.both (k := k) (A := A5) (c := c5) (x := j) (zs := f.zs.take j) HK.out rfl (by rw [TL.out]; exact Nat.le_refl _) (by show _ ≤ ((s.fs[k]'HK.out).zs.length); rw [← FE.out, E5.out]; omega) O5.out HB.out)
                rw [E5.out] at NW
                have SE : Hid (min (s.fs[k]'HK.out).sure j = j) := Lib.hid (by rw [← FE.out, ← SU.out]; omega)
                go_wp2
                go_ret
                refine ⟨ret_int E1.out.symm, ?_⟩
                rw [E2.out, SW.out, FE.out, SE.out]
                rw [FE.out] at NW
                exact RLeaves.trans ST.out ⟨_, ⟨rf2, rk2, _, _, fc2, ka2, kc2, NW.out, B.out⟩, (Only.of B5.out).trans ((Only.set own2 (k * 3 + 1) w5 _ (P.out.ownF _ rfl)).trans (Only.set own2 (k * 3 + 2) _ _ (P.out.ownF _ rfl)) (fun _ h => .inl h)) (fun _ h => .inl h), fun i hi => by
                  rcases hi with h1 | ⟨a, ha, rfl⟩
                  · exact .inl h1
                  · subst ha; exact .inr (OwnB.lt O5.out).1⟩
              · have NW := Lib.hid (P5.out.bytes (k := k) (A := A5) (c := c5) (zs := f.zs.take j) HK.out rfl (by rw [TL.out]; show (s.fs[k]'HK.out).sure ≤ j; rw [← FE.out, ← SU.out]; omega) (by rw [TL.out]; show total s.fs + j ≤ s.room + (s.fs[k]'HK.out).zs.length; rw [← FE.out]; have := H.out.inv.tot; have := HJ.out; omega) O5.out HB.out)
                rw [E5.out] at NW
                have SE : Hid (min (s.fs[k]'HK.out).sure j = (s.fs[k]'HK.out).sure) := Lib.hid (by rw [← FE.out, ← SU.out]; omega)
                go_wp2
                go_ret
                refine ⟨ret_int E1.out.symm, ?_⟩
                rw [E2.out, SW.out, FE.out, SE.out]
                rw [FE.out] at NW
                exact RLeaves.trans ST.out ⟨_, ⟨rf2, rk2, _, _, fc2, ka2, kc2, NW.out, B.out⟩, (Only.of B5.out).trans (Only.set own2 (k * 3 + 1) w5 _ (P.out.ownF _ rfl)) (fun _ h => .inl h), fun i hi => by
                  rcases hi with h1 | ⟨a, ha, rfl⟩
                  · exact .inl h1
                  · subst ha; exact .inr (OwnB.lt O5.out).1⟩
    · exact absurd (HF0.out.symm.trans p2) (by simp)
  · have E0 : cutE s (bs sn) n = fnd s (bs sn) [bs sn] := by unfold cutE; rw [if_pos hE]
    have E1 : Hid (actE s (cutE s (bs sn) n) = fnd s (bs sn) [bs sn]) := Lib.hid (by unfold actE; rw [E0, if_pos hE])
    have E2 : Hid (actS s (cutE s (bs sn) n) (cutL s (bs sn) n.toNat) = s) := Lib.hid (by unfold actS; rw [E0, if_pos hE])
    rw [E1.out, E2.out]
    clear E0 E1 E2
    generalize fnd s (bs sn) [bs sn] = er at *
    have he : (er != 0) = true := by simpa using hE
    clear h
    go_enter Try.func27, Try.ntmps27
    go_wp2_with fail
    refine LK.out.mono ?_; rintro e w' ⟨rfl, rfl⟩
    go_wp2
    go_ret
    exact ⟨rfl, RLeaves.same H.out (Below.refl _ _)⟩
end Go.Proofs.Ytmahbcpkilegpaa
