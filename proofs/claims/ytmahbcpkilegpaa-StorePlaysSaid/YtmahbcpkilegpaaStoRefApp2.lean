/-
  The reference's Append, whole.
-/
import Derived.Test.YtmahbcpkilegpaaStoRefApp
namespace Go.Proofs.Ytmahbcpkilegpaa
open Go.RowKit St

set_option maxRecDepth 20000 in
set_option maxHeartbeats 8000000 in
theorem rappend_any (R : Nat) (own : Nat → Prop) (s : S) (w : World) (h : RState w R own s) (sn : ByteArray) (hsn : sn.size ≤ 9223372036854775807) (A0 : Option Addr) (cap0 : Nat) (zs : List Int) (hby : Bytes w w.heap.size A0 zs) (hA : 0 < zs.length → ∀ a, A0 = some a → ¬ own a.block) :
    Calls Try.prog 25 #[.pointer (some ⟨R, 0, none⟩), .string sn, .slice A0 zs.length cap0] w fun e w' => e = .returned (.int .i64 (actE s (appE s (bs sn) zs.length))) ∧ RLeaves w R own (actS s (appE s (bs sn) zs.length) (appL s (bs sn) zs)) w' := by
  have H := Lib.hid h
  have BY := Lib.hid hby
  have HA := Lib.hid hA
  have LK : Hid (Calls Try.prog 44 #[.pointer (some ⟨R, 0, none⟩), .string sn, .bool false] w fun e w' => e = .returned (.int .i64 (chk s [bs sn])) ∧ w = w') := Lib.hid (by
    obtain ⟨rf, rk, Ad, fa, fc, ka, kc, p, _⟩ := h
    exact rlook_bare p.rs sn hsn)
  have FD : Hid (Calls Try.prog 45 #[.pointer (some ⟨R, 0, none⟩), .string sn] w fun e w' => e = .returned (.int .i64 (placeV (bs sn) s.fs)) ∧ w = w') := Lib.hid (by
    obtain ⟨rf, rk, Ad, fa, fc, ka, kc, p, _⟩ := h
    exact rfind_any p.rs sn)
  have FR : Hid (Calls Try.prog 35 #[.pointer (some ⟨R, 0, none⟩)] w fun e w' => e = .returned (.int .i64 ((s.room : Int) - (total s.fs : Nat))) ∧ w = w') := Lib.hid (by
    obtain ⟨rf, rk, Ad, fa, fc, ka, kc, p, _⟩ := h
    exact rfree_any p.rs)
  obtain ⟨fa, fc, c1⟩ : ∃ fa fc, w.cell? ⟨R, 1, none⟩ = some (.slice fa s.fs.length fc) := by
    obtain ⟨rf, rk, Ad, fa, fc, ka, kc, p, _⟩ := h
    obtain ⟨⟨_, c1, _, _, _⟩, _⟩ := obj5 p.rs.obj
    exact ⟨fa, fc, c1⟩
  by_cases hE : chk s [bs sn] = 0
  · have ho := (chk_zero hE).1
    have BL := Lib.hid (rblown_any R own s w H.out ho)
    have TOT := Lib.hid H.out.inv.tot
    have PF := placeV_find (bs sn) s.fs
    by_cases hfull : s.room - total s.fs < zs.length ∨ ((find (bs sn) s.fs).isSome = false ∧ 64 ≤ s.fs.length)
    · have E0 : appE s (bs sn) zs.length = 6 := by unfold appE; rw [if_neg (by simpa using hE), if_pos hfull]
      have E1 : Hid (actE s (appE s (bs sn) zs.length) = 6) := Lib.hid (by rw [E0]; rfl)
      have E2 : Hid (actS s (appE s (bs sn) zs.length) (appL s (bs sn) zs) = s) := Lib.hid (by rw [E0]; rfl)
      rw [E1.out, E2.out]
      rw [hE] at LK
      clear E0 E1 E2 hby hA h hE
      by_cases hr : (s.room : Int) - (total s.fs : Nat) < (zs.length : Int)
      · clear hfull PF
        generalize hfr : (s.room : Int) - (total s.fs : Nat) = fr at *
        generalize placeV (bs sn) s.fs = pv at *
        go_enter Try.func25, Try.ntmps25
        go_wp2_with fail
        refine LK.out.mono ?_; rintro e w' ⟨rfl, rfl⟩
        go_wp2_with fail
        refine FD.out.mono ?_; rintro e w' ⟨rfl, rfl⟩
        go_wp2_with fail
        refine FR.out.mono ?_; rintro e w' ⟨rfl, rfl⟩
        go_wp2
        go_ret
        exact ⟨rfl, RLeaves.same H.out (Below.refl _ _)⟩
      · have hc : find (bs sn) s.fs = none ∧ 64 ≤ s.fs.length := by
          rcases hfull with h1 | ⟨h1, h2⟩
          · have := TOT.out; omega
          · exact ⟨by simpa using h1, h2⟩
        have hp : placeV (bs sn) s.fs = -1 := by
          rcases PF with ⟨k, hk, _, p2⟩ | ⟨p1, _⟩
          · rw [hc.1] at p2; cases p2
          · exact p1
        rw [hp] at FD
        have hc2 : (64 : Int) ≤ (s.fs.length : Int) := by omega
        clear hfull PF hc hp
        generalize hfr : (s.room : Int) - (total s.fs : Nat) = fr at *
        go_enter Try.func25, Try.ntmps25
        go_wp2_with fail
        refine LK.out.mono ?_; rintro e w' ⟨rfl, rfl⟩
        go_wp2_with fail
        refine FD.out.mono ?_; rintro e w' ⟨rfl, rfl⟩
        go_wp2_with fail
        refine FR.out.mono ?_; rintro e w' ⟨rfl, rfl⟩
        go_wp2
        go_ret
        exact ⟨rfl, RLeaves.same H.out (Below.refl _ _)⟩
    · have E0 : appE s (bs sn) zs.length = 0 := by unfold appE; rw [if_neg (by simpa using hE), if_neg hfull]
      have hroom : zs.length ≤ s.room - total s.fs := by omega
      rw [E0]
      by_cases hf : s.fuse = 1
      · rw [hf] at BL
        have E1 : Hid (actE s 0 = 11) := Lib.hid (by unfold actE; simp [hf])
        have E2 : Hid (actS s 0 (appL s (bs sn) zs) = crash { s with fuse := 0 } s.keep) := Lib.hid (by unfold actS; simp [hf])
        rw [hE] at LK
        have hr : ¬ ((s.room : Int) - (total s.fs : Nat) < (zs.length : Int)) := by have := TOT.out; omega
        rcases PF with ⟨k, hk, p1, p2⟩ | ⟨p1, p2⟩
        · rw [p1] at FD
          have hk0 : ¬ (k : Int) < 0 := by omega
          clear hf hfull p1 p2 E0 hby hA h hE
          generalize hfr : (s.room : Int) - (total s.fs : Nat) = fr at *
          go_enter Try.func25, Try.ntmps25
          go_wp2_with fail
          refine LK.out.mono ?_; rintro e w' ⟨rfl, rfl⟩
          go_wp2_with fail
          refine FD.out.mono ?_; rintro e w' ⟨rfl, rfl⟩
          go_wp2_with fail
          refine FR.out.mono ?_; rintro e w' ⟨rfl, rfl⟩
          go_wp2_with fail
          refine BL.out.mono ?_; rintro e w' ⟨rfl, hl⟩
          have HL := Lib.hid hl
          clear hl
          go_wp2
          go_ret
          exact ⟨ret_int E1.out.symm, by rw [E2.out]; exact HL.out⟩
        · rw [p1] at FD
          have hc2 : ¬ (64 : Int) ≤ (s.fs.length : Int) := by rw [p2] at hfull; simp at hfull; omega
          clear hf hfull p1 p2 E0 hby hA h hE
          generalize hfr : (s.room : Int) - (total s.fs : Nat) = fr at *
          go_enter Try.func25, Try.ntmps25
          go_wp2_with fail
          refine LK.out.mono ?_; rintro e w' ⟨rfl, rfl⟩
          go_wp2_with fail
          refine FD.out.mono ?_; rintro e w' ⟨rfl, rfl⟩
          go_wp2_with fail
          refine FR.out.mono ?_; rintro e w' ⟨rfl, rfl⟩
          go_wp2_with fail
          refine BL.out.mono ?_; rintro e w' ⟨rfl, hl⟩
          have HL := Lib.hid hl
          clear hl
          go_wp2
          go_ret
          exact ⟨ret_int E1.out.symm, by rw [E2.out]; exact HL.out⟩
      · have E1 : Hid (actE s 0 = 0) := Lib.hid (by unfold actE; simp [hf])
        have E2 : Hid (actS s 0 (appL s (bs sn) zs) = { s with fs := appL s (bs sn) zs, fuse := s.fuse - 1 }) := Lib.hid (by unfold actS; simp [hf])
        rcases PF with ⟨k, hk, p1, p2⟩ | ⟨p1, p2⟩
        · rw [if_neg hf, decide_eq_false hf] at BL
          rw [hE] at LK
          rw [p1] at FD
          have hr : ¬ ((s.room : Int) - (total s.fs : Nat) < (zs.length : Int)) := by have := TOT.out; omega
          have hk0 : ¬ (k : Int) < 0 := by omega
          have ZB : Hid (zs.length ≤ 16777216) := Lib.hid (by have := H.out.inv.room; omega)
          have AP := Lib.hid (app_at (nm := bs sn) H.out.inv hk p2 zs)
          have HK := Lib.hid hk
          have HRM := Lib.hid hroom
          clear hf hfull p1 p2 E0 hby hA h hE hroom
          generalize hfr : (s.room : Int) - (total s.fs : Nat) = fr at *
          clear hfr
          go_enter Try.func25, Try.ntmps25
          go_wp2_with fail
          refine LK.out.mono ?_; rintro e w' ⟨rfl, rfl⟩
          go_wp2_with fail
          refine FD.out.mono ?_; rintro e w' ⟨rfl, rfl⟩
          go_wp2_with fail
          refine FR.out.mono ?_; rintro e w' ⟨rfl, rfl⟩
          go_wp2_with fail
          refine BL.out.mono ?_; rintro e wq ⟨rfl, own3, ⟨rf2, rk2, Ad3, fa3, fc3, ka2, kc2, p3, b3⟩, st3⟩
          clear c1 LK FD FR BL
          have P3' := Lib.hid p3
          have B := Lib.hid b3
          have ST3 := Lib.hid st3
          clear p3 b3 st3
          have BY3 := Lib.hid (bytes_only BY.out (Nat.le_refl _) ST3.out.only HA.out)
          obtain ⟨s3, hs3⟩ : ∃ s3 : S, s3 = { s with fuse := s.fuse - 1 } := ⟨_, rfl⟩
          have E3 : Hid ({ s with fs := appL s (bs sn) zs, fuse := s.fuse - 1 } = { s3 with fs := s3.fs.set k { nm := (s.fs[k]'HK.out).nm, zs := (s.fs[k]'HK.out).zs ++ zs, sure := (s.fs[k]'HK.out).sure } }) := Lib.hid (by rw [hs3, AP.out])
          have HK3 : Hid (k < s3.fs.length) := Lib.hid (by rw [hs3]; exact HK.out)
          have HFE : Hid (s3.fs[k]'HK3.out = s.fs[k]'HK.out) := Lib.hid (by subst hs3; rfl)
          have TB : Hid (total s3.fs + zs.length ≤ s3.room) := Lib.hid (by rw [hs3]; show total s.fs + zs.length ≤ s.room; have := HRM.out; have := TOT.out; omega)
          have P3 : Hid (RP wq R own3 s3 rf2 rk2 Ad3 fa3 fc3 ka2 kc2) := Lib.hid (by rw [hs3]; exact P3'.out)
          rw [← HFE.out] at E3
          clear P3' hs3 HFE AP
          obtain ⟨g3, hg3, d1, d2, d3⟩ := P3.out.rs.cell (i := k) HK3.out
          clear d1 d3
          obtain ⟨⟨_, c1, _, _, _⟩, _⟩ := obj5 P3.out.rs.obj
          have hfl := P3.out.rs.files
          rw [hg3] at hfl
          obtain ⟨cur, hb⟩ := ownsRow_block hfl
          replace hb : wq.heap[g3]? = some (.cells cur 76 (0, 0)) := hb
          have fz1 : wq.frozen? ⟨g3, k * 3 + 1, none⟩ = false := by simp [World.frozen?, hb]
          obtain ⟨f, HF⟩ : ∃ f, Hid (f = s3.fs[k]'HK3.out) := ⟨_, Lib.hid rfl⟩
          have AP3 : Hid ({ s with fs := appL s (bs sn) zs, fuse := s.fuse - 1 } = { s3 with fs := s3.fs.set k { (s3.fs[k]'HK3.out) with zs := f.zs ++ zs } }) := Lib.hid (by rw [HF.out]; exact E3.out)
          replace d2 : wq.cell? ⟨g3, k * 3 + 1, none⟩ = some (.slice (Ad3 f.nm).1 f.zs.length (Ad3 f.nm).2) := by rw [HF.out]; exact d2
          replace c1 : wq.cell? ⟨R, 1, none⟩ = some (.slice fa3 s3.fs.length fc3) := c1
          have ne : R ≠ g3 := fun e => (P3.out.files_ne hg3).1 e.symm
          have ROW : Hid (OwnB wq 0 (Ad3 f.nm).1 (Ad3 f.nm).2 f.zs) := Lib.hid (P3.out.rs.rows f (by rw [HF.out]; exact List.getElem_mem HK3.out))
          have hlk : (k : Int) < (s3.fs.length : Int) := by have := HK3.out; omega
          have hlk0 : 0 ≤ (k : Int) := by omega
          obtain ⟨l3, hl3⟩ : ∃ l3, l3 = s3.fs.length := ⟨_, rfl⟩
          rw [← hl3] at c1 hlk
          have HL3 := Lib.hid hl3
          clear hl3 hfl hb
          have HG3 := Lib.hid hg3
          subst hg3
          have lg1 : g3 < wq.heap.size := P3.out.lt _ (P3.out.ownF _ rfl)
          have lR1 : R < wq.heap.size := P3.out.lt _ P3.out.ownT
          have BA : Hid (Below wq.heap.size wq (wq.alloc (.cells #[] 5)).drew) := Lib.hid (((Below.refl _ _).alloc (Nat.le_refl _) (.cells #[] 5)).drew)
          have q4 : Hid ((wq.alloc (.cells #[] 5)).drew.cell? ⟨R, 1, none⟩ = some (.slice (some ⟨g3, 0, none⟩) l3 fc3)) := Lib.hid ((BA.out.cell (p := ⟨R, 1, none⟩) lR1).trans c1)
          have z2 : (wq.alloc (.cells #[] 5)).drew.cell? ⟨g3, k * 3 + 1, none⟩ = some (.slice (Ad3 f.nm).1 f.zs.length (Ad3 f.nm).2) := (BA.out.cell (p := ⟨g3, k * 3 + 1, none⟩) lg1).trans d2
          have FB := Lib.hid (show f.zs.length ≤ 16777216 by
            have h1 := total_mem (List.getElem_mem HK3.out); rw [← HF.out] at h1; have h2 := P3.out.rs.inv.tot; have h3 := P3.out.rs.inv.room; omega)
          go_upto_region 15 with fail
          refine wp_region_C (fun w' => w'.cell? ⟨R, 1, none⟩ = some (.slice (some ⟨g3, 0, none⟩) l3 fc3) ∧ w'.cell? ⟨g3, k * 3 + 1, none⟩ = some (.slice (Ad3 f.nm).1 f.zs.length (Ad3 f.nm).2)) 19 (by kernel_rfl) ?_
          have hS0 : (fun w' : World => w'.cell? ⟨R, 1, none⟩ = some (.slice (some ⟨g3, 0, none⟩) l3 fc3) ∧ w'.cell? ⟨g3, k * 3 + 1, none⟩ = some (.slice (Ad3 f.nm).1 f.zs.length (Ad3 f.nm).2)) wq.drew := ⟨c1, d2⟩
          refine wpAnyC_take (i := 0) (oi := ?o1) (v := ?v1) ?hi1 (by kernel_rfl) (by kernel_rfl) (by kernel_rfl) ?hQ1 (by kernel_rfl) (by decide) (by kernel_rfl) (Or.inl ⟨?hg1, ?hy1⟩) (by assumption) ?rest1
          case hi1 => (simp only [List.getElem?_toArray, List.getElem?_cons_zero]; exact rfl)
          case hQ1 => exact fun _ _ _ h => h
          case hg1 => rfl
          case hy1 => (intro w' hSw; (try dsimp only at hSw); go_simp; try with_reducible rfl)
          try simp only [Act.put, List.setIfInBounds_toArray, List.set_cons_zero, List.set_cons_succ]
          refine wpAnyC_take (i := 1) (oi := ?o2) (v := ?v2) ?hi2 (by kernel_rfl) (by kernel_rfl) (by kernel_rfl) ?hQ2 (by kernel_rfl) (by decide) (by kernel_rfl) (Or.inl ⟨?hg2, ?hy2⟩) (by assumption) ?rest2
          case hi2 => (simp only [List.getElem?_toArray, List.getElem?_cons_zero, List.getElem?_cons_succ]; exact rfl)
          case hQ2 => exact fun _ _ _ h => h
          case hg2 => rfl
          case hy2 => (intro w' hSw; (try dsimp only at hSw); go_simp; try with_reducible rfl)
          try simp only [Act.put, List.setIfInBounds_toArray, List.set_cons_zero, List.set_cons_succ]
          refine wpAnyC_take (i := 2) (oi := ?o3) (v := ?v3) ?hi3 (by kernel_rfl) (by kernel_rfl) (by kernel_rfl) ?hQ3 (by kernel_rfl) (by decide) (by kernel_rfl) (Or.inl ⟨?hg3, ?hy3⟩) (by assumption) ?rest3
          case hi3 => (simp only [List.getElem?_toArray, List.getElem?_cons_zero, List.getElem?_cons_succ]; exact rfl)
          case hQ3 => exact fun _ _ _ h => h
          case hg3 => rfl
          case hy3 => (intro w' hSw; (try dsimp only at hSw); go_simp; try with_reducible rfl)
          try simp only [Act.put, List.setIfInBounds_toArray, List.set_cons_zero, List.set_cons_succ]
          refine wpAnyC_take (i := 3) (oi := ?o4) (v := ?v4) ?hi4 (by kernel_rfl) (by kernel_rfl) (by kernel_rfl) ?hQ4 (by kernel_rfl) (by decide) (by kernel_rfl) (Or.inl ⟨?hg4, ?hy4⟩) (by assumption) ?rest4
          case hi4 => (simp only [List.getElem?_toArray, List.getElem?_cons_zero, List.getElem?_cons_succ]; exact rfl)
          case hQ4 => exact fun _ _ _ h => h
          case hg4 => rfl
          case hy4 => (intro w' hSw; (try dsimp only at hSw); go_simp; try with_reducible rfl)
          try simp only [Act.put, List.setIfInBounds_toArray, List.set_cons_zero, List.set_cons_succ]
          refine wpAnyC_take (i := 4) (oi := ?o5) (v := ?v5) ?hi5 (by kernel_rfl) (by kernel_rfl) (by kernel_rfl) ?hQ5 (by kernel_rfl) (by decide) (by kernel_rfl) (Or.inl ⟨?hg5, ?hy5⟩) (by assumption) ?rest5
          case hi5 => (simp only [List.getElem?_toArray, List.getElem?_cons_zero, List.getElem?_cons_succ]; exact rfl)
          case hQ5 => exact fun _ _ _ h => h
          case hg5 => rfl
          case hy5 => (intro w' hSw; (try dsimp only at hSw); go_simp; try with_reducible rfl)
          try simp only [Act.put, List.setIfInBounds_toArray, List.set_cons_zero, List.set_cons_succ]
          refine wpAnyC_take (i := 6) (oi := ?o6) (v := ?v6) ?hi6 (by kernel_rfl) (by kernel_rfl) (by kernel_rfl) ?hQ6 (by kernel_rfl) (by decide) (by kernel_rfl) (Or.inl ⟨?hg6, ?hy6⟩) (by assumption) ?rest6
          case hi6 => (simp only [List.getElem?_toArray, List.getElem?_cons_zero, List.getElem?_cons_succ]; exact rfl)
          case hQ6 => exact fun _ _ _ h => h
          case hg6 => rfl
          case hy6 => (intro w' hSw; (try dsimp only at hSw); go_simp; try with_reducible rfl)
          try simp only [Act.put, List.setIfInBounds_toArray, List.set_cons_zero, List.set_cons_succ]
          refine wpAnyC_take (i := 7) (oi := ?o7) (v := ?v7) ?hi7 (by kernel_rfl) (by kernel_rfl) (by kernel_rfl) ?hQ7 (by kernel_rfl) (by decide) (by kernel_rfl) (Or.inl ⟨?hg7, ?hy7⟩) (by assumption) ?rest7
          case hi7 => (simp only [List.getElem?_toArray, List.getElem?_cons_zero, List.getElem?_cons_succ]; exact rfl)
          case hQ7 => exact fun _ _ _ h => h
          case hg7 => rfl
          case hy7 => (intro w' hSw; (try dsimp only at hSw); go_simp; try with_reducible rfl)
          try simp only [Act.put, List.setIfInBounds_toArray, List.set_cons_zero, List.set_cons_succ]
          refine wpAnyC_take (i := 8) (oi := ?o8) (v := ?v8) ?hi8 (by kernel_rfl) (by kernel_rfl) (by kernel_rfl) ?hQ8 (by kernel_rfl) (by decide) (by kernel_rfl) (Or.inl ⟨?hg8, ?hy8⟩) (by assumption) ?rest8
          case hi8 => (simp only [List.getElem?_toArray, List.getElem?_cons_zero, List.getElem?_cons_succ]; exact rfl)
          case hQ8 => exact fun _ _ _ h => h
          case hg8 => rfl
          case hy8 => (intro w' hSw; (try dsimp only at hSw); go_simp; try with_reducible rfl)
          try simp only [Act.put, List.setIfInBounds_toArray, List.set_cons_zero, List.set_cons_succ]
          refine wpAnyC_take (i := 9) (oi := ?o9) (v := ?v9) ?hi9 (by kernel_rfl) (by kernel_rfl) (by kernel_rfl) ?hQ9 (by kernel_rfl) (by decide) (by kernel_rfl) (Or.inl ⟨?hg9, ?hy9⟩) (by assumption) ?rest9
          case hi9 => (simp only [List.getElem?_toArray, List.getElem?_cons_zero, List.getElem?_cons_succ]; exact rfl)
          case hQ9 => exact fun _ _ _ h => h
          case hg9 => rfl
          case hy9 => (intro w' hSw; (try dsimp only at hSw); go_simp; try with_reducible rfl)
          try simp only [Act.put, List.setIfInBounds_toArray, List.set_cons_zero, List.set_cons_succ]
          refine wpAnyC_take (i := 10) (oi := ?o10) (v := ?v10) ?hi10 (by kernel_rfl) (by kernel_rfl) (by kernel_rfl) ?hQ10 (by kernel_rfl) (by decide) (by kernel_rfl) (Or.inl ⟨?hg10, ?hy10⟩) (by assumption) ?rest10
          case hi10 => (simp only [List.getElem?_toArray, List.getElem?_cons_zero, List.getElem?_cons_succ]; exact rfl)
          case hQ10 => exact fun _ _ _ h => h
          case hg10 => rfl
          case hy10 => (intro w' hSw; (try dsimp only at hSw); go_simp; try with_reducible rfl)
          try simp only [Act.put, List.setIfInBounds_toArray, List.set_cons_zero, List.set_cons_succ]
          refine wpAnyC_take (i := 11) (oi := ?o11) (v := ?v11) ?hi11 (by kernel_rfl) (by kernel_rfl) (by kernel_rfl) ?hQ11 (by kernel_rfl) (by decide) (by kernel_rfl) (Or.inl ⟨?hg11, ?hy11⟩) (by assumption) ?rest11
          case hi11 => (simp only [List.getElem?_toArray, List.getElem?_cons_zero, List.getElem?_cons_succ]; exact rfl)
          case hQ11 => exact fun _ _ _ h => h
          case hg11 => rfl
          case hy11 => (intro w' hSw; (try dsimp only at hSw); go_simp; try with_reducible rfl)
          try simp only [Act.put, List.setIfInBounds_toArray, List.set_cons_zero, List.set_cons_succ]
          refine wpAnyC_take (i := 12) (oi := ?o12) (v := ?v12) ?hi12 (by kernel_rfl) (by kernel_rfl) (by kernel_rfl) ?hQ12 (by kernel_rfl) (by decide) (by kernel_rfl) (Or.inl ⟨?hg12, ?hy12⟩) (by assumption) ?rest12
          case hi12 => (simp only [List.getElem?_toArray, List.getElem?_cons_zero, List.getElem?_cons_succ]; exact rfl)
          case hQ12 => exact fun _ _ _ h => h
          case hg12 => rfl
          case hy12 => (intro w' hSw; (try dsimp only at hSw); go_simp; try with_reducible rfl)
          try simp only [Act.put, List.setIfInBounds_toArray, List.set_cons_zero, List.set_cons_succ]
          refine wpAnyC_take (i := 13) (oi := ?o13) (v := ?v13) ?hi13 (by kernel_rfl) (by kernel_rfl) (by kernel_rfl) ?hQ13 (by kernel_rfl) (by decide) (by kernel_rfl) (Or.inl ⟨?hg13, ?hy13⟩) (by assumption) ?rest13
          case hi13 => (simp only [List.getElem?_toArray, List.getElem?_cons_zero, List.getElem?_cons_succ]; exact rfl)
          case hQ13 => exact fun _ _ _ h => h
          case hg13 => rfl
          case hy13 => (intro w' hSw; (try dsimp only at hSw); go_simp; try with_reducible rfl)
          try simp only [Act.put, List.setIfInBounds_toArray, List.set_cons_zero, List.set_cons_succ]
          refine wpAnyC_take (i := 15) (oi := ?o14) (v := ?v14) ?hi14 (by kernel_rfl) (by kernel_rfl) (by kernel_rfl) ?hQ14 (by kernel_rfl) (by decide) (by kernel_rfl) (Or.inl ⟨?hg14, ?hy14⟩) (by assumption) ?rest14
          case hi14 => (simp only [List.getElem?_toArray, List.getElem?_cons_zero, List.getElem?_cons_succ]; exact rfl)
          case hQ14 => exact fun _ _ _ h => h
          case hg14 => rfl
          case hy14 => (intro w' hSw; (try dsimp only at hSw); go_simp; try with_reducible rfl)
          try simp only [Act.put, List.setIfInBounds_toArray, List.set_cons_zero, List.set_cons_succ]
          refine wpAnyC_one (i := 5) (oi := ?o15) ?hi15 (by kernel_rfl) ?step15
          case hi15 => (simp only [List.getElem?_toArray, List.getElem?_cons_zero, List.getElem?_cons_succ]; exact rfl)
          intro K' hK
          go_simp
          refine hK.out _ _ ?_ (fun hHeld => ?_)
          · exact fun _ => ⟨q4.out, z2⟩
          clear hK K' hHeld
          try simp only [Act.put, List.setIfInBounds_toArray, List.set_cons_zero, List.set_cons_succ]
          refine wpAnyC_one (i := 14) (oi := ?o16) ?hi16 (by kernel_rfl) ?step16
          case hi16 => (simp only [List.getElem?_toArray, List.getElem?_cons_zero, List.getElem?_cons_succ]; exact rfl)
          intro K' hK
          (refine step_app (by rfl) _ _ (by rfl) (n := 0) (by rfl) (by rfl) (base := wq.heap.size) (xs := []) (OwnB.start wq wq.heap.size (Nat.le_refl _) |>.keep fun _ _ => rfl) (by simp) (by rfl) rfl (ROW.out.bytes.below BA.out) (by have := FB.out; simp; omega) ?_; intro A5 c5 w5 o5 g5; have B5 : Hid (Below wq.heap.size wq w5) := Lib.hid (BA.out.trans g5.below); have O5 : Hid (OwnB w5 wq.heap.size A5 c5 f.zs) := Lib.hid (by simpa using o5); have q5 : Hid (w5.cell? ⟨R, 1, none⟩ = some (.slice (some ⟨g3, 0, none⟩) l3 fc3)) := Lib.hid ((B5.out.cell (p := ⟨R, 1, none⟩) lR1).trans c1); have y5 := (B5.out.cell (p := ⟨g3, k * 3 + 1, none⟩) lg1).trans d2; clear o5 g5)
          refine hK.out _ _ ?_ (fun hHeld => ?_)
          · exact fun _ => ⟨q5.out, y5⟩
          clear hK K' hHeld
          try simp only [Act.put, List.setIfInBounds_toArray, List.set_cons_zero, List.set_cons_succ]
          refine wpAnyC_one (i := 16) (oi := ?o17) ?hi17 (by kernel_rfl) ?step17
          case hi17 => (simp only [List.getElem?_toArray, List.getElem?_cons_zero, List.getElem?_cons_succ]; exact rfl)
          intro K' hK
          (refine step_app (by rfl) _ _ (by rfl) (n := f.zs.length) (by rfl) (by rfl) (base := wq.heap.size) (xs := f.zs) O5.out B5.out.size (by rfl) rfl (BY3.out.below B5.out) (by have := FB.out; have := ZB.out; omega) ?_; intro A6 c6 w6 o6 g6; have B6 : Hid (Below wq.heap.size wq w6) := Lib.hid (B5.out.trans g6.below); have O6 := Lib.hid o6; have q6 : Hid (w6.cell? ⟨R, 1, none⟩ = some (.slice (some ⟨g3, 0, none⟩) l3 fc3)) := Lib.hid ((B6.out.cell (p := ⟨R, 1, none⟩) lR1).trans c1); have y4 : w6.frozen? ⟨g3, k * 3 + 1, none⟩ = false := (by simp only [World.frozen?, B6.out.block g3 lg1]; exact fz1); have y2 := (B6.out.cell (p := ⟨g3, k * 3 + 1, none⟩) lg1).trans d2; have q7 : Hid (∀ v, (w6.setCell ⟨g3, k * 3 + 1, none⟩ v).cell? ⟨R, 1, none⟩ = some (.slice (some ⟨g3, 0, none⟩) l3 fc3)) := Lib.hid (fun v => (World.cell?_of_block (w := w6) (Below.heap_setCell _ _ _ _ ne)).trans q6.out); clear o6 g6)
          refine hK.out _ _ ?_ (fun hHeld => ?_)
          · exact fun _ => ⟨q6.out, y2⟩
          clear hK K' hHeld
          try simp only [Act.put, List.setIfInBounds_toArray, List.set_cons_zero, List.set_cons_succ]
          refine wpAnyC_one (i := 17) (oi := ?o18) ?hi18 (by kernel_rfl) ?step18
          case hi18 => (simp only [List.getElem?_toArray, List.getElem?_cons_zero, List.getElem?_cons_succ]; exact rfl)
          intro K' hK
          go_simp
          refine hK.out _ _ ?_ (fun hHeld => ?_)
          · exact fun _ => ⟨q6.out, y2⟩
          clear hK K' hHeld
          try simp only [Act.put, List.setIfInBounds_toArray, List.set_cons_zero, List.set_cons_succ]
          refine wpAnyC_one (i := 18) (oi := ?o19) ?hi19 (by kernel_rfl) ?step19
          case hi19 => (simp only [List.getElem?_toArray, List.getElem?_cons_zero, List.getElem?_cons_succ]; exact rfl)
          intro K' hK
          go_simp
          refine hK.out _ _ ?_ (fun hHeld => ?_)
          · exact fun _ => ⟨q6.out, y2⟩
          clear hK K' hHeld
          try simp only [Act.put, List.setIfInBounds_toArray, List.set_cons_zero, List.set_cons_succ]
          refine wpAnyC_one (i := 19) (oi := ?o20) ?hi20 (by kernel_rfl) ?step20
          case hi20 => (simp only [List.getElem?_toArray, List.getElem?_cons_zero, List.getElem?_cons_succ]; exact rfl)
          intro K' hK
          go_simp
          refine hK.out _ _ ?_ (fun hHeld => ?_)
          · exact fun h => (by cases h)
          clear hK K' hHeld
          try simp only [Act.put, List.setIfInBounds_toArray, List.set_cons_zero, List.set_cons_succ]
          refine wpAnyC_done (by kernel_rfl) ?_ _
          all_goals
            have P6 := Lib.hid (P3.out.grow B6.out)
            have HB6 := Lib.hid (show ∀ i, own3 i → i < wq.heap.size from P3.out.lt)
            have NW := Lib.hid (P6.out.bytes (k := k) (A := A6) (c := c6) (zs := f.zs ++ zs) HK3.out rfl (by rw [← HF.out, List.length_append]; have := P3.out.rs.inv.sure f (by rw [HF.out]; exact List.getElem_mem HK3.out); omega) (by rw [← HF.out, List.length_append]; have := TB.out; omega) O6.out HB6.out)
            rw [List.length_append] at NW
            go_wp2
            go_ret
            refine ⟨ret_int E1.out.symm, ?_⟩
            rw [E2.out, AP3.out]
            exact RLeaves.trans ST3.out ⟨_, ⟨rf2, rk2, _, _, fc3, ka2, kc2, NW.out, B.out⟩, (Only.of B6.out).trans (Only.set own3 (k * 3 + 1) w6 _ (P3.out.ownF _ rfl)) (fun _ h => .inl h), fun i hi => by
              rcases hi with h1 | ⟨a, ha, rfl⟩
              · exact .inl h1
              · subst ha; exact .inr (OwnB.lt O6.out).1⟩
        · have hc : s.fs.length < 64 := by rw [p2] at hfull; simp at hfull; omega
          rw [E1.out, E2.out]
          exact rapp_loop R own s w h ho sn hsn hE p2 A0 cap0 zs hby hA hf hroom hc
  · have E0 : appE s (bs sn) zs.length = chk s [bs sn] := by unfold appE; rw [if_pos hE]
    have E1 : Hid (actE s (appE s (bs sn) zs.length) = chk s [bs sn]) := Lib.hid (by unfold actE; rw [E0, if_pos hE])
    have E2 : Hid (actS s (appE s (bs sn) zs.length) (appL s (bs sn) zs) = s) := Lib.hid (by unfold actS; rw [E0, if_pos hE])
    rw [E1.out, E2.out]
    clear E0 E1 E2 hby hA h
    generalize chk s [bs sn] = er at *
    have he : (er != 0) = true := by simpa using hE
    go_enter Try.func25, Try.ntmps25
    go_wp2_with fail
    refine LK.out.mono ?_; rintro e w' ⟨rfl, rfl⟩
    go_wp2
    go_ret
    exact ⟨rfl, RLeaves.same H.out (Below.refl _ _)⟩
end Go.Proofs.Ytmahbcpkilegpaa
