/-
  The reference's Append to a file that is not there yet.
-/
import Derived.Test.YtmahbcpkilegpaaStoRefIns
import Derived.Test.YtmahbcpkilegpaaLastOp
namespace Go.Proofs.Ytmahbcpkilegpaa
open Go.RowKit St

set_option maxRecDepth 20000 in
set_option maxHeartbeats 8000000 in
theorem rapp_loop (R : Nat) (own : Nat → Prop) (s : S) (w : World) (h : RState w R own s) (ho : s.off = false) (sn : ByteArray) (hsn : sn.size ≤ 9223372036854775807) (hE : chk s [bs sn] = 0) (hn : find (bs sn) s.fs = none) (A0 : Option Addr) (cap0 : Nat) (zs : List Int) (hby : Bytes w w.heap.size A0 zs) (hA : 0 < zs.length → ∀ a, A0 = some a → ¬ own a.block) (hf : ¬ s.fuse = 1)
    (hroom : zs.length ≤ s.room - total s.fs) (hc : s.fs.length < 64) :
    Calls Try.prog 25 #[.pointer (some ⟨R, 0, none⟩), .string sn, .slice A0 zs.length cap0] w fun e w' => e = .returned (.int .i64 0) ∧ RLeaves w R own { s with fs := appL s (bs sn) zs, fuse := s.fuse - 1 } w' := by
  have H := Lib.hid h
  have BL := Lib.hid (rblown_any R own s w H.out ho)
  rw [if_neg hf, decide_eq_false hf] at BL
  obtain ⟨rf, rk, Ad, fa, fc, ka, kc, p, b⟩ := h
  have LK : Hid (Calls Try.prog 44 #[.pointer (some ⟨R, 0, none⟩), .string sn, .bool false] w fun e w' => e = .returned (.int .i64 0) ∧ w = w') := Lib.hid (by rw [← hE]; exact rlook_bare p.rs sn hsn)
  have FD : Hid (Calls Try.prog 45 #[.pointer (some ⟨R, 0, none⟩), .string sn] w fun e w' => e = .returned (.int .i64 (-1)) ∧ w = w') := Lib.hid (by
    have := rfind_any p.rs sn
    rcases placeV_find (bs sn) s.fs with ⟨k, hk, _, p2⟩ | ⟨p1, _⟩
    · rw [hn] at p2; cases p2
    · rw [p1] at this; exact this)
  have FR := Lib.hid (rfree_any p.rs)
  obtain ⟨⟨_, c1, _, _, _⟩, _⟩ := obj5 p.rs.obj
  have HN := Lib.hid hn
  have HGD : Hid (good (bs sn) = true) := Lib.hid (by have := (chk_zero hE).2; simpa using this)
  have BY := Lib.hid hby
  have HA := Lib.hid hA
  have HC := Lib.hid hc
  have hfree : ¬ ((s.room : Int) - (total s.fs : Nat) < (zs.length : Int)) := by have := H.out.inv.tot; omega
  have hc2 : ¬ (64 : Int) ≤ (s.fs.length : Int) := by omega
  have HRM := Lib.hid hroom
  clear hE hn hf hc ho hsn p b hby hA
  generalize hfr : (s.room : Int) - (total s.fs : Nat) = fr at *
  clear hfr
  obtain ⟨ln, hln⟩ : ∃ ln, ln = s.fs.length := ⟨_, rfl⟩
  rw [← hln] at c1 hc2
  have LN := Lib.hid hln
  clear hln hroom
  go_enter Try.func25, Try.ntmps25
  go_wp2_with fail
  refine LK.out.mono ?_; rintro e w' ⟨rfl, rfl⟩
  go_wp2_with fail
  refine FD.out.mono ?_; rintro e w' ⟨rfl, rfl⟩
  go_wp2_with fail
  refine FR.out.mono ?_; rintro e w' ⟨rfl, rfl⟩
  go_wp2_with fail
  refine BL.out.mono ?_; rintro e w2 ⟨rfl, own2, ⟨rf2, rk2, Ad2, fa2, fc2, ka2, kc2, p2, bb2⟩, st⟩
  clear c1 LK FD BL FR
  have P := Lib.hid p2
  have B := Lib.hid bb2
  have ST := Lib.hid st
  obtain ⟨⟨_, c1, _, _, _⟩, _⟩ := obj5 p2.rs.obj
  replace c1 : w2.cell? ⟨R, 1, none⟩ = some (.slice fa2 s.fs.length fc2) := c1
  rw [← LN.out] at c1
  clear p2 bb2 st
  have hln64 : (ln : Int) ≤ 64 := by have := LN.out; have := HC.out; omega
  go_upto_block 0 with fail
  go_cut [9] from 40 to 60 (fun kv wx => ∃ k : Nat, kv = .int .i64 (k : Int) ∧ Hid (k ≤ ln) ∧ Hid (∀ j (hj : j < s.fs.length), j < k → bytesBefore (s.fs[j]'hj).nm (bs sn) = true) ∧ Hid (∀ hj : k < s.fs.length, ¬ bytesBefore (s.fs[k]'hj).nm (bs sn) = true) ∧ wx = w2)
  case first =>
    go_wp2_with fail
    go_loop [9] (fun i => ∃ k : Nat, k ≤ ln ∧ Hid (∀ j (hj : j < s.fs.length), j < k → bytesBefore (s.fs[j]'hj).nm (bs sn) = true) ∧ i = .int .i64 k) (fun i => ln - (intOf i).toNat)
    case atStart => exact ⟨0, Nat.zero_le _, Lib.hid fun j _ hj => by omega, rfl⟩
    case round =>
      obtain ⟨k, hk0, HB, rfl⟩ := hrel
      by_cases hlt : k < ln
      · have hl : k < s.fs.length := by rw [← LN.out]; exact hlt
        obtain ⟨g2, hg2, d1, d2, d3⟩ := P.out.rs.cell (i := k) hl
        clear d2 d3
        obtain ⟨nm, hnm⟩ : ∃ nm, (s.fs[k]'hl).nm = nm := ⟨_, rfl⟩
        replace d1 : w2.cell? ⟨g2, k * 3, none⟩ = some (.string (mkB nm)) := by rw [← hnm]; exact d1
        have hlt' : (k : Int) < (ln : Int) := by omega
        subst hg2
        cases hb : Op.bytesLess (mkB nm).toList sn.toList with
        | true =>
          have HB2 : Hid (∀ j (hj : j < s.fs.length), j < k + 1 → bytesBefore (s.fs[j]'hj).nm (bs sn) = true) := Lib.hid fun j hj hlt2 => by
            by_cases e : j = k
            · subst e; rw [hnm, ← less_as]; exact hb
            · exact HB.out j hj (by omega)
          clear hnm
          go_wp2
          go_round
          case rel => exact ⟨k + 1, hlt, HB2, by go_num⟩
          case measure => simp [intOf]; omega
        | false =>
          have HX : Hid (∀ hj : k < s.fs.length, ¬ bytesBefore (s.fs[k]'hj).nm (bs sn) = true) := Lib.hid fun hj => by rw [hnm, ← less_as, hb]; simp
          clear hnm
          go_wp2
          go_meet
          exact ⟨k, rfl, Lib.hid hk0, HB, HX, rfl⟩
      · have e : k = ln := by omega
        subst e
        have hge : ¬ (k : Int) < (k : Int) := by omega
        have HX : Hid (∀ hj : k < s.fs.length, ¬ bytesBefore (s.fs[k]'hj).nm (bs sn) = true) := Lib.hid fun hj => by have := LN.out; omega
        go_wp2
        go_meet
        exact ⟨k, rfl, Lib.hid hk0, HB, HX, rfl⟩
  case rest =>
    obtain ⟨k, rfl, HKL, HB, HX, rfl⟩ := hcut
    have SRC := Lib.hid (SrcF.of P.out.rs.files)
    have hcap := ownsRow_capF P.out.rs.files
    have hkl := HKL.out
    have hlen := flat3_len Ad2 s.fs
    have HR3 := Lib.hid (P.out.lt R P.out.ownT)
    have lR : R < wc.heap.size := HR3.out
    have LT : Hid ((flat3 Ad2 (s.fs.take k)).length = k * 3) := Lib.hid (by rw [flat3_len, List.length_take]; have := LN.out; omega)
    have LD : Hid ((flat3 Ad2 (s.fs.drop k)).length = (ln - k) * 3) := Lib.hid (by rw [flat3_len, List.length_drop, LN.out])
    have S1 : Hid (SrcF wc wc.heap.size fa2 (flat3 Ad2 (s.fs.take k))) := Lib.hid (by rw [← flat3_take]; exact SRC.out.head _)
    have S2 : Hid (SrcF wc wc.heap.size (tail3 fa2 fc2 k) (flat3 Ad2 (s.fs.drop k))) := Lib.hid (by rw [← flat3_drop]; exact SRC.out.tail _ _ (by rw [flat3_len]; have : s.fs.length ≤ fc2 := hcap; omega))
    replace hcap : ln ≤ fc2 := by rw [LN.out]; exact hcap
    have hs1 := fun W => slice_toF fa2 ln fc2 k (by omega) .i64 W
    have hs2 := fun W => slice_fromF fa2 ln fc2 k (by omega) .i64 W
    have hk1 : 0 + k ≤ 1000 := by omega
    have hk2 : k + 1 ≤ 1000 := by omega
    have hk3 : k + 1 + (ln - k) ≤ 1000 := by omega
    obtain ⟨n3, hn3⟩ : ∃ n3, k + 1 + (ln - k) = n3 := ⟨_, rfl⟩
    have HN3 := Lib.hid hn3
    clear hn3
    obtain ⟨⟨_, e1, _, _, _⟩, _, f1, _⟩ := obj5 P.out.rs.obj
    replace e1 : wc.cell? ⟨R, 1, none⟩ = some (.slice fa2 ln fc2) := by rw [LN.out]; exact e1
    have FZ : Hid (∀ w', Below wc.heap.size wc w' → w'.frozen? ⟨R, 1, none⟩ = false) := Lib.hid fun w' hb => by
      have := f1; simp only [World.frozen?] at this ⊢; rw [hb.block R lR]; exact this
    have CE : Hid (∀ w', Below wc.heap.size wc w' → w'.cell? ⟨R, 1, none⟩ = some (.slice fa2 ln fc2)) := Lib.hid fun w' hb => (hb.cell (p := ⟨R, 1, none⟩) lR).trans e1
    have BA : Hid (Below wc.heap.size wc (wc.alloc lit0).drew) := Lib.hid (((Below.refl _ _).alloc (Nat.le_refl _) _).drew)
    have BB : Hid (Below wc.heap.size wc (wc.alloc (lit1 (.string sn) (.slice none 0 0) (.int .i64 0))).drew) := Lib.hid (((Below.refl _ _).alloc (Nat.le_refl _) _).drew)
    have BAB : Hid (Below wc.heap.size wc ((wc.alloc lit0).alloc (lit1 (.string sn) (.slice none 0 0) (.int .i64 0))).drew) := Lib.hid ((((Below.refl _ _).alloc (Nat.le_refl _) _).alloc (by simp) _).drew)
    have BBA : Hid (Below wc.heap.size wc ((wc.alloc (lit1 (.string sn) (.slice none 0 0) (.int .i64 0))).alloc lit0).drew) := Lib.hid ((((Below.refl _ _).alloc (Nat.le_refl _) _).alloc (by simp) _).drew)
    have NAB : Hid (((wc.alloc lit0).alloc (lit1 (.string sn) (.slice none 0 0) (.int .i64 0))).drew.heap[wc.heap.size + 1]? = some (lit1 (.string sn) (.slice none 0 0) (.int .i64 0))) := Lib.hid (by
      have := lit_new (wc.alloc lit0) (.string sn) (.slice none 0 0) (.int .i64 0)
      rw [show (wc.alloc lit0).heap.size = wc.heap.size + 1 by simp] at this; exact this)
    have NBA : Hid (((wc.alloc (lit1 (.string sn) (.slice none 0 0) (.int .i64 0))).alloc lit0).drew.heap[wc.heap.size]? = some (lit1 (.string sn) (.slice none 0 0) (.int .i64 0))) := Lib.hid (Eq.trans (Below.heap_alloc _ _ _ (by simp)) (lit_new wc (.string sn) (.slice none 0 0) (.int .i64 0)))
    have y1 := CE.out _ BA.out
    have y2 := CE.out _ BB.out
    have y3 := CE.out _ BAB.out
    have y4 := CE.out _ BBA.out
    simp only [lit0, lit1] at y1 y2 y3 y4
    clear f1 hcap hkl hlen c1
    go_upto_region 13 with fail
    go_cut [9] from 61 to 82 (fun kv wx => ∃ w7 A7 c7, kv = .int .i64 (k : Int) ∧ wx = w7.setCell ⟨R, 1, none⟩ (.slice A7 n3 c7) ∧ Hid (Below wc.heap.size wc w7) ∧ Hid (w7.ownsRow wc.heap.size 76 3 (.slice A7 n3 c7) n3 ([] ++ flat3 Ad2 (s.fs.take k) ++ [.string sn, .slice none 0 0, .int .i64 0] ++ flat3 Ad2 (s.fs.drop k))))
    case first =>
      refine wp_region_C (fun w' => w'.cell? ⟨R, 1, none⟩ = some (.slice fa2 ln fc2)) 22 (by kernel_rfl) ?_
      have hS0 : (fun w' : World => w'.cell? ⟨R, 1, none⟩ = some (.slice fa2 ln fc2)) wc.drew := CE.out _ (Below.refl _ _).drew
      refine wpAnyC_take (i := 0) (oi := ?o41) (v := ?v41) ?hi41 (by kernel_rfl) (by kernel_rfl) (by kernel_rfl) ?hQ41 (by kernel_rfl) (by decide) (by kernel_rfl) (Or.inl ⟨?hg41, ?hy41⟩) (by assumption) ?rest41
      case hi41 => (simp only [List.getElem?_toArray, List.getElem?_cons_zero]; exact rfl)
      case hQ41 => exact fun _ _ _ h => h
      case hg41 => rfl
      case hy41 => (intro w' hSw; (try dsimp only at hSw); go_simp; try with_reducible rfl)
      try simp only [Act.put, List.setIfInBounds_toArray, List.set_cons_zero, List.set_cons_succ]
      refine wpAnyC_take (i := 2) (oi := ?o42) (v := ?v42) ?hi42 (by kernel_rfl) (by kernel_rfl) (by kernel_rfl) ?hQ42 (by kernel_rfl) (by decide) (by kernel_rfl) (Or.inl ⟨?hg42, ?hy42⟩) (by assumption) ?rest42
      case hi42 => (simp only [List.getElem?_toArray, List.getElem?_cons_zero, List.getElem?_cons_succ]; exact rfl)
      case hQ42 => exact fun _ _ _ h => h
      case hg42 => rfl
      case hy42 => (intro w' hSw; (try dsimp only at hSw); go_simp; try with_reducible rfl)
      try simp only [Act.put, List.setIfInBounds_toArray, List.set_cons_zero, List.set_cons_succ]
      refine wpAnyC_take (i := 3) (oi := ?o43) (v := ?v43) ?hi43 (by kernel_rfl) (by kernel_rfl) (by kernel_rfl) ?hQ43 (by kernel_rfl) (by decide) (by kernel_rfl) (Or.inl ⟨?hg43, ?hy43⟩) (by assumption) ?rest43
      case hi43 => (simp only [List.getElem?_toArray, List.getElem?_cons_zero, List.getElem?_cons_succ]; exact rfl)
      case hQ43 => exact fun _ _ _ h => h
      case hg43 => rfl
      case hy43 => (intro w' hSw; (try dsimp only at hSw); go_simp; try with_reducible rfl)
      try simp only [Act.put, List.setIfInBounds_toArray, List.set_cons_zero, List.set_cons_succ]
      refine wpAnyC_take (i := 4) (oi := ?o44) (v := ?v44) ?hi44 (by kernel_rfl) (by kernel_rfl) (by kernel_rfl) ?hQ44 (by kernel_rfl) (by decide) (by kernel_rfl) (Or.inl ⟨?hg44, ?hy44⟩) (by assumption) ?rest44
      case hi44 => (simp only [List.getElem?_toArray, List.getElem?_cons_zero, List.getElem?_cons_succ]; exact rfl)
      case hQ44 => exact fun _ _ _ h => h
      case hg44 => rfl
      case hy44 => (intro w' hSw; (try dsimp only at hSw); go_simp; try with_reducible rfl)
      try simp only [Act.put, List.setIfInBounds_toArray, List.set_cons_zero, List.set_cons_succ]
      refine wpAnyC_take (i := 5) (oi := ?o45) (v := ?v45) ?hi45 (by kernel_rfl) (by kernel_rfl) (by kernel_rfl) ?hQ45 (by kernel_rfl) (by decide) (by kernel_rfl) (Or.inl ⟨?hg45, ?hy45⟩) (by assumption) ?rest45
      case hi45 => (simp only [List.getElem?_toArray, List.getElem?_cons_zero, List.getElem?_cons_succ]; exact rfl)
      case hQ45 => exact fun _ _ _ h => h
      case hg45 => rfl
      case hy45 => (intro w' hSw; (try dsimp only at hSw); go_simp; try with_reducible rfl)
      try simp only [Act.put, List.setIfInBounds_toArray, List.set_cons_zero, List.set_cons_succ]
      refine wpAnyC_take (i := 6) (oi := ?o46) (v := ?v46) ?hi46 (by kernel_rfl) (by kernel_rfl) (by kernel_rfl) ?hQ46 (by kernel_rfl) (by decide) (by kernel_rfl) (Or.inl ⟨?hg46, ?hy46⟩) (by assumption) ?rest46
      case hi46 => (simp only [List.getElem?_toArray, List.getElem?_cons_zero, List.getElem?_cons_succ]; exact rfl)
      case hQ46 => exact fun _ _ _ h => h
      case hg46 => rfl
      case hy46 => (intro w' hSw; (try dsimp only at hSw); go_simp; try with_reducible rfl)
      try simp only [Act.put, List.setIfInBounds_toArray, List.set_cons_zero, List.set_cons_succ]
      refine wpAnyC_take (i := 7) (oi := ?o47) (v := ?v47) ?hi47 (by kernel_rfl) (by kernel_rfl) (by kernel_rfl) ?hQ47 (by kernel_rfl) (by decide) (by kernel_rfl) (Or.inl ⟨?hg47, ?hy47⟩) (by assumption) ?rest47
      case hi47 => (simp only [List.getElem?_toArray, List.getElem?_cons_zero, List.getElem?_cons_succ]; exact rfl)
      case hQ47 => exact fun _ _ _ h => h
      case hg47 => rfl
      case hy47 => (intro w' hSw; (try dsimp only at hSw); go_simp; try with_reducible rfl)
      try simp only [Act.put, List.setIfInBounds_toArray, List.set_cons_zero, List.set_cons_succ]
      refine wpAnyC_take (i := 9) (oi := ?o48) (v := ?v48) ?hi48 (by kernel_rfl) (by kernel_rfl) (by kernel_rfl) ?hQ48 (by kernel_rfl) (by decide) (by kernel_rfl) (Or.inl ⟨?hg48, ?hy48⟩) (by assumption) ?rest48
      case hi48 => (simp only [List.getElem?_toArray, List.getElem?_cons_zero, List.getElem?_cons_succ]; exact rfl)
      case hQ48 => exact fun _ _ _ h => h
      case hg48 => rfl
      case hy48 => (intro w' hSw; (try dsimp only at hSw); go_simp; try with_reducible rfl)
      try simp only [Act.put, List.setIfInBounds_toArray, List.set_cons_zero, List.set_cons_succ]
      refine wpAnyC_take (i := 10) (oi := ?o49) (v := ?v49) ?hi49 (by kernel_rfl) (by kernel_rfl) (by kernel_rfl) ?hQ49 (by kernel_rfl) (by decide) (by kernel_rfl) (Or.inl ⟨?hg49, ?hy49⟩) (by assumption) ?rest49
      case hi49 => (simp only [List.getElem?_toArray, List.getElem?_cons_zero, List.getElem?_cons_succ]; exact rfl)
      case hQ49 => exact fun _ _ _ h => h
      case hg49 => rfl
      case hy49 => (intro w' hSw; (try dsimp only at hSw); go_simp; try with_reducible rfl)
      try simp only [Act.put, List.setIfInBounds_toArray, List.set_cons_zero, List.set_cons_succ]
      refine wpAnyC_take (i := 13) (oi := ?o50) (v := ?v50) ?hi50 (by kernel_rfl) (by kernel_rfl) (by kernel_rfl) ?hQ50 (by kernel_rfl) (by decide) (by kernel_rfl) (Or.inl ⟨?hg50, ?hy50⟩) (by assumption) ?rest50
      case hi50 => (simp only [List.getElem?_toArray, List.getElem?_cons_zero, List.getElem?_cons_succ]; exact rfl)
      case hQ50 => exact fun _ _ _ h => h
      case hg50 => rfl
      case hy50 => (intro w' hSw; (try dsimp only at hSw); go_simp; try with_reducible rfl)
      try simp only [Act.put, List.setIfInBounds_toArray, List.set_cons_zero, List.set_cons_succ]
      refine wpAnyC_take (i := 14) (oi := ?o51) (v := ?v51) ?hi51 (by kernel_rfl) (by kernel_rfl) (by kernel_rfl) ?hQ51 (by kernel_rfl) (by decide) (by kernel_rfl) (Or.inl ⟨?hg51, ?hy51⟩) (by assumption) ?rest51
      case hi51 => (simp only [List.getElem?_toArray, List.getElem?_cons_zero, List.getElem?_cons_succ]; exact rfl)
      case hQ51 => exact fun _ _ _ h => h
      case hg51 => rfl
      case hy51 => (intro w' hSw; (try dsimp only at hSw); go_simp; try with_reducible rfl)
      try simp only [Act.put, List.setIfInBounds_toArray, List.set_cons_zero, List.set_cons_succ]
      refine wpAnyC_take (i := 15) (oi := ?o52) (v := ?v52) ?hi52 (by kernel_rfl) (by kernel_rfl) (by kernel_rfl) ?hQ52 (by kernel_rfl) (by decide) (by kernel_rfl) (Or.inl ⟨?hg52, ?hy52⟩) (by assumption) ?rest52
      case hi52 => (simp only [List.getElem?_toArray, List.getElem?_cons_zero, List.getElem?_cons_succ]; exact rfl)
      case hQ52 => exact fun _ _ _ h => h
      case hg52 => rfl
      case hy52 => (intro w' hSw; (try dsimp only at hSw); go_simp; try with_reducible rfl)
      try simp only [Act.put, List.setIfInBounds_toArray, List.set_cons_zero, List.set_cons_succ]
      refine wpAnyC_take (i := 16) (oi := ?o53) (v := ?v53) ?hi53 (by kernel_rfl) (by kernel_rfl) (by kernel_rfl) ?hQ53 (by kernel_rfl) (by decide) (by kernel_rfl) (Or.inl ⟨?hg53, ?hy53⟩) (by assumption) ?rest53
      case hi53 => (simp only [List.getElem?_toArray, List.getElem?_cons_zero, List.getElem?_cons_succ]; exact rfl)
      case hQ53 => exact fun _ _ _ h => h
      case hg53 => rfl
      case hy53 => (intro w' hSw; (try dsimp only at hSw); go_simp; try with_reducible rfl)
      try simp only [Act.put, List.setIfInBounds_toArray, List.set_cons_zero, List.set_cons_succ]
      refine wpAnyC_take (i := 17) (oi := ?o54) (v := ?v54) ?hi54 (by kernel_rfl) (by kernel_rfl) (by kernel_rfl) ?hQ54 (by kernel_rfl) (by decide) (by kernel_rfl) (Or.inl ⟨?hg54, ?hy54⟩) (by assumption) ?rest54
      case hi54 => (simp only [List.getElem?_toArray, List.getElem?_cons_zero, List.getElem?_cons_succ]; exact rfl)
      case hQ54 => exact fun _ _ _ h => h
      case hg54 => rfl
      case hy54 => (intro w' hSw; (try dsimp only at hSw); go_simp; try with_reducible rfl)
      try simp only [Act.put, List.setIfInBounds_toArray, List.set_cons_zero, List.set_cons_succ]
      refine wpAnyC_take (i := 18) (oi := ?o55) (v := ?v55) ?hi55 (by kernel_rfl) (by kernel_rfl) (by kernel_rfl) ?hQ55 (by kernel_rfl) (by decide) (by kernel_rfl) (Or.inl ⟨?hg55, ?hy55⟩) (by assumption) ?rest55
      case hi55 => (simp only [List.getElem?_toArray, List.getElem?_cons_zero, List.getElem?_cons_succ]; exact rfl)
      case hQ55 => exact fun _ _ _ h => h
      case hg55 => rfl
      case hy55 => (intro w' hSw; (try dsimp only at hSw); go_simp; try with_reducible rfl)
      try simp only [Act.put, List.setIfInBounds_toArray, List.set_cons_zero, List.set_cons_succ]
      refine wpAnyC_two (i := 1) (j := 11) (oi := ?o56) (oj := ?p56) ?hi56 ?hj56 (by kernel_rfl) ?step56 ?more56
      case hi56 => (simp only [List.getElem?_toArray, List.getElem?_cons_zero, List.getElem?_cons_succ]; exact rfl)
      case hj56 => (simp only [List.getElem?_toArray, List.getElem?_cons_zero, List.getElem?_cons_succ]; exact rfl)
      case step56 =>
        intro K' hK
        go_simp
        refine hK.out _ _ ?_ (fun hHeld => ?_)
        · exact fun _ => CE.out _ BA.out
        clear hK K' hHeld
        try simp only [Act.put, List.setIfInBounds_toArray, List.set_cons_zero, List.set_cons_succ]
        refine wpAnyC_two (i := 8) (j := 11) (oi := ?o57) (oj := ?p57) ?hi57 ?hj57 (by kernel_rfl) ?step57 ?more57
        case hi57 => (simp only [List.getElem?_toArray, List.getElem?_cons_zero, List.getElem?_cons_succ]; exact rfl)
        case hj57 => (simp only [List.getElem?_toArray, List.getElem?_cons_zero, List.getElem?_cons_succ]; exact rfl)
        case step57 =>
          intro K' hK
          (refine step_appF (by rfl) _ _ (by rfl) (by rfl) (base := wc.heap.size) (ownsRow_keep (startF wc) (fun _ _ => rfl)) (by simp) (by rfl) (S1.out.below BA.out) LT.out (flat3_one _ _) hk1 (Nat.zero_add k) ?_; intro A5 c5 w5 o5 b5 g5; have B5 := Lib.hid (BA.out.trans b5); have O5 := Lib.hid o5; have y5 := CE.out _ B5.out; have y6 := CE.out _ (B5.out.alloc (B5.out.size) (lit1 (.string sn) (.slice none 0 0) (.int .i64 0))); simp only [lit1] at y6; clear o5 b5 g5)
          refine hK.out _ _ ?_ (fun hHeld => ?_)
          · exact fun _ => CE.out _ B5.out
          clear hK K' hHeld
          try simp only [Act.put, List.setIfInBounds_toArray, List.set_cons_zero, List.set_cons_succ]
          refine wpAnyC_one (i := 11) (oi := ?o58) ?hi58 (by kernel_rfl) ?step58
          case hi58 => (simp only [List.getElem?_toArray, List.getElem?_cons_zero, List.getElem?_cons_succ]; exact rfl)
          intro K' hK
          go_simp
          refine hK.out _ _ ?_ (fun hHeld => ?_)
          · exact fun _ => CE.out _ (B5.out.alloc B5.out.size _)
          clear hK K' hHeld
          try simp only [Act.put, List.setIfInBounds_toArray, List.set_cons_zero, List.set_cons_succ]
          refine wpAnyC_one (i := 12) (oi := ?o59) ?hi59 (by kernel_rfl) ?step59
          case hi59 => (simp only [List.getElem?_toArray, List.getElem?_cons_zero, List.getElem?_cons_succ]; exact rfl)
          intro K' hK
          (refine step_appF (by rfl) _ _ (by rfl) (by rfl) (base := wc.heap.size) (own_alloc O5.out (lit1 (.string sn) (.slice none 0 0) (.int .i64 0))) (by have := B5.out.size; simp; omega) (by rfl) (lit_src (lit_new w5 (.string sn) (.slice none 0 0) (.int .i64 0))) (m := 1) rfl (lit_one _ _ _ rfl rfl rfl) hk2 rfl ?_; intro A6 c6 w6 o6 b6 _; have B6 := Lib.hid ((B5.out.alloc (B5.out.size) (lit1 (.string sn) (.slice none 0 0) (.int .i64 0))).trans b6); have O6 := Lib.hid o6; have y7 := CE.out _ B6.out; clear o6 b6)
          refine hK.out _ _ ?_ (fun hHeld => ?_)
          · exact fun _ => CE.out _ B6.out
          clear hK K' hHeld
          try simp only [Act.put, List.setIfInBounds_toArray, List.set_cons_zero, List.set_cons_succ]
          refine wpAnyC_one (i := 19) (oi := ?o60) ?hi60 (by kernel_rfl) ?step60
          case hi60 => (simp only [List.getElem?_toArray, List.getElem?_cons_zero, List.getElem?_cons_succ]; exact rfl)
          intro K' hK
          (refine step_appF (by rfl) _ _ (by rfl) (by rfl) (base := wc.heap.size) O6.out B6.out.size (by rfl) (S2.out.below B6.out) LD.out (flat3_one _ _) hk3 HN3.out ?_; intro A7 c7 w7 o7 b7 _; have B7 := Lib.hid (B6.out.trans b7); have O7 := Lib.hid o7; have y8 := CE.out _ B7.out; have y9 := FZ.out _ B7.out; clear o7 b7)
          refine hK.out _ _ ?_ (fun hHeld => ?_)
          · exact fun _ => CE.out _ B7.out
          clear hK K' hHeld
          try simp only [Act.put, List.setIfInBounds_toArray, List.set_cons_zero, List.set_cons_succ]
          refine wpAnyC_one (i := 20) (oi := ?o61) ?hi61 (by kernel_rfl) ?step61
          case hi61 => (simp only [List.getElem?_toArray, List.getElem?_cons_zero, List.getElem?_cons_succ]; exact rfl)
          intro K' hK
          go_simp
          refine hK.out _ _ ?_ (fun hHeld => ?_)
          · exact fun _ => CE.out _ B7.out
          clear hK K' hHeld
          try simp only [Act.put, List.setIfInBounds_toArray, List.set_cons_zero, List.set_cons_succ]
          refine wpAnyC_one (i := 21) (oi := ?o62) ?hi62 (by kernel_rfl) ?step62
          case hi62 => (simp only [List.getElem?_toArray, List.getElem?_cons_zero, List.getElem?_cons_succ]; exact rfl)
          intro K' hK
          go_simp
          refine hK.out _ _ ?_ (fun hHeld => ?_)
          · exact fun _ => CE.out _ B7.out
          clear hK K' hHeld
          try simp only [Act.put, List.setIfInBounds_toArray, List.set_cons_zero, List.set_cons_succ]
          refine wpAnyC_one (i := 22) (oi := ?o63) ?hi63 (by kernel_rfl) ?step63
          case hi63 => (simp only [List.getElem?_toArray, List.getElem?_cons_zero, List.getElem?_cons_succ]; exact rfl)
          intro K' hK
          go_simp
          refine hK.out _ _ ?_ (fun hHeld => ?_)
          · exact fun h => (by cases h)
          clear hK K' hHeld
          try simp only [Act.put, List.setIfInBounds_toArray, List.set_cons_zero, List.set_cons_succ]
          refine wpAnyC_done (by kernel_rfl) ?_ _
          all_goals (go_wp2_with fail; go_meet; exact ⟨w7, A7, c7, rfl, rfl, B7, O7⟩)
        case more57 =>
          intro K' hK
          go_simp
          refine hK.out _ _ ?_ (fun hHeld => ?_)
          · exact fun _ => CE.out _ BAB.out
          clear hK K' hHeld
          try simp only [Act.put, List.setIfInBounds_toArray, List.set_cons_zero, List.set_cons_succ]
          refine wpAnyC_one (i := 8) (oi := ?o64) ?hi64 (by kernel_rfl) ?step64
          case hi64 => (simp only [List.getElem?_toArray, List.getElem?_cons_zero, List.getElem?_cons_succ]; exact rfl)
          intro K' hK
          (refine step_appF (by rfl) _ _ (by rfl) (by rfl) (base := wc.heap.size) (start_ab wc (lit1 (.string sn) (.slice none 0 0) (.int .i64 0))) BAB.out.size (by rfl) (S1.out.below BAB.out) LT.out (flat3_one _ _) hk1 (Nat.zero_add k) ?_; intro A5 c5 w5 o5 b5 g5; have B5 := Lib.hid (BAB.out.trans b5); have O5 := Lib.hid o5; have N5 := Lib.hid (lit_grown NAB.out g5 (by omega)); have y5 := CE.out _ B5.out; clear o5 b5 g5)
          refine hK.out _ _ ?_ (fun hHeld => ?_)
          · exact fun _ => CE.out _ B5.out
          clear hK K' hHeld
          try simp only [Act.put, List.setIfInBounds_toArray, List.set_cons_zero, List.set_cons_succ]
          refine wpAnyC_one (i := 12) (oi := ?o65) ?hi65 (by kernel_rfl) ?step65
          case hi65 => (simp only [List.getElem?_toArray, List.getElem?_cons_zero, List.getElem?_cons_succ]; exact rfl)
          intro K' hK
          (refine step_appF (by rfl) _ _ (by rfl) (by rfl) (base := wc.heap.size) O5.out B5.out.size (by rfl) (lit_src N5.out) (m := 1) rfl (lit_one _ _ _ rfl rfl rfl) hk2 rfl ?_; intro A6 c6 w6 o6 b6 _; have B6 := Lib.hid (B5.out.trans b6); have O6 := Lib.hid o6; have y7 := CE.out _ B6.out; clear o6 b6)
          refine hK.out _ _ ?_ (fun hHeld => ?_)
          · exact fun _ => CE.out _ B6.out
          clear hK K' hHeld
          try simp only [Act.put, List.setIfInBounds_toArray, List.set_cons_zero, List.set_cons_succ]
          refine wpAnyC_one (i := 19) (oi := ?o66) ?hi66 (by kernel_rfl) ?step66
          case hi66 => (simp only [List.getElem?_toArray, List.getElem?_cons_zero, List.getElem?_cons_succ]; exact rfl)
          intro K' hK
          (refine step_appF (by rfl) _ _ (by rfl) (by rfl) (base := wc.heap.size) O6.out B6.out.size (by rfl) (S2.out.below B6.out) LD.out (flat3_one _ _) hk3 HN3.out ?_; intro A7 c7 w7 o7 b7 _; have B7 := Lib.hid (B6.out.trans b7); have O7 := Lib.hid o7; have y8 := CE.out _ B7.out; have y9 := FZ.out _ B7.out; clear o7 b7)
          refine hK.out _ _ ?_ (fun hHeld => ?_)
          · exact fun _ => CE.out _ B7.out
          clear hK K' hHeld
          try simp only [Act.put, List.setIfInBounds_toArray, List.set_cons_zero, List.set_cons_succ]
          refine wpAnyC_one (i := 20) (oi := ?o67) ?hi67 (by kernel_rfl) ?step67
          case hi67 => (simp only [List.getElem?_toArray, List.getElem?_cons_zero, List.getElem?_cons_succ]; exact rfl)
          intro K' hK
          go_simp
          refine hK.out _ _ ?_ (fun hHeld => ?_)
          · exact fun _ => CE.out _ B7.out
          clear hK K' hHeld
          try simp only [Act.put, List.setIfInBounds_toArray, List.set_cons_zero, List.set_cons_succ]
          refine wpAnyC_one (i := 21) (oi := ?o68) ?hi68 (by kernel_rfl) ?step68
          case hi68 => (simp only [List.getElem?_toArray, List.getElem?_cons_zero, List.getElem?_cons_succ]; exact rfl)
          intro K' hK
          go_simp
          refine hK.out _ _ ?_ (fun hHeld => ?_)
          · exact fun _ => CE.out _ B7.out
          clear hK K' hHeld
          try simp only [Act.put, List.setIfInBounds_toArray, List.set_cons_zero, List.set_cons_succ]
          refine wpAnyC_one (i := 22) (oi := ?o69) ?hi69 (by kernel_rfl) ?step69
          case hi69 => (simp only [List.getElem?_toArray, List.getElem?_cons_zero, List.getElem?_cons_succ]; exact rfl)
          intro K' hK
          go_simp
          refine hK.out _ _ ?_ (fun hHeld => ?_)
          · exact fun h => (by cases h)
          clear hK K' hHeld
          try simp only [Act.put, List.setIfInBounds_toArray, List.set_cons_zero, List.set_cons_succ]
          refine wpAnyC_done (by kernel_rfl) ?_ _
          all_goals (go_wp2_with fail; go_meet; exact ⟨w7, A7, c7, rfl, rfl, B7, O7⟩)
      case more56 =>
        intro K' hK
        go_simp
        refine hK.out _ _ ?_ (fun hHeld => ?_)
        · exact fun _ => CE.out _ BB.out
        clear hK K' hHeld
        try simp only [Act.put, List.setIfInBounds_toArray, List.set_cons_zero, List.set_cons_succ]
        refine wpAnyC_one (i := 1) (oi := ?o70) ?hi70 (by kernel_rfl) ?step70
        case hi70 => (simp only [List.getElem?_toArray, List.getElem?_cons_zero, List.getElem?_cons_succ]; exact rfl)
        intro K' hK
        go_simp
        refine hK.out _ _ ?_ (fun hHeld => ?_)
        · exact fun _ => CE.out _ BBA.out
        clear hK K' hHeld
        try simp only [Act.put, List.setIfInBounds_toArray, List.set_cons_zero, List.set_cons_succ]
        refine wpAnyC_one (i := 8) (oi := ?o71) ?hi71 (by kernel_rfl) ?step71
        case hi71 => (simp only [List.getElem?_toArray, List.getElem?_cons_zero, List.getElem?_cons_succ]; exact rfl)
        intro K' hK
        (refine step_appF (by rfl) _ _ (by rfl) (by rfl) (base := wc.heap.size) (start_ba wc (lit1 (.string sn) (.slice none 0 0) (.int .i64 0))) BBA.out.size (by rfl) (S1.out.below BBA.out) LT.out (flat3_one _ _) hk1 (Nat.zero_add k) ?_; intro A5 c5 w5 o5 b5 g5; have B5 := Lib.hid (BBA.out.trans b5); have O5 := Lib.hid o5; have N5 := Lib.hid (lit_grown NBA.out g5 (by omega)); have y5 := CE.out _ B5.out; clear o5 b5 g5)
        refine hK.out _ _ ?_ (fun hHeld => ?_)
        · exact fun _ => CE.out _ B5.out
        clear hK K' hHeld
        try simp only [Act.put, List.setIfInBounds_toArray, List.set_cons_zero, List.set_cons_succ]
        refine wpAnyC_one (i := 12) (oi := ?o72) ?hi72 (by kernel_rfl) ?step72
        case hi72 => (simp only [List.getElem?_toArray, List.getElem?_cons_zero, List.getElem?_cons_succ]; exact rfl)
        intro K' hK
        (refine step_appF (by rfl) _ _ (by rfl) (by rfl) (base := wc.heap.size) O5.out B5.out.size (by rfl) (lit_src N5.out) (m := 1) rfl (lit_one _ _ _ rfl rfl rfl) hk2 rfl ?_; intro A6 c6 w6 o6 b6 _; have B6 := Lib.hid (B5.out.trans b6); have O6 := Lib.hid o6; have y7 := CE.out _ B6.out; clear o6 b6)
        refine hK.out _ _ ?_ (fun hHeld => ?_)
        · exact fun _ => CE.out _ B6.out
        clear hK K' hHeld
        try simp only [Act.put, List.setIfInBounds_toArray, List.set_cons_zero, List.set_cons_succ]
        refine wpAnyC_one (i := 19) (oi := ?o73) ?hi73 (by kernel_rfl) ?step73
        case hi73 => (simp only [List.getElem?_toArray, List.getElem?_cons_zero, List.getElem?_cons_succ]; exact rfl)
        intro K' hK
        (refine step_appF (by rfl) _ _ (by rfl) (by rfl) (base := wc.heap.size) O6.out B6.out.size (by rfl) (S2.out.below B6.out) LD.out (flat3_one _ _) hk3 HN3.out ?_; intro A7 c7 w7 o7 b7 _; have B7 := Lib.hid (B6.out.trans b7); have O7 := Lib.hid o7; have y8 := CE.out _ B7.out; have y9 := FZ.out _ B7.out; clear o7 b7)
        refine hK.out _ _ ?_ (fun hHeld => ?_)
        · exact fun _ => CE.out _ B7.out
        clear hK K' hHeld
        try simp only [Act.put, List.setIfInBounds_toArray, List.set_cons_zero, List.set_cons_succ]
        refine wpAnyC_one (i := 20) (oi := ?o74) ?hi74 (by kernel_rfl) ?step74
        case hi74 => (simp only [List.getElem?_toArray, List.getElem?_cons_zero, List.getElem?_cons_succ]; exact rfl)
        intro K' hK
        go_simp
        refine hK.out _ _ ?_ (fun hHeld => ?_)
        · exact fun _ => CE.out _ B7.out
        clear hK K' hHeld
        try simp only [Act.put, List.setIfInBounds_toArray, List.set_cons_zero, List.set_cons_succ]
        refine wpAnyC_one (i := 21) (oi := ?o75) ?hi75 (by kernel_rfl) ?step75
        case hi75 => (simp only [List.getElem?_toArray, List.getElem?_cons_zero, List.getElem?_cons_succ]; exact rfl)
        intro K' hK
        go_simp
        refine hK.out _ _ ?_ (fun hHeld => ?_)
        · exact fun _ => CE.out _ B7.out
        clear hK K' hHeld
        try simp only [Act.put, List.setIfInBounds_toArray, List.set_cons_zero, List.set_cons_succ]
        refine wpAnyC_one (i := 22) (oi := ?o76) ?hi76 (by kernel_rfl) ?step76
        case hi76 => (simp only [List.getElem?_toArray, List.getElem?_cons_zero, List.getElem?_cons_succ]; exact rfl)
        intro K' hK
        go_simp
        refine hK.out _ _ ?_ (fun hHeld => ?_)
        · exact fun h => (by cases h)
        clear hK K' hHeld
        try simp only [Act.put, List.setIfInBounds_toArray, List.set_cons_zero, List.set_cons_succ]
        refine wpAnyC_done (by kernel_rfl) ?_ _
        all_goals (go_wp2_with fail; go_meet; exact ⟨w7, A7, c7, rfl, rfl, B7, O7⟩)
    case rest =>
      obtain ⟨w7, A7, c7, rfl, rfl, B7, O7⟩ := hcut
      have FL : Hid (ins (newF (bs sn)) s.fs = s.fs.take k ++ newF (bs sn) :: s.fs.drop k) := Lib.hid (ins_at H.out.inv.sorted (f := newF (bs sn)) HN.out (by have := HKL.out; rw [LN.out] at this; exact this) HB.out HX.out)
      have FN : Hid (∀ f ∈ s.fs, f.nm ≠ bs sn) := Lib.hid (St.find_none HN.out)
      have FM : Hid (∀ f ∈ ins (newF (bs sn)) s.fs, f = newF (bs sn) ∨ (f ∈ s.fs ∧ f.nm ≠ bs sn)) := Lib.hid fun f hf => by
        rcases mem_ins.1 hf with h1 | h1
        · exact .inl h1
        · exact .inr ⟨h1, FN.out f h1⟩
      have IV : Hid (Inv { s with fs := ins (newF (bs sn)) s.fs, fuse := s.fuse - 1 }) := Lib.hid (by
        have := inv_new P.out.rs.inv (nm := bs sn) HGD.out HN.out HC.out
        exact this)
      have NR := P.out.newrow (w6 := w7) (l := ins (newF (bs sn)) s.fs) (Ad' := turnAd Ad2 (bs sn) (none, 0)) (A6 := A7) (n6 := n3) (c6 := c7) B7.out
        (by rw [← HN3.out, length_ins, LN.out]; have := HKL.out; rw [LN.out] at this; omega)
        (by
          have h1 := O7.out
          rw [FL.out, flat3_app, flat3_cons]
          rw [flat3_turn Ad2 _ _ _ fun g hg => FN.out g (List.mem_of_mem_take hg), flat3_turn Ad2 _ _ _ fun g hg => FN.out g (List.mem_of_mem_drop hg)]
          rw [show newF (bs sn) = ⟨bs sn, [], 0⟩ from rfl]
          rw [show (turnAd Ad2 (bs sn) (none, 0)) (F.mk (bs sn) [] 0).nm = (none, 0) from turnAd_at _ _ _, mkB_bs]
          simpa using h1)
        IV.out
        (fun f hf => by
          rcases FM.out f hf with rfl | ⟨h1, h2⟩
          · exact .inr ⟨rfl, turnAd_at _ _ _⟩
          · exact .inl ⟨f, h1, rfl, turnAd_ne _ _ h2⟩)
        (fun f hf g hg hne a b ha hb => by
          rcases FM.out f hf with rfl | ⟨h1, h2⟩
          · rw [show (newF (bs sn)).nm = bs sn from rfl, turnAd_at] at ha; cases ha
          · rcases FM.out g hg with rfl | ⟨h3, h4⟩
            · rw [show (newF (bs sn)).nm = bs sn from rfl, turnAd_at] at hb; cases hb
            · rw [turnAd_ne _ _ h2] at ha
              rw [turnAd_ne _ _ h4] at hb
              exact P.out.apart f h1 g h3 hne a b ha hb)
      have HAc : Hid (∀ a, 0 < zs.length → A0 = some a → ¬ own2 a.block ∧ a.block < w.heap.size) := Lib.hid fun a hp ha => by
        obtain ⟨b, off, e, hlt, _⟩ := BY.out.2 hp
        rw [ha] at e
        injection e with e
        subst e
        exact ⟨fun ho => by rcases ST.out.sub _ ho with h1 | h1; exact HA.out hp _ ha h1; exact absurd hlt (by simpa using h1), hlt⟩
      have BYc := Lib.hid (bytes_only BY.out (Nat.le_refl _) ST.out.only HA.out)
      have BY3 := Lib.hid (bytes_only BYc.out (Nat.le_refl _) NR.2.1.only (fun hp a ha => (HAc.out a hp ha).1))
      have P3' := NR.1
      have ST3 := Lib.hid (ST.out.trans NR.2.1)
      have KI : k < (ins (newF (bs sn)) s.fs).length := by rw [length_ins]; have := HKL.out; have := LN.out; omega
      have KE : Hid ((ins (newF (bs sn)) s.fs)[k]? = some (newF (bs sn))) := Lib.hid (by
        rw [FL.out, List.getElem?_append_right (by rw [List.length_take]; omega), List.length_take, Nat.min_eq_left (by have := HKL.out; have := LN.out; omega)]; simp)
      have AP : Hid (appL s (bs sn) zs = (ins (newF (bs sn)) s.fs).set k { nm := bs sn, zs := [] ++ zs, sure := 0 }) := Lib.hid (by
        have h1 : (ins (newF (bs sn)) s.fs)[k]'KI = newF (bs sn) := by have := KE.out; rw [List.getElem?_eq_getElem KI] at this; exact Option.some.inj this
        have h2 := app_at (s := { s with fs := ins (newF (bs sn)) s.fs, fuse := s.fuse - 1 }) (nm := bs sn) IV.out (k := k) KI (by rw [h1]; exact find_new H.out.inv.sorted HN.out) zs
        rw [app_new H.out.inv.sorted HN.out]
        rw [h1] at h2
        exact h2)
      have TB : Hid (total (ins (newF (bs sn)) s.fs) + zs.length ≤ s.room) := Lib.hid (by rw [total_ins]; have := HRM.out; have := H.out.inv.tot; show 0 + total s.fs + zs.length ≤ s.room; omega)
      have ZB : Hid (zs.length ≤ 16777216) := Lib.hid (by have := HRM.out; have := H.out.inv.room; omega)
      clear NR FL FM IV O7 B7 SRC
      obtain ⟨s3, hs3⟩ : ∃ s3 : S, s3 = { s with fs := ins (newF (bs sn)) s.fs, fuse := s.fuse - 1 } := ⟨_, rfl⟩
      have E3 : Hid ({ s with fs := appL s (bs sn) zs, fuse := s.fuse - 1 } = { s3 with fs := s3.fs.set k { (newF (bs sn)) with zs := [] ++ zs } }) := Lib.hid (by rw [hs3, AP.out]; rfl)
      have HK3 : Hid (k < s3.fs.length) := Lib.hid (by rw [hs3]; exact KI)
      have HFN : Hid (∀ h : k < s3.fs.length, s3.fs[k]'h = newF (bs sn)) := Lib.hid (fun h => by
        have := KE.out
        rw [← show s3.fs = ins (newF (bs sn)) s.fs by rw [hs3], List.getElem?_eq_getElem h] at this; exact Option.some.inj this)
      replace TB : Hid (total s3.fs + zs.length ≤ s3.room) := Lib.hid (by rw [hs3]; exact TB.out)
      have P3 : Hid (RP (w7.setCell ⟨R, 1, none⟩ (.slice A7 n3 c7)) R (fun j => own2 j ∨ ∃ a, A7 = some a ∧ j = a.block) s3 rf2 rk2 (turnAd Ad2 (bs sn) (none, 0)) A7 c7 ka2 kc2) := Lib.hid (by rw [hs3]; exact P3')
      clear P3' hs3
      generalize hwq : w7.setCell ⟨R, 1, none⟩ (.slice A7 n3 c7) = wq at *
      generalize hown3 : (fun j => own2 j ∨ ∃ a, A7 = some a ∧ j = a.block) = own3 at *
      generalize hAd3 : turnAd Ad2 (bs sn) (none, 0) = Ad3 at *
      clear hwq hown3 hAd3
      obtain ⟨fa3, hfa3⟩ : ∃ fa3, fa3 = A7 := ⟨_, rfl⟩
      obtain ⟨fc3, hfc3⟩ : ∃ fc3, fc3 = c7 := ⟨_, rfl⟩
      rw [← hfa3, ← hfc3] at P3
      clear hfa3 hfc3
      obtain ⟨g3, hg3, d1, d2, d3⟩ := P3.out.rs.cell (i := k) HK3.out
      clear d1 d3
      obtain ⟨⟨_, c1, _, _, _⟩, _⟩ := obj5 P3.out.rs.obj
      have hfl := P3.out.rs.files
      rw [hg3] at hfl
      obtain ⟨cur, hb⟩ := ownsRow_block hfl
      replace hb : wq.heap[g3]? = some (.cells cur 76 (0, 0)) := hb
      have fz1 : wq.frozen? ⟨g3, k * 3 + 1, none⟩ = false := by simp [World.frozen?, hb]
      obtain ⟨f, HF⟩ : ∃ f, Hid (f = s3.fs[k]'HK3.out) := ⟨_, Lib.hid rfl⟩
      have AP3 : Hid ({ s with fs := appL s (bs sn) zs, fuse := s.fuse - 1 } = { s3 with fs := s3.fs.set k { (s3.fs[k]'HK3.out) with zs := f.zs ++ zs } }) := Lib.hid (by rw [E3.out, HF.out, HFN.out HK3.out]; rfl)
      replace d2 : wq.cell? ⟨g3, k * 3 + 1, none⟩ = some (.slice (Ad3 f.nm).1 f.zs.length (Ad3 f.nm).2) := by rw [HF.out]; exact d2
      replace c1 : wq.cell? ⟨R, 1, none⟩ = some (.slice fa3 s3.fs.length fc3) := c1
      have ne : R ≠ g3 := fun e => (P3.out.files_ne hg3).1 e.symm
      have ROW : Hid (OwnB wq 0 (Ad3 f.nm).1 (Ad3 f.nm).2 f.zs) := Lib.hid (P3.out.rs.rows f (by rw [HF.out]; exact List.getElem_mem HK3.out))
      have hlk : (k : Int) < (s3.fs.length : Int) := by have := HK3.out; omega
      have hlk0 : 0 ≤ (k : Int) := by omega
      obtain ⟨l3, hl3⟩ : ∃ l3, l3 = s3.fs.length := ⟨_, rfl⟩
      rw [← hl3] at c1 hlk
      have HL3 := Lib.hid hl3
      clear hl3 hfl hb
      have HG3 := Lib.hid hg3
      subst hg3
      have lg1 : g3 < wq.heap.size := P3.out.lt _ (P3.out.ownF _ rfl)
      have lR1 : R < wq.heap.size := P3.out.lt _ P3.out.ownT
      have BA : Hid (Below wq.heap.size wq (wq.alloc (.cells #[] 5)).drew) := Lib.hid (((Below.refl _ _).alloc (Nat.le_refl _) (.cells #[] 5)).drew)
      have q4 : Hid ((wq.alloc (.cells #[] 5)).drew.cell? ⟨R, 1, none⟩ = some (.slice (some ⟨g3, 0, none⟩) l3 fc3)) := Lib.hid ((BA.out.cell (p := ⟨R, 1, none⟩) lR1).trans c1)
      have z2 : (wq.alloc (.cells #[] 5)).drew.cell? ⟨g3, k * 3 + 1, none⟩ = some (.slice (Ad3 f.nm).1 f.zs.length (Ad3 f.nm).2) := (BA.out.cell (p := ⟨g3, k * 3 + 1, none⟩) lg1).trans d2
      have FB := Lib.hid (show f.zs.length ≤ 16777216 by
        have h1 := total_mem (List.getElem_mem HK3.out); rw [← HF.out] at h1; have h2 := P3.out.rs.inv.tot; have h3 := P3.out.rs.inv.room; omega)
      go_upto_region 15 with fail
      refine wp_region_C (fun w' => w'.cell? ⟨R, 1, none⟩ = some (.slice (some ⟨g3, 0, none⟩) l3 fc3) ∧ w'.cell? ⟨g3, k * 3 + 1, none⟩ = some (.slice (Ad3 f.nm).1 f.zs.length (Ad3 f.nm).2)) 19 (by kernel_rfl) ?_
      have hS0 : (fun w' : World => w'.cell? ⟨R, 1, none⟩ = some (.slice (some ⟨g3, 0, none⟩) l3 fc3) ∧ w'.cell? ⟨g3, k * 3 + 1, none⟩ = some (.slice (Ad3 f.nm).1 f.zs.length (Ad3 f.nm).2)) wq.drew := ⟨c1, d2⟩
      refine wpAnyC_take (i := 0) (oi := ?o21) (v := ?v21) ?hi21 (by kernel_rfl) (by kernel_rfl) (by kernel_rfl) ?hQ21 (by kernel_rfl) (by decide) (by kernel_rfl) (Or.inl ⟨?hg21, ?hy21⟩) (by assumption) ?rest21
      case hi21 => (simp only [List.getElem?_toArray, List.getElem?_cons_zero]; exact rfl)
      case hQ21 => exact fun _ _ _ h => h
      case hg21 => rfl
      case hy21 => (intro w' hSw; (try dsimp only at hSw); go_simp; try with_reducible rfl)
      try simp only [Act.put, List.setIfInBounds_toArray, List.set_cons_zero, List.set_cons_succ]
      refine wpAnyC_take (i := 1) (oi := ?o22) (v := ?v22) ?hi22 (by kernel_rfl) (by kernel_rfl) (by kernel_rfl) ?hQ22 (by kernel_rfl) (by decide) (by kernel_rfl) (Or.inl ⟨?hg22, ?hy22⟩) (by assumption) ?rest22
      case hi22 => (simp only [List.getElem?_toArray, List.getElem?_cons_zero, List.getElem?_cons_succ]; exact rfl)
      case hQ22 => exact fun _ _ _ h => h
      case hg22 => rfl
      case hy22 => (intro w' hSw; (try dsimp only at hSw); go_simp; try with_reducible rfl)
      try simp only [Act.put, List.setIfInBounds_toArray, List.set_cons_zero, List.set_cons_succ]
      refine wpAnyC_take (i := 2) (oi := ?o23) (v := ?v23) ?hi23 (by kernel_rfl) (by kernel_rfl) (by kernel_rfl) ?hQ23 (by kernel_rfl) (by decide) (by kernel_rfl) (Or.inl ⟨?hg23, ?hy23⟩) (by assumption) ?rest23
      case hi23 => (simp only [List.getElem?_toArray, List.getElem?_cons_zero, List.getElem?_cons_succ]; exact rfl)
      case hQ23 => exact fun _ _ _ h => h
      case hg23 => rfl
      case hy23 => (intro w' hSw; (try dsimp only at hSw); go_simp; try with_reducible rfl)
      try simp only [Act.put, List.setIfInBounds_toArray, List.set_cons_zero, List.set_cons_succ]
      refine wpAnyC_take (i := 3) (oi := ?o24) (v := ?v24) ?hi24 (by kernel_rfl) (by kernel_rfl) (by kernel_rfl) ?hQ24 (by kernel_rfl) (by decide) (by kernel_rfl) (Or.inl ⟨?hg24, ?hy24⟩) (by assumption) ?rest24
      case hi24 => (simp only [List.getElem?_toArray, List.getElem?_cons_zero, List.getElem?_cons_succ]; exact rfl)
      case hQ24 => exact fun _ _ _ h => h
      case hg24 => rfl
      case hy24 => (intro w' hSw; (try dsimp only at hSw); go_simp; try with_reducible rfl)
      try simp only [Act.put, List.setIfInBounds_toArray, List.set_cons_zero, List.set_cons_succ]
      refine wpAnyC_take (i := 4) (oi := ?o25) (v := ?v25) ?hi25 (by kernel_rfl) (by kernel_rfl) (by kernel_rfl) ?hQ25 (by kernel_rfl) (by decide) (by kernel_rfl) (Or.inl ⟨?hg25, ?hy25⟩) (by assumption) ?rest25
      case hi25 => (simp only [List.getElem?_toArray, List.getElem?_cons_zero, List.getElem?_cons_succ]; exact rfl)
      case hQ25 => exact fun _ _ _ h => h
      case hg25 => rfl
      case hy25 => (intro w' hSw; (try dsimp only at hSw); go_simp; try with_reducible rfl)
      try simp only [Act.put, List.setIfInBounds_toArray, List.set_cons_zero, List.set_cons_succ]
      refine wpAnyC_take (i := 6) (oi := ?o26) (v := ?v26) ?hi26 (by kernel_rfl) (by kernel_rfl) (by kernel_rfl) ?hQ26 (by kernel_rfl) (by decide) (by kernel_rfl) (Or.inl ⟨?hg26, ?hy26⟩) (by assumption) ?rest26
      case hi26 => (simp only [List.getElem?_toArray, List.getElem?_cons_zero, List.getElem?_cons_succ]; exact rfl)
      case hQ26 => exact fun _ _ _ h => h
      case hg26 => rfl
      case hy26 => (intro w' hSw; (try dsimp only at hSw); go_simp; try with_reducible rfl)
      try simp only [Act.put, List.setIfInBounds_toArray, List.set_cons_zero, List.set_cons_succ]
      refine wpAnyC_take (i := 7) (oi := ?o27) (v := ?v27) ?hi27 (by kernel_rfl) (by kernel_rfl) (by kernel_rfl) ?hQ27 (by kernel_rfl) (by decide) (by kernel_rfl) (Or.inl ⟨?hg27, ?hy27⟩) (by assumption) ?rest27
      case hi27 => (simp only [List.getElem?_toArray, List.getElem?_cons_zero, List.getElem?_cons_succ]; exact rfl)
      case hQ27 => exact fun _ _ _ h => h
      case hg27 => rfl
      case hy27 => (intro w' hSw; (try dsimp only at hSw); go_simp; try with_reducible rfl)
      try simp only [Act.put, List.setIfInBounds_toArray, List.set_cons_zero, List.set_cons_succ]
      refine wpAnyC_take (i := 8) (oi := ?o28) (v := ?v28) ?hi28 (by kernel_rfl) (by kernel_rfl) (by kernel_rfl) ?hQ28 (by kernel_rfl) (by decide) (by kernel_rfl) (Or.inl ⟨?hg28, ?hy28⟩) (by assumption) ?rest28
      case hi28 => (simp only [List.getElem?_toArray, List.getElem?_cons_zero, List.getElem?_cons_succ]; exact rfl)
      case hQ28 => exact fun _ _ _ h => h
      case hg28 => rfl
      case hy28 => (intro w' hSw; (try dsimp only at hSw); go_simp; try with_reducible rfl)
      try simp only [Act.put, List.setIfInBounds_toArray, List.set_cons_zero, List.set_cons_succ]
      refine wpAnyC_take (i := 9) (oi := ?o29) (v := ?v29) ?hi29 (by kernel_rfl) (by kernel_rfl) (by kernel_rfl) ?hQ29 (by kernel_rfl) (by decide) (by kernel_rfl) (Or.inl ⟨?hg29, ?hy29⟩) (by assumption) ?rest29
      case hi29 => (simp only [List.getElem?_toArray, List.getElem?_cons_zero, List.getElem?_cons_succ]; exact rfl)
      case hQ29 => exact fun _ _ _ h => h
      case hg29 => rfl
      case hy29 => (intro w' hSw; (try dsimp only at hSw); go_simp; try with_reducible rfl)
      try simp only [Act.put, List.setIfInBounds_toArray, List.set_cons_zero, List.set_cons_succ]
      refine wpAnyC_take (i := 10) (oi := ?o30) (v := ?v30) ?hi30 (by kernel_rfl) (by kernel_rfl) (by kernel_rfl) ?hQ30 (by kernel_rfl) (by decide) (by kernel_rfl) (Or.inl ⟨?hg30, ?hy30⟩) (by assumption) ?rest30
      case hi30 => (simp only [List.getElem?_toArray, List.getElem?_cons_zero, List.getElem?_cons_succ]; exact rfl)
      case hQ30 => exact fun _ _ _ h => h
      case hg30 => rfl
      case hy30 => (intro w' hSw; (try dsimp only at hSw); go_simp; try with_reducible rfl)
      try simp only [Act.put, List.setIfInBounds_toArray, List.set_cons_zero, List.set_cons_succ]
      refine wpAnyC_take (i := 11) (oi := ?o31) (v := ?v31) ?hi31 (by kernel_rfl) (by kernel_rfl) (by kernel_rfl) ?hQ31 (by kernel_rfl) (by decide) (by kernel_rfl) (Or.inl ⟨?hg31, ?hy31⟩) (by assumption) ?rest31
      case hi31 => (simp only [List.getElem?_toArray, List.getElem?_cons_zero, List.getElem?_cons_succ]; exact rfl)
      case hQ31 => exact fun _ _ _ h => h
      case hg31 => rfl
      case hy31 => (intro w' hSw; (try dsimp only at hSw); go_simp; try with_reducible rfl)
      try simp only [Act.put, List.setIfInBounds_toArray, List.set_cons_zero, List.set_cons_succ]
      refine wpAnyC_take (i := 12) (oi := ?o32) (v := ?v32) ?hi32 (by kernel_rfl) (by kernel_rfl) (by kernel_rfl) ?hQ32 (by kernel_rfl) (by decide) (by kernel_rfl) (Or.inl ⟨?hg32, ?hy32⟩) (by assumption) ?rest32
      case hi32 => (simp only [List.getElem?_toArray, List.getElem?_cons_zero, List.getElem?_cons_succ]; exact rfl)
      case hQ32 => exact fun _ _ _ h => h
      case hg32 => rfl
      case hy32 => (intro w' hSw; (try dsimp only at hSw); go_simp; try with_reducible rfl)
      try simp only [Act.put, List.setIfInBounds_toArray, List.set_cons_zero, List.set_cons_succ]
      refine wpAnyC_take (i := 13) (oi := ?o33) (v := ?v33) ?hi33 (by kernel_rfl) (by kernel_rfl) (by kernel_rfl) ?hQ33 (by kernel_rfl) (by decide) (by kernel_rfl) (Or.inl ⟨?hg33, ?hy33⟩) (by assumption) ?rest33
      case hi33 => (simp only [List.getElem?_toArray, List.getElem?_cons_zero, List.getElem?_cons_succ]; exact rfl)
      case hQ33 => exact fun _ _ _ h => h
      case hg33 => rfl
      case hy33 => (intro w' hSw; (try dsimp only at hSw); go_simp; try with_reducible rfl)
      try simp only [Act.put, List.setIfInBounds_toArray, List.set_cons_zero, List.set_cons_succ]
      refine wpAnyC_take (i := 15) (oi := ?o34) (v := ?v34) ?hi34 (by kernel_rfl) (by kernel_rfl) (by kernel_rfl) ?hQ34 (by kernel_rfl) (by decide) (by kernel_rfl) (Or.inl ⟨?hg34, ?hy34⟩) (by assumption) ?rest34
      case hi34 => (simp only [List.getElem?_toArray, List.getElem?_cons_zero, List.getElem?_cons_succ]; exact rfl)
      case hQ34 => exact fun _ _ _ h => h
      case hg34 => rfl
      case hy34 => (intro w' hSw; (try dsimp only at hSw); go_simp; try with_reducible rfl)
      try simp only [Act.put, List.setIfInBounds_toArray, List.set_cons_zero, List.set_cons_succ]
      refine wpAnyC_one (i := 5) (oi := ?o35) ?hi35 (by kernel_rfl) ?step35
      case hi35 => (simp only [List.getElem?_toArray, List.getElem?_cons_zero, List.getElem?_cons_succ]; exact rfl)
      intro K' hK
      go_simp
      refine hK.out _ _ ?_ (fun hHeld => ?_)
      · exact fun _ => ⟨q4.out, z2⟩
      clear hK K' hHeld
      try simp only [Act.put, List.setIfInBounds_toArray, List.set_cons_zero, List.set_cons_succ]
      refine wpAnyC_one (i := 14) (oi := ?o36) ?hi36 (by kernel_rfl) ?step36
      case hi36 => (simp only [List.getElem?_toArray, List.getElem?_cons_zero, List.getElem?_cons_succ]; exact rfl)
      intro K' hK
      (refine step_app (by rfl) _ _ (by rfl) (n := 0) (by rfl) (by rfl) (base := wq.heap.size) (xs := []) (OwnB.start wq wq.heap.size (Nat.le_refl _) |>.keep fun _ _ => rfl) (by simp) (by rfl) rfl (ROW.out.bytes.below BA.out) (by have := FB.out; simp; omega) ?_; intro A5 c5 w5 o5 g5; have B5 : Hid (Below wq.heap.size wq w5) := Lib.hid (BA.out.trans g5.below); have O5 : Hid (OwnB w5 wq.heap.size A5 c5 f.zs) := Lib.hid (by simpa using o5); have q5 : Hid (w5.cell? ⟨R, 1, none⟩ = some (.slice (some ⟨g3, 0, none⟩) l3 fc3)) := Lib.hid ((B5.out.cell (p := ⟨R, 1, none⟩) lR1).trans c1); have y5 := (B5.out.cell (p := ⟨g3, k * 3 + 1, none⟩) lg1).trans d2; clear o5 g5)
      refine hK.out _ _ ?_ (fun hHeld => ?_)
      · exact fun _ => ⟨q5.out, y5⟩
      clear hK K' hHeld
      try simp only [Act.put, List.setIfInBounds_toArray, List.set_cons_zero, List.set_cons_succ]
      refine wpAnyC_one (i := 16) (oi := ?o37) ?hi37 (by kernel_rfl) ?step37
      case hi37 => (simp only [List.getElem?_toArray, List.getElem?_cons_zero, List.getElem?_cons_succ]; exact rfl)
      intro K' hK
      (refine step_app (by rfl) _ _ (by rfl) (n := f.zs.length) (by rfl) (by rfl) (base := wq.heap.size) (xs := f.zs) O5.out B5.out.size (by rfl) rfl (BY3.out.below B5.out) (by have := FB.out; have := ZB.out; omega) ?_; intro A6 c6 w6 o6 g6; have B6 : Hid (Below wq.heap.size wq w6) := Lib.hid (B5.out.trans g6.below); have O6 := Lib.hid o6; have q6 : Hid (w6.cell? ⟨R, 1, none⟩ = some (.slice (some ⟨g3, 0, none⟩) l3 fc3)) := Lib.hid ((B6.out.cell (p := ⟨R, 1, none⟩) lR1).trans c1); have y4 : w6.frozen? ⟨g3, k * 3 + 1, none⟩ = false := (by simp only [World.frozen?, B6.out.block g3 lg1]; exact fz1); have y2 := (B6.out.cell (p := ⟨g3, k * 3 + 1, none⟩) lg1).trans d2; have q7 : Hid (∀ v, (w6.setCell ⟨g3, k * 3 + 1, none⟩ v).cell? ⟨R, 1, none⟩ = some (.slice (some ⟨g3, 0, none⟩) l3 fc3)) := Lib.hid (fun v => (World.cell?_of_block (w := w6) (Below.heap_setCell _ _ _ _ ne)).trans q6.out); clear o6 g6)
      refine hK.out _ _ ?_ (fun hHeld => ?_)
      · exact fun _ => ⟨q6.out, y2⟩
      clear hK K' hHeld
      try simp only [Act.put, List.setIfInBounds_toArray, List.set_cons_zero, List.set_cons_succ]
      refine wpAnyC_one (i := 17) (oi := ?o38) ?hi38 (by kernel_rfl) ?step38
      case hi38 => (simp only [List.getElem?_toArray, List.getElem?_cons_zero, List.getElem?_cons_succ]; exact rfl)
      intro K' hK
      go_simp
      refine hK.out _ _ ?_ (fun hHeld => ?_)
      · exact fun _ => ⟨q6.out, y2⟩
      clear hK K' hHeld
      try simp only [Act.put, List.setIfInBounds_toArray, List.set_cons_zero, List.set_cons_succ]
      refine wpAnyC_one (i := 18) (oi := ?o39) ?hi39 (by kernel_rfl) ?step39
      case hi39 => (simp only [List.getElem?_toArray, List.getElem?_cons_zero, List.getElem?_cons_succ]; exact rfl)
      intro K' hK
      go_simp
      refine hK.out _ _ ?_ (fun hHeld => ?_)
      · exact fun _ => ⟨q6.out, y2⟩
      clear hK K' hHeld
      try simp only [Act.put, List.setIfInBounds_toArray, List.set_cons_zero, List.set_cons_succ]
      refine wpAnyC_one (i := 19) (oi := ?o40) ?hi40 (by kernel_rfl) ?step40
      case hi40 => (simp only [List.getElem?_toArray, List.getElem?_cons_zero, List.getElem?_cons_succ]; exact rfl)
      intro K' hK
      go_simp
      refine hK.out _ _ ?_ (fun hHeld => ?_)
      · exact fun h => (by cases h)
      clear hK K' hHeld
      try simp only [Act.put, List.setIfInBounds_toArray, List.set_cons_zero, List.set_cons_succ]
      refine wpAnyC_done (by kernel_rfl) ?_ _
      all_goals
        have P6 := Lib.hid (P3.out.grow B6.out)
        have HB6 := Lib.hid (show ∀ i, own3 i → i < wq.heap.size from P3.out.lt)
        have NW := Lib.hid (P6.out.bytes (k := k) (A := A6) (c := c6) (zs := f.zs ++ zs) HK3.out rfl (by rw [← HF.out, List.length_append]; have := P3.out.rs.inv.sure f (by rw [HF.out]; exact List.getElem_mem HK3.out); omega) (by rw [← HF.out, List.length_append]; have := TB.out; omega) O6.out HB6.out)
        rw [List.length_append] at NW
        go_wp2
        go_ret
        refine ⟨rfl, ?_⟩
        rw [AP3.out]
        exact RLeaves.trans ST3.out ⟨_, ⟨rf2, rk2, _, _, fc3, ka2, kc2, NW.out, B.out⟩, (Only.of B6.out).trans (Only.set own3 (k * 3 + 1) w6 _ (P3.out.ownF _ rfl)) (fun _ h => .inl h), fun i hi => by
          rcases hi with h1 | ⟨a, ha, rfl⟩
          · exact .inl h1
          · subst ha; exact .inr (OwnB.lt O6.out).1⟩
end Go.Proofs.Ytmahbcpkilegpaa
