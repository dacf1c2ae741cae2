/-
  The reference's Sync.
-/
import Derived.Test.YtmahbcpkilegpaaStoRefBlow
namespace Go.Proofs.Ytmahbcpkilegpaa
open Go.RowKit St

theorem del_del (nm : List UInt8) (l : List F) : del nm (del nm l) = del nm l := by unfold del; rw [List.filter_filter]; simp
theorem swap_self {s : S} (h : Inv s) {nm : List UInt8} {k : Nat} (hk : k < s.fs.length) (hf : find nm s.fs = some (s.fs[k]'hk)) : swapL s nm nm = s.fs.set k { (s.fs[k]'hk) with sure := (s.fs[k]'hk).zs.length } := by
  obtain ⟨e1, e2, e3⟩ := file_mem hf
  unfold swapL
  rw [e1]
  refine Eq.trans ?_ (put_set s.fs k hk { (s.fs[k]'hk) with sure := (s.fs[k]'hk).zs.length } h.sorted rfl)
  unfold put
  show ins ⟨nm, _, _⟩ (del nm (del nm s.fs)) = ins ⟨(s.fs[k]'hk).nm, _, _⟩ (del (s.fs[k]'hk).nm s.fs)
  rw [del_del, e3]
theorem fnd_two (s : S) (nm : List UInt8) : fnd s nm [nm, nm] = fnd s nm [nm] := by unfold fnd chk; simp
set_option maxRecDepth 20000 in
set_option maxHeartbeats 4000000 in
theorem rsync_any (R : Nat) (own : Nat → Prop) (s : S) (w : World) (h : RState w R own s) (sn : ByteArray) (hsn : sn.size ≤ 9223372036854775807) :
    Calls Try.prog 26 #[.pointer (some ⟨R, 0, none⟩), .string sn] w fun e w' => e = .returned (.int .i64 (actE s (fnd s (bs sn) [bs sn]))) ∧ RLeaves w R own (actS s (fnd s (bs sn) [bs sn]) (swapL s (bs sn) (bs sn))) w' := by
  have H := Lib.hid h
  have LK : Hid (Calls Try.prog 44 #[.pointer (some ⟨R, 0, none⟩), .string sn, .bool true] w fun e w' => e = .returned (.int .i64 (fnd s (bs sn) [bs sn])) ∧ w = w') := Lib.hid (by
    obtain ⟨rf, rk, Ad, fa, fc, ka, kc, p, _⟩ := h
    exact rlook_there p.rs sn hsn)
  clear h hsn
  by_cases hE : fnd s (bs sn) [bs sn] = 0
  · obtain ⟨ho, _, f0, hf0⟩ := fnd_zero hE
    have HO := Lib.hid ho
    have HF0 := Lib.hid hf0
    have BL := Lib.hid (rblown_any R own s w H.out HO.out)
    rw [hE] at LK ⊢
    clear ho hf0 hE
    by_cases hf : s.fuse = 1
    · rw [hf] at BL
      have E1 : Hid (actE s 0 = 11) := Lib.hid (by unfold actE; simp [hf])
      have E2 : Hid (actS s 0 (swapL s (bs sn) (bs sn)) = crash { s with fuse := 0 } s.keep) := Lib.hid (by unfold actS; simp [hf])
      clear hf
      go_enter Try.func26, Try.ntmps26
      go_wp2_with fail
      refine LK.out.mono ?_; rintro e w' ⟨rfl, rfl⟩
      go_wp2_with fail
      refine BL.out.mono ?_; rintro e w' ⟨rfl, hl⟩
      have HL := Lib.hid hl
      clear hl
      go_wp2
      go_ret
      exact ⟨ret_int E1.out.symm, by rw [E2.out]; exact HL.out⟩
    · have E1 : Hid (actE s 0 = 0) := Lib.hid (by unfold actE; simp [hf])
      have E2 : Hid (actS s 0 (swapL s (bs sn) (bs sn)) = { s with fs := swapL s (bs sn) (bs sn), fuse := s.fuse - 1 }) := Lib.hid (by unfold actS; simp [hf])
      rw [if_neg hf, decide_eq_false hf] at BL
      clear hf
      go_enter Try.func26, Try.ntmps26
      go_wp2_with fail
      refine LK.out.mono ?_; rintro e w' ⟨rfl, rfl⟩
      go_wp2_with fail
      refine BL.out.mono ?_; rintro e w2 ⟨rfl, own2, ⟨rf, rk, Ad, fa, fc, ka, kc, p, b⟩, st⟩
      have P := Lib.hid p
      have B := Lib.hid b
      have ST := Lib.hid st
      have FD := Lib.hid (rfind_any p.rs sn)
      have PF : (∃ k, ∃ hk : k < s.fs.length, placeV (bs sn) s.fs = (k : Int) ∧ find (bs sn) s.fs = some (s.fs[k]'hk)) ∨ (placeV (bs sn) s.fs = -1 ∧ find (bs sn) s.fs = none) := placeV_find (bs sn) s.fs
      rcases PF with ⟨k, hk, p1, p2⟩ | ⟨_, p2⟩
      · obtain ⟨g, hg, _, d2, d3⟩ := p.rs.cell (i := k) hk
        obtain ⟨⟨_, c1, _, _, _⟩, _⟩ := obj5 p.rs.obj
        have hfl := p.rs.files
        rw [hg] at hfl
        obtain ⟨cur, hb⟩ := ownsRow_block hfl
        have hb : w2.heap[g]? = some (.cells cur 76 (0, 0)) := hb
        have fz : w2.frozen? ⟨g, k * 3 + 2, none⟩ = false := by simp [World.frozen?, hb]
        have FD : Hid (Calls Try.prog 45 #[.pointer (some ⟨R, 0, none⟩), .string sn] w2 fun e w' => e = .returned (.int .i64 (k : Int)) ∧ w2 = w') := Lib.hid (by rw [← p1]; exact FD.out)
        have RS := Lib.hid (P.out.sure (k := k) hk hg (s.fs[k]'hk).zs.length (Nat.le_refl _))
        have SW := Lib.hid (swap_self H.out.inv hk p2)
        have hR := P.out.lt R P.out.ownT
        have hgo := Lib.hid (P.out.ownF ⟨g, 0, none⟩ hg)
        have HK := Lib.hid hk
        have b1 : (k : Int) < (s.fs.length : Int) := by omega
        have d2 : w2.cell? ⟨g, k * 3 + 1, none⟩ = some (.slice (Ad (s.fs[k]'hk).nm).1 (s.fs[k]'hk).zs.length (Ad (s.fs[k]'hk).nm).2) := d2
        have d3 : w2.cell? ⟨g, k * 3 + 2, none⟩ = some (.int .i64 ((s.fs[k]'hk).sure : Int)) := d3
        have c1 : w2.cell? ⟨R, 1, none⟩ = some (.slice fa s.fs.length fc) := c1
        clear p b st p1 p2 hb hfl
        subst hg
        go_wp2_with fail
        refine FD.out.mono ?_; rintro e w' ⟨rfl, rfl⟩
        go_wp2
        go_region
        go_wp2
        go_ret
        refine ⟨ret_int E1.out.symm, ?_⟩
        rw [E2.out, SW.out]
        exact RLeaves.trans ST.out ⟨own2, ⟨rf, rk, Ad, _, fc, ka, kc, RS.out.same (Nat.le_refl _) (fun _ _ => rfl), B.out⟩, (Only.set own2 (k * 3 + 2) w2 _ hgo.out).drew, fun _ h => .inl h⟩
      · exact absurd (HF0.out.symm.trans p2) (by simp)
  · have E1 : Hid (actE s (fnd s (bs sn) [bs sn]) = fnd s (bs sn) [bs sn]) := Lib.hid (by unfold actE; rw [if_pos hE])
    have E2 : Hid (actS s (fnd s (bs sn) [bs sn]) (swapL s (bs sn) (bs sn)) = s) := Lib.hid (by unfold actS; rw [if_pos hE])
    rw [E1.out, E2.out]
    clear E1 E2
    generalize fnd s (bs sn) [bs sn] = er at *
    have he : (er != 0) = true := by simpa using hE
    go_enter Try.func26, Try.ntmps26
    go_wp2_with fail
    refine LK.out.mono ?_; rintro e w' ⟨rfl, rfl⟩
    go_wp2
    go_ret
    exact ⟨rfl, RLeaves.same H.out (Below.refl _ _)⟩
end Go.Proofs.Ytmahbcpkilegpaa
