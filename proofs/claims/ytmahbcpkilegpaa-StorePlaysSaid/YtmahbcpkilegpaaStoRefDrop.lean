/-
  The reference's Drop.
-/
import Derived.Test.YtmahbcpkilegpaaStoRefCutP
import Derived.Test.YtmahbcpkilegpaaStoRefGone
namespace Go.Proofs.Ytmahbcpkilegpaa
open Go.RowKit St

set_option maxRecDepth 20000 in
set_option maxHeartbeats 4000000 in
theorem rdrop_any (R : Nat) (own : Nat → Prop) (s : S) (w : World) (h : RState w R own s) (sn : ByteArray) (hsn : sn.size ≤ 9223372036854775807) :
    Calls Try.prog 28 #[.pointer (some ⟨R, 0, none⟩), .string sn] w fun e w' => e = .returned (.int .i64 (actE s (fnd s (bs sn) [bs sn]))) ∧ RLeaves w R own (actS s (fnd s (bs sn) [bs sn]) (del (bs sn) s.fs)) w' := by
  have H := Lib.hid h
  have LK : Hid (Calls Try.prog 44 #[.pointer (some ⟨R, 0, none⟩), .string sn, .bool true] w fun e w' => e = .returned (.int .i64 (fnd s (bs sn) [bs sn])) ∧ w = w') := Lib.hid (by
    obtain ⟨rf, rk, Ad, fa, fc, ka, kc, p, _⟩ := h
    exact rlook_there p.rs sn hsn)
  clear h hsn
  by_cases hE : fnd s (bs sn) [bs sn] = 0
  · obtain ⟨ho, _, f0, hf0⟩ := fnd_zero hE
    have HO := Lib.hid ho
    have HF0 := Lib.hid hf0
    have BL := Lib.hid (rblown_any R own s w H.out HO.out)
    rw [hE] at LK ⊢
    clear ho hf0 hE
    by_cases hf : s.fuse = 1
    · rw [hf] at BL
      have E1 : Hid (actE s 0 = 11) := Lib.hid (by unfold actE; simp [hf])
      have E2 : Hid (actS s 0 (del (bs sn) s.fs) = crash { s with fuse := 0 } s.keep) := Lib.hid (by unfold actS; simp [hf])
      clear hf
      go_enter Try.func28, Try.ntmps28
      go_wp2_with fail
      refine LK.out.mono ?_; rintro e w' ⟨rfl, rfl⟩
      go_wp2_with fail
      refine BL.out.mono ?_; rintro e w' ⟨rfl, hl⟩
      have HL := Lib.hid hl
      clear hl
      go_wp2
      go_ret
      exact ⟨ret_int E1.out.symm, by rw [E2.out]; exact HL.out⟩
    · have E1 : Hid (actE s 0 = 0) := Lib.hid (by unfold actE; simp [hf])
      have E2 : Hid (actS s 0 (del (bs sn) s.fs) = { s with fs := del (bs sn) s.fs, fuse := s.fuse - 1 }) := Lib.hid (by unfold actS; simp [hf])
      rw [if_neg hf, decide_eq_false hf] at BL
      clear hf
      go_enter Try.func28, Try.ntmps28
      go_wp2_with fail
      refine LK.out.mono ?_; rintro e w' ⟨rfl, rfl⟩
      go_wp2_with fail
      refine BL.out.mono ?_; rintro e w2 ⟨rfl, own2, ⟨rf, rk, Ad, fa, fc, ka, kc, p, b⟩, st⟩
      have P := Lib.hid p
      have B := Lib.hid b
      have ST := Lib.hid st
      have FD := Lib.hid (rfind_any p.rs sn)
      have PF : (∃ k, ∃ hk : k < s.fs.length, placeV (bs sn) s.fs = (k : Int) ∧ find (bs sn) s.fs = some (s.fs[k]'hk)) ∨ (placeV (bs sn) s.fs = -1 ∧ find (bs sn) s.fs = none) := placeV_find (bs sn) s.fs
      rcases PF with ⟨k, hk, p1, p2⟩ | ⟨_, p2⟩
      · have FD : Hid (Calls Try.prog 45 #[.pointer (some ⟨R, 0, none⟩), .string sn] w2 fun e w' => e = .returned (.int .i64 (k : Int)) ∧ w2 = w') := Lib.hid (by rw [← p1]; exact FD.out)
        have GN := Lib.hid (rgone_any P.out k hk)
        have SW := Lib.hid (drop_at H.out.inv hk p2)
        clear p b st p1 p2
        go_wp2_with fail
        refine FD.out.mono ?_; rintro e w' ⟨rfl, rfl⟩
        go_wp2_with fail
        refine GN.out.mono ?_; rintro e w3 ⟨rfl, own3, fa3, fc3, p3, st3, _⟩
        have P3 := Lib.hid p3
        have ST3 := Lib.hid st3
        clear p3 st3
        go_wp2
        go_ret
        refine ⟨ret_int E1.out.symm, ?_⟩
        rw [E2.out, SW.out]
        exact RLeaves.trans ST.out ⟨own3, ⟨rf, rk, Ad, fa3, fc3, ka, kc, P3.out, B.out⟩, ST3.out⟩
      · exact absurd (HF0.out.symm.trans p2) (by simp)
  · have E1 : Hid (actE s (fnd s (bs sn) [bs sn]) = fnd s (bs sn) [bs sn]) := Lib.hid (by unfold actE; rw [if_pos hE])
    have E2 : Hid (actS s (fnd s (bs sn) [bs sn]) (del (bs sn) s.fs) = s) := Lib.hid (by unfold actS; rw [if_pos hE])
    rw [E1.out, E2.out]
    clear E1 E2
    generalize fnd s (bs sn) [bs sn] = er at *
    have he : (er != 0) = true := by simpa using hE
    go_enter Try.func28, Try.ntmps28
    go_wp2_with fail
    refine LK.out.mono ?_; rintro e w' ⟨rfl, rfl⟩
    go_wp2
    go_ret
    exact ⟨rfl, RLeaves.same H.out (Below.refl _ _)⟩
end Go.Proofs.Ytmahbcpkilegpaa
