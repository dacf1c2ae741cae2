/-
  The reference's Swap, whole.
-/
import Derived.Test.YtmahbcpkilegpaaStoRefSwap
namespace Go.Proofs.Ytmahbcpkilegpaa
open Go.RowKit St

set_option maxRecDepth 20000 in
set_option maxHeartbeats 4000000 in
theorem rswap_any (R : Nat) (own : Nat → Prop) (s : S) (w : World) (h : RState w R own s) (sa sb : ByteArray) (hsa : sa.size ≤ 9223372036854775807) (hsb : sb.size ≤ 9223372036854775807) :
    Calls Try.prog 29 #[.pointer (some ⟨R, 0, none⟩), .string sa, .string sb] w fun e w' => e = .returned (.int .i64 (actE s (fnd s (bs sa) [bs sb, bs sa]))) ∧ RLeaves w R own (actS s (fnd s (bs sa) [bs sb, bs sa]) (swapL s (bs sa) (bs sb))) w' := by
  have H := Lib.hid h
  by_cases hE : fnd s (bs sa) [bs sb, bs sa] = 0
  · obtain ⟨ho, hall, f0, hf0⟩ := fnd_zero hE
    have hga : good (bs sa) = true := by simp at hall; exact hall.2
    have hgb : good (bs sb) = true := by simp at hall; exact hall.1
    rcases placeV_find (bs sa) s.fs with ⟨k, hk, p1, p2⟩ | ⟨_, p2⟩
    · by_cases hf : s.fuse = 1
      · rw [hE]
        have E1 : Hid (actE s 0 = 11) := Lib.hid (by unfold actE; simp [hf])
        have E2 : Hid (actS s 0 (swapL s (bs sa) (bs sb)) = crash { s with fuse := 0 } s.keep) := Lib.hid (by unfold actS; simp [hf])
        have BL := Lib.hid (rblown_any R own s w H.out ho)
        rw [hf] at BL
        obtain ⟨rf, rk, Ad, fa, fc, ka, kc, p, b⟩ := h
        have GA : Hid (Calls Try.prog 48 #[.string sa] w fun e w' => e = .returned (.bool true) ∧ w = w') := Lib.hid (by rw [← hga]; exact goodName_any sa hsa w)
        have GB : Hid (Calls Try.prog 48 #[.string sb] w fun e w' => e = .returned (.bool true) ∧ w = w') := Lib.hid (by rw [← hgb]; exact goodName_any sb hsb w)
        have FD1 : Hid (Calls Try.prog 45 #[.pointer (some ⟨R, 0, none⟩), .string sa] w fun e w' => e = .returned (.int .i64 (k : Int)) ∧ w = w') := Lib.hid (by rw [← p1]; exact rfind_any p.rs sa)
        obtain ⟨⟨_, _, c2, _, _⟩, _⟩ := obj5 p.rs.obj
        rw [ho] at c2
        have hk0 : ¬ (k : Int) < 0 := by omega
        clear p b hE p1 p2 hf hf0 hall hga hgb
        go_enter Try.func29, Try.ntmps29
        go_wp2_with fail
        refine GA.out.mono ?_; rintro e w' ⟨rfl, rfl⟩
        go_wp2_with fail
        refine GB.out.mono ?_; rintro e w' ⟨rfl, rfl⟩
        go_wp2_with fail
        refine FD1.out.mono ?_; rintro e w' ⟨rfl, rfl⟩
        go_wp2_with fail
        refine BL.out.mono ?_; rintro e w' ⟨rfl, hl⟩
        have HL := Lib.hid hl
        clear hl
        go_wp2
        go_ret
        exact ⟨ret_int E1.out.symm, by rw [E2.out]; exact HL.out⟩
      · have E1 : actE s (fnd s (bs sa) [bs sb, bs sa]) = 0 := by rw [hE]; unfold actE; simp [hf]
        have E2 : actS s (fnd s (bs sa) [bs sb, bs sa]) (swapL s (bs sa) (bs sb)) = { s with fs := swapL s (bs sa) (bs sb), fuse := s.fuse - 1 } := by rw [hE]; unfold actS; simp [hf]
        rw [E1, E2]
        exact rswap_good R own s w h sa sb hE hsa hsb hk p1 p2 hf
    · rw [hf0] at p2; cases p2
  · have E1 : actE s (fnd s (bs sa) [bs sb, bs sa]) = fnd s (bs sa) [bs sb, bs sa] := by unfold actE; rw [if_pos hE]
    have E2 : actS s (fnd s (bs sa) [bs sb, bs sa]) (swapL s (bs sa) (bs sb)) = s := by unfold actS; rw [if_pos hE]
    rw [E1, E2]
    obtain ⟨rf, rk, Ad, fa, fc, ka, kc, p, b⟩ := h
    obtain ⟨⟨_, _, c2, _, _⟩, _⟩ := obj5 p.rs.obj
    have V : Hid (fnd s (bs sa) [bs sb, bs sa] = if s.off then 11 else if good (bs sb) && good (bs sa) then (if (find (bs sa) s.fs).isSome then 0 else 4) else 1) := Lib.hid (by
      unfold fnd chk
      cases ho : s.off <;> cases h1 : good (bs sa) <;> cases h2 : good (bs sb) <;> simp [h1, h2])
    cases ho : s.off with
    | true =>
      rw [ho] at c2
      rw [ho, if_pos rfl] at V
      clear p b hE
      go_enter Try.func29, Try.ntmps29
      go_wp2
      go_ret
      exact ⟨ret_int V.out.symm, RLeaves.same H.out (Below.refl _ _)⟩
    | false =>
      rw [ho] at c2
      rw [ho, if_neg (by simp)] at V
      have GA := Lib.hid (goodName_any sa hsa w)
      have GB := Lib.hid (goodName_any sb hsb w)
      cases h1 : good (bs sa) with
      | false =>
        rw [h1] at GA V
        rw [Bool.and_false, if_neg (by simp)] at V
        clear p b hE
        go_enter Try.func29, Try.ntmps29
        go_wp2_with fail
        refine GA.out.mono ?_; rintro e w' ⟨rfl, rfl⟩
        go_wp2
        go_ret
        exact ⟨ret_int V.out.symm, RLeaves.same H.out (Below.refl _ _)⟩
      | true =>
        rw [h1] at GA V
        cases h2 : good (bs sb) with
        | false =>
          rw [h2] at GB V
          rw [Bool.false_and, if_neg (by simp)] at V
          clear p b hE
          go_enter Try.func29, Try.ntmps29
          go_wp2_with fail
          refine GA.out.mono ?_; rintro e w' ⟨rfl, rfl⟩
          go_wp2_with fail
          refine GB.out.mono ?_; rintro e w' ⟨rfl, rfl⟩
          go_wp2
          go_ret
          exact ⟨ret_int V.out.symm, RLeaves.same H.out (Below.refl _ _)⟩
        | true =>
          rw [h2] at GB V
          rw [Bool.true_and, if_pos rfl] at V
          have FD := Lib.hid (rfind_any p.rs sa)
          rcases placeV_find (bs sa) s.fs with ⟨k, hk, p1, p2⟩ | ⟨p1, p2⟩
          · exact absurd (by rw [V.out, p2]; rfl) hE
          · rw [p2] at V
            rw [p1] at FD
            clear p b hE p1 p2
            go_enter Try.func29, Try.ntmps29
            go_wp2_with fail
            refine GA.out.mono ?_; rintro e w' ⟨rfl, rfl⟩
            go_wp2_with fail
            refine GB.out.mono ?_; rintro e w' ⟨rfl, rfl⟩
            go_wp2_with fail
            refine FD.out.mono ?_; rintro e w' ⟨rfl, rfl⟩
            go_wp2
            go_ret
            exact ⟨ret_int V.out.symm, RLeaves.same H.out (Below.refl _ _)⟩
end Go.Proofs.Ytmahbcpkilegpaa
