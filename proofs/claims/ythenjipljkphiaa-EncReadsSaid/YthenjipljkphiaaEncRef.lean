/-
  The reading methods of the reference's chapter 3, at every reader: the same plain reading.
-/
import Derived.Test.YthenjipljkphiaaEncInS
namespace Go.Proofs.Ythenjipljkphiaa
open Go.RowKit
set_option maxHeartbeats 400000 in
theorem refFail_any (g : Nat) (zs : List Int) (b : Bool) (w : World) (h : InAt w 41 g zs b) :
    Calls Try.prog 26 #[.pointer (some ⟨g, 0, none⟩)] w fun e w' => e = .returned (.tuple #[]) ∧ InPost w 41 g [] true w' := by
  have HP := Lib.hid h.spoilt'
  obtain ⟨A, cap, h1, _, _, _⟩ := h
  obtain ⟨⟨c0, c1⟩, f0, f1⟩ := obj2 h1
  clear h1
  go_enter Try.func26, Try.ntmps26
  go_wp2
  go_end0
  exact ⟨rfl, HP.out⟩
theorem okU_bad {zs : List Int} (hd : En.decU zs = (0, 0)) (b : Bool) : En.valU zs b = 0 ∧ En.restU zs b = [] ∧ En.okU zs b = false := by
  have ho : En.okU zs b = false := by unfold En.okU; rw [hd]; simp
  refine ⟨?_, ?_, ho⟩
  · unfold En.valU; rw [ho]; rfl
  · unfold En.restU; rw [ho]; rfl
theorem okU_good {zs : List Int} {v : Int} {n : Nat} (hd : En.decU zs = (v, n + 1)) : En.valU zs false = v ∧ En.restU zs false = zs.drop (n + 1) ∧ En.okU zs false = true := by
  have ho : En.okU zs false = true := by unfold En.okU; rw [hd]; simp
  refine ⟨?_, ?_, ho⟩
  · unfold En.valU; rw [ho, hd]; rfl
  · unfold En.restU; rw [ho, hd]; rfl
/-- What U is to end in. -/
def UPost (w : World) (t g : Nat) (zs : List Int) (b : Bool) (e : Ending) (w' : World) : Prop := e = .returned (.int .u64 (En.valU zs b)) ∧ InPost w t g (En.restU zs b) (!En.okU zs b) w'
theorem UPost.bad {w w' : World} {t g : Nat} {zs : List Int} {b : Bool} (hd : En.decU zs = (0, 0)) (h : InPost w t g [] true w') : UPost w t g zs b (.returned (.int .u64 0)) w' := by
  obtain ⟨h1, h2, h3⟩ := okU_bad hd b
  unfold UPost; rw [h1, h2, h3]; exact ⟨rfl, h⟩
theorem UPost.good {w w' : World} {t g : Nat} {zs : List Int} {v : Int} {n : Nat} (hd : En.decU zs = (v, n + 1)) (h : InPost w t g (zs.drop (n + 1)) false w') : UPost w t g zs false (.returned (.int .u64 v)) w' := by
  obtain ⟨h1, h2, h3⟩ := okU_good hd
  unfold UPost; rw [h1, h2, h3]; exact ⟨rfl, h⟩
set_option maxHeartbeats 2000000 in
theorem refU_any (g : Nat) (zs : List Int) (b : Bool) (w : World) (h : InAt w 41 g zs b) :
    Calls Try.prog 18 #[.pointer (some ⟨g, 0, none⟩)] w (UPost w 41 g zs b) := by
  have SP := Lib.hid (refFail_any g zs b w h)
  cases b
  · obtain ⟨A, cap, h1, h2, h3, h4⟩ := h
    obtain ⟨⟨c0, c1⟩, f0, f1⟩ := obj2 h1
    have HM := Lib.hid (fun k => InAt.moved h1 h2 h3 h4 k)
    have H := Lib.hid h4
    have SF := Lib.hid (fun k (hk : k ≤ zs.length) => slice_from A zs.length cap k hk .i64)
    have hl : zs.length ≤ 4611686018427387904 := h3
    clear h1 h4 h3 h2
    have S := Lib.hid (DecAt.start zs)
    go_enter Try.func18, Try.ntmps18
    go_wp2
    go_loop [3, 4, 5] (fun v p i => ∃ (k : Nat) (acc q : Int), DecAt zs k acc ∧ 128 ^ k = q ∧ i = .int .i64 k ∧ v = .int .u64 acc ∧ p = .int .u64 q) (fun _ _ i => zs.length - (intOf i).toNat)
    case atStart => exact ⟨0, 0, 1, S.out, rfl, rfl, rfl, rfl⟩
    case round =>
      obtain ⟨k, acc, q, hat, hq, rfl, rfl, rfl⟩ := hrel
      have HA := Lib.hid hat
      obtain ⟨hk, h9, a0, a1, _⟩ := hat
      have hp := En.p128 k h9
      have hp8 := En.p128_8 k
      rw [hq] at a1 hp hp8
      have HQ := Lib.hid hq
      clear hq
      obtain ⟨hp1, hp2⟩ := hp
      by_cases hlt : k < zs.length
      · obtain ⟨bb, off, z, rfl, hbb, hc, hz, z0, z1⟩ := H.out.at_ hlt
        by_cases hb9 : k = 9 ∧ 1 < z
        · have E0 := Lib.hid (HA.out.bad hlt hz.out (.inl hb9))
          obtain ⟨rfl, hz1⟩ := hb9
          clear hp8
          go_wp2_with fail
          refine SP.out.mono ?_; rintro e w' ⟨rfl, hp⟩
          go_wp2
          go_ret
          exact UPost.bad E0.out hp
        · have hg := En.group_bd k acc (z % 128) h9 a0 (by rw [HQ.out]; exact a1) (by omega) (by omega) (by omega)
          rw [HQ.out] at hg
          obtain ⟨g0, g1, _⟩ := hg
          by_cases hz128 : z < 128
          · by_cases hb0 : 0 < k ∧ z = 0
            · have E0 := Lib.hid (HA.out.bad hlt hz.out (.inr hb0))
              obtain ⟨hk0, rfl⟩ := hb0
              have hk0' : 0 < (k : Int) := by omega
              clear hp8 hz128 hk0
              by_cases hk9 : k = 9
              · subst hk9
                clear hb9
                go_wp2_with fail
                refine SP.out.mono ?_; rintro e w' ⟨rfl, hp⟩
                go_wp2
                go_ret
                exact UPost.bad E0.out hp
              · have hk9' : (k : Int) < 9 := by omega
                clear hb9 hk9
                go_wp2_with fail
                refine SP.out.mono ?_; rintro e w' ⟨rfl, hp⟩
                go_wp2
                go_ret
                exact UPost.bad E0.out hp
            · have e0 := HA.out.last hlt hz.out (by omega) hz128
              have em : z % 128 = z := by omega
              rw [HQ.out, ← em] at e0
              have E0 := Lib.hid e0
              have SL := SF.out (k + 1) (by omega)
              have ec : ((k + 1 : Nat) : Int) = (k : Int) + 1 := by omega
              rw [ec] at SL
              clear em e0 ec hp8
              by_cases hk9 : k = 9
              · subst hk9
                have hz1 : z ≤ 1 := by omega
                have hz2 : 0 < z := by omega
                have SL10 : ∀ W, (Instr.slice 24 (.slice (some ⟨bb, off, none⟩) zs.length cap) (some (.int .i64 10)) none none).run Try.prog W = .ok (.slice (tailA (some ⟨bb, off, none⟩) cap 10) (zs.length - 10) (cap - 10)) W := SF.out 10 (by omega)
                clear hb9 hb0 SL
                go_wp2
                go_ret
                exact UPost.good E0.out (HM.out 10)
              · have hk9' : (k : Int) < 9 := by omega
                by_cases hk0 : 0 < k
                · have hz2 : 0 < z := by omega
                  clear hb9 hb0 hk9
                  go_wp2
                  go_ret
                  exact UPost.good E0.out (HM.out _)
                · have hk0' : (k : Int) ≤ 0 := by omega
                  clear hb9 hb0 hk9 hk0
                  by_cases hz0 : z = 0
                  · subst hz0
                    have e1 : acc + 0 % 128 * q = acc := by simp
                    have e2 := E0.out
                    rw [e1] at e2
                    have E2 := Lib.hid e2
                    clear e1 e2
                    go_wp2
                    go_ret
                    exact UPost.good E2.out (HM.out _)
                  · have hz2 : 0 < z := by omega
                    clear hz0
                    go_wp2
                    go_ret
                    exact UPost.good E0.out (HM.out _)
          · have hn := HA.out.next hlt hz.out (by omega) (by omega) z1
            rw [HQ.out] at hn
            have HN := Lib.hid hn
            have hq2 : (128 : Int) ^ (k + 1) = q * 128 := by rw [Int.pow_succ, HQ.out]
            have HQ2 := Lib.hid hq2
            have k8 : (k : Int) < 9 := by omega
            have q8 : q ≤ 72057594037927936 := hp8 (by omega)
            have z128 : 128 ≤ z := by omega
            clear hn hq2 hb9 hp8
            go_wp2
            go_round
            case rel => exact ⟨k + 1, _, _, HN.out, HQ2.out, by go_num, rfl, rfl⟩
            case measure => simp [intOf]; omega
      · have E0 := Lib.hid (HA.out.out hlt)
        clear hp8
        go_wp2_with fail
        refine SP.out.mono ?_; rintro e w' ⟨rfl, hp⟩
        go_wp2
        go_ret
        exact UPost.bad E0.out hp
  · have HE := Lib.hid h.emptied
    have hb : En.okU zs true = false := by unfold En.okU; rfl
    have hv : En.valU zs true = 0 := by unfold En.valU; rw [hb]; rfl
    have hr : En.restU zs true = [] := by unfold En.restU; rw [hb]; rfl
    unfold UPost
    rw [hb, hv, hr]
    obtain ⟨A, cap, h1, h2, h3, h4⟩ := h
    obtain ⟨⟨c0, c1⟩, f0, f1⟩ := obj2 h1
    clear h1 h2 h3 h4 hb hv hr
    go_enter Try.func18, Try.ntmps18
    go_wp2
    go_ret
    exact ⟨rfl, HE.out⟩
theorem refU_all (g : Nat) (zs : List Int) (b : Bool) (w : World) (h : InAt w 41 g zs b) :
    Calls Try.prog 18 #[.pointer (some ⟨g, 0, none⟩)] w fun e w' => e = .returned (.int .u64 (En.valU zs b)) ∧ InPost w 41 g (En.restU zs b) (!En.okU zs b) w' :=
  refU_any g zs b w h
end Go.Proofs.Ythenjipljkphiaa
