/-
  The law SegBehind.
-/
import Derived.Test.YtlaomaefhanacaaDoorSegScans
namespace Go.Proofs.YtlaomaefhanacaaDoor
open Go.RowKit
/-- Records of epoch 3 from an offset on, and whatever follows them. -/
theorem Sg.scV_puts (rest : List Int) : ∀ (ps : List (List Int)) (i ep : Int), 0 ≤ i → i + ps.length ≤ 17592186044416 → ep ≤ 3 → (∀ p ∈ ps, p.length ≤ 1024) →
    ∃ tl n, Sg.scV (Fr.putsV (52776558133248 + i) ps ++ rest) i ep = (Fr.recsV (52776558133248 + i) ps ++ tl, (Fr.putsV (52776558133248 + i) ps).length + n) := by
  intro ps
  induction ps with
  | nil => intro i ep _ _ _ _; exact ⟨(Sg.scV rest i ep).1, (Sg.scV rest i ep).2, by simp [Fr.putsV, Fr.recsV]⟩
  | cons p r ih =>
    intro i ep h0 h1 h2 hp
    rw [List.length_cons] at h1
    have ho : Pl.offV (52776558133248 + i) = i := by unfold Pl.offV; omega
    have he : Pl.epochV (52776558133248 + i) = 3 := by unfold Pl.epochV; omega
    obtain ⟨tl, n, ht⟩ := ih (i + 1) 3 (by omega) (by omega) (by decide) (fun q hq => hp q (List.mem_cons_of_mem _ hq))
    refine ⟨tl, n, ?_⟩
    rw [Fr.putsV, List.append_assoc, Sg.scV_put _ _ _ _ _ (by omega) (by omega) (hp p (List.mem_cons_self ..)), if_pos ⟨ho, by rw [he]; exact h2⟩, he, Int.add_assoc, ht, Fr.recsV, List.length_append, Fr.putV_len, Int.add_assoc, List.cons_append]
    refine Prod.ext rfl ?_
    show 16 + p.length + ((Fr.putsV (52776558133248 + (i + 1)) r).length + n) = 16 + p.length + (Fr.putsV (52776558133248 + (i + 1)) r).length + n
    omega
theorem pack3 (k : Nat) (hk : k < 100) (w : World) : Calls Tryd.prog 19 #[.int .i64 3, .int .i64 k] w fun r w' => r = .returned (.tuple #[.int .u64 (52776558133248 + (k : Int)), .bool true]) ∧ w = w' := by
  have h := pack_any 3 k w
  have e1 : Pl.packOk 3 k = true := by unfold Pl.packOk; exact decide_eq_true (by omega)
  have e2 : Pl.packV 3 k = 52776558133248 + (k : Int) := by unfold Pl.packV; rw [if_pos e1]; omega
  rw [e1, e2] at h
  exact h
theorem behind_off (A1 A2 : Option Addr) (n m cap1 cap2 : Nat) (h : 10 < n ∨ (n ≤ 10 ∧ 300 < m)) (w : World) (HF : Hid (Facts w)) :
    Calls Tryd.prog 8 #[.slice A1 n cap1, .slice A2 m cap2] w fun e w' => e = .returned (.bool true) ∧ Below w.heap.size w w' := by
  rcases h with h | ⟨h, h2⟩
  · have h' : (10 : Int) < (n : Int) := by omega
    clear h
    go_enter Tryd.func8, Tryd.ntmps8
    go_wp2_with fail
    refine (awake_any _ HF.out).mono ?_; rintro e w1 ⟨rfl, b1⟩
    go_wp2
    go_ret
    exact ⟨rfl, b1.out⟩
  · have h' : (n : Int) ≤ 10 := by omega
    have h2' : (300 : Int) < (m : Int) := by omega
    clear h h2
    go_enter Tryd.func8, Tryd.ntmps8
    go_wp2_with fail
    refine (awake_any _ HF.out).mono ?_; rintro e w1 ⟨rfl, b1⟩
    go_wp2
    go_ret
    exact ⟨rfl, b1.out⟩
def pays (ms : List Mk) : List (List Int) := ms.map fun m => m.2.2
/-- Where the first loop stands: the records so far, all of them short. -/
def BehAt (ms : List Mk) (k : Nat) (ys : List Int) : Prop := ys = Fr.putsV 52776558133248 ((pays ms).take k) ∧ ∀ p ∈ (pays ms).take k, p.length ≤ 60
theorem BehAt.next {ms : List Mk} {k : Nat} {ys p : List Int} {e o : Int} (h : BehAt ms k ys) (hk : k < ms.length) (he : ms.getD k (0, 0, []) = (e, o, p)) (hp : p.length ≤ 60) : BehAt ms (k + 1) (ys ++ Fr.putV (52776558133248 + (k : Int)) p) := by
  have hl : k < (pays ms).length := by unfold pays; simpa using hk
  have hg : (pays ms)[k] = p := by
    show (ms.map fun m => m.2.2)[k]'(by simpa using hk) = p
    rw [List.getElem_map]
    rw [List.getD_eq_getElem?_getD, List.getElem?_eq_getElem hk] at he
    simp at he
    rw [he]
  obtain ⟨h1, h2⟩ := h
  rw [BehAt, List.take_succ_eq_append_getElem hl, hg]
  refine ⟨?_, fun q hq => ?_⟩
  · rw [Fr.putsV_snoc, ← h1, List.length_take, Nat.min_eq_left (by omega)]
  · rcases List.mem_append.1 hq with h | h
    · exact h2 q h
    · rw [List.mem_singleton.1 h]; exact hp
theorem BehAt.len {ms : List Mk} {k : Nat} {ys : List Int} (h : BehAt ms k ys) : ys.length ≤ 76 * k := by
  have key : ∀ (ps : List (List Int)) (i : Int), (∀ p ∈ ps, p.length ≤ 60) → (Fr.putsV i ps).length ≤ 76 * ps.length := by
    intro ps
    induction ps with
    | nil => intro i _; simp [Fr.putsV]
    | cons p r ih =>
      intro i hp
      rw [Fr.putsV, List.length_append, Fr.putV_len, List.length_cons]
      have := ih (i + 1) fun q hq => hp q (List.mem_cons_of_mem _ hq)
      have := hp p (List.mem_cons_self ..)
      omega
  have h1 := key _ 52776558133248 h.2
  rw [← h.1, List.length_take] at h1
  omega
set_option maxHeartbeats 4000000 in
set_option maxRecDepth 20000 in
theorem behind_core (A1 A2 : Option Addr) (ms : List Mk) (rs : List Int) (cap1 cap2 : Nat) (hn : ms.length ≤ 10) (hr : rs.length ≤ 300) (w : World) (hm : Marks w w.heap.size A1 ms) (hb : Bytes w w.heap.size A2 rs) (HF : Hid (Facts w)) :
    Calls Tryd.prog 8 #[.slice A1 ms.length cap1, .slice A2 rs.length cap2] w fun e w' => e = .returned (.bool true) ∧ Below w.heap.size w w' := by
  have hn' : (ms.length : Int) ≤ 10 := by omega
  have hr' : (rs.length : Int) ≤ 300 := by omega
  have HM := Lib.hid hm
  have HR := Lib.hid hb
  clear hm hb
  go_enter Tryd.func8, Tryd.ntmps8
  go_wp2_with fail
  refine (awake_any _ HF.out).mono ?_; rintro e w1 ⟨rfl, b1⟩
  go_wp2
  go_loopw [5, 6] (fun bv iv wr => ∃ (k : Nat) (ys : List Int) (A' : Option Addr) (cap' : Nat), k ≤ ms.length ∧ Hid (BehAt ms k ys) ∧ iv = .int .i64 k ∧ bv = .slice A' ys.length cap' ∧ Hid (OwnB wr w.heap.size A' cap' ys) ∧ Hid (Below w.heap.size w wr)) (fun _ iv _ => ms.length - (intOf iv).toNat)
  case atStart => exact ⟨0, [], none, 0, Nat.zero_le _, Lib.hid ⟨by simp [Fr.putsV], by simp⟩, rfl, rfl, Lib.hid (OwnB.none_ _ _), b1⟩
  case round =>
    obtain ⟨k, ys, A', cap', hk, hy, rfl, rfl, HO, HW⟩ := hrel
    by_cases hlt : k < ms.length
    · have hlt' : (k : Int) < (ms.length : Int) := by omega
      obtain ⟨b, off, ea, oa, p, Ai, ci, rfl, hbb, c0, c1, c2, he, hp, hpl⟩ := (HM.out.below HW.out).at_ hlt
      have PK := Lib.hid (pack3 k (by omega))
      have hyl := hy.out.len
      by_cases hp60 : p.length ≤ 60
      · have hp60' : (p.length : Int) ≤ 60 := by omega
        have PT := Lib.hid (put_any A' Ai ys p cap' ci (52776558133248 + (k : Int)) (by omega) (by omega) (by omega) (by omega) wr HO.out.bytes (hp.out.more HW.out.size))
        go_wp2_with fail
        refine (PK.out _).mono ?_; rintro e w' ⟨rfl, rfl⟩
        go_wp2_with fail
        refine PT.out.mono ?_; rintro e w2 ⟨zs, A2', c2', hz, rfl, o2, g2⟩
        have HZ : Hid (BehAt ms (k + 1) zs) := Lib.hid (by rw [hz.out]; exact hy.out.next hlt he.out hp60)
        have c2w : w2.cell? ⟨b, off + k * 3 + 2, none⟩ = some (.slice Ai p.length ci) := (g2.below.cell (p := ⟨b, off + k * 3 + 2, none⟩) (Nat.lt_of_lt_of_le hbb.out HW.out.size)).trans c2
        have O2 := Lib.hid (o2.low HW.out.size)
        have G2 := Lib.hid (HW.out.trans (g2.below.mono HW.out.size))
        clear o2 g2 hz PT HO hp c0 c1 c2 HW hyl
        go_wp2
        go_roundw
        case rel => exact ⟨k + 1, zs, A2', c2', by omega, HZ, by go_num, rfl, O2, G2⟩
        case measure => simp [intOf]; omega
      · have hp60' : (60 : Int) < (p.length : Int) := by omega
        clear hp60
        have PT : ∃ er : Int, Calls Tryd.prog 20 #[.slice A' ys.length cap', .agg #[.int .u64 (52776558133248 + (k : Int)), .slice Ai p.length ci]] wr fun e w' => ∃ A3 c3, ∃ n3 : Nat, e = .returned (.tuple #[.slice A3 n3 c3, .int .i64 er]) ∧ Hid (Below wr.heap.size wr w') := by
          by_cases hpb : p.length ≤ 1024
          · refine ⟨0, (put_any A' Ai ys p cap' ci (52776558133248 + (k : Int)) (by omega) (by omega) (by omega) hpb wr HO.out.bytes (hp.out.more HW.out.size)).mono ?_⟩
            rintro e w2 ⟨zs, A2', c2', hz, rfl, o2, g2⟩
            exact ⟨A2', c2', _, rfl, Lib.hid g2.below⟩
          · refine ⟨14, (put_large A' Ai ys.length p.length cap' ci (52776558133248 + (k : Int)) (by omega) wr).mono ?_⟩
            rintro e w2 ⟨rfl, g2⟩
            exact ⟨none, 0, 0, rfl, Lib.hid g2.below⟩
        obtain ⟨er, PT2⟩ := PT
        go_wp2_with fail
        refine (PK.out _).mono ?_; rintro e w' ⟨rfl, rfl⟩
        go_wp2_with fail
        refine PT2.mono ?_; rintro e w2 ⟨A3, c3, n3, rfl, g2⟩
        have c2w : w2.cell? ⟨b, off + k * 3 + 2, none⟩ = some (.slice Ai p.length ci) := (g2.out.cell (p := ⟨b, off + k * 3 + 2, none⟩) (Nat.lt_of_lt_of_le hbb.out HW.out.size)).trans c2
        have G2 := Lib.hid (HW.out.trans (g2.out.mono HW.out.size))
        clear g2 PT2 HO hp c0 c1 c2 HW hyl
        go_wp2
        go_ret
        exact ⟨rfl, G2.out⟩
    · have hkk : k = ms.length := by omega
      subst hkk
      have hyl := hy.out.len
      have hey : Hid (ys = Fr.putsV 52776558133248 (pays ms)) := Lib.hid (by
        have := hy.out.1
        rw [List.take_of_length_le (by unfold pays; simp)] at this
        exact this)
      obtain ⟨tl, nn, hsc⟩ := Sg.scV_puts rs (pays ms) 0 0 (by decide) (by unfold pays; simp; omega) (by decide) (fun p hp => by
        have := hy.out.2 p (by rw [List.take_of_length_le (by unfold pays; simp)]; exact hp)
        omega)
      simp only [Int.add_zero] at hsc
      have HS : Hid (Sg.scV (ys ++ rs) 0 0 = (Fr.recsV 52776558133248 (pays ms) ++ tl, ys.length + nn)) := Lib.hid (by rw [hey.out]; exact hsc)
      have hy60 : Hid (ys.length ≤ 760) := Lib.hid (by omega)
      clear hsc hey hy hyl hlt
      go_wp2_with (first
        | (at_builtin; refine wp_app rfl (.tmp 62) (.tmp 63) rfl rfl rfl (OwnB.start wr wr.heap.size (Nat.le_refl _)) (by simp) rfl rfl (HO.out.bytes.below ((Below.refl _ _).alloc (Nat.le_refl _) _)) (by have := hy60.out; simp; omega) ?_; intro A2' cap2' w2 o2 d2; rw [List.nil_append] at o2; have O2 := Lib.hid o2; have D2 := Lib.hid ((((Grew.refl wr.heap.size wr).alloc (Nat.le_refl _) (.cells #[] 5))).trans d2); clear o2 d2)
        | (at_builtin; refine wp_app rfl (.tmp 64) (.tmp 65) rfl rfl (by simp) O2.out D2.out.below.size rfl rfl ((HR.out.below HW.out).below (D2.out.below.mono HW.out.size)) (by have := hy60.out; omega) ?_; intro A3 cap3 w3 o3 d3; have O3 := Lib.hid o3; have D3 := Lib.hid (D2.out.trans d3); clear o3 d3))
      have hc3 := O3.out.cap_
      have SC0 := scan_any A3 (ys ++ rs) cap3 0 0 (by rw [List.length_append]; have := hy60.out; omega) hc3 w3 O3.out.bytes
      rw [List.length_append] at SC0
      have SC := Lib.hid SC0
      clear SC0 hc3
      refine SC.out.mono ?_; rintro e w4 ⟨L, A4, c4, h4, rfl, o4, d4⟩
      have B3 := Lib.hid (HW.out.trans (D3.out.below.mono HW.out.size))
      have B4 := Lib.hid (B3.out.trans (d4.mono B3.out.size))
      have HL : Hid (L = Fr.recsV 52776558133248 (pays ms) ++ tl) := Lib.hid (by rw [← h4.out, HS.out])
      have hN : (Sg.scV (ys ++ rs) 0 0).2 = ys.length + nn := by rw [HS.out]
      rw [hN]
      have O4 := Lib.hid o4
      have pl : (pays ms).length = ms.length := by unfold pays; simp
      have LR : (ms.length : Int) ≤ (L.length : Int) := by rw [HL.out, List.length_append, Fr.recsV_len, pl]; omega
      have LN : (ys.length : Int) ≤ ((ys.length + nn : Nat) : Int) := by omega
      have HG : Hid (∀ k e o p, k < ms.length → ms.getD k (0, 0, []) = (e, o, p) → L.getD k (0, []) = (52776558133248 + (k : Int), p)) := Lib.hid (fun k e o p hk he => by
        rw [HL.out, List.getD_eq_getElem?_getD, List.getElem?_append_left (by rw [Fr.recsV_len, pl]; exact hk), ← List.getD_eq_getElem?_getD, Fr.recsV_get _ _ _ (by rw [pl]; exact hk)]
        congr 1
        rw [List.getD_eq_getElem?_getD] at he ⊢
        unfold pays
        rw [List.getElem?_map]
        rw [List.getElem?_eq_getElem hk] at he ⊢
        simp at he
        simp [he])
      generalize ((ys.length + nn : Nat) : Int) = N at *
      clear hN o4 d4 h4 SC HL HS pl HO D2 O2 O3 D3 HR
      go_wp2
      go_loopw [13] (fun iv wq => ∃ k : Nat, k ≤ ms.length ∧ iv = .int .i64 k ∧ Hid (Below w4.heap.size w4 wq)) (fun iv _ => ms.length - (intOf iv).toNat)
      case atStart => exact ⟨0, Nat.zero_le _, rfl, Lib.hid (Below.refl _ _)⟩
      case round =>
        obtain ⟨k, hk, rfl, HQ⟩ := hrel
        by_cases hlt : k < ms.length
        · have hlt' : (k : Int) < (ms.length : Int) := by omega
          have hlt2 : (k : Int) < (L.length : Int) := by omega
          obtain ⟨b, off, ea, oa, p, Ai, ci, rfl, hbb, c0, c1, c2, he, hp, hpl⟩ := (HM.out.below (B4.out.trans (HQ.out.mono B4.out.size))).at_ hlt
          obtain ⟨g, A5, c5, at_, p2, rfl, hg, x0, x1, hb2, he2⟩ := (O4.out.grew HQ.out (Nat.le_refl _)).at_ (i := k) (by omega)
          have hq := HG.out k ea oa p hlt he.out
          rw [he2.out] at hq
          obtain ⟨rfl, rfl⟩ : at_ = 52776558133248 + (k : Int) ∧ p2 = p := by injection hq with h1 h2; exact ⟨h1, h2⟩
          have CO : Hid (∀ W, Calls Tryd.prog 21 #[.int .u64 (52776558133248 + (k : Int))] W fun r w' => r = .returned (.int .i64 (k : Int)) ∧ W = w') := Lib.hid fun W => by
            have h := off_any (52776558133248 + (k : Int)) (by omega) (by omega) W
            rw [show Pl.offV (52776558133248 + (k : Int)) = (k : Int) by unfold Pl.offV; omega] at h
            exact h
          have CE : Hid (∀ W, Calls Tryd.prog 22 #[.int .u64 (52776558133248 + (k : Int))] W fun r w' => r = .returned (.int .i64 3) ∧ W = w') := Lib.hid fun W => by
            have h := epoch_any (52776558133248 + (k : Int)) (by omega) (by omega) W
            rw [show Pl.epochV (52776558133248 + (k : Int)) = 3 by unfold Pl.epochV; omega] at h
            exact h
          have cva := fun n => conv_str (w := wr.drewN n) (hb2.out.keep fun _ _ _ => rfl) c5
          have cvb := fun n => conv_str (w := wr.drewN n) (hp.out.keep fun _ _ _ => rfl) ci
          generalize strOfNums p2 = st at *
          clear hq
          go_wp2_with fail
          go_quiet ((first | (go_at_call 21; exact still CO.out) | (go_at_call 22; exact still CE.out)))
          go_wp2
          go_roundw
          case rel => exact ⟨k + 1, by omega, by go_num, Lib.hid (below_n HQ.out _)⟩
          case measure => simp [intOf]; omega
        · have hlt' : (ms.length : Int) ≤ (k : Int) := by omega
          clear hlt
          go_wp2
          go_ret
          exact ⟨rfl, B4.out.trans (HQ.out.mono B4.out.size)⟩
theorem behind_walk (A1 A2 : Option Addr) (ms : List Mk) (rs : List Int) (cap1 cap2 : Nat) (w : World) (hm : Marks w w.heap.size A1 ms) (hb : Bytes w w.heap.size A2 rs) (hF : Facts w) :
    Calls Tryd.prog 8 #[.slice A1 ms.length cap1, .slice A2 rs.length cap2] w fun e w' => e = .returned (.bool true) ∧ Below w.heap.size w w' := by
  by_cases h : ms.length ≤ 10 ∧ rs.length ≤ 300
  · exact behind_core A1 A2 ms rs cap1 cap2 h.1 h.2 w hm hb (Lib.hid hF)
  · exact behind_off A1 A2 _ _ cap1 cap2 (by omega) w (Lib.hid hF)
end Go.Proofs.YtlaomaefhanacaaDoor
