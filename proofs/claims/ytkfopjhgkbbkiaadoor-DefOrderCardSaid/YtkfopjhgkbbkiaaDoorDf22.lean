/-
  Part 22 of the texts behind the law: DfBackL, DfOrderL.
-/
import Derived.Test.YtkfopjhgkbbkiaaDoorDf19
import Derived.Test.YtkfopjhgkbbkiaaDoorDf21
import Derived.Deep.RegionHeld
import Derived.Test.YtkfopjhgkbbkiaaDoorDf16
import Derived.Deep.QuietTactic
/-
  The law DefBack, walked: what is read may be, is shown, and is read again as the same.
-/
namespace Go.Proofs.YtkfopjhgkbbkiaaDoor
open Go.RowKit
theorem parse_of_size {s : ByteArray} {d : Df.D} (h : Df.parse s.data.toList = (d, 0)) : Df.Ok d ∧ Df.showT d = Df.text d ∧ (str (Df.text d)).size ≤ s.size ∧ Df.parse (str (Df.text d)).data.toList = (d, 0) := by
  obtain ⟨h1, h2, h3, h4⟩ := Df.parse_back h
  refine ⟨h1, h2, ?_, ?_⟩
  · unfold str
    rw [ByteArray.size, List.size_toArray, ByteArray.size, ← Array.length_toList]
    exact h3
  · unfold str
    rw [List.toList_toArray]
    exact h4
def ListN (w : World) (e : Ending) (w' : World) : Prop := ∃ A cap, e = .returned (.slice A 0 cap) ∧ Hid (Below w.heap.size w w')
set_option maxRecDepth 100000 in
set_option maxHeartbeats 8000000 in
theorem back_walk (s : ByteArray) (hs : s.size ≤ 140737488355328) (w : World) (hF : FactsD w) : Calls Tryd.prog 4 #[.string s] w (BoolG w true) := by
  have AW : Hid (Calls Tryd.prog 6 #[] w (BoolG w true)) := Lib.hid (awake_any w hF)
  by_cases hl : 1024 < s.size
  · have hd : decide ((1024 : Int) < (s.size : Int)) = true := decide_eq_true (by omega)
    go_enter Tryd.func4, Tryd.ntmps4
    go_wp2_with fail
    (with_reducible refine AW.out.mono ?_); rintro e w1 ⟨rfl, b1⟩
    go_wp2
    go_ret
    exact ⟨rfl, b1⟩
  have hl' : (s.size : Int) ≤ 1024 := by omega
  obtain ⟨d, x, hp⟩ : ∃ d x, Df.parse s.data.toList = (d, x) := ⟨_, _, rfl⟩
  have PA : Hid (∀ W, Below w.heap.size w W → Calls Tryd.prog 8 #[.string s] W (ParseY W d d.length x)) := Lib.hid fun W hW => (parse_any s hs W (hF.on hW)).mono fun e w' h => h.of hp rfl
  by_cases hx : x = 0
  · subst hx
    obtain ⟨hk, ht, hsz, hp2⟩ := parse_of_size hp
    obtain ⟨tx, htx⟩ : ∃ tx, tx = str (Df.text d) := ⟨_, rfl⟩
    rw [← htx] at hsz hp2
    have FD := Lib.hid hk.fair
    have hn1 := hk.n1
    have hn16 := hk.n16
    obtain ⟨n, hn⟩ : ∃ n, n = d.length := ⟨_, rfl⟩
    have HN := Lib.hid hn
    rw [← hn] at PA hn1 hn16
    have P2 : Hid (∀ W, Below w.heap.size w W → Calls Tryd.prog 8 #[.string tx] W (ParseY W d n 0)) := Lib.hid fun W hW => (parse_any tx (by omega) W (hF.on hW)).mono fun e w' h => h.of hp2 hn.symm
    have SH : Hid (∀ W A cap, Below w.heap.size w W → DefIn W W.heap.size A d → Calls Tryd.prog 10 #[.agg #[.slice A n cap]] W (StrG W tx)) := Lib.hid fun W A cap hW hD => by
      have := show_any A d cap FD.out W (hF.on hW) hD
      rwa [ht, ← htx, ← hn] at this
    have GD : Hid (∀ W A cap, Below w.heap.size w W → DefIn W W.heap.size A d → Calls Tryd.prog 11 #[.agg #[.slice A n cap]] W (IntG W 0)) := Lib.hid fun W A cap hW hD => by
      have := goodD_any A d cap FD.out W (hF.on hW) hD
      rwa [Df.good_iff.2 hk, ← hn] at this
    have DO : Hid (∀ W A cap, DefIn W W.heap.size A d → Calls Tryd.prog 13 #[.agg #[.slice A n cap]] W (DefsG W d n)) := Lib.hid fun W A cap hD => defOf_any A d n cap hn (by omega) W hD
    have SA : Hid (∀ W A cap A2 cap2, DefIn W W.heap.size A d → DefIn W W.heap.size A2 d → Calls Tryd.prog 12 #[.slice A n cap, .slice A2 n cap2] W (BoolG W true)) := Lib.hid fun W A cap A2 cap2 h1 h2 => by
      have := same_yes A A2 d cap cap2 FD.out W h1 h2
      rwa [← hn] at this
    obtain ⟨es, hes⟩ : ∃ es, es = Df.graphI d := ⟨_, rfl⟩
    have GR : Hid (∀ W A cap, Below w.heap.size w W → DefIn W W.heap.size A d → Calls Tryd.prog 9 #[.agg #[.slice A n cap]] W (GraphG W n es)) := Lib.hid fun W A cap hW hD => by
      have := graphD_any A d cap FD.out W (hF.on hW) hD
      rwa [← hes, ← hn] at this
    have CY : Hid (∀ W A cap, Edg W W.heap.size A es → Calls Tryd.prog 14 #[.agg #[.int .i64 n, .slice A es.length cap]] W (ListN W)) := Lib.hid fun W A cap hE => by
      have hG : Gr.Good (n : Int) es := by rw [hn, hes]; exact Df.graph_good hk.n16
      have := cycle_any (n : Int) A es cap (by have := hG.len; omega) W hE
      have h0 : Gr.cycleI (n : Int) es = [] := by
        have h1 := To.ok_cycle hG
        rw [hn, hes, hk.tree] at h1
        rw [hn, hes]
        exact List.isEmpty_iff.1 h1.symm
      rw [h0] at this
      exact this.mono fun e w' h => by
        obtain ⟨A', c', h1, _, h2⟩ := h
        exact ⟨A', c', h1, h2⟩
    have hm1 : IntKind.i64.wrap (11 * (n : Int)) = 11 * (n : Int) := IntWalk.i64_in _ (by omega)
    have hm2 : IntKind.i64.wrap ((s.size : Int) + 11 * (n : Int)) = (s.size : Int) + 11 * (n : Int) := IntWalk.i64_in _ (by omega)
    have hle : decide ((tx.size : Int) ≤ (s.size : Int) + 11 * (n : Int)) = true := decide_eq_true (by omega)
    have M1 := Lib.hid hm1
    have M2 := Lib.hid hm2
    have LE := Lib.hid hle
    clear hp hp2 ht htx hk hes hn hs hm1 hm2 hle hsz
    go_enter Tryd.func4, Tryd.ntmps4
    go_wp2_with fail
    (with_reducible refine AW.out.mono ?_); rintro e w1 ⟨rfl, b1⟩
    go_wp2_with fail
    (with_reducible refine (PA.out _ b1.out).mono ?_); rintro e w2 ⟨A, cap, rfl, di, b2⟩
    obtain ⟨X, hX⟩ : ∃ X, X = w2.heap.size := ⟨_, rfl⟩
    obtain ⟨W3, hW3⟩ : ∃ W3, W3 = w2.alloc (.cells #[.slice A n cap] 29) := ⟨_, rfl⟩
    have BA : Hid (Below w2.heap.size w2 W3) := Lib.hid (by rw [hW3]; exact (Below.refl _ _).alloc (Nat.le_refl _) _)
    have C3 : Hid (W3.cell? ⟨X, 0, none⟩ = some (.slice A n cap)) := Lib.hid (by rw [hW3, hX]; exact cell_lit _ _ _)
    have X3 : Hid (X < W3.heap.size) := Lib.hid (by rw [hW3, hX]; simp)
    have B3 : Hid (Below w.heap.size w W3) := Lib.hid ((b1.out.trans (b2.out.mono b1.out.size)).trans (BA.out.mono (Nat.le_trans b1.out.size b2.out.size)))
    have D3 : Hid (DefIn W3 W3.heap.size A d) := Lib.hid (di.out.on BA.out)
    go_upto_region 6 with fail
    rw [← hW3, ← hX]
    clear hW3 hX b1 b2 di BA
    have y0 := C3.out
    go_wp2_with fail
    (with_reducible refine (SH.out _ A cap B3.out D3.out).mono ?_); rintro e w4 ⟨rfl, b4⟩
    have B4 : Hid (Below w.heap.size w w4) := Lib.hid (B3.out.trans (b4.out.mono B3.out.size))
    have D4 : Hid (DefIn w4 w4.heap.size A d) := Lib.hid (D3.out.on b4.out)
    have C4 : Hid (w4.cell? ⟨X, 0, none⟩ = some (.slice A n cap)) := Lib.hid ((b4.out.cell (p := ⟨X, 0, none⟩) X3.out).trans C3.out)
    have X4 : Hid (X < w4.heap.size) := Lib.hid (Nat.lt_of_lt_of_le X3.out b4.out.size)
    clear y0 b4 B3 D3 C3 X3
    go_wp2_with fail
    (with_reducible refine (P2.out _ B4.out).mono ?_); rintro e w5 ⟨A2, cap2, rfl, di, b5⟩
    obtain ⟨Y, hY⟩ : ∃ Y, Y = w5.heap.size := ⟨_, rfl⟩
    obtain ⟨W6, hW6⟩ : ∃ W6, W6 = w5.alloc (.cells #[.slice A2 n cap2] 29) := ⟨_, rfl⟩
    have BA : Hid (Below w5.heap.size w5 W6) := Lib.hid (by rw [hW6]; exact (Below.refl _ _).alloc (Nat.le_refl _) _)
    have Y6 : Hid (W6.cell? ⟨Y, 0, none⟩ = some (.slice A2 n cap2)) := Lib.hid (by rw [hW6, hY]; exact cell_lit _ _ _)
    have X6 : Hid (X < W6.heap.size ∧ Y < W6.heap.size) := Lib.hid (by have h1 := b5.out.size; have h2 := X4.out; rw [hW6, hY, World.size_alloc]; omega)
    have B6 : Hid (Below w.heap.size w W6) := Lib.hid ((B4.out.trans (b5.out.mono B4.out.size)).trans (BA.out.mono (Nat.le_trans B4.out.size b5.out.size)))
    have D6 : Hid (DefIn W6 W6.heap.size A d) := Lib.hid ((D4.out.on b5.out).on BA.out)
    have E6 : Hid (DefIn W6 W6.heap.size A2 d) := Lib.hid (di.out.on BA.out)
    have C6 : Hid (W6.cell? ⟨X, 0, none⟩ = some (.slice A n cap)) := Lib.hid ((BA.out.cell (p := ⟨X, 0, none⟩) (Nat.lt_of_lt_of_le X4.out b5.out.size)).trans ((b5.out.cell (p := ⟨X, 0, none⟩) X4.out).trans C4.out))
    go_upto_region 10 with fail
    rw [← hW6, ← hY]
    clear hW6 hY b5 di BA B4 D4 C4 X4
    have SM : Hid (∀ W, Below W6.heap.size W6 W → W.cell? ⟨X, 0, none⟩ = some (.slice A n cap) ∧ W.cell? ⟨Y, 0, none⟩ = some (.slice A2 n cap2)) := Lib.hid fun W hW => ⟨(hW.cell (p := ⟨X, 0, none⟩) X6.out.1).trans C6.out, (hW.cell (p := ⟨Y, 0, none⟩) X6.out.2).trans Y6.out⟩
    have FB : Hid (Below W6.heap.size W6 W6.drew) := Lib.hid (Below.refl _ _).drew
    have BB : Hid (∀ W, Below W6.heap.size W6 W → Below w.heap.size w W) := Lib.hid fun W hW => B6.out.trans (hW.mono B6.out.size)
    refine wp_region_held_drew (S := fun w' => w'.cell? ⟨X, 0, none⟩ = some (.slice A n cap) ∧ w'.cell? ⟨Y, 0, none⟩ = some (.slice A2 n cap2)) (by kernel_rfl) ?hS0 (fun hHeld => ?_)
    case hS0 => exact SM.out _ FB.out
    refine wpAnyH_take (i := 0) (oi := ?o1001) (v := ?v1001) ?hi1001 (by kernel_rfl) (by kernel_rfl) (by kernel_rfl) ?hQ1001 (Or.inl ⟨?hg1001, ?hy1001⟩) (by assumption) ?rest1001
    case hi1001 => (simp only [List.getElem?_toArray, List.getElem?_cons_zero]; exact rfl)
    case hQ1001 => exact fun _ _ _ h => h
    case hg1001 => rfl
    case hy1001 => (intro w' hSw; (try dsimp only at hSw); go_simp; try with_reducible rfl)
    try simp only [Act.put, List.setIfInBounds_toArray, List.set_cons_zero, List.set_cons_succ]
    refine wpAnyH_ready (rs := [1]) (by kernel_rfl) (by simp) ?_
    refine AllReadyH.cons (o := ?o1002) ?hi1002 (fun K hK => ?_) AllReadyH.nil
    case hi1002 => (simp only [List.getElem?_toArray, List.getElem?_cons_zero, List.getElem?_cons_succ]; exact rfl)
    (go_simp; go_at_call 11; (with_reducible refine (GD.out _ A cap (BB.out _ FB.out) (D6.out.on FB.out)).mono ?_); rintro e u1 ⟨rfl, c1⟩; try dsimp only)
    have FB : Hid (Below W6.heap.size W6 _) := Lib.hid (FB.out.trans (c1.out.mono FB.out.size))
    refine hK.out _ _ ?_ (fun hHeld => ?_)
    · exact SM.out _ FB.out
    clear hK K
    try simp only [Act.put, List.setIfInBounds_toArray, List.set_cons_zero, List.set_cons_succ]
    refine wpAnyH_take (i := 2) (oi := ?o1003) (v := ?v1003) ?hi1003 (by kernel_rfl) (by kernel_rfl) (by kernel_rfl) ?hQ1003 (Or.inl ⟨?hg1003, ?hy1003⟩) (by assumption) ?rest1003
    case hi1003 => (simp only [List.getElem?_toArray, List.getElem?_cons_zero, List.getElem?_cons_succ]; exact rfl)
    case hQ1003 => exact fun _ _ _ h => h
    case hg1003 => rfl
    case hy1003 => (intro w' hSw; (try dsimp only at hSw); go_simp; try with_reducible rfl)
    try simp only [Act.put, List.setIfInBounds_toArray, List.set_cons_zero, List.set_cons_succ]
    refine wpAnyH_take (i := 3) (oi := ?o1004) (v := ?v1004) ?hi1004 (by kernel_rfl) (by kernel_rfl) (by kernel_rfl) ?hQ1004 (Or.inl ⟨?hg1004, ?hy1004⟩) (by assumption) ?rest1004
    case hi1004 => (simp only [List.getElem?_toArray, List.getElem?_cons_zero, List.getElem?_cons_succ]; exact rfl)
    case hQ1004 => exact fun _ _ _ h => h
    case hg1004 => rfl
    case hy1004 => (intro w' hSw; (try dsimp only at hSw); go_simp; try with_reducible rfl)
    try simp only [Act.put, List.setIfInBounds_toArray, List.set_cons_zero, List.set_cons_succ]
    refine wpAnyH_take (i := 4) (oi := ?o1005) (v := ?v1005) ?hi1005 (by kernel_rfl) (by kernel_rfl) (by kernel_rfl) ?hQ1005 (Or.inl ⟨?hg1005, ?hy1005⟩) (by assumption) ?rest1005
    case hi1005 => (simp only [List.getElem?_toArray, List.getElem?_cons_zero, List.getElem?_cons_succ]; exact rfl)
    case hQ1005 => exact fun _ _ _ h => h
    case hg1005 => rfl
    case hy1005 => (intro w' hSw; (try dsimp only at hSw); go_simp; try with_reducible rfl)
    try simp only [Act.put, List.setIfInBounds_toArray, List.set_cons_zero, List.set_cons_succ]
    refine wpAnyH_take (i := 5) (oi := ?o1006) (v := ?v1006) ?hi1006 (by kernel_rfl) (by kernel_rfl) (by kernel_rfl) ?hQ1006 (Or.inl ⟨?hg1006, ?hy1006⟩) (by assumption) ?rest1006
    case hi1006 => (simp only [List.getElem?_toArray, List.getElem?_cons_zero, List.getElem?_cons_succ]; exact rfl)
    case hQ1006 => exact fun _ _ _ h => h
    case hg1006 => rfl
    case hy1006 => (intro w' hSw; (try dsimp only at hSw); go_simp; try with_reducible rfl)
    try simp only [Act.put, List.setIfInBounds_toArray, List.set_cons_zero, List.set_cons_succ]
    refine wpAnyH_take (i := 6) (oi := ?o1007) (v := ?v1007) ?hi1007 (by kernel_rfl) (by kernel_rfl) (by kernel_rfl) ?hQ1007 (Or.inl ⟨?hg1007, ?hy1007⟩) (by assumption) ?rest1007
    case hi1007 => (simp only [List.getElem?_toArray, List.getElem?_cons_zero, List.getElem?_cons_succ]; exact rfl)
    case hQ1007 => exact fun _ _ _ h => h
    case hg1007 => rfl
    case hy1007 => (intro w' hSw; (try dsimp only at hSw); go_simp; try with_reducible rfl)
    try simp only [Act.put, List.setIfInBounds_toArray, List.set_cons_zero, List.set_cons_succ]
    refine wpAnyH_take (i := 7) (oi := ?o1008) (v := ?v1008) ?hi1008 (by kernel_rfl) (by kernel_rfl) (by kernel_rfl) ?hQ1008 (Or.inl ⟨?hg1008, ?hy1008⟩) (by assumption) ?rest1008
    case hi1008 => (simp only [List.getElem?_toArray, List.getElem?_cons_zero, List.getElem?_cons_succ]; exact rfl)
    case hQ1008 => exact fun _ _ _ h => h
    case hg1008 => rfl
    case hy1008 => (intro w' hSw; (try dsimp only at hSw); go_simp; try with_reducible rfl)
    try simp only [Act.put, List.setIfInBounds_toArray, List.set_cons_zero, List.set_cons_succ]
    refine wpAnyH_take (i := 8) (oi := ?o1009) (v := ?v1009) ?hi1009 (by kernel_rfl) (by kernel_rfl) (by kernel_rfl) ?hQ1009 (Or.inl ⟨?hg1009, ?hy1009⟩) (by assumption) ?rest1009
    case hi1009 => (simp only [List.getElem?_toArray, List.getElem?_cons_zero, List.getElem?_cons_succ]; exact rfl)
    case hQ1009 => exact fun _ _ _ h => h
    case hg1009 => rfl
    case hy1009 => (intro w' hSw; (try dsimp only at hSw); go_simp; try with_reducible rfl)
    try simp only [Act.put, List.setIfInBounds_toArray, List.set_cons_zero, List.set_cons_succ]
    refine wpAnyH_take (i := 10) (oi := ?o1010) (v := ?v1010) ?hi1010 (by kernel_rfl) (by kernel_rfl) (by kernel_rfl) ?hQ1010 (Or.inl ⟨?hg1010, ?hy1010⟩) (by assumption) ?rest1010
    case hi1010 => (simp only [List.getElem?_toArray, List.getElem?_cons_zero, List.getElem?_cons_succ]; exact rfl)
    case hQ1010 => exact fun _ _ _ h => h
    case hg1010 => rfl
    case hy1010 => (intro w' hSw; (try dsimp only at hSw); go_simp; try with_reducible rfl)
    try simp only [Act.put, List.setIfInBounds_toArray, List.set_cons_zero, List.set_cons_succ]
    refine wpAnyH_ready (rs := [9]) (by kernel_rfl) (by simp) ?_
    refine AllReadyH.cons (o := ?o1011) ?hi1011 (fun K hK => ?_) AllReadyH.nil
    case hi1011 => (simp only [List.getElem?_toArray, List.getElem?_cons_zero, List.getElem?_cons_succ]; exact rfl)
    (go_simp; go_at_call 13; (with_reducible refine (DO.out _ A2 cap2 (E6.out.on FB.out)).mono ?_); rintro e u9 ⟨A7, c7, rfl, d7, c9⟩; try dsimp only)
    have FB : Hid (Below W6.heap.size W6 _) := Lib.hid (FB.out.trans (c9.out.mono FB.out.size))
    refine hK.out _ _ ?_ (fun hHeld => ?_)
    · exact SM.out _ FB.out
    clear hK K
    try simp only [Act.put, List.setIfInBounds_toArray, List.set_cons_zero, List.set_cons_succ]
    refine wpAnyH_ready (rs := [11]) (by kernel_rfl) (by simp) ?_
    refine AllReadyH.cons (o := ?o1012) ?hi1012 (fun K hK => ?_) AllReadyH.nil
    case hi1012 => (simp only [List.getElem?_toArray, List.getElem?_cons_zero, List.getElem?_cons_succ]; exact rfl)
    (go_simp; go_at_call 13; (with_reducible refine (DO.out _ A cap (D6.out.on FB.out)).mono ?_); rintro e u11 ⟨A8, c8, rfl, d8, c11⟩; try dsimp only)
    have FB : Hid (Below W6.heap.size W6 _) := Lib.hid (FB.out.trans (c11.out.mono FB.out.size))
    have d7 := Lib.hid (d7.out.on c11.out)
    refine hK.out _ _ ?_ (fun hHeld => ?_)
    · exact SM.out _ FB.out
    clear hK K
    try simp only [Act.put, List.setIfInBounds_toArray, List.set_cons_zero, List.set_cons_succ]
    refine wpAnyH_ready (rs := [12]) (by kernel_rfl) (by simp) ?_
    refine AllReadyH.cons (o := ?o1013) ?hi1013 (fun K hK => ?_) AllReadyH.nil
    case hi1013 => (simp only [List.getElem?_toArray, List.getElem?_cons_zero, List.getElem?_cons_succ]; exact rfl)
    (go_simp; go_at_call 12; (with_reducible refine (SA.out _ A7 c7 A8 c8 d7.out d8.out).mono ?_); rintro e u12 ⟨rfl, c12⟩; try dsimp only)
    have FB : Hid (Below W6.heap.size W6 _) := Lib.hid (FB.out.trans (c12.out.mono FB.out.size))
    refine hK.out _ _ ?_ (fun hHeld => ?_)
    · exact SM.out _ FB.out
    clear hK K
    try simp only [Act.put, List.setIfInBounds_toArray, List.set_cons_zero, List.set_cons_succ]
    refine wpAnyH_take (i := 13) (oi := ?o1014) (v := ?v1014) ?hi1014 (by kernel_rfl) (by kernel_rfl) (by kernel_rfl) ?hQ1014 (Or.inl ⟨?hg1014, ?hy1014⟩) (by assumption) ?rest1014
    case hi1014 => (simp only [List.getElem?_toArray, List.getElem?_cons_zero, List.getElem?_cons_succ]; exact rfl)
    case hQ1014 => exact fun _ _ _ h => h
    case hg1014 => rfl
    case hy1014 => (intro w' hSw; (try dsimp only at hSw); go_simp; try with_reducible rfl)
    try simp only [Act.put, List.setIfInBounds_toArray, List.set_cons_zero, List.set_cons_succ]
    refine wpAnyH_take (i := 14) (oi := ?o1015) (v := ?v1015) ?hi1015 (by kernel_rfl) (by kernel_rfl) (by kernel_rfl) ?hQ1015 (Or.inl ⟨?hg1015, ?hy1015⟩) (by assumption) ?rest1015
    case hi1015 => (simp only [List.getElem?_toArray, List.getElem?_cons_zero, List.getElem?_cons_succ]; exact rfl)
    case hQ1015 => exact fun _ _ _ h => h
    case hg1015 => rfl
    case hy1015 => (intro w' hSw; (try dsimp only at hSw); go_simp; try with_reducible rfl)
    try simp only [Act.put, List.setIfInBounds_toArray, List.set_cons_zero, List.set_cons_succ]
    refine wpAnyH_take (i := 15) (oi := ?o1016) (v := ?v1016) ?hi1016 (by kernel_rfl) (by kernel_rfl) (by kernel_rfl) ?hQ1016 (Or.inl ⟨?hg1016, ?hy1016⟩) (by assumption) ?rest1016
    case hi1016 => (simp only [List.getElem?_toArray, List.getElem?_cons_zero, List.getElem?_cons_succ]; exact rfl)
    case hQ1016 => exact fun _ _ _ h => h
    case hg1016 => rfl
    case hy1016 => (intro w' hSw; (try dsimp only at hSw); go_simp; try with_reducible rfl)
    try simp only [Act.put, List.setIfInBounds_toArray, List.set_cons_zero, List.set_cons_succ]
    refine wpAnyH_take (i := 17) (oi := ?o1017) (v := ?v1017) ?hi1017 (by kernel_rfl) (by kernel_rfl) (by kernel_rfl) ?hQ1017 (Or.inl ⟨?hg1017, ?hy1017⟩) (by assumption) ?rest1017
    case hi1017 => (simp only [List.getElem?_toArray, List.getElem?_cons_zero, List.getElem?_cons_succ]; exact rfl)
    case hQ1017 => exact fun _ _ _ h => h
    case hg1017 => rfl
    case hy1017 => (intro w' hSw; (try dsimp only at hSw); go_simp; try with_reducible rfl)
    try simp only [Act.put, List.setIfInBounds_toArray, List.set_cons_zero, List.set_cons_succ]
    refine wpAnyH_ready (rs := [16]) (by kernel_rfl) (by simp) ?_
    refine AllReadyH.cons (o := ?o1018) ?hi1018 (fun K hK => ?_) AllReadyH.nil
    case hi1018 => (simp only [List.getElem?_toArray, List.getElem?_cons_zero, List.getElem?_cons_succ]; exact rfl)
    (go_simp; go_at_call 10; (with_reducible refine (SH.out _ A2 cap2 (BB.out _ FB.out) (E6.out.on FB.out)).mono ?_); rintro e u16 ⟨rfl, c16⟩; try dsimp only)
    have FB : Hid (Below W6.heap.size W6 _) := Lib.hid (FB.out.trans (c16.out.mono FB.out.size))
    refine hK.out _ _ ?_ (fun hHeld => ?_)
    · exact SM.out _ FB.out
    clear hK K
    try simp only [Act.put, List.setIfInBounds_toArray, List.set_cons_zero, List.set_cons_succ]
    refine wpAnyH_take (i := 18) (oi := ?o1019) (v := ?v1019) ?hi1019 (by kernel_rfl) (by kernel_rfl) (by kernel_rfl) ?hQ1019 (Or.inl ⟨?hg1019, ?hy1019⟩) (by assumption) ?rest1019
    case hi1019 => (simp only [List.getElem?_toArray, List.getElem?_cons_zero, List.getElem?_cons_succ]; exact rfl)
    case hQ1019 => exact fun _ _ _ h => h
    case hg1019 => rfl
    case hy1019 => (intro w' hSw; (try dsimp only at hSw); go_simp; try with_reducible rfl)
    try simp only [Act.put, List.setIfInBounds_toArray, List.set_cons_zero, List.set_cons_succ]
    refine wpAnyH_take (i := 19) (oi := ?o1020) (v := ?v1020) ?hi1020 (by kernel_rfl) (by kernel_rfl) (by kernel_rfl) ?hQ1020 (Or.inl ⟨?hg1020, ?hy1020⟩) (by assumption) ?rest1020
    case hi1020 => (simp only [List.getElem?_toArray, List.getElem?_cons_zero, List.getElem?_cons_succ]; exact rfl)
    case hQ1020 => exact fun _ _ _ h => h
    case hg1020 => rfl
    case hy1020 => (intro w' hSw; (try dsimp only at hSw); go_simp; try with_reducible rfl)
    try simp only [Act.put, List.setIfInBounds_toArray, List.set_cons_zero, List.set_cons_succ]
    refine wpAnyH_take (i := 20) (oi := ?o1021) (v := ?v1021) ?hi1021 (by kernel_rfl) (by kernel_rfl) (by kernel_rfl) ?hQ1021 (Or.inl ⟨?hg1021, ?hy1021⟩) (by assumption) ?rest1021
    case hi1021 => (simp only [List.getElem?_toArray, List.getElem?_cons_zero, List.getElem?_cons_succ]; exact rfl)
    case hQ1021 => exact fun _ _ _ h => h
    case hg1021 => rfl
    case hy1021 => (intro w' hSw; (try dsimp only at hSw); go_simp; try with_reducible rfl)
    try simp only [Act.put, List.setIfInBounds_toArray, List.set_cons_zero, List.set_cons_succ]
    refine wpAnyH_take (i := 21) (oi := ?o1022) (v := ?v1022) ?hi1022 (by kernel_rfl) (by kernel_rfl) (by kernel_rfl) ?hQ1022 (Or.inl ⟨?hg1022, ?hy1022⟩) (by assumption) ?rest1022
    case hi1022 => (simp only [List.getElem?_toArray, List.getElem?_cons_zero, List.getElem?_cons_succ]; exact rfl)
    case hQ1022 => exact fun _ _ _ h => h
    case hg1022 => rfl
    case hy1022 => (intro w' hSw; (try dsimp only at hSw); go_simp; try with_reducible rfl)
    try simp only [Act.put, List.setIfInBounds_toArray, List.set_cons_zero, List.set_cons_succ]
    refine wpAnyH_take (i := 22) (oi := ?o1023) (v := ?v1023) ?hi1023 (by kernel_rfl) (by kernel_rfl) (by kernel_rfl) ?hQ1023 (Or.inl ⟨?hg1023, ?hy1023⟩) (by assumption) ?rest1023
    case hi1023 => (simp only [List.getElem?_toArray, List.getElem?_cons_zero, List.getElem?_cons_succ]; exact rfl)
    case hQ1023 => exact fun _ _ _ h => h
    case hg1023 => rfl
    case hy1023 => (intro w' hSw; (try dsimp only at hSw); go_simp; try with_reducible rfl)
    try simp only [Act.put, List.setIfInBounds_toArray, List.set_cons_zero, List.set_cons_succ]
    refine wpAnyH_take (i := 23) (oi := ?o1024) (v := ?v1024) ?hi1024 (by kernel_rfl) (by kernel_rfl) (by kernel_rfl) ?hQ1024 (Or.inl ⟨?hg1024, ?hy1024⟩) (by assumption) ?rest1024
    case hi1024 => (simp only [List.getElem?_toArray, List.getElem?_cons_zero, List.getElem?_cons_succ]; exact rfl)
    case hQ1024 => exact fun _ _ _ h => h
    case hg1024 => rfl
    case hy1024 => (intro w' hSw; (try dsimp only at hSw); go_simp; try with_reducible rfl)
    try simp only [Act.put, List.setIfInBounds_toArray, List.set_cons_zero, List.set_cons_succ]
    refine wpAnyH_take (i := 24) (oi := ?o1025) (v := ?v1025) ?hi1025 (by kernel_rfl) (by kernel_rfl) (by kernel_rfl) ?hQ1025 (Or.inl ⟨?hg1025, ?hy1025⟩) (by assumption) ?rest1025
    case hi1025 => (simp only [List.getElem?_toArray, List.getElem?_cons_zero, List.getElem?_cons_succ]; exact rfl)
    case hQ1025 => exact fun _ _ _ h => h
    case hg1025 => rfl
    case hy1025 => (intro w' hSw; (try dsimp only at hSw); go_simp; try with_reducible rfl)
    try simp only [Act.put, List.setIfInBounds_toArray, List.set_cons_zero, List.set_cons_succ]
    refine wpAnyH_take (i := 25) (oi := ?o1026) (v := ?v1026) ?hi1026 (by kernel_rfl) (by kernel_rfl) (by kernel_rfl) ?hQ1026 (Or.inl ⟨?hg1026, ?hy1026⟩) (by assumption) ?rest1026
    case hi1026 => (simp only [List.getElem?_toArray, List.getElem?_cons_zero, List.getElem?_cons_succ]; exact rfl)
    case hQ1026 => exact fun _ _ _ h => h
    case hg1026 => rfl
    case hy1026 => (intro w' hSw; (try dsimp only at hSw); go_simp; try with_reducible rfl)
    try simp only [Act.put, List.setIfInBounds_toArray, List.set_cons_zero, List.set_cons_succ]
    refine wpAnyH_take (i := 26) (oi := ?o1027) (v := ?v1027) ?hi1027 (by kernel_rfl) (by kernel_rfl) (by kernel_rfl) ?hQ1027 (Or.inl ⟨?hg1027, ?hy1027⟩) (by assumption) ?rest1027
    case hi1027 => (simp only [List.getElem?_toArray, List.getElem?_cons_zero, List.getElem?_cons_succ]; exact rfl)
    case hQ1027 => exact fun _ _ _ h => h
    case hg1027 => rfl
    case hy1027 => (intro w' hSw; (try dsimp only at hSw); go_simp; try with_reducible rfl)
    try simp only [Act.put, List.setIfInBounds_toArray, List.set_cons_zero, List.set_cons_succ]
    refine wpAnyH_take (i := 27) (oi := ?o1028) (v := ?v1028) ?hi1028 (by kernel_rfl) (by kernel_rfl) (by kernel_rfl) ?hQ1028 (Or.inl ⟨?hg1028, ?hy1028⟩) (by assumption) ?rest1028
    case hi1028 => (simp only [List.getElem?_toArray, List.getElem?_cons_zero, List.getElem?_cons_succ]; exact rfl)
    case hQ1028 => exact fun _ _ _ h => h
    case hg1028 => rfl
    case hy1028 => (intro w' hSw; (try dsimp only at hSw); go_simp; try with_reducible rfl)
    try simp only [Act.put, List.setIfInBounds_toArray, List.set_cons_zero, List.set_cons_succ]
    have hm1 := M1.out
    have hm2 := M2.out
    have hle := LE.out
    refine wpAnyH_take (i := 28) (oi := ?o1029) (v := ?v1029) ?hi1029 (by kernel_rfl) (by kernel_rfl) (by kernel_rfl) ?hQ1029 (Or.inl ⟨?hg1029, ?hy1029⟩) (by assumption) ?rest1029
    case hi1029 => (simp only [List.getElem?_toArray, List.getElem?_cons_zero, List.getElem?_cons_succ]; exact rfl)
    case hQ1029 => exact fun _ _ _ h => h
    case hg1029 => rfl
    case hy1029 => (intro w' hSw; (try dsimp only at hSw); go_simp; try with_reducible rfl)
    try simp only [Act.put, List.setIfInBounds_toArray, List.set_cons_zero, List.set_cons_succ]
    refine wpAnyH_take (i := 29) (oi := ?o1030) (v := ?v1030) ?hi1030 (by kernel_rfl) (by kernel_rfl) (by kernel_rfl) ?hQ1030 (Or.inl ⟨?hg1030, ?hy1030⟩) (by assumption) ?rest1030
    case hi1030 => (simp only [List.getElem?_toArray, List.getElem?_cons_zero, List.getElem?_cons_succ]; exact rfl)
    case hQ1030 => exact fun _ _ _ h => h
    case hg1030 => rfl
    case hy1030 => (intro w' hSw; (try dsimp only at hSw); go_simp; try with_reducible rfl)
    try simp only [Act.put, List.setIfInBounds_toArray, List.set_cons_zero, List.set_cons_succ]
    refine wpAnyH_take (i := 30) (oi := ?o1031) (v := ?v1031) ?hi1031 (by kernel_rfl) (by kernel_rfl) (by kernel_rfl) ?hQ1031 (Or.inl ⟨?hg1031, ?hy1031⟩) (by assumption) ?rest1031
    case hi1031 => (simp only [List.getElem?_toArray, List.getElem?_cons_zero, List.getElem?_cons_succ]; exact rfl)
    case hQ1031 => exact fun _ _ _ h => h
    case hg1031 => rfl
    case hy1031 => (intro w' hSw; (try dsimp only at hSw); go_simp; try with_reducible rfl)
    try simp only [Act.put, List.setIfInBounds_toArray, List.set_cons_zero, List.set_cons_succ]
    refine wpAnyH_take (i := 31) (oi := ?o1032) (v := ?v1032) ?hi1032 (by kernel_rfl) (by kernel_rfl) (by kernel_rfl) ?hQ1032 (Or.inl ⟨?hg1032, ?hy1032⟩) (by assumption) ?rest1032
    case hi1032 => (simp only [List.getElem?_toArray, List.getElem?_cons_zero, List.getElem?_cons_succ]; exact rfl)
    case hQ1032 => exact fun _ _ _ h => h
    case hg1032 => rfl
    case hy1032 => (intro w' hSw; (try dsimp only at hSw); go_simp; try with_reducible rfl)
    try simp only [Act.put, List.setIfInBounds_toArray, List.set_cons_zero, List.set_cons_succ]
    refine wpAnyH_take (i := 32) (oi := ?o1033) (v := ?v1033) ?hi1033 (by kernel_rfl) (by kernel_rfl) (by kernel_rfl) ?hQ1033 (Or.inl ⟨?hg1033, ?hy1033⟩) (by assumption) ?rest1033
    case hi1033 => (simp only [List.getElem?_toArray, List.getElem?_cons_zero, List.getElem?_cons_succ]; exact rfl)
    case hQ1033 => exact fun _ _ _ h => h
    case hg1033 => rfl
    case hy1033 => (intro w' hSw; (try dsimp only at hSw); go_simp; try with_reducible rfl)
    try simp only [Act.put, List.setIfInBounds_toArray, List.set_cons_zero, List.set_cons_succ]
    refine wpAnyH_take (i := 33) (oi := ?o1034) (v := ?v1034) ?hi1034 (by kernel_rfl) (by kernel_rfl) (by kernel_rfl) ?hQ1034 (Or.inl ⟨?hg1034, ?hy1034⟩) (by assumption) ?rest1034
    case hi1034 => (simp only [List.getElem?_toArray, List.getElem?_cons_zero, List.getElem?_cons_succ]; exact rfl)
    case hQ1034 => exact fun _ _ _ h => h
    case hg1034 => rfl
    case hy1034 => (intro w' hSw; (try dsimp only at hSw); go_simp; try with_reducible rfl)
    try simp only [Act.put, List.setIfInBounds_toArray, List.set_cons_zero, List.set_cons_succ]
    clear hm1 hm2 hle
    refine wpAnyH_ready (rs := [34]) (by kernel_rfl) (by simp) ?_
    refine AllReadyH.cons (o := ?o1035) ?hi1035 (fun K hK => ?_) AllReadyH.nil
    case hi1035 => (simp only [List.getElem?_toArray, List.getElem?_cons_zero, List.getElem?_cons_succ]; exact rfl)
    (go_simp; go_at_call 9; (with_reducible refine (GR.out _ A cap (BB.out _ FB.out) (D6.out.on FB.out)).mono ?_); rintro e u34 ⟨A9, c9', rfl, e9, c34⟩; try dsimp only)
    have FB : Hid (Below W6.heap.size W6 _) := Lib.hid (FB.out.trans (c34.out.mono FB.out.size))
    refine hK.out _ _ ?_ (fun hHeld => ?_)
    · exact SM.out _ FB.out
    clear hK K
    try simp only [Act.put, List.setIfInBounds_toArray, List.set_cons_zero, List.set_cons_succ]
    refine wpAnyH_ready (rs := [35]) (by kernel_rfl) (by simp) ?_
    refine AllReadyH.cons (o := ?o1036) ?hi1036 (fun K hK => ?_) AllReadyH.nil
    case hi1036 => (simp only [List.getElem?_toArray, List.getElem?_cons_zero, List.getElem?_cons_succ]; exact rfl)
    (go_simp; go_at_call 14; (with_reducible refine (CY.out _ A9 c9' e9.out).mono ?_); rintro e u35 ⟨A10, c10, rfl, c35⟩; try dsimp only)
    have FB : Hid (Below W6.heap.size W6 _) := Lib.hid (FB.out.trans (c35.out.mono FB.out.size))
    refine hK.out _ _ ?_ (fun hHeld => ?_)
    · exact SM.out _ FB.out
    clear hK K
    try simp only [Act.put, List.setIfInBounds_toArray, List.set_cons_zero, List.set_cons_succ]
    refine wpAnyH_take (i := 36) (oi := ?o1037) (v := ?v1037) ?hi1037 (by kernel_rfl) (by kernel_rfl) (by kernel_rfl) ?hQ1037 (Or.inl ⟨?hg1037, ?hy1037⟩) (by assumption) ?rest1037
    case hi1037 => (simp only [List.getElem?_toArray, List.getElem?_cons_zero, List.getElem?_cons_succ]; exact rfl)
    case hQ1037 => exact fun _ _ _ h => h
    case hg1037 => rfl
    case hy1037 => (intro w' hSw; (try dsimp only at hSw); go_simp; try with_reducible rfl)
    try simp only [Act.put, List.setIfInBounds_toArray, List.set_cons_zero, List.set_cons_succ]
    refine wpAnyH_take (i := 37) (oi := ?o1038) (v := ?v1038) ?hi1038 (by kernel_rfl) (by kernel_rfl) (by kernel_rfl) ?hQ1038 (Or.inl ⟨?hg1038, ?hy1038⟩) (by assumption) ?rest1038
    case hi1038 => (simp only [List.getElem?_toArray, List.getElem?_cons_zero, List.getElem?_cons_succ]; exact rfl)
    case hQ1038 => exact fun _ _ _ h => h
    case hg1038 => rfl
    case hy1038 => (intro w' hSw; (try dsimp only at hSw); go_simp; try with_reducible rfl)
    try simp only [Act.put, List.setIfInBounds_toArray, List.set_cons_zero, List.set_cons_succ]
    refine wpAnyH_take (i := 38) (oi := ?o1039) (v := ?v1039) ?hi1039 (by kernel_rfl) (by kernel_rfl) (by kernel_rfl) ?hQ1039 (Or.inl ⟨?hg1039, ?hy1039⟩) (by assumption) ?rest1039
    case hi1039 => (simp only [List.getElem?_toArray, List.getElem?_cons_zero, List.getElem?_cons_succ]; exact rfl)
    case hQ1039 => exact fun _ _ _ h => h
    case hg1039 => rfl
    case hy1039 => (intro w' hSw; (try dsimp only at hSw); go_simp; try with_reducible rfl)
    try simp only [Act.put, List.setIfInBounds_toArray, List.set_cons_zero, List.set_cons_succ]
    refine wpAnyH_take (i := 39) (oi := ?o1040) (v := ?v1040) ?hi1040 (by kernel_rfl) (by kernel_rfl) (by kernel_rfl) ?hQ1040 (Or.inl ⟨?hg1040, ?hy1040⟩) (by assumption) ?rest1040
    case hi1040 => (simp only [List.getElem?_toArray, List.getElem?_cons_zero, List.getElem?_cons_succ]; exact rfl)
    case hQ1040 => exact fun _ _ _ h => h
    case hg1040 => rfl
    case hy1040 => (intro w' hSw; (try dsimp only at hSw); go_simp; try with_reducible rfl)
    try simp only [Act.put, List.setIfInBounds_toArray, List.set_cons_zero, List.set_cons_succ]
    refine wpAnyH_done (by kernel_rfl) ?_ _
    go_wp2
    go_ret
    exact ⟨rfl, Lib.hid (BB.out _ FB.out)⟩
  · have hd0 : d = [] := Df.parse_bad hp hx
    subst hd0
    have hx' : (x == 0) = false := by simpa using hx
    clear hp
    go_enter Tryd.func4, Tryd.ntmps4
    go_wp2_with fail
    (with_reducible refine AW.out.mono ?_); rintro e w1 ⟨rfl, b1⟩
    go_wp2_with fail
    (with_reducible refine (PA.out _ b1.out).mono ?_); rintro e w2 ⟨A, cap, rfl, di, b2⟩
    go_wp2
    go_ret
    exact ⟨rfl, Lib.hid ((b1.out.trans (b2.out.mono b1.out.size)).alloc (Nat.le_trans b1.out.size b2.out.size) _)⟩
end Go.Proofs.YtkfopjhgkbbkiaaDoor
/-
  The law DefOrder, walked: in the order of the graph each task stands behind those that it waits for.
-/
namespace Go.Proofs.YtkfopjhgkbbkiaaDoor
open Go.RowKit
/-- Where the first i nodes of the order stand. -/
structure To.Pl (N : Nat) (o : List Nat) (i : Nat) (D : List Int) : Prop where
  len : D.length = N
  at_ : ∀ x, x < N → x ∈ o.take i → D.getD x 0 = ((o.idxOf x : Nat) : Int)
theorem To.Pl.zero (N : Nat) (o : List Nat) : To.Pl N o 0 (List.replicate N 0) := ⟨by simp, fun x _ h => by simp at h⟩
theorem To.Pl.next {N i : Nat} {o : List Nat} {D : List Int} (h : To.Pl N o i D) (ho : o.Nodup) (hi : i < o.length) : To.Pl N o (i + 1) (D.set (o.getD i 0) (i : Int)) := by
  have hg : o.getD i 0 = o[i] := by rw [List.getD_eq_getElem?_getD, List.getElem?_eq_getElem hi]; rfl
  refine ⟨by rw [List.length_set, h.len], fun x hx hm => ?_⟩
  rw [List.getD_eq_getElem?_getD, List.getElem?_set]
  by_cases e : o.getD i 0 = x
  · rw [if_pos e, if_pos (by rw [h.len, e]; exact hx)]
    rw [← e, hg, ho.idxOf_getElem]
    rfl
  · rw [if_neg e, ← List.getD_eq_getElem?_getD]
    refine h.at_ x hx ?_
    rw [List.take_succ_eq_append_getElem hi] at hm
    rcases List.mem_append.1 hm with hm | hm
    · exact hm
    · simp only [List.mem_singleton] at hm
      exact absurd (hg.trans hm.symm) e
/-- An answer, and that there is one. -/
def OptY2 (w : World) (l : List Int) (n : Nat) (e : Ending) (w' : World) : Prop :=
  ∃ A cap, e = .returned (.tuple #[.slice A n cap, .bool true]) ∧ Hid (Zs w' w'.heap.size A l) ∧ Hid (Below w.heap.size w w')
theorem OptG.yes2 {w w' : World} {l : List Int} {n : Nat} {e : Ending} (hn : n = l.length) (h : OptG w (some l) e w') : OptY2 w l n e w' := by
  obtain ⟨A, cap, he, _, hz, hb⟩ := h
  exact ⟨A, cap, by rw [he, hn]; rfl, hz, hb⟩
set_option maxRecDepth 100000 in
set_option maxHeartbeats 8000000 in
theorem order_walk (s : ByteArray) (hs : s.size ≤ 140737488355328) (w : World) (hF : FactsD w) : Calls Tryd.prog 5 #[.string s] w (BoolG w true) := by
  have AW : Hid (Calls Tryd.prog 6 #[] w (BoolG w true)) := Lib.hid (awake_any w hF)
  by_cases hl : 1024 < s.size
  · have hd : decide ((1024 : Int) < (s.size : Int)) = true := decide_eq_true (by omega)
    go_enter Tryd.func5, Tryd.ntmps5
    go_wp2_with fail
    (with_reducible refine AW.out.mono ?_); rintro e w1 ⟨rfl, b1⟩
    go_wp2
    go_ret
    exact ⟨rfl, b1⟩
  have hl' : (s.size : Int) ≤ 1024 := by omega
  obtain ⟨d, x, hp⟩ : ∃ d x, Df.parse s.data.toList = (d, x) := ⟨_, _, rfl⟩
  have PA : Hid (∀ W, Below w.heap.size w W → Calls Tryd.prog 8 #[.string s] W (ParseY W d d.length x)) := Lib.hid fun W hW => (parse_any s hs W (hF.on hW)).mono fun e w' h => h.of hp rfl
  by_cases hx : x = 0
  · subst hx
    obtain ⟨hk, -, -, -⟩ := parse_of_size hp
    have FD := Lib.hid hk.fair
    have OK := Lib.hid hk
    have hn16 := hk.n16
    obtain ⟨o, -, hoI, HO0, hlen⟩ := To.orderI_yes hk.tree
    rw [Int.toNat_natCast] at HO0 hlen
    obtain ⟨N, hn⟩ : ∃ N, N = d.length := ⟨_, rfl⟩
    have HN := Lib.hid hn
    obtain ⟨es, hes⟩ : ∃ es, es = Df.graphI d := ⟨_, rfl⟩
    have GR : Hid (∀ W A cap, Below w.heap.size w W → DefIn W W.heap.size A d → Calls Tryd.prog 9 #[.agg #[.slice A N cap]] W (GraphG W N es)) := Lib.hid fun W A cap hW hD => by
      have := graphD_any A d cap FD.out W (hF.on hW) hD
      rwa [← hes, ← hn] at this
    have OR : Hid (∀ W A cap, Edg W W.heap.size A es → Calls Tryd.prog 15 #[.agg #[.int .i64 N, .slice A es.length cap]] W (OptY2 W (Gr.ints o) N)) := Lib.hid fun W A cap hE => by
      have hG : Gr.Good (N : Int) es := by rw [hn, hes]; exact Df.graph_good hk.n16
      have := order_any (N : Int) A es cap (by have := hG.len; omega) W hE
      rw [hn, hes, hoI] at this
      rw [hn, hes]
      exact this.mono fun e w' h => h.yes2 (by rw [Gr.ints_len, hlen])
    have EDG : Hid (∀ i (hi : i < d.length) (a : Nat), (a : Int) ∈ d[i].after → a < N ∧ ((o.idxOf a : Nat) : Int) < ((o.idxOf i : Nat) : Int)) := Lib.hid fun i hi a ha => by
      have h1 := hk.edge hi ha
      have hG : Gr.Good (d.length : Int) (Df.graphI d) := Df.graph_good hk.n16
      have h2 : (a, i) ∈ Gr.nat (Df.graphI d) := (Gr.mem_nat (fun e he => by have := hG.edge e he; omega) a i).2 h1
      have h3 := HO0.pos h2 (To.nodup_full HO0.once HO0.low hlen i hi)
      have h4 := (hk.after hi).2 _ ha
      exact ⟨by omega, by omega⟩
    have OH := Lib.hid HO0
    rw [← hn] at PA hn16 hlen
    rw [← hn] at OH
    have LH := Lib.hid hlen
    have MK := fun W => made_Z N (by omega) W
    have hw0 : ((N : Int) != (N : Int)) = false := by simp
    clear hp hk hes hn hs hoI HO0 hlen
    go_enter Tryd.func5, Tryd.ntmps5
    go_wp2_with fail
    (with_reducible refine AW.out.mono ?_); rintro e w1 ⟨rfl, b1⟩
    go_wp2_with fail
    (with_reducible refine (PA.out _ b1.out).mono ?_); rintro e w2 ⟨A, cap, rfl, di, b2⟩
    obtain ⟨X, hX⟩ : ∃ X, X = w2.heap.size := ⟨_, rfl⟩
    obtain ⟨W3, hW3⟩ : ∃ W3, W3 = w2.alloc (.cells #[.slice A N cap] 29) := ⟨_, rfl⟩
    have BA : Hid (Below w2.heap.size w2 W3) := Lib.hid (by rw [hW3]; exact (Below.refl _ _).alloc (Nat.le_refl _) _)
    have C3 : Hid (W3.cell? ⟨X, 0, none⟩ = some (.slice A N cap)) := Lib.hid (by rw [hW3, hX]; exact cell_lit _ _ _)
    have X3 : Hid (X < W3.heap.size) := Lib.hid (by rw [hW3, hX]; simp)
    have B3 : Hid (Below w.heap.size w W3) := Lib.hid ((b1.out.trans (b2.out.mono b1.out.size)).trans (BA.out.mono (Nat.le_trans b1.out.size b2.out.size)))
    have D3 : Hid (DefIn W3 W3.heap.size A d) := Lib.hid (di.out.on BA.out)
    go_upto_region 6 with fail
    rw [← hW3, ← hX]
    clear hW3 hX b1 b2 di BA
    have y0 := C3.out
    go_wp2_with fail
    (with_reducible refine (GR.out _ A cap B3.out D3.out).mono ?_); rintro e w4 ⟨A4, c4, rfl, e4, b4⟩
    go_wp2_with fail
    (with_reducible refine (OR.out _ A4 c4 e4.out).mono ?_); rintro e w5 ⟨A5, c5, rfl, z5, b5⟩
    have B5 : Hid (Below W3.heap.size W3 w5) := Lib.hid (b4.out.trans (b5.out.mono b4.out.size))
    have C5 : Hid (w5.cell? ⟨X, 0, none⟩ = some (.slice A N cap)) := Lib.hid ((B5.out.cell (p := ⟨X, 0, none⟩) X3.out).trans C3.out)
    have D5 : Hid (DefIn w5 w5.heap.size A d) := Lib.hid (D3.out.on B5.out)
    have X5 : Hid (X < w5.heap.size) := Lib.hid (Nat.lt_of_lt_of_le X3.out B5.out.size)
    have BW5 : Hid (Below w.heap.size w w5) := Lib.hid (B3.out.trans (B5.out.mono B3.out.size))
    clear y0 b4 b5 e4 B5 B3 D3 C3 X3
    have y0 := C5.out
    obtain ⟨R, hR⟩ : ∃ R, R = w5.heap.size := ⟨_, rfl⟩
    obtain ⟨W6, hW6⟩ : ∃ W6, W6 = w5.alloc (.cells (madeCells #[.int .i64 0] N) 3) := ⟨_, rfl⟩
    have C6 : Hid (Below R w5 W6) := Lib.hid (by rw [hW6, hR]; exact (Below.refl _ _).alloc (Nat.le_refl _) _)
    have O6 : Hid (OwnZ W6 R (some ⟨R, 0, none⟩) N (List.replicate N 0)) := Lib.hid (by rw [hW6, hR]; exact OwnZ.made w5 N (by omega))
    have ZO : Hid (∀ W, Below R w5 W → Zs W R A5 (Gr.ints o)) := Lib.hid fun W hW => by
      rw [hR] at hW ⊢
      exact z5.out.below hW
    have DX : Hid (∀ W, Below R w5 W → DefIn W R A d) := Lib.hid fun W hW => by
      rw [hR] at hW ⊢
      exact D5.out.below hW
    have PX : Hid (∀ W, Below R w5 W → W.cell? ⟨X, 0, none⟩ = some (.slice A N cap)) := Lib.hid fun W hW => by
      exact (hW.cell (p := ⟨X, 0, none⟩) (by rw [hR]; exact X5.out)).trans C5.out
    have BX : Hid (∀ W, Below R w5 W → Below w.heap.size w W) := Lib.hid fun W hW => BW5.out.trans (hW.mono (by rw [hR]; exact BW5.out.size))
    go_upto_region 12 with fail
    rw [← hW6, ← hR]
    clear hW6 hR MK y0 z5 D5 C5 X5 BW5 hw0
    go_wp2_with fail
    go_loopw [8] (fun iv wr => ∃ (i : Nat) (D : List Int), i ≤ N ∧ iv = .int .i64 i ∧ Hid (To.Pl N o i D) ∧ Hid (OwnZ wr R (some ⟨R, 0, none⟩) N D) ∧ Hid (Below R w5 wr)) (fun iv _ => N - (intOf iv).toNat)
    case atStart => exact ⟨0, _, Nat.zero_le _, rfl, Lib.hid (To.Pl.zero _ _), O6, C6⟩
    case round =>
      obtain ⟨i, D, hi, rfl, HD, HO, HB⟩ := hrel
      by_cases hlt : i < N
      · have hlt' : (i : Int) < (N : Int) := by omega
        have hio : i < o.length := by rw [LH.out]; exact hlt
        obtain ⟨q, hq⟩ : ∃ q, q = o.getD i 0 := ⟨_, rfl⟩
        obtain ⟨b, off, y, rfl, hb, hc, hy, hy0, hy1⟩ := (ZO.out _ HB.out).at_ (k := i) (by rw [Gr.ints_len]; exact hio)
        obtain rfl : y = (q : Int) := by rw [← hy.out, Gr.ints_get, hq]
        have hqN : q < N := by rw [hq]; exact OH.out.low _ (by rw [List.getD_eq_getElem?_getD, List.getElem?_eq_getElem hio]; exact List.getElem_mem hio)
        have hqN' : (q : Int) < (N : Int) := by omega
        have HD' : Hid (To.Pl N o (i + 1) (D.set q (i : Int))) := Lib.hid (by rw [hq]; exact HD.out.next OH.out.once hio)
        have hf := HO.out.thaw q
        have hv := HO.out.val (i := q) (by rw [HD.out.len]; exact hqN)
        clear hy hy0 hy1 hq
        go_wp2
        go_roundw
        case rel => exact ⟨i + 1, _, by omega, by go_num, HD', Lib.hid (OwnZ.stored HO.out q (i : Int) ⟨by omega, by omega⟩), Lib.hid (HB.out.setCell (p := ⟨R, q, none⟩) (Nat.le_refl R) _)⟩
        case measure => simp [intOf]; omega
      · obtain rfl : N = i := by omega
        have PL : Hid (∀ x, x < N → D.getD x 0 = ((o.idxOf x : Nat) : Int)) := Lib.hid fun x hx => HD.out.at_ x hx (by rw [← LH.out, List.take_length]; exact To.nodup_full OH.out.once OH.out.low LH.out x hx)
        have DL : Hid (D.length = N) := Lib.hid HD.out.len
        obtain ⟨w7, hw7⟩ : ∃ w7, w7 = wr := ⟨_, rfl⟩
        rw [← hw7] at HO HB ⊢
        clear hw7 HD
        have RW : Hid (R ≤ w7.heap.size) := Lib.hid (Nat.le_of_lt HO.out.lt.2)
        have BR : Hid (∀ W, Below w7.heap.size w7 W → Below R w5 W) := Lib.hid fun W hW => HB.out.trans (hW.mono RW.out)
        go_wp2_with fail
        go_loopw [9] (fun iv wr => ∃ i : Nat, i ≤ N ∧ iv = .int .i64 i ∧ Hid (Below w7.heap.size w7 wr)) (fun iv _ => N - (intOf iv).toNat)
        case atStart => exact ⟨0, Nat.zero_le _, rfl, Lib.hid (Below.refl _ _)⟩
        case round =>
          obtain ⟨i, hi, rfl, HB2⟩ := hrel
          have x0 := PX.out _ (BR.out _ HB2.out)
          by_cases hlt2 : i < N
          · have hlt' : (i : Int) < (N : Int) := by omega
            have hid : i < d.length := by rw [← HN.out]; exact hlt2
            obtain ⟨wo, hwo⟩ : ∃ wo, wo = wr := ⟨_, rfl⟩
            rw [← hwo] at HB2 x0 ⊢
            clear hwo
            obtain ⟨b, off, A3, c3, t, rfl, hb, ht, z3, zc3, ni, p0, p1, p2, p3, p4, p5⟩ := (DX.out _ (BR.out _ HB2.out)).at_ (k := i) hid
            have ET : Hid (d[i] = t) := Lib.hid (by
              have := ht.out
              rw [List.getElem?_eq_getElem hid] at this
              injection this)
            have ZI : Hid (∀ W, Below w7.heap.size w7 W → Zs W R A3 t.after ∧ W.cell? ⟨b, off + i * 6 + 1, none⟩ = some (.slice A3 t.after.length c3)) := Lib.hid fun W hW => by
              obtain ⟨b', off', A3', c3', t', he, hb', ht', z3', zc3', ni', p0', p1', _, _, _, _⟩ := (DX.out _ (BR.out _ hW)).at_ (k := i) hid
              injection he with he
              injection he with he1 he2
              subst he1 he2
              obtain rfl : t = t' := by have := ht.out.symm.trans ht'.out; injection this
              have e1 := ((BR.out _ HB2.out).cell (p := ⟨b, off + i * 6 + 1, none⟩) hb.out).symm.trans p1
              have e2 := ((BR.out _ hW).cell (p := ⟨b, off + i * 6 + 1, none⟩) hb.out).symm.trans p1'
              rw [e1] at e2
              injection e2 with e2
              injection e2 with e2 _ e3
              subst e2 e3
              exact ⟨z3'.out, p1'⟩
            obtain ⟨m, hm⟩ : ∃ m, m = t.after.length := ⟨_, rfl⟩
            have HM := Lib.hid hm
            have hm6 : m ≤ 1000000 := by rw [hm]; exact Nat.le_trans (FD.out.2 t (List.mem_of_getElem? ht.out)).1 (by decide)
            rw [← hm] at ZI
            clear p0 p1 p2 p3 p4 p5 hm
            go_wp2_with fail
            clear x0
            go_loopw [10] (fun jv wr => ∃ j : Nat, j ≤ m ∧ jv = .int .i64 j ∧ Hid (Below w7.heap.size w7 wr)) (fun jv _ => m - (intOf jv).toNat)
            case atStart => exact ⟨0, Nat.zero_le _, rfl, HB2⟩
            case round =>
              obtain ⟨j, hj, rfl, HB3⟩ := hrel
              have x0 := PX.out _ (BR.out _ HB3.out)
              obtain ⟨zj, p1⟩ := ZI.out _ HB3.out
              by_cases hlm : j < m
              · have hlm' : (j : Int) < (m : Int) := by omega
                obtain ⟨b5, o5, y, rfl, hb5, hc5, hy5, _, _⟩ := zj.at_ (k := j) (by rw [← HM.out]; exact hlm)
                have hym : y ∈ d[i].after := by
                  rw [ET.out, ← hy5.out, List.getD_eq_getElem?_getD, List.getElem?_eq_getElem (by rw [← HM.out]; exact hlm)]
                  exact List.getElem_mem _
                have hy0 := ((OK.out.after hid).2 y hym).1
                obtain ⟨a, rfl⟩ : ∃ a : Nat, y = (a : Int) := ⟨y.toNat, by omega⟩
                obtain ⟨haN, hlt3⟩ := EDG.out i hid a hym
                have haN' : (a : Int) < (N : Int) := by omega
                have OW := HO.out.grew HB3.out (Nat.le_refl _)
                have va := OW.val (i := a) (by rw [DL.out]; exact haN)
                have vi := OW.val (i := i) (by rw [DL.out]; exact hlt2)
                rw [PL.out a haN] at va
                rw [PL.out i hlt2] at vi
                have hd1 : decide (((o.idxOf i : Nat) : Int) ≤ ((o.idxOf a : Nat) : Int)) = false := decide_eq_false (by omega)
                have hd2 : decide ((a : Int) < 0) = false := decide_eq_false (by omega)
                have hd3 : decide ((N : Int) ≤ (a : Int)) = false := decide_eq_false (by omega)
                clear hy5 hym hy0 OW zj
                go_wp2_with fail
                go_quiet (fail)
                go_wp2
                go_roundw
                case rel => exact ⟨j + 1, by omega, by go_num, Lib.hid (below_n HB3.out _)⟩
                case measure => simp [intOf]; omega
              · obtain rfl : m = j := by omega
                go_wp2
                go_roundw
                case rel => exact ⟨i + 1, by omega, by go_num, HB3⟩
                case measure => simp [intOf]; omega
          · obtain rfl : N = i := by omega
            go_wp2
            go_ret
            exact ⟨rfl, Lib.hid (BX.out _ (BR.out _ HB2.out))⟩
  · have hd0 : d = [] := Df.parse_bad hp hx
    subst hd0
    have hx' : (x == 0) = false := by simpa using hx
    clear hp
    go_enter Tryd.func5, Tryd.ntmps5
    go_wp2_with fail
    (with_reducible refine AW.out.mono ?_); rintro e w1 ⟨rfl, b1⟩
    go_wp2_with fail
    (with_reducible refine (PA.out _ b1.out).mono ?_); rintro e w2 ⟨A, cap, rfl, di, b2⟩
    go_wp2
    go_ret
    exact ⟨rfl, Lib.hid ((b1.out.trans (b2.out.mono b1.out.size)).alloc (Nat.le_trans b1.out.size b2.out.size) _)⟩
end Go.Proofs.YtkfopjhgkbbkiaaDoor
