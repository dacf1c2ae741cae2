/-
  The law KeysOrder, walked: unlike keys, one after another.
-/
import Derived.Test.YteppokokabgniaaKyName
import Derived.Test.YteppokokabgniaaKyLast
import Derived.Deep.CutBlock
import Derived.Deep.CutRange
namespace Go.Proofs.Yteppokokabgniaa
open Go.RowKit
set_option maxRecDepth 20000 in
set_option maxHeartbeats 8000000 in
theorem order_walk (m n : Int) (w : World) : Calls Try.prog 5 #[.int .i64 m, .int .i64 n] w (BoolP w true) := by
  have AW := Lib.hid (awake_any w)
  have NW := Lib.hid (fun w' => oneNew m w')
  by_cases h1 : m < 1
  · go_enter Try.func5, Try.ntmps5
    go_wp2_with fail
    (with_reducible refine AW.out.mono ?_); rintro e w1 ⟨rfl, b1⟩
    go_wp2
    go_ret
    exact ⟨rfl, b1⟩
  by_cases h2 : 128 < m
  · go_enter Try.func5, Try.ntmps5
    go_wp2_with fail
    (with_reducible refine AW.out.mono ?_); rintro e w1 ⟨rfl, b1⟩
    go_wp2
    go_ret
    exact ⟨rfl, b1⟩
  by_cases h3 : n < 0
  · go_enter Try.func5, Try.ntmps5
    go_wp2_with fail
    (with_reducible refine AW.out.mono ?_); rintro e w1 ⟨rfl, b1⟩
    go_wp2
    go_ret
    exact ⟨rfl, b1⟩
  by_cases h4 : 300 < n
  · go_enter Try.func5, Try.ntmps5
    go_wp2_with fail
    (with_reducible refine AW.out.mono ?_); rintro e w1 ⟨rfl, b1⟩
    go_wp2
    go_ret
    exact ⟨rfl, b1⟩
  obtain ⟨M, rfl⟩ : ∃ M : Nat, m = M := ⟨m.toNat, by omega⟩
  obtain ⟨N, rfl⟩ : ∃ N : Nat, n = N := ⟨n.toNat, by omega⟩
  have hM1 : 1 ≤ M := by omega
  have hM2 : M ≤ 128 := by omega
  have hN : N ≤ 300 := by omega
  have EN := Lib.hid (Ky.last_new Ky.en M hM1 hM2)
  go_enter Try.func5, Try.ntmps5
  go_wp2_with fail
  (with_reducible refine AW.out.mono ?_); rintro e w1 ⟨rfl, b1⟩
  go_wp2_with fail
  (with_reducible refine (NW.out w1).mono ?_); rintro e w2 ⟨T, rfl, o2, -⟩
  have O2 : Hid (OneK w w2 T (Ky.last Ky.en M 0) noG) := Lib.hid (by rw [← EN.out]; exact o2.out.from b1.out)
  clear o2 b1 NW AW EN h1 h2 h3 h4
  go_wp2_with fail
  go_loopw [6] (fun iv wr => ∃ i : Nat, i ≤ N ∧ iv = .int .i64 i ∧ Hid (OneK w wr T (Ky.last Ky.en M i) noG)) (fun iv _ => N - (intOf iv).toNat)
  case atStart => exact ⟨0, Nat.zero_le _, rfl, O2⟩
  case round =>
    obtain ⟨i, hi, rfl, OI⟩ := hrel
    clear O2
    by_cases hlt : i < N
    · have hlt' : (i : Int) < (N : Int) := by omega
      obtain ⟨v1, v2, v3⟩ : Ky.putV (Ky.last Ky.en M i) ⟨#[]⟩ (Ky.nm i) (i : Int) = (i : Int) ∧ Ky.putB (Ky.last Ky.en M i) ⟨#[]⟩ (Ky.nm i) = true ∧ Ky.putS (Ky.last Ky.en M i) ⟨#[]⟩ (Ky.nm i) (i : Int) = Ky.last Ky.en M (i + 1) := Ky.last_put Ky.en M i hM1 (Ky.en_new (i := i) (by omega))
      go_wp2_with fail
      (with_reducible refine (name_any i (by omega) wr).mono ?_); rintro e w3 ⟨rfl, b3⟩
      have O3 := Lib.hid (OI.out.on b3.out)
      go_wp2_with fail
      (with_reducible refine (kyPut O3.out ⟨#[]⟩ (Ky.nm i) (i : Int) (Ky.nm_ok i (by omega)) (v := (i : Int)) (b := true) v1 v2 v3).mono ?_); rintro e w4 ⟨rfl, O4, -⟩
      go_wp2
      refine ⟨⟨i + 1, by omega, by go_num, O4⟩, ?_⟩
      simp [intOf]; omega
    · obtain rfl : N = i := by omega
      have LN := Lib.hid (Ky.last_len Ky.en M N)
      obtain ⟨L, D, hL, hD⟩ : ∃ L D, Hid (L = min N M) ∧ Hid (N = D + L) := ⟨min N M, N - min N M, Lib.hid rfl, Lib.hid (by omega)⟩
      have hL128 : L ≤ 128 := by have := hL.out; omega
      have LE : Hid ((Ky.last Ky.en M N).l.length = L) := Lib.hid (by rw [LN.out, hL.out])
      have AT : Hid (∀ k, k < L → (Ky.last Ky.en M N).l[k]? = some (Ky.en (D + k))) := Lib.hid fun k hk => by
        have := Ky.last_at Ky.en M N k (by have := hL.out; omega)
        rw [this]
        congr 2
        have := hL.out; have := hD.out; omega
      have hw1 : IntKind.i64.wrap ((N : Int) - (L : Int)) = (D : Int) := by
        have := hD.out
        rw [show (N : Int) - (L : Int) = (D : Int) by omega]
        exact IntWalk.i64_in _ (by omega)
      obtain ⟨S, hS⟩ : ∃ S, S = Ky.last Ky.en M N := ⟨_, rfl⟩
      rw [← hS] at LE AT OI
      clear hS LN
      by_cases hg : M < N
      · have hL' : L = M := by have := hL.out; omega
        have hd : decide ((M : Int) < (N : Int)) = true := decide_eq_true (by omega)
        clear hL hlt hi
        subst hL'
        go_wp2_with fail
        (with_reducible refine (oneAll OI.out).mono ?_); rintro e w4 ⟨A4, c4, rfl, O4, -, D4⟩
        rw [LE.out]
        go_wp2_with fail
        (with_reducible refine (kyLen O4.out (m := (L : Int)) (by rw [LE.out])).mono ?_); rintro e w5 ⟨rfl, O5, K5⟩
        have D5 := Lib.hid (D4.out.kept K5.out fun k hk => .inr hk)
        go_wp2_with fail
        go_loopw [11] (fun iv wr => ∃ k : Nat, k ≤ L ∧ iv = .int .i64 k ∧ Hid (Below w5.heap.size w5 wr)) (fun iv _ => L - (intOf iv).toNat)
        case atStart => exact ⟨0, Nat.zero_le _, rfl, Lib.hid (Below.refl _ _)⟩
        case round =>
          obtain ⟨k, hk, rfl, HB⟩ := hrel
          by_cases hlt : k < L
          · have hlt' : (k : Int) < (L : Int) := by omega
            have HD := Lib.hid HB.out.drew
            obtain ⟨b, off, a, rfl, -, ha, c0, c1, c2⟩ := (D5.out.on HD.out).at_ (k := k) (by rw [LE.out]; exact hlt)
            obtain rfl : Ky.en (D + k) = a := by have := (AT.out k hlt).symm.trans ha.out; injection this
            have hDk : D + k ≤ 300 := by have := hD.out; omega
            have NM := Lib.hid (fun W => name_any (D + k) hDk W)
            rw [show (((D + k : Nat)) : Int) = (D : Int) + (k : Int) by omega] at NM
            have hw2 : IntKind.i64.wrap ((D : Int) + (k : Int)) = (D : Int) + (k : Int) := IntWalk.i64_in _ (by omega)
            have hb : b < wr.drew.heap.size := block_lt c1
            have y1 : wr.drew.cell? ⟨b, off + k * 3 + 1, none⟩ = some (.string (Ky.nm (D + k))) := c1
            have y2 : wr.drew.cell? ⟨b, off + k * 3 + 2, none⟩ = some (.int .i64 ((D : Int) + (k : Int))) := by rw [c2]; congr 2
            clear c0 c1 c2 ha
            go_upto_region 23 with fail
            refine wp_region_held_drew (S := fun w' => w'.cell? ⟨b, off + k * 3 + 1, none⟩ = some (.string (Ky.nm (D + k))) ∧ w'.cell? ⟨b, off + k * 3 + 2, none⟩ = some (.int .i64 ((D : Int) + (k : Int)))) (by kernel_rfl) ?hS1001 (fun hHeld => ?_)
            case hS1001 => exact ⟨y1, y2⟩
            refine wpAnyH_take (i := 0) (oi := ?o1002) (v := ?v1002) ?hi1002 (by kernel_rfl) (by kernel_rfl) (by kernel_rfl) ?hQ1002 (Or.inl ⟨?hg1002, ?hy1002⟩) (by assumption) ?rest1002
            case hi1002 => (simp only [List.getElem?_toArray, List.getElem?_cons_zero]; exact rfl)
            case hQ1002 => exact fun _ _ _ h => h
            case hg1002 => rfl
            case hy1002 => (intro w' hSw; (try dsimp only at hSw); go_simp; try with_reducible rfl)
            try simp only [Act.put, List.setIfInBounds_toArray, List.set_cons_zero, List.set_cons_succ]
            refine wpAnyH_take (i := 1) (oi := ?o1003) (v := ?v1003) ?hi1003 (by kernel_rfl) (by kernel_rfl) (by kernel_rfl) ?hQ1003 (Or.inl ⟨?hg1003, ?hy1003⟩) (by assumption) ?rest1003
            case hi1003 => (simp only [List.getElem?_toArray, List.getElem?_cons_zero, List.getElem?_cons_succ]; exact rfl)
            case hQ1003 => exact fun _ _ _ h => h
            case hg1003 => rfl
            case hy1003 => (intro w' hSw; (try dsimp only at hSw); go_simp; try with_reducible rfl)
            try simp only [Act.put, List.setIfInBounds_toArray, List.set_cons_zero, List.set_cons_succ]
            refine wpAnyH_take (i := 2) (oi := ?o1004) (v := ?v1004) ?hi1004 (by kernel_rfl) (by kernel_rfl) (by kernel_rfl) ?hQ1004 (Or.inl ⟨?hg1004, ?hy1004⟩) (by assumption) ?rest1004
            case hi1004 => (simp only [List.getElem?_toArray, List.getElem?_cons_zero, List.getElem?_cons_succ]; exact rfl)
            case hQ1004 => exact fun _ _ _ h => h
            case hg1004 => rfl
            case hy1004 => (intro w' hSw; (try dsimp only at hSw); go_simp; try with_reducible rfl)
            try simp only [Act.put, List.setIfInBounds_toArray, List.set_cons_zero, List.set_cons_succ]
            refine wpAnyH_take (i := 3) (oi := ?o1005) (v := ?v1005) ?hi1005 (by kernel_rfl) (by kernel_rfl) (by kernel_rfl) ?hQ1005 (Or.inl ⟨?hg1005, ?hy1005⟩) (by assumption) ?rest1005
            case hi1005 => (simp only [List.getElem?_toArray, List.getElem?_cons_zero, List.getElem?_cons_succ]; exact rfl)
            case hQ1005 => exact fun _ _ _ h => h
            case hg1005 => rfl
            case hy1005 => (intro w' hSw; (try dsimp only at hSw); go_simp; try with_reducible rfl)
            try simp only [Act.put, List.setIfInBounds_toArray, List.set_cons_zero, List.set_cons_succ]
            refine wpAnyH_take (i := 4) (oi := ?o1006) (v := ?v1006) ?hi1006 (by kernel_rfl) (by kernel_rfl) (by kernel_rfl) ?hQ1006 (Or.inl ⟨?hg1006, ?hy1006⟩) (by assumption) ?rest1006
            case hi1006 => (simp only [List.getElem?_toArray, List.getElem?_cons_zero, List.getElem?_cons_succ]; exact rfl)
            case hQ1006 => exact fun _ _ _ h => h
            case hg1006 => rfl
            case hy1006 => (intro w' hSw; (try dsimp only at hSw); go_simp; try with_reducible rfl)
            try simp only [Act.put, List.setIfInBounds_toArray, List.set_cons_zero, List.set_cons_succ]
            refine wpAnyH_take (i := 5) (oi := ?o1007) (v := ?v1007) ?hi1007 (by kernel_rfl) (by kernel_rfl) (by kernel_rfl) ?hQ1007 (Or.inl ⟨?hg1007, ?hy1007⟩) (by assumption) ?rest1007
            case hi1007 => (simp only [List.getElem?_toArray, List.getElem?_cons_zero, List.getElem?_cons_succ]; exact rfl)
            case hQ1007 => exact fun _ _ _ h => h
            case hg1007 => rfl
            case hy1007 => (intro w' hSw; (try dsimp only at hSw); go_simp; try with_reducible rfl)
            try simp only [Act.put, List.setIfInBounds_toArray, List.set_cons_zero, List.set_cons_succ]
            refine wpAnyH_take (i := 6) (oi := ?o1008) (v := ?v1008) ?hi1008 (by kernel_rfl) (by kernel_rfl) (by kernel_rfl) ?hQ1008 (Or.inl ⟨?hg1008, ?hy1008⟩) (by assumption) ?rest1008
            case hi1008 => (simp only [List.getElem?_toArray, List.getElem?_cons_zero, List.getElem?_cons_succ]; exact rfl)
            case hQ1008 => exact fun _ _ _ h => h
            case hg1008 => rfl
            case hy1008 => (intro w' hSw; (try dsimp only at hSw); go_simp; try with_reducible rfl)
            try simp only [Act.put, List.setIfInBounds_toArray, List.set_cons_zero, List.set_cons_succ]
            refine wpAnyH_take (i := 7) (oi := ?o1009) (v := ?v1009) ?hi1009 (by kernel_rfl) (by kernel_rfl) (by kernel_rfl) ?hQ1009 (Or.inl ⟨?hg1009, ?hy1009⟩) (by assumption) ?rest1009
            case hi1009 => (simp only [List.getElem?_toArray, List.getElem?_cons_zero, List.getElem?_cons_succ]; exact rfl)
            case hQ1009 => exact fun _ _ _ h => h
            case hg1009 => rfl
            case hy1009 => (intro w' hSw; (try dsimp only at hSw); go_simp; try with_reducible rfl)
            try simp only [Act.put, List.setIfInBounds_toArray, List.set_cons_zero, List.set_cons_succ]
            refine wpAnyH_take (i := 8) (oi := ?o1010) (v := ?v1010) ?hi1010 (by kernel_rfl) (by kernel_rfl) (by kernel_rfl) ?hQ1010 (Or.inl ⟨?hg1010, ?hy1010⟩) (by assumption) ?rest1010
            case hi1010 => (simp only [List.getElem?_toArray, List.getElem?_cons_zero, List.getElem?_cons_succ]; exact rfl)
            case hQ1010 => exact fun _ _ _ h => h
            case hg1010 => rfl
            case hy1010 => (intro w' hSw; (try dsimp only at hSw); go_simp; try with_reducible rfl)
            try simp only [Act.put, List.setIfInBounds_toArray, List.set_cons_zero, List.set_cons_succ]
            refine wpAnyH_take (i := 9) (oi := ?o1011) (v := ?v1011) ?hi1011 (by kernel_rfl) (by kernel_rfl) (by kernel_rfl) ?hQ1011 (Or.inl ⟨?hg1011, ?hy1011⟩) (by assumption) ?rest1011
            case hi1011 => (simp only [List.getElem?_toArray, List.getElem?_cons_zero, List.getElem?_cons_succ]; exact rfl)
            case hQ1011 => exact fun _ _ _ h => h
            case hg1011 => rfl
            case hy1011 => (intro w' hSw; (try dsimp only at hSw); go_simp; try with_reducible rfl)
            try simp only [Act.put, List.setIfInBounds_toArray, List.set_cons_zero, List.set_cons_succ]
            refine wpAnyH_take (i := 10) (oi := ?o1012) (v := ?v1012) ?hi1012 (by kernel_rfl) (by kernel_rfl) (by kernel_rfl) ?hQ1012 (Or.inl ⟨?hg1012, ?hy1012⟩) (by assumption) ?rest1012
            case hi1012 => (simp only [List.getElem?_toArray, List.getElem?_cons_zero, List.getElem?_cons_succ]; exact rfl)
            case hQ1012 => exact fun _ _ _ h => h
            case hg1012 => rfl
            case hy1012 => (intro w' hSw; (try dsimp only at hSw); go_simp; try with_reducible rfl)
            try simp only [Act.put, List.setIfInBounds_toArray, List.set_cons_zero, List.set_cons_succ]
            refine wpAnyH_take (i := 11) (oi := ?o1013) (v := ?v1013) ?hi1013 (by kernel_rfl) (by kernel_rfl) (by kernel_rfl) ?hQ1013 (Or.inl ⟨?hg1013, ?hy1013⟩) (by assumption) ?rest1013
            case hi1013 => (simp only [List.getElem?_toArray, List.getElem?_cons_zero, List.getElem?_cons_succ]; exact rfl)
            case hQ1013 => exact fun _ _ _ h => h
            case hg1013 => rfl
            case hy1013 => (intro w' hSw; (try dsimp only at hSw); go_simp; try with_reducible rfl)
            try simp only [Act.put, List.setIfInBounds_toArray, List.set_cons_zero, List.set_cons_succ]
            refine wpAnyH_take (i := 12) (oi := ?o1014) (v := ?v1014) ?hi1014 (by kernel_rfl) (by kernel_rfl) (by kernel_rfl) ?hQ1014 (Or.inl ⟨?hg1014, ?hy1014⟩) (by assumption) ?rest1014
            case hi1014 => (simp only [List.getElem?_toArray, List.getElem?_cons_zero, List.getElem?_cons_succ]; exact rfl)
            case hQ1014 => exact fun _ _ _ h => h
            case hg1014 => rfl
            case hy1014 => (intro w' hSw; (try dsimp only at hSw); go_simp; try with_reducible rfl)
            try simp only [Act.put, List.setIfInBounds_toArray, List.set_cons_zero, List.set_cons_succ]
            refine wpAnyH_take (i := 13) (oi := ?o1015) (v := ?v1015) ?hi1015 (by kernel_rfl) (by kernel_rfl) (by kernel_rfl) ?hQ1015 (Or.inl ⟨?hg1015, ?hy1015⟩) (by assumption) ?rest1015
            case hi1015 => (simp only [List.getElem?_toArray, List.getElem?_cons_zero, List.getElem?_cons_succ]; exact rfl)
            case hQ1015 => exact fun _ _ _ h => h
            case hg1015 => rfl
            case hy1015 => (intro w' hSw; (try dsimp only at hSw); go_simp; try with_reducible rfl)
            try simp only [Act.put, List.setIfInBounds_toArray, List.set_cons_zero, List.set_cons_succ]
            refine wpAnyH_take (i := 14) (oi := ?o1016) (v := ?v1016) ?hi1016 (by kernel_rfl) (by kernel_rfl) (by kernel_rfl) ?hQ1016 (Or.inl ⟨?hg1016, ?hy1016⟩) (by assumption) ?rest1016
            case hi1016 => (simp only [List.getElem?_toArray, List.getElem?_cons_zero, List.getElem?_cons_succ]; exact rfl)
            case hQ1016 => exact fun _ _ _ h => h
            case hg1016 => rfl
            case hy1016 => (intro w' hSw; (try dsimp only at hSw); go_simp; try with_reducible rfl)
            try simp only [Act.put, List.setIfInBounds_toArray, List.set_cons_zero, List.set_cons_succ]
            refine wpAnyH_take (i := 15) (oi := ?o1017) (v := ?v1017) ?hi1017 (by kernel_rfl) (by kernel_rfl) (by kernel_rfl) ?hQ1017 (Or.inl ⟨?hg1017, ?hy1017⟩) (by assumption) ?rest1017
            case hi1017 => (simp only [List.getElem?_toArray, List.getElem?_cons_zero, List.getElem?_cons_succ]; exact rfl)
            case hQ1017 => exact fun _ _ _ h => h
            case hg1017 => rfl
            case hy1017 => (intro w' hSw; (try dsimp only at hSw); go_simp; try with_reducible rfl)
            try simp only [Act.put, List.setIfInBounds_toArray, List.set_cons_zero, List.set_cons_succ]
            refine wpAnyH_take (i := 16) (oi := ?o1018) (v := ?v1018) ?hi1018 (by kernel_rfl) (by kernel_rfl) (by kernel_rfl) ?hQ1018 (Or.inl ⟨?hg1018, ?hy1018⟩) (by assumption) ?rest1018
            case hi1018 => (simp only [List.getElem?_toArray, List.getElem?_cons_zero, List.getElem?_cons_succ]; exact rfl)
            case hQ1018 => exact fun _ _ _ h => h
            case hg1018 => rfl
            case hy1018 => (intro w' hSw; (try dsimp only at hSw); go_simp; try with_reducible rfl)
            try simp only [Act.put, List.setIfInBounds_toArray, List.set_cons_zero, List.set_cons_succ]
            refine wpAnyH_take (i := 17) (oi := ?o1019) (v := ?v1019) ?hi1019 (by kernel_rfl) (by kernel_rfl) (by kernel_rfl) ?hQ1019 (Or.inl ⟨?hg1019, ?hy1019⟩) (by assumption) ?rest1019
            case hi1019 => (simp only [List.getElem?_toArray, List.getElem?_cons_zero, List.getElem?_cons_succ]; exact rfl)
            case hQ1019 => exact fun _ _ _ h => h
            case hg1019 => rfl
            case hy1019 => (intro w' hSw; (try dsimp only at hSw); go_simp; try with_reducible rfl)
            try simp only [Act.put, List.setIfInBounds_toArray, List.set_cons_zero, List.set_cons_succ]
            refine wpAnyH_take (i := 18) (oi := ?o1020) (v := ?v1020) ?hi1020 (by kernel_rfl) (by kernel_rfl) (by kernel_rfl) ?hQ1020 (Or.inl ⟨?hg1020, ?hy1020⟩) (by assumption) ?rest1020
            case hi1020 => (simp only [List.getElem?_toArray, List.getElem?_cons_zero, List.getElem?_cons_succ]; exact rfl)
            case hQ1020 => exact fun _ _ _ h => h
            case hg1020 => rfl
            case hy1020 => (intro w' hSw; (try dsimp only at hSw); go_simp; try with_reducible rfl)
            try simp only [Act.put, List.setIfInBounds_toArray, List.set_cons_zero, List.set_cons_succ]
            refine wpAnyH_take (i := 19) (oi := ?o1021) (v := ?v1021) ?hi1021 (by kernel_rfl) (by kernel_rfl) (by kernel_rfl) ?hQ1021 (Or.inl ⟨?hg1021, ?hy1021⟩) (by assumption) ?rest1021
            case hi1021 => (simp only [List.getElem?_toArray, List.getElem?_cons_zero, List.getElem?_cons_succ]; exact rfl)
            case hQ1021 => exact fun _ _ _ h => h
            case hg1021 => rfl
            case hy1021 => (intro w' hSw; (try dsimp only at hSw); go_simp; try with_reducible rfl)
            try simp only [Act.put, List.setIfInBounds_toArray, List.set_cons_zero, List.set_cons_succ]
            refine wpAnyH_take (i := 20) (oi := ?o1022) (v := ?v1022) ?hi1022 (by kernel_rfl) (by kernel_rfl) (by kernel_rfl) ?hQ1022 (Or.inl ⟨?hg1022, ?hy1022⟩) (by assumption) ?rest1022
            case hi1022 => (simp only [List.getElem?_toArray, List.getElem?_cons_zero, List.getElem?_cons_succ]; exact rfl)
            case hQ1022 => exact fun _ _ _ h => h
            case hg1022 => rfl
            case hy1022 => (intro w' hSw; (try dsimp only at hSw); go_simp; try with_reducible rfl)
            try simp only [Act.put, List.setIfInBounds_toArray, List.set_cons_zero, List.set_cons_succ]
            refine wpAnyH_take (i := 21) (oi := ?o1023) (v := ?v1023) ?hi1023 (by kernel_rfl) (by kernel_rfl) (by kernel_rfl) ?hQ1023 (Or.inl ⟨?hg1023, ?hy1023⟩) (by assumption) ?rest1023
            case hi1023 => (simp only [List.getElem?_toArray, List.getElem?_cons_zero, List.getElem?_cons_succ]; exact rfl)
            case hQ1023 => exact fun _ _ _ h => h
            case hg1023 => rfl
            case hy1023 => (intro w' hSw; (try dsimp only at hSw); go_simp; try with_reducible rfl)
            try simp only [Act.put, List.setIfInBounds_toArray, List.set_cons_zero, List.set_cons_succ]
            refine wpAnyH_take (i := 22) (oi := ?o1024) (v := ?v1024) ?hi1024 (by kernel_rfl) (by kernel_rfl) (by kernel_rfl) ?hQ1024 (Or.inl ⟨?hg1024, ?hy1024⟩) (by assumption) ?rest1024
            case hi1024 => (simp only [List.getElem?_toArray, List.getElem?_cons_zero, List.getElem?_cons_succ]; exact rfl)
            case hQ1024 => exact fun _ _ _ h => h
            case hg1024 => rfl
            case hy1024 => (intro w' hSw; (try dsimp only at hSw); go_simp; try with_reducible rfl)
            try simp only [Act.put, List.setIfInBounds_toArray, List.set_cons_zero, List.set_cons_succ]
            refine wpAnyH_ready (rs := [23]) (by kernel_rfl) (by simp) ?_
            refine AllReadyH.cons (o := ?o1025) ?hi1025 (fun K hK => ?_) AllReadyH.nil
            case hi1025 => (simp only [List.getElem?_toArray, List.getElem?_cons_zero, List.getElem?_cons_succ]; exact rfl)
            (go_simp; go_at_call 16; (with_reducible refine (NM.out _).mono ?_); rintro e u1 ⟨rfl, v1⟩; try dsimp only)
            have z1 := (v1.out.cell (p := ⟨b, off + k * 3 + 1, none⟩) hb).trans y1
            have z2 := (v1.out.cell (p := ⟨b, off + k * 3 + 2, none⟩) hb).trans y2
            have HU := Lib.hid (HD.out.trans (v1.out.mono HD.out.size))
            refine hK.out _ _ ?_ (fun hHeld => ?_)
            · exact ⟨z1, z2⟩
            clear hK K
            try simp only [Act.put, List.setIfInBounds_toArray, List.set_cons_zero, List.set_cons_succ]
            refine wpAnyH_take (i := 24) (oi := ?o1026) (v := ?v1026) ?hi1026 (by kernel_rfl) (by kernel_rfl) (by kernel_rfl) ?hQ1026 (Or.inl ⟨?hg1026, ?hy1026⟩) (by assumption) ?rest1026
            case hi1026 => (simp only [List.getElem?_toArray, List.getElem?_cons_zero, List.getElem?_cons_succ]; exact rfl)
            case hQ1026 => exact fun _ _ _ h => h
            case hg1026 => rfl
            case hy1026 => (intro w' hSw; (try dsimp only at hSw); go_simp; try with_reducible rfl)
            try simp only [Act.put, List.setIfInBounds_toArray, List.set_cons_zero, List.set_cons_succ]
            refine wpAnyH_take (i := 25) (oi := ?o1027) (v := ?v1027) ?hi1027 (by kernel_rfl) (by kernel_rfl) (by kernel_rfl) ?hQ1027 (Or.inl ⟨?hg1027, ?hy1027⟩) (by assumption) ?rest1027
            case hi1027 => (simp only [List.getElem?_toArray, List.getElem?_cons_zero, List.getElem?_cons_succ]; exact rfl)
            case hQ1027 => exact fun _ _ _ h => h
            case hg1027 => rfl
            case hy1027 => (intro w' hSw; (try dsimp only at hSw); go_simp; try with_reducible rfl)
            try simp only [Act.put, List.setIfInBounds_toArray, List.set_cons_zero, List.set_cons_succ]
            refine wpAnyH_done (by kernel_rfl) ?_ _
            go_wp2
            refine ⟨⟨k + 1, by omega, by go_num, HU⟩, ?_⟩
            simp [intOf]; omega
          · obtain rfl : L = k := by omega
            go_wp2
            go_ret
            exact ⟨rfl, Lib.hid (O5.out.below.trans (HB.out.mono O5.out.below.size))⟩
      · have hL' : L = N := by have := hL.out; omega
        have hd : decide ((M : Int) < (N : Int)) = false := decide_eq_false (by omega)
        clear hL hlt hi
        subst hL'
        obtain rfl : D = 0 := by have := hD.out; omega
        have AT : Hid (∀ k, k < L → S.l[k]? = some (Ky.en k)) := Lib.hid fun k hk => by
          have := AT.out k hk
          rwa [Nat.zero_add] at this
        clear hw1
        go_wp2_with fail
        (with_reducible refine (oneAll OI.out).mono ?_); rintro e w4 ⟨A4, c4, rfl, O4, -, D4⟩
        rw [LE.out]
        go_wp2_with fail
        (with_reducible refine (kyLen O4.out (m := (L : Int)) (by rw [LE.out])).mono ?_); rintro e w5 ⟨rfl, O5, K5⟩
        have D5 := Lib.hid (D4.out.kept K5.out fun k hk => .inr hk)
        go_wp2_with fail
        go_loopw [11] (fun iv wr => ∃ k : Nat, k ≤ L ∧ iv = .int .i64 k ∧ Hid (Below w5.heap.size w5 wr)) (fun iv _ => L - (intOf iv).toNat)
        case atStart => exact ⟨0, Nat.zero_le _, rfl, Lib.hid (Below.refl _ _)⟩
        case round =>
          obtain ⟨k, hk, rfl, HB⟩ := hrel
          by_cases hlt : k < L
          · have hlt' : (k : Int) < (L : Int) := by omega
            have HD := Lib.hid HB.out.drew
            obtain ⟨b, off, a, rfl, -, ha, c0, c1, c2⟩ := (D5.out.on HD.out).at_ (k := k) (by rw [LE.out]; exact hlt)
            obtain rfl : Ky.en (k) = a := by have := (AT.out k hlt).symm.trans ha.out; injection this
            have hDk : k ≤ 300 := by have := hD.out; omega
            have NM := Lib.hid (fun W => name_any (k) hDk W)
            have hb : b < wr.drew.heap.size := block_lt c1
            have hwA : IntKind.i64.wrap 0 = 0 := IntWalk.i64_in _ (by omega)
            have hwB : IntKind.i64.wrap (k : Int) = (k : Int) := IntWalk.i64_in _ (by omega)
            have y1 : wr.drew.cell? ⟨b, off + k * 3 + 1, none⟩ = some (.string (Ky.nm (k))) := c1
            have y2 : wr.drew.cell? ⟨b, off + k * 3 + 2, none⟩ = some (.int .i64 (k : Int)) := by rw [c2]; congr 2
            clear c0 c1 c2 ha
            go_upto_region 23 with fail
            refine wp_region_held_drew (S := fun w' => w'.cell? ⟨b, off + k * 3 + 1, none⟩ = some (.string (Ky.nm (k))) ∧ w'.cell? ⟨b, off + k * 3 + 2, none⟩ = some (.int .i64 (k : Int))) (by kernel_rfl) ?hS1028 (fun hHeld => ?_)
            case hS1028 => exact ⟨y1, y2⟩
            refine wpAnyH_take (i := 0) (oi := ?o1029) (v := ?v1029) ?hi1029 (by kernel_rfl) (by kernel_rfl) (by kernel_rfl) ?hQ1029 (Or.inl ⟨?hg1029, ?hy1029⟩) (by assumption) ?rest1029
            case hi1029 => (simp only [List.getElem?_toArray, List.getElem?_cons_zero]; exact rfl)
            case hQ1029 => exact fun _ _ _ h => h
            case hg1029 => rfl
            case hy1029 => (intro w' hSw; (try dsimp only at hSw); go_simp; try with_reducible rfl)
            try simp only [Act.put, List.setIfInBounds_toArray, List.set_cons_zero, List.set_cons_succ]
            refine wpAnyH_take (i := 1) (oi := ?o1030) (v := ?v1030) ?hi1030 (by kernel_rfl) (by kernel_rfl) (by kernel_rfl) ?hQ1030 (Or.inl ⟨?hg1030, ?hy1030⟩) (by assumption) ?rest1030
            case hi1030 => (simp only [List.getElem?_toArray, List.getElem?_cons_zero, List.getElem?_cons_succ]; exact rfl)
            case hQ1030 => exact fun _ _ _ h => h
            case hg1030 => rfl
            case hy1030 => (intro w' hSw; (try dsimp only at hSw); go_simp; try with_reducible rfl)
            try simp only [Act.put, List.setIfInBounds_toArray, List.set_cons_zero, List.set_cons_succ]
            refine wpAnyH_take (i := 2) (oi := ?o1031) (v := ?v1031) ?hi1031 (by kernel_rfl) (by kernel_rfl) (by kernel_rfl) ?hQ1031 (Or.inl ⟨?hg1031, ?hy1031⟩) (by assumption) ?rest1031
            case hi1031 => (simp only [List.getElem?_toArray, List.getElem?_cons_zero, List.getElem?_cons_succ]; exact rfl)
            case hQ1031 => exact fun _ _ _ h => h
            case hg1031 => rfl
            case hy1031 => (intro w' hSw; (try dsimp only at hSw); go_simp; try with_reducible rfl)
            try simp only [Act.put, List.setIfInBounds_toArray, List.set_cons_zero, List.set_cons_succ]
            refine wpAnyH_take (i := 3) (oi := ?o1032) (v := ?v1032) ?hi1032 (by kernel_rfl) (by kernel_rfl) (by kernel_rfl) ?hQ1032 (Or.inl ⟨?hg1032, ?hy1032⟩) (by assumption) ?rest1032
            case hi1032 => (simp only [List.getElem?_toArray, List.getElem?_cons_zero, List.getElem?_cons_succ]; exact rfl)
            case hQ1032 => exact fun _ _ _ h => h
            case hg1032 => rfl
            case hy1032 => (intro w' hSw; (try dsimp only at hSw); go_simp; try with_reducible rfl)
            try simp only [Act.put, List.setIfInBounds_toArray, List.set_cons_zero, List.set_cons_succ]
            refine wpAnyH_take (i := 4) (oi := ?o1033) (v := ?v1033) ?hi1033 (by kernel_rfl) (by kernel_rfl) (by kernel_rfl) ?hQ1033 (Or.inl ⟨?hg1033, ?hy1033⟩) (by assumption) ?rest1033
            case hi1033 => (simp only [List.getElem?_toArray, List.getElem?_cons_zero, List.getElem?_cons_succ]; exact rfl)
            case hQ1033 => exact fun _ _ _ h => h
            case hg1033 => rfl
            case hy1033 => (intro w' hSw; (try dsimp only at hSw); go_simp; try with_reducible rfl)
            try simp only [Act.put, List.setIfInBounds_toArray, List.set_cons_zero, List.set_cons_succ]
            refine wpAnyH_take (i := 5) (oi := ?o1034) (v := ?v1034) ?hi1034 (by kernel_rfl) (by kernel_rfl) (by kernel_rfl) ?hQ1034 (Or.inl ⟨?hg1034, ?hy1034⟩) (by assumption) ?rest1034
            case hi1034 => (simp only [List.getElem?_toArray, List.getElem?_cons_zero, List.getElem?_cons_succ]; exact rfl)
            case hQ1034 => exact fun _ _ _ h => h
            case hg1034 => rfl
            case hy1034 => (intro w' hSw; (try dsimp only at hSw); go_simp; try with_reducible rfl)
            try simp only [Act.put, List.setIfInBounds_toArray, List.set_cons_zero, List.set_cons_succ]
            refine wpAnyH_take (i := 6) (oi := ?o1035) (v := ?v1035) ?hi1035 (by kernel_rfl) (by kernel_rfl) (by kernel_rfl) ?hQ1035 (Or.inl ⟨?hg1035, ?hy1035⟩) (by assumption) ?rest1035
            case hi1035 => (simp only [List.getElem?_toArray, List.getElem?_cons_zero, List.getElem?_cons_succ]; exact rfl)
            case hQ1035 => exact fun _ _ _ h => h
            case hg1035 => rfl
            case hy1035 => (intro w' hSw; (try dsimp only at hSw); go_simp; try with_reducible rfl)
            try simp only [Act.put, List.setIfInBounds_toArray, List.set_cons_zero, List.set_cons_succ]
            refine wpAnyH_take (i := 7) (oi := ?o1036) (v := ?v1036) ?hi1036 (by kernel_rfl) (by kernel_rfl) (by kernel_rfl) ?hQ1036 (Or.inl ⟨?hg1036, ?hy1036⟩) (by assumption) ?rest1036
            case hi1036 => (simp only [List.getElem?_toArray, List.getElem?_cons_zero, List.getElem?_cons_succ]; exact rfl)
            case hQ1036 => exact fun _ _ _ h => h
            case hg1036 => rfl
            case hy1036 => (intro w' hSw; (try dsimp only at hSw); go_simp; try with_reducible rfl)
            try simp only [Act.put, List.setIfInBounds_toArray, List.set_cons_zero, List.set_cons_succ]
            refine wpAnyH_take (i := 8) (oi := ?o1037) (v := ?v1037) ?hi1037 (by kernel_rfl) (by kernel_rfl) (by kernel_rfl) ?hQ1037 (Or.inl ⟨?hg1037, ?hy1037⟩) (by assumption) ?rest1037
            case hi1037 => (simp only [List.getElem?_toArray, List.getElem?_cons_zero, List.getElem?_cons_succ]; exact rfl)
            case hQ1037 => exact fun _ _ _ h => h
            case hg1037 => rfl
            case hy1037 => (intro w' hSw; (try dsimp only at hSw); go_simp; try with_reducible rfl)
            try simp only [Act.put, List.setIfInBounds_toArray, List.set_cons_zero, List.set_cons_succ]
            refine wpAnyH_take (i := 9) (oi := ?o1038) (v := ?v1038) ?hi1038 (by kernel_rfl) (by kernel_rfl) (by kernel_rfl) ?hQ1038 (Or.inl ⟨?hg1038, ?hy1038⟩) (by assumption) ?rest1038
            case hi1038 => (simp only [List.getElem?_toArray, List.getElem?_cons_zero, List.getElem?_cons_succ]; exact rfl)
            case hQ1038 => exact fun _ _ _ h => h
            case hg1038 => rfl
            case hy1038 => (intro w' hSw; (try dsimp only at hSw); go_simp; try with_reducible rfl)
            try simp only [Act.put, List.setIfInBounds_toArray, List.set_cons_zero, List.set_cons_succ]
            refine wpAnyH_take (i := 10) (oi := ?o1039) (v := ?v1039) ?hi1039 (by kernel_rfl) (by kernel_rfl) (by kernel_rfl) ?hQ1039 (Or.inl ⟨?hg1039, ?hy1039⟩) (by assumption) ?rest1039
            case hi1039 => (simp only [List.getElem?_toArray, List.getElem?_cons_zero, List.getElem?_cons_succ]; exact rfl)
            case hQ1039 => exact fun _ _ _ h => h
            case hg1039 => rfl
            case hy1039 => (intro w' hSw; (try dsimp only at hSw); go_simp; try with_reducible rfl)
            try simp only [Act.put, List.setIfInBounds_toArray, List.set_cons_zero, List.set_cons_succ]
            refine wpAnyH_take (i := 11) (oi := ?o1040) (v := ?v1040) ?hi1040 (by kernel_rfl) (by kernel_rfl) (by kernel_rfl) ?hQ1040 (Or.inl ⟨?hg1040, ?hy1040⟩) (by assumption) ?rest1040
            case hi1040 => (simp only [List.getElem?_toArray, List.getElem?_cons_zero, List.getElem?_cons_succ]; exact rfl)
            case hQ1040 => exact fun _ _ _ h => h
            case hg1040 => rfl
            case hy1040 => (intro w' hSw; (try dsimp only at hSw); go_simp; try with_reducible rfl)
            try simp only [Act.put, List.setIfInBounds_toArray, List.set_cons_zero, List.set_cons_succ]
            refine wpAnyH_take (i := 12) (oi := ?o1041) (v := ?v1041) ?hi1041 (by kernel_rfl) (by kernel_rfl) (by kernel_rfl) ?hQ1041 (Or.inl ⟨?hg1041, ?hy1041⟩) (by assumption) ?rest1041
            case hi1041 => (simp only [List.getElem?_toArray, List.getElem?_cons_zero, List.getElem?_cons_succ]; exact rfl)
            case hQ1041 => exact fun _ _ _ h => h
            case hg1041 => rfl
            case hy1041 => (intro w' hSw; (try dsimp only at hSw); go_simp; try with_reducible rfl)
            try simp only [Act.put, List.setIfInBounds_toArray, List.set_cons_zero, List.set_cons_succ]
            refine wpAnyH_take (i := 13) (oi := ?o1042) (v := ?v1042) ?hi1042 (by kernel_rfl) (by kernel_rfl) (by kernel_rfl) ?hQ1042 (Or.inl ⟨?hg1042, ?hy1042⟩) (by assumption) ?rest1042
            case hi1042 => (simp only [List.getElem?_toArray, List.getElem?_cons_zero, List.getElem?_cons_succ]; exact rfl)
            case hQ1042 => exact fun _ _ _ h => h
            case hg1042 => rfl
            case hy1042 => (intro w' hSw; (try dsimp only at hSw); go_simp; try with_reducible rfl)
            try simp only [Act.put, List.setIfInBounds_toArray, List.set_cons_zero, List.set_cons_succ]
            refine wpAnyH_take (i := 14) (oi := ?o1043) (v := ?v1043) ?hi1043 (by kernel_rfl) (by kernel_rfl) (by kernel_rfl) ?hQ1043 (Or.inl ⟨?hg1043, ?hy1043⟩) (by assumption) ?rest1043
            case hi1043 => (simp only [List.getElem?_toArray, List.getElem?_cons_zero, List.getElem?_cons_succ]; exact rfl)
            case hQ1043 => exact fun _ _ _ h => h
            case hg1043 => rfl
            case hy1043 => (intro w' hSw; (try dsimp only at hSw); go_simp; try with_reducible rfl)
            try simp only [Act.put, List.setIfInBounds_toArray, List.set_cons_zero, List.set_cons_succ]
            refine wpAnyH_take (i := 15) (oi := ?o1044) (v := ?v1044) ?hi1044 (by kernel_rfl) (by kernel_rfl) (by kernel_rfl) ?hQ1044 (Or.inl ⟨?hg1044, ?hy1044⟩) (by assumption) ?rest1044
            case hi1044 => (simp only [List.getElem?_toArray, List.getElem?_cons_zero, List.getElem?_cons_succ]; exact rfl)
            case hQ1044 => exact fun _ _ _ h => h
            case hg1044 => rfl
            case hy1044 => (intro w' hSw; (try dsimp only at hSw); go_simp; try with_reducible rfl)
            try simp only [Act.put, List.setIfInBounds_toArray, List.set_cons_zero, List.set_cons_succ]
            refine wpAnyH_take (i := 16) (oi := ?o1045) (v := ?v1045) ?hi1045 (by kernel_rfl) (by kernel_rfl) (by kernel_rfl) ?hQ1045 (Or.inl ⟨?hg1045, ?hy1045⟩) (by assumption) ?rest1045
            case hi1045 => (simp only [List.getElem?_toArray, List.getElem?_cons_zero, List.getElem?_cons_succ]; exact rfl)
            case hQ1045 => exact fun _ _ _ h => h
            case hg1045 => rfl
            case hy1045 => (intro w' hSw; (try dsimp only at hSw); go_simp; try with_reducible rfl)
            try simp only [Act.put, List.setIfInBounds_toArray, List.set_cons_zero, List.set_cons_succ]
            refine wpAnyH_take (i := 17) (oi := ?o1046) (v := ?v1046) ?hi1046 (by kernel_rfl) (by kernel_rfl) (by kernel_rfl) ?hQ1046 (Or.inl ⟨?hg1046, ?hy1046⟩) (by assumption) ?rest1046
            case hi1046 => (simp only [List.getElem?_toArray, List.getElem?_cons_zero, List.getElem?_cons_succ]; exact rfl)
            case hQ1046 => exact fun _ _ _ h => h
            case hg1046 => rfl
            case hy1046 => (intro w' hSw; (try dsimp only at hSw); go_simp; try with_reducible rfl)
            try simp only [Act.put, List.setIfInBounds_toArray, List.set_cons_zero, List.set_cons_succ]
            refine wpAnyH_take (i := 18) (oi := ?o1047) (v := ?v1047) ?hi1047 (by kernel_rfl) (by kernel_rfl) (by kernel_rfl) ?hQ1047 (Or.inl ⟨?hg1047, ?hy1047⟩) (by assumption) ?rest1047
            case hi1047 => (simp only [List.getElem?_toArray, List.getElem?_cons_zero, List.getElem?_cons_succ]; exact rfl)
            case hQ1047 => exact fun _ _ _ h => h
            case hg1047 => rfl
            case hy1047 => (intro w' hSw; (try dsimp only at hSw); go_simp; try with_reducible rfl)
            try simp only [Act.put, List.setIfInBounds_toArray, List.set_cons_zero, List.set_cons_succ]
            refine wpAnyH_take (i := 19) (oi := ?o1048) (v := ?v1048) ?hi1048 (by kernel_rfl) (by kernel_rfl) (by kernel_rfl) ?hQ1048 (Or.inl ⟨?hg1048, ?hy1048⟩) (by assumption) ?rest1048
            case hi1048 => (simp only [List.getElem?_toArray, List.getElem?_cons_zero, List.getElem?_cons_succ]; exact rfl)
            case hQ1048 => exact fun _ _ _ h => h
            case hg1048 => rfl
            case hy1048 => (intro w' hSw; (try dsimp only at hSw); go_simp; try with_reducible rfl)
            try simp only [Act.put, List.setIfInBounds_toArray, List.set_cons_zero, List.set_cons_succ]
            refine wpAnyH_take (i := 20) (oi := ?o1049) (v := ?v1049) ?hi1049 (by kernel_rfl) (by kernel_rfl) (by kernel_rfl) ?hQ1049 (Or.inl ⟨?hg1049, ?hy1049⟩) (by assumption) ?rest1049
            case hi1049 => (simp only [List.getElem?_toArray, List.getElem?_cons_zero, List.getElem?_cons_succ]; exact rfl)
            case hQ1049 => exact fun _ _ _ h => h
            case hg1049 => rfl
            case hy1049 => (intro w' hSw; (try dsimp only at hSw); go_simp; try with_reducible rfl)
            try simp only [Act.put, List.setIfInBounds_toArray, List.set_cons_zero, List.set_cons_succ]
            refine wpAnyH_take (i := 21) (oi := ?o1050) (v := ?v1050) ?hi1050 (by kernel_rfl) (by kernel_rfl) (by kernel_rfl) ?hQ1050 (Or.inl ⟨?hg1050, ?hy1050⟩) (by assumption) ?rest1050
            case hi1050 => (simp only [List.getElem?_toArray, List.getElem?_cons_zero, List.getElem?_cons_succ]; exact rfl)
            case hQ1050 => exact fun _ _ _ h => h
            case hg1050 => rfl
            case hy1050 => (intro w' hSw; (try dsimp only at hSw); go_simp; try with_reducible rfl)
            try simp only [Act.put, List.setIfInBounds_toArray, List.set_cons_zero, List.set_cons_succ]
            refine wpAnyH_take (i := 22) (oi := ?o1051) (v := ?v1051) ?hi1051 (by kernel_rfl) (by kernel_rfl) (by kernel_rfl) ?hQ1051 (Or.inl ⟨?hg1051, ?hy1051⟩) (by assumption) ?rest1051
            case hi1051 => (simp only [List.getElem?_toArray, List.getElem?_cons_zero, List.getElem?_cons_succ]; exact rfl)
            case hQ1051 => exact fun _ _ _ h => h
            case hg1051 => rfl
            case hy1051 => (intro w' hSw; (try dsimp only at hSw); go_simp; try with_reducible rfl)
            try simp only [Act.put, List.setIfInBounds_toArray, List.set_cons_zero, List.set_cons_succ]
            refine wpAnyH_ready (rs := [23]) (by kernel_rfl) (by simp) ?_
            refine AllReadyH.cons (o := ?o1052) ?hi1052 (fun K hK => ?_) AllReadyH.nil
            case hi1052 => (simp only [List.getElem?_toArray, List.getElem?_cons_zero, List.getElem?_cons_succ]; exact rfl)
            (go_simp; go_at_call 16; (with_reducible refine (NM.out _).mono ?_); rintro e u1 ⟨rfl, v1⟩; try dsimp only)
            have z1 := (v1.out.cell (p := ⟨b, off + k * 3 + 1, none⟩) hb).trans y1
            have z2 := (v1.out.cell (p := ⟨b, off + k * 3 + 2, none⟩) hb).trans y2
            have HU := Lib.hid (HD.out.trans (v1.out.mono HD.out.size))
            refine hK.out _ _ ?_ (fun hHeld => ?_)
            · exact ⟨z1, z2⟩
            clear hK K
            try simp only [Act.put, List.setIfInBounds_toArray, List.set_cons_zero, List.set_cons_succ]
            refine wpAnyH_take (i := 24) (oi := ?o1053) (v := ?v1053) ?hi1053 (by kernel_rfl) (by kernel_rfl) (by kernel_rfl) ?hQ1053 (Or.inl ⟨?hg1053, ?hy1053⟩) (by assumption) ?rest1053
            case hi1053 => (simp only [List.getElem?_toArray, List.getElem?_cons_zero, List.getElem?_cons_succ]; exact rfl)
            case hQ1053 => exact fun _ _ _ h => h
            case hg1053 => rfl
            case hy1053 => (intro w' hSw; (try dsimp only at hSw); go_simp; try with_reducible rfl)
            try simp only [Act.put, List.setIfInBounds_toArray, List.set_cons_zero, List.set_cons_succ]
            refine wpAnyH_take (i := 25) (oi := ?o1054) (v := ?v1054) ?hi1054 (by kernel_rfl) (by kernel_rfl) (by kernel_rfl) ?hQ1054 (Or.inl ⟨?hg1054, ?hy1054⟩) (by assumption) ?rest1054
            case hi1054 => (simp only [List.getElem?_toArray, List.getElem?_cons_zero, List.getElem?_cons_succ]; exact rfl)
            case hQ1054 => exact fun _ _ _ h => h
            case hg1054 => rfl
            case hy1054 => (intro w' hSw; (try dsimp only at hSw); go_simp; try with_reducible rfl)
            try simp only [Act.put, List.setIfInBounds_toArray, List.set_cons_zero, List.set_cons_succ]
            refine wpAnyH_done (by kernel_rfl) ?_ _
            go_wp2
            refine ⟨⟨k + 1, by omega, by go_num, HU⟩, ?_⟩
            simp [intOf]; omega
          · obtain rfl : L = k := by omega
            go_wp2
            go_ret
            exact ⟨rfl, Lib.hid (O5.out.below.trans (HB.out.mono O5.out.below.size))⟩
end Go.Proofs.Yteppokokabgniaa
