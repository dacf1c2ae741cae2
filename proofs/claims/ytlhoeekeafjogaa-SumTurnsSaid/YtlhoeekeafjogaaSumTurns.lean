/-
  The law SumTurns: a byte turned and turned back; two bytes that change places turn the checksum, but where they are alike.
-/
import Derived.Test.YtlhoeekeafjogaaSumParts
namespace Go.Proofs.Ytlhoeekeafjogaa
open Go.RowKit
set_option maxHeartbeats 4000000 in
set_option maxRecDepth 100000 in
theorem turns_core (w : World) (b off : Nat) (zs : List Int) (cap i k n : Nat) (x y S T U : Int) (hn : n ≤ 3000) (hnl : zs.length = n) (hik : i < k) (hk : k < n)
    (hb : Bytes w w.heap.size (some ⟨b, off, none⟩) zs) (hbb : b < w.heap.size) (hci : w.cell? ⟨b, off + i, none⟩ = some (.int .u8 x)) (hck : w.cell? ⟨b, off + k, none⟩ = some (.int .u8 y))
    (x0 : 0 ≤ x) (x1 : x ≤ 255) (y0 : 0 ≤ y) (y1 : y ≤ 255) (hgi : ([] ++ zs).getD i 0 = x) (hgk : ([] ++ zs).getD k 0 = y)
    (ofz : ∀ W, Below w.heap.size w W → Calls Try.prog 12 #[.slice (some ⟨b, off, none⟩) n cap] W fun e w' => e = .returned (.int .u32 S) ∧ W = w')
    (t1 : ∀ W, Calls Try.prog 11 #[.int .u32 S, .int .i64 (n : Int), .int .i64 (i : Int), .int .u8 x, .int .u8 y] W fun e w' => e = .returned (.tuple #[.int .u32 T, .bool true]) ∧ W = w')
    (t2 : ∀ W, Calls Try.prog 11 #[.int .u32 T, .int .i64 (n : Int), .int .i64 (k : Int), .int .u8 y, .int .u8 x] W fun e w' => e = .returned (.tuple #[.int .u32 U, .bool true]) ∧ W = w')
    (t3 : ∀ W, Calls Try.prog 11 #[.int .u32 T, .int .i64 (n : Int), .int .i64 (i : Int), .int .u8 y, .int .u8 x] W fun e w' => e = .returned (.tuple #[.int .u32 S, .bool true]) ∧ W = w')
    (ofc : ∀ W D c m, m = n → Bytes W W.heap.size D ((([] ++ zs).set i y).set k x) → Calls Try.prog 12 #[.slice D m c] W fun e w' => e = .returned (.int .u32 U) ∧ W = w')
    (same : (U == S) = (x == y)) :
    Calls Try.prog 7 #[.slice (some ⟨b, off, none⟩) n cap, .int .i64 (i : Int), .int .i64 (k : Int)] w fun e w' => e = .returned (.bool true) ∧ Below w.heap.size w w' := by
  have n1 : (n : Int) ≤ 3000 := by omega
  have k1 : (i : Int) < (k : Int) := by omega
  have k2 : (k : Int) < (n : Int) := by omega
  have i2 : (i : Int) < (n : Int) := by omega
  have HB := Lib.hid hb
  have OZ := Lib.hid ofz
  have T1 := Lib.hid t1
  have T2 := Lib.hid t2
  have T3 := Lib.hid t3
  have OC := Lib.hid ofc
  have SM := Lib.hid same
  have NL := Lib.hid hnl
  have HI := Lib.hid hci
  have HK := Lib.hid hck
  have GI := Lib.hid hgi
  have GK := Lib.hid hgk
  clear hb ofz t1 t2 t3 ofc same hnl hci hck hgi hgk
  go_enter Try.func7, Try.ntmps7
  go_wp2_with fail
  refine (awake_any _).mono ?_; rintro e w1 ⟨rfl, b1⟩
  have B1 := Lib.hid b1
  clear b1
  go_wp2_with fail
  refine (OZ.out _ B1.out).mono ?_; rintro e w' ⟨rfl, rfl⟩
  go_wp2_with fail
  have ci := (B1.out.cell (p := ⟨b, off + i, none⟩) hbb).trans HI.out
  have ck := (B1.out.cell (p := ⟨b, off + k, none⟩) hbb).trans HK.out
  go_quiet ((go_at_call 11; exact stillP T1.out))
  generalize hw2 : World.drewN w1 _ = w2
  have B2 : Hid (Below w.heap.size w w2) := Lib.hid (by rw [← hw2]; exact below_dn B1.out _)
  clear hw2 B1 ci ck
  go_wp2_with fail
  have ci := (B2.out.cell (p := ⟨b, off + i, none⟩) hbb).trans HI.out
  have ck := (B2.out.cell (p := ⟨b, off + k, none⟩) hbb).trans HK.out
  go_quiet ((go_at_call 11; exact stillP T2.out))
  generalize hw3 : World.drewN w2 _ = w3
  have B3 : Hid (Below w.heap.size w w3) := Lib.hid (by rw [← hw3]; exact below_dn B2.out _)
  clear hw3 B2 ci ck
  go_wp2_with fail
  have ci := (B3.out.cell (p := ⟨b, off + i, none⟩) hbb).trans HI.out
  have ck := (B3.out.cell (p := ⟨b, off + k, none⟩) hbb).trans HK.out
  go_quiet ((go_at_call 11; exact stillP T3.out))
  generalize hw4 : World.drewN w3 _ = w4
  have B4 : Hid (Below w.heap.size w w4) := Lib.hid (by rw [← hw4]; exact below_dn B3.out _)
  clear hw4 B3 ci ck
  have hs4 := B4.out.size
  go_upto_region 11 with (at_builtin; refine wp_app rfl (.tmp 85) (.tmp 86) rfl rfl rfl (OwnB.start w4 w.heap.size hs4) (by simp; omega) rfl NL.out.symm ((HB.out.below B4.out).below ((Below.refl _ _).alloc hs4 _)) (by have := NL.out; simp; omega) ?_; intro A5 c5 w5 o5 d5; have B5 := Lib.hid (B4.out.trans (((Below.refl _ _).alloc hs4 _).trans d5)); have O5 := Lib.hid o5; clear o5 d5)
  have i3 : (i : Int) < (zs.length : Int) := by rw [NL.out]; exact i2
  have k3 : (k : Int) < (zs.length : Int) := by rw [NL.out]; exact k2
  obtain ⟨g, rfl, hg1, hg2⟩ := O5.out.shape (by simp; omega)
  obtain ⟨cci, cfi⟩ := O5.out.cell (j := i) (by simp; omega)
  obtain ⟨cck, cfk⟩ := O5.out.cell (j := k) (by simp; omega)
  rw [GI.out] at cci
  rw [GK.out] at cck
  go_region
  go_upto_region 12 with fail
  generalize hw6 : World.drew _ = w6
  have O6 : Hid (OwnB w6 w.heap.size (some ⟨g, 0, none⟩) c5 ((([] ++ zs).set i y).set k x)) := Lib.hid (by
    rw [← hw6]
    have h := (O5.out.stored i y y0 y1).stored k x x0 x1
    exact ⟨h.1.drew, h.2⟩)
  have B6 : Hid (Below w.heap.size w w6) := Lib.hid (by rw [← hw6]; exact ((B5.out.setCell (p := ⟨g, i, none⟩) hg1 _).setCell (p := ⟨g, k, none⟩) hg1 _).drew)
  clear hw6 O5 B5 cci cfi cck cfk hg1 hg2
  have OF := Lib.hid (fun W (h : Below w6.heap.size w6 W) => OC.out W (some ⟨g, 0, none⟩) c5 zs.length NL.out ((O6.out.bytes.below h).more h.size))
  have R6 := Below.refl w6.heap.size w6
  have HR := Lib.hid R6
  clear R6
  have ci := (B6.out.cell (p := ⟨b, off + i, none⟩) hbb).trans HI.out
  have ck := (B6.out.cell (p := ⟨b, off + k, none⟩) hbb).trans HK.out
  have same := SM.out
  go_quiet ((go_at_call 12; exact stillB HR.out OF.out))
  clear ci ck
  go_wp2
  go_ret
  exact ⟨rfl, below_dn B6.out _⟩
set_option maxHeartbeats 1000000 in
theorem turns_out (w : World) (A : Option Addr) (n cap : Nat) (i k : Int)
    (h : (3000 : Int) < (n : Int) ∨ ((n : Int) ≤ 3000 ∧ i < 0) ∨ ((n : Int) ≤ 3000 ∧ 0 ≤ i ∧ k ≤ i) ∨ ((n : Int) ≤ 3000 ∧ 0 ≤ i ∧ i < k ∧ (n : Int) ≤ k)) :
    Calls Try.prog 7 #[.slice A n cap, .int .i64 i, .int .i64 k] w fun e w' => e = .returned (.bool true) ∧ Below w.heap.size w w' := by
  rcases h with h1 | ⟨h1, h2⟩ | ⟨h1, h2, h3⟩ | ⟨h1, h2, h3, h4⟩
  all_goals
    go_enter Try.func7, Try.ntmps7
    go_wp2_with fail
    refine (awake_any _).mono ?_; rintro e w1 ⟨rfl, b1⟩
    go_wp2
    go_ret
    exact ⟨rfl, b1⟩
theorem getD_set_ne (zs : List Int) (i k : Nat) (v : Int) (h : i ≠ k) : (zs.set i v).getD k 0 = zs.getD k 0 := by
  rw [List.getD_eq_getElem?_getD, List.getElem?_set_ne h, ← List.getD_eq_getElem?_getD]
theorem getD_set_eq (zs : List Int) (i : Nat) (v : Int) (h : i < zs.length) : (zs.set i v).getD i 0 = v := by
  rw [List.getD_eq_getElem?_getD, List.getElem?_set_self h]; rfl
theorem turns_walk (w : World) (A : Option Addr) (zs : List Int) (cap : Nat) (i k : Int) (_hl : zs.length ≤ 9223372036854775807) (hb : Bytes w w.heap.size A zs) :
    Calls Try.prog 7 #[.slice A zs.length cap, .int .i64 i, .int .i64 k] w fun e w' => e = .returned (.bool true) ∧ Below w.heap.size w w' := by
  by_cases h : zs.length ≤ 3000 ∧ 0 ≤ i ∧ i < k ∧ k < (zs.length : Int)
  · obtain ⟨h1, h2, h3, h4⟩ := h
    obtain ⟨i, rfl⟩ := Int.eq_ofNat_of_zero_le h2
    obtain ⟨k, rfl⟩ := Int.eq_ofNat_of_zero_le (show 0 ≤ k by omega)
    have hik : i < k := by omega
    have hk : k < zs.length := by omega
    have hi : i < zs.length := by omega
    obtain ⟨b, off, x, rfl, hbb, hci, hx, x0, x1⟩ := hb.at_ hi
    obtain ⟨b', off', y, e, _, hck, hy, y0, y1⟩ := hb.at_ hk
    injection e with e
    injection e with e1 e2
    subst e1 e2
    have hxx := hx.out
    have hyy := hy.out
    have l1 : (zs.set i y).length = zs.length := List.length_set
    refine turns_core w b off zs cap i k zs.length x y (Su.ofV zs) (Su.ofV (zs.set i y)) (Su.ofV ((zs.set i y).set k x)) h1 rfl hik hk hb hbb.out hci hck x0 x1 y0 y1 hxx hyy
      (fun W hW => of_any _ _ zs cap (by omega) W (hb.below hW))
      (fun W => turn_of_any zs i y _ hi rfl h1 x hxx x0 x1 y0 y1 W)
      (fun W => turn_of_any (zs.set i y) k x _ (by omega) (by omega) (by omega) y (by rw [getD_set_ne _ _ _ _ (by omega)]; exact hyy) y0 y1 x0 x1 W)
      (fun W => ?_) ?_ ?_
    · have := turn_of_any (zs.set i y) i x zs.length (by omega) (by omega) (by omega) y (getD_set_eq zs i y hi) y0 y1 x0 x1 W
      rw [← hxx, Su.swap_back zs i y hi] at this
      rw [hxx] at this
      exact this
    · intro W D c m hm hD
      rw [List.nil_append] at hD
      have := of_any _ D ((zs.set i y).set k x) c (by simp; omega) W hD
      rw [List.length_set, List.length_set] at this
      subst hm
      exact this
    · have := Su.swap_same zs i k hik hk h1 (by omega) (by omega) (by omega) (by omega)
      rw [hxx, hyy] at this
      rw [Bool.eq_iff_iff]
      simpa using this
  · exact turns_out w A zs.length cap i k (by omega)
end Go.Proofs.Ytlhoeekeafjogaa
