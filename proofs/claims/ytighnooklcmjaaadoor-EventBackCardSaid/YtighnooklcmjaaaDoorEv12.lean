/-
  Part 12 of the texts behind the law: NameProg, EightKit, EvRefPut, EncFirst, EncOut, EncOutKeep.
-/
import Derived.Test.YtighnooklcmjaaaDoorEv7
import Derived.Test.YtighnooklcmjaaaDoorEv1
import Derived.Test.YtighnooklcmjaaaDoorEv6
import Derived.Test.YtighnooklcmjaaaDoorEv11
/-
  The program's Name and isDigit at every argument.
-/
namespace Go.Proofs.YtighnooklcmjaaaDoor
open Go.RowKit
set_option maxRecDepth 20000 in
set_option maxHeartbeats 400000 in
theorem isDigit_yes (z : Int) (h0 : 48 ≤ z) (h1 : z ≤ 57) (w : World) : Calls Tryd.prog 40 #[.int .u8 z] w fun e w' => e = .returned (.bool true) ∧ w = w' := by
  go_enter Tryd.func40, Tryd.ntmps40
  go_wp2
  go_ret
  exact ⟨rfl, rfl⟩
set_option maxRecDepth 20000 in
set_option maxHeartbeats 400000 in
theorem isDigit_no (z : Int) (h : z < 48 ∨ 57 < z) (w : World) : Calls Tryd.prog 40 #[.int .u8 z] w fun e w' => e = .returned (.bool false) ∧ w = w' := by
  rcases h with h | h
  · go_enter Tryd.func40, Tryd.ntmps40
    go_wp2
    go_ret
    exact ⟨rfl, rfl⟩
  · have h2 : 48 ≤ z := by omega
    go_enter Tryd.func40, Tryd.ntmps40
    go_wp2
    go_ret
    exact ⟨ret_bool (decide_eq_false (by omega)), rfl⟩
set_option maxRecDepth 8000 in
set_option maxHeartbeats 1000000 in
theorem name_at (s : ByteArray) (hs : s.size ≤ 9223372036854775807) (w : World) : Calls Tryd.prog 19 #[.string s] w fun e w' => e = .returned (.bool (Nm.isName s.data.toList)) ∧ w = w' := by
  by_cases h0 : s.size = 0
  · obtain rfl := emptyB h0
    go_enter Tryd.func19, Tryd.ntmps19
    go_wp2
    go_ret
    exact ⟨rfl, rfl⟩
  · obtain ⟨hne2, hne⟩ := nonemptyB h0
    by_cases h1 : 16 < s.size
    · have h1' : 16 < (s.size : Int) := by omega
      have HN := Lib.hid (name_len (s := s) (.inr h1))
      clear h0 h1
      go_enter Tryd.func19, Tryd.ntmps19
      go_wp2
      go_ret
      exact ⟨ret_bool HN.out.symm, rfl⟩
    · have g0 := Lib.hid (show 1 ≤ s.size by omega)
      have g1 := Lib.hid (show s.size ≤ 16 by omega)
      have g2 : (s.size : Int) ≤ 16 := by omega
      clear hs h0 h1
      have st : Hid (CharsTo s 0) := Lib.hid ⟨Nat.zero_le _, rfl⟩
      go_enter Tryd.func19, Tryd.ntmps19
      go_wp2
      go_loop [3, 13] (fun _ i => ∃ k : Nat, CharsTo s k ∧ i = .int .i64 k) (fun _ i => s.size - (intOf i).toNat)
      case atStart => exact ⟨0, st.out, rfl⟩
      case round =>
        obtain ⟨k, hk, rfl⟩ := hrel
        have HK := Lib.hid hk
        clear hk
        by_cases hlt : k < s.size
        · have hlt' : (k : Int) < (s.size : Int) := by omega
          have NO := name_no hlt
          have YES := HK.out.next hlt
          have CS := char_split s[k]
          have hr : 0 ≤ (s[k].toNat : Int) ∧ (s[k].toNat : Int) ≤ 255 := by have := s[k].toNat_lt; omega
          obtain ⟨c, hc⟩ : ∃ c : Int, (s[k].toNat : Int) = c := ⟨_, rfl⟩
          rw [hc] at CS hr
          obtain ⟨z0, z1⟩ := hr
          rcases CS with ⟨a1, a2⟩ | ⟨a1, a2, a3⟩ | ⟨a1, a2, a3⟩ | ⟨a1, a2, a3⟩ | ⟨a1, a2⟩
          · have R := Lib.hid (NO a2)
            have D := Lib.hid (isDigit_no c (.inl a1))
            clear NO YES a2
            go_wp2_with (go_at_call 40; refine (D.out _).mono ?_; rintro e w' ⟨rfl, rfl⟩)
            go_ret
            exact ⟨ret_bool R.out.symm, rfl⟩
          · have R := Lib.hid (YES a3)
            have D := Lib.hid (isDigit_yes c a1 a2)
            clear NO YES a3
            go_wp2_with (go_at_call 40; refine (D.out _).mono ?_; rintro e w' ⟨rfl, rfl⟩)
            go_round
            case rel => exact ⟨k + 1, R.out, by go_num⟩
            case measure => simp [intOf]; omega
          · have R := Lib.hid (NO a3)
            have D := Lib.hid (isDigit_no c (.inr a1))
            clear NO YES a3
            go_wp2_with (go_at_call 40; refine (D.out _).mono ?_; rintro e w' ⟨rfl, rfl⟩)
            go_ret
            exact ⟨ret_bool R.out.symm, rfl⟩
          · have R := Lib.hid (YES a3)
            have D := Lib.hid (isDigit_no c (.inr (by omega)))
            clear NO YES a3
            go_wp2_with (go_at_call 40; refine (D.out _).mono ?_; rintro e w' ⟨rfl, rfl⟩)
            go_round
            case rel => exact ⟨k + 1, R.out, by go_num⟩
            case measure => simp [intOf]; omega
          · have R := Lib.hid (NO a2)
            have D := Lib.hid (isDigit_no c (.inr (by omega)))
            have q2 : 97 ≤ c := by omega
            clear NO YES a2
            go_wp2_with (go_at_call 40; refine (D.out _).mono ?_; rintro e w' ⟨rfl, rfl⟩)
            go_ret
            exact ⟨ret_bool R.out.symm, rfl⟩
        · obtain rfl : k = s.size := by have := HK.out.1; omega
          have R := Lib.hid (name_yes g0.out g1.out HK.out)
          have hge : ¬ (s.size : Int) < (s.size : Int) := by omega
          go_wp2
          go_ret
          exact ⟨ret_bool R.out.symm, rfl⟩
end Go.Proofs.YtighnooklcmjaaaDoor
/-
  A struct of eight cells stored into its box.
-/
namespace Go.Proofs.YtighnooklcmjaaaDoor
open Go.RowKit
def S8 (w : World) (g : Nat) (v0 v1 v2 v3 v4 v5 v6 v7 : Value) : World := (((((((w.setCell ⟨g, 0, none⟩ v0).setCell ⟨g, 1, none⟩ v1).setCell ⟨g, 2, none⟩ v2).setCell ⟨g, 3, none⟩ v3).setCell ⟨g, 4, none⟩ v4).setCell ⟨g, 5, none⟩ v5).setCell ⟨g, 6, none⟩ v6).setCell ⟨g, 7, none⟩ v7
theorem S8.at_ {w : World} {g : Nat} {a0 a1 a2 a3 a4 a5 a6 a7 : Value} {t : TypeId} (h : w.heap[g]? = some (.cells #[a0, a1, a2, a3, a4, a5, a6, a7] t (0, 0))) (v0 v1 v2 v3 v4 v5 v6 v7 : Value) : (S8 w g v0 v1 v2 v3 v4 v5 v6 v7).heap[g]? = some (.cells #[v0, v1, v2, v3, v4, v5, v6, v7] t (0, 0)) := by
  have h0 : (w.setCell ⟨g, 0, none⟩ v0).heap[g]? = some (.cells #[v0, a1, a2, a3, a4, a5, a6, a7] t (0, 0)) := heap_setCell_same _ g 0 _ _ _ h
  have h1 : ((w.setCell ⟨g, 0, none⟩ v0).setCell ⟨g, 1, none⟩ v1).heap[g]? = some (.cells #[v0, v1, a2, a3, a4, a5, a6, a7] t (0, 0)) := heap_setCell_same _ g 1 _ _ _ h0
  have h2 : (((w.setCell ⟨g, 0, none⟩ v0).setCell ⟨g, 1, none⟩ v1).setCell ⟨g, 2, none⟩ v2).heap[g]? = some (.cells #[v0, v1, v2, a3, a4, a5, a6, a7] t (0, 0)) := heap_setCell_same _ g 2 _ _ _ h1
  have h3 : ((((w.setCell ⟨g, 0, none⟩ v0).setCell ⟨g, 1, none⟩ v1).setCell ⟨g, 2, none⟩ v2).setCell ⟨g, 3, none⟩ v3).heap[g]? = some (.cells #[v0, v1, v2, v3, a4, a5, a6, a7] t (0, 0)) := heap_setCell_same _ g 3 _ _ _ h2
  have h4 : (((((w.setCell ⟨g, 0, none⟩ v0).setCell ⟨g, 1, none⟩ v1).setCell ⟨g, 2, none⟩ v2).setCell ⟨g, 3, none⟩ v3).setCell ⟨g, 4, none⟩ v4).heap[g]? = some (.cells #[v0, v1, v2, v3, v4, a5, a6, a7] t (0, 0)) := heap_setCell_same _ g 4 _ _ _ h3
  have h5 : ((((((w.setCell ⟨g, 0, none⟩ v0).setCell ⟨g, 1, none⟩ v1).setCell ⟨g, 2, none⟩ v2).setCell ⟨g, 3, none⟩ v3).setCell ⟨g, 4, none⟩ v4).setCell ⟨g, 5, none⟩ v5).heap[g]? = some (.cells #[v0, v1, v2, v3, v4, v5, a6, a7] t (0, 0)) := heap_setCell_same _ g 5 _ _ _ h4
  have h6 : (((((((w.setCell ⟨g, 0, none⟩ v0).setCell ⟨g, 1, none⟩ v1).setCell ⟨g, 2, none⟩ v2).setCell ⟨g, 3, none⟩ v3).setCell ⟨g, 4, none⟩ v4).setCell ⟨g, 5, none⟩ v5).setCell ⟨g, 6, none⟩ v6).heap[g]? = some (.cells #[v0, v1, v2, v3, v4, v5, v6, a7] t (0, 0)) := heap_setCell_same _ g 6 _ _ _ h5
  have h7 : ((((((((w.setCell ⟨g, 0, none⟩ v0).setCell ⟨g, 1, none⟩ v1).setCell ⟨g, 2, none⟩ v2).setCell ⟨g, 3, none⟩ v3).setCell ⟨g, 4, none⟩ v4).setCell ⟨g, 5, none⟩ v5).setCell ⟨g, 6, none⟩ v6).setCell ⟨g, 7, none⟩ v7).heap[g]? = some (.cells #[v0, v1, v2, v3, v4, v5, v6, v7] t (0, 0)) := heap_setCell_same _ g 7 _ _ _ h6
  exact h7
theorem S8.else_ (w : World) (g : Nat) (v0 v1 v2 v3 v4 v5 v6 v7 : Value) {k : Nat} (hk : k ≠ g) : (S8 w g v0 v1 v2 v3 v4 v5 v6 v7).heap[k]? = w.heap[k]? :=
  (Below.heap_setCell _ _ _ _ hk).trans ((Below.heap_setCell _ _ _ _ hk).trans ((Below.heap_setCell _ _ _ _ hk).trans ((Below.heap_setCell _ _ _ _ hk).trans ((Below.heap_setCell _ _ _ _ hk).trans ((Below.heap_setCell _ _ _ _ hk).trans ((Below.heap_setCell _ _ _ _ hk).trans (Below.heap_setCell _ _ _ _ hk)))))))
theorem S8.size_ (w : World) (g : Nat) (v0 v1 v2 v3 v4 v5 v6 v7 : Value) : (S8 w g v0 v1 v2 v3 v4 v5 v6 v7).heap.size = w.heap.size := by simp [S8, World.setCell]
theorem S8.below {a w : World} {B g : Nat} (h : Below B a w) (hg : B ≤ g) (v0 v1 v2 v3 v4 v5 v6 v7 : Value) : Below B a (S8 w g v0 v1 v2 v3 v4 v5 v6 v7) :=
  ((((((((h).setCell (p := ⟨g, 0, none⟩) hg _).setCell (p := ⟨g, 1, none⟩) hg _).setCell (p := ⟨g, 2, none⟩) hg _).setCell (p := ⟨g, 3, none⟩) hg _).setCell (p := ⟨g, 4, none⟩) hg _).setCell (p := ⟨g, 5, none⟩) hg _).setCell (p := ⟨g, 6, none⟩) hg _).setCell (p := ⟨g, 7, none⟩) hg _
theorem S8.but (B : Nat) (w : World) (g : Nat) (v0 v1 v2 v3 v4 v5 v6 v7 : Value) : But B g w (S8 w g v0 v1 v2 v3 v4 v5 v6 v7) :=
  (But.set _ _ _ _ _).trans ((But.set _ _ _ _ _).trans ((But.set _ _ _ _ _).trans ((But.set _ _ _ _ _).trans ((But.set _ _ _ _ _).trans ((But.set _ _ _ _ _).trans ((But.set _ _ _ _ _).trans (But.set _ _ _ _ _)))))))
theorem ob8 {w : World} {g : Nat} {v0 v1 v2 v3 v4 v5 v6 v7 : Value} {t : TypeId} (h : w.heap[g]? = some (.cells #[v0, v1, v2, v3, v4, v5, v6, v7] t (0, 0))) :
    w.cell? ⟨g, 0, none⟩ = some v0 ∧ w.cell? ⟨g, 1, none⟩ = some v1 ∧ w.cell? ⟨g, 2, none⟩ = some v2 ∧ w.cell? ⟨g, 3, none⟩ = some v3 ∧ w.cell? ⟨g, 4, none⟩ = some v4 ∧ w.cell? ⟨g, 5, none⟩ = some v5 ∧ w.cell? ⟨g, 6, none⟩ = some v6 ∧ w.cell? ⟨g, 7, none⟩ = some v7 :=
  ⟨by simp [World.cell?, h], by simp [World.cell?, h], by simp [World.cell?, h], by simp [World.cell?, h], by simp [World.cell?, h], by simp [World.cell?, h], by simp [World.cell?, h], by simp [World.cell?, h]⟩
theorem ob8f {w : World} {g : Nat} {cs : Array Value} {t : TypeId} (h : w.heap[g]? = some (.cells cs t (0, 0))) :
    w.frozen? ⟨g, 0, none⟩ = false ∧ w.frozen? ⟨g, 1, none⟩ = false ∧ w.frozen? ⟨g, 2, none⟩ = false ∧ w.frozen? ⟨g, 3, none⟩ = false ∧ w.frozen? ⟨g, 4, none⟩ = false ∧ w.frozen? ⟨g, 5, none⟩ = false ∧ w.frozen? ⟨g, 6, none⟩ = false ∧ w.frozen? ⟨g, 7, none⟩ = false :=
  ⟨by simp [World.frozen?, h], by simp [World.frozen?, h], by simp [World.frozen?, h], by simp [World.frozen?, h], by simp [World.frozen?, h], by simp [World.frozen?, h], by simp [World.frozen?, h], by simp [World.frozen?, h]⟩
end Go.Proofs.YtighnooklcmjaaaDoor
/-
  The reference's PutU and PutS at every argument: a new row of bytes.
-/
namespace Go.Proofs.YtighnooklcmjaaaDoor
open Go.RowKit
/-- New bytes handed back. -/
def BytesP (w : World) (ys : List Int) (e : Ending) (w' : World) : Prop :=
  ∃ zs A cap, Hid (zs = ys) ∧ e = .returned (.slice A zs.length cap) ∧ Hid (OwnB w' w.heap.size A cap zs) ∧ Hid (Grew w.heap.size w w')
theorem BytesP.mk_ {w w' : World} {ys : List Int} {A : Option Addr} {cap n : Nat} (hn : n = ys.length) (h : OwnB w' w.heap.size A cap ys) (g : Grew w.heap.size w w') : BytesP w ys (.returned (.slice A n cap)) w' := by
  subst hn; exact ⟨ys, A, cap, Lib.hid rfl, rfl, Lib.hid h, Lib.hid g⟩
set_option maxHeartbeats 2000000 in
theorem refPutU_any (A : Option Addr) (zs : List Int) (cap : Nat) (v : Int) (v0 : 0 ≤ v) (v1 : v < 18446744073709551616) (hl : zs.length ≤ 1000000) (w : World) (h : Bytes w w.heap.size A zs) :
    Calls Tryd.prog 36 #[.slice A zs.length cap, .int .u64 v] w (BytesP w (zs ++ En.leb v)) := by
  have HB := Lib.hid h
  have HL := Lib.hid hl
  have LV := Lib.hid (En.leb_len v v0 v1)
  clear h hl
  go_enter Tryd.func36, Tryd.ntmps36
  go_wp2_with fail
  go_loopw [0, 1] (fun bv vv wr => ∃ (ys : List Int) (u : Int) (A' : Option Addr) (cap' : Nat), 0 ≤ u ∧ u < 18446744073709551616 ∧ vv = .int .u64 u ∧ bv = .slice A' ys.length cap' ∧ Hid (ys ++ En.leb u = zs ++ En.leb v) ∧ Hid (Bytes wr wr.heap.size A' ys) ∧ Hid (Grew w.heap.size w wr)) (fun _ vv _ => (intOf vv).toNat)
  case atStart => exact ⟨zs, v, A, cap, v0, v1, rfl, rfl, Lib.hid rfl, HB, Lib.hid (Grew.refl _ _)⟩
  case round =>
    obtain ⟨ys, u, A', cap', u0, u1, rfl, rfl, HE, HY, HG⟩ := hrel
    have hs : w.heap.size ≤ wr.heap.size := HG.out.below.size
    have HZ : Hid (ys.length ≤ 1000010) := Lib.hid (by
      have h1 := congrArg List.length HE.out
      rw [List.length_append, List.length_append] at h1
      have := LV.out
      have := HL.out
      omega)
    by_cases hu : u < 128
    · have E1 := Lib.hid (En.leb_small u u0 hu)
      have EU : IntKind.u8.wrap u = u := IntWalk.u8_in _ (by omega)
      go_wp2_with (first
        | (at_builtin; refine wp_app rfl (.tmp 18) (.tmp 19) rfl rfl rfl (OwnB.start wr w.heap.size hs) (by simp; omega) rfl rfl (HY.out.below ((Below.refl _ _).alloc (Nat.le_refl _) _)) (by have := HZ.out; simp; omega) ?_; intro A2 cap2 w2 o2 d2; rw [List.nil_append] at *; have O2 := Lib.hid o2; have D2 : Hid (Grew w.heap.size w w2) := Lib.hid (HG.out.trans (((Grew.refl _ _).alloc hs _).trans d2)); have h2 : w.heap.size ≤ w2.heap.size := D2.out.below.size; clear o2 d2)
        | (at_builtin; refine wp_app rfl (.tmp 20) (.tmp 23) rfl rfl rfl (O2.out.grew ((Below.refl _ _).alloc (Nat.le_refl _) _) (Nat.le_refl _)) (by simp; omega) rfl rfl (Bytes.new1 w2 u (by omega) (by omega) _) (by have := HZ.out; simp; omega) ?_; intro A3 cap3 w3 o3 d3; have O3 := Lib.hid o3; have D3 : Hid (Grew w.heap.size w w3) := Lib.hid (D2.out.trans (((Grew.refl _ _).alloc h2 _).trans d3)); clear o3 d3))
      go_ret
      refine BytesP.mk_ (by rw [← HE.out, E1.out]; simp) ?_ D3.out
      rw [← HE.out, E1.out]
      exact O3.out
    · have E1 := Lib.hid (En.leb_big u (by omega))
      have hu' : 128 ≤ u := by omega
      have EU : IntKind.u8.wrap (u % 128 + 128) = u % 128 + 128 := IntWalk.u8_in _ (by omega)
      clear hu
      go_wp2_with (first
        | (at_builtin; refine wp_app rfl (.tmp 7) (.tmp 8) rfl rfl rfl (OwnB.start wr w.heap.size hs) (by simp; omega) rfl rfl (HY.out.below ((Below.refl _ _).alloc (Nat.le_refl _) _)) (by have := HZ.out; simp; omega) ?_; intro A2 cap2 w2 o2 d2; rw [List.nil_append] at *; have O2 := Lib.hid o2; have D2 : Hid (Grew w.heap.size w w2) := Lib.hid (HG.out.trans (((Grew.refl _ _).alloc hs _).trans d2)); have h2 : w.heap.size ≤ w2.heap.size := D2.out.below.size; clear o2 d2)
        | (at_builtin; refine wp_app rfl (.tmp 9) (.tmp 14) rfl rfl rfl (O2.out.grew ((Below.refl _ _).alloc (Nat.le_refl _) _) (Nat.le_refl _)) (by simp; omega) rfl rfl (Bytes.new1 w2 (u % 128 + 128) (by omega) (by omega) _) (by have := HZ.out; simp; omega) ?_; intro A3 cap3 w3 o3 d3; have O3 := Lib.hid o3; have D3 : Hid (Grew w.heap.size w w3) := Lib.hid (D2.out.trans (((Grew.refl _ _).alloc h2 _).trans d3)); clear o3 d3))
      go_roundw
      case rel =>
        refine ⟨_, u / 128, A3, cap3, by omega, by omega, by go_num, by simp, Lib.hid ?_, Lib.hid O3.out.bytes, D3⟩
        rw [← HE.out, E1.out, List.append_assoc]; rfl
      case measure => simp [intOf]; omega
theorem strB_eq2 (s : ByteArray) : strB_ s = En.strB s := rfl
set_option maxHeartbeats 2000000 in
theorem refPutS_any (A : Option Addr) (zs : List Int) (cap : Nat) (s : ByteArray) (hs : s.size ≤ 1000000) (hl : zs.length ≤ 1000000) (w : World) (h : Bytes w w.heap.size A zs) :
    Calls Tryd.prog 37 #[.slice A zs.length cap, .string s] w (BytesP w (zs ++ En.putS s)) := by
  have PU := Lib.hid (refPutU_any A zs cap (s.size : Int) (by omega) (by omega) hl w h)
  have LV := Lib.hid (En.leb_len (s.size : Int) (by omega) (by omega))
  have HL := Lib.hid hl
  have HP : Hid (zs ++ En.putS s = zs ++ En.leb (s.size : Int) ++ strB_ s) := Lib.hid (by rw [List.append_assoc]; rfl)
  have hs' : (s.size : Int) ≤ 1000000 := by omega
  have EU : IntKind.u64.wrap (s.size : Int) = (s.size : Int) := IntWalk.u64_in _ (by omega)
  clear h hl hs
  go_enter Tryd.func37, Tryd.ntmps37
  go_wp2_with fail
  (with_reducible refine PU.out.mono ?_); rintro e w1 ⟨ys, A1, c1, hy, rfl, o1, g1⟩
  have hs1 : w.heap.size ≤ w1.heap.size := g1.out.below.size
  have HZ : Hid (ys.length ≤ 1000010) := Lib.hid (by
    rw [hy.out, List.length_append]
    have := LV.out
    have := HL.out
    omega)
  go_wp2_with (first
    | (at_builtin; refine wp_app rfl (.tmp 10) (.tmp 11) rfl rfl rfl (OwnB.start w1 w.heap.size hs1) (by simp; omega) rfl rfl (o1.out.bytes.below ((Below.refl _ _).alloc (Nat.le_refl _) _)) (by have := HZ.out; simp; omega) ?_; intro A2 cap2 w2 o2 d2; rw [List.nil_append] at *; have O2 := Lib.hid o2; have D2 : Hid (Grew w.heap.size w w2) := Lib.hid (g1.out.trans (((Grew.refl _ _).alloc hs1 _).trans d2)); have h2 : w.heap.size ≤ w2.heap.size := D2.out.below.size; clear o2 d2)
    | (at_builtin; refine wp_app_str rfl (.tmp 12) (.tmp 13) rfl rfl rfl O2.out h2 rfl (by have := HZ.out; omega) ?_; intro A3 cap3 w3 o3 d3; have O3 := Lib.hid o3; have D3 : Hid (Grew w.heap.size w w3) := Lib.hid (D2.out.trans d3); clear o3 d3))
  go_ret
  refine BytesP.mk_ (by rw [HP.out, hy.out]; simp; omega) ?_ D3.out
  rw [HP.out, ← hy.out]
  exact O3.out
end Go.Proofs.YtighnooklcmjaaaDoor
/-
  enc.first: the number that bytes begin with, and the size of its encoding: the plain reading of En.decU. And the folding of signed numbers, by the program and by the reference.
-/
namespace Go.Proofs.YtighnooklcmjaaaDoor
open Go.RowKit


/-- Where the loop stands in front of byte k with the value acc. -/
def DecAt (zs : List Int) (k : Nat) (acc : Int) : Prop := k ≤ zs.length ∧ k ≤ 9 ∧ 0 ≤ acc ∧ acc < 128 ^ k ∧ En.decA k acc (zs.drop k) = En.decU zs
theorem DecAt.start (zs : List Int) : DecAt zs 0 0 := ⟨Nat.zero_le _, by decide, by decide, by decide, rfl⟩
theorem DecAt.bad {zs : List Int} {k : Nat} {acc z : Int} (h : DecAt zs k acc) (hk : k < zs.length) (hz : zs.getD k 0 = z) (hb : (k = 9 ∧ 1 < z) ∨ (0 < k ∧ z = 0)) : En.decU zs = (0, 0) := by
  rw [← h.2.2.2.2, List.drop_eq_getElem_cons hk]
  rw [List.getD_eq_getElem?_getD, List.getElem?_eq_getElem hk] at hz
  simp at hz
  rw [hz, En.decA, if_pos hb]
theorem DecAt.out {zs : List Int} {k : Nat} {acc : Int} (h : DecAt zs k acc) (hk : ¬ k < zs.length) : En.decU zs = (0, 0) := by
  rw [← h.2.2.2.2, List.drop_of_length_le (by omega)]; rfl
theorem DecAt.last {zs : List Int} {k : Nat} {acc z : Int} (h : DecAt zs k acc) (hk : k < zs.length) (hz : zs.getD k 0 = z) (hb : ¬ ((k = 9 ∧ 1 < z) ∨ (0 < k ∧ z = 0))) (h1 : z < 128) : En.decU zs = (acc + z * 128 ^ k, k + 1) := by
  rw [← h.2.2.2.2, List.drop_eq_getElem_cons hk]
  rw [List.getD_eq_getElem?_getD, List.getElem?_eq_getElem hk] at hz
  simp at hz
  rw [hz, En.decA, if_neg hb, if_pos h1]
theorem DecAt.next {zs : List Int} {k : Nat} {acc z : Int} (h : DecAt zs k acc) (hk : k < zs.length) (hz : zs.getD k 0 = z) (hb : ¬ ((k = 9 ∧ 1 < z) ∨ (0 < k ∧ z = 0))) (h1 : 128 ≤ z) (_h2 : z ≤ 255) : DecAt zs (k + 1) (acc + z % 128 * 128 ^ k) := by
  have hg := En.group_bd k acc (z % 128) h.2.1 h.2.2.1 h.2.2.2.1 (by omega) (by omega) (by omega)
  have hk9 := h.2.1
  refine ⟨by omega, by omega, by have := h.2.2.1; omega, hg.2.2 (by omega), ?_⟩
  rw [← h.2.2.2.2, List.drop_eq_getElem_cons hk]
  rw [List.getD_eq_getElem?_getD, List.getElem?_eq_getElem hk] at hz
  simp at hz
  rw [hz, En.decA, if_neg hb, if_neg (by omega)]
theorem ret_dec {D : Int × Nat} {v : Int} {n : Nat} (h : D = (v, n)) : Ending.returned (.tuple #[.int .u64 v, .int .i64 (n : Int)]) = .returned (.tuple #[.int .u64 D.1, .int .i64 (D.2 : Nat)]) := by rw [h]
set_option maxHeartbeats 1000000 in
theorem first_any (B : Nat) (A : Option Addr) (zs : List Int) (cap : Nat) (hl : zs.length ≤ 9223372036854775807) (w : World) (hb : Bytes w B A zs) :
    Calls Tryd.prog 56 #[.slice A zs.length cap] w fun e w' => e = .returned (.tuple #[.int .u64 (En.decU zs).1, .int .i64 ((En.decU zs).2 : Nat)]) ∧ w = w' := by
  have H := Lib.hid hb
  clear hb
  have S := Lib.hid (DecAt.start zs)
  go_enter Tryd.func56, Tryd.ntmps56
  go_wp2
  go_loop [2, 10] (fun v i => ∃ (k : Nat) (acc : Int), DecAt zs k acc ∧ i = .int .i64 k ∧ v = .int .u64 acc) (fun _ i => zs.length - (intOf i).toNat)
  case atStart => exact ⟨0, 0, S.out, rfl, rfl⟩
  case round =>
    obtain ⟨k, acc, hat, rfl, rfl⟩ := hrel
    have HA := Lib.hid hat
    obtain ⟨hk, h9, a0, a1, _⟩ := hat
    have A1 := Lib.hid a1
    clear a1
    by_cases hlt : k < zs.length
    · obtain ⟨b, off, z, rfl, hbb, hc, hz, z0, z1⟩ := H.out.at_ hlt
      by_cases hbad : (k = 9 ∧ 1 < z) ∨ (0 < k ∧ z = 0)
      · have E0 := Lib.hid (HA.out.bad hlt hz.out hbad)
        rcases hbad with ⟨rfl, h1⟩ | ⟨h1, rfl⟩
        · go_wp2
          go_ret2
          exact ⟨ret_dec E0.out, rfl⟩
        · have h1' : 0 < (k : Int) := by omega
          by_cases hk9 : k = 9
          · subst hk9
            go_wp2
            go_ret2
            exact ⟨ret_dec E0.out, rfl⟩
          · have hk9' : (k : Int) < 9 := by omega
            go_wp2
            go_ret2
            exact ⟨ret_dec E0.out, rfl⟩
      · by_cases hz128 : z < 128
        · have E0 := Lib.hid (HA.out.last hlt hz.out hbad hz128)
          have em : z % 128 = z := by omega
          have ev0 := En.or_step k acc z h9 a0 A1.out z0 z1 (fun e => by omega)
          rw [em] at ev0
          have EV := Lib.hid ev0
          clear ev0 em
          have EF : Hid (acc + z * 128 ^ k = (En.decU zs).1 ∧ (k : Int) + 1 = ((En.decU zs).2 : Nat)) := by
            rw [E0.out]; exact ⟨rfl, by simp⟩
          by_cases hk9 : k = 9
          · subst hk9
            obtain rfl : z = 1 := by omega
            have E9 : Hid (bits .or .u64 acc (IntKind.u64.wrap (IntKind.u64.wrap (bits .andNot .u8 1 128) * 9223372036854775808)) = (En.decU zs).1) := by
              have h := EV.out
              rw [show (2 : Int) ^ (7 * 9) = 9223372036854775808 from by decide] at h
              exact h.trans EF.out.1
            clear hbad
            go_wp2
            go_ret2
            exact ⟨ret_two E9.out (show (10 : Int) = _ from EF.out.2), rfl⟩
          · have hk9' : (k : Int) < 9 := by omega
            have E2 := Lib.hid (EV.out.trans EF.out.1)
            by_cases hk0 : 0 < k
            · have hz0 : 0 < z := by omega
              have hk0' : 0 < (k : Int) := by omega
              clear hbad hk9
              go_wp2
              go_ret2
              exact ⟨ret_two E2.out EF.out.2, rfl⟩
            · have hk0' : (k : Int) ≤ 0 := by omega
              clear hbad hk9 hk0
              go_wp2
              go_ret2
              exact ⟨ret_two E2.out EF.out.2, rfl⟩
        · have hn := HA.out.next hlt hz.out hbad (by omega) z1
          have HN := Lib.hid hn
          clear hn
          have k8 : (k : Int) < 9 := by omega
          have z128 : 128 ≤ z := by omega
          clear hbad
          have k9 : k ≠ 9 := by omega
          have ev := Lib.hid (En.or_step k acc z h9 a0 A1.out z0 z1 (fun e => absurd e k9))
          clear k9
          go_wp2
          all_goals
            go_round
            case rel => exact ⟨k + 1, _, HN.out, by go_num, by rw [ev.out]⟩
            case measure => simp [intOf]; omega
    · have E0 := Lib.hid (HA.out.out hlt)
      go_wp2
      go_ret2
      exact ⟨ret_dec E0.out, rfl⟩
end Go.Proofs.YtighnooklcmjaaaDoor
/-
  The writing methods of package enc, at every writer: the bytes of the number or of the string behind what it held; below the writer's own rows nothing but its own block changes.
-/
namespace Go.Proofs.YtighnooklcmjaaaDoor
open Go.RowKit
theorem obj1 {w : World} {g : Nat} {x : Value} {t : TypeId} (h : w.heap[g]? = some (.cells #[x] t (0, 0))) : w.cell? ⟨g, 0, none⟩ = some x ∧ w.frozen? ⟨g, 0, none⟩ = false :=
  ⟨by simp [World.cell?, h], by simp [World.frozen?, h]⟩
/-- A writer at block g: what it holds; its row lies at 'base' or above, or is a full literal. -/
def OutAt (w : World) (base g : Nat) (xs : List Int) : Prop :=
  ∃ A cap, w.heap[g]? = some (.cells #[.slice A xs.length cap] 50 (0, 0)) ∧ base ≤ w.heap.size ∧ Row w base A cap xs
def OutOwn (w : World) (base g : Nat) (xs : List Int) : Prop :=
  ∃ A cap, w.heap[g]? = some (.cells #[.slice A xs.length cap] 50 (0, 0)) ∧ base ≤ w.heap.size ∧ OwnB w base A cap xs
theorem OutOwn.at_ {w : World} {base g : Nat} {xs : List Int} (h : OutOwn w base g xs) : OutAt w base g xs := by
  obtain ⟨A, cap, h1, h2, h3⟩ := h; exact ⟨A, cap, h1, h2, .inl h3⟩
def OutPost (w : World) (base g : Nat) (xs : List Int) (w' : World) : Prop := OutOwn w' base g xs ∧ But base g w w'
theorem OutPost.trans {w w1 w2 : World} {base g : Nat} {xs ys : List Int} (h : OutPost w base g xs w1) (k : OutPost w1 base g ys w2) : OutPost w base g ys w2 := ⟨k.1, h.2.trans k.2⟩
theorem OutOwn.start {w : World} {base g : Nat} (ho : w.heap[g]? = some (.cells #[.slice none 0 0] 50 (0, 0))) (hb : base ≤ w.heap.size) : OutOwn w base g [] :=
  ⟨none, 0, ho, hb, OwnB.none_ w base⟩
/-- A writer stays what it is where its own block and its row's stay. -/
theorem OutOwn.keep {w w' : World} {base B g g' : Nat} {xs : List Int} {cs : Array Value} {t : TypeId} (h : OutOwn w base g xs) (hb : But B g' w w') (hB : w.heap.size ≤ B) (ho : w.heap[g']? = some (.cells cs t (0, 0))) (ht : t ≠ 5) (hg : g ≠ g') : OutOwn w' base g xs := by
  obtain ⟨A, cap, h1, h2, h3⟩ := h
  refine ⟨A, cap, (hb.block g (by have := lt_of_block h1; omega) hg).trans h1, Nat.le_trans h2 hb.size, h3.keep fun a ha => ?_⟩
  subst ha
  exact hb.block _ (by have := (h3.1.lt a.block (by simp [Value.ownBlock])).2; omega) (h3.ne ho ht)
theorem OutOwn.below {w w' : World} {base B g : Nat} {xs : List Int} (h : OutOwn w base g xs) (hb : Below B w w') (hB : w.heap.size ≤ B) : OutOwn w' base g xs := by
  obtain ⟨A, cap, h1, h2, h3⟩ := h
  exact ⟨A, cap, (hb.block g (by have := lt_of_block h1; omega)).trans h1, Nat.le_trans h2 hb.size, h3.grew hb hB⟩
theorem Row.grew {w w' : World} {base B : Nat} {A : Option Addr} {cap : Nat} {xs : List Int} (h : Row w base A cap xs) (hb : Below B w w') (hB : w.heap.size ≤ B) : Row w' base A cap xs := by
  rcases h with h | ⟨h1, h2, h3⟩
  · exact .inl (h.grew hb hB)
  · exact .inr ⟨h1, h2, (h3.below (hb.mono hB)).more hb.size⟩
theorem out_stored {w : World} {base g cap : Nat} {A : Option Addr} {ys : List Int} {x : Value} (ho : w.heap[g]? = some (.cells #[x] 50 (0, 0))) (h : OwnB w base A cap ys) (hb : base ≤ w.heap.size) (n : Nat) (hn : n = ys.length) :
    OutOwn (w.setCell ⟨g, 0, none⟩ (.slice A n cap)) base g ys := by
  subst hn
  refine ⟨A, cap, heap_setCell_same w g 0 _ _ _ ho, by simpa [World.setCell] using hb, h.set ho (by decide) 0 _⟩
theorem alloc_obj {w : World} {g : Nat} {o : Obj} (h : w.heap[g]? = some o) (p : Obj) : (w.alloc p).heap[g]? = some o := (Below.heap_alloc _ _ _ (lt_of_block h)).trans h

set_option maxHeartbeats 1000000 in
theorem outU_any (v : Int) (v0 : 0 ≤ v) (v1 : v < 18446744073709551616) (base g : Nat) (xs : List Int) (hl : xs.length ≤ 1000000000) (w : World) (h : OutAt w base g xs) :
    Calls Tryd.prog 20 #[.pointer (some ⟨g, 0, none⟩), .int .u64 v] w fun e w' => e = .returned (.tuple #[]) ∧ OutPost w base g (xs ++ En.leb v) w' := by
  have HS := Lib.hid h
  clear h
  have HL := Lib.hid hl
  clear hl
  have lv := Lib.hid (En.leb_len v v0 v1)
  go_enter Tryd.func20, Tryd.ntmps20
  go_wp2
  go_loopw [1] (fun x wr => ∃ (u : Int) (zs : List Int), 0 ≤ u ∧ u < 18446744073709551616 ∧ x = .int .u64 u ∧ OutAt wr base g zs ∧ zs ++ En.leb u = xs ++ En.leb v ∧ But base g w wr) (fun x _ => (intOf x).toNat)
  case atStart => exact ⟨v, xs, v0, v1, rfl, HS.out, rfl, But.refl _ _ _⟩
  case round =>
    obtain ⟨u, zs, u0, u1, rfl, hat, heq, hbut⟩ := hrel
    obtain ⟨A, cap, ho, hbase, hrow⟩ := hat
    obtain ⟨c0, f0⟩ := obj1 ho
    have hlen : zs.length ≤ 1000000010 := by
      have h1 := congrArg List.length heq
      rw [List.length_append, List.length_append] at h1
      have := lv.out
      have := HL.out
      omega
    have HE := Lib.hid heq
    have HB := Lib.hid hbut
    have HO := Lib.hid ho
    have HR := Lib.hid hrow
    have HZ := Lib.hid hlen
    have HBS := Lib.hid hbase
    clear heq hbut ho hrow hlen hbase
    by_cases hu : u < 128
    · have e1 := En.leb_small u u0 hu
      have E1 := Lib.hid e1
      have eu : IntKind.u8.wrap u = u := by rw [IntKind.wrap_u8]; omega
      have EU := Lib.hid eu
      clear e1 eu
      go_wp2_with (at_builtin; refine wp_appR rfl (.tmp 24) (.tmp 27) rfl rfl rfl (HR.out.grew ((Below.refl _ _).alloc (Nat.le_refl _) _) (Nat.le_refl _)) (by have := HBS.out; simp; omega) rfl rfl (Bytes.new1 wr _ (by first | omega | (rw [EU.out]; omega)) (by first | omega | (rw [EU.out]; omega)) _) (Nat.succ_pos _) (by have := HZ.out; simp; omega) ?_; intro A2 cap2 w2 o2 d2; have HO2 := Lib.hid (d2.obj g _ _ _ (alloc_obj HO.out _) (by decide)); obtain ⟨c2, f2⟩ := obj1 HO2.out; have OW := Lib.hid o2; have DW := Lib.hid d2; clear o2 d2)
      go_end0
      have hb2 : base ≤ w2.heap.size := by have h1 := HBS.out; have h2 := DW.out.below.size; simp at h2; omega
      have hst := out_stored HO2.out OW.out hb2 (zs.length + 1) (by simp)
      have hfr : But base g w w2 := HB.out.trans ((But.of ((Below.refl _ _).alloc HBS.out _)).trans (But.of DW.out.below))
      have hfr2 := hfr.trans (But.set base g 0 w2 (.slice A2 (zs.length + 1) cap2))
      refine ⟨rfl, ?_, ?_⟩
      · rw [← HE.out, E1.out]; exact hst
      · exact hfr2
    · have hz : 0 ≤ u % 128 + 128 ∧ u % 128 + 128 ≤ 255 := by omega
      have OM := Lib.hid (En.or_more' u u0)
      have E1 := Lib.hid (En.leb_big u (by omega))
      have hu' : 128 ≤ u := by omega
      clear hu hz
      go_wp2_with (at_builtin; refine wp_appR rfl (.tmp 10) (.tmp 14) rfl rfl rfl (HR.out.grew ((Below.refl _ _).alloc (Nat.le_refl _) _) (Nat.le_refl _)) (by have := HBS.out; simp; omega) rfl rfl (Bytes.new1 wr _ (by rw [OM.out]; omega) (by rw [OM.out]; omega) _) (Nat.succ_pos _) (by have := HZ.out; simp; omega) ?_; intro A2 cap2 w2 o2 d2; have HO2 := Lib.hid (d2.obj g _ _ _ (alloc_obj HO.out _) (by decide)); obtain ⟨c2, f2⟩ := obj1 HO2.out; have OW := Lib.hid o2; have DW := Lib.hid d2; clear o2 d2)
      go_roundw
      case rel =>
        have hb2 : base ≤ w2.heap.size := by have h1 := HBS.out; have h2 := DW.out.below.size; simp at h2; omega
        have hst := out_stored HO2.out OW.out hb2 (zs.length + 1) (by simp)
        have hfr : But base g w w2 := HB.out.trans ((But.of ((Below.refl _ _).alloc HBS.out _)).trans (But.of DW.out.below))
        refine ⟨u / 128, _, by omega, by omega, rfl, hst.at_, ?_, hfr.trans (But.set base g 0 w2 _)⟩
        rw [← HE.out, E1.out, OM.out, List.append_assoc]; rfl
      case measure => simp [intOf]; omega
theorem strB_eq (s : ByteArray) : strB_ s = En.strB s := rfl
set_option maxHeartbeats 1000000 in
theorem outS_any (s : ByteArray) (hs : s.size ≤ 1000000) (base g : Nat) (xs : List Int) (hl : xs.length ≤ 1000000000) (w : World) (h : OutAt w base g xs) :
    Calls Tryd.prog 22 #[.pointer (some ⟨g, 0, none⟩), .string s] w fun e w' => e = .returned (.tuple #[]) ∧ OutPost w base g (xs ++ En.putS s) w' := by
  have U := Lib.hid (outU_any (s.size : Int) (by omega) (by omega) base g xs hl w h)
  have LL := Lib.hid (En.leb_len (s.size : Int) (by omega) (by omega))
  clear h
  have hs' : (s.size : Int) ≤ 1000000 := by omega
  have HL := Lib.hid hl
  clear hl
  go_enter Tryd.func22, Tryd.ntmps22
  go_wp2_with fail
  refine U.out.mono ?_; rintro e w1 ⟨rfl, hp⟩
  have HP := Lib.hid hp
  obtain ⟨A, cap, ho, hbase, hrow⟩ := hp.1
  clear hp
  obtain ⟨c0, f0⟩ := obj1 ho
  have HO := Lib.hid ho
  have HB := Lib.hid hbase
  have HR := Lib.hid hrow
  clear ho hbase hrow
  have hlen : Hid ((xs ++ En.leb (s.size : Int)).length ≤ 1000000010) := by
    have h1 := HL.out; have h2 := LL.out; show _ ≤ _; rw [List.length_append]; omega
  have hp2 : Hid (En.putS s = En.leb (s.size : Int) ++ strB_ s) := rfl
  have hap : Hid (xs ++ En.putS s = (xs ++ En.leb (s.size : Int)) ++ strB_ s) := by show _ = _; rw [hp2.out, List.append_assoc]
  generalize xs ++ En.leb (s.size : Int) = ys at *
  go_wp2_with (at_builtin; refine wp_app_str rfl (.tmp 13) (.tmp 14) rfl rfl rfl HR.out HB.out rfl (by have := hlen.out; omega) ?_; intro A2 cap2 w2 o2 d2; have HO2 := Lib.hid (d2.obj g _ _ _ HO.out (by decide)); obtain ⟨c2, f2⟩ := obj1 HO2.out; have OW := Lib.hid o2; have DW := Lib.hid d2; clear o2 d2)
  go_end0
  have hb2 : base ≤ w2.heap.size := by have h1 := HB.out; have h2 := DW.out.below.size; omega
  refine ⟨rfl, ?_, ?_⟩
  · rw [hap.out]
    exact out_stored HO2.out OW.out hb2 _ (by simp)
  · exact HP.out.2.trans ((But.of DW.out.below).trans (But.set base g 0 w2 _))
end Go.Proofs.YtighnooklcmjaaaDoor
/-
  The writing methods of package enc once more: beside what they write, every block of cells of another type than bytes stays, but the writer's own.
-/
namespace Go.Proofs.YtighnooklcmjaaaDoor
open Go.RowKit
/-- Every block of cells that are no bytes, but block g, stands as it stood. -/
def Oth (g : Nat) (w w' : World) : Prop := ∀ k cs t fz, k ≠ g → t ≠ 5 → w.heap[k]? = some (.cells cs t fz) → w'.heap[k]? = some (.cells cs t fz)
theorem Oth.refl (g : Nat) (w : World) : Oth g w w := fun _ _ _ _ _ _ h => h
theorem Oth.trans {g : Nat} {a b c : World} (h : Oth g a b) (k : Oth g b c) : Oth g a c := fun i cs t fz hi ht hx => k i cs t fz hi ht (h i cs t fz hi ht hx)
theorem Oth.of {g : Nat} {w w' : World} (h : Below w.heap.size w w') : Oth g w w' := fun i _ _ _ _ _ hx => (h.block i (lt_of_block hx)).trans hx
theorem Oth.grew {g base : Nat} {w w' : World} (h : Grew base w w') : Oth g w w' := fun i cs t fz _ ht hx => h.obj i cs t fz hx ht
theorem Oth.set (g o : Nat) (w : World) (v : Value) : Oth g w (w.setCell ⟨g, o, none⟩ v) := fun i _ _ _ hi _ hx => (Below.heap_setCell _ _ _ _ hi).trans hx
set_option maxHeartbeats 1000000 in
theorem outUk_any (v : Int) (v0 : 0 ≤ v) (v1 : v < 18446744073709551616) (base g : Nat) (xs : List Int) (hl : xs.length ≤ 1000000000) (w : World) (h : OutAt w base g xs) :
    Calls Tryd.prog 20 #[.pointer (some ⟨g, 0, none⟩), .int .u64 v] w fun e w' => e = .returned (.tuple #[]) ∧ OutPost w base g (xs ++ En.leb v) w' ∧ Oth g w w' := by
  have HS := Lib.hid h
  clear h
  have HL := Lib.hid hl
  clear hl
  have lv := Lib.hid (En.leb_len v v0 v1)
  go_enter Tryd.func20, Tryd.ntmps20
  go_wp2
  go_loopw [1] (fun x wr => ∃ (u : Int) (zs : List Int), 0 ≤ u ∧ u < 18446744073709551616 ∧ x = .int .u64 u ∧ OutAt wr base g zs ∧ zs ++ En.leb u = xs ++ En.leb v ∧ But base g w wr ∧ Oth g w wr) (fun x _ => (intOf x).toNat)
  case atStart => exact ⟨v, xs, v0, v1, rfl, HS.out, rfl, But.refl _ _ _, Oth.refl _ _⟩
  case round =>
    obtain ⟨u, zs, u0, u1, rfl, hat, heq, hbut, hoth⟩ := hrel
    have HT := Lib.hid hoth
    clear hoth
    obtain ⟨A, cap, ho, hbase, hrow⟩ := hat
    obtain ⟨c0, f0⟩ := obj1 ho
    have hlen : zs.length ≤ 1000000010 := by
      have h1 := congrArg List.length heq
      rw [List.length_append, List.length_append] at h1
      have := lv.out
      have := HL.out
      omega
    have HE := Lib.hid heq
    have HB := Lib.hid hbut
    have HO := Lib.hid ho
    have HR := Lib.hid hrow
    have HZ := Lib.hid hlen
    have HBS := Lib.hid hbase
    clear heq hbut ho hrow hlen hbase
    by_cases hu : u < 128
    · have e1 := En.leb_small u u0 hu
      have E1 := Lib.hid e1
      have eu : IntKind.u8.wrap u = u := by rw [IntKind.wrap_u8]; omega
      have EU := Lib.hid eu
      clear e1 eu
      go_wp2_with (at_builtin; refine wp_appR rfl (.tmp 24) (.tmp 27) rfl rfl rfl (HR.out.grew ((Below.refl _ _).alloc (Nat.le_refl _) _) (Nat.le_refl _)) (by have := HBS.out; simp; omega) rfl rfl (Bytes.new1 wr _ (by first | omega | (rw [EU.out]; omega)) (by first | omega | (rw [EU.out]; omega)) _) (Nat.succ_pos _) (by have := HZ.out; simp; omega) ?_; intro A2 cap2 w2 o2 d2; have HO2 := Lib.hid (d2.obj g _ _ _ (alloc_obj HO.out _) (by decide)); obtain ⟨c2, f2⟩ := obj1 HO2.out; have OW := Lib.hid o2; have DW := Lib.hid d2; clear o2 d2)
      go_end0
      have hb2 : base ≤ w2.heap.size := by have h1 := HBS.out; have h2 := DW.out.below.size; simp at h2; omega
      have hst := out_stored HO2.out OW.out hb2 (zs.length + 1) (by simp)
      have hfr : But base g w w2 := HB.out.trans ((But.of ((Below.refl _ _).alloc HBS.out _)).trans (But.of DW.out.below))
      have hfr2 := hfr.trans (But.set base g 0 w2 (.slice A2 (zs.length + 1) cap2))
      have hot : Oth g w (w2.setCell ⟨g, 0, none⟩ (.slice A2 (zs.length + 1) cap2)) := HT.out.trans ((Oth.of ((Below.refl _ _).alloc (Nat.le_refl _) _)).trans ((Oth.grew DW.out).trans (Oth.set g 0 w2 _)))
      refine ⟨rfl, ⟨?_, ?_⟩, hot⟩
      · rw [← HE.out, E1.out]; exact hst
      · exact hfr2
    · have hz : 0 ≤ u % 128 + 128 ∧ u % 128 + 128 ≤ 255 := by omega
      have OM := Lib.hid (En.or_more' u u0)
      have E1 := Lib.hid (En.leb_big u (by omega))
      have hu' : 128 ≤ u := by omega
      clear hu hz
      go_wp2_with (at_builtin; refine wp_appR rfl (.tmp 10) (.tmp 14) rfl rfl rfl (HR.out.grew ((Below.refl _ _).alloc (Nat.le_refl _) _) (Nat.le_refl _)) (by have := HBS.out; simp; omega) rfl rfl (Bytes.new1 wr _ (by rw [OM.out]; omega) (by rw [OM.out]; omega) _) (Nat.succ_pos _) (by have := HZ.out; simp; omega) ?_; intro A2 cap2 w2 o2 d2; have HO2 := Lib.hid (d2.obj g _ _ _ (alloc_obj HO.out _) (by decide)); obtain ⟨c2, f2⟩ := obj1 HO2.out; have OW := Lib.hid o2; have DW := Lib.hid d2; clear o2 d2)
      go_roundw
      case rel =>
        have hb2 : base ≤ w2.heap.size := by have h1 := HBS.out; have h2 := DW.out.below.size; simp at h2; omega
        have hst := out_stored HO2.out OW.out hb2 (zs.length + 1) (by simp)
        have hfr : But base g w w2 := HB.out.trans ((But.of ((Below.refl _ _).alloc HBS.out _)).trans (But.of DW.out.below))
        refine ⟨u / 128, _, by omega, by omega, rfl, hst.at_, ?_, hfr.trans (But.set base g 0 w2 _), HT.out.trans ((Oth.of ((Below.refl _ _).alloc (Nat.le_refl _) _)).trans ((Oth.grew DW.out).trans (Oth.set g 0 w2 _)))⟩
        rw [← HE.out, E1.out, OM.out, List.append_assoc]; rfl
      case measure => simp [intOf]; omega
set_option maxHeartbeats 1000000 in
theorem outSk_any (s : ByteArray) (hs : s.size ≤ 1000000) (base g : Nat) (xs : List Int) (hl : xs.length ≤ 1000000000) (w : World) (h : OutAt w base g xs) :
    Calls Tryd.prog 22 #[.pointer (some ⟨g, 0, none⟩), .string s] w fun e w' => e = .returned (.tuple #[]) ∧ OutPost w base g (xs ++ En.putS s) w' ∧ Oth g w w' := by
  have U := Lib.hid (outUk_any (s.size : Int) (by omega) (by omega) base g xs hl w h)
  have LL := Lib.hid (En.leb_len (s.size : Int) (by omega) (by omega))
  clear h
  have hs' : (s.size : Int) ≤ 1000000 := by omega
  have HL := Lib.hid hl
  clear hl
  go_enter Tryd.func22, Tryd.ntmps22
  go_wp2_with fail
  refine U.out.mono ?_; rintro e w1 ⟨rfl, hp, hoth⟩
  have HT := Lib.hid hoth
  clear hoth
  have HP := Lib.hid hp
  obtain ⟨A, cap, ho, hbase, hrow⟩ := hp.1
  clear hp
  obtain ⟨c0, f0⟩ := obj1 ho
  have HO := Lib.hid ho
  have HB := Lib.hid hbase
  have HR := Lib.hid hrow
  clear ho hbase hrow
  have hlen : Hid ((xs ++ En.leb (s.size : Int)).length ≤ 1000000010) := by
    have h1 := HL.out; have h2 := LL.out; show _ ≤ _; rw [List.length_append]; omega
  have hp2 : Hid (En.putS s = En.leb (s.size : Int) ++ strB_ s) := rfl
  have hap : Hid (xs ++ En.putS s = (xs ++ En.leb (s.size : Int)) ++ strB_ s) := by show _ = _; rw [hp2.out, List.append_assoc]
  generalize xs ++ En.leb (s.size : Int) = ys at *
  go_wp2_with (at_builtin; refine wp_app_str rfl (.tmp 13) (.tmp 14) rfl rfl rfl HR.out HB.out rfl (by have := hlen.out; omega) ?_; intro A2 cap2 w2 o2 d2; have HO2 := Lib.hid (d2.obj g _ _ _ HO.out (by decide)); obtain ⟨c2, f2⟩ := obj1 HO2.out; have OW := Lib.hid o2; have DW := Lib.hid d2; clear o2 d2)
  go_end0
  have hb2 : base ≤ w2.heap.size := by have h1 := HB.out; have h2 := DW.out.below.size; omega
  refine ⟨rfl, ⟨?_, ?_⟩, HT.out.trans ((Oth.grew DW.out).trans (Oth.set g 0 w2 _))⟩
  · rw [hap.out]
    exact out_stored HO2.out OW.out hb2 _ (by simp)
  · exact HP.out.2.trans ((But.of DW.out.below).trans (But.set base g 0 w2 _))
end Go.Proofs.YtighnooklcmjaaaDoor
