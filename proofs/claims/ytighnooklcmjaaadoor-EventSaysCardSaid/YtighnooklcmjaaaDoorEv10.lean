/-
  Part 10 of the texts behind the law: EightKit, EvRefPut, EncFirst, EncOut, EncOutKeep, EncIn, EncInS, EncRef, EncRefS, FieldsIn, RowsIn, BytesIn.
-/
import Derived.Test.YtighnooklcmjaaaDoorEv4
import Derived.Test.YtighnooklcmjaaaDoorEv3
import Derived.Test.YtighnooklcmjaaaDoorEv9
import Derived.ProofKit
import Derived.OpenShut
import Derived.Deep.Slices
import Derived.ChangeSame
import Derived.Lib.SmallJoins
/-
  A struct of eight cells stored into its box.
-/
namespace Go.Proofs.YtighnooklcmjaaaDoor
open Go.RowKit
def S8 (w : World) (g : Nat) (v0 v1 v2 v3 v4 v5 v6 v7 : Value) : World := (((((((w.setCell ⟨g, 0, none⟩ v0).setCell ⟨g, 1, none⟩ v1).setCell ⟨g, 2, none⟩ v2).setCell ⟨g, 3, none⟩ v3).setCell ⟨g, 4, none⟩ v4).setCell ⟨g, 5, none⟩ v5).setCell ⟨g, 6, none⟩ v6).setCell ⟨g, 7, none⟩ v7
theorem S8.at_ {w : World} {g : Nat} {a0 a1 a2 a3 a4 a5 a6 a7 : Value} {t : TypeId} (h : w.heap[g]? = some (.cells #[a0, a1, a2, a3, a4, a5, a6, a7] t (0, 0))) (v0 v1 v2 v3 v4 v5 v6 v7 : Value) : (S8 w g v0 v1 v2 v3 v4 v5 v6 v7).heap[g]? = some (.cells #[v0, v1, v2, v3, v4, v5, v6, v7] t (0, 0)) := by
  have h0 : (w.setCell ⟨g, 0, none⟩ v0).heap[g]? = some (.cells #[v0, a1, a2, a3, a4, a5, a6, a7] t (0, 0)) := heap_setCell_same _ g 0 _ _ _ h
  have h1 : ((w.setCell ⟨g, 0, none⟩ v0).setCell ⟨g, 1, none⟩ v1).heap[g]? = some (.cells #[v0, v1, a2, a3, a4, a5, a6, a7] t (0, 0)) := heap_setCell_same _ g 1 _ _ _ h0
  have h2 : (((w.setCell ⟨g, 0, none⟩ v0).setCell ⟨g, 1, none⟩ v1).setCell ⟨g, 2, none⟩ v2).heap[g]? = some (.cells #[v0, v1, v2, a3, a4, a5, a6, a7] t (0, 0)) := heap_setCell_same _ g 2 _ _ _ h1
  have h3 : ((((w.setCell ⟨g, 0, none⟩ v0).setCell ⟨g, 1, none⟩ v1).setCell ⟨g, 2, none⟩ v2).setCell ⟨g, 3, none⟩ v3).heap[g]? = some (.cells #[v0, v1, v2, v3, a4, a5, a6, a7] t (0, 0)) := heap_setCell_same _ g 3 _ _ _ h2
  have h4 : (((((w.setCell ⟨g, 0, none⟩ v0).setCell ⟨g, 1, none⟩ v1).setCell ⟨g, 2, none⟩ v2).setCell ⟨g, 3, none⟩ v3).setCell ⟨g, 4, none⟩ v4).heap[g]? = some (.cells #[v0, v1, v2, v3, v4, a5, a6, a7] t (0, 0)) := heap_setCell_same _ g 4 _ _ _ h3
  have h5 : ((((((w.setCell ⟨g, 0, none⟩ v0).setCell ⟨g, 1, none⟩ v1).setCell ⟨g, 2, none⟩ v2).setCell ⟨g, 3, none⟩ v3).setCell ⟨g, 4, none⟩ v4).setCell ⟨g, 5, none⟩ v5).heap[g]? = some (.cells #[v0, v1, v2, v3, v4, v5, a6, a7] t (0, 0)) := heap_setCell_same _ g 5 _ _ _ h4
  have h6 : (((((((w.setCell ⟨g, 0, none⟩ v0).setCell ⟨g, 1, none⟩ v1).setCell ⟨g, 2, none⟩ v2).setCell ⟨g, 3, none⟩ v3).setCell ⟨g, 4, none⟩ v4).setCell ⟨g, 5, none⟩ v5).setCell ⟨g, 6, none⟩ v6).heap[g]? = some (.cells #[v0, v1, v2, v3, v4, v5, v6, a7] t (0, 0)) := heap_setCell_same _ g 6 _ _ _ h5
  have h7 : ((((((((w.setCell ⟨g, 0, none⟩ v0).setCell ⟨g, 1, none⟩ v1).setCell ⟨g, 2, none⟩ v2).setCell ⟨g, 3, none⟩ v3).setCell ⟨g, 4, none⟩ v4).setCell ⟨g, 5, none⟩ v5).setCell ⟨g, 6, none⟩ v6).setCell ⟨g, 7, none⟩ v7).heap[g]? = some (.cells #[v0, v1, v2, v3, v4, v5, v6, v7] t (0, 0)) := heap_setCell_same _ g 7 _ _ _ h6
  exact h7
theorem S8.else_ (w : World) (g : Nat) (v0 v1 v2 v3 v4 v5 v6 v7 : Value) {k : Nat} (hk : k ≠ g) : (S8 w g v0 v1 v2 v3 v4 v5 v6 v7).heap[k]? = w.heap[k]? :=
  (Below.heap_setCell _ _ _ _ hk).trans ((Below.heap_setCell _ _ _ _ hk).trans ((Below.heap_setCell _ _ _ _ hk).trans ((Below.heap_setCell _ _ _ _ hk).trans ((Below.heap_setCell _ _ _ _ hk).trans ((Below.heap_setCell _ _ _ _ hk).trans ((Below.heap_setCell _ _ _ _ hk).trans (Below.heap_setCell _ _ _ _ hk)))))))
theorem S8.size_ (w : World) (g : Nat) (v0 v1 v2 v3 v4 v5 v6 v7 : Value) : (S8 w g v0 v1 v2 v3 v4 v5 v6 v7).heap.size = w.heap.size := by simp [S8, World.setCell]
theorem S8.below {a w : World} {B g : Nat} (h : Below B a w) (hg : B ≤ g) (v0 v1 v2 v3 v4 v5 v6 v7 : Value) : Below B a (S8 w g v0 v1 v2 v3 v4 v5 v6 v7) :=
  ((((((((h).setCell (p := ⟨g, 0, none⟩) hg _).setCell (p := ⟨g, 1, none⟩) hg _).setCell (p := ⟨g, 2, none⟩) hg _).setCell (p := ⟨g, 3, none⟩) hg _).setCell (p := ⟨g, 4, none⟩) hg _).setCell (p := ⟨g, 5, none⟩) hg _).setCell (p := ⟨g, 6, none⟩) hg _).setCell (p := ⟨g, 7, none⟩) hg _
theorem S8.but (B : Nat) (w : World) (g : Nat) (v0 v1 v2 v3 v4 v5 v6 v7 : Value) : But B g w (S8 w g v0 v1 v2 v3 v4 v5 v6 v7) :=
  (But.set _ _ _ _ _).trans ((But.set _ _ _ _ _).trans ((But.set _ _ _ _ _).trans ((But.set _ _ _ _ _).trans ((But.set _ _ _ _ _).trans ((But.set _ _ _ _ _).trans ((But.set _ _ _ _ _).trans (But.set _ _ _ _ _)))))))
theorem ob8 {w : World} {g : Nat} {v0 v1 v2 v3 v4 v5 v6 v7 : Value} {t : TypeId} (h : w.heap[g]? = some (.cells #[v0, v1, v2, v3, v4, v5, v6, v7] t (0, 0))) :
    w.cell? ⟨g, 0, none⟩ = some v0 ∧ w.cell? ⟨g, 1, none⟩ = some v1 ∧ w.cell? ⟨g, 2, none⟩ = some v2 ∧ w.cell? ⟨g, 3, none⟩ = some v3 ∧ w.cell? ⟨g, 4, none⟩ = some v4 ∧ w.cell? ⟨g, 5, none⟩ = some v5 ∧ w.cell? ⟨g, 6, none⟩ = some v6 ∧ w.cell? ⟨g, 7, none⟩ = some v7 :=
  ⟨by simp [World.cell?, h], by simp [World.cell?, h], by simp [World.cell?, h], by simp [World.cell?, h], by simp [World.cell?, h], by simp [World.cell?, h], by simp [World.cell?, h], by simp [World.cell?, h]⟩
theorem ob8f {w : World} {g : Nat} {cs : Array Value} {t : TypeId} (h : w.heap[g]? = some (.cells cs t (0, 0))) :
    w.frozen? ⟨g, 0, none⟩ = false ∧ w.frozen? ⟨g, 1, none⟩ = false ∧ w.frozen? ⟨g, 2, none⟩ = false ∧ w.frozen? ⟨g, 3, none⟩ = false ∧ w.frozen? ⟨g, 4, none⟩ = false ∧ w.frozen? ⟨g, 5, none⟩ = false ∧ w.frozen? ⟨g, 6, none⟩ = false ∧ w.frozen? ⟨g, 7, none⟩ = false :=
  ⟨by simp [World.frozen?, h], by simp [World.frozen?, h], by simp [World.frozen?, h], by simp [World.frozen?, h], by simp [World.frozen?, h], by simp [World.frozen?, h], by simp [World.frozen?, h], by simp [World.frozen?, h]⟩
end Go.Proofs.YtighnooklcmjaaaDoor
/-
  The reference's PutU and PutS at every argument: a new row of bytes.
-/
namespace Go.Proofs.YtighnooklcmjaaaDoor
open Go.RowKit
/-- New bytes handed back. -/
def BytesP (w : World) (ys : List Int) (e : Ending) (w' : World) : Prop :=
  ∃ zs A cap, Hid (zs = ys) ∧ e = .returned (.slice A zs.length cap) ∧ Hid (OwnB w' w.heap.size A cap zs) ∧ Hid (Grew w.heap.size w w')
theorem BytesP.mk_ {w w' : World} {ys : List Int} {A : Option Addr} {cap n : Nat} (hn : n = ys.length) (h : OwnB w' w.heap.size A cap ys) (g : Grew w.heap.size w w') : BytesP w ys (.returned (.slice A n cap)) w' := by
  subst hn; exact ⟨ys, A, cap, Lib.hid rfl, rfl, Lib.hid h, Lib.hid g⟩
set_option maxHeartbeats 2000000 in
theorem refPutU_any (A : Option Addr) (zs : List Int) (cap : Nat) (v : Int) (v0 : 0 ≤ v) (v1 : v < 18446744073709551616) (hl : zs.length ≤ 1000000) (w : World) (h : Bytes w w.heap.size A zs) :
    Calls Tryd.prog 36 #[.slice A zs.length cap, .int .u64 v] w (BytesP w (zs ++ En.leb v)) := by
  have HB := Lib.hid h
  have HL := Lib.hid hl
  have LV := Lib.hid (En.leb_len v v0 v1)
  clear h hl
  go_enter Tryd.func36, Tryd.ntmps36
  go_wp2_with fail
  go_loopw [0, 1] (fun bv vv wr => ∃ (ys : List Int) (u : Int) (A' : Option Addr) (cap' : Nat), 0 ≤ u ∧ u < 18446744073709551616 ∧ vv = .int .u64 u ∧ bv = .slice A' ys.length cap' ∧ Hid (ys ++ En.leb u = zs ++ En.leb v) ∧ Hid (Bytes wr wr.heap.size A' ys) ∧ Hid (Grew w.heap.size w wr)) (fun _ vv _ => (intOf vv).toNat)
  case atStart => exact ⟨zs, v, A, cap, v0, v1, rfl, rfl, Lib.hid rfl, HB, Lib.hid (Grew.refl _ _)⟩
  case round =>
    obtain ⟨ys, u, A', cap', u0, u1, rfl, rfl, HE, HY, HG⟩ := hrel
    have hs : w.heap.size ≤ wr.heap.size := HG.out.below.size
    have HZ : Hid (ys.length ≤ 1000010) := Lib.hid (by
      have h1 := congrArg List.length HE.out
      rw [List.length_append, List.length_append] at h1
      have := LV.out
      have := HL.out
      omega)
    by_cases hu : u < 128
    · have E1 := Lib.hid (En.leb_small u u0 hu)
      have EU : IntKind.u8.wrap u = u := IntWalk.u8_in _ (by omega)
      go_wp2_with (first
        | (at_builtin; refine wp_app rfl (.tmp 18) (.tmp 19) rfl rfl rfl (OwnB.start wr w.heap.size hs) (by simp; omega) rfl rfl (HY.out.below ((Below.refl _ _).alloc (Nat.le_refl _) _)) (by have := HZ.out; simp; omega) ?_; intro A2 cap2 w2 o2 d2; rw [List.nil_append] at *; have O2 := Lib.hid o2; have D2 : Hid (Grew w.heap.size w w2) := Lib.hid (HG.out.trans (((Grew.refl _ _).alloc hs _).trans d2)); have h2 : w.heap.size ≤ w2.heap.size := D2.out.below.size; clear o2 d2)
        | (at_builtin; refine wp_app rfl (.tmp 20) (.tmp 23) rfl rfl rfl (O2.out.grew ((Below.refl _ _).alloc (Nat.le_refl _) _) (Nat.le_refl _)) (by simp; omega) rfl rfl (Bytes.new1 w2 u (by omega) (by omega) _) (by have := HZ.out; simp; omega) ?_; intro A3 cap3 w3 o3 d3; have O3 := Lib.hid o3; have D3 : Hid (Grew w.heap.size w w3) := Lib.hid (D2.out.trans (((Grew.refl _ _).alloc h2 _).trans d3)); clear o3 d3))
      go_ret
      refine BytesP.mk_ (by rw [← HE.out, E1.out]; simp) ?_ D3.out
      rw [← HE.out, E1.out]
      exact O3.out
    · have E1 := Lib.hid (En.leb_big u (by omega))
      have hu' : 128 ≤ u := by omega
      have EU : IntKind.u8.wrap (u % 128 + 128) = u % 128 + 128 := IntWalk.u8_in _ (by omega)
      clear hu
      go_wp2_with (first
        | (at_builtin; refine wp_app rfl (.tmp 7) (.tmp 8) rfl rfl rfl (OwnB.start wr w.heap.size hs) (by simp; omega) rfl rfl (HY.out.below ((Below.refl _ _).alloc (Nat.le_refl _) _)) (by have := HZ.out; simp; omega) ?_; intro A2 cap2 w2 o2 d2; rw [List.nil_append] at *; have O2 := Lib.hid o2; have D2 : Hid (Grew w.heap.size w w2) := Lib.hid (HG.out.trans (((Grew.refl _ _).alloc hs _).trans d2)); have h2 : w.heap.size ≤ w2.heap.size := D2.out.below.size; clear o2 d2)
        | (at_builtin; refine wp_app rfl (.tmp 9) (.tmp 14) rfl rfl rfl (O2.out.grew ((Below.refl _ _).alloc (Nat.le_refl _) _) (Nat.le_refl _)) (by simp; omega) rfl rfl (Bytes.new1 w2 (u % 128 + 128) (by omega) (by omega) _) (by have := HZ.out; simp; omega) ?_; intro A3 cap3 w3 o3 d3; have O3 := Lib.hid o3; have D3 : Hid (Grew w.heap.size w w3) := Lib.hid (D2.out.trans (((Grew.refl _ _).alloc h2 _).trans d3)); clear o3 d3))
      go_roundw
      case rel =>
        refine ⟨_, u / 128, A3, cap3, by omega, by omega, by go_num, by simp, Lib.hid ?_, Lib.hid O3.out.bytes, D3⟩
        rw [← HE.out, E1.out, List.append_assoc]; rfl
      case measure => simp [intOf]; omega
theorem strB_eq2 (s : ByteArray) : strB_ s = En.strB s := rfl
set_option maxHeartbeats 2000000 in
theorem refPutS_any (A : Option Addr) (zs : List Int) (cap : Nat) (s : ByteArray) (hs : s.size ≤ 1000000) (hl : zs.length ≤ 1000000) (w : World) (h : Bytes w w.heap.size A zs) :
    Calls Tryd.prog 37 #[.slice A zs.length cap, .string s] w (BytesP w (zs ++ En.putS s)) := by
  have PU := Lib.hid (refPutU_any A zs cap (s.size : Int) (by omega) (by omega) hl w h)
  have LV := Lib.hid (En.leb_len (s.size : Int) (by omega) (by omega))
  have HL := Lib.hid hl
  have HP : Hid (zs ++ En.putS s = zs ++ En.leb (s.size : Int) ++ strB_ s) := Lib.hid (by rw [List.append_assoc]; rfl)
  have hs' : (s.size : Int) ≤ 1000000 := by omega
  have EU : IntKind.u64.wrap (s.size : Int) = (s.size : Int) := IntWalk.u64_in _ (by omega)
  clear h hl hs
  go_enter Tryd.func37, Tryd.ntmps37
  go_wp2_with fail
  (with_reducible refine PU.out.mono ?_); rintro e w1 ⟨ys, A1, c1, hy, rfl, o1, g1⟩
  have hs1 : w.heap.size ≤ w1.heap.size := g1.out.below.size
  have HZ : Hid (ys.length ≤ 1000010) := Lib.hid (by
    rw [hy.out, List.length_append]
    have := LV.out
    have := HL.out
    omega)
  go_wp2_with (first
    | (at_builtin; refine wp_app rfl (.tmp 10) (.tmp 11) rfl rfl rfl (OwnB.start w1 w.heap.size hs1) (by simp; omega) rfl rfl (o1.out.bytes.below ((Below.refl _ _).alloc (Nat.le_refl _) _)) (by have := HZ.out; simp; omega) ?_; intro A2 cap2 w2 o2 d2; rw [List.nil_append] at *; have O2 := Lib.hid o2; have D2 : Hid (Grew w.heap.size w w2) := Lib.hid (g1.out.trans (((Grew.refl _ _).alloc hs1 _).trans d2)); have h2 : w.heap.size ≤ w2.heap.size := D2.out.below.size; clear o2 d2)
    | (at_builtin; refine wp_app_str rfl (.tmp 12) (.tmp 13) rfl rfl rfl O2.out h2 rfl (by have := HZ.out; omega) ?_; intro A3 cap3 w3 o3 d3; have O3 := Lib.hid o3; have D3 : Hid (Grew w.heap.size w w3) := Lib.hid (D2.out.trans d3); clear o3 d3))
  go_ret
  refine BytesP.mk_ (by rw [HP.out, hy.out]; simp; omega) ?_ D3.out
  rw [HP.out, ← hy.out]
  exact O3.out
end Go.Proofs.YtighnooklcmjaaaDoor
/-
  enc.first: the number that bytes begin with, and the size of its encoding: the plain reading of En.decU. And the folding of signed numbers, by the program and by the reference.
-/
namespace Go.Proofs.YtighnooklcmjaaaDoor
open Go.RowKit


/-- Where the loop stands in front of byte k with the value acc. -/
def DecAt (zs : List Int) (k : Nat) (acc : Int) : Prop := k ≤ zs.length ∧ k ≤ 9 ∧ 0 ≤ acc ∧ acc < 128 ^ k ∧ En.decA k acc (zs.drop k) = En.decU zs
theorem DecAt.start (zs : List Int) : DecAt zs 0 0 := ⟨Nat.zero_le _, by decide, by decide, by decide, rfl⟩
theorem DecAt.bad {zs : List Int} {k : Nat} {acc z : Int} (h : DecAt zs k acc) (hk : k < zs.length) (hz : zs.getD k 0 = z) (hb : (k = 9 ∧ 1 < z) ∨ (0 < k ∧ z = 0)) : En.decU zs = (0, 0) := by
  rw [← h.2.2.2.2, List.drop_eq_getElem_cons hk]
  rw [List.getD_eq_getElem?_getD, List.getElem?_eq_getElem hk] at hz
  simp at hz
  rw [hz, En.decA, if_pos hb]
theorem DecAt.out {zs : List Int} {k : Nat} {acc : Int} (h : DecAt zs k acc) (hk : ¬ k < zs.length) : En.decU zs = (0, 0) := by
  rw [← h.2.2.2.2, List.drop_of_length_le (by omega)]; rfl
theorem DecAt.last {zs : List Int} {k : Nat} {acc z : Int} (h : DecAt zs k acc) (hk : k < zs.length) (hz : zs.getD k 0 = z) (hb : ¬ ((k = 9 ∧ 1 < z) ∨ (0 < k ∧ z = 0))) (h1 : z < 128) : En.decU zs = (acc + z * 128 ^ k, k + 1) := by
  rw [← h.2.2.2.2, List.drop_eq_getElem_cons hk]
  rw [List.getD_eq_getElem?_getD, List.getElem?_eq_getElem hk] at hz
  simp at hz
  rw [hz, En.decA, if_neg hb, if_pos h1]
theorem DecAt.next {zs : List Int} {k : Nat} {acc z : Int} (h : DecAt zs k acc) (hk : k < zs.length) (hz : zs.getD k 0 = z) (hb : ¬ ((k = 9 ∧ 1 < z) ∨ (0 < k ∧ z = 0))) (h1 : 128 ≤ z) (_h2 : z ≤ 255) : DecAt zs (k + 1) (acc + z % 128 * 128 ^ k) := by
  have hg := En.group_bd k acc (z % 128) h.2.1 h.2.2.1 h.2.2.2.1 (by omega) (by omega) (by omega)
  have hk9 := h.2.1
  refine ⟨by omega, by omega, by have := h.2.2.1; omega, hg.2.2 (by omega), ?_⟩
  rw [← h.2.2.2.2, List.drop_eq_getElem_cons hk]
  rw [List.getD_eq_getElem?_getD, List.getElem?_eq_getElem hk] at hz
  simp at hz
  rw [hz, En.decA, if_neg hb, if_neg (by omega)]
theorem ret_dec {D : Int × Nat} {v : Int} {n : Nat} (h : D = (v, n)) : Ending.returned (.tuple #[.int .u64 v, .int .i64 (n : Int)]) = .returned (.tuple #[.int .u64 D.1, .int .i64 (D.2 : Nat)]) := by rw [h]
set_option maxHeartbeats 1000000 in
theorem first_any (B : Nat) (A : Option Addr) (zs : List Int) (cap : Nat) (hl : zs.length ≤ 9223372036854775807) (w : World) (hb : Bytes w B A zs) :
    Calls Tryd.prog 56 #[.slice A zs.length cap] w fun e w' => e = .returned (.tuple #[.int .u64 (En.decU zs).1, .int .i64 ((En.decU zs).2 : Nat)]) ∧ w = w' := by
  have H := Lib.hid hb
  clear hb
  have S := Lib.hid (DecAt.start zs)
  go_enter Tryd.func56, Tryd.ntmps56
  go_wp2
  go_loop [2, 10] (fun v i => ∃ (k : Nat) (acc : Int), DecAt zs k acc ∧ i = .int .i64 k ∧ v = .int .u64 acc) (fun _ i => zs.length - (intOf i).toNat)
  case atStart => exact ⟨0, 0, S.out, rfl, rfl⟩
  case round =>
    obtain ⟨k, acc, hat, rfl, rfl⟩ := hrel
    have HA := Lib.hid hat
    obtain ⟨hk, h9, a0, a1, _⟩ := hat
    have A1 := Lib.hid a1
    clear a1
    by_cases hlt : k < zs.length
    · obtain ⟨b, off, z, rfl, hbb, hc, hz, z0, z1⟩ := H.out.at_ hlt
      by_cases hbad : (k = 9 ∧ 1 < z) ∨ (0 < k ∧ z = 0)
      · have E0 := Lib.hid (HA.out.bad hlt hz.out hbad)
        rcases hbad with ⟨rfl, h1⟩ | ⟨h1, rfl⟩
        · go_wp2
          go_ret2
          exact ⟨ret_dec E0.out, rfl⟩
        · have h1' : 0 < (k : Int) := by omega
          by_cases hk9 : k = 9
          · subst hk9
            go_wp2
            go_ret2
            exact ⟨ret_dec E0.out, rfl⟩
          · have hk9' : (k : Int) < 9 := by omega
            go_wp2
            go_ret2
            exact ⟨ret_dec E0.out, rfl⟩
      · by_cases hz128 : z < 128
        · have E0 := Lib.hid (HA.out.last hlt hz.out hbad hz128)
          have em : z % 128 = z := by omega
          have ev0 := En.or_step k acc z h9 a0 A1.out z0 z1 (fun e => by omega)
          rw [em] at ev0
          have EV := Lib.hid ev0
          clear ev0 em
          have EF : Hid (acc + z * 128 ^ k = (En.decU zs).1 ∧ (k : Int) + 1 = ((En.decU zs).2 : Nat)) := by
            rw [E0.out]; exact ⟨rfl, by simp⟩
          by_cases hk9 : k = 9
          · subst hk9
            obtain rfl : z = 1 := by omega
            have E9 : Hid (bits .or .u64 acc (IntKind.u64.wrap (IntKind.u64.wrap (bits .andNot .u8 1 128) * 9223372036854775808)) = (En.decU zs).1) := by
              have h := EV.out
              rw [show (2 : Int) ^ (7 * 9) = 9223372036854775808 from by decide] at h
              exact h.trans EF.out.1
            clear hbad
            go_wp2
            go_ret2
            exact ⟨ret_two E9.out (show (10 : Int) = _ from EF.out.2), rfl⟩
          · have hk9' : (k : Int) < 9 := by omega
            have E2 := Lib.hid (EV.out.trans EF.out.1)
            by_cases hk0 : 0 < k
            · have hz0 : 0 < z := by omega
              have hk0' : 0 < (k : Int) := by omega
              clear hbad hk9
              go_wp2
              go_ret2
              exact ⟨ret_two E2.out EF.out.2, rfl⟩
            · have hk0' : (k : Int) ≤ 0 := by omega
              clear hbad hk9 hk0
              go_wp2
              go_ret2
              exact ⟨ret_two E2.out EF.out.2, rfl⟩
        · have hn := HA.out.next hlt hz.out hbad (by omega) z1
          have HN := Lib.hid hn
          clear hn
          have k8 : (k : Int) < 9 := by omega
          have z128 : 128 ≤ z := by omega
          clear hbad
          have k9 : k ≠ 9 := by omega
          have ev := Lib.hid (En.or_step k acc z h9 a0 A1.out z0 z1 (fun e => absurd e k9))
          clear k9
          go_wp2
          all_goals
            go_round
            case rel => exact ⟨k + 1, _, HN.out, by go_num, by rw [ev.out]⟩
            case measure => simp [intOf]; omega
    · have E0 := Lib.hid (HA.out.out hlt)
      go_wp2
      go_ret2
      exact ⟨ret_dec E0.out, rfl⟩
end Go.Proofs.YtighnooklcmjaaaDoor
/-
  The writing methods of package enc, at every writer: the bytes of the number or of the string behind what it held; below the writer's own rows nothing but its own block changes.
-/
namespace Go.Proofs.YtighnooklcmjaaaDoor
open Go.RowKit
theorem obj1 {w : World} {g : Nat} {x : Value} {t : TypeId} (h : w.heap[g]? = some (.cells #[x] t (0, 0))) : w.cell? ⟨g, 0, none⟩ = some x ∧ w.frozen? ⟨g, 0, none⟩ = false :=
  ⟨by simp [World.cell?, h], by simp [World.frozen?, h]⟩
/-- A writer at block g: what it holds; its row lies at 'base' or above, or is a full literal. -/
def OutAt (w : World) (base g : Nat) (xs : List Int) : Prop :=
  ∃ A cap, w.heap[g]? = some (.cells #[.slice A xs.length cap] 50 (0, 0)) ∧ base ≤ w.heap.size ∧ Row w base A cap xs
def OutOwn (w : World) (base g : Nat) (xs : List Int) : Prop :=
  ∃ A cap, w.heap[g]? = some (.cells #[.slice A xs.length cap] 50 (0, 0)) ∧ base ≤ w.heap.size ∧ OwnB w base A cap xs
theorem OutOwn.at_ {w : World} {base g : Nat} {xs : List Int} (h : OutOwn w base g xs) : OutAt w base g xs := by
  obtain ⟨A, cap, h1, h2, h3⟩ := h; exact ⟨A, cap, h1, h2, .inl h3⟩
def OutPost (w : World) (base g : Nat) (xs : List Int) (w' : World) : Prop := OutOwn w' base g xs ∧ But base g w w'
theorem OutPost.trans {w w1 w2 : World} {base g : Nat} {xs ys : List Int} (h : OutPost w base g xs w1) (k : OutPost w1 base g ys w2) : OutPost w base g ys w2 := ⟨k.1, h.2.trans k.2⟩
theorem OutOwn.start {w : World} {base g : Nat} (ho : w.heap[g]? = some (.cells #[.slice none 0 0] 50 (0, 0))) (hb : base ≤ w.heap.size) : OutOwn w base g [] :=
  ⟨none, 0, ho, hb, OwnB.none_ w base⟩
/-- A writer stays what it is where its own block and its row's stay. -/
theorem OutOwn.keep {w w' : World} {base B g g' : Nat} {xs : List Int} {cs : Array Value} {t : TypeId} (h : OutOwn w base g xs) (hb : But B g' w w') (hB : w.heap.size ≤ B) (ho : w.heap[g']? = some (.cells cs t (0, 0))) (ht : t ≠ 5) (hg : g ≠ g') : OutOwn w' base g xs := by
  obtain ⟨A, cap, h1, h2, h3⟩ := h
  refine ⟨A, cap, (hb.block g (by have := lt_of_block h1; omega) hg).trans h1, Nat.le_trans h2 hb.size, h3.keep fun a ha => ?_⟩
  subst ha
  exact hb.block _ (by have := (h3.1.lt a.block (by simp [Value.ownBlock])).2; omega) (h3.ne ho ht)
theorem OutOwn.below {w w' : World} {base B g : Nat} {xs : List Int} (h : OutOwn w base g xs) (hb : Below B w w') (hB : w.heap.size ≤ B) : OutOwn w' base g xs := by
  obtain ⟨A, cap, h1, h2, h3⟩ := h
  exact ⟨A, cap, (hb.block g (by have := lt_of_block h1; omega)).trans h1, Nat.le_trans h2 hb.size, h3.grew hb hB⟩
theorem Row.grew {w w' : World} {base B : Nat} {A : Option Addr} {cap : Nat} {xs : List Int} (h : Row w base A cap xs) (hb : Below B w w') (hB : w.heap.size ≤ B) : Row w' base A cap xs := by
  rcases h with h | ⟨h1, h2, h3⟩
  · exact .inl (h.grew hb hB)
  · exact .inr ⟨h1, h2, (h3.below (hb.mono hB)).more hb.size⟩
theorem out_stored {w : World} {base g cap : Nat} {A : Option Addr} {ys : List Int} {x : Value} (ho : w.heap[g]? = some (.cells #[x] 50 (0, 0))) (h : OwnB w base A cap ys) (hb : base ≤ w.heap.size) (n : Nat) (hn : n = ys.length) :
    OutOwn (w.setCell ⟨g, 0, none⟩ (.slice A n cap)) base g ys := by
  subst hn
  refine ⟨A, cap, heap_setCell_same w g 0 _ _ _ ho, by simpa [World.setCell] using hb, h.set ho (by decide) 0 _⟩
theorem alloc_obj {w : World} {g : Nat} {o : Obj} (h : w.heap[g]? = some o) (p : Obj) : (w.alloc p).heap[g]? = some o := (Below.heap_alloc _ _ _ (lt_of_block h)).trans h

set_option maxHeartbeats 1000000 in
theorem outU_any (v : Int) (v0 : 0 ≤ v) (v1 : v < 18446744073709551616) (base g : Nat) (xs : List Int) (hl : xs.length ≤ 1000000000) (w : World) (h : OutAt w base g xs) :
    Calls Tryd.prog 20 #[.pointer (some ⟨g, 0, none⟩), .int .u64 v] w fun e w' => e = .returned (.tuple #[]) ∧ OutPost w base g (xs ++ En.leb v) w' := by
  have HS := Lib.hid h
  clear h
  have HL := Lib.hid hl
  clear hl
  have lv := Lib.hid (En.leb_len v v0 v1)
  go_enter Tryd.func20, Tryd.ntmps20
  go_wp2
  go_loopw [1] (fun x wr => ∃ (u : Int) (zs : List Int), 0 ≤ u ∧ u < 18446744073709551616 ∧ x = .int .u64 u ∧ OutAt wr base g zs ∧ zs ++ En.leb u = xs ++ En.leb v ∧ But base g w wr) (fun x _ => (intOf x).toNat)
  case atStart => exact ⟨v, xs, v0, v1, rfl, HS.out, rfl, But.refl _ _ _⟩
  case round =>
    obtain ⟨u, zs, u0, u1, rfl, hat, heq, hbut⟩ := hrel
    obtain ⟨A, cap, ho, hbase, hrow⟩ := hat
    obtain ⟨c0, f0⟩ := obj1 ho
    have hlen : zs.length ≤ 1000000010 := by
      have h1 := congrArg List.length heq
      rw [List.length_append, List.length_append] at h1
      have := lv.out
      have := HL.out
      omega
    have HE := Lib.hid heq
    have HB := Lib.hid hbut
    have HO := Lib.hid ho
    have HR := Lib.hid hrow
    have HZ := Lib.hid hlen
    have HBS := Lib.hid hbase
    clear heq hbut ho hrow hlen hbase
    by_cases hu : u < 128
    · have e1 := En.leb_small u u0 hu
      have E1 := Lib.hid e1
      have eu : IntKind.u8.wrap u = u := by rw [IntKind.wrap_u8]; omega
      have EU := Lib.hid eu
      clear e1 eu
      go_wp2_with (at_builtin; refine wp_appR rfl (.tmp 24) (.tmp 27) rfl rfl rfl (HR.out.grew ((Below.refl _ _).alloc (Nat.le_refl _) _) (Nat.le_refl _)) (by have := HBS.out; simp; omega) rfl rfl (Bytes.new1 wr _ (by first | omega | (rw [EU.out]; omega)) (by first | omega | (rw [EU.out]; omega)) _) (Nat.succ_pos _) (by have := HZ.out; simp; omega) ?_; intro A2 cap2 w2 o2 d2; have HO2 := Lib.hid (d2.obj g _ _ _ (alloc_obj HO.out _) (by decide)); obtain ⟨c2, f2⟩ := obj1 HO2.out; have OW := Lib.hid o2; have DW := Lib.hid d2; clear o2 d2)
      go_end0
      have hb2 : base ≤ w2.heap.size := by have h1 := HBS.out; have h2 := DW.out.below.size; simp at h2; omega
      have hst := out_stored HO2.out OW.out hb2 (zs.length + 1) (by simp)
      have hfr : But base g w w2 := HB.out.trans ((But.of ((Below.refl _ _).alloc HBS.out _)).trans (But.of DW.out.below))
      have hfr2 := hfr.trans (But.set base g 0 w2 (.slice A2 (zs.length + 1) cap2))
      refine ⟨rfl, ?_, ?_⟩
      · rw [← HE.out, E1.out]; exact hst
      · exact hfr2
    · have hz : 0 ≤ u % 128 + 128 ∧ u % 128 + 128 ≤ 255 := by omega
      have OM := Lib.hid (En.or_more' u u0)
      have E1 := Lib.hid (En.leb_big u (by omega))
      have hu' : 128 ≤ u := by omega
      clear hu hz
      go_wp2_with (at_builtin; refine wp_appR rfl (.tmp 10) (.tmp 14) rfl rfl rfl (HR.out.grew ((Below.refl _ _).alloc (Nat.le_refl _) _) (Nat.le_refl _)) (by have := HBS.out; simp; omega) rfl rfl (Bytes.new1 wr _ (by rw [OM.out]; omega) (by rw [OM.out]; omega) _) (Nat.succ_pos _) (by have := HZ.out; simp; omega) ?_; intro A2 cap2 w2 o2 d2; have HO2 := Lib.hid (d2.obj g _ _ _ (alloc_obj HO.out _) (by decide)); obtain ⟨c2, f2⟩ := obj1 HO2.out; have OW := Lib.hid o2; have DW := Lib.hid d2; clear o2 d2)
      go_roundw
      case rel =>
        have hb2 : base ≤ w2.heap.size := by have h1 := HBS.out; have h2 := DW.out.below.size; simp at h2; omega
        have hst := out_stored HO2.out OW.out hb2 (zs.length + 1) (by simp)
        have hfr : But base g w w2 := HB.out.trans ((But.of ((Below.refl _ _).alloc HBS.out _)).trans (But.of DW.out.below))
        refine ⟨u / 128, _, by omega, by omega, rfl, hst.at_, ?_, hfr.trans (But.set base g 0 w2 _)⟩
        rw [← HE.out, E1.out, OM.out, List.append_assoc]; rfl
      case measure => simp [intOf]; omega
theorem strB_eq (s : ByteArray) : strB_ s = En.strB s := rfl
set_option maxHeartbeats 1000000 in
theorem outS_any (s : ByteArray) (hs : s.size ≤ 1000000) (base g : Nat) (xs : List Int) (hl : xs.length ≤ 1000000000) (w : World) (h : OutAt w base g xs) :
    Calls Tryd.prog 22 #[.pointer (some ⟨g, 0, none⟩), .string s] w fun e w' => e = .returned (.tuple #[]) ∧ OutPost w base g (xs ++ En.putS s) w' := by
  have U := Lib.hid (outU_any (s.size : Int) (by omega) (by omega) base g xs hl w h)
  have LL := Lib.hid (En.leb_len (s.size : Int) (by omega) (by omega))
  clear h
  have hs' : (s.size : Int) ≤ 1000000 := by omega
  have HL := Lib.hid hl
  clear hl
  go_enter Tryd.func22, Tryd.ntmps22
  go_wp2_with fail
  refine U.out.mono ?_; rintro e w1 ⟨rfl, hp⟩
  have HP := Lib.hid hp
  obtain ⟨A, cap, ho, hbase, hrow⟩ := hp.1
  clear hp
  obtain ⟨c0, f0⟩ := obj1 ho
  have HO := Lib.hid ho
  have HB := Lib.hid hbase
  have HR := Lib.hid hrow
  clear ho hbase hrow
  have hlen : Hid ((xs ++ En.leb (s.size : Int)).length ≤ 1000000010) := by
    have h1 := HL.out; have h2 := LL.out; show _ ≤ _; rw [List.length_append]; omega
  have hp2 : Hid (En.putS s = En.leb (s.size : Int) ++ strB_ s) := rfl
  have hap : Hid (xs ++ En.putS s = (xs ++ En.leb (s.size : Int)) ++ strB_ s) := by show _ = _; rw [hp2.out, List.append_assoc]
  generalize xs ++ En.leb (s.size : Int) = ys at *
  go_wp2_with (at_builtin; refine wp_app_str rfl (.tmp 13) (.tmp 14) rfl rfl rfl HR.out HB.out rfl (by have := hlen.out; omega) ?_; intro A2 cap2 w2 o2 d2; have HO2 := Lib.hid (d2.obj g _ _ _ HO.out (by decide)); obtain ⟨c2, f2⟩ := obj1 HO2.out; have OW := Lib.hid o2; have DW := Lib.hid d2; clear o2 d2)
  go_end0
  have hb2 : base ≤ w2.heap.size := by have h1 := HB.out; have h2 := DW.out.below.size; omega
  refine ⟨rfl, ?_, ?_⟩
  · rw [hap.out]
    exact out_stored HO2.out OW.out hb2 _ (by simp)
  · exact HP.out.2.trans ((But.of DW.out.below).trans (But.set base g 0 w2 _))
end Go.Proofs.YtighnooklcmjaaaDoor
/-
  The writing methods of package enc once more: beside what they write, every block of cells of another type than bytes stays, but the writer's own.
-/
namespace Go.Proofs.YtighnooklcmjaaaDoor
open Go.RowKit
/-- Every block of cells that are no bytes, but block g, stands as it stood. -/
def Oth (g : Nat) (w w' : World) : Prop := ∀ k cs t fz, k ≠ g → t ≠ 5 → w.heap[k]? = some (.cells cs t fz) → w'.heap[k]? = some (.cells cs t fz)
theorem Oth.refl (g : Nat) (w : World) : Oth g w w := fun _ _ _ _ _ _ h => h
theorem Oth.trans {g : Nat} {a b c : World} (h : Oth g a b) (k : Oth g b c) : Oth g a c := fun i cs t fz hi ht hx => k i cs t fz hi ht (h i cs t fz hi ht hx)
theorem Oth.of {g : Nat} {w w' : World} (h : Below w.heap.size w w') : Oth g w w' := fun i _ _ _ _ _ hx => (h.block i (lt_of_block hx)).trans hx
theorem Oth.grew {g base : Nat} {w w' : World} (h : Grew base w w') : Oth g w w' := fun i cs t fz _ ht hx => h.obj i cs t fz hx ht
theorem Oth.set (g o : Nat) (w : World) (v : Value) : Oth g w (w.setCell ⟨g, o, none⟩ v) := fun i _ _ _ hi _ hx => (Below.heap_setCell _ _ _ _ hi).trans hx
set_option maxHeartbeats 1000000 in
theorem outUk_any (v : Int) (v0 : 0 ≤ v) (v1 : v < 18446744073709551616) (base g : Nat) (xs : List Int) (hl : xs.length ≤ 1000000000) (w : World) (h : OutAt w base g xs) :
    Calls Tryd.prog 20 #[.pointer (some ⟨g, 0, none⟩), .int .u64 v] w fun e w' => e = .returned (.tuple #[]) ∧ OutPost w base g (xs ++ En.leb v) w' ∧ Oth g w w' := by
  have HS := Lib.hid h
  clear h
  have HL := Lib.hid hl
  clear hl
  have lv := Lib.hid (En.leb_len v v0 v1)
  go_enter Tryd.func20, Tryd.ntmps20
  go_wp2
  go_loopw [1] (fun x wr => ∃ (u : Int) (zs : List Int), 0 ≤ u ∧ u < 18446744073709551616 ∧ x = .int .u64 u ∧ OutAt wr base g zs ∧ zs ++ En.leb u = xs ++ En.leb v ∧ But base g w wr ∧ Oth g w wr) (fun x _ => (intOf x).toNat)
  case atStart => exact ⟨v, xs, v0, v1, rfl, HS.out, rfl, But.refl _ _ _, Oth.refl _ _⟩
  case round =>
    obtain ⟨u, zs, u0, u1, rfl, hat, heq, hbut, hoth⟩ := hrel
    have HT := Lib.hid hoth
    clear hoth
    obtain ⟨A, cap, ho, hbase, hrow⟩ := hat
    obtain ⟨c0, f0⟩ := obj1 ho
    have hlen : zs.length ≤ 1000000010 := by
      have h1 := congrArg List.length heq
      rw [List.length_append, List.length_append] at h1
      have := lv.out
      have := HL.out
      omega
    have HE := Lib.hid heq
    have HB := Lib.hid hbut
    have HO := Lib.hid ho
    have HR := Lib.hid hrow
    have HZ := Lib.hid hlen
    have HBS := Lib.hid hbase
    clear heq hbut ho hrow hlen hbase
    by_cases hu : u < 128
    · have e1 := En.leb_small u u0 hu
      have E1 := Lib.hid e1
      have eu : IntKind.u8.wrap u = u := by rw [IntKind.wrap_u8]; omega
      have EU := Lib.hid eu
      clear e1 eu
      go_wp2_with (at_builtin; refine wp_appR rfl (.tmp 24) (.tmp 27) rfl rfl rfl (HR.out.grew ((Below.refl _ _).alloc (Nat.le_refl _) _) (Nat.le_refl _)) (by have := HBS.out; simp; omega) rfl rfl (Bytes.new1 wr _ (by first | omega | (rw [EU.out]; omega)) (by first | omega | (rw [EU.out]; omega)) _) (Nat.succ_pos _) (by have := HZ.out; simp; omega) ?_; intro A2 cap2 w2 o2 d2; have HO2 := Lib.hid (d2.obj g _ _ _ (alloc_obj HO.out _) (by decide)); obtain ⟨c2, f2⟩ := obj1 HO2.out; have OW := Lib.hid o2; have DW := Lib.hid d2; clear o2 d2)
      go_end0
      have hb2 : base ≤ w2.heap.size := by have h1 := HBS.out; have h2 := DW.out.below.size; simp at h2; omega
      have hst := out_stored HO2.out OW.out hb2 (zs.length + 1) (by simp)
      have hfr : But base g w w2 := HB.out.trans ((But.of ((Below.refl _ _).alloc HBS.out _)).trans (But.of DW.out.below))
      have hfr2 := hfr.trans (But.set base g 0 w2 (.slice A2 (zs.length + 1) cap2))
      have hot : Oth g w (w2.setCell ⟨g, 0, none⟩ (.slice A2 (zs.length + 1) cap2)) := HT.out.trans ((Oth.of ((Below.refl _ _).alloc (Nat.le_refl _) _)).trans ((Oth.grew DW.out).trans (Oth.set g 0 w2 _)))
      refine ⟨rfl, ⟨?_, ?_⟩, hot⟩
      · rw [← HE.out, E1.out]; exact hst
      · exact hfr2
    · have hz : 0 ≤ u % 128 + 128 ∧ u % 128 + 128 ≤ 255 := by omega
      have OM := Lib.hid (En.or_more' u u0)
      have E1 := Lib.hid (En.leb_big u (by omega))
      have hu' : 128 ≤ u := by omega
      clear hu hz
      go_wp2_with (at_builtin; refine wp_appR rfl (.tmp 10) (.tmp 14) rfl rfl rfl (HR.out.grew ((Below.refl _ _).alloc (Nat.le_refl _) _) (Nat.le_refl _)) (by have := HBS.out; simp; omega) rfl rfl (Bytes.new1 wr _ (by rw [OM.out]; omega) (by rw [OM.out]; omega) _) (Nat.succ_pos _) (by have := HZ.out; simp; omega) ?_; intro A2 cap2 w2 o2 d2; have HO2 := Lib.hid (d2.obj g _ _ _ (alloc_obj HO.out _) (by decide)); obtain ⟨c2, f2⟩ := obj1 HO2.out; have OW := Lib.hid o2; have DW := Lib.hid d2; clear o2 d2)
      go_roundw
      case rel =>
        have hb2 : base ≤ w2.heap.size := by have h1 := HBS.out; have h2 := DW.out.below.size; simp at h2; omega
        have hst := out_stored HO2.out OW.out hb2 (zs.length + 1) (by simp)
        have hfr : But base g w w2 := HB.out.trans ((But.of ((Below.refl _ _).alloc HBS.out _)).trans (But.of DW.out.below))
        refine ⟨u / 128, _, by omega, by omega, rfl, hst.at_, ?_, hfr.trans (But.set base g 0 w2 _), HT.out.trans ((Oth.of ((Below.refl _ _).alloc (Nat.le_refl _) _)).trans ((Oth.grew DW.out).trans (Oth.set g 0 w2 _)))⟩
        rw [← HE.out, E1.out, OM.out, List.append_assoc]; rfl
      case measure => simp [intOf]; omega
set_option maxHeartbeats 1000000 in
theorem outSk_any (s : ByteArray) (hs : s.size ≤ 1000000) (base g : Nat) (xs : List Int) (hl : xs.length ≤ 1000000000) (w : World) (h : OutAt w base g xs) :
    Calls Tryd.prog 22 #[.pointer (some ⟨g, 0, none⟩), .string s] w fun e w' => e = .returned (.tuple #[]) ∧ OutPost w base g (xs ++ En.putS s) w' ∧ Oth g w w' := by
  have U := Lib.hid (outUk_any (s.size : Int) (by omega) (by omega) base g xs hl w h)
  have LL := Lib.hid (En.leb_len (s.size : Int) (by omega) (by omega))
  clear h
  have hs' : (s.size : Int) ≤ 1000000 := by omega
  have HL := Lib.hid hl
  clear hl
  go_enter Tryd.func22, Tryd.ntmps22
  go_wp2_with fail
  refine U.out.mono ?_; rintro e w1 ⟨rfl, hp, hoth⟩
  have HT := Lib.hid hoth
  clear hoth
  have HP := Lib.hid hp
  obtain ⟨A, cap, ho, hbase, hrow⟩ := hp.1
  clear hp
  obtain ⟨c0, f0⟩ := obj1 ho
  have HO := Lib.hid ho
  have HB := Lib.hid hbase
  have HR := Lib.hid hrow
  clear ho hbase hrow
  have hlen : Hid ((xs ++ En.leb (s.size : Int)).length ≤ 1000000010) := by
    have h1 := HL.out; have h2 := LL.out; show _ ≤ _; rw [List.length_append]; omega
  have hp2 : Hid (En.putS s = En.leb (s.size : Int) ++ strB_ s) := rfl
  have hap : Hid (xs ++ En.putS s = (xs ++ En.leb (s.size : Int)) ++ strB_ s) := by show _ = _; rw [hp2.out, List.append_assoc]
  generalize xs ++ En.leb (s.size : Int) = ys at *
  go_wp2_with (at_builtin; refine wp_app_str rfl (.tmp 13) (.tmp 14) rfl rfl rfl HR.out HB.out rfl (by have := hlen.out; omega) ?_; intro A2 cap2 w2 o2 d2; have HO2 := Lib.hid (d2.obj g _ _ _ HO.out (by decide)); obtain ⟨c2, f2⟩ := obj1 HO2.out; have OW := Lib.hid o2; have DW := Lib.hid d2; clear o2 d2)
  go_end0
  have hb2 : base ≤ w2.heap.size := by have h1 := HB.out; have h2 := DW.out.below.size; omega
  refine ⟨rfl, ⟨?_, ?_⟩, HT.out.trans ((Oth.grew DW.out).trans (Oth.set g 0 w2 _))⟩
  · rw [hap.out]
    exact out_stored HO2.out OW.out hb2 _ (by simp)
  · exact HP.out.2.trans ((But.of DW.out.below).trans (But.set base g 0 w2 _))
end Go.Proofs.YtighnooklcmjaaaDoor
/-
  The reading methods of package enc, at every reader: what each tells and what it leaves is the plain reading of the text En; nothing but the reader's own block changes.
-/
namespace Go.Proofs.YtighnooklcmjaaaDoor
open Go.RowKit

/-! ### An object of one or two cells -/
theorem obj2P {w : World} {g : Nat} {x y : Value} {t : TypeId} (h : w.heap[g]? = some (.cells #[x, y] t (0, 0))) :
    (w.cell? ⟨g, 0, none⟩ = some x ∧ w.cell? ⟨g, 1, none⟩ = some y) ∧ w.frozen? ⟨g, 0, none⟩ = false ∧ w.frozen? ⟨g, 1, none⟩ = false :=
  ⟨⟨by simp [World.cell?, h], by simp [World.cell?, h]⟩, by simp [World.frozen?, h], by simp [World.frozen?, h]⟩
theorem obj_set {w : World} {g o : Nat} {cs : Array Value} {t : TypeId} (h : w.heap[g]? = some (.cells cs t (0, 0))) (v : Value) :
    (w.setCell ⟨g, o, none⟩ v).heap[g]? = some (.cells (cs.setIfInBounds o v) t (0, 0)) := heap_setCell_same w g o cs t v h

/-- A reader at block g: what is left to read, and whether it is bad. -/
def InAt (w : World) (t g : Nat) (zs : List Int) (b : Bool) : Prop :=
  ∃ A cap, w.heap[g]? = some (.cells #[.slice A zs.length cap, .bool b] t (0, 0)) ∧ zs.length ≤ cap ∧ zs.length ≤ 4611686018427387904 ∧ Bytes w w.heap.size A zs
def InPost (w : World) (t g : Nat) (zs : List Int) (b : Bool) (w' : World) : Prop := InAt w' t g zs b ∧ But w.heap.size g w w'
theorem no_u8 (x : Value) (hx : ∀ n, x ≠ .int .u8 n) (b : Bool) : ∀ (i : Nat) (n : Int), (#[x, .bool b] : Array Value)[i]? ≠ some (.int .u8 n) := by
  intro i n
  rcases i with _ | _ | i
  · simpa using hx n
  · simp
  · simp
theorem InAt.byte {w : World} {t g : Nat} {zs : List Int} {b : Bool} (h : InAt w t g zs b) : En.Byte zs := by
  obtain ⟨A, cap, _, _, _, hb⟩ := h; exact hb.mem
theorem InAt.lt {w : World} {t g : Nat} {zs : List Int} {b : Bool} (h : InAt w t g zs b) : g < w.heap.size := by
  obtain ⟨A, cap, ho, _⟩ := h; exact lt_of_block ho
/-- A reader stays what it is where nothing but another object has changed. -/
theorem InAt.keep {w w' : World} {t g g' : Nat} {zs : List Int} {b : Bool} {cs : Array Value} {t' : TypeId} (h : InAt w t g zs b) (hB : But w.heap.size g' w w') (ho : w.heap[g']? = some (.cells cs t' (0, 0)))
    (hv : ∀ (i : Nat) (n : Int), cs[i]? ≠ some (.int .u8 n)) (hg : g ≠ g') : InAt w' t g zs b := by
  obtain ⟨A, cap, h1, h2, h3, h4⟩ := h
  exact ⟨A, cap, (hB.block g (lt_of_block h1) hg).trans h1, h2, h3, (h4.but hB ho hv).more hB.size⟩
theorem InAt.below {w w' : World} {t g B : Nat} {zs : List Int} {b : Bool} (h : InAt w t g zs b) (hB : Below B w w') (hw : w.heap.size ≤ B) : InAt w' t g zs b := by
  obtain ⟨A, cap, h1, h2, h3, h4⟩ := h
  exact ⟨A, cap, (hB.block g (by have := lt_of_block h1; omega)).trans h1, h2, h3, (h4.below (hB.mono hw)).more hB.size⟩
theorem InAt.spoilt {w : World} {t g : Nat} {zs : List Int} {b : Bool} (h : InAt w t g zs b) :
    InPost w t g [] true ((w.setCell ⟨g, 0, none⟩ (.slice none 0 0)).setCell ⟨g, 1, none⟩ (.bool true)) := by
  obtain ⟨A, cap, h1, h2, h3, h4⟩ := h
  exact ⟨⟨none, 0, obj_set (obj_set h1 _) _, by decide, by decide, Bytes.nil_⟩, (But.set _ g 0 w _).trans (But.set _ g 1 _ _)⟩
theorem InAt.spoilt' {w : World} {t g : Nat} {zs : List Int} {b : Bool} (h : InAt w t g zs b) :
    InPost w t g [] true ((w.setCell ⟨g, 1, none⟩ (.bool true)).setCell ⟨g, 0, none⟩ (.slice none 0 0)) := by
  obtain ⟨A, cap, h1, h2, h3, h4⟩ := h
  exact ⟨⟨none, 0, obj_set (obj_set h1 _) _, by decide, by decide, Bytes.nil_⟩, (But.set _ g 1 w _).trans (But.set _ g 0 _ _)⟩
theorem InAt.emptied {w : World} {t g : Nat} {zs : List Int} (h : InAt w t g zs true) : InPost w t g [] true (w.setCell ⟨g, 0, none⟩ (.slice none 0 0)) := by
  obtain ⟨A, cap, h1, h2, h3, h4⟩ := h
  exact ⟨⟨none, 0, obj_set h1 _, by decide, by decide, Bytes.nil_⟩, But.set _ g 0 w _⟩
/-- What it was before does not matter to how it ends. -/
theorem InPost.trans {w w1 w2 : World} {t g : Nat} {zs ys : List Int} {b c : Bool} (h : InPost w t g zs b w1) (k : InPost w1 t g ys c w2) : InPost w t g ys c w2 :=
  ⟨k.1, h.2.trans (k.2.mono h.2.size)⟩
theorem InAt.moved {w : World} {t g : Nat} {A : Option Addr} {cap : Nat} {zs : List Int} {b : Bool} (h1 : w.heap[g]? = some (.cells #[.slice A zs.length cap, .bool b] t (0, 0))) (h2 : zs.length ≤ cap) (h3 : zs.length ≤ 4611686018427387904)
    (h4 : Bytes w w.heap.size A zs) (k : Nat) : InPost w t g (zs.drop k) b (w.setCell ⟨g, 0, none⟩ (.slice (tailA A cap k) (zs.length - k) (cap - k))) := by
  refine ⟨⟨tailA A cap k, cap - k, ?_, ?_, ?_, ?_⟩, But.set _ g 0 w _⟩
  · rw [List.length_drop]; exact obj_set h1 _
  · rw [List.length_drop]; omega
  · rw [List.length_drop]; omega
  · have hs : (w.setCell ⟨g, 0, none⟩ (.slice (tailA A cap k) (zs.length - k) (cap - k))).heap.size = w.heap.size := by simp [World.setCell]
    rw [hs]
    exact (h4.tail k cap h2).but (But.set _ g 0 w _) h1 (no_u8 _ (fun n => by simp) b)

/-! ### spoil, U -/
set_option maxHeartbeats 400000 in
theorem spoil_any (g : Nat) (zs : List Int) (b : Bool) (w : World) (h : InAt w 59 g zs b) :
    Calls Tryd.prog 55 #[.pointer (some ⟨g, 0, none⟩)] w fun e w' => e = .returned (.tuple #[]) ∧ InPost w 59 g [] true w' := by
  have HP := Lib.hid h.spoilt
  obtain ⟨A, cap, h1, _, _, _⟩ := h
  obtain ⟨⟨c0, c1⟩, f0, f1⟩ := obj2P h1
  clear h1
  go_enter Tryd.func55, Tryd.ntmps55
  go_wp2
  go_end0
  exact ⟨rfl, HP.out⟩
theorem first_yes (B : Nat) (A : Option Addr) (zs : List Int) (cap : Nat) (hl : zs.length ≤ 9223372036854775807) (v : Int) (n : Nat) (hd : En.decU zs = (v, n)) (w : World) (hb : Bytes w B A zs) :
    Calls Tryd.prog 56 #[.slice A zs.length cap] w fun e w' => e = .returned (.tuple #[.int .u64 v, .int .i64 (n : Int)]) ∧ w = w' := by
  have h := first_any B A zs cap hl w hb
  rw [hd] at h
  exact h
set_option maxHeartbeats 1000000 in
theorem inU_any (g : Nat) (zs : List Int) (b : Bool) (w : World) (h : InAt w 59 g zs b) :
    Calls Tryd.prog 46 #[.pointer (some ⟨g, 0, none⟩)] w fun e w' => e = .returned (.int .u64 (En.valU zs b)) ∧ InPost w 59 g (En.restU zs b) (!En.okU zs b) w' := by
  have SP := Lib.hid (spoil_any g zs b w h)
  have hz := h.byte
  obtain ⟨A, cap, h1, h2, h3, h4⟩ := h
  obtain ⟨⟨c0, c1⟩, f0, f1⟩ := obj2P h1
  obtain ⟨v, n, hd⟩ : ∃ v n, En.decU zs = (v, n) := ⟨_, _, rfl⟩
  have FA := Lib.hid (first_yes _ A zs cap (by omega) v n hd w h4)
  by_cases hok : En.okU zs b = true
  · have hv : En.valU zs b = v := by unfold En.valU; rw [if_pos hok, hd]
    have hr : En.restU zs b = zs.drop n := by unfold En.restU; rw [if_pos hok, hd]
    have hbn : b = false ∧ 0 < n := by unfold En.okU at hok; rw [hd] at hok; simpa using hok
    have hn : n ≤ zs.length := by have := (En.decU_range zs hz).2; rw [hd] at this; exact this
    obtain ⟨rfl, hn0⟩ := hbn
    rw [hv, hr, hok]
    have HP := Lib.hid (InAt.moved h1 h2 h3 h4 n)
    have hn0' : 0 < (n : Int) := by omega
    have SL := slice_from A zs.length cap n hn .i64
    clear hv hr hok h1 h4 hd hz
    go_enter Tryd.func46, Tryd.ntmps46
    go_wp2_with fail
    refine FA.out.mono ?_; rintro e w' ⟨rfl, rfl⟩
    go_wp2
    go_ret
    exact ⟨rfl, HP.out⟩
  · have hok' : En.okU zs b = false := by simpa using hok
    have hv : En.valU zs b = 0 := by unfold En.valU; rw [if_neg hok]
    have hr : En.restU zs b = [] := by unfold En.restU; rw [if_neg hok]
    have hbn : b = true ∨ (b = false ∧ n = 0) := by
      unfold En.okU at hok'; rw [hd] at hok'
      cases b
      · right; refine ⟨rfl, ?_⟩; simpa using hok'
      · left; rfl
    rw [hv, hr, hok']
    clear hv hr hok hok' h1 h4 hd hz
    rcases hbn with rfl | ⟨rfl, rfl⟩
    all_goals
      go_enter Tryd.func46, Tryd.ntmps46
      go_wp2_with fail
      refine FA.out.mono ?_; rintro e w' ⟨rfl, rfl⟩
      go_wp2_with fail
      refine SP.out.mono ?_; rintro e w' ⟨rfl, hp⟩
      go_wp2
      go_ret
      exact ⟨rfl, hp⟩

/-! ### I, S, Small, End -/
set_option maxHeartbeats 1000000 in
theorem inEnd_any (t g : Nat) (zs : List Int) (b : Bool) (w : World) (h : InAt w t g zs b) :
    Calls Tryd.prog 28 #[.pointer (some ⟨g, 0, none⟩)] w fun e w' => e = .returned (.bool (En.isEnd zs b)) ∧ w = w' := by
  obtain ⟨A, cap, h1, h2, h3, h4⟩ := h
  obtain ⟨⟨c0, c1⟩, f0, f1⟩ := obj2P h1
  clear h1 h4
  cases b
  · by_cases hz : zs.length = 0
    · have he : En.isEnd zs false = true := by simp [En.isEnd, hz]
      rw [he]
      have hz' : (zs.length : Int) = 0 := by omega
      rw [hz] at c0
      clear he hz hz' h2 h3
      go_enter Tryd.func28, Tryd.ntmps28
      go_wp2
      go_ret
      exact ⟨rfl, rfl⟩
    · have he : En.isEnd zs false = false := by simp [En.isEnd]; intro e; subst e; simp at hz
      rw [he]
      have hz' : 0 < (zs.length : Int) := by omega
      clear he hz
      go_enter Tryd.func28, Tryd.ntmps28
      go_wp2
      go_ret
      exact ⟨ret_bool (by simp; intro e; subst e; simp at hz'), rfl⟩
  · have he : En.isEnd zs true = false := by simp [En.isEnd]
    rw [he]
    clear he
    go_enter Tryd.func28, Tryd.ntmps28
    go_wp2
    go_ret
    exact ⟨rfl, rfl⟩
theorem small_yes {v most : Int} {o : Bool} {zs : List Int} {b : Bool} (ho : En.okU zs b = o) (hv : En.valU zs b = v) : En.okM zs b most = (o && decide (v ≤ most) && decide (v ≤ 2147483647)) := by
  unfold En.okM; rw [ho, hv]
set_option maxHeartbeats 1000000 in
theorem inSmall_any (g : Nat) (zs : List Int) (b : Bool) (most : Int) (m0 : 0 ≤ most) (_m1 : most < 18446744073709551616) (w : World) (h : InAt w 59 g zs b) :
    Calls Tryd.prog 45 #[.pointer (some ⟨g, 0, none⟩), .int .u64 most] w fun e w' => e = .returned (.int .i64 (En.valM zs b most)) ∧ InPost w 59 g (En.restM zs b most) (!En.okM zs b most) w' := by
  have U := Lib.hid (inU_any g zs b w h)
  have hr := En.valU_range zs b h.byte
  by_cases ho : En.okU zs b = true
  · by_cases hs : En.valU zs b ≤ most ∧ En.valU zs b ≤ 2147483647
    · have hk : En.okM zs b most = true := by unfold En.okM; rw [ho]; simp [hs]
      have hv : En.valM zs b most = En.valU zs b := by unfold En.valM; rw [if_pos hk]
      have hrr : En.restM zs b most = En.restU zs b := by unfold En.restM; rw [if_pos hk]
      rw [hk, hv, hrr]
      rw [ho] at U
      clear hk hv hrr ho h
      obtain ⟨s1, s2⟩ := hs
      obtain ⟨r1, r2⟩ := hr
      generalize En.valU zs b = v at *
      go_enter Tryd.func45, Tryd.ntmps45
      go_wp2_with fail
      refine U.out.mono ?_; rintro e w' ⟨rfl, hp⟩
      go_wp2
      go_ret
      exact ⟨rfl, hp⟩
    · have hk : En.okM zs b most = false := by
        unfold En.okM; rw [ho]; simp; omega
      have hv : En.valM zs b most = 0 := by unfold En.valM; rw [hk]; rfl
      have hrr : En.restM zs b most = [] := by unfold En.restM; rw [hk]; rfl
      have hc : most < En.valU zs b ∨ (En.valU zs b ≤ most ∧ 2147483647 < En.valU zs b) := by omega
      rw [hk, hv, hrr]
      clear hk hv hrr h hs ho
      obtain ⟨r1, r2⟩ := hr
      generalize En.valU zs b = v at *
      generalize En.restU zs b = ys at *
      generalize En.okU zs b = o at *
      rcases hc with hc | ⟨hc, hc2⟩
      all_goals
        go_enter Tryd.func45, Tryd.ntmps45
        go_wp2_with fail
        refine U.out.mono ?_; rintro e w' ⟨rfl, hp⟩
        have HP := Lib.hid hp
        clear hp
        go_wp2_with fail
        refine (spoil_any g _ _ _ HP.out.1).mono ?_; rintro e w' ⟨rfl, hp2⟩
        go_wp2
        go_ret
        exact ⟨rfl, HP.out.trans hp2⟩
  · have ho' : En.okU zs b = false := by simpa using ho
    have hk : En.okM zs b most = false := by unfold En.okM; rw [ho']; rfl
    have hv : En.valM zs b most = 0 := by unfold En.valM; rw [hk]; rfl
    have hrr : En.restM zs b most = [] := by unfold En.restM; rw [hk]; rfl
    have hvu : En.valU zs b = 0 := by unfold En.valU; rw [if_neg ho]
    have hru : En.restU zs b = [] := by unfold En.restU; rw [if_neg ho]
    rw [hk, hv, hrr]
    rw [hvu, hru, ho'] at U
    clear hk hv hrr h ho ho' hvu hru hr
    go_enter Tryd.func45, Tryd.ntmps45
    go_wp2_with fail
    refine U.out.mono ?_; rintro e w' ⟨rfl, hp⟩
    go_wp2
    go_ret
    exact ⟨rfl, hp⟩
end Go.Proofs.YtighnooklcmjaaaDoor
/-
  The reading of a string: In.S, at every reader.
-/
namespace Go.Proofs.YtighnooklcmjaaaDoor
open Go.RowKit
theorem conv_head {w : World} {B : Nat} {A : Option Addr} {zs : List Int} (h : Bytes w B A zs) (k cap : Nat) (hk : k ≤ zs.length) : (convert 27 9 (.slice A k cap)).run Tryd.prog w = .ok (.string (strOfNums (zs.take k))) w := by
  have e : (zs.take k).length = k := by rw [List.length_take]; omega
  have h1 := conv_str (h.head k) cap
  rw [e] at h1
  exact h1
set_option maxRecDepth 20000 in
set_option maxHeartbeats 1000000 in
theorem inS_yes (g : Nat) (ys : List Int) (b : Bool) (most : Int) (k : Nat) (m0 : (k : Int) ≤ most) (m1 : most ≤ 9223372036854775807) (hk : k ≤ ys.length) (w : World)
    (U : Calls Tryd.prog 46 #[.pointer (some ⟨g, 0, none⟩)] w fun e w' => e = .returned (.int .u64 (k : Int)) ∧ InPost w 59 g ys b w') (hb : b = false) :
    Calls Tryd.prog 47 #[.pointer (some ⟨g, 0, none⟩), .int .i64 most] w fun e w' => e = .returned (.string (strOfNums (ys.take k))) ∧ InPost w 59 g (ys.drop k) false w' := by
  subst hb
  have HU := Lib.hid U
  clear U
  have m2 : 0 ≤ most := by omega
  go_enter Tryd.func47, Tryd.ntmps47
  go_wp2_with fail
  refine HU.out.mono ?_; rintro e w1 ⟨rfl, hp⟩
  have HP := Lib.hid hp
  obtain ⟨A, cap, h1, h2, h3, h4⟩ := hp.1
  clear hp
  obtain ⟨⟨c0, c1⟩, f0, f1⟩ := obj2P h1
  have HM := Lib.hid (InAt.moved h1 h2 h3 h4 k)
  have CS := conv_head h4 k cap hk
  have ST := slice_to A ys.length cap k (by omega) .u64
  have SF := slice_from A ys.length cap k hk .u64
  clear h1 h4
  go_wp2
  go_ret
  exact ⟨rfl, HP.out.trans HM.out⟩
set_option maxRecDepth 20000 in
set_option maxHeartbeats 1000000 in
theorem inS_no (g : Nat) (ys : List Int) (b : Bool) (most v : Int) (m0 : -9223372036854775808 ≤ most) (m1 : most ≤ 9223372036854775807) (_v0 : 0 ≤ v) (_v1 : v < 18446744073709551616) (w : World)
    (U : Calls Tryd.prog 46 #[.pointer (some ⟨g, 0, none⟩)] w fun e w' => e = .returned (.int .u64 v) ∧ InPost w 59 g ys b w')
    (hc : b = true ∨ (b = false ∧ most < 0) ∨ (b = false ∧ 0 ≤ most ∧ most < v) ∨ (b = false ∧ 0 ≤ most ∧ v ≤ most ∧ (ys.length : Int) < v)) :
    Calls Tryd.prog 47 #[.pointer (some ⟨g, 0, none⟩), .int .i64 most] w fun e w' => e = .returned (.string ByteArray.empty) ∧ InPost w 59 g [] true w' := by
  have HU := Lib.hid U
  clear U
  rcases hc with rfl | ⟨rfl, c⟩ | ⟨rfl, c, c2⟩ | ⟨rfl, c, c2, c3⟩
  all_goals
    go_enter Tryd.func47, Tryd.ntmps47
    go_wp2_with fail
    refine HU.out.mono ?_; rintro e w1 ⟨rfl, hp⟩
    have HP := Lib.hid hp
    have SP := Lib.hid (spoil_any g _ _ _ hp.1)
    obtain ⟨A, cap, h1, h2, h3, h4⟩ := hp.1
    clear hp
    obtain ⟨⟨c0, c1⟩, f0, f1⟩ := obj2P h1
    clear h1 h4
    go_wp2_with fail
    refine SP.out.mono ?_; rintro e w' ⟨rfl, hp2⟩
    go_wp2
    go_ret
    exact ⟨rfl, HP.out.trans hp2⟩
theorem inS_any (g : Nat) (zs : List Int) (b : Bool) (most : Int) (m0 : -9223372036854775808 ≤ most) (m1 : most ≤ 9223372036854775807) (w : World) (h : InAt w 59 g zs b) :
    Calls Tryd.prog 47 #[.pointer (some ⟨g, 0, none⟩), .int .i64 most] w fun e w' => e = .returned (.string (En.valS zs b most)) ∧ InPost w 59 g (En.restS zs b most) (!En.okS zs b most) w' := by
  have U := inU_any g zs b w h
  have hr := En.valU_range zs b h.byte
  by_cases hk : En.okS zs b most = true
  · have hv : En.valS zs b most = strOfNums ((En.restU zs b).take (En.valU zs b).toNat) := by unfold En.valS; rw [if_pos hk]
    have hrr : En.restS zs b most = (En.restU zs b).drop (En.valU zs b).toNat := by unfold En.restS; rw [if_pos hk]
    have hk' := hk
    unfold En.okS at hk'
    simp only [Bool.and_eq_true, decide_eq_true_eq] at hk'
    obtain ⟨⟨⟨k1, k2⟩, k3⟩, k4⟩ := hk'
    rw [hv, hrr, hk]
    have e : ((En.valU zs b).toNat : Int) = En.valU zs b := by omega
    rw [← e] at U
    rw [k1] at U
    exact inS_yes g (En.restU zs b) (!true) most (En.valU zs b).toNat (by omega) m1 (by omega) w U rfl
  · have hk' : En.okS zs b most = false := by simpa using hk
    have hv : En.valS zs b most = ByteArray.empty := by unfold En.valS; rw [if_neg hk]
    have hrr : En.restS zs b most = [] := by unfold En.restS; rw [if_neg hk]
    rw [hv, hrr, hk']
    refine inS_no g (En.restU zs b) (!En.okU zs b) most (En.valU zs b) m0 m1 hr.1 hr.2 w U ?_
    unfold En.okS at hk'
    cases ho : En.okU zs b
    · left; rfl
    · right
      rw [ho] at hk'
      simp at hk'
      simp
      omega
end Go.Proofs.YtighnooklcmjaaaDoor
/-
  The reading methods of the reference's chapter 3, at every reader: the same plain reading.
-/
namespace Go.Proofs.YtighnooklcmjaaaDoor
open Go.RowKit
set_option maxHeartbeats 400000 in
theorem refFail_any (g : Nat) (zs : List Int) (b : Bool) (w : World) (h : InAt w 63 g zs b) :
    Calls Tryd.prog 48 #[.pointer (some ⟨g, 0, none⟩)] w fun e w' => e = .returned (.tuple #[]) ∧ InPost w 63 g [] true w' := by
  have HP := Lib.hid h.spoilt'
  obtain ⟨A, cap, h1, _, _, _⟩ := h
  obtain ⟨⟨c0, c1⟩, f0, f1⟩ := obj2P h1
  clear h1
  go_enter Tryd.func48, Tryd.ntmps48
  go_wp2
  go_end0
  exact ⟨rfl, HP.out⟩
theorem okU_bad {zs : List Int} (hd : En.decU zs = (0, 0)) (b : Bool) : En.valU zs b = 0 ∧ En.restU zs b = [] ∧ En.okU zs b = false := by
  have ho : En.okU zs b = false := by unfold En.okU; rw [hd]; simp
  refine ⟨?_, ?_, ho⟩
  · unfold En.valU; rw [ho]; rfl
  · unfold En.restU; rw [ho]; rfl
theorem okU_good {zs : List Int} {v : Int} {n : Nat} (hd : En.decU zs = (v, n + 1)) : En.valU zs false = v ∧ En.restU zs false = zs.drop (n + 1) ∧ En.okU zs false = true := by
  have ho : En.okU zs false = true := by unfold En.okU; rw [hd]; simp
  refine ⟨?_, ?_, ho⟩
  · unfold En.valU; rw [ho, hd]; rfl
  · unfold En.restU; rw [ho, hd]; rfl
/-- What U is to end in. -/
def UPost (w : World) (t g : Nat) (zs : List Int) (b : Bool) (e : Ending) (w' : World) : Prop := e = .returned (.int .u64 (En.valU zs b)) ∧ InPost w t g (En.restU zs b) (!En.okU zs b) w'
theorem UPost.bad {w w' : World} {t g : Nat} {zs : List Int} {b : Bool} (hd : En.decU zs = (0, 0)) (h : InPost w t g [] true w') : UPost w t g zs b (.returned (.int .u64 0)) w' := by
  obtain ⟨h1, h2, h3⟩ := okU_bad hd b
  unfold UPost; rw [h1, h2, h3]; exact ⟨rfl, h⟩
theorem UPost.good {w w' : World} {t g : Nat} {zs : List Int} {v : Int} {n : Nat} (hd : En.decU zs = (v, n + 1)) (h : InPost w t g (zs.drop (n + 1)) false w') : UPost w t g zs false (.returned (.int .u64 v)) w' := by
  obtain ⟨h1, h2, h3⟩ := okU_good hd
  unfold UPost; rw [h1, h2, h3]; exact ⟨rfl, h⟩
set_option maxHeartbeats 2000000 in
theorem refU_any (g : Nat) (zs : List Int) (b : Bool) (w : World) (h : InAt w 63 g zs b) :
    Calls Tryd.prog 31 #[.pointer (some ⟨g, 0, none⟩)] w (UPost w 63 g zs b) := by
  have SP := Lib.hid (refFail_any g zs b w h)
  cases b
  · obtain ⟨A, cap, h1, h2, h3, h4⟩ := h
    obtain ⟨⟨c0, c1⟩, f0, f1⟩ := obj2P h1
    have HM := Lib.hid (fun k => InAt.moved h1 h2 h3 h4 k)
    have H := Lib.hid h4
    have SF := Lib.hid (fun k (hk : k ≤ zs.length) => slice_from A zs.length cap k hk .i64)
    have hl : zs.length ≤ 4611686018427387904 := h3
    clear h1 h4 h3 h2
    have S := Lib.hid (DecAt.start zs)
    go_enter Tryd.func31, Tryd.ntmps31
    go_wp2
    go_loop [3, 4, 5] (fun v p i => ∃ (k : Nat) (acc q : Int), DecAt zs k acc ∧ 128 ^ k = q ∧ i = .int .i64 k ∧ v = .int .u64 acc ∧ p = .int .u64 q) (fun _ _ i => zs.length - (intOf i).toNat)
    case atStart => exact ⟨0, 0, 1, S.out, rfl, rfl, rfl, rfl⟩
    case round =>
      obtain ⟨k, acc, q, hat, hq, rfl, rfl, rfl⟩ := hrel
      have HA := Lib.hid hat
      obtain ⟨hk, h9, a0, a1, _⟩ := hat
      have hp := En.p128 k h9
      have hp8 := En.p128_8 k
      rw [hq] at a1 hp hp8
      have HQ := Lib.hid hq
      clear hq
      obtain ⟨hp1, hp2⟩ := hp
      by_cases hlt : k < zs.length
      · obtain ⟨bb, off, z, rfl, hbb, hc, hz, z0, z1⟩ := H.out.at_ hlt
        by_cases hb9 : k = 9 ∧ 1 < z
        · have E0 := Lib.hid (HA.out.bad hlt hz.out (.inl hb9))
          obtain ⟨rfl, hz1⟩ := hb9
          clear hp8
          go_wp2_with fail
          refine SP.out.mono ?_; rintro e w' ⟨rfl, hp⟩
          go_wp2
          go_ret
          exact UPost.bad E0.out hp
        · have hg := En.group_bd k acc (z % 128) h9 a0 (by rw [HQ.out]; exact a1) (by omega) (by omega) (by omega)
          rw [HQ.out] at hg
          obtain ⟨g0, g1, _⟩ := hg
          by_cases hz128 : z < 128
          · by_cases hb0 : 0 < k ∧ z = 0
            · have E0 := Lib.hid (HA.out.bad hlt hz.out (.inr hb0))
              obtain ⟨hk0, rfl⟩ := hb0
              have hk0' : 0 < (k : Int) := by omega
              clear hp8 hz128 hk0
              by_cases hk9 : k = 9
              · subst hk9
                clear hb9
                go_wp2_with fail
                refine SP.out.mono ?_; rintro e w' ⟨rfl, hp⟩
                go_wp2
                go_ret
                exact UPost.bad E0.out hp
              · have hk9' : (k : Int) < 9 := by omega
                clear hb9 hk9
                go_wp2_with fail
                refine SP.out.mono ?_; rintro e w' ⟨rfl, hp⟩
                go_wp2
                go_ret
                exact UPost.bad E0.out hp
            · have e0 := HA.out.last hlt hz.out (by omega) hz128
              have em : z % 128 = z := by omega
              rw [HQ.out, ← em] at e0
              have E0 := Lib.hid e0
              have SL := SF.out (k + 1) (by omega)
              have ec : ((k + 1 : Nat) : Int) = (k : Int) + 1 := by omega
              rw [ec] at SL
              clear em e0 ec hp8
              by_cases hk9 : k = 9
              · subst hk9
                have hz1 : z ≤ 1 := by omega
                have hz2 : 0 < z := by omega
                have SL10 : ∀ W, (Instr.slice 27 (.slice (some ⟨bb, off, none⟩) zs.length cap) (some (.int .i64 10)) none none).run Tryd.prog W = .ok (.slice (tailA (some ⟨bb, off, none⟩) cap 10) (zs.length - 10) (cap - 10)) W := SF.out 10 (by omega)
                clear hb9 hb0 SL
                go_wp2
                go_ret
                exact UPost.good E0.out (HM.out 10)
              · have hk9' : (k : Int) < 9 := by omega
                by_cases hk0 : 0 < k
                · have hz2 : 0 < z := by omega
                  clear hb9 hb0 hk9
                  go_wp2
                  go_ret
                  exact UPost.good E0.out (HM.out _)
                · have hk0' : (k : Int) ≤ 0 := by omega
                  clear hb9 hb0 hk9 hk0
                  by_cases hz0 : z = 0
                  · subst hz0
                    have e1 : acc + 0 % 128 * q = acc := by simp
                    have e2 := E0.out
                    rw [e1] at e2
                    have E2 := Lib.hid e2
                    clear e1 e2
                    go_wp2
                    go_ret
                    exact UPost.good E2.out (HM.out _)
                  · have hz2 : 0 < z := by omega
                    clear hz0
                    go_wp2
                    go_ret
                    exact UPost.good E0.out (HM.out _)
          · have hn := HA.out.next hlt hz.out (by omega) (by omega) z1
            rw [HQ.out] at hn
            have HN := Lib.hid hn
            have hq2 : (128 : Int) ^ (k + 1) = q * 128 := by rw [Int.pow_succ, HQ.out]
            have HQ2 := Lib.hid hq2
            have k8 : (k : Int) < 9 := by omega
            have q8 : q ≤ 72057594037927936 := hp8 (by omega)
            have z128 : 128 ≤ z := by omega
            clear hn hq2 hb9 hp8
            go_wp2
            go_round
            case rel => exact ⟨k + 1, _, _, HN.out, HQ2.out, by go_num, rfl, rfl⟩
            case measure => simp [intOf]; omega
      · have E0 := Lib.hid (HA.out.out hlt)
        clear hp8
        go_wp2_with fail
        refine SP.out.mono ?_; rintro e w' ⟨rfl, hp⟩
        go_wp2
        go_ret
        exact UPost.bad E0.out hp
  · have HE := Lib.hid h.emptied
    have hb : En.okU zs true = false := by unfold En.okU; rfl
    have hv : En.valU zs true = 0 := by unfold En.valU; rw [hb]; rfl
    have hr : En.restU zs true = [] := by unfold En.restU; rw [hb]; rfl
    unfold UPost
    rw [hb, hv, hr]
    obtain ⟨A, cap, h1, h2, h3, h4⟩ := h
    obtain ⟨⟨c0, c1⟩, f0, f1⟩ := obj2P h1
    clear h1 h2 h3 h4 hb hv hr
    go_enter Tryd.func31, Tryd.ntmps31
    go_wp2
    go_ret
    exact ⟨rfl, HE.out⟩
theorem refU_all (g : Nat) (zs : List Int) (b : Bool) (w : World) (h : InAt w 63 g zs b) :
    Calls Tryd.prog 31 #[.pointer (some ⟨g, 0, none⟩)] w fun e w' => e = .returned (.int .u64 (En.valU zs b)) ∧ InPost w 63 g (En.restU zs b) (!En.okU zs b) w' :=
  refU_any g zs b w h
end Go.Proofs.YtighnooklcmjaaaDoor
/-
  The reading of a signed number, of a string and of a small number by the reference's chapter 3: the same plain reading.
-/
namespace Go.Proofs.YtighnooklcmjaaaDoor
open Go.RowKit
set_option maxRecDepth 20000 in
set_option maxHeartbeats 1000000 in
theorem refS_yes (g : Nat) (ys : List Int) (b : Bool) (most : Int) (k : Nat) (m0 : (k : Int) ≤ most) (m1 : most ≤ 9223372036854775807) (hk : k ≤ ys.length) (w : World)
    (U : Calls Tryd.prog 31 #[.pointer (some ⟨g, 0, none⟩)] w fun e w' => e = .returned (.int .u64 (k : Int)) ∧ InPost w 63 g ys b w') (hb : b = false) :
    Calls Tryd.prog 32 #[.pointer (some ⟨g, 0, none⟩), .int .i64 most] w fun e w' => e = .returned (.string (strOfNums (ys.take k))) ∧ InPost w 63 g (ys.drop k) false w' := by
  subst hb
  have HU := Lib.hid U
  clear U
  have m2 : 0 ≤ most := by omega
  go_enter Tryd.func32, Tryd.ntmps32
  go_wp2_with fail
  refine HU.out.mono ?_; rintro e w1 ⟨rfl, hp⟩
  have HP := Lib.hid hp
  obtain ⟨A, cap, h1, h2, h3, h4⟩ := hp.1
  clear hp
  obtain ⟨⟨c0, c1⟩, f0, f1⟩ := obj2P h1
  have HM := Lib.hid (InAt.moved h1 h2 h3 h4 k)
  have CS := conv_head h4 k cap hk
  have ST := slice_to A ys.length cap k (by omega) .u64
  have SF := slice_from A ys.length cap k hk .u64
  clear h1 h4
  go_wp2
  go_ret
  exact ⟨rfl, HP.out.trans HM.out⟩
set_option maxRecDepth 20000 in
set_option maxHeartbeats 1000000 in
theorem refS_no (g : Nat) (ys : List Int) (b : Bool) (most v : Int) (m0 : -9223372036854775808 ≤ most) (m1 : most ≤ 9223372036854775807) (_v0 : 0 ≤ v) (_v1 : v < 18446744073709551616) (w : World)
    (U : Calls Tryd.prog 31 #[.pointer (some ⟨g, 0, none⟩)] w fun e w' => e = .returned (.int .u64 v) ∧ InPost w 63 g ys b w')
    (hc : b = true ∨ (b = false ∧ most < 0) ∨ (b = false ∧ 0 ≤ most ∧ most < v) ∨ (b = false ∧ 0 ≤ most ∧ v ≤ most ∧ (ys.length : Int) < v)) :
    Calls Tryd.prog 32 #[.pointer (some ⟨g, 0, none⟩), .int .i64 most] w fun e w' => e = .returned (.string ByteArray.empty) ∧ InPost w 63 g [] true w' := by
  have HU := Lib.hid U
  clear U
  rcases hc with rfl | ⟨rfl, c⟩ | ⟨rfl, c, c2⟩ | ⟨rfl, c, c2, c3⟩
  all_goals
    go_enter Tryd.func32, Tryd.ntmps32
    go_wp2_with fail
    refine HU.out.mono ?_; rintro e w1 ⟨rfl, hp⟩
    have HP := Lib.hid hp
    have SP := Lib.hid (refFail_any g _ _ _ hp.1)
    obtain ⟨A, cap, h1, h2, h3, h4⟩ := hp.1
    clear hp
    obtain ⟨⟨c0, c1⟩, f0, f1⟩ := obj2P h1
    clear h1 h4
    go_wp2_with fail
    refine SP.out.mono ?_; rintro e w' ⟨rfl, hp2⟩
    go_wp2
    go_ret
    exact ⟨rfl, HP.out.trans hp2⟩
theorem refS_any (g : Nat) (zs : List Int) (b : Bool) (most : Int) (m0 : -9223372036854775808 ≤ most) (m1 : most ≤ 9223372036854775807) (w : World) (h : InAt w 63 g zs b) :
    Calls Tryd.prog 32 #[.pointer (some ⟨g, 0, none⟩), .int .i64 most] w fun e w' => e = .returned (.string (En.valS zs b most)) ∧ InPost w 63 g (En.restS zs b most) (!En.okS zs b most) w' := by
  have U := refU_all g zs b w h
  have hr := En.valU_range zs b h.byte
  by_cases hk : En.okS zs b most = true
  · have hv : En.valS zs b most = strOfNums ((En.restU zs b).take (En.valU zs b).toNat) := by unfold En.valS; rw [if_pos hk]
    have hrr : En.restS zs b most = (En.restU zs b).drop (En.valU zs b).toNat := by unfold En.restS; rw [if_pos hk]
    have hk' := hk
    unfold En.okS at hk'
    simp only [Bool.and_eq_true, decide_eq_true_eq] at hk'
    obtain ⟨⟨⟨k1, k2⟩, k3⟩, k4⟩ := hk'
    rw [hv, hrr, hk]
    have e : ((En.valU zs b).toNat : Int) = En.valU zs b := by omega
    rw [← e] at U
    rw [k1] at U
    exact refS_yes g (En.restU zs b) (!true) most (En.valU zs b).toNat (by omega) m1 (by omega) w U rfl
  · have hk' : En.okS zs b most = false := by simpa using hk
    have hv : En.valS zs b most = ByteArray.empty := by unfold En.valS; rw [if_neg hk]
    have hrr : En.restS zs b most = [] := by unfold En.restS; rw [if_neg hk]
    rw [hv, hrr, hk']
    refine refS_no g (En.restU zs b) (!En.okU zs b) most (En.valU zs b) m0 m1 hr.1 hr.2 w U ?_
    unfold En.okS at hk'
    cases ho : En.okU zs b
    · left; rfl
    · right
      rw [ho] at hk'
      simp at hk'
      simp
      omega
theorem small_no {zs : List Int} {b : Bool} {most : Int} (hk : En.okM zs b most = false) : En.valM zs b most = 0 ∧ En.restM zs b most = [] := by
  refine ⟨?_, ?_⟩
  · unfold En.valM; rw [hk]; rfl
  · unfold En.restM; rw [hk]; rfl
set_option maxRecDepth 20000 in
set_option maxHeartbeats 1000000 in
theorem refSmall_any (g : Nat) (zs : List Int) (b : Bool) (most : Int) (_m0 : 0 ≤ most) (_m1 : most < 18446744073709551616) (w : World) (h : InAt w 63 g zs b) :
    Calls Tryd.prog 29 #[.pointer (some ⟨g, 0, none⟩), .int .u64 most] w fun e w' => e = .returned (.int .i64 (En.valM zs b most)) ∧ InPost w 63 g (En.restM zs b most) (!En.okM zs b most) w' := by
  have U := Lib.hid (refU_all g zs b w h)
  have hr := En.valU_range zs b h.byte
  by_cases hk : En.okM zs b most = true
  · have hk' := hk
    unfold En.okM at hk'
    simp only [Bool.and_eq_true, decide_eq_true_eq] at hk'
    obtain ⟨⟨ho, s1⟩, s2⟩ := hk'
    have hv : En.valM zs b most = En.valU zs b := by unfold En.valM; rw [if_pos hk]
    have hrr : En.restM zs b most = En.restU zs b := by unfold En.restM; rw [if_pos hk]
    rw [hk, hv, hrr]
    rw [ho] at U
    clear hk hv hrr ho h
    obtain ⟨r1, r2⟩ := hr
    generalize En.valU zs b = v at *
    go_enter Tryd.func29, Tryd.ntmps29
    go_wp2_with fail
    refine U.out.mono ?_; rintro e w1 ⟨rfl, hp⟩
    have HP := Lib.hid hp
    obtain ⟨A, cap, h1, h2, h3, h4⟩ := hp.1
    clear hp
    obtain ⟨⟨c0, c1⟩, f0, f1⟩ := obj2P h1
    clear h1 h4
    go_wp2
    go_ret
    exact ⟨rfl, HP.out⟩
  · have hk' : En.okM zs b most = false := by simpa using hk
    obtain ⟨hv, hrr⟩ := small_no hk'
    rw [hv, hrr, hk']
    have hc : En.okU zs b = false ∨ (En.okU zs b = true ∧ most < En.valU zs b) ∨ (En.okU zs b = true ∧ En.valU zs b ≤ most ∧ 2147483647 < En.valU zs b) := by
      unfold En.okM at hk'
      cases ho : En.okU zs b
      · left; rfl
      · right
        rw [ho] at hk'
        simp at hk'
        simp
        omega
    clear hk hk' hv hrr h
    obtain ⟨r1, r2⟩ := hr
    generalize En.valU zs b = v at *
    generalize En.restU zs b = ys at *
    generalize En.okU zs b = o at *
    rcases hc with rfl | ⟨rfl, c⟩ | ⟨rfl, c, c2⟩
    all_goals
      go_enter Tryd.func29, Tryd.ntmps29
      go_wp2_with fail
      refine U.out.mono ?_; rintro e w1 ⟨rfl, hp⟩
      have HP := Lib.hid hp
      have SP := Lib.hid (refFail_any g _ _ _ hp.1)
      obtain ⟨A, cap, h1, h2, h3, h4⟩ := hp.1
      clear hp
      obtain ⟨⟨c0, c1⟩, f0, f1⟩ := obj2P h1
      clear h1 h4
      go_wp2_with fail
      refine SP.out.mono ?_; rintro e w' ⟨rfl, hp2⟩
      go_wp2
      go_ret
      exact ⟨rfl, HP.out.trans hp2⟩
end Go.Proofs.YtighnooklcmjaaaDoor
/-
  Structs of one-cell fields that came in, alone or in a slice: each field's cell and its reading.
-/
namespace Go.Proofs.YtighnooklcmjaaaDoor
open Go.ChangeShapes Go.WideShapes Go.ChangeAt Go.RowKit Go.Deep
theorem list_of {α : Type} (d : α) (R : Nat → α → Prop) : ∀ n : Nat, (∀ i, i < n → ∃ x, R i x) → ∃ xs : List α, xs.length = n ∧ ∀ i, i < n → R i (xs.getD i d)
  | 0, _ => ⟨[], rfl, fun i hi => by omega⟩
  | n + 1, h => by
    obtain ⟨xs, hl, hx⟩ := list_of d R n fun i hi => h i (by omega)
    obtain ⟨x, hn⟩ := h n (by omega)
    refine ⟨xs ++ [x], by simp [hl], fun i hi => ?_⟩
    rw [List.getD_eq_getElem?_getD]
    by_cases hi2 : i < n
    · rw [List.getElem?_append_left (by omega), ← List.getD_eq_getElem?_getD]; exact hx i hi2
    · have : i = n := by omega
      subst this
      rw [List.getElem?_append_right (by omega), hl]
      simpa using hn
theorem structs_in {H : Type} {enc : TypeId × Value → H} {P : Program} {w : World} {base : Nat} {spare : Nat → Bool} {held : Bool} {t e : TypeId} {fs : Array Field} {fuel : Nat} {cs : List Value} {x : DataW H × List MemPlace}
    (ht : P.underlying t = some (.slice e)) (he : P.underlying e = some (.struct fs)) (h1 : 0 < fs.size) (hC : P.cellsOf e = fs.size) (hone : ∀ (j : Nat) (f : Field), fs[j]? = some f → f.offset = j ∧ P.cellsOf f.type = 1)
    (h : DataW.trod enc P w base spare held fuel t cs = some x) :
    ∃ (A : Option Addr) (len cap : Nat), cs = [.slice A len cap] ∧ len ≤ cap ∧ cap ≤ 9223372036854775807 ∧
      (0 < len → ∃ b off, A = some ⟨b, off, none⟩ ∧ ∀ i, i < len → ∀ (j : Nat) (f : Field), fs[j]? = some f → ∃ v y n, w.cell? ⟨b, off + (i * fs.size + j), none⟩ = some v ∧ DataW.trod enc P w base spare held n f.type [v] = some y) := by
  rcases open_slice ht h with ⟨h0, _⟩ | ⟨a, len, cap, m, n, D, Pl, hcs, hb, hl, hm, hmm, _, hi⟩
  · exact ⟨none, 0, 0, h0, Nat.le_refl _, by decide, fun h => by omega⟩
  · have hlm : len ≤ m := by rw [hmm]; split <;> omega
    unfold maxLen at hm
    have key : ∀ i, i < len → ∀ (j : Nat) (f : Field), fs[j]? = some f → ∃ v y n, w.cell? (a.add (i * fs.size + j)) = some v ∧ DataW.trod enc P w base spare held n f.type [v] = some y := fun i hil j f hj => by
      obtain ⟨cs', h1, h2⟩ := hi i (by omega)
      obtain ⟨_, hlen, hat⟩ := World.cells?_some h1
      obtain ⟨ys, k, _, _, _, hyl, hf⟩ := DataW.trod_struct he h2
      obtain ⟨o1, o2⟩ := hone j f hj
      have hjl : j < fs.size := (Array.getElem?_eq_some_iff.1 hj).1
      have h3 := hf j f hj
      have hjc : j < cs'.length := by omega
      rw [o1, o2, List.drop_eq_getElem_cons hjc, List.getElem?_eq_getElem (by omega : j < ys.length)] at h3
      refine ⟨cs'[j], _, k, ?_, h3⟩
      have h4 := hat j (by omega)
      rw [hC, Go.Deep.add_add, List.getElem?_eq_getElem hjc] at h4
      exact h4
    refine ⟨some a, len, cap, hcs, hl, hm, fun h0 => ?_⟩
    obtain ⟨b, off, spot⟩ := a
    obtain ⟨f, hf⟩ : ∃ f, fs[0]? = some f := ⟨fs[0]'h1, Array.getElem?_eq_getElem h1⟩
    obtain ⟨v, _, _, hv, _⟩ := key 0 h0 0 f hf
    have hs : spot = none := by simpa [Addr.add] using World.cell?_spot hv
    subst hs
    refine ⟨b, off, rfl, fun i hil j f hj => ?_⟩
    obtain ⟨v, y, k, h1, h2⟩ := key i hil j f hj
    rw [add_off] at h1
    exact ⟨v, y, k, h1, h2⟩
theorem i64_of {H : Type} {enc : TypeId × Value → H} {P : Program} {w : World} {base : Nat} {spare : Nat → Bool} {held : Bool} {t : TypeId} {n : Nat} {v : Value} {y : DataW H × List MemPlace} (ht : P.underlying t = some (.int .i64)) (h : DataW.trod enc P w base spare held n t [v] = some y) :
    ∃ k, v = .int .i64 k ∧ -9223372036854775808 ≤ k ∧ k ≤ 9223372036854775807 := by
  obtain ⟨k, e, _, hw⟩ := DataW.trod_int ht h
  have hw' : -9223372036854775808 ≤ k ∧ k ≤ 9223372036854775807 := by simpa [Lit.wf, IntKind.min, IntKind.max, IntKind.bits, IntKind.signed] using hw
  exact ⟨k, by simpa using e, hw'⟩
theorem str_of {H : Type} {enc : TypeId × Value → H} {P : Program} {w : World} {base : Nat} {spare : Nat → Bool} {held : Bool} {t : TypeId} {n : Nat} {v : Value} {y : DataW H × List MemPlace} (ht : P.underlying t = some .string) (h : DataW.trod enc P w base spare held n t [v] = some y) :
    ∃ s : ByteArray, v = .string s ∧ s.size ≤ 9223372036854775807 := by
  obtain ⟨s, e, _, hw⟩ := DataW.trod_string ht h
  unfold maxLen at hw
  exact ⟨s, by simpa using e, hw⟩
theorem bool_of {H : Type} {enc : TypeId × Value → H} {P : Program} {w : World} {base : Nat} {spare : Nat → Bool} {held : Bool} {t : TypeId} {n : Nat} {v : Value} {y : DataW H × List MemPlace} (ht : P.underlying t = some .bool) (h : DataW.trod enc P w base spare held n t [v] = some y) :
    ∃ b : Bool, v = .bool b := by
  obtain ⟨b, e, _⟩ := DataW.trod_bool ht h
  exact ⟨b, by simpa using e⟩
end Go.Proofs.YtighnooklcmjaaaDoor
/-
  A slice of structs that came in, whatever their fields: each element's cells and their reading; a struct's fields out of its cells.
-/
namespace Go.Proofs.YtighnooklcmjaaaDoor
open Go.ChangeShapes Go.WideShapes Go.ChangeAt Go.RowKit Go.Deep
theorem rows_in {H : Type} {enc : TypeId × Value → H} {P : Program} {w : World} {base : Nat} {spare : Nat → Bool} {held : Bool} {t e : TypeId} {fs : Array Field} {k fuel : Nat} {cs : List Value} {x : DataW H × List MemPlace}
    (ht : P.underlying t = some (.slice e)) (he : P.underlying e = some (.struct fs)) (hC : P.cellsOf e = k) (hk : 0 < k) (h : DataW.trod enc P w base spare held fuel t cs = some x) :
    ∃ (A : Option Addr) (len cap : Nat), cs = [.slice A len cap] ∧ len ≤ cap ∧ cap ≤ 9223372036854775807 ∧
      (0 < len → ∃ b off, A = some ⟨b, off, none⟩ ∧ ∀ i, i < len → ∃ (zs : List Value) (n : Nat) (y : DataW H × List MemPlace), zs.length = k ∧ DataW.trod enc P w base spare held n e zs = some y ∧ ∀ (j : Nat) (hj : j < zs.length), w.cell? ⟨b, off + i * k + j, none⟩ = some zs[j]) := by
  rcases open_slice ht h with ⟨h0, _⟩ | ⟨a, len, cap, m, n, D, Pl, hcs, hb, hl, hm, hmm, _, hi⟩
  · exact ⟨none, 0, 0, h0, Nat.le_refl _, by decide, fun h => by omega⟩
  · have hlm : len ≤ m := by rw [hmm]; split <;> omega
    unfold maxLen at hm
    have key : ∀ i, i < len → ∃ (zs : List Value) (n : Nat) (y : DataW H × List MemPlace), zs.length = k ∧ DataW.trod enc P w base spare held n e zs = some y ∧ ∀ (j : Nat) (hj : j < zs.length), w.cell? (a.add (i * k + j)) = some zs[j] := fun i hil => by
      obtain ⟨zs, h1, h2⟩ := hi i (by omega)
      obtain ⟨_, hlen, hat⟩ := World.cells?_some h1
      obtain ⟨_, _, _, _, hzl, _, _⟩ := DataW.trod_struct he h2
      refine ⟨zs, _, _, by rw [hzl, hC], h2, fun j hj => ?_⟩
      have h4 := hat j (by omega)
      rw [hC, Go.Deep.add_add, List.getElem?_eq_getElem hj] at h4
      exact h4
    refine ⟨some a, len, cap, hcs, hl, hm, fun h0 => ?_⟩
    obtain ⟨b, off, spot⟩ := a
    obtain ⟨zs, _, _, hz, _, hv⟩ := key 0 h0
    have hs : spot = none := by simpa [Addr.add] using World.cell?_spot (hv 0 (by omega))
    subst hs
    refine ⟨b, off, rfl, fun i hil => ?_⟩
    obtain ⟨zs, n, y, h1, h2, h3⟩ := key i hil
    refine ⟨zs, n, y, h1, h2, fun j hj => ?_⟩
    have h4 := h3 j hj
    rw [add_off, ← Nat.add_assoc] at h4
    exact h4
/-- A field's cells, read. -/
theorem field_in {H : Type} {enc : TypeId × Value → H} {P : Program} {w : World} {base : Nat} {spare : Nat → Bool} {held : Bool} {e : TypeId} {fs : Array Field} {n : Nat} {zs : List Value} {y : DataW H × List MemPlace}
    (he : P.underlying e = some (.struct fs)) (h : DataW.trod enc P w base spare held n e zs = some y) (j : Nat) (f : Field) (hj : fs[j]? = some f) {o c : Nat} (ho : f.offset = o) (hc : P.cellsOf f.type = c) :
    ∃ m y', DataW.trod enc P w base spare held m f.type ((zs.drop o).take c) = some y' := by
  obtain ⟨ys, m, _, _, _, hyl, hf⟩ := DataW.trod_struct he h
  have h3 := hf j f hj
  have hjl : j < fs.size := (Array.getElem?_eq_some_iff.1 hj).1
  rw [ho, hc, List.getElem?_eq_getElem (by omega : j < ys.length)] at h3
  exact ⟨m, _, h3⟩
end Go.Proofs.YtighnooklcmjaaaDoor
/-
  A slice of bytes that came in, as the walks take it: what it holds, from its reading.
-/
namespace Go.Proofs.YtighnooklcmjaaaDoor
open Go.ChangeShapes Go.WideShapes Go.ChangeAt Go.RowKit
theorem bytes_of_ints {W : World} {x : Addr} {len : Nat} {zs : List Int} (hl : len ≤ zs.length) (hc : ∀ i, i < zs.length → W.cell? (x.add i) = some (.int .u8 (zs.getD i 0))) (hw : ∀ n ∈ zs, (Lit.int .u8 n).wf = true) :
    Bytes W W.heap.size (some x) (zs.take len) := by
  have hlen : (zs.take len).length = len := by simp; omega
  have hg : ∀ i, i < len → (zs.take len).getD i 0 = zs.getD i 0 := fun i hi => by
    rw [List.getD_eq_getElem?_getD, List.getD_eq_getElem?_getD, List.getElem?_take_of_lt hi]
  refine ⟨fun i hi => ?_, fun hn => ?_⟩
  · rw [hlen] at hi
    rw [hg i hi, List.getD_eq_getElem?_getD, List.getElem?_eq_getElem (by omega)]
    have h := hw _ (List.getElem_mem (show i < zs.length by omega))
    simpa [Lit.wf, IntKind.min, IntKind.max, IntKind.bits, IntKind.signed] using h
  · rw [hlen] at hn
    obtain ⟨b, off, spot⟩ := x
    have h0 := hc 0 (by omega)
    have hspot : spot = none := by simpa [Addr.add] using World.cell?_spot h0
    subst hspot
    have hadd : ∀ i, Addr.add ⟨b, off, none⟩ i = ⟨b, off + i, none⟩ := fun i => by
      unfold Addr.add
      split
      · next h => subst h; rfl
      · rfl
    refine ⟨b, off, rfl, ?_, fun i hi => ?_⟩
    · rw [hadd] at h0
      exact block_lt h0
    · rw [hlen] at hi
      rw [hg i hi, ← hadd]
      exact hc i (by omega)
end Go.Proofs.YtighnooklcmjaaaDoor
