/-
  Part 18 of the texts behind the law: WalCopy, WalGet, WalSince, WalRun.
-/
import Derived.Test.YtdbhicifjljjnaaGreatDoorMf17
import Derived.Test.YtdbhicifjljjnaaGreatDoorMf5
import Derived.Deep.CutRange
import Derived.Deep.CutBlock
import Derived.Test.YtdbhicifjljjnaaGreatDoorMf16
/-
  One record copied.
-/
namespace Go.Proofs.YtdbhicifjljjnaaGreatDoor
open Go.RowKit

theorem clone_nil (w : World) : Calls Tryz.prog 42 #[.slice none 0 0] w fun e w' => e = .returned (.slice none 0 0) ∧ w = w' := by
  have hnil : (binOp .eql 31 (.slice none 0 0) (.slice none 0 0)).run Tryz.prog w = .ok (.bool true) w := Lib.run_eql_slice_nil w 31 5 _ _ _ _ _ Tryz.underlying31
  go_enter Tryz.func42, Tryz.ntmps42
  go_wp2
  go_ret
  exact ⟨rfl, rfl⟩
/-- What a copy of bytes leaves. -/
def CopyB (w : World) (p : List Int) (e : Ending) (w' : World) : Prop := ∃ A cap, e = .returned (.slice A p.length cap) ∧ Hid (OwnB w' w.heap.size A cap p) ∧ Hid (Below w.heap.size w w')
/-- Bytes that are nil, or lie at an address. -/
def AtB (A : Option Addr) (n cap : Nat) : Prop := A = none → n = 0 ∧ cap = 0
set_option maxHeartbeats 400000 in
theorem clone_at (a : Addr) (p : List Int) (cap : Nat) (hl : p.length ≤ 1000000000) (w : World) (hp : Bytes w w.heap.size (some a) p) :
    Calls Tryz.prog 42 #[.slice (some a) p.length cap] w (AppPost w w.heap.size p) := by
  have H := Lib.hid hp
  have HL := Lib.hid hl
  have hnil : (binOp .eql 31 (.slice (some a) p.length cap) (.slice none 0 0)).run Tryz.prog w = .ok (.bool false) w := Lib.run_eql_slice_nil w 31 5 _ _ _ _ _ Tryz.underlying31
  clear hp hl
  go_enter Tryz.func42, Tryz.ntmps42
  go_wp2_with (at_builtin; refine wp_app rfl (.tmp 5) (.tmp 6) rfl rfl rfl (OwnB.start w w.heap.size (Nat.le_refl _)) (by simp) rfl rfl (H.out.below ((Below.refl _ _).alloc (Nat.le_refl _) _)) (by have := HL.out; simp; omega) ?_; intro A2 cap2 w2 o2 d2; rw [List.nil_append] at o2; have O2 := Lib.hid o2; have D2 := Lib.hid d2; clear o2 d2)
  go_ret
  exact AppPost.mk_ (by simp) O2.out (((Grew.refl _ _).alloc (Nat.le_refl _) _).trans D2.out)
theorem clone_all (A : Option Addr) (p : List Int) (cap : Nat) (hl : p.length ≤ 1000000000) (hA : AtB A p.length cap) (w : World) (hp : Bytes w w.heap.size A p) : Calls Tryz.prog 42 #[.slice A p.length cap] w (CopyB w p) := by
  rcases A with _ | a
  · obtain ⟨h1, h2⟩ := hA rfl
    have hp0 : p = [] := List.eq_nil_of_length_eq_zero h1
    subst hp0
    subst h2
    refine (clone_nil w).mono ?_
    rintro e w' ⟨rfl, rfl⟩
    exact ⟨none, 0, rfl, Lib.hid (OwnB.none_ _ _), Lib.hid (Below.refl _ _)⟩
  · refine (clone_at a p cap hl w hp).mono ?_
    rintro e w' ⟨zs, A2, c2, hz, rfl, ho, hg⟩
    have hz' : zs = p := hz.out
    subst hz'
    exact ⟨A2, c2, rfl, Lib.hid ho, Lib.hid hg.below⟩
def CopyPost (w : World) (at_ : Int) (p : List Int) (e : Ending) (w' : World) : Prop := ∃ A cap, e = .returned (.agg #[.int .u64 at_, .slice A p.length cap]) ∧ Hid (OwnB w' w.heap.size A cap p) ∧ Hid (Below w.heap.size w w')
set_option maxRecDepth 20000 in
set_option maxHeartbeats 4000000 in
theorem copied_any (at_ : Int) (A : Option Addr) (p : List Int) (cap : Nat) (hl : p.length ≤ 1000000000) (hA : AtB A p.length cap) (w : World) (hp : Bytes w w.heap.size A p) :
    Calls Tryz.prog 28 #[.agg #[.int .u64 at_, .slice A p.length cap]] w (CopyPost w at_ p) := by
  have HP := Lib.hid hp
  have HL := Lib.hid hl
  have HA := Lib.hid hA
  clear hp hl hA
  obtain ⟨n, hn⟩ : ∃ n, n = p.length := ⟨_, rfl⟩
  rw [← hn] at HA ⊢
  have HN := Lib.hid hn
  clear hn
  go_enter Tryz.func28, Tryz.ntmps28
  obtain ⟨wb, hwb⟩ : ∃ wb, wb = (w.alloc (.cells #[.int .u64 at_, .slice A n cap] 40)).alloc (.cells #[.int .u64 0, .slice none 0 0] 40) := ⟨_, rfl⟩
  have BW : Hid (Below w.heap.size w wb) := Lib.hid (by rw [hwb]; exact (((Below.refl _ _).alloc (Nat.le_refl _) _).alloc (by simp) _))
  have O1 : Hid (wb.heap[w.heap.size]? = some (.cells #[.int .u64 at_, .slice A n cap] 40 (0, 0))) := Lib.hid (by rw [hwb, Below.heap_alloc _ _ _ (by simp)]; exact heap_alloc_new w _)
  have O2 : Hid (wb.heap[w.heap.size + 1]? = some (.cells #[.int .u64 0, .slice none 0 0] 40 (0, 0))) := Lib.hid (by
    have := heap_alloc_new (w.alloc (.cells #[.int .u64 at_, .slice A n cap] 40)) (.cells #[.int .u64 0, .slice none 0 0] 40)
    rw [show (w.alloc (.cells #[.int .u64 at_, .slice A n cap] 40)).heap.size = w.heap.size + 1 by simp] at this
    rw [hwb]; exact this)
  have SZ : Hid (wb.heap.size = w.heap.size + 2) := Lib.hid (by rw [hwb]; simp)
  go_upto_region 1 with fail
  rw [← hwb]
  clear hwb
  obtain ⟨X, hX⟩ : ∃ X, X = w.heap.size := ⟨_, rfl⟩
  rw [← hX] at O1 O2 SZ
  rw [← hX]
  have HX := Lib.hid hX
  clear hX
  have CL : Hid (Calls Tryz.prog 42 #[.slice A n cap] wb.drew (CopyB wb.drew p)) := Lib.hid (by rw [HN.out]; exact clone_all A p cap HL.out (by rw [← HN.out]; exact HA.out) wb.drew ((HP.out.below (BW.out.drew)).more (by have := SZ.out; have := HX.out; simp; omega)))
  have SB : Hid (wb.drew.cell? ⟨X, 0, none⟩ = some (.int .u64 at_) ∧ wb.drew.cell? ⟨X, 1, none⟩ = some (.slice A n cap)) := Lib.hid (obj2P (w := wb.drew) O1.out)
  go_region_held3 (fun w' => w'.cell? ⟨X, 0, none⟩ = some (.int .u64 at_) ∧ w'.cell? ⟨X, 1, none⟩ = some (.slice A n cap)) ((first | exact SB.out | exact S3.out | exact q3.out _ _ | go_keep))
    ((go_simp; go_at_call 42; (with_reducible refine CL.out.mono ?_); rintro e w3 ⟨A3, c3, rfl, o3, b3⟩; have N1 : Hid (w3.heap[X]? = _) := Lib.hid ((b3.out.block X (by have := SZ.out; simp; omega)).trans O1.out); have N2 : Hid (w3.heap[X + 1]? = _) := Lib.hid ((b3.out.block (X + 1) (by have := SZ.out; simp; omega)).trans O2.out); have S3 := Lib.hid (obj2P N1.out); obtain ⟨y0, y1⟩ := obj2P N2.out; obtain ⟨z0, z1⟩ := obj2f N2.out))
  have O3 : Hid ((w3.setCell ⟨X + 1, 0, none⟩ (.int .u64 at_)).heap[X + 1]? = some (.cells #[.int .u64 at_, .slice none 0 0] 40 (0, 0))) := Lib.hid (heap_setCell_same w3 (X + 1) 0 _ _ _ N2.out)
  have O4 : Hid (((w3.setCell ⟨X + 1, 0, none⟩ (.int .u64 at_)).setCell ⟨X + 1, 1, none⟩ (.slice A3 p.length c3)).heap[X + 1]? = some (.cells #[.int .u64 at_, .slice A3 p.length c3] 40 (0, 0))) := Lib.hid (heap_setCell_same _ (X + 1) 1 _ _ _ O3.out)
  have OW : Hid (OwnB ((w3.setCell ⟨X + 1, 0, none⟩ (.int .u64 at_)).setCell ⟨X + 1, 1, none⟩ (.slice A3 p.length c3)) w.heap.size A3 c3 p) := Lib.hid ((((o3.out.low (b := w.heap.size) (by have := SZ.out; have := HX.out; simp; omega)).set N2.out (by decide) 0 (.int .u64 at_)).set O3.out (by decide) 1 _))
  have BL : Hid (Below w.heap.size w ((w3.setCell ⟨X + 1, 0, none⟩ (.int .u64 at_)).setCell ⟨X + 1, 1, none⟩ (.slice A3 p.length c3))) := Lib.hid ((((BW.out.drew).trans (b3.out.mono (by have := SZ.out; have := HX.out; simp; omega))).setCell (p := ⟨X + 1, 0, none⟩) (by have := HX.out; show _ ≤ X + 1; omega) _).setCell (p := ⟨X + 1, 1, none⟩) (by have := HX.out; show _ ≤ X + 1; omega) _)
  obtain ⟨r0, r1⟩ := obj2P O3.out
  obtain ⟨q0, q1⟩ := obj2P O4.out
  go_wp2
  exact bodyPost_ret (v := .agg #[.int .u64 at_, .slice A3 p.length c3]) (by simp [results, Tryz.results28, go_sem, r1, q0, q1]) rfl ⟨A3, c3, rfl, OW, BL⟩
end Go.Proofs.YtdbhicifjljjnaaGreatDoor
/-
  One record asked for.
-/
namespace Go.Proofs.YtdbhicifjljjnaaGreatDoor
open Go.RowKit

theorem OwnB.atB {w : World} {base : Nat} {A : Option Addr} {cap : Nat} {zs : List Int} (h : OwnB w base A cap zs) : AtB A zs.length cap := by
  intro e
  subst e
  rcases h.1.2 with ⟨e1, _⟩ | ⟨g, c', cur, e1, _⟩
  · injection e1 with _ e2 e3
    exact ⟨e2, e3⟩
  · cases e1
def LGetPost (w : World) (r : Fr.Rc) (er : Int) (e : Ending) (w' : World) : Prop := ∃ A cap, e = .returned (.tuple #[.agg #[.int .u64 r.1, .slice A r.2.length cap], .int .i64 er]) ∧ Hid (OwnB w' w.heap.size A cap r.2) ∧ Hid (Below w.heap.size w w')
section
variable {w : World} {Lb T : Nat} {O : Nat → Prop} {l : Wl.L} {sa : Option Addr} {sc : Nat} {ra : Option Addr} {rc : Nat} (h : LM w Lb T O l sa sc ra rc)
include h
set_option maxRecDepth 20000 in
set_option maxHeartbeats 4000000 in
theorem lget_any (off : Int) (o0 : -9223372036854775808 ≤ off) (o1 : off ≤ 9223372036854775807) :
    Calls Tryz.prog 20 #[.pointer (some ⟨Lb, 0, none⟩), .int .i64 off] w (LGetPost w (Wl.getR l off) (Wl.getE l off)) := by
  have hfe := h.inv.first_
  have hee := h.inv.end_
  have B1 : Hid (Below w.heap.size w (w.alloc (.cells #[.int .u64 0, .slice none 0 0] 40))) := Lib.hid ((Below.refl _ _).alloc (Nat.le_refl _) _)
  have H1 := Lib.hid (h.grow B1.out)
  have FA := Lib.hid (first_any H1.out)
  have EA := Lib.hid (end_any H1.out)
  have FQ : Hid (∀ W, LM W Lb T O l sa sc ra rc → Calls Tryz.prog 17 #[.pointer (some ⟨Lb, 0, none⟩)] W fun e w' => e = .returned (.int .i64 (Wl.firstV l)) ∧ W = w') := Lib.hid (fun W h => first_any h)
  by_cases h1 : off < Wl.firstV l
  · have E : Hid (Wl.getE l off = 13) := Lib.hid (by unfold Wl.getE; rw [if_pos h1])
    have R : Hid (Wl.getR l off = (0, [])) := Lib.hid (by unfold Wl.getR; rw [E.out, if_neg (by decide)])
    rw [E.out, R.out]
    clear h hee E R EA
    generalize Wl.firstV l = fv at *
    go_enter Tryz.func20, Tryz.ntmps20
    go_wp2_with fail
    refine FA.out.mono ?_; rintro e w' ⟨rfl, rfl⟩
    go_wp2
    obtain ⟨q0, q1⟩ := obj2P (heap_alloc_new w (.cells #[.int .u64 0, .slice none 0 0] 40))
    exact bodyPost_ret (v := .tuple #[.agg #[.int .u64 0, .slice none 0 0], .int .i64 13]) (by simp [results, Tryz.results20, go_sem, q0, q1]) rfl ⟨none, 0, rfl, Lib.hid (OwnB.none_ _ _), B1⟩
  · by_cases h2 : Wl.endV l ≤ off
    · have E : Hid (Wl.getE l off = 4) := Lib.hid (by unfold Wl.getE; rw [if_neg h1, if_pos h2])
      have R : Hid (Wl.getR l off = (0, [])) := Lib.hid (by unfold Wl.getR; rw [E.out, if_neg (by decide)])
      rw [E.out, R.out]
      clear h hfe E R
      generalize Wl.firstV l = fv at *
      generalize Wl.endV l = ev at *
      go_enter Tryz.func20, Tryz.ntmps20
      go_wp2_with fail
      refine FA.out.mono ?_; rintro e w' ⟨rfl, rfl⟩
      go_wp2_with fail
      refine EA.out.mono ?_; rintro e w' ⟨rfl, j, rfl⟩
      have O2 : Hid (((w.alloc (.cells #[.int .u64 0, .slice none 0 0] 40)).drewN j).heap[w.heap.size]? = some (.cells #[.int .u64 0, .slice none 0 0] 40 (0, 0))) := Lib.hid (heap_alloc_new w _)
      have O3 := Lib.hid (heap_setCell_same _ w.heap.size 0 _ _ (.int .u64 0) O2.out)
      have O4 := Lib.hid (heap_setCell_same _ w.heap.size 1 _ _ (.slice none 0 0) O3.out)
      have B4 : Hid (Below w.heap.size w ((((w.alloc (.cells #[.int .u64 0, .slice none 0 0] 40)).drewN j).setCell ⟨w.heap.size, 0, none⟩ (.int .u64 0)).setCell ⟨w.heap.size, 1, none⟩ (.slice none 0 0))) := Lib.hid (((below_n B1.out j).setCell (p := ⟨w.heap.size, 0, none⟩) (Nat.le_refl _) _).setCell (p := ⟨w.heap.size, 1, none⟩) (Nat.le_refl _) _)
      obtain ⟨q0, q1⟩ := obj2P O4.out
      go_wp2
      exact bodyPost_ret (v := .tuple #[.agg #[.int .u64 0, .slice none 0 0], .int .i64 4]) (by simp [results, Tryz.results20, go_sem, q0, q1]) rfl ⟨none, 0, rfl, Lib.hid (OwnB.none_ _ _), B4⟩
    · have E : Hid (Wl.getE l off = 0) := Lib.hid (by unfold Wl.getE; rw [if_neg h1, if_neg h2])
      obtain ⟨i, hi⟩ : ∃ i : Nat, off - Wl.firstV l = (i : Int) := ⟨(off - Wl.firstV l).toNat, by omega⟩
      have hil : i < l.recs.length := by unfold Wl.endV at h2; omega
      have R : Hid (Wl.getR l off = l.recs.getD i (0, [])) := Lib.hid (by unfold Wl.getR; rw [E.out, if_pos rfl, hi]; rfl)
      rw [E.out, R.out]
      have hrl := h.inv.pay (l.recs.getD i (0, [])) (by rw [List.getD_eq_getElem?_getD, List.getElem?_eq_getElem hil]; exact List.getElem_mem _)
      have H := Lib.hid h
      have HIL := Lib.hid hil
      have hb2 : (i : Int) < (l.recs.length : Int) := by omega
      have hb0 : 0 ≤ (i : Int) := by omega
      have hcnt : (l.recs.length : Int) ≤ 16777216 := by have := H.out.inv.count; omega
      have hw : IntKind.i64.wrap (off - Wl.firstV l) = (i : Int) := by rw [hi]; exact IntWalk.i64_in _ (by omega)
      clear E R h hil
      generalize hr : l.recs.getD i (0, []) = r at *
      have HR := Lib.hid hr
      have HRL := Lib.hid hrl
      clear hr hrl
      generalize Wl.firstV l = fv at *
      generalize Wl.endV l = ev at *
      go_enter Tryz.func20, Tryz.ntmps20
      go_wp2_with fail
      refine FA.out.mono ?_; rintro e w' ⟨rfl, rfl⟩
      go_wp2_with fail
      refine EA.out.mono ?_; rintro e w' ⟨rfl, j, rfl⟩
      have B2 := Lib.hid (below_n B1.out j)
      have O2 : Hid (((w.alloc (.cells #[.int .u64 0, .slice none 0 0] 40)).drewN j).heap[w.heap.size]? = some (.cells #[.int .u64 0, .slice none 0 0] 40 (0, 0))) := Lib.hid (heap_alloc_new w _)
      have H2 := Lib.hid (H.out.grow B2.out)
      go_upto_region 5 with fail
      generalize (w.alloc (.cells #[.int .u64 0, .slice none 0 0] 40)).drewN j = wq at *
      clear FA EA H1 B1
      obtain ⟨g, A, cap, hg, d0, d1, ob⟩ := H2.out.rec_ HIL.out
      rw [HR.out] at d0 d1 ob
      obtain ⟨⟨_, _, _, c3, _⟩, _⟩ := obj5 H2.out.obj
      have OB := Lib.hid ob
      clear ob
      subst hg
      obtain ⟨rn, hrn⟩ : ∃ rn, rn = r.2.length := ⟨_, rfl⟩
      rw [← hrn] at d1
      have RN := Lib.hid hrn
      clear hrn
      obtain ⟨rt, hrt⟩ : ∃ rt, rt = r.1 := ⟨_, rfl⟩
      rw [← hrt] at d0
      have RT := Lib.hid hrt
      clear hrt
      obtain ⟨X, hX⟩ : ∃ X, X = w.heap.size := ⟨_, rfl⟩
      rw [← hX] at O2
      rw [← hX]
      have HX := Lib.hid hX
      clear hX
      have XLT : Hid (X < wq.heap.size) := Lib.hid (Array.getElem?_eq_some_iff.1 O2.out).1
      obtain ⟨n, hn⟩ : ∃ n, n = l.recs.length := ⟨_, rfl⟩
      rw [← hn] at c3 hb2 hcnt
      clear hn h1 h2 hfe hee o0 o1
      clear hi
      have FAq := Lib.hid (FQ.out wq.drew (H2.out.grow (Below.refl _ _).drew))
      have CPq : Hid (Calls Tryz.prog 28 #[.agg #[.int .u64 rt, .slice A rn cap]] wq.drew (CopyPost wq.drew rt r.2)) := Lib.hid (by
        rw [RN.out]; exact copied_any rt A r.2 cap (by have := HRL.out; omega) OB.out.atB wq.drew (OB.out.bytes))
      have XL : Hid (X ≠ Lb) := Lib.hid (by have := H.out.lt Lb H.out.ownL; have := HX.out; omega)
      have XG : Hid (X ≠ g) := Lib.hid (by
        obtain ⟨_, _, _, hro, _⟩ := H.out.recs
        have := H.out.lt g (hro ⟨g, 0, none⟩ rfl); have := HX.out; omega)
      have LLT : Hid (Lb < wq.heap.size ∧ g < wq.heap.size) := Lib.hid (by
        obtain ⟨_, _, _, hro, _⟩ := H2.out.recs
        exact ⟨H2.out.lt Lb H2.out.ownL, H2.out.lt g (hro ⟨g, 0, none⟩ rfl)⟩)
      have S2 : Hid (wq.drew.cell? ⟨Lb, 3, none⟩ = some (.slice (some ⟨g, 0, none⟩) n rc) ∧ wq.drew.cell? ⟨g, i * 2, none⟩ = some (.int .u64 rt) ∧ wq.drew.cell? ⟨g, i * 2 + 1, none⟩ = some (.slice A rn cap)) := Lib.hid ⟨c3, d0, d1⟩
      go_region_held3 (fun w' => w'.cell? ⟨Lb, 3, none⟩ = some (.slice (some ⟨g, 0, none⟩) n rc) ∧ w'.cell? ⟨g, i * 2, none⟩ = some (.int .u64 rt) ∧ w'.cell? ⟨g, i * 2 + 1, none⟩ = some (.slice A rn cap)) ((first | exact S2.out | exact S3.out | exact q7.out _ _ | go_keep))
        (first
          | (go_simp; go_at_call 17; (with_reducible refine FAq.out.mono ?_); rintro e w3 ⟨rfl, rfl⟩)
          | (go_simp; go_at_call 28; (with_reducible refine CPq.out.mono ?_); rintro e w3 ⟨A3, c3', rfl, o3, b3⟩; have S3 : Hid (w3.cell? ⟨Lb, 3, none⟩ = some (.slice (some ⟨g, 0, none⟩) n rc) ∧ w3.cell? ⟨g, i * 2, none⟩ = some (.int .u64 rt) ∧ w3.cell? ⟨g, i * 2 + 1, none⟩ = some (.slice A rn cap)) := Lib.hid ⟨(b3.out.cell (p := ⟨Lb, 3, none⟩) LLT.out.1).trans S2.out.1, (b3.out.cell (p := ⟨g, i * 2, none⟩) LLT.out.2).trans S2.out.2.1, (b3.out.cell (p := ⟨g, i * 2 + 1, none⟩) LLT.out.2).trans S2.out.2.2⟩; have N2 : Hid (w3.heap[X]? = _) := Lib.hid ((b3.out.block X XLT.out).trans O2.out); obtain ⟨y0, y1⟩ := obj2P N2.out; obtain ⟨z0, z1⟩ := obj2f N2.out; have q7 : Hid (∀ a b, ((w3.setCell ⟨X, 0, none⟩ a).setCell ⟨X, 1, none⟩ b).cell? ⟨Lb, 3, none⟩ = some (.slice (some ⟨g, 0, none⟩) n rc) ∧ ((w3.setCell ⟨X, 0, none⟩ a).setCell ⟨X, 1, none⟩ b).cell? ⟨g, i * 2, none⟩ = some (.int .u64 rt) ∧ ((w3.setCell ⟨X, 0, none⟩ a).setCell ⟨X, 1, none⟩ b).cell? ⟨g, i * 2 + 1, none⟩ = some (.slice A rn cap)) := Lib.hid (fun a b => ⟨(World.cell?_of_block ((Below.heap_setCell _ _ _ _ XL.out.symm).trans (Below.heap_setCell _ _ _ _ XL.out.symm))).trans S3.out.1, (World.cell?_of_block ((Below.heap_setCell _ _ _ _ XG.out.symm).trans (Below.heap_setCell _ _ _ _ XG.out.symm))).trans S3.out.2.1, (World.cell?_of_block ((Below.heap_setCell _ _ _ _ XG.out.symm).trans (Below.heap_setCell _ _ _ _ XG.out.symm))).trans S3.out.2.2⟩)))
      all_goals
        have O3 : Hid ((w3.setCell ⟨X, 0, none⟩ (.int .u64 rt)).heap[X]? = some (.cells #[.int .u64 rt, .slice none 0 0] 40 (0, 0))) := Lib.hid (heap_setCell_same w3 X 0 _ _ _ N2.out)
        have O4 : Hid (((w3.setCell ⟨X, 0, none⟩ (.int .u64 rt)).setCell ⟨X, 1, none⟩ (.slice A3 r.2.length c3')).heap[X]? = some (.cells #[.int .u64 rt, .slice A3 r.2.length c3'] 40 (0, 0))) := Lib.hid (heap_setCell_same _ X 1 _ _ _ O3.out)
        have OW : Hid (OwnB ((w3.setCell ⟨X, 0, none⟩ (.int .u64 rt)).setCell ⟨X, 1, none⟩ (.slice A3 r.2.length c3')) w.heap.size A3 c3' r.2) := Lib.hid (((o3.out.low (b := w.heap.size) (by have := XLT.out; have := HX.out; simp; omega)).set N2.out (by decide) 0 (.int .u64 rt)).set O3.out (by decide) 1 _)
        have BL : Hid (Below w.heap.size w ((w3.setCell ⟨X, 0, none⟩ (.int .u64 rt)).setCell ⟨X, 1, none⟩ (.slice A3 r.2.length c3'))) := Lib.hid ((((B2.out.drew).trans (b3.out.mono (by have := XLT.out; have := HX.out; simp; omega))).setCell (p := ⟨X, 0, none⟩) (by have := HX.out; show _ ≤ X; omega) _).setCell (p := ⟨X, 1, none⟩) (by have := HX.out; show _ ≤ X; omega) _)
        obtain ⟨q0, q1⟩ := obj2P O4.out
        go_wp2
        exact bodyPost_ret (v := .tuple #[.agg #[.int .u64 rt, .slice A3 r.2.length c3'], .int .i64 0]) (by simp [results, Tryz.results20, go_sem, q0, q1]) rfl ⟨A3, c3', by rw [RT.out], OW, BL⟩
end
end Go.Proofs.YtdbhicifjljjnaaGreatDoor
/-
  The records from an offset on.
-/
namespace Go.Proofs.YtdbhicifjljjnaaGreatDoor
open Go.RowKit

namespace Wl
def sinceD (l : L) (off : Int) : Nat := (max off (firstV l) - firstV l).toNat
def sinceV (l : L) (off most : Int) : List Fr.Rc := (l.recs.drop (sinceD l off)).take most.toNat
end Wl
set_option maxRecDepth 20000 in
theorem step_appP2 {w : World} {ops : Array Oper} {o : Oper} {a : Act} {K : Act → World → Prop} {Q : Exit → Act → World → Prop} {E : Prop} (hgd : o.guard = none) (s t : Operand) {T ST : TypeId}
    (ho : o.op = .call { callee := .builtin .append, args := #[s, t], argTypes := #[ST, ST] })
    {base : Nat} {A : Option Addr} {n cap : Nat} {vs : List (Value × Value)} {z x y : Value} {by_ : Nat} (hST : Tryz.prog.underlying ST = some (.slice T))
    (hI : (Tryz.prog.info? T).map (fun i => (i.zero, i.size, i.bytes)) = some (some z, 2, by_)) (hz : z.cells.size = 2) (hby : by_ ≤ 64)
    (hs : a.eval s = .slice A n cap) (hn : n = vs.length) (h : OwnP w base T A cap vs) (hbase : base ≤ w.heap.size)
    {b2 c : Nat} (ht : a.eval t = .slice (some ⟨b2, 0, none⟩) 1 c) (hx : w.cell? ⟨b2, 0, none⟩ = some x) (hy : w.cell? ⟨b2, 1, none⟩ = some y) (hx1 : x.oneCell' = true) (hy1 : y.oneCell' = true)
    (hlen : vs.length ≤ 1000000000) {r : Nat} (hr : vs.length + 1 = r)
    (H : ∀ A' cap' w', OwnP w' base T A' cap' (vs ++ [(x, y)]) → w.grownBy w' (Value.slice A vs.length cap).ownBlock → K (a.put o.dst (.slice A' r cap')) w') :
    if Region.wanted o (yielded ops a.tmps) = true then Oper.wp Tryz.prog o a w K Q else E := by
  subst hn hr
  have hw : Region.wanted o (yielded ops a.tmps) = true := by simp [Region.wanted, hgd]
  rw [if_pos hw]
  obtain ⟨A', cap', w', hrun, h1, h2⟩ := run_appP2 hST hI hz hby h hbase hx hy hx1 hy1 c hlen o.type
  unfold Oper.wp
  simp [execOp, ho, resolve, invoke, builtin, hs, ht, hrun, Result.andThen]
  have hk := H A' cap' w' h1 h2
  exact hk
def SincePost (w : World) (ls : List Fr.Rc) (e : Ending) (w' : World) : Prop := ∃ A cap, e = .returned (.slice A ls.length cap) ∧ Hid (OwnR w' w.heap.size A cap ls) ∧ Hid (Below w.heap.size w w')
section
variable {w : World} {Lb T : Nat} {O : Nat → Prop} {l : Wl.L} {sa : Option Addr} {sc : Nat} {ra : Option Addr} {rc : Nat} (h : LM w Lb T O l sa sc ra rc)
include h
set_option maxRecDepth 20000 in
set_option maxHeartbeats 8000000 in
theorem lsince_any (off most : Int) (_ : -9223372036854775808 ≤ off) (_ : off ≤ 9223372036854775807) (m0 : -9223372036854775808 ≤ most) (m1 : most ≤ 9223372036854775807) :
    Calls Tryz.prog 19 #[.pointer (some ⟨Lb, 0, none⟩), .int .i64 off, .int .i64 most] w (SincePost w (Wl.sinceV l off most)) := by
  have H := Lib.hid h
  have hfe := h.inv.first_
  have hcnt := h.inv.count
  have FA := Lib.hid (first_any h)
  have FQ : Hid (∀ W, LM W Lb T O l sa sc ra rc → Calls Tryz.prog 17 #[.pointer (some ⟨Lb, 0, none⟩)] W fun e w' => e = .returned (.int .i64 (Wl.firstV l)) ∧ W = w') := Lib.hid (fun W h => first_any h)
  have EQ : Hid (∀ W, LM W Lb T O l sa sc ra rc → Calls Tryz.prog 12 #[.pointer (some ⟨Lb, 0, none⟩)] W fun e w' => e = .returned (.int .i64 (Wl.endV l)) ∧ ∃ j, w' = W.drewN j) := Lib.hid (fun W h => end_any h)
  have hev : Wl.endV l = Wl.firstV l + (l.recs.length : Int) := rfl
  obtain ⟨d, hd⟩ : ∃ d, d = Wl.sinceD l off := ⟨_, rfl⟩
  have hmd : max off (Wl.firstV l) = Wl.firstV l + (d : Int) := by rw [hd]; unfold Wl.sinceD; omega
  have SV : Hid (Wl.sinceV l off most = (l.recs.drop d).take most.toNat) := Lib.hid (by rw [hd]; rfl)
  rw [SV.out]
  obtain ⟨cnt, hcn⟩ : ∃ cnt, cnt = min (l.recs.length - d) most.toNat := ⟨_, rfl⟩
  have LL : Hid ((l.recs.drop d).take most.toNat = (l.recs.drop d).take cnt) := Lib.hid (by
    rw [hcn]
    rcases Nat.le_total most.toNat (l.recs.length - d) with h1 | h1
    · rw [Nat.min_eq_right h1]
    · rw [Nat.min_eq_left h1, List.take_of_length_le (by rw [List.length_drop]; exact h1), List.take_of_length_le (by rw [List.length_drop]; exact Nat.le_refl _)])
  rw [LL.out]
  obtain ⟨tk, htk⟩ : ∃ tk : Nat → List Fr.Rc, tk = fun k => (l.recs.drop d).take k := ⟨_, rfl⟩
  have TLen : Hid (∀ k, k ≤ cnt → (tk k).length = k) := Lib.hid fun k hk => by rw [htk]; simp; omega
  have TSucc : Hid (∀ k, k < cnt → tk (k + 1) = tk k ++ [l.recs.getD (d + k) (0, [])]) := Lib.hid fun k hk => by
    rw [htk]
    show (l.recs.drop d).take (k + 1) = (l.recs.drop d).take k ++ _
    have hlt : k < (l.recs.drop d).length := by rw [List.length_drop]; omega
    rw [List.take_add_one, List.getElem?_eq_getElem hlt, List.getElem_drop, List.getD_eq_getElem?_getD, List.getElem?_eq_getElem (by omega)]
    rfl
  have T0 : Hid (tk 0 = []) := Lib.hid (by rw [htk]; rfl)
  rw [show (l.recs.drop d).take cnt = tk cnt by rw [htk]]
  clear h hd htk
  generalize Wl.firstV l = fv at *
  generalize Wl.endV l = ev at *
  obtain ⟨n, hn⟩ : ∃ n, n = l.recs.length := ⟨_, rfl⟩
  rw [← hn] at hev hcnt
  rw [← hn] at hcn
  have HN := Lib.hid hn
  have HCN := Lib.hid hcn
  have HEV := Lib.hid hev
  clear hn hcn hev
  go_enter Tryz.func19, Tryz.ntmps19
  go_wp2_with fail
  refine FA.out.mono ?_; rintro e w' ⟨rfl, rfl⟩
  go_wp2_with fail
  go_loopw [1, 7] (fun ov lv wr => ∃ (k : Nat) (A' : Option Addr) (cap' : Nat), k ≤ cnt ∧ ov = .int .i64 (fv + (d : Int) + (k : Int)) ∧ lv = .slice A' k cap' ∧ Hid (OwnR wr w.heap.size A' cap' (tk k)) ∧ Hid (Below w.heap.size w wr)) (fun ov _ _ => cnt - (intOf ov - (fv + (d : Int))).toNat)
  case atStart => exact ⟨0, none, 0, Nat.zero_le _, by simp, rfl, Lib.hid (by rw [T0.out]; exact OwnR.none_ _ _), Lib.hid (Below.refl _ _)⟩
  case round =>
    obtain ⟨k, A', cap', hk, rfl, rfl, HO, HW⟩ := hrel
    have HR := Lib.hid (H.out.grow HW.out)
    have ER := Lib.hid (EQ.out wr HR.out)
    by_cases hgo : k < cnt
    · have hlt1 : fv + (d : Int) + (k : Int) < ev := by have := HCN.out; have := HEV.out; omega
      have hlt2 : (k : Int) < most := by have := HCN.out; omega
      have hdk : d + k < n := by have := HCN.out; omega
      obtain ⟨i, hi⟩ : ∃ i, i = d + k := ⟨_, rfl⟩
      have hw : IntKind.i64.wrap (fv + (d : Int) + (k : Int) - fv) = (i : Int) := by
        rw [show fv + (d : Int) + (k : Int) - fv = (i : Int) by omega]; exact IntWalk.i64_in _ (by omega)
      have hil : i < l.recs.length := by rw [← HN.out]; omega
      have HIL := Lib.hid hil
      have TS := Lib.hid (TSucc.out k hgo)
      rw [← hi] at TS
      have hrl := H.out.inv.pay (l.recs.getD i (0, [])) (by rw [List.getD_eq_getElem?_getD, List.getElem?_eq_getElem hil]; exact List.getElem_mem _)
      generalize hr : l.recs.getD i (0, []) = r at TS hrl
      have HRr := Lib.hid hr
      have HRL := Lib.hid hrl
      have hb2 : (i : Int) < (n : Int) := by have := HN.out; omega
      have hb0 : 0 ≤ (i : Int) := by omega
      have HGO := Lib.hid hgo
      have TK := Lib.hid (TLen.out k (by omega))
      clear hr hrl hil hi
      go_wp2_with fail
      refine ER.out.mono ?_; rintro e w' ⟨rfl, j, rfl⟩
      go_upto_region 5 with fail
      have HQ := Lib.hid (HR.out.draw j)
      have HWq := Lib.hid (below_n HW.out j)
      have HOq : Hid (OwnR (wr.drewN j) w.heap.size A' cap' (tk k)) := Lib.hid (HO.out.grew (below_n (Below.refl wr.heap.size wr) j) (Nat.le_refl _))
      generalize wr.drewN j = wq at *
      clear ER HR HW HO
      obtain ⟨g, A, cap, hg, d0, d1, ob⟩ := HQ.out.rec_ HIL.out
      rw [HRr.out] at d0 d1 ob
      obtain ⟨⟨_, _, _, c3, _⟩, _⟩ := obj5 HQ.out.obj
      have OB := Lib.hid ob
      clear ob
      subst hg
      rw [← HN.out] at c3
      obtain ⟨rn, hrn⟩ : ∃ rn, rn = r.2.length := ⟨_, rfl⟩
      rw [← hrn] at d1
      have RN := Lib.hid hrn
      clear hrn
      obtain ⟨rt, hrt⟩ : ∃ rt, rt = r.1 := ⟨_, rfl⟩
      rw [← hrt] at d0
      have RT := Lib.hid hrt
      clear hrt
      have FAq := Lib.hid (FQ.out wq.drew (HQ.out.grow (Below.refl _ _).drew))
      have CPq : Hid (Calls Tryz.prog 28 #[.agg #[.int .u64 rt, .slice A rn cap]] wq.drew (CopyPost wq.drew rt r.2)) := Lib.hid (by
        rw [RN.out]; exact copied_any rt A r.2 cap (by have := HRL.out; omega) OB.out.atB wq.drew (OB.out.bytes))
      have LLT : Hid (Lb < w.heap.size ∧ g < w.heap.size) := Lib.hid (by
        obtain ⟨_, _, _, hro, _⟩ := HQ.out.recs
        exact ⟨H.out.lt Lb H.out.ownL, H.out.lt g (hro ⟨g, 0, none⟩ rfl)⟩)
      have S2 : Hid (wq.drew.cell? ⟨Lb, 3, none⟩ = some (.slice (some ⟨g, 0, none⟩) n rc) ∧ wq.drew.cell? ⟨g, i * 2, none⟩ = some (.int .u64 rt) ∧ wq.drew.cell? ⟨g, i * 2 + 1, none⟩ = some (.slice A rn cap)) := Lib.hid ⟨c3, d0, d1⟩
      have SK : Hid (∀ W, Below w.heap.size wq W → W.cell? ⟨Lb, 3, none⟩ = some (.slice (some ⟨g, 0, none⟩) n rc) ∧ W.cell? ⟨g, i * 2, none⟩ = some (.int .u64 rt) ∧ W.cell? ⟨g, i * 2 + 1, none⟩ = some (.slice A rn cap)) := Lib.hid fun W hb => ⟨(hb.cell (p := ⟨Lb, 3, none⟩) LLT.out.1).trans S2.out.1, (hb.cell (p := ⟨g, i * 2, none⟩) LLT.out.2).trans S2.out.2.1, (hb.cell (p := ⟨g, i * 2 + 1, none⟩) LLT.out.2).trans S2.out.2.2⟩
      obtain ⟨vs, hvl, hop, hrv⟩ := HOq.out
      have VL : Hid (vs.length = k) := Lib.hid (hvl.trans TK.out)
      have OP := Lib.hid hop
      have RV := Lib.hid hrv
      clear hvl hop hrv
      have hk1 : k ≤ 1000000000 := by have := HIL.out; omega
      go_region_held3 (fun w' => w'.cell? ⟨Lb, 3, none⟩ = some (.slice (some ⟨g, 0, none⟩) n rc) ∧ w'.cell? ⟨g, i * 2, none⟩ = some (.int .u64 rt) ∧ w'.cell? ⟨g, i * 2 + 1, none⟩ = some (.slice A rn cap)) ((first | exact S2.out | exact SK.out _ (B3.out.mono HWq.out.size) | exact SK.out _ (B4.out.mono HWq.out.size) | exact SK.out _ B5.out | go_keep))
        (first
          | (go_simp; go_at_call 17; (with_reducible refine FAq.out.mono ?_); rintro e w3 ⟨rfl, rfl⟩)
          | (go_simp; go_at_call 28; (with_reducible refine CPq.out.mono ?_); rintro e w3 ⟨A3, c3', rfl, o3, b3⟩; have B3 : Hid (Below wq.heap.size wq w3) := Lib.hid ((Below.refl _ _).drew.trans b3.out); have B4 : Hid (Below wq.heap.size wq (w3.alloc (.cells #[.int .u64 rt, .slice A3 r.2.length c3'] 40))) := Lib.hid (B3.out.alloc B3.out.size _); have X4 : Hid (_ ∧ _) := Lib.hid (obj2P (heap_alloc_new w3 (.cells #[.int .u64 rt, .slice A3 r.2.length c3'] 40))))
          | (refine step_appP2 (by rfl) _ _ (by rfl) Tryz.underlying29 rec_info rfl (by decide) (by rfl) VL.out.symm (OP.out.grew B4.out (Nat.le_refl _)) (Nat.le_trans HWq.out.size B4.out.size) (by rfl) X4.out.1 X4.out.2 rfl rfl (by rw [VL.out]; exact hk1) (r := k + 1) (by rw [VL.out]) ?_; intro A5 c5 w5 o5 g5; have O5 := Lib.hid o5; have G5 := Lib.hid g5; have B5 := Lib.hid ((B4.out.mono HWq.out.size).trans ((grown_below (OP.out.grew B4.out (Nat.le_refl _)) (Nat.le_trans HWq.out.size B4.out.size) g5))); clear o5 g5))
      all_goals
        have OP2 := Lib.hid (OP.out.grew B4.out (Nat.le_refl _))
        have HB2 := Lib.hid (Nat.le_trans HWq.out.size B4.out.size)
        have OB3 := Lib.hid ((OwnB.grown (o3.out.grew ((Below.refl w3.heap.size w3).alloc (Nat.le_refl _) _) (Nat.le_refl _)) OP2.out (by decide) G5.out).low (b := w.heap.size) HWq.out.size)
        have NEWR : Hid (OwnR w5 w.heap.size A5 c5 (tk (k + 1))) := Lib.hid (by
          rw [TS.out]
          have e : r = (rt, r.2) := by rw [RT.out]
          rw [e]
          refine OwnR.snoc (vs := vs) (by rw [VL.out, TK.out]) (fun q hq => ?_) OB3.out O5.out
          obtain ⟨r1, Aq, cq, r2, r3⟩ := RV.out q hq
          exact ⟨r1, Aq, cq, r2, OwnB.grown (r3.grew B4.out (Nat.le_refl _)) OP2.out (by decide) G5.out⟩)
        have B6 := Lib.hid (HWq.out.trans B5.out)
        go_wp2
        go_roundw
        case rel => exact ⟨k + 1, A5, c5, HGO.out, by go_num, rfl, NEWR, B6⟩
        case measure => have := HGO.out; simp [intOf]; omega
    · have e : k = cnt := by omega
      subst e
      clear hgo
      by_cases he : fv + (d : Int) + (k : Int) < ev
      · have hlt2 : ¬ (k : Int) < most := by have := HCN.out; have := HEV.out; omega
        go_wp2_with fail
        refine ER.out.mono ?_; rintro e w' ⟨rfl, j, rfl⟩
        go_wp2
        go_ret
        exact ⟨A', cap', by rw [TLen.out k (Nat.le_refl _)]; rfl, Lib.hid (HO.out.grew (below_n (Below.refl wr.heap.size wr) j) (Nat.le_refl _)), Lib.hid (below_n HW.out j)⟩
      · go_wp2_with fail
        refine ER.out.mono ?_; rintro e w' ⟨rfl, j, rfl⟩
        go_wp2
        go_ret
        exact ⟨A', cap', by rw [TLen.out k (Nat.le_refl _)]; rfl, Lib.hid (HO.out.grew (below_n (Below.refl wr.heap.size wr) j) (Nat.le_refl _)), Lib.hid (below_n HW.out j)⟩
end
end Go.Proofs.YtdbhicifjljjnaaGreatDoor
/-
  A store and a log on it, made since a world w0, beside guests: a call of the store, a change of the log, what is only asked.
-/
namespace Go.Proofs.YtdbhicifjljjnaaGreatDoor
open Go.RowKit St

theorem w_some_lt {w : World} {k : Nat} {o : Obj} (h : w.heap[k]? = some o) : k < w.heap.size := by
  rcases Nat.lt_or_ge k w.heap.size with h1 | h1
  · exact h1
  · rw [Array.getElem?_eq_none h1] at h; cases h
def WRun (w0 w : World) (T Lb : Nat) (s : S) (l : Wl.L) (G : List (Nat × Obj)) (sa : Option Addr) (sc : Nat) (ra : Option Addr) (rc : Nat) : Prop := ∃ o1 O, PState w T o1 s ∧ LM w Lb T O l sa sc ra rc ∧ (∀ k, o1 k → w0.heap.size ≤ k ∧ ¬ O k) ∧ (∀ k, O k → w0.heap.size ≤ k) ∧ Below w0.heap.size w0 w ∧ ∀ g ∈ G, w.heap[g.1]? = some g.2 ∧ ¬ o1 g.1 ∧ ¬ O g.1
section
variable {w0 w : World} {T Lb : Nat} {s : S} {l : Wl.L} {G : List (Nat × Obj)} {sa : Option Addr} {sc : Nat} {ra : Option Addr} {rc : Nat} (h : WRun w0 w T Lb s l G sa sc ra rc)
include h
theorem WRun.below : Below w0.heap.size w0 w := by obtain ⟨_, _, _, _, _, _, h, _⟩ := h; exact h
theorem WRun.inv : St.Inv s ∧ Wl.Inv l := by obtain ⟨_, _, p, q, _⟩ := h; exact ⟨p.inv, q.inv⟩
theorem WRun.block {g : Nat × Obj} (hg : g ∈ G) : w.heap[g.1]? = some g.2 := by obtain ⟨_, _, _, _, _, _, _, h⟩ := h; exact (h g hg).1
theorem WRun.fewer {G' : List (Nat × Obj)} (hs : ∀ g ∈ G', g ∈ G) : WRun w0 w T Lb s l G' sa sc ra rc := by
  obtain ⟨o1, O, p, q, h1, h2, h3, h4⟩ := h; exact ⟨o1, O, p, q, h1, h2, h3, fun g hg => h4 g (hs g hg)⟩
theorem WRun.grow {w' : World} (hb : Below w.heap.size w w') : WRun w0 w' T Lb s l G sa sc ra rc := by
  obtain ⟨o1, O, p, q, h1, h2, h3, h4⟩ := h
  exact ⟨o1, O, p.grow hb, q.grow hb, h1, h2, h3.trans (hb.mono h3.size), fun g m => ⟨(hb.block g.1 (w_some_lt (h4 g m).1)).trans (h4 g m).1, (h4 g m).2⟩⟩
theorem WRun.draw (n : Nat) : WRun w0 (w.drewN n) T Lb s l G sa sc ra rc := WRun.grow h (below_n (Below.refl _ _) n)
theorem WRun.drew : WRun w0 w.drew T Lb s l G sa sc ra rc := WRun.grow h (Below.refl _ _).drew
theorem WRun.alloc (o : Obj) : WRun w0 (w.alloc o) T Lb s l G sa sc ra rc := WRun.grow h (one_alloc w o)
theorem WRun.join {w' : World} (hb : Below w.heap.size w w') {b : Nat} {o : Obj} (hn : w.heap.size ≤ b) (ho : w'.heap[b]? = some o) : WRun w0 w' T Lb s l ((b, o) :: G) sa sc ra rc := by
  obtain ⟨o1, O, p, q, h1, h2, h3, h4⟩ := h
  refine ⟨o1, O, p.grow hb, q.grow hb, h1, h2, h3.trans (hb.mono h3.size), fun g m => ?_⟩
  rcases List.mem_cons.1 m with rfl | m
  · exact ⟨ho, fun hk => by have := p.lt _ hk; omega, fun hk => by have := q.lt _ hk; omega⟩
  · exact ⟨(hb.block g.1 (w_some_lt (h4 g m).1)).trans (h4 g m).1, (h4 g m).2⟩
/-- A call of the store. -/
theorem w_prog {s' : S} {f : FuncId} {args : Array Value} {E : Ending → Prop} (hc : ∀ own, (∀ k, own k → w0.heap.size ≤ k) → Below w0.heap.size w0 w → PState w T own s → Calls Tryz.prog f args w fun e w' => E e ∧ Leaves w T own s' w') :
    Calls Tryz.prog f args w fun e w' => E e ∧ Hid (WRun w0 w' T Lb s' l G sa sc ra rc) := by
  obtain ⟨o1, O, p, q, h1, h2, h3, h4⟩ := h
  refine (hc o1 (fun k hk => (h1 k hk).1) h3 p).mono ?_
  rintro e w' ⟨he, own, p', st⟩
  refine ⟨he, Lib.hid ⟨own, O, p', q.same st.only.size fun k hk => st.only.block k (q.lt k hk) fun ho => (h1 k ho).2 hk, fun k hk => ?_, h2, h3.trans (st.only.below h3.size fun k hk => (h1 k hk).1), fun g m => ?_⟩⟩
  · rcases st.sub k hk with h5 | h5
    · exact h1 k h5
    · exact ⟨Nat.le_trans h3.size h5, fun ho => by have := q.lt k ho; omega⟩
  · have h5 := w_some_lt (h4 g m).1
    refine ⟨(st.only.block g.1 h5 (h4 g m).2.1).trans (h4 g m).1, fun hk => ?_, (h4 g m).2.2⟩
    rcases st.sub _ hk with h6 | h6
    · exact (h4 g m).2.1 h6
    · omega
/-- A change of the log alone. -/
theorem w_log {w' : World} {l' : Wl.L} {sa' : Option Addr} {sc' : Nat} {ra' : Option Addr} {rc' : Nat} (hc : ∀ O, (∀ k, O k → w0.heap.size ≤ k) → LM w Lb T O l sa sc ra rc → ∃ O', LM w' Lb T O' l' sa' sc' ra' rc' ∧ Step O O' w w') : WRun w0 w' T Lb s l' G sa' sc' ra' rc' := by
  obtain ⟨o1, O, p, q, h1, h2, h3, h4⟩ := h
  obtain ⟨O', q', st⟩ := hc O h2 q
  refine ⟨o1, O', p.same st.only.size fun k hk => st.only.block k (p.lt k hk) fun ho => (h1 k hk).2 ho, q', fun k hk => ⟨(h1 k hk).1, fun ho => ?_⟩, fun k hk => ?_, h3.trans (st.only.below h3.size h2), fun g m => ?_⟩
  · rcases st.sub k ho with h5 | h5
    · exact (h1 k hk).2 h5
    · have := p.lt k hk; omega
  · rcases st.sub k hk with h5 | h5
    · exact h2 k h5
    · exact Nat.le_trans h3.size h5
  · have h5 := w_some_lt (h4 g m).1
    refine ⟨(st.only.block g.1 h5 (h4 g m).2.2).trans (h4 g m).1, (h4 g m).2.1, fun hk => ?_⟩
    rcases st.sub _ hk with h6 | h6
    · exact (h4 g m).2.2 h6
    · omega
theorem first_w : Calls Tryz.prog 17 #[.pointer (some ⟨Lb, 0, none⟩)] w fun e w' => e = .returned (.int .i64 (Wl.firstV l)) ∧ w = w' := by obtain ⟨_, _, _, q, _⟩ := h; exact first_any q
theorem end_w : Calls Tryz.prog 12 #[.pointer (some ⟨Lb, 0, none⟩)] w fun e w' => e = .returned (.int .i64 (Wl.endV l)) ∧ ∃ j, w' = w.drewN j := by obtain ⟨_, _, _, q, _⟩ := h; exact end_any q
theorem epoch_w : Calls Tryz.prog 22 #[.pointer (some ⟨Lb, 0, none⟩)] w fun e w' => e = .returned (.int .i64 (Wl.epochV l)) ∧ ∃ j, w' = w.drewN j := by obtain ⟨_, _, _, q, _⟩ := h; exact lepoch_any q
theorem get_w (off : Int) (o0 : -9223372036854775808 ≤ off) (o1 : off ≤ 9223372036854775807) : Calls Tryz.prog 20 #[.pointer (some ⟨Lb, 0, none⟩), .int .i64 off] w (LGetPost w (Wl.getR l off) (Wl.getE l off)) := by obtain ⟨_, _, _, q, _⟩ := h; exact lget_any q off o0 o1
theorem since_w (off most : Int) (o0 : -9223372036854775808 ≤ off) (o1 : off ≤ 9223372036854775807) (m0 : -9223372036854775808 ≤ most) (m1 : most ≤ 9223372036854775807) : Calls Tryz.prog 19 #[.pointer (some ⟨Lb, 0, none⟩), .int .i64 off, .int .i64 most] w (SincePost w (Wl.sinceV l off most)) := by obtain ⟨_, _, _, q, _⟩ := h; exact lsince_any q off most o0 o1 m0 m1
theorem off_w : Calls Tryz.prog 11 #[.pointer (some ⟨T, 0, none⟩)] w fun e w' => e = .returned (.bool s.off) ∧ w = w' := by
  obtain ⟨o1, _, p, _⟩ := h
  exact off_any T o1 s w p
/-- The log's object. -/
theorem obj_w : w.heap[Lb]? = some (.cells #[.pointer (some ⟨T, 0, none⟩), .int .i64 l.most, .slice sa l.segs.length sc, .slice ra l.recs.length rc, .int .i64 l.sure] 57 (0, 0)) := by
  obtain ⟨_, _, _, q, _⟩ := h; exact q.obj
theorem seg_w {i : Nat} (hi : i < l.segs.length) : ∃ g, sa = some ⟨g, 0, none⟩ ∧ w.cell? ⟨g, i * 2, none⟩ = some (.int .i64 (l.segs.getD i (0, 0)).1) ∧ w.cell? ⟨g, i * 2 + 1, none⟩ = some (.int .i64 (l.segs.getD i (0, 0)).2) := by
  obtain ⟨_, _, _, q, _⟩ := h; exact q.seg hi
end
end Go.Proofs.YtdbhicifjljjnaaGreatDoor
