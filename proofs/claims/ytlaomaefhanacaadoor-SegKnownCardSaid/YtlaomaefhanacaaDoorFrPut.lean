/-
  frame.Put at every argument: the bytes handed in and the record's encoding behind them, in a row of the call's own; an error for a payload beyond the limit.
-/
import Derived.Test.YtlaomaefhanacaaDoorFrWalks
import Derived.Deep.QuietTactic
import Derived.BigQuiet
import Derived.Deep.RegionHeld3
import Derived.Laws.MakeOwn
namespace Go.Proofs.YtlaomaefhanacaaDoor
open Go.RowKit

theorem obj2 {w : World} {g : Nat} {x y : Value} {t : TypeId} (h : w.heap[g]? = some (.cells #[x, y] t (0, 0))) : (w.cell? ⟨g, 0, none⟩ = some x ∧ w.cell? ⟨g, 1, none⟩ = some y) :=
  ⟨by simp [World.cell?, h], by simp [World.cell?, h]⟩
/-- make([]byte, 0, c) -/
theorem make_own (w : World) (base c : Nat) (hb : base ≤ w.heap.size) (hc : c ≤ 1000000000) : ∃ w', (Instr.makeSlice 32 (.int .i64 0) (.int .i64 (c : Int))).run Tryd.prog w = .ok (.slice (some ⟨w.heap.size, 0, none⟩) 0 c) w' ∧ OwnB w' base (some ⟨w.heap.size, 0, none⟩) c [] ∧ Grew base w w' := by
  obtain ⟨i, hi, hz, hs, hy⟩ := info_parts u8_info
  obtain ⟨w', h1, h2, h3⟩ := run_make_own (P := Tryd.prog) w base 32 5 i _ 1 Tryd.underlying32 hi hz hs .i64 .i64 c (by rw [hy]; omega) (by unfold maxLen; omega) hb
  exact ⟨w', h1, ⟨h2, fun i hi => by simp at hi⟩, grew_of h3 hb (fun k hk => by cases hk) (fun k hk => by cases hk)⟩
theorem box_kept {w w' : World} {base g : Nat} {x y : Value} {t : TypeId} (h : w.heap[g]? = some (.cells #[x, y] t (0, 0))) (hg : Grew base w w') (ht : t ≠ 5) : w'.heap[g]? = some (.cells #[x, y] t (0, 0)) := hg.obj g _ _ _ h ht
def PutPost (w : World) (ys : List Int) (e : Ending) (w' : World) : Prop :=
  ∃ zs A cap, Hid (zs = ys) ∧ e = .returned (.tuple #[.slice A zs.length cap, .int .i64 0]) ∧ OwnB w' w.heap.size A cap zs ∧ Grew w.heap.size w w'
theorem PutPost.mk_ {w w' : World} {ys zs : List Int} {A : Option Addr} {cap n : Nat} (hn : n = zs.length) (hz : zs = ys) (h : OwnB w' w.heap.size A cap zs) (g : Grew w.heap.size w w') : PutPost w ys (.returned (.tuple #[.slice A n cap, .int .i64 0])) w' := by
  subst hn; exact ⟨zs, A, cap, Lib.hid hz, rfl, h, g⟩
set_option maxHeartbeats 2000000 in
theorem put_any (Ab Ap : Option Addr) (xs p : List Int) (capb capp : Nat) (at_ : Int) (a0 : 0 ≤ at_) (a1 : at_ < 18446744073709551616) (hx : xs.length ≤ 100000000) (hp : p.length ≤ 1024) (w : World) (hb : Bytes w w.heap.size Ab xs) (hq : Bytes w w.heap.size Ap p) :
    Calls Tryd.prog 20 #[.slice Ab xs.length capb, .agg #[.int .u64 at_, .slice Ap p.length capp]] w (PutPost w (xs ++ Fr.putV at_ p)) := by
  have HB := Lib.hid hb
  have HQ := Lib.hid hq
  have hp' : (p.length : Int) ≤ 1024 := by omega
  have hx' : (xs.length : Int) ≤ 100000000 := by omega
  clear hb hq hx
  go_enter Tryd.func20, Tryd.ntmps20
  go_wp2_with fail
  refine (size_any _ _ p.length capp (by omega) _).mono ?_; rintro e w1 ⟨rfl, hg1⟩
  have G1 : Hid (Grew w.heap.size w w1) := Lib.hid (((Grew.refl _ _).alloc (Nat.le_refl _) _).trans ⟨hg1.below.mono (by simp), hg1.obj⟩)
  have O1 : Hid (w1.heap[w.heap.size]? = some (.cells #[.int .u64 at_, .slice Ap p.length capp] 34 (0, 0))) := Lib.hid (box_kept (heap_alloc_new w _) hg1 (by decide))
  clear hg1
  obtain ⟨w2, hmk, ho2, hg2⟩ := make_own w1 w.heap.size (xs.length + (16 + p.length)) G1.out.below.size (by omega)
  rw [show ((xs.length + (16 + p.length) : Nat) : Int) = (xs.length : Int) + (16 + (p.length : Int)) by omega] at hmk
  have OW2 := Lib.hid ho2
  have G2 := Lib.hid (G1.out.trans hg2)
  have O2 := Lib.hid (box_kept O1.out hg2 (by decide))
  clear ho2 hg2 G1 O1
  go_wp2_with (at_builtin; refine wp_app rfl (.tmp 16) (.tmp 17) rfl rfl rfl OW2.out G2.out.below.size rfl rfl (HB.out.below G2.out.below) (by simp; omega) ?_; intro A3 c3 w3 o3 d3; rw [List.nil_append] at o3; have OW3 := Lib.hid o3; have G3 := Lib.hid (G2.out.trans d3); have O3 := Lib.hid (box_kept O2.out d3 (by decide)); clear o3 d3 hmk OW2 G2 O2; obtain ⟨x0, x1⟩ := obj2 O3.out)
  refine (appnum_any w.heap.size _ _ xs p.length 4 (by omega) (by omega) (by omega) (by omega) _ G3.out.below.size OW3.out).mono ?_; rintro e w4 ⟨y1, A4, c4, hy1, rfl, ho4, hg4⟩
  have OW4 := Lib.hid ho4
  have G4 := Lib.hid (G3.out.trans hg4)
  have O4 := Lib.hid (box_kept O3.out hg4 (by decide))
  have L4 : Hid (y1.length = xs.length + 4) := by show _ = _; rw [hy1.out, List.length_append, Fr.lowB_len]
  clear ho4 hg4 OW3 G3 O3 x0 x1
  obtain ⟨x0, x1⟩ := obj2 O4.out
  go_wp2_with fail
  refine (appnum_any w.heap.size _ _ y1 at_ 8 a0 a1 (by omega) (by have := L4.out; omega) _ G4.out.below.size OW4.out).mono ?_; rintro e w5 ⟨y2, A5, c5, hy2, rfl, ho5, hg5⟩
  have OW5 := Lib.hid ho5
  have G5 := Lib.hid (G4.out.trans hg5)
  have O5 := Lib.hid (box_kept O4.out hg5 (by decide))
  have L5 : Hid (y2.length = xs.length + 12) := by show _ = _; rw [hy2.out, List.length_append, Fr.lowB_len, L4.out]
  clear ho5 hg5 OW4 G4 O4 x0 x1
  obtain ⟨x0, x1⟩ := obj2 O5.out
  have D5 : Hid (y2.drop xs.length = Fr.headV at_ p) := by
    show _ = _; rw [hy2.out, hy1.out, List.append_assoc, List.drop_append, List.drop_of_length_le (by omega)]; simp [Fr.headV]
  have l5 : Hid (y2.length - xs.length = (y2.drop xs.length).length) := by show _ = _; rw [List.length_drop]
  have hsl := slice_from A5 y2.length c5 xs.length (by have := L5.out; omega) .i64
  have CK := Lib.hid (fun W (h : Below w5.heap.size w5 W) => check_any _ _ (tailA A5 c5 xs.length) Ap (y2.drop xs.length) p (c5 - xs.length) capp (by have := l5.out; have := L5.out; omega) (by omega) W ((OW5.out.bytes.below h).tail xs.length c5 OW5.out.cap_) ((HQ.out.below G5.out.below).below (h.mono G5.out.below.size)))
  rw [← l5.out, D5.out] at CK
  have BD : Hid (Below w5.heap.size w5 w5.drew) := Lib.hid ((Below.refl _ _).drew)
  go_wp2_with fail
  go_region_held3 (fun w' => w'.cell? ⟨w.heap.size, 1, none⟩ = some (.slice Ap p.length capp)) ((first | go_keep | exact x1 | exact z1))
    (first
      | (go_at_call 36; refine (CK.out _ BD.out).mono ?_; rintro e w' ⟨rfl, rfl⟩)
      | (go_at_call 35; (refine (appnum_any w.heap.size _ _ y2 _ 4 (Fr.ckV_range _ _).1 (by have := (Fr.ckV_range (Fr.headV at_ p) p).2; omega) (by omega) (by have := L5.out; omega) _ (G5.out.below.drew.size) ⟨OW5.out.1.drew, OW5.out.2⟩).mono ?_; rintro e w6 ⟨y3, A6, c6, hy3, rfl, ho6, hg6⟩; have OW6 := Lib.hid ho6; have G6 := Lib.hid ((⟨G5.out.below.drew, G5.out.obj⟩ : Grew w.heap.size w w5.drew).trans hg6); have O6 := Lib.hid (box_kept (w := w5.drew) O5.out hg6 (by decide)); have z1 := (obj2 O6.out).2; clear ho6 hg6)))
  clear x0 x1 hsl
  go_wp2_with (at_builtin; refine wp_app rfl (.tmp 38) (.tmp 40) rfl rfl rfl OW6.out G6.out.below.size rfl rfl (HQ.out.below G6.out.below) (by rw [hy3.out, List.length_append, Fr.lowB_len, L5.out]; omega) ?_; intro A7 c7 w7 o7 d7; have OW7 := Lib.hid o7; have G7 := Lib.hid (G6.out.trans d7); clear o7 d7)
  go_ret2
  refine PutPost.mk_ (by simp) ?_ OW7.out G7.out
  rw [hy3.out, hy2.out, hy1.out]
  simp [Fr.putV]
set_option maxHeartbeats 400000 in
theorem put_large (Ab Ap : Option Addr) (n m : Nat) (capb capp : Nat) (at_ : Int) (hm : 1024 < m) (w : World) :
    Calls Tryd.prog 20 #[.slice Ab n capb, .agg #[.int .u64 at_, .slice Ap m capp]] w fun e w' => e = .returned (.tuple #[.slice none 0 0, .int .i64 14]) ∧ Grew w.heap.size w w' := by
  have hm' : (1024 : Int) < (m : Int) := by omega
  go_enter Tryd.func20, Tryd.ntmps20
  go_wp2
  go_ret2
  exact ⟨rfl, (Grew.refl _ _).alloc (Nat.le_refl _) _⟩
end Go.Proofs.YtlaomaefhanacaaDoor
