/-
  Part 5 of the texts behind the law: FrPut, FrGet, RecRows.
-/
import Derived.Test.YtdbhicifjljjnaaGreatDoorMf4
import Derived.Deep.QuietTactic
import Derived.BigQuiet
import Derived.Deep.RegionHeld3
import Derived.Laws.MakeOwn
/-
  frame.Put at every argument: the bytes handed in and the record's encoding behind them, in a row of the call's own; an error for a payload beyond the limit.
-/
namespace Go.Proofs.YtdbhicifjljjnaaGreatDoor
open Go.RowKit

theorem obj2P {w : World} {g : Nat} {x y : Value} {t : TypeId} (h : w.heap[g]? = some (.cells #[x, y] t (0, 0))) : (w.cell? ⟨g, 0, none⟩ = some x ∧ w.cell? ⟨g, 1, none⟩ = some y) :=
  ⟨by simp [World.cell?, h], by simp [World.cell?, h]⟩
/-- make([]byte, 0, c) -/
theorem make_own (w : World) (base c : Nat) (hb : base ≤ w.heap.size) (hc : c ≤ 1000000000) : ∃ w', (Instr.makeSlice 31 (.int .i64 0) (.int .i64 (c : Int))).run Tryz.prog w = .ok (.slice (some ⟨w.heap.size, 0, none⟩) 0 c) w' ∧ OwnB w' base (some ⟨w.heap.size, 0, none⟩) c [] ∧ Grew base w w' := by
  obtain ⟨i, hi, hz, hs, hy⟩ := info_parts u8_info
  obtain ⟨w', h1, h2, h3⟩ := run_make_own (P := Tryz.prog) w base 31 5 i _ 1 Tryz.underlying31 hi hz hs .i64 .i64 c (by rw [hy]; omega) (by unfold maxLen; omega) hb
  exact ⟨w', h1, ⟨h2, fun i hi => by simp at hi⟩, grew_of h3 hb (fun k hk => by cases hk) (fun k hk => by cases hk)⟩
theorem box_kept {w w' : World} {base g : Nat} {x y : Value} {t : TypeId} (h : w.heap[g]? = some (.cells #[x, y] t (0, 0))) (hg : Grew base w w') (ht : t ≠ 5) : w'.heap[g]? = some (.cells #[x, y] t (0, 0)) := hg.obj g _ _ _ h ht
def PutPost (w : World) (ys : List Int) (e : Ending) (w' : World) : Prop :=
  ∃ zs A cap, Hid (zs = ys) ∧ e = .returned (.tuple #[.slice A zs.length cap, .int .i64 0]) ∧ OwnB w' w.heap.size A cap zs ∧ Grew w.heap.size w w'
theorem PutPost.mk_ {w w' : World} {ys zs : List Int} {A : Option Addr} {cap n : Nat} (hn : n = zs.length) (hz : zs = ys) (h : OwnB w' w.heap.size A cap zs) (g : Grew w.heap.size w w') : PutPost w ys (.returned (.tuple #[.slice A n cap, .int .i64 0])) w' := by
  subst hn; exact ⟨zs, A, cap, Lib.hid hz, rfl, h, g⟩
set_option maxHeartbeats 2000000 in
theorem put_any (Ab Ap : Option Addr) (xs p : List Int) (capb capp : Nat) (at_ : Int) (a0 : 0 ≤ at_) (a1 : at_ < 18446744073709551616) (hx : xs.length ≤ 100000000) (hp : p.length ≤ 1024) (w : World) (hb : Bytes w w.heap.size Ab xs) (hq : Bytes w w.heap.size Ap p) :
    Calls Tryz.prog 25 #[.slice Ab xs.length capb, .agg #[.int .u64 at_, .slice Ap p.length capp]] w (PutPost w (xs ++ Fr.putV at_ p)) := by
  have HB := Lib.hid hb
  have HQ := Lib.hid hq
  have hp' : (p.length : Int) ≤ 1024 := by omega
  have hx' : (xs.length : Int) ≤ 100000000 := by omega
  clear hb hq hx
  go_enter Tryz.func25, Tryz.ntmps25
  go_wp2_with fail
  refine (size_any _ _ p.length capp (by omega) _).mono ?_; rintro e w1 ⟨rfl, hg1⟩
  have G1 : Hid (Grew w.heap.size w w1) := Lib.hid (((Grew.refl _ _).alloc (Nat.le_refl _) _).trans ⟨hg1.below.mono (by simp), hg1.obj⟩)
  have O1 : Hid (w1.heap[w.heap.size]? = some (.cells #[.int .u64 at_, .slice Ap p.length capp] 40 (0, 0))) := Lib.hid (box_kept (heap_alloc_new w _) hg1 (by decide))
  clear hg1
  obtain ⟨w2, hmk, ho2, hg2⟩ := make_own w1 w.heap.size (xs.length + (16 + p.length)) G1.out.below.size (by omega)
  rw [show ((xs.length + (16 + p.length) : Nat) : Int) = (xs.length : Int) + (16 + (p.length : Int)) by omega] at hmk
  have OW2 := Lib.hid ho2
  have G2 := Lib.hid (G1.out.trans hg2)
  have O2 := Lib.hid (box_kept O1.out hg2 (by decide))
  clear ho2 hg2 G1 O1
  go_wp2_with (at_builtin; refine wp_app rfl (.tmp 16) (.tmp 17) rfl rfl rfl OW2.out G2.out.below.size rfl rfl (HB.out.below G2.out.below) (by simp; omega) ?_; intro A3 c3 w3 o3 d3; rw [List.nil_append] at o3; have OW3 := Lib.hid o3; have G3 := Lib.hid (G2.out.trans d3); have O3 := Lib.hid (box_kept O2.out d3 (by decide)); clear o3 d3 hmk OW2 G2 O2; obtain ⟨x0, x1⟩ := obj2P O3.out)
  refine (appnum_any w.heap.size _ _ xs p.length 4 (by omega) (by omega) (by omega) (by omega) _ G3.out.below.size OW3.out).mono ?_; rintro e w4 ⟨y1, A4, c4, hy1, rfl, ho4, hg4⟩
  have OW4 := Lib.hid ho4
  have G4 := Lib.hid (G3.out.trans hg4)
  have O4 := Lib.hid (box_kept O3.out hg4 (by decide))
  have L4 : Hid (y1.length = xs.length + 4) := by show _ = _; rw [hy1.out, List.length_append, Fr.lowB_len]
  clear ho4 hg4 OW3 G3 O3 x0 x1
  obtain ⟨x0, x1⟩ := obj2P O4.out
  go_wp2_with fail
  refine (appnum_any w.heap.size _ _ y1 at_ 8 a0 a1 (by omega) (by have := L4.out; omega) _ G4.out.below.size OW4.out).mono ?_; rintro e w5 ⟨y2, A5, c5, hy2, rfl, ho5, hg5⟩
  have OW5 := Lib.hid ho5
  have G5 := Lib.hid (G4.out.trans hg5)
  have O5 := Lib.hid (box_kept O4.out hg5 (by decide))
  have L5 : Hid (y2.length = xs.length + 12) := by show _ = _; rw [hy2.out, List.length_append, Fr.lowB_len, L4.out]
  clear ho5 hg5 OW4 G4 O4 x0 x1
  obtain ⟨x0, x1⟩ := obj2P O5.out
  have D5 : Hid (y2.drop xs.length = Fr.headV at_ p) := by
    show _ = _; rw [hy2.out, hy1.out, List.append_assoc, List.drop_append, List.drop_of_length_le (by omega)]; simp [Fr.headV]
  have l5 : Hid (y2.length - xs.length = (y2.drop xs.length).length) := by show _ = _; rw [List.length_drop]
  have hsl := slice_from A5 y2.length c5 xs.length (by have := L5.out; omega) .i64
  have CK := Lib.hid (fun W (h : Below w5.heap.size w5 W) => frCheck_any _ _ (tailA A5 c5 xs.length) Ap (y2.drop xs.length) p (c5 - xs.length) capp (by have := l5.out; have := L5.out; omega) (by omega) W ((OW5.out.bytes.below h).tail xs.length c5 OW5.out.cap_) ((HQ.out.below G5.out.below).below (h.mono G5.out.below.size)))
  rw [← l5.out, D5.out] at CK
  have BD : Hid (Below w5.heap.size w5 w5.drew) := Lib.hid ((Below.refl _ _).drew)
  go_wp2_with fail
  go_region_held3 (fun w' => w'.cell? ⟨w.heap.size, 1, none⟩ = some (.slice Ap p.length capp)) ((first | go_keep | exact x1 | exact z1))
    (first
      | (go_at_call 40; refine (CK.out _ BD.out).mono ?_; rintro e w' ⟨rfl, rfl⟩)
      | (go_at_call 39; (refine (appnum_any w.heap.size _ _ y2 _ 4 (Fr.ckV_range _ _).1 (by have := (Fr.ckV_range (Fr.headV at_ p) p).2; omega) (by omega) (by have := L5.out; omega) _ (G5.out.below.drew.size) ⟨OW5.out.1.drew, OW5.out.2⟩).mono ?_; rintro e w6 ⟨y3, A6, c6, hy3, rfl, ho6, hg6⟩; have OW6 := Lib.hid ho6; have G6 := Lib.hid ((⟨G5.out.below.drew, G5.out.obj⟩ : Grew w.heap.size w w5.drew).trans hg6); have O6 := Lib.hid (box_kept (w := w5.drew) O5.out hg6 (by decide)); have z1 := (obj2P O6.out).2; clear ho6 hg6)))
  clear x0 x1 hsl
  go_wp2_with (at_builtin; refine wp_app rfl (.tmp 38) (.tmp 40) rfl rfl rfl OW6.out G6.out.below.size rfl rfl (HQ.out.below G6.out.below) (by rw [hy3.out, List.length_append, Fr.lowB_len, L5.out]; omega) ?_; intro A7 c7 w7 o7 d7; have OW7 := Lib.hid o7; have G7 := Lib.hid (G6.out.trans d7); clear o7 d7)
  go_ret2
  refine PutPost.mk_ (by simp) ?_ OW7.out G7.out
  rw [hy3.out, hy2.out, hy1.out]
  simp [Fr.putV]
set_option maxHeartbeats 400000 in
theorem put_large (Ab Ap : Option Addr) (n m : Nat) (capb capp : Nat) (at_ : Int) (hm : 1024 < m) (w : World) :
    Calls Tryz.prog 25 #[.slice Ab n capb, .agg #[.int .u64 at_, .slice Ap m capp]] w fun e w' => e = .returned (.tuple #[.slice none 0 0, .int .i64 14]) ∧ Grew w.heap.size w w' := by
  have hm' : (1024 : Int) < (m : Int) := by omega
  go_enter Tryz.func25, Tryz.ntmps25
  go_wp2
  go_ret2
  exact ⟨rfl, (Grew.refl _ _).alloc (Nat.le_refl _) _⟩
end Go.Proofs.YtdbhicifjljjnaaGreatDoor
/-
  frame.Get at every argument: the first record and the length of its encoding, or the error that comes first.
-/
namespace Go.Proofs.YtdbhicifjljjnaaGreatDoor
open Go.RowKit

/-- What Get's calls return at one argument of n bytes at address A, in every world that holds them. -/
structure Gt (w : World) (A : Option Addr) (cap l : Nat) (S C T : Int) (ps : List Int) : Prop where
  n0 : ∀ W, Below w.heap.size w W → Calls Tryz.prog 116 #[.slice A 4 cap] W fun e w' => e = .returned (.int .u64 (l : Int)) ∧ W = w'
  n12 : ∀ W, Below w.heap.size w W → Calls Tryz.prog 116 #[.slice (tailA A cap 12) 4 (cap - 12)] W fun e w' => e = .returned (.int .u64 S) ∧ W = w'
  n4 : ∀ W, Below w.heap.size w W → Calls Tryz.prog 116 #[.slice (tailA A cap 4) 8 (cap - 4)] W fun e w' => e = .returned (.int .u64 T) ∧ W = w'
  ck : ∀ W, Below w.heap.size w W → Calls Tryz.prog 40 #[.slice A 12 cap, .slice (tailA A cap 16) l (cap - 16)] W fun e w' => e = .returned (.int .u64 C) ∧ W = w'
  cl : ∀ W, Below w.heap.size w W → Calls Tryz.prog 42 #[.slice (tailA A cap 16) l (cap - 16)] W (AppPost W W.heap.size ps)
def GetPost (w : World) (at_ : Int) (ps : List Int) (n : Nat) (er : Int) (e : Ending) (w' : World) : Prop :=
  ∃ zs A cap, Hid (zs = ps) ∧ e = .returned (.tuple #[.agg #[.int .u64 at_, .slice A zs.length cap], .int .i64 (n : Int), .int .i64 er]) ∧ OwnB w' w.heap.size A cap zs ∧ Below w.heap.size w w'
theorem GetPost.bad (w w' : World) (er : Int) (hg : Below w.heap.size w w') : GetPost w 0 [] 0 er (.returned (.tuple #[.agg #[.int .u64 0, .slice none 0 0], .int .i64 0, .int .i64 er])) w' :=
  ⟨[], none, 0, Lib.hid rfl, rfl, OwnB.none_ _ _, hg⟩
theorem GetPost.good (w w' : World) (at_ : Int) (zs ps : List Int) (n : Nat) (m : Int) (A : Option Addr) (cap : Nat) (hz : zs = ps) (hm : m = (n : Int)) (ho : OwnB w' w.heap.size A cap zs) (hg : Below w.heap.size w w') :
    GetPost w at_ ps n 0 (.returned (.tuple #[.agg #[.int .u64 at_, .slice A zs.length cap], .int .i64 m, .int .i64 0])) w' := by
  subst hm; exact ⟨zs, A, cap, Lib.hid hz, rfl, ho, hg⟩
theorem get_short (A : Option Addr) (n cap : Nat) (hn : n < 4) (w : World) : Calls Tryz.prog 83 #[.slice A n cap] w (GetPost w 0 [] 0 3) := by
  have hn' : (n : Int) < 4 := by omega
  go_enter Tryz.func83, Tryz.ntmps83
  go_wp2
  exact bodyPost_ret (v := .tuple #[.agg #[.int .u64 0, .slice none 0 0], .int .i64 0, .int .i64 3]) (by simp [results, Tryz.results83, go_sem]) rfl (GetPost.bad _ _ _ (by repeat' (first | exact Below.refl _ _ | refine Below.setCell ?_ (Nat.le_refl _) _ | refine Below.alloc ?_ (Nat.le_refl _) _)))
set_option maxHeartbeats 2000000 in
theorem get_large (A : Option Addr) (n cap l : Nat) (hn : 4 ≤ n) (hc : n ≤ cap) (h1 : 1024 < l) (w : World)
    (n0 : ∀ W, Below w.heap.size w W → Calls Tryz.prog 116 #[.slice A 4 cap] W fun e w' => e = .returned (.int .u64 (l : Int)) ∧ W = w') : Calls Tryz.prog 83 #[.slice A n cap] w (GetPost w 0 [] 0 14) := by
  have hn' : 4 ≤ (n : Int) := by omega
  have h1' : 1024 < (l : Int) := by omega
  have N0 := Lib.hid n0
  have s4 : ∀ W, (Instr.slice 31 (.slice A n cap) none (some (.int .i64 4)) none).run Tryz.prog W = .ok (.slice A 4 cap) W := fun W => slice_to A n cap 4 (by omega) .i64 W
  clear n0
  go_enter Tryz.func83, Tryz.ntmps83
  go_wp2_with fail
  refine (N0.out _ ((Below.refl _ _).alloc (Nat.le_refl _) _)).mono ?_; rintro e w' ⟨rfl, rfl⟩
  go_wp2
  exact bodyPost_ret (v := .tuple #[.agg #[.int .u64 0, .slice none 0 0], .int .i64 0, .int .i64 14]) (by simp [results, Tryz.results83, go_sem]) rfl (GetPost.bad _ _ _ (by repeat' (first | exact Below.refl _ _ | refine Below.setCell ?_ (Nat.le_refl _) _ | refine Below.alloc ?_ (Nat.le_refl _) _)))
set_option maxHeartbeats 2000000 in
theorem get_more (A : Option Addr) (n cap l : Nat) (hn : 4 ≤ n) (hc : n ≤ cap) (h1 : l ≤ 1024) (h2 : n < 16 + l) (w : World)
    (n0 : ∀ W, Below w.heap.size w W → Calls Tryz.prog 116 #[.slice A 4 cap] W fun e w' => e = .returned (.int .u64 (l : Int)) ∧ W = w') : Calls Tryz.prog 83 #[.slice A n cap] w (GetPost w 0 [] 0 3) := by
  have hn' : 4 ≤ (n : Int) := by omega
  have h1' : (l : Int) ≤ 1024 := by omega
  have h2' : (n : Int) < 16 + (l : Int) := by omega
  have N0 := Lib.hid n0
  have s4 : ∀ W, (Instr.slice 31 (.slice A n cap) none (some (.int .i64 4)) none).run Tryz.prog W = .ok (.slice A 4 cap) W := fun W => slice_to A n cap 4 (by omega) .i64 W
  clear n0
  go_enter Tryz.func83, Tryz.ntmps83
  go_wp2_with fail
  refine (N0.out _ ((Below.refl _ _).alloc (Nat.le_refl _) _)).mono ?_; rintro e w' ⟨rfl, rfl⟩
  go_wp2
  exact bodyPost_ret (v := .tuple #[.agg #[.int .u64 0, .slice none 0 0], .int .i64 0, .int .i64 3]) (by simp [results, Tryz.results83, go_sem]) rfl (GetPost.bad _ _ _ (by repeat' (first | exact Below.refl _ _ | refine Below.setCell ?_ (Nat.le_refl _) _ | refine Below.alloc ?_ (Nat.le_refl _) _)))
theorem mid16 (A : Option Addr) (n cap l : Nat) (h1 : 16 + l ≤ n) (hc : n ≤ cap) (W : World) : (Instr.slice 31 (.slice A n cap) (some (.int .i64 16)) (some (.int .i64 (16 + (l : Int)))) none).run Tryz.prog W = .ok (.slice (tailA A cap 16) l (cap - 16)) W := by
  have h := slice_mid A n cap 16 (16 + l) (by omega) (by omega) .i64 .i64 W
  rw [show 16 + l - 16 = l by omega, show ((16 + l : Nat) : Int) = 16 + (l : Int) by omega] at h
  exact h
set_option maxHeartbeats 4000000 in
theorem get_form (A : Option Addr) (n cap l : Nat) (S C T : Int) (ps : List Int) (hc : n ≤ cap) (h1 : l ≤ 1024) (h2 : 16 + l ≤ n) (hs : (S != C) = true) (w : World) (G : Gt w A cap l S C T ps) :
    Calls Tryz.prog 83 #[.slice A n cap] w (GetPost w 0 [] 0 2) := by
  have hn' : 4 ≤ (n : Int) := by omega
  have h1' : (l : Int) ≤ 1024 := by omega
  have h2' : 16 + (l : Int) ≤ (n : Int) := by omega
  have s4 : ∀ W, (Instr.slice 31 (.slice A n cap) none (some (.int .i64 4)) none).run Tryz.prog W = .ok (.slice A 4 cap) W := fun W => slice_to A n cap 4 (by omega) .i64 W
  have s12 : ∀ W, (Instr.slice 31 (.slice A n cap) none (some (.int .i64 12)) none).run Tryz.prog W = .ok (.slice A 12 cap) W := fun W => slice_to A n cap 12 (by omega) .i64 W
  have s12' : ∀ W, (Instr.slice 31 (.slice A n cap) (some (.int .i64 12)) (some (.int .i64 16)) none).run Tryz.prog W = .ok (.slice (tailA A cap 12) 4 (cap - 12)) W := fun W => slice_mid A n cap 12 16 (by omega) (by omega) .i64 .i64 W
  have s16 := mid16 A n cap l h2 hc
  have B1 : Hid (Below w.heap.size w (w.alloc (.cells #[.int .u64 0, .slice none 0 0] 40))) := (Below.refl _ _).alloc (Nat.le_refl _) _
  go_enter Tryz.func83, Tryz.ntmps83
  go_wp2_with fail
  refine (G.n0 _ B1.out).mono ?_; rintro e w' ⟨rfl, rfl⟩
  go_wp2_with fail
  go_quiet ((first | (go_at_call 116; exact stillB B1.out G.n12) | (go_at_call 40; exact stillB B1.out G.ck)))
  go_wp2
  exact bodyPost_ret (v := .tuple #[.agg #[.int .u64 0, .slice none 0 0], .int .i64 0, .int .i64 2]) (by simp [results, Tryz.results83, go_sem]) rfl (GetPost.bad _ _ _ ((((below_n B1.out _).setCell (p := ⟨w.heap.size, 0, none⟩) (Nat.le_refl _) _).setCell (p := ⟨w.heap.size, 1, none⟩) (Nat.le_refl _) _)))
theorem obj2f {w : World} {g : Nat} {x y : Value} {t : TypeId} (h : w.heap[g]? = some (.cells #[x, y] t (0, 0))) : (w.frozen? ⟨g, 0, none⟩ = false ∧ w.frozen? ⟨g, 1, none⟩ = false) :=
  ⟨by simp [World.frozen?, h], by simp [World.frozen?, h]⟩
set_option maxHeartbeats 4000000 in
theorem get_good (A : Option Addr) (n cap l : Nat) (S T : Int) (ps : List Int) (hc : n ≤ cap) (h1 : l ≤ 1024) (h2 : 16 + l ≤ n) (w : World) (G : Gt w A cap l S S T ps) :
    Calls Tryz.prog 83 #[.slice A n cap] w (GetPost w T ps (16 + l) 0) := by
  have hn' : 4 ≤ (n : Int) := by omega
  have h1' : (l : Int) ≤ 1024 := by omega
  have h2' : 16 + (l : Int) ≤ (n : Int) := by omega
  have s4 : ∀ W, (Instr.slice 31 (.slice A n cap) none (some (.int .i64 4)) none).run Tryz.prog W = .ok (.slice A 4 cap) W := fun W => slice_to A n cap 4 (by omega) .i64 W
  have s12 : ∀ W, (Instr.slice 31 (.slice A n cap) none (some (.int .i64 12)) none).run Tryz.prog W = .ok (.slice A 12 cap) W := fun W => slice_to A n cap 12 (by omega) .i64 W
  have s12' : ∀ W, (Instr.slice 31 (.slice A n cap) (some (.int .i64 12)) (some (.int .i64 16)) none).run Tryz.prog W = .ok (.slice (tailA A cap 12) 4 (cap - 12)) W := fun W => slice_mid A n cap 12 16 (by omega) (by omega) .i64 .i64 W
  have s16 := mid16 A n cap l h2 hc
  have s4' : ∀ W, (Instr.slice 31 (.slice A n cap) (some (.int .i64 4)) (some (.int .i64 12)) none).run Tryz.prog W = .ok (.slice (tailA A cap 4) 8 (cap - 4)) W := fun W => slice_mid A n cap 4 12 (by omega) (by omega) .i64 .i64 W
  have B1 : Hid (Below w.heap.size w (w.alloc (.cells #[.int .u64 0, .slice none 0 0] 40))) := (Below.refl _ _).alloc (Nat.le_refl _) _
  go_enter Tryz.func83, Tryz.ntmps83
  go_wp2_with fail
  refine (G.n0 _ B1.out).mono ?_; rintro e w' ⟨rfl, rfl⟩
  go_wp2_with fail
  go_quiet ((first | (go_at_call 116; exact stillB B1.out G.n12) | (go_at_call 40; exact stillB B1.out G.ck)))
  go_wp2_with fail
  refine (G.n4 _ (below_n B1.out _)).mono ?_; rintro e w' ⟨rfl, rfl⟩
  go_wp2_with fail
  refine (G.cl _ (below_n B1.out _)).mono ?_; rintro e w2 ⟨zs, A2, c2, hz, rfl, ho, hg⟩
  have O2 : Hid (w2.heap[w.heap.size]? = some (.cells #[.int .u64 0, .slice none 0 0] 40 (0, 0))) := Lib.hid (hg.obj _ _ _ _ (by exact heap_alloc_new w _) (by decide))
  have OW := Lib.hid (ho.low (b := w.heap.size) (by simp))
  have B2 := Lib.hid (below_on (below_n B1.out _) hg.below)
  clear ho hg
  obtain ⟨x0, x1⟩ := obj2P O2.out
  obtain ⟨f0, f1⟩ := obj2f O2.out
  go_wp2
  have O3 : Hid ((w2.setCell ⟨w.heap.size, 0, none⟩ (.int .u64 T)).heap[w.heap.size]? = some (.cells #[.int .u64 T, .slice none 0 0] 40 (0, 0))) := Lib.hid (heap_setCell_same w2 w.heap.size 0 _ _ _ O2.out)
  have O4 : Hid (((w2.setCell ⟨w.heap.size, 0, none⟩ (.int .u64 T)).setCell ⟨w.heap.size, 1, none⟩ (.slice A2 zs.length c2)).heap[w.heap.size]? = some (.cells #[.int .u64 T, .slice A2 zs.length c2] 40 (0, 0))) := Lib.hid (heap_setCell_same _ w.heap.size 1 _ _ _ O3.out)
  obtain ⟨r0, r1⟩ := obj2P O3.out
  obtain ⟨q0, q1⟩ := obj2P O4.out
  exact bodyPost_ret (v := .tuple #[.agg #[.int .u64 T, .slice A2 zs.length c2], .int .i64 (16 + (l : Int)), .int .i64 0]) (by simp [results, Tryz.results83, go_sem, r1, q0, q1]) rfl
    (GetPost.good _ _ _ _ _ _ _ _ _ hz.out (by omega) ((OW.out.set O2.out (by decide) 0 (.int .u64 T)).set O3.out (by decide) 1 _) ((B2.out.setCell (p := ⟨w.heap.size, 0, none⟩) (Nat.le_refl _) _).setCell (p := ⟨w.heap.size, 1, none⟩) (Nat.le_refl _) _))
theorem tailA_some {b off cap k : Nat} : ∃ off', tailA (some ⟨b, off, none⟩) cap k = some ⟨b, off', none⟩ := by
  unfold tailA
  split
  · exact ⟨off, rfl⟩
  · exact ⟨off + k, by show some (Addr.add ⟨b, off, none⟩ k) = _; rw [add_off]⟩
theorem get_any (A : Option Addr) (zs : List Int) (cap : Nat) (hl : zs.length ≤ 9223372036854775807) (hc : zs.length ≤ cap) (w : World) (hb : Bytes w w.heap.size A zs) :
    Calls Tryz.prog 83 #[.slice A zs.length cap] w (GetPost w (Fr.getA zs) (Fr.getP zs) (Fr.getN zs) (Fr.errG zs)) := by
  have hby := hb.byte
  by_cases h4 : zs.length < 4
  · have e : Fr.errG zs = 3 := by unfold Fr.errG; rw [if_pos h4]
    rw [Fr.getA_bad (by rw [e]; decide), Fr.getP_bad (by rw [e]; decide), Fr.getN_bad (by rw [e]; decide), e]
    exact get_short A _ cap h4 w
  have hr := Fr.lenG_range hby (by omega)
  obtain ⟨l, hl0⟩ := Int.eq_ofNat_of_zero_le hr.1
  have n0 : ∀ W, Below w.heap.size w W → Calls Tryz.prog 116 #[.slice A 4 cap] W fun e w' => e = .returned (.int .u64 (l : Int)) ∧ W = w' := fun W hW => by
    have h := number_any w.heap.size A (zs.take 4) cap (by rw [List.length_take]; omega) W ((hb.below hW).head 4)
    rw [List.length_take, Nat.min_eq_left (by omega)] at h
    have e : Fr.valB (zs.take 4) = (l : Int) := hl0
    rw [e] at h
    exact h
  by_cases h1 : 1024 < l
  · have e : Fr.errG zs = 14 := by unfold Fr.errG; rw [if_neg h4, if_pos (by omega)]
    rw [Fr.getA_bad (by rw [e]; decide), Fr.getP_bad (by rw [e]; decide), Fr.getN_bad (by rw [e]; decide), e]
    exact get_large A _ cap l (by omega) hc h1 w n0
  by_cases h2 : zs.length < 16 + l
  · have e : Fr.errG zs = 3 := by unfold Fr.errG; rw [if_neg h4, if_neg (by omega), if_pos (by omega)]
    rw [Fr.getA_bad (by rw [e]; decide), Fr.getP_bad (by rw [e]; decide), Fr.getN_bad (by rw [e]; decide), e]
    exact get_more A _ cap l (by omega) hc (by omega) h2 w n0
  have ep : Fr.payG zs = (zs.drop 16).take l := by unfold Fr.payG; rw [hl0]; rfl
  have lp : (Fr.payG zs).length = l := by rw [ep, List.length_take, List.length_drop]; omega
  have hpb : ∀ W, Below w.heap.size w W → Bytes W w.heap.size (tailA A cap 16) (Fr.payG zs) := fun W hW => by rw [ep]; exact ((hb.below hW).tail 16 cap hc).head l
  have n12 : ∀ W, Below w.heap.size w W → Calls Tryz.prog 116 #[.slice (tailA A cap 12) 4 (cap - 12)] W fun e w' => e = .returned (.int .u64 (Fr.sumG zs)) ∧ W = w' := fun W hW => by
    have h := number_any w.heap.size (tailA A cap 12) ((zs.drop 12).take 4) (cap - 12) (by rw [List.length_take]; omega) W (((hb.below hW).tail 12 cap hc).head 4)
    rw [List.length_take, List.length_drop, Nat.min_eq_left (by omega)] at h
    exact h
  have n4 : ∀ W, Below w.heap.size w W → Calls Tryz.prog 116 #[.slice (tailA A cap 4) 8 (cap - 4)] W fun e w' => e = .returned (.int .u64 (Fr.atG zs)) ∧ W = w' := fun W hW => by
    have h := number_any w.heap.size (tailA A cap 4) ((zs.drop 4).take 8) (cap - 4) (by rw [List.length_take]; omega) W (((hb.below hW).tail 4 cap hc).head 8)
    rw [List.length_take, List.length_drop, Nat.min_eq_left (by omega)] at h
    exact h
  have ck : ∀ W, Below w.heap.size w W → Calls Tryz.prog 40 #[.slice A 12 cap, .slice (tailA A cap 16) l (cap - 16)] W fun e w' => e = .returned (.int .u64 (Fr.ckV (zs.take 12) (Fr.payG zs))) ∧ W = w' := fun W hW => by
    have h := frCheck_any w.heap.size w.heap.size A (tailA A cap 16) (zs.take 12) (Fr.payG zs) cap (cap - 16) (by rw [List.length_take]; omega) (by omega) W ((hb.below hW).head 12) (hpb W hW)
    rw [List.length_take, Nat.min_eq_left (by omega), lp] at h
    exact h
  have cl : ∀ W, Below w.heap.size w W → Calls Tryz.prog 42 #[.slice (tailA A cap 16) l (cap - 16)] W (AppPost W W.heap.size (Fr.payG zs)) := fun W hW => by
    have hq := hpb W hW
    obtain ⟨b, off, z, rfl, _, _, _, _, _⟩ := hb.at_ (show 0 < zs.length by omega)
    obtain ⟨off', et⟩ := tailA_some (b := b) (off := off) (cap := cap) (k := 16)
    rw [et] at hq ⊢
    have h := clone_any b off' (Fr.payG zs) (cap - 16) (by omega) W (hq.more hW.size)
    rw [lp] at h
    exact h
  by_cases hs : Fr.ckV (zs.take 12) (Fr.payG zs) = Fr.sumG zs
  · have e : Fr.errG zs = 0 := by unfold Fr.errG; rw [if_neg h4, if_neg (by omega), if_neg (by omega), if_pos hs]
    have es : Fr.sizeG zs = 16 + l := by unfold Fr.sizeG; rw [hl0]; rfl
    rw [Fr.getA_ok e, Fr.getP_ok e, Fr.getN_ok e, e, es]
    rw [hs] at ck
    exact get_good A _ cap l _ _ _ hc (by omega) (by omega) w ⟨n0, n12, n4, ck, cl⟩
  · have e : Fr.errG zs = 2 := by unfold Fr.errG; rw [if_neg h4, if_neg (by omega), if_neg (by omega), if_neg hs]
    rw [Fr.getA_bad (by rw [e]; decide), Fr.getP_bad (by rw [e]; decide), Fr.getN_bad (by rw [e]; decide), e]
    exact get_form A _ cap l _ _ _ _ hc (by omega) (by omega) (by simp; exact fun h => hs h.symm) w ⟨n0, n12, n4, ck, cl⟩
end Go.Proofs.YtdbhicifjljjnaaGreatDoor
/-
  Rows of records of package frame, the call's own: what one holds, kept where the world grows, one more at its end.
-/
namespace Go.Proofs.YtdbhicifjljjnaaGreatDoor
open Go.RowKit

/-- What a record's two cells hold: its stamp, and its payload in a row of the call's own. -/
def RecV (w : World) (base : Nat) (v : Value × Value) (r : Fr.Rc) : Prop := v.1 = .int .u64 r.1 ∧ ∃ A cap, v.2 = .slice A r.2.length cap ∧ OwnB w base A cap r.2
/-- The row of records at address A, the call's own. -/
def OwnR (w : World) (base : Nat) (A : Option Addr) (cap : Nat) (l : List Fr.Rc) : Prop :=
  ∃ vs : List (Value × Value), vs.length = l.length ∧ OwnP w base 40 A cap vs ∧ ∀ i, i < l.length → RecV w base (vs.getD i (undef, undef)) (l.getD i (0, []))
theorem OwnR.none_ (w : World) (base : Nat) : OwnR w base none 0 [] := ⟨[], rfl, OwnP.none_ _ _ _, fun i hi => by simp at hi⟩
theorem RecV.grew {w w' : World} {base B : Nat} {v : Value × Value} {r : Fr.Rc} (h : RecV w base v r) (hb : Below B w w') (hB : w.heap.size ≤ B) : RecV w' base v r := by
  obtain ⟨h1, A, cap, h2, h3⟩ := h
  exact ⟨h1, A, cap, h2, h3.grew hb hB⟩
theorem OwnR.grew {w w' : World} {base B : Nat} {A : Option Addr} {cap : Nat} {l : List Fr.Rc} (h : OwnR w base A cap l) (hb : Below B w w') (hB : w.heap.size ≤ B) : OwnR w' base A cap l := by
  obtain ⟨vs, h1, h2, h3⟩ := h
  exact ⟨vs, h1, h2.grew hb hB, fun i hi => (h3 i hi).grew hb hB⟩
theorem getD_snoc_lt {α : Type} (l : List α) (x d : α) (i : Nat) (h : i < l.length) : (l ++ [x]).getD i d = l.getD i d := by
  rw [List.getD_eq_getElem?_getD, List.getElem?_append_left h, ← List.getD_eq_getElem?_getD]
theorem getD_snoc_eq {α : Type} (l : List α) (x d : α) : (l ++ [x]).getD l.length d = x := by
  rw [List.getD_eq_getElem?_getD, List.getElem?_append_right (Nat.le_refl _)]; simp
theorem OwnR.snoc {w' : World} {base : Nat} {A' : Option Addr} {cap' : Nat} {l : List Fr.Rc} {vs : List (Value × Value)} (hl : vs.length = l.length) (hv : ∀ i, i < l.length → RecV w' base (vs.getD i (undef, undef)) (l.getD i (0, [])))
    {at_ : Int} {p : List Int} {A2 : Option Addr} {cap2 : Nat} (hp : OwnB w' base A2 cap2 p) (h : OwnP w' base 40 A' cap' (vs ++ [(.int .u64 at_, .slice A2 p.length cap2)])) : OwnR w' base A' cap' (l ++ [(at_, p)]) := by
  refine ⟨_, by simp [hl], h, fun i hi => ?_⟩
  by_cases hi2 : i < l.length
  · rw [getD_snoc_lt _ _ _ _ hi2, getD_snoc_lt _ _ _ _ (by omega)]
    exact hv i hi2
  · rw [List.length_append, List.length_singleton] at hi
    have e : i = l.length := by omega
    subst e
    rw [getD_snoc_eq, ← hl, getD_snoc_eq]
    exact ⟨rfl, A2, cap2, rfl, hp⟩
theorem rec_info : (Tryz.prog.info? 40).map (fun i => (i.zero, i.size, i.bytes)) = some (some (.agg #[.int .u64 0, .slice none 0 0]), 2, 32) := by kernel_rfl
theorem second_new (w : World) (X Y : Obj) : ((w.alloc X).alloc Y).heap[w.heap.size + 1]? = some Y := by
  have h := heap_alloc_new (w.alloc X) Y
  simpa using h
end Go.Proofs.YtdbhicifjljjnaaGreatDoor
