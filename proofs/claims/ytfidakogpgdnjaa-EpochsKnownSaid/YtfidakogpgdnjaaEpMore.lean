/-
  Package epochs: does a record follow, a table with one record more, a list copied, which tables are valid.
-/
import Derived.Test.YtfidakogpgdnjaaEpWalks
namespace Go.Proofs.Ytfidakogpgdnjaa
open Go.RowKit
set_option maxHeartbeats 1000000 in
theorem copied_anyS (A : Option Addr) (l : List Int) (cap : Nat) (hl : l.length ≤ 1073741824) (w : World) (h : Sts w w.heap.size A l) :
    Calls Try.prog 22 #[.slice A l.length cap] w fun e w' => ∃ A' cap', e = .returned (.slice A' l.length cap') ∧ Hid (OwnS w' w.heap.size A' cap' l) ∧ Hid (GrewS w.heap.size w w') := by
  have H := Lib.hid h
  have hl' : l.length ≤ 1073741824 := hl
  clear h
  go_enter Try.func22, Try.ntmps22
  go_wp2_with (at_builtin; refine wp_appS rfl (.const (.slice none 0 0)) (.tmp 3) rfl rfl rfl (OwnS.none_ w w.heap.size) (Nat.le_refl _) rfl rfl H.out (by simpa using hl') ?_; intro A' cap' w' o1 g1; rw [List.nil_append] at o1; have O1 := Lib.hid o1; have G1 := Lib.hid g1; clear o1 g1)
  go_ret
  exact ⟨A', cap', by simp, O1, G1⟩
set_option maxHeartbeats 2000000 in
theorem follow_any (s : Int) (h0 : 0 ≤ s) (h1 : s < 18446744073709551616) (A : Option Addr) (l : List Int) (cap : Nat) (x : Int) (hl : l.length ≤ 9223372036854775807) (w : World) (h : Sts w w.heap.size A l) :
    Calls Try.prog 17 #[.int .u64 s, .agg #[.slice A l.length cap, .int .i64 x]] w (BoolB w (Ep.follow s l x)) := by
  have E1 := epoch_any s h0 h1
  have O1 := stOff_any s h0 h1
  have LE : Hid (∀ W, Below w.heap.size w W → Calls Try.prog 25 #[.agg #[.slice A l.length cap, .int .i64 x]] W (IntB W (Ep.lastE l))) := Lib.hid fun W hW => last_any A l cap x hl W (h.on hW)
  unfold Ep.follow
  generalize Pl.epochV s = es at *
  generalize Pl.offV s = os at *
  generalize Ep.lastE l = le at *
  generalize l.length = n at *
  have B1 : Hid (Below w.heap.size w (w.alloc (.cells #[.slice A n cap, .int .i64 x] 25))) := Lib.hid ((Below.refl _ _).alloc (Nat.le_refl _) _)
  clear h h0 h1 hl
  by_cases hc : os = x
  · subst hc
    rw [decide_eq_true rfl, Bool.true_and]
    have S0 : Hid ((w.alloc (.cells #[.slice A n cap, .int .i64 os] 25)).drew.cell? ⟨w.heap.size, 0, none⟩ = some (.slice A n cap) ∧ (w.alloc (.cells #[.slice A n cap, .int .i64 os] 25)).drew.cell? ⟨w.heap.size, 1, none⟩ = some (.int .i64 os)) := Lib.hid (by simp [go_sem])
    go_enter Try.func17, Try.ntmps17
    go_wp2_with fail
    go_region_held3 (fun w' => w'.cell? ⟨w.heap.size, 0, none⟩ = some (.slice A n cap) ∧ w'.cell? ⟨w.heap.size, 1, none⟩ = some (.int .i64 os)) ((first | exact S0.out | exact S3.out | go_keep))
      (first
        | (go_simp; go_at_call 16; (with_reducible refine (O1 _).mono ?_); rintro e w3 ⟨rfl, rfl⟩)
        | (go_simp; go_at_call 15; (with_reducible refine (E1 _).mono ?_); rintro e w3 ⟨rfl, rfl⟩)
        | (go_simp; go_at_call 25; (with_reducible refine (LE.out _ (B1.out.drew)).mono ?_); rintro e w3 ⟨rfl, b3⟩; have S3 : Hid (w3.cell? ⟨w.heap.size, 0, none⟩ = some (.slice A n cap) ∧ w3.cell? ⟨w.heap.size, 1, none⟩ = some (.int .i64 os)) := Lib.hid ⟨(b3.out.cell (p := ⟨w.heap.size, 0, none⟩) (by simp)).trans S0.out.1, (b3.out.cell (p := ⟨w.heap.size, 1, none⟩) (by simp)).trans S0.out.2⟩))
    go_wp2
    go_ret
    exact ⟨rfl, Lib.hid (B1.out.drew.trans (b3.out.mono (by simp)))⟩
  · have hd : (os == x) = false := by simpa using hc
    rw [decide_eq_false hc, Bool.false_and]
    clear hc
    go_enter Try.func17, Try.ntmps17
    go_wp2_with fail
    go_quiet ((go_at_call 16; exact stillE O1))
    go_wp2
    go_ret
    exact ⟨rfl, Lib.hid (below_n B1.out _)⟩
theorem ob2 {w : World} {g : Nat} {x y : Value} {t : TypeId} (h : w.heap[g]? = some (.cells #[x, y] t (0, 0))) :
    (w.cell? ⟨g, 0, none⟩ = some x ∧ w.cell? ⟨g, 1, none⟩ = some y) ∧ (w.frozen? ⟨g, 0, none⟩ = false ∧ w.frozen? ⟨g, 1, none⟩ = false) :=
  ⟨⟨by simp [World.cell?, h], by simp [World.cell?, h]⟩, ⟨by simp [World.frozen?, h], by simp [World.frozen?, h]⟩⟩
theorem OwnS.set2 {w : World} {base : Nat} {A : Option Addr} {cap : Nat} {l : List Int} (h : OwnS w base A cap l) {g : Nat} {x y : Value} {t : TypeId} (ho : w.heap[g]? = some (.cells #[x, y] t (0, 0))) (ht : t ≠ 29) (a b : Value) :
    OwnS ((w.setCell ⟨g, 0, none⟩ a).setCell ⟨g, 1, none⟩ b) base A cap l :=
  (h.set ho ht 0 a).set (cs := #[a, y]) (fz := (0, 0)) (heap_setCell_same w g 0 _ _ _ ho) ht 1 b
theorem GrewS.set {w w4 : World} {base : Nat} (h : GrewS base w w4) {g : Nat} (hg : w.heap.size ≤ g) (hbase : base ≤ w.heap.size) (o : Nat) (v : Value) : GrewS base w (w4.setCell ⟨g, o, none⟩ v) :=
  ⟨h.below.setCell (p := ⟨g, o, none⟩) (Nat.le_trans hbase hg) _, fun k cs t fz hk ht => by
    have h1 := lt_of_block hk
    rw [Below.heap_setCell _ _ _ _ (by show k ≠ g; omega)]
    exact h.obj k cs t fz hk ht⟩
def ExtPost (w : World) (base : Nat) (l : List Int) (s x : Int) (e : Ending) (w' : World) : Prop :=
  ∃ L A' cap', Hid (L = Ep.extL l s) ∧ e = .returned (.agg #[.slice A' L.length cap', .int .i64 (x + 1)]) ∧ Hid (OwnS w' base A' cap' L) ∧ Hid (GrewS base w w')
set_option maxHeartbeats 4000000 in
theorem extend_any (s : Int) (h0 : 0 ≤ s) (h1 : s < 18446744073709551616) (base : Nat) (A : Option Addr) (l : List Int) (cap : Nat) (x : Int) (hx0 : 0 ≤ x) (hx1 : x ≤ 17592186044416) (hl : l.length ≤ 1000000000) (w : World) (hbase : base ≤ w.heap.size) (h : OwnS w base A cap l) :
    Calls Try.prog 18 #[.agg #[.slice A l.length cap, .int .i64 x], .int .u64 s] w (ExtPost w base l s x) := by
  have E1 := epoch_any s h0 h1
  have LE : Hid (∀ W, Below w.heap.size w W → Calls Try.prog 25 #[.agg #[.slice A l.length cap, .int .i64 x]] W (IntB W (Ep.lastE l))) := Lib.hid fun W hW => last_any A l cap x (by omega) W (h.sts.on hW)
  have OS := Lib.hid h
  have HB := Lib.hid hbase
  have HL := Lib.hid hl
  have HS := Lib.hid (⟨h0, h1⟩ : 0 ≤ s ∧ s < 18446744073709551616)
  have EX : Hid (Ep.extL l s = if Ep.lastE l < Pl.epochV s then l ++ [s] else l) := Lib.hid rfl
  generalize Pl.epochV s = es at *
  generalize Ep.lastE l = le at *
  obtain ⟨n, hn⟩ : ∃ n, n = l.length := ⟨_, rfl⟩
  rw [← hn] at LE ⊢
  have HN := Lib.hid hn
  clear h h0 h1 hl hbase hn
  obtain ⟨W1, hW1⟩ : ∃ W1, W1 = (w.alloc (.cells #[.slice A n cap, .int .i64 x] 25)).alloc (.cells #[.slice none 0 0, .int .i64 0] 25) := ⟨_, rfl⟩
  have B1 : Hid (Below w.heap.size w W1) := Lib.hid (by rw [hW1]; exact ((Below.refl _ _).alloc (Nat.le_refl _) _).alloc (by simp) _)
  have Z1 : Hid (W1.heap.size = w.heap.size + 1 + 1) := Lib.hid (by rw [hW1]; simp)
  have P0 : Hid (W1.heap[w.heap.size]? = some (.cells #[.slice A n cap, .int .i64 x] 25 (0, 0))) := Lib.hid (by rw [hW1, Below.heap_alloc _ _ _ (by simp)]; exact heap_alloc_new ..)
  have R0 : Hid (W1.heap[w.heap.size + 1]? = some (.cells #[.slice none 0 0, .int .i64 0] 25 (0, 0))) := Lib.hid (by rw [hW1]; have := heap_alloc_new (w.alloc (.cells #[.slice A n cap, .int .i64 x] 25)) (.cells #[.slice none 0 0, .int .i64 0] 25); rw [World.size_alloc] at this; exact this)
  have S0 : Hid (W1.drew.cell? ⟨w.heap.size, 0, none⟩ = some (.slice A n cap) ∧ W1.drew.cell? ⟨w.heap.size, 1, none⟩ = some (.int .i64 x)) := Lib.hid (ob2 (w := W1) P0.out).1
  by_cases hc : le < es
  · have EL : Hid (l ++ [s] = Ep.extL l s) := Lib.hid (by rw [EX.out, if_pos hc])
    go_enter Try.func18, Try.ntmps18
    go_wp2_with fail
    rw [← hW1]
    clear hW1
    go_region_held3 (fun w' => w'.cell? ⟨w.heap.size, 0, none⟩ = some (.slice A n cap) ∧ w'.cell? ⟨w.heap.size, 1, none⟩ = some (.int .i64 x)) ((first | exact S0.out | exact S3.out | go_keep))
      (first
        | (go_simp; go_at_call 15; (with_reducible refine (E1 _).mono ?_); rintro e w3 ⟨rfl, rfl⟩)
        | (go_simp; go_at_call 25; (with_reducible refine (LE.out _ (B1.out.drew)).mono ?_); rintro e w3 ⟨rfl, b3⟩; have S3 : Hid (w3.cell? ⟨w.heap.size, 0, none⟩ = some (.slice A n cap) ∧ w3.cell? ⟨w.heap.size, 1, none⟩ = some (.int .i64 x)) := Lib.hid ⟨(b3.out.cell (p := ⟨w.heap.size, 0, none⟩) (by show w.heap.size < W1.heap.size; rw [Z1.out]; omega)).trans S0.out.1, (b3.out.cell (p := ⟨w.heap.size, 1, none⟩) (by show w.heap.size < W1.heap.size; rw [Z1.out]; omega)).trans S0.out.2⟩))
    have B3 : Hid (Below W1.heap.size W1 w3) := Lib.hid ((Below.refl _ _).drew.trans b3.out)
    have P3 : Hid (w3.heap[w.heap.size]? = some (.cells #[.slice A n cap, .int .i64 x] 25 (0, 0))) := Lib.hid ((B3.out.block _ (by rw [Z1.out]; omega)).trans P0.out)
    have R3 : Hid (w3.heap[w.heap.size + 1]? = some (.cells #[.slice none 0 0, .int .i64 0] 25 (0, 0))) := Lib.hid ((B3.out.block _ (by rw [Z1.out]; omega)).trans R0.out)
    have BB3 : Hid (Below w.heap.size w w3) := Lib.hid (B1.out.trans (B3.out.mono (by rw [Z1.out]; omega)))
    have OS3 : Hid (OwnS w3 base A cap l) := Lib.hid (OS.out.grew BB3.out (Nat.le_refl _))
    obtain ⟨⟨x0, x1⟩, x2, x3⟩ := ob2 P3.out
    clear b3 S3
    go_wp2_with (at_builtin; refine wp_appS rfl (.tmp 11) (.tmp 13) rfl rfl HN.out (OS3.out.grew ((Below.refl w3.heap.size w3).alloc (Nat.le_refl _) _) (Nat.le_refl _)) (by have := HB.out; have := BB3.out.size; simp; omega) rfl rfl (Sts.new1 w3 s HS.out.1 HS.out.2 _) (by have := HL.out; simp; omega) ?_; intro A4 cap4 w4 o4 g4; have O4 := Lib.hid o4; have P4 : Hid (w4.heap[w.heap.size]? = some (.cells #[.slice A n cap, .int .i64 x] 25 (0, 0))) := Lib.hid (g4.obj _ _ _ _ (by rw [Below.heap_alloc _ _ _ (lt_of_block P3.out)]; exact P3.out) (by decide)); have R4 : Hid (w4.heap[w.heap.size + 1]? = some (.cells #[.slice none 0 0, .int .i64 0] 25 (0, 0))) := Lib.hid (g4.obj _ _ _ _ (by rw [Below.heap_alloc _ _ _ (lt_of_block R3.out)]; exact R3.out) (by decide)); have G4 := Lib.hid g4; clear o4 g4; obtain ⟨⟨y0, y1⟩, y2, y3⟩ := ob2 P4.out; obtain ⟨⟨z0, z1⟩, z2, z3⟩ := ob2 R4.out)
    have R5 : Hid (((w4.setCell ⟨w.heap.size, 0, none⟩ (.slice A4 (l.length + 1) cap4)).setCell ⟨w.heap.size, 1, none⟩ (.int .i64 (x + 1))).heap[w.heap.size + 1]? = some (.cells #[.slice none 0 0, .int .i64 0] 25 (0, 0))) := Lib.hid (by rw [Below.heap_setCell _ _ _ _ (by simp), Below.heap_setCell _ _ _ _ (by simp)]; exact R4.out)
    have e4 : (l ++ [s]).length = l.length + 1 := by simp
    exact bodyPost_ret (v := .agg #[.slice A4 (l.length + 1) cap4, .int .i64 (x + 1)]) (by simp [results, Try.results18, go_sem, z0, z1]) rfl
      ⟨l ++ [s], A4, cap4, EL, by rw [e4], Lib.hid ((O4.out.set2 P4.out (by decide) _ _).set2 R5.out (by decide) _ _),
        Lib.hid (((((((GrewS.of BB3.out HB.out).trans (GrewS.of ((Below.refl _ _).alloc (Nat.le_refl _) _) (by have := HB.out; have := BB3.out.size; omega))).trans G4.out).set (Nat.le_refl _) HB.out _ _).set (Nat.le_refl _) HB.out _ _).set (by omega) HB.out _ _).set (by omega) HB.out _ _)⟩
  · have EL : Hid (l = Ep.extL l s) := Lib.hid (by rw [EX.out, if_neg hc])
    go_enter Try.func18, Try.ntmps18
    go_wp2_with fail
    rw [← hW1]
    clear hW1
    go_region_held3 (fun w' => w'.cell? ⟨w.heap.size, 0, none⟩ = some (.slice A n cap) ∧ w'.cell? ⟨w.heap.size, 1, none⟩ = some (.int .i64 x)) ((first | exact S0.out | exact S3.out | go_keep))
      (first
        | (go_simp; go_at_call 15; (with_reducible refine (E1 _).mono ?_); rintro e w3 ⟨rfl, rfl⟩)
        | (go_simp; go_at_call 25; (with_reducible refine (LE.out _ (B1.out.drew)).mono ?_); rintro e w3 ⟨rfl, b3⟩; have S3 : Hid (w3.cell? ⟨w.heap.size, 0, none⟩ = some (.slice A n cap) ∧ w3.cell? ⟨w.heap.size, 1, none⟩ = some (.int .i64 x)) := Lib.hid ⟨(b3.out.cell (p := ⟨w.heap.size, 0, none⟩) (by show w.heap.size < W1.heap.size; rw [Z1.out]; omega)).trans S0.out.1, (b3.out.cell (p := ⟨w.heap.size, 1, none⟩) (by show w.heap.size < W1.heap.size; rw [Z1.out]; omega)).trans S0.out.2⟩))
    have B3 : Hid (Below W1.heap.size W1 w3) := Lib.hid ((Below.refl _ _).drew.trans b3.out)
    have P3 : Hid (w3.heap[w.heap.size]? = some (.cells #[.slice A n cap, .int .i64 x] 25 (0, 0))) := Lib.hid ((B3.out.block _ (by rw [Z1.out]; omega)).trans P0.out)
    have R3 : Hid (w3.heap[w.heap.size + 1]? = some (.cells #[.slice none 0 0, .int .i64 0] 25 (0, 0))) := Lib.hid ((B3.out.block _ (by rw [Z1.out]; omega)).trans R0.out)
    have BB3 : Hid (Below w.heap.size w w3) := Lib.hid (B1.out.trans (B3.out.mono (by rw [Z1.out]; omega)))
    have OS3 : Hid (OwnS w3 base A cap l) := Lib.hid (OS.out.grew BB3.out (Nat.le_refl _))
    obtain ⟨⟨x0, x1⟩, x2, x3⟩ := ob2 P3.out
    obtain ⟨⟨z0, z1⟩, z2, z3⟩ := ob2 R3.out
    clear b3 S3
    go_wp2
    have P4 : Hid ((w3.setCell ⟨w.heap.size, 1, none⟩ (.int .i64 (x + 1))).heap[w.heap.size + 1]? = some (.cells #[.slice none 0 0, .int .i64 0] 25 (0, 0))) := Lib.hid (by rw [Below.heap_setCell _ _ _ _ (by simp)]; exact R3.out)
    exact bodyPost_ret (v := .agg #[.slice A n cap, .int .i64 (x + 1)]) (by simp [results, Try.results18, go_sem, z0, z1]) rfl
      ⟨l, A, cap, EL, by rw [HN.out], Lib.hid ((OS3.out.set P3.out (by decide) _ _).set2 P4.out (by decide) _ _),
        Lib.hid ((((GrewS.of BB3.out HB.out).set (Nat.le_refl _) HB.out _ _).set (by omega) HB.out _ _).set (by omega) HB.out _ _)⟩
end Go.Proofs.Ytfidakogpgdnjaa
