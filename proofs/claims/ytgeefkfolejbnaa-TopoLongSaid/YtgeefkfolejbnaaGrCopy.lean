/-
  Package graph: slices.Clone of a slice of edges, and a graph copied.
-/
import Derived.Test.YtgeefkfolejbnaaGrGood
import Derived.Lib.SliceRun
import Derived.Deep.RegionHeld3
namespace Go.Proofs.Ytgeefkfolejbnaa
open Go.RowKit
theorem cells_ofE {w : World} {B : Nat} {ad : Addr} {es : List (Int × Int)} (h : Edg w B (some ad) es) : ∀ j u, (eds es).flatten[j]? = some u → w.cell? (ad.add j) = some u := fun j u hu => by
  have hj : j < (eds es).flatten.length := (List.getElem?_eq_some_iff.1 hu).1
  rw [(eds_wide es).len, eds_len] at hj
  obtain ⟨b, off, e, _, hc⟩ := h.2 (by omega)
  injection e with e
  subst e
  rw [add_off]
  have hi : j / 2 < es.length := by omega
  have hg := (eds_wide es).get (j / 2) (j % 2) (by rw [eds_len]; exact hi) (Nat.mod_lt _ (by decide))
  have ej : j / 2 * 2 + j % 2 = j := by omega
  rw [ej, hu] at hg
  have e : (eds es).getD (j / 2) [] = [.int .i64 (es.getD (j / 2) (0, 0)).1, .int .i64 (es.getD (j / 2) (0, 0)).2] := by
    unfold eds
    rw [List.getD_eq_getElem?_getD, List.getElem?_map, List.getD_eq_getElem?_getD, List.getElem?_eq_getElem hi]
    rfl
  rw [e] at hg
  obtain ⟨c0, c1⟩ := hc (j / 2) hi
  rcases Nat.mod_two_eq_zero_or_one j with hm | hm
  · rw [hm] at hg ej
    rw [show off + j = off + j / 2 * 2 by omega, c0]
    simpa using hg.symm
  · rw [hm] at hg ej
    rw [show off + j = off + j / 2 * 2 + 1 by omega, c1]
    simpa using hg.symm
/-- An append of a whole slice of edges. -/
theorem run_appEs {w : World} {base : Nat} {T ST : TypeId} {A : Option Addr} {cap : Nat} {xs : List (Int × Int)} (hST : Try.prog.underlying ST = some (.slice T))
    (hI : (Try.prog.info? T).map (fun i => (i.zero, i.size, i.bytes)) = some (some (.agg #[.int .i64 0, .int .i64 0]), 2, 16))
    (h : OwnE w base T A cap xs) (hbase : base ≤ w.heap.size) {B : Nat} {ad : Addr} {es : List (Int × Int)} (hb : Edg w B (some ad) es) (c : Nat) (hlen : xs.length + es.length ≤ 1000000) (ty : TypeId) :
    ∃ A' cap' w', (Builtin.append_ #[ST, ST] ty #[.slice A xs.length cap, .slice (some ad) es.length c]).run Try.prog w = .ok (.slice A' (xs.length + es.length) cap') w' ∧
      OwnE w' base T A' cap' (xs ++ es) ∧ w.grownBy w' (Value.slice A xs.length cap).ownBlock := by
  obtain ⟨i, hi, hz0, hs, hyb⟩ := info_parts hI
  have h1 := h.1.1
  rw [eds_len] at h1
  obtain ⟨v', w', hrun, hown, hg, _, _⟩ := run_append_own_at (P := Try.prog) (w := w) base ST ty T i _ 2 16 hST hi hz0 hs hyb rfl (by decide)
    _ xs.length _ h1 ad es.length c (eds es).flatten (by rw [(eds_wide es).len, eds_len]) (cells_ofE hb) (eds_wide es).mem (by unfold maxLen; omega) (by omega) hbase
  obtain ⟨A', cap', rfl⟩ := form_ofK hown
  refine ⟨A', cap', w', hrun, ⟨⟨?_, by rw [eds_app]; exact (eds_wide xs).app (eds_wide es)⟩, fun e he => ?_⟩, hg⟩
  · rw [eds_app, List.flatten_append, List.length_append, eds_len, eds_len]
    exact hown
  · rcases List.mem_append.1 he with he | he
    · exact h.2 e he
    · exact hb.rng e he
theorem wp_appEs {w : World} {ops : Array Oper} {rest : List Oper} {o : Oper} {a : Act} {Q : Exit → Act → World → Prop} (hgd : o.guard = none) (s x : Operand) {T ST : TypeId}
    (ho : o.op = .call { callee := .builtin .append, args := #[s, x], argTypes := #[ST, ST] })
    {base : Nat} {A : Option Addr} {n cap : Nat} {xs : List (Int × Int)} (hST : Try.prog.underlying ST = some (.slice T))
    (hI : (Try.prog.info? T).map (fun i => (i.zero, i.size, i.bytes)) = some (some (.agg #[.int .i64 0, .int .i64 0]), 2, 16))
    (hs : a.eval s = .slice A n cap) (hn : n = xs.length) (h : OwnE w base T A cap xs) (hbase : base ≤ w.heap.size)
    {B : Nat} {ad : Addr} {m c : Nat} {es : List (Int × Int)} (hx : a.eval x = .slice (some ad) m c) (hm : m = es.length) (hb : Edg w B (some ad) es) (hlen : xs.length + es.length ≤ 1000000)
    (K : ∀ A' cap' w', OwnE w' base T A' cap' (xs ++ es) → w.grownBy w' (Value.slice A xs.length cap).ownBlock → wpList Try.prog ops Q rest (a.put o.dst (.slice A' (xs.length + es.length) cap')) w') :
    wpList Try.prog ops Q (o :: rest) a w := by
  subst hn hm
  obtain ⟨A', cap', w', hrun, h1, h2⟩ := run_appEs hST hI h hbase hb c hlen o.type
  refine wpList_plain hgd fun K' hK => ?_
  unfold Oper.wp
  simp [execOp, ho, resolve, invoke, builtin, hs, hx, hrun, Result.andThen]
  exact hK _ _ (K A' cap' w' h1 h2)
/-- A slice of edges handed back: a row of the call's own, or nothing of the world's. -/
def EdgPost (w : World) (es : List (Int × Int)) (e : Ending) (w' : World) : Prop :=
  ∃ A' cap', e = .returned (.slice A' es.length cap') ∧ Hid (OwnE w' w.heap.size 24 A' cap' es) ∧ Hid (Below w.heap.size w w')
set_option maxHeartbeats 1000000 in
theorem clone_anyE (A : Option Addr) (es : List (Int × Int)) (cap : Nat) (hl : es.length ≤ 1000000) (w : World) (h : Edg w w.heap.size A es) :
    Calls Try.prog 46 #[.slice A es.length cap] w (EdgPost w es) := by
  have H := Lib.hid h
  have HL := Lib.hid hl
  cases A with
  | none =>
    have hnil : (binOp .eql 25 (.slice none es.length cap) (.slice none 0 0)).run Try.prog w = .ok (.bool true) w := Lib.run_eql_slice_nil w 25 24 _ _ _ _ _ Try.underlying25
    have he : es = [] := by
      rcases Nat.eq_zero_or_pos es.length with h0 | h0
      · exact List.eq_nil_of_length_eq_zero h0
      · obtain ⟨_, _, e, _⟩ := h.2 h0; cases e
    have HE := Lib.hid he
    obtain ⟨n, hn⟩ : ∃ n, n = es.length := ⟨_, rfl⟩
    have HN := Lib.hid hn
    rw [← hn] at hnil hl ⊢
    clear h he hn
    go_enter Try.func46, Try.ntmps46
    go_wp2
    go_ret
    exact ⟨none, 0, by rw [HE.out]; rfl, by rw [HE.out]; exact Lib.hid (OwnE.none_ w _ _), Lib.hid (Below.refl _ _)⟩
  | some ad =>
    have hnil : (binOp .eql 25 (.slice (some ad) es.length cap) (.slice none 0 0)).run Try.prog w = .ok (.bool false) w := Lib.run_eql_slice_nil w 25 24 _ _ _ _ _ Try.underlying25
    obtain ⟨n, hn⟩ : ∃ n, n = es.length := ⟨_, rfl⟩
    have HN := Lib.hid hn
    rw [← hn] at hnil hl ⊢
    clear h hn
    have B1 : Hid (Below w.heap.size w (w.alloc (.cells #[] 24))) := Lib.hid ((Below.refl _ _).alloc (Nat.le_refl _) _)
    go_enter Try.func46, Try.ntmps46
    go_wp2_with (at_builtin; refine wp_appEs rfl (.tmp 5) (.tmp 6) rfl Try.underlying25 edge_info rfl rfl (OwnE.lit (w := w) [] (by simp) (by decide) #[] rfl) (by simp) rfl HN.out (H.out.below B1.out) (by have := HL.out; simp; omega) ?_; intro A4 cap4 w4 o4 g4; have O4 := Lib.hid o4; have G4 := Lib.hid (grownE_below (OwnE.lit (w := w) [] (by simp) (by decide) #[] rfl) (by simp) g4); clear o4 g4)
    go_ret
    exact ⟨A4, cap4, by simp, by rw [← List.nil_append es]; exact O4, Lib.hid (B1.out.trans G4.out)⟩
theorem OwnE.set {w : World} {base : Nat} {T : TypeId} {A : Option Addr} {cap : Nat} {es : List (Int × Int)} (h : OwnE w base T A cap es) {g : Nat} {cs : Array Value} {t : TypeId} {fz : Nat × Nat} (ho : w.heap[g]? = some (.cells cs t fz)) (ht : t ≠ T) (o : Nat) (v : Value) : OwnE (w.setCell ⟨g, o, none⟩ v) base T A cap es :=
  h.keep fun a ha => by subst ha; exact Below.heap_setCell _ _ _ _ (h.ne ho ht)
theorem OwnE.set2 {w : World} {base : Nat} {T : TypeId} {A : Option Addr} {cap : Nat} {es : List (Int × Int)} (h : OwnE w base T A cap es) {g : Nat} {x y : Value} {t : TypeId} (ho : w.heap[g]? = some (.cells #[x, y] t (0, 0))) (ht : t ≠ T) (a b : Value) :
    OwnE ((w.setCell ⟨g, 0, none⟩ a).setCell ⟨g, 1, none⟩ b) base T A cap es :=
  (h.set ho ht 0 a).set (cs := #[a, y]) (fz := (0, 0)) (heap_setCell_same w g 0 _ _ _ ho) ht 1 b
/-- A graph handed back. -/
def GrPost (w : World) (n : Int) (es : List (Int × Int)) (e : Ending) (w' : World) : Prop :=
  ∃ A' cap', e = .returned (.agg #[.int .i64 n, .slice A' es.length cap']) ∧ Hid (OwnE w' w.heap.size 24 A' cap' es) ∧ Hid (Below w.heap.size w w')
set_option maxHeartbeats 2000000 in
theorem copied_any (n : Int) (A : Option Addr) (es : List (Int × Int)) (cap : Nat) (hl : es.length ≤ 1000000) (w : World) (h : Edg w w.heap.size A es) :
    Calls Try.prog 41 #[.agg #[.int .i64 n, .slice A es.length cap]] w (GrPost w n es) := by
  have CL : Hid (∀ W, Below w.heap.size w W → Calls Try.prog 46 #[.slice A es.length cap] W (EdgPost W es)) := Lib.hid fun W hW => clone_anyE A es cap hl W (h.on hW)
  obtain ⟨l, hlen⟩ : ∃ l, l = es.length := ⟨_, rfl⟩
  have HN := Lib.hid hlen
  rw [← hlen] at CL hl ⊢
  clear h hlen
  obtain ⟨W1, hW1⟩ : ∃ W1, W1 = (w.alloc (.cells #[.int .i64 n, .slice A l cap] 27)).alloc (.cells #[.int .i64 0, .slice none 0 0] 27) := ⟨_, rfl⟩
  have B1 : Hid (Below w.heap.size w W1) := Lib.hid (by rw [hW1]; exact ((Below.refl _ _).alloc (Nat.le_refl _) _).alloc (by simp) _)
  have Z1 : Hid (W1.heap.size = w.heap.size + 1 + 1) := Lib.hid (by rw [hW1]; simp)
  have P1 : Hid (W1.heap[w.heap.size]? = some (.cells #[.int .i64 n, .slice A l cap] 27 (0, 0))) := Lib.hid (by rw [hW1, Below.heap_alloc _ _ _ (by simp)]; exact heap_alloc_new ..)
  have R1 : Hid (W1.heap[w.heap.size + 1]? = some (.cells #[.int .i64 0, .slice none 0 0] 27 (0, 0))) := Lib.hid (by rw [hW1]; have := heap_alloc_new (w.alloc (.cells #[.int .i64 n, .slice A l cap] 27)) (.cells #[.int .i64 0, .slice none 0 0] 27); rw [World.size_alloc] at this; exact this)
  have S0 : Hid (W1.drew.cell? ⟨w.heap.size, 0, none⟩ = some (.int .i64 n) ∧ W1.drew.cell? ⟨w.heap.size, 1, none⟩ = some (.slice A l cap)) := Lib.hid (obG (w := W1) P1.out).1
  go_enter Try.func41, Try.ntmps41
  go_wp2_with fail
  rw [← hW1]
  clear hW1
  go_region_held3 (fun w' => w'.cell? ⟨w.heap.size, 0, none⟩ = some (.int .i64 n) ∧ w'.cell? ⟨w.heap.size, 1, none⟩ = some (.slice A l cap)) ((first | exact S0.out | exact S3.out | go_keep))
    (first
      | (go_simp; go_at_call 46; (with_reducible refine (CL.out _ (B1.out.drew)).mono ?_); rintro e w3 ⟨A3, c3, rfl, o3, b3⟩; have S3 : Hid (w3.cell? ⟨w.heap.size, 0, none⟩ = some (.int .i64 n) ∧ w3.cell? ⟨w.heap.size, 1, none⟩ = some (.slice A l cap)) := Lib.hid ⟨(b3.out.cell (p := ⟨w.heap.size, 0, none⟩) (by show w.heap.size < W1.heap.size; rw [Z1.out]; omega)).trans S0.out.1, (b3.out.cell (p := ⟨w.heap.size, 1, none⟩) (by show w.heap.size < W1.heap.size; rw [Z1.out]; omega)).trans S0.out.2⟩; have R3 : Hid (w3.heap[w.heap.size + 1]? = some (.cells #[.int .i64 0, .slice none 0 0] 27 (0, 0))) := Lib.hid ((b3.out.block _ (by show w.heap.size + 1 < W1.heap.size; rw [Z1.out]; omega)).trans R1.out); have z0 := (obG R3.out).1.1; have z1 := (obG R3.out).1.2; have z2 := (obG R3.out).2.1; have z3 := (obG R3.out).2.2))
  have O3 := Lib.hid o3.out
  have B3 := Lib.hid (B1.out.drew.trans (b3.out.mono (by show w.heap.size ≤ W1.heap.size; rw [Z1.out]; omega)))
  have L3 : Hid (OwnE w3 w.heap.size 24 A3 c3 es) := Lib.hid (O3.out.low (by show w.heap.size ≤ W1.heap.size; rw [Z1.out]; omega))
  clear S3 o3 b3
  go_wp2
  exact bodyPost_ret (v := .agg #[.int .i64 n, .slice A3 es.length c3]) (by simp [results, Try.results41, go_sem, z0, z1]) rfl
    ⟨A3, c3, rfl, Lib.hid (L3.out.set2 R3.out (by decide) _ _), Lib.hid ((B3.out.setCell (p := ⟨w.heap.size + 1, 0, none⟩) (by simp) _).setCell (p := ⟨w.heap.size + 1, 1, none⟩) (by simp) _)⟩
end Go.Proofs.Ytgeefkfolejbnaa
