/-
  The reference's gone: one file out of the row.
-/
import Derived.Test.YtmahbcpkilegpaaStoRefRows
import Derived.Test.YtmahbcpkilegpaaLastOp
namespace Go.Proofs.Ytmahbcpkilegpaa
open Go.RowKit St

theorem inv_without {s : S} (h : Inv s) (k : Nat) (hk : k < s.fs.length) : Inv { s with fs := s.fs.take k ++ s.fs.drop (k + 1) } := by
  have e : s.fs.take k ++ s.fs.drop (k + 1) = del (s.fs[k]'hk).nm s.fs := (del_at s.fs k hk h.sorted).symm
  rw [e]
  exact ⟨sorted_del h.sorted, fun f hf => h.names f (mem_del.1 hf).1, fun f hf => h.sure f (mem_del.1 hf).1, Nat.le_trans (total_del_le _ _) h.tot, h.room, Nat.le_trans (List.length_filter_le _ _) h.count, h.fuse, h.keepl⟩
theorem mem_without {l : List F} {k : Nat} {f : F} (h : f ∈ l.take k ++ l.drop (k + 1)) : f ∈ l := by
  rcases List.mem_append.1 h with h | h
  · exact List.mem_of_mem_take h
  · exact List.mem_of_mem_drop h
set_option maxRecDepth 20000 in
set_option maxHeartbeats 4000000 in
theorem rgone_any {R : Nat} {own : Nat → Prop} {s : S} {w : World} {rf : Int} {rk : List Int} {Ad : List UInt8 → Option Addr × Nat} {fa : Option Addr} {fc : Nat} {ka : Option Addr} {kc : Nat} (p : RP w R own s rf rk Ad fa fc ka kc) (k : Nat) (hk : k < s.fs.length) :
    Calls Try.prog 47 #[.pointer (some ⟨R, 0, none⟩), .int .i64 (k : Int)] w fun e w' => e = .returned (.tuple #[]) ∧ ∃ own2 fa2 fc2, RP w' R own2 { s with fs := s.fs.take k ++ s.fs.drop (k + 1) } rf rk Ad fa2 fc2 ka kc ∧ Step own own2 w w' ∧ (∀ j, j < w.heap.size → j ≠ R → w'.heap[j]? = w.heap[j]?) ∧ ∀ j, own j → own2 j := by
  have P := Lib.hid p
  obtain ⟨⟨_, c1, _, _, _⟩, _, f1, _⟩ := obj5 p.rs.obj
  have FZ := Lib.hid f1
  have hcap := ownsRow_capF p.rs.files
  have hn64 := p.rs.inv.count
  have hlen := flat3_len Ad s.fs
  have SRC := Lib.hid (SrcF.of p.rs.files)
  have HK := Lib.hid hk
  obtain ⟨n, hN⟩ : ∃ n, n = s.fs.length := ⟨_, rfl⟩
  have LT : Hid ((flat3 Ad (s.fs.take k)).length = k * 3) := Lib.hid (by rw [flat3_len, List.length_take]; omega)
  have LD : Hid ((flat3 Ad (s.fs.drop (k + 1))).length = (n - (k + 1)) * 3) := Lib.hid (by rw [flat3_len, List.length_drop, hN])
  have S1 : Hid (SrcF w w.heap.size fa (flat3 Ad (s.fs.take k))) := Lib.hid (by rw [← flat3_take]; exact SRC.out.head _)
  have S2 : Hid (SrcF w w.heap.size (tail3 fa fc (k + 1)) (flat3 Ad (s.fs.drop (k + 1)))) := Lib.hid (by rw [← flat3_drop]; exact SRC.out.tail _ _ (by omega))
  rw [← hN] at c1 hk hcap hn64
  have hs1 := fun W => slice_toF fa n fc k (by omega) .i64 W
  have hs2 : ∀ W, (Instr.slice 43 (.slice fa n fc) (some (.int .i64 ((k : Int) + 1))) none none).run Try.prog W = .ok (.slice (tail3 fa fc (k + 1)) (n - (k + 1)) (fc - (k + 1))) W := fun W => slice_fromF fa n fc (k + 1) (by omega) .i64 W
  have hw1 : IntKind.i64.wrap ((k : Int) + 1) = (k : Int) + 1 := IntWalk.i64_in _ (by omega)
  have hkn : k + (n - (k + 1)) ≤ 1000 := by omega
  have hk1 : 0 + k ≤ 1000 := by omega
  have HN := Lib.hid hN
  obtain ⟨n2, hn2⟩ : ∃ n2, k + (n - (k + 1)) = n2 := ⟨_, rfl⟩
  have hkr := Lib.hid hn2
  clear hn2
  have BA : Hid (Below w.heap.size w (w.alloc (.cells #[] 76)).drew) := Lib.hid (((Below.refl _ _).alloc (Nat.le_refl _) _).drew)
  have lR : R < w.heap.size := P.out.lt _ P.out.ownT
  have y1 : (w.alloc (.cells #[] 76)).drew.cell? ⟨R, 1, none⟩ = some (.slice fa n fc) := (BA.out.cell (p := ⟨R, 1, none⟩) lR).trans c1
  have OBJ := Lib.hid p.rs.obj
  clear p hlen hN hcap hn64 hk
  go_enter Try.func47, Try.ntmps47
  go_wp2_with fail
  refine wp_region_C (fun w' => w'.cell? ⟨R, 1, none⟩ = some (.slice fa n fc)) 19 (by kernel_rfl) ?_
  have hS0 : (fun w' : World => w'.cell? ⟨R, 1, none⟩ = some (.slice fa n fc)) w.drew := c1
  refine wpAnyC_take (i := 0) (oi := ?o1) (v := ?v1) ?hi1 (by kernel_rfl) (by kernel_rfl) (by kernel_rfl) ?hQ1 (by kernel_rfl) (by decide) (by kernel_rfl) (Or.inl ⟨?hg1, ?hy1⟩) (by assumption) ?rest1
  case hi1 => (simp only [List.getElem?_toArray, List.getElem?_cons_zero]; exact rfl)
  case hQ1 => exact fun _ _ _ h => h
  case hg1 => rfl
  case hy1 => (intro w' hSw; (try dsimp only at hSw); go_simp; try with_reducible rfl)
  try simp only [Act.put, List.setIfInBounds_toArray, List.set_cons_zero, List.set_cons_succ]
  refine wpAnyC_take (i := 2) (oi := ?o2) (v := ?v2) ?hi2 (by kernel_rfl) (by kernel_rfl) (by kernel_rfl) ?hQ2 (by kernel_rfl) (by decide) (by kernel_rfl) (Or.inl ⟨?hg2, ?hy2⟩) (by assumption) ?rest2
  case hi2 => (simp only [List.getElem?_toArray, List.getElem?_cons_zero, List.getElem?_cons_succ]; exact rfl)
  case hQ2 => exact fun _ _ _ h => h
  case hg2 => rfl
  case hy2 => (intro w' hSw; (try dsimp only at hSw); go_simp; try with_reducible rfl)
  try simp only [Act.put, List.setIfInBounds_toArray, List.set_cons_zero, List.set_cons_succ]
  refine wpAnyC_take (i := 3) (oi := ?o3) (v := ?v3) ?hi3 (by kernel_rfl) (by kernel_rfl) (by kernel_rfl) ?hQ3 (by kernel_rfl) (by decide) (by kernel_rfl) (Or.inl ⟨?hg3, ?hy3⟩) (by assumption) ?rest3
  case hi3 => (simp only [List.getElem?_toArray, List.getElem?_cons_zero, List.getElem?_cons_succ]; exact rfl)
  case hQ3 => exact fun _ _ _ h => h
  case hg3 => rfl
  case hy3 => (intro w' hSw; (try dsimp only at hSw); go_simp; try with_reducible rfl)
  try simp only [Act.put, List.setIfInBounds_toArray, List.set_cons_zero, List.set_cons_succ]
  refine wpAnyC_take (i := 4) (oi := ?o4) (v := ?v4) ?hi4 (by kernel_rfl) (by kernel_rfl) (by kernel_rfl) ?hQ4 (by kernel_rfl) (by decide) (by kernel_rfl) (Or.inl ⟨?hg4, ?hy4⟩) (by assumption) ?rest4
  case hi4 => (simp only [List.getElem?_toArray, List.getElem?_cons_zero, List.getElem?_cons_succ]; exact rfl)
  case hQ4 => exact fun _ _ _ h => h
  case hg4 => rfl
  case hy4 => (intro w' hSw; (try dsimp only at hSw); go_simp; try with_reducible rfl)
  try simp only [Act.put, List.setIfInBounds_toArray, List.set_cons_zero, List.set_cons_succ]
  refine wpAnyC_take (i := 5) (oi := ?o5) (v := ?v5) ?hi5 (by kernel_rfl) (by kernel_rfl) (by kernel_rfl) ?hQ5 (by kernel_rfl) (by decide) (by kernel_rfl) (Or.inl ⟨?hg5, ?hy5⟩) (by assumption) ?rest5
  case hi5 => (simp only [List.getElem?_toArray, List.getElem?_cons_zero, List.getElem?_cons_succ]; exact rfl)
  case hQ5 => exact fun _ _ _ h => h
  case hg5 => rfl
  case hy5 => (intro w' hSw; (try dsimp only at hSw); go_simp; try with_reducible rfl)
  try simp only [Act.put, List.setIfInBounds_toArray, List.set_cons_zero, List.set_cons_succ]
  refine wpAnyC_take (i := 6) (oi := ?o6) (v := ?v6) ?hi6 (by kernel_rfl) (by kernel_rfl) (by kernel_rfl) ?hQ6 (by kernel_rfl) (by decide) (by kernel_rfl) (Or.inl ⟨?hg6, ?hy6⟩) (by assumption) ?rest6
  case hi6 => (simp only [List.getElem?_toArray, List.getElem?_cons_zero, List.getElem?_cons_succ]; exact rfl)
  case hQ6 => exact fun _ _ _ h => h
  case hg6 => rfl
  case hy6 => (intro w' hSw; (try dsimp only at hSw); go_simp; try with_reducible rfl)
  try simp only [Act.put, List.setIfInBounds_toArray, List.set_cons_zero, List.set_cons_succ]
  refine wpAnyC_take (i := 7) (oi := ?o7) (v := ?v7) ?hi7 (by kernel_rfl) (by kernel_rfl) (by kernel_rfl) ?hQ7 (by kernel_rfl) (by decide) (by kernel_rfl) (Or.inl ⟨?hg7, ?hy7⟩) (by assumption) ?rest7
  case hi7 => (simp only [List.getElem?_toArray, List.getElem?_cons_zero, List.getElem?_cons_succ]; exact rfl)
  case hQ7 => exact fun _ _ _ h => h
  case hg7 => rfl
  case hy7 => (intro w' hSw; (try dsimp only at hSw); go_simp; try with_reducible rfl)
  try simp only [Act.put, List.setIfInBounds_toArray, List.set_cons_zero, List.set_cons_succ]
  refine wpAnyC_take (i := 9) (oi := ?o8) (v := ?v8) ?hi8 (by kernel_rfl) (by kernel_rfl) (by kernel_rfl) ?hQ8 (by kernel_rfl) (by decide) (by kernel_rfl) (Or.inl ⟨?hg8, ?hy8⟩) (by assumption) ?rest8
  case hi8 => (simp only [List.getElem?_toArray, List.getElem?_cons_zero, List.getElem?_cons_succ]; exact rfl)
  case hQ8 => exact fun _ _ _ h => h
  case hg8 => rfl
  case hy8 => (intro w' hSw; (try dsimp only at hSw); go_simp; try with_reducible rfl)
  try simp only [Act.put, List.setIfInBounds_toArray, List.set_cons_zero, List.set_cons_succ]
  refine wpAnyC_take (i := 10) (oi := ?o9) (v := ?v9) ?hi9 (by kernel_rfl) (by kernel_rfl) (by kernel_rfl) ?hQ9 (by kernel_rfl) (by decide) (by kernel_rfl) (Or.inl ⟨?hg9, ?hy9⟩) (by assumption) ?rest9
  case hi9 => (simp only [List.getElem?_toArray, List.getElem?_cons_zero, List.getElem?_cons_succ]; exact rfl)
  case hQ9 => exact fun _ _ _ h => h
  case hg9 => rfl
  case hy9 => (intro w' hSw; (try dsimp only at hSw); go_simp; try with_reducible rfl)
  try simp only [Act.put, List.setIfInBounds_toArray, List.set_cons_zero, List.set_cons_succ]
  refine wpAnyC_take (i := 11) (oi := ?o10) (v := ?v10) ?hi10 (by kernel_rfl) (by kernel_rfl) (by kernel_rfl) ?hQ10 (by kernel_rfl) (by decide) (by kernel_rfl) (Or.inl ⟨?hg10, ?hy10⟩) (by assumption) ?rest10
  case hi10 => (simp only [List.getElem?_toArray, List.getElem?_cons_zero, List.getElem?_cons_succ]; exact rfl)
  case hQ10 => exact fun _ _ _ h => h
  case hg10 => rfl
  case hy10 => (intro w' hSw; (try dsimp only at hSw); go_simp; try with_reducible rfl)
  try simp only [Act.put, List.setIfInBounds_toArray, List.set_cons_zero, List.set_cons_succ]
  refine wpAnyC_take (i := 12) (oi := ?o11) (v := ?v11) ?hi11 (by kernel_rfl) (by kernel_rfl) (by kernel_rfl) ?hQ11 (by kernel_rfl) (by decide) (by kernel_rfl) (Or.inl ⟨?hg11, ?hy11⟩) (by assumption) ?rest11
  case hi11 => (simp only [List.getElem?_toArray, List.getElem?_cons_zero, List.getElem?_cons_succ]; exact rfl)
  case hQ11 => exact fun _ _ _ h => h
  case hg11 => rfl
  case hy11 => (intro w' hSw; (try dsimp only at hSw); go_simp; try with_reducible rfl)
  try simp only [Act.put, List.setIfInBounds_toArray, List.set_cons_zero, List.set_cons_succ]
  refine wpAnyC_take (i := 13) (oi := ?o12) (v := ?v12) ?hi12 (by kernel_rfl) (by kernel_rfl) (by kernel_rfl) ?hQ12 (by kernel_rfl) (by decide) (by kernel_rfl) (Or.inl ⟨?hg12, ?hy12⟩) (by assumption) ?rest12
  case hi12 => (simp only [List.getElem?_toArray, List.getElem?_cons_zero, List.getElem?_cons_succ]; exact rfl)
  case hQ12 => exact fun _ _ _ h => h
  case hg12 => rfl
  case hy12 => (intro w' hSw; (try dsimp only at hSw); go_simp; try with_reducible rfl)
  try simp only [Act.put, List.setIfInBounds_toArray, List.set_cons_zero, List.set_cons_succ]
  refine wpAnyC_take (i := 14) (oi := ?o13) (v := ?v13) ?hi13 (by kernel_rfl) (by kernel_rfl) (by kernel_rfl) ?hQ13 (by kernel_rfl) (by decide) (by kernel_rfl) (Or.inl ⟨?hg13, ?hy13⟩) (by assumption) ?rest13
  case hi13 => (simp only [List.getElem?_toArray, List.getElem?_cons_zero, List.getElem?_cons_succ]; exact rfl)
  case hQ13 => exact fun _ _ _ h => h
  case hg13 => rfl
  case hy13 => (intro w' hSw; (try dsimp only at hSw); go_simp; try with_reducible rfl)
  try simp only [Act.put, List.setIfInBounds_toArray, List.set_cons_zero, List.set_cons_succ]
  refine wpAnyC_take (i := 15) (oi := ?o14) (v := ?v14) ?hi14 (by kernel_rfl) (by kernel_rfl) (by kernel_rfl) ?hQ14 (by kernel_rfl) (by decide) (by kernel_rfl) (Or.inl ⟨?hg14, ?hy14⟩) (by assumption) ?rest14
  case hi14 => (simp only [List.getElem?_toArray, List.getElem?_cons_zero, List.getElem?_cons_succ]; exact rfl)
  case hQ14 => exact fun _ _ _ h => h
  case hg14 => rfl
  case hy14 => (intro w' hSw; (try dsimp only at hSw); go_simp; try with_reducible rfl)
  try simp only [Act.put, List.setIfInBounds_toArray, List.set_cons_zero, List.set_cons_succ]
  have hS1 : (fun w' : World => w'.cell? ⟨R, 1, none⟩ = some (.slice fa n fc)) (w.alloc (.cells #[] 76)).drew := y1
  refine wpAnyC_one (i := 1) (oi := ?o15) ?hi15 (by kernel_rfl) ?step15
  case hi15 => (simp only [List.getElem?_toArray, List.getElem?_cons_zero, List.getElem?_cons_succ]; exact rfl)
  intro K' hK
  go_simp
  refine hK.out _ _ ?_ (fun hHeld => ?_)
  · exact fun _ => y1
  clear hK K' hHeld
  try simp only [Act.put, List.setIfInBounds_toArray, List.set_cons_zero, List.set_cons_succ]
  refine wpAnyC_one (i := 8) (oi := ?o16) ?hi16 (by kernel_rfl) ?step16
  case hi16 => (simp only [List.getElem?_toArray, List.getElem?_cons_zero, List.getElem?_cons_succ]; exact rfl)
  intro K' hK
  (refine step_appF (by rfl) _ _ (by rfl) (by rfl) (base := w.heap.size) (ownsRow_keep (startF w) (fun _ _ => rfl)) (by simp) (by rfl) (S1.out.below BA.out) LT.out (flat3_one _ _) hk1 (Nat.zero_add k) ?_; intro A5 c5 w5 o5 b5 _; have B5 := Lib.hid (BA.out.trans b5); have O5 := Lib.hid o5; have y2 := (B5.out.cell (p := ⟨R, 1, none⟩) lR).trans c1; clear o5 b5)
  refine hK.out _ _ ?_ (fun hHeld => ?_)
  · exact fun _ => y2
  clear hK K' hHeld
  try simp only [Act.put, List.setIfInBounds_toArray, List.set_cons_zero, List.set_cons_succ]
  have hS2 : (fun w' : World => w'.cell? ⟨R, 1, none⟩ = some (.slice fa n fc)) w5 := y2
  refine wpAnyC_one (i := 16) (oi := ?o17) ?hi17 (by kernel_rfl) ?step17
  case hi17 => (simp only [List.getElem?_toArray, List.getElem?_cons_zero, List.getElem?_cons_succ]; exact rfl)
  intro K' hK
  (refine step_appF (by rfl) _ _ (by rfl) (by rfl) (base := w.heap.size) O5.out B5.out.size (by rfl) (S2.out.below B5.out) LD.out (flat3_one _ _) hkn hkr.out ?_; intro A6 c6 w6 o6 b6 _; have B6 := Lib.hid (B5.out.trans b6); have O6 := Lib.hid o6; have y3 : w6.frozen? ⟨R, 1, none⟩ = false := (by have := FZ.out; simp only [World.frozen?] at this ⊢; rw [B6.out.block R lR]; exact this); have y4 := (B6.out.cell (p := ⟨R, 1, none⟩) lR).trans c1; clear o6 b6)
  refine hK.out _ _ ?_ (fun hHeld => ?_)
  · exact fun _ => y4
  clear hK K' hHeld
  try simp only [Act.put, List.setIfInBounds_toArray, List.set_cons_zero, List.set_cons_succ]
  have hS3 : (fun w' : World => w'.cell? ⟨R, 1, none⟩ = some (.slice fa n fc)) w6 := y4
  refine wpAnyC_one (i := 17) (oi := ?o51) ?hi51 (by kernel_rfl) ?step51
  case hi51 => (simp only [List.getElem?_toArray, List.getElem?_cons_zero, List.getElem?_cons_succ]; exact rfl)
  intro K' hK
  go_simp
  refine hK.out _ _ ?_ (fun hHeld => ?_)
  · exact fun _ => y4
  clear hK K' hHeld
  try simp only [Act.put, List.setIfInBounds_toArray, List.set_cons_zero, List.set_cons_succ]
  refine wpAnyC_one (i := 18) (oi := ?o52) ?hi52 (by kernel_rfl) ?step52
  case hi52 => (simp only [List.getElem?_toArray, List.getElem?_cons_zero, List.getElem?_cons_succ]; exact rfl)
  intro K' hK
  go_simp
  refine hK.out _ _ ?_ (fun hHeld => ?_)
  · exact fun _ => y4
  clear hK K' hHeld
  try simp only [Act.put, List.setIfInBounds_toArray, List.set_cons_zero, List.set_cons_succ]
  refine wpAnyC_one (i := 19) (oi := ?o20) ?hi20 (by kernel_rfl) ?step20
  case hi20 => (simp only [List.getElem?_toArray, List.getElem?_cons_zero, List.getElem?_cons_succ]; exact rfl)
  intro K' hK
  go_simp
  refine hK.out _ _ ?_ (fun hHeld => ?_)
  · exact fun h => (by cases h)
  clear hK K' hHeld
  try simp only [Act.put, List.setIfInBounds_toArray, List.set_cons_zero, List.set_cons_succ]
  refine wpAnyC_done (by kernel_rfl) ?_ _
  all_goals
    go_wp2
    refine bodyPost_end (results_none rfl _ _ _) rfl ?_
    have H := P.out.newrow (w6 := w6) (l := s.fs.take k ++ s.fs.drop (k + 1)) (Ad' := Ad) (A6 := A6) (n6 := n2) (c6 := c6) B6.out (by rw [List.length_append, List.length_take, List.length_drop, ← hkr.out, HN.out]; have := HK.out; omega) (by rw [flat3_app]; exact O6.out) (inv_without P.out.rs.inv k HK.out)
      (fun f hf => .inl ⟨f, mem_without hf, rfl, rfl⟩) (fun f hf g hg hne => P.out.apart f (mem_without hf) g (mem_without hg) hne)
    first
      | exact ⟨rfl, _, _, _, H.1, H.2.1, H.2.2, fun _ h => .inl h⟩
      | exact ⟨rfl, _, ⟨_, _, H.1⟩, H.2.1, H.2.2, fun _ h => .inl h⟩
end Go.Proofs.Ytmahbcpkilegpaa
