/-
  A register in memory: its object, its row of states; New, Get, Swap, Log.
-/
import Derived.Test.YtjagkolagmlakaaArbTurn
import Derived.Test.YtjagkolagmlakaaOnly
namespace Go.Proofs.Ytjagkolagmlakaa
open Go.RowKit
/-- The register at block g, whose states so far are L; O: its blocks. -/
structure AR (w : World) (g : Nat) (O : Nat → Prop) (L : List Ar.S) : Prop where
  row : ∃ A cap, w.heap[g]? = some (.cells #[.slice A L.length cap] 46 (0, 0)) ∧ OwnK w 0 26 4 A cap (L.map Ar.S.cells) ∧ ∀ a, A = some a → O a.block
  own : O g
  lt : ∀ k, O k → k < w.heap.size
  some_ : 0 < L.length
theorem AR.keep {w w' : World} {g : Nat} {O : Nat → Prop} {L : List Ar.S} (h : AR w g O L) (hs : w.heap.size ≤ w'.heap.size) (hb : ∀ k, O k → w'.heap[k]? = w.heap[k]?) : AR w' g O L := by
  obtain ⟨A, cap, h1, h2, h3⟩ := h.row
  exact ⟨⟨A, cap, (hb g h.own).trans h1, h2.keep fun a ha => hb _ (h3 a ha), h3⟩, h.own, fun k hk => Nat.lt_of_lt_of_le (h.lt k hk) hs, h.some_⟩
theorem AR.grew {w w' : World} {g : Nat} {O : Nat → Prop} {L : List Ar.S} (h : AR w g O L) (hb : Below w.heap.size w w') : AR w' g O L := h.keep hb.size fun k hk => hb.block k (h.lt k hk)
theorem cells_wide (L : List Ar.S) : Wide 4 (L.map Ar.S.cells) := fun v hv => by
  obtain ⟨s, _, rfl⟩ := List.mem_map.1 hv
  refine ⟨rfl, fun u hu => ?_⟩
  simp only [Ar.S.cells, List.mem_cons, List.not_mem_nil, or_false] at hu
  rcases hu with rfl | rfl | rfl | rfl <;> rfl
theorem map_getD (L : List Ar.S) (i : Nat) (h : i < L.length) : (L.map Ar.S.cells).getD i [] = (L.getD i Ar.zero).cells := by
  rw [List.getD_eq_getElem?_getD, List.getD_eq_getElem?_getD, List.getElem?_map, List.getElem?_eq_getElem h]; rfl
/-- The cells of the state i of a row. -/
theorem row_cells {w : World} {base g cap : Nat} {L : List Ar.S} (h : OwnK w base 26 4 (some ⟨g, 0, none⟩) cap (L.map Ar.S.cells)) {i : Nat} (hi : i < L.length) :
    w.cell? ⟨g, i * 4, none⟩ = some (.int .i64 (L.getD i Ar.zero).ep) ∧ w.cell? ⟨g, i * 4 + 1, none⟩ = some (.int .i64 (L.getD i Ar.zero).ho) ∧ w.cell? ⟨g, i * 4 + 2, none⟩ = some (.bool (L.getD i Ar.zero).so) ∧ w.cell? ⟨g, i * 4 + 3, none⟩ = some (.int .i64 (L.getD i Ar.zero).fl) := by
  have hl : i < (L.map Ar.S.cells).length := by simpa using hi
  have e := map_getD L i hi
  exact ⟨h.cell hl (j := 0) (by decide) (by rw [e]; rfl), h.cell hl (j := 1) (by decide) (by rw [e]; rfl), h.cell hl (j := 2) (by decide) (by rw [e]; rfl), h.cell hl (j := 3) (by decide) (by rw [e]; rfl)⟩
theorem last_getD {L : List Ar.S} {s : Ar.S} (h : L.getLast? = some s) : L.getD (L.length - 1) Ar.zero = s ∧ 0 < L.length := by
  rw [List.getLast?_eq_getElem?] at h
  obtain ⟨h1, h2⟩ := List.getElem?_eq_some_iff.1 h
  rw [List.getD_eq_getElem?_getD, List.getElem?_eq_getElem h1]
  exact ⟨h2, by omega⟩
theorem st_info : (Try.prog.info? 26).map (fun i => (i.zero, i.size, i.bytes)) = some (some (.agg #[.int .i64 0, .int .i64 0, .bool false, .int .i64 0]), 4, 32) := by kernel_rfl
set_option maxHeartbeats 1000000 in
theorem get_any (g : Nat) (O : Nat → Prop) (L : List Ar.S) (s : Ar.S) (hs : L.getLast? = some s) (hl : L.length ≤ 1000000000) (w : World) (h : AR w g O L) :
    Calls Try.prog 11 #[.pointer (some ⟨g, 0, none⟩)] w (OnePost w s) := by
  obtain ⟨A, cap, h1, h2, h3⟩ := h.row
  obtain ⟨e1, e2⟩ := last_getD hs
  obtain ⟨r, rfl, -, hr⟩ := h2.shape (by simpa using e2)
  have hc := row_cells h2 (i := L.length - 1) (by omega)
  rw [e1] at hc
  obtain ⟨m, hm⟩ : ∃ m, L.length = m + 1 := ⟨L.length - 1, by omega⟩
  rw [hm] at h1 hl hc
  rw [Nat.add_sub_cancel] at hc
  obtain ⟨c0, c1, c2, c3⟩ := hc
  have hg := lt_of_block h1
  have o0 : w.cell? ⟨g, 0, none⟩ = some (.slice (some ⟨r, 0, none⟩) (m + 1) cap) := by simp [World.cell?, h1]
  clear h1 h2 h3 h e1 e2 hm hs
  obtain ⟨se, sh, ss, sf⟩ := s
  go_enter Try.func11, Try.ntmps11
  go_wp2_with fail
  go_region
  go_wp2
  exact bodyPost_ret (v := .agg #[.int .i64 se, .int .i64 sh, .bool ss, .int .i64 sf]) (by simp [results, Try.results11, go_sem]) rfl ⟨rfl, Lib.hid (below_n ((Below.refl _ _).alloc (Nat.le_refl _) _) 1)⟩
/-- '==' and '!=' at two states. -/
theorem st_guard : Try.prog.eqGuardType Try.prog.depth 26 = false := by kernel_rfl
theorem st_eql (s t : Ar.S) (W : World) : (binOp .eql 26 s.val t.val).run Try.prog W = .ok (.bool (Ar.eqS s t)) W := by
  have hS : Try.prog.underlying 26 = some (.struct (Try.prog.fieldsOf 26)) := by kernel_rfl
  have hp : Try.prog.stoodInHeld 26 = false := by kernel_rfl
  have u2 := Try.underlying2
  have u3 := Try.underlying3
  have u4 := Try.underlying4
  obtain ⟨a, b, c, d⟩ := s
  obtain ⟨a', b', c', d'⟩ := t
  simp only [Ar.S.val, Ar.eqS]
  rw [run_eql_struct, show (10000 : Nat) = 9999 + 1 from rfl, run_equalIn_agg W 9999 26 _ _ hS hp]
  simp only [Program.fieldsOf, Try.underlying26]
  go_simp
  by_cases h1 : a = a' <;> by_cases h2 : b = b' <;> by_cases h3 : c = c' <;> by_cases h4 : d = d' <;> simp [h1, h2, h3, h4]
theorem st_neq (s t : Ar.S) (W : World) : (binOp .neq 26 s.val t.val).run Try.prog W = .ok (.bool (!(Ar.eqS s t))) W := by
  have h := st_eql s t W
  unfold Ar.S.val at *
  rw [run_eql_struct] at h
  rw [run_neq_struct]
  generalize (Op.equalIn 10000 _ _ _).run Try.prog W = r at *
  cases r with
  | ok b w' =>
    simp only [Result.andThen_ok] at h ⊢
    injection h with h1 h2
    injection h1 with h1
    rw [h1, h2]
  | halt x w' => simp [Result.andThen] at h
/-- What New leaves. -/
def NewPost (w : World) (e : Ending) (w' : World) : Prop := ∃ g, e = .returned (.pointer (some ⟨g, 0, none⟩)) ∧ Hid (AR w' g (fun k => w.heap.size ≤ k ∧ k < w'.heap.size) [Ar.first]) ∧ Hid (Below w.heap.size w w')
set_option maxHeartbeats 1000000 in
theorem new_any (w : World) : Calls Try.prog 9 #[] w (NewPost w) := by
  go_enter Try.func9, Try.ntmps9
  go_wp2
  go_ret
  refine ⟨w.heap.size + 1, rfl, Lib.hid ⟨⟨some ⟨w.heap.size, 0, none⟩, 1, new1 _ _ _, ?_, fun a ha => ?_⟩, ⟨by omega, by simp⟩, fun k hk => hk.2, by simp⟩, Lib.hid (two_below _ _ _)⟩
  · refine ((OwnK.lit (T := 26) [Ar.first.cells] (cells_wide [Ar.first]) (by decide) _ rfl).low (Nat.zero_le _)).grew (B := w.heap.size + 1) ((Below.refl _ _).alloc (by simp) _) (by simp)
  · injection ha with ha
    subst ha
    exact ⟨by simp, by simp; omega⟩
end Go.Proofs.Ytjagkolagmlakaa
