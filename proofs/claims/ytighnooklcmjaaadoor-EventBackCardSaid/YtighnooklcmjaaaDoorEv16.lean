/-
  Part 16 of the texts behind the law: EvEq.
-/
import Derived.Test.YtighnooklcmjaaaDoorEv14
import Derived.Laws.StructEq
/-
  Events compared.
-/
namespace Go.Proofs.YtighnooklcmjaaaDoor
open Go.RowKit
theorem wf_i64 {a : Int} (h : is64 a) : (Lit.int .i64 a).wf = true := by
  unfold is64 at h
  simpa [Lit.wf, IntKind.min, IntKind.max, IntKind.bits, IntKind.signed] using h
theorem int_cellsE : Tryd.prog.cellsOf 3 = 1 := by kernel_rfl
theorem int64_cellsE : Tryd.prog.cellsOf 2 = 1 := by kernel_rfl
theorem str_cellsE : Tryd.prog.cellsOf 9 = 1 := by kernel_rfl
/-- An event as literals. -/
def evl (e : Ev.E) : List Lit := [.int .i64 e.kind, .int .i64 e.run, .int .i64 e.task, .int .i64 e.try_, .int .i64 e.n, .string e.name.data.toList, .string e.key.data.toList, .string e.data.data.toList]
theorem evl_inj (a b : Ev.E) : evl a = evl b ↔ a = b := by
  constructor
  · intro h
    unfold evl at h
    simp only [List.cons.injEq, Lit.int.injEq, Lit.string.injEq, true_and, and_true, Array.toList_inj] at h
    obtain ⟨h1, h2, h3, h4, h5, h6, h7, h8⟩ := h
    obtain ⟨k, r, t, y, n, na, ke, da⟩ := a
    obtain ⟨k', r', t', y', n', na', ke', da'⟩ := b
    simp only at *
    obtain ⟨na⟩ := na
    obtain ⟨ke⟩ := ke
    obtain ⟨da⟩ := da
    obtain ⟨na'⟩ := na'
    obtain ⟨ke'⟩ := ke'
    obtain ⟨da'⟩ := da'
    simp only at *
    subst h1 h2 h3 h4 h5 h6 h7 h8
    rfl
  · rintro rfl; rfl
theorem ev_cells : Tryd.prog.cellsOf 24 = 8 := by kernel_rfl
theorem ev_key : Tryd.prog.keyTypeAt 2 24 = true := by kernel_rfl
theorem ev_lits (e : Ev.E) (h : EvIn e) : Tryd.prog.keyLits 2 24 (evc e).toList = some (evl e) := by
  have h1 : ∀ x : Int, is64 x → Tryd.prog.keyLits 1 3 [.int .i64 x] = some [.int .i64 x] := fun x hx => by
    have := wf_i64 hx
    simp [Program.keyLits, Tryd.underlying3, this]
  have h2 : ∀ x : Int, is64 x → Tryd.prog.keyLits 1 2 [.int .i64 x] = some [.int .i64 x] := fun x hx => by
    have := wf_i64 hx
    simp [Program.keyLits, Tryd.underlying2, this]
  have h3 : ∀ s : ByteArray, s.size ≤ 9223372036854775807 → Tryd.prog.keyLits 1 9 [.string s] = some [.string s.data.toList] := fun s hs => by
    simp [Program.keyLits, Tryd.underlying9]
    exact hs
  conv => lhs; unfold Program.keyLits
  simp only [Tryd.underlying24, ev_cells]
  unfold evc evl
  simp [h1 _ h.kind, h1 _ h.run, h1 _ h.task, h1 _ h.try_, h2 _ h.n, h3 _ h.name, h3 _ h.key, h3 _ h.data, int_cellsE, int64_cellsE, str_cellsE]
theorem ev_formed (e : Ev.E) : (Value.agg (evc e)).formed Tryd.prog 24 = true := by simp [Value.formed, Tryd.underlying24, ev_cells, evc]
theorem ev_run (a b : Ev.E) (ha : EvIn a) (hb : EvIn b) (W : World) : (Op.equalIn 10000 24 (.agg (evc a)) (.agg (evc b))).run Tryd.prog W = .ok (decide (a = b)) W := by
  obtain ⟨r, hr, hiff⟩ := run_equalIn_deep 9998 2 24 ev_key W 2 2 (.agg (evc a)) (.agg (evc b)) _ _ (ev_formed a) (ev_formed b) (ev_lits a ha) (ev_lits b hb)
  rw [hr]
  have e : r = decide (a = b) := by
    rw [Bool.eq_iff_iff, hiff, evl_inj]
    simp
  rw [e]
theorem ev_eql (a b : Ev.E) (ha : EvIn a) (hb : EvIn b) (W : World) : (binOp .eql 24 (.agg (evc a)) (.agg (evc b))).run Tryd.prog W = .ok (.bool (decide (a = b))) W := by
  rw [run_eql_struct, ev_run a b ha hb]; rfl
theorem ev_neq (a b : Ev.E) (ha : EvIn a) (hb : EvIn b) (W : World) : (binOp .neq 24 (.agg (evc a)) (.agg (evc b))).run Tryd.prog W = .ok (.bool (!decide (a = b))) W := by
  rw [run_neq_struct, ev_run a b ha hb]; rfl
theorem rf_cells : Tryd.prog.cellsOf 33 = 8 := by kernel_rfl
theorem rf_key : Tryd.prog.keyTypeAt 2 33 = true := by kernel_rfl
theorem rf_lits (e : Ev.E) (h : EvIn e) : Tryd.prog.keyLits 2 33 (evc e).toList = some (evl e) := by
  have h1 : ∀ x : Int, is64 x → Tryd.prog.keyLits 1 3 [.int .i64 x] = some [.int .i64 x] := fun x hx => by
    have := wf_i64 hx
    simp [Program.keyLits, Tryd.underlying3, this]
  have h2 : ∀ x : Int, is64 x → Tryd.prog.keyLits 1 2 [.int .i64 x] = some [.int .i64 x] := fun x hx => by
    have := wf_i64 hx
    simp [Program.keyLits, Tryd.underlying2, this]
  have h3 : ∀ s : ByteArray, s.size ≤ 9223372036854775807 → Tryd.prog.keyLits 1 9 [.string s] = some [.string s.data.toList] := fun s hs => by
    simp [Program.keyLits, Tryd.underlying9]
    exact hs
  conv => lhs; unfold Program.keyLits
  simp only [Tryd.underlying33, rf_cells]
  unfold evc evl
  simp [h1 _ h.kind, h1 _ h.run, h1 _ h.task, h1 _ h.try_, h2 _ h.n, h3 _ h.name, h3 _ h.key, h3 _ h.data, int_cellsE, int64_cellsE, str_cellsE]
theorem rf_formed (e : Ev.E) : (Value.agg (evc e)).formed Tryd.prog 33 = true := by simp [Value.formed, Tryd.underlying33, rf_cells, evc]
theorem rf_run (a b : Ev.E) (ha : EvIn a) (hb : EvIn b) (W : World) : (Op.equalIn 10000 33 (.agg (evc a)) (.agg (evc b))).run Tryd.prog W = .ok (decide (a = b)) W := by
  obtain ⟨r, hr, hiff⟩ := run_equalIn_deep 9998 2 33 rf_key W 2 2 (.agg (evc a)) (.agg (evc b)) _ _ (rf_formed a) (rf_formed b) (rf_lits a ha) (rf_lits b hb)
  rw [hr]
  have e : r = decide (a = b) := by
    rw [Bool.eq_iff_iff, hiff, evl_inj]
    simp
  rw [e]
theorem rf_eql (a b : Ev.E) (ha : EvIn a) (hb : EvIn b) (W : World) : (binOp .eql 33 (.agg (evc a)) (.agg (evc b))).run Tryd.prog W = .ok (.bool (decide (a = b))) W := by
  rw [run_eql_struct, rf_run a b ha hb]; rfl
theorem rf_neq (a b : Ev.E) (ha : EvIn a) (hb : EvIn b) (W : World) : (binOp .neq 33 (.agg (evc a)) (.agg (evc b))).run Tryd.prog W = .ok (.bool (!decide (a = b))) W := by
  rw [run_neq_struct, rf_run a b ha hb]; rfl
end Go.Proofs.YtighnooklcmjaaaDoor
