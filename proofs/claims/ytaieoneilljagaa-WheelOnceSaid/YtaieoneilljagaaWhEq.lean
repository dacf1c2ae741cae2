/-
  Keys and timers of the program compared.
-/
import Derived.Test.YtaieoneilljagaaWhRows
import Derived.Laws.StructEq
namespace Go.Proofs.Ytaieoneilljagaa
open Go.RowKit
theorem wf_is {a : Int} (h : is64 a) : (Lit.int .i64 a).wf = true := by
  unfold is64 at h
  simpa [Lit.wf, IntKind.min, IntKind.max, IntKind.bits, IntKind.signed] using h
theorem keq_cells : Try.prog.cellsOf 28 = 2 := by kernel_rfl
theorem deq_cells : Try.prog.cellsOf 56 = 3 := by kernel_rfl
theorem int_cellsW : Try.prog.cellsOf 3 = 1 := by kernel_rfl
theorem int64_cellsW : Try.prog.cellsOf 2 = 1 := by kernel_rfl
theorem keq_key : Try.prog.keyTypeAt 2 28 = true := by kernel_rfl
theorem deq_key : Try.prog.keyTypeAt 3 56 = true := by kernel_rfl
theorem keq_lits (d : Nat) (a b : Int) (ha : is64 a) (hb : is64 b) : Try.prog.keyLits (d + 2) 28 [.int .i64 a, .int .i64 b] = some [.int .i64 a, .int .i64 b] := by
  have ha := wf_is ha
  have hb := wf_is hb
  have h1 : ∀ x : Int, (Lit.int .i64 x).wf = true → Try.prog.keyLits (d + 1) 3 [.int .i64 x] = some [.int .i64 x] := fun x hx => by
    simp [Program.keyLits, Try.underlying3, hx]
  conv => lhs; unfold Program.keyLits
  simp only [Try.underlying28, keq_cells]
  simp [h1 a ha, h1 b hb, int_cellsW]
theorem deq_lits (a b c : Int) (ha : is64 a) (hb : is64 b) (hc : is64 c) : Try.prog.keyLits 3 56 [.int .i64 a, .int .i64 b, .int .i64 c] = some [.int .i64 a, .int .i64 b, .int .i64 c] := by
  have h0 := keq_lits 0 a b ha hb
  have hc := wf_is hc
  have h1 : ∀ x : Int, (Lit.int .i64 x).wf = true → Try.prog.keyLits 2 2 [.int .i64 x] = some [.int .i64 x] := fun x hx => by
    simp [Program.keyLits, Try.underlying2, hx]
  conv => lhs; unfold Program.keyLits
  simp only [Try.underlying56, deq_cells]
  simp [h0, h1 c hc, keq_cells, int64_cellsW]
theorem keq_neq (a b c d : Int) (ha : is64 a) (hb : is64 b) (hc : is64 c) (hd : is64 d) (W : World) :
    (binOp .neq 28 (.agg #[.int .i64 a, .int .i64 b]) (.agg #[.int .i64 c, .int .i64 d])).run Try.prog W = .ok (.bool (!((a == c) && (b == d)))) W := by
  have hf : ∀ x y : Int, (Value.agg #[.int .i64 x, .int .i64 y]).formed Try.prog 28 = true := fun x y => by simp [Value.formed, Try.underlying28, keq_cells]
  obtain ⟨r, hr, hiff⟩ := run_equalIn_deep 9998 2 28 keq_key W 2 2 (.agg #[.int .i64 a, .int .i64 b]) (.agg #[.int .i64 c, .int .i64 d]) _ _ (hf a b) (hf c d) (keq_lits 0 a b ha hb) (keq_lits 0 c d hc hd)
  rw [run_neq_struct, hr]
  have e : r = ((a == c) && (b == d)) := by
    rw [Bool.eq_iff_iff, hiff]
    simp
  rw [e]; rfl
theorem deq_eql (a b c a' b' c' : Int) (ha : Wh.T.ok ⟨a, b, c⟩) (hb : Wh.T.ok ⟨a', b', c'⟩) (W : World) :
    (binOp .eql 56 (.agg #[.int .i64 a, .int .i64 b, .int .i64 c]) (.agg #[.int .i64 a', .int .i64 b', .int .i64 c'])).run Try.prog W = .ok (.bool (decide ((⟨a, b, c⟩ : Wh.T) = ⟨a', b', c'⟩))) W := by
  have hf : ∀ x y z : Int, (Value.agg #[.int .i64 x, .int .i64 y, .int .i64 z]).formed Try.prog 56 = true := fun x y z => by simp [Value.formed, Try.underlying56, deq_cells]
  obtain ⟨r, hr, hiff⟩ := run_equalIn_deep 9997 3 56 deq_key W 3 3 (.agg #[.int .i64 a, .int .i64 b, .int .i64 c]) (.agg #[.int .i64 a', .int .i64 b', .int .i64 c']) _ _ (hf a b c) (hf a' b' c') (deq_lits a b c ha.1 ha.2.1 ha.2.2) (deq_lits a' b' c' hb.1 hb.2.1 hb.2.2)
  rw [run_eql_struct, hr]
  have e : r = decide ((⟨a, b, c⟩ : Wh.T) = ⟨a', b', c'⟩) := by
    rw [Bool.eq_iff_iff, hiff]
    simp
  rw [e]; rfl
end Go.Proofs.Ytaieoneilljagaa
