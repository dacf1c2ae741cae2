/-
  Arrays of two ints compared.
-/
import Derived.Test.YtgeefkfolejbnaaGrMap
import Derived.Laws.StructEq
namespace Go.Proofs.Ytgeefkfolejbnaa
open Go.RowKit
theorem arr_guard : Try.prog.eqGuardType Try.prog.depth 23 = false := by kernel_rfl
theorem arr_key : Try.prog.keyTypeAt 2 23 = true := by kernel_rfl
theorem arr_cells : Try.prog.cellsOf 23 = 2 := by kernel_rfl
theorem arr_lits (a b : Int) (ha : inI a) (hb : inI b) : Try.prog.keyLits 2 23 [.int .i64 a, .int .i64 b] = some [.int .i64 a, .int .i64 b] := by
  have ha := wf_i ha
  have hb := wf_i hb
  have h1 : ∀ x : Int, (Lit.int .i64 x).wf = true → Try.prog.keyLits 1 3 [.int .i64 x] = some [.int .i64 x] := fun x hx => by
    simp [Program.keyLits, Try.underlying3, hx]
  have e2 : Try.prog.keyLits 2 23 [.int .i64 a, .int .i64 b] = if [Value.int .i64 a, Value.int .i64 b].length = Try.prog.cellsOf 23 then ((List.range 2).mapM fun i => Try.prog.keyLits 1 3 (([Value.int .i64 a, .int .i64 b].drop (i * Try.prog.cellsOf 3)).take (Try.prog.cellsOf 3))).map List.flatten else none := by
    conv => lhs; unfold Program.keyLits
    simp only [Try.underlying23]
  rw [e2, arr_cells, int_cells, show List.range 2 = [0, 1] from rfl]
  simp [h1 a ha, h1 b hb]
theorem arr_eql (a b c d : Int) (ha : inI a) (hb : inI b) (hc : inI c) (hd : inI d) (W : World) :
    (binOp .eql 23 (.agg #[.int .i64 a, .int .i64 b]) (.agg #[.int .i64 c, .int .i64 d])).run Try.prog W = .ok (.bool ((a == c) && (b == d))) W := by
  have hf : ∀ x y : Int, (Value.agg #[.int .i64 x, .int .i64 y]).formed Try.prog 23 = true := fun x y => by simp [Value.formed, Try.underlying23, arr_cells]
  obtain ⟨r, hr, hiff⟩ := run_equalIn_deep 9998 2 23 arr_key W 2 2 (.agg #[.int .i64 a, .int .i64 b]) (.agg #[.int .i64 c, .int .i64 d]) _ _ (hf a b) (hf c d) (arr_lits a b ha hb) (arr_lits c d hc hd)
  rw [run_eql_struct, hr]
  have e : r = ((a == c) && (b == d)) := by
    rw [Bool.eq_iff_iff, hiff]
    simp
  rw [e]; rfl
theorem arr_neq (a b c d : Int) (ha : inI a) (hb : inI b) (hc : inI c) (hd : inI d) (W : World) :
    (binOp .neq 23 (.agg #[.int .i64 a, .int .i64 b]) (.agg #[.int .i64 c, .int .i64 d])).run Try.prog W = .ok (.bool (!((a == c) && (b == d)))) W := by
  have h := arr_eql a b c d ha hb hc hd W
  rw [run_eql_struct] at h
  rw [run_neq_struct]
  generalize (Op.equalIn 10000 _ _ _).run Try.prog W = r at *
  cases r with
  | ok b w' =>
    simp only [Result.andThen_ok] at h ⊢
    injection h with h1 h2
    injection h1 with h1
    rw [h1, h2]
  | halt x w' => simp [Result.andThen] at h
end Go.Proofs.Ytgeefkfolejbnaa
