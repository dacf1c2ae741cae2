/-
  The law's names: a number in two letters.
-/
import Derived.Test.YteppokokabgniaaKyOne
import Derived.Test.YteppokokabgniaaStepApp
namespace Go.Proofs.Yteppokokabgniaa
open Go.RowKit
def Ky.nm (i : Nat) : ByteArray := strOfNums [97 + (i : Int) % 20, 97 + (i : Int) / 20]
theorem Ky.nm_inj {i j : Nat} (hi : i ≤ 300) (hj : j ≤ 300) (h : Ky.nm i = Ky.nm j) : i = j := by
  have b : ∀ k : Nat, k ≤ 300 → ∀ z ∈ [97 + (k : Int) % 20, 97 + (k : Int) / 20], 0 ≤ z ∧ z ≤ 255 := fun k hk z hz => by
    simp only [List.mem_cons, List.not_mem_nil, or_false] at hz
    rcases hz with rfl | rfl <;> omega
  have e := congrArg strB_ h
  unfold Ky.nm at e
  rw [strB_back (b i hi), strB_back (b j hj)] at e
  injection e with e1 e2
  injection e2 with e2 _
  omega
theorem Ky.nm_ok (i : Nat) (hi : i ≤ 300) : Ky.ok ⟨#[]⟩ (Ky.nm i) (i : Int) := by
  refine ⟨⟨by decide, ?_⟩, by omega, by omega⟩
  have : (Ky.nm i).size = 2 := by unfold Ky.nm; rw [← ByteArray.size_data, ← Array.length_toList, strOfNums_data]; rfl
  omega
def Ky.en (i : Nat) : Ky.T := ⟨⟨#[]⟩, Ky.nm i, (i : Int)⟩
theorem Ky.en_new {i : Nat} (hi : i ≤ 300) : ∀ j, j < i → Ky.same (Ky.en j) (Ky.en i).name (Ky.en i).key = false := fun j hj => by
  cases hc : Ky.same (Ky.en j) (Ky.en i).name (Ky.en i).key with
  | false => rfl
  | true =>
    have := Ky.nm_inj (i := j) (j := i) (by omega) hi (Ky.same_iff.1 hc).2
    omega
theorem name_any (i : Nat) (hi : i ≤ 300) (w : World) : Calls Try.prog 16 #[.int .i64 i] w fun e w' => e = .returned (.string (Ky.nm i)) ∧ Hid (Below w.heap.size w w') := by
  have hb : [97 + (i : Int) % 20, 97 + (i : Int) / 20].all isByte = true := by simp [isByte]; omega
  have hc : (convert 32 9 (.slice (some ⟨w.heap.size, 0, none⟩) 2 2)).run Try.prog (w.alloc (.cells #[.int .u8 (97 + (i : Int) % 20), .int .u8 (97 + (i : Int) / 20)] 5)) = .ok (.string (Ky.nm i)) (w.alloc (.cells #[.int .u8 (97 + (i : Int) % 20), .int .u8 (97 + (i : Int) / 20)] 5)) :=
    conv_str (zs := [97 + (i : Int) % 20, 97 + (i : Int) / 20]) (Bytes.new w _ hb _ _ rfl) 2
  have B := Lib.hid ((Below.refl w.heap.size w).alloc (Nat.le_refl _) (.cells #[.int .u8 (97 + (i : Int) % 20), .int .u8 (97 + (i : Int) / 20)] 5))
  go_enter Try.func16, Try.ntmps16
  go_wp2
  go_ret
  exact ⟨rfl, B⟩
end Go.Proofs.Yteppokokabgniaa
