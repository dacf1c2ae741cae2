/-
  The reference's value at every argument, the box of a record of the reference's, and the checksum as the reference has it.
-/
import Derived.Test.YtlaomaefhanacaaDoorFrGet
import Derived.Test.YtlaomaefhanacaaDoorFrSumRef
import Derived.Test.YtlaomaefhanacaaDoorStepApp
namespace Go.Proofs.YtlaomaefhanacaaDoor
open Go.RowKit
/-! ### value -/
def ValAt (zs : List Int) (j : Nat) (acc : Int) : Prop := acc = Fr.valB (zs.drop j) ∧ 0 ≤ acc ∧ (0 < j → acc * 256 + 255 < 18446744073709551616)
theorem ValAt.mk_ {zs : List Int} {j : Nat} (hb : Fr.Byte zs) (hl : zs.length ≤ 8) : ValAt zs j (Fr.valB (zs.drop j)) := by
  refine ⟨rfl, Fr.valB_nonneg (hb.drop _), fun hj => ?_⟩
  have h := Fr.valB_lt (hb.drop j)
  rw [List.length_drop] at h
  have hm : zs.length - j ≤ 7 := by omega
  have hp : (256 : Int) ^ (zs.length - j) ≤ 72057594037927936 := by
    have hk : zs.length - j = 0 ∨ zs.length - j = 1 ∨ zs.length - j = 2 ∨ zs.length - j = 3 ∨ zs.length - j = 4 ∨ zs.length - j = 5 ∨ zs.length - j = 6 ∨ zs.length - j = 7 := by omega
    rcases hk with e | e | e | e | e | e | e | e <;> rw [e] <;> decide
  omega
set_option maxHeartbeats 400000 in
theorem value_any (B : Nat) (A : Option Addr) (zs : List Int) (cap : Nat) (hl : zs.length ≤ 8) (w : World) (hb : Bytes w B A zs) :
    Calls Tryd.prog 51 #[.slice A zs.length cap] w fun e w' => e = .returned (.int .u64 (Fr.valB zs)) ∧ w = w' := by
  have H := Lib.hid hb
  have hl' : (zs.length : Int) ≤ 8 := by omega
  have V := Lib.hid (fun j => ValAt.mk_ (j := j) hb.byte hl)
  clear hb
  have S := Lib.hid (V.out zs.length)
  rw [List.drop_length] at S
  go_enter Tryd.func51, Tryd.ntmps51
  go_wp2
  go_loop [3, 4] (fun v i => ∃ (j : Nat) (acc : Int), j ≤ zs.length ∧ ValAt zs j acc ∧ i = .int .i64 ((j : Int) - 1) ∧ v = .int .u64 acc) (fun _ i => (intOf i + 1).toNat)
  case atStart => exact ⟨zs.length, 0, Nat.le_refl _, S.out, rfl, rfl⟩
  case round =>
    obtain ⟨j, acc, hj, hat, rfl, rfl⟩ := hrel
    have HA := Lib.hid hat
    clear hat S
    by_cases hp : 0 < j
    · obtain ⟨i, rfl⟩ : ∃ i, j = i + 1 := ⟨j - 1, by omega⟩
      obtain ⟨b, off, z, rfl, hbb, hc, hz, z0, z1⟩ := H.out.at_ (show i < zs.length by omega)
      have a0 := HA.out.2.1
      have a1 := HA.out.2.2 hp
      have E : Hid (acc * 256 + z = Fr.valB (zs.drop i)) := by
        show _ = _
        rw [drop_cons zs i z (by omega) hz.out, Fr.valB, ← HA.out.1]; omega
      have hi0 : (0 : Int) ≤ (i : Int) := by omega
      have hi1 : (i : Int) < (zs.length : Int) := by omega
      rw [show ((i + 1 : Nat) : Int) - 1 = (i : Int) by omega]
      go_wp2
      go_round
      case rel => exact ⟨i, _, by omega, V.out i, rfl, by rw [E.out]⟩
      case measure => simp [intOf]
    · have e0 : j = 0 := by omega
      subst e0
      have E := Lib.hid HA.out.1
      go_wp2
      go_ret
      exact ⟨ret_int E.out, rfl⟩

/-! ### PutRec -/
def PutRPost (w : World) (ys : List Int) (e : Ending) (w' : World) : Prop :=
  ∃ zs A cap, Hid (zs = ys) ∧ e = .returned (.tuple #[.slice A zs.length cap, .bool true]) ∧ OwnB w' w.heap.size A cap zs ∧ Below w.heap.size w w'
theorem PutRPost.mk_ {w w' : World} {ys zs : List Int} {A : Option Addr} {cap n : Nat} (hn : n = zs.length) (hz : zs = ys) (h : OwnB w' w.heap.size A cap zs) (g : Below w.heap.size w w') : PutRPost w ys (.returned (.tuple #[.slice A n cap, .bool true])) w' := by
  subst hn; exact ⟨zs, A, cap, Lib.hid hz, rfl, h, g⟩
/-- The box of a record of the reference's, kept where bytes alone are made. -/
def BoxR (w : World) (g : Nat) (at_ : Int) (s : ByteArray) : Prop := w.heap[g]? = some (.cells #[.int .u64 at_, .string s] 71 (0, 0))
theorem BoxR.grew {w w' : World} {g base : Nat} {at_ : Int} {s : ByteArray} (h : BoxR w g at_ s) (hg : Grew base w w') : BoxR w' g at_ s := hg.obj g _ _ _ h (by decide)
theorem BoxR.cells {w : World} {g : Nat} {at_ : Int} {s : ByteArray} (h : BoxR w g at_ s) : w.cell? ⟨g, 0, none⟩ = some (.int .u64 at_) ∧ w.cell? ⟨g, 1, none⟩ = some (.string s) := obj2 h
theorem BoxR.below {w w' : World} {g B : Nat} {at_ : Int} {s : ByteArray} (h : BoxR w g at_ s) (hg : Below B w w') (hB : w.heap.size ≤ B) : BoxR w' g at_ s :=
  (hg.block g (by have := lt_of_block h; omega)).trans h
theorem refSum_at (A : Option Addr) (zs : List Int) (n cap : Nat) (v : Int) (hn : n = zs.length) (hv : Su.ofV zs = v) (hl : zs.length ≤ 9223372036854775807) (w : World) (hb : Bytes w w.heap.size A zs) :
    Calls Tryd.prog 52 #[.slice A n cap] w fun e w' => e = .returned (.int .u32 v) ∧ Below w.heap.size w w' := by
  subst hn hv; exact refSum_any A zs cap hl w hb
theorem OwnB.drew {w : World} {base : Nat} {A : Option Addr} {cap : Nat} {zs : List Int} (h : OwnB w base A cap zs) : OwnB w.drew base A cap zs := ⟨h.1.drew, h.2⟩
theorem Grew.drew {base : Nat} {a w : World} (h : Grew base a w) : Grew base a w.drew := ⟨h.below.drew, h.obj⟩
end Go.Proofs.YtlaomaefhanacaaDoor
