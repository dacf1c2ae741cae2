/-
  The reference's own: in; two answers at once.
-/
import Derived.Test.YtgeefkfolejbnaaGrRefAhead
import Derived.Test.YtgeefkfolejbnaaToVals
namespace Go.Proofs.Ytgeefkfolejbnaa
open Go.RowKit
/-- A row of ints and whether there is one. -/
def OptG (w : World) (o : Option (List Int)) (e : Ending) (w' : World) : Prop :=
  ∃ A cap, e = .returned (.tuple #[.slice A (o.getD []).length cap, .bool o.isSome]) ∧ Hid ((o.getD []).length ≤ cap) ∧ Hid (Zs w' w'.heap.size A (o.getD [])) ∧ Hid (Below w.heap.size w w')
/-- A number and whether there is one. -/
def NumG (w : World) (o : Option Nat) (e : Ending) (w' : World) : Prop := e = .returned (.tuple #[.int .u64 ((o.getD 0 : Nat) : Int), .bool o.isSome]) ∧ Hid (Below w.heap.size w w')
theorem Zs.take {w : World} {B : Nat} {A : Option Addr} {zs : List Int} (h : Zs w B A zs) (k : Nat) : Zs w B A (zs.take k) := by
  have hg : ∀ i, i < (zs.take k).length → (zs.take k).getD i 0 = zs.getD i 0 := fun i hi => by
    rw [List.length_take] at hi
    rw [List.getD_eq_getElem?_getD, List.getD_eq_getElem?_getD, List.getElem?_take_of_lt (by omega)]
  refine ⟨fun i hi => ?_, fun hn => ?_⟩
  · rw [hg i hi]; rw [List.length_take] at hi; exact h.1 i (by omega)
  · rw [List.length_take] at hn
    obtain ⟨b, off, e, hb, hc⟩ := h.2 (by omega)
    refine ⟨b, off, e, hb, fun i hi => ?_⟩
    rw [hg i hi]; rw [List.length_take] at hi; exact hc i (by omega)
theorem take_at {zs : List Int} {k : Nat} {z : Int} (hk : k < zs.length) (hz : zs.getD k 0 = z) : zs.take (k + 1) = zs.take k ++ [z] := by
  rw [List.take_succ_eq_append_getElem hk]
  rw [List.getD_eq_getElem?_getD, List.getElem?_eq_getElem hk] at hz
  rw [← hz]; rfl
theorem mem_at {zs : List Int} {k : Nat} {z : Int} (hk : k < zs.length) (hz : zs.getD k 0 = z) : z ∈ zs := by
  rw [List.getD_eq_getElem?_getD, List.getElem?_eq_getElem hk] at hz
  rw [← hz]; exact List.getElem_mem hk
set_option maxHeartbeats 2000000 in
theorem refIn_any (A : Option Addr) (zs : List Int) (cap : Nat) (x : Int) (hl : zs.length ≤ 1000000) (w : World) (h : Zs w w.heap.size A zs) :
    Calls Try.prog 34 #[.slice A zs.length cap, .int .i64 x] w (BoolG w (zs.contains x)) := by
  have H := Lib.hid h
  obtain ⟨n, hn⟩ : ∃ n, n = zs.length := ⟨_, rfl⟩
  have HN := Lib.hid hn
  rw [← hn] at hl ⊢
  clear h hn
  go_enter Try.func34, Try.ntmps34
  go_wp2_with fail
  go_loopw [5] (fun iv wr => ∃ k : Nat, k ≤ n ∧ iv = .int .i64 k ∧ Hid (x ∉ zs.take k) ∧ Hid (Below w.heap.size w wr)) (fun iv _ => n - (intOf iv).toNat)
  case atStart => exact ⟨0, Nat.zero_le _, rfl, Lib.hid (by simp), Lib.hid (Below.refl _ _)⟩
  case round =>
    obtain ⟨k, hk, rfl, HK, HB⟩ := hrel
    by_cases hlt : k < n
    · have hlt' : (k : Int) < (n : Int) := by omega
      obtain ⟨b, off, z, rfl, hb, hc, hz, hz0, hz1⟩ := (H.out.below HB.out).at_ (k := k) (by rw [← HN.out]; exact hlt)
      by_cases hzx : z = x
      · subst hzx
        have G0 : Hid (zs.contains z = true) := Lib.hid (List.contains_iff_mem.2 (mem_at (by rw [← HN.out]; exact hlt) hz.out))
        clear hz
        go_wp2
        go_ret
        exact ⟨ret_bool G0.out.symm, HB⟩
      · have HK' : Hid (x ∉ zs.take (k + 1)) := Lib.hid (by
          rw [take_at (by rw [← HN.out]; exact hlt) hz.out, List.mem_append]
          rintro (h | h)
          · exact HK.out h
          · simp at h; exact hzx h.symm)
        have hd : (z == x) = false := by simpa using hzx
        clear hz
        go_wp2
        go_roundw
        case rel => exact ⟨k + 1, by omega, by go_num, HK', HB⟩
        case measure => simp [intOf]; omega
    · obtain rfl : n = k := by omega
      have G0 : Hid (zs.contains x = false) := Lib.hid (by
        have := HK.out
        rw [HN.out, List.take_length] at this
        cases hc : zs.contains x with
        | false => rfl
        | true => exact absurd (List.contains_iff_mem.1 hc) this)
      go_wp2
      go_ret
      exact ⟨ret_bool G0.out.symm, HB⟩
end Go.Proofs.Ytgeefkfolejbnaa
