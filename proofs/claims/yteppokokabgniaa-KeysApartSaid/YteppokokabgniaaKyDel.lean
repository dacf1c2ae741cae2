/-
  slices.Delete(order, 0, 1) at the row of keys; dropFirst.
-/
import Derived.Test.YteppokokabgniaaKyOwn
import Derived.Test.YteppokokabgniaaKDelete
import Derived.Deep.RegionLaw
import Derived.Deep.RegionWith
namespace Go.Proofs.Yteppokokabgniaa
open Go.RowKit Go.Maps
theorem undKK : Try.prog.underlying 53 = some (.slice 28) := Try.underlying53
theorem zeroKK (w : World) : (zeroValue 28).run Try.prog w = .ok (.agg #[.string ⟨#[]⟩, .string ⟨#[]⟩]) w := by kernel_rfl
/-- 'clear' on a slice of one key. -/
theorem clear_key (w : World) (ty : TypeId) (b o c : Nat) (hc : ∀ j, j < 2 → (w.cell? ⟨b, o + j, none⟩).isSome = true) (hf : ∀ j, j < 2 → w.frozen? ⟨b, o + j, none⟩ = false) :
    (Builtin.clear_ #[53] ty #[.slice (some ⟨b, o, none⟩) 1 c]).run Try.prog w = .ok (.tuple #[]) (w.setCells b o [.string ⟨#[]⟩, .string ⟨#[]⟩]) := by
  have hst := run_storeCells_cells (P := Try.prog) b o [.string ⟨#[]⟩, .string ⟨#[]⟩] 0 w (by simpa using hc) (by simpa using hf) (by simp [Value.oneCell'])
  simp only [Nat.add_zero] at hst
  have hcs : (Value.agg #[.string ⟨#[]⟩, .string ⟨#[]⟩]).cells = #[.string ⟨#[]⟩, .string ⟨#[]⟩] := rfl
  have hz : (Builtin.zeroCells #[.string ⟨#[]⟩, .string ⟨#[]⟩] 1).toList = [.string ⟨#[]⟩, .string ⟨#[]⟩] := by simp [Builtin.zeroCells, List.range, List.range.loop]
  simp [Builtin.clear_, run_underlying undKK, hcs, hst, hz]
set_option maxRecDepth 20000 in
set_option maxHeartbeats 4000000 in
theorem keyDel_any {w : World} {g cap : Nat} {vs : List (List Value)} (h : OwnK w 0 28 2 (some ⟨g, 0, none⟩) cap vs) (n : Nat) (hn : n = vs.length) (h1 : 1 ≤ n) :
    Calls Try.prog 18 #[.slice (some ⟨g, 0, none⟩) n cap, .int .i64 0, .int .i64 1] w fun e w' => e = .returned (.slice (some ⟨g, 0, none⟩) (n - 1 : Nat) cap) ∧ Hid (OwnK w' 0 28 2 (some ⟨g, 0, none⟩) cap (vs.drop 1)) ∧ Hid (Only (fun i => i = g) w w') := by
  obtain ⟨s1, s2, s3⟩ := h.spare
  rw [← hn] at s1
  have SP := Lib.hid s3
  have HO := Lib.hid h
  have hl : (vs.drop 1).length = n - 1 := by rw [List.length_drop, ← hn]
  have hfl : (vs.drop 1).flatten.length = (n - 1) * 2 := by rw [(h.2.drop 1).len, hl]
  have W1 := Lib.hid (h.2.drop 1).mem
  have HL := Lib.hid hl
  obtain ⟨i0, hi0, hz0, hz1, hz2⟩ := info_parts kkey_info
  obtain ⟨A, hA, hA2⟩ : ∃ A : Addr, (if cap = 1 then (some ⟨g, 0, none⟩ : Option Addr) else some ⟨g, 2, none⟩) = some A ∧ ∀ j u, (vs.drop 1).flatten[j]? = some u → w.drew.cell? (A.add j) = some u := by
    by_cases hh : cap = 1
    · refine ⟨_, by rw [if_pos hh], fun j u hu => ?_⟩
      have := (List.getElem?_eq_some_iff.1 hu).1
      omega
    · refine ⟨_, by rw [if_neg hh], fun j u hu => ?_⟩
      rw [add_off]
      exact h.cells 1 j u hu
  have HA2 := Lib.hid hA2
  generalize hF : (vs.drop 1).flatten = F at *
  have HF := Lib.hid hF
  have HFL := Lib.hid hfl
  obtain ⟨W2, hW2⟩ : ∃ W2, W2 = w.drew.setCells g 0 F := ⟨_, rfl⟩
  have HW2 := Lib.hid hW2
  have SP2 : Hid (∀ j, j < 2 → (W2.cell? ⟨g, (n - 1) * 2 + j, none⟩).isSome = true ∧ W2.frozen? ⟨g, (n - 1) * 2 + j, none⟩ = false) := Lib.hid fun j hj => by
    obtain ⟨cur, hg, _, _, _, hsz, _⟩ := h.inner
    obtain ⟨c1, hb1, e1⟩ := setCells_block g F 0 w.drew cur _ _ hg
    rw [hW2]
    constructor
    · simp only [World.cell?, hb1]
      have : (n - 1) * 2 + j < c1.size := by omega
      simp [this]
    · simp [World.frozen?, hb1]
  have CL : ∀ ty c, (Builtin.clear_ #[53] ty #[.slice (some ⟨g, (n - 1) * 2, none⟩) (n - (n - 1)) c]).run Try.prog W2 = .ok (.tuple #[]) (W2.setCells g ((n - 1) * 2) [.string ⟨#[]⟩, .string ⟨#[]⟩]) := fun ty c => by
    rw [show n - (n - 1) = 1 by omega]
    exact clear_key W2 ty g _ c (fun j hj => (SP2.out j hj).1) (fun j hj => (SP2.out j hj).2)
  clear s3 h hl hfl hA2 hF hW2
  clear hn
  have h1i : (1 : Int) ≤ (n : Int) := by omega
  go_enter Try.func18, Try.ntmps18
  go_wp2_with fail
  go_region_law (refine step_append_room rfl (.tmp 22) (.tmp 25) 53 rfl 28 i0 2 undKK hi0 hz1 g 0 0 cap (by simp [Act.eval, Act.put]) A (n - 1) (cap - 1) F (by simp [Act.eval, Act.put]) HFL.out (fun j u hu => HA2.out j u hu) (fun u hu => W1.out u hu) (by omega) (fun j hj => by (have h3 := HFL.out; have h4 := SP.out (0 + 0 * 2 + j) (by omega); exact h4)) ?_; rw [show w.drew.setCells g (0 + 0 * 2) F = W2 from HW2.out.symm])
  go_wp2
  go_ret
  refine ⟨rfl, Lib.hid ?_, Lib.hid ?_⟩
  · have := HO.out.drew.moved (HO.out.2.drop 1) (by rw [List.length_drop]; omega) [.string ⟨#[]⟩, .string ⟨#[]⟩]
    rw [HF.out, HL.out, ← HW2.out] at this
    exact this
  · rw [HW2.out]
    exact ((Only.refl _ _).drew.trans (setCells_only g F 0 w.drew) fun _ h => .inl h).trans (setCells_only g _ _ _) fun _ h => .inl h
end Go.Proofs.Yteppokokabgniaa
