/-
  The reference's SegName and SegParse at every argument: what package seg tells.
-/
import Derived.Test.YtlaomaefhanacaaDoorSegRead
namespace Go.Proofs.YtlaomaefhanacaaDoor
open Go.RowKit
theorem dig_cut (W : World) (d : Nat) (h : d < 16) (m : Int) (hm : m = (d : Int)) :
    (Instr.slice 9 (.string ⟨#[48, 49, 50, 51, 52, 53, 54, 55, 56, 57, 97, 98, 99, 100, 101, 102]⟩) (some (.int .i64 m)) (some (.int .i64 (m + 1))) none).run Tryd.prog W = .ok (.string ⟨#[Sg.hexC d]⟩) W := by
  subst hm
  rw [run_slice_string W 9 _ .i64 .i64 _ _ Tryd.underlying9 (by omega) (by omega) (by show (d : Int) + 1 ≤ 16; omega)]
  congr 2
  have : ∀ d : Fin 16, (#[48, 49, 50, 51, 52, 53, 54, 55, 56, 57, 97, 98, 99, 100, 101, 102] : Array UInt8).extract d.1 (d.1 + 1) = #[Sg.hexC d.1] := by decide
  have h1 := this ⟨d, h⟩
  apply ByteArray.ext
  rw [ByteArray.data_extract]
  have e : ((d : Int) + 1).toNat = d + 1 := by omega
  rw [e]
  exact h1
set_option maxHeartbeats 1000000 in
set_option maxRecDepth 100000 in
theorem rname_on (f : Nat) (h1 : f ≤ 17592186044415) (w : World) : Calls Tryd.prog 15 #[.int .i64 f] w fun e w' => e = .returned (.tuple #[.string (Sg.nameB f), .bool true]) ∧ w = w' := by
  have h1' : (f : Int) ≤ 17592186044415 := by omega
  clear h1
  go_enter Tryd.func15, Tryd.ntmps15
  go_wp2
  go_loop [0, 4, 5] (fun fv sv kv => ∃ k u : Nat, k ≤ 12 ∧ Hid (u = f / 16 ^ k) ∧ fv = .int .i64 u ∧ sv = .string ⟨(Sg.pad k f).toArray⟩ ∧ kv = .int .i64 k) (fun _ _ kv => 12 - (intOf kv).toNat)
  case atStart => exact ⟨0, f, by decide, Lib.hid (by simp), rfl, rfl, rfl⟩
  case round =>
    obtain ⟨k, u, hk, hu, rfl, rfl, rfl⟩ := hrel
    by_cases hlt : k < 12
    · have hlt' : (k : Int) < 12 := by omega
      have hsl := fun W => dig_cut W (u % 16) (Nat.mod_lt _ (by decide)) ((u : Int) % 16) (by omega)
      have hp : Hid ((⟨#[Sg.hexC (u % 16)]⟩ : ByteArray) ++ ⟨(Sg.pad k f).toArray⟩ = ⟨(Sg.pad (k + 1) f).toArray⟩) := by
        show _ = _
        have e1 : (⟨#[Sg.hexC (u % 16)]⟩ : ByteArray) = ⟨([Sg.hexC (u % 16)] : List UInt8).toArray⟩ := rfl
        rw [e1, str_cat, pad_front, ← hu.out]; rfl
      have hz := str_len (Sg.pad k f)
      rw [Sg.pad_len] at hz
      have hd := str_len [Sg.hexC (u % 16)]
      have e0 : (⟨([Sg.hexC (u % 16)] : List UInt8).toArray⟩ : ByteArray) = ⟨#[Sg.hexC (u % 16)]⟩ := rfl
      rw [e0] at hd
      clear e0
      generalize (⟨(Sg.pad k f).toArray⟩ : ByteArray) = st at *
      generalize (⟨#[Sg.hexC (u % 16)]⟩ : ByteArray) = dg at *
      have hwq : wrap64 ((u : Int) / 16) = ((u / 16 : Nat) : Int) := by
        have := hu.out
        have h2 : u ≤ f := by rw [this]; exact Nat.div_le_self _ _
        unfold wrap64; omega
      go_wp2
      go_round
      case rel =>
        refine ⟨k + 1, u / 16, by omega, Lib.hid ?_, by rw [hwq], by rw [hp.out], by go_num⟩
        rw [hu.out, Nat.div_div_eq_div_mul, Nat.pow_succ]
      case measure => simp [intOf]; omega
    · have hk12 : k = 12 := by omega
      subst hk12
      have hp : Hid ((⟨#[119, 45]⟩ : ByteArray) ++ ⟨(Sg.pad 12 f).toArray⟩ = Sg.nameB f) := by
        show _ = _
        have e1 : (⟨#[119, 45]⟩ : ByteArray) = ⟨([119, 45] : List UInt8).toArray⟩ := rfl
        rw [e1, str_cat]; rfl
      have hz := str_len (Sg.pad 12 f)
      rw [Sg.pad_len] at hz
      generalize (⟨(Sg.pad 12 f).toArray⟩ : ByteArray) = st at *
      clear hlt
      go_wp2
      go_ret2
      exact ⟨by rw [← hp.out]; rfl, rfl⟩
theorem rname_off (f : Int) (h : f < 0 ∨ (0 ≤ f ∧ 17592186044416 ≤ f)) (w : World) : Calls Tryd.prog 15 #[.int .i64 f] w fun e w' => e = .returned (.tuple #[.string ⟨#[]⟩, .bool false]) ∧ w = w' := by
  rcases h with h | ⟨h, h2⟩
  all_goals
    go_enter Tryd.func15, Tryd.ntmps15
    go_wp2
    go_ret2
    exact ⟨rfl, rfl⟩
theorem rname_any (f : Int) (w : World) : Calls Tryd.prog 15 #[.int .i64 f] w fun e w' => e = .returned (.tuple #[.string (if Sg.inO f then Sg.nameB f else ⟨#[]⟩), .bool (Sg.inO f)]) ∧ w = w' := by
  by_cases h : Sg.inO f = true
  · rw [h, if_pos rfl]
    have hh := (Sg.inO_iff f).1 h
    have G := rname_on f.toNat (by omega) w
    rw [show (f.toNat : Int) = f by omega] at G
    exact G
  · have hh : ¬ (0 ≤ f ∧ f ≤ 17592186044415) := fun k => h ((Sg.inO_iff f).2 k)
    rw [if_neg h, show Sg.inO f = false by simpa using h]
    exact rname_off f (by omega) w
end Go.Proofs.YtlaomaefhanacaaDoor
