/-
  Part 21 of the texts behind the law: SegFmt.
-/
import Derived.Test.YtdbhicifjljjnaaGreatDoorMf20
import Derived.Lib.LazyBuf
/-
  strconv.FormatInt at base 16: the digits of an offset, as few as possible.
-/
namespace Go.Proofs.YtdbhicifjljjnaaGreatDoor
open Go.RowKit
set_option maxHeartbeats 1000000 in
theorem pow2_16 (w : World) : Calls Tryz.prog 130 #[.int .i64 16] w fun e w' => e = .returned (.bool true) ∧ w = w' := by
  go_enter Tryz.func130, Tryz.ntmps130
  go_wp2
  go_ret
  exact ⟨rfl, rfl⟩
set_option maxHeartbeats 1000000 in
theorem tz64_16 (w : World) (hF : Facts w) : Calls Tryz.prog 145 #[.int .u64 16] w fun e w' => e = .returned (.int .i64 4) ∧ w = w' := by
  have hc := hF.bit16
  have hb : IntKind.u64.wrap (bits .and .u64 16 (IntKind.u64.wrap (-16)) * 285870213051353865) / 288230376151711744 = 15 := by decide +kernel
  go_enter Tryz.func145, Tryz.ntmps145
  go_wp2
  go_ret
  exact ⟨rfl, rfl⟩
set_option maxHeartbeats 1000000 in
theorem tz_16 (w : World) (hF : Facts w) : Calls Tryz.prog 131 #[.int .u64 16] w fun e w' => e = .returned (.int .i64 4) ∧ w = w' := by
  go_enter Tryz.func131, Tryz.ntmps131
  go_wp2_with fail
  refine (tz64_16 _ hF).mono ?_; rintro e w' ⟨rfl, rfl⟩
  go_wp2
  go_ret
  exact ⟨rfl, rfl⟩
/-- The digits that formatBits takes from. -/
theorem dig_run (W : World) (k : IntKind) (d : Nat) (h : d < 16) (m : Int) (hm : m = (d : Int)) :
    (Instr.index 9 (.string ⟨#[48, 49, 50, 51, 52, 53, 54, 55, 56, 57, 97, 98, 99, 100, 101, 102, 103, 104, 105, 106, 107, 108, 109, 110, 111, 112, 113, 114, 115, 116, 117, 118, 119, 120, 121, 122]⟩) (.int k m)).run Tryz.prog W = .ok (.int .u8 ((Sg.hexC d).toNat : Int)) W := by
  subst hm
  rw [run_index_string W 9 _ k _ Tryz.underlying9, dif_pos ⟨by omega, by show (d : Int) < 36; omega⟩]
  have : ∀ d : Fin 16, (#[48, 49, 50, 51, 52, 53, 54, 55, 56, 57, 97, 98, 99, 100, 101, 102, 103, 104, 105, 106, 107, 108, 109, 110, 111, 112, 113, 114, 115, 116, 117, 118, 119, 120, 121, 122] : Array UInt8)[d.1]? = some (Sg.hexC d.1) := by decide
  have h1 := this ⟨d, h⟩
  congr 3
  rw [Array.getElem?_eq_some_iff] at h1
  obtain ⟨h2, h3⟩ := h1
  rw [← h3]
  rfl
theorem zeros65 : Tryz.zeroCells187 = ((List.replicate 65 (0 : Int)).map (Value.int .u8)).toArray := by kernel_rfl
/-- The array's cells behind k digits. -/
def FmtAt (w : World) (f : Nat) (k : Nat) (wr : World) : Prop :=
  ∃ C : List Int, C.length = 65 ∧ wr.heap[w.heap.size]? = some (.cells (C.map (Value.int .u8)).toArray 187 (0, 0)) ∧ C.drop (65 - k) = (Sg.pad k f).map (fun c => (c.toNat : Int)) ∧ Below w.heap.size w wr
theorem FmtAt.start (w : World) (f : Nat) : FmtAt w f 0 (w.alloc (.cells Tryz.zeroCells187 187)) :=
  ⟨List.replicate 65 0, by simp, by rw [zeros65]; exact heap_alloc_new w _, by simp [Sg.pad], (Below.refl _ _).alloc (Nat.le_refl _) _⟩
theorem pad_front (k f : Nat) : Sg.pad (k + 1) f = Sg.hexC (f / 16 ^ k % 16) :: Sg.pad k f := by
  induction k generalizing f with
  | zero => simp [Sg.pad]
  | succ k ih =>
    rw [Sg.pad, ih, Sg.pad, List.cons_append, Nat.div_div_eq_div_mul, Nat.pow_succ, Nat.mul_comm]
theorem FmtAt.put {w wr : World} {f k j : Nat} (h : FmtAt w f k wr) (hj : j + k + 1 = 65) :
    FmtAt w f (k + 1) (wr.setCell ⟨w.heap.size, j, none⟩ (.int .u8 ((Sg.hexC (f / 16 ^ k % 16)).toNat : Int))) := by
  obtain ⟨C, hl, hb, hd, hbel⟩ := h
  refine ⟨C.set j ((Sg.hexC (f / 16 ^ k % 16)).toNat : Int), by rw [List.length_set, hl], ?_, ?_, hbel.setCell (p := ⟨w.heap.size, j, none⟩) (Nat.le_refl _) _⟩
  · rw [heap_setCell_same wr w.heap.size j _ _ _ hb]
    simp [List.map_set]
  · have e : 65 - (k + 1) = j := by omega
    have e2 : 65 - k = j + 1 := by omega
    rw [e2] at hd
    rw [e, pad_front, List.map_cons, ← hd]
    rw [List.drop_eq_getElem_cons (by rw [List.length_set]; omega), List.getElem_set_self, List.drop_set_of_lt (by omega)]
theorem FmtAt.cell {w wr : World} {f k j : Nat} (h : FmtAt w f k wr) (hj : j < 65) :
    ∃ z, wr.cell? ⟨w.heap.size, j, none⟩ = some (.int .u8 z) ∧ wr.frozen? ⟨w.heap.size, j, none⟩ = false := by
  obtain ⟨C, hl, hb, hd, hbel⟩ := h
  refine ⟨C.getD j 0, ?_, ?_⟩
  · rw [cell_of_row wr _ j _ _ _ hb]; simp [hl, hj]
  · simp [World.frozen?, hb]
theorem FmtAt.bytes {w wr : World} {f k : Nat} (h : FmtAt w f k wr) (hk : k ≤ 65) : Bytes wr (w.heap.size + 1) (some ⟨w.heap.size, 65 - k, none⟩) ((Sg.pad k f).map (fun c => (c.toNat : Int))) := by
  obtain ⟨C, hl, hb, hd, hbel⟩ := h
  refine ⟨fun i hi => ?_, fun _ => ⟨w.heap.size, 65 - k, rfl, by omega, fun i hi => ?_⟩⟩
  · rw [List.getD_eq_getElem?_getD, List.getElem?_eq_getElem hi]
    simp only [List.getElem_map, Option.getD_some]
    have := ((Sg.pad k f)[i]'(by simpa using hi)).toNat_lt
    omega
  · rw [← hd, cell_of_row wr _ _ _ _ _ hb]
    rw [List.length_map, Sg.pad_len] at hi
    have hi2 : 65 - k + i < C.length := by omega
    simp [List.getD_eq_getElem?_getD, hi2]
theorem and15 (u : Nat) (h : u < 18446744073709551616) : bits .and .u64 (u : Int) 15 = ((u % 16 : Nat) : Int) := by
  have e := Go.bits_and_u64_nat u 15 h (by decide)
  have : u &&& 15 = u % 16 := Nat.and_two_pow_sub_one_eq_mod u 4
  rw [this] at e
  exact e
theorem FmtAt.below {w wr : World} {f k : Nat} (h : FmtAt w f k wr) : Below w.heap.size w wr := by
  obtain ⟨C, _, _, _, hbel⟩ := h
  exact hbel
theorem FmtAt.step {w wr : World} {f k j u : Nat} (h : FmtAt w f k wr) (hu : u = f / 16 ^ k) (h64 : u < 18446744073709551616) (hj : j + k + 1 = 65) :
    ∃ m c : Int, bits .and .u64 (u : Int) 15 = m ∧ (∀ W, (Instr.index 9 (.string ⟨#[48, 49, 50, 51, 52, 53, 54, 55, 56, 57, 97, 98, 99, 100, 101, 102, 103, 104, 105, 106, 107, 108, 109, 110, 111, 112, 113, 114, 115, 116, 117, 118, 119, 120, 121, 122]⟩) (.int .u64 m)).run Tryz.prog W = .ok (.int .u8 c) W) ∧
      Hid (FmtAt w f (k + 1) (wr.setCell ⟨w.heap.size, j, none⟩ (.int .u8 c))) :=
  ⟨_, _, and15 u h64, fun W => dig_run W .u64 (u % 16) (Nat.mod_lt _ (by decide)) _ rfl, Lib.hid (by rw [hu]; exact h.put hj)⟩
set_option maxHeartbeats 2000000 in
set_option maxRecDepth 100000 in
theorem fbits_16 (f : Nat) (hf : f < 16 ^ 11) (w : World) (hF : Facts w) :
    Calls Tryz.prog 101 #[.slice none 0 0, .int .u64 f, .int .i64 16, .bool false, .bool false] w fun e w' => ∃ n, 1 ≤ n ∧ n ≤ 12 ∧ f < 16 ^ n ∧ e = .returned (.tuple #[.slice none 0 0, .string ⟨(Sg.pad n f).toArray⟩]) ∧ Below w.heap.size w w' := by
  have F1 := Lib.hid (fun o => (hF.below ((Below.refl _ _).alloc (Nat.le_refl _) o)))
  have P11 := Lib.hid (show (16 : Nat) ^ 11 = 17592186044416 by decide)
  have HF := Lib.hid hf
  clear hF hf
  have S0 := Lib.hid (FmtAt.start w f)
  go_enter Tryz.func101, Tryz.ntmps101
  go_wp2_with (first | (go_at_call 130; refine (pow2_16 _).mono ?_; rintro e w' ⟨rfl, rfl⟩) | (go_at_call 131; refine (tz_16 _ (F1.out _)).mono ?_; rintro e w' ⟨rfl, rfl⟩))
  go_loopw [1, 13] (fun uv iv wr => ∃ k j u : Nat, FmtAt w f k wr ∧ Hid (u = f / 16 ^ k ∧ k ≤ 10 ∧ j + 1 + k = 65) ∧ uv = .int .u64 u ∧ iv = .int .i64 ((j : Int) + 1)) (fun uv _ _ => (intOf uv).toNat)
  case atStart => exact ⟨0, 64, f, S0.out, Lib.hid ⟨by simp, by decide, by decide⟩, rfl, rfl⟩
  case round =>
    obtain ⟨k, j, u, hat, hu, rfl, rfl⟩ := hrel
    have HA := Lib.hid hat
    have hu64 : (u : Int) < 17592186044416 := by
      have := hu.out.1
      have h2 := HF.out
      have : u ≤ f := by rw [this]; exact Nat.div_le_self _ _
      have h3 : f < 17592186044416 := h2
      omega
    have hj : (j : Int) ≤ 64 ∧ 54 ≤ (j : Int) := by have := hu.out; omega
    obtain ⟨z, hc, hfz⟩ := hat.cell (j := j) (by omega)
    clear hat
    by_cases hge : 16 ≤ u
    · have hge' : (16 : Int) ≤ (u : Int) := by omega
      obtain ⟨m, c, had, hix, HN⟩ := HA.out.step (j := j) hu.out.1 (by omega) (by have := hu.out; omega)
      have hk1 : Hid (k + 1 ≤ 10) := by
        show k + 1 ≤ 10
        obtain ⟨e1, e2, e3⟩ := hu.out
        rcases Nat.lt_or_ge k 10 with h | h
        · omega
        · have h10 : k = 10 := by omega
          have h2 : f < 17592186044416 := HF.out
          subst h10
          have p10 : (16 : Nat) ^ 10 = 1099511627776 := by decide
          rw [p10] at e1
          omega
      go_wp2
      refine ⟨⟨k + 1, j - 1, u / 16, HN.out, Lib.hid ⟨?_, hk1.out, by have := hu.out; omega⟩, by congr 1, by congr 1; omega⟩, by simp [intOf]; omega⟩
      rw [hu.out.1, Nat.div_div_eq_div_mul, Nat.pow_succ]
    · have hlt' : (u : Int) < 16 := by omega
      have hix := fun W => dig_run W .u64 u (by omega) (u : Int) rfl
      have hq : f / 16 ^ k % 16 = u := by rw [← hu.out.1]; omega
      have HN := HA.out.put (j := j) (by have := hu.out; omega)
      rw [hq] at HN
      have hsl : ∀ W, (Instr.sliceAt 187 (.pointer (some ⟨w.heap.size, 0, none⟩)) (some (.int .i64 (j : Int))) none none).run Tryz.prog W = .ok (.slice (some ⟨w.heap.size, j, none⟩) (k + 1) (k + 1)) W := fun W => by
        have hal : Tryz.prog.arrayLen 187 = 65 := by simp [Program.arrayLen, Tryz.underlying187]
        rw [run_sliceAt_array_l W 187 ⟨w.heap.size, 0, none⟩ (by simp [Program.arrayLen, Program.elem, Tryz.underlying187]) .i64 (j : Int) (by omega) (by rw [hal]; omega)]
        have hel : Tryz.prog.elem 187 = 5 := by simp [Program.elem, Tryz.underlying187]
        rw [hal, hel, size1]
        have := hu.out
        simp only [Result.andThen, slicedAt, Result.ok.injEq, Value.slice.injEq, and_true]
        refine ⟨?_, by omega, by omega⟩
        simp [show ¬ 65 = j by omega, add_off]
      have hcv := conv_str (HN.bytes (by have := hu.out; omega)) (k + 1)
      have HF1 : Hid (f < 16 ^ (k + 1)) := by
        show f < 16 ^ (k + 1)
        have h := hu.out.1
        have h2 := (Nat.div_lt_iff_lt_mul (Nat.pow_pos (n := k) (show 0 < 16 by decide))).1 (show f / 16 ^ k < 16 by omega)
        rw [Nat.pow_succ, Nat.mul_comm]; exact h2
      have HB := Lib.hid HN.below
      clear HN
      have e65 : 65 - (k + 1) = j := by have := hu.out; omega
      rw [e65, List.length_map, Sg.pad_len, Lib.Lz.strOfNums_map] at hcv
      clear hq e65
      obtain ⟨st, hst⟩ : ∃ st, st = (⟨(Sg.pad (k + 1) f).toArray⟩ : ByteArray) := ⟨_, rfl⟩
      rw [← hst] at hcv
      have HST := Lib.hid hst
      clear hst
      obtain ⟨c, hcc⟩ : ∃ c, c = ((Sg.hexC u).toNat : Int) := ⟨_, rfl⟩
      rw [← hcc] at hcv hix HB
      clear hcc hu64 hge
      go_wp2
      go_ret2
      exact ⟨k + 1, by omega, by have := hu.out; omega, HF1.out, by rw [← HST.out]; rfl, HB.out⟩
def FmtPost (w : World) (f : Int) (e : Ending) (w' : World) : Prop :=
  ∃ st, e = .returned (.string st) ∧ Hid (∃ n, 1 ≤ n ∧ n ≤ 12 ∧ f.toNat < 16 ^ n ∧ st = ⟨(Sg.pad n f.toNat).toArray⟩) ∧ Hid (Below w.heap.size w w')
theorem fbits_at (f : Int) (h0 : 0 ≤ f) (h1 : f ≤ 17592186044415) (w : World) (hF : Facts w) :
    Calls Tryz.prog 101 #[.slice none 0 0, .int .u64 f, .int .i64 16, .bool false, .bool false] w fun e w' => ∃ st, e = .returned (.tuple #[.slice none 0 0, .string st]) ∧ FmtPost w f (.returned (.string st)) w' := by
  have p11 : (16 : Nat) ^ 11 = 17592186044416 := by decide
  have G0 := fbits_16 f.toNat (by rw [p11]; omega) w hF
  rw [show (f.toNat : Int) = f by omega] at G0
  refine G0.mono ?_
  rintro e w' ⟨n, n0, n1, hn, rfl, hb⟩
  exact ⟨_, rfl, _, rfl, Lib.hid ⟨n, n0, n1, hn, rfl⟩, Lib.hid hb⟩
set_option maxHeartbeats 1000000 in
theorem ifmt_16 (f : Int) (h0 : 0 ≤ f) (h1 : f ≤ 17592186044415) (w : World) (hF : Facts w) :
    Calls Tryz.prog 74 #[.int .i64 f, .int .i64 16] w (FmtPost w f) := by
  have G := Lib.hid (fbits_at f h0 h1 w hF)
  have hw : IntKind.u64.wrap f = f := IntWalk.u64_in _ (by omega)
  have hn : decide (f < 0) = false := decide_eq_false (by omega)
  clear h1
  go_enter Tryz.func74, Tryz.ntmps74
  go_wp2_with fail
  refine G.out.mono ?_; rintro e w' ⟨st, rfl, hp⟩
  have HP := Lib.hid hp
  clear hp
  go_wp2
  go_ret
  exact HP.out
set_option maxHeartbeats 1000000 in
theorem fmt_16 (f : Int) (h0 : 0 ≤ f) (h1 : f ≤ 17592186044415) (w : World) (hF : Facts w) :
    Calls Tryz.prog 60 #[.int .i64 f, .int .i64 16] w (FmtPost w f) := by
  have G := Lib.hid (ifmt_16 f h0 h1 w hF)
  clear h0 h1
  go_enter Tryz.func60, Tryz.ntmps60
  go_wp2_with fail
  refine G.out.mono ?_; rintro e w' ⟨st, rfl, hn, hb⟩
  go_wp2
  go_ret
  exact ⟨_, rfl, hn, hb⟩
end Go.Proofs.YtdbhicifjljjnaaGreatDoor
