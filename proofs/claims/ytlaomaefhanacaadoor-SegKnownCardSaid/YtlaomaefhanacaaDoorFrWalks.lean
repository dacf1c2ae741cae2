/-
  The small functions of package frame at every argument in range: a number's bytes read and appended, the checksum of a head and a payload, a record's size.
-/
import Derived.Test.YtlaomaefhanacaaDoorFrSum
import Derived.Test.YtlaomaefhanacaaDoorFrPlain
import Derived.Lib.SliceRun
namespace Go.Proofs.YtlaomaefhanacaaDoor
open Go.RowKit

theorem Bytes.byte {w : World} {B : Nat} {A : Option Addr} {zs : List Int} (h : Bytes w B A zs) : Fr.Byte zs := h.mem
theorem take_snoc (zs : List Int) (k : Nat) (z : Int) (hk : k < zs.length) (hz : zs.getD k 0 = z) : zs.take (k + 1) = zs.take k ++ [z] := by
  rw [List.take_succ_eq_append_getElem hk]
  rw [List.getD_eq_getElem?_getD, List.getElem?_eq_getElem hk] at hz
  simp at hz
  rw [hz]
theorem drop_cons (zs : List Int) (k : Nat) (z : Int) (hk : k < zs.length) (hz : zs.getD k 0 = z) : zs.drop k = z :: zs.drop (k + 1) := by
  rw [List.drop_eq_getElem_cons hk]
  rw [List.getD_eq_getElem?_getD, List.getElem?_eq_getElem hk] at hz
  simp at hz
  rw [hz]

theorem below_on {A B w : World} (h1 : Below A.heap.size A B) (h2 : Below B.heap.size B w) : Below A.heap.size A w := h1.trans (h2.mono h1.size)
/-- A call that changes nothing, inside a region that draws, in a world that holds what the call reads. -/
theorem stillB {P : Program} {f : FuncId} {args : Array Value} {w W : World} {n : Nat} {v : Value} (hb : Below w.heap.size w W) (h : ∀ W, Below w.heap.size w W → Calls P f args W fun e w' => e = .returned v ∧ W = w') :
    Calls P f args (W.drewN n) fun e w' => e = .returned v ∧ ∃ m, w' = W.drewN m :=
  (h _ (below_n hb n)).mono fun _ _ ⟨he, hm⟩ => ⟨he, n, hm.symm⟩

/-! ### number -/
def NumAt (zs : List Int) (k : Nat) (acc : Int) : Prop := acc = Fr.valB (zs.take k) ∧ 0 ≤ acc ∧ acc < 256 ^ k
theorem NumAt.next {zs : List Int} {k : Nat} {acc z : Int} (h : NumAt zs k acc) (hb : Fr.Byte zs) (hk : k < zs.length) (hz : zs.getD k 0 = z) : NumAt zs (k + 1) (acc + z * 256 ^ k) := by
  have e : acc + z * 256 ^ k = Fr.valB (zs.take (k + 1)) := by
    rw [take_snoc zs k z hk hz, Fr.valB_snoc, ← h.1, List.length_take, Nat.min_eq_left (by omega)]
  have hl := Fr.valB_lt (hb.take (k + 1))
  rw [List.length_take, Nat.min_eq_left (by omega)] at hl
  exact ⟨e, by rw [e]; exact Fr.valB_nonneg (hb.take _), by rw [e]; exact hl⟩
theorem NumAt.end_ {zs : List Int} {k : Nat} {acc : Int} (h : NumAt zs k acc) (hk : ¬ k < zs.length) : acc = Fr.valB zs := by
  rw [h.1, List.take_of_length_le (by omega)]
set_option maxHeartbeats 400000 in
theorem number_any (B : Nat) (A : Option Addr) (zs : List Int) (cap : Nat) (hl : zs.length ≤ 8) (w : World) (hb : Bytes w B A zs) :
    Calls Tryd.prog 47 #[.slice A zs.length cap] w fun e w' => e = .returned (.int .u64 (Fr.valB zs)) ∧ w = w' := by
  have H := Lib.hid hb
  clear hb
  have S := Lib.hid (show NumAt zs 0 0 from ⟨rfl, by decide, by decide⟩)
  go_enter Tryd.func47, Tryd.ntmps47
  go_wp2
  go_loop [3, 8] (fun v i => ∃ (k : Nat) (acc : Int), k ≤ zs.length ∧ NumAt zs k acc ∧ i = .int .i64 k ∧ v = .int .u64 acc) (fun _ i => zs.length - (intOf i).toNat)
  case atStart => exact ⟨0, 0, Nat.zero_le _, S.out, rfl, rfl⟩
  case round =>
    obtain ⟨k, acc, hk, hat, rfl, rfl⟩ := hrel
    have HA := Lib.hid hat
    clear hat
    by_cases hlt : k < zs.length
    · obtain ⟨b, off, z, rfl, hbb, hc, hz, z0, z1⟩ := H.out.at_ hlt
      have EV := Lib.hid (Fr.or_byte k acc z (by omega) HA.out.2.1 HA.out.2.2 z0 z1)
      have k8 : (k : Int) ≤ 7 := by omega
      go_wp2
      go_round
      case rel => exact ⟨k + 1, _, by omega, HA.out.next H.out.byte hlt hz.out, by go_num, by rw [EV.out]⟩
      case measure => simp [intOf]; omega
    · go_wp2
      go_ret
      exact ⟨ret_int (HA.out.end_ hlt), rfl⟩

/-! ### What an append to a row of the call's own leaves -/
def AppPost (w : World) (base : Nat) (ys : List Int) (e : Ending) (w' : World) : Prop :=
  ∃ zs A cap, Hid (zs = ys) ∧ e = .returned (.slice A zs.length cap) ∧ OwnB w' base A cap zs ∧ Grew base w w'
theorem AppPost.mk_ {w w' : World} {base : Nat} {ys : List Int} {A : Option Addr} {cap n : Nat} (hn : n = ys.length) (h : OwnB w' base A cap ys) (g : Grew base w w') : AppPost w base ys (.returned (.slice A n cap)) w' := by
  subst hn; exact ⟨ys, A, cap, Lib.hid rfl, rfl, h, g⟩
set_option maxHeartbeats 1000000 in
theorem appnum_any (base : Nat) (A : Option Addr) (cap : Nat) (xs : List Int) (v : Int) (n : Nat) (v0 : 0 ≤ v) (v1 : v < 18446744073709551616) (hn : n ≤ 8) (hx : xs.length ≤ 1000000000) (w : World) (hbase : base ≤ w.heap.size) (h : OwnB w base A cap xs) :
    Calls Tryd.prog 35 #[.slice A xs.length cap, .int .u64 v, .int .i64 n] w (AppPost w base (xs ++ Fr.lowB v n)) := by
  have H := Lib.hid h
  have HB := Lib.hid hbase
  have HX := Lib.hid hx
  have hn' : (n : Int) ≤ 8 := by omega
  clear h hbase hx
  go_enter Tryd.func35, Tryd.ntmps35
  go_wp2
  go_loopw [0, 1, 8] (fun bv vv iv wr => ∃ (k : Nat) (ys : List Int) (u : Int) (A' : Option Addr) (cap' : Nat), k ≤ n ∧ 0 ≤ u ∧ u < 18446744073709551616 ∧ iv = .int .i64 k ∧ vv = .int .u64 u ∧ bv = .slice A' ys.length cap' ∧ ys.length = xs.length + k ∧ ys ++ Fr.lowB u (n - k) = xs ++ Fr.lowB v n ∧ OwnB wr base A' cap' ys ∧ Grew base w wr) (fun _ _ iv _ => n - (intOf iv).toNat)
  case atStart => exact ⟨0, xs, v, A, cap, Nat.zero_le _, v0, v1, rfl, rfl, rfl, rfl, rfl, H.out, Grew.refl _ _⟩
  case round =>
    obtain ⟨k, ys, u, A', cap', hk, u0, u1, rfl, rfl, rfl, hl, heq, ho, hg⟩ := hrel
    have HL := Lib.hid hl
    have HE := Lib.hid heq
    have HO := Lib.hid ho
    have HG := Lib.hid hg
    have hs : base ≤ wr.heap.size := Nat.le_trans HB.out hg.below.size
    clear hl heq ho hg
    by_cases hlt : k < n
    · have EL : Hid (Fr.lowB u (n - k) = u % 256 :: Fr.lowB (u / 256) (n - (k + 1))) := by
        have e : n - k = (n - (k + 1)) + 1 := by omega
        show _ = _
        rw [e, Fr.lowB]
      have hlt' : (k : Int) < (n : Int) := by omega
      go_wp2_with (at_builtin; refine wp_app rfl (.tmp 10) (.tmp 13) rfl rfl rfl (HO.out.grew ((Below.refl _ _).alloc (Nat.le_refl _) _) (Nat.le_refl _)) (by simp; omega) rfl rfl (Bytes.new1 wr _ (by omega) (by omega) _) (by have := HL.out; have := HX.out; simp; omega) ?_; intro A2 cap2 w2 o2 d2; have O2 := Lib.hid o2; have D2 := Lib.hid d2; clear o2 d2)
      go_roundw
      case rel =>
        refine ⟨k + 1, _, u / 256, A2, cap2, by omega, by omega, by omega, by go_num, rfl, by simp, ?_, ?_, O2.out, HG.out.trans (((Grew.refl _ _).alloc hs _).trans D2.out)⟩
        · rw [List.length_append, HL.out]; simp; omega
        · rw [← HE.out, EL.out, List.append_assoc]; rfl
      case measure => simp [intOf]; omega
    · have hkn : k = n := by omega
      subst hkn
      have E : Hid (ys = xs ++ Fr.lowB v k) := by
        have := HE.out
        rw [Nat.sub_self, Fr.lowB, List.append_nil] at this
        exact this
      go_wp2
      go_ret
      rw [← E.out]
      exact AppPost.mk_ rfl HO.out HG.out

/-! ### check, Size, Clone -/
set_option maxHeartbeats 400000 in
theorem check_any (B B2 : Nat) (A A2 : Option Addr) (f p : List Int) (cap cap2 : Nat) (h1 : f.length ≤ 9223372036854775807) (h2 : p.length ≤ 9223372036854775807) (w : World) (hb : Bytes w B A f) (hp : Bytes w B2 A2 p) :
    Calls Tryd.prog 36 #[.slice A f.length cap, .slice A2 p.length cap2] w fun e w' => e = .returned (.int .u64 (Fr.ckV f p)) ∧ w = w' := by
  have F := Lib.hid (of_any B A f cap h1 w hb)
  have hr := Su.ofV_range f
  have G0 := on_any (Su.ofV f) hr.1 hr.2 B2 A2 p cap2 h2 w hp
  rw [Su.ofV_ok, Su.on_of] at G0
  have hc := Fr.ckV_range f p
  have e : Su.ofV (f ++ p) = Fr.ckV f p := rfl
  rw [e] at G0
  have G := Lib.hid G0
  clear G0 hb hp e hr
  generalize Su.ofV f = s at *
  generalize Fr.ckV f p = c at *
  go_enter Tryd.func36, Tryd.ntmps36
  go_wp2_with fail
  refine F.out.mono ?_; rintro e w' ⟨rfl, rfl⟩
  go_wp2_with fail
  refine G.out.mono ?_; rintro e w' ⟨rfl, rfl⟩
  go_wp2
  go_ret
  exact ⟨rfl, rfl⟩
set_option maxHeartbeats 400000 in
theorem size_any (x : Value) (A : Option Addr) (n cap : Nat) (hn : n ≤ 9000000000000000000) (w : World) :
    Calls Tryd.prog 34 #[.agg #[x, .slice A n cap]] w fun e w' => e = .returned (.int .i64 (16 + (n : Int))) ∧ Grew w.heap.size w w' := by
  have hn' : (n : Int) ≤ 9000000000000000000 := by omega
  go_enter Tryd.func34, Tryd.ntmps34
  go_wp2
  go_ret
  exact ⟨rfl, (Grew.refl _ _).alloc (Nat.le_refl _) _⟩
set_option maxHeartbeats 400000 in
theorem clone_any (b off : Nat) (p : List Int) (cap : Nat) (hl : p.length ≤ 1000000000) (w : World) (hp : Bytes w w.heap.size (some ⟨b, off, none⟩) p) :
    Calls Tryd.prog 48 #[.slice (some ⟨b, off, none⟩) p.length cap] w (AppPost w w.heap.size p) := by
  have H := Lib.hid hp
  have HL := Lib.hid hl
  have hnil : (binOp .eql 32 (.slice (some ⟨b, off, none⟩) p.length cap) (.slice none 0 0)).run Tryd.prog w = .ok (.bool false) w := Lib.run_eql_slice_nil w 32 5 _ _ _ _ _ Tryd.underlying32
  clear hp hl
  go_enter Tryd.func48, Tryd.ntmps48
  go_wp2_with (at_builtin; refine wp_app rfl (.tmp 5) (.tmp 6) rfl rfl rfl (OwnB.start w w.heap.size (Nat.le_refl _)) (by simp) rfl rfl (H.out.below ((Below.refl _ _).alloc (Nat.le_refl _) _)) (by have := HL.out; simp; omega) ?_; intro A2 cap2 w2 o2 d2; rw [List.nil_append] at o2; have O2 := Lib.hid o2; have D2 := Lib.hid d2; clear o2 d2)
  go_ret
  exact AppPost.mk_ (by simp) O2.out (((Grew.refl _ _).alloc (Nat.le_refl _) _).trans D2.out)
end Go.Proofs.YtlaomaefhanacaaDoor
