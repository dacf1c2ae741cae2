/-
  The law KeysKnown, walked.
-/
import Derived.Test.YteppokokabgniaaKyTri
import Derived.Test.YteppokokabgniaaKyLast
import Derived.Test.YteppokokabgniaaKyName
import Derived.Laws.StructEq
import Derived.Deep.CutBlock
import Derived.Deep.CutRange
namespace Go.Proofs.Yteppokokabgniaa
open Go.RowKit
def Ky.e1 (i : Nat) : Ky.T := ⟨⟨#[]⟩, strOfNums [(i : Int)], (i : Int)⟩
theorem Ky.e1_new {i : Nat} (hi : i ≤ 255) : ∀ j, j < i → Ky.same (Ky.e1 j) (Ky.e1 i).name (Ky.e1 i).key = false := fun j hj => by
  cases hc : Ky.same (Ky.e1 j) (Ky.e1 i).name (Ky.e1 i).key with
  | false => rfl
  | true =>
    have e := congrArg strB_ (Ky.same_iff.1 hc).2
    have b : ∀ k : Nat, k ≤ 255 → ∀ z ∈ [(k : Int)], 0 ≤ z ∧ z ≤ 255 := fun k hk z hz => by
      obtain rfl : z = (k : Int) := by simpa using hz
      omega
    unfold Ky.e1 at e
    rw [strB_back (b i hi), strB_back (b j (by omega))] at e
    injection e with e
    omega
theorem Ky.e1_ok (i : Nat) (hi : i ≤ 255) : Ky.ok ⟨#[]⟩ (strOfNums [(i : Int)]) (i : Int) := by
  refine ⟨⟨by decide, ?_⟩, by omega, by omega⟩
  have : (strOfNums [(i : Int)]).size = 1 := by rw [← ByteArray.size_data, ← Array.length_toList, strOfNums_data]; rfl
  omega
theorem entEq (W : World) : (binOp .eql 34 (.agg #[.string ⟨#[]⟩, .string ⟨#[98]⟩, .int .i64 2]) (.agg #[.string ⟨#[]⟩, .string ⟨#[98]⟩, .int .i64 2])).run Try.prog W = .ok (.bool true) W := by
  have hs : Try.prog.underlying 28 = some (.struct (Try.prog.fieldsOf 28)) := by unfold Program.fieldsOf; rw [Try.underlying28]
  have hp : Try.prog.stoodInHeld 28 = false := by kernel_rfl
  have hs2 : Try.prog.underlying 34 = some (.struct (Try.prog.fieldsOf 34)) := by unfold Program.fieldsOf; rw [Try.underlying34]
  have hp2 : Try.prog.stoodInHeld 34 = false := by kernel_rfl
  rw [run_eql_struct, run_equalIn_struct W 9999 34 _ _ hs2 hp2]
  simp only [Program.fieldsOf, Try.underlying34]
  simp [Op.eqFields, part, go_sem, Try.underlying9, Try.underlying3, Try.underlying28]
set_option maxRecDepth 20000 in
set_option maxHeartbeats 8000000 in
theorem known_walk (w : World) : Calls Try.prog 3 #[] w (BoolP w true) := by
  have AW := Lib.hid (awake_any w)
  have NW := Lib.hid (fun m W => oneNew m W)
  have EQ := entEq
  go_enter Try.func3, Try.ntmps3
  go_wp2_with fail
  (with_reducible refine AW.out.mono ?_); rintro e w1 ⟨rfl, b1⟩
  go_wp2_with fail
  (with_reducible refine (NW.out 2 w1).mono ?_); rintro e w2 ⟨T1, rfl, o1, -⟩
  go_wp2_with fail
  (with_reducible refine (NW.out (-5) w2).mono ?_); rintro e w3 ⟨T2, rfl, o2, -⟩
  go_wp2_with fail
  (with_reducible refine (NW.out 1000 w3).mono ?_); rintro e w4 ⟨T3, rfl, o3, -⟩
  have Q4 : Hid (Tri w w4 T1 T2 T3 ⟨2, []⟩ ⟨1, []⟩ ⟨128, []⟩ noG) := Lib.hid (by
    have := tri_start (o1.out.from b1.out) o2.out o3.out
    rw [show Ky.newS 2 = ⟨2, []⟩ by kernel_rfl, show Ky.newS (-5) = ⟨1, []⟩ by kernel_rfl, show Ky.newS 1000 = ⟨128, []⟩ by kernel_rfl] at this
    exact this)
  clear o1 o2 o3 b1 AW NW
  have P1 := triPut Q4.out ⟨#[]⟩ ⟨#[97]⟩ 1 (Ky.okd (by kernel_rfl)) (v := 1) (b := true) (s1' := ⟨2, [⟨⟨#[]⟩, ⟨#[97]⟩, 1⟩]⟩) (by kernel_rfl) (by kernel_rfl) (by kernel_rfl)
  go_wp2_with fail
  (with_reducible refine P1.mono ?_); rintro e w5 ⟨rfl, Q5, -⟩
  clear P1
  have P2 := triPut Q5.out ⟨#[]⟩ ⟨#[98]⟩ 2 (Ky.okd (by kernel_rfl)) (v := 2) (b := true) (s1' := ⟨2, [⟨⟨#[]⟩, ⟨#[97]⟩, 1⟩, ⟨⟨#[]⟩, ⟨#[98]⟩, 2⟩]⟩) (by kernel_rfl) (by kernel_rfl) (by kernel_rfl)
  go_wp2_with fail
  (with_reducible refine P2.mono ?_); rintro e w6 ⟨rfl, Q6, -⟩
  clear P2
  have P3 := triPut Q6.out ⟨#[]⟩ ⟨#[97]⟩ 9 (Ky.okd (by kernel_rfl)) (v := 1) (b := false) (s1' := ⟨2, [⟨⟨#[]⟩, ⟨#[97]⟩, 1⟩, ⟨⟨#[]⟩, ⟨#[98]⟩, 2⟩]⟩) (by kernel_rfl) (by kernel_rfl) (by kernel_rfl)
  go_wp2_with fail
  (with_reducible refine P3.mono ?_); rintro e w7 ⟨rfl, Q7, -⟩
  clear P3
  have P4 := triPut Q7.out ⟨#[]⟩ ⟨#[99]⟩ 3 (Ky.okd (by kernel_rfl)) (v := 3) (b := true) (s1' := ⟨2, [⟨⟨#[]⟩, ⟨#[98]⟩, 2⟩, ⟨⟨#[]⟩, ⟨#[99]⟩, 3⟩]⟩) (by kernel_rfl) (by kernel_rfl) (by kernel_rfl)
  go_wp2_with fail
  (with_reducible refine P4.mono ?_); rintro e w8 ⟨rfl, Q8, -⟩
  clear P4 Q4 Q5 Q6 Q7
  have P5 := triGet Q8.out ⟨#[]⟩ ⟨#[97]⟩ (Ky.okd (id := 0) (by kernel_rfl)).1 (v := 0) (b := false) (by kernel_rfl) (by kernel_rfl)
  go_wp2_with fail
  (with_reducible refine P5.mono ?_); rintro e w9 ⟨rfl, Q9, -⟩
  clear P5
  have P6 := triGet Q9.out ⟨#[]⟩ ⟨#[98]⟩ (Ky.okd (id := 0) (by kernel_rfl)).1 (v := 2) (b := true) (by kernel_rfl) (by kernel_rfl)
  go_wp2_with fail
  (with_reducible refine P6.mono ?_); rintro e w10 ⟨rfl, Q10, -⟩
  clear P6
  have P7 := triGet Q10.out ⟨#[98]⟩ ⟨#[]⟩ (Ky.okd (id := 0) (by kernel_rfl)).1 (v := 0) (b := false) (by kernel_rfl) (by kernel_rfl)
  go_wp2_with fail
  (with_reducible refine P7.mono ?_); rintro e w11 ⟨rfl, Q11, -⟩
  clear P7
  have P8 := triAll Q11.out (l := [⟨⟨#[]⟩, ⟨#[98]⟩, 2⟩, ⟨⟨#[]⟩, ⟨#[99]⟩, 3⟩]) (m := 2) rfl rfl
  go_wp2_with fail
  (with_reducible refine P8.mono ?_); rintro e w12 ⟨A, c, rfl, Q12, D12⟩
  clear P8 Q8 Q9 Q10 Q11
  have P9 := triPut Q12.out.rot ⟨#[]⟩ ⟨#[97]⟩ 1 (Ky.okd (by kernel_rfl)) (v := 1) (b := true) (s1' := ⟨1, [⟨⟨#[]⟩, ⟨#[97]⟩, 1⟩]⟩) (by kernel_rfl) (by kernel_rfl) (by kernel_rfl)
  go_wp2_with fail
  (with_reducible refine P9.mono ?_); rintro e w13 ⟨rfl, Q13, K13⟩
  clear P9
  have D13 := Lib.hid (D12.out.kept K13.out fun k hk => hk)
  have P10 := triPut Q13.out ⟨#[]⟩ ⟨#[98]⟩ 1 (Ky.okd (by kernel_rfl)) (v := 1) (b := true) (s1' := ⟨1, [⟨⟨#[]⟩, ⟨#[98]⟩, 1⟩]⟩) (by kernel_rfl) (by kernel_rfl) (by kernel_rfl)
  go_wp2_with fail
  (with_reducible refine P10.mono ?_); rintro e w14 ⟨rfl, Q14, K14⟩
  clear P10
  have D14 := Lib.hid (D13.out.kept K14.out fun k hk => hk)
  have Q15 := Lib.hid Q14.out.rot
  have EN : Hid ((⟨128, []⟩ : Ky.S) = Ky.last Ky.e1 128 0) := Lib.hid (by kernel_rfl)
  rw [EN.out] at Q15
  clear K13 K14 D12 D13 Q12 Q13 Q14 EN
  go_wp2_with fail
  go_loopw [11] (fun iv wr => ∃ i : Nat, i ≤ 200 ∧ iv = .int .i64 i ∧ Hid (Tri w wr T3 T1 T2 (Ky.last Ky.e1 128 i) ⟨2, [⟨⟨#[]⟩, ⟨#[98]⟩, 2⟩, ⟨⟨#[]⟩, ⟨#[99]⟩, 3⟩]⟩ ⟨1, [⟨⟨#[]⟩, ⟨#[98]⟩, 1⟩]⟩ (rowK A [⟨⟨#[]⟩, ⟨#[98]⟩, 2⟩, ⟨⟨#[]⟩, ⟨#[99]⟩, 3⟩])) ∧ Hid (Ents wr (fun b => w11.heap.size ≤ b) A [⟨⟨#[]⟩, ⟨#[98]⟩, 2⟩, ⟨⟨#[]⟩, ⟨#[99]⟩, 3⟩])) (fun iv _ => 200 - (intOf iv).toNat)
  case atStart => exact ⟨0, Nat.zero_le _, rfl, Q15, D14⟩
  case round =>
    obtain ⟨i, hi, rfl, QI, DI⟩ := hrel
    clear Q15 D14
    by_cases hlt : i < 200
    · have hlt' : (i : Int) < 200 := by omega
      have hw : IntKind.u8.wrap (i : Int) = (i : Int) := IntWalk.u8_in _ (by omega)
      have hcv : (convert 32 9 (.slice (some ⟨wr.heap.size, 0, none⟩) 1 1)).run Try.prog (wr.alloc (.cells #[.int .u8 (i : Int)] 5)) = .ok (.string (strOfNums [(i : Int)])) (wr.alloc (.cells #[.int .u8 (i : Int)] 5)) :=
        conv_str (zs := [(i : Int)]) (Bytes.new1 wr (i : Int) (by omega) (by omega) _) 1
      have BA := Lib.hid ((Below.refl wr.heap.size wr).alloc (Nat.le_refl _) (.cells #[.int .u8 (i : Int)] 5))
      have QA := Lib.hid (QI.out.on BA.out)
      have DA := Lib.hid (DI.out.on BA.out)
      obtain ⟨v1, v2, v3⟩ : Ky.putV (Ky.last Ky.e1 128 i) ⟨#[]⟩ (strOfNums [(i : Int)]) (i : Int) = (i : Int) ∧ Ky.putB (Ky.last Ky.e1 128 i) ⟨#[]⟩ (strOfNums [(i : Int)]) = true ∧ Ky.putS (Ky.last Ky.e1 128 i) ⟨#[]⟩ (strOfNums [(i : Int)]) (i : Int) = Ky.last Ky.e1 128 (i + 1) := Ky.last_put Ky.e1 128 i (by omega) (Ky.e1_new (i := i) (by omega))
      have P := triPut QA.out ⟨#[]⟩ (strOfNums [(i : Int)]) (i : Int) (Ky.e1_ok i (by omega)) v1 v2 v3
      clear v1 v2 v3 BA QI DI
      go_wp2_with fail
      (with_reducible refine P.mono ?_); rintro e w15 ⟨rfl, Q15, K15⟩
      have D15 := Lib.hid (DA.out.kept K15.out fun k hk => hk)
      clear P QA DA K15
      go_wp2
      refine ⟨⟨i + 1, by omega, by go_num, Q15, D15⟩, ?_⟩
      simp [intOf]; omega
    · obtain rfl : i = 200 := by omega
      obtain ⟨b, off, a, rfl, -, ha, c0, c1, c2⟩ := DI.out.at_ (k := 0) (by simp)
      obtain rfl : (⟨⟨#[]⟩, ⟨#[98]⟩, 2⟩ : Ky.T) = a := by have := ha.out; injection this
      obtain ⟨b', off', a', e', -, ha', d0, d1, d2⟩ := DI.out.at_ (k := 1) (by simp)
      obtain rfl : (⟨⟨#[]⟩, ⟨#[99]⟩, 3⟩ : Ky.T) = a' := by have := ha'.out; injection this
      injection e' with e'
      injection e' with e1 e2
      subst e1 e2
      rw [Nat.zero_mul, Nat.add_zero] at c0 c1 c2
      rw [Nat.one_mul] at d0 d1 d2
      dsimp only at c0 c1 c2 d0 d1 d2
      have QR := Lib.hid (QI.out.rot.rot)
      have P1 := triLen QR.out (m := 1) (by simp)
      go_wp2_with fail
      (with_reducible refine P1.mono ?_); rintro e w16 ⟨rfl, Q16, -⟩
      clear P1
      have P2 := triLen Q16.out.rot (m := 128) (by rw [Ky.last_len]; rfl)
      go_wp2_with fail
      (with_reducible refine P2.mono ?_); rintro e w17 ⟨rfl, Q17, -⟩
      go_wp2
      go_ret
      exact ⟨rfl, Lib.hid Q17.out.below⟩
end Go.Proofs.Yteppokokabgniaa
