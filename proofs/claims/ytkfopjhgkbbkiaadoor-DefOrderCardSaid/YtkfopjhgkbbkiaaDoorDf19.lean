/-
  Part 19 of the texts behind the law: DfSame, DfOf, DfKnownL.
-/
import Derived.Test.YtkfopjhgkbbkiaaDoorDf18
import Derived.Test.YtkfopjhgkbbkiaaDoorDf15
import Derived.Test.YtkfopjhgkbbkiaaDoorDf4
import Derived.Deep.CutRange
import Derived.Deep.QuietTactic
import Derived.Deep.Cut
import Derived.Deep.RegionHeld
import Derived.Lib.SmallJoins
/-
  The laws' own: refused, defOf, same (of two that are alike).
-/
namespace Go.Proofs.YtkfopjhgkbbkiaaDoor
open Go.RowKit
theorem refused_yes (s : ByteArray) (hs : s.size ≤ 140737488355328) (x : Int) (h : Df.parse s.data.toList = ([], x)) (w : World) (hF : FactsD w) : Calls Tryd.prog 7 #[.string s, .int .i64 x] w (BoolG w true) := by
  have PA : Hid (Calls Tryd.prog 8 #[.string s] w (ParseY w [] 0 x)) := Lib.hid ((parse_any s hs w hF).mono fun e w' hp => hp.of h rfl)
  clear h
  go_enter Tryd.func7, Tryd.ntmps7
  go_wp2_with fail
  (with_reducible refine PA.out.mono ?_); rintro e w2 ⟨A, cap, rfl, di, b2⟩
  go_wp2
  go_ret
  exact ⟨rfl, Lib.hid (b2.out.alloc b2.out.size _)⟩
set_option maxRecDepth 100000 in
set_option maxHeartbeats 4000000 in
theorem same_yes (A1 A2 : Option Addr) (d : Df.D) (cap1 cap2 : Nat) (hf : Fair d) (w : World) (h1 : DefIn w w.heap.size A1 d) (h2 : DefIn w w.heap.size A2 d) :
    Calls Tryd.prog 12 #[.slice A1 d.length cap1, .slice A2 d.length cap2] w (BoolG w true) := by
  have H1 := Lib.hid h1
  have H2 := Lib.hid h2
  have HF := Lib.hid hf
  have hl := hf.1
  obtain ⟨n, hn⟩ : ∃ n, n = d.length := ⟨_, rfl⟩
  have HN := Lib.hid hn
  rw [← hn] at hl ⊢
  clear h1 h2 hf hn
  go_enter Tryd.func12, Tryd.ntmps12
  go_wp2_with fail
  go_loopw [5] (fun iv wr => ∃ i : Nat, i ≤ n ∧ iv = .int .i64 i ∧ Hid (Below w.heap.size w wr)) (fun iv _ => n - (intOf iv).toNat)
  case atStart => exact ⟨0, Nat.zero_le _, rfl, Lib.hid (Below.refl _ _)⟩
  case round =>
    obtain ⟨i, hi, rfl, HB⟩ := hrel
    obtain ⟨wo, hwo⟩ : ∃ wo, wo = wr := ⟨_, rfl⟩
    rw [← hwo] at HB ⊢
    clear hwo
    by_cases hlt : i < n
    · have hlt' : (i : Int) < (n : Int) := by omega
      obtain ⟨b1, o1, A3, c3, t, rfl, hb1, ht, z1, zc1, ni, p0, p1, p2, p3, p4, p5⟩ := (H1.out.below HB.out).at_ (k := i) (by rw [← HN.out]; exact hlt)
      obtain ⟨b2, o2, A4, c4, t', rfl, hb2, ht', z2, zc2, ni2, q0, q1, q2, q3, q4, q5⟩ := (H2.out.below HB.out).at_ (k := i) (by rw [← HN.out]; exact hlt)
      obtain rfl : t = t' := by have := ht.out.symm.trans ht'.out; injection this
      go_wp2_with fail
      obtain ⟨X, hX⟩ : ∃ X, X = wo.heap.size := ⟨_, rfl⟩
      obtain ⟨W2, hW2⟩ : ∃ W2, W2 = ((wo.alloc (.cells #[.string { data := #[] }, .slice none 0 0, .int .i64 0, .int .i64 0, .int .i64 0, .string { data := #[] }] 62)).alloc (.cells #[.string { data := #[] }, .slice none 0 0, .int .i64 0, .int .i64 0, .int .i64 0, .string { data := #[] }] 62)).drew := ⟨_, rfl⟩
      have PX : Hid (W2.heap[X]? = some (.cells #[.string { data := #[] }, .slice none 0 0, .int .i64 0, .int .i64 0, .int .i64 0, .string { data := #[] }] 62 (0, 0))) := Lib.hid (by rw [hW2, hX]; exact box0 wo _ _)
      have PY : Hid (W2.heap[X + 1]? = some (.cells #[.string { data := #[] }, .slice none 0 0, .int .i64 0, .int .i64 0, .int .i64 0, .string { data := #[] }] 62 (0, 0))) := Lib.hid (by rw [hW2, hX]; exact box1 wo _ _)
      have B2 : Hid (Below X wo W2) := Lib.hid (by rw [hW2, hX]; exact (((Below.refl _ _).alloc (Nat.le_refl _) _).alloc (by simp) _).drew)
      have XB : Hid (w.heap.size ≤ X) := Lib.hid (by rw [hX]; exact HB.out.size)
      have SK : Hid (∀ W, Below X wo W → (W.cell? ⟨b1, o1 + i * 6, none⟩ = some (.string (str t.name)) ∧ W.cell? ⟨b1, o1 + i * 6 + 1, none⟩ = some (.slice A3 t.after.length c3) ∧ W.cell? ⟨b1, o1 + i * 6 + 2, none⟩ = some (.int .i64 t.retry) ∧ W.cell? ⟨b1, o1 + i * 6 + 3, none⟩ = some (.int .i64 t.wait) ∧ W.cell? ⟨b1, o1 + i * 6 + 4, none⟩ = some (.int .i64 t.base) ∧ W.cell? ⟨b1, o1 + i * 6 + 5, none⟩ = some (.string (str t.on))) ∧ (W.cell? ⟨b2, o2 + i * 6, none⟩ = some (.string (str t.name)) ∧ W.cell? ⟨b2, o2 + i * 6 + 1, none⟩ = some (.slice A4 t.after.length c4) ∧ W.cell? ⟨b2, o2 + i * 6 + 2, none⟩ = some (.int .i64 t.retry) ∧ W.cell? ⟨b2, o2 + i * 6 + 3, none⟩ = some (.int .i64 t.wait) ∧ W.cell? ⟨b2, o2 + i * 6 + 4, none⟩ = some (.int .i64 t.base) ∧ W.cell? ⟨b2, o2 + i * 6 + 5, none⟩ = some (.string (str t.on)))) := Lib.hid fun W hW => by
        have h1 := hb1.out
        have h2 := hb2.out
        have hx := XB.out
        exact ⟨⟨(hW.cell (p := ⟨b1, _, none⟩) (show b1 < X by omega)).trans p0, (hW.cell (p := ⟨b1, _, none⟩) (show b1 < X by omega)).trans p1, (hW.cell (p := ⟨b1, _, none⟩) (show b1 < X by omega)).trans p2, (hW.cell (p := ⟨b1, _, none⟩) (show b1 < X by omega)).trans p3, (hW.cell (p := ⟨b1, _, none⟩) (show b1 < X by omega)).trans p4, (hW.cell (p := ⟨b1, _, none⟩) (show b1 < X by omega)).trans p5⟩, ⟨(hW.cell (p := ⟨b2, _, none⟩) (show b2 < X by omega)).trans q0, (hW.cell (p := ⟨b2, _, none⟩) (show b2 < X by omega)).trans q1, (hW.cell (p := ⟨b2, _, none⟩) (show b2 < X by omega)).trans q2, (hW.cell (p := ⟨b2, _, none⟩) (show b2 < X by omega)).trans q3, (hW.cell (p := ⟨b2, _, none⟩) (show b2 < X by omega)).trans q4, (hW.cell (p := ⟨b2, _, none⟩) (show b2 < X by omega)).trans q5⟩⟩
      have B1 : Hid (Below X wo (wo.alloc (.cells #[.string { data := #[] }, .slice none 0 0, .int .i64 0, .int .i64 0, .int .i64 0, .string { data := #[] }] 62)).drew) := Lib.hid (by rw [hX]; exact ((Below.refl _ _).alloc (Nat.le_refl _) _).drew)
      go_cut [6, 7] from 20 to 87 (fun xv yv wx => ∃ P Q, xv = .pointer (some ⟨P, 0, none⟩) ∧ yv = .pointer (some ⟨Q, 0, none⟩) ∧ Hid (wx.heap[P]? = some (.cells #[.string (str t.name), .slice A3 t.after.length c3, .int .i64 t.retry, .int .i64 t.wait, .int .i64 t.base, .string (str t.on)] 62 (0, 0))) ∧ Hid (wx.heap[Q]? = some (.cells #[.string (str t.name), .slice A4 t.after.length c4, .int .i64 t.retry, .int .i64 t.wait, .int .i64 t.base, .string (str t.on)] 62 (0, 0))) ∧ Hid (Below X wo wx))
      case first =>
        refine wp_region_C (fun w' => (w'.cell? ⟨b1, o1 + i * 6, none⟩ = some (.string (str t.name)) ∧ w'.cell? ⟨b1, o1 + i * 6 + 1, none⟩ = some (.slice A3 t.after.length c3) ∧ w'.cell? ⟨b1, o1 + i * 6 + 2, none⟩ = some (.int .i64 t.retry) ∧ w'.cell? ⟨b1, o1 + i * 6 + 3, none⟩ = some (.int .i64 t.wait) ∧ w'.cell? ⟨b1, o1 + i * 6 + 4, none⟩ = some (.int .i64 t.base) ∧ w'.cell? ⟨b1, o1 + i * 6 + 5, none⟩ = some (.string (str t.on))) ∧ (w'.cell? ⟨b2, o2 + i * 6, none⟩ = some (.string (str t.name)) ∧ w'.cell? ⟨b2, o2 + i * 6 + 1, none⟩ = some (.slice A4 t.after.length c4) ∧ w'.cell? ⟨b2, o2 + i * 6 + 2, none⟩ = some (.int .i64 t.retry) ∧ w'.cell? ⟨b2, o2 + i * 6 + 3, none⟩ = some (.int .i64 t.wait) ∧ w'.cell? ⟨b2, o2 + i * 6 + 4, none⟩ = some (.int .i64 t.base) ∧ w'.cell? ⟨b2, o2 + i * 6 + 5, none⟩ = some (.string (str t.on)))) 11 (by kernel_rfl) ?_
        have hS0 : (fun w' : World => (w'.cell? ⟨b1, o1 + i * 6, none⟩ = some (.string (str t.name)) ∧ w'.cell? ⟨b1, o1 + i * 6 + 1, none⟩ = some (.slice A3 t.after.length c3) ∧ w'.cell? ⟨b1, o1 + i * 6 + 2, none⟩ = some (.int .i64 t.retry) ∧ w'.cell? ⟨b1, o1 + i * 6 + 3, none⟩ = some (.int .i64 t.wait) ∧ w'.cell? ⟨b1, o1 + i * 6 + 4, none⟩ = some (.int .i64 t.base) ∧ w'.cell? ⟨b1, o1 + i * 6 + 5, none⟩ = some (.string (str t.on))) ∧ (w'.cell? ⟨b2, o2 + i * 6, none⟩ = some (.string (str t.name)) ∧ w'.cell? ⟨b2, o2 + i * 6 + 1, none⟩ = some (.slice A4 t.after.length c4) ∧ w'.cell? ⟨b2, o2 + i * 6 + 2, none⟩ = some (.int .i64 t.retry) ∧ w'.cell? ⟨b2, o2 + i * 6 + 3, none⟩ = some (.int .i64 t.wait) ∧ w'.cell? ⟨b2, o2 + i * 6 + 4, none⟩ = some (.int .i64 t.base) ∧ w'.cell? ⟨b2, o2 + i * 6 + 5, none⟩ = some (.string (str t.on)))) wo.drew := ⟨⟨p0, p1, p2, p3, p4, p5⟩, ⟨q0, q1, q2, q3, q4, q5⟩⟩
        refine wpAnyC_take (i := 0) (oi := ?o1) (v := ?v1) ?hi1 (by kernel_rfl) (by kernel_rfl) (by kernel_rfl) ?hQ1 (by kernel_rfl) (by decide) (by kernel_rfl) (Or.inl ⟨?hg1, ?hy1⟩) (by assumption) ?rest1
        case hi1 => (simp only [List.getElem?_toArray, List.getElem?_cons_zero]; exact rfl)
        case hQ1 => exact fun _ _ _ h => h
        case hg1 => rfl
        case hy1 => (intro w' hSw; (try dsimp only at hSw); go_simp; try with_reducible rfl)
        try simp only [Act.put, List.setIfInBounds_toArray, List.set_cons_zero, List.set_cons_succ]
        refine wpAnyC_take (i := 1) (oi := ?o2) (v := ?v2) ?hi2 (by kernel_rfl) (by kernel_rfl) (by kernel_rfl) ?hQ2 (by kernel_rfl) (by decide) (by kernel_rfl) (Or.inl ⟨?hg2, ?hy2⟩) (by assumption) ?rest2
        case hi2 => (simp only [List.getElem?_toArray, List.getElem?_cons_zero, List.getElem?_cons_succ]; exact rfl)
        case hQ2 => exact fun _ _ _ h => h
        case hg2 => rfl
        case hy2 => (intro w' hSw; (try dsimp only at hSw); go_simp; try with_reducible rfl)
        try simp only [Act.put, List.setIfInBounds_toArray, List.set_cons_zero, List.set_cons_succ]
        refine wpAnyC_take (i := 2) (oi := ?o3) (v := ?v3) ?hi3 (by kernel_rfl) (by kernel_rfl) (by kernel_rfl) ?hQ3 (by kernel_rfl) (by decide) (by kernel_rfl) (Or.inl ⟨?hg3, ?hy3⟩) (by assumption) ?rest3
        case hi3 => (simp only [List.getElem?_toArray, List.getElem?_cons_zero, List.getElem?_cons_succ]; exact rfl)
        case hQ3 => exact fun _ _ _ h => h
        case hg3 => rfl
        case hy3 => (intro w' hSw; (try dsimp only at hSw); go_simp; try with_reducible rfl)
        try simp only [Act.put, List.setIfInBounds_toArray, List.set_cons_zero, List.set_cons_succ]
        refine wpAnyC_take (i := 3) (oi := ?o4) (v := ?v4) ?hi4 (by kernel_rfl) (by kernel_rfl) (by kernel_rfl) ?hQ4 (by kernel_rfl) (by decide) (by kernel_rfl) (Or.inl ⟨?hg4, ?hy4⟩) (by assumption) ?rest4
        case hi4 => (simp only [List.getElem?_toArray, List.getElem?_cons_zero, List.getElem?_cons_succ]; exact rfl)
        case hQ4 => exact fun _ _ _ h => h
        case hg4 => rfl
        case hy4 => (intro w' hSw; (try dsimp only at hSw); go_simp; try with_reducible rfl)
        try simp only [Act.put, List.setIfInBounds_toArray, List.set_cons_zero, List.set_cons_succ]
        refine wpAnyC_take (i := 4) (oi := ?o5) (v := ?v5) ?hi5 (by kernel_rfl) (by kernel_rfl) (by kernel_rfl) ?hQ5 (by kernel_rfl) (by decide) (by kernel_rfl) (Or.inl ⟨?hg5, ?hy5⟩) (by assumption) ?rest5
        case hi5 => (simp only [List.getElem?_toArray, List.getElem?_cons_zero, List.getElem?_cons_succ]; exact rfl)
        case hQ5 => exact fun _ _ _ h => h
        case hg5 => rfl
        case hy5 => (intro w' hSw; (try dsimp only at hSw); go_simp; try with_reducible rfl)
        try simp only [Act.put, List.setIfInBounds_toArray, List.set_cons_zero, List.set_cons_succ]
        refine wpAnyC_take (i := 5) (oi := ?o6) (v := ?v6) ?hi6 (by kernel_rfl) (by kernel_rfl) (by kernel_rfl) ?hQ6 (by kernel_rfl) (by decide) (by kernel_rfl) (Or.inl ⟨?hg6, ?hy6⟩) (by assumption) ?rest6
        case hi6 => (simp only [List.getElem?_toArray, List.getElem?_cons_zero, List.getElem?_cons_succ]; exact rfl)
        case hQ6 => exact fun _ _ _ h => h
        case hg6 => rfl
        case hy6 => (intro w' hSw; (try dsimp only at hSw); go_simp; try with_reducible rfl)
        try simp only [Act.put, List.setIfInBounds_toArray, List.set_cons_zero, List.set_cons_succ]
        refine wpAnyC_take (i := 6) (oi := ?o7) (v := ?v7) ?hi7 (by kernel_rfl) (by kernel_rfl) (by kernel_rfl) ?hQ7 (by kernel_rfl) (by decide) (by kernel_rfl) (Or.inl ⟨?hg7, ?hy7⟩) (by assumption) ?rest7
        case hi7 => (simp only [List.getElem?_toArray, List.getElem?_cons_zero, List.getElem?_cons_succ]; exact rfl)
        case hQ7 => exact fun _ _ _ h => h
        case hg7 => rfl
        case hy7 => (intro w' hSw; (try dsimp only at hSw); go_simp; try with_reducible rfl)
        try simp only [Act.put, List.setIfInBounds_toArray, List.set_cons_zero, List.set_cons_succ]
        refine wpAnyC_take (i := 7) (oi := ?o8) (v := ?v8) ?hi8 (by kernel_rfl) (by kernel_rfl) (by kernel_rfl) ?hQ8 (by kernel_rfl) (by decide) (by kernel_rfl) (Or.inl ⟨?hg8, ?hy8⟩) (by assumption) ?rest8
        case hi8 => (simp only [List.getElem?_toArray, List.getElem?_cons_zero, List.getElem?_cons_succ]; exact rfl)
        case hQ8 => exact fun _ _ _ h => h
        case hg8 => rfl
        case hy8 => (intro w' hSw; (try dsimp only at hSw); go_simp; try with_reducible rfl)
        try simp only [Act.put, List.setIfInBounds_toArray, List.set_cons_zero, List.set_cons_succ]
        clear p0 p1 p2 p3 p4 p5 q0 q1 q2 q3 q4 q5
        refine wpAnyC_two (i := 8) (j := 9) (oi := ?o9) (oj := ?p9) ?hi9 ?hj9 (by kernel_rfl) ?step9 ?more9
        case hi9 => (simp only [List.getElem?_toArray, List.getElem?_cons_zero, List.getElem?_cons_succ]; exact rfl)
        case hj9 => (simp only [List.getElem?_toArray, List.getElem?_cons_zero, List.getElem?_cons_succ]; exact rfl)
        case step9 =>
          intro K' hK
          go_simp
          refine hK.out _ _ ?_ (fun hHeld => ?_)
          · exact fun _ => SK.out _ B1.out
          clear hK K' hHeld
          try simp only [Act.put, List.setIfInBounds_toArray, List.set_cons_zero, List.set_cons_succ]
          refine wpAnyC_one (i := 9) (oi := ?o10) ?hi10 (by kernel_rfl) ?step10
          case hi10 => (simp only [List.getElem?_toArray, List.getElem?_cons_zero, List.getElem?_cons_succ]; exact rfl)
          intro K' hK
          (go_simp; rw [← hW2, ← hX])
          refine hK.out _ _ ?_ (fun hHeld => ?_)
          · exact fun _ => SK.out _ B2.out
          clear hK K' hHeld
          try simp only [Act.put, List.setIfInBounds_toArray, List.set_cons_zero, List.set_cons_succ]
          clear hW2 hX
          have y0 := ob6 PX.out
          have y1 := ob6f PX.out
          have B3 : Hid (Below X wo (S6 W2 (X) (.string (str t.name)) (.slice A3 t.after.length c3) (.int .i64 t.retry) (.int .i64 t.wait) (.int .i64 t.base) (.string (str t.on)))) := Lib.hid (S6.below B2.out (by omega) _ _ _ _ _ _)
          have P3 : Hid ((S6 W2 (X) (.string (str t.name)) (.slice A3 t.after.length c3) (.int .i64 t.retry) (.int .i64 t.wait) (.int .i64 t.base) (.string (str t.on))).heap[X]? = some (.cells #[.string (str t.name), .slice A3 t.after.length c3, .int .i64 t.retry, .int .i64 t.wait, .int .i64 t.base, .string (str t.on)] 62 (0, 0))) := Lib.hid (S6.at_ PX.out _ _ _ _ _ _)
          have Q3 : Hid ((S6 W2 (X) (.string (str t.name)) (.slice A3 t.after.length c3) (.int .i64 t.retry) (.int .i64 t.wait) (.int .i64 t.base) (.string (str t.on))).heap[X + 1]? = some (.cells #[.string { data := #[] }, .slice none 0 0, .int .i64 0, .int .i64 0, .int .i64 0, .string { data := #[] }] 62 (0, 0))) := Lib.hid ((S6.else_ W2 _ _ _ _ _ _ _ (by omega)).trans PY.out)
          obtain ⟨W3, hW3⟩ : ∃ W3, W3 = S6 W2 (X) (.string (str t.name)) (.slice A3 t.after.length c3) (.int .i64 t.retry) (.int .i64 t.wait) (.int .i64 t.base) (.string (str t.on)) := ⟨_, rfl⟩
          rw [← hW3] at B3 P3 Q3
          have e3 : (((((W2.setCell ⟨X, 0, none⟩ (.string (str t.name))).setCell ⟨X, 1, none⟩ (.slice A3 t.after.length c3)).setCell ⟨X, 2, none⟩ (.int .i64 t.retry)).setCell ⟨X, 3, none⟩ (.int .i64 t.wait)).setCell ⟨X, 4, none⟩ (.int .i64 t.base)).setCell ⟨X, 5, none⟩ (.string (str t.on)) = W3 := hW3.symm
          have E3 := Lib.hid e3
          clear e3 hW3
          refine wpAnyC_one (i := 10) (oi := ?o11) ?hi11 (by kernel_rfl) ?step11
          case hi11 => (simp only [List.getElem?_toArray, List.getElem?_cons_zero, List.getElem?_cons_succ]; exact rfl)
          intro K' hK
          (go_simp; rw [E3.out])
          refine hK.out _ _ ?_ (fun hHeld => ?_)
          · exact fun _ => SK.out _ B3.out
          clear hK K' hHeld
          try simp only [Act.put, List.setIfInBounds_toArray, List.set_cons_zero, List.set_cons_succ]
          clear y0 y1 E3
          have y0 := ob6 Q3.out
          have y1 := ob6f Q3.out
          have B4 : Hid (Below X wo (S6 W3 (X + 1) (.string (str t.name)) (.slice A4 t.after.length c4) (.int .i64 t.retry) (.int .i64 t.wait) (.int .i64 t.base) (.string (str t.on)))) := Lib.hid (S6.below B3.out (by omega) _ _ _ _ _ _)
          have P4 : Hid ((S6 W3 (X + 1) (.string (str t.name)) (.slice A4 t.after.length c4) (.int .i64 t.retry) (.int .i64 t.wait) (.int .i64 t.base) (.string (str t.on))).heap[X]? = some (.cells #[.string (str t.name), .slice A3 t.after.length c3, .int .i64 t.retry, .int .i64 t.wait, .int .i64 t.base, .string (str t.on)] 62 (0, 0))) := Lib.hid ((S6.else_ W3 _ _ _ _ _ _ _ (by omega)).trans P3.out)
          have Q4 : Hid ((S6 W3 (X + 1) (.string (str t.name)) (.slice A4 t.after.length c4) (.int .i64 t.retry) (.int .i64 t.wait) (.int .i64 t.base) (.string (str t.on))).heap[X + 1]? = some (.cells #[.string (str t.name), .slice A4 t.after.length c4, .int .i64 t.retry, .int .i64 t.wait, .int .i64 t.base, .string (str t.on)] 62 (0, 0))) := Lib.hid (S6.at_ Q3.out _ _ _ _ _ _)
          obtain ⟨W4, hW4⟩ : ∃ W4, W4 = S6 W3 (X + 1) (.string (str t.name)) (.slice A4 t.after.length c4) (.int .i64 t.retry) (.int .i64 t.wait) (.int .i64 t.base) (.string (str t.on)) := ⟨_, rfl⟩
          rw [← hW4] at B4 P4 Q4
          have e4 : (((((W3.setCell ⟨X + 1, 0, none⟩ (.string (str t.name))).setCell ⟨X + 1, 1, none⟩ (.slice A4 t.after.length c4)).setCell ⟨X + 1, 2, none⟩ (.int .i64 t.retry)).setCell ⟨X + 1, 3, none⟩ (.int .i64 t.wait)).setCell ⟨X + 1, 4, none⟩ (.int .i64 t.base)).setCell ⟨X + 1, 5, none⟩ (.string (str t.on)) = W4 := hW4.symm
          have E4 := Lib.hid e4
          clear e4 hW4
          refine wpAnyC_one (i := 11) (oi := ?o12) ?hi12 (by kernel_rfl) ?step12
          case hi12 => (simp only [List.getElem?_toArray, List.getElem?_cons_zero, List.getElem?_cons_succ]; exact rfl)
          intro K' hK
          (go_simp; rw [E4.out])
          refine hK.out _ _ ?_ (fun hHeld => ?_)
          · exact fun h => (by cases h)
          clear hK K' hHeld
          try simp only [Act.put, List.setIfInBounds_toArray, List.set_cons_zero, List.set_cons_succ]
          clear y0 y1 E4
          refine wpAnyC_done (by kernel_rfl) ?_ _
          all_goals (go_wp2_with fail; go_meet; exact ⟨X, X + 1, rfl, rfl, P4, Q4, B4⟩)
        case more9 =>
          intro K' hK
          go_simp
          refine hK.out _ _ ?_ (fun hHeld => ?_)
          · exact fun _ => SK.out _ B1.out
          clear hK K' hHeld
          try simp only [Act.put, List.setIfInBounds_toArray, List.set_cons_zero, List.set_cons_succ]
          refine wpAnyC_one (i := 8) (oi := ?o13) ?hi13 (by kernel_rfl) ?step13
          case hi13 => (simp only [List.getElem?_toArray, List.getElem?_cons_zero, List.getElem?_cons_succ]; exact rfl)
          intro K' hK
          (go_simp; rw [← hW2, ← hX])
          refine hK.out _ _ ?_ (fun hHeld => ?_)
          · exact fun _ => SK.out _ B2.out
          clear hK K' hHeld
          try simp only [Act.put, List.setIfInBounds_toArray, List.set_cons_zero, List.set_cons_succ]
          clear hW2 hX
          have y0 := ob6 PY.out
          have y1 := ob6f PY.out
          have B3 : Hid (Below X wo (S6 W2 (X + 1) (.string (str t.name)) (.slice A3 t.after.length c3) (.int .i64 t.retry) (.int .i64 t.wait) (.int .i64 t.base) (.string (str t.on)))) := Lib.hid (S6.below B2.out (by omega) _ _ _ _ _ _)
          have P3 : Hid ((S6 W2 (X + 1) (.string (str t.name)) (.slice A3 t.after.length c3) (.int .i64 t.retry) (.int .i64 t.wait) (.int .i64 t.base) (.string (str t.on))).heap[X + 1]? = some (.cells #[.string (str t.name), .slice A3 t.after.length c3, .int .i64 t.retry, .int .i64 t.wait, .int .i64 t.base, .string (str t.on)] 62 (0, 0))) := Lib.hid (S6.at_ PY.out _ _ _ _ _ _)
          have Q3 : Hid ((S6 W2 (X + 1) (.string (str t.name)) (.slice A3 t.after.length c3) (.int .i64 t.retry) (.int .i64 t.wait) (.int .i64 t.base) (.string (str t.on))).heap[X]? = some (.cells #[.string { data := #[] }, .slice none 0 0, .int .i64 0, .int .i64 0, .int .i64 0, .string { data := #[] }] 62 (0, 0))) := Lib.hid ((S6.else_ W2 _ _ _ _ _ _ _ (by omega)).trans PX.out)
          obtain ⟨W3, hW3⟩ : ∃ W3, W3 = S6 W2 (X + 1) (.string (str t.name)) (.slice A3 t.after.length c3) (.int .i64 t.retry) (.int .i64 t.wait) (.int .i64 t.base) (.string (str t.on)) := ⟨_, rfl⟩
          rw [← hW3] at B3 P3 Q3
          have e3 : (((((W2.setCell ⟨X + 1, 0, none⟩ (.string (str t.name))).setCell ⟨X + 1, 1, none⟩ (.slice A3 t.after.length c3)).setCell ⟨X + 1, 2, none⟩ (.int .i64 t.retry)).setCell ⟨X + 1, 3, none⟩ (.int .i64 t.wait)).setCell ⟨X + 1, 4, none⟩ (.int .i64 t.base)).setCell ⟨X + 1, 5, none⟩ (.string (str t.on)) = W3 := hW3.symm
          have E3 := Lib.hid e3
          clear e3 hW3
          refine wpAnyC_one (i := 10) (oi := ?o14) ?hi14 (by kernel_rfl) ?step14
          case hi14 => (simp only [List.getElem?_toArray, List.getElem?_cons_zero, List.getElem?_cons_succ]; exact rfl)
          intro K' hK
          (go_simp; rw [E3.out])
          refine hK.out _ _ ?_ (fun hHeld => ?_)
          · exact fun _ => SK.out _ B3.out
          clear hK K' hHeld
          try simp only [Act.put, List.setIfInBounds_toArray, List.set_cons_zero, List.set_cons_succ]
          clear y0 y1 E3
          have y0 := ob6 Q3.out
          have y1 := ob6f Q3.out
          have B4 : Hid (Below X wo (S6 W3 (X) (.string (str t.name)) (.slice A4 t.after.length c4) (.int .i64 t.retry) (.int .i64 t.wait) (.int .i64 t.base) (.string (str t.on)))) := Lib.hid (S6.below B3.out (by omega) _ _ _ _ _ _)
          have P4 : Hid ((S6 W3 (X) (.string (str t.name)) (.slice A4 t.after.length c4) (.int .i64 t.retry) (.int .i64 t.wait) (.int .i64 t.base) (.string (str t.on))).heap[X + 1]? = some (.cells #[.string (str t.name), .slice A3 t.after.length c3, .int .i64 t.retry, .int .i64 t.wait, .int .i64 t.base, .string (str t.on)] 62 (0, 0))) := Lib.hid ((S6.else_ W3 _ _ _ _ _ _ _ (by omega)).trans P3.out)
          have Q4 : Hid ((S6 W3 (X) (.string (str t.name)) (.slice A4 t.after.length c4) (.int .i64 t.retry) (.int .i64 t.wait) (.int .i64 t.base) (.string (str t.on))).heap[X]? = some (.cells #[.string (str t.name), .slice A4 t.after.length c4, .int .i64 t.retry, .int .i64 t.wait, .int .i64 t.base, .string (str t.on)] 62 (0, 0))) := Lib.hid (S6.at_ Q3.out _ _ _ _ _ _)
          obtain ⟨W4, hW4⟩ : ∃ W4, W4 = S6 W3 (X) (.string (str t.name)) (.slice A4 t.after.length c4) (.int .i64 t.retry) (.int .i64 t.wait) (.int .i64 t.base) (.string (str t.on)) := ⟨_, rfl⟩
          rw [← hW4] at B4 P4 Q4
          have e4 : (((((W3.setCell ⟨X, 0, none⟩ (.string (str t.name))).setCell ⟨X, 1, none⟩ (.slice A4 t.after.length c4)).setCell ⟨X, 2, none⟩ (.int .i64 t.retry)).setCell ⟨X, 3, none⟩ (.int .i64 t.wait)).setCell ⟨X, 4, none⟩ (.int .i64 t.base)).setCell ⟨X, 5, none⟩ (.string (str t.on)) = W4 := hW4.symm
          have E4 := Lib.hid e4
          clear e4 hW4
          refine wpAnyC_one (i := 11) (oi := ?o15) ?hi15 (by kernel_rfl) ?step15
          case hi15 => (simp only [List.getElem?_toArray, List.getElem?_cons_zero, List.getElem?_cons_succ]; exact rfl)
          intro K' hK
          (go_simp; rw [E4.out])
          refine hK.out _ _ ?_ (fun hHeld => ?_)
          · exact fun h => (by cases h)
          clear hK K' hHeld
          try simp only [Act.put, List.setIfInBounds_toArray, List.set_cons_zero, List.set_cons_succ]
          clear y0 y1 E4
          refine wpAnyC_done (by kernel_rfl) ?_ _
          all_goals (go_wp2_with fail; go_meet; exact ⟨X + 1, X, rfl, rfl, P4, Q4, B4⟩)
      case rest =>
        obtain ⟨P, Q, rfl, rfl, hP, hQ, hB⟩ := hcut
        obtain ⟨m, hm⟩ : ∃ m, m = t.after.length := ⟨_, rfl⟩
        have hm6 : m ≤ 1000000 := by
          rw [hm]
          exact Nat.le_trans (HF.out.2 t (List.mem_of_getElem? ht.out)).1 (by decide)
        have HM := Lib.hid hm
        rw [← hm] at hP hQ
        have BW : Hid (Below w.heap.size wo wc) := Lib.hid (hB.out.mono XB.out)
        have y0 := ob6 hP.out
        have y1 := ob6 hQ.out
        clear hm SK B1 B2 PX PY hW2 hX p0 p1 p2 p3 p4 p5 q0 q1 q2 q3 q4 q5
        go_wp2_with fail
        clear y0 y1
        go_loopw [8] (fun jv wr2 => ∃ j : Nat, j ≤ m ∧ jv = .int .i64 j ∧ Hid (wr2.heap[P]? = some (.cells #[.string (str t.name), .slice A3 m c3, .int .i64 t.retry, .int .i64 t.wait, .int .i64 t.base, .string (str t.on)] 62 (0, 0))) ∧ Hid (wr2.heap[Q]? = some (.cells #[.string (str t.name), .slice A4 m c4, .int .i64 t.retry, .int .i64 t.wait, .int .i64 t.base, .string (str t.on)] 62 (0, 0))) ∧ Hid (Below w.heap.size wo wr2)) (fun jv _ => m - (intOf jv).toNat)
        case atStart => exact ⟨0, Nat.zero_le _, rfl, hP, hQ, BW⟩
        case round =>
          obtain ⟨j, hj, rfl, hP2, hQ2, BW2⟩ := hrel
          have y0 := ob6 hP2.out
          have y1 := ob6 hQ2.out
          by_cases hlm : j < m
          · have hlm' : (j : Int) < (m : Int) := by omega
            obtain ⟨b5, o5, z, rfl, hb5, hc5, hz5, _, _⟩ := (z1.out.below BW2.out).at_ (k := j) (by rw [← HM.out]; exact hlm)
            obtain ⟨b6, o6, z', rfl, hb6, hc6, hz6, _, _⟩ := (z2.out.below BW2.out).at_ (k := j) (by rw [← HM.out]; exact hlm)
            obtain rfl : z = z' := hz5.out.symm.trans hz6.out
            go_wp2_with fail
            go_quiet (fail)
            go_wp2
            go_roundw
            case rel => exact ⟨j + 1, by omega, by go_num, hP2, hQ2, Lib.hid (below_n BW2.out _)⟩
            case measure => simp [intOf]; omega
          · obtain rfl : m = j := by omega
            go_wp2
            go_roundw
            case rel => exact ⟨i + 1, by omega, by go_num, Lib.hid (HB.out.trans BW2.out)⟩
            case measure => simp [intOf]; omega
    · obtain rfl : n = i := by omega
      go_wp2
      go_ret
      exact ⟨rfl, HB⟩
end Go.Proofs.YtkfopjhgkbbkiaaDoor
/-
  The laws' own: defOf.
-/
namespace Go.Proofs.YtkfopjhgkbbkiaaDoor
open Go.RowKit
theorem rtask_info : (Tryd.prog.info? 62).map (fun i => (i.zero, i.size, i.bytes)) = some (some (.agg #[.string { data := #[] }, .slice none 0 0, .int .i64 0, .int .i64 0, .int .i64 0, .string { data := #[] }]), 6, 80) := by kernel_rfl
theorem OwnD.grew {w w' : World} {base B : Nat} {T : TypeId} {A : Option Addr} {cap : Nat} {vs : List (Df.Task × (Option Addr × Nat))} (h : OwnD w base B T A cap vs) (hb : Below w.heap.size w w') (hB : B ≤ w.heap.size) : OwnD w' base B T A cap vs :=
  ⟨h.row.grew hb (Nat.le_refl _), fun x hx => ⟨(h.ints x hx).1.below (hb.mono hB), (h.ints x hx).2⟩, h.nums⟩
/-- One task more: what an append leaves. -/
theorem OwnD.more {w w' : World} {base B : Nat} {T : TypeId} {A A' : Option Addr} {cap cap' : Nat} {vs : List (Df.Task × (Option Addr × Nat))} {t : Df.Task} {p : Option Addr × Nat} (h : OwnD w base B T A cap vs) (hb : Below base w w') (hB : B ≤ base)
    (hr : OwnK w' base T 6 A' cap' (vs.map (fun x => taskV x.1 x.2) ++ [taskV t p])) (hz : Zs w B p.1 t.after) (hc : t.after.length ≤ p.2) (hn : numIn t) : OwnD w' base B T A' cap' (vs ++ [(t, p)]) := by
  refine ⟨by rw [List.map_append]; exact hr, fun x hx => ?_, fun x hx => ?_⟩
  · rcases List.mem_append.1 hx with hx | hx
    · exact ⟨(h.ints x hx).1.below (hb.mono hB), (h.ints x hx).2⟩
    · simp only [List.mem_singleton] at hx
      subst hx
      exact ⟨hz.below (hb.mono hB), hc⟩
  · rcases List.mem_append.1 hx with hx | hx
    · exact h.nums x hx
    · simp only [List.mem_singleton] at hx
      subst hx
      exact hn
theorem grownK_below {w w' : World} {base k : Nat} {T : TypeId} {A : Option Addr} {cap n : Nat} {vs : List (List Value)} (h : OwnK w base T k A cap vs) (hbase : base ≤ w.heap.size) (hg : w.grownBy w' (Value.slice A n cap).ownBlock) : Below base w w' :=
  (Below.refl _ _).grown hg hbase fun k hk => by
    cases A with
    | none => cases hk
    | some a => simp [Value.ownBlock] at hk; subst hk; exact h.lt.1
theorem lit6 {w : World} {g : Nat} {v0 v1 v2 v3 v4 v5 : Value} {t : TypeId} (h : w.heap[g]? = some (.cells #[v0, v1, v2, v3, v4, v5] t (0, 0))) : ∀ j u, ([[v0, v1, v2, v3, v4, v5]] : List (List Value)).flatten[j]? = some u → w.cell? ⟨g, 0 + j, none⟩ = some u := fun j u hu => by
  obtain ⟨c0, c1, c2, c3, c4, c5⟩ := ob6 h
  rw [Nat.zero_add]
  match j, hu with
  | 0, hu => simp at hu; rw [← hu]; exact c0
  | 1, hu => simp at hu; rw [← hu]; exact c1
  | 2, hu => simp at hu; rw [← hu]; exact c2
  | 3, hu => simp at hu; rw [← hu]; exact c3
  | 4, hu => simp at hu; rw [← hu]; exact c4
  | 5, hu => simp at hu; rw [← hu]; exact c5
  | j + 6, hu => simp at hu
theorem wide1 (t : Df.Task) (p : Option Addr × Nat) : Wide 6 [taskV t p] := taskV_wide (vs := [(t, p)])
/-- A literal row of tasks. -/
theorem OwnD.lit {w : World} {T : TypeId} (vs : List (Df.Task × (Option Addr × Nat))) (hv : vs.length ≤ 1000000) (cs : Array Value) (hc : cs.toList = (vs.map fun x => taskV x.1 x.2).flatten) (hz : ∀ x ∈ vs, Zs w w.heap.size x.2.1 x.1.after ∧ x.1.after.length ≤ x.2.2) (hn : ∀ x ∈ vs, numIn x.1) :
    OwnD (w.alloc (.cells cs T)) w.heap.size w.heap.size T (some ⟨w.heap.size, 0, none⟩) vs.length vs := by
  have h := OwnK.lit (w := w) (T := T) (k := 6) (vs.map fun x => taskV x.1 x.2) taskV_wide (by rw [List.length_map]; omega) cs hc
  rw [List.length_map] at h
  exact ⟨h, fun x hx => ⟨(hz x hx).1.below ((Below.refl _ _).alloc (Nat.le_refl _) _), (hz x hx).2⟩, hn⟩
/-- A definition handed back as the reference's: a slice. -/
def DefsG (w : World) (d : Df.D) (n : Nat) (e : Ending) (w' : World) : Prop :=
  ∃ A cap, e = .returned (.slice A n cap) ∧ Hid (DefIn w' w'.heap.size A d) ∧ Hid (Below w.heap.size w w')
set_option maxRecDepth 100000 in
set_option maxHeartbeats 4000000 in
theorem defOf_any (A : Option Addr) (d : Df.D) (n cap : Nat) (hn : n = d.length) (hl : n ≤ 1000000) (w : World) (h : DefIn w w.heap.size A d) :
    Calls Tryd.prog 13 #[.agg #[.slice A n cap]] w (DefsG w d n) := by
  have H := Lib.hid h
  have HN := Lib.hid hn
  clear h hn
  obtain ⟨X, hX⟩ : ∃ X, X = w.heap.size := ⟨_, rfl⟩
  obtain ⟨W1, hW1⟩ : ∃ W1, W1 = w.alloc (.cells #[.slice A n cap] 29) := ⟨_, rfl⟩
  have P1 : Hid (W1.cell? ⟨X, 0, none⟩ = some (.slice A n cap)) := Lib.hid (by rw [hW1, hX]; exact cell_lit _ _ _)
  have B1 : Hid (Below w.heap.size w W1) := Lib.hid (by rw [hW1]; exact (Below.refl _ _).alloc (Nat.le_refl _) _)
  have Z1 : Hid (W1.heap.size = X + 1) := Lib.hid (by rw [hW1, hX]; simp)
  have XW : Hid (X = w.heap.size) := Lib.hid hX
  go_enter Tryd.func13, Tryd.ntmps13
  go_wp2_with fail
  rw [← hW1, ← hX]
  clear hW1 hX
  go_loopw [3, 4] (fun lv iv wr => ∃ (k m : Nat) (A' : Option Addr) (cap' : Nat) (vs : List (Df.Task × (Option Addr × Nat))), k ≤ n ∧ iv = .int .i64 k ∧ lv = .slice A' m cap' ∧ Hid (m = vs.length) ∧ Hid (vs.map (·.1) = d.take k) ∧ Hid (OwnD wr (X + 1) X 62 A' cap' vs) ∧ Hid (Below (X + 1) W1 wr)) (fun _ iv _ => n - (intOf iv).toNat)
  case atStart => exact ⟨0, 0, none, 0, [], Nat.zero_le _, rfl, rfl, Lib.hid rfl, Lib.hid rfl, Lib.hid (OwnD.none_ _ _ _ _), Lib.hid (Below.refl _ _)⟩
  case round =>
    obtain ⟨k, m, A', cap', vs, hk, rfl, rfl, HM, HV, HO, HB⟩ := hrel
    have BW : Hid (Below w.heap.size w wr) := Lib.hid (B1.out.trans (HB.out.mono (by rw [← XW.out]; omega)))
    have x0 : wr.cell? ⟨X, 0, none⟩ = some (.slice A n cap) := (HB.out.cell (p := ⟨X, 0, none⟩) (Nat.lt_succ_self X)).trans P1.out
    by_cases hlt : k < n
    · have hlt' : (k : Int) < (n : Int) := by omega
      obtain ⟨b, off, A3, c3, t, rfl, hb, ht, z3, zc3, ni, p0, p1, p2, p3, p4, p5⟩ := (H.out.below BW.out).at_ (k := k) (by rw [← HN.out]; exact hlt)
      have SZ : Hid (X + 1 ≤ wr.heap.size) := Lib.hid (by rw [← Z1.out]; exact HB.out.size)
      have ML : Hid (m ≤ 1000000) := Lib.hid (by
        have := congrArg List.length HV.out
        rw [List.length_map, List.length_take] at this
        have := HM.out
        omega)
      have HV' : Hid ((vs ++ [(t, (A3, c3))]).map (·.1) = d.take (k + 1)) := Lib.hid (by
        rw [List.map_append, HV.out]
        have hkd : k < d.length := by rw [← HN.out]; exact hlt
        have := ht.out
        rw [List.getElem?_eq_getElem hkd] at this
        injection this with this
        rw [List.take_succ_eq_append_getElem hkd, this]
        rfl)
      obtain ⟨e, hE⟩ : ∃ e, e = wr.heap.size := ⟨_, rfl⟩
      obtain ⟨W3, hW3⟩ : ∃ W3, W3 = wr.alloc (.cells #[.string (str t.name), .slice A3 t.after.length c3, .int .i64 t.retry, .int .i64 t.wait, .int .i64 t.base, .string (str t.on)] 38) := ⟨_, rfl⟩
      have P3 : Hid (W3.heap[e]? = some (.cells #[.string (str t.name), .slice A3 t.after.length c3, .int .i64 t.retry, .int .i64 t.wait, .int .i64 t.base, .string (str t.on)] 38 (0, 0))) := Lib.hid (by rw [hW3, hE]; exact heap_alloc_new ..)
      have BE : Hid (Below e wr W3) := Lib.hid (by rw [hW3, hE]; exact (Below.refl _ _).alloc (Nat.le_refl _) _)
      have Z3 : Hid (W3.heap.size = e + 1) := Lib.hid (by rw [hW3, hE]; simp)
      have y0 := ob6 P3.out
      go_upto_region 6 with fail
      rw [← hW3, ← hE]
      obtain ⟨W4, hW4⟩ : ∃ W4, W4 = W3.alloc (.cells #[.string (str t.name), .slice A3 t.after.length c3, .int .i64 t.retry, .int .i64 t.wait, .int .i64 t.base, .string (str t.on)] 62) := ⟨_, rfl⟩
      have P4 : Hid (W4.heap[e + 1]? = some (.cells #[.string (str t.name), .slice A3 t.after.length c3, .int .i64 t.retry, .int .i64 t.wait, .int .i64 t.base, .string (str t.on)] 62 (0, 0))) := Lib.hid (by rw [hW4, ← Z3.out]; exact heap_alloc_new ..)
      have BE4 : Hid (Below e wr W4) := Lib.hid (by rw [hW4]; exact BE.out.alloc (by rw [Z3.out]; omega) _)
      have HE := Lib.hid hE
      have O4 : Hid (OwnD W4 (X + 1) X 62 A' cap' vs) := Lib.hid (HO.out.grew (by rw [← hE]; exact BE4.out) (by have := SZ.out; omega))
      have Z4 : Hid (X + 1 ≤ W4.heap.size) := Lib.hid (by have h1 := SZ.out; have h2 := BE4.out.size; omega)
      have ZI : Hid (Zs W4 X A3 t.after) := Lib.hid (by rw [XW.out]; exact z3.out.below (BE4.out.mono (by rw [hE]; exact BW.out.size)))
      have B4 : Hid (Below (X + 1) W1 W4) := Lib.hid (HB.out.trans (BE4.out.mono (by have := SZ.out; omega)))
      have MM : Hid (m = (vs.map fun x => taskV x.1 x.2).length) := Lib.hid (by rw [List.length_map]; exact HM.out)
      have W4' := Lib.hid hW4
      clear hE hW3 hW4 x0 p0 p1 p2 p3 p4 p5
      go_wp2_with (at_builtin; rw [← W4'.out, Z3.out]; refine wp_appK (us := [taskV t (A3, c3)]) rfl (.tmp 18) (.tmp 32) rfl Tryd.underlying45 rtask_info rfl (by decide) (by decide) rfl MM.out O4.out.row Z4.out rfl rfl (wide1 t (A3, c3)) (lit6 P4.out) (by have := ML.out; rw [← MM.out]; simp; omega) ?_; intro A5 c5 W5 o5 d5 _; have D5 := Lib.hid (grownK_below O4.out.row Z4.out d5); have O5 := Lib.hid (O4.out.more D5.out (by omega) o5 ZI.out zc3.out ni.out); clear o5 d5)
      go_roundw
      case rel => exact ⟨k + 1, _, A5, c5, _, by omega, by go_num, rfl, Lib.hid (by simp), HV', O5, Lib.hid (B4.out.trans D5.out)⟩
      case measure => simp [intOf]; omega
    · obtain rfl : n = k := by omega
      have EV : Hid (vs.map (·.1) = d) := Lib.hid (by have := HV.out; rwa [HN.out, List.take_length] at this)
      have MN : Hid (m = n) := Lib.hid (by rw [HM.out, HN.out, ← EV.out, List.length_map])
      go_wp2_with fail
      refine bodyPost_ret (v := .slice A' m cap') (by simp [results, Tryd.results13, go_sem]) rfl ?_
      exact ⟨A', cap', by rw [MN.out], Lib.hid (by rw [← EV.out]; exact HO.out.defIn (Nat.le_trans (by omega) (Nat.le_trans (Nat.le_of_eq Z1.out.symm) HB.out.size))), BW⟩
end Go.Proofs.YtkfopjhgkbbkiaaDoor
/-
  The law DefKnown, walked: the examples of chapter 12.
-/
namespace Go.Proofs.YtkfopjhgkbbkiaaDoor
open Go.RowKit
def badL : List ByteArray := [{ data := #[] }, { data := #[59] }, { data := #[97, 59] }, { data := #[65] }, { data := #[97, 32, 32, 114, 101, 116, 114, 121, 61, 49] }, { data := #[32, 97] }, { data := #[97, 32] }, { data := #[97, 32, 114, 101, 116, 114, 121] }, { data := #[97, 32, 114, 101, 116, 114, 121, 61] }, { data := #[97, 32, 114, 101, 116, 114, 121, 61, 48, 49] }, { data := #[97, 32, 114, 101, 116, 114, 121, 61, 49, 50, 51, 52, 53] }, { data := #[97, 32, 114, 101, 116, 114, 121, 61, 49, 32, 114, 101, 116, 114, 121, 61, 50] }, { data := #[97, 32, 114, 101, 116, 114, 121, 61, 49, 32, 97, 102, 116, 101, 114, 61, 97] }, { data := #[97, 32, 97, 102, 116, 101, 114, 61, 120] }, { data := #[97, 32, 97, 102, 116, 101, 114, 61] }, { data := #[97, 32, 97, 102, 116, 101, 114, 61, 98, 44, 59, 98] }, { data := #[97, 32, 111, 110, 61] }, { data := #[97, 32, 111, 110, 61, 66] }, { data := #[97, 32, 119, 104, 97, 116, 61, 49] }, { data := #[97, 98, 99, 100, 101, 102, 103, 104, 105, 106, 107, 108, 109, 110, 111, 112, 113] }]
theorem badL_len : badL.length = 20 := rfl
theorem badL_parse (i : Nat) (hi : i < 20) : Df.parse (badL.getD i ByteArray.empty).data.toList = ([], 2) := by
  match i, hi with
  | 0, _ => exact Df.bad0
  | 1, _ => exact Df.bad1
  | 2, _ => exact Df.bad2
  | 3, _ => exact Df.bad3
  | 4, _ => exact Df.bad4
  | 5, _ => exact Df.bad5
  | 6, _ => exact Df.bad6
  | 7, _ => exact Df.bad7
  | 8, _ => exact Df.bad8
  | 9, _ => exact Df.bad9
  | 10, _ => exact Df.bad10
  | 11, _ => exact Df.bad11
  | 12, _ => exact Df.bad12
  | 13, _ => exact Df.bad13
  | 14, _ => exact Df.bad14
  | 15, _ => exact Df.bad15
  | 16, _ => exact Df.bad16
  | 17, _ => exact Df.bad17
  | 18, _ => exact Df.bad18
  | 19, _ => exact Df.bad19
  | n + 20, h => exact absurd h (by omega)
theorem badL_size (i : Nat) (hi : i < 20) : (badL.getD i ByteArray.empty).size ≤ 140737488355328 := by
  match i, hi with
  | 0, _ => exact of_decide_eq_true rfl
  | 1, _ => exact of_decide_eq_true rfl
  | 2, _ => exact of_decide_eq_true rfl
  | 3, _ => exact of_decide_eq_true rfl
  | 4, _ => exact of_decide_eq_true rfl
  | 5, _ => exact of_decide_eq_true rfl
  | 6, _ => exact of_decide_eq_true rfl
  | 7, _ => exact of_decide_eq_true rfl
  | 8, _ => exact of_decide_eq_true rfl
  | 9, _ => exact of_decide_eq_true rfl
  | 10, _ => exact of_decide_eq_true rfl
  | 11, _ => exact of_decide_eq_true rfl
  | 12, _ => exact of_decide_eq_true rfl
  | 13, _ => exact of_decide_eq_true rfl
  | 14, _ => exact of_decide_eq_true rfl
  | 15, _ => exact of_decide_eq_true rfl
  | 16, _ => exact of_decide_eq_true rfl
  | 17, _ => exact of_decide_eq_true rfl
  | 18, _ => exact of_decide_eq_true rfl
  | 19, _ => exact of_decide_eq_true rfl
  | n + 20, h => exact absurd h (by omega)
theorem badL_cell (w : World) (t : TypeId) (i : Nat) (hi : i < 20) : (w.alloc (.cells #[.string { data := #[] }, .string { data := #[59] }, .string { data := #[97, 59] }, .string { data := #[65] }, .string { data := #[97, 32, 32, 114, 101, 116, 114, 121, 61, 49] }, .string { data := #[32, 97] }, .string { data := #[97, 32] }, .string { data := #[97, 32, 114, 101, 116, 114, 121] }, .string { data := #[97, 32, 114, 101, 116, 114, 121, 61] }, .string { data := #[97, 32, 114, 101, 116, 114, 121, 61, 48, 49] }, .string { data := #[97, 32, 114, 101, 116, 114, 121, 61, 49, 50, 51, 52, 53] }, .string { data := #[97, 32, 114, 101, 116, 114, 121, 61, 49, 32, 114, 101, 116, 114, 121, 61, 50] }, .string { data := #[97, 32, 114, 101, 116, 114, 121, 61, 49, 32, 97, 102, 116, 101, 114, 61, 97] }, .string { data := #[97, 32, 97, 102, 116, 101, 114, 61, 120] }, .string { data := #[97, 32, 97, 102, 116, 101, 114, 61] }, .string { data := #[97, 32, 97, 102, 116, 101, 114, 61, 98, 44, 59, 98] }, .string { data := #[97, 32, 111, 110, 61] }, .string { data := #[97, 32, 111, 110, 61, 66] }, .string { data := #[97, 32, 119, 104, 97, 116, 61, 49] }, .string { data := #[97, 98, 99, 100, 101, 102, 103, 104, 105, 106, 107, 108, 109, 110, 111, 112, 113] }] t)).cell? ⟨w.heap.size, i, none⟩ = some (.string (badL.getD i ByteArray.empty)) := by
  simp only [World.cell?, heap_alloc_new]
  match i, hi with
  | 0, _ => rfl
  | 1, _ => rfl
  | 2, _ => rfl
  | 3, _ => rfl
  | 4, _ => rfl
  | 5, _ => rfl
  | 6, _ => rfl
  | 7, _ => rfl
  | 8, _ => rfl
  | 9, _ => rfl
  | 10, _ => rfl
  | 11, _ => rfl
  | 12, _ => rfl
  | 13, _ => rfl
  | 14, _ => rfl
  | 15, _ => rfl
  | 16, _ => rfl
  | 17, _ => rfl
  | 18, _ => rfl
  | 19, _ => rfl
  | n + 20, h => exact absurd h (by omega)
/-- The text of more tasks than may be, so far. -/
def manyB : Nat → ByteArray
  | 0 => { data := #[116, 48] }
  | k + 1 => (manyB k ++ { data := #[59, 116] }) ++ { data := #[UInt8.ofNat (48 + (k + 1) / 10), UInt8.ofNat (48 + (k + 1) % 10)] }
theorem manyB_size : ∀ k, (manyB k).size = 2 + 4 * k
  | 0 => rfl
  | k + 1 => by
    unfold manyB
    rw [ByteArray.size_append, ByteArray.size_append, manyB_size k]
    show 2 + 4 * k + 2 + 2 = _
    omega
def digB (k : Nat) : ByteArray := { data := #[UInt8.ofNat (48 + (k + 1) / 10), UInt8.ofNat (48 + (k + 1) % 10)] }
theorem conv_dig (k : Nat) (w : World) (g : Nat) (hg : g = w.heap.size) : (convert 26 9 (.slice (some ⟨g, 0, none⟩) 2 2)).run Tryd.prog (w.alloc (.cells #[.int .u8 (48 + ((k : Int) + 1) / 10), .int .u8 (48 + ((k : Int) + 1) % 10)] 5)) = .ok (.string (digB k)) (w.alloc (.cells #[.int .u8 (48 + ((k : Int) + 1) / 10), .int .u8 (48 + ((k : Int) + 1) % 10)] 5)) := by
  subst hg
  have h := run_convert_bytes_arg (P := Tryd.prog) (w.alloc (.cells #[.int .u8 (48 + ((k : Int) + 1) / 10), .int .u8 (48 + ((k : Int) + 1) % 10)] 5)) 26 5 Tryd.underlying26 Tryd.underlying5 w.heap.size 0 2 2 [48 + ((k : Int) + 1) / 10, 48 + ((k : Int) + 1) % 10] rfl (fun i hi => by
    simp only [World.cell?, heap_alloc_new]
    match i, hi with
    | 0, _ => rfl
    | 1, _ => rfl) 9 Tryd.underlying9
  rw [h]
  unfold strOfNums digB
  congr 1
theorem manyB_list : (manyB 16).data.toList = [116, 48, 59, 116, 48, 49, 59, 116, 48, 50, 59, 116, 48, 51, 59, 116, 48, 52, 59, 116, 48, 53, 59, 116, 48, 54, 59, 116, 48, 55, 59, 116, 48, 56, 59, 116, 48, 57, 59, 116, 49, 48, 59, 116, 49, 49, 59, 116, 49, 50, 59, 116, 49, 51, 59, 116, 49, 52, 59, 116, 49, 53, 59, 116, 49, 54] := by decide +kernel
theorem parse_long {z : ByteArray} (h : 1024 < z.size) : Df.parse z.data.toList = ([], 14) := by
  unfold Df.parse
  rw [if_pos]
  rw [ByteArray.size, ← Array.length_toList] at h
  exact h
/-- The length of a text in a slot. -/
def lenS : Value → Nat
  | .string z => z.size
  | _ => 0
set_option maxRecDepth 100000 in
set_option maxHeartbeats 8000000 in
theorem known_walk (w : World) (hF : FactsD w) : Calls Tryd.prog 3 #[] w (BoolG w true) := by
  have AW : Hid (Calls Tryd.prog 6 #[] w (BoolG w true)) := Lib.hid (awake_any w hF)
  go_enter Tryd.func3, Tryd.ntmps3
  go_wp2_with fail
  (with_reducible refine AW.out.mono ?_); rintro e w1 ⟨rfl, b1⟩
  obtain ⟨L, hL⟩ : ∃ L, L = w1.heap.size := ⟨_, rfl⟩
  obtain ⟨W2, hW2⟩ : ∃ W2, W2 = w1.alloc (.cells #[.string { data := #[] }, .string { data := #[59] }, .string { data := #[97, 59] }, .string { data := #[65] }, .string { data := #[97, 32, 32, 114, 101, 116, 114, 121, 61, 49] }, .string { data := #[32, 97] }, .string { data := #[97, 32] }, .string { data := #[97, 32, 114, 101, 116, 114, 121] }, .string { data := #[97, 32, 114, 101, 116, 114, 121, 61] }, .string { data := #[97, 32, 114, 101, 116, 114, 121, 61, 48, 49] }, .string { data := #[97, 32, 114, 101, 116, 114, 121, 61, 49, 50, 51, 52, 53] }, .string { data := #[97, 32, 114, 101, 116, 114, 121, 61, 49, 32, 114, 101, 116, 114, 121, 61, 50] }, .string { data := #[97, 32, 114, 101, 116, 114, 121, 61, 49, 32, 97, 102, 116, 101, 114, 61, 97] }, .string { data := #[97, 32, 97, 102, 116, 101, 114, 61, 120] }, .string { data := #[97, 32, 97, 102, 116, 101, 114, 61] }, .string { data := #[97, 32, 97, 102, 116, 101, 114, 61, 98, 44, 59, 98] }, .string { data := #[97, 32, 111, 110, 61] }, .string { data := #[97, 32, 111, 110, 61, 66] }, .string { data := #[97, 32, 119, 104, 97, 116, 61, 49] }, .string { data := #[97, 98, 99, 100, 101, 102, 103, 104, 105, 106, 107, 108, 109, 110, 111, 112, 113] }] 9) := ⟨_, rfl⟩
  have CL : Hid (∀ i, i < 20 → W2.cell? ⟨L, i, none⟩ = some (.string (badL.getD i ByteArray.empty))) := Lib.hid fun i hi => by rw [hW2, hL]; exact badL_cell w1 _ i hi
  have BL : Hid (L < W2.heap.size) := Lib.hid (by rw [hW2, hL]; simp)
  have B2 : Hid (Below w.heap.size w W2) := Lib.hid (by rw [hW2]; exact b1.out.alloc b1.out.size _)
  go_upto_region 4 with fail
  rw [← hW2, ← hL]
  clear hW2 hL b1 AW
  go_wp2_with fail
  go_loopw [2] (fun iv wr => ∃ i : Nat, i ≤ 20 ∧ iv = .int .i64 i ∧ Hid (Below W2.heap.size W2 wr)) (fun iv _ => 20 - (intOf iv).toNat)
  case atStart => exact ⟨0, by decide, rfl, Lib.hid (Below.refl _ _)⟩
  case round =>
    obtain ⟨i, hi, rfl, HB⟩ := hrel
    have BW : Hid (Below w.heap.size w wr) := Lib.hid (B2.out.trans (HB.out.mono B2.out.size))
    by_cases hlt : i < 20
    · have hlt' : (i : Int) < 20 := by omega
      have hc := (HB.out.cell (p := ⟨L, i, none⟩) BL.out).trans (CL.out i hlt)
      have RF : Hid (Calls Tryd.prog 7 #[.string (badL.getD i ByteArray.empty), .int .i64 2] wr (BoolG wr true)) := Lib.hid (refused_yes _ (badL_size i hlt) 2 (badL_parse i hlt) wr (hF.on BW.out))
      generalize badL.getD i ByteArray.empty = z at *
      go_wp2_with fail
      (with_reducible refine RF.out.mono ?_); rintro e w3 ⟨rfl, b3⟩
      go_wp2
      go_roundw
      case rel => exact ⟨i + 1, by omega, by go_num, Lib.hid (HB.out.trans (b3.out.mono HB.out.size))⟩
      case measure => simp [intOf]; omega
    · obtain rfl : i = 20 := by omega
      clear CL BL HB
      generalize wr = W3 at *
      go_wp2_with fail
      go_loopw [3] (fun sv wr => ∃ (z : ByteArray) (k : Nat), k ≤ 512 ∧ sv = .string z ∧ Hid (z.size = 2 * k + 1) ∧ Hid (Below W3.heap.size W3 wr)) (fun sv _ => 1025 - lenS sv)
      case atStart => exact ⟨_, 0, by decide, rfl, Lib.hid rfl, Lib.hid (Below.refl _ _)⟩
      case round =>
        obtain ⟨z, k, hk, rfl, HZ, HB⟩ := hrel
        by_cases hlt : k < 512
        · have hs1 : (z.size : Int) ≤ 1024 := by have := HZ.out; omega
          have sa : ∀ W, (Op.stringOp .add z { data := #[59, 97] }).run Tryd.prog W = .ok (.string (z ++ { data := #[59, 97] })) W := fun W => run_string_add_sum W _ _ (by rw [HZ.out]; show 2 * k + 1 + 2 ≤ _; omega)
          go_wp2
          go_roundw
          case rel => exact ⟨_, k + 1, by omega, rfl, Lib.hid (by rw [ByteArray.size_append, HZ.out]; show 2 * k + 1 + 2 = _; omega), HB⟩
          case measure =>
            simp only [lenS]
            rw [ByteArray.size_append, HZ.out]
            show 1025 - (2 * k + 1 + 2) < _
            omega
        · obtain rfl : k = 512 := by omega
          have LZ : Hid (z.size = 1025) := Lib.hid HZ.out
          have hs1 : (1024 : Int) < (z.size : Int) := by have := HZ.out; omega
          have BZ : Hid (Below w.heap.size w wr) := Lib.hid (BW.out.trans (HB.out.mono BW.out.size))
          clear HZ HB BW
          go_wp2_with fail
          clear hs1
          generalize wr = W4 at *
          go_loopw [4, 5] (fun sv iv wr => ∃ k : Nat, k ≤ 16 ∧ sv = .string (manyB k) ∧ iv = .int .i64 ((k : Int) + 1) ∧ Hid (Below W4.heap.size W4 wr)) (fun _ iv _ => 17 - (intOf iv).toNat)
          case atStart => exact ⟨0, by decide, rfl, rfl, Lib.hid (Below.refl _ _)⟩
          case round =>
            obtain ⟨k, hk, rfl, rfl, HB⟩ := hrel
            by_cases hlt : k < 16
            · have hk1 : (k : Int) + 1 < 17 := by omega
              have sa : ∀ W, (Op.stringOp .add (manyB k) { data := #[59, 116] }).run Tryd.prog W = .ok (.string (manyB k ++ { data := #[59, 116] })) W := fun W => run_string_add_sum W _ _ (by rw [manyB_size]; show 2 + 4 * k + 2 ≤ _; omega)
              have cv := conv_dig k wr wr.heap.size rfl
              have sb : ∀ W, (Op.stringOp .add (manyB k ++ { data := #[59, 116] }) (digB k)).run Tryd.prog W = .ok (.string ((manyB k ++ { data := #[59, 116] }) ++ digB k)) W := fun W => run_string_add_sum W _ _ (by rw [ByteArray.size_append, manyB_size]; show 2 + 4 * k + 2 + 2 ≤ _; omega)
              go_wp2_with fail
              go_roundw
              case rel => exact ⟨k + 1, by omega, rfl, by go_num, Lib.hid (HB.out.alloc HB.out.size _)⟩
              case measure => simp [intOf]; omega
            · obtain rfl : k = 16 := by omega
              have B5 : Hid (Below w.heap.size w wr) := Lib.hid (BZ.out.trans (HB.out.mono BZ.out.size))
              clear HB BZ
              generalize wr = W5 at *
              have PK : Hid (Calls Tryd.prog 8 #[.string { data := #[120, 32, 119, 97, 105, 116, 61, 53, 32, 111, 110, 61, 103, 111, 59, 121, 32, 97, 102, 116, 101, 114, 61, 120, 44, 122, 32, 98, 97, 115, 101, 61, 51, 59, 122] }] W5 (ParseY W5 Df.knD 3 0)) :=
                Lib.hid ((parse_any { data := #[120, 32, 119, 97, 105, 116, 61, 53, 32, 111, 110, 61, 103, 111, 59, 121, 32, 97, 102, 116, 101, 114, 61, 120, 44, 122, 32, 98, 97, 115, 101, 61, 51, 59, 122] } (by decide) W5 (hF.on B5.out)).mono fun e w' h => h.of Df.kn_p rfl)
              go_wp2_with fail
              (with_reducible refine PK.out.mono ?_); rintro e w6 ⟨A6, c6, rfl, d6, b6⟩
              obtain ⟨X6, hX6⟩ : ∃ X6, X6 = w6.heap.size := ⟨_, rfl⟩
              obtain ⟨W7, hW7⟩ : ∃ W7, W7 = w6.alloc (.cells #[.slice A6 3 c6] 29) := ⟨_, rfl⟩
              have BA : Hid (Below w6.heap.size w6 W7) := Lib.hid (by rw [hW7]; exact (Below.refl _ _).alloc (Nat.le_refl _) _)
              have C7 : Hid (W7.cell? ⟨X6, 0, none⟩ = some (.slice A6 3 c6)) := Lib.hid (by rw [hW7, hX6]; exact cell_lit _ _ _)
              have S7 : Hid (X6 < W7.heap.size) := Lib.hid (by rw [hW7, hX6]; simp)
              have B7 : Hid (Below w.heap.size w W7) := Lib.hid ((B5.out.trans (b6.out.mono B5.out.size)).trans (BA.out.mono (Nat.le_trans B5.out.size b6.out.size)))
              have D7 : Hid (DefIn W7 W7.heap.size A6 Df.knD) := Lib.hid (d6.out.on BA.out)
              go_upto_region 18 with fail
              rw [← hW7, ← hX6]
              clear hW7 hX6 b6 d6 BA B5 PK
              have GK : Hid (Calls Tryd.prog 9 #[.agg #[.slice A6 3 c6]] W7 (GraphY W7 3 [(0, 1), (2, 1)] 2)) := Lib.hid
                ((graphD_any A6 Df.knD c6 ⟨by decide, by decide⟩ W7 (hF.on B7.out) D7.out).mono fun e w' h => h.of rfl Df.kn_g rfl)
              have y0 := C7.out
              go_wp2_with fail
              clear y0
              (with_reducible refine GK.out.mono ?_); rintro e w8 ⟨A8, c8, rfl, e8, b8⟩
              obtain ⟨X8, hX8⟩ : ∃ X8, X8 = w8.heap.size := ⟨_, rfl⟩
              obtain ⟨W9, hW9⟩ : ∃ W9, W9 = w8.alloc (.cells #[.int .i64 3, .slice A8 2 c8] 34) := ⟨_, rfl⟩
              have BA : Hid (Below w8.heap.size w8 W9) := Lib.hid (by rw [hW9]; exact (Below.refl _ _).alloc (Nat.le_refl _) _)
              have G9 : Hid (W9.heap[X8]? = some (.cells #[.int .i64 3, .slice A8 2 c8] 34 (0, 0))) := Lib.hid (by rw [hW9, hX8]; exact heap_alloc_new ..)
              have E9 : Hid (Edg W9 W9.heap.size A8 [(0, 1), (2, 1)]) := Lib.hid (e8.out.on BA.out)
              have B9' : Hid (Below W7.heap.size W7 W9) := Lib.hid (b8.out.trans (BA.out.mono b8.out.size))
              have C9 : Hid (W9.cell? ⟨X6, 0, none⟩ = some (.slice A6 3 c6)) := Lib.hid ((B9'.out.cell (p := ⟨X6, 0, none⟩) S7.out).trans C7.out)
              have S9 : Hid (X6 < W9.heap.size) := Lib.hid (Nat.lt_of_lt_of_le S7.out B9'.out.size)
              have D9 : Hid (DefIn W9 W9.heap.size A6 Df.knD) := Lib.hid (D7.out.on B9'.out)
              have B9 : Hid (Below w.heap.size w W9) := Lib.hid (B7.out.trans (B9'.out.mono B7.out.size))
              go_upto_region 19 with fail
              rw [← hW9, ← hX8]
              clear hW9 hX8 b8 e8 BA B9' B7 C7 S7 D7 GK
              obtain ⟨Z, hZ⟩ : ∃ Z, Z = W9.heap.size := ⟨_, rfl⟩
              obtain ⟨W10, hW10⟩ : ∃ W10, W10 = W9.alloc (.cells #[.int .i64 1, .int .i64 1, .int .i64 0, .int .i64 7] 3) := ⟨_, rfl⟩
              obtain ⟨W11, hW11⟩ : ∃ W11, W11 = W10.alloc (.cells #[.string { data := #[97] }, .slice (some ⟨Z, 0, none⟩) 4 4, .int .i64 0, .int .i64 10, .int .i64 1, .string { data := #[] }, .string { data := #[98] }, .slice none 0 0, .int .i64 0, .int .i64 10, .int .i64 1, .string { data := #[] }] 38) := ⟨_, rfl⟩
              obtain ⟨W12, hW12⟩ : ∃ W12, W12 = W11.alloc (.cells #[.slice (some ⟨Z + 1, 0, none⟩) 2 2] 29) := ⟨_, rfl⟩
              have z10 : W10.heap.size = Z + 1 := by rw [hW10, hZ]; simp
              have z11 : W11.heap.size = Z + 2 := by rw [hW11, World.size_alloc, z10]
              have z12 : W12.heap.size = Z + 3 := by rw [hW12, World.size_alloc, z11]
              have ZI : Zs W10 W10.heap.size (some ⟨Z, 0, none⟩) [1, 1, 0, 7] := by
                rw [hW10, hZ]
                exact Zs.lit (w := W9) [1, 1, 0, 7] (by intro z hz; simp at hz; rcases hz with rfl | rfl | rfl | rfl <;> exact ⟨by decide, by decide⟩) #[.int .i64 1, .int .i64 1, .int .i64 0, .int .i64 7] (0, 0) rfl
              have i0 : inI 0 := ⟨by decide, by decide⟩
              have i1 : inI 1 := ⟨by decide, by decide⟩
              have i10 : inI 10 := ⟨by decide, by decide⟩
              have OD : OwnD W11 W10.heap.size W10.heap.size 38 (some ⟨Z + 1, 0, none⟩) 2 [(⟨[97], [1, 1, 0, 7], 0, 10, 1, []⟩, (some ⟨Z, 0, none⟩, 4)), (⟨[98], [], 0, 10, 1, []⟩, (none, 0))] := by
                rw [hW11, ← z10]
                exact OwnD.lit (w := W10) (T := 38) [(⟨[97], [1, 1, 0, 7], 0, 10, 1, []⟩, (some ⟨Z, 0, none⟩, 4)), (⟨[98], [], 0, 10, 1, []⟩, (none, 0))] (by show 2 ≤ 1000000; decide) _ rfl
                  (by intro x hx; simp at hx; rcases hx with rfl | rfl; exact ⟨ZI, Nat.le_refl 4⟩; exact ⟨Zs.nil_, Nat.le_refl 0⟩) (by intro x hx; simp at hx; rcases hx with rfl | rfl <;> exact ⟨i0, i10, i1⟩)
              have BA : Hid (Below W9.heap.size W9 W12) := Lib.hid (by rw [hW12, hW11, hW10]; exact (((Below.refl _ _).alloc (Nat.le_refl _) _).alloc (by simp) _).alloc (by simp; omega) _)
              have D12 : Hid (DefIn W12 W12.heap.size (some ⟨Z + 1, 0, none⟩) Df.badD) := Lib.hid (by
                have h1 : DefIn W11 W11.heap.size (some ⟨Z + 1, 0, none⟩) Df.badD := OD.defIn (by rw [z10, z11]; omega)
                refine h1.on ?_
                rw [hW12]
                exact (Below.refl _ _).alloc (Nat.le_refl _) _)
              have C12 : Hid (W12.cell? ⟨Z + 2, 0, none⟩ = some (.slice (some ⟨Z + 1, 0, none⟩) 2 2)) := Lib.hid (by rw [hW12, ← z11]; exact cell_lit _ _ _)
              have SZ : Hid (W12.heap.size = Z + 3) := Lib.hid z12
              have ZZ : Hid (Z = W9.heap.size) := Lib.hid hZ
              have B12 : Hid (Below w.heap.size w W12) := Lib.hid (B9.out.trans (BA.out.mono B9.out.size))
              have G12 : Hid (Calls Tryd.prog 9 #[.agg #[.slice (some ⟨Z + 1, 0, none⟩) 2 2]] W12 (GraphY W12 2 [(1, 0)] 1)) := Lib.hid
                ((graphD_any (some ⟨Z + 1, 0, none⟩) Df.badD 2 ⟨by decide, by decide⟩ W12 (hF.on B12.out) D12.out).mono fun e w' h => h.of rfl Df.badD_graph rfl)
              clear z10 z11 z12 ZI OD i0 i1 i10
              go_upto_region 20 with fail
              rw [← hZ, ← hW10, ← hW11, show Z + 1 + 1 = Z + 2 from rfl, ← hW12]
              clear hZ hW10 hW11 hW12
              have y0 := C12.out
              go_wp2_with fail
              clear y0
              (with_reducible refine G12.out.mono ?_); rintro e w13 ⟨A13, c13, rfl, e13, b13⟩
              obtain ⟨Y, hY⟩ : ∃ Y, Y = w13.heap.size := ⟨_, rfl⟩
              obtain ⟨W14, hW14⟩ : ∃ W14, W14 = w13.alloc (.cells #[.int .i64 2, .slice A13 1 c13] 34) := ⟨_, rfl⟩
              have BN : Hid (Below w13.heap.size w13 W14) := Lib.hid (by rw [hW14]; exact (Below.refl _ _).alloc (Nat.le_refl _) _)
              have GY : Hid (W14.heap[Y]? = some (.cells #[.int .i64 2, .slice A13 1 c13] 34 (0, 0))) := Lib.hid (by rw [hW14, hY]; exact heap_alloc_new ..)
              have SY : Hid (Y < W14.heap.size) := Lib.hid (lt_of_block GY.out)
              have BM : Hid (Below W12.heap.size W12 W14) := Lib.hid (b13.out.trans (BN.out.mono b13.out.size))
              have BQ : Hid (Below W9.heap.size W9 W14) := Lib.hid (BA.out.trans (BM.out.mono BA.out.size))
              have B14 : Hid (Below w.heap.size w W14) := Lib.hid (B9.out.trans (BQ.out.mono B9.out.size))
              have GX : Hid (W14.heap[X8]? = some (.cells #[.int .i64 3, .slice A8 2 c8] 34 (0, 0))) := Lib.hid ((BQ.out.block _ (lt_of_block G9.out)).trans G9.out)
              obtain ⟨f1, f2⟩ := (E9.out.on BQ.out).2 (by decide)
              obtain ⟨o8, hA8, hf1, hE8⟩ := f2
              have DK : Hid (DefIn W14 W14.heap.size A6 Df.knD) := Lib.hid (D9.out.on BQ.out)
              have DB : Hid (DefIn W14 W14.heap.size (some ⟨Z + 1, 0, none⟩) Df.badD) := Lib.hid (D12.out.on BM.out)
              subst hA8
              obtain ⟨e00, e01⟩ := hE8 0 (by decide)
              obtain ⟨e10, e11⟩ := hE8 1 (by decide)
              have s00 : W14.cell? ⟨f1, o8, none⟩ = some (.int .i64 0) := e00
              have s01 : W14.cell? ⟨f1, o8 + 1, none⟩ = some (.int .i64 1) := e01
              have s10 : W14.cell? ⟨f1, o8 + 2, none⟩ = some (.int .i64 2) := e10
              have s11 : W14.cell? ⟨f1, o8 + 3, none⟩ = some (.int .i64 1) := e11
              have sx : W14.cell? ⟨X6, 0, none⟩ = some (.slice A6 3 c6) := (BQ.out.cell (p := ⟨X6, 0, none⟩) S9.out).trans C9.out
              have sz : W14.cell? ⟨Z + 2, 0, none⟩ = some (.slice (some ⟨Z + 1, 0, none⟩) 2 2) := (BM.out.cell (p := ⟨Z + 2, 0, none⟩) (by show Z + 2 < W12.heap.size; rw [SZ.out]; omega)).trans C12.out
              have sg := (obG GX.out).1
              have sy := (obG GY.out).1
              have L6 : Hid (X6 < W14.heap.size ∧ X8 < W14.heap.size ∧ f1 < W14.heap.size ∧ Z + 2 < W14.heap.size) := Lib.hid ⟨Nat.lt_of_lt_of_le S9.out BQ.out.size, lt_of_block GX.out, hf1, Nat.lt_of_lt_of_le (by rw [SZ.out]; omega) BM.out.size⟩
              have SM : Hid (∀ W, Below W14.heap.size W14 W → W.cell? ⟨X6, 0, none⟩ = some (.slice A6 3 c6) ∧ W.cell? ⟨Z + 2, 0, none⟩ = some (.slice (some ⟨Z + 1, 0, none⟩) 2 2) ∧ (W.cell? ⟨X8, 0, none⟩ = some (.int .i64 3) ∧ W.cell? ⟨X8, 1, none⟩ = some (.slice (some ⟨f1, o8, none⟩) 2 c8)) ∧ (W.cell? ⟨Y, 0, none⟩ = some (.int .i64 2) ∧ W.cell? ⟨Y, 1, none⟩ = some (.slice A13 1 c13)) ∧ W.cell? ⟨f1, o8, none⟩ = some (.int .i64 0) ∧ W.cell? ⟨f1, o8 + 1, none⟩ = some (.int .i64 1) ∧ W.cell? ⟨f1, o8 + 2, none⟩ = some (.int .i64 2) ∧ W.cell? ⟨f1, o8 + 3, none⟩ = some (.int .i64 1)) := Lib.hid fun W hW => by
                obtain ⟨l1, l2, l3, l4⟩ := L6.out
                have l5 := SY.out
                exact ⟨(hW.cell (p := ⟨X6, 0, none⟩) l1).trans sx, (hW.cell (p := ⟨Z + 2, 0, none⟩) l4).trans sz, ⟨(hW.cell (p := ⟨X8, 0, none⟩) l2).trans sg.1, (hW.cell (p := ⟨X8, 1, none⟩) l2).trans sg.2⟩, ⟨(hW.cell (p := ⟨Y, 0, none⟩) l5).trans sy.1, (hW.cell (p := ⟨Y, 1, none⟩) l5).trans sy.2⟩, (hW.cell (p := ⟨f1, _, none⟩) l3).trans s00, (hW.cell (p := ⟨f1, _, none⟩) l3).trans s01, (hW.cell (p := ⟨f1, _, none⟩) l3).trans s10, (hW.cell (p := ⟨f1, _, none⟩) l3).trans s11⟩
              go_upto_region 21 with fail
              rw [← hW14, ← hY]
              clear hW14 hY b13 e13 BN BA e00 e01 e10 e11 s00 s01 s10 s11 sx sz sg sy hE8 GY GX E9 G9 C9 S9 D9 C12 D12
              have FB : Hid (Below W14.heap.size W14 W14) := Lib.hid (Below.refl _ _)
              have RZ : Hid (∀ W, Below w.heap.size w W → Calls Tryd.prog 7 #[.string z, .int .i64 14] W (BoolG W true)) := Lib.hid fun W hW => refused_yes z (by rw [LZ.out]; decide) 14 (parse_long (by rw [LZ.out]; decide)) W (hF.on hW)
              have RM : Hid (∀ W, Below w.heap.size w W → Calls Tryd.prog 7 #[.string (manyB 16), .int .i64 1] W (BoolG W true)) := Lib.hid fun W hW => refused_yes (manyB 16) (by rw [manyB_size]; decide) 1 (by rw [manyB_list]; exact Df.oth0) W (hF.on hW)
              have R0 : Hid (∀ W, Below w.heap.size w W → Calls Tryd.prog 7 #[.string { data := #[97, 59, 97] }, .int .i64 5] W (BoolG W true)) := Lib.hid fun W hW => refused_yes { data := #[97, 59, 97] } (by decide) 5 Df.oth1 W (hF.on hW)
              have R1 : Hid (∀ W, Below w.heap.size w W → Calls Tryd.prog 7 #[.string { data := #[97, 32, 114, 101, 116, 114, 121, 61, 57] }, .int .i64 1] W (BoolG W true)) := Lib.hid fun W hW => refused_yes { data := #[97, 32, 114, 101, 116, 114, 121, 61, 57] } (by decide) 1 Df.oth2 W (hF.on hW)
              have R2 : Hid (∀ W, Below w.heap.size w W → Calls Tryd.prog 7 #[.string { data := #[97, 32, 119, 97, 105, 116, 61, 48] }, .int .i64 1] W (BoolG W true)) := Lib.hid fun W hW => refused_yes { data := #[97, 32, 119, 97, 105, 116, 61, 48] } (by decide) 1 Df.oth3 W (hF.on hW)
              have R3 : Hid (∀ W, Below w.heap.size w W → Calls Tryd.prog 7 #[.string { data := #[97, 32, 98, 97, 115, 101, 61, 49, 48, 48, 49] }, .int .i64 1] W (BoolG W true)) := Lib.hid fun W hW => refused_yes { data := #[97, 32, 98, 97, 115, 101, 61, 49, 48, 48, 49] } (by decide) 1 Df.oth4 W (hF.on hW)
              have R4 : Hid (∀ W, Below w.heap.size w W → Calls Tryd.prog 7 #[.string { data := #[97, 32, 97, 102, 116, 101, 114, 61, 97] }, .int .i64 1] W (BoolG W true)) := Lib.hid fun W hW => refused_yes { data := #[97, 32, 97, 102, 116, 101, 114, 61, 97] } (by decide) 1 Df.oth5 W (hF.on hW)
              have R5 : Hid (∀ W, Below w.heap.size w W → Calls Tryd.prog 7 #[.string { data := #[97, 59, 98, 32, 97, 102, 116, 101, 114, 61, 97, 44, 97] }, .int .i64 1] W (BoolG W true)) := Lib.hid fun W hW => refused_yes { data := #[97, 59, 98, 32, 97, 102, 116, 101, 114, 61, 97, 44, 97] } (by decide) 1 Df.oth6 W (hF.on hW)
              have R6 : Hid (∀ W, Below w.heap.size w W → Calls Tryd.prog 7 #[.string { data := #[97, 32, 97, 102, 116, 101, 114, 61, 98, 59, 98, 32, 97, 102, 116, 101, 114, 61, 97] }, .int .i64 7] W (BoolG W true)) := Lib.hid fun W hW => refused_yes { data := #[97, 32, 97, 102, 116, 101, 114, 61, 98, 59, 98, 32, 97, 102, 116, 101, 114, 61, 97] } (by decide) 7 Df.oth7 W (hF.on hW)
              have R7 : Hid (∀ W, Below w.heap.size w W → Calls Tryd.prog 7 #[.string { data := #[97, 32, 119, 97, 105, 116, 61, 48, 59, 97] }, .int .i64 5] W (BoolG W true)) := Lib.hid fun W hW => refused_yes { data := #[97, 32, 119, 97, 105, 116, 61, 48, 59, 97] } (by decide) 5 Df.oth8 W (hF.on hW)
              have SK : Hid (∀ W, Below w.heap.size w W → DefIn W W.heap.size A6 Df.knD → Calls Tryd.prog 10 #[.agg #[.slice A6 3 c6]] W (StrG W { data := #[120, 32, 119, 97, 105, 116, 61, 53, 32, 111, 110, 61, 103, 111, 59, 121, 32, 97, 102, 116, 101, 114, 61, 120, 44, 122, 32, 98, 97, 115, 101, 61, 51, 59, 122] })) := Lib.hid fun W hW hD => by
                have := show_any A6 Df.knD c6 ⟨by decide, by decide⟩ W (hF.on hW) hD
                rw [Df.kn_s] at this
                exact this
              have SB : Hid (∀ W, Below w.heap.size w W → DefIn W W.heap.size (some ⟨Z + 1, 0, none⟩) Df.badD → Calls Tryd.prog 10 #[.agg #[.slice (some ⟨Z + 1, 0, none⟩) 2 2]] W (StrG W { data := #[] })) := Lib.hid fun W hW hD => by
                have := show_any (some ⟨Z + 1, 0, none⟩) Df.badD 2 ⟨by decide, by decide⟩ W (hF.on hW) hD
                rw [Df.badD_show] at this
                exact this
              have GB : Hid (∀ W, Below w.heap.size w W → DefIn W W.heap.size (some ⟨Z + 1, 0, none⟩) Df.badD → Calls Tryd.prog 11 #[.agg #[.slice (some ⟨Z + 1, 0, none⟩) 2 2]] W (IntG W 1)) := Lib.hid fun W hW hD => by
                have := goodD_any (some ⟨Z + 1, 0, none⟩) Df.badD 2 ⟨by decide, by decide⟩ W (hF.on hW) hD
                rw [Df.badD_good] at this
                exact this
              have GN : Hid (∀ W, Below w.heap.size w W → Calls Tryd.prog 11 #[.agg #[.slice none 0 0]] W (IntG W 1)) := Lib.hid fun W hW => by
                have := goodD_any none [] 0 ⟨by decide, by decide⟩ W (hF.on hW) DefIn.nil_
                rw [Df.noD_good] at this
                exact this
              have BB : Hid (∀ W, Below W14.heap.size W14 W → Below w.heap.size w W) := Lib.hid fun W hW => B14.out.trans (hW.mono B14.out.size)
              go_wp2_with fail
              (with_reducible refine (RZ.out _ (BB.out _ FB.out)).mono ?_); rintro e _ ⟨rfl, cB⟩
              have FB : Hid (Below W14.heap.size W14 _) := Lib.hid (FB.out.trans (cB.out.mono FB.out.size))
              clear cB
              go_wp2_with fail
              (with_reducible refine (RM.out _ (BB.out _ FB.out)).mono ?_); rintro e _ ⟨rfl, cB⟩
              have FB : Hid (Below W14.heap.size W14 _) := Lib.hid (FB.out.trans (cB.out.mono FB.out.size))
              clear cB
              go_wp2_with fail
              (with_reducible refine (R0.out _ (BB.out _ FB.out)).mono ?_); rintro e _ ⟨rfl, cB⟩
              have FB : Hid (Below W14.heap.size W14 _) := Lib.hid (FB.out.trans (cB.out.mono FB.out.size))
              clear cB
              go_wp2_with fail
              (with_reducible refine (R1.out _ (BB.out _ FB.out)).mono ?_); rintro e _ ⟨rfl, cB⟩
              have FB : Hid (Below W14.heap.size W14 _) := Lib.hid (FB.out.trans (cB.out.mono FB.out.size))
              clear cB
              go_wp2_with fail
              (with_reducible refine (R2.out _ (BB.out _ FB.out)).mono ?_); rintro e _ ⟨rfl, cB⟩
              have FB : Hid (Below W14.heap.size W14 _) := Lib.hid (FB.out.trans (cB.out.mono FB.out.size))
              clear cB
              go_wp2_with fail
              (with_reducible refine (R3.out _ (BB.out _ FB.out)).mono ?_); rintro e _ ⟨rfl, cB⟩
              have FB : Hid (Below W14.heap.size W14 _) := Lib.hid (FB.out.trans (cB.out.mono FB.out.size))
              clear cB
              go_wp2_with fail
              (with_reducible refine (R4.out _ (BB.out _ FB.out)).mono ?_); rintro e _ ⟨rfl, cB⟩
              have FB : Hid (Below W14.heap.size W14 _) := Lib.hid (FB.out.trans (cB.out.mono FB.out.size))
              clear cB
              go_wp2_with fail
              (with_reducible refine (R5.out _ (BB.out _ FB.out)).mono ?_); rintro e _ ⟨rfl, cB⟩
              have FB : Hid (Below W14.heap.size W14 _) := Lib.hid (FB.out.trans (cB.out.mono FB.out.size))
              clear cB
              go_wp2_with fail
              (with_reducible refine (R6.out _ (BB.out _ FB.out)).mono ?_); rintro e _ ⟨rfl, cB⟩
              have FB : Hid (Below W14.heap.size W14 _) := Lib.hid (FB.out.trans (cB.out.mono FB.out.size))
              clear cB
              go_wp2_with fail
              (with_reducible refine (R7.out _ (BB.out _ FB.out)).mono ?_); rintro e _ ⟨rfl, cB⟩
              have FB : Hid (Below W14.heap.size W14 _) := Lib.hid (FB.out.trans (cB.out.mono FB.out.size))
              clear cB
              obtain ⟨t0, t1, ⟨t2, t3⟩, ⟨t4, t5⟩, t6, t7, t8, t9⟩ := SM.out _ FB.out
              go_wp2_with fail
              clear t0 t1 t2 t3 t4 t5 t6 t7 t8 t9
              (with_reducible refine (SK.out _ (BB.out _ FB.out) (DK.out.on FB.out)).mono ?_); rintro e _ ⟨rfl, cB⟩
              have FB : Hid (Below W14.heap.size W14 _) := Lib.hid (FB.out.trans (cB.out.mono FB.out.size))
              clear cB
              obtain ⟨t0, t1, ⟨t2, t3⟩, ⟨t4, t5⟩, t6, t7, t8, t9⟩ := SM.out _ FB.out
              have q1 := fun W => edq_eql 0 1 0 1 ⟨by decide, by decide⟩ ⟨by decide, by decide⟩ ⟨by decide, by decide⟩ ⟨by decide, by decide⟩ W
              have q2 := fun W => edq_eql 2 1 2 1 ⟨by decide, by decide⟩ ⟨by decide, by decide⟩ ⟨by decide, by decide⟩ ⟨by decide, by decide⟩ W
              have q3 := edq_guard
              go_wp2_with fail
              clear q1 q2 q3
              clear t0 t1 t2 t3 t4 t5 t6 t7 t8 t9
              (with_reducible refine (GB.out _ (BB.out _ FB.out) (DB.out.on FB.out)).mono ?_); rintro e _ ⟨rfl, cB⟩
              have FB : Hid (Below W14.heap.size W14 _) := Lib.hid (FB.out.trans (cB.out.mono FB.out.size))
              clear cB
              obtain ⟨t0, t1, ⟨t2, t3⟩, ⟨t4, t5⟩, t6, t7, t8, t9⟩ := SM.out _ FB.out
              go_wp2_with fail
              clear t0 t1 t2 t3 t4 t5 t6 t7 t8 t9
              (with_reducible refine (SB.out _ (BB.out _ FB.out) (DB.out.on FB.out)).mono ?_); rintro e _ ⟨rfl, cB⟩
              have FB : Hid (Below W14.heap.size W14 _) := Lib.hid (FB.out.trans (cB.out.mono FB.out.size))
              clear cB
              obtain ⟨t0, t1, ⟨t2, t3⟩, ⟨t4, t5⟩, t6, t7, t8, t9⟩ := SM.out _ FB.out
              go_wp2_with fail
              clear t0 t1 t2 t3 t4 t5 t6 t7 t8 t9
              (with_reducible refine (GN.out _ (BB.out _ FB.out)).mono ?_); rintro e _ ⟨rfl, cB⟩
              have FB : Hid (Below W14.heap.size W14 _) := Lib.hid (FB.out.trans (cB.out.mono FB.out.size))
              clear cB
              go_wp2
              go_ret
              exact ⟨rfl, Lib.hid (BB.out _ FB.out)⟩
end Go.Proofs.YtkfopjhgkbbkiaaDoor
