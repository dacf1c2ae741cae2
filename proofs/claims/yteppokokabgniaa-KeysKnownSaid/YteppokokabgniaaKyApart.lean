/-
  The law KeysApart, walked: two keys.
-/
import Derived.Test.YteppokokabgniaaKyOne
import Derived.Laws.StructEq
import Derived.Deep.CutBlock
import Derived.Deep.CutRange
namespace Go.Proofs.Yteppokokabgniaa
open Go.RowKit
theorem Ky.nil_put (n k : ByteArray) (x : Int) : Ky.putV (Ky.newS 5) n k x = x ∧ Ky.putB (Ky.newS 5) n k = true ∧ Ky.putS (Ky.newS 5) n k x = ⟨5, [⟨n, k, x⟩]⟩ := by
  have e : Ky.newS 5 = ⟨5, []⟩ := by kernel_rfl
  rw [e]
  refine ⟨rfl, rfl, ?_⟩
  simp [Ky.putS, Ky.findV, Ky.pushL]
theorem Ky.find_cons (m : Int) (a : Ky.T) (l : List Ky.T) (n k : ByteArray) : Ky.findV ⟨m, a :: l⟩ n k = if a.name = n ∧ a.key = k then some a else Ky.findV ⟨m, l⟩ n k := by
  show (a :: l).find? (fun a => Ky.same a n k) = _
  by_cases h : a.name = n ∧ a.key = k
  · rw [if_pos h]
    exact List.find?_cons_of_pos (p := fun a => Ky.same a n k) (Ky.same_iff.2 h)
  · rw [if_neg h]
    refine List.find?_cons_of_neg (p := fun a => Ky.same a n k) fun hc => h (Ky.same_iff.1 hc)
theorem Ky.find1 (n k n' k' : ByteArray) (x : Int) : Ky.findV ⟨5, [⟨n, k, x⟩]⟩ n' k' = if n = n' ∧ k = k' then some ⟨n, k, x⟩ else none := Ky.find_cons 5 ⟨n, k, x⟩ [] n' k'
theorem Ky.put1 (n k n' k' : ByteArray) (x y : Int) (h : ¬ (n = n' ∧ k = k')) : Ky.putV ⟨5, [⟨n, k, x⟩]⟩ n' k' y = y ∧ Ky.putB ⟨5, [⟨n, k, x⟩]⟩ n' k' = true ∧ Ky.putS ⟨5, [⟨n, k, x⟩]⟩ n' k' y = ⟨5, [⟨n, k, x⟩, ⟨n', k', y⟩]⟩ := by
  have e := Ky.find1 n k n' k' x
  rw [if_neg h] at e
  unfold Ky.putV Ky.putB Ky.putS
  rw [e]
  exact ⟨rfl, rfl, by simp [Ky.pushL]⟩
theorem Ky.put1s (n k : ByteArray) (x y : Int) : Ky.putV ⟨5, [⟨n, k, x⟩]⟩ n k y = x ∧ Ky.putB ⟨5, [⟨n, k, x⟩]⟩ n k = false ∧ Ky.putS ⟨5, [⟨n, k, x⟩]⟩ n k y = ⟨5, [⟨n, k, x⟩]⟩ := by
  have e := Ky.find1 n k n k x
  rw [if_pos ⟨rfl, rfl⟩] at e
  unfold Ky.putV Ky.putB Ky.putS
  rw [e]
  exact ⟨rfl, rfl, rfl⟩
theorem Ky.get1 (n k : ByteArray) (x : Int) : Ky.getV ⟨5, [⟨n, k, x⟩]⟩ n k = x ∧ Ky.getB ⟨5, [⟨n, k, x⟩]⟩ n k = true := by
  have e := Ky.find1 n k n k x
  rw [if_pos ⟨rfl, rfl⟩] at e
  unfold Ky.getV Ky.getB
  rw [e]
  exact ⟨rfl, rfl⟩
theorem Ky.get2 (n k n' k' : ByteArray) (x y : Int) (h : ¬ (n = n' ∧ k = k')) : (Ky.getV ⟨5, [⟨n, k, x⟩, ⟨n', k', y⟩]⟩ n k = x ∧ Ky.getB ⟨5, [⟨n, k, x⟩, ⟨n', k', y⟩]⟩ n k = true) ∧ Ky.getV ⟨5, [⟨n, k, x⟩, ⟨n', k', y⟩]⟩ n' k' = y ∧ Ky.getB ⟨5, [⟨n, k, x⟩, ⟨n', k', y⟩]⟩ n' k' = true := by
  have e1 : Ky.findV ⟨5, [⟨n, k, x⟩, ⟨n', k', y⟩]⟩ n k = some ⟨n, k, x⟩ := by rw [Ky.find_cons, if_pos ⟨rfl, rfl⟩]
  have e2 : Ky.findV ⟨5, [⟨n, k, x⟩, ⟨n', k', y⟩]⟩ n' k' = some ⟨n', k', y⟩ := by rw [Ky.find_cons, if_neg h, Ky.find_cons, if_pos ⟨rfl, rfl⟩]
  unfold Ky.getV Ky.getB
  rw [e1, e2]
  exact ⟨⟨rfl, rfl⟩, rfl, rfl⟩
theorem keyEq_any (a b c d : ByteArray) (W : World) : (binOp .eql 28 (.agg #[.string a, .string b]) (.agg #[.string c, .string d])).run Try.prog W = .ok (.bool (decide (a = c ∧ b = d))) W := by
  have hs : Try.prog.underlying 28 = some (.struct (Try.prog.fieldsOf 28)) := by unfold Program.fieldsOf; rw [Try.underlying28]
  have hp : Try.prog.stoodInHeld 28 = false := by kernel_rfl
  rw [run_eql_struct, run_equalIn_struct W 9999 28 _ _ hs hp]
  simp only [Program.fieldsOf, Try.underlying28]
  simp [Op.eqFields, part, go_sem, Try.underlying9]
  have t : ∀ u v : ByteArray, u.toList = v.toList ↔ u = v := fun u v => by
    rw [ByteArray.toList_eq, ByteArray.toList_eq]
    exact ⟨fun h => ByteArray.ext (Array.toList_inj.mp h), fun h => by rw [h]⟩
  by_cases h1 : a = c
  · by_cases h2 : b = d
    · rw [if_pos ((t _ _).2 h1), if_pos ((t _ _).2 h2), decide_eq_true h1, decide_eq_true h2]; rfl
    · rw [if_pos ((t _ _).2 h1), if_neg fun e => h2 ((t _ _).1 e), decide_eq_true h1, decide_eq_false h2]; rfl
  · rw [if_neg fun e => h1 ((t _ _).1 e), decide_eq_false h1]; rfl
set_option maxRecDepth 20000 in
set_option maxHeartbeats 8000000 in
theorem apart_walk (a b c d : ByteArray) (x y : Int) (ha : Ky.ok a b x) (hc : Ky.ok c d y) (w : World) : Calls Try.prog 6 #[.agg #[.string a, .string b], .agg #[.string c, .string d], .int .i64 x, .int .i64 y] w (BoolP w true) := by
  have HA := Lib.hid ha
  have HC := Lib.hid hc
  clear ha hc
  have AW := Lib.hid (fun W => awake_any W)
  have NW := Lib.hid (fun W => oneNew 5 W)
  obtain ⟨X, hX⟩ : ∃ X, X = w.heap.size := ⟨_, rfl⟩
  have KE := fun W => keyEq_any a b c d W
  obtain ⟨w2, hw2⟩ : ∃ w2, w2 = (w.alloc (.cells #[.string a, .string b] 28)).alloc (.cells #[.string c, .string d] 28) := ⟨_, rfl⟩
  have B2 : Hid (Below w.heap.size w w2) := Lib.hid (by rw [hw2]; exact ((Below.refl _ _).alloc (Nat.le_refl _) _).alloc (by simp) _)
  have SZ : Hid (w2.heap.size = X + 2) := Lib.hid (by rw [hw2, hX]; simp)
  have SC : Hid (∀ W, KeptG (fun k => k = X ∨ k = X + 1) w2 W → W.cell? ⟨X, 0, none⟩ = some (.string a) ∧ W.cell? ⟨X, 1, none⟩ = some (.string b) ∧ W.cell? ⟨X + 1, 0, none⟩ = some (.string c) ∧ W.cell? ⟨X + 1, 1, none⟩ = some (.string d)) := Lib.hid fun W hW => by
    have e1 : w2.heap[X]? = some (.cells #[.string a, .string b] 28 (0, 0)) := by rw [hw2, hX, Below.heap_alloc _ _ _ (by simp)]; exact heap_alloc_new ..
    have e2 : w2.heap[X + 1]? = some (.cells #[.string c, .string d] 28 (0, 0)) := by
      have := heap_alloc_new (w.alloc (.cells #[.string a, .string b] 28)) (.cells #[.string c, .string d] 28)
      rw [hw2, hX]; simpa using this
    have f1 := (hW.2 X (.inl rfl)).trans e1
    have f2 := (hW.2 (X + 1) (.inr rfl)).trans e2
    exact ⟨by simp [World.cell?, f1], by simp [World.cell?, f1], by simp [World.cell?, f2], by simp [World.cell?, f2]⟩
  have GL : Hid (∀ k, (k = X ∨ k = X + 1) → k < w2.heap.size) := Lib.hid fun k hk => by rw [SZ.out]; omega
  go_enter Try.func6, Try.ntmps6
  go_upto_region 1 with fail
  rw [← hw2]
  try rw [← hX]
  clear hw2 hX SZ
  go_wp2_with fail
  (with_reducible refine (AW.out w2).mono ?_); rintro e w3 ⟨rfl, b3⟩
  have K3 : Hid (KeptG (fun k => k = X ∨ k = X + 1) w2 w3) := Lib.hid ⟨b3.out.size, fun k hk => b3.out.block k (GL.out k hk)⟩
  go_wp2_with fail
  (with_reducible refine (NW.out w3).mono ?_); rintro e w4 ⟨T, rfl, o4, b4⟩
  have G3 : Hid (∀ k, (k = X ∨ k = X + 1) → k < w3.heap.size) := Lib.hid fun k hk => Nat.lt_of_lt_of_le (GL.out k hk) K3.out.1
  have O4 := Lib.hid (o4.out.beside (G := fun k => k = X ∨ k = X + 1) G3.out)
  have K4 : Hid (KeptG (fun k => k = X ∨ k = X + 1) w2 w4) := Lib.hid (K3.out.trans ⟨b4.out.size, fun k hk => b4.out.block k (G3.out k hk)⟩)
  have B3 := Lib.hid (B2.out.trans (b3.out.mono B2.out.size))
  obtain ⟨p4, q4, r4, t4⟩ := SC.out _ K4.out
  clear o4 b4 b3 B2 AW NW
  obtain ⟨v1, v2, v3⟩ := Ky.nil_put a b x
  go_wp2_with fail
  (with_reducible refine (kyPut O4.out a b x HA.out v1 v2 v3).mono ?_); rintro e w5 ⟨rfl, O5, k5⟩
  have K5 := Lib.hid (K4.out.trans k5.out)
  obtain ⟨p5, q5, r5, t5⟩ := SC.out _ K5.out
  clear p4 q4 r4 t4 k5 v1 v2 v3
  by_cases h : a = c ∧ b = d
  · have hd : decide (a = c ∧ b = d) = true := decide_eq_true h
    have g1 := Ky.get1 a b x
    have v := Ky.put1s a b x y
    obtain ⟨rfl, rfl⟩ := h
    obtain ⟨v1, v2, v3⟩ := v
    go_wp2_with fail
    (with_reducible refine (kyPut O5.out a b y HC.out v1 v2 v3).mono ?_); rintro e w6 ⟨rfl, O6, k6⟩
    have K6 := Lib.hid (K5.out.trans k6.out)
    obtain ⟨p6, q6, r6, t6⟩ := SC.out _ K6.out
    clear p5 q5 r5 t5 k6 v1 v2 v3
    go_wp2_with fail
    (with_reducible refine (kyGet O6.out a b HA.out.k g1.1 g1.2).mono ?_); rintro e w7 ⟨rfl, O7, k7⟩
    have K7 := Lib.hid (K6.out.trans k7.out)
    obtain ⟨p7, q7, r7, t7⟩ := SC.out _ K7.out
    clear p6 q6 r6 t6 k7
    go_wp2_with fail
    (with_reducible refine (kyGet O7.out a b HA.out.k g1.1 g1.2).mono ?_); rintro e w8 ⟨rfl, O8, k8⟩
    have K8 := Lib.hid (K7.out.trans k8.out)
    obtain ⟨p8, q8, r8, t8⟩ := SC.out _ K8.out
    clear p7 q7 r7 t7 k8
    go_wp2_with fail
    (with_reducible refine (kyLen O8.out (m := 1) (by simp)).mono ?_); rintro e w9 ⟨rfl, O9, -⟩
    go_wp2
    go_ret
    exact ⟨rfl, Lib.hid (B3.out.trans (O9.out.below.mono B3.out.size))⟩
  · have hd : decide (a = c ∧ b = d) = false := decide_eq_false h
    obtain ⟨v1, v2, v3⟩ := Ky.put1 a b c d x y h
    obtain ⟨g1, g2⟩ := Ky.get2 a b c d x y h
    clear h
    go_wp2_with fail
    (with_reducible refine (kyPut O5.out c d y HC.out v1 v2 v3).mono ?_); rintro e w6 ⟨rfl, O6, k6⟩
    have K6 := Lib.hid (K5.out.trans k6.out)
    obtain ⟨p6, q6, r6, t6⟩ := SC.out _ K6.out
    clear p5 q5 r5 t5 k6 v1 v2 v3
    go_wp2_with fail
    (with_reducible refine (kyGet O6.out a b HA.out.k g1.1 g1.2).mono ?_); rintro e w7 ⟨rfl, O7, k7⟩
    have K7 := Lib.hid (K6.out.trans k7.out)
    obtain ⟨p7, q7, r7, t7⟩ := SC.out _ K7.out
    clear p6 q6 r6 t6 k7
    go_wp2_with fail
    (with_reducible refine (kyGet O7.out c d HC.out.k g2.1 g2.2).mono ?_); rintro e w8 ⟨rfl, O8, k8⟩
    have K8 := Lib.hid (K7.out.trans k8.out)
    obtain ⟨p8, q8, r8, t8⟩ := SC.out _ K8.out
    clear p7 q7 r7 t7 k8
    go_wp2_with fail
    (with_reducible refine (kyLen O8.out (m := 2) (by simp)).mono ?_); rintro e w9 ⟨rfl, O9, -⟩
    go_wp2
    go_ret
    exact ⟨rfl, Lib.hid (B3.out.trans (O9.out.below.mono B3.out.size))⟩
end Go.Proofs.Yteppokokabgniaa
