/-
  The law ArbPlays: any turns, by any hands.
-/
import Derived.Test.YtjagkolagmlakaaArbFirst
import Derived.Test.YtjagkolagmlakaaArbActs
import Derived.Deep.DeepCutAuto
namespace Go.Proofs.Ytjagkolagmlakaa
open Go.RowKit
theorem eqS_true {s t : Ar.S} (h : Ar.eqS s t = true) : s = t := by
  unfold Ar.eqS at h
  simp only [Bool.and_eq_true, beq_iff_eq] at h
  obtain ⟨⟨⟨h1, h2⟩, h3⟩, h4⟩ := h
  cases s; cases t; simp_all
theorem eqS_symm (s t : Ar.S) : Ar.eqS s t = Ar.eqS t s := by
  cases h : Ar.eqS t s with
  | true => rw [eqS_true h]; exact eqS_refl' s
  | false =>
    cases h2 : Ar.eqS s t with
    | true => rw [eqS_true h2, eqS_refl'] at h; exact h
    | false => rfl
/-- The law's state of affairs: the register, and the variable that holds its last state. -/
structure PW (w wx : World) (g : Nat) (O : Nat → Prop) (L : List Ar.S) (s : Ar.S) (X : Nat) : Prop where
  below : Below w.heap.size w wx
  reg : AR wx g O L
  own : ∀ k, O k → w.heap.size ≤ k
  last : L.getLast? = some s
  chain : Ar.Chain L
  now : wx.heap[X]? = some (.cells #[.int .i64 s.ep, .int .i64 s.ho, .bool s.so, .int .i64 s.fl] 26 (0, 0))
  low : w.heap.size ≤ X
  not : ¬ O X
theorem PW.on {w wx wy : World} {g : Nat} {O : Nat → Prop} {L : List Ar.S} {s : Ar.S} {X : Nat} (h : PW w wx g O L s X) (hb : Below wx.heap.size wx wy) : PW w wy g O L s X :=
  ⟨h.below.trans (hb.mono h.below.size), h.reg.grew hb, h.own, h.last, h.chain, (hb.block _ (lt_of_block h.now)).trans h.now, h.low, h.not⟩
/-- Another variable stored. -/
theorem PW.put {w wx : World} {g : Nat} {O : Nat → Prop} {L : List Ar.S} {s : Ar.S} {X : Nat} (h : PW w wx g O L s X) {Y : Nat} (hY : w.heap.size ≤ Y) (hO : ¬ O Y) (hX : Y ≠ X) (p q r t : Value) : PW w (S4 wx Y p q r t) g O L s X :=
  ⟨S4.below h.below hY _ _ _ _, h.reg.keep (by rw [S4.size_]; exact Nat.le_refl _) fun k hk => S4.else_ _ _ _ _ _ _ (by rintro rfl; exact hO hk), h.own, h.last, h.chain, (S4.else_ _ _ _ _ _ _ (Ne.symm hX)).trans h.now, h.low, h.not⟩
/-- What a Swap that hits, and the store behind it, leave. -/
theorem PW.hit {w wx wy : World} {g : Nat} {O O' : Nat → Prop} {L : List Ar.S} {s : Ar.S} {X : Nat} (h : PW w wx g O L s X) (hs : Step O O' wx wy) :
    (∀ k, O' k → w.heap.size ≤ k) ∧ ¬ O' X ∧ wy.heap[X]? = some (.cells #[.int .i64 s.ep, .int .i64 s.ho, .bool s.so, .int .i64 s.fl] 26 (0, 0)) ∧ Below w.heap.size w wy := by
  have hX := lt_of_block h.now
  refine ⟨fun k hk => (hs.sub k hk).elim (h.own k) fun h1 => Nat.le_trans h.below.size h1, fun hk => (hs.sub X hk).elim h.not fun h1 => by omega, (hs.only.block X hX h.not).trans h.now, h.below.trans (hs.only.below h.below.size h.own)⟩
theorem PW.stored {w wx wy : World} {g : Nat} {O O' : Nat → Prop} {L : List Ar.S} {s r : Ar.S} {X : Nat} (h : PW w wx g O L s X) (hr : AR wy g O' (L ++ [r])) (hs : Step O O' wx wy) (hn : Ar.Next s r) :
    PW w (S4 wy X (.int .i64 r.ep) (.int .i64 r.ho) (.bool r.so) (.int .i64 r.fl)) g O' (L ++ [r]) r X := by
  obtain ⟨h1, h2, h3, h4⟩ := h.hit hs
  refine ⟨S4.below h4 h.low _ _ _ _, hr.keep (by rw [S4.size_]; exact Nat.le_refl _) fun k hk => S4.else_ _ _ _ _ _ _ (by rintro rfl; exact h2 hk), h1, last_snoc _ _, Ar.chain_snoc h.chain fun t ht => ?_, S4.at_ h3 _ _ _ _, h.low, h2⟩
  rw [h.last] at ht
  injection ht with ht
  rw [← ht]; exact hn
theorem PW.missed {w wx wy : World} {g : Nat} {O O' : Nat → Prop} {L : List Ar.S} {s : Ar.S} {X : Nat} (h : PW w wx g O L s X) (hr : AR wy g O' L) (hs : Step O O' wx wy) : PW w wy g O' L s X := by
  have hX := lt_of_block h.now
  exact ⟨h.below.trans (hs.only.below h.below.size h.own), hr, fun k hk => (hs.sub k hk).elim (h.own k) fun h1 => Nat.le_trans h.below.size h1, h.last, h.chain, (hs.only.block X hX h.not).trans h.now, h.low, fun hk => (hs.sub X hk).elim h.not fun h1 => by omega⟩
theorem last_at {L : List Ar.S} {s : Ar.S} (h : L.getLast? = some s) {m : Nat} (hm : L.length = m + 1) : L.getD m Ar.zero = s := by
  have := (last_getD h).1
  rw [hm, Nat.add_sub_cancel] at this
  exact this
set_option maxHeartbeats 16000000 in
set_option maxRecDepth 40000 in
theorem plays_on (A : Option Addr) (ms : List Ta) (cap : Nat) (hn : ms.length ≤ 40) (w : World) (h : TActs w w.heap.size A ms) :
    Calls Try.prog 5 #[.slice A ms.length cap] w fun x w' => x = .returned (.bool true) ∧ Below w.heap.size w w' := by
  have HA := Lib.hid h
  have SG := st_guard
  obtain ⟨n, hnn⟩ : ∃ n, n = ms.length := ⟨_, rfl⟩
  rw [← hnn] at hn ⊢
  have HN := Lib.hid hnn
  have hn' : (n : Int) ≤ 40 := by omega
  clear h hnn
  go_enter Try.func5, Try.ntmps5
  go_wp2_with fail
  (with_reducible refine (awake_any _).mono ?_); rintro x w0 ⟨rfl, b0⟩
  go_wp2_with fail
  (with_reducible refine (new_any _).mono ?_); rintro x w1 ⟨g, rfl, h1, b1⟩
  obtain ⟨O, HO⟩ : ∃ O : Nat → Prop, O = fun k => w0.heap.size ≤ k ∧ k < w1.heap.size := ⟨_, rfl⟩
  have HB : Hid (∀ k, O k → w.heap.size ≤ k) := Lib.hid fun k hk => by rw [HO] at hk; exact Nat.le_trans b0.out.size hk.1
  rw [← HO] at h1
  clear HO
  have GT := Lib.hid (get_at h1.out Ar.first rfl (by decide))
  have B1 : Hid (Below w.heap.size w w1) := Lib.hid (b0.out.trans (b1.out.mono b0.out.size))
  clear b0 b1
  go_wp2_with fail
  (with_reducible refine (GT.out _ (Below.refl _ _)).mono ?_); rintro x w2 ⟨rfl, b2⟩
  have H2 : Hid (AR w2 g O [Ar.first]) := Lib.hid (h1.out.grew b2.out)
  have B2 : Hid (Below w.heap.size w w2) := Lib.hid (B1.out.trans (b2.out.mono B1.out.size))
  clear b2 h1 GT B1
  simp only [Ar.first]
  go_upto_region 7 with fail
  obtain ⟨W3, hW⟩ : ∃ W, W = w2.alloc (.cells #[.int .i64 0, .int .i64 (-1), .bool false, .int .i64 0] 26) := ⟨_, rfl⟩
  obtain ⟨X, hX⟩ : ∃ X, X = w2.heap.size := ⟨_, rfl⟩
  have PS : Hid (PW w W3 g O [Ar.first] Ar.first X) := Lib.hid (by
    have b3 : Below w2.heap.size w2 W3 := by rw [hW]; exact (Below.refl _ _).alloc (Nat.le_refl _) _
    refine ⟨B2.out.trans (b3.mono B2.out.size), H2.out.grew b3, HB.out, rfl, Ar.chain_one _, by rw [hW, hX]; exact heap_alloc_new _ _, by rw [hX]; exact B2.out.size, fun hk => ?_⟩
    have := H2.out.lt _ hk
    omega)
  rw [← hW, ← hX]
  clear hW hX H2 B2 HB
  go_wp2_with fail
  go_loopw [5] (fun iv wr => ∃ (k : Nat) (O : Nat → Prop) (L : List Ar.S) (s : Ar.S), k ≤ n ∧ iv = .int .i64 k ∧ Hid (PW w wr g O L s X) ∧ Hid (L.length ≤ k + 1)) (fun iv _ => n - (intOf iv).toNat)
  case atStart => exact ⟨0, O, _, _, by omega, rfl, PS, Lib.hid (by decide)⟩
  case round =>
    obtain ⟨k, O, L, s, hk, rfl, HP, HL⟩ := hrel
    clear PS
    by_cases hlt : k < n
    · have hlt' : (k : Int) < (n : Int) := by omega
      obtain ⟨b, off, hA, hb, hc⟩ := HA.out (by rw [← HN.out]; omega)
      subst hA
      obtain ⟨c0, c1, c2, c3⟩ := hc k (by rw [← HN.out]; exact hlt)
      have hbb : b < wr.heap.size := Nat.lt_of_lt_of_le hb HP.out.below.size
      have hcr : ∀ o v, w.cell? ⟨b, o, none⟩ = some v → wr.cell? ⟨b, o, none⟩ = some v := fun o v hv => (HP.out.below.cell (p := ⟨b, o, none⟩) hb).trans hv
      replace c0 := hcr _ _ c0
      replace c1 := hcr _ _ c1
      replace c2 := hcr _ _ c2
      replace c3 := hcr _ _ c3
      clear hcr hc hb
      generalize ms.getD k ta0 = m at *
      obtain ⟨op, who, tn, fl⟩ := m
      dsimp only at c0 c1 c2 c3
      go_upto_region 11 with fail
      obtain ⟨W4, hW⟩ : ∃ W, W = wr.alloc (.cells #[.int .i64 op, .int .i64 who, .int .i64 tn, .int .i64 fl] 42) := ⟨_, rfl⟩
      obtain ⟨Y, hY⟩ : ∃ Y, Y = wr.heap.size := ⟨_, rfl⟩
      have b4 : Hid (Below wr.heap.size wr W4) := Lib.hid (by rw [hW]; exact (Below.refl _ _).alloc (Nat.le_refl _) _)
      have PY : Hid (W4.heap[Y]? = some (.cells #[.int .i64 op, .int .i64 who, .int .i64 tn, .int .i64 fl] 42 (0, 0))) := Lib.hid (by rw [hW, hY]; exact heap_alloc_new _ _)
      have YB : Hid (wr.heap.size ≤ Y) := Lib.hid (by omega)
      rw [← hW, ← hY]
      clear hW hY c0 c1 c2 c3 hbb
      have YO : Hid (¬ O Y) := Lib.hid fun h => by have := HP.out.reg.lt _ h; have := YB.out; omega
      have HP4 := Lib.hid (HP.out.on b4.out)
      have LG := Lib.hid (log_at HP4.out.reg (by have := HL.out; omega))
      clear HP b4
      obtain ⟨q, hq⟩ : ∃ q, L.length = q + 1 := ⟨L.length - 1, by have := (last_getD HP4.out.last).2; omega⟩
      have hq9 : q ≤ 40 := by have := HL.out; omega
      have HQ := Lib.hid hq
      unfold LogPost at LG
      rw [hq] at LG
      clear hq
      go_wp2_with fail
      (with_reducible refine (LG.out _ (Below.refl _ _)).mono ?_); rintro x w5 ⟨A5, c5, rfl, o5, b5⟩
      obtain ⟨r5, rfl, -, hr5⟩ := o5.out.shape (by rw [List.length_map, HQ.out]; omega)
      have R5 : Hid (∀ i, i ≤ q → w5.cell? ⟨r5, i * 4, none⟩ = some (.int .i64 (L.getD i Ar.zero).ep) ∧ w5.cell? ⟨r5, i * 4 + 1, none⟩ = some (.int .i64 (L.getD i Ar.zero).ho) ∧ w5.cell? ⟨r5, i * 4 + 2, none⟩ = some (.bool (L.getD i Ar.zero).so) ∧ w5.cell? ⟨r5, i * 4 + 3, none⟩ = some (.int .i64 (L.getD i Ar.zero).fl)) := Lib.hid fun i hi => row_cells o5.out (by rw [HQ.out]; omega)
      have HP5 := Lib.hid (HP4.out.on b5.out)
      have PY5 : Hid (w5.heap[Y]? = _) := Lib.hid ((b5.out.block _ (lt_of_block PY.out)).trans PY.out)
      clear LG HP4 PY b5 o5
      have hlast := R5.out q (Nat.le_refl _)
      rw [last_at HP5.out.last HQ.out] at hlast
      obtain ⟨l0, l1, l2, l3⟩ := hlast
      obtain ⟨⟨n0, n1, n2, n3⟩, -⟩ := obj4 HP5.out.now
      have NE : ∀ W, (binOp .neq 26 (.agg #[.int .i64 s.ep, .int .i64 s.ho, .bool s.so, .int .i64 s.fl]) (.agg #[.int .i64 s.ep, .int .i64 s.ho, .bool s.so, .int .i64 s.fl])).run Try.prog W = .ok (.bool false) W := fun W => (st_neq s s W).trans (by rw [eqS_refl']; rfl)
      have z1 : ((q : Int) + 1 == 0) = false := by simp; omega
      have z2 : (0 : Int) ≤ (q : Int) := by omega
      have z3 : (q : Int) < (q : Int) + 1 := by omega
      have z4 : IntKind.i64.wrap ((q : Int) + 1 - 1) = (q : Int) := by rw [Int.add_sub_cancel, IntKind.wrap_i64]; omega
      go_wp2_with fail
      go_quiet (fail)
      clear l0 l1 l2 l3 n0 n1 n2 n3 NE z1 z2 z3 z4
      have b6 : Below w5.heap.size w5 (w5.drewN nq) := below_n (Below.refl _ _) nq
      have HP6 := Lib.hid (HP5.out.on b6)
      have PY6 : Hid ((w5.drewN nq).heap[Y]? = _) := PY5
      have R6 : Hid (∀ i, i ≤ q → (w5.drewN nq).cell? ⟨r5, i * 4, none⟩ = some (.int .i64 (L.getD i Ar.zero).ep) ∧ (w5.drewN nq).cell? ⟨r5, i * 4 + 1, none⟩ = some (.int .i64 (L.getD i Ar.zero).ho) ∧ (w5.drewN nq).cell? ⟨r5, i * 4 + 2, none⟩ = some (.bool (L.getD i Ar.zero).so) ∧ (w5.drewN nq).cell? ⟨r5, i * 4 + 3, none⟩ = some (.int .i64 (L.getD i Ar.zero).fl)) := R5
      have hr6 : Hid (r5 < (w5.drewN nq).heap.size) := Lib.hid hr5
      clear HP5 PY5 R5 b6 hr5
      generalize w5.drewN nq = w6 at *
      clear w5
      obtain ⟨⟨n0, n1, n2, n3⟩, -⟩ := obj4 HP6.out.now
      go_upto_region 15 with fail
      obtain ⟨W7, hW⟩ : ∃ W, W = w6.alloc (.cells #[.int .i64 s.ep, .int .i64 s.ho, .bool s.so, .int .i64 s.fl] 26) := ⟨_, rfl⟩
      obtain ⟨Z, hZ⟩ : ∃ Z, Z = w6.heap.size := ⟨_, rfl⟩
      have b7 : Hid (Below w6.heap.size w6 W7) := Lib.hid (by rw [hW]; exact (Below.refl _ _).alloc (Nat.le_refl _) _)
      have PZ : Hid (W7.heap[Z]? = some (.cells #[.int .i64 s.ep, .int .i64 s.ho, .bool s.so, .int .i64 s.fl] 26 (0, 0))) := Lib.hid (by rw [hW, hZ]; exact heap_alloc_new _ _)
      have ZB : Hid (w6.heap.size ≤ Z) := Lib.hid (by omega)
      rw [← hW, ← hZ]
      clear hW hZ n0 n1 n2 n3
      have ZO : Hid (¬ O Z ∧ Z ≠ X ∧ Z ≠ Y ∧ w.heap.size ≤ Z) := Lib.hid ⟨fun h => by have := HP6.out.reg.lt _ h; have := ZB.out; omega, fun h => by have := lt_of_block HP6.out.now; have := ZB.out; omega, fun h => by have := lt_of_block PY6.out; have := ZB.out; omega, by have := HP6.out.below.size; have := ZB.out; omega⟩
      have HP7 := Lib.hid (HP6.out.on b7.out)
      have PY7 : Hid (W7.heap[Y]? = _) := Lib.hid ((b7.out.block _ (lt_of_block PY6.out)).trans PY6.out)
      have R7 : Hid (∀ i, i ≤ q → W7.cell? ⟨r5, i * 4, none⟩ = some (.int .i64 (L.getD i Ar.zero).ep) ∧ W7.cell? ⟨r5, i * 4 + 1, none⟩ = some (.int .i64 (L.getD i Ar.zero).ho) ∧ W7.cell? ⟨r5, i * 4 + 2, none⟩ = some (.bool (L.getD i Ar.zero).so) ∧ W7.cell? ⟨r5, i * 4 + 3, none⟩ = some (.int .i64 (L.getD i Ar.zero).fl)) := Lib.hid fun i hi => by
        obtain ⟨d0, d1, d2, d3⟩ := R6.out i hi
        exact ⟨(b7.out.cell (p := ⟨r5, i * 4, none⟩) hr6.out).trans d0, (b7.out.cell (p := ⟨r5, i * 4 + 1, none⟩) hr6.out).trans d1, (b7.out.cell (p := ⟨r5, i * 4 + 2, none⟩) hr6.out).trans d2, (b7.out.cell (p := ⟨r5, i * 4 + 3, none⟩) hr6.out).trans d3⟩
      clear b7 HP6 PY6 R6 hr6
      go_cut [56] (fun bv wx => ∃ z : Bool, bv = .bool z ∧ (z = true → 0 < tn ∧ tn < (q : Int) + 1) ∧ wx = W7)
      case first =>
        obtain ⟨⟨p0, p1, p2, p3⟩, -⟩ := obj4 PY7.out
        by_cases t0 : 0 < tn
        · by_cases t1 : tn < (q : Int) + 1
          · go_wp2
            go_meet
            exact ⟨true, by simp, fun _ => ⟨t0, t1⟩, rfl⟩
          · go_wp2
            go_meet
            exact ⟨false, by simp, fun h => (by cases h), rfl⟩
        · go_wp2
          go_meet
          exact ⟨false, rfl, fun h => (by cases h), rfl⟩
      case rest =>
        go_upto_if 15 with fail
        go_cut [] (fun wx => ∃ o : Ar.S, Hid (PW w wx g O L s X) ∧ Hid (wx.heap[Y]? = some (.cells #[.int .i64 op, .int .i64 who, .int .i64 tn, .int .i64 fl] 42 (0, 0))) ∧ Hid (wx.heap[Z]? = some (.cells #[.int .i64 o.ep, .int .i64 o.ho, .bool o.so, .int .i64 o.fl] 26 (0, 0))))
        case first =>
          obtain ⟨z, rfl, hz, rfl⟩ := hcut
          cases z
          · go_wp2
            go_meet
            exact ⟨s, HP7, PY7, PZ⟩
          · obtain ⟨t0, t1⟩ := hz rfl
            obtain ⟨t, rfl⟩ := Int.eq_ofNat_of_zero_le (show 0 ≤ tn by omega)
            obtain ⟨i, rfl⟩ : ∃ i, q = i + t := ⟨q - t, by omega⟩
            obtain ⟨d0, d1, d2, d3⟩ := R7.out i (by omega)
            obtain ⟨⟨p0, p1, p2, p3⟩, -⟩ := obj4 PY7.out
            obtain ⟨⟨y0, y1, y2, y3⟩, f0, f1, f2, f3⟩ := obj4 PZ.out
            have z1 : IntKind.i64.wrap ((i : Int) + (t : Int) + 1 - 1) = (i : Int) + (t : Int) := by rw [Int.add_sub_cancel, IntKind.wrap_i64]; omega
            have z2 : IntKind.i64.wrap ((i : Int) + (t : Int) - (t : Int)) = (i : Int) := by rw [Int.add_sub_cancel, IntKind.wrap_i64]; omega
            have z3 : (0 : Int) ≤ (i : Int) := by omega
            have z4 : (i : Int) < (i : Int) + (t : Int) + 1 := by omega
            generalize L.getD i Ar.zero = o at *
            go_wp2
            go_meet
            exact ⟨o, Lib.hid (HP7.out.put ZO.out.2.2.2 ZO.out.1 ZO.out.2.1 _ _ _ _), Lib.hid ((S4.else_ _ _ _ _ _ _ ZO.out.2.2.1.symm).trans PY7.out), Lib.hid (S4.at_ PZ.out _ _ _ _)⟩
        case rest =>
          obtain ⟨o, HP8, PY8, PZ8⟩ := hcut
          clear PY7 HP7 PZ R7
          go_upto_region 18 with fail
          obtain ⟨W9, hW⟩ : ∃ W, W = wc.alloc (.cells #[.int .i64 0, .int .i64 0, .bool false, .int .i64 0] 26) := ⟨_, rfl⟩
          obtain ⟨V, hV⟩ : ∃ V, V = wc.heap.size := ⟨_, rfl⟩
          have b9 : Hid (Below wc.heap.size wc W9) := Lib.hid (by rw [hW]; exact (Below.refl _ _).alloc (Nat.le_refl _) _)
          have PV : Hid (W9.heap[V]? = some (.cells #[.int .i64 0, .int .i64 0, .bool false, .int .i64 0] 26 (0, 0))) := Lib.hid (by rw [hW, hV]; exact heap_alloc_new _ _)
          rw [← hW, ← hV]
          have HV := Lib.hid hV
          clear hW hV
          have VO : Hid (¬ O V ∧ V ≠ X ∧ V ≠ Y ∧ V ≠ Z ∧ w.heap.size ≤ V) := Lib.hid ⟨fun h => by have := HP8.out.reg.lt _ h; have := HV.out; omega, fun h => by have := lt_of_block HP8.out.now; have := HV.out; omega, fun h => by have := lt_of_block PY8.out; have := HV.out; omega, fun h => by have := lt_of_block PZ8.out; have := HV.out; omega, by have := HP8.out.below.size; have := HV.out; omega⟩
          have HP9 := Lib.hid (HP8.out.on b9.out)
          have PY9 : Hid (W9.heap[Y]? = _) := Lib.hid ((b9.out.block _ (lt_of_block PY8.out)).trans PY8.out)
          have PZ9 : Hid (W9.heap[Z]? = _) := Lib.hid ((b9.out.block _ (lt_of_block PZ8.out)).trans PZ8.out)
          clear b9 HP8 PY8 PZ8 HV
          obtain ⟨⟨p0, p1, p2, p3⟩, -⟩ := obj4 PY9.out
          obtain ⟨⟨y0, y1, y2, y3⟩, -⟩ := obj4 PZ9.out
          go_upto_block 2 with fail
          go_cut [10] (fun kv wx => ∃ (ok : Bool) (r : Ar.S), kv = .bool ok ∧ Hid (ok = true → Ar.Next o r) ∧ Hid (PW w wx g O L s X) ∧ Hid (wx.heap[Z]? = some (.cells #[.int .i64 o.ep, .int .i64 o.ho, .bool o.so, .int .i64 o.fl] 26 (0, 0))) ∧ Hid (wx.heap[V]? = some (.cells #[.int .i64 r.ep, .int .i64 r.ho, .bool r.so, .int .i64 r.fl] 26 (0, 0))))
          case first =>
            by_cases o0 : op = 0
            · subst o0
              have LD := Lib.hid (lead_any o.ep o.ho o.so o.fl who)
              have NX : Hid (Ar.okL ⟨o.ep, o.ho, o.so, o.fl⟩ who = true → Ar.Next o (Ar.leadV ⟨o.ep, o.ho, o.so, o.fl⟩ who)) := Lib.hid fun h => Ar.next_lead (s := o) h
              generalize Ar.okL ⟨o.ep, o.ho, o.so, o.fl⟩ who = ok at *
              generalize Ar.leadV ⟨o.ep, o.ho, o.so, o.fl⟩ who = r at *
              unfold StPost Ar.S.val at LD
              go_wp2_with fail
              (with_reducible refine (LD.out _).mono ?_); rintro x w10 ⟨rfl, b10⟩
              have HP10 := Lib.hid (HP9.out.on b10.out)
              have PZ10 : Hid (w10.heap[Z]? = _) := Lib.hid ((b10.out.block _ (lt_of_block PZ9.out)).trans PZ9.out)
              have PV10 : Hid (w10.heap[V]? = _) := Lib.hid ((b10.out.block _ (lt_of_block PV.out)).trans PV.out)
              clear b10 p0 p1 p2 p3 y0 y1 y2 y3
              obtain ⟨⟨v0, v1, v2, v3⟩, f0, f1, f2, f3⟩ := obj4 PV10.out
              go_wp2
              go_meet
              exact ⟨ok, r, rfl, NX, Lib.hid (HP10.out.put VO.out.2.2.2.2 VO.out.1 VO.out.2.1 _ _ _ _), Lib.hid ((S4.else_ _ _ _ _ _ _ VO.out.2.2.2.1.symm).trans PZ10.out), Lib.hid (S4.at_ PV10.out _ _ _ _)⟩
            · by_cases o1 : op = 1
              · subst o1
                have LD := Lib.hid (alone_any o.ep o.ho o.so o.fl who o.ep fl)
                have NX : Hid (Ar.okT ⟨o.ep, o.ho, o.so, o.fl⟩ true who o.ep fl = true → Ar.Next o (Ar.turnV ⟨o.ep, o.ho, o.so, o.fl⟩ true who o.ep fl)) := Lib.hid fun h => Ar.next_turn (s := o) h
                generalize Ar.okT ⟨o.ep, o.ho, o.so, o.fl⟩ true who o.ep fl = ok at *
                generalize Ar.turnV ⟨o.ep, o.ho, o.so, o.fl⟩ true who o.ep fl = r at *
                unfold StPost Ar.S.val at LD
                go_wp2_with fail
                (with_reducible refine (LD.out _).mono ?_); rintro x w10 ⟨rfl, b10⟩
                have HP10 := Lib.hid (HP9.out.on b10.out)
                have PZ10 : Hid (w10.heap[Z]? = _) := Lib.hid ((b10.out.block _ (lt_of_block PZ9.out)).trans PZ9.out)
                have PV10 : Hid (w10.heap[V]? = _) := Lib.hid ((b10.out.block _ (lt_of_block PV.out)).trans PV.out)
                clear b10 p0 p1 p2 p3 y0 y1 y2 y3
                obtain ⟨⟨v0, v1, v2, v3⟩, f0, f1, f2, f3⟩ := obj4 PV10.out
                go_wp2
                go_meet
                exact ⟨ok, r, rfl, NX, Lib.hid (HP10.out.put VO.out.2.2.2.2 VO.out.1 VO.out.2.1 _ _ _ _), Lib.hid ((S4.else_ _ _ _ _ _ _ VO.out.2.2.2.1.symm).trans PZ10.out), Lib.hid (S4.at_ PV10.out _ _ _ _)⟩
              · have o0b : (op == 0) = false := by simp [o0]
                have o1b : (op == 1) = false := by simp [o1]
                have LD := Lib.hid (both_any o.ep o.ho o.so o.fl who o.ep fl)
                have NX : Hid (Ar.okT ⟨o.ep, o.ho, o.so, o.fl⟩ false who o.ep fl = true → Ar.Next o (Ar.turnV ⟨o.ep, o.ho, o.so, o.fl⟩ false who o.ep fl)) := Lib.hid fun h => Ar.next_turn (s := o) h
                generalize Ar.okT ⟨o.ep, o.ho, o.so, o.fl⟩ false who o.ep fl = ok at *
                generalize Ar.turnV ⟨o.ep, o.ho, o.so, o.fl⟩ false who o.ep fl = r at *
                unfold StPost Ar.S.val at LD
                go_wp2_with fail
                (with_reducible refine (LD.out _).mono ?_); rintro x w10 ⟨rfl, b10⟩
                have HP10 := Lib.hid (HP9.out.on b10.out)
                have PZ10 : Hid (w10.heap[Z]? = _) := Lib.hid ((b10.out.block _ (lt_of_block PZ9.out)).trans PZ9.out)
                have PV10 : Hid (w10.heap[V]? = _) := Lib.hid ((b10.out.block _ (lt_of_block PV.out)).trans PV.out)
                clear b10 p0 p1 p2 p3 y0 y1 y2 y3
                obtain ⟨⟨v0, v1, v2, v3⟩, f0, f1, f2, f3⟩ := obj4 PV10.out
                go_wp2
                go_meet
                exact ⟨ok, r, rfl, NX, Lib.hid (HP10.out.put VO.out.2.2.2.2 VO.out.1 VO.out.2.1 _ _ _ _), Lib.hid ((S4.else_ _ _ _ _ _ _ VO.out.2.2.2.1.symm).trans PZ10.out), Lib.hid (S4.at_ PV10.out _ _ _ _)⟩
          case rest =>
            obtain ⟨ok, r, rfl, NX, HPa, PZa, PVa⟩ := hcut
            clear HP9 PY9 PZ9 PV p0 p1 p2 p3 y0 y1 y2 y3
            cases ok
            · go_wp2
              go_roundw
              case rel => exact ⟨k + 1, O, L, s, by omega, by go_num, HPa, Lib.hid (by have := HL.out; omega)⟩
              case measure => simp [intOf]; omega
            · go_upto_region 25 with fail
              by_cases he : Ar.eqS s o = true
              · obtain rfl := eqS_true he
                clear he
                have SK : Hid (∀ w' : World, Only O wc w' → (w'.cell? ⟨Z, 0, none⟩ = some (.int .i64 s.ep) ∧ w'.cell? ⟨Z, 1, none⟩ = some (.int .i64 s.ho) ∧ w'.cell? ⟨Z, 2, none⟩ = some (.bool s.so) ∧ w'.cell? ⟨Z, 3, none⟩ = some (.int .i64 s.fl)) ∧ (w'.cell? ⟨V, 0, none⟩ = some (.int .i64 r.ep) ∧ w'.cell? ⟨V, 1, none⟩ = some (.int .i64 r.ho) ∧ w'.cell? ⟨V, 2, none⟩ = some (.bool r.so) ∧ w'.cell? ⟨V, 3, none⟩ = some (.int .i64 r.fl)) ∧ (w'.cell? ⟨X, 0, none⟩ = some (.int .i64 s.ep) ∧ w'.cell? ⟨X, 1, none⟩ = some (.int .i64 s.ho) ∧ w'.cell? ⟨X, 2, none⟩ = some (.bool s.so) ∧ w'.cell? ⟨X, 3, none⟩ = some (.int .i64 s.fl))) := Lib.hid fun w' hb => ⟨(obj4 ((hb.block _ (lt_of_block PZa.out) ZO.out.1).trans PZa.out)).1, (obj4 ((hb.block _ (lt_of_block PVa.out) VO.out.1).trans PVa.out)).1, (obj4 ((hb.block _ (lt_of_block HPa.out.now) HPa.out.not).trans HPa.out.now)).1⟩
                have SB := Lib.hid (SK.out wc.drew (Only.of (Below.refl _ _).drew))
                have SW := Lib.hid (hit_at HPa.out.reg s s HPa.out.last (eqS_refl' _) (by rw [HQ.out]; omega) r.ep r.ho r.so r.fl)
                have EQ : ∀ W, (binOp .eql 26 (.agg #[.int .i64 s.ep, .int .i64 s.ho, .bool s.so, .int .i64 s.fl]) (.agg #[.int .i64 s.ep, .int .i64 s.ho, .bool s.so, .int .i64 s.fl])).run Try.prog W = .ok (.bool true) W := fun W => (st_eql s s W).trans (by rw [eqS_refl'])
                go_region_held3 (fun w' => (w'.cell? ⟨Z, 0, none⟩ = some (.int .i64 s.ep) ∧ w'.cell? ⟨Z, 1, none⟩ = some (.int .i64 s.ho) ∧ w'.cell? ⟨Z, 2, none⟩ = some (.bool s.so) ∧ w'.cell? ⟨Z, 3, none⟩ = some (.int .i64 s.fl)) ∧ (w'.cell? ⟨V, 0, none⟩ = some (.int .i64 r.ep) ∧ w'.cell? ⟨V, 1, none⟩ = some (.int .i64 r.ho) ∧ w'.cell? ⟨V, 2, none⟩ = some (.bool r.so) ∧ w'.cell? ⟨V, 3, none⟩ = some (.int .i64 r.fl)) ∧ (w'.cell? ⟨X, 0, none⟩ = some (.int .i64 s.ep) ∧ w'.cell? ⟨X, 1, none⟩ = some (.int .i64 s.ho) ∧ w'.cell? ⟨X, 2, none⟩ = some (.bool s.so) ∧ w'.cell? ⟨X, 3, none⟩ = some (.int .i64 s.fl))) ((first | exact SB.out | exact S5.out | go_keep))
                  ((go_simp; go_at_call 12; (with_reducible refine (SW.out _ (Below.refl _ _).drew).mono ?_); rintro x w5 ⟨rfl, O5, h5, s5⟩; have K5 : Hid (Step O O5 wc w5) := Lib.hid (Step.ahead (Below.refl _ _).drew s5.out); have S5 := Lib.hid (SK.out _ K5.out.only)))
                have HX5 := Lib.hid (HPa.out.hit K5.out)
                obtain ⟨-, f0, f1, f2, f3⟩ := obj4 HX5.out.2.2.1
                have HPb : Hid (PW w (S4 w5 X (.int .i64 r.ep) (.int .i64 r.ho) (.bool r.so) (.int .i64 r.fl)) g O5 (L ++ [r]) r X) := Lib.hid (HPa.out.stored h5.out K5.out (by first | exact NX.out rfl | exact NX.out trivial))
                clear SB S5 SK SW s5 h5
                go_wp2_with fail
                go_upto_region 29 with fail
                obtain ⟨W6, hW⟩ : ∃ W, W = S4 w5 X (.int .i64 r.ep) (.int .i64 r.ho) (.bool r.so) (.int .i64 r.fl) := ⟨_, rfl⟩
                rw [← hW] at HPb
                unfold S4 at hW
                rw [← hW]
                clear hW
                have NE : ∀ W, (binOp .neq 26 (.agg #[.int .i64 r.ep, .int .i64 r.ho, .bool r.so, .int .i64 r.fl]) (.agg #[.int .i64 r.ep, .int .i64 r.ho, .bool r.so, .int .i64 r.fl])).run Try.prog W = .ok (.bool false) W := fun W => (st_neq r r W).trans (by rw [eqS_refl']; rfl)
                have SK : Hid (∀ w' : World, Below W6.heap.size W6 w' → (w'.cell? ⟨X, 0, none⟩ = some (.int .i64 r.ep) ∧ w'.cell? ⟨X, 1, none⟩ = some (.int .i64 r.ho) ∧ w'.cell? ⟨X, 2, none⟩ = some (.bool r.so) ∧ w'.cell? ⟨X, 3, none⟩ = some (.int .i64 r.fl))) := Lib.hid fun w' hb => (obj4 ((hb.block _ (lt_of_block HPb.out.now)).trans HPb.out.now)).1
                have SB := Lib.hid (SK.out W6.drew (Below.refl _ _).drew)
                have GT := Lib.hid (get_at HPb.out.reg r HPb.out.last (by rw [List.length_append, HQ.out]; simp; omega))
                go_region_held3 (fun w' => (w'.cell? ⟨X, 0, none⟩ = some (.int .i64 r.ep) ∧ w'.cell? ⟨X, 1, none⟩ = some (.int .i64 r.ho) ∧ w'.cell? ⟨X, 2, none⟩ = some (.bool r.so) ∧ w'.cell? ⟨X, 3, none⟩ = some (.int .i64 r.fl))) ((first | exact SB.out | exact S7.out | go_keep))
                  ((go_simp; go_at_call 11; (with_reducible refine (GT.out _ (Below.refl _ _).drew).mono ?_); rintro x w7 ⟨rfl, b7⟩; have B7 : Hid (Below W6.heap.size W6 w7) := Lib.hid ((Below.refl _ _).drew.trans b7.out); have S7 := Lib.hid (SK.out _ B7.out)))
                go_wp2
                go_roundw
                case rel => exact ⟨k + 1, O5, L ++ [r], r, by omega, by go_num, Lib.hid (HPb.out.on B7.out), Lib.hid (by have h1 := HL.out; have h2 := HQ.out; rw [List.length_append]; simp; omega)⟩
                case measure => simp [intOf]; omega
              · have he : Ar.eqS s o = false := by simpa using he
                have SK : Hid (∀ w' : World, Only O wc w' → (w'.cell? ⟨Z, 0, none⟩ = some (.int .i64 o.ep) ∧ w'.cell? ⟨Z, 1, none⟩ = some (.int .i64 o.ho) ∧ w'.cell? ⟨Z, 2, none⟩ = some (.bool o.so) ∧ w'.cell? ⟨Z, 3, none⟩ = some (.int .i64 o.fl)) ∧ (w'.cell? ⟨V, 0, none⟩ = some (.int .i64 r.ep) ∧ w'.cell? ⟨V, 1, none⟩ = some (.int .i64 r.ho) ∧ w'.cell? ⟨V, 2, none⟩ = some (.bool r.so) ∧ w'.cell? ⟨V, 3, none⟩ = some (.int .i64 r.fl)) ∧ (w'.cell? ⟨X, 0, none⟩ = some (.int .i64 s.ep) ∧ w'.cell? ⟨X, 1, none⟩ = some (.int .i64 s.ho) ∧ w'.cell? ⟨X, 2, none⟩ = some (.bool s.so) ∧ w'.cell? ⟨X, 3, none⟩ = some (.int .i64 s.fl))) := Lib.hid fun w' hb => ⟨(obj4 ((hb.block _ (lt_of_block PZa.out) ZO.out.1).trans PZa.out)).1, (obj4 ((hb.block _ (lt_of_block PVa.out) VO.out.1).trans PVa.out)).1, (obj4 ((hb.block _ (lt_of_block HPa.out.now) HPa.out.not).trans HPa.out.now)).1⟩
                have SB := Lib.hid (SK.out wc.drew (Only.of (Below.refl _ _).drew))
                have SW := Lib.hid (miss_at HPa.out.reg s o HPa.out.last he (by rw [HQ.out]; omega) r.ep r.ho r.so r.fl)
                have EQ : ∀ W, (binOp .eql 26 (.agg #[.int .i64 o.ep, .int .i64 o.ho, .bool o.so, .int .i64 o.fl]) (.agg #[.int .i64 s.ep, .int .i64 s.ho, .bool s.so, .int .i64 s.fl])).run Try.prog W = .ok (.bool false) W := fun W => (st_eql o s W).trans (by rw [eqS_symm, he])
                go_region_held3 (fun w' => (w'.cell? ⟨Z, 0, none⟩ = some (.int .i64 o.ep) ∧ w'.cell? ⟨Z, 1, none⟩ = some (.int .i64 o.ho) ∧ w'.cell? ⟨Z, 2, none⟩ = some (.bool o.so) ∧ w'.cell? ⟨Z, 3, none⟩ = some (.int .i64 o.fl)) ∧ (w'.cell? ⟨V, 0, none⟩ = some (.int .i64 r.ep) ∧ w'.cell? ⟨V, 1, none⟩ = some (.int .i64 r.ho) ∧ w'.cell? ⟨V, 2, none⟩ = some (.bool r.so) ∧ w'.cell? ⟨V, 3, none⟩ = some (.int .i64 r.fl)) ∧ (w'.cell? ⟨X, 0, none⟩ = some (.int .i64 s.ep) ∧ w'.cell? ⟨X, 1, none⟩ = some (.int .i64 s.ho) ∧ w'.cell? ⟨X, 2, none⟩ = some (.bool s.so) ∧ w'.cell? ⟨X, 3, none⟩ = some (.int .i64 s.fl))) ((first | exact SB.out | exact S5.out | go_keep))
                  ((go_simp; go_at_call 12; (with_reducible refine (SW.out _ (Below.refl _ _).drew).mono ?_); rintro x w5 ⟨rfl, O5, h5, s5⟩; have K5 : Hid (Step O O5 wc w5) := Lib.hid (Step.ahead (Below.refl _ _).drew s5.out); have S5 := Lib.hid (SK.out _ K5.out.only)))
                have HPb : Hid (PW w w5 g O5 L s X) := Lib.hid (HPa.out.missed h5.out K5.out)
                clear SB S5 SK SW s5 h5
                go_wp2_with fail
                go_upto_region 29 with fail
                have NE : ∀ W, (binOp .neq 26 (.agg #[.int .i64 s.ep, .int .i64 s.ho, .bool s.so, .int .i64 s.fl]) (.agg #[.int .i64 s.ep, .int .i64 s.ho, .bool s.so, .int .i64 s.fl])).run Try.prog W = .ok (.bool false) W := fun W => (st_neq s s W).trans (by rw [eqS_refl']; rfl)
                have SK : Hid (∀ w' : World, Below w5.heap.size w5 w' → (w'.cell? ⟨X, 0, none⟩ = some (.int .i64 s.ep) ∧ w'.cell? ⟨X, 1, none⟩ = some (.int .i64 s.ho) ∧ w'.cell? ⟨X, 2, none⟩ = some (.bool s.so) ∧ w'.cell? ⟨X, 3, none⟩ = some (.int .i64 s.fl))) := Lib.hid fun w' hb => (obj4 ((hb.block _ (lt_of_block HPb.out.now)).trans HPb.out.now)).1
                have SB := Lib.hid (SK.out w5.drew (Below.refl _ _).drew)
                have GT := Lib.hid (get_at HPb.out.reg s HPb.out.last (by rw [HQ.out]; omega))
                go_region_held3 (fun w' => (w'.cell? ⟨X, 0, none⟩ = some (.int .i64 s.ep) ∧ w'.cell? ⟨X, 1, none⟩ = some (.int .i64 s.ho) ∧ w'.cell? ⟨X, 2, none⟩ = some (.bool s.so) ∧ w'.cell? ⟨X, 3, none⟩ = some (.int .i64 s.fl))) ((first | exact SB.out | exact S7.out | go_keep))
                  ((go_simp; go_at_call 11; (with_reducible refine (GT.out _ (Below.refl _ _).drew).mono ?_); rintro x w7 ⟨rfl, b7⟩; have B7 : Hid (Below w5.heap.size w5 w7) := Lib.hid ((Below.refl _ _).drew.trans b7.out); have S7 := Lib.hid (SK.out _ B7.out)))
                go_wp2
                go_roundw
                case rel => exact ⟨k + 1, O5, L, s, by omega, by go_num, Lib.hid (HPb.out.on B7.out), Lib.hid (by have := HL.out; omega)⟩
                case measure => simp [intOf]; omega
    · obtain rfl : k = n := by omega
      obtain ⟨q, hq⟩ : ∃ q, L.length = q + 1 := ⟨L.length - 1, by have := (last_getD HP.out.last).2; omega⟩
      have hq9 : q ≤ 40 := by have := HL.out; omega
      have HQ := Lib.hid hq
      have LG := Lib.hid (log_at HP.out.reg (by omega))
      unfold LogPost at LG
      rw [hq] at LG
      clear hq
      go_wp2_with fail
      (with_reducible refine (LG.out _ (Below.refl _ _)).mono ?_); rintro x w5 ⟨A5, c5, rfl, o5, b5⟩
      obtain ⟨r5, rfl, -, hr5⟩ := o5.out.shape (by rw [List.length_map, HQ.out]; omega)
      have R5 : Hid (∀ i, i ≤ q → w5.cell? ⟨r5, i * 4, none⟩ = some (.int .i64 (L.getD i Ar.zero).ep) ∧ w5.cell? ⟨r5, i * 4 + 1, none⟩ = some (.int .i64 (L.getD i Ar.zero).ho) ∧ w5.cell? ⟨r5, i * 4 + 2, none⟩ = some (.bool (L.getD i Ar.zero).so) ∧ w5.cell? ⟨r5, i * 4 + 3, none⟩ = some (.int .i64 (L.getD i Ar.zero).fl)) := Lib.hid fun i hi => row_cells o5.out (by rw [HQ.out]; omega)
      have CH : Hid (∀ j, j < q → Ar.Next (L.getD j Ar.zero) (L.getD (j + 1) Ar.zero)) := Lib.hid fun j hj => HP.out.chain j (by rw [HQ.out]; omega)
      have B5 : Hid (Below w.heap.size w w5) := Lib.hid (HP.out.below.trans (b5.out.mono HP.out.below.size))
      have HR5 := Lib.hid hr5
      clear LG HP b5 o5 hr5 HL
      have hq' : (q : Int) ≤ 40 := by omega
      go_wp2_with fail
      go_loopw [12] (fun iv wr => ∃ j : Nat, j ≤ q ∧ iv = .int .i64 ((j : Int) + 1) ∧ Hid (Below w5.heap.size w5 wr)) (fun iv _ => q + 1 - (intOf iv).toNat)
      case atStart => exact ⟨0, by omega, rfl, Lib.hid (Below.refl _ _)⟩
      case round =>
        obtain ⟨j, hj, rfl, HW⟩ := hrel
        by_cases hlt : j < q
        · have hlt' : (j : Int) + 1 < (q : Int) + 1 := by omega
          have hlt2 : (j : Int) < (q : Int) + 1 := by omega
          have z0 : (0 : Int) ≤ (j : Int) := by omega
          have z1 : (0 : Int) ≤ (j : Int) + 1 := by omega
          have z2 : IntKind.i64.wrap ((j : Int) + 1 - 1) = (j : Int) := by rw [Int.add_sub_cancel, IntKind.wrap_i64]; omega
          have R6 : Hid (∀ i, i ≤ q → wr.cell? ⟨r5, i * 4, none⟩ = some (.int .i64 (L.getD i Ar.zero).ep) ∧ wr.cell? ⟨r5, i * 4 + 1, none⟩ = some (.int .i64 (L.getD i Ar.zero).ho) ∧ wr.cell? ⟨r5, i * 4 + 2, none⟩ = some (.bool (L.getD i Ar.zero).so) ∧ wr.cell? ⟨r5, i * 4 + 3, none⟩ = some (.int .i64 (L.getD i Ar.zero).fl)) := Lib.hid fun i hi => by
            obtain ⟨d0, d1, d2, d3⟩ := R5.out i hi
            exact ⟨(HW.out.cell (p := ⟨r5, i * 4, none⟩) HR5.out).trans d0, (HW.out.cell (p := ⟨r5, i * 4 + 1, none⟩) HR5.out).trans d1, (HW.out.cell (p := ⟨r5, i * 4 + 2, none⟩) HR5.out).trans d2, (HW.out.cell (p := ⟨r5, i * 4 + 3, none⟩) HR5.out).trans d3⟩
          obtain ⟨a0, a1, a2, a3⟩ := R6.out j (by omega)
          obtain ⟨b0, b1, b2, b3⟩ := R6.out (j + 1) (by omega)
          obtain ⟨g1, g2, g3⟩ := CH.out j hlt
          clear R6 a2 b2
          generalize (L.getD j Ar.zero).ep = ae at *
          generalize (L.getD j Ar.zero).ho = ah at *
          generalize (L.getD j Ar.zero).fl = af at *
          generalize (L.getD (j + 1) Ar.zero).ep = be at *
          generalize (L.getD (j + 1) Ar.zero).ho = bh at *
          generalize (L.getD (j + 1) Ar.zero).fl = bf at *
          have d1 : decide (be < ae) = false := decide_eq_false (by omega)
          have d2 : decide (bf < af) = false := decide_eq_false (by omega)
          clear g1 g2
          by_cases hee : be = ae
          · have hh := g3 hee
            subst hee
            subst hh
            clear g3
            go_wp2_with fail
            go_quiet (fail)
            go_wp2
            go_roundw
            case rel => exact ⟨j + 1, by omega, by go_num, Lib.hid (below_n HW.out _)⟩
            case measure => simp [intOf]; omega
          · have he2 : (be == ae) = false := by simp [hee]
            clear g3
            go_wp2_with fail
            go_quiet (fail)
            go_wp2
            go_roundw
            case rel => exact ⟨j + 1, by omega, by go_num, Lib.hid (below_n HW.out _)⟩
            case measure => simp [intOf]; omega
        · obtain rfl : j = q := by omega
          go_wp2
          go_ret
          exact ⟨rfl, B5.out.trans (HW.out.mono B5.out.size)⟩
set_option maxHeartbeats 1000000 in
set_option maxRecDepth 20000 in
theorem plays_walk (A : Option Addr) (ms : List Ta) (cap : Nat) (hl : ms.length ≤ 9223372036854775807) (w : World) (h : TActs w w.heap.size A ms) :
    Calls Try.prog 5 #[.slice A ms.length cap] w fun x w' => x = .returned (.bool true) ∧ Below w.heap.size w w' := by
  by_cases hn : ms.length ≤ 40
  · exact plays_on A ms cap hn w h
  · have h1 : (40 : Int) < (ms.length : Int) := by omega
    clear h hl
    obtain ⟨n, hnn⟩ : ∃ n, n = ms.length := ⟨_, rfl⟩
    rw [← hnn] at h1 ⊢
    clear hn hnn
    go_enter Try.func5, Try.ntmps5
    go_wp2_with fail
    (with_reducible refine (awake_any _).mono ?_); rintro x w0 ⟨rfl, b0⟩
    go_wp2
    go_ret
    exact ⟨rfl, b0.out⟩
end Go.Proofs.Ytjagkolagmlakaa
