/-
  Package graph: leastOnCycle, leastOnWay, hasDetour over a table of distances.
-/
import Derived.Test.YtgeefkfolejbnaaGrShortest
namespace Go.Proofs.Ytgeefkfolejbnaa
open Go.RowKit
def CycPost (w : World) (r : Int × Int × Bool) (e : Ending) (w' : World) : Prop := e = .returned (.tuple #[.int .i64 r.1, .int .i64 r.2.1, .bool r.2.2]) ∧ Hid (Below w.heap.size w w')
theorem Gr.lc_none {F : Int → Int → Option Int} {k : Nat} (h : F k k = none) : Gr.lc F (k + 1) = Gr.lc F k := by
  show (match F k k with | some own => if !(Gr.lc F k).2.2 || decide (own < (Gr.lc F k).2.1) then ((k : Int), own, true) else Gr.lc F k | none => Gr.lc F k) = _
  rw [h]
theorem Gr.lc_at {F : Int → Int → Option Int} {k : Nat} {own : Int} (h : F k k = some own) : Gr.lc F (k + 1) = if !(Gr.lc F k).2.2 || decide (own < (Gr.lc F k).2.1) then ((k : Int), own, true) else Gr.lc F k := by
  show (match F k k with | some own => if !(Gr.lc F k).2.2 || decide (own < (Gr.lc F k).2.1) then ((k : Int), own, true) else Gr.lc F k | none => Gr.lc F k) = _
  rw [h]
set_option maxHeartbeats 4000000 in
theorem leastOnCycle_any (N : Nat) (hN : N ≤ 16) (A : Option Addr) (l cap g c : Nat) (F : Int → Int → Option Int) (w : World) (hM : GMap w g c F) :
    Calls Try.prog 38 #[.agg #[.int .i64 (N : Int), .slice A l cap], .map (some g)] w (CycPost w (Gr.lc F N)) := by
  obtain ⟨W1, hW1⟩ : ∃ W1, W1 = w.alloc (.cells #[.int .i64 (N : Int), .slice A l cap] 27) := ⟨_, rfl⟩
  have M1 : Hid (GMap W1 g c F) := Lib.hid (by rw [hW1]; exact hM.grew ((Below.refl _ _).alloc (Nat.le_refl _) _))
  have P1 : Hid (W1.heap[w.heap.size]? = some (.cells #[.int .i64 (N : Int), .slice A l cap] 27 (0, 0))) := Lib.hid (by rw [hW1]; exact heap_alloc_new ..)
  have B1 : Hid (Below w.heap.size w W1) := Lib.hid (by rw [hW1]; exact (Below.refl _ _).alloc (Nat.le_refl _) _)
  clear hM
  go_enter Try.func38, Try.ntmps38
  go_wp2_with fail
  rw [← hW1]
  clear hW1
  obtain ⟨⟨x0, x1⟩, -⟩ := obG P1.out
  go_wp2_with fail
  go_loop [4, 5, 6, 12] (fun nv lv bv iv => ∃ (k : Nat) (a b : Int) (ok : Bool), k ≤ N ∧ iv = .int .i64 k ∧ nv = .int .i64 a ∧ lv = .int .i64 b ∧ bv = .bool ok ∧ Hid (Gr.lc F k = (a, b, ok))) (fun _ _ _ iv => N - (intOf iv).toNat)
  case atStart => exact ⟨0, 0, 0, false, Nat.zero_le _, rfl, rfl, rfl, rfl, Lib.hid rfl⟩
  case round =>
    obtain ⟨k, a, b, ok, hk, rfl, rfl, rfl, rfl, HC⟩ := hrel
    by_cases hlt : k < N
    · have hlt' : (k : Int) < (N : Int) := by omega
      have ik : inI (k : Int) := ⟨by omega, by omega⟩
      cases hf : F k k with
      | none =>
        have hl1 := M1.out.no ik ik hf
        have HC' : Hid (Gr.lc F (k + 1) = (a, b, ok)) := Lib.hid ((Gr.lc_none hf).trans HC.out)
        clear hf ik
        go_wp2
        go_round
        case rel => exact ⟨k + 1, a, b, ok, by omega, by go_num, rfl, rfl, rfl, HC'⟩
        case measure => simp [intOf]; omega
      | some own =>
        have hl1 := M1.out.val ik ik hf
        have e1 := Gr.lc_at hf
        rw [HC.out] at e1
        cases ok with
        | false =>
          have HC' : Hid (Gr.lc F (k + 1) = ((k : Int), own, true)) := Lib.hid (e1.trans (by simp))
          clear hf ik e1
          go_wp2
          go_round
          case rel => exact ⟨k + 1, k, own, true, by omega, by go_num, rfl, rfl, rfl, HC'⟩
          case measure => simp [intOf]; omega
        | true =>
          by_cases hless : own < b
          · have HC' : Hid (Gr.lc F (k + 1) = ((k : Int), own, true)) := Lib.hid (e1.trans (by simp [hless]))
            clear hf ik e1
            go_wp2
            go_round
            case rel => exact ⟨k + 1, k, own, true, by omega, by go_num, rfl, rfl, rfl, HC'⟩
            case measure => simp [intOf]; omega
          · have HC' : Hid (Gr.lc F (k + 1) = (a, b, true)) := Lib.hid (e1.trans (by rw [if_neg (by simp; omega)]))
            clear hf ik e1
            go_wp2
            go_round
            case rel => exact ⟨k + 1, a, b, true, by omega, by go_num, rfl, rfl, rfl, HC'⟩
            case measure => simp [intOf]; omega
    · obtain rfl : k = N := by omega
      go_wp2
      exact bodyPost_ret (v := .tuple #[.int .i64 a, .int .i64 b, .bool ok]) (by simp [results, Try.results38, go_sem]) rfl ⟨by rw [HC.out], B1⟩
/-- The first c below k that passes. -/
theorem Gr.find_next {p : Nat → Bool} {k n : Nat} (hk : k < n) (h : ∀ i, i < k → p i = false) (hp : p k = true) : (List.range n).find? p = some k := by
  rw [List.find?_range_eq_some]
  exact ⟨hp, by simpa using hk, fun j hj => by rw [h j hj]; rfl⟩
theorem Gr.find_no {p : Nat → Bool} {n : Nat} (h : ∀ i, i < n → p i = false) : (List.range n).find? p = none := by
  rw [List.find?_eq_none]
  intro x hx
  rw [h x (by simpa using hx)]
  decide
def IntG (w : World) (v : Int) (e : Ending) (w' : World) : Prop := e = .returned (.int .i64 v) ∧ Hid (Below w.heap.size w w')
set_option maxHeartbeats 4000000 in
theorem leastOnWay_any (N : Nat) (hN : N ≤ 16) (A : Option Addr) (es : Gr.EI) (l cap g c : Nat) (fr to r : Int) (hfr : inI fr) (hto : inI to) (w : World) (hM : GMap w g c (Gr.fin N es)) :
    Calls Try.prog 39 #[.agg #[.int .i64 (N : Int), .slice A l cap], .map (some g), .int .i64 fr, .int .i64 to, .int .i64 r] w (IntG w (Gr.wayV N es fr to r)) := by
  obtain ⟨W1, hW1⟩ : ∃ W1, W1 = w.alloc (.cells #[.int .i64 (N : Int), .slice A l cap] 27) := ⟨_, rfl⟩
  have M1 : Hid (GMap W1 g c (Gr.fin N es)) := Lib.hid (by rw [hW1]; exact hM.grew ((Below.refl _ _).alloc (Nat.le_refl _) _))
  have P1 : Hid (W1.heap[w.heap.size]? = some (.cells #[.int .i64 (N : Int), .slice A l cap] 27 (0, 0))) := Lib.hid (by rw [hW1]; exact heap_alloc_new ..)
  have B1 : Hid (Below w.heap.size w W1) := Lib.hid (by rw [hW1]; exact (Below.refl _ _).alloc (Nat.le_refl _) _)
  have HFR := Lib.hid hfr
  have HTO := Lib.hid hto
  clear hM hfr hto
  go_enter Try.func39, Try.ntmps39
  go_wp2_with fail
  rw [← hW1]
  clear hW1
  obtain ⟨⟨x0, x1⟩, -⟩ := obG P1.out
  go_wp2_with fail
  go_loop [14] (fun iv => ∃ k : Nat, k ≤ N ∧ iv = .int .i64 k ∧ Hid (∀ i, i < k → Gr.nextP N es fr to r i = false)) (fun iv => N - (intOf iv).toNat)
  case atStart => exact ⟨0, Nat.zero_le _, rfl, Lib.hid fun i hi => by omega⟩
  case round =>
    obtain ⟨k, hk, rfl, HC⟩ := hrel
    by_cases hlt : k < N
    · have hlt' : (k : Int) < (N : Int) := by omega
      have ik : inI (k : Int) := ⟨by omega, by omega⟩
      have hl1 := M1.out.look fr k HFR.out ik
      have hl2 := M1.out.look k to ik HTO.out
      have E : Hid (Gr.nextP N es fr to r k = (((Gr.fin N es fr k).getD 0 == 1) && ((Gr.fin N es k to).getD 0 == r))) := Lib.hid rfl
      generalize (Gr.fin N es fr k).getD 0 = u at *
      generalize (Gr.fin N es k to).getD 0 = v at *
      clear ik
      by_cases hu : u = 1
      · subst hu
        by_cases hv : v = r
        · subst hv
          have G0 : Hid (Gr.wayV N es fr to v = (k : Int)) := Lib.hid (by unfold Gr.wayV; rw [Int.toNat_natCast, Gr.find_next hlt HC.out (E.out.trans (by simp))])
          go_wp2
          go_ret
          exact ⟨ret_int G0.out.symm, B1⟩
        · have hd : (v == r) = false := by simpa using hv
          have HC' : Hid (∀ i, i < k + 1 → Gr.nextP N es fr to r i = false) := Lib.hid fun i hi => by
            rcases Nat.lt_or_ge i k with h | h
            · exact HC.out i h
            · obtain rfl : i = k := by omega
              rw [E.out, hd, Bool.and_false]
          clear hv
          go_wp2
          go_round
          case rel => exact ⟨k + 1, by omega, by go_num, HC'⟩
          case measure => simp [intOf]; omega
      · have hd : (u == 1) = false := by simpa using hu
        have HC' : Hid (∀ i, i < k + 1 → Gr.nextP N es fr to r i = false) := Lib.hid fun i hi => by
          rcases Nat.lt_or_ge i k with h | h
          · exact HC.out i h
          · obtain rfl : i = k := by omega
            rw [E.out, hd, Bool.false_and]
        clear hu
        go_wp2
        go_round
        case rel => exact ⟨k + 1, by omega, by go_num, HC'⟩
        case measure => simp [intOf]; omega
    · obtain rfl : k = N := by omega
      have G0 : Hid (Gr.wayV k es fr to r = to) := Lib.hid (by unfold Gr.wayV; rw [Int.toNat_natCast, Gr.find_no HC.out])
      go_wp2
      go_ret
      exact ⟨ret_int G0.out.symm, B1⟩
def Gr.midP (n : Int) (es : Gr.EI) (x y : Int) (c : Nat) : Bool := (Gr.fin n es x c).isSome && (Gr.fin n es c y).isSome
theorem Gr.keepI_eq (N : Nat) (es : Gr.EI) (e : Int × Int) : Gr.keepI N es e = !(List.range N).any (Gr.midP N es e.1 e.2) := by
  unfold Gr.keepI
  rw [Int.toNat_natCast]; rfl
set_option maxHeartbeats 4000000 in
theorem hasDetour_any (N : Nat) (hN : N ≤ 16) (A : Option Addr) (es : Gr.EI) (l cap g c : Nat) (x y : Int) (hx : inI x) (hy : inI y) (w : World) (hM : GMap w g c (Gr.fin N es)) :
    Calls Try.prog 42 #[.agg #[.int .i64 (N : Int), .slice A l cap], .map (some g), .agg #[.int .i64 x, .int .i64 y]] w (BoolG w (!Gr.keepI N es (x, y))) := by
  obtain ⟨W1, hW1⟩ : ∃ W1, W1 = (w.alloc (.cells #[.int .i64 (N : Int), .slice A l cap] 27)).alloc (.cells #[.int .i64 x, .int .i64 y] 24) := ⟨_, rfl⟩
  have M1 : Hid (GMap W1 g c (Gr.fin N es)) := Lib.hid (by rw [hW1]; exact hM.grew (((Below.refl _ _).alloc (Nat.le_refl _) _).alloc (by simp) _))
  have P1 : Hid (W1.heap[w.heap.size]? = some (.cells #[.int .i64 (N : Int), .slice A l cap] 27 (0, 0))) := Lib.hid (by rw [hW1, Below.heap_alloc _ _ _ (by simp)]; exact heap_alloc_new ..)
  have E1 : Hid (W1.heap[w.heap.size + 1]? = some (.cells #[.int .i64 x, .int .i64 y] 24 (0, 0))) := Lib.hid (by rw [hW1]; have := heap_alloc_new (w.alloc (.cells #[.int .i64 (N : Int), .slice A l cap] 27)) (.cells #[.int .i64 x, .int .i64 y] 24); rw [World.size_alloc] at this; exact this)
  have B1 : Hid (Below w.heap.size w W1) := Lib.hid (by rw [hW1]; exact ((Below.refl _ _).alloc (Nat.le_refl _) _).alloc (by simp) _)
  have HX := Lib.hid hx
  have HY := Lib.hid hy
  have KE := Lib.hid (Gr.keepI_eq N es (x, y))
  clear hM hx hy
  go_enter Try.func42, Try.ntmps42
  go_wp2_with fail
  rw [← hW1]
  clear hW1
  obtain ⟨⟨x0, x1⟩, -⟩ := obG P1.out
  obtain ⟨⟨y0, y1⟩, -⟩ := obG E1.out
  go_wp2_with fail
  go_loop [14] (fun iv => ∃ k : Nat, k ≤ N ∧ iv = .int .i64 k ∧ Hid (∀ i, i < k → Gr.midP N es x y i = false)) (fun iv => N - (intOf iv).toNat)
  case atStart => exact ⟨0, Nat.zero_le _, rfl, Lib.hid fun i hi => by omega⟩
  case round =>
    obtain ⟨k, hk, rfl, HC⟩ := hrel
    by_cases hlt : k < N
    · have hlt' : (k : Int) < (N : Int) := by omega
      have ik : inI (k : Int) := ⟨by omega, by omega⟩
      have hl1 := M1.out.look2 x k HX.out ik
      have hl2 := M1.out.look2 k y ik HY.out
      have E : Hid (Gr.midP N es x y k = ((Gr.fin N es x k).isSome && (Gr.fin N es k y).isSome)) := Lib.hid rfl
      generalize (Gr.fin N es x k).getD 0 = u at *
      generalize (Gr.fin N es k y).getD 0 = v at *
      generalize (Gr.fin N es x k).isSome = a at *
      generalize (Gr.fin N es k y).isSome = b at *
      clear ik
      cases a with
      | true =>
        cases b with
        | true =>
          have G0 : Hid (Gr.keepI N es (x, y) = false) := Lib.hid (by
            rw [KE.out]
            have : (List.range N).any (Gr.midP N es x y) = true := List.any_eq_true.2 ⟨k, by simpa using hlt, E.out⟩
            rw [this]; rfl)
          go_wp2
          go_ret
          exact ⟨ret_bool (by rw [G0.out]; rfl), B1⟩
        | false =>
          have HC' : Hid (∀ i, i < k + 1 → Gr.midP N es x y i = false) := Lib.hid fun i hi => by
            rcases Nat.lt_or_ge i k with h | h
            · exact HC.out i h
            · obtain rfl : i = k := by omega
              exact E.out
          go_wp2
          go_round
          case rel => exact ⟨k + 1, by omega, by go_num, HC'⟩
          case measure => simp [intOf]; omega
      | false =>
        have HC' : Hid (∀ i, i < k + 1 → Gr.midP N es x y i = false) := Lib.hid fun i hi => by
          rcases Nat.lt_or_ge i k with h | h
          · exact HC.out i h
          · obtain rfl : i = k := by omega
            exact E.out.trans (by cases b <;> rfl)
        go_wp2
        go_round
        case rel => exact ⟨k + 1, by omega, by go_num, HC'⟩
        case measure => simp [intOf]; omega
    · obtain rfl : k = N := by omega
      have G0 : Hid (Gr.keepI k es (x, y) = true) := Lib.hid (by
        rw [KE.out]
        have : (List.range k).any (Gr.midP k es x y) = false := by
          rw [List.any_eq_false]
          intro i hi
          rw [HC.out i (by simpa using hi)]; decide
        rw [this]; rfl)
      go_wp2
      go_ret
      exact ⟨ret_bool (by rw [G0.out]; rfl), B1⟩
end Go.Proofs.Ytgeefkfolejbnaa
