/-
  Package graph: shorten: the ways through one middle node, from one node.
-/
import Derived.Test.YtgeefkfolejbnaaGrGood
namespace Go.Proofs.Ytgeefkfolejbnaa
open Go.RowKit
def ShortenPost (w : World) (m c : Nat) (F : Int → Int → Option Int) (e : Ending) (w' : World) : Prop := e = .returned (.tuple #[]) ∧ Hid (GMap w' m c F) ∧ Hid (But w.heap.size m w w')
theorem But.of_turned {w w' : World} {m B : Nat} (h : w.mapTurned w' m) : But B m w w' := turned_but h
theorem GMap.val {w : World} {m c : Nat} {F : Int → Int → Option Int} (h : GMap w m c F) {a b : Int} (ha : inI a) (hb : inI b) {k : Int} (hk : F a b = some k) :
    (Instr.lookup 66 (.map (some m)) (.agg #[.int .i64 a, .int .i64 b]) true).run Try.prog w = .ok (.tuple #[.int .i64 k, .bool true]) w := by
  have := h.look2 a b ha hb
  rw [hk] at this
  exact this
theorem GMap.no {w : World} {m c : Nat} {F : Int → Int → Option Int} (h : GMap w m c F) {a b : Int} (ha : inI a) (hb : inI b) (hk : F a b = none) :
    (Instr.lookup 66 (.map (some m)) (.agg #[.int .i64 a, .int .i64 b]) true).run Try.prog w = .ok (.tuple #[.int .i64 0, .bool false]) w := by
  have := h.look2 a b ha hb
  rw [hk] at this
  exact this
set_option maxHeartbeats 4000000 in
theorem shorten_any (N : Nat) (hN : N ≤ 16) (A : Option Addr) (l cap : Nat) (m c : Nat) (hc : c ≤ 1000000) (F : Int → Int → Option Int) (fr mid : Nat) (hfr : fr < N) (hmid : mid < N) (th P : Int) (h1 : 1 ≤ th) (h2 : th ≤ P) (hP : P ≤ 1000000) (hF : Gr.Rng N P F) (w : World) (hM : GMap w m c F) :
    Calls Try.prog 44 #[.agg #[.int .i64 (N : Int), .slice A l cap], .map (some m), .int .i64 (fr : Int), .int .i64 (mid : Int), .int .i64 th] w (ShortenPost w m (c + N) (Gr.rowV F fr mid th N)) := by
  have HF := Lib.hid hF
  have HML := Lib.hid hM.lt
  obtain ⟨W1, hW1⟩ : ∃ W1, W1 = w.alloc (.cells #[.int .i64 (N : Int), .slice A l cap] 27) := ⟨_, rfl⟩
  have M1 : Hid (GMap W1 m c F) := Lib.hid (by rw [hW1]; exact hM.grew ((Below.refl _ _).alloc (Nat.le_refl _) _))
  have P1 : Hid (W1.heap[w.heap.size]? = some (.cells #[.int .i64 (N : Int), .slice A l cap] 27 (0, 0))) := Lib.hid (by rw [hW1]; exact heap_alloc_new ..)
  have B1 : Hid (But w.heap.size m w W1) := Lib.hid (by rw [hW1]; exact But.of ((Below.refl _ _).alloc (Nat.le_refl _) _))
  clear hF hM
  go_enter Try.func44, Try.ntmps44
  go_wp2_with fail
  rw [← hW1]
  clear hW1
  obtain ⟨⟨x0, x1⟩, -⟩ := obG P1.out
  go_wp2_with fail
  go_loopw [17] (fun iv wr => ∃ t : Nat, t ≤ N ∧ iv = .int .i64 t ∧ Hid (GMap wr m (c + t) (Gr.rowV F fr mid th t)) ∧ Hid (But w.heap.size m w wr)) (fun iv _ => N - (intOf iv).toNat)
  case atStart => exact ⟨0, Nat.zero_le _, rfl, Lib.hid (M1.out.congr fun a b => Gr.row_zero F fr mid th a b), B1⟩
  case round =>
    obtain ⟨t, ht, rfl, HM, HB⟩ := hrel
    by_cases hlt : t < N
    · have hlt' : (t : Int) < (N : Int) := by omega
      have e1 := Gr.row_at F (fr : Int) mid th t mid
      have e2 := Gr.row_at F (fr : Int) mid th t fr
      have im : inI (mid : Int) := ⟨by omega, by omega⟩
      have ir : inI (fr : Int) := ⟨by omega, by omega⟩
      have it : inI (t : Int) := ⟨by omega, by omega⟩
      have h0 : (0 : Int) ≤ t := by omega
      have KEEP : Hid (Gr.best (F fr t) (some th) (F mid t) = F fr t → GMap wr m (c + (t + 1)) (Gr.rowV F fr mid th ((t + 1 : Nat) : Int))) := Lib.hid fun hk => (HM.out.mono (by omega)).congr fun a b => by
        rw [show ((t + 1 : Nat) : Int) = (t : Int) + 1 by omega]
        exact Gr.row_next_keep hk a b h0
      cases hq : F mid t with
      | none =>
        have hl1 := HM.out.no im it (e1.trans hq)
        have KK := Lib.hid (KEEP.out (by rw [hq]; exact Gr.best_none_r _ _))
        clear KEEP e1 e2 im ir it hq
        go_wp2
        go_roundw
        case rel => exact ⟨t + 1, by omega, by go_num, KK, HB⟩
        case measure => simp [intOf]; omega
      | some q =>
        have hl1 := HM.out.val im it (e1.trans hq)
        have qr := HF.out.rng _ _ _ hq
        have q1 : 1 ≤ q := qr.2.2.2.2.1
        have q2 : q ≤ P := qr.2.2.2.2.2
        clear qr
        cases hr : F fr t with
        | none =>
          have hl2 := HM.out.no ir it (e2.trans hr)
          obtain ⟨w5, hup, m5, t5⟩ := HM.out.store (by omega) (fr : Int) t (th + q) ir it ⟨by omega, by omega⟩
          have M5 : Hid (GMap w5 m (c + (t + 1)) (Gr.rowV F fr mid th ((t + 1 : Nat) : Int))) := Lib.hid ((m5.mono (by omega)).congr fun a b => by
            rw [show ((t + 1 : Nat) : Int) = (t : Int) + 1 by omega]
            exact Gr.row_next_put (by rw [hq, hr]; rfl) a b h0)
          have T5 : Hid (But w.heap.size m w w5) := Lib.hid (HB.out.trans (turned_but t5))
          clear KEEP e1 e2 im ir it hq hr m5 t5
          go_wp2
          go_roundw
          case rel => exact ⟨t + 1, by omega, by go_num, M5, T5⟩
          case measure => simp [intOf]; omega
        | some r =>
          have hl2 := HM.out.val ir it (e2.trans hr)
          by_cases hless : th + q < r
          · obtain ⟨w5, hup, m5, t5⟩ := HM.out.store (by omega) (fr : Int) t (th + q) ir it ⟨by omega, by omega⟩
            have M5 : Hid (GMap w5 m (c + (t + 1)) (Gr.rowV F fr mid th ((t + 1 : Nat) : Int))) := Lib.hid ((m5.mono (by omega)).congr fun a b => by
              rw [show ((t + 1 : Nat) : Int) = (t : Int) + 1 by omega]
              exact Gr.row_next_put (by rw [hq, hr]; show (if th + q < r then some (th + q) else some r) = _; rw [if_pos hless]) a b h0)
            have T5 : Hid (But w.heap.size m w w5) := Lib.hid (HB.out.trans (turned_but t5))
            clear KEEP e1 e2 im ir it hq hr m5 t5
            go_wp2
            go_roundw
            case rel => exact ⟨t + 1, by omega, by go_num, M5, T5⟩
            case measure => simp [intOf]; omega
          · have KK := Lib.hid (KEEP.out (by rw [hq, hr]; show (if th + q < r then some (th + q) else some r) = _; rw [if_neg hless]))
            clear KEEP e1 e2 im ir it hq hr
            go_wp2
            go_roundw
            case rel => exact ⟨t + 1, by omega, by go_num, KK, HB⟩
            case measure => simp [intOf]; omega
    · obtain rfl : t = N := by omega
      go_wp2
      refine bodyPost_ret (results_none rfl _ _ _) rfl ?_
      exact ⟨rfl, HM, HB⟩
end Go.Proofs.Ytgeefkfolejbnaa
