/-
  What Alone and Both make of any state.
-/
import Derived.Test.YtjagkolagmlakaaArbWalks
namespace Go.Proofs.Ytjagkolagmlakaa
open Go.RowKit
set_option maxHeartbeats 2000000 in
theorem turn_any (e h : Int) (so : Bool) (f : Int) (b : Bool) (who ep fl : Int) (w : World) :
    Calls Try.prog 21 #[.agg #[.int .i64 e, .int .i64 h, .bool so, .int .i64 f], .bool b, .int .i64 who, .int .i64 ep, .int .i64 fl] w (StPost w (Ar.turnV ⟨e, h, so, f⟩ b who ep fl) (Ar.okT ⟨e, h, so, f⟩ b who ep fl)) := by
  have N := node_any who
  unfold Ar.turnV
  by_cases h1 : Ar.node who = true
  · rw [h1] at N
    by_cases h2 : who = h
    · subst h2
      by_cases h3 : ep = e
      · subst h3
        by_cases h4 : so = b
        · subst h4
          rw [show Ar.okT ⟨ep, who, so, f⟩ so who ep fl = false by simp [Ar.okT]]
          cases so <;>
          · go_enter Try.func21, Try.ntmps21
            go_wp2_with fail
            (with_reducible refine (N _).mono ?_); rintro e' w' ⟨rfl, rfl⟩
            go_wp2
            exact bodyPost_ret (v := .tuple #[.agg #[.int .i64 0, .int .i64 0, .bool false, .int .i64 0], .bool false]) (by simp [results, Try.results21, go_sem]) rfl ⟨rfl, Lib.hid (two_below _ _ _)⟩
        · by_cases h5 : f ≤ fl
          · rw [show Ar.okT ⟨ep, who, so, f⟩ b who ep fl = true by simp [Ar.okT, h1, h4, h5]]
            have hb : so = !b := by cases so <;> cases b <;> simp at h4 ⊢
            subst hb
            cases b
            · go_enter Try.func21, Try.ntmps21
              go_wp2_with fail
              (with_reducible refine (N _).mono ?_); rintro e' w' ⟨rfl, rfl⟩
              go_wp2
              exact bodyPost_ret (v := .tuple #[.agg #[.int .i64 ep, .int .i64 who, .bool false, .int .i64 fl], .bool true]) (by simp [results, Try.results21, go_sem]) rfl ⟨rfl, Lib.hid (two_below _ _ _)⟩
            · go_enter Try.func21, Try.ntmps21
              go_wp2_with fail
              (with_reducible refine (N _).mono ?_); rintro e' w' ⟨rfl, rfl⟩
              go_wp2
              exact bodyPost_ret (v := .tuple #[.agg #[.int .i64 ep, .int .i64 who, .bool true, .int .i64 fl], .bool true]) (by simp [results, Try.results21, go_sem]) rfl ⟨rfl, Lib.hid (two_below _ _ _)⟩
          · rw [show Ar.okT ⟨ep, who, so, f⟩ b who ep fl = false by simp [Ar.okT, h5]]
            have hb : so = !b := by cases so <;> cases b <;> simp at h4 ⊢
            subst hb
            cases b <;>
            · go_enter Try.func21, Try.ntmps21
              go_wp2_with fail
              (with_reducible refine (N _).mono ?_); rintro e' w' ⟨rfl, rfl⟩
              go_wp2
              exact bodyPost_ret (v := .tuple #[.agg #[.int .i64 0, .int .i64 0, .bool false, .int .i64 0], .bool false]) (by simp [results, Try.results21, go_sem]) rfl ⟨rfl, Lib.hid (two_below _ _ _)⟩
      · rw [show Ar.okT ⟨e, who, so, f⟩ b who ep fl = false by simp [Ar.okT, h3]]
        go_enter Try.func21, Try.ntmps21
        go_wp2_with fail
        (with_reducible refine (N _).mono ?_); rintro e' w' ⟨rfl, rfl⟩
        go_wp2
        exact bodyPost_ret (v := .tuple #[.agg #[.int .i64 0, .int .i64 0, .bool false, .int .i64 0], .bool false]) (by simp [results, Try.results21, go_sem]) rfl ⟨rfl, Lib.hid (two_below _ _ _)⟩
    · rw [show Ar.okT ⟨e, h, so, f⟩ b who ep fl = false by simp [Ar.okT, h2]]
      go_enter Try.func21, Try.ntmps21
      go_wp2_with fail
      (with_reducible refine (N _).mono ?_); rintro e' w' ⟨rfl, rfl⟩
      go_wp2
      exact bodyPost_ret (v := .tuple #[.agg #[.int .i64 0, .int .i64 0, .bool false, .int .i64 0], .bool false]) (by simp [results, Try.results21, go_sem]) rfl ⟨rfl, Lib.hid (two_below _ _ _)⟩
  · have h1' : Ar.node who = false := by simpa using h1
    rw [show Ar.okT ⟨e, h, so, f⟩ b who ep fl = false by simp [Ar.okT, h1']]
    rw [h1'] at N
    go_enter Try.func21, Try.ntmps21
    go_wp2_with fail
    (with_reducible refine (N _).mono ?_); rintro e' w' ⟨rfl, rfl⟩
    go_wp2
    exact bodyPost_ret (v := .tuple #[.agg #[.int .i64 0, .int .i64 0, .bool false, .int .i64 0], .bool false]) (by simp [results, Try.results21, go_sem]) rfl ⟨rfl, Lib.hid (two_below _ _ _)⟩
set_option maxHeartbeats 1000000 in
theorem alone_any (e h : Int) (so : Bool) (f who ep fl : Int) (w : World) :
    Calls Try.prog 13 #[.agg #[.int .i64 e, .int .i64 h, .bool so, .int .i64 f], .int .i64 who, .int .i64 ep, .int .i64 fl] w (StPost w (Ar.turnV ⟨e, h, so, f⟩ true who ep fl) (Ar.okT ⟨e, h, so, f⟩ true who ep fl)) := by
  have T := turn_any e h so f true who ep fl
  generalize Ar.turnV ⟨e, h, so, f⟩ true who ep fl = r at *
  generalize Ar.okT ⟨e, h, so, f⟩ true who ep fl = k at *
  obtain ⟨re, rh, rs, rf⟩ := r
  go_enter Try.func13, Try.ntmps13
  go_wp2_with fail
  (with_reducible refine (T _).mono ?_); rintro e' w1 ⟨rfl, b1⟩
  have O1 : Hid (w1.heap[w.heap.size + 1]? = some (.cells #[.int .i64 0, .int .i64 0, .bool false, .int .i64 0] 26 (0, 0))) := Lib.hid ((b1.out.block _ (by simp)).trans (new1 _ _ _))
  have B1 : Hid (Below w.heap.size w w1) := Lib.hid ((two_below _ _ _).trans (b1.out.mono (by simp; omega)))
  obtain ⟨⟨c0, c1, c2, c3⟩, f0, f1, f2, f3⟩ := obj4 O1.out
  have O2 := S4.at_ O1.out (.int .i64 re) (.int .i64 rh) (.bool rs) (.int .i64 rf)
  have B2 : Hid (Below w.heap.size w (S4 w1 (w.heap.size + 1) (.int .i64 re) (.int .i64 rh) (.bool rs) (.int .i64 rf))) := Lib.hid (S4.below B1.out (by omega) _ _ _ _)
  obtain ⟨⟨d0, d1, d2, d3⟩, -⟩ := obj4 O2
  clear O2
  simp only [Ar.S.val]
  go_wp2
  exact bodyPost_ret (v := .tuple #[.agg #[.int .i64 re, .int .i64 rh, .bool rs, .int .i64 rf], .bool k]) (by simp [S4] at d0 d1 d2 d3; simp [results, Try.results13, go_sem, d0, d1, d2, d3]) rfl ⟨rfl, B2⟩
set_option maxHeartbeats 1000000 in
theorem both_any (e h : Int) (so : Bool) (f who ep fl : Int) (w : World) :
    Calls Try.prog 14 #[.agg #[.int .i64 e, .int .i64 h, .bool so, .int .i64 f], .int .i64 who, .int .i64 ep, .int .i64 fl] w (StPost w (Ar.turnV ⟨e, h, so, f⟩ false who ep fl) (Ar.okT ⟨e, h, so, f⟩ false who ep fl)) := by
  have T := turn_any e h so f false who ep fl
  generalize Ar.turnV ⟨e, h, so, f⟩ false who ep fl = r at *
  generalize Ar.okT ⟨e, h, so, f⟩ false who ep fl = k at *
  obtain ⟨re, rh, rs, rf⟩ := r
  go_enter Try.func14, Try.ntmps14
  go_wp2_with fail
  (with_reducible refine (T _).mono ?_); rintro e' w1 ⟨rfl, b1⟩
  have O1 : Hid (w1.heap[w.heap.size + 1]? = some (.cells #[.int .i64 0, .int .i64 0, .bool false, .int .i64 0] 26 (0, 0))) := Lib.hid ((b1.out.block _ (by simp)).trans (new1 _ _ _))
  have B1 : Hid (Below w.heap.size w w1) := Lib.hid ((two_below _ _ _).trans (b1.out.mono (by simp; omega)))
  obtain ⟨⟨c0, c1, c2, c3⟩, f0, f1, f2, f3⟩ := obj4 O1.out
  have O2 := S4.at_ O1.out (.int .i64 re) (.int .i64 rh) (.bool rs) (.int .i64 rf)
  have B2 : Hid (Below w.heap.size w (S4 w1 (w.heap.size + 1) (.int .i64 re) (.int .i64 rh) (.bool rs) (.int .i64 rf))) := Lib.hid (S4.below B1.out (by omega) _ _ _ _)
  obtain ⟨⟨d0, d1, d2, d3⟩, -⟩ := obj4 O2
  clear O2
  simp only [Ar.S.val]
  go_wp2
  exact bodyPost_ret (v := .tuple #[.agg #[.int .i64 re, .int .i64 rh, .bool rs, .int .i64 rf], .bool k]) (by simp [S4] at d0 d1 d2 d3; simp [results, Try.results14, go_sem, d0, d1, d2, d3]) rfl ⟨rfl, B2⟩
end Go.Proofs.Ytjagkolagmlakaa
