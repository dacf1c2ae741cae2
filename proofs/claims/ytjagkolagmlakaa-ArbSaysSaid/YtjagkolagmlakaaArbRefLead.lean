/-
  The reference's Lead; a state as the document's own.
-/
import Derived.Test.YtjagkolagmlakaaArbWalks
namespace Go.Proofs.Ytjagkolagmlakaa
open Go.RowKit
set_option maxHeartbeats 2000000 in
theorem rlead_any (e h : Int) (so : Bool) (f who : Int) (w : World) :
    Calls Try.prog 16 #[.agg #[.int .i64 e, .int .i64 h, .bool so, .int .i64 f], .int .i64 who] w (StPost w (Ar.leadV ⟨e, h, so, f⟩ who) (Ar.okL ⟨e, h, so, f⟩ who)) := by
  unfold Ar.leadV
  by_cases h1 : Ar.node who = true
  · have hn : who = 0 ∨ who = 1 := by simpa [Ar.node] using h1
    by_cases h5 : (so && !(who == h)) = true
    · rw [show Ar.okL ⟨e, h, so, f⟩ who = false by simp [Ar.okL, h5]]
      simp only [Bool.and_eq_true, Bool.not_eq_true', beq_eq_false_iff_ne] at h5
      obtain ⟨rfl, h5⟩ := h5
      clear h1
      rcases hn with rfl | rfl <;>
      · go_enter Try.func16, Try.ntmps16
        go_wp2
        exact bodyPost_ret (v := .tuple #[.agg #[.int .i64 0, .int .i64 0, .bool false, .int .i64 0], .bool false]) (by simp [results, Try.results16, go_sem]) rfl ⟨rfl, Lib.hid (two_below _ _ _)⟩
    · rw [show Ar.okL ⟨e, h, so, f⟩ who = (decide (0 ≤ e) && decide (e < 1048575)) by simp [Ar.okL, h1, h5]]
      have h6 : so = false ∨ (so = true ∧ who = h) := by
        cases so
        · exact .inl rfl
        · exact .inr ⟨rfl, by simpa using h5⟩
      clear h5
      clear h1
      by_cases h0 : 0 ≤ e
      · by_cases h2 : e < 1048575
        · rw [decide_eq_true h0, decide_eq_true h2]
          rcases h6 with rfl | ⟨rfl, rfl⟩
          · rcases hn with rfl | rfl
            · go_enter Try.func16, Try.ntmps16
              go_wp2
              exact bodyPost_ret (v := .tuple #[.agg #[.int .i64 (e + 1), .int .i64 0, .bool false, .int .i64 f], .bool true]) (by simp [results, Try.results16, go_sem]) rfl ⟨rfl, Lib.hid (two_below _ _ _)⟩
            · go_enter Try.func16, Try.ntmps16
              go_wp2
              exact bodyPost_ret (v := .tuple #[.agg #[.int .i64 (e + 1), .int .i64 1, .bool false, .int .i64 f], .bool true]) (by simp [results, Try.results16, go_sem]) rfl ⟨rfl, Lib.hid (two_below _ _ _)⟩
          · rcases hn with rfl | rfl
            · go_enter Try.func16, Try.ntmps16
              go_wp2
              exact bodyPost_ret (v := .tuple #[.agg #[.int .i64 (e + 1), .int .i64 0, .bool true, .int .i64 f], .bool true]) (by simp [results, Try.results16, go_sem]) rfl ⟨rfl, Lib.hid (two_below _ _ _)⟩
            · go_enter Try.func16, Try.ntmps16
              go_wp2
              exact bodyPost_ret (v := .tuple #[.agg #[.int .i64 (e + 1), .int .i64 1, .bool true, .int .i64 f], .bool true]) (by simp [results, Try.results16, go_sem]) rfl ⟨rfl, Lib.hid (two_below _ _ _)⟩
        · rw [decide_eq_true h0, decide_eq_false h2]
          rcases h6 with rfl | ⟨rfl, rfl⟩ <;> rcases hn with rfl | rfl <;>
          · go_enter Try.func16, Try.ntmps16
            go_wp2
            exact bodyPost_ret (v := .tuple #[.agg #[.int .i64 0, .int .i64 0, .bool false, .int .i64 0], .bool false]) (by simp [results, Try.results16, go_sem]) rfl ⟨rfl, Lib.hid (two_below _ _ _)⟩
      · rw [decide_eq_false h0, Bool.false_and]
        rcases h6 with rfl | ⟨rfl, rfl⟩ <;> rcases hn with rfl | rfl <;>
        · go_enter Try.func16, Try.ntmps16
          go_wp2
          exact bodyPost_ret (v := .tuple #[.agg #[.int .i64 0, .int .i64 0, .bool false, .int .i64 0], .bool false]) (by simp [results, Try.results16, go_sem]) rfl ⟨rfl, Lib.hid (two_below _ _ _)⟩
  · have h1' : Ar.node who = false := by simpa using h1
    rw [show Ar.okL ⟨e, h, so, f⟩ who = false by simp [Ar.okL, h1']]
    have h0 : ¬ who = 0 ∧ ¬ who = 1 := by simpa [Ar.node] using h1'
    obtain ⟨h0a, h0b⟩ := h0
    clear h1 h1'
    go_enter Try.func16, Try.ntmps16
    go_wp2
    exact bodyPost_ret (v := .tuple #[.agg #[.int .i64 0, .int .i64 0, .bool false, .int .i64 0], .bool false]) (by simp [results, Try.results16, go_sem]) rfl ⟨rfl, Lib.hid (two_below _ _ _)⟩
set_option maxHeartbeats 400000 in
theorem own_any (e h : Int) (so : Bool) (f : Int) (w : World) : Calls Try.prog 17 #[.agg #[.int .i64 e, .int .i64 h, .bool so, .int .i64 f]] w (OnePost w ⟨e, h, so, f⟩) := by
  go_enter Try.func17, Try.ntmps17
  go_wp2
  exact bodyPost_ret (v := .agg #[.int .i64 e, .int .i64 h, .bool so, .int .i64 f]) (by simp [results, Try.results17, go_sem]) rfl ⟨rfl, Lib.hid (two_below _ _ _)⟩
end Go.Proofs.Ytjagkolagmlakaa
