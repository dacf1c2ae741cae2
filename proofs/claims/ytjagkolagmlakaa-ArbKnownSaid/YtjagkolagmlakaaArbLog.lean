/-
  A register's Log: a copy of its states.
-/
import Derived.Test.YtjagkolagmlakaaArbMem
namespace Go.Proofs.Ytjagkolagmlakaa
open Go.RowKit
/-- What Log leaves: a row of the call's own. -/
def LogPost (w : World) (L : List Ar.S) (e : Ending) (w' : World) : Prop := ∃ A cap, e = .returned (.slice A L.length cap) ∧ Hid (OwnK w' w.heap.size 26 4 A cap (L.map Ar.S.cells)) ∧ Hid (Below w.heap.size w w')
set_option maxHeartbeats 1000000 in
theorem clone_some (r cap : Nat) (L : List Ar.S) (hl : L.length ≤ 1000000000) (w : World) (h : OwnK w 0 26 4 (some ⟨r, 0, none⟩) cap (L.map Ar.S.cells)) :
    Calls Try.prog 22 #[.slice (some ⟨r, 0, none⟩) L.length cap] w (LogPost w L) := by
  have hnil : (binOp .eql 32 (.slice (some ⟨r, 0, none⟩) L.length cap) (.slice none 0 0)).run Try.prog w = .ok (.bool false) w := Lib.run_eql_slice_nil w 32 26 _ _ _ _ _ Try.underlying32
  have HL := Lib.hid hl
  have HC : Hid (∀ j u, (L.map Ar.S.cells).flatten[j]? = some u → (w.alloc (.cells #[] 26)).cell? ⟨r, 0 + j, none⟩ = some u) := Lib.hid fun j u hu => by
    rw [Nat.zero_add]
    have hj : j < L.length * 4 := by
      have h1 := (List.getElem?_eq_some_iff.1 hu).1
      rw [(cells_wide L).len, List.length_map] at h1
      exact h1
    have h2 := World.ownsRow.cellAt h.1 j (by rw [List.length_map]; exact hj)
    rw [hu] at h2
    rw [← h2]
    exact ((Below.refl w.heap.size w).alloc (Nat.le_refl _) _).cell (p := ⟨r, j, none⟩) h.lt.2
  clear h hl
  go_enter Try.func22, Try.ntmps22
  go_wp2_with (at_builtin; refine wp_appK (vs := []) (us := L.map Ar.S.cells) rfl (.tmp 5) (.tmp 6) rfl Try.underlying32 st_info rfl (by decide) (by decide) rfl rfl (OwnK.lit [] (Wide.nil 4) (by decide) _ rfl) (by simp) rfl (by simp) (cells_wide L) HC.out (by have := HL.out; simp; omega) ?_; intro A2 cap2 w2 o2 g2 wh2; rw [List.nil_append] at o2; have O2 := Lib.hid o2; have G2 := Lib.hid g2; clear o2 g2 wh2)
  go_ret
  refine ⟨A2, cap2, by simp, O2.out, Lib.hid (((Below.refl _ _).alloc (Nat.le_refl _) _).grown G2.out (by simp) fun k hk => ?_)⟩
  simp [Value.ownBlock] at hk
  omega
set_option maxHeartbeats 1000000 in
theorem log_any (g : Nat) (O : Nat → Prop) (L : List Ar.S) (hl : L.length ≤ 1000000000) (w : World) (h : AR w g O L) :
    Calls Try.prog 15 #[.pointer (some ⟨g, 0, none⟩)] w (LogPost w L) := by
  obtain ⟨A, cap, h1, h2, h3⟩ := h.row
  have hp := h.some_
  obtain ⟨r, rfl, -, hr⟩ := h2.shape (by simpa using hp)
  have C := Lib.hid (clone_some r cap L hl w h2)
  have o0 : w.cell? ⟨g, 0, none⟩ = some (.slice (some ⟨r, 0, none⟩) L.length cap) := by simp [World.cell?, h1]
  clear h h1 h2 h3 hp hr hl
  go_enter Try.func15, Try.ntmps15
  go_wp2_with fail
  (with_reducible refine C.out.mono ?_); rintro e w1 ⟨A2, c2, rfl, o2, b2⟩
  go_wp2
  go_ret
  exact ⟨A2, c2, rfl, o2, b2⟩
end Go.Proofs.Ytjagkolagmlakaa
