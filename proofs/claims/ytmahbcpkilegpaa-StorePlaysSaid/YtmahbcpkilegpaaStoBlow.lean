/-
  The fuse: blows at every store.
-/
import Derived.Test.YtmahbcpkilegpaaStoCrash
namespace Go.Proofs.Ytmahbcpkilegpaa
open Go.RowKit St

def blownS (s : S) : S := if s.fuse = 1 then crash { s with fuse := 0 } s.keep else { s with fuse := s.fuse - 1 }
theorem OwnN.capmax {w : World} {base : Nat} {A : Option Addr} {cap : Nat} {zs : List Int} (h : OwnN w base A cap zs) : zs.length ≤ cap := by
  rcases h.2 with ⟨e, e0⟩ | ⟨g, c', cur, e, _, _, hle, hm, _⟩
  · injection e with e1 e2 e3; omega
  · injection e with e1 e2 e3; omega
theorem fuse_set {w : World} {T : Nat} {own : Nat → Prop} {s : S} {Ad : List UInt8 → Option Addr × Nat} {m : Nat} {ka : Option Addr} {kc : Nat} (p : PS w T own s Ad m ka kc) (n : Nat) (hn : n ≤ 9223372036854775807) (v : Int) (hv : v = (n : Int)) :
    PS (w.setCell ⟨T, 3, none⟩ (.int .i64 v)) T own { s with fuse := n } Ad m ka kc ∧ Step own own w (w.setCell ⟨T, 3, none⟩ (.int .i64 v)) := by
  subst hv
  refine ⟨p.flags (own2 := own) (off := s.off) (fuse := n) (keep := s.keep) (ka2 := ka) (kc2 := kc) (by simp [World.setCell]) (fun b _ hb => Below.heap_setCell _ _ _ _ hb) (obj_set (o := 3) p.obj _) ?_ (fun _ h => h) (fun b hb => by have := p.lt b hb; simp [World.setCell]; exact this) p.ownK hn p.inv.keepl, Only.set own 3 w _ p.ownT, fun _ h => .inl h⟩
  exact p.keep.keep fun a ha => Below.heap_setCell _ _ _ _ (p.keep_ne ha).1
theorem blows_zero (T : Nat) (own : Nat → Prop) (s : S) (w : World) (h : PState w T own s) (hf : s.fuse = 0) :
    Calls Try.prog 37 #[.pointer (some ⟨T, 0, none⟩)] w fun e w' => e = .returned (.bool false) ∧ Leaves w T own { s with fuse := s.fuse - 1 } w' := by
  have e : ({ s with fuse := s.fuse - 1 } : S) = s := by cases s; simp at hf ⊢; omega
  rw [e]
  have H := Lib.hid h
  obtain ⟨Ad, m, ka, kc, p⟩ := h
  obtain ⟨⟨_, _, _, c3, _⟩, _⟩ := obj5 p.obj
  rw [hf] at c3
  have c3 : w.cell? ⟨T, 3, none⟩ = some (.int .i64 0) := c3
  clear p hf e
  go_enter Try.func37, Try.ntmps37
  go_wp2
  go_ret
  exact ⟨rfl, Leaves.same H.out (Below.refl _ _)⟩
set_option maxHeartbeats 1000000 in
theorem blows_more (T : Nat) (own : Nat → Prop) (s : S) (w : World) (h : PState w T own s) (hf : 2 ≤ s.fuse) :
    Calls Try.prog 37 #[.pointer (some ⟨T, 0, none⟩)] w fun e w' => e = .returned (.bool false) ∧ Leaves w T own { s with fuse := s.fuse - 1 } w' := by
  obtain ⟨Ad, m, ka, kc, p⟩ := h
  have hi := p.inv.fuse
  obtain ⟨⟨_, _, _, c3, _⟩, _, _, _, f3, _⟩ := obj5 p.obj
  have FS := Lib.hid (fuse_set p (s.fuse - 1) (by omega) ((s.fuse : Int) - 1) (by omega))
  have g0 : 2 ≤ (s.fuse : Int) := by omega
  have g1 : (s.fuse : Int) ≤ 9223372036854775807 := by omega
  clear p hf hi
  go_enter Try.func37, Try.ntmps37
  go_wp2
  go_ret
  exact ⟨rfl, own, ⟨Ad, m, ka, kc, FS.out.1⟩, FS.out.2⟩
set_option maxHeartbeats 1000000 in
theorem blows_one (T : Nat) (own : Nat → Prop) (s : S) (w : World) (h : PState w T own s) (hf : s.fuse = 1) :
    Calls Try.prog 37 #[.pointer (some ⟨T, 0, none⟩)] w fun e w' => e = .returned (.bool true) ∧ Leaves w T own (crash { s with fuse := 0 } s.keep) w' := by
  obtain ⟨Ad, m, ka, kc, p⟩ := h
  obtain ⟨⟨_, _, _, c3, c4⟩, _, _, _, f3, _⟩ := obj5 p.obj
  rw [hf] at c3
  have c3 : w.cell? ⟨T, 3, none⟩ = some (.int .i64 1) := c3
  have FS := Lib.hid (fuse_set p 0 (by omega) 0 rfl)
  have KP : Hid (Ints (w.setCell ⟨T, 3, none⟩ (.int .i64 0)) ka s.keep) := Lib.hid (Ints.own FS.out.1.keep)
  have CR := Lib.hid (crash_any T own { s with fuse := 0 } ka s.keep kc p.keep.capmax (by have := p.inv.keepl; omega) _ ⟨Ad, m, ka, kc, FS.out.1⟩ KP.out)
  clear p hf
  go_enter Try.func37, Try.ntmps37
  go_wp2_with fail
  refine CR.out.mono ?_; rintro e w2 ⟨rfl, hl⟩
  have HL := Lib.hid hl
  clear hl
  go_wp2
  go_ret
  exact ⟨rfl, HL.out.trans FS.out.2⟩
theorem blows_any (T : Nat) (own : Nat → Prop) (s : S) (w : World) (h : PState w T own s) :
    Calls Try.prog 37 #[.pointer (some ⟨T, 0, none⟩)] w fun e w' => e = .returned (.bool (decide (s.fuse = 1))) ∧ Leaves w T own (blownS s) w' := by
  unfold blownS
  by_cases h1 : s.fuse = 1
  · rw [if_pos h1]
    refine (blows_one T own s w h h1).mono ?_
    rintro e w' ⟨rfl, hl⟩
    exact ⟨by simp [h1], hl⟩
  · rw [if_neg h1]
    by_cases h0 : s.fuse = 0
    · refine (blows_zero T own s w h h0).mono ?_
      rintro e w' ⟨rfl, hl⟩
      exact ⟨by simp [h1], hl⟩
    · refine (blows_more T own s w h (by omega)).mono ?_
      rintro e w' ⟨rfl, hl⟩
      exact ⟨by simp [h1], hl⟩
set_option maxHeartbeats 1000000 in
/-- Where the fuse does not end, nothing but its number has changed. -/
theorem blows_quiet (T : Nat) (own : Nat → Prop) (s : S) (Ad : List UInt8 → Option Addr × Nat) (m : Nat) (ka : Option Addr) (kc : Nat) (w : World) (p : PS w T own s Ad m ka kc) (hf : s.fuse ≠ 1) :
    Calls Try.prog 37 #[.pointer (some ⟨T, 0, none⟩)] w fun e w' => e = .returned (.bool false) ∧ PS w' T own { s with fuse := s.fuse - 1 } Ad m ka kc ∧ Step own own w w' ∧ w'.heap.size = w.heap.size ∧ ∀ k, k ≠ T → w'.heap[k]? = w.heap[k]? := by
  by_cases h0 : s.fuse = 0
  · have e : ({ s with fuse := s.fuse - 1 } : S) = s := by cases s; simp at h0 ⊢; omega
    rw [e]
    obtain ⟨⟨_, _, _, c3, _⟩, _⟩ := obj5 p.obj
    rw [h0] at c3
    have c3 : w.cell? ⟨T, 3, none⟩ = some (.int .i64 0) := c3
    have HP := Lib.hid p
    clear p hf h0 e
    go_enter Try.func37, Try.ntmps37
    go_wp2
    go_ret
    exact ⟨rfl, HP.out, Step.refl _ _, rfl, fun _ _ => rfl⟩
  · have hi := p.inv.fuse
    obtain ⟨⟨_, _, _, c3, _⟩, _, _, _, f3, _⟩ := obj5 p.obj
    have FS := Lib.hid (fuse_set p (s.fuse - 1) (by omega) ((s.fuse : Int) - 1) (by omega))
    have g0 : 2 ≤ (s.fuse : Int) := by omega
    have g1 : (s.fuse : Int) ≤ 9223372036854775807 := by omega
    clear p hf hi h0
    go_enter Try.func37, Try.ntmps37
    go_wp2
    go_ret
    exact ⟨rfl, FS.out.1, FS.out.2, by simp [World.setCell], fun k hk => Below.heap_setCell _ _ _ _ hk⟩
end Go.Proofs.Ytmahbcpkilegpaa
