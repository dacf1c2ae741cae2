/-
  The reference's blown: a fuse that burns, and ends in a crash.
-/
import Derived.Test.YtmahbcpkilegpaaStoRefCrash
namespace Go.Proofs.Ytmahbcpkilegpaa
open Go.RowKit St

theorem RP.fused {w : World} {R : Nat} {own : Nat → Prop} {s : S} {rf : Int} {rk : List Int} {Ad : List UInt8 → Option Addr × Nat} {fa : Option Addr} {fc : Nat} {ka : Option Addr} {kc : Nat} (p : RP w R own s rf rk Ad fa fc ka kc) {rf2 : Int} (h1 : 0 < rf2 → 0 < rf) (h2 : rf2 ≤ 9223372036854775807) :
    RP (w.setCell ⟨R, 3, none⟩ (.int .i64 rf2)) R own { s with fuse := rf2.toNat } rf2 rk Ad fa fc ka kc := by
  have hkb : ∀ k, k ≠ R → (w.setCell ⟨R, 3, none⟩ (.int .i64 rf2)).heap[k]? = w.heap[k]? := fun k hk => Below.heap_setCell _ _ _ _ hk
  have o3 := obj_set (o := 3) p.rs.obj (.int .i64 rf2)
  refine p.flags (off := s.off) (keep := s.keep) (fun k _ hne => hkb k hne) ?_ (p.keep.keep fun a ha => hkb _ (p.keep_ne ha)) (fun _ h => h) (fun k hk => by have := p.lt k hk; simpa [World.setCell] using this) p.ownK (inv_flags p.rs.inv (by omega) p.rs.inv.keepl) ⟨rfl, fun h => p.rs.link.2 (h1 h)⟩
  rw [o3]; simp
theorem crash_keep {s : S} (h : s.fs.length ≤ 64) {rk : List Int} (hk : s.keep = rk.take 64) : crash { s with fuse := 0 } rk = crash { s with fuse := 0 } s.keep := by
  unfold crash
  split
  · rfl
  · rw [hk, crashL_take _ _ _ h]
set_option maxHeartbeats 2000000 in
theorem rblown_any (R : Nat) (own : Nat → Prop) (s : S) (w : World) (h : RState w R own s) (ho : s.off = false) :
    Calls Try.prog 46 #[.pointer (some ⟨R, 0, none⟩)] w fun e w' => e = .returned (.bool (decide (s.fuse = 1))) ∧ RLeaves w R own (if s.fuse = 1 then crash { s with fuse := 0 } s.keep else { s with fuse := s.fuse - 1 }) w' := by
  have H := Lib.hid h
  obtain ⟨rf, rk, Ad, fa, fc, ka, kc, p, b1, b2, b3⟩ := h
  have P := Lib.hid p
  have HO := Lib.hid ho
  have LK := Lib.hid p.rs.link
  have hf := p.rs.link.1
  obtain ⟨⟨_, _, _, c3, c4⟩, _, _, _, f3, _⟩ := obj5 p.rs.obj
  clear p ho
  by_cases h1 : rf < 1
  · have e1 : ¬ s.fuse = 1 := by omega
    have e2 : ({ s with fuse := s.fuse - 1 } : S) = s := by
      have : s.fuse - 1 = s.fuse := by omega
      rw [this]
    rw [if_neg e1, decide_eq_false e1, e2]
    clear hf e1 e2
    go_enter Try.func46, Try.ntmps46
    go_wp2
    go_ret
    exact ⟨rfl, RLeaves.same H.out (Below.refl _ _)⟩
  · by_cases h2 : rf = 1
    · subst h2
      have e1 : s.fuse = 1 := by omega
      rw [if_pos e1, decide_eq_true e1]
      have P2 := Lib.hid (P.out.fused (rf2 := 0) (fun h => by omega) (by omega))
      have K2 := Lib.hid (crash_keep P.out.rs.inv.count (LK.out.2 (by omega)))
      have B3 := Lib.hid b3
      have hne : Hid (∀ a b, ka = some a → fa = some b → a.block ≠ b.block) := Lib.hid fun a b ha hb => (P.out.files_ne hb).2.2 a ha
      clear hf e1 h1 b1 b2 b3
      obtain ⟨⟨_, _, _, d3, d4⟩, _⟩ := obj5 P2.out.rs.obj
      go_enter Try.func46, Try.ntmps46
      go_wp2_with fail
      refine (rcrash_on P2.out B3.out HO.out ka rk rk.length kc rfl B3.out (P2.out.keep.ints) (fun _ => hne.out)).mono ?_; rintro e w' ⟨rfl, hl⟩
      have HL := Lib.hid hl
      clear hl
      go_wp2
      go_ret
      refine ⟨rfl, ?_⟩
      have hl := HL.out
      rw [show (0 : Int).toNat = 0 from rfl, K2.out] at hl
      exact RLeaves.trans ⟨Only.set own 3 w (.int .i64 0) P.out.ownT, fun _ h => .inl h⟩ hl
    · have e1 : ¬ s.fuse = 1 := by omega
      rw [if_neg e1, decide_eq_false e1]
      have P2 := Lib.hid (P.out.fused (rf2 := rf - 1) (fun h => by omega) (by omega))
      have E3 : Hid ((rf - 1).toNat = s.fuse - 1) := Lib.hid (by show _ = _; omega)
      have h3 : 0 < rf - 1 := by omega
      have BB := Lib.hid (And.intro b1 (And.intro b2 b3))
      clear hf e1
      obtain ⟨⟨_, _, _, d3, d4⟩, _⟩ := obj5 P2.out.rs.obj
      go_enter Try.func46, Try.ntmps46
      go_wp2
      go_ret
      refine ⟨rfl, own, ⟨rf - 1, rk, Ad, fa, fc, ka, kc, ?_, by have := BB.out; omega, by have := BB.out; omega, BB.out.2.2⟩, Only.set own 3 w (.int .i64 (rf - 1)) P.out.ownT, fun _ h => .inl h⟩
      rw [← E3.out]; exact P2.out
end Go.Proofs.Ytmahbcpkilegpaa
