/-
  Drop, Swap, Sync and Cut at every store.
-/
import Derived.Test.YtmahbcpkilegpaaStoSmall
namespace Go.Proofs.Ytmahbcpkilegpaa
open Go.RowKit St

def OpPost (w : World) (T : Nat) (own : Nat → Prop) (er : Int) (s' : S) (e : Ending) (w' : World) : Prop := e = .returned (.int .i64 er) ∧ Leaves w T own s' w'
theorem actE_bad {s : S} {e : Int} (h : e ≠ 0) : actE s e = e := by unfold actE; rw [if_pos h]
theorem actS_bad {s : S} {e : Int} {l : List F} (h : e ≠ 0) : actS s e l = s := by unfold actS; rw [if_pos h]
theorem actE_blow {s : S} {e : Int} (h : e = 0) (hf : s.fuse = 1) : actE s e = 11 := by unfold actE; rw [if_neg (by simp [h]), if_pos hf]
theorem actS_blow {s : S} {e : Int} {l : List F} (h : e = 0) (hf : s.fuse = 1) : actS s e l = crash { s with fuse := 0 } s.keep := by unfold actS; rw [if_neg (by simp [h]), if_pos hf]
theorem actE_ok {s : S} {e : Int} (h : e = 0) (hf : s.fuse ≠ 1) : actE s e = 0 := by unfold actE; rw [if_neg (by simp [h]), if_neg hf]
theorem actS_ok {s : S} {e : Int} {l : List F} (h : e = 0) (hf : s.fuse ≠ 1) : actS s e l = { s with fs := l, fuse := s.fuse - 1 } := by unfold actS; rw [if_neg (by simp [h]), if_neg hf]
/-- A store's file that is changed leaves the others' places; the state behind an operation that has taken effect. -/
theorem Leaves.mk_ {w w' : World} {T : Nat} {own own2 : Nat → Prop} {s : S} {Ad : List UInt8 → Option Addr × Nat} {m : Nat} {ka : Option Addr} {kc : Nat} (p : PS w' T own2 s Ad m ka kc) (h : Step own own2 w w') : Leaves w T own s w' := ⟨own2, ⟨Ad, m, ka, kc, p⟩, h⟩
set_option maxRecDepth 20000 in
set_option maxHeartbeats 2000000 in
theorem drop_any (T : Nat) (own : Nat → Prop) (s : S) (w : World) (h : PState w T own s) (sn : ByteArray) (hsn : sn.size ≤ 9223372036854775807) :
    Calls Try.prog 15 #[.pointer (some ⟨T, 0, none⟩), .string sn] w (OpPost w T own (actE s (fnd s (bs sn) [bs sn])) (actS s (fnd s (bs sn) [bs sn]) (del (bs sn) s.fs))) := by
  obtain ⟨Ad, m, ka, kc, p⟩ := h
  have HS := Lib.hid hsn
  by_cases hE : fnd s (bs sn) [bs sn] = 0
  · obtain ⟨f, hfi, hc⟩ := find_ok T own s Ad m ka kc sn hsn none 0 0 [] rfl (by simp) w p (full_nil w) hE
    have FC := Lib.hid hc
    have HP := Lib.hid p
    by_cases hfu : s.fuse = 1
    · rw [actE_blow hE hfu, actS_blow hE hfu]
      have HF := Lib.hid hfu
      clear p hc hfi hE hsn hfu
      go_enter Try.func15, Try.ntmps15
      go_wp2_with fail
      refine FC.out.mono ?_; rintro e w2 ⟨rfl, hb⟩
      have B2 := Lib.hid hb
      clear hb
      go_wp2_with fail
      refine (blows_one T own s _ ⟨Ad, m, ka, kc, HP.out.grow (B2.out.alloc B2.out.size _)⟩ HF.out).mono ?_; rintro e w3 ⟨rfl, hl⟩
      have HL := Lib.hid hl
      clear hl
      go_wp2
      go_ret
      exact ⟨rfl, Leaves.ahead (B2.out.alloc B2.out.size _) HL.out⟩
    · rw [actE_ok hE hfu, actS_ok hE hfu]
      have HF := Lib.hid hfu
      have HI : Hid (Inv { s with fs := del (bs sn) s.fs, fuse := s.fuse - 1 }) := Lib.hid (by have := p.inv.drop (bs sn) 0; rw [actS_ok rfl hfu] at this; exact this)
      clear p hc hfi hE hsn hfu
      go_enter Try.func15, Try.ntmps15
      go_wp2_with fail
      refine FC.out.mono ?_; rintro e w2 ⟨rfl, hb⟩
      have B2 := Lib.hid hb
      clear hb
      go_wp2_with fail
      refine (blows_quiet T own s Ad m ka kc _ (HP.out.grow (B2.out.alloc B2.out.size _)) HF.out).mono ?_; rintro e w3 ⟨rfl, hp3, hs3, _, _⟩
      have P3 := Lib.hid hp3
      have S3 := Lib.hid (hs3.ahead (B2.out.alloc B2.out.size _))
      have TO := Lib.hid hp3.obj
      have PM := Lib.hid hp3.map
      clear hp3 hs3
      obtain ⟨⟨_, c1, _, _, _⟩, _⟩ := obj5 TO.out
      go_wp2_with (first
        | (at_delete; refine wp_drop rfl _ _ rfl rfl PM.out rfl HS.out ?_; intro w4 hm4 ht4; have M4 := Lib.hid hm4; have T4 := Lib.hid ht4; clear hm4 ht4)
        | go_in)
      go_ret
      exact ⟨rfl, Leaves.mk_ (P3.out.drop (bs sn) M4.out T4.out HI.out) (S3.out.trans ⟨Only.turned T4.out P3.out.ownM, fun _ h => .inl h⟩)⟩
  · rw [actE_bad hE, actS_bad hE]
    have FC : Hid (Calls Try.prog 38 #[.pointer (some ⟨T, 0, none⟩), .string sn, .slice none 0 0] w (FindPost w (.agg #[.slice none 0 0, .int .i64 0]) (fnd s (bs sn) [bs sn]))) := Lib.hid (find_err T own s Ad m ka kc sn hsn none 0 0 [] rfl (by simp) w p (full_nil w) _ rfl hE)
    have hne : (fnd s (bs sn) [bs sn] == 0) = false := by rw [beq_eq_false_iff_ne]; exact hE
    have HP : Hid (PState w T own s) := Lib.hid ⟨Ad, m, ka, kc, p⟩
    clear p hE hsn
    generalize fnd s (bs sn) [bs sn] = er at *
    go_enter Try.func15, Try.ntmps15
    go_wp2_with fail
    refine FC.out.mono ?_; rintro e w2 ⟨rfl, hb⟩
    have B2 := Lib.hid hb
    clear hb
    go_wp2
    go_ret
    exact ⟨rfl, Leaves.same HP.out (B2.out.alloc B2.out.size _)⟩
end Go.Proofs.Ytmahbcpkilegpaa
