/-
  The reference's Free and Read.
-/
import Derived.Test.YtmahbcpkilegpaaStoRefLook
import Derived.BigQuiet
import Derived.Deep.QuietTactic
namespace Go.Proofs.Ytmahbcpkilegpaa
open Go.RowKit St

theorem total_take : ∀ (l : List F) (k : Nat) (hk : k < l.length), total (l.take (k + 1)) = total (l.take k) + (l[k]'hk).zs.length
  | [], k, hk => by simp at hk
  | f :: l, 0, hk => by simp [total]
  | f :: l, k + 1, hk => by
    have := total_take l k (by simpa using hk)
    rw [List.take_succ_cons, List.take_succ_cons]
    show f.zs.length + total (l.take (k + 1)) = f.zs.length + total (l.take k) + (l[k]'(by simpa using hk)).zs.length
    rw [this]; omega
theorem total_take_le : ∀ (l : List F) (k : Nat), total (l.take k) ≤ total l
  | [], k => by simp [total]
  | f :: l, 0 => by simp [total]
  | f :: l, k + 1 => by
    have := total_take_le l k
    rw [List.take_succ_cons]
    show f.zs.length + total (l.take k) ≤ f.zs.length + total l
    omega
theorem ret_read {a b : ByteArray} {k : IntKind} {x y : Int} (h1 : a = b) (h2 : x = y) : Ending.returned (.tuple #[.string a, .int k x]) = .returned (.tuple #[.string b, .int k y]) := by rw [h1, h2]
theorem RS.draw {w : World} {R : Nat} {s : S} {rf : Int} {rk : List Int} {Ad : List UInt8 → Option Addr × Nat} {fa : Option Addr} {fc : Nat} {ka : Option Addr} {kc : Nat} (h : RS w R s rf rk Ad fa fc ka kc) (j : Nat) : RS (w.drewN j) R s rf rk Ad fa fc ka kc :=
  ⟨h.obj, h.files, h.rows, h.keep, h.inv, h.link⟩
theorem rfind_draw {w : World} {R : Nat} {s : S} {rf : Int} {rk : List Int} {Ad : List UInt8 → Option Addr × Nat} {fa : Option Addr} {fc : Nat} {ka : Option Addr} {kc : Nat} (h : RS w R s rf rk Ad fa fc ka kc) (sn : ByteArray) (k : Nat) :
    Calls Try.prog 45 #[.pointer (some ⟨R, 0, none⟩), .string sn] (w.drewN k) fun e w' => e = .returned (.int .i64 (placeV (bs sn) s.fs)) ∧ ∃ j, w' = w.drewN j :=
  (rfind_any (h.draw k) sn).mono fun _ _ ⟨h1, h2⟩ => ⟨h1, k, h2.symm⟩
section
variable {w : World} {R : Nat} {s : S} {rf : Int} {rk : List Int} {Ad : List UInt8 → Option Addr × Nat} {fa : Option Addr} {fc : Nat} {ka : Option Addr} {kc : Nat} (h : RS w R s rf rk Ad fa fc ka kc)
include h
set_option maxHeartbeats 2000000 in
theorem rfree_any :
    Calls Try.prog 35 #[.pointer (some ⟨R, 0, none⟩)] w fun e w' => e = .returned (.int .i64 ((s.room : Int) - (total s.fs : Nat))) ∧ w = w' := by
  have HR := Lib.hid h
  have hn : (s.fs.length : Int) ≤ 64 := by have := h.inv.count; omega
  have htot := Lib.hid h.inv.tot
  have hroom := Lib.hid h.inv.room
  obtain ⟨⟨c0, c1, _, _, _⟩, _⟩ := obj5 h.obj
  clear h
  obtain ⟨n, hN⟩ : ∃ n, n = s.fs.length := ⟨_, rfl⟩
  rw [← hN] at c1 hn
  have HN := Lib.hid hN
  clear hN
  go_enter Try.func35, Try.ntmps35
  go_wp2
  go_loop [3, 4] (fun v i => ∃ k : Nat, k ≤ n ∧ v = .int .i64 ((s.room : Int) - (total (s.fs.take k) : Nat)) ∧ i = .int .i64 k) (fun _ i => n - (intOf i).toNat)
  case atStart => exact ⟨0, Nat.zero_le _, by simp [total], rfl⟩
  case round =>
    obtain ⟨k, hk0, rfl, rfl⟩ := hrel
    by_cases hlt : k < n
    · have hl : k < s.fs.length := by rw [← HN.out]; exact hlt
      obtain ⟨g, hg, d1, d2, d3⟩ := HR.out.cell hl
      have T1 := total_take s.fs k hl
      have T2 := total_take_le s.fs (k + 1)
      obtain ⟨m, hm⟩ : ∃ m, (s.fs[k]'hl).zs.length = m := ⟨_, rfl⟩
      obtain ⟨t, ht⟩ : ∃ t, total (s.fs.take k) = t := ⟨_, rfl⟩
      rw [hm] at d2 T1
      rw [ht] at T1 ⊢
      have b1 : 0 ≤ (s.room : Int) - (t : Int) - (m : Int) ∧ (s.room : Int) ≤ 16777216 := by have := htot.out; have := hroom.out; omega
      have R1 := Lib.hid (show ((s.room : Int) - (t : Int) - (m : Int)) = (s.room : Int) - (total (s.fs.take (k + 1)) : Nat) by rw [T1]; omega)
      obtain ⟨b2, b3⟩ := b1
      have b4 : (0 : Int) ≤ t := by omega
      have b5 : (0 : Int) ≤ m := by omega
      subst hg
      clear d1 d3 T1 T2
      have hlt' : (k : Int) < (n : Int) := by omega
      go_wp2
      go_round
      case rel => exact ⟨k + 1, hlt, by rw [← R1.out], by go_num⟩
      case measure => simp [intOf]; omega
    · have e : k = s.fs.length := by rw [← HN.out]; omega
      have hge : ¬ (k : Int) < (n : Int) := by omega
      have R1 := Lib.hid (show ((s.room : Int) - (total (s.fs.take k) : Nat)) = (s.room : Int) - (total s.fs : Nat) by rw [e, List.take_length])
      generalize total (s.fs.take k) = t at *
      go_wp2
      go_ret
      exact ⟨ret_int R1.out, rfl⟩
set_option maxHeartbeats 2000000 in
theorem rread_any (sn : ByteArray) (hsn : sn.size ≤ 9223372036854775807) :
    Calls Try.prog 32 #[.pointer (some ⟨R, 0, none⟩), .string sn] w fun e w' => e = .returned (.tuple #[.string (strOfNums (readL s (bs sn))), .int .i64 (readE s (bs sn))]) ∧ ∃ j, w' = w.drewN j := by
  have LK := Lib.hid (rlook_there h sn hsn)
  have FD := Lib.hid (rfind_draw h sn)
  obtain ⟨⟨_, c1, _, _, _⟩, _⟩ := obj5 h.obj
  by_cases hE : fnd s (bs sn) [bs sn] = 0
  · have hF : (find (bs sn) s.fs).isSome = true := by
      unfold fnd at hE
      by_cases hc : chk s [bs sn] ≠ 0
      · rw [if_pos hc] at hE; exact absurd hE hc
      · rw [if_neg hc] at hE
        by_cases hf : (find (bs sn) s.fs).isSome = true
        · exact hf
        · rw [if_neg hf] at hE; cases hE
    rcases placeV_find (bs sn) s.fs with ⟨k, hk, p1, p2⟩ | ⟨p1, p2⟩
    · obtain ⟨g, hg, d1, d2, d3⟩ := h.cell hk
      have hrow := (h.rows _ (List.getElem_mem hk)).bytes
      have E : Hid (readL s (bs sn) = (s.fs[k]'hk).zs) := Lib.hid (by unfold readL readE file; rw [if_neg (by simp [hE]), p2]; rfl)
      have E0 : Hid (readE s (bs sn) = 0) := Lib.hid hE
      have b1 : (k : Int) < (s.fs.length : Int) := by omega
      have cv : ∀ j, (convert 28 9 (.slice (Ad (s.fs[k]'hk).nm).1 (s.fs[k]'hk).zs.length (Ad (s.fs[k]'hk).nm).2)).run Try.prog (w.drewN j) = .ok (.string (strOfNums (s.fs[k]'hk).zs)) (w.drewN j) := fun j => conv_str (w := w.drewN j) (hrow.keep fun _ _ _ => rfl) _
      rw [p1] at FD
      rw [hE] at LK
      subst hg
      clear d1 d3 p1 p2 h hE hF hrow
      rw [E.out, E0.out]
      generalize (Ad (s.fs[k]'hk).nm).1 = A1 at *
      generalize (Ad (s.fs[k]'hk).nm).2 = C1 at *
      generalize (s.fs[k]'hk).zs.length = L1 at *
      generalize strOfNums (s.fs[k]'hk).zs = Z1 at *
      go_enter Try.func32, Try.ntmps32
      go_wp2_with fail
      refine LK.out.mono ?_; rintro e w' ⟨rfl, rfl⟩
      go_wp2_with fail
      go_quiet ((go_at_call 45; exact FD.out _))
      go_wp2
      go_ret2
      exact ⟨rfl, _, rfl⟩
    · rw [p2] at hF; cases hF
  · have E : Hid (readL s (bs sn) = []) := Lib.hid (by unfold readL readE; rw [if_pos hE])
    have E0 : Hid (readE s (bs sn) = fnd s (bs sn) [bs sn]) := Lib.hid rfl
    rw [E.out, E0.out]
    generalize fnd s (bs sn) [bs sn] = er at *
    have hb : (er != 0) = true := by simp [hE]
    clear FD h
    go_enter Try.func32, Try.ntmps32
    go_wp2_with fail
    refine LK.out.mono ?_; rintro e w' ⟨rfl, rfl⟩
    go_wp2
    go_ret2
    exact ⟨rfl, 0, rfl⟩
end
end Go.Proofs.Ytmahbcpkilegpaa
