/-
  What the reference asks of a name first; Sure, Free.
-/
import Derived.Test.YtmahbcpkilegpaaStoRefRow
namespace Go.Proofs.Ytmahbcpkilegpaa
open Go.RowKit St

theorem place_find : ∀ (nm : List UInt8) (l : List F), (∃ k, ∃ hk : k < l.length, place nm l = some k ∧ find nm l = some (l[k]'hk)) ∨ (place nm l = none ∧ find nm l = none)
  | nm, [] => .inr ⟨rfl, rfl⟩
  | nm, f :: l => by
    by_cases h : f.nm = nm
    · exact .inl ⟨0, by simp, by unfold place; rw [if_pos h], by simp [find, h]⟩
    · have e : find nm (f :: l) = find nm l := by simp [find, h]
      have e2 : place nm (f :: l) = (place nm l).map (· + 1) := by rw [place, if_neg h]
      rcases place_find nm l with ⟨k, hk, h1, h2⟩ | ⟨h1, h2⟩
      · exact .inl ⟨k + 1, by simpa using hk, by rw [e2, h1]; rfl, by rw [e, h2]; rfl⟩
      · exact .inr ⟨by rw [e2, h1]; rfl, e.trans h2⟩
theorem placeV_find (nm : List UInt8) (l : List F) : (∃ k, ∃ hk : k < l.length, placeV nm l = (k : Int) ∧ find nm l = some (l[k]'hk)) ∨ (placeV nm l = -1 ∧ find nm l = none) := by
  rcases place_find nm l with ⟨k, hk, h1, h2⟩ | ⟨h1, h2⟩
  · exact .inl ⟨k, hk, by unfold placeV; rw [h1], h2⟩
  · exact .inr ⟨by unfold placeV; rw [h1], h2⟩
section
variable {w : World} {R : Nat} {s : S} {rf : Int} {rk : List Int} {Ad : List UInt8 → Option Addr × Nat} {fa : Option Addr} {fc : Nat} {ka : Option Addr} {kc : Nat} (h : RS w R s rf rk Ad fa fc ka kc)
include h
set_option maxHeartbeats 2000000 in
theorem rlook_bare (sn : ByteArray) (hsn : sn.size ≤ 9223372036854775807) :
    Calls Try.prog 44 #[.pointer (some ⟨R, 0, none⟩), .string sn, .bool false] w fun e w' => e = .returned (.int .i64 (chk s [bs sn])) ∧ w = w' := by
  obtain ⟨⟨_, _, c2, _, _⟩, _⟩ := obj5 h.obj
  have G := Lib.hid (goodName_any sn hsn w)
  have E : Hid (chk s [bs sn] = if s.off then 11 else if good (bs sn) then 0 else 1) := Lib.hid (by unfold chk; simp)
  clear h hsn
  cases ho : s.off with
  | true =>
    rw [ho] at c2
    rw [ho, if_pos rfl] at E
    go_enter Try.func44, Try.ntmps44
    go_wp2
    go_ret
    exact ⟨ret_int E.out.symm, rfl⟩
  | false =>
    rw [ho] at c2
    rw [ho, if_neg (by simp)] at E
    cases hg : good (bs sn) with
    | true =>
      rw [hg] at G E
      go_enter Try.func44, Try.ntmps44
      go_wp2_with fail
      refine G.out.mono ?_; rintro e w' ⟨rfl, rfl⟩
      go_wp2
      go_ret
      exact ⟨ret_int E.out.symm, rfl⟩
    | false =>
      rw [hg] at G E
      go_enter Try.func44, Try.ntmps44
      go_wp2_with fail
      refine G.out.mono ?_; rintro e w' ⟨rfl, rfl⟩
      go_wp2
      go_ret
      exact ⟨ret_int E.out.symm, rfl⟩
set_option maxHeartbeats 2000000 in
theorem rlook_there (sn : ByteArray) (hsn : sn.size ≤ 9223372036854775807) :
    Calls Try.prog 44 #[.pointer (some ⟨R, 0, none⟩), .string sn, .bool true] w fun e w' => e = .returned (.int .i64 (fnd s (bs sn) [bs sn])) ∧ w = w' := by
  obtain ⟨⟨_, _, c2, _, _⟩, _⟩ := obj5 h.obj
  have G := Lib.hid (goodName_any sn hsn w)
  have FD := Lib.hid (rfind_any h sn)
  have E : Hid (fnd s (bs sn) [bs sn] = if s.off then 11 else if good (bs sn) then (if (find (bs sn) s.fs).isSome then 0 else 4) else 1) := Lib.hid (by
    unfold fnd chk
    clear h
    cases ho : s.off <;> cases hg : good (bs sn) <;> simp [hg])
  have PF := placeV_find (bs sn) s.fs
  clear h hsn
  cases ho : s.off with
  | true =>
    rw [ho] at c2
    rw [ho, if_pos rfl] at E
    clear PF
    go_enter Try.func44, Try.ntmps44
    go_wp2
    go_ret
    exact ⟨ret_int E.out.symm, rfl⟩
  | false =>
    rw [ho] at c2
    rw [ho, if_neg (by simp)] at E
    cases hg : good (bs sn) with
    | true =>
      rw [hg, if_pos rfl] at E
      rw [hg] at G
      rcases PF with ⟨k, hk, p1, p2⟩ | ⟨p1, p2⟩
      · rw [p2] at E
        rw [p1] at FD
        have hk0 : ¬ (k : Int) < 0 := by omega
        clear p1 p2
        go_enter Try.func44, Try.ntmps44
        go_wp2_with fail
        refine G.out.mono ?_; rintro e w' ⟨rfl, rfl⟩
        go_wp2_with fail
        refine FD.out.mono ?_; rintro e w' ⟨rfl, rfl⟩
        go_wp2
        go_ret
        exact ⟨ret_int E.out.symm, rfl⟩
      · rw [p2] at E
        rw [p1] at FD
        clear p1 p2
        go_enter Try.func44, Try.ntmps44
        go_wp2_with fail
        refine G.out.mono ?_; rintro e w' ⟨rfl, rfl⟩
        go_wp2_with fail
        refine FD.out.mono ?_; rintro e w' ⟨rfl, rfl⟩
        go_wp2
        go_ret
        exact ⟨ret_int E.out.symm, rfl⟩
    | false =>
      rw [hg] at G E
      clear PF
      go_enter Try.func44, Try.ntmps44
      go_wp2_with fail
      refine G.out.mono ?_; rintro e w' ⟨rfl, rfl⟩
      go_wp2
      go_ret
      exact ⟨ret_int E.out.symm, rfl⟩
set_option maxHeartbeats 2000000 in
theorem rsure_any (sn : ByteArray) :
    Calls Try.prog 34 #[.pointer (some ⟨R, 0, none⟩), .string sn] w fun e w' => e = .returned (.int .i64 ((file s (bs sn)).sure : Int)) ∧ w = w' := by
  obtain ⟨⟨_, c1, _, _, _⟩, _⟩ := obj5 h.obj
  have FD := Lib.hid (rfind_any h sn)
  rcases placeV_find (bs sn) s.fs with ⟨k, hk, p1, p2⟩ | ⟨p1, p2⟩
  · obtain ⟨g, hg, d1, d2, d3⟩ := h.cell hk
    have E : Hid ((file s (bs sn)).sure = (s.fs[k]'hk).sure) := Lib.hid (by unfold file; rw [p2]; rfl)
    have b1 : (k : Int) < (s.fs.length : Int) := by omega
    have b0 : ¬ (k : Int) < 0 := by omega
    rw [p1] at FD
    subst hg
    rw [← E.out] at d3
    clear d1 d2 p1 p2 h E
    generalize s.fs.length = n at *
    go_enter Try.func34, Try.ntmps34
    go_wp2_with fail
    refine FD.out.mono ?_; rintro e w' ⟨rfl, rfl⟩
    go_wp2
    go_ret
    exact ⟨rfl, rfl⟩
  · have E : Hid ((file s (bs sn)).sure = 0) := Lib.hid (by unfold file; rw [p2]; rfl)
    rw [p1] at FD
    clear p1 p2 h
    go_enter Try.func34, Try.ntmps34
    go_wp2_with fail
    refine FD.out.mono ?_; rintro e w' ⟨rfl, rfl⟩
    go_wp2
    go_ret
    exact ⟨ret_int (by rw [E.out]; rfl), rfl⟩
end
end Go.Proofs.Ytmahbcpkilegpaa
