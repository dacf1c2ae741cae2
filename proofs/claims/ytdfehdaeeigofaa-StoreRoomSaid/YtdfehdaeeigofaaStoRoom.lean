/-
  The law StoreRoom, walked.
-/
import Derived.Test.YtdfehdaeeigofaaStoCuts
namespace Go.Proofs.Ytdfehdaeeigofaa
open Go.RowKit St

/-- A store without a file, or with the one file of n bytes. -/
def RoomAt (room : Nat) (s : S) (n : Nat) : Prop := (s = s0 room ∧ n = 0) ∨ ∃ zs, s = one room zs 0 false ∧ zs.length = n
theorem RoomAt.tot {room : Nat} {s : S} {n : Nat} (h : RoomAt room s n) : total s.fs = n ∧ s.room = room := by
  rcases h with ⟨rfl, rfl⟩ | ⟨zs, rfl, rfl⟩ <;> exact ⟨rfl, rfl⟩
theorem s0_full_e (room n : Nat) (h : room < n) : appE (s0 room) [102] n = 6 := by
  unfold appE
  rw [if_neg (show ¬ chk (s0 room) [[102]] ≠ 0 from fun h => h rfl), if_pos (.inl (show room - 0 < n by omega))]
theorem RoomAt.fits {room : Nat} {s : S} {n : Nat} (h : RoomAt room s n) (b : List Int) (hb : n + b.length ≤ room) : actE s (appE s [102] b.length) = 0 ∧ RoomAt room (actS s (appE s [102] b.length) (appL s [102] b)) (n + b.length) := by
  rcases h with ⟨rfl, rfl⟩ | ⟨zs, rfl, rfl⟩
  · exact ⟨app0_E room b (by omega), .inr ⟨b, app0_S room b (by omega), by omega⟩⟩
  · exact ⟨one_app_E room zs 0 b hb, .inr ⟨zs ++ b, one_app_S room zs 0 b hb, by rw [List.length_append]⟩⟩
theorem RoomAt.full {room : Nat} {s : S} {n : Nat} (h : RoomAt room s n) (b : List Int) (hb : room < n + b.length) (hn : n ≤ room) : actE s (appE s [102] b.length) = 6 ∧ actS s (appE s [102] b.length) (appL s [102] b) = s := by
  rcases h with ⟨rfl, rfl⟩ | ⟨zs, rfl, rfl⟩
  · rw [s0_full_e room b.length (by omega)]
    exact ⟨rfl, rfl⟩
  · exact ⟨one_full_E room zs 0 b (by omega), one_full_S room zs 0 b (by omega)⟩
theorem RoomAt.read {room : Nat} {s : S} {n : Nat} (h : RoomAt room s n) (hn : 0 < n) : readE s [102] = 0 ∧ (readL s [102]).length = n := by
  rcases h with ⟨rfl, rfl⟩ | ⟨zs, rfl, rfl⟩
  · omega
  · exact ⟨rfl, rfl⟩
set_option maxRecDepth 20000 in
set_option maxHeartbeats 4000000 in
theorem room_off (A1 : Option Addr) (n1 cap1 : Nat) (k : Int) (h : k < 1 ∨ (1 ≤ k ∧ (3000 < k ∨ (k ≤ 3000 ∧ 20 < n1)))) (w : World) :
    Calls Try.prog 6 #[.int .i64 k, .slice A1 n1 cap1] w fun e w' => e = .returned (.bool true) ∧ Below w.heap.size w w' := by
  rcases h with h | ⟨g1, h | ⟨g2, h⟩⟩
  · go_enter Try.func6, Try.ntmps6
    go_wp2_with fail
    refine (awake_any _).mono ?_; rintro e w1 ⟨rfl, hb1⟩
    have B1 := Lib.hid hb1
    clear hb1
    go_wp2
    go_ret
    exact ⟨rfl, B1.out⟩
  · have g1' : ¬ k < 1 := by omega
    clear g1
    go_enter Try.func6, Try.ntmps6
    go_wp2_with fail
    refine (awake_any _).mono ?_; rintro e w1 ⟨rfl, hb1⟩
    have B1 := Lib.hid hb1
    clear hb1
    go_wp2
    go_ret
    exact ⟨rfl, B1.out⟩
  · have g1' : ¬ k < 1 := by omega
    have g2' : ¬ 3000 < k := by omega
    have h' : (20 : Int) < (n1 : Int) := by omega
    clear g1 g2 h
    go_enter Try.func6, Try.ntmps6
    go_wp2_with fail
    refine (awake_any _).mono ?_; rintro e w1 ⟨rfl, hb1⟩
    have B1 := Lib.hid hb1
    clear hb1
    go_wp2
    go_ret
    exact ⟨rfl, B1.out⟩
set_option maxRecDepth 20000 in
set_option maxHeartbeats 8000000 in
theorem room_core (A1 : Option Addr) (ps : List (List Int)) (n1 cap1 R : Nat) (hn1 : n1 = ps.length) (h1 : n1 ≤ 20) (r0 : 1 ≤ R) (r1 : R ≤ 3000) (w : World) (hm : Mat w w.heap.size A1 ps) :
    Calls Try.prog 6 #[.int .i64 (R : Int), .slice A1 n1 cap1] w fun e w' => e = .returned (.bool true) ∧ Below w.heap.size w w' := by
  have g1 : 1 ≤ (R : Int) := by omega
  have g2 : (R : Int) ≤ 3000 := by omega
  have g3 : (n1 : Int) ≤ 20 := by omega
  have HM := Lib.hid hm
  have H1 := Lib.hid hn1
  have HR := Lib.hid (show 1 ≤ R ∧ R ≤ 3000 from ⟨r0, r1⟩)
  clear hm hn1 h1 r0 r1
  go_enter Try.func6, Try.ntmps6
  go_wp2_with fail
  refine (awake_any _).mono ?_; rintro e w1 ⟨rfl, hb1⟩
  have B1 := Lib.hid hb1
  clear hb1
  go_wp2_with fail
  refine (new_run R (R : Int) rfl HR.out.1 (by have := HR.out.2; omega) w w1 B1.out).mono ?_; rintro e w2 ⟨T, rfl, r2⟩
  go_wp2_with fail
  go_loopw [7, 8, 9] (fun nv iv _ wr => ∃ (i n : Nat) (s : S), iv = .int .i64 i ∧ nv = .int .i64 n ∧ n ≤ R ∧ RoomAt R s n ∧ Hid (Run w wr T s)) (fun _ iv _ _ => n1 - (intOf iv).toNat)
  case atStart => exact ⟨0, 0, _, rfl, rfl, Nat.zero_le _, .inl ⟨rfl, rfl⟩, r2⟩
  case round =>
    obtain ⟨i, n, s, rfl, rfl, hn, hat, hrun⟩ := hrel
    have HAT := Lib.hid hat
    have HN := Lib.hid hn
    clear hat hn
    by_cases hlt : i < n1
    · obtain ⟨b, off, p, Ai, ci, rfl, hbb, hc, _, hbp, _⟩ := HM.out.at_ (k := i) (by rw [← H1.out]; exact hlt)
      have hlt' : (i : Int) < (n1 : Int) := by omega
      have HC := Lib.hid hc
      have c0 : wr.cell? ⟨b, off + i, none⟩ = some (.slice Ai p.length ci) := (hrun.out.below.cell (p := ⟨b, off + i, none⟩) hbb.out).trans HC.out
      have HLT := Lib.hid hlt
      clear hc hlt
      by_cases hbig : 1000 < p.length
      · have h' : (1000 : Int) < (p.length : Int) := by omega
        clear hbig
        go_wp2
        go_ret
        exact ⟨rfl, hrun.out.below⟩
      · have h' : (p.length : Int) ≤ 1000 := by omega
        have HB := Lib.hid (show p.length ≤ 1000 by omega)
        clear hbig
        by_cases hf : n + p.length ≤ R
        · obtain ⟨e1, e2⟩ := HAT.out.fits p hf
          obtain ⟨s2, hs2⟩ : ∃ s2, actS s (appE s [102] p.length) (appL s [102] p) = s2 := ⟨_, rfl⟩
          rw [hs2] at e2
          have E1 := Lib.hid e1
          have E2 := Lib.hid e2
          have S2 := Lib.hid hs2
          clear hs2
          have HF := Lib.hid hf
          have f1 : (p.length : Int) ≤ (R : Int) - (n : Int) := by omega
          have f3 : 0 ≤ (n : Int) + (p.length : Int) := by omega
          have f4 : (n : Int) + (p.length : Int) ≤ 3000 := by have := HR.out.2; omega
          have f5 : 0 ≤ (R : Int) - (n : Int) := by have := HN.out; omega
          clear e1 e2 hf
          go_wp2_with fail
          refine (append_run hrun.out ⟨#[102]⟩ (by decide) Ai p.length ci p rfl ((hbp.out.below hrun.out.below).more hrun.out.size) 0 s2 E1.out S2.out).mono ?_; rintro e w3 ⟨rfl, r3⟩
          have c3 : w3.cell? ⟨b, off + i, none⟩ = some (.slice Ai p.length ci) := (r3.out.below.cell (p := ⟨b, off + i, none⟩) hbb.out).trans HC.out
          have FR := Lib.hid (free_run r3.out ((R : Int) - ((n : Int) + (p.length : Int))) (by have h := E2.out.tot; rw [h.1, h.2]; omega))
          have RR := Lib.hid E2.out
          clear c0
          go_wp2_with fail
          refine FR.out.mono ?_; rintro e w4 ⟨rfl, r4, b4⟩
          go_wp2
          go_roundw
          case rel => exact ⟨i + 1, n + p.length, _, by go_num, by go_num, HF.out, RR.out, r4⟩
          case measure => have := HLT.out; simp [intOf]; omega
        · obtain ⟨e1, e2⟩ := HAT.out.full p (by omega) HN.out
          have E1 := Lib.hid e1
          have E2 := Lib.hid e2
          have f1 : ¬ (p.length : Int) ≤ (R : Int) - (n : Int) := by omega
          have f5 : 0 ≤ (R : Int) - (n : Int) := by have := HN.out; omega
          clear e1 e2 hf
          go_wp2_with fail
          refine (append_run hrun.out ⟨#[102]⟩ (by decide) Ai p.length ci p rfl ((hbp.out.below hrun.out.below).more hrun.out.size) 6 s E1.out E2.out).mono ?_; rintro e w3 ⟨rfl, r3⟩
          have c3 : w3.cell? ⟨b, off + i, none⟩ = some (.slice Ai p.length ci) := (r3.out.below.cell (p := ⟨b, off + i, none⟩) hbb.out).trans HC.out
          have FR := Lib.hid (free_run r3.out ((R : Int) - (n : Int)) (by have h := HAT.out.tot; rw [h.1, h.2]))
          clear c0
          go_wp2_with fail
          refine FR.out.mono ?_; rintro e w4 ⟨rfl, r4, b4⟩
          go_wp2
          go_roundw
          case rel => exact ⟨i + 1, n, _, by go_num, rfl, HN.out, HAT.out, r4⟩
          case measure => have := HLT.out; simp [intOf]; omega
    · have hge : ¬ (i : Int) < (n1 : Int) := by omega
      clear hlt
      obtain ⟨er, her⟩ : ∃ er, readE s [102] = er := ⟨_, rfl⟩
      obtain ⟨L, hL⟩ : ∃ L, (readL s [102]).length = L := ⟨_, rfl⟩
      have RD := Lib.hid (read_run2 hrun.out ⟨#[102]⟩ (by decide) _ er her rfl L hL)
      by_cases hn0 : n = 0
      · subst hn0
        clear her hL
        go_wp2_with fail
        refine RD.out.mono ?_; rintro e w3 ⟨A3, c3, rfl, o3, r3, b3⟩
        go_wp2
        all_goals
          go_ret
          exact ⟨rfl, r3.out.below⟩
      · obtain ⟨q1, q2⟩ := HAT.out.read (by omega)
        have hn0' : ¬ (n : Int) = 0 := by omega
        have e1 : er = 0 := her.symm.trans q1
        have e2 : L = n := hL.symm.trans q2
        subst e1 e2
        clear her hL q1 q2 hn0
        go_wp2_with fail
        refine RD.out.mono ?_; rintro e w3 ⟨A3, c3, rfl, o3, r3, b3⟩
        go_wp2
        all_goals
          go_ret
          exact ⟨rfl, r3.out.below⟩
theorem room_walk (A1 : Option Addr) (ps : List (List Int)) (cap1 : Nat) (k : Int) (w : World) (hm : Mat w w.heap.size A1 ps) :
    Calls Try.prog 6 #[.int .i64 k, .slice A1 ps.length cap1] w fun e w' => e = .returned (.bool true) ∧ Below w.heap.size w w' := by
  by_cases h : 1 ≤ k ∧ k ≤ 3000 ∧ ps.length ≤ 20
  · obtain ⟨R, rfl⟩ := Int.eq_ofNat_of_zero_le (show 0 ≤ k by omega)
    exact room_core A1 ps _ cap1 R rfl h.2.2 (by omega) (by omega) w hm
  · exact room_off A1 _ cap1 k (by omega) w
end Go.Proofs.Ytdfehdaeeigofaa
