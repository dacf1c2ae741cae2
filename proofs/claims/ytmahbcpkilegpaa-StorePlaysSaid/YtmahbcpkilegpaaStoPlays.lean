/-
  The law StorePlays: any acts on both stores.
-/
import Derived.Test.YtmahbcpkilegpaaStoTwo
import Derived.Deep.CutBlock
import Derived.Deep.CutRange
import Derived.Deep.LoopGhost
namespace Go.Proofs.Ytmahbcpkilegpaa
open Go.RowKit St

/-- One act as it came in: its number, its n, its two names, its bytes, its numbers. -/
structure Ac where
  op : Int
  n : Int
  nm : ByteArray
  tn : ByteArray
  zs : List Int
  ks : List Int
def ac0 : Ac := ⟨0, 0, ByteArray.empty, ByteArray.empty, [], []⟩
def acV (a : Ac) (Ab : Option Addr) (cb : Nat) (Ak : Option Addr) (ck : Nat) : List Value := [.int .i64 a.op, .int .i64 a.n, .string a.nm, .string a.tn, .slice Ab a.zs.length cb, .slice Ak a.ks.length ck]
/-- What is told of one act at block b, offset o. -/
def AcAt (w : World) (b o : Nat) (a : Ac) : Prop := ∃ Ab cb Ak ck, (∀ j v, (acV a Ab cb Ak ck)[j]? = some v → w.cell? ⟨b, o + j, none⟩ = some v) ∧ Bytes w w.heap.size Ab a.zs ∧ Ints w Ak a.ks ∧ a.ks.length ≤ ck ∧
  a.nm.size ≤ 9223372036854775807 ∧ a.tn.size ≤ 9223372036854775807 ∧ -9223372036854775808 ≤ a.n ∧ a.n ≤ 9223372036854775807
/-- The row of acts that came in. -/
def Acts (w : World) (B : Nat) (A : Option Addr) (l : List Ac) : Prop := 0 < l.length → ∃ b off, A = some ⟨b, off, none⟩ ∧ b < B ∧ ∀ i, i < l.length → AcAt w b (off + i * 6) (l.getD i ac0)
theorem Acts.nil_ {w : World} {B : Nat} {A : Option Addr} : Acts w B A [] := fun h => by simp at h
/-- What an act makes of a store: what is answered, and the store then. -/
def playE (a : Ac) (s : S) : Int := if a.op = 0 then actE s (appE s (bs a.nm) a.zs.length) else if a.op = 1 then actE s (fnd s (bs a.nm) [bs a.nm]) else if a.op = 2 then actE s (cutE s (bs a.nm) a.n) else if a.op = 3 then actE s (fnd s (bs a.nm) [bs a.nm]) else actE s (fnd s (bs a.nm) [bs a.tn, bs a.nm])
def playS (a : Ac) (s : S) : S := if a.op = 0 then actS s (appE s (bs a.nm) a.zs.length) (appL s (bs a.nm) a.zs) else if a.op = 1 then actS s (fnd s (bs a.nm) [bs a.nm]) (swapL s (bs a.nm) (bs a.nm)) else if a.op = 2 then actS s (cutE s (bs a.nm) a.n) (cutL s (bs a.nm) a.n.toNat)
  else if a.op = 3 then actS s (fnd s (bs a.nm) [bs a.nm]) (del (bs a.nm) s.fs) else if a.op = 4 then actS s (fnd s (bs a.nm) [bs a.tn, bs a.nm]) (swapL s (bs a.nm) (bs a.tn)) else if a.op = 5 then crash s a.ks else if a.op = 6 then { s with off := false } else fuseS s a.n a.ks
theorem Strs.more {w : World} {B B' : Nat} {A : Option Addr} {ss : List ByteArray} (h : Strs w B A ss) (hB : B ≤ B') : Strs w B' A ss := ⟨h.1, fun hp => by
  obtain ⟨b, off, e, hlt, hc⟩ := h.2 hp
  exact ⟨b, off, e, Nat.lt_of_lt_of_le hlt hB, hc⟩⟩
/-- The reference's new store. -/
theorem two_start {w0 w : World} {T : Nat} {room : Nat} (h : Run w0 w T ⟨room, [], false, 0, []⟩) {w' : World} {R : Nat} (hb : Below w.heap.size w w') (hR : w.heap.size ≤ R) (ho : w'.heap[R]? = some (.cells #[.int .i64 (room : Int), .slice none 0 0, .bool false, .int .i64 0, .slice none 0 0] 46 (0, 0))) :
    Two w0 w' T R ⟨room, [], false, 0, []⟩ ⟨room, [], false, 0, []⟩ [] := by
  have hi := h.inv
  obtain ⟨own, p, hw, h0⟩ := h
  refine ⟨own, fun k => k = R, p.grow hb, ⟨0, [], fun _ => (none, 0), none, 0, none, 0, ?_, by omega, by omega, by simp⟩, fun k hk => ⟨hw k hk, fun e => by have := p.lt k hk; omega⟩, fun k hk => by have := h0.size; omega, h0.trans (hb.mono h0.size), fun g m => by cases m⟩
  refine ⟨⟨ho, World.ownsRow_nil _ _ _ _, fun f hf => by simp at hf, fun hp => by simp at hp, hi, rfl, fun h => by omega⟩, fun f hf => by simp at hf, ⟨by simp, .inl ⟨rfl, rfl⟩⟩, rfl, fun a ha => (by cases ha), fun f hf => by simp at hf, fun a ha => (by cases ha), fun k hk => by subst hk; exact some_lt ho⟩
set_option maxRecDepth 20000 in
set_option maxHeartbeats 16000000 in
theorem plays_walk (room : Int) (A : Option Addr) (l : List Ac) (cap : Nat) (w : World) (_ : -9223372036854775808 ≤ room) (_ : room ≤ 9223372036854775807) (hm : l.length ≤ 9223372036854775807) (_ : l.length ≤ cap) (hl : Acts w w.heap.size A l) :
    Calls Try.prog 4 #[.int .i64 room, .slice A l.length cap] w fun e w' => e = .returned (.bool true) ∧ Below w.heap.size w w' := by
  have AW := Lib.hid (awake_any w)
  have HL := Lib.hid hl
  clear hl
  by_cases hr : room < 1 ∨ 16777216 < room
  · have NB := Lib.hid (fun w' => new_bad room hr w')
    rcases hr with hr | hr
    all_goals
      go_enter Try.func4, Try.ntmps4
      go_wp2_with fail
      refine AW.out.mono ?_; rintro e w1 ⟨rfl, hb1⟩
      have B1 := Lib.hid hb1
      clear hb1
      go_wp2_with fail
      refine (NB.out w1).mono ?_; rintro e w' ⟨rfl, rfl⟩
      go_wp2
      go_ret
      exact ⟨rfl, B1.out⟩
  · obtain ⟨rm, rfl⟩ : ∃ rm : Nat, room = (rm : Int) := ⟨room.toNat, by omega⟩
    have h1 : ¬ (rm : Int) < 1 := by omega
    have h2 : ¬ (16777216 : Int) < (rm : Int) := by omega
    clear hr
    have NW := Lib.hid (fun (w1 : World) (hb : Below w.heap.size w w1) => new_run rm (rm : Int) rfl (by omega) (by omega) w w1 hb)
    by_cases h50 : (50 : Int) < (l.length : Int)
    · go_enter Try.func4, Try.ntmps4
      go_wp2_with fail
      refine AW.out.mono ?_; rintro e w1 ⟨rfl, hb1⟩
      have B1 := Lib.hid hb1
      clear hb1
      go_wp2_with fail
      refine (NW.out w1 B1.out).mono ?_; rintro e w2 ⟨T, rfl, r2⟩
      go_wp2
      go_ret
      exact ⟨rfl, r2.out.below⟩
    · go_enter Try.func4, Try.ntmps4
      go_wp2_with fail
      refine AW.out.mono ?_; rintro e w1 ⟨rfl, hb1⟩
      have B1 := Lib.hid hb1
      clear hb1
      go_wp2_with fail
      refine (NW.out w1 B1.out).mono ?_; rintro e w2 ⟨T, rfl, r2⟩
      have R2 : Hid (Run w w2 T ⟨rm, [], false, 0, []⟩) := r2
      clear r2
      go_upto_region 9 with fail
      have TW := Lib.hid (two_start (w' := w2.alloc (.cells #[.int .i64 (rm : Int), .slice none 0 0, .bool false, .int .i64 0, .slice none 0 0] 46)) (R := w2.heap.size) R2.out (one_alloc _ _) (Nat.le_refl _) (heap_alloc_new _ _))
      generalize w2.alloc (.cells #[.int .i64 (rm : Int), .slice none 0 0, .bool false, .int .i64 0, .slice none 0 0] 46) = wa at *
      generalize w2.heap.size = R at *
      clear R2 NW AW B1
      go_wp2_with fail
      go_loopg [8] l.length (fun k iv wr => ∃ i : Nat, i ≤ l.length ∧ k = l.length - i ∧ iv = .int .i64 (i : Int) ∧ ∃ s, Hid (Two w wr T R s s []))
      case atStart => exact ⟨0, Nat.zero_le _, rfl, rfl, _, TW⟩
      case round =>
        obtain ⟨i, hi, hk, rfl, s, TS⟩ := hrel
        subst hk
        clear TW
        by_cases hlt : i < l.length
        · obtain ⟨b, off, hA, hblt, hat⟩ := HL.out (by omega)
          obtain ⟨Ab, cb, Ak, ck, hcell, hby, hki, hck, hs1, hs2, hn1, hn2⟩ := hat i hlt
          obtain ⟨a, ha⟩ : ∃ a, a = l.getD i ac0 := ⟨_, rfl⟩
          rw [← ha] at hcell hby hki hck hs1 hs2 hn1 hn2
          clear ha hat
          obtain ⟨op, n, nm, tn, zs, ks⟩ := a
          have HC : Hid (∀ j v, (acV ⟨op, n, nm, tn, zs, ks⟩ Ab cb Ak ck)[j]? = some v → wr.cell? ⟨b, off + i * 6 + j, none⟩ = some v) := Lib.hid fun j v hv => (TS.out.below.cell (p := ⟨b, off + i * 6 + j, none⟩) hblt).trans (hcell j v hv)
          have e0 : wr.cell? ⟨b, off + i * 6, none⟩ = some (.int .i64 op) := HC.out 0 _ rfl
          have e1 : wr.cell? ⟨b, off + i * 6 + 1, none⟩ = some (.int .i64 n) := HC.out 1 _ rfl
          have e2 : wr.cell? ⟨b, off + i * 6 + 2, none⟩ = some (.string nm) := HC.out 2 _ rfl
          have e3 : wr.cell? ⟨b, off + i * 6 + 3, none⟩ = some (.string tn) := HC.out 3 _ rfl
          have e4 : wr.cell? ⟨b, off + i * 6 + 4, none⟩ = some (.slice Ab zs.length cb) := HC.out 4 _ rfl
          have e5 : wr.cell? ⟨b, off + i * 6 + 5, none⟩ = some (.slice Ak ks.length ck) := HC.out 5 _ rfl
          have BY : Hid (Bytes w w.heap.size Ab zs) := Lib.hid hby
          have KI : Hid (Ints w Ak ks) := Lib.hid hki
          replace hck : ks.length ≤ ck := hck
          replace hs1 : nm.size ≤ 9223372036854775807 := hs1
          replace hs2 : tn.size ≤ 9223372036854775807 := hs2
          replace hn1 : -9223372036854775808 ≤ n := hn1
          replace hn2 : n ≤ 9223372036854775807 := hn2
          clear hcell hby hki HC
          subst hA
          have hlt' : (i : Int) < (l.length : Int) := by omega
          by_cases hz : (2000 : Int) < (zs.length : Int)
          · go_wp2
            go_ret
            exact ⟨rfl, TS.out.below.alloc TS.out.below.size _⟩
          · by_cases hk70 : (70 : Int) < (ks.length : Int)
            · go_wp2
              go_ret
              exact ⟨rfl, TS.out.below.alloc TS.out.below.size _⟩
            · go_upto_block 2 with fail
              obtain ⟨bx, hbx⟩ : ∃ bx : Obj, bx = (.cells #[.int .i64 op, .int .i64 n, .string nm, .string tn, .slice Ab zs.length cb, .slice Ak ks.length ck] 48) := ⟨_, rfl⟩
              have TB := Lib.hid (TS.out.join (one_alloc wr bx) (Nat.le_refl _) (heap_alloc_new wr bx))
              rw [← hbx]
              have HBX := Lib.hid hbx
              clear hbx e0 e1 e2 e3 e4 e5
              generalize wr.alloc bx = wb at *
              generalize wr.heap.size = X at *
              have SC : Hid (∀ W s r, Two w W T R s r [(X, bx)] → W.cell? ⟨X, 1, none⟩ = some (.int .i64 n) ∧ W.cell? ⟨X, 2, none⟩ = some (.string nm) ∧ W.cell? ⟨X, 3, none⟩ = some (.string tn) ∧ W.cell? ⟨X, 4, none⟩ = some (.slice Ab zs.length cb) ∧ W.cell? ⟨X, 5, none⟩ = some (.slice Ak ks.length ck)) := Lib.hid fun W s r h => by
                have h := h.block (g := (X, bx)) (by simp)
                rw [show (X, bx).1 = X from rfl, show (X, bx).2 = bx from rfl, HBX.out] at h
                simp [World.cell?, h]
              have TBd := Lib.hid TB.out.drew
              go_cut [10] from 54 to 233 (fun okv wx => okv = .bool true ∧ Hid (Two w wx T R (playS ⟨op, n, nm, tn, zs, ks⟩ s) (playS ⟨op, n, nm, tn, zs, ks⟩ s) [(X, bx)]))
              case first =>
                by_cases o0 : op = 0
                · as_aux_lemma =>
                    subst o0
                    go_upto_region 20 with fail
                    go_region_held3 (fun w' => w'.cell? ⟨X, 1, none⟩ = some (.int .i64 n) ∧ w'.cell? ⟨X, 2, none⟩ = some (.string nm) ∧ w'.cell? ⟨X, 3, none⟩ = some (.string tn) ∧ w'.cell? ⟨X, 4, none⟩ = some (.slice Ab zs.length cb) ∧ w'.cell? ⟨X, 5, none⟩ = some (.slice Ak ks.length ck)) ((first | exact SC.out _ _ _ TBd.out | exact SC.out _ _ _ T3.out | exact SC.out _ _ _ T4.out | go_keep))
                      (first
                        | (go_simp; go_at_call 11; (with_reducible refine (append_p TBd.out nm hs1 Ab cb zs BY.out).mono ?_); rintro e w3 ⟨rfl, T3⟩)
                        | (go_simp; go_at_call 25; (with_reducible refine (append_r T3.out nm hs1 Ab cb zs BY.out).mono ?_); rintro e w4 ⟨rfl, T4⟩))
                    all_goals (go_wp2_with fail; go_meet; exact ⟨by first | rfl | simp, T4⟩)
                by_cases o1 : op = 1
                · as_aux_lemma =>
                    subst o1
                    go_upto_region 22 with fail
                    go_region_held3 (fun w' => w'.cell? ⟨X, 1, none⟩ = some (.int .i64 n) ∧ w'.cell? ⟨X, 2, none⟩ = some (.string nm) ∧ w'.cell? ⟨X, 3, none⟩ = some (.string tn) ∧ w'.cell? ⟨X, 4, none⟩ = some (.slice Ab zs.length cb) ∧ w'.cell? ⟨X, 5, none⟩ = some (.slice Ak ks.length ck)) ((first | exact SC.out _ _ _ TBd.out | exact SC.out _ _ _ T3.out | exact SC.out _ _ _ T4.out | go_keep))
                      (first
                        | (go_simp; go_at_call 12; (with_reducible refine (sync_p TBd.out nm hs1).mono ?_); rintro e w3 ⟨rfl, T3⟩)
                        | (go_simp; go_at_call 26; (with_reducible refine (sync_r T3.out nm hs1).mono ?_); rintro e w4 ⟨rfl, T4⟩))
                    all_goals (go_wp2_with fail; go_meet; exact ⟨by first | rfl | simp, T4⟩)
                by_cases o2 : op = 2
                · as_aux_lemma =>
                    subst o2
                    go_upto_region 24 with fail
                    go_region_held3 (fun w' => w'.cell? ⟨X, 1, none⟩ = some (.int .i64 n) ∧ w'.cell? ⟨X, 2, none⟩ = some (.string nm) ∧ w'.cell? ⟨X, 3, none⟩ = some (.string tn) ∧ w'.cell? ⟨X, 4, none⟩ = some (.slice Ab zs.length cb) ∧ w'.cell? ⟨X, 5, none⟩ = some (.slice Ak ks.length ck)) ((first | exact SC.out _ _ _ TBd.out | exact SC.out _ _ _ T3.out | exact SC.out _ _ _ T4.out | go_keep))
                      (first
                        | (go_simp; go_at_call 13; (with_reducible refine (cut_p TBd.out nm hs1 n).mono ?_); rintro e w3 ⟨rfl, T3⟩)
                        | (go_simp; go_at_call 27; (with_reducible refine (cut_r T3.out nm hs1 n).mono ?_); rintro e w4 ⟨rfl, T4⟩))
                    all_goals (go_wp2_with fail; go_meet; exact ⟨by first | rfl | simp, T4⟩)
                by_cases o3 : op = 3
                · as_aux_lemma =>
                    subst o3
                    go_upto_region 26 with fail
                    go_region_held3 (fun w' => w'.cell? ⟨X, 1, none⟩ = some (.int .i64 n) ∧ w'.cell? ⟨X, 2, none⟩ = some (.string nm) ∧ w'.cell? ⟨X, 3, none⟩ = some (.string tn) ∧ w'.cell? ⟨X, 4, none⟩ = some (.slice Ab zs.length cb) ∧ w'.cell? ⟨X, 5, none⟩ = some (.slice Ak ks.length ck)) ((first | exact SC.out _ _ _ TBd.out | exact SC.out _ _ _ T3.out | exact SC.out _ _ _ T4.out | go_keep))
                      (first
                        | (go_simp; go_at_call 15; (with_reducible refine (drop_p TBd.out nm hs1).mono ?_); rintro e w3 ⟨rfl, T3⟩)
                        | (go_simp; go_at_call 28; (with_reducible refine (drop_r T3.out nm hs1).mono ?_); rintro e w4 ⟨rfl, T4⟩))
                    all_goals (go_wp2_with fail; go_meet; exact ⟨by first | rfl | simp, T4⟩)
                by_cases o4 : op = 4
                · as_aux_lemma =>
                    subst o4
                    go_upto_region 28 with fail
                    go_region_held3 (fun w' => w'.cell? ⟨X, 1, none⟩ = some (.int .i64 n) ∧ w'.cell? ⟨X, 2, none⟩ = some (.string nm) ∧ w'.cell? ⟨X, 3, none⟩ = some (.string tn) ∧ w'.cell? ⟨X, 4, none⟩ = some (.slice Ab zs.length cb) ∧ w'.cell? ⟨X, 5, none⟩ = some (.slice Ak ks.length ck)) ((first | exact SC.out _ _ _ TBd.out | exact SC.out _ _ _ T3.out | exact SC.out _ _ _ T4.out | go_keep))
                      (first
                        | (go_simp; go_at_call 14; (with_reducible refine (swap_p TBd.out nm tn hs1 hs2).mono ?_); rintro e w3 ⟨rfl, T3⟩)
                        | (go_simp; go_at_call 29; (with_reducible refine (swap_r T3.out nm tn hs1 hs2).mono ?_); rintro e w4 ⟨rfl, T4⟩))
                    all_goals (go_wp2_with fail; go_meet; exact ⟨by first | rfl | simp, T4⟩)
                by_cases o5 : op = 5
                · as_aux_lemma =>
                    subst o5
                    obtain ⟨x1, x2, x3, x4, x5⟩ := SC.out _ _ _ TB.out
                    go_wp2_with fail
                    refine (crash_p TB.out Ak ks ck hck (by omega) KI.out).mono ?_; rintro e w3 ⟨rfl, T3⟩
                    obtain ⟨y1, y2, y3, y4, y5⟩ := SC.out _ _ _ T3.out
                    go_wp2_with fail
                    refine (crash_r T3.out Ak ks ck (by omega) KI.out).mono ?_; rintro e w4 ⟨rfl, T4⟩
                    go_wp2_with fail
                    go_meet
                    exact ⟨rfl, T4⟩
                by_cases o6 : op = 6
                · as_aux_lemma =>
                    subst o6
                    go_wp2_with fail
                    refine (on_p TB.out).mono ?_; rintro e w3 ⟨rfl, T3⟩
                    obtain ⟨v, z1, z2, z3⟩ := on_r T3.out
                    have T4 := Lib.hid z3
                    clear z3
                    go_wp2_with fail
                    go_meet
                    exact ⟨rfl, T4⟩
                as_aux_lemma =>
                  have PE : Hid (playS ⟨op, n, nm, tn, zs, ks⟩ s = fuseS s n ks) := Lib.hid (by simp [playS, o0, o1, o2, o3, o4, o5, o6])
                  obtain ⟨x1, x2, x3, x4, x5⟩ := SC.out _ _ _ TB.out
                  go_wp2_with fail
                  refine (fuse_p TB.out n hn2 Ak ks ck hck KI.out).mono ?_; rintro e w3 ⟨rfl, T3⟩
                  obtain ⟨y1, y2, y3, y4, y5⟩ := SC.out _ _ _ T3.out
                  go_wp2_with fail
                  refine (fuse_r T3.out n hn1 hn2 Ak ks ck (by omega) KI.out).mono ?_; rintro e w4 ⟨rfl, T4⟩
                  go_wp2_with fail
                  go_meet
                  exact ⟨rfl, by rw [PE.out]; exact T4⟩
              case rest =>
                obtain ⟨rfl, TP⟩ := hcut
                generalize playS ⟨op, n, nm, tn, zs, ks⟩ s = s2 at *
                clear TB TBd hn1 hn2 hck
                have SK : Hid (∀ W, Two w W T R s2 s2 [(X, bx)] → W.cell? ⟨X, 2, none⟩ = some (.string nm) ∧ W.cell? ⟨R, 2, none⟩ = some (.bool s2.off)) := Lib.hid fun W h => ⟨(SC.out _ _ _ h).2.1, two_off h⟩
                obtain ⟨x1, x2⟩ := SK.out _ TP.out
                go_wp2_with fail
                refine (read_p TP.out nm hs1).mono ?_; rintro e w5 ⟨A5, c5, rfl, o5, b5⟩
                have T5 := Lib.hid (TP.out.grow b5.out)
                obtain ⟨x3, x4⟩ := SK.out _ T5.out
                go_wp2_with fail
                refine (read_r T5.out nm hs1).mono ?_; rintro e w6 ⟨rfl, b6⟩
                have T6 := Lib.hid (T5.out.grow b6.out)
                have CV : Hid (∀ W, Below w6.heap.size w6 W → (convert 28 9 (.slice A5 (readL s2 (bs nm)).length c5)).run Try.prog W = .ok (.string (strOfNums (readL s2 (bs nm)))) W) := Lib.hid fun W hb =>
                  conv_str (((o5.out.bytes.below b6.out).more b6.out.size).below hb) c5
                clear x1 x2 x3 x4 o5
                generalize readL s2 (bs nm) = ys at *
                generalize readE s2 (bs nm) = er at *
                have T6d := Lib.hid T6.out.drew
                have S3 : Hid (∀ w', Two w w' T R s2 s2 [(X, bx)] → Below w6.heap.size w6 w' → w'.cell? ⟨X, 2, none⟩ = some (.string nm) ∧ w'.cell? ⟨R, 2, none⟩ = some (.bool s2.off) ∧ (convert 28 9 (.slice A5 ys.length c5)).run Try.prog w' = .ok (.string (strOfNums ys)) w') := Lib.hid fun W h hb => ⟨(SK.out W h).1, (SK.out W h).2, CV.out W hb⟩
                obtain ⟨x1, x2⟩ := SK.out _ T6.out
                have CNT : Hid (((s2.fs.map F.nm).map mkB).length ≤ 1000) := Lib.hid (by
                  obtain ⟨o1, o2, p, _⟩ := T6.out
                  have := p.inv.count
                  simp; omega)
                go_upto_region 37 with fail
                as_aux_lemma =>
                  go_region_held3 (fun w' => w'.cell? ⟨X, 2, none⟩ = some (.string nm) ∧ w'.cell? ⟨R, 2, none⟩ = some (.bool s2.off) ∧ (convert 28 9 (.slice A5 ys.length c5)).run Try.prog w' = .ok (.string (strOfNums ys)) w') ((first | exact S3.out _ T6d.out (Below.refl _ _).drew | exact S3.out _ T7.out BW7.out | exact S3.out _ T8.out BW8.out | exact S3.out _ T9.out BW9.out | exact S3.out _ T10.out BW10.out | go_keep))
                    (first
                      | (go_simp; go_at_call 16; (with_reducible refine (names_p T6d.out).mono ?_); rintro e w7 ⟨A7, c7, rfl, o7, b7⟩; have T7 := Lib.hid (T6d.out.grow b7.out); have BW7 := Lib.hid ((Below.refl w6.heap.size w6).drew.trans b7.out))
                      | (go_simp; go_at_call 33; (with_reducible refine (names_r T7.out).mono ?_); rintro e w8 ⟨A8, c8, rfl, o8, b8⟩; have T8 := Lib.hid (T7.out.grow b8.out); have BW8 := Lib.hid (BW7.out.trans (b8.out.mono BW7.out.size)))
                      | (go_simp; go_at_call 24; (with_reducible refine (texts_same A7 A8 ((s2.fs.map F.nm).map mkB) s2.fs.length s2.fs.length c7 c8 (by simp) (by simp) CNT.out w8 ((o7.out.below b8.out).more b8.out.size) o8.out).mono ?_); rintro e w9 ⟨rfl, j9, rfl⟩; have T9 := Lib.hid (T8.out.draw j9); have BW9 := Lib.hid (below_n BW8.out j9))
                      | (go_simp; go_at_call 18; (with_reducible refine (sure_p T9.out nm hs1).mono ?_); rintro e w9' ⟨rfl, rfl⟩)
                      | (go_simp; go_at_call 34; (with_reducible refine (sure_r T9.out nm).mono ?_); rintro e w9' ⟨rfl, rfl⟩)
                      | (go_simp; go_at_call 19; (with_reducible refine (free_p T9.out).mono ?_); rintro e w10 ⟨rfl, b10⟩; have T10 := Lib.hid (T9.out.grow b10.out); have BW10 := Lib.hid (BW9.out.trans (b10.out.mono BW9.out.size)))
                      | (go_simp; go_at_call 35; (with_reducible refine (free_r T10.out).mono ?_); rintro e w10' ⟨rfl, rfl⟩)
                      | (go_simp; go_at_call 22; (with_reducible refine (off_p T10.out).mono ?_); rintro e w10' ⟨rfl, rfl⟩))
                  all_goals
                    go_wp2
                    go_roundg (l.length - (i + 1))
                    case measure => omega
                    case rel => exact ⟨i + 1, hlt, rfl, by go_num, s2, Lib.hid (T10.out.fewer fun g hg => by cases hg)⟩
        · have e : i = l.length := by omega
          subst e
          have hge : ¬ (l.length : Int) < (l.length : Int) := by omega
          go_wp2
          go_ret
          exact ⟨rfl, TS.out.below⟩
end Go.Proofs.Ytmahbcpkilegpaa
