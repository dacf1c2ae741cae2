/-
  The reference's wheel in memory; its find, At, Len and Next.
-/
import Derived.Test.YtaieoneilljagaaWhPlain
import Derived.Test.YtaieoneilljagaaOnly
namespace Go.Proofs.Ytaieoneilljagaa
open Go.RowKit
def is64 (z : Int) : Prop := -9223372036854775808 ≤ z ∧ z ≤ 9223372036854775807
def Wh.T.ok (a : Wh.T) : Prop := is64 a.run ∧ is64 a.task ∧ is64 a.at_
/-- The slice at address A holds the timers l, in a block of O. -/
def Dues (w : World) (O : Nat → Prop) (A : Option Addr) (l : List Wh.T) : Prop :=
  (∀ a ∈ l, a.ok) ∧ (0 < l.length → ∃ b off, A = some ⟨b, off, none⟩ ∧ O b ∧ b < w.heap.size ∧ ∀ i (hi : i < l.length), w.cell? ⟨b, off + i * 3, none⟩ = some (.int .i64 l[i].run) ∧ w.cell? ⟨b, off + i * 3 + 1, none⟩ = some (.int .i64 l[i].task) ∧ w.cell? ⟨b, off + i * 3 + 2, none⟩ = some (.int .i64 l[i].at_))
theorem Dues.nil_ {w : World} {O : Nat → Prop} {A : Option Addr} : Dues w O A [] := ⟨fun a h => by simp at h, fun h => by simp at h⟩
theorem Dues.keep {w w' : World} {O : Nat → Prop} {A : Option Addr} {l : List Wh.T} (h : Dues w O A l) (hs : w.heap.size ≤ w'.heap.size) (hk : ∀ b, O b → b < w.heap.size → (∃ off, A = some ⟨b, off, none⟩) → w'.heap[b]? = w.heap[b]?) : Dues w' O A l :=
  ⟨h.1, fun hn => by
    obtain ⟨b, off, e, ho, hb, hc⟩ := h.2 hn
    have hblk := hk b ho hb ⟨off, e⟩
    have hcell : ∀ o, w'.cell? ⟨b, o, none⟩ = w.cell? ⟨b, o, none⟩ := fun o => World.cell?_of_block (w := w) hblk
    exact ⟨b, off, e, ho, Nat.lt_of_lt_of_le hb hs, fun i hi => ⟨(hcell _).trans (hc i hi).1, (hcell _).trans (hc i hi).2.1, (hcell _).trans (hc i hi).2.2⟩⟩⟩
theorem Dues.at_ {w : World} {O : Nat → Prop} {A : Option Addr} {l : List Wh.T} {k : Nat} (h : Dues w O A l) (hk : k < l.length) :
    ∃ b off a, A = some ⟨b, off, none⟩ ∧ Hid (O b) ∧ Hid (l[k]? = some a) ∧ w.cell? ⟨b, off + k * 3, none⟩ = some (.int .i64 a.run) ∧ w.cell? ⟨b, off + k * 3 + 1, none⟩ = some (.int .i64 a.task) ∧ w.cell? ⟨b, off + k * 3 + 2, none⟩ = some (.int .i64 a.at_) ∧ Hid a.ok := by
  obtain ⟨b, off, e, ho, hb, hc⟩ := h.2 (by omega)
  exact ⟨b, off, l[k], e, Lib.hid ho, Lib.hid (List.getElem?_eq_getElem hk), (hc k hk).1, (hc k hk).2.1, (hc k hk).2.2, Lib.hid (h.1 _ (List.getElem_mem hk))⟩
/-- The reference's wheel at block g is in state s; O are its blocks. -/
structure RW (w : World) (g : Nat) (O : Nat → Prop) (s : Wh.S) : Prop where
  obj : ∃ A cap, w.heap[g]? = some (.cells #[.int .i64 s.now, .slice A s.l.length cap] 44 (0, 0)) ∧ s.l.length ≤ cap ∧ Dues w O A s.l
  own : O g
  lt : ∀ i, O i → i < w.heap.size
  now : is64 s.now
  few : s.l.length ≤ 1000000
theorem RW.keep {w w' : World} {g : Nat} {O : Nat → Prop} {s : Wh.S} (h : RW w g O s) (hs : w.heap.size ≤ w'.heap.size) (hk : ∀ i, O i → w'.heap[i]? = w.heap[i]?) : RW w' g O s := by
  obtain ⟨A, cap, h1, h2, h3⟩ := h.obj
  exact ⟨⟨A, cap, (hk g h.own).trans h1, h2, h3.keep hs fun b ho _ _ => hk b ho⟩, h.own, fun i hi => Nat.lt_of_lt_of_le (h.lt i hi) hs, h.now, h.few⟩
theorem RW.on {w w' : World} {g : Nat} {O : Nat → Prop} {s : Wh.S} (h : RW w g O s) (hb : Below w.heap.size w w') : RW w' g O s := h.keep hb.size fun i hi => hb.block i (h.lt i hi)
/-- The first place of a key, -1 if there is none. -/
def Wh.idx (l : List Wh.T) (run task : Int) : Int := match l.findIdx? (fun a => Wh.same a run task) with
  | some i => (i : Int)
  | none => -1
theorem Wh.idx_at {l : List Wh.T} {run task : Int} {k : Nat} {a : Wh.T} (ha : l[k]? = some a) (hs : Wh.same a run task = true) (hb : ∀ i (hi : i < l.length), i < k → Wh.same l[i] run task = false) : Wh.idx l run task = (k : Int) := by
  unfold Wh.idx
  have hk : k < l.length := by
    rcases Nat.lt_or_ge k l.length with h | h
    · exact h
    · rw [List.getElem?_eq_none h] at ha; cases ha
  have e : l.findIdx? (fun a => Wh.same a run task) = some k := by
    rw [List.findIdx?_eq_some_iff_getElem]
    rw [List.getElem?_eq_getElem hk] at ha
    injection ha with ha
    exact ⟨hk, by rw [ha]; exact hs, fun j hj => by rw [hb j (by omega) hj]; simp⟩
  rw [e]
theorem Wh.idx_no {l : List Wh.T} {run task : Int} (hb : ∀ i (hi : i < l.length), Wh.same l[i] run task = false) : Wh.idx l run task = -1 := by
  unfold Wh.idx
  have e : l.findIdx? (fun a => Wh.same a run task) = none := by
    rw [List.findIdx?_eq_none_iff]
    intro a ha
    obtain ⟨i, hi, rfl⟩ := List.getElem_of_mem ha
    exact hb i hi
  rw [e]
theorem obW {w : World} {g : Nat} {x y : Value} {t : TypeId} (h : w.heap[g]? = some (.cells #[x, y] t (0, 0))) :
    (w.cell? ⟨g, 0, none⟩ = some x ∧ w.cell? ⟨g, 1, none⟩ = some y) ∧ (w.frozen? ⟨g, 0, none⟩ = false ∧ w.frozen? ⟨g, 1, none⟩ = false) :=
  ⟨⟨by simp [World.cell?, h], by simp [World.cell?, h]⟩, ⟨by simp [World.frozen?, h], by simp [World.frozen?, h]⟩⟩
set_option maxHeartbeats 2000000 in
theorem refFind_any (g : Nat) (O : Nat → Prop) (s : Wh.S) (run task : Int) (w : World) (h : RW w g O s) :
    Calls Try.prog 25 #[.pointer (some ⟨g, 0, none⟩), .int .i64 run, .int .i64 task] w fun e w' => e = .returned (.int .i64 (Wh.idx s.l run task)) ∧ w = w' := by
  obtain ⟨A, cap, h1, h2, h3⟩ := h.obj
  obtain ⟨⟨x0, x1⟩, -⟩ := obW h1
  have H3 := Lib.hid h3
  have hf := h.few
  obtain ⟨n, hn⟩ : ∃ n, n = s.l.length := ⟨_, rfl⟩
  have HN := Lib.hid hn
  rw [← hn] at x1 hf
  clear h h1 h2 h3 hn
  go_enter Try.func25, Try.ntmps25
  go_wp2_with fail
  go_loopw [7] (fun iv wr => ∃ k : Nat, k ≤ n ∧ iv = .int .i64 k ∧ Hid (∀ i (hi : i < s.l.length), i < k → Wh.same s.l[i] run task = false) ∧ wr = w) (fun iv _ => n - (intOf iv).toNat)
  case atStart => exact ⟨0, Nat.zero_le _, rfl, Lib.hid fun i hi h => by omega, rfl⟩
  case round =>
    obtain ⟨k, hk, rfl, HK, rfl⟩ := hrel
    by_cases hlt : k < n
    · have hlt' : (k : Int) < (n : Int) := by omega
      obtain ⟨b, off, a, rfl, -, ha, c0, c1, c2, -⟩ := H3.out.at_ (k := k) (by rw [← HN.out]; exact hlt)
      have step : Hid (Wh.same a run task = false → ∀ i (hi : i < s.l.length), i < k + 1 → Wh.same s.l[i] run task = false) := Lib.hid fun hs i hi hik => by
        rcases Nat.lt_or_ge i k with h | h
        · exact HK.out i hi h
        · obtain rfl : i = k := by omega
          have := ha.out
          rw [List.getElem?_eq_getElem hi] at this
          injection this with this
          rw [this]; exact hs
      by_cases hr : a.run = run
      · by_cases ht : a.task = task
        · have E : Hid (Wh.idx s.l run task = (k : Int)) := Lib.hid (Wh.idx_at ha.out (Wh.same_iff.2 ⟨hr, ht⟩) HK.out)
          subst hr ht
          go_wp2
          go_ret
          exact ⟨ret_int E.out.symm, rfl⟩
        · have hd : (a.task == task) = false := by simpa using ht
          have HK' := Lib.hid (step.out (by unfold Wh.same; rw [hd, Bool.and_false]))
          subst hr
          clear ht step
          go_wp2
          go_roundw
          case rel => exact ⟨k + 1, by omega, by go_num, HK', trivial⟩
          case measure => simp [intOf]; omega
      · have hd : (a.run == run) = false := by simpa using hr
        have HK' := Lib.hid (step.out (by unfold Wh.same; rw [hd, Bool.false_and]))
        clear hr step
        go_wp2
        go_roundw
        case rel => exact ⟨k + 1, by omega, by go_num, HK', trivial⟩
        case measure => simp [intOf]; omega
    · obtain rfl : n = k := by omega
      have E : Hid (Wh.idx s.l run task = -1) := Lib.hid (Wh.idx_no fun i hi => HK.out i hi (by rw [HN.out]; exact hi))
      go_wp2
      go_ret
      exact ⟨ret_int E.out.symm, rfl⟩
theorem refLen_any (g : Nat) (O : Nat → Prop) (s : Wh.S) (w : World) (h : RW w g O s) :
    Calls Try.prog 21 #[.pointer (some ⟨g, 0, none⟩)] w fun e w' => e = .returned (.int .i64 (s.l.length : Int)) ∧ w = w' := by
  obtain ⟨A, cap, h1, h2, h3⟩ := h.obj
  obtain ⟨⟨x0, x1⟩, -⟩ := obW h1
  clear h h1 h2 h3
  go_enter Try.func21, Try.ntmps21
  go_wp2
  go_ret
  exact ⟨rfl, rfl⟩
theorem refNext_any (g : Nat) (O : Nat → Prop) (s : Wh.S) (w : World) (h : RW w g O s) :
    Calls Try.prog 19 #[.pointer (some ⟨g, 0, none⟩)] w fun e w' => e = .returned (.tuple #[.int .i64 ((Wh.nextV s).getD 0), .bool (Wh.nextV s).isSome]) ∧ w = w' := by
  obtain ⟨A, cap, h1, h2, h3⟩ := h.obj
  obtain ⟨⟨x0, x1⟩, -⟩ := obW h1
  have H3 := Lib.hid h3
  clear h h1 h2 h3
  cases hl : s.l with
  | nil =>
    have E : Hid (Wh.nextV s = none) := Lib.hid (by unfold Wh.nextV; rw [hl]; rfl)
    rw [hl] at x1
    clear hl H3
    go_enter Try.func19, Try.ntmps19
    go_wp2_with fail
    refine bodyPost_ret (v := .tuple #[.int .i64 0, .bool false]) (by simp [results, Try.results19, go_sem]) rfl ?_
    rw [E.out]
    exact ⟨rfl, rfl⟩
  | cons a r =>
    have E : Hid (Wh.nextV s = some a.at_) := Lib.hid (by unfold Wh.nextV; rw [hl]; rfl)
    obtain ⟨b, off, a', rfl, -, ha, c0, c1, c2, -⟩ := H3.out.at_ (k := 0) (by rw [hl]; simp)
    have hd : ((s.l.length : Int) == 0) = false := by rw [hl]; simp; omega
    have h0 : 0 < s.l.length := by rw [hl]; simp
    have h0' : 0 < (s.l.length : Int) := by omega
    obtain rfl : a = a' := by have := ha.out; rw [hl] at this; simpa using this
    rw [Nat.zero_mul, Nat.add_zero] at c0 c1 c2
    obtain ⟨n, hn⟩ : ∃ n, n = s.l.length := ⟨_, rfl⟩
    rw [← hn] at x1 hd h0 h0'
    clear hl H3 ha hn
    go_enter Try.func19, Try.ntmps19
    go_wp2_with fail
    refine bodyPost_ret (v := .tuple #[.int .i64 a.at_, .bool true]) (by simp [results, Try.results19, go_sem]) rfl ?_
    rw [E.out]
    exact ⟨rfl, rfl⟩
/-- The place of a key and the timer itself. -/
theorem Wh.find_idx (l : List Wh.T) (run task : Int) : (Wh.idx l run task = -1 ∧ l.find? (fun a => Wh.same a run task) = none) ∨ ∃ (k : Nat) (a : Wh.T), Wh.idx l run task = (k : Int) ∧ k < l.length ∧ l[k]? = some a ∧ l.find? (fun a => Wh.same a run task) = some a := by
  unfold Wh.idx
  cases h : l.findIdx? (fun a => Wh.same a run task) with
  | none =>
    left
    rw [List.findIdx?_eq_none_iff] at h
    exact ⟨rfl, List.find?_eq_none.2 fun a ha => by rw [h a ha]; simp⟩
  | some k =>
    right
    rw [List.findIdx?_eq_some_iff_getElem] at h
    obtain ⟨hk, h1, h2⟩ := h
    exact ⟨k, l[k], rfl, hk, List.getElem?_eq_getElem hk, List.find?_eq_some_iff_getElem.2 ⟨h1, k, hk, rfl, fun j hj => by have := h2 j hj; simpa using this⟩⟩
set_option maxHeartbeats 2000000 in
theorem refAt_any (g : Nat) (O : Nat → Prop) (s : Wh.S) (run task : Int) (w : World) (h : RW w g O s) :
    Calls Try.prog 18 #[.pointer (some ⟨g, 0, none⟩), .int .i64 run, .int .i64 task] w fun e w' => e = .returned (.tuple #[.int .i64 ((Wh.atV s run task).getD 0), .bool (Wh.atV s run task).isSome]) ∧ w = w' := by
  have FI : Hid (Calls Try.prog 25 #[.pointer (some ⟨g, 0, none⟩), .int .i64 run, .int .i64 task] w fun e w' => e = .returned (.int .i64 (Wh.idx s.l run task)) ∧ w = w') := Lib.hid (refFind_any g O s run task w h)
  obtain ⟨A, cap, h1, h2, h3⟩ := h.obj
  obtain ⟨⟨x0, x1⟩, -⟩ := obW h1
  have H3 := Lib.hid h3
  have hf := h.few
  rcases Wh.find_idx s.l run task with ⟨e1, e2⟩ | ⟨k, a, e1, hk, ha, e2⟩
  · have E : Hid (Wh.atV s run task = none) := Lib.hid (by unfold Wh.atV Wh.findV; rw [e2]; rfl)
    rw [e1] at FI
    clear h h1 h2 h3 e1 e2 H3
    go_enter Try.func18, Try.ntmps18
    go_wp2_with fail
    (with_reducible refine FI.out.mono ?_); rintro e _ ⟨rfl, rfl⟩
    go_wp2_with fail
    refine bodyPost_ret (v := .tuple #[.int .i64 0, .bool false]) (by simp [results, Try.results18, go_sem]) rfl ?_
    rw [E.out]
    exact ⟨rfl, rfl⟩
  · have E : Hid (Wh.atV s run task = some a.at_) := Lib.hid (by unfold Wh.atV Wh.findV; rw [e2]; rfl)
    rw [e1] at FI
    obtain ⟨b, off, a', rfl, -, ha', c0, c1, c2, -⟩ := H3.out.at_ hk
    obtain rfl : a = a' := by have := ha.symm.trans ha'.out; injection this
    have hk' : (k : Int) < (s.l.length : Int) := by omega
    obtain ⟨n, hn⟩ : ∃ n, n = s.l.length := ⟨_, rfl⟩
    rw [← hn] at x1 hk hk' hf
    clear h h1 h2 h3 e1 e2 H3 ha ha' hn
    go_enter Try.func18, Try.ntmps18
    go_wp2_with fail
    (with_reducible refine FI.out.mono ?_); rintro e _ ⟨rfl, rfl⟩
    go_wp2_with fail
    refine bodyPost_ret (v := .tuple #[.int .i64 a.at_, .bool true]) (by simp [results, Try.results18, go_sem]) rfl ?_
    rw [E.out]
    exact ⟨rfl, rfl⟩
end Go.Proofs.Ytaieoneilljagaa
