/-
  The program's Next: the least tick of all timers.
-/
import Derived.Test.YtaieoneilljagaaWhPrA
import Derived.Lib.MinMax
namespace Go.Proofs.Ytaieoneilljagaa
open Go.RowKit Go.Maps
set_option maxRecDepth 20000
/-- v is the least of the greatest tick and the ticks of those timers that are no longer to come. -/
structure LeastOf (l todo : List Wh.T) (v : Int) : Prop where
  le : v ≤ 1099511627776
  all : ∀ t ∈ l, t ∉ todo → v ≤ t.at_
  one : v = 1099511627776 ∨ ∃ t ∈ l, t.at_ = v
theorem LeastOf.step {l todo : List Wh.T} {v : Int} (h : LeastOf l todo v) {p q c : Int} (hm : (⟨p, q, c⟩ : Wh.T) ∈ l) (hO : Wh.Once l) : LeastOf l (Wh.del p q todo) (min v c) := by
  refine ⟨by have := h.le; omega, fun t htl hnt => ?_, ?_⟩
  · by_cases hto : t ∈ todo
    · have hs : Wh.same t p q = true := by
        cases hs : Wh.same t p q with
        | true => rfl
        | false => exact absurd (Wh.mem_del.2 ⟨hto, hs⟩) hnt
      have e := hO.inj htl hm (Wh.same_iff.1 hs)
      rw [e]
      exact Int.min_le_right _ _
    · exact Int.le_trans (Int.min_le_left _ _) (h.all t htl hto)
  · rcases Int.le_total v c with hvc | hvc
    · rw [Int.min_eq_left hvc]; exact h.one
    · rw [Int.min_eq_right hvc]; exact .inr ⟨_, hm, rfl⟩
theorem LeastOf.done {s : Wh.S} (hI : Wh.Inv s) {v : Int} (h : LeastOf s.l [] v) {a : Wh.T} {r : List Wh.T} (hl : s.l = a :: r) : v = a.at_ := by
  have h1 := h.all a (by rw [hl]; simp) (by simp)
  have h2 := (hI.late a (by rw [hl]; simp)).2
  rcases h.one with e | ⟨t, ht, e⟩
  · omega
  · rw [hl] at ht
    rcases List.mem_cons.1 ht with rfl | ht
    · exact e.symm
    · have hs := hI.sorted
      rw [hl] at hs
      have := Wh.less_iff.1 ((List.pairwise_cons.1 hs).1 t ht)
      omega
theorem TMap.once {w : World} {m : Nat} {l : List Wh.T} (h : TMap w m l) : Wh.Once l := by obtain ⟨_, _, h⟩ := h; exact h.once
theorem TMap.ok {w : World} {m : Nat} {l : List Wh.T} (h : TMap w m l) : ∀ t ∈ l, Wh.T.ok t := by obtain ⟨_, _, h⟩ := h; exact h.ok
set_option maxHeartbeats 2000000 in
theorem wheelNext_any (g : Nat) (O : Nat → Prop) (s : Wh.S) (w : World) (h : PW w g O s) (hI : Wh.Inv s) (_ : s.l.length ≤ 999999) :
    Calls Try.prog 10 #[.pointer (some ⟨g, 0, none⟩)] w fun e w' => e = .returned (.tuple #[.int .i64 ((Wh.nextV s).getD 0), .bool (Wh.nextV s).isSome]) ∧ Hid (Below w.heap.size w w') := by
  obtain ⟨m, p, ho⟩ := h
  obtain ⟨⟨c0, c1⟩, -⟩ := obW p.obj
  have HL := fun ty => p.map.len ty
  have HM := Lib.hid p.map
  have HI := Lib.hid hI
  have HO := Lib.hid p.map.once
  have ML := Lib.hid p.ltm
  cases hl : s.l with
  | nil =>
    have E : Wh.nextV s = none := by unfold Wh.nextV; rw [hl]; rfl
    rw [E]
    rw [hl] at HL
    clear p ho hI hl HM HO HI
    go_enter Try.func10, Try.ntmps10
    go_wp2
    go_ret2
    exact ⟨rfl, Lib.hid (Below.refl _ _)⟩
  | cons a r =>
    have E : Hid (Wh.nextV s = some a.at_) := Lib.hid (by unfold Wh.nextV; rw [hl]; rfl)
    have hn : ((s.l.length : Int) == 0) = false := by rw [hl]; simp; omega
    have HN := Lib.hid hl
    generalize hk : s.l.length = k at HL hn
    clear p ho hI hl hk
    go_enter Try.func10, Try.ntmps10
    go_wp2_with (first | (at_range; refine wp_trange rfl _ rfl rfl HM.out ?_; intro w0 hr0 hg0 hs0) | go_in)
    go_frame
    have R0 := Lib.hid hr0
    have B0 : Hid (Below w.heap.size w w0) := Lib.hid ((Below.refl _ _).grown hg0 (Nat.le_refl _) (fun j hj => by cases hj))
    clear hr0 hg0 hs0
    go_loopw [4, 6] (fun v _ wr => ∃ (n : Int) (todo : List Wh.T), TRange wr m w.heap.size s.l todo ∧ v = .int .i64 n ∧ LeastOf s.l todo n ∧ Below w.heap.size w wr) (fun _ _ wr => wr.rangeLeft m w.heap.size)
    case atStart => exact ⟨_, s.l, R0.out, rfl, ⟨Int.le_refl _, fun t h1 h2 => absurd h1 h2, .inl rfl⟩, B0.out⟩
    case round =>
      obtain ⟨n, todo, hrg, rfl, hle, hbl⟩ := hrel
      have RG := Lib.hid hrg
      have LE := Lib.hid hle
      have BL := Lib.hid hbl
      clear hrg hle hbl
      go_wp2_with (first
        | (at_next; refine wp_tnext rfl _ rfl rfl RG.out ?_ ?_)
        | go_in)
      · intro h0
        have ED : Hid (n = a.at_) := Lib.hid (by have := LE.out; rw [h0] at this; exact this.done HI.out HN.out)
        clear h0
        go_wp2
        go_ret2
        exact ⟨by rw [E.out, ED.out]; rfl, Lib.hid BL.out⟩
      · intro p q c w2 hm hr2 hlt hg2 hs2 hen
        have hin : ∀ t ∈ todo, t ∈ s.l := fun t ht => RG.out.mem ht
        have ST := Lib.hid (LE.out.step (hin _ hm) HO.out)
        have R2 := Lib.hid hr2
        have LT := Lib.hid hlt
        have B2 : Hid (Below w.heap.size w w2) := Lib.hid (BL.out.grown hg2 BL.out.size (fun j hj => by cases hj; exact Nat.le_refl _))
        clear hm hr2 hlt hg2 hs2 hin
        go_wp2
        go_roundw
        case rel => exact ⟨_, _, R2.out, rfl, ST.out, B2.out⟩
        case measure => exact LT.out
end Go.Proofs.Ytaieoneilljagaa
