/-
  The reference's keys in memory; NewKeys and Get.
-/
import Derived.Test.YteppokokabgniaaKyPlain
import Derived.Test.YteppokokabgniaaOnly
namespace Go.Proofs.Yteppokokabgniaa
open Go.RowKit
/-- Texts and a number that a program can hold. -/
def Ky.okk (n k : ByteArray) : Prop := n.size ≤ 9223372036854775807 ∧ k.size ≤ 9223372036854775807
def Ky.ok (n k : ByteArray) (id : Int) : Prop := Ky.okk n k ∧ is64 id
theorem Ky.okd {n k : ByteArray} {id : Int} (h : decide ((n.size ≤ 9223372036854775807 ∧ k.size ≤ 9223372036854775807) ∧ -9223372036854775808 ≤ id ∧ id ≤ 9223372036854775807) = true) : Ky.ok n k id := by
  have h' := of_decide_eq_true h
  exact h'
theorem Ky.ok.k {n k : ByteArray} {id : Int} (h : Ky.ok n k id) : Ky.okk n k := h.1
def Ky.okp (p : ByteArray × ByteArray) : Prop := Ky.okk p.1 p.2
/-- The slice at address A holds the entries l, in a block of O. -/
def Ents (w : World) (O : Nat → Prop) (A : Option Addr) (l : List Ky.T) : Prop :=
  0 < l.length → ∃ b off, A = some ⟨b, off, none⟩ ∧ O b ∧ b < w.heap.size ∧ ∀ i (hi : i < l.length), w.cell? ⟨b, off + i * 3, none⟩ = some (.string l[i].name) ∧ w.cell? ⟨b, off + i * 3 + 1, none⟩ = some (.string l[i].key) ∧ w.cell? ⟨b, off + i * 3 + 2, none⟩ = some (.int .i64 l[i].id)
theorem Ents.nil_ {w : World} {O : Nat → Prop} {A : Option Addr} : Ents w O A [] := fun h => by simp at h
theorem Ents.keep {w w' : World} {O : Nat → Prop} {A : Option Addr} {l : List Ky.T} (h : Ents w O A l) (hs : w.heap.size ≤ w'.heap.size) (hk : ∀ b, O b → b < w.heap.size → w'.heap[b]? = w.heap[b]?) : Ents w' O A l :=
  fun hn => by
    obtain ⟨b, off, e, ho, hb, hc⟩ := h hn
    have hcell : ∀ o, w'.cell? ⟨b, o, none⟩ = w.cell? ⟨b, o, none⟩ := fun o => World.cell?_of_block (w := w) (hk b ho hb)
    exact ⟨b, off, e, ho, Nat.lt_of_lt_of_le hb hs, fun i hi => ⟨(hcell _).trans (hc i hi).1, (hcell _).trans (hc i hi).2.1, (hcell _).trans (hc i hi).2.2⟩⟩
theorem Ents.at_ {w : World} {O : Nat → Prop} {A : Option Addr} {l : List Ky.T} {k : Nat} (h : Ents w O A l) (hk : k < l.length) :
    ∃ b off a, A = some ⟨b, off, none⟩ ∧ Hid (O b) ∧ Hid (l[k]? = some a) ∧ w.cell? ⟨b, off + k * 3, none⟩ = some (.string a.name) ∧ w.cell? ⟨b, off + k * 3 + 1, none⟩ = some (.string a.key) ∧ w.cell? ⟨b, off + k * 3 + 2, none⟩ = some (.int .i64 a.id) := by
  obtain ⟨b, off, e, ho, hb, hc⟩ := h (by omega)
  exact ⟨b, off, l[k], e, Lib.hid ho, Lib.hid (List.getElem?_eq_getElem hk), (hc k hk).1, (hc k hk).2.1, (hc k hk).2.2⟩
/-- The reference's keys at block g are in state s; O are their blocks. -/
structure RK (w : World) (g : Nat) (O : Nat → Prop) (s : Ky.S) : Prop where
  obj : ∃ A cap, w.heap[g]? = some (.cells #[.int .i64 s.most, .slice A s.l.length cap] 45 (0, 0)) ∧ s.l.length ≤ cap ∧ Ents w O A s.l
  own : O g
  lt : ∀ i, O i → i < w.heap.size
  inv : Ky.Inv s
theorem RK.keep {w w' : World} {g : Nat} {O : Nat → Prop} {s : Ky.S} (h : RK w g O s) (hs : w.heap.size ≤ w'.heap.size) (hk : ∀ i, O i → w'.heap[i]? = w.heap[i]?) : RK w' g O s := by
  obtain ⟨A, cap, h1, h2, h3⟩ := h.obj
  exact ⟨⟨A, cap, (hk g h.own).trans h1, h2, h3.keep hs fun b ho _ => hk b ho⟩, h.own, fun i hi => Nat.lt_of_lt_of_le (h.lt i hi) hs, h.inv⟩
theorem RK.on {w w' : World} {g : Nat} {O : Nat → Prop} {s : Ky.S} (h : RK w g O s) (hb : Below w.heap.size w w') : RK w' g O s := h.keep hb.size fun i hi => hb.block i (h.lt i hi)
theorem Ky.find_at {l : List Ky.T} {n k : ByteArray} {i : Nat} {a : Ky.T} (ha : l[i]? = some a) (hs : Ky.same a n k = true) (hb : ∀ j (hj : j < l.length), j < i → Ky.same l[j] n k = false) : l.find? (fun a => Ky.same a n k) = some a := by
  have hk : i < l.length := by
    rcases Nat.lt_or_ge i l.length with h | h
    · exact h
    · rw [List.getElem?_eq_none h] at ha; cases ha
  rw [List.getElem?_eq_getElem hk] at ha
  injection ha with ha
  exact List.find?_eq_some_iff_getElem.2 ⟨hs, i, hk, ha, fun j hj => by rw [hb j (by omega) hj]; rfl⟩
theorem obK {w : World} {g : Nat} {x y : Value} {t : TypeId} (h : w.heap[g]? = some (.cells #[x, y] t (0, 0))) :
    (w.cell? ⟨g, 0, none⟩ = some x ∧ w.cell? ⟨g, 1, none⟩ = some y) ∧ (w.frozen? ⟨g, 0, none⟩ = false ∧ w.frozen? ⟨g, 1, none⟩ = false) :=
  ⟨⟨by simp [World.cell?, h], by simp [World.cell?, h]⟩, ⟨by simp [World.frozen?, h], by simp [World.frozen?, h]⟩⟩
set_option maxHeartbeats 2000000 in
theorem refNewK_any (m : Int) (w : World) :
    Calls Try.prog 13 #[.int .i64 m] w fun e w' => ∃ g, e = .returned (.pointer (some ⟨g, 0, none⟩)) ∧ w.heap.size ≤ g ∧ RK w' g (fun i => i = g) (Ky.newS m) ∧ Below w.heap.size w w' := by
  have C : Hid (∀ z, Ky.clamp m = z → ∀ w0, Below w.heap.size w w0 → ∀ w1, w1 = w0.alloc (.cells #[.int .i64 z, .slice none 0 0] 45 (0, 0)) → RK w1 w0.heap.size (fun i => i = w0.heap.size) (Ky.newS m) ∧ Below w.heap.size w w1) := Lib.hid (by
    rintro z rfl w0 hb _ rfl
    refine ⟨⟨⟨none, 0, by unfold World.alloc; simp [Ky.newS], Nat.le_refl _, Ents.nil_⟩, rfl, fun i hi => ?_, Ky.Inv.new m⟩, hb.alloc hb.size _⟩
    subst hi
    unfold World.alloc; simp)
  go_enter Try.func13, Try.ntmps13
  by_cases h1 : m < 1
  · have e : Ky.clamp m = 1 := by unfold Ky.clamp; rw [if_pos h1]
    go_wp2
    go_ret
    obtain ⟨a, b⟩ := C.out 1 e w (Below.refl _ _) _ rfl
    exact ⟨_, rfl, Nat.le_refl _, a, b⟩
  · by_cases h2 : 128 < m
    · have e : Ky.clamp m = 128 := by unfold Ky.clamp; rw [if_neg h1, if_pos h2]
      go_wp2
      go_ret
      obtain ⟨a, b⟩ := C.out 128 e w (Below.refl _ _) _ rfl
      exact ⟨_, rfl, Nat.le_refl _, a, b⟩
    · have e : Ky.clamp m = m := by unfold Ky.clamp; rw [if_neg h1, if_neg h2]
      go_wp2
      go_ret
      obtain ⟨a, b⟩ := C.out m e w (Below.refl _ _) _ rfl
      exact ⟨_, rfl, Nat.le_refl _, a, b⟩
set_option maxHeartbeats 4000000 in
theorem refGetK_any (g : Nat) (O : Nat → Prop) (s : Ky.S) (n k : ByteArray) (w : World) (h : RK w g O s) :
    Calls Try.prog 15 #[.pointer (some ⟨g, 0, none⟩), .string n, .string k] w fun e w' => e = .returned (.tuple #[.int .i64 (Ky.getV s n k), .bool (Ky.getB s n k)]) ∧ w = w' := by
  obtain ⟨A, cap, h1, h2, h3⟩ := h.obj
  obtain ⟨⟨x0, x1⟩, -⟩ := obK h1
  have H3 := Lib.hid h3
  have hf : s.l.length ≤ 128 := by have := h.inv.few; have := h.inv.most1; omega
  obtain ⟨q, hq⟩ : ∃ q, q = s.l.length := ⟨_, rfl⟩
  have HQ := Lib.hid hq
  rw [← hq] at x1 hf
  clear h h1 h2 h3 hq
  go_enter Try.func15, Try.ntmps15
  go_wp2_with fail
  go_loopw [8] (fun iv wr => ∃ i : Nat, i ≤ q ∧ iv = .int .i64 i ∧ Hid (∀ j (hj : j < s.l.length), j < i → Ky.same s.l[j] n k = false) ∧ wr = w) (fun iv _ => q - (intOf iv).toNat)
  case atStart => exact ⟨0, Nat.zero_le _, rfl, Lib.hid fun i hi h => by omega, rfl⟩
  case round =>
    obtain ⟨i, hi, rfl, HK, rfl⟩ := hrel
    by_cases hlt : i < q
    · have hlt' : (i : Int) < (q : Int) := by omega
      obtain ⟨b, off, a, rfl, -, ha, c0, c1, c2⟩ := H3.out.at_ (k := i) (by rw [← HQ.out]; exact hlt)
      have step : Hid (Ky.same a n k = false → ∀ j (hj : j < s.l.length), j < i + 1 → Ky.same s.l[j] n k = false) := Lib.hid fun hs j hj hik => by
        rcases Nat.lt_or_ge j i with h | h
        · exact HK.out j hj h
        · obtain rfl : j = i := by omega
          have := ha.out
          rw [List.getElem?_eq_getElem hj] at this
          injection this with this
          rw [this]; exact hs
      by_cases hr : a.name = n
      · by_cases ht : a.key = k
        · have E : Hid (Ky.getV s n k = a.id ∧ Ky.getB s n k = true) := Lib.hid (by
            have e := Ky.find_at ha.out (Ky.same_iff.2 ⟨hr, ht⟩) HK.out
            unfold Ky.getV Ky.getB Ky.findV
            rw [e]; exact ⟨rfl, rfl⟩)
          subst hr ht
          go_wp2_with fail
          refine bodyPost_ret (v := .tuple #[.int .i64 a.id, .bool true]) (by simp [results, Try.results15, go_sem]) rfl ?_
          rw [E.out.1, E.out.2]
          exact ⟨rfl, rfl⟩
        · have hd : decide (a.key = k) = false := decide_eq_false ht
          have HK' := Lib.hid (step.out (by unfold Ky.same; rw [hd, Bool.and_false]))
          subst hr
          have hd2 := Ky.bsne ht
          clear step ht hd
          go_wp2
          refine ⟨⟨i + 1, by omega, by go_num, HK', trivial⟩, ?_⟩
          simp [intOf]; omega
      · have hd : decide (a.name = n) = false := decide_eq_false hr
        have HK' := Lib.hid (step.out (by unfold Ky.same; rw [hd, Bool.false_and]))
        have hd2 := Ky.bsne hr
        clear step hr hd
        go_wp2
        refine ⟨⟨i + 1, by omega, by go_num, HK', trivial⟩, ?_⟩
        simp [intOf]; omega
    · obtain rfl : q = i := by omega
      have E : Hid (Ky.getV s n k = 0 ∧ Ky.getB s n k = false) := Lib.hid (by
        have e : Ky.findV s n k = none := Ky.find_none.2 fun a ha => by
          obtain ⟨j, hj, rfl⟩ := List.getElem_of_mem ha
          exact HK.out j hj (by rw [HQ.out]; exact hj)
        unfold Ky.getV Ky.getB
        rw [e]; exact ⟨rfl, rfl⟩)
      go_wp2_with fail
      refine bodyPost_ret (v := .tuple #[.int .i64 0, .bool false]) (by simp [results, Try.results15, go_sem]) rfl ?_
      rw [E.out.1, E.out.2]
      exact ⟨rfl, rfl⟩
end Go.Proofs.Yteppokokabgniaa
