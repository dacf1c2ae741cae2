/-
  The reference's To: no region of it draws its order.
-/
import Derived.Test.YtaieoneilljagaaWhRefDrop
namespace Go.Proofs.Ytaieoneilljagaa
open Go.RowKit

set_option maxRecDepth 20000 in
theorem wp_appW {w : World} {ops : Array Oper} {rest : List Oper} {o : Oper} {a : Act} {Q : Exit → Act → World → Prop} (hgd : o.guard = none) (s x : Operand)
    (ho : o.op = .call { callee := .builtin .append, args := #[s, x], argTypes := #[40, 40] })
    {base : Nat} {A : Option Addr} {n cap : Nat} {xs : List Value} (hs : a.eval s = .slice A n cap) (h : w.ownsRow base 39 3 (.slice A n cap) n xs) (hbase : base ≤ w.heap.size)
    {B : Nat} {A2 : Option Addr} {m c : Nat} {ys : List Value} (hx : a.eval x = .slice A2 m c) (hb : SrcW w B A2 ys) (hm : ys.length = m * 3) (h1 : ∀ u ∈ ys, u.oneCell' = true) (hlen : n + m ≤ 2000000) {r : Nat} (hr : n + m = r)
    (K : ∀ A' cap' w', w'.ownsRow base 39 3 (.slice A' r cap') r (xs ++ ys) → Below base w w' → w.grownBy w' (Value.slice A n cap).ownBlock → wpList Try.prog ops Q rest (a.put o.dst (.slice A' r cap')) w') :
    wpList Try.prog ops Q (o :: rest) a w := by
  subst hr
  obtain ⟨A', cap', w', hrun, h2, h3, h4⟩ := run_appW h hbase hb hm h1 c hlen o.type
  refine wpList_plain hgd fun K' hK => ?_
  unfold Oper.wp
  simp [execOp, ho, resolve, invoke, builtin, hs, hx, hrun, Result.andThen]
  exact hK _ _ (K A' cap' w' h2 h3 h4)
theorem Wh.due_at {now : Int} : ∀ {l : List Wh.T} {k : Nat}, k ≤ l.length → (∀ i (hi : i < l.length), i < k → Wh.due now l[i] = true) → (∀ a, l[k]? = some a → Wh.due now a = false) → l.takeWhile (Wh.due now) = l.take k ∧ l.dropWhile (Wh.due now) = l.drop k
  | [], k, _, _, _ => by simp
  | a :: l, 0, _, _, h => by
    have := h a rfl
    rw [List.takeWhile_cons, List.dropWhile_cons, this]
    simp
  | a :: l, k + 1, hk, hb, h => by
    have h0 := hb 0 (by simp) (by omega)
    rw [List.getElem_cons_zero] at h0
    obtain ⟨e1, e2⟩ := Wh.due_at (l := l) (k := k) (by simpa using hk) (fun i hi hik => by
      have := hb (i + 1) (by simpa using hi) (by omega)
      simpa using this) (fun a ha => h a (by simpa using ha))
    rw [List.takeWhile_cons, List.dropWhile_cons, h0]
    simp [e1, e2]
/-- The object is none of its row's blocks. -/
theorem Dues.ne {w : World} {O : Nat → Prop} {A : Option Addr} {l : List Wh.T} {g : Nat} {x y : Value} {t : TypeId} (h : Dues w O A l) (ho : w.heap[g]? = some (.cells #[x, y] t (0, 0))) (hl : 0 < l.length) {b off : Nat} (e : A = some ⟨b, off, none⟩) : b ≠ g := by
  rintro rfl
  obtain ⟨b', off', e', _, _, hc⟩ := h.2 hl
  rw [e] at e'
  injection e' with e'
  injection e' with e1 e2
  subst e1 e2
  have := (hc 0 hl).2.2
  simp [World.cell?, ho] at this
theorem Dues.set {w : World} {O : Nat → Prop} {A : Option Addr} {l : List Wh.T} {g o : Nat} {x y v : Value} {t : TypeId} (h : Dues w O A l) (ho : w.heap[g]? = some (.cells #[x, y] t (0, 0))) : Dues (w.setCell ⟨g, o, none⟩ v) O A l := by
  rcases Nat.eq_zero_or_pos l.length with h0 | h0
  · rw [List.eq_nil_of_length_eq_zero h0]; exact Dues.nil_
  · exact h.keep (by simp [World.setCell]) fun b _ _ ⟨off, e⟩ => Below.heap_setCell _ _ _ _ (h.ne ho h0 e)
theorem Dues.tail {w : World} {O : Nat → Prop} {A : Option Addr} {l : List Wh.T} (h : Dues w O A l) (k cap : Nat) (hc : l.length ≤ cap) : Dues w O (tailW A cap k) (l.drop k) := by
  refine ⟨fun a ha => h.1 a (List.mem_of_mem_drop ha), fun hl => ?_⟩
  rw [List.length_drop] at hl
  obtain ⟨b, off, e, ho, hb, hcl⟩ := h.2 (by omega)
  refine ⟨b, off + k * 3, ?_, ho, hb, fun i hi => ?_⟩
  · unfold tailW
    rw [if_neg (by omega), e]
    simp [Addr.add]
  · rw [List.length_drop] at hi
    obtain ⟨c0, c1, c2⟩ := hcl (k + i) (by omega)
    rw [List.getElem_drop, show off + k * 3 + i * 3 = off + (k + i) * 3 by omega]
    exact ⟨c0, c1, c2⟩
/-- Timers returned: in a block of the call's own. -/
def DueG (w w' : World) (v : Value) (l : List Wh.T) : Prop := ∃ A cap, v = .slice A l.length cap ∧ Dues w' (fun b => w.heap.size ≤ b) A l
theorem DueG.nil_ (w w' : World) : DueG w w' (.slice none 0 0) [] := ⟨none, 0, rfl, Dues.nil_⟩
theorem DueG.row {w w1 w6 : World} {A6 : Option Addr} {c6 k g : Nat} {l : List Wh.T} {v : Value} (h : w6.ownsRow w1.heap.size 39 3 (.slice A6 k c6) k (flatW l)) (hl : l.length = k) (hok : ∀ a ∈ l, a.ok) (hs : w.heap.size ≤ w1.heap.size) (hg : g < w1.heap.size) :
    DueG w (w6.setCell ⟨g, 1, none⟩ v) (.slice A6 k c6) l := by
  subst hl
  have hA : ∀ a, A6 = some a → w1.heap.size ≤ a.block ∧ a.block < w6.heap.size := fun a ha => by subst ha; exact World.ownsRow.lt h a.block (by simp [Value.ownBlock])
  exact ⟨A6, c6, rfl, Dues.row (ownsRow_keep h fun a ha => Below.heap_setCell _ _ _ _ (by have := (hA a ha).1; show a.block ≠ g; omega)) hok fun a ha => Nat.le_trans hs (hA a ha).1⟩
theorem RW.cut {w1 w6 : World} {g : Nat} {O : Nat → Prop} {A : Option Addr} {cap : Nat} {l : List Wh.T} {now : Int} (hob : w1.heap[g]? = some (.cells #[.int .i64 now, .slice A l.length cap] 44 (0, 0))) (hcap : l.length ≤ cap) (hD : Dues w1 O A l)
    (hO : ∀ i, O i → i < w1.heap.size) (own : O g) (h64 : is64 now) (hf : l.length ≤ 1000000) (hb : Below w1.heap.size w1 w6) {k n : Nat} (hn : n = l.length) (hk : k ≤ n) :
    RW (w6.setCell ⟨g, 1, none⟩ (.slice (tailW A cap k) (n - k) (cap - k))) g O ⟨now, l.drop k⟩ ∧ Step O O w1 (w6.setCell ⟨g, 1, none⟩ (.slice (tailW A cap k) (n - k) (cap - k))) := by
  subst hn
  have ob6 := (hb.block g (hO g own)).trans hob
  have o1 := obj_set (o := 1) ob6 (.slice (tailW A cap k) (l.length - k) (cap - k))
  have D6 : Dues w6 O A l := hD.keep hb.size fun b ho hlt _ => hb.block b hlt
  have hsz : (w6.setCell ⟨g, 1, none⟩ (.slice (tailW A cap k) (l.length - k) (cap - k))).heap.size = w6.heap.size := by simp [World.setCell]
  refine ⟨⟨⟨tailW A cap k, cap - k, ?_, ?_, ?_⟩, own, fun i hi => ?_, h64, ?_⟩, ⟨(Only.of hb).trans (Only.set O 1 w6 _ own) (fun _ h => .inl h), fun _ h => .inl h⟩⟩
  · rw [o1]; simp
  · simp only [List.length_drop]; omega
  · exact (D6.set ob6).tail k cap hcap
  · rw [hsz]; exact Nat.lt_of_lt_of_le (hO i hi) hb.size
  · simp only [List.length_drop]; omega
set_option maxRecDepth 20000 in
set_option maxHeartbeats 4000000 in
theorem refTo_any (g : Nat) (O : Nat → Prop) (s : Wh.S) (now : Int) (w : World) (h : RW w g O s) (hI : Wh.Inv s) :
    Calls Try.prog 17 #[.pointer (some ⟨g, 0, none⟩), .int .i64 now] w fun e w' => ∃ v, e = .returned (.tuple #[v, .int .i64 (Wh.toE s now)]) ∧ DueG w w' v (Wh.toL s now) ∧ RW w' g O (Wh.toS s now) ∧ Step O O w w' := by
  have H := Lib.hid h
  obtain ⟨A, cap, h1, hcap, h3⟩ := h.obj
  obtain ⟨⟨x0, x1⟩, f0, f1⟩ := obW h1
  by_cases hbad : now < s.now ∨ 1099511627776 < now
  · have E1 : Hid (Wh.toE s now = 1) := Lib.hid (by unfold Wh.toE; rw [if_pos hbad])
    have E2 : Hid (Wh.toL s now = []) := Lib.hid (by unfold Wh.toL; rw [if_pos hbad])
    have E3 : Hid (Wh.toS s now = s) := Lib.hid (by unfold Wh.toS; rw [if_pos hbad])
    by_cases hlt : now < s.now
    · clear h hI h1 hcap h3 f0 f1 x1 hbad
      go_enter Try.func17, Try.ntmps17
      go_wp2_with fail
      refine bodyPost_ret (v := .tuple #[.slice none 0 0, .int .i64 1]) (by simp [results, Try.results17, go_sem]) rfl ?_
      rw [E1.out, E2.out, E3.out]
      exact ⟨_, rfl, DueG.nil_ _ _, H.out, Step.refl _ _⟩
    · have hgt : 1099511627776 < now := hbad.resolve_left hlt
      have hd : decide (now < s.now) = false := decide_eq_false hlt
      clear h hI h1 hcap h3 f0 f1 x1 hbad hlt
      go_enter Try.func17, Try.ntmps17
      go_wp2_with fail
      refine bodyPost_ret (v := .tuple #[.slice none 0 0, .int .i64 1]) (by simp [results, Try.results17, go_sem]) rfl ?_
      rw [E1.out, E2.out, E3.out]
      exact ⟨_, rfl, DueG.nil_ _ _, H.out, Step.refl _ _⟩
  · have E1 : Hid (Wh.toE s now = 0) := Lib.hid (by unfold Wh.toE; rw [if_neg hbad])
    have E2 : Hid (Wh.toL s now = s.l.takeWhile (Wh.due now)) := Lib.hid (by unfold Wh.toL; rw [if_neg hbad])
    have E3 : Hid (Wh.toS s now = ⟨now, s.l.dropWhile (Wh.due now)⟩) := Lib.hid (by unfold Wh.toS; rw [if_neg hbad])
    have hd1 : decide (now < s.now) = false := decide_eq_false (by omega)
    have hd2 : decide (1099511627776 < now) = false := decide_eq_false (by omega)
    have h64 : Hid (is64 now) := Lib.hid ⟨by have := hI.now0; omega, by omega⟩
    have o1 := obj_set (o := 0) h1 (.int .i64 now)
    have hf := h.few
    have hg : g < w.heap.size := h.lt _ h.own
    have D1 : Hid (Dues (w.setCell ⟨g, 0, none⟩ (.int .i64 now)) O A s.l) := Lib.hid (h3.set h1)
    obtain ⟨w1, hw1⟩ : ∃ w1, w1 = w.setCell ⟨g, 0, none⟩ (.int .i64 now) := ⟨_, rfl⟩
    have ST1 : Hid (Step O O w w1) := Lib.hid (by rw [hw1]; exact ⟨Only.set O 0 w _ h.own, fun _ h => .inl h⟩)
    have hs1' : w1.heap.size = w.heap.size := by rw [hw1]; simp [World.setCell]
    have HS1 := Lib.hid hs1'
    have ob1 : w1.heap[g]? = some (.cells #[.int .i64 now, .slice A s.l.length cap] 44 (0, 0)) := by rw [hw1, o1]; simp
    rw [← hw1] at D1
    obtain ⟨⟨z0, z1⟩, u0, u1⟩ := obW ob1
    have OB := Lib.hid ob1
    have HC := Lib.hid hcap
    have LT := Lib.hid h.lt
    have OWN := Lib.hid h.own
    obtain ⟨n, hn⟩ : ∃ n, n = s.l.length := ⟨_, rfl⟩
    have HN := Lib.hid hn
    rw [← hn] at z1 hf hcap
    have lR : Hid (g < w1.heap.size) := Lib.hid (by rw [hs1']; exact hg)
    have lO : Hid (∀ i, O i → i < w1.heap.size) := Lib.hid (by rw [hs1']; exact LT.out)
    clear h hI h1 h3 f1 x1 hbad o1 hs1' ob1 hn H hg u0
    go_enter Try.func17, Try.ntmps17
    go_wp2_with fail
    rw [← hw1]
    clear hw1 x0 f0 hd1 hd2
    go_loopw [6] (fun iv wr => ∃ k : Nat, k ≤ n ∧ iv = .int .i64 k ∧ Hid (∀ i (hi : i < s.l.length), i < k → Wh.due now s.l[i] = true) ∧ wr = w1) (fun iv _ => n - (intOf iv).toNat)
    case atStart => exact ⟨0, Nat.zero_le _, rfl, Lib.hid fun i hi h => by omega, rfl⟩
    case round =>
      obtain ⟨k, hk, rfl, HK, rfl⟩ := hrel
      have fin : Hid ((k = n ∨ ∃ a, s.l[k]? = some a ∧ Wh.due now a = false) → s.l.takeWhile (Wh.due now) = s.l.take k ∧ s.l.dropWhile (Wh.due now) = s.l.drop k) := Lib.hid fun hx => Wh.due_at (by have := HN.out; omega) HK.out fun a ha => by
        rcases hx with hx | ⟨a', ha', hd⟩
        · rw [List.getElem?_eq_none (by have := HN.out; omega)] at ha; cases ha
        · rw [ha'] at ha; injection ha with ha; rw [← ha]; exact hd
      have hs1 := fun W => slice_toW A n cap k (by omega) .i64 W
      have hs2 := fun W => slice_fromW A n cap k hk .i64 W
      have hk1 : 0 + k ≤ 2000000 := by omega
      have S1 : Hid (SrcW wr wr.heap.size A (flatW (s.l.take k))) := Lib.hid (by rw [← flatW_take]; exact D1.out.src.head _)
      have LT1 : Hid ((flatW (s.l.take k)).length = k * 3) := Lib.hid (by rw [flatW_len, List.length_take]; have := HN.out; omega)
      have BA : Hid (Below wr.heap.size wr (wr.alloc (.cells #[] 39))) := Lib.hid ((Below.refl _ _).alloc (Nat.le_refl _) _)
      have y1 : (wr.alloc (.cells #[] 39)).cell? ⟨g, 1, none⟩ = some (.slice A n cap) := (BA.out.cell (p := ⟨g, 1, none⟩) lR.out).trans z1
      by_cases hlt : k < n
      · have hlt' : (k : Int) < (n : Int) := by omega
        obtain ⟨b, off, a, rfl, -, ha, c0, c1, c2, -⟩ := D1.out.at_ (k := k) (by rw [← HN.out]; exact hlt)
        by_cases hdue : a.at_ ≤ now
        · have HK' : Hid (∀ i (hi : i < s.l.length), i < k + 1 → Wh.due now s.l[i] = true) := Lib.hid fun i hi hik => by
            rcases Nat.lt_or_ge i k with h | h
            · exact HK.out i hi h
            · obtain rfl : i = k := by omega
              have := ha.out
              rw [List.getElem?_eq_getElem hi] at this
              injection this with this
              rw [this]; exact decide_eq_true hdue
          clear c0 c1 hs1 hs2 y1
          go_wp2
          go_roundw
          case rel => exact ⟨k + 1, by omega, by go_num, HK', trivial⟩
          case measure => simp [intOf]; omega
        · have FIN := Lib.hid (fin.out (.inr ⟨a, ha.out, decide_eq_false hdue⟩))
          go_wp2_with (at_builtin; refine wp_appW rfl (.tmp 43) (.tmp 49) rfl rfl (startW wr) (by simp) rfl (S1.out.below BA.out) LT1.out (flatW_one _) hk1 (Nat.zero_add k) ?_; intro A6 c6 w6 o6 b6 _; rw [List.nil_append] at o6; have O6 := Lib.hid o6; have B6 := Lib.hid (BA.out.trans b6); have y4 := (B6.out.cell (p := ⟨g, 1, none⟩) lR.out).trans z1; have y5 : w6.frozen? ⟨g, 1, none⟩ = false := (by have := u1; simp only [World.frozen?] at this ⊢; rw [B6.out.block g lR.out]; exact this); clear o6 b6)
          refine bodyPost_ret (v := .tuple #[.slice A6 k c6, .int .i64 0]) (by simp [results, Try.results17, go_sem]) rfl ?_
          have C := RW.cut OB.out HC.out D1.out lO.out OWN.out h64.out (by rw [← HN.out]; exact hf) B6.out HN.out hk
          rw [E1.out, E2.out, E3.out, FIN.out.1, FIN.out.2]
          exact ⟨_, rfl, DueG.row O6.out (by rw [List.length_take]; have := HN.out; omega) (fun a ha => D1.out.1 a (List.mem_of_mem_take ha)) (Nat.le_of_eq HS1.out.symm) lR.out, C.1, ST1.out.trans C.2⟩
      · have hd : decide ((k : Int) < (n : Int)) = false := decide_eq_false (by omega)
        have FIN := Lib.hid (fin.out (.inl (by omega)))
        go_wp2_with (at_builtin; refine wp_appW rfl (.tmp 43) (.tmp 49) rfl rfl (startW wr) (by simp) rfl (S1.out.below BA.out) LT1.out (flatW_one _) hk1 (Nat.zero_add k) ?_; intro A6 c6 w6 o6 b6 _; rw [List.nil_append] at o6; have O6 := Lib.hid o6; have B6 := Lib.hid (BA.out.trans b6); have y4 := (B6.out.cell (p := ⟨g, 1, none⟩) lR.out).trans z1; have y5 : w6.frozen? ⟨g, 1, none⟩ = false := (by have := u1; simp only [World.frozen?] at this ⊢; rw [B6.out.block g lR.out]; exact this); clear o6 b6)
        refine bodyPost_ret (v := .tuple #[.slice A6 k c6, .int .i64 0]) (by simp [results, Try.results17, go_sem]) rfl ?_
        have C := RW.cut OB.out HC.out D1.out lO.out OWN.out h64.out (by rw [← HN.out]; exact hf) B6.out HN.out hk
        rw [E1.out, E2.out, E3.out, FIN.out.1, FIN.out.2]
        exact ⟨_, rfl, DueG.row O6.out (by rw [List.length_take]; have := HN.out; omega) (fun a ha => D1.out.1 a (List.mem_of_mem_take ha)) (Nat.le_of_eq HS1.out.symm) lR.out, C.1, ST1.out.trans C.2⟩
end Go.Proofs.Ytaieoneilljagaa
