/-
  The reference's Put.
-/
import Derived.Test.YteppokokabgniaaKyRows
import Derived.Test.YteppokokabgniaaLastOp
namespace Go.Proofs.Yteppokokabgniaa
open Go.RowKit
theorem obj_setK {w : World} {g o : Nat} {cs : Array Value} {t : TypeId} (h : w.heap[g]? = some (.cells cs t (0, 0))) (v : Value) :
    (w.setCell ⟨g, o, none⟩ v).heap[g]? = some (.cells (cs.setIfInBounds o v) t (0, 0)) := heap_setCell_same w g o cs t v h
/-- Another row of entries, stored in the object. -/
theorem RK.newrow {w w6 : World} {g : Nat} {O : Nat → Prop} {s : Ky.S} (h : RK w g O s) (hb : Below w.heap.size w w6) {l : List Ky.T} {A6 : Option Addr} {n6 c6 : Nat} (hn : n6 = l.length) (hc6 : n6 ≤ c6)
    (hrow : SrcY w6 w6.heap.size A6 (flatY l)) (hA : ∀ a, A6 = some a → w.heap.size ≤ a.block ∧ a.block < w6.heap.size) (hi : Ky.Inv ⟨s.most, l⟩) :
    RK (w6.setCell ⟨g, 1, none⟩ (.slice A6 n6 c6)) g (fun j => O j ∨ ∃ a, A6 = some a ∧ j = a.block) ⟨s.most, l⟩ ∧ Step O (fun j => O j ∨ ∃ a, A6 = some a ∧ j = a.block) w (w6.setCell ⟨g, 1, none⟩ (.slice A6 n6 c6)) := by
  subst hn
  have hR := h.lt _ h.own
  obtain ⟨A, cap, h1, h2, h3⟩ := h.obj
  have to6 := (hb.block g hR).trans h1
  have o1 := obj_setK (o := 1) to6 (.slice A6 l.length c6)
  have hkb : ∀ k, k ≠ g → (w6.setCell ⟨g, 1, none⟩ (.slice A6 l.length c6)).heap[k]? = w6.heap[k]? := fun k hk => Below.heap_setCell _ _ _ _ hk
  have hsz : (w6.setCell ⟨g, 1, none⟩ (.slice A6 l.length c6)).heap.size = w6.heap.size := by simp [World.setCell]
  refine ⟨⟨⟨A6, c6, ?_, hc6, ?_⟩, .inl h.own, fun k hk => ?_, hi⟩, ⟨(Only.of hb).trans (Only.set O 1 w6 _ h.own) (fun _ h => .inl h), fun k hk => ?_⟩⟩
  · rw [o1]; simp
  · have e0 := (Ents.of_src (O := fun j => ∃ a, A6 = some a ∧ j = a.block) hrow fun a ha => ⟨a, ha, rfl⟩).keep (w' := w6.setCell ⟨g, 1, none⟩ (.slice A6 l.length c6)) (Nat.le_of_eq hsz.symm) fun b hb2 _ => by
      obtain ⟨a, ha, rfl⟩ := hb2
      exact hkb _ (by have := (hA a ha).1; omega)
    intro hl
    obtain ⟨b, off, e1, e2, e3⟩ := e0 hl
    exact ⟨b, off, e1, .inr e2, e3⟩
  · rw [hsz]
    rcases hk with h1 | ⟨a, ha, rfl⟩
    · exact Nat.lt_of_lt_of_le (h.lt k h1) hb.size
    · exact (hA a ha).2
  · rcases hk with h1 | ⟨a, ha, rfl⟩
    · exact .inl h1
    · exact .inr (hA a ha).1
theorem tail_one (A : Option Addr) (n cap : Nat) (h : 1 ≤ n) : ∀ W, (Instr.slice 43 (.slice A n cap) (some (.int .i64 1)) none none).run Try.prog W = .ok (.slice (tailY A cap 1) (n - 1) (cap - 1)) W := fun W => slice_fromY A n cap 1 h .i64 W
theorem three_one (u v z : Value) (h1 : u.oneCell' = true) (h2 : v.oneCell' = true) (h3 : z.oneCell' = true) : ∀ x ∈ [u, v, z], x.oneCell' = true := fun x hx => by
  simp only [List.mem_cons, List.not_mem_nil, or_false] at hx
  rcases hx with rfl | rfl | rfl
  · exact h1
  · exact h2
  · exact h3
theorem Ky.get_of {s : Ky.S} {n k : ByteArray} : (Ky.getB s n k = true ∧ ∃ a, Ky.findV s n k = some a ∧ Ky.getV s n k = a.id) ∨ (Ky.getB s n k = false ∧ Ky.findV s n k = none) := by
  unfold Ky.getB Ky.getV
  cases Ky.findV s n k with
  | none => exact .inr ⟨rfl, rfl⟩
  | some a => exact .inl ⟨rfl, a, rfl, rfl⟩
set_option maxRecDepth 20000 in
set_option maxHeartbeats 4000000 in
theorem refPutK_any (g : Nat) (O : Nat → Prop) (s : Ky.S) (n k : ByteArray) (id : Int) (w : World) (h : RK w g O s) :
    Calls Try.prog 14 #[.pointer (some ⟨g, 0, none⟩), .string n, .string k, .int .i64 id] w fun e w' => e = .returned (.tuple #[.int .i64 (Ky.putV s n k id), .bool (Ky.putB s n k)]) ∧ ∃ O2, RK w' g O2 (Ky.putS s n k id) ∧ Step O O2 w w' ∧ ∀ j, O j → O2 j := by
  have GE := Lib.hid (refGetK_any g O s n k w h)
  have H := Lib.hid h
  rcases Ky.get_of (s := s) (n := n) (k := k) with ⟨e1, a, e2, e3⟩ | ⟨e1, e2⟩
  · have E : Hid (Ky.putV s n k id = a.id ∧ Ky.putB s n k = false ∧ Ky.putS s n k id = s) := Lib.hid (by unfold Ky.putV Ky.putB Ky.putS; rw [e2]; exact ⟨rfl, rfl, rfl⟩)
    rw [e1, e3] at GE
    clear h e1 e2 e3
    go_enter Try.func14, Try.ntmps14
    go_wp2_with fail
    (with_reducible refine GE.out.mono ?_); rintro e _ ⟨rfl, rfl⟩
    go_wp2_with fail
    refine bodyPost_ret (v := .tuple #[.int .i64 a.id, .bool false]) (by simp [results, Try.results14, go_sem]) rfl ?_
    rw [E.out.1, E.out.2.1, E.out.2.2]
    exact ⟨rfl, O, H.out, Step.refl _ _, fun _ h => h⟩
  · have E : Hid (Ky.putV s n k id = id ∧ Ky.putB s n k = true ∧ Ky.putS s n k id = ⟨s.most, Ky.pushL s ⟨n, k, id⟩⟩) := Lib.hid (by unfold Ky.putV Ky.putB Ky.putS; rw [e2]; exact ⟨rfl, rfl, rfl⟩)
    have IV : Hid (Ky.Inv ⟨s.most, Ky.pushL s ⟨n, k, id⟩⟩) := Lib.hid (by rw [← E.out.2.2]; exact h.inv.put n k id)
    rw [e1] at GE
    obtain ⟨A, cap, h1, hcap, h3⟩ := h.obj
    obtain ⟨⟨c0, c1⟩, _, f1⟩ := obK h1
    have FZ := Lib.hid f1
    have hf : s.l.length ≤ 128 := by have := h.inv.few; have := h.inv.most1; omega
    have SRC := Lib.hid h3.src
    obtain ⟨q, hq⟩ : ∃ q, q = s.l.length := ⟨_, rfl⟩
    have HQ := Lib.hid hq
    rw [← hq] at c1 hcap hf
    have lR : g < w.heap.size := h.lt _ h.own
    have BA : Hid (Below w.heap.size w (w.alloc (.cells #[] 47))) := Lib.hid ((Below.refl _ _).alloc (Nat.le_refl _) _)
    have y1 : (w.alloc (.cells #[] 47)).cell? ⟨g, 1, none⟩ = some (.slice A q cap) := (BA.out.cell (p := ⟨g, 1, none⟩) lR).trans c1
    have LF : Hid ((flatY s.l).length = q * 3) := Lib.hid (by rw [flatY_len, HQ.out])
    have hq2 : 0 + q ≤ 2000000 := by omega
    clear h h1 h3 f1 e1 e2 hq
    go_enter Try.func14, Try.ntmps14
    go_wp2_with fail
    (with_reducible refine GE.out.mono ?_); rintro e _ ⟨rfl, rfl⟩
    have hq1 : 1 ≤ q ∨ q = 0 := by omega
    by_cases hfull : (q : Int) = s.most
    · have hd : ((q : Int) == s.most) = true := by simpa using hfull
      have hq1 : 1 ≤ q := by have := H.out.inv.most0; omega
      have hq3 : q + 1 ≤ 2000000 := by omega
      have hq4 : q - 1 + 1 = q := by omega
      have PE : Hid (Ky.pushL s ⟨n, k, id⟩ = s.l.drop 1 ++ [⟨n, k, id⟩]) := Lib.hid (by unfold Ky.pushL; rw [if_pos (by rw [← HQ.out]; exact hfull)])
      clear hfull
      go_wp2_with (first
        | (at_builtin; refine wp_appY (by rfl) _ _ (by rfl) (by rfl) (startY w) (by simp) (by rfl) (SRC.out.below BA.out) LF.out (flatY_one _) hq2 (Nat.zero_add q) ?_; intro A5 c5 w5 o5 b5; rw [List.nil_append] at o5; have B5 := Lib.hid (BA.out.trans b5); have O5 := Lib.hid o5; have y2 := (B5.out.cell (p := ⟨g, 0, none⟩) lR).trans c0; have hs2 := tail_one A5 q c5 hq1; obtain ⟨o6, l6, b6, z6, z7⟩ := one_more o5 B5.out.size (.string n) (.string k) (.int .i64 id); have O6 := Lib.hid o6; have L6 := Lib.hid l6; have B6 := Lib.hid (B5.out.trans b6); have Z6 := Lib.hid z6; have Z7 := Lib.hid z7; clear o5 b5 o6 l6 b6 z6 z7)
        | (at_builtin; refine wp_appYt (by rfl) _ _ (by rfl) (by rfl) rfl rfl rfl O6.out Z6.out hq1 hq1 (by rfl) L6.out rfl (three_one _ _ _ (by rfl) (by rfl) (by rfl)) hq3 hq4 ?_; intro A7 c7 w7 r7 a7 l7 b7; have B7 := Lib.hid (B6.out.trans b7); have R7 := Lib.hid r7; have A7' := Lib.hid a7; have LE7 := Lib.hid l7; clear r7 a7 l7; have y3 : w7.frozen? ⟨g, 1, none⟩ = false := (World.frozen?_of_block (a := ⟨g, 1, none⟩) (B7.out.block g lR)).trans FZ.out; have y4 := (B7.out.cell (p := ⟨g, 1, none⟩) lR).trans c1; clear b7))
      refine bodyPost_ret (v := .tuple #[.int .i64 id, .bool true]) (by simp [results, Try.results14, go_sem]) rfl ?_
      have Hn := H.out.newrow (l := s.l.drop 1 ++ [⟨n, k, id⟩]) (n6 := q) (c6 := c7) B7.out (by rw [List.length_append, List.length_drop, ← HQ.out]; show q = q - 1 + 1; omega) LE7.out (by rw [flatY_app, ← flatY_drop]; exact R7.out) A7'.out (by rw [← PE.out]; exact IV.out)
      rw [E.out.1, E.out.2.1, E.out.2.2, PE.out]
      exact ⟨rfl, _, Hn.1, Hn.2, fun _ h => .inl h⟩
    · have hd : ((q : Int) == s.most) = false := by simpa using hfull
      have hq3 : q + 1 ≤ 2000000 := by omega
      have hq4 : 0 ≤ q := by omega
      have PE : Hid (Ky.pushL s ⟨n, k, id⟩ = s.l ++ [⟨n, k, id⟩]) := Lib.hid (by unfold Ky.pushL; rw [if_neg (by rw [← HQ.out]; exact hfull)])
      clear hfull
      go_wp2_with (first
        | (at_builtin; refine wp_appY (by rfl) _ _ (by rfl) (by rfl) (startY w) (by simp) (by rfl) (SRC.out.below BA.out) LF.out (flatY_one _) hq2 (Nat.zero_add q) ?_; intro A5 c5 w5 o5 b5; rw [List.nil_append] at o5; have B5 := Lib.hid (BA.out.trans b5); have O5 := Lib.hid o5; have y2 := (B5.out.cell (p := ⟨g, 0, none⟩) lR).trans c0; obtain ⟨o6, l6, b6, z6, z7⟩ := one_more o5 B5.out.size (.string n) (.string k) (.int .i64 id); have O6 := Lib.hid o6; have L6 := Lib.hid l6; have B6 := Lib.hid (B5.out.trans b6); have Z6 := Lib.hid z6; have Z7 := Lib.hid z7; clear o5 b5 o6 l6 b6 z6 z7)
        | (at_builtin; refine wp_appY (by rfl) _ _ (by rfl) (by rfl) O6.out Z6.out (by rfl) (.inr ⟨_, 0, rfl, Z7.out, L6.out⟩) rfl (three_one _ _ _ (by rfl) (by rfl) (by rfl)) hq3 rfl ?_; intro A7 c7 w7 o7 b7; have B7 := Lib.hid (B6.out.trans b7); have O7 := Lib.hid o7; clear o7; have y3 : w7.frozen? ⟨g, 1, none⟩ = false := (World.frozen?_of_block (a := ⟨g, 1, none⟩) (B7.out.block g lR)).trans FZ.out; have y4 := (B7.out.cell (p := ⟨g, 1, none⟩) lR).trans c1; clear b7))
      refine bodyPost_ret (v := .tuple #[.int .i64 id, .bool true]) (by simp [results, Try.results14, go_sem]) rfl ?_
      have Hn := H.out.newrow (l := s.l ++ [⟨n, k, id⟩]) (n6 := q + 1) (c6 := c7) B7.out (by rw [List.length_append, ← HQ.out]; rfl) (ownsRow_capY O7.out) (by rw [flatY_app]; exact SrcY.of O7.out) (fun a ha => by subst ha; exact World.ownsRow.lt O7.out a.block (by simp [Value.ownBlock])) (by rw [← PE.out]; exact IV.out)
      rw [E.out.1, E.out.2.1, E.out.2.2, PE.out]
      exact ⟨rfl, _, Hn.1, Hn.2, fun _ h => .inl h⟩
end Go.Proofs.Yteppokokabgniaa
