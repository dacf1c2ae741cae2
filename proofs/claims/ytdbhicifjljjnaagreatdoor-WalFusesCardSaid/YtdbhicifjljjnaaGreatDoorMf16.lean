/-
  Part 16 of the texts behind the law: StoFuse, StoRun.
-/
import Derived.Test.YtdbhicifjljjnaaGreatDoorMf14
import Derived.BigRegion
import Derived.Deep.RegionLaw
import Derived.Test.YtdbhicifjljjnaaGreatDoorMf15
/-
  Fuse at every store, every number of calls and every row of numbers.
-/
namespace Go.Proofs.YtdbhicifjljjnaaGreatDoor
open Go.RowKit St

theorem slice_toN (A : Option Addr) (n cap k : Nat) (h : k ≤ cap) (ik : IntKind) (W : World) :
    (Instr.slice 23 (.slice A n cap) none (some (.int ik (k : Int))) none).run Tryz.prog W = .ok (.slice A k cap) W := by
  rw [run_slice_h (P := Tryz.prog) (w := W) 23 A n cap undN ik k (by omega) (by omega), elemN, sizeN]
  simp [Result.andThen, sliced]
  intro _
  cases A <;> simp [Addr.add]
theorem Ints.head {w : World} {A : Option Addr} {zs : List Int} (h : Ints w A zs) (k : Nat) : Ints w A (zs.take k) := fun hn => by
  have hk : 0 < zs.length := by rw [List.length_take] at hn; omega
  obtain ⟨b, off, e, hc⟩ := h hk
  refine ⟨b, off, e, fun i hi => ?_⟩
  rw [List.length_take] at hi
  rw [hc i (by omega), List.getD_eq_getElem?_getD, List.getD_eq_getElem?_getD, List.getElem?_take_of_lt (by omega)]
theorem Ints.keep' {w w' : World} {A : Option Addr} {zs : List Int} (h : Ints w A zs) (hk : 0 < zs.length → ∀ a, A = some a → w'.heap[a.block]? = w.heap[a.block]?) : Ints w' A zs := fun hp => by
  obtain ⟨b, off, rfl, hc⟩ := h hp
  exact ⟨b, off, rfl, fun i hi => (World.cell?_of_block (w := w) (a := ⟨b, off + i, none⟩) (hk hp ⟨b, off, none⟩ rfl)).trans (hc i hi)⟩
theorem ints_cells {w : World} {ad : Addr} {zs : List Int} (h : Ints w (some ad) zs) : ∀ j u, (zs.map (Value.int .i64))[j]? = some u → w.cell? (ad.add j) = some u := fun j u hu => by
  rw [List.getElem?_map] at hu
  obtain ⟨z, hz1, rfl⟩ := Option.map_eq_some_iff.1 hu
  have hj : j < zs.length := (List.getElem?_eq_some_iff.1 hz1).1
  obtain ⟨b, off, e, hc⟩ := h (by omega)
  injection e with e
  subst e
  rw [add_off, hc j hj, List.getD_eq_getElem?_getD, hz1]
  rfl
/-- append(nil, zs...) for numbers. -/
theorem run_appI {w : World} {A : Option Addr} {zs : List Int} (h : Ints w A zs) (c : Nat) (hl : zs.length ≤ 1000000000) (ty : TypeId) :
    ∃ A' cap' w', (Builtin.append_ #[23, 23] ty #[.slice none 0 0, .slice A zs.length c]).run Tryz.prog w = .ok (.slice A' zs.length cap') w' ∧ OwnN w' w.heap.size A' cap' zs ∧ Below w.heap.size w w' := by
  obtain ⟨i, hi, hz0, hs, hyb⟩ := info_parts int_info
  rcases A with _ | ad
  · have h0 : zs = [] := by
      rcases Nat.eq_zero_or_pos zs.length with h0 | h0
      · exact List.eq_nil_of_length_eq_zero h0
      · obtain ⟨_, _, e, _⟩ := h h0; cases e
    subst h0
    refine ⟨none, 0, w, ?_, OwnN.none_ _ _, Below.refl _ _⟩
    simp [Builtin.append_, run_underlying Tryz.underlying23, sizeOf, typeInfo, hi, Builtin.lenOf, Builtin.firstCells]
  · obtain ⟨v', w', hrun, hown, hg, _, _⟩ := run_append_own_at (P := Tryz.prog) (w := w) w.heap.size 23 ty 3 i _ 1 8 Tryz.underlying23 hi hz0 hs hyb rfl (by decide)
      _ 0 _ (World.ownsRow_nil w w.heap.size 3 1) ad zs.length c (zs.map (Value.int .i64)) (by simp) (ints_cells h) (fun u hu => by simp at hu; obtain ⟨z, _, rfl⟩ := hu; rfl) (by unfold maxLen; omega) (by omega) (Nat.le_refl _)
    obtain ⟨A', cap', rfl⟩ := form_ofN hown
    rw [Nat.zero_add, List.nil_append] at hown
    rw [Nat.zero_add] at hrun
    exact ⟨A', cap', w', hrun, hown, (Below.refl _ _).grown hg (Nat.le_refl _) (fun j hj => by cases hj)⟩
theorem wp_appI {w : World} {ops : Array Oper} {rest : List Oper} {o : Oper} {a : Act} {Q : Exit → Act → World → Prop} (hgd : o.guard = none) (s t : Operand)
    (ho : o.op = .call { callee := .builtin .append, args := #[s, t], argTypes := #[23, 23] })
    (hs : a.eval s = .slice none 0 0) {A : Option Addr} {n c : Nat} {zs : List Int} (hx : a.eval t = .slice A n c) (hn : n = zs.length) (h : Ints w A zs) (hlen : zs.length ≤ 1000000000)
    (K : ∀ A' cap' w', OwnN w' w.heap.size A' cap' zs → Below w.heap.size w w' → wpList Tryz.prog ops Q rest (a.put o.dst (.slice A' n cap')) w') :
    wpList Tryz.prog ops Q (o :: rest) a w := by
  subst hn
  obtain ⟨A', cap', w', hrun, h1, h2⟩ := run_appI h c hlen o.type
  refine wpList_plain hgd fun K' hK => ?_
  unfold Oper.wp
  simp [execOp, ho, resolve, invoke, builtin, hs, hx, hrun, Result.andThen]
  exact hK _ _ (K A' cap' w' h1 h2)
theorem step_appI {w : World} {ops : Array Oper} {o : Oper} {a : Act} {K : Act → World → Prop} {Q : Exit → Act → World → Prop} {E : Prop} (hgd : o.guard = none) (s t : Operand)
    (ho : o.op = .call { callee := .builtin .append, args := #[s, t], argTypes := #[23, 23] })
    (hs : a.eval s = .slice none 0 0) {A : Option Addr} {n c : Nat} {zs : List Int} (hx : a.eval t = .slice A n c) (hn : n = zs.length) (h : Ints w A zs) (hlen : zs.length ≤ 1000000000)
    (H : ∀ A' cap' w', OwnN w' w.heap.size A' cap' zs → Below w.heap.size w w' → K (a.put o.dst (.slice A' n cap')) w') :
    if Region.wanted o (yielded ops a.tmps) = true then Oper.wp Tryz.prog o a w K Q else E := by
  have hw : Region.wanted o (yielded ops a.tmps) = true := by simp [Region.wanted, hgd]
  rw [if_pos hw]
  subst hn
  obtain ⟨A', cap', w', hrun, h1, h2⟩ := run_appI h c hlen o.type
  unfold Oper.wp
  simp [execOp, ho, resolve, invoke, builtin, hs, hx, hrun, Result.andThen]
  exact H A' cap' w' h1 h2
def cleared (w : World) (T : Nat) : World := (w.setCell ⟨T, 3, none⟩ (.int .i64 0)).setCell ⟨T, 4, none⟩ (.slice none 0 0)
theorem clear_ps {w : World} {T : Nat} {own : Nat → Prop} {s : S} {Ad : List UInt8 → Option Addr × Nat} {m : Nat} {ka : Option Addr} {kc : Nat} (p : PS w T own s Ad m ka kc) :
    PS (cleared w T) T own { s with fuse := 0, keep := [] } Ad m none 0 ∧ Step own own w (cleared w T) := by
  have o3 := obj_set (o := 4) (obj_set (o := 3) p.obj (.int .i64 0)) (.slice none 0 0)
  exact ⟨p.flags (own2 := own) (off := s.off) (fuse := 0) (keep := []) (ka2 := none) (kc2 := 0) (w' := cleared w T) (by simp [cleared, World.setCell])
    (fun b _ hb => by unfold cleared; rw [Below.heap_setCell _ _ _ _ hb, Below.heap_setCell _ _ _ _ hb]) o3 (OwnN.none_ _ _) (fun _ h => h) (fun b hb => by have := p.lt b hb; simp [cleared, World.setCell]; exact this) (fun a ha => by cases ha) (Nat.zero_le _) (by simp),
    (Only.set own 3 w _ p.ownT).trans (Only.set own 4 _ _ p.ownT) (fun _ h => .inl h), fun _ h => .inl h⟩
theorem fuse_end {w w1 w2 : World} {T : Nat} {own : Nat → Prop} {s : S} {Ad : List UInt8 → Option Addr × Nat} {m : Nat} (p : PS w1 T own { s with fuse := 0, keep := [] } Ad m none 0) (hs : Step own own w w1) (hb : Below w1.heap.size w1.drew w2) {A2 : Option Addr} {c2 k N : Nat} {ks : List Int} (ho : OwnN w2 w1.heap.size A2 c2 ks)
    (hk : k = ks.length) (hk2 : k ≤ 64) {n : Int} (hn : n = (N : Int)) (hN : N ≤ 9223372036854775807) : Leaves w T own { s with fuse := N, keep := ks } ((w2.setCell ⟨T, 3, none⟩ (.int .i64 n)).setCell ⟨T, 4, none⟩ (.slice A2 k c2)) := by
  subst hk hn
  have hb : Below w1.heap.size w1 w2 := ⟨hb.os, hb.tape, hb.output, hb.size, hb.block⟩
  have p2 := p.grow hb
  have o3 := obj_set (o := 4) (obj_set (o := 3) p2.obj (.int .i64 (N : Int))) (.slice A2 ks.length c2)
  have hTA : ∀ a, A2 = some a → a.block ≠ T := fun a ha => by
    subst ha
    obtain ⟨cur, hc⟩ := ho.block
    exact type_ne hc p2.obj (by decide)
  have q := p2.flags (own2 := ext own w1 w2) (off := s.off) (fuse := N) (keep := ks) (ka2 := A2) (kc2 := c2) (w' := (w2.setCell ⟨T, 3, none⟩ (.int .i64 (N : Int))).setCell ⟨T, 4, none⟩ (.slice A2 ks.length c2)) (by simp [World.setCell])
    (fun b _ hb => by rw [Below.heap_setCell _ _ _ _ hb, Below.heap_setCell _ _ _ _ hb]) o3
    (OwnN.keep (base := 0) ⟨ho.1, by
      rcases ho.2 with h | ⟨g, c', cur, e, _, r⟩
      · exact .inl h
      · exact .inr ⟨g, c', cur, e, Nat.zero_le _, r⟩⟩ fun a ha => by rw [Below.heap_setCell _ _ _ _ (hTA a ha), Below.heap_setCell _ _ _ _ (hTA a ha)])
    (fun _ h => .inl h) (fun b hb' => by
      have := ext_lt p.lt hb.size b hb'
      simp [World.setCell]; exact this) (fun a ha => by subst ha; exact .inr ⟨(OwnN.lt ho).1, (OwnN.lt ho).2⟩) hN hk2
  have o2 : Only own w w2 := hs.only.trans (Only.of (own := own) hb) (fun _ h => .inl h)
  exact ⟨ext own w1 w2, ⟨Ad, m, A2, c2, q⟩, o2.trans ((Only.set own 3 w2 _ p.ownT).trans (Only.set own 4 _ _ p.ownT) (fun _ h => .inl h)) (fun _ h => .inl h), fun b hb' => by
    rcases hb' with h1 | h1
    · exact .inl h1
    · exact .inr (Nat.le_trans hs.only.size h1.1)⟩
set_option maxHeartbeats 1000000 in
theorem fuse_less (T : Nat) (own : Nat → Prop) (s : S) (n : Int) (A : Option Addr) (len cap : Nat) (w : World) (h : PState w T own s) (ho : s.off = false) (hn : n < 1) :
    Calls Tryz.prog 8 #[.pointer (some ⟨T, 0, none⟩), .int .i64 n, .slice A len cap] w fun e w' => e = .returned (.tuple #[]) ∧ Leaves w T own { s with fuse := 0, keep := [] } w' := by
  obtain ⟨Ad, m, ka, kc, p⟩ := h
  have CP := Lib.hid (clear_ps p)
  obtain ⟨⟨_, _, c2, c3, c4⟩, _, _, f2, f3, f4⟩ := obj5 p.obj
  rw [ho] at c2
  clear p ho
  go_enter Tryz.func8, Tryz.ntmps8
  go_wp2
  refine bodyPost_ret (results_none rfl _ _ _) rfl ?_
  exact ⟨rfl, own, ⟨Ad, m, none, 0, CP.out.1⟩, CP.out.2⟩
theorem fuse_off (T : Nat) (own : Nat → Prop) (s : S) (n : Int) (A : Option Addr) (len cap : Nat) (w : World) (h : PState w T own s) (ho : s.off = true) :
    Calls Tryz.prog 8 #[.pointer (some ⟨T, 0, none⟩), .int .i64 n, .slice A len cap] w fun e w' => e = .returned (.tuple #[]) ∧ Leaves w T own s w' := by
  have HP := Lib.hid h
  obtain ⟨Ad, m, ka, kc, p⟩ := h
  obtain ⟨⟨_, _, c2, _, _⟩, _⟩ := obj5 p.obj
  rw [ho] at c2
  clear p ho
  go_enter Tryz.func8, Tryz.ntmps8
  go_wp2
  refine bodyPost_ret (results_none rfl _ _ _) rfl ?_
  exact ⟨rfl, Leaves.same HP.out (Below.refl _ _)⟩
set_option maxRecDepth 20000 in
set_option maxHeartbeats 4000000 in
theorem fuse_good (T : Nat) (own : Nat → Prop) (s : S) (n : Int) (A : Option Addr) (ks : List Int) (len cap k : Nat) (hlen : len = ks.length) (hcap : ks.length ≤ cap) (hk : (len ≤ 64 ∧ k = len) ∨ (64 < len ∧ k = 64)) (w : World) (h : PState w T own s) (ho : s.off = false) (hn : 1 ≤ n) (hn2 : n ≤ 9223372036854775807) (hi : Ints w A ks) (hT : 0 < ks.length → ∀ a, A = some a → a.block ≠ T) :
    Calls Tryz.prog 8 #[.pointer (some ⟨T, 0, none⟩), .int .i64 n, .slice A len cap] w fun e w' => e = .returned (.tuple #[]) ∧ Leaves w T own { s with fuse := n.toNat, keep := ks.take k } w' := by
  obtain ⟨Ad, m, ka, kc, p⟩ := h
  have HP := Lib.hid p
  have CP := Lib.hid (clear_ps p)
  have LK := Lib.hid (show (ks.take k).length = k by rw [List.length_take]; omega)
  have IK : Hid (Ints (cleared w T) A (ks.take k)) := Lib.hid ((hi.head k).keep' (fun hp a ha => by
    have h1 := hT (by rw [List.length_take] at hp; omega) a ha
    unfold cleared; rw [Below.heap_setCell _ _ _ _ h1, Below.heap_setCell _ _ _ _ h1]))
  have K64 := Lib.hid (show k ≤ 64 by omega)
  have HN := Lib.hid (show n = (n.toNat : Int) ∧ n.toNat ≤ 9223372036854775807 by omega)
  have sl : ∀ W, (Instr.slice 23 (.slice A len cap) none (some (.int .i64 (k : Int))) none).run Tryz.prog W = .ok (.slice A k cap) W := fun W => slice_toN A len cap k (by omega) .i64 W
  have hm : min (len : Int) 64 = (k : Int) := by omega
  obtain ⟨⟨_, _, c2, c3, c4⟩, _, _, f2, f3, f4⟩ := obj5 p.obj
  rw [ho] at c2
  rcases hk with ⟨hk1, rfl⟩ | ⟨hk1, rfl⟩
  · clear p ho hi hT hcap hlen hk1
    go_enter Tryz.func8, Tryz.ntmps8
    go_wp2
    change Code.wp _ _ _ _ (cleared w T)
    have W0 := Lib.hid (CP.out.1.lt T CP.out.1.ownT)
    have TO := Lib.hid CP.out.1.obj
    generalize cleared w T = w1 at *
    clear c2 c3 c4 f2 f3 f4
    obtain ⟨⟨_, _, _, c3, c4⟩, _, _, _, f3, f4⟩ := obj5 TO.out
    have c4 : w1.cell? ⟨T, 4, none⟩ = some (.slice none 0 0) := c4
    go_region_law (first
        | (refine step_appI (by rfl) _ _ (by rfl) (by rfl) (by rfl) LK.out.symm (show Ints w1.drew A (ks.take k) from IK.out) (by rw [LK.out]; have := K64.out; omega) ?_; intro A2 c2 w2 ho2 hb2; have TO2 := Lib.hid ((hb2.block T W0.out).trans TO.out); obtain ⟨⟨_, _, _, e3, e4⟩, _, _, _, h3, h4⟩ := obj5 TO2.out; have O2 := Lib.hid ho2; have B2 := Lib.hid hb2; clear ho2 hb2))
    all_goals
      refine bodyPost_end (results_none rfl _ _ _) rfl ?_
      exact ⟨rfl, fuse_end CP.out.1 CP.out.2 B2.out O2.out LK.out.symm K64.out HN.out.1 HN.out.2⟩
  · have hm : min (len : Int) 64 = 64 := by omega
    have sl : ∀ W, (Instr.slice 23 (.slice A len cap) none (some (.int .i64 64)) none).run Tryz.prog W = .ok (.slice A 64 cap) W := sl
    clear p ho hi hT hcap hlen hk1
    go_enter Tryz.func8, Tryz.ntmps8
    go_wp2
    change Code.wp _ _ _ _ (cleared w T)
    have W0 := Lib.hid (CP.out.1.lt T CP.out.1.ownT)
    have TO := Lib.hid CP.out.1.obj
    generalize cleared w T = w1 at *
    clear c2 c3 c4 f2 f3 f4
    obtain ⟨⟨_, _, _, c3, c4⟩, _, _, _, f3, f4⟩ := obj5 TO.out
    have c4 : w1.cell? ⟨T, 4, none⟩ = some (.slice none 0 0) := c4
    go_region_law (first
        | (refine step_appI (by rfl) _ _ (by rfl) (by rfl) (by rfl) LK.out.symm (show Ints w1.drew A (ks.take 64) from IK.out) (by rw [LK.out]; have := K64.out; omega) ?_; intro A2 c2 w2 ho2 hb2; have TO2 := Lib.hid ((hb2.block T W0.out).trans TO.out); obtain ⟨⟨_, _, _, e3, e4⟩, _, _, _, h3, h4⟩ := obj5 TO2.out; have O2 := Lib.hid ho2; have B2 := Lib.hid hb2; clear ho2 hb2))
    all_goals
      refine bodyPost_end (results_none rfl _ _ _) rfl ?_
      exact ⟨rfl, fuse_end CP.out.1 CP.out.2 B2.out O2.out LK.out.symm K64.out HN.out.1 HN.out.2⟩
theorem fuse_any (T : Nat) (own : Nat → Prop) (s : S) (n : Int) (A : Option Addr) (ks : List Int) (cap : Nat) (hcap : ks.length ≤ cap) (w : World) (h : PState w T own s) (hn2 : n ≤ 9223372036854775807) (hi : Ints w A ks) (hT : 0 < ks.length → ∀ a, A = some a → a.block ≠ T) :
    Calls Tryz.prog 8 #[.pointer (some ⟨T, 0, none⟩), .int .i64 n, .slice A ks.length cap] w fun e w' => e = .returned (.tuple #[]) ∧ Leaves w T own (fuseS s n ks) w' := by
  unfold fuseS
  by_cases ho0 : s.off = true
  · rw [if_pos ho0]; exact fuse_off T own s n A _ cap w h ho0
  · rw [if_neg ho0]
    have ho : s.off = false := by simpa using ho0
    by_cases hn : n < 1
    · rw [if_pos hn]; exact fuse_less T own s n A _ cap w h ho hn
    · rw [if_neg hn]
      obtain ⟨k, hk⟩ : ∃ k, k = min ks.length 64 := ⟨_, rfl⟩
      have := fuse_good T own s n A ks _ cap k rfl hcap (by omega) w h ho (by omega) hn2 hi hT
      have e : ks.take k = ks.take 64 := by
        rw [hk]
        rcases Nat.le_total ks.length 64 with h1 | h1
        · rw [Nat.min_eq_left h1, List.take_of_length_le (Nat.le_refl _), List.take_of_length_le h1]
        · rw [Nat.min_eq_right h1]
      rw [e] at this
      exact this
end Go.Proofs.YtdbhicifjljjnaaGreatDoor
/-
  A store that was made since a world w0, as the laws use it: each method as a step from one plain state to the next; and the laws' first test.
-/
namespace Go.Proofs.YtdbhicifjljjnaaGreatDoor
open Go.RowKit St

/-- The store at block T, made since w0, whose plain state is s. -/
def Run (w0 w : World) (T : Nat) (s : S) : Prop := ∃ own, PState w T own s ∧ (∀ k, own k → w0.heap.size ≤ k) ∧ Below w0.heap.size w0 w
theorem Run.below {w0 w : World} {T : Nat} {s : S} (h : Run w0 w T s) : Below w0.heap.size w0 w := by obtain ⟨_, _, _, h⟩ := h; exact h
theorem Run.inv {w0 w : World} {T : Nat} {s : S} (h : Run w0 w T s) : Inv s := by obtain ⟨_, p, _⟩ := h; exact p.inv
theorem Run.size {w0 w : World} {T : Nat} {s : S} (h : Run w0 w T s) : w0.heap.size ≤ w.heap.size := h.below.size
theorem Run.grow {w0 w w' : World} {T : Nat} {s : S} (h : Run w0 w T s) (hb : Below w.heap.size w w') : Run w0 w' T s := by
  obtain ⟨own, p, ho, h0⟩ := h
  exact ⟨own, p.grow hb, ho, h0.trans (hb.mono h0.size)⟩
theorem Run.alloc {w0 w : World} {T : Nat} {s : S} (h : Run w0 w T s) (o : Obj) : Run w0 (w.alloc o) T s := h.grow (one_alloc w o)
theorem Run.draw {w0 w : World} {T : Nat} {s : S} (h : Run w0 w T s) (n : Nat) : Run w0 (w.drewN n) T s := h.grow (below_n (Below.refl _ _) n)
theorem Run.leaves {w0 w w' : World} {T : Nat} {s' : S} {own : Nat → Prop} (ho : ∀ k, own k → w0.heap.size ≤ k) (h0 : Below w0.heap.size w0 w) (hl : Leaves w T own s' w') : Run w0 w' T s' := by
  obtain ⟨own2, p, st⟩ := hl
  refine ⟨own2, p, fun k hk => ?_, h0.trans (st.only.below h0.size ho)⟩
  rcases st.sub k hk with h1 | h1
  · exact ho k h1
  · exact Nat.le_trans h0.size h1
theorem Run.ahead {w0 w1 w : World} {T : Nat} {s : S} (h : Run w1 w T s) (hb : Below w0.heap.size w0 w1) : Run w0 w T s := by
  obtain ⟨own, p, ho, h0⟩ := h
  exact ⟨own, p, fun k hk => Nat.le_trans hb.size (ho k hk), hb.trans (h0.mono hb.size)⟩
theorem Run.T_ge {w0 w : World} {T : Nat} {s : S} (h : Run w0 w T s) : w0.heap.size ≤ T := by obtain ⟨own, p, ho, _⟩ := h; exact ho _ p.ownT
def NewRun (w0 w : World) (room : Nat) (e : Ending) (w' : World) : Prop := ∃ T, e = .returned (.tuple #[.pointer (some ⟨T, 0, none⟩), .int .i64 0]) ∧ Hid (Run w0 w' T ⟨room, [], false, 0, []⟩)
theorem new_run (room : Nat) (r : Int) (hr : r = (room : Int)) (h0 : 1 ≤ room) (h1 : room ≤ 16777216) (w0 w : World) (hb : Below w0.heap.size w0 w) : Calls Tryz.prog 23 #[.int .i64 r] w (NewRun w0 w room) := by
  subst hr
  refine (new_good room h0 h1 w).mono ?_
  rintro e w' ⟨rfl, own, p, hb2, ho⟩
  exact ⟨_, rfl, Lib.hid ⟨own, p, fun k hk => Nat.le_trans hb.size (ho k hk), hb.trans (hb2.mono hb.size)⟩⟩
def OpRun (w0 : World) (T : Nat) (er : Int) (s : S) (e : Ending) (w' : World) : Prop := e = .returned (.int .i64 er) ∧ Hid (Run w0 w' T s)
theorem op_run {P : Program} {f : FuncId} {args : Array Value} {w0 w : World} {T : Nat} {own : Nat → Prop} {er er' : Int} {s s' : S} (ho : ∀ k, own k → w0.heap.size ≤ k) (h0 : Below w0.heap.size w0 w) (h : Calls P f args w (OpPost w T own er s)) (he : er = er') (hs : s = s') :
    Calls P f args w (OpRun w0 T er' s') := by
  subst he hs
  exact h.mono fun e w' ⟨h1, h2⟩ => ⟨h1, Lib.hid (Run.leaves ho h0 h2)⟩
section
variable {w0 w : World} {T : Nat} {s : S} (h : Run w0 w T s)
include h
theorem append_run (sn : ByteArray) (hsn : sn.size ≤ 9223372036854775807) (A0 : Option Addr) (n cap0 : Nat) (zs : List Int) (hn : n = zs.length) (hby : Bytes w w.heap.size A0 zs) (er : Int) (s' : S) (he : actE s (appE s (bs sn) zs.length) = er) (hs : actS s (appE s (bs sn) zs.length) (appL s (bs sn) zs) = s') :
    Calls Tryz.prog 41 #[.pointer (some ⟨T, 0, none⟩), .string sn, .slice A0 n cap0] w (OpRun w0 T er s') := by
  subst hn
  obtain ⟨own, p, ho, h0⟩ := h
  exact op_run ho h0 (append_any T own s w p sn hsn A0 cap0 zs hby) he hs
theorem sync_run (sn : ByteArray) (hsn : sn.size ≤ 9223372036854775807) (er : Int) (s' : S) (he : actE s (fnd s (bs sn) [bs sn, bs sn]) = er) (hs : actS s (fnd s (bs sn) [bs sn, bs sn]) (swapL s (bs sn) (bs sn)) = s') :
    Calls Tryz.prog 43 #[.pointer (some ⟨T, 0, none⟩), .string sn] w (OpRun w0 T er s') := by
  obtain ⟨own, p, ho, h0⟩ := h
  exact op_run ho h0 (sync_any T own s w p sn hsn) he hs
theorem cut_run (sn : ByteArray) (hsn : sn.size ≤ 9223372036854775807) (n : Int) (er : Int) (s' : S) (he : actE s (cutE s (bs sn) n) = er) (hs : actS s (cutE s (bs sn) n) (cutL s (bs sn) n.toNat) = s') :
    Calls Tryz.prog 47 #[.pointer (some ⟨T, 0, none⟩), .string sn, .int .i64 n] w (OpRun w0 T er s') := by
  obtain ⟨own, p, ho, h0⟩ := h
  exact op_run ho h0 (cut_any T own s w p sn hsn n) he hs
theorem drop_run (sn : ByteArray) (hsn : sn.size ≤ 9223372036854775807) (er : Int) (s' : S) (he : actE s (fnd s (bs sn) [bs sn]) = er) (hs : actS s (fnd s (bs sn) [bs sn]) (del (bs sn) s.fs) = s') :
    Calls Tryz.prog 30 #[.pointer (some ⟨T, 0, none⟩), .string sn] w (OpRun w0 T er s') := by
  obtain ⟨own, p, ho, h0⟩ := h
  exact op_run ho h0 (drop_any T own s w p sn hsn) he hs
theorem swap_run (sa sb : ByteArray) (hsa : sa.size ≤ 9223372036854775807) (hsb : sb.size ≤ 9223372036854775807) (er : Int) (s' : S) (he : actE s (fnd s (bs sa) [bs sb, bs sa]) = er) (hs : actS s (fnd s (bs sa) [bs sb, bs sa]) (swapL s (bs sa) (bs sb)) = s') :
    Calls Tryz.prog 59 #[.pointer (some ⟨T, 0, none⟩), .string sa, .string sb] w (OpRun w0 T er s') := by
  obtain ⟨own, p, ho, h0⟩ := h
  exact op_run ho h0 (swap_any T own s w p sa sb hsa hsb) he hs
theorem crash_run (A : Option Addr) (ks : List Int) (n cap : Nat) (hn : n = ks.length) (hkl : n ≤ cap) (hkb : n ≤ 4611686018427387904) (hk : Ints w A ks) (s' : S) (hs : crash s ks = s') :
    Calls Tryz.prog 14 #[.pointer (some ⟨T, 0, none⟩), .slice A n cap] w fun e w' => e = .returned (.tuple #[]) ∧ Hid (Run w0 w' T s') := by
  subst hn hs
  obtain ⟨own, p, ho, h0⟩ := h
  exact (crash_any T own s A ks cap hkl hkb w p hk).mono fun e w' ⟨h1, h2⟩ => ⟨h1, Lib.hid (Run.leaves ho h0 h2)⟩
theorem fuse_run (n : Int) (hn : n ≤ 9223372036854775807) (A : Option Addr) (ks : List Int) (len cap : Nat) (hl : len = ks.length) (hcap : len ≤ cap) (hi : Ints w A ks) (hT : 0 < ks.length → ∀ a, A = some a → a.block ≠ T) (s' : S) (hs : fuseS s n ks = s') :
    Calls Tryz.prog 8 #[.pointer (some ⟨T, 0, none⟩), .int .i64 n, .slice A len cap] w fun e w' => e = .returned (.tuple #[]) ∧ Hid (Run w0 w' T s') := by
  subst hl hs
  obtain ⟨own, p, ho, h0⟩ := h
  exact (fuse_any T own s n A ks cap hcap w p hn hi hT).mono fun e w' ⟨h1, h2⟩ => ⟨h1, Lib.hid (Run.leaves ho h0 h2)⟩
theorem on_run (s' : S) (hs : ({ s with off := false } : S) = s') :
    Calls Tryz.prog 15 #[.pointer (some ⟨T, 0, none⟩)] w fun e w' => e = .returned (.tuple #[]) ∧ Hid (Run w0 w' T s') := by
  subst hs
  obtain ⟨own, p, ho, h0⟩ := h
  exact (on_any T own s w p).mono fun e w' ⟨h1, h2⟩ => ⟨h1, Lib.hid (Run.leaves ho h0 h2)⟩
theorem read_run (sn : ByteArray) (hsn : sn.size ≤ 9223372036854775807) (ys : List Int) (er : Int) (he : readE s (bs sn) = er) (hy : readL s (bs sn) = ys) :
    Calls Tryz.prog 65 #[.pointer (some ⟨T, 0, none⟩), .string sn] w fun e w' => ∃ A cap, e = .returned (.tuple #[.slice A ys.length cap, .int .i64 er]) ∧ Hid (OwnB w' w.heap.size A cap ys) ∧ Hid (Run w0 w' T s) := by
  subst he hy
  obtain ⟨own, p, ho, h0⟩ := h
  refine (read_any T own s w p sn hsn).mono ?_
  rintro e w' ⟨zs, A, cap, hz, rfl, h1, h2⟩
  have hz' : zs = readL s (bs sn) := hz.out
  subst hz'
  exact ⟨A, cap, rfl, Lib.hid h1, Lib.hid (Run.grow (s := s) ⟨own, p, ho, h0⟩ h2)⟩
theorem free_run (n : Int) (hn : (s.room : Int) - (total s.fs : Nat) = n) :
    Calls Tryz.prog 58 #[.pointer (some ⟨T, 0, none⟩)] w fun e w' => e = .returned (.int .i64 n) ∧ Hid (Run w0 w' T s) ∧ Hid (Below w.heap.size w w') := by
  subst hn
  obtain ⟨own, p, ho, h0⟩ := h
  exact (free_any T own s w p).mono fun e w' ⟨h1, h2⟩ => ⟨h1, Lib.hid (Run.grow (s := s) ⟨own, p, ho, h0⟩ h2), Lib.hid h2⟩
theorem off_run : Calls Tryz.prog 11 #[.pointer (some ⟨T, 0, none⟩)] w fun e w' => e = .returned (.bool s.off) ∧ w = w' := by
  obtain ⟨own, p, ho, h0⟩ := h
  exact off_any T own s w p
theorem names_run (ns : List ByteArray) (hn : (s.fs.map F.nm).map mkB = ns) :
    Calls Tryz.prog 34 #[.pointer (some ⟨T, 0, none⟩)] w fun e w' => ∃ A cap, e = .returned (.slice A ns.length cap) ∧ Hid (Strs w' w'.heap.size A ns) ∧ Hid (Run w0 w' T s) ∧ Hid (Below w.heap.size w w') := by
  subst hn
  obtain ⟨own, p, ho, h0⟩ := h
  refine (names_any T own s w p).mono ?_
  rintro e w' ⟨A, cap, ns, hns, rfl, h1, h2⟩
  have hns' : ns = (s.fs.map F.nm).map mkB := hns.out
  subst hns'
  exact ⟨A, cap, rfl, Lib.hid h1, Lib.hid (Run.grow (s := s) ⟨own, p, ho, h0⟩ h2), Lib.hid h2⟩
end
theorem ints_lit (w : World) (n : Nat) (hn : n = w.heap.size) (z : Int) (fr : Nat × Nat) : Ints (w.alloc (.cells #[.int .i64 z] 3 fr)) (some ⟨n, 0, none⟩) [z] := fun _ => by
  subst hn
  refine ⟨w.heap.size, 0, rfl, fun i hi => ?_⟩
  simp at hi; subst hi
  rw [Nat.zero_add, World.cell?_alloc_mark]
  simp

/-! ### awake -/
def s0 (room : Nat) : S := ⟨room, [], false, 0, []⟩
end Go.Proofs.YtdbhicifjljjnaaGreatDoor
