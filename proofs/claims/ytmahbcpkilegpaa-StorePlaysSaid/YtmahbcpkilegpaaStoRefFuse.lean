/-
  The reference's Fuse.
-/
import Derived.Test.YtmahbcpkilegpaaStoRefOwn
namespace Go.Proofs.Ytmahbcpkilegpaa
open Go.RowKit St

theorem OwnN.start (w : World) (base : Nat) (hb : base ≤ w.heap.size) : OwnN (w.alloc (.cells #[] 3)) base (some ⟨w.heap.size, 0, none⟩) 0 [] := World.ownsRow_lit w #[] 0 hb (by decide) rfl
theorem nil_srcN {w : World} {base : Nat} {A : Option Addr} {cap : Nat} {zs : List Int} (h : OwnN w base A cap zs) (c : Nat) (ty : TypeId) :
    (Builtin.append_ #[44, 44] ty #[.slice A zs.length cap, .slice none 0 c]).run Try.prog w = .ok (.slice A zs.length cap) w := by
  obtain ⟨i, hi, _, _, _⟩ := info_parts int_info
  have hfit := h.2
  rcases hfit with ⟨e, _⟩ | ⟨g, c', cur, e, _, _, hle, _⟩
  · rw [e]
    simp [Builtin.append_, run_underlying Try.underlying44, sizeOf, typeInfo, hi, Builtin.lenOf, Builtin.firstCells]
  · rw [e]
    simp [Builtin.append_, run_underlying Try.underlying44, sizeOf, typeInfo, hi, Builtin.lenOf, Builtin.firstCells, hle, storeCells]
theorem run_appJ {w : World} {base : Nat} {A0 : Option Addr} {c0 : Nat} (h : OwnN w base A0 c0 []) (hbase : base ≤ w.heap.size) {A : Option Addr} {zs : List Int} (hz : Ints w A zs) (c : Nat) (hl : zs.length ≤ 1000000000) (ty : TypeId) :
    ∃ A' cap' w', (Builtin.append_ #[44, 44] ty #[.slice A0 0 c0, .slice A zs.length c]).run Try.prog w = .ok (.slice A' zs.length cap') w' ∧ OwnN w' base A' cap' zs ∧ Below base w w' := by
  obtain ⟨i, hi, hz0, hs, hyb⟩ := info_parts int_info
  rcases A with _ | ad
  · have h0 : zs = [] := by
      rcases Nat.eq_zero_or_pos zs.length with h0 | h0
      · exact List.eq_nil_of_length_eq_zero h0
      · obtain ⟨_, _, e, _⟩ := hz h0; cases e
    subst h0
    exact ⟨A0, c0, w, nil_srcN h c ty, h, Below.refl _ _⟩
  · obtain ⟨v', w', hrun, hown, hg, _, _⟩ := run_append_own_at (P := Try.prog) (w := w) base 44 ty 3 i _ 1 8 Try.underlying44 hi hz0 hs hyb rfl (by decide)
      _ 0 _ h ad zs.length c (zs.map (Value.int .i64)) (by simp) (ints_cells hz) (fun u hu => by simp at hu; obtain ⟨z, _, rfl⟩ := hu; rfl) (by unfold maxLen; omega) (by omega) hbase
    obtain ⟨A', cap', rfl⟩ := form_ofN hown
    rw [Nat.zero_add] at hown
    rw [Nat.zero_add] at hrun
    exact ⟨A', cap', w', hrun, hown, grownN_below h hbase hg⟩
theorem wp_appJ {w : World} {ops : Array Oper} {rest : List Oper} {o : Oper} {a : Act} {Q : Exit → Act → World → Prop} (hgd : o.guard = none) (s t : Operand)
    (ho : o.op = .call { callee := .builtin .append, args := #[s, t], argTypes := #[44, 44] })
    {base : Nat} {A0 : Option Addr} {c0 : Nat} (hs : a.eval s = .slice A0 0 c0) (h0 : OwnN w base A0 c0 []) (hbase : base ≤ w.heap.size) {A : Option Addr} {n c : Nat} {zs : List Int} (hx : a.eval t = .slice A n c) (hn : n = zs.length) (h : Ints w A zs) (hlen : zs.length ≤ 1000000000)
    (K : ∀ A' cap' w', OwnN w' base A' cap' zs → Below base w w' → wpList Try.prog ops Q rest (a.put o.dst (.slice A' n cap')) w') :
    wpList Try.prog ops Q (o :: rest) a w := by
  subst hn
  obtain ⟨A', cap', w', hrun, h1, h2⟩ := run_appJ h0 hbase h c hlen o.type
  refine wpList_plain hgd fun K' hK => ?_
  unfold Oper.wp
  simp [execOp, ho, resolve, invoke, builtin, hs, hx, hrun, Result.andThen]
  exact hK _ _ (K A' cap' w' h1 h2)
theorem ints_grow {w w' : World} {A : Option Addr} {zs : List Int} (h : Ints w A zs) (hb : Below w.heap.size w w') : Ints w' A zs := fun hp => by
  obtain ⟨b, off, e, hc⟩ := h hp
  refine ⟨b, off, e, fun i hi => ?_⟩
  have h1 := hc i hi
  have hlt : b < w.heap.size := by
    rcases Nat.lt_or_ge b w.heap.size with h2 | h2
    · exact h2
    · simp [World.cell?, Array.getElem?_eq_none h2] at h1
  exact (hb.cell (p := ⟨b, off + i, none⟩) hlt).trans h1
theorem inv_flags {s : S} (h : Inv s) {off : Bool} {fuse : Nat} {keep : List Int} (hf : fuse ≤ 9223372036854775807) (hk : keep.length ≤ 64) : Inv { s with off := off, fuse := fuse, keep := keep } :=
  ⟨h.sorted, h.names, h.sure, h.tot, h.room, h.count, hf, hk⟩
theorem fuseS_as {s : S} (ho : s.off = false) (n : Int) (ks : List Int) : fuseS s n ks = { s with off := false, fuse := n.toNat, keep := if n < 1 then [] else ks.take 64 } := by
  unfold fuseS
  rw [if_neg (by simp [ho])]
  by_cases h : n < 1
  · have : n.toNat = 0 := by omega
    rw [if_pos h, if_pos h, this, ← ho]
  · rw [if_neg h, if_neg h, ← ho]
theorem rfuse_end {w w2 : World} {R : Nat} {own : Nat → Prop} {s : S} {rf : Int} {rk : List Int} {Ad : List UInt8 → Option Addr × Nat} {fa : Option Addr} {fc : Nat} {ka : Option Addr} {kc : Nat} (p : RP w R own s rf rk Ad fa fc ka kc) (ho : s.off = false)
    (hb : Below w.heap.size w w2) {A2 : Option Addr} {k2 len : Nat} {ks : List Int} (h2 : OwnN w2 w.heap.size A2 k2 ks) (hl : len = ks.length) (hk : ks.length ≤ 1000000) {n : Int} (hn0 : -9223372036854775808 ≤ n) (hn1 : n ≤ 9223372036854775807) :
    RLeaves w R own (fuseS s n ks) ((w2.setCell ⟨R, 3, none⟩ (.int .i64 n)).setCell ⟨R, 4, none⟩ (.slice A2 len k2)) := by
  subst hl
  have hR := p.lt _ p.ownT
  have to2 := (hb.block R hR).trans p.rs.obj
  have o3 := obj_set (o := 4) (obj_set (o := 3) to2 (.int .i64 n)) (.slice A2 ks.length k2)
  have hkb : ∀ k, k ≠ R → ((w2.setCell ⟨R, 3, none⟩ (.int .i64 n)).setCell ⟨R, 4, none⟩ (.slice A2 ks.length k2)).heap[k]? = w2.heap[k]? := fun k hk => by
    rw [Below.heap_setCell _ _ _ _ hk, Below.heap_setCell _ _ _ _ hk]
  have hsz : ((w2.setCell ⟨R, 3, none⟩ (.int .i64 n)).setCell ⟨R, 4, none⟩ (.slice A2 ks.length k2)).heap.size = w2.heap.size := by simp [World.setCell]
  have hA : ∀ a, A2 = some a → w.heap.size ≤ a.block ∧ a.block < w2.heap.size := fun a ha => by subst ha; exact h2.lt
  have hon := (Only.of (own := own) hb).trans ((Only.set own 3 w2 (.int .i64 n) p.ownT).trans (Only.set own 4 _ (.slice A2 ks.length k2) p.ownT) (fun _ h => .inl h)) (fun _ h => .inl h)
  rw [fuseS_as ho]
  refine ⟨fun k => own k ∨ ∃ a, A2 = some a ∧ k = a.block, ⟨n, ks, Ad, fa, fc, A2, k2, ?_, hn1, hn0, hk⟩, hon, fun k hk => ?_⟩
  · refine p.flags (fun k hk hne => (hkb k hne).trans (hb.block k hk)) ?_ ?_ (fun _ h => .inl h) (fun k hk => ?_) (fun a ha => .inr ⟨a, ha, rfl⟩) (inv_flags p.rs.inv (by omega) ?_) ⟨rfl, fun h => ?_⟩
    · rw [o3]; simp [ho]
    · exact (show OwnN w2 0 A2 k2 ks from Joins.ownsRow_le h2 (Nat.zero_le _)).keep fun a ha => hkb _ (by have := (hA a ha).1; omega)
    · rw [hsz]
      rcases hk with h1 | ⟨a, ha, rfl⟩
      · exact Nat.lt_of_lt_of_le (p.lt k h1) hb.size
      · exact (hA a ha).2
    · by_cases h : n < 1
      · rw [if_pos h]; simp
      · rw [if_neg h, List.length_take]; omega
    · rw [if_neg (by omega)]
  · rcases hk with h1 | ⟨a, ha, rfl⟩
    · exact .inl h1
    · exact .inr (hA a ha).1
set_option maxHeartbeats 2000000 in
theorem rfuse_on (R : Nat) (own : Nat → Prop) (s : S) (n : Int) (hn0 : -9223372036854775808 ≤ n) (hn1 : n ≤ 9223372036854775807) (A : Option Addr) (ks : List Int) (len cap : Nat) (hl : len = ks.length) (hk : ks.length ≤ 1000000) (w : World) (hi : Ints w A ks) (h : RState w R own s) (ho : s.off = false) :
    Calls Try.prog 31 #[.pointer (some ⟨R, 0, none⟩), .int .i64 n, .slice A len cap] w fun e w' => e = .returned (.tuple #[]) ∧ RLeaves w R own (fuseS s n ks) w' := by
  obtain ⟨rf, rk, Ad, fa, fc, ka, kc, p, b1, b2, b3⟩ := h
  obtain ⟨⟨_, _, c2, c3, c4⟩, _, _, f2, f3, f4⟩ := obj5 p.rs.obj
  rw [ho] at c2
  have P := Lib.hid p
  have HI := Lib.hid (ints_grow hi (one_alloc w (.cells #[] 3)))
  have W1 := Lib.hid (one_alloc w (.cells #[] 3))
  have HL := Lib.hid hl
  have HK := Lib.hid (show ks.length ≤ 1000000000 by omega)
  have HK2 := Lib.hid hk
  have HN := Lib.hid (And.intro hn0 hn1)
  clear p hi hl hk
  go_enter Try.func31, Try.ntmps31
  go_wp2_with (at_builtin; refine wp_appJ rfl (.tmp 14) (.tmp 15) rfl rfl (OwnN.start w w.heap.size (Nat.le_refl _)) (by simp) rfl HL.out HI.out HK.out ?_; intro A2 k2 w2 ho2 hb2; have O2 := Lib.hid ho2; have B2 := Lib.hid (W1.out.trans hb2); clear ho2 hb2; have TO2 := Lib.hid ((B2.out.block R (P.out.lt _ P.out.ownT)).trans P.out.rs.obj); obtain ⟨⟨_, _, _, e3, e4⟩, _, _, _, h3, h4⟩ := obj5 TO2.out)
  refine bodyPost_end (results_none rfl _ _ _) rfl ?_
  exact ⟨rfl, rfuse_end P.out ho B2.out O2.out HL.out HK2.out HN.out.1 HN.out.2⟩
set_option maxHeartbeats 2000000 in
theorem rfuse_any (R : Nat) (own : Nat → Prop) (s : S) (n : Int) (hn0 : -9223372036854775808 ≤ n) (hn1 : n ≤ 9223372036854775807) (A : Option Addr) (ks : List Int) (len cap : Nat) (hl : len = ks.length) (hk : ks.length ≤ 1000000) (w : World) (hi : Ints w A ks) (h : RState w R own s) :
    Calls Try.prog 31 #[.pointer (some ⟨R, 0, none⟩), .int .i64 n, .slice A len cap] w fun e w' => e = .returned (.tuple #[]) ∧ RLeaves w R own (fuseS s n ks) w' := by
  cases ho : s.off with
  | false => exact rfuse_on R own s n hn0 hn1 A ks len cap hl hk w hi h ho
  | true =>
    have H := Lib.hid h
    have E : Hid (fuseS s n ks = s) := Lib.hid (by unfold fuseS; rw [if_pos ho])
    obtain ⟨rf, rk, Ad, fa, fc, ka, kc, p, _⟩ := h
    obtain ⟨⟨_, _, c2, _, _⟩, _⟩ := obj5 p.rs.obj
    rw [ho] at c2
    clear p hi hl hk hn0 hn1
    go_enter Try.func31, Try.ntmps31
    go_wp2
    refine bodyPost_end (results_none rfl _ _ _) rfl ?_
    exact ⟨rfl, by rw [E.out]; exact RLeaves.same H.out (Below.refl _ _)⟩
end Go.Proofs.Ytmahbcpkilegpaa
