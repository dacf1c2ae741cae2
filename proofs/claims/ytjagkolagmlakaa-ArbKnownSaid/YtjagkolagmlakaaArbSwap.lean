/-
  A register's Swap.
-/
import Derived.Test.YtjagkolagmlakaaArbMem
import Derived.Test.YtjagkolagmlakaaLastOp
import Derived.Deep.CutRange
import Derived.Deep.CutBlock
namespace Go.Proofs.Ytjagkolagmlakaa
open Go.RowKit
theorem step_appK {w : World} {ops : Array Oper} {o : Oper} {a : Act} {K : Act → World → Prop} {Q : Exit → Act → World → Prop} {E : Prop} (hgd : o.guard = none) (s t : Operand) {T ST : TypeId}
    (ho : o.op = .call { callee := .builtin .append, args := #[s, t], argTypes := #[ST, ST] })
    {base k : Nat} {A : Option Addr} {n cap : Nat} {vs us : List (List Value)} {z : Value} {by_ : Nat} (hST : Try.prog.underlying ST = some (.slice T))
    (hI : (Try.prog.info? T).map (fun i => (i.zero, i.size, i.bytes)) = some (some z, k, by_)) (hz : z.cells.size = k) (hk : 0 < k) (hby : by_ ≤ 128)
    (hs : a.eval s = .slice A n cap) (hn : n = vs.length) (h : OwnK w base T k A cap vs) (hbase : base ≤ w.heap.size)
    {b2 o2 m c : Nat} (ht : a.eval t = .slice (some ⟨b2, o2, none⟩) m c) (hm : m = us.length) (hw : Wide k us) (hx : ∀ j u, us.flatten[j]? = some u → w.cell? ⟨b2, o2 + j, none⟩ = some u)
    (hlen : vs.length + us.length ≤ 1000000000) {r : Nat} (hr : vs.length + us.length = r)
    (H : ∀ A' cap' w', OwnK w' base T k A' cap' (vs ++ us) → w.grownBy w' (Value.slice A vs.length cap).ownBlock → (∀ a, A' = some a → (∃ a0, A = some a0 ∧ a.block = a0.block) ∨ a.block = w.heap.size) → K (a.put o.dst (.slice A' r cap')) w') :
    if Region.wanted o (yielded ops a.tmps) = true then Oper.wp Try.prog o a w K Q else E := by
  have hw' : Region.wanted o (yielded ops a.tmps) = true := by simp [Region.wanted, hgd]
  rw [if_pos hw']
  subst hn hm hr
  obtain ⟨A', cap', w', hrun, h1, h2, h3⟩ := run_appK hST hI hz hk hby h hbase hw hx c hlen o.type
  unfold Oper.wp
  simp [execOp, ho, resolve, invoke, builtin, hs, ht, hrun, Result.andThen]
  have hk := H A' cap' w' h1 h2 h3
  exact hk
theorem step_appK' {w : World} {o : Oper} {a : Act} {K : Act → World → Prop} {Q : Exit → Act → World → Prop} (s t : Operand) {T ST : TypeId}
    (ho : o.op = .call { callee := .builtin .append, args := #[s, t], argTypes := #[ST, ST] })
    {base k : Nat} {A : Option Addr} {n cap : Nat} {vs us : List (List Value)} {z : Value} {by_ : Nat} (hST : Try.prog.underlying ST = some (.slice T))
    (hI : (Try.prog.info? T).map (fun i => (i.zero, i.size, i.bytes)) = some (some z, k, by_)) (hz : z.cells.size = k) (hk : 0 < k) (hby : by_ ≤ 128)
    (hs : a.eval s = .slice A n cap) (hn : n = vs.length) (h : OwnK w base T k A cap vs) (hbase : base ≤ w.heap.size)
    {b2 o2 m c : Nat} (ht : a.eval t = .slice (some ⟨b2, o2, none⟩) m c) (hm : m = us.length) (hw : Wide k us) (hx : ∀ j u, us.flatten[j]? = some u → w.cell? ⟨b2, o2 + j, none⟩ = some u)
    (hlen : vs.length + us.length ≤ 1000000000) {r : Nat} (hr : vs.length + us.length = r)
    (H : ∀ A' cap' w', OwnK w' base T k A' cap' (vs ++ us) → w.grownBy w' (Value.slice A vs.length cap).ownBlock → (∀ a, A' = some a → (∃ a0, A = some a0 ∧ a.block = a0.block) ∨ a.block = w.heap.size) → K (a.put o.dst (.slice A' r cap')) w') :
    Oper.wp Try.prog o a w K Q := by
  subst hn hm hr
  obtain ⟨A', cap', w', hrun, h1, h2, h3⟩ := run_appK hST hI hz hk hby h hbase hw hx c hlen o.type
  unfold Oper.wp
  simp [execOp, ho, resolve, invoke, builtin, hs, ht, hrun, Result.andThen]
  have hk := H A' cap' w' h1 h2 h3
  exact hk
/-- The row's block is another than an object's of another type. -/
theorem row_ne {w : World} {base k : Nat} {T t : TypeId} {a : Addr} {cap : Nat} {vs : List (List Value)} (h : OwnK w base T k (some a) cap vs) {g : Nat} {cs : Array Value} {fz : Nat × Nat} (ho : w.heap[g]? = some (.cells cs t fz)) (ht : t ≠ T) : a.block ≠ g := by
  rintro rfl
  rcases h.1.2 with ⟨e1, _⟩ | ⟨g', c', cur, e1, _, hg', _⟩
  · cases e1
  · injection e1 with e1 _ _
    injection e1 with e1
    subst e1
    rw [ho] at hg'
    injection hg' with hg'
    injection hg' with _ h4 _
    exact ht h4
/-- The cells of a struct that lies alone in a block. -/
theorem lit_at {w : World} {b : Nat} {cs : List Value} {t : TypeId} {fz : Nat × Nat} (h : w.heap[b]? = some (.cells cs.toArray t fz)) {j : Nat} {u : Value} (hu : [cs].flatten[j]? = some u) : w.cell? ⟨b, 0 + j, none⟩ = some u := by
  rw [Nat.zero_add, cell_of_row w b j _ t fz h]
  simpa using hu
/-- What Swap leaves: the state behind the others, if the last one was the one told. -/
def SwapPost (w : World) (g : Nat) (O : Nat → Prop) (L : List Ar.S) (hit : Bool) (nw : Ar.S) (e : Ending) (w' : World) : Prop :=
  e = .returned (.bool hit) ∧ ∃ O', Hid (AR w' g O' (if hit = true then L ++ [nw] else L)) ∧ Hid (Step O O' w w')
/-- One state more in the row. -/
theorem AR.push {w w4 w5 : World} {g : Nat} {O : Nat → Prop} {L : List Ar.S} {A : Option Addr} {cap : Nat} (h : AR w g O L) (h1 : w.heap[g]? = some (.cells #[.slice A L.length cap] 46 (0, 0))) (h2 : OwnK w 0 26 4 A cap (L.map Ar.S.cells)) (h3 : ∀ a, A = some a → O a.block)
    (hb : Below w.heap.size w w4) {nw : Ar.S} {A5 : Option Addr} {c5 n : Nat} (hn : n = L.length + 1) (h5 : OwnK w5 0 26 4 A5 c5 (L.map Ar.S.cells ++ [nw.cells]))
    (hg : w4.grownBy w5 (Value.slice A (L.map Ar.S.cells).length cap).ownBlock) (hw : ∀ a, A5 = some a → (∃ a0, A = some a0 ∧ a.block = a0.block) ∨ a.block = w4.heap.size) :
    ∃ O', AR (w5.setCell ⟨g, 0, none⟩ (.slice A5 n c5)) g O' (L ++ [nw]) ∧ Step O O' w (w5.setCell ⟨g, 0, none⟩ (.slice A5 n c5)) := by
  subst hn
  have hgl := lt_of_block h1
  have keep5 : ∀ k, k < w4.heap.size → (∀ a, A = some a → k ≠ a.block) → w5.heap[k]? = w4.heap[k]? := fun k hk hne => hg.block k hk (by
    cases A with
    | none => simp [Value.ownBlock]
    | some a => simp [Value.ownBlock]; exact hne a rfl)
  have nA : ∀ a, A = some a → g ≠ a.block := fun a ha e => by
    subst ha
    rcases h2.1.2 with ⟨e1, _⟩ | ⟨g', c', cur, e1, _, hg', _⟩
    · cases e1
    · injection e1 with e1 _ _
      injection e1 with e1
      subst e1
      have e : g = g' := e
      subst e
      rw [h1] at hg'
      injection hg' with hg'
      injection hg' with _ h4 _
      exact absurd h4 (by decide)
  have obj5 : w5.heap[g]? = some (.cells #[.slice A L.length cap] 46 (0, 0)) := (keep5 g (Nat.lt_of_lt_of_le hgl hb.size) nA).trans ((hb.block g hgl).trans h1)
  have o0 := heap_setCell_same w5 g 0 _ _ (.slice A5 (L.length + 1) c5) obj5
  have sz : (w5.setCell ⟨g, 0, none⟩ (.slice A5 (L.length + 1) c5)).heap.size = w5.heap.size := by simp [World.setCell]
  have hA5 : ∀ a, A5 = some a → a.block < w5.heap.size ∧ (O a.block ∨ w.heap.size ≤ a.block) ∧ a.block ≠ g := fun a ha => by
    refine ⟨by subst ha; exact h5.lt.2, ?_, ?_⟩
    · rcases hw a ha with ⟨a0, p1, p2⟩ | p1
      · exact .inl (p2 ▸ h3 a0 p1)
      · exact .inr (by rw [p1]; exact hb.size)
    · rcases hw a ha with ⟨a0, p1, p2⟩ | p1
      · rw [p2]; exact fun e => nA a0 p1 e.symm
      · rw [p1]; have := hb.size; omega
  refine ⟨fun k => O k ∨ ∃ a, A5 = some a ∧ k = a.block, ⟨⟨A5, c5, ?_, ?_, fun a ha => .inr ⟨a, ha, rfl⟩⟩, .inl h.own, fun k hk => ?_, by simp⟩, ⟨?_, fun k hk => ?_⟩⟩
  · rw [o0]; simp
  · rw [List.map_append]
    exact h5.keep fun a ha => Below.heap_setCell _ _ _ _ (hA5 a ha).2.2
  · rw [sz]
    rcases hk with p | ⟨a, ha, rfl⟩
    · have := h.lt k p; have := hb.size; have := hg.size; omega
    · exact (hA5 a ha).1
  · refine ((Only.of (own := O) hb).trans (Only.grown hg fun k hk => ?_) fun i hi => .inl hi).trans (Only.set O 0 w5 _ h.own) fun i hi => .inl hi
    cases A with
    | none => cases hk
    | some a => simp [Value.ownBlock] at hk; subst hk; exact h3 a rfl
  · rcases hk with p | ⟨a, ha, rfl⟩
    · exact .inl p
    · exact (hA5 a ha).2.1
set_option maxHeartbeats 4000000 in
set_option maxRecDepth 20000 in
theorem swap_any (g : Nat) (O : Nat → Prop) (L : List Ar.S) (s old nw : Ar.S) (hs : L.getLast? = some s) (hl : L.length ≤ 100000000) (w : World) (h : AR w g O L) :
    Calls Try.prog 12 #[.pointer (some ⟨g, 0, none⟩), old.val, nw.val] w (SwapPost w g O L (Ar.eqS s old) nw) := by
  have H := Lib.hid h
  have HL := Lib.hid hl
  have NE := fun W => st_neq s old W
  have GT : Hid (∀ W, Below w.heap.size w W → Calls Try.prog 11 #[.pointer (some ⟨g, 0, none⟩)] W (OnePost W s)) := Lib.hid fun W hW => get_any g O L s hs (by omega) W (H.out.grew hW)
  clear h hl hs
  generalize Ar.eqS s old = hit at *
  obtain ⟨se, sh, ss, sf⟩ := s
  obtain ⟨oe, oh, os, of_⟩ := old
  have GT : Hid (∀ W, Below w.heap.size w W → Calls Try.prog 11 #[.pointer (some ⟨g, 0, none⟩)] W fun e w' => e = .returned (.agg #[.int .i64 se, .int .i64 sh, .bool ss, .int .i64 sf]) ∧ Hid (Below W.heap.size W w')) := GT
  have SG := st_guard
  have TO : Hid (nw.cells = [.int .i64 nw.ep, .int .i64 nw.ho, .bool nw.so, .int .i64 nw.fl]) := Lib.hid rfl
  simp only [Ar.S.val] at NE ⊢
  generalize nw.ep = te at *
  generalize nw.ho = th at *
  generalize nw.so = ts at *
  generalize nw.fl = tf at *
  go_enter Try.func12, Try.ntmps12
  obtain ⟨W0, hW0⟩ : ∃ W0, W0 = (w.alloc (.cells #[.int .i64 oe, .int .i64 oh, .bool os, .int .i64 of_] 26)).alloc (.cells #[.int .i64 te, .int .i64 th, .bool ts, .int .i64 tf] 26) := ⟨_, rfl⟩
  have B0 : Hid (Below w.heap.size w W0) := Lib.hid (by rw [hW0]; exact two_below _ _ _)
  have P0 : Hid (W0.heap[w.heap.size]? = some (.cells #[.int .i64 oe, .int .i64 oh, .bool os, .int .i64 of_] 26 (0, 0))) := Lib.hid (by rw [hW0]; exact new0 _ _ _)
  have P1 : Hid (W0.heap[w.heap.size + 1]? = some (.cells #[.int .i64 te, .int .i64 th, .bool ts, .int .i64 tf] 26 (0, 0))) := Lib.hid (by rw [hW0]; exact new1 _ _ _)
  go_upto_region 1 with fail
  rw [← hW0]
  clear hW0
  obtain ⟨X, hX⟩ : ∃ X, X = w.heap.size := ⟨_, rfl⟩
  rw [← hX] at P0 P1 ⊢
  have HX := Lib.hid hX
  clear hX
  have SB : Hid (W0.drew.cell? ⟨X, 0, none⟩ = some (.int .i64 oe) ∧ W0.drew.cell? ⟨X, 1, none⟩ = some (.int .i64 oh) ∧ W0.drew.cell? ⟨X, 2, none⟩ = some (.bool os) ∧ W0.drew.cell? ⟨X, 3, none⟩ = some (.int .i64 of_)) := Lib.hid (obj4 (w := W0.drew) P0.out).1
  go_region_held3 (fun w' => w'.cell? ⟨X, 0, none⟩ = some (.int .i64 oe) ∧ w'.cell? ⟨X, 1, none⟩ = some (.int .i64 oh) ∧ w'.cell? ⟨X, 2, none⟩ = some (.bool os) ∧ w'.cell? ⟨X, 3, none⟩ = some (.int .i64 of_)) ((first | exact SB.out | exact S3.out | go_keep))
    ((go_simp; go_at_call 11; (with_reducible refine (GT.out _ B0.out.drew).mono ?_); rintro e w3 ⟨rfl, b3⟩; have N0 : Hid (w3.heap[X]? = _) := Lib.hid ((b3.out.block X (lt_of_block (w := W0) P0.out)).trans P0.out); have S3 := Lib.hid (obj4 N0.out).1))
  have B3 : Hid (Below w.heap.size w w3) := Lib.hid (B0.out.drew.trans (b3.out.mono B0.out.size))
  have N1 : Hid (w3.heap[X + 1]? = some (.cells #[.int .i64 te, .int .i64 th, .bool ts, .int .i64 tf] 26 (0, 0))) := Lib.hid ((b3.out.block (X + 1) (lt_of_block (w := W0) P1.out)).trans P1.out)
  clear b3 SB S3 N0 P0 P1 GT B0 NE SG
  cases hit
  · go_wp2
    go_ret
    exact ⟨rfl, O, Lib.hid (H.out.grew B3.out), Lib.hid ((Step.refl O w).behind B3.out)⟩
  · have H3 := Lib.hid (H.out.grew B3.out)
    obtain ⟨A, cap, h1, h2, h3⟩ := H3.out.row
    have o0 : w3.cell? ⟨g, 0, none⟩ = some (.slice A L.length cap) := by simp [World.cell?, h1]
    have f0 : w3.frozen? ⟨g, 0, none⟩ = false := by simp [World.frozen?, h1]
    have HO := Lib.hid h1
    have HR := Lib.hid h2
    have H3A := Lib.hid h3
    have HGL := Lib.hid (lt_of_block h1)
    have HXL := Lib.hid (lt_of_block N1.out)
    clear h1 h2 h3
    go_upto_region 3 with fail
    have HNE : Hid (∀ a, A = some a → X + 1 ≠ a.block ∧ g ≠ a.block) := Lib.hid fun a ha => by
      refine ⟨fun e => ?_, fun e => ?_⟩
      · have h1 := H.out.lt _ (H3A.out a ha)
        have := HX.out
        omega
      · subst ha
        exact row_ne HR.out HO.out (by decide) e.symm
    have HLN : Hid ((L.map Ar.S.cells).length = L.length) := Lib.hid (by simp)
    have HO2 := HO
    generalize hq : L.length = q at *
    have HQ := Lib.hid hq
    clear hq f0 o0
    have CE : Hid (∀ w' : World, w'.heap[g]? = w3.heap[g]? → w'.heap[X + 1]? = w3.heap[X + 1]? → w'.cell? ⟨g, 0, none⟩ = some (.slice A q cap) ∧ w'.cell? ⟨X + 1, 0, none⟩ = some (.int .i64 te) ∧ w'.cell? ⟨X + 1, 1, none⟩ = some (.int .i64 th) ∧ w'.cell? ⟨X + 1, 2, none⟩ = some (.bool ts) ∧ w'.cell? ⟨X + 1, 3, none⟩ = some (.int .i64 tf)) := Lib.hid fun w' e1 e2 => ⟨by simp [World.cell?, e1, HO2.out], (obj4 (e2.trans N1.out)).1⟩
    have CB : Hid (∀ w' : World, Below w3.heap.size w3 w' → w'.cell? ⟨g, 0, none⟩ = some (.slice A q cap) ∧ w'.cell? ⟨X + 1, 0, none⟩ = some (.int .i64 te) ∧ w'.cell? ⟨X + 1, 1, none⟩ = some (.int .i64 th) ∧ w'.cell? ⟨X + 1, 2, none⟩ = some (.bool ts) ∧ w'.cell? ⟨X + 1, 3, none⟩ = some (.int .i64 tf)) := Lib.hid fun w' hb => CE.out w' (hb.block _ HGL.out) (hb.block _ HXL.out)
    refine wp_region_C (fun w' => w'.cell? ⟨g, 0, none⟩ = some (.slice A q cap) ∧ w'.cell? ⟨X + 1, 0, none⟩ = some (.int .i64 te) ∧ w'.cell? ⟨X + 1, 1, none⟩ = some (.int .i64 th) ∧ w'.cell? ⟨X + 1, 2, none⟩ = some (.bool ts) ∧ w'.cell? ⟨X + 1, 3, none⟩ = some (.int .i64 tf)) 10 (by kernel_rfl) ?_
    have hS0 : (fun w' : World => w'.cell? ⟨g, 0, none⟩ = some (.slice A q cap) ∧ w'.cell? ⟨X + 1, 0, none⟩ = some (.int .i64 te) ∧ w'.cell? ⟨X + 1, 1, none⟩ = some (.int .i64 th) ∧ w'.cell? ⟨X + 1, 2, none⟩ = some (.bool ts) ∧ w'.cell? ⟨X + 1, 3, none⟩ = some (.int .i64 tf)) w3.drew := CB.out _ (Below.refl _ _).drew
    refine wpAnyC_take (i := 0) (oi := ?o1) (v := ?v1) ?hi1 (by kernel_rfl) (by kernel_rfl) (by kernel_rfl) ?hQ1 (by kernel_rfl) (by decide) (by kernel_rfl) (Or.inl ⟨?hg1, ?hy1⟩) (by assumption) ?rest1
    case hi1 => (simp only [List.getElem?_toArray, List.getElem?_cons_zero, List.getElem?_cons_succ]; exact rfl)
    case hQ1 => exact fun _ _ _ h => h
    case hg1 => rfl
    case hy1 => (intro w' hSw; (try dsimp only at hSw); go_simp; try with_reducible rfl)
    try simp only [Act.put, List.setIfInBounds_toArray, List.set_cons_zero, List.set_cons_succ]
    refine wpAnyC_take (i := 1) (oi := ?o2) (v := ?v2) ?hi2 (by kernel_rfl) (by kernel_rfl) (by kernel_rfl) ?hQ2 (by kernel_rfl) (by decide) (by kernel_rfl) (Or.inl ⟨?hg2, ?hy2⟩) (by assumption) ?rest2
    case hi2 => (simp only [List.getElem?_toArray, List.getElem?_cons_zero, List.getElem?_cons_succ]; exact rfl)
    case hQ2 => exact fun _ _ _ h => h
    case hg2 => rfl
    case hy2 => (intro w' hSw; (try dsimp only at hSw); go_simp; try with_reducible rfl)
    try simp only [Act.put, List.setIfInBounds_toArray, List.set_cons_zero, List.set_cons_succ]
    refine wpAnyC_take (i := 2) (oi := ?o3) (v := ?v3) ?hi3 (by kernel_rfl) (by kernel_rfl) (by kernel_rfl) ?hQ3 (by kernel_rfl) (by decide) (by kernel_rfl) (Or.inl ⟨?hg3, ?hy3⟩) (by assumption) ?rest3
    case hi3 => (simp only [List.getElem?_toArray, List.getElem?_cons_zero, List.getElem?_cons_succ]; exact rfl)
    case hQ3 => exact fun _ _ _ h => h
    case hg3 => rfl
    case hy3 => (intro w' hSw; (try dsimp only at hSw); go_simp; try with_reducible rfl)
    try simp only [Act.put, List.setIfInBounds_toArray, List.set_cons_zero, List.set_cons_succ]
    refine wpAnyC_take (i := 3) (oi := ?o4) (v := ?v4) ?hi4 (by kernel_rfl) (by kernel_rfl) (by kernel_rfl) ?hQ4 (by kernel_rfl) (by decide) (by kernel_rfl) (Or.inl ⟨?hg4, ?hy4⟩) (by assumption) ?rest4
    case hi4 => (simp only [List.getElem?_toArray, List.getElem?_cons_zero, List.getElem?_cons_succ]; exact rfl)
    case hQ4 => exact fun _ _ _ h => h
    case hg4 => rfl
    case hy4 => (intro w' hSw; (try dsimp only at hSw); go_simp; try with_reducible rfl)
    try simp only [Act.put, List.setIfInBounds_toArray, List.set_cons_zero, List.set_cons_succ]
    refine wpAnyC_take (i := 4) (oi := ?o5) (v := ?v5) ?hi5 (by kernel_rfl) (by kernel_rfl) (by kernel_rfl) ?hQ5 (by kernel_rfl) (by decide) (by kernel_rfl) (Or.inl ⟨?hg5, ?hy5⟩) (by assumption) ?rest5
    case hi5 => (simp only [List.getElem?_toArray, List.getElem?_cons_zero, List.getElem?_cons_succ]; exact rfl)
    case hQ5 => exact fun _ _ _ h => h
    case hg5 => rfl
    case hy5 => (intro w' hSw; (try dsimp only at hSw); go_simp; try with_reducible rfl)
    try simp only [Act.put, List.setIfInBounds_toArray, List.set_cons_zero, List.set_cons_succ]
    refine wpAnyC_take (i := 5) (oi := ?o6) (v := ?v6) ?hi6 (by kernel_rfl) (by kernel_rfl) (by kernel_rfl) ?hQ6 (by kernel_rfl) (by decide) (by kernel_rfl) (Or.inl ⟨?hg6, ?hy6⟩) (by assumption) ?rest6
    case hi6 => (simp only [List.getElem?_toArray, List.getElem?_cons_zero, List.getElem?_cons_succ]; exact rfl)
    case hQ6 => exact fun _ _ _ h => h
    case hg6 => rfl
    case hy6 => (intro w' hSw; (try dsimp only at hSw); go_simp; try with_reducible rfl)
    try simp only [Act.put, List.setIfInBounds_toArray, List.set_cons_zero, List.set_cons_succ]
    refine wpAnyC_one (i := 6) (oi := ?o7) ?hi7 (by kernel_rfl) ?step7
    case hi7 => (simp only [List.getElem?_toArray, List.getElem?_cons_zero, List.getElem?_cons_succ]; exact rfl)
    intro K' hK
    go_simp
    refine hK.out _ _ ?_ (fun hHeld => ?_)
    · exact fun _ => CB.out _ (((Below.refl _ _).alloc (Nat.le_refl _) _).drew)
    clear hK K' hHeld
    try simp only [Act.put, List.setIfInBounds_toArray, List.set_cons_zero, List.set_cons_succ]
    obtain ⟨w4, hw4⟩ : ∃ w4, w4 = (w3.alloc (.cells #[.int .i64 te, .int .i64 th, .bool ts, .int .i64 tf] 26)).drew := ⟨_, rfl⟩
    have B4 : Hid (Below w3.heap.size w3 w4) := Lib.hid (by rw [hw4]; exact ((Below.refl _ _).alloc (Nat.le_refl _) _).drew)
    have P4 : Hid (w4.heap[w3.heap.size]? = some (.cells #[.int .i64 te, .int .i64 th, .bool ts, .int .i64 tf] 26 (0, 0))) := Lib.hid (by rw [hw4]; exact heap_alloc_new w3 _)
    rw [← hw4]
    clear hw4
    refine wpAnyC_one (i := 7) (oi := ?o8) ?hi8 (by kernel_rfl) ?step8
    case hi8 => (simp only [List.getElem?_toArray, List.getElem?_cons_zero, List.getElem?_cons_succ]; exact rfl)
    intro K' hK
    (refine step_appK' (vs := L.map Ar.S.cells) (us := [nw.cells]) _ _ (by rfl) Try.underlying32 st_info rfl (by decide) (by decide) (by rfl) HLN.out.symm (HR.out.grew B4.out (Nat.le_refl _)) (Nat.zero_le _) (by rfl) (by rfl) (cells_wide [nw]) (fun j u hu => lit_at P4.out (by rw [TO.out] at hu; exact hu)) (by have h1 := HL.out; have h2 := HLN.out; show _ + 1 ≤ _; omega) (r := q + 1) (by rw [HLN.out]; rfl) ?_; intro A5 c5 w5 o5 g5 k5; have O5 := Lib.hid o5; have G5 := Lib.hid g5; have K5 := Lib.hid k5; clear o5 g5 k5; have E5 : Hid (w5.heap[g]? = w3.heap[g]? ∧ w5.heap[X + 1]? = w3.heap[X + 1]?) := Lib.hid ⟨(G5.out.block g (Nat.lt_of_lt_of_le HGL.out B4.out.size) (by cases A with | none => simp [Value.ownBlock] | some a => simp [Value.ownBlock]; exact (HNE.out a rfl).2)).trans (B4.out.block _ HGL.out), (G5.out.block (X + 1) (Nat.lt_of_lt_of_le HXL.out B4.out.size) (by cases A with | none => simp [Value.ownBlock] | some a => simp [Value.ownBlock]; exact (HNE.out a rfl).1)).trans (B4.out.block _ HXL.out)⟩)
    refine hK.out _ _ ?_ (fun hHeld => ?_)
    · exact fun _ => CE.out _ E5.out.1 E5.out.2
    clear hK K' hHeld
    try simp only [Act.put, List.setIfInBounds_toArray, List.set_cons_zero, List.set_cons_succ]
    have fz5 : w5.frozen? ⟨g, 0, none⟩ = false := by simp [World.frozen?, E5.out.1, HO2.out]
    have cc5 := (CE.out w5 E5.out.1 E5.out.2).1
    refine wpAnyC_one (i := 8) (oi := ?o9) ?hi9 (by kernel_rfl) ?step9
    case hi9 => (simp only [List.getElem?_toArray, List.getElem?_cons_zero, List.getElem?_cons_succ]; exact rfl)
    intro K' hK
    go_simp
    refine hK.out _ _ ?_ (fun hHeld => ?_)
    · exact fun _ => CE.out _ E5.out.1 E5.out.2
    clear hK K' hHeld
    try simp only [Act.put, List.setIfInBounds_toArray, List.set_cons_zero, List.set_cons_succ]
    refine wpAnyC_one (i := 9) (oi := ?o10) ?hi10 (by kernel_rfl) ?step10
    case hi10 => (simp only [List.getElem?_toArray, List.getElem?_cons_zero, List.getElem?_cons_succ]; exact rfl)
    intro K' hK
    go_simp
    refine hK.out _ _ ?_ (fun hHeld => ?_)
    · exact fun _ => CE.out _ E5.out.1 E5.out.2
    clear hK K' hHeld
    try simp only [Act.put, List.setIfInBounds_toArray, List.set_cons_zero, List.set_cons_succ]
    refine wpAnyC_one (i := 10) (oi := ?o11) ?hi11 (by kernel_rfl) ?step11
    case hi11 => (simp only [List.getElem?_toArray, List.getElem?_cons_zero, List.getElem?_cons_succ]; exact rfl)
    intro K' hK
    go_simp
    refine hK.out _ _ ?_ (fun hHeld => ?_)
    · exact fun h => (by cases h)
    clear hK K' hHeld
    try simp only [Act.put, List.setIfInBounds_toArray, List.set_cons_zero, List.set_cons_succ]
    refine wpAnyC_done (by kernel_rfl) ?_ _
    clear fz5 cc5
    go_wp2
    go_ret
    obtain ⟨O', p1, p2⟩ := AR.push (O := O) H3.out (by rw [HQ.out]; exact HO.out) HR.out H3A.out B4.out (n := q + 1) (by rw [HQ.out]) O5.out G5.out (fun a ha => K5.out a ha)
    exact ⟨rfl, O', Lib.hid p1, Lib.hid (Step.ahead (B3.out) p2)⟩
end Go.Proofs.Ytjagkolagmlakaa
