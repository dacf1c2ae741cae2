/-
  What comes ahead of each node, as the program gathers it: in the order of the edges. Rows of rows of ints of the call's own.
-/
import Derived.Test.YtgeefkfolejbnaaToVals
import Derived.Test.YtgeefkfolejbnaaGrGood
import Derived.Test.YtgeefkfolejbnaaZCells
namespace Go.Proofs.Ytgeefkfolejbnaa
open Go.RowKit
/-- The nodes with an edge to q, in the order of the edges. -/
def To.befV (E : Gr.E) (q : Nat) : List Nat := (E.filter fun e => e.2 == q).map (·.1)
theorem To.mem_bef {E : Gr.E} {q a : Nat} : a ∈ To.befV E q ↔ (a, q) ∈ E := by
  unfold To.befV
  rw [List.mem_map]
  constructor
  · rintro ⟨⟨x, y⟩, h, rfl⟩
    rw [List.mem_filter] at h
    obtain ⟨h1, h2⟩ := h
    simp only [beq_iff_eq] at h2
    subst h2
    exact h1
  · intro h
    exact ⟨(a, q), List.mem_filter.2 ⟨h, by simp⟩, rfl⟩
theorem To.bef_nil (q : Nat) : To.befV [] q = [] := rfl
theorem To.bef_snoc (E : Gr.E) (a b q : Nat) : To.befV (E ++ [(a, b)]) q = if q = b then To.befV E q ++ [a] else To.befV E q := by
  unfold To.befV
  rw [List.filter_append, List.map_append]
  by_cases h : q = b
  · subst h; rw [if_pos rfl]; simp
  · rw [if_neg h]
    have : (b == q) = false := by simpa using Ne.symm h
    simp [this]
theorem To.bef_len (E : Gr.E) (q : Nat) : (To.befV E q).length ≤ E.length := by
  unfold To.befV
  rw [List.length_map]
  exact List.length_filter_le _ _
theorem To.bef_nodup {E : Gr.E} (h : E.Nodup) (q : Nat) : (To.befV E q).Nodup := by
  unfold To.befV
  rw [List.Nodup, List.pairwise_map]
  refine (h.sublist (List.filter_sublist (p := fun e : Nat × Nat => e.2 == q))).imp_of_mem ?_
  rintro ⟨a, b⟩ ⟨c, d⟩ ha hc hne heq
  have h1 := (List.mem_filter.1 ha).2
  have h2 := (List.mem_filter.1 hc).2
  simp only [beq_iff_eq] at h1 h2 heq
  subst h1 h2 heq
  exact hne rfl
theorem Gr.Good.nodup_nat {n : Int} {es : Gr.EI} (h : Gr.Good n es) : (Gr.nat es).Nodup := by
  unfold Gr.nat
  rw [List.Nodup, List.pairwise_map]
  refine h.once.imp_of_mem ?_
  rintro ⟨a, b⟩ ⟨c, d⟩ ha hc hne heq
  have h1 := h.edge _ ha
  have h2 := h.edge _ hc
  simp only [Prod.mk.injEq] at heq h1 h2
  apply hne
  rw [Prod.mk.injEq]
  omega
theorem To.bef_ahead {E : Gr.E} {n : Nat} (hl : Gr.Low E n) (q : Nat) (a : Nat) : a ∈ To.befV E q ↔ a ∈ Gr.aheadV E n q := by rw [To.mem_bef, Gr.mem_ahead hl]
theorem To.bef_perm {E : Gr.E} {n : Nat} (hl : Gr.Low E n) (ho : E.Nodup) (q : Nat) : (To.befV E q).Perm (Gr.aheadV E n q) :=
  (List.perm_ext_iff_of_nodup (To.bef_nodup ho q) (To.nodup_ahead E n q)).2 fun a => To.bef_ahead hl q a
theorem To.mx_perm {f : Nat → Nat} {l k : List Nat} (h : ∀ a, a ∈ l ↔ a ∈ k) : To.mx f l = To.mx f k := To.eq_of_le fun j => by
  rw [To.mx_le, To.mx_le]
  simp only [h]
theorem To.sm_perm {f : Nat → Nat} {l k : List Nat} (h : l.Perm k) : To.sm f l = To.sm f k := by
  induction h with
  | nil => rfl
  | cons a _ ih => unfold To.sm; rw [ih]
  | swap a b l => show f b + (f a + To.sm f l) = f a + (f b + To.sm f l); omega
  | trans _ _ h1 h2 => rw [h1, h2]
theorem To.ready_bef {E : Gr.E} {n : Nat} (hl : Gr.Low E n) (L : List Nat) (x : Nat) : To.ready E n L x = (!L.contains x && (To.befV E x).all fun a => L.contains a) := by
  unfold To.ready
  congr 1
  rw [Bool.eq_iff_iff, List.all_eq_true, List.all_eq_true]
  exact ⟨fun h a ha => h a ((To.bef_ahead hl x a).1 ha), fun h a ha => h a ((To.bef_ahead hl x a).2 ha)⟩

/-! ### In memory -/
/-- The row at block g holds, for each node, the row of what has an edge to it. -/
def Bef (w : World) (B g : Nat) (E : Gr.E) (N : Nat) : Prop :=
  g < B ∧ ∀ q, q < N → ∃ A cap, w.cell? ⟨g, q, none⟩ = some (.slice A (To.befV E q).length cap) ∧ Zs w B A (Gr.ints (To.befV E q))
theorem Bef.below {w w' : World} {B g : Nat} {E : Gr.E} {N : Nat} (h : Bef w B g E N) (hb : Below B w w') : Bef w' B g E N :=
  ⟨h.1, fun q hq => by
    obtain ⟨A, cap, h1, h2⟩ := h.2 q hq
    exact ⟨A, cap, (hb.cell (p := ⟨g, q, none⟩) h.1).trans h1, h2.below hb⟩⟩
theorem Bef.more {w : World} {B B' g : Nat} {E : Gr.E} {N : Nat} (h : Bef w B g E N) (hB : B ≤ B') : Bef w B' g E N :=
  ⟨Nat.lt_of_lt_of_le h.1 hB, fun q hq => by
    obtain ⟨A, cap, h1, h2⟩ := h.2 q hq
    exact ⟨A, cap, h1, h2.more hB⟩⟩
theorem Bef.on {w w' : World} {g : Nat} {E : Gr.E} {N : Nat} (h : Bef w w.heap.size g E N) (hb : Below w.heap.size w w') : Bef w' w'.heap.size g E N := (h.below hb).more hb.size
/-- Such a row of the call's own while it is gathered: M the rows, P where they lie. -/
structure OwnM (w : World) (base g N : Nat) (M : Nat → List Int) (P : Nat → Option Addr × Nat) : Prop where
  row : w.ownsRow base 28 1 (.slice (some ⟨g, 0, none⟩) N N) N ((List.range N).map fun q => Value.slice (P q).1 (M q).length (P q).2)
  own : ∀ q, q < N → OwnZ w (g + 1) (P q).1 (P q).2 (M q)
  apart : ∀ q r, q < N → r < N → q ≠ r → ∀ a b, (P q).1 = some a → (P r).1 = some b → a.block ≠ b.block
theorem OwnM.lt {w : World} {base g N : Nat} {M : Nat → List Int} {P : Nat → Option Addr × Nat} (h : OwnM w base g N M P) : base ≤ g ∧ g < w.heap.size :=
  World.ownsRow.lt h.row g (by simp [Value.ownBlock])
theorem OwnM.cell {w : World} {base g N : Nat} {M : Nat → List Int} {P : Nat → Option Addr × Nat} (h : OwnM w base g N M P) {q : Nat} (hq : q < N) : w.cell? ⟨g, q, none⟩ = some (.slice (P q).1 (M q).length (P q).2) := by
  rw [World.ownsRow.cellAt h.row q (by omega), List.getElem?_map, List.getElem?_range hq]
  rfl
theorem OwnM.thaw {w : World} {base g N : Nat} {M : Nat → List Int} {P : Nat → Option Addr × Nat} (h : OwnM w base g N M P) (i : Nat) : w.frozen? ⟨g, i, none⟩ = false := by
  rcases h.row.2 with ⟨e, _⟩ | ⟨g', c', cur, e, hb, hg, r⟩
  · cases e
  · injection e with e1 e2 e3
    injection e1 with e1
    injection e1 with e1
    subst e1
    simp [World.frozen?, hg]
theorem ownsRow_keep {w w' : World} {base : Nat} {T : TypeId} {k : Nat} {A : Option Addr} {n cap : Nat} {xs : List Value} (h : w.ownsRow base T k (.slice A n cap) n xs) (hk : ∀ a, A = some a → w'.heap[a.block]? = w.heap[a.block]?) : w'.ownsRow base T k (.slice A n cap) n xs := by
  refine ⟨h.1, ?_⟩
  rcases h.2 with e | ⟨g, c', cur, e, hb, hg, r⟩
  · exact .inl e
  · injection e with e1 e2 e3
    subst e1 e3
    exact .inr ⟨g, _, cur, rfl, hb, by rw [hk _ rfl]; exact hg, r⟩
/-- Whatever keeps each of its blocks keeps it. -/
theorem OwnM.keep {w w' : World} {base g N : Nat} {M : Nat → List Int} {P : Nat → Option Addr × Nat} (h : OwnM w base g N M P) (hb : Below w.heap.size w w') : OwnM w' base g N M P :=
  ⟨ownsRow_keep h.row fun a ha => by
      injection ha with ha
      subst ha
      exact hb.block _ h.lt.2,
   fun q hq => (h.own q hq).grew hb (Nat.le_refl _), h.apart⟩
theorem OwnM.bef {w : World} {base g N : Nat} {M : Nat → List Int} {P : Nat → Option Addr × Nat} {E : Gr.E} (h : OwnM w base g N M P) (hM : ∀ q, q < N → M q = Gr.ints (To.befV E q)) : Bef w w.heap.size g E N :=
  ⟨h.lt.2, fun q hq => by
    refine ⟨(P q).1, (P q).2, ?_, ?_⟩
    · rw [h.cell hq, hM q hq, Gr.ints_len]
    · rw [← hM q hq]; exact (h.own q hq).zs⟩
/-- The block of one row is neither the row of rows nor a block of another type. -/
theorem OwnM.row_ne {w : World} {base g N : Nat} {M : Nat → List Int} {P : Nat → Option Addr × Nat} (h : OwnM w base g N M P) {q : Nat} (hq : q < N) {e : Nat} (he : e = g ∨ ∃ cs t fz, w.heap[e]? = some (.cells cs t fz) ∧ t ≠ 3) : (Value.slice (P q).1 (M q).length (P q).2).ownBlock ≠ some e := fun hb => by
  cases hp : (P q).1 with
  | none => rw [hp] at hb; cases hb
  | some a =>
    have h1 := h.own q hq
    rw [hp] at h1 hb
    simp only [Value.ownBlock, Option.some.injEq] at hb
    rcases he with he | ⟨cs, t, fz, h2, h3⟩
    · have := h1.lt.1
      omega
    · exact h1.ne h2 h3 hb
theorem OwnM.stays {w w' : World} {base g N : Nat} {M : Nat → List Int} {P : Nat → Option Addr × Nat} (h : OwnM w base g N M P) {q : Nat} (hq : q < N) (hg : w.grownBy w' (Value.slice (P q).1 (M q).length (P q).2).ownBlock) (e : Nat) {j : Nat} (he : e = g ∨ ∃ cs t fz, w.heap[e]? = some (.cells cs t fz) ∧ t ≠ 3) : w'.cell? ⟨e, j, none⟩ = w.cell? ⟨e, j, none⟩ := by
  have hlt : e < w.heap.size := by
    rcases he with he | ⟨cs, t, fz, h2, _⟩
    · have := h.lt.2; omega
    · exact lt_of_block h2
  exact World.cell?_of_block (w := w) (hg.block e hlt (Ne.symm (h.row_ne hq he)))
theorem OwnM.thaws {w w' : World} {base g N : Nat} {M : Nat → List Int} {P : Nat → Option Addr × Nat} (h : OwnM w base g N M P) {q : Nat} (hq : q < N) (hg : w.grownBy w' (Value.slice (P q).1 (M q).length (P q).2).ownBlock) (j : Nat) : w'.frozen? ⟨g, j, none⟩ = false :=
  (World.frozen?_of_block (w := w) (a := ⟨g, j, none⟩) (hg.block g h.lt.2 (Ne.symm (h.row_ne hq (.inl rfl))))).trans (h.thaw j)
theorem OwnM.under {w w' : World} {base g N : Nat} {M : Nat → List Int} {P : Nat → Option Addr × Nat} (h : OwnM w base g N M P) {q : Nat} (hq : q < N) (hg : w.grownBy w' (Value.slice (P q).1 (M q).length (P q).2).ownBlock) : Below g w w' :=
  (Below.refl _ _).grown hg (Nat.le_of_lt h.lt.2) fun k hk => by
    cases hp : (P q).1 with
    | none => rw [hp] at hk; cases hk
    | some a =>
      have h1 := h.own q hq
      rw [hp] at h1 hk
      simp only [Value.ownBlock, Option.some.injEq] at hk
      have := h1.lt.1
      omega
/-- A function changed at one place. -/
def setF {α : Type} (f : Nat → α) (q : Nat) (v : α) : Nat → α := fun r => if r = q then v else f r
theorem setF_same {α : Type} (f : Nat → α) (q : Nat) (v : α) : setF f q v q = v := if_pos rfl
theorem setF_ne {α : Type} (f : Nat → α) {q r : Nat} (v : α) (h : r ≠ q) : setF f q v r = f r := if_neg h
theorem map_setF {α : Type} (f : Nat → α) (N q : Nat) (v : α) : ((List.range N).map f).set q v = (List.range N).map (setF f q v) := by
  apply List.ext_getElem (by simp)
  intro i h1 h2
  rw [List.getElem_set, List.getElem_map, List.getElem_map, List.getElem_range]
  unfold setF
  by_cases h : q = i
  · rw [if_pos h, if_pos h.symm]
  · rw [if_neg h, if_neg (Ne.symm h)]
/-- One row has grown (in its block, or into a new one) and stands in its place again. -/
theorem OwnM.put {w w' : World} {base g N : Nat} {M : Nat → List Int} {P : Nat → Option Addr × Nat} (h : OwnM w base g N M P) {q : Nat} (hq : q < N) {A' : Option Addr} {c' : Nat} {zs : List Int}
    (hg : w.grownBy w' (Value.slice (P q).1 (M q).length (P q).2).ownBlock) (ho : OwnZ w' (g + 1) A' c' zs) (hw : (Value.slice A' zs.length c').ownBlock = (Value.slice (P q).1 (M q).length (P q).2).ownBlock ∨ (Value.slice A' zs.length c').ownBlock = some w.heap.size) :
    OwnM (w'.setCell ⟨g, q, none⟩ (.slice A' zs.length c')) base g N (setF M q zs) (setF P q (A', c')) := by
  have hgs := h.lt.2
  have hne : (Value.slice (P q).1 (M q).length (P q).2).ownBlock ≠ some g := fun e => by
    cases hp : (P q).1 with
    | none => rw [hp] at e; cases e
    | some a =>
      have h1 := h.own q hq
      rw [hp] at h1 e
      simp only [Value.ownBlock, Option.some.injEq] at e
      have := h1.lt.1
      omega
  have hrow : w'.ownsRow base 28 1 (.slice (some ⟨g, 0, none⟩) N N) N ((List.range N).map fun q => Value.slice (P q).1 (M q).length (P q).2) :=
    ownsRow_keep h.row fun a ha => by
      injection ha with ha
      subst ha
      exact hg.block _ hgs (Ne.symm hne)
  have hset : ∀ k, k ≠ g → (w'.setCell ⟨g, q, none⟩ (.slice A' zs.length c')).heap[k]? = w'.heap[k]? := fun k hk => heap_setCell_other w' ⟨g, q, none⟩ k _ hk
  refine ⟨?_, fun r hr => ?_, fun r s hr hs hrs a b ha hb => ?_⟩
  · have h1 := (World.ownsRow.stored hrow q (.slice A' zs.length c')).1
    rw [map_setF _ N q _] at h1
    have e : (List.range N).map (setF (fun q => Value.slice (P q).1 (M q).length (P q).2) q (.slice A' zs.length c')) = (List.range N).map fun r => Value.slice (setF P q (A', c') r).1 (setF M q zs r).length (setF P q (A', c') r).2 := by
      apply List.map_congr_left
      intro r _
      unfold setF
      by_cases hrq : r = q
      · simp only [if_pos hrq]
      · simp only [if_neg hrq]
    rwa [e] at h1
  · by_cases hrq : r = q
    · subst hrq
      rw [setF_same, setF_same]
      refine ho.keep fun a ha => hset _ ?_
      have := ho
      rw [ha] at this
      have := this.lt.1
      omega
    · rw [setF_ne _ _ hrq, setF_ne _ _ hrq]
      refine (h.own r hr).keep fun a ha => ?_
      have h1 := h.own r hr
      rw [ha] at h1
      have hl := h1.lt
      rw [hset _ (by omega)]
      refine hg.block _ hl.2 fun e => ?_
      cases hp : (P q).1 with
      | none => rw [hp] at e; cases e
      | some b =>
        rw [hp] at e
        simp only [Value.ownBlock, Option.some.injEq] at e
        exact h.apart r q hr hq hrq a b ha hp e
  · have key : ∀ r1, r1 < N → r1 ≠ q → ∀ a1 b1, (P r1).1 = some a1 → A' = some b1 → a1.block ≠ b1.block := fun r1 hr1 hrq a1 b1 ha1 hb1 => by
      rw [hb1] at hw
      have h1 := h.own r1 hr1
      rw [ha1] at h1
      rcases hw with hw | hw
      · cases hp : (P q).1 with
        | none => rw [hp] at hw; simp [Value.ownBlock] at hw
        | some c =>
          rw [hp] at hw
          simp only [Value.ownBlock, Option.some.injEq] at hw
          rw [hw]
          exact h.apart r1 q hr1 hq hrq a1 c ha1 hp
      · simp only [Value.ownBlock, Option.some.injEq] at hw
        have := h1.lt.2
        omega
    by_cases hrq : r = q
    · subst hrq
      rw [setF_same] at ha
      rw [setF_ne _ _ (Ne.symm hrs)] at hb
      exact Ne.symm (key s hs (Ne.symm hrs) b a hb ha)
    · rw [setF_ne _ _ hrq] at ha
      by_cases hsq : s = q
      · subst hsq
        rw [setF_same] at hb
        exact key r hr hrq a b ha hb
      · rw [setF_ne _ _ hsq] at hb
        exact h.apart r s hr hs hrs a b ha hb
theorem mat_info : (Try.prog.info? 28).map (fun i => (i.zero, i.size, i.bytes)) = some (some (.slice none 0 0), 1, 24) := by kernel_rfl
theorem made_M (n : Nat) (hn : n ≤ 1000000) (W : World) : (Instr.makeSlice 51 (.int .i64 (n : Int)) (.int .i64 (n : Int))).run Try.prog W = .ok (.slice (some ⟨W.heap.size, 0, none⟩) n n) (W.alloc (.cells (madeCells #[.slice none 0 0] n) 28)) := by
  obtain ⟨i, hi, hz, hs, hy⟩ := info_parts mat_info
  have hr := run_make (P := Try.prog) W 51 28 i _ Try.underlying51 hi hz .i64 .i64 n n (by omega) (Int.le_refl _) (by rw [hy]; omega) (by omega)
  rw [hs, Int.toNat_natCast, Nat.mul_one] at hr
  exact hr
theorem OwnM.made (W : World) (n : Nat) (hn : n ≤ 1000000) : OwnM (W.alloc (.cells (madeCells #[.slice none 0 0] n) 28)) W.heap.size W.heap.size n (fun _ => []) (fun _ => (none, 0)) := by
  have e : (madeCells #[Value.slice none 0 0] n).toList = (List.range n).map fun _ => Value.slice none 0 0 := by
    rw [toList_madeCells_one (Value.slice none 0 0) n]
    apply List.ext_getElem (by simp)
    intro i h1 h2
    simp
  have h := World.ownsRow_lit (e := 28) (size := 1) W (madeCells #[.slice none 0 0] n) n (Nat.le_refl W.heap.size) (by unfold maxLen; omega) (by rw [← Array.length_toList, e]; simp)
  rw [e] at h
  exact ⟨h, fun q _ => OwnZ.none_ _ _, fun q r _ _ _ a b ha _ => by cases ha⟩
/-- An append to a row of the call's own: where the new row lies. -/
theorem run_appZ_at {w : World} {base : Nat} {A : Option Addr} {cap : Nat} {zs : List Int} {x : Int} (h : OwnZ w base A cap zs) (hbase : base ≤ w.heap.size) {b2 : Nat} (hx : w.cell? ⟨b2, 0, none⟩ = some (.int .i64 x)) (hxi : inI x) (c : Nat) (hlen : zs.length ≤ 1000000000) (ty : TypeId) :
    ∃ A' cap' w', (Builtin.append_ #[28, 28] ty #[.slice A zs.length cap, .slice (some ⟨b2, 0, none⟩) 1 c]).run Try.prog w = .ok (.slice A' (zs ++ [x]).length cap') w' ∧
      OwnZ w' base A' cap' (zs ++ [x]) ∧ w.grownBy w' (Value.slice A zs.length cap).ownBlock ∧ ((Value.slice A' (zs ++ [x]).length cap').ownBlock = (Value.slice A zs.length cap).ownBlock ∨ (Value.slice A' (zs ++ [x]).length cap').ownBlock = some w.heap.size) := by
  obtain ⟨i, hi, hz0, hs, hyb⟩ := info_parts int_info
  obtain ⟨v', w', hrun, hown, hg, _, hat⟩ := run_append_own_at (P := Try.prog) (w := w) base 28 ty 3 i _ 1 8 Try.underlying28 hi hz0 hs hyb rfl (by decide)
    _ zs.length _ h.1 ⟨b2, 0, none⟩ 1 c [.int .i64 x] rfl (fun j u hu => by
      rw [add_off, Nat.zero_add]
      match j, hu with
      | 0, hu => simp at hu; rw [← hu]; exact hx
      | j + 1, hu => simp at hu) (fun u hu => by simp at hu; subst hu; rfl) (by unfold maxLen; omega) (by omega) hbase
  obtain ⟨A', cap', rfl⟩ := form_ofZ hown
  have e : zs.length + 1 = (zs ++ [x]).length := by simp
  rw [e] at hrun hown hat
  refine ⟨A', cap', w', hrun, ⟨?_, rng_appZ h.2 fun i hi => ?_⟩, hg, hat⟩
  · rw [List.map_append]
    exact hown
  · obtain rfl : i = 0 := by simpa using hi
    exact hxi
/-- An append as a step of a region. -/
theorem step_appZat {w : World} {ops : Array Oper} {o : Oper} {a : Act} {K : Act → World → Prop} {Q : Exit → Act → World → Prop} {E : Prop} (hgd : o.guard = none) (s x : Operand)
    (ho : o.op = .call { callee := .builtin .append, args := #[s, x], argTypes := #[28, 28] })
    {base : Nat} {A : Option Addr} {n cap : Nat} {zs : List Int} {v : Int} (hs : a.eval s = .slice A n cap) (hn : n = zs.length) (h : OwnZ w base A cap zs) (hbase : base ≤ w.heap.size)
    {b2 c : Nat} (hx : a.eval x = .slice (some ⟨b2, 0, none⟩) 1 c) (hv : w.cell? ⟨b2, 0, none⟩ = some (.int .i64 v)) (hvi : inI v) (hlen : zs.length ≤ 1000000000)
    (H : ∀ A' cap' w', OwnZ w' base A' cap' (zs ++ [v]) → w.grownBy w' (Value.slice A zs.length cap).ownBlock → ((Value.slice A' (zs ++ [v]).length cap').ownBlock = (Value.slice A zs.length cap).ownBlock ∨ (Value.slice A' (zs ++ [v]).length cap').ownBlock = some w.heap.size) → K (a.put o.dst (.slice A' (zs ++ [v]).length cap')) w') :
    if Region.wanted o (yielded ops a.tmps) = true then Oper.wp Try.prog o a w K Q else E := by
  have hw : Region.wanted o (yielded ops a.tmps) = true := by simp [Region.wanted, hgd]
  rw [if_pos hw]
  subst hn
  obtain ⟨A', cap', w', hrun, h1, h2, h3⟩ := run_appZ_at h hbase hv hvi c hlen o.type
  unfold Oper.wp
  simp [execOp, ho, resolve, invoke, builtin, hs, hx, hrun, Result.andThen]
  have hk := H A' cap' w' h1 h2 h3
  rw [List.length_append, List.length_singleton] at hk
  exact hk
end Go.Proofs.Ytgeefkfolejbnaa
