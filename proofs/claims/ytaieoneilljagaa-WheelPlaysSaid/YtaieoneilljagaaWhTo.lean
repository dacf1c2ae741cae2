/-
  The program's To: what is due is taken out of the map while it is ranged over, and put in order.
-/
import Derived.Test.YtaieoneilljagaaWhNext
import Derived.Test.YtaieoneilljagaaWhSort
namespace Go.Proofs.Ytaieoneilljagaa
open Go.RowKit Go.Maps
set_option maxRecDepth 20000
namespace Wh
/-- The timers of s that have been taken (acc), those that are in the map (cur), those still to come (todo). -/
structure Parted (s : S) (now : Int) (acc cur todo : List T) : Prop where
  perm : (acc ++ cur).Perm s.l
  due : ∀ t ∈ acc, Wh.due now t = true
  rest : ∀ t ∈ cur, t ∉ todo → Wh.due now t = false
theorem del_perm {l : List T} (h : Once l) {x : T} (hx : x ∈ l) : (x :: Wh.del x.run x.task l).Perm l := by
  induction l with
  | nil => cases hx
  | cons a r ih =>
    obtain ⟨h1, h2⟩ := List.pairwise_cons.1 h
    by_cases hs : same a x.run x.task = true
    · have e := h.inj (List.mem_cons_self (a := a) (l := r)) hx (same_iff.1 hs)
      subst e
      have : Wh.del a.run a.task (a :: r) = r := by
        unfold Wh.del
        rw [List.filter_cons, hs]
        simp only [Bool.not_true, Bool.false_eq_true, if_false]
        rw [List.filter_eq_self]
        intro t ht
        have := same_false.2 fun e => h1 t ht ⟨e.1.symm, e.2.symm⟩
        rw [this]; rfl
      rw [this]
    · have hs' : same a x.run x.task = false := by simpa using hs
      have hx' : x ∈ r := by
        rcases List.mem_cons.1 hx with rfl | h
        · rw [same_iff.2 ⟨rfl, rfl⟩] at hs'; cases hs'
        · exact h
      have : Wh.del x.run x.task (a :: r) = a :: Wh.del x.run x.task r := by unfold Wh.del; rw [List.filter_cons, hs']; rfl
      rw [this]
      exact (List.Perm.swap a x _).trans ((ih h2 hx').cons a)
theorem del_del (a b : Int) (l : List T) : Wh.del a b (Wh.del a b l) = Wh.del a b l := by unfold Wh.del; rw [List.filter_filter]; congr 1; funext t; rw [Bool.and_self]
theorem not_del {l : List T} (hO : Once l) {x t : T} {todo : List T} (ht : t ∈ l) (hx : x ∈ l) (hn : t ∉ Wh.del x.run x.task todo) : t ∉ todo ∨ t = x := by
  by_cases hto : t ∈ todo
  · right
    cases hs : same t x.run x.task with
    | true => exact hO.inj ht hx (same_iff.1 hs)
    | false => exact absurd (mem_del.2 ⟨hto, hs⟩) hn
  · exact .inl hto
theorem Parted.skip {s : S} {now : Int} {acc cur todo : List T} (h : Parted s now acc cur todo) (hO : Once cur) (hin : ∀ t ∈ todo, t ∈ cur) {x : T} (hx : x ∈ todo) (hd : Wh.due now x = false) : Parted s now acc cur (Wh.del x.run x.task todo) :=
  ⟨h.perm, h.due, fun t ht hn => by
    rcases not_del hO ht (hin x hx) hn with h1 | h1
    · exact h.rest t ht h1
    · rw [h1]; exact hd⟩
theorem Parted.take {s : S} {now : Int} {acc cur todo : List T} (h : Parted s now acc cur todo) (hO : Once cur) (hin : ∀ t ∈ todo, t ∈ cur) {x : T} (hx : x ∈ todo) (hd : Wh.due now x = true) : Parted s now (acc ++ [x]) (Wh.del x.run x.task cur) (Wh.del x.run x.task todo) := by
  refine ⟨?_, fun t ht => ?_, fun t ht hn => ?_⟩
  · rw [List.append_assoc]
    exact ((del_perm hO (hin x hx)).append_left acc).trans h.perm
  · rcases List.mem_append.1 ht with h1 | h1
    · exact h.due t h1
    · rw [List.mem_singleton.1 h1]; exact hd
  · obtain ⟨h1, h2⟩ := mem_del.1 ht
    refine h.rest t h1 fun hto => hn (mem_del.2 ⟨hto, h2⟩)
theorem Parted.done {s : S} {now : Int} {acc cur : List T} (h : Parted s now acc cur []) (hI : Inv s) (hok : ¬ (now < s.now ∨ 1099511627776 < now)) : Wh.sort acc = toL s now ∧ (toS s now).l.Perm cur ∧ (toS s now).now = now ∧ acc.length ≤ s.l.length := by
  have hd := due_take (now := now) hI.sorted
  have e1 : toL s now = s.l.filter (Wh.due now) := by unfold toL; rw [if_neg hok, hd.1]
  have e2 : (toS s now).l = s.l.filter fun a => !Wh.due now a := by unfold toS; rw [if_neg hok]; exact hd.2
  have f1 : acc.filter (Wh.due now) = acc := List.filter_eq_self.2 h.due
  have f2 : cur.filter (Wh.due now) = [] := List.filter_eq_nil_iff.2 fun t ht => by rw [h.rest t ht (by simp)]; simp
  have f3 : acc.filter (fun a => !Wh.due now a) = [] := List.filter_eq_nil_iff.2 fun t ht => by rw [h.due t ht]; simp
  have f4 : cur.filter (fun a => !Wh.due now a) = cur := List.filter_eq_self.2 fun t ht => by rw [h.rest t ht (by simp)]; rfl
  have p1 := h.perm.filter (Wh.due now)
  have p2 := h.perm.filter fun a => !Wh.due now a
  rw [List.filter_append, f1, f2, List.append_nil] at p1
  rw [List.filter_append, f3, f4, List.nil_append] at p2
  refine ⟨Wh.sort_eq (Wh.sort_pair acc) (to_sorted hI) ?_, ?_, ?_, ?_⟩
  · rw [e1]; exact (Wh.sort_perm acc).trans p1
  · rw [e2]; exact p2.symm
  · unfold toS; rw [if_neg hok]
  · have := h.perm.length_eq
    rw [List.length_append] at this
    omega
end Wh
theorem TRange.grew {w w' : World} {m r : Nat} {l todo : List Wh.T} (h : TRange w m r l todo) (hb : Below w.heap.size w w') : TRange w' m r l todo ∧ w'.rangeLeft m r = w.rangeLeft m r := by
  obtain ⟨D, left, n, cnt, h, hT, e⟩ := h
  have h' := h.kept ⟨hb.os, hb.tape, hb.output, hb.size, fun k hk _ => hb.block k hk⟩ (row := none) (by simp) (by simp)
  exact ⟨⟨D, left, n, cnt, h', hT, e⟩, by rw [h'.left_eq, h.left_eq]⟩
theorem TRange.grown {w w' : World} {m r : Nat} {l todo : List Wh.T} {row : Option Nat} (h : TRange w m r l todo) (hg : w.grownBy w' row) (hm : some m ≠ row) (hr : some r ≠ row) : TRange w' m r l todo ∧ w'.rangeLeft m r = w.rangeLeft m r := by
  obtain ⟨D, left, n, cnt, h, hT, e⟩ := h
  have h' := h.kept hg hm hr
  exact ⟨⟨D, left, n, cnt, h', hT, e⟩, by rw [h'.left_eq, h.left_eq]⟩
theorem TRange.lt {w : World} {m r : Nat} {l todo : List Wh.T} (h : TRange w m r l todo) : m < w.heap.size ∧ r < w.heap.size ∧ r ≠ m := by
  obtain ⟨D, left, n, cnt, h, hT, e⟩ := h
  exact ⟨h.owns.lt, h.lt, h.ne⟩
theorem TRange.once {w : World} {m r : Nat} {l todo : List Wh.T} (h : TRange w m r l todo) : Wh.Once l := h.map.once
theorem pdue_info : (Try.prog.info? 56).map (fun i => (i.zero, i.size, i.bytes)) = some (some (.agg #[.int .i64 0, .int .i64 0, .int .i64 0]), 3, 24) := by kernel_rfl
theorem encT_wide (l : List Wh.T) : Wide 3 (l.map encT) := fun v hv => by
  obtain ⟨t, _, rfl⟩ := List.mem_map.1 hv
  exact ⟨rfl, encT_one t⟩
/-- What stands while the map is ranged over: the row of what was taken, the object, the map, all other blocks as they were. -/
structure ToRun (w : World) (g m : Nat) (now : Int) (A : Option Addr) (cap : Nat) (acc cur todo : List Wh.T) (wr : World) : Prop where
  row : OwnK wr (w.heap.size + 1) 56 3 A cap (acc.map encT)
  rng : TRange wr m w.heap.size cur todo
  obj : wr.heap[g]? = some (.cells #[.int .i64 now, .map (some m)] 60 (0, 0))
  only : Only (two g m) w wr
  lg : g < w.heap.size
  lm : m < w.heap.size
section
variable {w wr w' : World} {g m : Nat} {now : Int} {A : Option Addr} {cap : Nat} {acc cur todo todo' : List Wh.T}
theorem ToRun.size (h : ToRun w g m now A cap acc cur todo wr) : w.heap.size + 1 ≤ wr.heap.size := h.rng.lt.2.1
theorem ToRun.grew (h : ToRun w g m now A cap acc cur todo wr) (hb : Below wr.heap.size wr w') : ToRun w g m now A cap acc cur todo w' :=
  ⟨h.row.grew hb (Nat.le_refl _), (h.rng.grew hb).1, (hb.block g (lt_of_block h.obj)).trans h.obj, h.only.trans (Only.of (own := two g m) hb) fun _ hi => .inl hi, h.lg, h.lm⟩
theorem ToRun.next (h : ToRun w g m now A cap acc cur todo wr) (hr : TRange w' m w.heap.size cur todo') (hg : wr.grownBy w' (some w.heap.size)) : ToRun w g m now A cap acc cur todo' w' := by
  refine ⟨h.row.keep fun a ha => ?_, hr, (hg.block g (lt_of_block h.obj) (by have := h.lg; simp; omega)).trans h.obj, h.only.trans (Only.grown (own := fun k => k = w.heap.size) hg fun k hk => by injection hk with hk; exact hk.symm) fun _ hi => .inr (by omega), h.lg, h.lm⟩
  subst ha
  have := h.row.lt
  exact hg.block _ this.2 (by simp; omega)
theorem ToRun.app (h : ToRun w g m now A cap acc cur todo wr) {A' : Option Addr} {cap' n : Nat} {acc' : List Wh.T} (ho : OwnK w' (w.heap.size + 1) 56 3 A' cap' (acc'.map encT)) (hg : wr.grownBy w' (Value.slice A n cap).ownBlock) : ToRun w g m now A' cap' acc' cur todo w' ∧ w'.rangeLeft m w.heap.size = wr.rangeLeft m w.heap.size := by
  have hb : ∀ k, (Value.slice A n cap).ownBlock = some k → w.heap.size + 1 ≤ k := fun k hk => by
    cases A with
    | none => simp [Value.ownBlock] at hk
    | some a => simp [Value.ownBlock] at hk; subst hk; exact h.row.lt.1
  have hne : ∀ k, k ≤ w.heap.size → some k ≠ (Value.slice A n cap).ownBlock := fun k hk e => by have := hb k e.symm; omega
  have hr := h.rng.grown hg (hne m (by have := h.lm; omega)) (hne _ (Nat.le_refl _))
  exact ⟨⟨ho, hr.1, (hg.block g (lt_of_block h.obj) (hne g (by have := h.lg; omega))).trans h.obj, h.only.trans (Only.grown (own := fun k => w.heap.size ≤ k) hg fun k hk => by have := hb k hk; omega) fun i hi => .inr hi, h.lg, h.lm⟩, hr.2⟩
theorem ToRun.drop (h : ToRun w g m now A cap acc cur todo wr) {cur' : List Wh.T} (hr : TRange w' m w.heap.size cur' todo') (ht : wr.mapTurned w' m) (hgm : g ≠ m) : ToRun w g m now A cap acc cur' todo' w' := by
  obtain ⟨h1, h2, h3, h4, h5⟩ := turned_frame ht
  refine ⟨h.row.keep fun a ha => ?_, hr, (h5 g hgm).trans h.obj, h.only.trans (turned_only (O := two g m) ht (.inr rfl)) fun i hi => .inl hi, h.lg, h.lm⟩
  subst ha
  have := h.row.lt
  have := h.lm
  exact h5 _ (by omega)
theorem ToRun.ne (h : ToRun w g m now A cap acc cur todo wr) : g ≠ m := h.rng.map.ne h.obj
end
def ToPost (w : World) (g : Nat) (O : Nat → Prop) (l : List Wh.T) (er : Int) (s' : Wh.S) (e : Ending) (w' : World) : Prop := ∃ A c, e = .returned (.tuple #[.slice A l.length c, .int .i64 er]) ∧ ∃ O2, PW w' g O2 s' ∧ Step O O2 w w' ∧ Dues w' (fun b => w.heap.size ≤ b ∧ ¬ O2 b) A l
theorem ToRun.fin {w wr w' : World} {g m : Nat} {now : Int} {A : Option Addr} {cap n : Nat} {acc cur : List Wh.T} {s : Wh.S} {O : Nat → Prop} (h : ToRun w g m now A cap acc cur [] wr) (hp : Wh.Parted s now acc cur []) (hI : Wh.Inv s) (hok : ¬ (now < s.now ∨ 1099511627776 < now)) (ho : ∀ i, O i ↔ two g m i)
    (hd : Dues w' (fun b => w.heap.size + 1 ≤ b) A (Wh.sort acc)) (hb : Below (w.heap.size + 1) wr w') (hn : n = acc.length) : ToPost w g O (Wh.toL s now) 0 (Wh.toS s now) (.returned (.tuple #[.slice A n cap, .int .i64 0])) w' := by
  obtain ⟨e1, e2, e3, e4⟩ := hp.done hI hok
  rw [e1] at hd
  have hl : n = (Wh.toL s now).length := by rw [← e1, Wh.sort_len]; exact hn
  have lg := h.lg
  have lm := h.lm
  refine ⟨A, cap, by rw [hl], O, ⟨m, ⟨?_, ?_⟩, ho⟩, ⟨?_, fun k hk => .inl hk⟩, hd.1, fun h0 => ?_⟩
  · rw [e3]; exact (hb.block g (by omega)).trans h.obj
  · exact (h.rng.map.keep (hb.block m (by omega))).perm e2
  · have y : Only (fun k => w.heap.size ≤ k) wr w' := ⟨hb.os, hb.tape, hb.output, hb.size, fun k _ hn => hb.block k (by omega)⟩
    exact (h.only.trans y fun i hi => .inr hi).mono fun k _ hk => (ho k).2 hk
  · obtain ⟨b, off, e, h1, h2⟩ := hd.2 h0
    exact ⟨b, off, e, ⟨by omega, fun hO => by rcases (ho b).1 hO with rfl | rfl <;> omega⟩, h2⟩
set_option maxHeartbeats 4000000 in
theorem wheelTo_post (g : Nat) (O : Nat → Prop) (s : Wh.S) (now : Int) (w : World) (h : PW w g O s) (hI : Wh.Inv s) (_ : is64 now) (hn : s.l.length ≤ 999999) :
    Calls Try.prog 12 #[.pointer (some ⟨g, 0, none⟩), .int .i64 now] w (ToPost w g O (Wh.toL s now) (Wh.toE s now) (Wh.toS s now)) := by
  obtain ⟨m, p, ho⟩ := h
  obtain ⟨⟨c0, c1⟩, ⟨f0, f1⟩⟩ := obW p.obj
  have HI := Lib.hid hI
  by_cases hbad : now < s.now ∨ 1099511627776 < now
  · have e1 : Wh.toL s now = [] := by unfold Wh.toL; rw [if_pos hbad]
    have e2 : Wh.toS s now = s := by unfold Wh.toS; rw [if_pos hbad]
    have e3 : Wh.toE s now = 1 := by unfold Wh.toE; rw [if_pos hbad]
    rw [e1, e2, e3]
    have PT : Hid (PW w g O s) := Lib.hid ⟨m, p, ho⟩
    clear e1 e2 e3 p ho hI hn
    by_cases h1 : now < s.now
    · clear hbad
      go_enter Try.func12, Try.ntmps12
      go_wp2
      go_ret2
      exact ⟨none, 0, rfl, O, PT.out, Step.refl _ _, Dues.nil_⟩
    · have h2 : 1099511627776 < now := by omega
      clear hbad
      go_enter Try.func12, Try.ntmps12
      go_wp2
      go_ret2
      exact ⟨none, 0, rfl, O, PT.out, Step.refl _ _, Dues.nil_⟩
  · have e3 : Wh.toE s now = 0 := by unfold Wh.toE; rw [if_neg hbad]
    rw [e3]
    have HB := Lib.hid hbad
    have h1 : ¬ now < s.now := fun h => hbad (.inl h)
    have h2 : ¬ 1099511627776 < now := fun h => hbad (.inr h)
    generalize hw1 : w.setCell ⟨g, 0, none⟩ (.int .i64 now) = w1
    have o1 : w1.heap[g]? = some (.cells #[.int .i64 now, .map (some m)] 60 (0, 0)) := by
      rw [← hw1]; exact (heap_setCell_same w g 0 _ _ _ p.obj).trans rfl
    have y1 : Only (two g m) w w1 := hw1 ▸ Only.set _ _ _ _ (.inl rfl)
    have m1 : TMap w1 m s.l := p.map.keep (by rw [← hw1]; exact Below.heap_setCell _ _ _ _ (Ne.symm p.ne))
    have z1 : w1.heap.size = w.heap.size := by rw [← hw1]; simp
    have ok := p.map.ok
    have lg := p.ltg
    have lm := p.ltm
    obtain ⟨⟨d0, d1⟩, -⟩ := obW o1
    have HW := Lib.hid hw1
    have O1 := Lib.hid o1
    have Y1 := Lib.hid y1
    have M1 := Lib.hid m1
    have Z1 := Lib.hid z1
    have OK := Lib.hid ok
    have LG := Lib.hid lg
    have LM := Lib.hid lm
    have HO := Lib.hid ho
    have HN := Lib.hid hn
    clear e3 p ho hI hbad hn hw1 o1 y1 m1 z1 ok lg lm
    go_enter Try.func12, Try.ntmps12
    go_upto_region 4 with (fail)
    rw [HW.out]
    go_wp2_with (first | (at_range; refine wp_trange rfl _ rfl rfl M1.out ?_; intro w2 hr2 hg2 hs2) | go_in)
    rw [Z1.out]
    have T2 : Hid (ToRun w g m now none 0 [] s.l s.l w2) := Lib.hid ⟨OwnK.none_ _ _ _ _, by have := hr2; rw [Z1.out] at this; exact this, (hg2.block g (lt_of_block O1.out) (by simp)).trans O1.out, Y1.out.trans (Only.grown (own := two g m) hg2 (by simp)) fun _ hi => .inl hi, LG.out, LM.out⟩
    clear hr2 hg2 hs2
    go_loopw [6, 7, 8] (fun v _ _ wr => ∃ (A : Option Addr) (cap n : Nat) (acc cur todo : List Wh.T), ToRun w g m now A cap acc cur todo wr ∧ Hid (n = acc.length) ∧ v = .slice A n cap ∧ Wh.Parted s now acc cur todo) (fun _ _ _ wr => wr.rangeLeft m w.heap.size)
    case atStart => exact ⟨none, 0, 0, [], s.l, s.l, T2.out, Lib.hid rfl, rfl, ⟨List.Perm.refl _, fun t h => by simp at h, fun t h1 h2 => absurd h1 h2⟩⟩
    case round =>
      obtain ⟨A, cap, n, acc, cur, todo, hrg, HNN, rfl, hpt⟩ := hrel
      have TR := Lib.hid hrg
      have RG := Lib.hid hrg.rng
      have PT := Lib.hid hpt
      clear hrg hpt
      go_wp2_with (first
        | (at_next; refine wp_tnext rfl _ rfl rfl RG.out ?_ ?_)
        | go_in)
      · intro h0
        subst h0
        have DN := Lib.hid (PT.out.done HI.out HB.out)
        have SF : Hid (Calls Try.prog 22 #[.slice A n cap, .func (.func 23) #[] #[]] wr (SortPost wr (w.heap.size + 1) A acc)) := Lib.hid (by
          rw [HNN.out]
          exact sortF_any A cap acc _ wr TR.out.row (fun a ha => OK.out a (PT.out.perm.mem_iff.1 (List.mem_append_left _ ha))) TR.out.size (by have := DN.out.2.2.2; have := HN.out; omega))
        go_wp2_with (go_at_call 22; refine SF.out.mono ?_; rintro e w6 ⟨rfl, hd6, hb6⟩)
        go_ret2
        exact TR.out.fin PT.out HI.out HB.out HO.out hd6.out hb6.out HNN.out
      · intro p q c w3 hm hr3 hlt hg3 hs3 hen
        have T3 := Lib.hid (TR.out.next hr3 hg3)
        clear hs3
        go_upto_region 8 with (fail)
        have hin : ∀ t ∈ todo, t ∈ cur := fun t ht => TR.out.rng.mem ht
        have HX := Lib.hid (OK.out _ (PT.out.perm.mem_iff.1 (List.mem_append_right _ (hin _ hm))))
        have T4 := Lib.hid (T3.out.grew ((Below.refl _ _).alloc (Nat.le_refl _) (Obj.cells #[Value.int IntKind.i64 p, Value.int IntKind.i64 q] 28)))
        have L4 : Hid ((w3.alloc (Obj.cells #[Value.int IntKind.i64 p, Value.int IntKind.i64 q] 28)).rangeLeft m w.heap.size < wr.rangeLeft m w.heap.size) := Lib.hid (by
          rw [(T3.out.rng.grew ((Below.refl _ _).alloc (Nat.le_refl _) _)).2]; exact hlt)
        have K4 : (w3.alloc (Obj.cells #[Value.int IntKind.i64 p, Value.int IntKind.i64 q] 28)).cell? ⟨w3.heap.size, 0, none⟩ = some (.int .i64 p) ∧ (w3.alloc (Obj.cells #[Value.int IntKind.i64 p, Value.int IntKind.i64 q] 28)).cell? ⟨w3.heap.size, 1, none⟩ = some (.int .i64 q) := by simp
        have Z4 : Hid ((w3.alloc (Obj.cells #[Value.int IntKind.i64 p, Value.int IntKind.i64 q] 28)).heap.size = w3.heap.size + 1) := Lib.hid (by simp)
        have R3 : Hid (∀ a, A = some a → a.block < w3.heap.size) := Lib.hid fun a ha => by have := T3.out.row; subst ha; exact this.lt.2
        generalize w3.alloc (Obj.cells #[Value.int IntKind.i64 p, Value.int IntKind.i64 q] 28) = w4 at *
        have PN : Hid (Wh.due now ⟨p, q, c⟩ = false → Wh.Parted s now acc cur (Wh.del p q todo)) := Lib.hid fun hd => PT.out.skip TR.out.rng.once hin hm hd
        have PD : Hid (Wh.due now ⟨p, q, c⟩ = true → Wh.Parted s now (acc ++ [⟨p, q, c⟩]) (Wh.del p q cur) (Wh.del p q todo)) := Lib.hid fun hd => PT.out.take TR.out.rng.once hin hm hd
        have AL : Hid (acc.length + 1 ≤ 1000000) := Lib.hid (by have h1 := PT.out.perm.length_eq; rw [List.length_append] at h1; have := HN.out; omega)
        obtain ⟨k0, k1⟩ := K4
        obtain ⟨⟨g0, g1⟩, -⟩ := obW T4.out.obj
        clear hm hr3 hlt hg3 hin hen
        by_cases hc : c ≤ now
        · have PD' := Lib.hid (PD.out (by simpa [Wh.due] using hc))
          have O4 := Lib.hid (T4.out.grew ((Below.refl _ _).alloc (Nat.le_refl _) (Obj.cells #[Value.int IntKind.i64 p, Value.int IntKind.i64 q, Value.int IntKind.i64 c] 56)))
          have X4 : Hid (∀ j u, ([encT ⟨p, q, c⟩] : List (List Value)).flatten[j]? = some u → (w4.alloc (Obj.cells #[Value.int IntKind.i64 p, Value.int IntKind.i64 q, Value.int IntKind.i64 c] 56)).cell? ⟨w4.heap.size, 0 + j, none⟩ = some u) := Lib.hid fun j u hu => by
            have : ([encT ⟨p, q, c⟩] : List (List Value)).flatten = [.int .i64 p, .int .i64 q, .int .i64 c] := rfl
            rw [this] at hu
            rcases j with _ | _ | _ | j
            · simp at hu; subst hu; simp
            · simp at hu; subst hu; simp
            · simp at hu; subst hu; simp
            · simp at hu
          go_upto_region 10 with (at_builtin; refine wp_appK (vs := acc.map encT) (us := [encT ⟨p, q, c⟩]) rfl (.tmp 36) (.tmp 40) rfl Try.underlying33 pdue_info rfl (by decide) (by decide) rfl (by rw [List.length_map]; exact HNN.out) O4.out.row (by have := O4.out.size; omega) rfl rfl (encT_wide [⟨p, q, c⟩]) X4.out (by have := AL.out; simp; omega) ?_; intro A5 c5 w5 o5 d5 _; generalize hn5 : (acc.map encT ++ [encT ⟨p, q, c⟩]).length = n5; have N5 := Lib.hid hn5; have O5 := Lib.hid o5; have D5 := Lib.hid d5; clear hn5 o5 d5)
          have T5 := O4.out.app (acc' := acc ++ [⟨p, q, c⟩]) (by rw [List.map_append]; exact O5.out) D5.out
          have E4 := (T4.out.rng.grew ((Below.refl _ _).alloc (Nat.le_refl _) (Obj.cells #[Value.int IntKind.i64 p, Value.int IntKind.i64 q, Value.int IntKind.i64 c] 56))).2
          have hkb : w5.heap[w3.heap.size]? = w4.heap[w3.heap.size]? := (D5.out.block _ (by rw [World.size_alloc, Z4.out]; omega) (fun e => by
            cases A with
            | none => simp [Value.ownBlock] at e
            | some a => have := R3.out a rfl; simp [Value.ownBlock] at e; omega)).trans (Below.heap_alloc _ _ _ (by rw [Z4.out]; omega))
          have kk0 : w5.cell? ⟨w3.heap.size, 0, none⟩ = some (.int .i64 p) := (World.cell?_of_block (w := w4) hkb).trans k0
          have kk1 : w5.cell? ⟨w3.heap.size, 1, none⟩ = some (.int .i64 q) := (World.cell?_of_block (w := w4) hkb).trans k1
          obtain ⟨⟨_, gg1⟩, -⟩ := obW T5.1.obj
          have T5d := T5.1.grew (Below.refl _ _).drew
          have E5 := (T5.1.rng.grew (Below.refl _ _).drew).2
          obtain ⟨w6, DD, hr6, hl6, ht6⟩ := T5d.rng.drop p q HX.out.1 HX.out.2.1 0
          rw [Wh.del_del] at hr6
          have T6 := Lib.hid (T5d.drop hr6 ht6 T5d.ne)
          have L6 : Hid (w6.rangeLeft m w.heap.size < wr.rangeLeft m w.heap.size) := Lib.hid (by have := L4.out; rw [E5, T5.2, E4] at hl6; omega)
          have TC : ∀ {b o : Nat} {v : Value}, b ≠ m → w5.cell? ⟨b, o, none⟩ = some v → w6.cell? ⟨b, o, none⟩ = some v := fun hb hv => (World.cell?_of_block (w := w5) ((turned_frame ht6).2.2.2.2 _ hb)).trans hv
          have km : w3.heap.size ≠ m := by have := T3.out.lm; have := T3.out.size; omega
          have ee0 := TC T5d.ne gg1
          have ee1 := TC km kk0
          have ee2 := TC km kk1
          clear TC km T5 E4 hkb T5d E5 hr6 hl6 ht6 k0 k1 g0 g1
          go_region_held3 (fun w' => w'.cell? ⟨g, 1, none⟩ = some (.map (some m)) ∧ w'.cell? ⟨w3.heap.size, 0, none⟩ = some (.int .i64 p) ∧ w'.cell? ⟨w3.heap.size, 1, none⟩ = some (.int .i64 q)) (go_keep) (fail)
          go_wp2
          go_roundw
          case rel => exact ⟨A5, c5, n5, acc ++ [⟨p, q, c⟩], _, _, T6.out, Lib.hid (by rw [← N5.out]; simp), rfl, PD'.out⟩
          case measure => exact L6.out
        · have hd : decide (c ≤ now) = false := decide_eq_false hc
          have PN' := Lib.hid (PN.out hd)
          go_wp2
          go_roundw
          case rel => exact ⟨A, cap, n, acc, cur, _, T4.out, HNN, rfl, PN'.out⟩
          case measure => exact L4.out
end Go.Proofs.Ytaieoneilljagaa
