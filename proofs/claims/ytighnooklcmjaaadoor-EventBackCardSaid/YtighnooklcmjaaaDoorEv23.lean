/-
  Part 23 of the texts behind the law: EvWords, EvShowP, EvProg, EvAwake.
-/
import Derived.Test.YtighnooklcmjaaaDoorEv7
import Derived.Test.YtighnooklcmjaaaDoorEv2
import Derived.Test.YtighnooklcmjaaaDoorEv5
import Derived.Test.YtighnooklcmjaaaDoorEv17
import Derived.Test.YtighnooklcmjaaaDoorEv18
import Derived.Test.YtighnooklcmjaaaDoorEv22
import Derived.Test.YtighnooklcmjaaaDoorEv19
import Derived.Test.YtighnooklcmjaaaDoorEv21
import Derived.Test.YtighnooklcmjaaaDoorEv16
/-
  Show's two closures: the words, and one more.
-/
namespace Go.Proofs.YtighnooklcmjaaaDoor
open Go.RowKit
theorem step_appT' {w : World} {o : Oper} {a : Act} {K : Act → World → Prop} {Q : Exit → Act → World → Prop} (s t : Operand)
    (ho : o.op = .call { callee := .builtin .append, args := #[s, t], argTypes := #[55, 55] })
    {base : Nat} {A : Option Addr} {n cap : Nat} {ss : List ByteArray} {x : ByteArray} (hs : a.eval s = .slice A n cap) (hn : n = ss.length) (h : OwnT w base A cap ss) (hbase : base ≤ w.heap.size)
    {b2 c : Nat} (ht : a.eval t = .slice (some ⟨b2, 0, none⟩) 1 c) (hx : w.cell? ⟨b2, 0, none⟩ = some (.string x)) (hlen : ss.length ≤ 1000000000) {r : Nat} (hr : ss.length + 1 = r)
    (H : ∀ A' cap' w', OwnT w' base A' cap' (ss ++ [x]) → w.grownBy w' (Value.slice A ss.length cap).ownBlock → K (a.put o.dst (.slice A' r cap')) w') :
    Oper.wp Tryd.prog o a w K Q := by
  subst hn hr
  obtain ⟨A', cap', w', hrun, h1, h2⟩ := run_appT h hbase hx c hlen o.type
  unfold Oper.wp
  simp [execOp, ho, resolve, invoke, builtin, hs, ht, hrun, Result.andThen]
  have hk := H A' cap' w' h1 h2
  exact hk
theorem rowT_ne {w : World} {base cap : Nat} {a : Addr} {ss : List ByteArray} (h : OwnT w base (some a) cap ss) {g : Nat} {cs : Array Value} {fz : Nat × Nat} {t : TypeId} (ho : w.heap[g]? = some (.cells cs t fz)) (ht : t ≠ 9) : a.block ≠ g := by
  rintro rfl
  rcases h.2 with ⟨e1, _⟩ | ⟨g', c', cur, e1, _, hg', _⟩
  · cases e1
  · injection e1 with e1 _ _
    injection e1 with e1
    subst e1
    rw [ho] at hg'
    simp only [Option.some.injEq, Obj.cells.injEq] at hg'
    exact ht hg'.2.1
/-- The words in memory: the variable at block g holds the row of these words, all made since w. -/
def WdS (w : World) (g : Nat) (ss : List ByteArray) (W : World) : Prop := ∃ A cap, W.heap[g]? = some (.cells #[.slice A ss.length cap] 55 (0, 0)) ∧ OwnT W w.heap.size A cap ss ∧ Below w.heap.size w W
theorem WdS.grow {w : World} {g : Nat} {ss : List ByteArray} {W W' : World} (h : WdS w g ss W) (hb : Below W.heap.size W W') : WdS w g ss W' := by
  obtain ⟨A, cap, h1, h2, h3⟩ := h
  exact ⟨A, cap, (hb.block _ (lt_of_block h1)).trans h1, h2.keep hb, h3.trans (hb.mono h3.size)⟩
theorem WdS.pushed {w W W4 W5 : World} {g : Nat} {ss : List ByteArray} {x : ByteArray} {A A' : Option Addr} {cap cap' n r : Nat} (hg : w.heap.size ≤ g) (h1 : W.heap[g]? = some (.cells #[.slice A n cap] 55 (0, 0))) (h2 : OwnT W w.heap.size A cap ss) (h3 : Below w.heap.size w W)
    (h4 : Below W.heap.size W W4) (h5 : OwnT W5 w.heap.size A' cap' (ss ++ [x])) (h6 : W4.grownBy W5 (Value.slice A n cap).ownBlock) (hr : r = ss.length + 1) :
    WdS w g (ss ++ [x]) (W5.setCell ⟨g, 0, none⟩ (.slice A' r cap')) ∧ Kp W (W5.setCell ⟨g, 0, none⟩ (.slice A' r cap')) := by
  subst hr
  have hne : ∀ {i : Nat} {cs : Array Value} {t : TypeId} {fz : Nat × Nat}, W.heap[i]? = some (.cells cs t fz) → t ≠ 9 → W5.heap[i]? = some (.cells cs t fz) := by
    intro i cs t fz hi ht
    have h7 : W4.heap[i]? = some (.cells cs t fz) := (h4.block _ (lt_of_block hi)).trans hi
    refine (h6.block _ (lt_of_block h7) ?_).trans h7
    cases A with
    | none => simp [Value.ownBlock]
    | some a =>
      simp only [Value.ownBlock, ne_eq, Option.some.injEq]
      exact fun e => rowT_ne h2 hi ht e.symm
  have hg5 := hne h1 (by decide)
  have hg4 : W4.heap[g]? = some (.cells #[.slice A n cap] 55 (0, 0)) := (h4.block _ (lt_of_block h1)).trans h1
  have hs4 : w.heap.size ≤ W4.heap.size := Nat.le_trans h3.size h4.size
  have hn : ∀ a, A' = some a → g ≠ a.block := fun a ha => by subst ha; exact fun e => rowT_ne h5 hg5 (by decide) e.symm
  have b5 : Below w.heap.size W4 W5 := (Below.refl _ _).grown h6 hs4 fun k hk => by
    cases A with
    | none => cases hk
    | some a => simp [Value.ownBlock] at hk; subst hk; exact h2.lt.1
  refine ⟨⟨A', cap', ?_, ?_, ?_⟩, ?_⟩
  · rw [List.length_append, List.length_singleton]
    exact heap_setCell_same _ g 0 _ _ _ hg5
  · exact h5.kept fun a ha => Below.heap_setCell _ _ _ _ (Ne.symm (hn a ha))
  · exact ((h3.trans (h4.mono h3.size)).trans b5).setCell (p := ⟨g, 0, none⟩) hg _
  · intro i cs t fz ht hi
    have ht2 : t ≠ 9 := by rcases ht with rfl | rfl <;> decide
    refine (Below.heap_setCell _ _ _ _ ?_).trans (hne hi ht2)
    rintro rfl
    rw [h1] at hi
    simp only [Option.some.injEq, Obj.cells.injEq] at hi
    rcases ht with rfl | rfl
    · exact absurd hi.2.1 (by decide)
    · exact absurd hi.2.1 (by decide)
theorem pushed_block {W W4 W5 : World} {base g : Nat} {ss : List ByteArray} {A : Option Addr} {cap n : Nat} (h1 : W.heap[g]? = some (.cells #[.slice A n cap] 55 (0, 0))) (h2 : OwnT W base A cap ss) (h4 : Below W.heap.size W W4) (h6 : W4.grownBy W5 (Value.slice A n cap).ownBlock) :
    W5.heap[g]? = some (.cells #[.slice A n cap] 55 (0, 0)) := by
  have h7 : W4.heap[g]? = some (.cells #[.slice A n cap] 55 (0, 0)) := (h4.block _ (lt_of_block h1)).trans h1
  refine (h6.block _ (lt_of_block h7) ?_).trans h7
  cases A with
  | none => simp [Value.ownBlock]
  | some a =>
    simp only [Value.ownBlock, ne_eq, Option.some.injEq]
    exact fun e => rowT_ne h2 h1 (by decide) e.symm
theorem pushed_free {W W4 W5 : World} {base g : Nat} {ss : List ByteArray} {A : Option Addr} {cap n : Nat} (h1 : W.heap[g]? = some (.cells #[.slice A n cap] 55 (0, 0))) (h2 : OwnT W base A cap ss) (h4 : Below W.heap.size W W4) (h6 : W4.grownBy W5 (Value.slice A n cap).ownBlock) :
    W5.frozen? ⟨g, 0, none⟩ = false := by simp [World.frozen?, pushed_block h1 h2 h4 h6]
theorem pushed_cell {W W4 W5 : World} {base g : Nat} {ss : List ByteArray} {A : Option Addr} {cap n : Nat} (h1 : W.heap[g]? = some (.cells #[.slice A n cap] 55 (0, 0))) (h2 : OwnT W base A cap ss) (h4 : Below W.heap.size W W4) (h6 : W4.grownBy W5 (Value.slice A n cap).ownBlock) :
    W5.cell? ⟨g, 0, none⟩ = some (.slice A n cap) := by simp [World.cell?, pushed_block h1 h2 h4 h6]
set_option maxRecDepth 20000 in
set_option maxHeartbeats 4000000 in
theorem word_num (w : World) (g : Nat) (ss : List ByteArray) (hl : ss.length ≤ 1000) (hg : w.heap.size ≤ g) (z : Nat) (hz : z < 18446744073709551616) (hd : ∀ W', Below w.heap.size w W' → FactsD W') (W : World) (h : WdS w g ss W) :
    Calls Tryd.prog 23 #[.int .u64 z, .pointer (some ⟨g, 0, none⟩)] W fun r W' => r = .returned (.tuple #[]) ∧ WdS w g (ss ++ [⟨(Lib.decDigits z).toArray⟩]) W' ∧ Kp W W' := by
  obtain ⟨A, cap, h1, h2, h3⟩ := h
  have H1 := Lib.hid h1
  have H2 := Lib.hid h2
  have H3 := Lib.hid h3
  have HL := Lib.hid hl
  have HG := Lib.hid hg
  have FU := Lib.hid (fun W' hb => fmtU_10 z hz W' (hd W' hb))
  obtain ⟨x, hx⟩ : ∃ x : ByteArray, x = ⟨(Lib.decDigits z).toArray⟩ := ⟨_, rfl⟩
  rw [← hx] at FU ⊢
  clear hx hd hz
  generalize hq : ss.length = q at *
  have HQ := Lib.hid hq
  clear hq h1 h2 h3 hl hg
  have CB : Hid (∀ W' : World, Below W.heap.size W W' → W'.cell? ⟨g, 0, none⟩ = some (.slice A q cap)) := Lib.hid fun W' hb => by have := (hb.block _ (lt_of_block H1.out)).trans H1.out; simp [World.cell?, this]
  go_enter Tryd.func23, Tryd.ntmps23
  go_upto_region 0 with fail
  refine wp_region_C (fun w' => w'.cell? ⟨g, 0, none⟩ = some (.slice A q cap)) 5 (by kernel_rfl) ?_
  have hS0 : (fun w' : World => w'.cell? ⟨g, 0, none⟩ = some (.slice A q cap)) W.drew := CB.out _ (Below.refl _ _).drew
  refine wpAnyC_take (i := 0) (oi := ?o1) (v := ?v1) ?hi1 (by kernel_rfl) (by kernel_rfl) (by kernel_rfl) ?hQ1 (by kernel_rfl) (by decide) (by kernel_rfl) (Or.inl ⟨?hg1, ?hy1⟩) (by assumption) ?rest1
  case hi1 => (simp only [List.getElem?_toArray, List.getElem?_cons_zero, List.getElem?_cons_succ]; exact rfl)
  case hQ1 => exact fun _ _ _ h => h
  case hg1 => rfl
  case hy1 => (intro w' hSw; (try dsimp only at hSw); go_simp; try with_reducible rfl)
  try simp only [Act.put, List.setIfInBounds_toArray, List.set_cons_zero, List.set_cons_succ]
  refine wpAnyC_take (i := 1) (oi := ?o2) (v := ?v2) ?hi2 (by kernel_rfl) (by kernel_rfl) (by kernel_rfl) ?hQ2 (by kernel_rfl) (by decide) (by kernel_rfl) (Or.inl ⟨?hg2, ?hy2⟩) (by assumption) ?rest2
  case hi2 => (simp only [List.getElem?_toArray, List.getElem?_cons_zero, List.getElem?_cons_succ]; exact rfl)
  case hQ2 => exact fun _ _ _ h => h
  case hg2 => rfl
  case hy2 => (intro w' hSw; (try dsimp only at hSw); go_simp; try with_reducible rfl)
  try simp only [Act.put, List.setIfInBounds_toArray, List.set_cons_zero, List.set_cons_succ]
  refine wpAnyC_one (i := 2) (oi := ?o3) ?hi3 (by kernel_rfl) ?step3
  case hi3 => (simp only [List.getElem?_toArray, List.getElem?_cons_zero, List.getElem?_cons_succ]; exact rfl)
  intro K' hK
  ((try go_simp); go_at_call 24; (with_reducible refine (FU.out _ (H3.out.trans (((Below.refl _ W).drew).mono H3.out.size))).mono ?_); rintro e w3 ⟨rfl, b3⟩; have B3 : Hid (Below W.heap.size W w3) := Lib.hid ((Below.refl _ _).drew.trans b3))
  refine hK.out _ _ ?_ (fun hHeld => ?_)
  · exact fun _ => CB.out _ B3.out
  clear hK K' hHeld
  try simp only [Act.put, List.setIfInBounds_toArray, List.set_cons_zero, List.set_cons_succ]
  try clear b3
  refine wpAnyC_one (i := 3) (oi := ?o4) ?hi4 (by kernel_rfl) ?step4
  case hi4 => (simp only [List.getElem?_toArray, List.getElem?_cons_zero, List.getElem?_cons_succ]; exact rfl)
  intro K' hK
  (try go_simp)
  refine hK.out _ _ ?_ (fun hHeld => ?_)
  · exact fun _ => CB.out _ (B3.out.trans ((Below.refl _ _).alloc B3.out.size _))
  clear hK K' hHeld
  try simp only [Act.put, List.setIfInBounds_toArray, List.set_cons_zero, List.set_cons_succ]
  obtain ⟨w4, hw4⟩ : ∃ w4, w4 = w3.alloc (.cells #[.string x] 9) := ⟨_, rfl⟩
  have B4 : Hid (Below W.heap.size W w4) := Lib.hid (by rw [hw4]; exact B3.out.trans ((Below.refl _ _).alloc B3.out.size _))
  have P4 : Hid (w4.cell? ⟨w3.heap.size, 0, none⟩ = some (.string x)) := Lib.hid (by rw [hw4]; simp)
  have O4 : Hid (OwnT w4 w.heap.size A cap ss) := Lib.hid (H2.out.keep B4.out)
  have S4 : Hid (w.heap.size ≤ w4.heap.size) := Lib.hid (Nat.le_trans H3.out.size B4.out.size)
  rw [← hw4]
  clear hw4 B3
  refine wpAnyC_one (i := 4) (oi := ?o5) ?hi5 (by kernel_rfl) ?step5
  case hi5 => (simp only [List.getElem?_toArray, List.getElem?_cons_zero, List.getElem?_cons_succ]; exact rfl)
  intro K' hK
  (refine step_appT' (ss := ss) (x := x) _ _ (by rfl) (by rfl) HQ.out.symm O4.out S4.out (by rfl) P4.out (by have h1 := HL.out; have h2 := HQ.out; omega) (r := q + 1) (by rw [HQ.out]) ?_; intro A5 c5 w5 o5 g5; have PU := Lib.hid (WdS.pushed HG.out H1.out H2.out H3.out B4.out o5 (by rw [← HQ.out]; exact g5) (r := q + 1) (by rw [HQ.out])); have fz5 : w5.frozen? ⟨g, 0, none⟩ = false := pushed_free H1.out H2.out B4.out (by rw [← HQ.out]; exact g5); have cc5 : w5.cell? ⟨g, 0, none⟩ = some (.slice A q cap) := pushed_cell H1.out H2.out B4.out (by rw [← HQ.out]; exact g5); clear o5 g5)
  refine hK.out _ _ ?_ (fun hHeld => ?_)
  · exact fun _ => cc5
  clear hK K' hHeld
  try simp only [Act.put, List.setIfInBounds_toArray, List.set_cons_zero, List.set_cons_succ]
  refine wpAnyC_one (i := 5) (oi := ?o6) ?hi6 (by kernel_rfl) ?step6
  case hi6 => (simp only [List.getElem?_toArray, List.getElem?_cons_zero, List.getElem?_cons_succ]; exact rfl)
  intro K' hK
  go_simp
  refine hK.out _ _ ?_ (fun hHeld => ?_)
  · exact fun h => (by cases h)
  clear hK K' hHeld
  try simp only [Act.put, List.setIfInBounds_toArray, List.set_cons_zero, List.set_cons_succ]
  refine wpAnyC_done (by kernel_rfl) ?_ _
  clear fz5 cc5
  go_wp2
  go_end0
  exact ⟨rfl, PU.out⟩
set_option maxRecDepth 20000 in
set_option maxHeartbeats 4000000 in
theorem word_txt (w : World) (g : Nat) (ss : List ByteArray) (hl : ss.length ≤ 1000) (hg : w.heap.size ≤ g) (s : ByteArray) (W : World) (h : WdS w g ss W) :
    Calls Tryd.prog 25 #[.string s, .pointer (some ⟨g, 0, none⟩)] W fun r W' => r = .returned (.tuple #[]) ∧ WdS w g (ss ++ [s]) W' ∧ Kp W W' := by
  obtain ⟨A, cap, h1, h2, h3⟩ := h
  have H1 := Lib.hid h1
  have H2 := Lib.hid h2
  have H3 := Lib.hid h3
  have HL := Lib.hid hl
  have HG := Lib.hid hg
  generalize hq : ss.length = q at *
  have HQ := Lib.hid hq
  clear hq h1 h2 h3 hl hg
  obtain ⟨c0, f0⟩ : W.cell? ⟨g, 0, none⟩ = some (.slice A q cap) ∧ W.frozen? ⟨g, 0, none⟩ = false := ⟨by simp [World.cell?, H1.out], by simp [World.frozen?, H1.out]⟩
  obtain ⟨w4, hw4⟩ : ∃ w4, w4 = W.alloc (.cells #[.string s] 9) := ⟨_, rfl⟩
  have B4 : Hid (Below W.heap.size W w4) := Lib.hid (by rw [hw4]; exact (Below.refl _ _).alloc (Nat.le_refl _) _)
  have P4 : Hid (w4.cell? ⟨W.heap.size, 0, none⟩ = some (.string s)) := Lib.hid (by rw [hw4]; simp)
  have O4 : Hid (OwnT w4 w.heap.size A cap ss) := Lib.hid (H2.out.keep B4.out)
  have S4 : Hid (w.heap.size ≤ w4.heap.size) := Lib.hid (Nat.le_trans H3.out.size B4.out.size)
  rw [hw4] at P4 O4 S4 B4
  clear hw4
  go_enter Tryd.func25, Tryd.ntmps25
  go_wp2_with (at_builtin; refine wp_appT rfl (.tmp 3) (.tmp 5) rfl rfl HQ.out.symm O4.out S4.out rfl P4.out (by have h1 := HL.out; have h2 := HQ.out; omega) ?_; intro A5 c5 w5 o5 g5; have PU := Lib.hid (WdS.pushed HG.out H1.out H2.out H3.out B4.out o5 (by rw [← HQ.out]; exact g5) (r := q + 1) (by rw [HQ.out])); have fz5 : w5.frozen? ⟨g, 0, none⟩ = false := pushed_free H1.out H2.out B4.out (by rw [← HQ.out]; exact g5); have cc5 : w5.cell? ⟨g, 0, none⟩ = some (.slice A q cap) := pushed_cell H1.out H2.out B4.out (by rw [← HQ.out]; exact g5); rw [show (ss ++ [s]).length = q + 1 by rw [List.length_append, HQ.out]; rfl]; clear o5 g5)
  go_end0
  exact ⟨rfl, PU.out⟩
end Go.Proofs.YtighnooklcmjaaaDoor
/-
  The program's Show at every event.
-/
namespace Go.Proofs.YtighnooklcmjaaaDoor
open Go.RowKit
namespace Ev
/-- The words of an event: that of its kind, and the first j fields. -/
def wl (e : E) (j : Nat) : List ByteArray := Nu.txt (word e.kind) :: ((codes e.kind).take j).map fun c => Nu.txt (fieldT e c)
theorem wl_next {e : E} {j : Nat} {c : UInt8} (h : (codes e.kind)[j]? = some c) : wl e (j + 1) = wl e j ++ [Nu.txt (fieldT e c)] := by
  unfold wl
  rw [List.take_add_one, h, List.map_append]
  simp
theorem txt_data (l : List UInt8) : (Nu.txt l).data.toList = l := by unfold Nu.txt; simp
theorem wl_text (e : E) : Lib.join ((wl e (codes e.kind).length).map (·.data.toList)) [32] = text e := by
  unfold wl text
  rw [List.take_of_length_le (Nat.le_refl _), List.map_cons, Lib.join_cons, txt_data, List.map_map]
  congr 1
  unfold Lib.joinTail
  rw [List.map_map, List.flatMap_def]
  congr 1
theorem wl_len (e : E) (j : Nat) : (wl e j).length ≤ 5 ∧ 0 < (wl e j).length := by
  unfold wl
  rw [List.length_cons, List.length_map, List.length_take]
  have := codes_few e.kind
  omega
theorem num_fieldT {e : E} {c : UInt8} {z : Int} (h : numF e c = some z) : fieldT e c = Lib.decDigits z.toNat := by
  unfold numF at h
  unfold fieldT
  repeat' split at h
  all_goals first | (cases h; simp_all) | (exact absurd h (by simp))
theorem txt_fieldT {e : E} {c : UInt8} {s : ByteArray} (h : txtF e c = some s) : Nu.txt (fieldT e c) = s := by
  have key : fieldT e c = s.data.toList := by
    unfold txtF at h
    unfold fieldT
    repeat' split at h
    all_goals first | (cases h; simp_all) | (exact absurd h (by simp))
  rw [key]
  unfold Nu.txt
  simp
theorem word_shape {k : Nat} (h1 : 1 ≤ k) (h9 : k ≤ 9) : Nu.txt (word (k : Int)) = shW k := by
  rcases nine h1 h9 with rfl | rfl | rfl | rfl | rfl | rfl | rfl | rfl | rfl <;> rfl
end Ev
theorem join_wd {w W : World} {A : Option Addr} {cap : Nat} {ss : List ByteArray} (h : OwnT W w.heap.size A cap ss) (h0 : 0 < ss.length) (h1 : ss.length ≤ 1000) (hlen : (Lib.join (ss.map (·.data.toList)) [32]).length ≤ 140737488355328) (n : Nat) (hn : n = ss.length) :
    Calls Tryd.prog 26 #[.slice A n cap, .string ⟨#[32]⟩] W fun r W' => r = .returned (.string (Nu.txt (Lib.join (ss.map (·.data.toList)) [32]))) ∧ Below W.heap.size W W' := by
  obtain ⟨g, rfl, _, hg⟩ := h.shape h0
  have hc := h.cap_
  have := Tryd.strings_Join g 0 cap ss ⟨#[32]⟩ W (fun j x hx => by
    have hj : j < ss.length := (List.getElem?_eq_some_iff.1 hx).1
    rw [Nat.zero_add, h.val hj, List.getD_eq_getElem?_getD, hx]; rfl) hg (by omega) hc hlen
  rw [← hn] at this
  refine this.mono fun e w' ⟨he, hb⟩ => ⟨?_, hb⟩
  rw [he]
  rfl
theorem ShowS.num {w : World} {g : Nat} {e : Ev.E} (hg : w.heap.size ≤ g) (hd : ∀ W', Below w.heap.size w W' → FactsD W') (j : Nat) (c : UInt8) (z : Int) (W : World) (hc : (Ev.codes e.kind)[j]? = some c) (hz : Ev.numF e c = some z) (z0 : 0 ≤ z) (z1 : z ≤ 1099511627776) (h : WdS w g (Ev.wl e j) W) :
    Calls Tryd.prog 23 #[.int .u64 z, .pointer (some ⟨g, 0, none⟩)] W fun r W' => r = .returned (.tuple #[]) ∧ WdS w g (Ev.wl e (j + 1)) W' ∧ Kp W W' := by
  have hl := (Ev.wl_len e j).1
  have hzz : ((z.toNat : Nat) : Int) = z := Int.toNat_of_nonneg z0
  have h1 := word_num w g (Ev.wl e j) (by omega) hg z.toNat (by omega) hd W h
  rw [hzz] at h1
  refine h1.mono fun r W' hr => ?_
  rw [Ev.wl_next hc, Ev.num_fieldT hz]
  exact hr
theorem ShowS.txt {w : World} {g : Nat} {e : Ev.E} (hg : w.heap.size ≤ g) (j : Nat) (c : UInt8) (s : ByteArray) (W : World) (hc : (Ev.codes e.kind)[j]? = some c) (hs : Ev.txtF e c = some s) (h : WdS w g (Ev.wl e j) W) :
    Calls Tryd.prog 25 #[.string s, .pointer (some ⟨g, 0, none⟩)] W fun r W' => r = .returned (.tuple #[]) ∧ WdS w g (Ev.wl e (j + 1)) W' ∧ Kp W W' := by
  have hl := (Ev.wl_len e j).1
  refine (word_txt w g (Ev.wl e j) (by omega) hg s W h).mono fun r W' hr => ?_
  rw [Ev.wl_next hc, Ev.txt_fieldT hs]
  exact hr
set_option maxRecDepth 20000 in
set_option maxHeartbeats 8000000 in
theorem show_p (e : Ev.E) (he : EvIn e) (w : World) (hF : FactsE w) : Calls Tryd.prog 10 #[.agg (evc e)] w (TxtP w (Ev.showV e)) := by
  have X0 := Lib.hid (Bx.start w 24 e)
  have GD := Lib.hid (fun W h => good_p e he W h)
  have FF : Hid (∀ W, Below w.heap.size w W → FactsS W) := Lib.hid fun W h => hF.s.on h
  have FD : ∀ W, Below w.heap.size w W → FactsD W := fun W h => hF.d.on h
  clear hF
  cases hg : Ev.good e with
  | false =>
    have PE : Hid (Ev.showV e = []) := Lib.hid (by unfold Ev.showV; rw [hg]; rfl)
    rw [hg] at GD
    clear hg he FD
    obtain ⟨kd, ru, ta, tr, n, na, ke, da⟩ := e
    change Calls _ _ #[.agg #[.int .i64 kd, .int .i64 ru, .int .i64 ta, .int .i64 tr, .int .i64 n, .string na, .string ke, .string da]] _ _
    change Hid (∀ W, FactsS W → Calls _ _ #[.agg #[.int .i64 kd, .int .i64 ru, .int .i64 ta, .int .i64 tr, .int .i64 n, .string na, .string ke, .string da]] W _) at GD
    go_enter Tryd.func10, Tryd.ntmps10
    go_wp2_with fail
    (with_reducible refine (GD.out _ (FF.out _ ((Below.refl _ w).alloc (Nat.le_refl _) _))).mono ?_); rintro e w1 ⟨rfl, b1⟩
    go_wp2
    go_ret
    rw [PE.out]
    exact TxtP.mk_ rfl (((Below.refl _ w).alloc (Nat.le_refl _) _).trans (b1.mono (by simp)))
  | true =>
    have hG := Ev.good_iff.1 hg
    obtain ⟨k0, k1⟩ := hG.kind
    have PE : Hid (Ev.showV e = Ev.text e) := Lib.hid (by unfold Ev.showV; rw [hg]; rfl)
    have WT := Ev.wl_text e
    have WL := Ev.wl_len e (Ev.codes e.kind).length
    have TL : (Ev.text e).length ≤ 4000 := by have := Ev.upT_len hG (Ev.codes e.kind).length; rwa [Ev.upT_all (Nat.le_refl _)] at this
    have W0 : Ev.wl e 0 = [Nu.txt (Ev.word e.kind)] := by unfold Ev.wl; simp
    rw [hg] at GD
    have FO : Hid (∀ g W, w.heap.size ≤ g → FactsS W → WdS w g [Nu.txt (Ev.word e.kind)] W → Calls Tryd.prog 21 #[.agg (evc e), .func (.func 23) #[] #[.pointer (some ⟨g, 0, none⟩)], .func (.func 25) #[] #[.pointer (some ⟨g, 0, none⟩)]] W fun r w' => r = .returned (.tuple #[]) ∧ WdS w g (Ev.wl e (Ev.codes e.kind).length) w') :=
      Lib.hid fun g W hb hf h1 => fold_show g e hG W hf (fun j W => WdS w g (Ev.wl e j) W) (fun j W W' h hb => h.grow hb) (ShowS.num hb FD) (ShowS.txt hb) (by show WdS w g (Ev.wl e 0) W; rw [W0]; exact h1)
    have JO : Hid (∀ W A cap, OwnT W w.heap.size A cap (Ev.wl e (Ev.codes e.kind).length) → Calls Tryd.prog 26 #[.slice A (Ev.wl e (Ev.codes e.kind).length).length cap, .string ⟨#[32]⟩] W fun r W' => r = .returned (.string (Nu.txt (Ev.text e))) ∧ Below W.heap.size W W') :=
      Lib.hid fun W A cap h => by
        have := join_wd h WL.2 (by omega) (by rw [WT]; omega) _ rfl
        rwa [WT] at this
    clear hg he hG FD WT WL TL W0
    generalize Ev.wl e (Ev.codes e.kind).length = WS at *
    generalize Ev.showV e = SV at *
    generalize Ev.text e = TE at *
    obtain ⟨kd, ru, ta, tr, n, na, ke, da⟩ := e
    simp only at k0 k1
    obtain ⟨j, rfl⟩ : ∃ j : Nat, kd = j := ⟨kd.toNat, by omega⟩
    have k2 : j ≤ 9 := by omega
    have KW := Ev.word_shape (k := j) (by omega) k2
    (simp only at FO)
    rw [KW] at FO
    clear KW
    have TB : Hid (∀ W, FactsS W → W.cell? ⟨0, j * 8, none⟩ = some (.string (shW j))) := Lib.hid fun W h => (h.row k2).1
    generalize shW j = wd at *
    change Calls _ _ #[.agg #[.int .i64 j, .int .i64 ru, .int .i64 ta, .int .i64 tr, .int .i64 n, .string na, .string ke, .string da]] _ _
    change Hid (∀ W, FactsS W → Calls _ _ #[.agg #[.int .i64 j, .int .i64 ru, .int .i64 ta, .int .i64 tr, .int .i64 n, .string na, .string ke, .string da]] W _) at GD
    change Hid (∀ g W, w.heap.size ≤ g → FactsS W → WdS w g [wd] W → Calls Tryd.prog _ #[.agg #[.int .i64 j, .int .i64 ru, .int .i64 ta, .int .i64 tr, .int .i64 n, .string na, .string ke, .string da], _, _] W _) at FO
    obtain ⟨W0, hW0⟩ : ∃ W0, W0 = w.alloc (.cells #[.int .i64 j, .int .i64 ru, .int .i64 ta, .int .i64 tr, .int .i64 n, .string na, .string ke, .string da] 24) := ⟨_, rfl⟩
    change Hid (Bx w _ _ (w.alloc (.cells #[.int .i64 j, .int .i64 ru, .int .i64 ta, .int .i64 tr, .int .i64 n, .string na, .string ke, .string da] 24))) at X0
    rw [← hW0] at X0
    have HW := Lib.hid hW0
    clear hW0
    have hmf : ∀ (fn : Fn) (first cap : Array Value) (w : World), (Instr.makeFunc fn first cap).run Tryd.prog w = .ok (.func fn first cap) w := fun _ _ _ _ => rfl
    go_enter Tryd.func10, Tryd.ntmps10
    go_wp2_with fail
    rw [← HW.out]
    clear HW
    (with_reducible refine (GD.out _ (FF.out _ X0.out.b)).mono ?_); rintro e w1 ⟨rfl, b1⟩
    have X1 := Lib.hid (X0.out.more b1)
    clear X0 b1 GD
    obtain ⟨c0, c1, c2, c3, c4, c5, c6, c7⟩ := X1.out.plain
    have tb := TB.out w1 (FF.out _ X1.out.b)
    go_upto_region 4 with fail
    obtain ⟨g, hg⟩ : ∃ g, g = w1.heap.size + 1 := ⟨_, rfl⟩
    obtain ⟨W2, hW2⟩ : ∃ W2, W2 = (w1.alloc (.cells #[.string wd] 9)).alloc (.cells #[.slice (some ⟨w1.heap.size, 0, none⟩) 1 1] 55) := ⟨_, rfl⟩
    have BB : Hid (Below w1.heap.size w1 W2) := Lib.hid (by rw [hW2]; exact ((Below.refl _ _).alloc (Nat.le_refl _) _).alloc (by simp) _)
    have WS0 : Hid (WdS w g [wd] W2) := Lib.hid ⟨some ⟨w1.heap.size, 0, none⟩, 1, by rw [hW2, hg]; have := heap_alloc_new (w1.alloc (.cells #[.string wd] 9)) (.cells #[.slice (some ⟨w1.heap.size, 0, none⟩) 1 1] 55 (0, 0)); rwa [World.size_alloc] at this, by
      rw [hW2]
      exact ((OwnT.lit w1 [wd] (by simp) #[.string wd] rfl).low X1.out.b.size).keep ((Below.refl _ _).alloc (Nat.le_refl _) _), X1.out.b.trans (BB.out.mono X1.out.b.size)⟩
    have HG : Hid (w.heap.size ≤ g) := Lib.hid (by rw [hg]; have := X1.out.b.size; omega)
    have X2 : Hid (Bx w 24 ⟨j, ru, ta, tr, n, na, ke, da⟩ W2) := Lib.hid (X1.out.more BB.out)
    rw [← hW2, ← hg]
    clear hW2 hg X1 BB c0 c1 c2 c3 c4 c5 c6 c7 tb
    obtain ⟨c0, c1, c2, c3, c4, c5, c6, c7⟩ := X2.out.plain
    go_wp2_with fail
    (with_reducible refine (FO.out g _ HG.out (FF.out _ X2.out.b) WS0.out).mono ?_); rintro e w4 ⟨rfl, h3⟩
    obtain ⟨A, cap, ho, hown, hb4⟩ := h3
    have d0 : w4.cell? ⟨g, 0, none⟩ = some (.slice A WS.length cap) := by simp [World.cell?, ho]
    have H4 := Lib.hid hb4
    have HN := Lib.hid (JO.out _ _ _ hown)
    clear hb4 ho hown c0 c1 c2 c3 c4 c5 c6 c7 FO WS0 X2
    go_wp2_with fail
    (with_reducible refine HN.out.mono ?_); rintro e w5 ⟨rfl, b5⟩
    go_wp2
    go_ret
    exact TxtP.mk_ (by rw [PE.out]) (H4.out.trans (b5.mono H4.out.size))
end Go.Proofs.YtighnooklcmjaaaDoor
/-
  Package event's contracts, gathered: good_p, put_p, get_p, show_p (each asks what the world holds of the package's tables).
-/
namespace Go.Proofs.YtighnooklcmjaaaDoor
end Go.Proofs.YtighnooklcmjaaaDoor
/-
  The laws' own awake: what the document tells of a tick.
-/
namespace Go.Proofs.YtighnooklcmjaaaDoor
open Go.RowKit
theorem EvIn.small {k r t y n : Int} (hk : 0 ≤ k ∧ k ≤ 100) (hr : 0 ≤ r ∧ r ≤ 100) (ht : 0 ≤ t ∧ t ≤ 100) (hy : 0 ≤ y ∧ y ≤ 100) (hn : 0 ≤ n ∧ n ≤ 4398046511104) {na ke da : ByteArray} (h1 : na.size ≤ 1000) (h2 : ke.size ≤ 1000) (h3 : da.size ≤ 1000) : EvIn ⟨k, r, t, y, n, na, ke, da⟩ :=
  ⟨⟨by show _ ≤ k; omega, by show k ≤ _; omega⟩, ⟨by show _ ≤ r; omega, by show r ≤ _; omega⟩, ⟨by show _ ≤ t; omega, by show t ≤ _; omega⟩, ⟨by show _ ≤ y; omega, by show y ≤ _; omega⟩, ⟨by show _ ≤ n; omega, by show n ≤ _; omega⟩, by show na.size ≤ _; omega, by show ke.size ≤ _; omega, by show da.size ≤ _; omega⟩
theorem six_in : EvIn ⟨6, 0, 0, 0, 7, ⟨#[]⟩, ⟨#[]⟩, ⟨#[]⟩⟩ := EvIn.small (by decide) (by decide) (by decide) (by decide) (by decide) (by decide) (by decide) (by decide)
theorem six_good : Ev.good ⟨6, 0, 0, 0, 7, ⟨#[]⟩, ⟨#[]⟩, ⟨#[]⟩⟩ = true := by decide
theorem six_show : Ev.showV ⟨6, 0, 0, 0, 7, ⟨#[]⟩, ⟨#[]⟩, ⟨#[]⟩⟩ = [116, 105, 99, 107, 32, 55] := by
  unfold Ev.showV
  rw [if_pos six_good]
  have h : Lib.decDigits 7 = [55] := Nu.dec_small (by decide)
  simp [Ev.text, Ev.word, Ev.codes, Ev.fieldT, h]
set_option maxRecDepth 8000 in
set_option maxHeartbeats 4000000 in
theorem awake_any (w : World) (hF : FactsE w) : Calls Tryd.prog 7 #[] w fun r w' => r = .returned (.bool true) ∧ Below w.heap.size w w' := by
  have FF : Hid (∀ W, Below w.heap.size w W → FactsE W) := Lib.hid fun W h => hF.on h
  clear hF
  have X0 := Lib.hid (Bx.start w 24 ⟨6, 0, 0, 0, 7, ⟨#[]⟩, ⟨#[]⟩, ⟨#[]⟩⟩)
  have PU := Lib.hid (put_p ⟨6, 0, 0, 0, 7, ⟨#[]⟩, ⟨#[]⟩, ⟨#[]⟩⟩ six_in)
  have GD := Lib.hid (good_p ⟨6, 0, 0, 0, 7, ⟨#[]⟩, ⟨#[]⟩, ⟨#[]⟩⟩ six_in)
  have SH := Lib.hid (show_p ⟨6, 0, 0, 0, 7, ⟨#[]⟩, ⟨#[]⟩, ⟨#[]⟩⟩ six_in)
  have EQ : Hid (∀ W, (binOp .eql 24 (.agg #[.int .i64 6, .int .i64 0, .int .i64 0, .int .i64 0, .int .i64 7, .string ⟨#[]⟩, .string ⟨#[]⟩, .string ⟨#[]⟩]) (.agg #[.int .i64 6, .int .i64 0, .int .i64 0, .int .i64 0, .int .i64 7, .string ⟨#[]⟩, .string ⟨#[]⟩, .string ⟨#[]⟩])).run Tryd.prog W = .ok (.bool true) W) := Lib.hid fun W => by
    have := ev_eql _ _ six_in six_in W
    rw [decide_eq_true rfl] at this
    exact this
  rw [six_good] at GD
  rw [six_show] at SH
  have PL := Lib.hid (Ev.put_len (Ev.good_iff.1 six_good))
  have GV := Lib.hid (Ev.getV_put (Ev.good_iff.1 six_good))
  generalize Ev.put ⟨6, 0, 0, 0, 7, ⟨#[]⟩, ⟨#[]⟩, ⟨#[]⟩⟩ = pu at *
  change Hid (∀ W, FactsS W → Calls _ _ #[.agg #[.int .i64 6, .int .i64 0, .int .i64 0, .int .i64 0, .int .i64 7, .string ⟨#[]⟩, .string ⟨#[]⟩, .string ⟨#[]⟩]] W _) at PU
  change Hid (∀ W, FactsS W → Calls _ _ #[.agg #[.int .i64 6, .int .i64 0, .int .i64 0, .int .i64 0, .int .i64 7, .string ⟨#[]⟩, .string ⟨#[]⟩, .string ⟨#[]⟩]] W _) at GD
  change Hid (∀ W, FactsE W → Calls _ _ #[.agg #[.int .i64 6, .int .i64 0, .int .i64 0, .int .i64 0, .int .i64 7, .string ⟨#[]⟩, .string ⟨#[]⟩, .string ⟨#[]⟩]] W _) at SH
  obtain ⟨W0, hW0⟩ : ∃ W0, W0 = w.alloc (.cells #[.int .i64 6, .int .i64 0, .int .i64 0, .int .i64 0, .int .i64 7, .string ⟨#[]⟩, .string ⟨#[]⟩, .string ⟨#[]⟩] 24) := ⟨_, rfl⟩
  change Hid (Bx w _ _ (w.alloc (.cells #[.int .i64 6, .int .i64 0, .int .i64 0, .int .i64 0, .int .i64 7, .string ⟨#[]⟩, .string ⟨#[]⟩, .string ⟨#[]⟩] 24))) at X0
  rw [← hW0] at X0
  have HW := Lib.hid hW0
  clear hW0
  go_enter Tryd.func7, Tryd.ntmps7
  go_wp2_with fail
  rw [← HW.out]
  clear HW
  (with_reducible refine (PU.out _ (FF.out _ X0.out.b).s).mono ?_); rintro e w1 ⟨zs, A1, c1, hz, rfl, o1, g1⟩
  have X1 := Lib.hid (X0.out.grew g1.out)
  have G1 := Lib.hid (get_p A1 zs c1 o1.out.cap_ (by rw [hz.out]; have := PL.out.2; omega) w1 (FF.out _ X1.out.b).s o1.out.bytes)
  clear X0 g1 o1
  go_wp2_with fail
  (with_reducible refine G1.out.mono ?_); rintro e w2 ⟨kd, ru, ta, tr, n, na, ke, da, er, rfl, hv, b2⟩
  have h1 : (⟨kd, ru, ta, tr, n, na, ke, da⟩ : Ev.E) = ⟨6, 0, 0, 0, 7, ⟨#[]⟩, ⟨#[]⟩, ⟨#[]⟩⟩ := by rw [hv.out.1, hz.out]; exact GV.out.1
  have h2 : er = 0 := by rw [hv.out.2, hz.out]; exact GV.out.2
  simp only [Ev.E.mk.injEq] at h1
  obtain ⟨rfl, rfl, rfl, rfl, rfl, rfl, rfl, rfl⟩ := h1
  subst h2
  have X2 := Lib.hid (X1.out.more b2.out)
  clear X1 b2 hv hz G1
  go_upto_region 3 with fail
  obtain ⟨g2, hg2⟩ : ∃ g2, g2 = w2.heap.size := ⟨_, rfl⟩
  obtain ⟨W3, hW3⟩ : ∃ W3, W3 = w2.alloc (.cells #[.int .i64 6, .int .i64 0, .int .i64 0, .int .i64 0, .int .i64 7, .string ⟨#[]⟩, .string ⟨#[]⟩, .string ⟨#[]⟩] 24) := ⟨_, rfl⟩
  have Y3 : Hid (W3.heap[g2]? = some (.cells #[.int .i64 6, .int .i64 0, .int .i64 0, .int .i64 0, .int .i64 7, .string ⟨#[]⟩, .string ⟨#[]⟩, .string ⟨#[]⟩] 24 (0, 0))) := Lib.hid (by rw [hW3, hg2]; exact heap_alloc_new w2 _)
  have X3 : Hid (Bx w 24 ⟨6, 0, 0, 0, 7, ⟨#[]⟩, ⟨#[]⟩, ⟨#[]⟩⟩ W3) := Lib.hid (X2.out.more (by rw [hW3]; exact (Below.refl _ _).alloc (Nat.le_refl _) _))
  rw [← hW3, ← hg2]
  clear hW3 hg2 X2
  obtain ⟨c0, c1, c2, c3, c4, c5, c6, c7⟩ := X3.out.plain
  go_wp2_with fail
  (with_reducible refine (SH.out _ (FF.out _ X3.out.b)).mono ?_); rintro e w4 ⟨s, rfl, hs, b4⟩
  obtain rfl : s = ⟨#[116, 105, 99, 107, 32, 55]⟩ := by rw [hs.out]; rfl
  have X4 := Lib.hid (X3.out.more b4.out)
  have Y4 := Lib.hid ((b4.out.block _ (lt_of_block Y3.out)).trans Y3.out)
  clear X3 Y3 b4 hs c0 c1 c2 c3 c4 c5 c6 c7
  obtain ⟨c0, c1, c2, c3, c4, c5, c6, c7⟩ := X4.out.plain
  go_wp2_with fail
  (with_reducible refine (GD.out _ (FF.out _ X4.out.b).s).mono ?_); rintro e w5 ⟨rfl, b5⟩
  have X5 := Lib.hid (X4.out.more b5)
  have Y5 := Lib.hid ((b5.block _ (lt_of_block Y4.out)).trans Y4.out)
  clear X4 Y4 b5 c0 c1 c2 c3 c4 c5 c6 c7
  obtain ⟨c0, c1, c2, c3, c4, c5, c6, c7⟩ := X5.out.plain
  obtain ⟨d0, d1, d2, d3, d4, d5, d6, d7⟩ := ob8 Y5.out
  have eq := EQ.out
  go_wp2
  go_ret
  exact ⟨rfl, X5.out.b⟩
end Go.Proofs.YtighnooklcmjaaaDoor
