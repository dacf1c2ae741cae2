/-
  Part 15 of the texts behind the law: TDfTaskR, TDfCut, TDfRow, TDfReadD.
-/
import Derived.Test.YtkbekojnmdgdgaaGreatDoorTf14
import Derived.Test.YtkbekojnmdgdgaaGreatDoorTf2
import Derived.Deep.RegionHeld
import Derived.Deep.Cut
import Derived.Laws.MakeOwn
/- DfTaskR -/
namespace Go.Proofs.YtkbekojnmdgdgaaGreatDoor
open Go.RowKit
def Df.rt (nms : List (List UInt8)) (ws : List (List UInt8)) : Df.Task × Bool :=
 let a := Df.opt Df.kA ws.tail
 let r := Df.opt Df.kR a.2
 let q := Df.opt Df.kW r.2
 let b := Df.opt Df.kB q.2
 let o := Df.opt Df.kO b.2
 (⟨ws.headD [], Df.afterL nms a.1, Df.numI 0 r.1, Df.numI 10 q.1, Df.numI 1 b.1, o.1.getD []⟩,
  !((((false || Df.neg (Df.afterL nms a.1)) || Df.numB r.1) || Df.numB q.1) || Df.numB b.1 || Df.onBad o.1) && o.2.isEmpty)
theorem Df.num_cases (u : Nat) (o : Option (List UInt8)) : (Df.numB o = true ∧ Df.numO u o = none) ∨ (Df.numB o = false ∧ ∃ v : Nat, Df.numO u o = some v ∧ Df.numI u o = (v : Int)) := by
 cases o with
 | none => exact .inr ⟨rfl, u, rfl, rfl⟩
 | some l =>
  unfold Df.numB Df.numO Df.numI
  cases hn : Df.num l with
  | none => exact .inl ⟨by show (Df.num l).isNone = true; rw [hn]; rfl, hn⟩
  | some v => exact .inr ⟨by show (Df.num l).isNone = false; rw [hn]; rfl, v, hn, by show (((Df.num l).getD 0 : Nat) : Int) = _; rw [hn]; rfl⟩
theorem Df.on_cases (o : Option (List UInt8)) : (Df.onBad o = true ∧ Df.onO o = none) ∨ (Df.onBad o = false ∧ Df.onO o = some (o.getD [])) := by
 match o with
 | none => exact .inr ⟨rfl, rfl⟩
 | some [] => exact .inl ⟨rfl, rfl⟩
 | some (x :: r) => exact .inr ⟨rfl, rfl⟩
theorem Df.idxs_mapO (nms : List (List UInt8)) (hl : nms.length ≤ 1100) : ∀ ps : List (List UInt8), (Df.neg (Df.idxs nms ps) = true ∧ Tx.mapO (Df.place nms) ps = none) ∨ (Df.neg (Df.idxs nms ps) = false ∧ Tx.mapO (Df.place nms) ps = some (Df.idxs nms ps))
 | [] => .inr ⟨rfl, rfl⟩
 | p :: r => by
  have ih := Df.idxs_mapO nms hl r
  have hr := Df.idxI_rng nms p hl
  unfold Df.idxs Df.neg at ih ⊢
  rw [List.map_cons, List.any_cons]
  unfold Tx.mapO
  by_cases hm : p ∈ nms
  ·have e1 : Df.place nms p = some (Df.idxI nms p) := by unfold Df.place Df.idxI; rw [if_pos hm, if_pos hm]
   have e2 : decide (Df.idxI nms p < 0) = false := decide_eq_false (fun e => hr.2.2.1 e hm)
   rw [e1, e2, Bool.false_or]
   rcases ih with ⟨i1, i2⟩ | ⟨i1, i2⟩
   ·exact .inl ⟨i1, by rw [i2]⟩
   ·exact .inr ⟨i1, by rw [i2]⟩
  ·have e1 : Df.place nms p = none := by unfold Df.place; rw [if_neg hm]
   have e2 : decide (Df.idxI nms p < 0) = true := decide_eq_true (hr.2.2.2 hm)
   rw [e1, e2]
   exact .inl ⟨rfl, rfl⟩
theorem Df.after_cases (nms : List (List UInt8)) (hl : nms.length ≤ 1100) (o : Option (List UInt8)) : (Df.neg (Df.afterL nms o) = true ∧ Df.afterO nms o = none) ∨ (Df.neg (Df.afterL nms o) = false ∧ Df.afterO nms o = some (Df.afterL nms o)) := by
 cases o with
 | none => exact .inr ⟨rfl, rfl⟩
 | some v => exact Df.idxs_mapO nms hl (Tx.split 44 v)
theorem Df.rt_read (nms ws : List (List UInt8)) (hl : nms.length ≤ 1100) (hw : ws ≠ []) : (Df.read ws).bind (Df.toTask nms) = if (Df.rt nms ws).2 = true then some (Df.rt nms ws).1 else none := by
 cases ws with
 | nil => exact absurd rfl hw
 | cons n ws =>
  have h : ∀ (a r q b o : Option (List UInt8) × List (List UInt8)), (if o.2.isEmpty then some (⟨n, a.1, r.1, q.1, b.1, o.1⟩ : Df.Raw) else none).bind (Df.toTask nms) =
    if (!((((false || Df.neg (Df.afterL nms a.1)) || Df.numB r.1) || Df.numB q.1) || Df.numB b.1 || Df.onBad o.1) && o.2.isEmpty) = true then some (⟨n, Df.afterL nms a.1, Df.numI 0 r.1, Df.numI 10 q.1, Df.numI 1 b.1, o.1.getD []⟩ : Df.Task) else none := fun a r q b o => by
   cases ho : o.2.isEmpty with
   | false =>
    rw [Bool.and_false]
    rfl
   | true =>
    rw [Bool.and_true, if_pos rfl]
    show Df.toTask nms ⟨n, a.1, r.1, q.1, b.1, o.1⟩ = _
    unfold Df.toTask
    simp only
    rcases Df.after_cases nms hl a.1 with ⟨a1, a2⟩ | ⟨a1, a2⟩
    ·rw [a1, a2]; rfl
    rcases Df.num_cases 0 r.1 with ⟨r1, r2⟩ | ⟨r1, rv, r2, r3⟩
    ·rw [a1, a2, r1, r2]; rfl
    rcases Df.num_cases 10 q.1 with ⟨q1, q2⟩ | ⟨q1, qv, q2, q3⟩
    ·rw [a1, a2, r1, r2, q1, q2]; rfl
    rcases Df.num_cases 1 b.1 with ⟨b1, b2⟩ | ⟨b1, bv, b2, b3⟩
    ·rw [a1, a2, r1, r2, q1, q2, b1, b2]; rfl
    rcases Df.on_cases o.1 with ⟨o1, o2⟩ | ⟨o1, o2⟩
    ·rw [a1, a2, r1, r2, q1, q2, b1, b2, o1, o2]; rfl
    ·rw [a1, a2, r1, r2, q1, q2, b1, b2, o1, o2, r3, q3, b3]; rfl
  exact h (Df.opt Df.kA ws) (Df.opt Df.kR (Df.opt Df.kA ws).2) (Df.opt Df.kW (Df.opt Df.kR (Df.opt Df.kA ws).2).2) (Df.opt Df.kB (Df.opt Df.kW (Df.opt Df.kR (Df.opt Df.kA ws).2).2).2) (Df.opt Df.kO (Df.opt Df.kB (Df.opt Df.kW (Df.opt Df.kR (Df.opt Df.kA ws).2).2).2).2)
theorem Df.numI_in (u : Nat) (hu : u ≤ 9999) (o : Option (List UInt8)) : inI (Df.numI u o) := by
 unfold inI
 cases o with
 | none => show -9223372036854775808 ≤ (u : Int) ∧ _; constructor <;> (try show (u : Int) ≤ _) <;> omega
 | some l =>
  show -9223372036854775808 ≤ (((Df.num l).getD 0 : Nat) : Int) ∧ (((Df.num l).getD 0 : Nat) : Int) ≤ _
  cases hn : Df.num l with
  | none => exact ⟨by decide, by decide⟩
  | some v =>
   have := (Df.num_some hn).2
   show _ ≤ (v : Int) ∧ (v : Int) ≤ _
   omega
theorem Rd.past {w : World} {g B k o : Nat} {ws : List (List UInt8)} {bad : Bool} (h : Rd w g B ws bad) (hk : k ≠ g) (hB : B ≤ k) (v : Value) : Rd (w.setCell ⟨k, o, none⟩ v) g B ws bad := by
 obtain ⟨A, cap, h1, h2, h3, h4⟩ := h
 exact ⟨A, cap, (Below.heap_setCell _ _ _ _ (Ne.symm hk)).trans h1, h2.below ((Below.refl _ _).setCell (p := ⟨k, o, none⟩) hB _), h3, h4⟩
def zeroTask : Array Value := #[.string ⟨#[]⟩, .slice none 0 0, .int .i64 0, .int .i64 0, .int .i64 0, .string ⟨#[]⟩]
structure RT (w0 w : World) (X : Nat) (cs : Array Value) (ws : List (List UInt8)) (bad : Bool) (A : Option Addr) (c : Nat) (l : List Int) : Prop where
 res : w.heap[X]? = some (.cells zeroTask 96 (0, 0))
 task : w.heap[X + 1 + 1 + 1]? = some (.cells cs 96 (0, 0))
 rd : Rd w (X + 1 + 1) (X + 1 + 1) ws bad
 own : OwnZ w (X + 1 + 1 + 1 + 1) A c l
 below : Below X w0 w
 size : X + 1 + 1 + 1 + 1 ≤ w.heap.size
theorem RT.call {w0 w w' : World} {X : Nat} {cs : Array Value} {ws ws' : List (List UInt8)} {bad bad' : Bool} {A : Option Addr} {c : Nat} {l : List Int} (h : RT w0 w X cs ws bad A c l) (hb : But w.heap.size (X + 1 + 1) w w') (hr : Rd w' (X + 1 + 1) (X + 1 + 1) ws' bad') : RT w0 w' X cs ws' bad' A c l := by
 have hs := h.size
 refine ⟨(hb.block _ (by omega) (by omega)).trans h.res, (hb.block _ (by omega) (by omega)).trans h.task, hr, h.own.keep fun a ha => ?_, h.below.trans (hb.below (by omega) (by omega)), Nat.le_trans hs hb.size⟩
 subst ha
 have h1 := h.own.lt
 exact hb.block _ h1.2 (by omega)
theorem RT.callA {w0 w w' : World} {X : Nat} {cs : Array Value} {ws ws' : List (List UInt8)} {bad bad' : Bool} {A A' : Option Addr} {c c' : Nat} {l l' : List Int} (h : RT w0 w X cs ws bad A c l) (hb : But w.heap.size (X + 1 + 1) w w') (hr : Rd w' (X + 1 + 1) (X + 1 + 1) ws' bad') (ho : OwnZ w' w.heap.size A' c' l') : RT w0 w' X cs ws' bad' A' c' l' := by
 have hs := h.size
 exact ⟨(hb.block _ (by omega) (by omega)).trans h.res, (hb.block _ (by omega) (by omega)).trans h.task, hr, ho.low hs, h.below.trans (hb.below (by omega) (by omega)), Nat.le_trans hs hb.size⟩
theorem RT.put {w0 w : World} {X : Nat} {cs : Array Value} {ws : List (List UInt8)} {bad : Bool} {A : Option Addr} {c : Nat} {l : List Int} (h : RT w0 w X cs ws bad A c l) (i : Nat) (v : Value) : RT w0 (w.setCell ⟨X + 1 + 1 + 1, i, none⟩ v) X (cs.setIfInBounds i v) ws bad A c l := by
 have hs := h.size
 refine ⟨(Below.heap_setCell _ _ _ _ (show X ≠ X + 1 + 1 + 1 by omega)).trans h.res, heap_setCell_same w _ i _ _ _ h.task, h.rd.past (by omega) (by omega) v, h.own.keep fun a ha => ?_, h.below.setCell (p := ⟨X + 1 + 1 + 1, i, none⟩) (show X ≤ X + 1 + 1 + 1 by omega) _, by simpa [World.setCell] using hs⟩
 subst ha
 have h1 := h.own.lt
 exact Below.heap_setCell _ _ _ _ (show a.block ≠ X + 1 + 1 + 1 by omega)
theorem RT.res6 {w0 w : World} {X : Nat} {cs : Array Value} {ws : List (List UInt8)} {bad : Bool} {A : Option Addr} {c : Nat} {l : List Int} (h : RT w0 w X cs ws bad A c l) : w.heap[X]? = some (.cells #[.string ⟨#[]⟩, .slice none 0 0, .int .i64 0, .int .i64 0, .int .i64 0, .string ⟨#[]⟩] 96 (0, 0)) := h.res
theorem drew_heap (w : World) (k : Nat) : w.drew.heap[k]? = w.heap[k]? := rfl
theorem S6.drew_at {w : World} {g : Nat} {a b c d e f : Value} {t : TypeId} (h : w.heap[g]? = some (.cells #[a, b, c, d, e, f] t (0, 0))) (v0 v1 v2 v3 v4 v5 : Value) : (S6 w g v0 v1 v2 v3 v4 v5).drew.heap[g]? = some (.cells #[v0, v1, v2, v3, v4, v5] t (0, 0)) := by
 rw [drew_heap]
 exact S6.at_ h v0 v1 v2 v3 v4 v5
theorem S6.drew_else (w : World) (g : Nat) (v0 v1 v2 v3 v4 v5 : Value) {k : Nat} (hk : k ≠ g) : (S6 w g v0 v1 v2 v3 v4 v5).drew.heap[k]? = w.heap[k]? := by
 rw [drew_heap]
 exact S6.else_ w g v0 v1 v2 v3 v4 v5 hk
def TaskG (w : World) (p : Df.Task × Bool) (e : Ending) (w' : World) : Prop :=
 ∃ A c, e = .returned (.tuple #[tv p.1 A c, .bool p.2]) ∧ Hid (OwnZ w' w.heap.size A c p.1.after) ∧ Hid (Below w.heap.size w w')
set_option maxRecDepth 100000 in
set_option maxHeartbeats 8000000 in
theorem readTask_any (tx : List UInt8) (htx : tx.length ≤ 1024) (nms : List (List UInt8)) (A : Option Addr) (n cap : Nat) (hn : n = nms.length) (hl : nms.length ≤ 1100) (w : World) (hN : Strs w w.heap.size A (nms.map str)) :
  Calls Tryz.prog 92 #[.string (str tx), .slice A n cap] w (TaskG w (Df.rt nms (Tx.split 32 tx))) := by
 have NS := Lib.hid hN
 have SP := Lib.hid (split_at (str tx) 32 (by rw [str_size]; omega))
 rw [str_data] at SP
 have WL := split_len 32 tx
 have WP := split_piece 32 tx
 obtain ⟨x, r, hxr⟩ : ∃ x r, Tx.split 32 tx = x :: r := by
  cases h : Tx.split 32 tx with
  | nil => exact absurd h (Tx.split_ne 32 tx)
  | cons x r => exact ⟨x, r, rfl⟩
 rw [hxr] at WL WP SP ⊢
 have XL : Hid (x.length ≤ 1100) := Lib.hid (by have := WP x (by simp); omega)
 have SM0 : Hid (Sm r) := Lib.hid ⟨by simp only [List.length_cons] at WL; omega, fun t ht => by have := WP t (List.mem_cons_of_mem _ ht); omega⟩
 have AF : Hid (∀ g B bad W, Rd W g B r bad → Below w.heap.size w W → w.heap.size ≤ B → B ≤ W.heap.size → Calls Tryz.prog 115 #[.pointer (some ⟨g, 0, none⟩), .slice A n cap] W (AftG W g B (Df.opt Df.kA r).2 (Df.afterL nms (Df.opt Df.kA r).1) (bad || Df.neg (Df.afterL nms (Df.opt Df.kA r).1)))) := Lib.hid fun g B bad W hr hW hB hB2 => by
  refine afterR_any g B r bad nms A n cap hn hl W SM0.out hr ?_ hB2
  have hs := NS.out.below hW
  exact ⟨hs.1, fun hp => by
   obtain ⟨b, off, e, hlt, hc⟩ := hs.2 hp
   exact ⟨b, off, e, Nat.lt_of_lt_of_le hlt hB, hc⟩⟩
 unfold Df.rt
 simp only [List.tail_cons, List.headD_cons]
 have SM1 := Lib.hid (Df.opt_sm (key := Df.kA) SM0.out).1
 generalize Df.opt Df.kA r = oa at *
 have RR := Lib.hid fun g B bad W h => numberR_any g B oa.2 bad Df.kR 0 W SM1.out h
 have SM2 := Lib.hid (Df.opt_sm (key := Df.kR) SM1.out).1
 generalize Df.opt Df.kR oa.2 = or_ at *
 have RQ := Lib.hid fun g B bad W h => numberR_any g B or_.2 bad Df.kW 10 W SM2.out h
 have SM3 := Lib.hid (Df.opt_sm (key := Df.kW) SM2.out).1
 generalize Df.opt Df.kW or_.2 = oq at *
 have RB := Lib.hid fun g B bad W h => numberR_any g B oq.2 bad Df.kB 1 W SM3.out h
 have SM4 := Lib.hid (Df.opt_sm (key := Df.kB) SM3.out).1
 generalize Df.opt Df.kB oq.2 = ob at *
 have RO := Lib.hid fun g B bad W h => onR_any g B ob.2 bad W SM4.out h
 generalize Df.opt Df.kO ob.2 = oo at *
 rw [show str Df.kR = ⟨#[114, 101, 116, 114, 121, 61]⟩ from rfl, show ((0 : Nat) : Int) = (0 : Int) from rfl] at RR
 rw [show str Df.kW = ⟨#[119, 97, 105, 116, 61]⟩ from rfl, show ((10 : Nat) : Int) = (10 : Int) from rfl] at RQ
 rw [show str Df.kB = ⟨#[98, 97, 115, 101, 61]⟩ from rfl, show ((1 : Nat) : Int) = (1 : Int) from rfl] at RB
 generalize Df.afterL nms oa.1 = la at *
 generalize Df.numI 0 or_.1 = xr at *
 generalize Df.numI 10 oq.1 = xq at *
 generalize Df.numI 1 ob.1 = xb at *
 generalize oo.1.getD [] = xo at *
 obtain ⟨b1, hb1⟩ : ∃ b, b = (false || Df.neg la) := ⟨_, rfl⟩
 obtain ⟨b2, hb2⟩ : ∃ b, b = (b1 || Df.numB or_.1) := ⟨_, rfl⟩
 obtain ⟨b3, hb3⟩ : ∃ b, b = (b2 || Df.numB oq.1) := ⟨_, rfl⟩
 obtain ⟨b4, hb4⟩ : ∃ b, b = (b3 || Df.numB ob.1) := ⟨_, rfl⟩
 obtain ⟨b5, hb5⟩ : ∃ b, b = (b4 || Df.onBad oo.1) := ⟨_, rfl⟩
 have AF : Hid (∀ g B W, Rd W g B r false → Below w.heap.size w W → w.heap.size ≤ B → B ≤ W.heap.size → Calls Tryz.prog 115 #[.pointer (some ⟨g, 0, none⟩), .slice A n cap] W (AftG W g B oa.2 la b1)) := Lib.hid fun g B W h1 h2 h3 h4 => by have := AF.out g B false W h1 h2 h3 h4; rwa [← hb1] at this
 have RR : Hid (∀ g B W, Rd W g B oa.2 b1 → Calls Tryz.prog 116 #[.pointer (some ⟨g, 0, none⟩), .string ⟨#[114, 101, 116, 114, 121, 61]⟩, .int .i64 0] W (NumR W g B or_.2 xr b2)) := Lib.hid fun g B W h => by have := RR.out g B b1 W h; rwa [← hb2] at this
 have RQ : Hid (∀ g B W, Rd W g B or_.2 b2 → Calls Tryz.prog 116 #[.pointer (some ⟨g, 0, none⟩), .string ⟨#[119, 97, 105, 116, 61]⟩, .int .i64 10] W (NumR W g B oq.2 xq b3)) := Lib.hid fun g B W h => by have := RQ.out g B b2 W h; rwa [← hb3] at this
 have RB : Hid (∀ g B W, Rd W g B oq.2 b3 → Calls Tryz.prog 116 #[.pointer (some ⟨g, 0, none⟩), .string ⟨#[98, 97, 115, 101, 61]⟩, .int .i64 1] W (NumR W g B ob.2 xb b4)) := Lib.hid fun g B W h => by have := RB.out g B b3 W h; rwa [← hb4] at this
 have RO : Hid (∀ g B W, Rd W g B ob.2 b4 → Calls Tryz.prog 117 #[.pointer (some ⟨g, 0, none⟩)] W (StrR W g B oo.2 xo b5)) := Lib.hid fun g B W h => by have := RO.out g B b4 W h; rwa [← hb5] at this
 rw [← hb1, ← hb2, ← hb3, ← hb4, ← hb5]
 generalize oa.2 = wa at *
 generalize or_.2 = wr_ at *
 generalize oq.2 = wq at *
 generalize ob.2 = wb at *
 generalize oo.2 = wo at *
 obtain ⟨ln, hln⟩ : ∃ ln, ln = r.length := ⟨_, rfl⟩
 have HLN := Lib.hid hln
 have ln9 : ln ≤ 1100 := by rw [hln]; exact SM0.out.1
 obtain ⟨sx, hsx⟩ : ∃ s, s = str x := ⟨_, rfl⟩
 have SX := Lib.hid hsx
 obtain ⟨st, hst⟩ : ∃ s, s = str tx := ⟨_, rfl⟩
 rw [← hst] at SP ⊢
 rw [List.length_cons, ← hln] at SP
 clear hb1 hb2 hb3 hb4 hb5 hxr WL WP hN hn hl htx hln hsx hst SM1 SM2 SM3 SM4
 obtain ⟨X, hX⟩ : ∃ X, X = w.heap.size := ⟨_, rfl⟩
 have HX := Lib.hid hX
 obtain ⟨W1, hW1⟩ : ∃ W1, W1 = w.alloc (.cells #[.string ⟨#[]⟩, .slice none 0 0, .int .i64 0, .int .i64 0, .int .i64 0, .string ⟨#[]⟩] 96) := ⟨_, rfl⟩
 have Z1 : Hid (W1.heap.size = X + 1) := Lib.hid (by rw [hW1, hX]; simp)
 have P1 : Hid (W1.heap[X]? = some (.cells zeroTask 96 (0, 0))) := Lib.hid (by rw [hW1, hX]; exact heap_alloc_new ..)
 have B1 : Hid (Below X w W1) := Lib.hid (by rw [hW1, hX]; exact (Below.refl _ _).alloc (Nat.le_refl _) _)
 have hsl : ∀ W, (Instr.slice 39 (.slice (some ⟨X + 1, 0, none⟩) (ln + 1) (ln + 1)) (some (.int .i64 1)) none none).run Tryz.prog W = .ok (.slice (tailA (some ⟨X + 1, 0, none⟩) (ln + 1) 1) ln ln) W := slice_fromT (some ⟨X + 1, 0, none⟩) (ln + 1) (ln + 1) 1 (by omega) .i64
 go_enter Tryz.func92, Tryz.ntmps92
 go_upto_region 1 with fail
 rw [← hW1, ← hX]
 clear hW1 hX
 go_wp2_with fail
 (with_reducible refine (SP.out _).mono ?_); rintro e w2 ⟨rfl, hw2⟩
 rw [Z1.out]
 have Z2 : Hid (w2.heap.size = X + 1 + 1) := Lib.hid (by rw [hw2, World.size_alloc, Z1.out])
 have B2 : Hid (Below (X + 1) W1 w2) := Lib.hid (by rw [hw2]; exact (Below.refl _ _).alloc (by rw [Z1.out]; exact Nat.le_refl _) _)
 have O2 : Hid (OwnT w2 (X + 1) (some ⟨X + 1, 0, none⟩) (ln + 1) ((x :: r).map str)) := Lib.hid (by
  rw [hw2]
  have h1 := OwnT.lit W1 ((x :: r).map str) (by have := SM0.out.1; simp; omega) (((x :: r).map str).map Value.string).toArray (by simp)
  rw [Z1.out] at h1
  have e : ((x :: r).map str).length = ln + 1 := by simp [HLN.out]
  rwa [e] at h1)
 have cx : w2.cell? ⟨X + 1, 0, none⟩ = some (.string sx) := by have := O2.out.val (i := 0) (by simp); rw [SX.out]; exact this
 have S2 := O2.out.strs2 (by
  intro t ht
  rcases List.mem_cons.1 ht with rfl | ht
  ·exact XL.out
  ·exact SM0.out.2 t ht)
 have T2 : Hid (Strs w2 (X + 1 + 1) (tailA (some ⟨X + 1, 0, none⟩) (ln + 1) 1) (r.map str)) := Lib.hid (Strs.tail S2 (ln + 1) (by simp [HLN.out]))
 clear hw2 S2
 obtain ⟨At, hAt⟩ : ∃ At, At = tailA (some ⟨X + 1, 0, none⟩) (ln + 1) 1 := ⟨_, rfl⟩
 rw [← hAt] at T2 hsl
 obtain ⟨W3, hW3⟩ : ∃ W3, W3 = w2.alloc (.cells #[.slice At ln ln, .bool false] 177) := ⟨_, rfl⟩
 obtain ⟨W4, hW4⟩ : ∃ W4, W4 = W3.alloc (.cells #[.string sx, .slice none 0 0, .int .i64 0, .int .i64 0, .int .i64 0, .string ⟨#[]⟩] 96) := ⟨_, rfl⟩
 have Z3 : Hid (W3.heap.size = X + 1 + 1 + 1) := Lib.hid (by rw [hW3, World.size_alloc, Z2.out])
 have Z4 : Hid (W4.heap.size = X + 1 + 1 + 1 + 1) := Lib.hid (by rw [hW4, World.size_alloc, Z3.out])
 have B3 : Hid (Below (X + 1 + 1) w2 W3) := Lib.hid (by rw [hW3]; exact (Below.refl _ _).alloc (by rw [Z2.out]; exact Nat.le_refl _) _)
 have B4 : Hid (Below (X + 1 + 1 + 1) W3 W4) := Lib.hid (by rw [hW4]; exact (Below.refl _ _).alloc (by rw [Z3.out]; exact Nat.le_refl _) _)
 have cx3 : W3.cell? ⟨X + 1, 0, none⟩ = some (.string sx) := (B3.out.cell (p := ⟨X + 1, 0, none⟩) (show X + 1 < X + 1 + 1 by omega)).trans cx
 have Q0 : Hid (RT w W4 X #[.string sx, .slice none 0 0, .int .i64 0, .int .i64 0, .int .i64 0, .string ⟨#[]⟩] r false none 0 []) := Lib.hid (by
  refine ⟨?_, ?_, ⟨At, ln, ?_, (T2.out.below (B3.out)).below (B4.out.mono (by omega)), Nat.le_of_eq HLN.out.symm, Nat.le_refl _⟩, OwnZ.none_ _ _, ?_, Nat.le_of_eq Z4.out.symm⟩
  ·exact (B4.out.block _ (by omega)).trans ((B3.out.block _ (by omega)).trans ((B2.out.block _ (by omega)).trans P1.out))
  ·rw [hW4, ← Z3.out]; exact heap_alloc_new ..
  ·refine (B4.out.block _ (by omega)).trans ?_
   rw [hW3, ← Z2.out, HLN.out]; exact heap_alloc_new ..
  ·exact B1.out.trans ((B2.out.mono (by omega)).trans ((B3.out.mono (by omega)).trans (B4.out.mono (by omega)))))
 have K3 := Lib.hid hW3
 have K4 := Lib.hid hW4
 clear hW3 hW4 hAt
 go_upto_region 3 with fail
 rw [Z2.out, ← K3.out]
 clear cx
 go_upto_region 4 with fail
 rw [Z3.out, ← K4.out]
 clear cx3 hsl O2 T2
 go_wp2_with fail
 (with_reducible refine (AF.out (X + 1 + 1) (X + 1 + 1) W4 Q0.out.rd (by rw [← HX.out]; exact Q0.out.below) (by rw [← HX.out]; omega) (by have := Q0.out.size; omega)).mono ?_); rintro e w5 ⟨A5, c5, rfl, o5, r5, d5⟩
 have Q01 := Lib.hid (Q0.out.callA d5.out r5.out o5.out)
 clear o5 r5 d5 Q0
 have y := ob6 Q01.out.task
 have yf := ob6f Q01.out.task
 obtain ⟨y0, y1, y2, y3, y4, y5⟩ := y
 obtain ⟨f0, f1, f2, f3, f4, f5⟩ := yf
 obtain ⟨V1, hV1⟩ : ∃ V, V = w5.setCell ⟨X + 1 + 1 + 1, 1, none⟩ (.slice A5 la.length c5) := ⟨_, rfl⟩
 have K1 := Lib.hid hV1
 have Q1 : Hid (RT w V1 X #[.string sx, .slice A5 la.length c5, .int .i64 0, .int .i64 0, .int .i64 0, .string ⟨#[]⟩] wa b1 A5 c5 la) := Lib.hid (by rw [hV1]; exact Q01.out.put 1 _)
 clear hV1
 go_upto_region 5 with fail
 rw [← K1.out]
 clear y0 y1 y2 y3 y4 y5 f0 f1 f2 f3 f4 f5 Q01
 go_wp2_with fail
 (with_reducible refine (RR.out _ _ _ Q1.out.rd).mono ?_); rintro e u2 ⟨rfl, r2, d2⟩
 have Q02 := Lib.hid (Q1.out.call d2.out r2.out)
 clear r2 d2 Q1
 have y := ob6 Q02.out.task
 have yf := ob6f Q02.out.task
 obtain ⟨y0, y1, y2, y3, y4, y5⟩ := y
 obtain ⟨f0, f1, f2, f3, f4, f5⟩ := yf
 obtain ⟨V2, hV2⟩ : ∃ V, V = u2.setCell ⟨X + 1 + 1 + 1, 2, none⟩ (.int .i64 xr) := ⟨_, rfl⟩
 have K2 := Lib.hid hV2
 have Q2 : Hid (RT w V2 X #[.string sx, .slice A5 la.length c5, .int .i64 xr, .int .i64 0, .int .i64 0, .string ⟨#[]⟩] wr_ b2 A5 c5 la) := Lib.hid (by rw [hV2]; exact Q02.out.put 2 _)
 clear hV2
 go_upto_region 6 with fail
 rw [← K2.out]
 clear y0 y1 y2 y3 y4 y5 f0 f1 f2 f3 f4 f5 Q02
 go_wp2_with fail
 (with_reducible refine (RQ.out _ _ _ Q2.out.rd).mono ?_); rintro e u3 ⟨rfl, r3, d3⟩
 have Q03 := Lib.hid (Q2.out.call d3.out r3.out)
 clear r3 d3 Q2
 have y := ob6 Q03.out.task
 have yf := ob6f Q03.out.task
 obtain ⟨y0, y1, y2, y3, y4, y5⟩ := y
 obtain ⟨f0, f1, f2, f3, f4, f5⟩ := yf
 obtain ⟨V3, hV3⟩ : ∃ V, V = u3.setCell ⟨X + 1 + 1 + 1, 3, none⟩ (.int .i64 xq) := ⟨_, rfl⟩
 have K3 := Lib.hid hV3
 have Q3 : Hid (RT w V3 X #[.string sx, .slice A5 la.length c5, .int .i64 xr, .int .i64 xq, .int .i64 0, .string ⟨#[]⟩] wq b3 A5 c5 la) := Lib.hid (by rw [hV3]; exact Q03.out.put 3 _)
 clear hV3
 go_upto_region 7 with fail
 rw [← K3.out]
 clear y0 y1 y2 y3 y4 y5 f0 f1 f2 f3 f4 f5 Q03
 go_wp2_with fail
 (with_reducible refine (RB.out _ _ _ Q3.out.rd).mono ?_); rintro e u4 ⟨rfl, r4, d4⟩
 have Q04 := Lib.hid (Q3.out.call d4.out r4.out)
 clear r4 d4 Q3
 have y := ob6 Q04.out.task
 have yf := ob6f Q04.out.task
 obtain ⟨y0, y1, y2, y3, y4, y5⟩ := y
 obtain ⟨f0, f1, f2, f3, f4, f5⟩ := yf
 obtain ⟨V4, hV4⟩ : ∃ V, V = u4.setCell ⟨X + 1 + 1 + 1, 4, none⟩ (.int .i64 xb) := ⟨_, rfl⟩
 have K4 := Lib.hid hV4
 have Q4 : Hid (RT w V4 X #[.string sx, .slice A5 la.length c5, .int .i64 xr, .int .i64 xq, .int .i64 xb, .string ⟨#[]⟩] wb b4 A5 c5 la) := Lib.hid (by rw [hV4]; exact Q04.out.put 4 _)
 clear hV4
 go_upto_region 8 with fail
 rw [← K4.out]
 clear y0 y1 y2 y3 y4 y5 f0 f1 f2 f3 f4 f5 Q04
 go_wp2_with fail
 (with_reducible refine (RO.out _ _ _ Q4.out.rd).mono ?_); rintro e u5 ⟨rfl, r5, d5⟩
 have Q05 := Lib.hid (Q4.out.call d5.out r5.out)
 clear r5 d5 Q4
 have y := ob6 Q05.out.task
 have yf := ob6f Q05.out.task
 obtain ⟨y0, y1, y2, y3, y4, y5⟩ := y
 obtain ⟨f0, f1, f2, f3, f4, f5⟩ := yf
 obtain ⟨V5, hV5⟩ : ∃ V, V = u5.setCell ⟨X + 1 + 1 + 1, 5, none⟩ (.string (str xo)) := ⟨_, rfl⟩
 have K5 := Lib.hid hV5
 have Q5 : Hid (RT w V5 X #[.string sx, .slice A5 la.length c5, .int .i64 xr, .int .i64 xq, .int .i64 xb, .string (str xo)] wo b5 A5 c5 la) := Lib.hid (by rw [hV5]; exact Q05.out.put 5 _)
 clear hV5
 go_upto_region 9 with fail
 rw [← K5.out]
 clear y0 y1 y2 y3 y4 y5 f0 f1 f2 f3 f4 f5 Q05
 obtain ⟨sxo, hsxo⟩ : ∃ s, s = str xo := ⟨_, rfl⟩
 rw [← hsxo] at Q5 ⊢
 have SXO := Lib.hid hsxo
 obtain ⟨lal, hlal⟩ : ∃ m, m = la.length := ⟨_, rfl⟩
 rw [← hlal] at Q5 ⊢
 have LAL := Lib.hid hlal
 obtain ⟨L, hL⟩ : ∃ L, L = wo.length := ⟨_, rfl⟩
 have HLL := Lib.hid hL
 obtain ⟨Aw, cw, hrb, -⟩ := Q5.out.rd
 rw [← hL] at hrb
 have RB5 := Lib.hid hrb
 clear hsxo hlal hL hrb
 have SM : Hid (∀ W : World, W.heap[X + 1 + 1 + 1]? = some (.cells #[.string sx, .slice A5 lal c5, .int .i64 xr, .int .i64 xq, .int .i64 xb, .string sxo] 96 (0, 0)) → W.heap[X + 1 + 1]? = some (.cells #[.slice Aw L cw, .bool b5] 177 (0, 0)) →
   W.cell? ⟨X + 1 + 1 + 1, 0, none⟩ = some (.string sx) ∧ W.cell? ⟨X + 1 + 1 + 1, 1, none⟩ = some (.slice A5 lal c5) ∧ W.cell? ⟨X + 1 + 1 + 1, 2, none⟩ = some (.int .i64 xr) ∧ W.cell? ⟨X + 1 + 1 + 1, 3, none⟩ = some (.int .i64 xq) ∧ W.cell? ⟨X + 1 + 1 + 1, 4, none⟩ = some (.int .i64 xb) ∧ W.cell? ⟨X + 1 + 1 + 1, 5, none⟩ = some (.string sxo) ∧
    W.cell? ⟨X + 1 + 1, 0, none⟩ = some (.slice Aw L cw) ∧ W.cell? ⟨X + 1 + 1, 1, none⟩ = some (.bool b5)) := Lib.hid fun W h1 h2 => by
  obtain ⟨y0, y1, y2, y3, y4, y5⟩ := ob6 h1
  exact ⟨y0, y1, y2, y3, y4, y5, (obG h2).1.1, (obG h2).1.2⟩
 obtain ⟨W9, hW9⟩ : ∃ W9, W9 = (S6 V5 X (.string sx) (.slice A5 lal c5) (.int .i64 xr) (.int .i64 xq) (.int .i64 xb) (.string sxo)).drew := ⟨_, rfl⟩
 have K9 : Hid (W9 = ((((((V5.setCell ⟨X, 0, none⟩ (.string sx)).setCell ⟨X, 1, none⟩ (.slice A5 lal c5)).setCell ⟨X, 2, none⟩ (.int .i64 xr)).setCell ⟨X, 3, none⟩ (.int .i64 xq)).setCell ⟨X, 4, none⟩ (.int .i64 xb)).setCell ⟨X, 5, none⟩ (.string sxo)).drew) := Lib.hid hW9
 have R9 : Hid (W9.heap[X]? = some (.cells #[.string sx, .slice A5 lal c5, .int .i64 xr, .int .i64 xq, .int .i64 xb, .string sxo] 96 (0, 0))) := Lib.hid (by rw [hW9]; exact S6.drew_at Q5.out.res6 _ _ _ _ _ _)
 have E9 : Hid (∀ k, k ≠ X → W9.heap[k]? = V5.heap[k]?) := Lib.hid fun k hk => by rw [hW9]; exact S6.drew_else V5 X _ _ _ _ _ _ hk
 have B9 : Hid (Below X w W9) := Lib.hid (by rw [hW9]; exact (S6.below Q5.out.below (Nat.le_refl X) _ _ _ _ _ _).drew)
 have O9 : Hid (OwnZ W9 w.heap.size A5 c5 la) := Lib.hid ((Q5.out.own.keep fun a ha => by subst ha; exact E9.out _ (by have := Q5.out.own.lt; omega)).low (by rw [← HX.out]; omega))
 have FZ := Lib.hid (ob6f (w := V5) Q5.out.res6)
 have YZ := Lib.hid (ob6 (w := V5) Q5.out.res6)
 have T5 := Lib.hid Q5.out.task
 have S9 := Lib.hid (SM.out W9 ((E9.out _ (by omega)).trans T5.out) ((E9.out _ (by omega)).trans RB5.out))
 have FIN : Hid (∀ b : Bool, b = (!b5 && wo.isEmpty) → TaskG w (⟨x, la, xr, xq, xb, xo⟩, !b5 && wo.isEmpty) (.returned (.tuple #[.agg #[.string sx, .slice A5 lal c5, .int .i64 xr, .int .i64 xq, .int .i64 xb, .string sxo], .bool b])) W9) := Lib.hid fun b hb => ⟨A5, c5, by
  rw [hb, SX.out, LAL.out, SXO.out]; rfl, O9, Lib.hid (by rw [← HX.out]; exact B9.out)⟩
 clear hW9 Q5 O9
 cases b5 with
 | true =>
  have BV := FIN.out false (by rfl)
  refine wp_region_held_drew (S := fun w' => w'.cell? ⟨X + 1 + 1 + 1, 0, none⟩ = some (.string sx) ∧ w'.cell? ⟨X + 1 + 1 + 1, 1, none⟩ = some (.slice A5 lal c5) ∧ w'.cell? ⟨X + 1 + 1 + 1, 2, none⟩ = some (.int .i64 xr) ∧ w'.cell? ⟨X + 1 + 1 + 1, 3, none⟩ = some (.int .i64 xq) ∧ w'.cell? ⟨X + 1 + 1 + 1, 4, none⟩ = some (.int .i64 xb) ∧ w'.cell? ⟨X + 1 + 1 + 1, 5, none⟩ = some (.string sxo) ∧ w'.cell? ⟨X + 1 + 1, 0, none⟩ = some (.slice Aw L cw) ∧ w'.cell? ⟨X + 1 + 1, 1, none⟩ = some (.bool true)) (by kernel_rfl) ?hS0 (fun hHeld => ?_)
  case hS0 => exact SM.out V5.drew T5.out RB5.out
  refine wpAnyH_take (i := 0) (oi := ?o1001) (v := ?v1001) ?hi1001 (by kernel_rfl) (by kernel_rfl) (by kernel_rfl) ?hQ1001 (Or.inl ⟨?hg1001, ?hy1001⟩) (by assumption) ?rest1001
  case hi1001 => (simp only [List.getElem?_toArray, List.getElem?_cons_zero]; exact rfl)
  case hQ1001 => exact fun _ _ _ h => h
  case hg1001 => rfl
  case hy1001 => (intro w' hSw; (try dsimp only at hSw); go_simp; try with_reducible rfl)
  try simp only [Act.put, List.setIfInBounds_toArray, List.set_cons_zero, List.set_cons_succ]
  refine wpAnyH_take (i := 1) (oi := ?o1002) (v := ?v1002) ?hi1002 (by kernel_rfl) (by kernel_rfl) (by kernel_rfl) ?hQ1002 (Or.inl ⟨?hg1002, ?hy1002⟩) (by assumption) ?rest1002
  case hi1002 => (simp only [List.getElem?_toArray, List.getElem?_cons_zero, List.getElem?_cons_succ]; exact rfl)
  case hQ1002 => exact fun _ _ _ h => h
  case hg1002 => rfl
  case hy1002 => (intro w' hSw; (try dsimp only at hSw); go_simp; try with_reducible rfl)
  try simp only [Act.put, List.setIfInBounds_toArray, List.set_cons_zero, List.set_cons_succ]
  refine wpAnyH_take (i := 2) (oi := ?o1003) (v := ?v1003) ?hi1003 (by kernel_rfl) (by kernel_rfl) (by kernel_rfl) ?hQ1003 (Or.inl ⟨?hg1003, ?hy1003⟩) (by assumption) ?rest1003
  case hi1003 => (simp only [List.getElem?_toArray, List.getElem?_cons_zero, List.getElem?_cons_succ]; exact rfl)
  case hQ1003 => exact fun _ _ _ h => h
  case hg1003 => rfl
  case hy1003 => (intro w' hSw; (try dsimp only at hSw); go_simp; try with_reducible rfl)
  try simp only [Act.put, List.setIfInBounds_toArray, List.set_cons_zero, List.set_cons_succ]
  refine wpAnyH_take (i := 3) (oi := ?o1004) (v := ?v1004) ?hi1004 (by kernel_rfl) (by kernel_rfl) (by kernel_rfl) ?hQ1004 (Or.inl ⟨?hg1004, ?hy1004⟩) (by assumption) ?rest1004
  case hi1004 => (simp only [List.getElem?_toArray, List.getElem?_cons_zero, List.getElem?_cons_succ]; exact rfl)
  case hQ1004 => exact fun _ _ _ h => h
  case hg1004 => rfl
  case hy1004 => (intro w' hSw; (try dsimp only at hSw); go_simp; try with_reducible rfl)
  try simp only [Act.put, List.setIfInBounds_toArray, List.set_cons_zero, List.set_cons_succ]
  refine wpAnyH_take (i := 4) (oi := ?o1005) (v := ?v1005) ?hi1005 (by kernel_rfl) (by kernel_rfl) (by kernel_rfl) ?hQ1005 (Or.inl ⟨?hg1005, ?hy1005⟩) (by assumption) ?rest1005
  case hi1005 => (simp only [List.getElem?_toArray, List.getElem?_cons_zero, List.getElem?_cons_succ]; exact rfl)
  case hQ1005 => exact fun _ _ _ h => h
  case hg1005 => rfl
  case hy1005 => (intro w' hSw; (try dsimp only at hSw); go_simp; try with_reducible rfl)
  try simp only [Act.put, List.setIfInBounds_toArray, List.set_cons_zero, List.set_cons_succ]
  refine wpAnyH_take (i := 5) (oi := ?o1006) (v := undef) ?hi1006 (by kernel_rfl) (by kernel_rfl) (by kernel_rfl) ?hQ1006 (Or.inr ⟨?hg1006, rfl⟩) (by assumption) ?rest1006
  case hi1006 => (simp only [List.getElem?_toArray, List.getElem?_cons_zero, List.getElem?_cons_succ]; exact rfl)
  case hQ1006 => exact fun _ _ _ h => h
  case hg1006 => rfl
  try simp only [Act.put, List.setIfInBounds_toArray, List.set_cons_zero, List.set_cons_succ]
  refine wpAnyH_take (i := 6) (oi := ?o1007) (v := undef) ?hi1007 (by kernel_rfl) (by kernel_rfl) (by kernel_rfl) ?hQ1007 (Or.inr ⟨?hg1007, rfl⟩) (by assumption) ?rest1007
  case hi1007 => (simp only [List.getElem?_toArray, List.getElem?_cons_zero, List.getElem?_cons_succ]; exact rfl)
  case hQ1007 => exact fun _ _ _ h => h
  case hg1007 => rfl
  try simp only [Act.put, List.setIfInBounds_toArray, List.set_cons_zero, List.set_cons_succ]
  refine wpAnyH_take (i := 7) (oi := ?o1008) (v := undef) ?hi1008 (by kernel_rfl) (by kernel_rfl) (by kernel_rfl) ?hQ1008 (Or.inr ⟨?hg1008, rfl⟩) (by assumption) ?rest1008
  case hi1008 => (simp only [List.getElem?_toArray, List.getElem?_cons_zero, List.getElem?_cons_succ]; exact rfl)
  case hQ1008 => exact fun _ _ _ h => h
  case hg1008 => rfl
  try simp only [Act.put, List.setIfInBounds_toArray, List.set_cons_zero, List.set_cons_succ]
  refine wpAnyH_take (i := 8) (oi := ?o1009) (v := undef) ?hi1009 (by kernel_rfl) (by kernel_rfl) (by kernel_rfl) ?hQ1009 (Or.inr ⟨?hg1009, rfl⟩) (by assumption) ?rest1009
  case hi1009 => (simp only [List.getElem?_toArray, List.getElem?_cons_zero, List.getElem?_cons_succ]; exact rfl)
  case hQ1009 => exact fun _ _ _ h => h
  case hg1009 => rfl
  try simp only [Act.put, List.setIfInBounds_toArray, List.set_cons_zero, List.set_cons_succ]
  refine wpAnyH_take (i := 9) (oi := ?o1010) (v := ?v1010) ?hi1010 (by kernel_rfl) (by kernel_rfl) (by kernel_rfl) ?hQ1010 (Or.inl ⟨?hg1010, ?hy1010⟩) (by assumption) ?rest1010
  case hi1010 => (simp only [List.getElem?_toArray, List.getElem?_cons_zero, List.getElem?_cons_succ]; exact rfl)
  case hQ1010 => exact fun _ _ _ h => h
  case hg1010 => rfl
  case hy1010 => (intro w' hSw; (try dsimp only at hSw); go_simp; try with_reducible rfl)
  try simp only [Act.put, List.setIfInBounds_toArray, List.set_cons_zero, List.set_cons_succ]
  refine wpAnyH_ready (rs := [10]) (by kernel_rfl) (by simp) ?_
  refine AllReadyH.cons (o := ?o1011) ?hi1011 (fun K hK => ?_) AllReadyH.nil
  case hi1011 => (simp only [List.getElem?_toArray, List.getElem?_cons_zero, List.getElem?_cons_succ]; exact rfl)
  (obtain ⟨f0, f1, f2, f3, f4, f5⟩ := FZ.out; obtain ⟨y0, y1, y2, y3, y4, y5⟩ := YZ.out; go_simp; rw [← K9.out])
  refine hK.out _ _ ?_ (fun hHeld => ?_)
  ·exact S9.out
  clear hK K
  try simp only [Act.put, List.setIfInBounds_toArray, List.set_cons_zero, List.set_cons_succ]
  refine wpAnyH_take (i := 11) (oi := ?o1012) (v := ?v1012) ?hi1012 (by kernel_rfl) (by kernel_rfl) (by kernel_rfl) ?hQ1012 (Or.inl ⟨?hg1012, ?hy1012⟩) (by assumption) ?rest1012
  case hi1012 => (simp only [List.getElem?_toArray, List.getElem?_cons_zero, List.getElem?_cons_succ]; exact rfl)
  case hQ1012 => exact fun _ _ _ h => h
  case hg1012 => rfl
  case hy1012 => (intro w' hSw; (try dsimp only at hSw); go_simp; try with_reducible rfl)
  try simp only [Act.put, List.setIfInBounds_toArray, List.set_cons_zero, List.set_cons_succ]
  refine wpAnyH_done (by kernel_rfl) ?_ _
  obtain ⟨y0, y1, y2, y3, y4, y5⟩ := ob6 R9.out
  go_wp2
  exact bodyPost_ret (v := .tuple #[.agg #[.string sx, .slice A5 lal c5, .int .i64 xr, .int .i64 xq, .int .i64 xb, .string sxo], .bool false]) (by simp [results, Tryz.results92, go_sem, y0, y1, y2, y3, y4, y5]) rfl BV
 | false =>
  cases hwo : wo.isEmpty with
  | true =>
   have BV := FIN.out true (by rw [hwo]; rfl)
   have L0 : L = 0 := by rw [HLL.out, List.isEmpty_iff.1 hwo]; rfl
   have hd : ((L : Int) == 0) = true := by rw [L0]; rfl
   clear L0
   refine wp_region_held_drew (S := fun w' => w'.cell? ⟨X + 1 + 1 + 1, 0, none⟩ = some (.string sx) ∧ w'.cell? ⟨X + 1 + 1 + 1, 1, none⟩ = some (.slice A5 lal c5) ∧ w'.cell? ⟨X + 1 + 1 + 1, 2, none⟩ = some (.int .i64 xr) ∧ w'.cell? ⟨X + 1 + 1 + 1, 3, none⟩ = some (.int .i64 xq) ∧ w'.cell? ⟨X + 1 + 1 + 1, 4, none⟩ = some (.int .i64 xb) ∧ w'.cell? ⟨X + 1 + 1 + 1, 5, none⟩ = some (.string sxo) ∧ w'.cell? ⟨X + 1 + 1, 0, none⟩ = some (.slice Aw L cw) ∧ w'.cell? ⟨X + 1 + 1, 1, none⟩ = some (.bool false)) (by kernel_rfl) ?hS0 (fun hHeld => ?_)
   case hS0 => exact SM.out V5.drew T5.out RB5.out
   refine wpAnyH_take (i := 0) (oi := ?o1013) (v := ?v1013) ?hi1013 (by kernel_rfl) (by kernel_rfl) (by kernel_rfl) ?hQ1013 (Or.inl ⟨?hg1013, ?hy1013⟩) (by assumption) ?rest1013
   case hi1013 => (simp only [List.getElem?_toArray, List.getElem?_cons_zero]; exact rfl)
   case hQ1013 => exact fun _ _ _ h => h
   case hg1013 => rfl
   case hy1013 => (intro w' hSw; (try dsimp only at hSw); go_simp; try with_reducible rfl)
   try simp only [Act.put, List.setIfInBounds_toArray, List.set_cons_zero, List.set_cons_succ]
   refine wpAnyH_take (i := 1) (oi := ?o1014) (v := ?v1014) ?hi1014 (by kernel_rfl) (by kernel_rfl) (by kernel_rfl) ?hQ1014 (Or.inl ⟨?hg1014, ?hy1014⟩) (by assumption) ?rest1014
   case hi1014 => (simp only [List.getElem?_toArray, List.getElem?_cons_zero, List.getElem?_cons_succ]; exact rfl)
   case hQ1014 => exact fun _ _ _ h => h
   case hg1014 => rfl
   case hy1014 => (intro w' hSw; (try dsimp only at hSw); go_simp; try with_reducible rfl)
   try simp only [Act.put, List.setIfInBounds_toArray, List.set_cons_zero, List.set_cons_succ]
   refine wpAnyH_take (i := 2) (oi := ?o1015) (v := ?v1015) ?hi1015 (by kernel_rfl) (by kernel_rfl) (by kernel_rfl) ?hQ1015 (Or.inl ⟨?hg1015, ?hy1015⟩) (by assumption) ?rest1015
   case hi1015 => (simp only [List.getElem?_toArray, List.getElem?_cons_zero, List.getElem?_cons_succ]; exact rfl)
   case hQ1015 => exact fun _ _ _ h => h
   case hg1015 => rfl
   case hy1015 => (intro w' hSw; (try dsimp only at hSw); go_simp; try with_reducible rfl)
   try simp only [Act.put, List.setIfInBounds_toArray, List.set_cons_zero, List.set_cons_succ]
   refine wpAnyH_take (i := 3) (oi := ?o1016) (v := ?v1016) ?hi1016 (by kernel_rfl) (by kernel_rfl) (by kernel_rfl) ?hQ1016 (Or.inl ⟨?hg1016, ?hy1016⟩) (by assumption) ?rest1016
   case hi1016 => (simp only [List.getElem?_toArray, List.getElem?_cons_zero, List.getElem?_cons_succ]; exact rfl)
   case hQ1016 => exact fun _ _ _ h => h
   case hg1016 => rfl
   case hy1016 => (intro w' hSw; (try dsimp only at hSw); go_simp; try with_reducible rfl)
   try simp only [Act.put, List.setIfInBounds_toArray, List.set_cons_zero, List.set_cons_succ]
   refine wpAnyH_take (i := 4) (oi := ?o1017) (v := ?v1017) ?hi1017 (by kernel_rfl) (by kernel_rfl) (by kernel_rfl) ?hQ1017 (Or.inl ⟨?hg1017, ?hy1017⟩) (by assumption) ?rest1017
   case hi1017 => (simp only [List.getElem?_toArray, List.getElem?_cons_zero, List.getElem?_cons_succ]; exact rfl)
   case hQ1017 => exact fun _ _ _ h => h
   case hg1017 => rfl
   case hy1017 => (intro w' hSw; (try dsimp only at hSw); go_simp; try with_reducible rfl)
   try simp only [Act.put, List.setIfInBounds_toArray, List.set_cons_zero, List.set_cons_succ]
   refine wpAnyH_take (i := 5) (oi := ?o1018) (v := ?v1018) ?hi1018 (by kernel_rfl) (by kernel_rfl) (by kernel_rfl) ?hQ1018 (Or.inl ⟨?hg1018, ?hy1018⟩) (by assumption) ?rest1018
   case hi1018 => (simp only [List.getElem?_toArray, List.getElem?_cons_zero, List.getElem?_cons_succ]; exact rfl)
   case hQ1018 => exact fun _ _ _ h => h
   case hg1018 => rfl
   case hy1018 => (intro w' hSw; (try dsimp only at hSw); go_simp; try with_reducible rfl)
   try simp only [Act.put, List.setIfInBounds_toArray, List.set_cons_zero, List.set_cons_succ]
   refine wpAnyH_take (i := 6) (oi := ?o1019) (v := ?v1019) ?hi1019 (by kernel_rfl) (by kernel_rfl) (by kernel_rfl) ?hQ1019 (Or.inl ⟨?hg1019, ?hy1019⟩) (by assumption) ?rest1019
   case hi1019 => (simp only [List.getElem?_toArray, List.getElem?_cons_zero, List.getElem?_cons_succ]; exact rfl)
   case hQ1019 => exact fun _ _ _ h => h
   case hg1019 => rfl
   case hy1019 => (intro w' hSw; (try dsimp only at hSw); go_simp; try with_reducible rfl)
   try simp only [Act.put, List.setIfInBounds_toArray, List.set_cons_zero, List.set_cons_succ]
   refine wpAnyH_take (i := 7) (oi := ?o1020) (v := ?v1020) ?hi1020 (by kernel_rfl) (by kernel_rfl) (by kernel_rfl) ?hQ1020 (Or.inl ⟨?hg1020, ?hy1020⟩) (by assumption) ?rest1020
   case hi1020 => (simp only [List.getElem?_toArray, List.getElem?_cons_zero, List.getElem?_cons_succ]; exact rfl)
   case hQ1020 => exact fun _ _ _ h => h
   case hg1020 => rfl
   case hy1020 => (intro w' hSw; (try dsimp only at hSw); go_simp; try with_reducible rfl)
   try simp only [Act.put, List.setIfInBounds_toArray, List.set_cons_zero, List.set_cons_succ]
   refine wpAnyH_take (i := 8) (oi := ?o1021) (v := ?v1021) ?hi1021 (by kernel_rfl) (by kernel_rfl) (by kernel_rfl) ?hQ1021 (Or.inl ⟨?hg1021, ?hy1021⟩) (by assumption) ?rest1021
   case hi1021 => (simp only [List.getElem?_toArray, List.getElem?_cons_zero, List.getElem?_cons_succ]; exact rfl)
   case hQ1021 => exact fun _ _ _ h => h
   case hg1021 => rfl
   case hy1021 => (intro w' hSw; (try dsimp only at hSw); go_simp; try with_reducible rfl)
   try simp only [Act.put, List.setIfInBounds_toArray, List.set_cons_zero, List.set_cons_succ]
   refine wpAnyH_take (i := 9) (oi := ?o1022) (v := ?v1022) ?hi1022 (by kernel_rfl) (by kernel_rfl) (by kernel_rfl) ?hQ1022 (Or.inl ⟨?hg1022, ?hy1022⟩) (by assumption) ?rest1022
   case hi1022 => (simp only [List.getElem?_toArray, List.getElem?_cons_zero, List.getElem?_cons_succ]; exact rfl)
   case hQ1022 => exact fun _ _ _ h => h
   case hg1022 => rfl
   case hy1022 => (intro w' hSw; (try dsimp only at hSw); go_simp; try with_reducible rfl)
   try simp only [Act.put, List.setIfInBounds_toArray, List.set_cons_zero, List.set_cons_succ]
   refine wpAnyH_ready (rs := [10]) (by kernel_rfl) (by simp) ?_
   refine AllReadyH.cons (o := ?o1023) ?hi1023 (fun K hK => ?_) AllReadyH.nil
   case hi1023 => (simp only [List.getElem?_toArray, List.getElem?_cons_zero, List.getElem?_cons_succ]; exact rfl)
   (obtain ⟨f0, f1, f2, f3, f4, f5⟩ := FZ.out; obtain ⟨y0, y1, y2, y3, y4, y5⟩ := YZ.out; go_simp; rw [← K9.out])
   refine hK.out _ _ ?_ (fun hHeld => ?_)
   ·exact S9.out
   clear hK K
   try simp only [Act.put, List.setIfInBounds_toArray, List.set_cons_zero, List.set_cons_succ]
   refine wpAnyH_take (i := 11) (oi := ?o1024) (v := ?v1024) ?hi1024 (by kernel_rfl) (by kernel_rfl) (by kernel_rfl) ?hQ1024 (Or.inl ⟨?hg1024, ?hy1024⟩) (by assumption) ?rest1024
   case hi1024 => (simp only [List.getElem?_toArray, List.getElem?_cons_zero, List.getElem?_cons_succ]; exact rfl)
   case hQ1024 => exact fun _ _ _ h => h
   case hg1024 => rfl
   case hy1024 => (intro w' hSw; (try dsimp only at hSw); go_simp; try with_reducible rfl)
   try simp only [Act.put, List.setIfInBounds_toArray, List.set_cons_zero, List.set_cons_succ]
   refine wpAnyH_done (by kernel_rfl) ?_ _
   obtain ⟨y0, y1, y2, y3, y4, y5⟩ := ob6 R9.out
   go_wp2
   exact bodyPost_ret (v := .tuple #[.agg #[.string sx, .slice A5 lal c5, .int .i64 xr, .int .i64 xq, .int .i64 xb, .string sxo], .bool true]) (by simp [results, Tryz.results92, go_sem, y0, y1, y2, y3, y4, y5]) rfl BV
  | false =>
   have BV := FIN.out false (by rw [hwo]; rfl)
   have L0 : L ≠ 0 := fun e => by
    rw [HLL.out] at e
    rw [List.length_eq_zero_iff.1 e] at hwo
    cases hwo
   have hd : ((L : Int) == 0) = false := beq_eq_false_iff_ne.2 (by omega)
   clear L0
   refine wp_region_held_drew (S := fun w' => w'.cell? ⟨X + 1 + 1 + 1, 0, none⟩ = some (.string sx) ∧ w'.cell? ⟨X + 1 + 1 + 1, 1, none⟩ = some (.slice A5 lal c5) ∧ w'.cell? ⟨X + 1 + 1 + 1, 2, none⟩ = some (.int .i64 xr) ∧ w'.cell? ⟨X + 1 + 1 + 1, 3, none⟩ = some (.int .i64 xq) ∧ w'.cell? ⟨X + 1 + 1 + 1, 4, none⟩ = some (.int .i64 xb) ∧ w'.cell? ⟨X + 1 + 1 + 1, 5, none⟩ = some (.string sxo) ∧ w'.cell? ⟨X + 1 + 1, 0, none⟩ = some (.slice Aw L cw) ∧ w'.cell? ⟨X + 1 + 1, 1, none⟩ = some (.bool false)) (by kernel_rfl) ?hS0 (fun hHeld => ?_)
   case hS0 => exact SM.out V5.drew T5.out RB5.out
   refine wpAnyH_take (i := 0) (oi := ?o1025) (v := ?v1025) ?hi1025 (by kernel_rfl) (by kernel_rfl) (by kernel_rfl) ?hQ1025 (Or.inl ⟨?hg1025, ?hy1025⟩) (by assumption) ?rest1025
   case hi1025 => (simp only [List.getElem?_toArray, List.getElem?_cons_zero]; exact rfl)
   case hQ1025 => exact fun _ _ _ h => h
   case hg1025 => rfl
   case hy1025 => (intro w' hSw; (try dsimp only at hSw); go_simp; try with_reducible rfl)
   try simp only [Act.put, List.setIfInBounds_toArray, List.set_cons_zero, List.set_cons_succ]
   refine wpAnyH_take (i := 1) (oi := ?o1026) (v := ?v1026) ?hi1026 (by kernel_rfl) (by kernel_rfl) (by kernel_rfl) ?hQ1026 (Or.inl ⟨?hg1026, ?hy1026⟩) (by assumption) ?rest1026
   case hi1026 => (simp only [List.getElem?_toArray, List.getElem?_cons_zero, List.getElem?_cons_succ]; exact rfl)
   case hQ1026 => exact fun _ _ _ h => h
   case hg1026 => rfl
   case hy1026 => (intro w' hSw; (try dsimp only at hSw); go_simp; try with_reducible rfl)
   try simp only [Act.put, List.setIfInBounds_toArray, List.set_cons_zero, List.set_cons_succ]
   refine wpAnyH_take (i := 2) (oi := ?o1027) (v := ?v1027) ?hi1027 (by kernel_rfl) (by kernel_rfl) (by kernel_rfl) ?hQ1027 (Or.inl ⟨?hg1027, ?hy1027⟩) (by assumption) ?rest1027
   case hi1027 => (simp only [List.getElem?_toArray, List.getElem?_cons_zero, List.getElem?_cons_succ]; exact rfl)
   case hQ1027 => exact fun _ _ _ h => h
   case hg1027 => rfl
   case hy1027 => (intro w' hSw; (try dsimp only at hSw); go_simp; try with_reducible rfl)
   try simp only [Act.put, List.setIfInBounds_toArray, List.set_cons_zero, List.set_cons_succ]
   refine wpAnyH_take (i := 3) (oi := ?o1028) (v := ?v1028) ?hi1028 (by kernel_rfl) (by kernel_rfl) (by kernel_rfl) ?hQ1028 (Or.inl ⟨?hg1028, ?hy1028⟩) (by assumption) ?rest1028
   case hi1028 => (simp only [List.getElem?_toArray, List.getElem?_cons_zero, List.getElem?_cons_succ]; exact rfl)
   case hQ1028 => exact fun _ _ _ h => h
   case hg1028 => rfl
   case hy1028 => (intro w' hSw; (try dsimp only at hSw); go_simp; try with_reducible rfl)
   try simp only [Act.put, List.setIfInBounds_toArray, List.set_cons_zero, List.set_cons_succ]
   refine wpAnyH_take (i := 4) (oi := ?o1029) (v := ?v1029) ?hi1029 (by kernel_rfl) (by kernel_rfl) (by kernel_rfl) ?hQ1029 (Or.inl ⟨?hg1029, ?hy1029⟩) (by assumption) ?rest1029
   case hi1029 => (simp only [List.getElem?_toArray, List.getElem?_cons_zero, List.getElem?_cons_succ]; exact rfl)
   case hQ1029 => exact fun _ _ _ h => h
   case hg1029 => rfl
   case hy1029 => (intro w' hSw; (try dsimp only at hSw); go_simp; try with_reducible rfl)
   try simp only [Act.put, List.setIfInBounds_toArray, List.set_cons_zero, List.set_cons_succ]
   refine wpAnyH_take (i := 5) (oi := ?o1030) (v := ?v1030) ?hi1030 (by kernel_rfl) (by kernel_rfl) (by kernel_rfl) ?hQ1030 (Or.inl ⟨?hg1030, ?hy1030⟩) (by assumption) ?rest1030
   case hi1030 => (simp only [List.getElem?_toArray, List.getElem?_cons_zero, List.getElem?_cons_succ]; exact rfl)
   case hQ1030 => exact fun _ _ _ h => h
   case hg1030 => rfl
   case hy1030 => (intro w' hSw; (try dsimp only at hSw); go_simp; try with_reducible rfl)
   try simp only [Act.put, List.setIfInBounds_toArray, List.set_cons_zero, List.set_cons_succ]
   refine wpAnyH_take (i := 6) (oi := ?o1031) (v := ?v1031) ?hi1031 (by kernel_rfl) (by kernel_rfl) (by kernel_rfl) ?hQ1031 (Or.inl ⟨?hg1031, ?hy1031⟩) (by assumption) ?rest1031
   case hi1031 => (simp only [List.getElem?_toArray, List.getElem?_cons_zero, List.getElem?_cons_succ]; exact rfl)
   case hQ1031 => exact fun _ _ _ h => h
   case hg1031 => rfl
   case hy1031 => (intro w' hSw; (try dsimp only at hSw); go_simp; try with_reducible rfl)
   try simp only [Act.put, List.setIfInBounds_toArray, List.set_cons_zero, List.set_cons_succ]
   refine wpAnyH_take (i := 7) (oi := ?o1032) (v := ?v1032) ?hi1032 (by kernel_rfl) (by kernel_rfl) (by kernel_rfl) ?hQ1032 (Or.inl ⟨?hg1032, ?hy1032⟩) (by assumption) ?rest1032
   case hi1032 => (simp only [List.getElem?_toArray, List.getElem?_cons_zero, List.getElem?_cons_succ]; exact rfl)
   case hQ1032 => exact fun _ _ _ h => h
   case hg1032 => rfl
   case hy1032 => (intro w' hSw; (try dsimp only at hSw); go_simp; try with_reducible rfl)
   try simp only [Act.put, List.setIfInBounds_toArray, List.set_cons_zero, List.set_cons_succ]
   refine wpAnyH_take (i := 8) (oi := ?o1033) (v := ?v1033) ?hi1033 (by kernel_rfl) (by kernel_rfl) (by kernel_rfl) ?hQ1033 (Or.inl ⟨?hg1033, ?hy1033⟩) (by assumption) ?rest1033
   case hi1033 => (simp only [List.getElem?_toArray, List.getElem?_cons_zero, List.getElem?_cons_succ]; exact rfl)
   case hQ1033 => exact fun _ _ _ h => h
   case hg1033 => rfl
   case hy1033 => (intro w' hSw; (try dsimp only at hSw); go_simp; try with_reducible rfl)
   try simp only [Act.put, List.setIfInBounds_toArray, List.set_cons_zero, List.set_cons_succ]
   refine wpAnyH_take (i := 9) (oi := ?o1034) (v := ?v1034) ?hi1034 (by kernel_rfl) (by kernel_rfl) (by kernel_rfl) ?hQ1034 (Or.inl ⟨?hg1034, ?hy1034⟩) (by assumption) ?rest1034
   case hi1034 => (simp only [List.getElem?_toArray, List.getElem?_cons_zero, List.getElem?_cons_succ]; exact rfl)
   case hQ1034 => exact fun _ _ _ h => h
   case hg1034 => rfl
   case hy1034 => (intro w' hSw; (try dsimp only at hSw); go_simp; try with_reducible rfl)
   try simp only [Act.put, List.setIfInBounds_toArray, List.set_cons_zero, List.set_cons_succ]
   refine wpAnyH_ready (rs := [10]) (by kernel_rfl) (by simp) ?_
   refine AllReadyH.cons (o := ?o1035) ?hi1035 (fun K hK => ?_) AllReadyH.nil
   case hi1035 => (simp only [List.getElem?_toArray, List.getElem?_cons_zero, List.getElem?_cons_succ]; exact rfl)
   (obtain ⟨f0, f1, f2, f3, f4, f5⟩ := FZ.out; obtain ⟨y0, y1, y2, y3, y4, y5⟩ := YZ.out; go_simp; rw [← K9.out])
   refine hK.out _ _ ?_ (fun hHeld => ?_)
   ·exact S9.out
   clear hK K
   try simp only [Act.put, List.setIfInBounds_toArray, List.set_cons_zero, List.set_cons_succ]
   refine wpAnyH_take (i := 11) (oi := ?o1036) (v := ?v1036) ?hi1036 (by kernel_rfl) (by kernel_rfl) (by kernel_rfl) ?hQ1036 (Or.inl ⟨?hg1036, ?hy1036⟩) (by assumption) ?rest1036
   case hi1036 => (simp only [List.getElem?_toArray, List.getElem?_cons_zero, List.getElem?_cons_succ]; exact rfl)
   case hQ1036 => exact fun _ _ _ h => h
   case hg1036 => rfl
   case hy1036 => (intro w' hSw; (try dsimp only at hSw); go_simp; try with_reducible rfl)
   try simp only [Act.put, List.setIfInBounds_toArray, List.set_cons_zero, List.set_cons_succ]
   refine wpAnyH_done (by kernel_rfl) ?_ _
   obtain ⟨y0, y1, y2, y3, y4, y5⟩ := ob6 R9.out
   go_wp2
   exact bodyPost_ret (v := .tuple #[.agg #[.string sx, .slice A5 lal c5, .int .i64 xr, .int .i64 xq, .int .i64 xb, .string sxo], .bool false]) (by simp [results, Tryz.results92, go_sem, y0, y1, y2, y3, y4, y5]) rfl BV
end Go.Proofs.YtkbekojnmdgdgaaGreatDoor
/- DfCut -/
namespace Go.Proofs.YtkbekojnmdgdgaaGreatDoor
open Go.RowKit
theorem index_head (c : UInt8) : ∀ l : List UInt8, (Lib.indexByte l c = -1 ∧ (Tx.split c l).headD [] = l) ∨ ∃ i : Nat, i < l.length ∧ Lib.indexByte l c = i ∧ (Tx.split c l).headD [] = l.take i
 | [] => .inl ⟨rfl, rfl⟩
 | x :: r => by
  have hi : Lib.indexByte (x :: r) c = if x == c then 0 else if Lib.indexByte r c == -1 then -1 else Lib.indexByte r c + 1 := rfl
  rw [hi]
  unfold Tx.split
  by_cases h : x = c
  ·right
   refine ⟨0, by simp, ?_, ?_⟩
   ·rw [if_pos (beq_iff_eq.2 h)]; rfl
   ·rw [if_pos h]; rfl
  ·rw [if_neg (fun e => h (beq_iff_eq.1 e)), if_neg h]
   rcases index_head c r with ⟨h1, h2⟩ | ⟨i, h1, h2, h3⟩
   ·left; rw [h1]; exact ⟨rfl, by rw [List.headD_cons, h2]⟩
   ·right
    refine ⟨i + 1, by simpa using h1, ?_, ?_⟩
    ·rw [h2, if_neg (by simp)]; push_cast; rfl
    ·rw [List.headD_cons, h3]; rfl
theorem extract_takeD (t : List UInt8) (i : Nat) : (str t).extract 0 i = str (t.take i) := by
 apply ByteArray.ext
 apply Array.toList_inj.1
 rw [Lib.extract_data]; simp [str]
def CutG (w : World) (c : UInt8) (t : List UInt8) (e : Ending) (w' : World) : Prop :=
 ∃ s2 b, e = .returned (.tuple #[.string (str ((Tx.split c t).headD [])), .string s2, .bool b]) ∧ Hid (Below w.heap.size w w')
set_option maxHeartbeats 400000 in
theorem cutS_any (t : List UInt8) (ht : t.length ≤ 1100) (c : UInt8) (w : World) : Calls Tryz.prog 114 #[.string (str t), .string ⟨#[c]⟩] w (CutG w c t) := by
 have IX := Lib.hid (Tryz.stringslite_Index_one (str t) c)
 rw [str_data] at IX
 have hsz : (str t).size ≤ 1100 := by rw [str_size]; exact ht
 rcases index_head c t with ⟨h1, h2⟩ | ⟨i, h1, h2, h3⟩
 ·rw [h1] at IX
  have R : Hid (str ((Tx.split c t).headD []) = str t) := Lib.hid (by rw [h2])
  clear h1 h2 ht
  go_enter Tryz.func114, Tryz.ntmps114
  go_wp2_with (go_at_call 129; refine (IX.out _).mono ?_; rintro e w' ⟨rfl, rfl⟩)
  go_ret3
  exact ⟨⟨#[]⟩, false, by rw [R.out]; rfl, Lib.hid (Below.refl _ _)⟩
 ·rw [h2] at IX
  have R : Hid (str ((Tx.split c t).headD []) = (str t).extract 0 i) := Lib.hid (by rw [h3, extract_takeD])
  have hlt : i < (str t).size := by rw [str_size]; exact h1
  clear h1 h2 h3 ht
  generalize str t = s at *
  have c1 : (0 : Int) ≤ ↑i := by omega
  have c2 : (↑i : Int) ≤ ↑s.size := by omega
  have c3 : (0 : Int) ≤ ↑i + 1 := by omega
  have c4 : (↑i + 1 : Int) ≤ ↑s.size := by omega
  go_enter Tryz.func114, Tryz.ntmps114
  go_wp2_with (go_at_call 129; refine (IX.out _).mono ?_; rintro e w' ⟨rfl, rfl⟩)
  go_region
  all_goals go_wp2
  all_goals go_ret3
  all_goals exact ⟨s.extract (i + 1) s.size, true, by rw [R.out]; rfl, Lib.hid (Below.refl _ _).drew⟩
set_option maxHeartbeats 400000 in
theorem cut_any (t : List UInt8) (ht : t.length ≤ 1100) (c : UInt8) (w : World) : Calls Tryz.prog 91 #[.string (str t), .string ⟨#[c]⟩] w (CutG w c t) := by
 have C := Lib.hid (cutS_any t ht c w)
 clear ht
 unfold CutG at C ⊢
 generalize (Tx.split c t).headD [] = hd at *
 go_enter Tryz.func91, Tryz.ntmps91
 go_wp2_with (go_at_call 114; refine C.out.mono ?_; rintro e w' ⟨s2, b, rfl, hb⟩)
 go_ret3
 exact ⟨_, _, rfl, hb⟩
theorem mapO_bind {α β γ : Type} (f : α → Option β) (g : β → Option γ) : ∀ {l : List α} {bs : List β}, Tx.mapO f l = some bs → Tx.mapO g bs = Tx.mapO (fun a => (f a).bind g) l
 | [], bs, h => by simp only [Tx.mapO, Option.some.injEq] at h; subst h; rfl
 | a :: r, bs, h => by
  unfold Tx.mapO at h
  cases hf : f a with
  | none => rw [hf] at h; cases h
  | some b =>
   rw [hf] at h
   cases hm : Tx.mapO f r with
   | none => rw [hm] at h; cases h
   | some cs =>
    rw [hm] at h
    simp only [Option.some.injEq] at h
    subst h
    have ih := mapO_bind f g hm
    unfold Tx.mapO
    rw [hf, ih]
    rfl
def Df.hd (p : List UInt8) : List UInt8 := (Tx.split 32 p).headD []
theorem Df.read_name {ws : List (List UInt8)} {r : Df.Raw} (h : Df.read ws = some r) : r.name = ws.headD [] := by
 cases ws with
 | nil => cases h
 | cons n ws =>
  unfold Df.read at h
  simp only at h
  split at h
  ·injection h with h
   subst h; rfl
  ·cases h
theorem Df.read_names : ∀ {l : List (List UInt8)} {rs : List Df.Raw}, Tx.mapO (fun s => Df.read (Tx.split 32 s)) l = some rs → rs.map (·.name) = l.map Df.hd
 | [], rs, h => by simp only [Tx.mapO, Option.some.injEq] at h; subst h; rfl
 | a :: r, rs, h => by
  unfold Tx.mapO at h
  cases hf : Df.read (Tx.split 32 a) with
  | none => rw [hf] at h; cases h
  | some b =>
   rw [hf] at h
   cases hm : Tx.mapO (fun s => Df.read (Tx.split 32 s)) r with
   | none => rw [hm] at h; cases h
   | some cs =>
    rw [hm] at h
    simp only [Option.some.injEq] at h
    subst h
    rw [List.map_cons, List.map_cons, Df.read_names hm, Df.read_name hf]
    rfl
theorem mapO_congr {α β : Type} {f g : α → Option β} (h : ∀ a, f a = g a) (l : List α) : Tx.mapO f l = Tx.mapO g l := by
 have : f = g := funext h
 rw [this]
def Df.one (nms : List (List UInt8)) (p : List UInt8) : Option Df.Task := if (Df.rt nms (Tx.split 32 p)).2 = true then some (Df.rt nms (Tx.split 32 p)).1 else none
theorem Df.parse_parts (t : List UInt8) (hl : (Tx.split 59 t).length ≤ 1100) : Df.parseD t = Tx.mapO (Df.one ((Tx.split 59 t).map Df.hd)) (Tx.split 59 t) := by
 unfold Df.parseD
 cases hm : Tx.mapO (fun s => Df.read (Tx.split 32 s)) (Tx.split 59 t) with
 | none =>
  simp only
  obtain ⟨a, h1, h2⟩ := Tx.mapO_none.1 hm
  refine (Tx.mapO_none.2 ⟨a, h1, ?_⟩).symm
  have := Df.rt_read ((Tx.split 59 t).map Df.hd) (Tx.split 32 a) (by rw [List.length_map]; exact hl) (Tx.split_ne 32 a)
  rw [h2] at this
  exact this.symm
 | some rs =>
  simp only
  rw [Df.read_names hm, mapO_bind _ (Df.toTask ((Tx.split 59 t).map Df.hd)) hm]
  exact mapO_congr (fun a => Df.rt_read _ _ (by rw [List.length_map]; exact hl) (Tx.split_ne 32 a)) _
def Df.oks (nms : List (List UInt8)) (ps : List (List UInt8)) (k : Nat) : Prop := k ≤ ps.length ∧ ∀ p ∈ ps.take k, (Df.rt nms (Tx.split 32 p)).2 = true
def Df.got (nms : List (List UInt8)) (ps : List (List UInt8)) : Df.D := ps.map fun p => (Df.rt nms (Tx.split 32 p)).1
theorem Df.oks_all {nms ps : List (List UInt8)} (h : Df.oks nms ps ps.length) : Tx.mapO (Df.one nms) ps = some (Df.got nms ps) := by
 have h2 := h.2
 rw [List.take_length] at h2
 rw [Tx.mapO_iff]
 unfold Df.got
 rw [List.map_map]
 refine List.map_congr_left fun p hp => ?_
 unfold Df.one
 rw [if_pos (h2 p hp)]
 rfl
theorem Df.oks_no {nms ps : List (List UInt8)} {p : List UInt8} (hp : p ∈ ps) (h : (Df.rt nms (Tx.split 32 p)).2 = false) : Tx.mapO (Df.one nms) ps = none :=
 Tx.mapO_none.2 ⟨p, hp, by unfold Df.one; rw [h]; rfl⟩
theorem Df.oks_next {nms ps : List (List UInt8)} {k : Nat} (h : Df.oks nms ps k) (hk : k < ps.length) (h2 : (Df.rt nms (Tx.split 32 ps[k])).2 = true) : Df.oks nms ps (k + 1) :=
 ⟨hk, fun p hp => by
  rw [List.take_succ_eq_append_getElem hk] at hp
  rcases List.mem_append.1 hp with hp | hp
  ·exact h.2 p hp
  ·simp only [List.mem_singleton] at hp
   subst hp
   exact h2⟩
theorem Df.rt_in (nms ws : List (List UInt8)) : numIn (Df.rt nms ws).1 := ⟨Df.numI_in 0 (by decide) _, Df.numI_in 10 (by decide) _, Df.numI_in 1 (by decide) _⟩
end Go.Proofs.YtkbekojnmdgdgaaGreatDoor
/- DfRow -/
namespace Go.Proofs.YtkbekojnmdgdgaaGreatDoor
open Go.RowKit
theorem task_info : (Tryz.prog.info? 96).map (fun i => (i.zero, i.size, i.bytes)) = some (some (.agg #[.string ⟨#[]⟩, .slice none 0 0, .int .i64 0, .int .i64 0, .int .i64 0, .string ⟨#[]⟩]), 6, 80) := by kernel_rfl
def zt : Df.Task := ⟨[], [], 0, 0, 0, []⟩
theorem made_K (n : Nat) (hn : n ≤ 1000000) (W : World) : (Instr.makeSlice 35 (.int .i64 (n : Int)) (.int .i64 (n : Int))).run Tryz.prog W = .ok (.slice (some ⟨W.heap.size, 0, none⟩) n n) (W.alloc (.cells (madeCells #[.string ⟨#[]⟩, .slice none 0 0, .int .i64 0, .int .i64 0, .int .i64 0, .string ⟨#[]⟩] (n * 6)) 96)) := by
 obtain ⟨i, hi, hz, hs, hy⟩ := info_parts task_info
 have hr := run_make (P := Tryz.prog) W 35 96 i _ Tryz.underlying35 hi hz .i64 .i64 n n (by omega) (Int.le_refl _) (by rw [hy]; omega) (by omega)
 rw [hs, Int.toNat_natCast] at hr
 exact hr
theorem made_flat (n : Nat) : (madeCells #[.string ⟨#[]⟩, .slice none 0 0, .int .i64 0, .int .i64 0, .int .i64 0, .string ⟨#[]⟩] (n * 6)).toList = ((List.replicate n (zt, ((none, 0) : Option Addr × Nat))).map fun x => taskV x.1 x.2).flatten := by
 unfold madeCells
 rw [Array.toList_map, Array.toList_range]
 induction n with
 | zero => simp
 | succ n ih =>
  have e : (n + 1) * 6 = n * 6 + 1 + 1 + 1 + 1 + 1 + 1 := by omega
  rw [e, List.range_succ, List.range_succ, List.range_succ, List.range_succ, List.range_succ, List.range_succ, List.replicate_succ']
  simp only [List.map_append, List.flatten_append]
  rw [ih]
  have m0 : n * 6 % 6 = 0 := by omega
  have m1 : (n * 6 + 1) % 6 = 1 := by omega
  have m2 : (n * 6 + 1 + 1) % 6 = 2 := by omega
  have m3 : (n * 6 + 1 + 1 + 1) % 6 = 3 := by omega
  have m4 : (n * 6 + 1 + 1 + 1 + 1) % 6 = 4 := by omega
  have m5 : (n * 6 + 1 + 1 + 1 + 1 + 1) % 6 = 5 := by omega
  simp [m0, m1, m2, m3, m4, m5, taskV, zt, str]
theorem flat_set6 (v0 v1 v2 v3 v4 v5 : Value) : ∀ (vs : List (List Value)) (k : Nat), Wide 6 vs → k < vs.length →
  ((((((vs.flatten.set (k * 6) v0).set (k * 6 + 1) v1).set (k * 6 + 2) v2).set (k * 6 + 3) v3).set (k * 6 + 4) v4).set (k * 6 + 5) v5) = (vs.set k [v0, v1, v2, v3, v4, v5]).flatten
 | [], k, _, hk => by simp at hk
 | v :: r, k, hw, hk => by
  have hv := (hw v (by simp)).1
  match v, hv with
  | [a, b, c, d, e, f], _ =>
   cases k with
   | zero => simp
   | succ k =>
    have ih := flat_set6 v0 v1 v2 v3 v4 v5 r k (fun x hx => hw x (List.mem_cons_of_mem _ hx)) (by simpa using hk)
    rw [show (k + 1) * 6 = k * 6 + 6 by omega, show k * 6 + 6 + 1 = k * 6 + 1 + 6 by omega, show k * 6 + 6 + 2 = k * 6 + 2 + 6 by omega, show k * 6 + 6 + 3 = k * 6 + 3 + 6 by omega, show k * 6 + 6 + 4 = k * 6 + 4 + 6 by omega, show k * 6 + 6 + 5 = k * 6 + 5 + 6 by omega]
    simp only [List.flatten_cons, List.cons_append, List.nil_append, List.set_cons_succ]
    rw [ih]
def SK (w : World) (g o : Nat) (v0 v1 v2 v3 v4 v5 : Value) : World := (((((w.setCell ⟨g, o, none⟩ v0).setCell ⟨g, o + 1, none⟩ v1).setCell ⟨g, o + 2, none⟩ v2).setCell ⟨g, o + 3, none⟩ v3).setCell ⟨g, o + 4, none⟩ v4).setCell ⟨g, o + 5, none⟩ v5
theorem SK.else_ (w : World) (g o : Nat) (v0 v1 v2 v3 v4 v5 : Value) {k : Nat} (hk : k ≠ g) : (SK w g o v0 v1 v2 v3 v4 v5).heap[k]? = w.heap[k]? :=
 (Below.heap_setCell _ _ _ _ hk).trans ((Below.heap_setCell _ _ _ _ hk).trans ((Below.heap_setCell _ _ _ _ hk).trans ((Below.heap_setCell _ _ _ _ hk).trans ((Below.heap_setCell _ _ _ _ hk).trans (Below.heap_setCell _ _ _ _ hk)))))
theorem SK.size_ (w : World) (g o : Nat) (v0 v1 v2 v3 v4 v5 : Value) : (SK w g o v0 v1 v2 v3 v4 v5).heap.size = w.heap.size := by simp [SK, World.setCell]
theorem SK.below {a w : World} {B g : Nat} (h : Below B a w) (hg : B ≤ g) (o : Nat) (v0 v1 v2 v3 v4 v5 : Value) : Below B a (SK w g o v0 v1 v2 v3 v4 v5) :=
 (((((h.setCell (p := ⟨g, o, none⟩) hg _).setCell (p := ⟨g, o + 1, none⟩) hg _).setCell (p := ⟨g, o + 2, none⟩) hg _).setCell (p := ⟨g, o + 3, none⟩) hg _).setCell (p := ⟨g, o + 4, none⟩) hg _).setCell (p := ⟨g, o + 5, none⟩) hg _
theorem OwnK.put6 {w : World} {base g cap : Nat} {T : TypeId} {vs : List (List Value)} (h : OwnK w base T 6 (some ⟨g, 0, none⟩) cap vs) {k : Nat} (hk : k < vs.length) (v0 v1 v2 v3 v4 v5 : Value) (h1 : ∀ u ∈ [v0, v1, v2, v3, v4, v5], u.oneCell' = true) :
  OwnK (SK w g (k * 6) v0 v1 v2 v3 v4 v5) base T 6 (some ⟨g, 0, none⟩) cap (vs.set k [v0, v1, v2, v3, v4, v5]) := by
 refine ⟨?_, fun v hv => ?_⟩
 ·rw [List.length_set, ← flat_set6 v0 v1 v2 v3 v4 v5 vs k h.2 hk]
  exact (World.ownsRow.stored (World.ownsRow.stored (World.ownsRow.stored (World.ownsRow.stored (World.ownsRow.stored (World.ownsRow.stored h.1 (k * 6) v0).1 (k * 6 + 1) v1).1 (k * 6 + 2) v2).1 (k * 6 + 3) v3).1 (k * 6 + 4) v4).1 (k * 6 + 5) v5).1
 ·rcases List.mem_or_eq_of_mem_set hv with hv | rfl
  ·exact h.2 v hv
  ·exact ⟨rfl, h1⟩
theorem OwnK.thaw {w : World} {base g cap k : Nat} {T : TypeId} {vs : List (List Value)} (h : OwnK w base T k (some ⟨g, 0, none⟩) cap vs) (i : Nat) : w.frozen? ⟨g, i, none⟩ = false := by
 rcases h.1.2 with ⟨e, _⟩ | ⟨g', c', cur, e, hb, hg, r⟩
 ·cases e
 ·injection e with e1 e2 e3
  injection e1 with e1
  injection e1 with e1
  subst e1
  simp [World.frozen?, hg]
theorem Zs.apart {w w' : World} {B : Nat} {A : Option Addr} {zs : List Int} (h : Zs w B A zs) (hk : ∀ a, A = some a → w'.heap[a.block]? = w.heap[a.block]?) : Zs w' B A zs :=
 ⟨h.1, fun hn => by
  obtain ⟨b, off, e, hl, hc⟩ := h.2 hn
  refine ⟨b, off, e, hl, fun i hi => ?_⟩
  have := hk _ e
  simp only at this
  have h2 := hc i hi
  simp only [World.cell?, this]
  simpa [World.cell?] using h2⟩
structure RowD (w : World) (g : Nat) (vs : List (Df.Task × (Option Addr × Nat))) : Prop where
 row : OwnK w g 96 6 (some ⟨g, 0, none⟩) vs.length (vs.map fun x => taskV x.1 x.2)
 ints : ∀ x ∈ vs, Zs w w.heap.size x.2.1 x.1.after ∧ x.1.after.length ≤ x.2.2 ∧ ∀ a, x.2.1 = some a → g < a.block ∧ a.block < w.heap.size
 nums : ∀ x ∈ vs, numIn x.1
theorem RowD.lt {w : World} {g : Nat} {vs : List (Df.Task × (Option Addr × Nat))} (h : RowD w g vs) : g < w.heap.size := (OwnK.lt h.row).2
theorem RowD.on {w w' : World} {g : Nat} {vs : List (Df.Task × (Option Addr × Nat))} (h : RowD w g vs) (hb : Below w.heap.size w w') : RowD w' g vs :=
 ⟨h.row.grew hb (Nat.le_refl _), fun x hx => ⟨(h.ints x hx).1.on hb, (h.ints x hx).2.1, fun a ha => ⟨((h.ints x hx).2.2 a ha).1, Nat.lt_of_lt_of_le ((h.ints x hx).2.2 a ha).2 hb.size⟩⟩, h.nums⟩
theorem RowD.made (W : World) (n : Nat) (hn : n ≤ 1000000) : RowD (W.alloc (.cells (madeCells #[.string ⟨#[]⟩, .slice none 0 0, .int .i64 0, .int .i64 0, .int .i64 0, .string ⟨#[]⟩] (n * 6)) 96)) W.heap.size (List.replicate n (zt, (none, 0))) := by
 have h := OwnK.lit (w := W) (T := 96) (k := 6) ((List.replicate n (zt, ((none, 0) : Option Addr × Nat))).map fun x => taskV x.1 x.2) taskV_wide (by simp; omega) _ (made_flat n)
 rw [List.length_map] at h
 refine ⟨h, fun x hx => ?_, fun x hx => ?_⟩
 ·rw [(List.mem_replicate.1 hx).2]
  exact ⟨Zs.nil_, Nat.le_refl _, fun a ha => by cases ha⟩
 ·rw [(List.mem_replicate.1 hx).2]
  exact ⟨⟨by decide, by decide⟩, ⟨by decide, by decide⟩, ⟨by decide, by decide⟩⟩
theorem RowD.put {w : World} {g : Nat} {vs : List (Df.Task × (Option Addr × Nat))} (h : RowD w g vs) {k : Nat} (hk : k < vs.length) (t : Df.Task) (A : Option Addr) (c : Nat) (hz : Zs w w.heap.size A t.after) (hc : t.after.length ≤ c) (ha : ∀ a, A = some a → g < a.block ∧ a.block < w.heap.size) (hn : numIn t) :
  RowD (SK w g (k * 6) (.string (str t.name)) (.slice A t.after.length c) (.int .i64 t.retry) (.int .i64 t.wait) (.int .i64 t.base) (.string (str t.on))) g (vs.set k (t, (A, c))) := by
 have hs := SK.size_ w g (k * 6) (.string (str t.name)) (.slice A t.after.length c) (.int .i64 t.retry) (.int .i64 t.wait) (.int .i64 t.base) (.string (str t.on))
 refine ⟨?_, fun x hx => ?_, fun x hx => ?_⟩
 ·have := h.row.put6 (k := k) (by rw [List.length_map]; exact hk) (.string (str t.name)) (.slice A t.after.length c) (.int .i64 t.retry) (.int .i64 t.wait) (.int .i64 t.base) (.string (str t.on)) (fun u hu => by
   simp at hu; rcases hu with rfl | rfl | rfl | rfl | rfl | rfl <;> rfl)
  rw [List.length_set, List.map_set]
  exact this
 ·rw [hs]
  rcases List.mem_or_eq_of_mem_set hx with hx | rfl
  ·exact ⟨(h.ints x hx).1.apart fun a e => SK.else_ _ _ _ _ _ _ _ _ _ (by have := ((h.ints x hx).2.2 a e).1; omega), (h.ints x hx).2⟩
  ·exact ⟨hz.apart fun a e => SK.else_ _ _ _ _ _ _ _ _ _ (by have := (ha a e).1; omega), hc, ha⟩
 ·rcases List.mem_or_eq_of_mem_set hx with hx | rfl
  ·exact h.nums x hx
  ·exact hn
theorem RowD.cells {w : World} {g : Nat} {vs : List (Df.Task × (Option Addr × Nat))} (h : RowD w g vs) {k : Nat} (hk : k < vs.length) :
  ∃ v0 v1 v2 v3 v4 v5, w.cell? ⟨g, k * 6, none⟩ = some v0 ∧ w.cell? ⟨g, k * 6 + 1, none⟩ = some v1 ∧ w.cell? ⟨g, k * 6 + 2, none⟩ = some v2 ∧ w.cell? ⟨g, k * 6 + 3, none⟩ = some v3 ∧ w.cell? ⟨g, k * 6 + 4, none⟩ = some v4 ∧ w.cell? ⟨g, k * 6 + 5, none⟩ = some v5 := by
 have key : ∀ (j : Nat) (u : Value), j < 6 → (taskV vs[k].1 vs[k].2)[j]? = some u → w.cell? ⟨g, k * 6 + j, none⟩ = some u := fun j u hj hu => by
  refine h.row.cell (by simpa using hk) hj ?_
  rw [List.getD_eq_getElem?_getD, List.getElem?_map, List.getElem?_eq_getElem hk]
  exact hu
 exact ⟨_, _, _, _, _, _, key 0 _ (by decide) rfl, key 1 _ (by decide) rfl, key 2 _ (by decide) rfl, key 3 _ (by decide) rfl, key 4 _ (by decide) rfl, key 5 _ (by decide) rfl⟩
theorem RowD.defIn {w : World} {g : Nat} {vs : List (Df.Task × (Option Addr × Nat))} (h : RowD w g vs) : DefIn w w.heap.size (some ⟨g, 0, none⟩) (vs.map (·.1)) :=
 OwnD.defIn (B := w.heap.size) (base := g) (cap := vs.length) ⟨h.row, fun x hx => ⟨(h.ints x hx).1, (h.ints x hx).2.1⟩, h.nums⟩ (Nat.le_refl _)
end Go.Proofs.YtkbekojnmdgdgaaGreatDoor
/- DfReadD -/
namespace Go.Proofs.YtkbekojnmdgdgaaGreatDoor
open Go.RowKit
structure DS (w0 w : World) (X m : Nat) (ps : List (List UInt8)) (ns : List ByteArray) : Prop where
 res : w.heap[X]? = some (.cells #[.slice none 0 0] 37 (0, 0))
 parts : OwnT w (X + 1) (some ⟨X + 1, 0, none⟩) m (ps.map str)
 names : OwnT w (X + 1 + 1) (some ⟨X + 1 + 1, 0, none⟩) m ns
 below : Below X w0 w
theorem DS.size {w0 w : World} {X m : Nat} {ps : List (List UInt8)} {ns : List ByteArray} (h : DS w0 w X m ps ns) : X + 1 + 1 + 1 ≤ w.heap.size := by have := h.names.lt.2; simp only at this; omega
theorem DS.on {w0 w w' : World} {X m : Nat} {ps : List (List UInt8)} {ns : List ByteArray} (h : DS w0 w X m ps ns) (hb : Below w.heap.size w w') : DS w0 w' X m ps ns := by
 have hs := h.size
 exact ⟨(hb.block _ (by omega)).trans h.res, h.parts.keep hb, h.names.keep hb, h.below.trans (hb.mono (by omega))⟩
theorem DS.apart {w0 w w' : World} {X m g : Nat} {ps : List (List UInt8)} {ns : List ByteArray} (h : DS w0 w X m ps ns) (hg : X + 1 + 1 < g) (hk : ∀ k, k ≠ g → w'.heap[k]? = w.heap[k]?) (hb : Below X w w') : DS w0 w' X m ps ns :=
 ⟨(hk _ (by omega)).trans h.res, h.parts.kept fun a ha => by injection ha with ha; subst ha; exact hk _ (show X + 1 ≠ g by omega), h.names.kept fun a ha => by injection ha with ha; subst ha; exact hk _ (show X + 1 + 1 ≠ g by omega), h.below.trans hb⟩
theorem RowD.past {w : World} {g X o : Nat} {vs : List (Df.Task × (Option Addr × Nat))} (h : RowD w g vs) (hX : X < g) (v : Value) : RowD (w.setCell ⟨X, o, none⟩ v) g vs := by
 have hs : (w.setCell ⟨X, o, none⟩ v).heap.size = w.heap.size := by simp [World.setCell]
 refine ⟨h.row.keep fun a ha => by injection ha with ha; subst ha; exact Below.heap_setCell _ _ _ _ (show g ≠ X by omega), fun x hx => ?_, h.nums⟩
 rw [hs]
 exact ⟨(h.ints x hx).1.apart fun a e => Below.heap_setCell _ _ _ _ (show a.block ≠ X by have := ((h.ints x hx).2.2 a e).1; omega), (h.ints x hx).2⟩
def TaskR (w : World) (t : Df.Task) (b : Bool) (e : Ending) (w' : World) : Prop :=
 ∃ A c, e = .returned (.tuple #[.agg #[.string (str t.name), .slice A t.after.length c, .int .i64 t.retry, .int .i64 t.wait, .int .i64 t.base, .string (str t.on)], .bool b]) ∧ Hid (OwnZ w' w.heap.size A c t.after) ∧ Hid (Below w.heap.size w w')
def ReadG (w : World) (o : Option Df.D) (e : Ending) (w' : World) : Prop :=
 ∃ A c, e = .returned (.tuple #[.agg #[.slice A (o.getD []).length c], .bool o.isSome]) ∧ Hid (DefIn w' w'.heap.size A (o.getD [])) ∧ Hid (Below w.heap.size w w')
theorem ReadG.no {w w' : World} {o : Option Df.D} (h : o = none) (hb : Below w.heap.size w w') : ReadG w o (.returned (.tuple #[.agg #[.slice none 0 0], .bool false])) w' := by
 subst h
 exact ⟨none, 0, rfl, Lib.hid DefIn.nil_, Lib.hid hb⟩
theorem ReadG.yes {w w' : World} {o : Option Df.D} {d : Df.D} {A : Option Addr} {n c : Nat} (h : o = some d) (hn : n = d.length) (hd : DefIn w' w'.heap.size A d) (hb : Below w.heap.size w w') : ReadG w o (.returned (.tuple #[.agg #[.slice A n c], .bool true])) w' := by
 subst h hn
 exact ⟨A, c, rfl, Lib.hid hd, Lib.hid hb⟩
set_option maxRecDepth 100000 in
set_option maxHeartbeats 8000000 in
theorem readDef_any (tx : List UInt8) (htx : tx.length ≤ 1024) (w : World) : Calls Tryz.prog 74 #[.string (str tx)] w (ReadG w (Df.parseD tx)) := by
 have SP := Lib.hid (split_at (str tx) 59 (by rw [str_size]; omega))
 rw [str_data] at SP
 have WL := split_len 59 tx
 have WP := split_piece 59 tx
 have PD := Lib.hid (Df.parse_parts tx (by omega))
 have PN : Hid (0 < (Tx.split 59 tx).length) := Lib.hid (List.length_pos_iff.2 (Tx.split_ne 59 tx))
 generalize Tx.split 59 tx = ps at *
 have PL : Hid (∀ p ∈ ps, p.length ≤ 1024) := Lib.hid fun p hp => by have := WP p hp; omega
 obtain ⟨nms, hnms⟩ : ∃ nms, nms = ps.map Df.hd := ⟨_, rfl⟩
 rw [← hnms] at PD
 have HNM := Lib.hid hnms
 obtain ⟨m, hm⟩ : ∃ m, m = ps.length := ⟨_, rfl⟩
 have HM := Lib.hid hm
 rw [← hm] at SP PN
 have m9 : m ≤ 1025 := by omega
 have NL : Hid (nms.length = m) := Lib.hid (by rw [hnms, List.length_map, hm])
 have NS : Hid (∀ t ∈ nms, t.length ≤ 1024) := Lib.hid fun t ht => by
  rw [hnms] at ht
  obtain ⟨p, hp, rfl⟩ := List.mem_map.1 ht
  have h1 := split_piece 32 p (Df.hd p) (by unfold Df.hd; rw [← Tx.split_head 32 p]; simp)
  have := PL.out p hp
  omega
 have RD : Hid (∀ (k : Nat) (hk : k < ps.length) A cap W, Strs W W.heap.size A (nms.map str) → Calls Tryz.prog 92 #[.string (str ps[k]), .slice A m cap] W (TaskR W (Df.rt nms (Tx.split 32 ps[k])).1 (Df.rt nms (Tx.split 32 ps[k])).2)) := Lib.hid fun k hk A cap W hW => readTask_any ps[k] (PL.out _ (List.getElem_mem hk)) nms A m cap NL.out.symm (by rw [NL.out]; omega) W hW
 have CT : Hid (∀ (k : Nat) (hk : k < ps.length) W, Calls Tryz.prog 91 #[.string (str ps[k]), .string ⟨#[32]⟩] W (CutG W 32 ps[k])) := Lib.hid fun k hk W => cut_any ps[k] (by have := PL.out _ (List.getElem_mem hk); omega) 32 W
 have hmt := made_T m (by omega)
 have hmk := made_K m (by omega)
 obtain ⟨st, hst⟩ : ∃ s, s = str tx := ⟨_, rfl⟩
 rw [← hst] at SP ⊢
 clear WL WP hnms hm hst htx
 obtain ⟨X, hX⟩ : ∃ X, X = w.heap.size := ⟨_, rfl⟩
 have HX := Lib.hid hX
 obtain ⟨W1, hW1⟩ : ∃ W1, W1 = w.alloc (.cells #[.slice none 0 0] 37) := ⟨_, rfl⟩
 have Z1 : Hid (W1.heap.size = X + 1) := Lib.hid (by rw [hW1, hX]; simp)
 have P1 : Hid (W1.heap[X]? = some (.cells #[.slice none 0 0] 37 (0, 0))) := Lib.hid (by rw [hW1, hX]; exact heap_alloc_new ..)
 have B1 : Hid (Below X w W1) := Lib.hid (by rw [hW1, hX]; exact (Below.refl _ _).alloc (Nat.le_refl _) _)
 go_enter Tryz.func74, Tryz.ntmps74
 go_upto_region 1 with fail
 rw [← hW1, ← hX]
 clear hW1 hX
 go_wp2_with fail
 (with_reducible refine (SP.out _).mono ?_); rintro e w2 ⟨rfl, hw2⟩
 rw [Z1.out]
 have Z2 : Hid (w2.heap.size = X + 1 + 1) := Lib.hid (by rw [hw2, World.size_alloc, Z1.out])
 have B2 : Hid (Below (X + 1) W1 w2) := Lib.hid (by rw [hw2]; exact (Below.refl _ _).alloc (by rw [Z1.out]; exact Nat.le_refl _) _)
 have O2 : Hid (OwnT w2 (X + 1) (some ⟨X + 1, 0, none⟩) m (ps.map str)) := Lib.hid (by
  rw [hw2]
  have h1 := OwnT.lit W1 (ps.map str) (by rw [List.length_map, ← HM.out]; omega) ((ps.map str).map Value.string).toArray (by simp)
  rw [Z1.out, List.length_map, ← HM.out] at h1
  exact h1)
 clear hw2
 obtain ⟨W3, hW3⟩ : ∃ W3, W3 = w2.alloc (.cells (madeCells #[.string ⟨#[]⟩] m) 9) := ⟨_, rfl⟩
 have K3 := Lib.hid hW3
 have B3 : Hid (Below (X + 1 + 1) w2 W3) := Lib.hid (by rw [hW3]; exact (Below.refl _ _).alloc (by rw [Z2.out]; exact Nat.le_refl _) _)
 have S3 : Hid (DS w W3 X m ps (List.replicate m ⟨#[]⟩)) := Lib.hid (by
  refine ⟨(B3.out.block _ (by omega)).trans ((B2.out.block _ (by omega)).trans P1.out), O2.out.under B3.out (by omega), ?_, B1.out.trans ((B2.out.mono (by omega)).trans (B3.out.mono (by omega)))⟩
  have := OwnT.made w2 m (by omega)
  rw [← hW3, Z2.out] at this
  exact this)
 have F3 : Hid (Filled (List.replicate m (⟨#[]⟩ : ByteArray)) m nms 0) := Lib.hid ⟨by simp, rfl⟩
 clear hW3 B3 O2 B2
 go_upto_region 3 with fail
 rw [Z2.out, ← K3.out]
 clear hmt
 go_wp2_with fail
 go_loopw [20] (fun iv wr => ∃ (k : Nat) (ss : List ByteArray), k ≤ m ∧ iv = .int .i64 k ∧ Hid (DS w wr X m ps ss) ∧ Hid (Filled ss m nms k)) (fun iv _ => m - (intOf iv).toNat)
 case atStart => exact ⟨0, _, Nat.zero_le _, rfl, S3, F3⟩
 case round =>
  obtain ⟨k, ss, hk, rfl, HD, HFl⟩ := hrel
  by_cases hlt : k < m
  ·have hlt' : (k : Int) < (m : Int) := by omega
   have hkp : Hid (k < ps.length) := Lib.hid (by rw [← HM.out]; exact hlt)
   have cp : wr.cell? ⟨X + 1, k, none⟩ = some (.string (str ps[k])) := by
    have := HD.out.parts.val (i := k) (by rw [List.length_map]; exact hkp.out)
    rwa [List.getD_eq_getElem?_getD, List.getElem?_map, List.getElem?_eq_getElem hkp.out] at this
   have CK := Lib.hid (CT.out k hkp.out)
   have FN := HFl.out.next hlt (by rw [NL.out]; exact hlt)
   have NE : nms[k]'(by rw [NL.out]; exact hlt) = (Tx.split 32 ps[k]).headD [] := by
    have : nms[k]? = some (Df.hd ps[k]) := by rw [HNM.out, List.getElem?_map, List.getElem?_eq_getElem hkp.out]; rfl
    exact (List.getElem?_eq_some_iff.1 this).2
   rw [NE] at FN
   have FN : Hid (Filled (ss.set k (str ((Tx.split 32 ps[k]).headD []))) m nms (k + 1)) := Lib.hid FN
   clear NE
   unfold CutG at CK
   generalize (Tx.split 32 ps[k]).headD [] = hd at *
   generalize ps[k] = p at *
   have SL := Lib.hid HFl.out.1
   go_wp2_with fail
   (with_reducible refine (CK.out _).mono ?_); rintro e w5 ⟨s2, b, rfl, c5⟩
   have D5 := Lib.hid (HD.out.on c5.out)
   have hf := D5.out.names.thaw k
   have hc := D5.out.names.val (i := k) (by rw [SL.out]; exact hlt)
   have DN : Hid (DS w (w5.setCell ⟨X + 1 + 1, k, none⟩ (.string (str hd))) X m ps (ss.set k (str hd))) := Lib.hid
    ⟨(Below.heap_setCell _ _ _ _ (show X ≠ X + 1 + 1 by omega)).trans D5.out.res, D5.out.parts.kept (fun a ha => by injection ha with ha; subst ha; exact Below.heap_setCell _ _ _ _ (show X + 1 ≠ X + 1 + 1 by omega)), D5.out.names.stored k _, D5.out.below.setCell (p := ⟨X + 1 + 1, k, none⟩) (show X ≤ X + 1 + 1 by omega) _⟩
   clear c5
   go_wp2
   go_roundw
   case rel => exact ⟨k + 1, _, by omega, by go_num, DN, FN⟩
   case measure => simp [intOf]; omega
  ·obtain rfl : k = m := by omega
   have hge : ¬ (k : Int) < (k : Int) := by omega
   have E := HFl.out.all NL.out
   have E : ss = nms.map str := E
   subst E
   clear HFl
   obtain ⟨Y, hY⟩ : ∃ Y, Y = wr.heap.size := ⟨_, rfl⟩
   obtain ⟨W4, hW4⟩ : ∃ W4, W4 = wr.alloc (.cells (madeCells #[.string ⟨#[]⟩, .slice none 0 0, .int .i64 0, .int .i64 0, .int .i64 0, .string ⟨#[]⟩] (k * 6)) 96) := ⟨_, rfl⟩
   obtain ⟨W5, hW5⟩ : ∃ W5, W5 = W4.alloc (.cells #[.slice (some ⟨Y, 0, none⟩) k k] 37) := ⟨_, rfl⟩
   have Z4 : Hid (W4.heap.size = Y + 1) := Lib.hid (by rw [hW4, World.size_alloc, hY])
   have B4 : Hid (Below wr.heap.size wr W4) := Lib.hid (by rw [hW4]; exact (Below.refl _ _).alloc (Nat.le_refl _) _)
   have B5 : Hid (Below W4.heap.size W4 W5) := Lib.hid (by rw [hW5]; exact (Below.refl _ _).alloc (Nat.le_refl _) _)
   have D5 : Hid (DS w W5 X k ps (nms.map str)) := Lib.hid ((HD.out.on B4.out).on B5.out)
   have R5 : Hid (RowD W5 Y (List.replicate k (zt, (none, 0)))) := Lib.hid (RowD.on (by rw [hW4, hY]; exact RowD.made wr k (by omega)) B5.out)
   have X5 : Hid (W5.heap[Y + 1]? = some (.cells #[.slice (some ⟨Y, 0, none⟩) k k] 37 (0, 0))) := Lib.hid (by rw [hW5, ← Z4.out]; exact heap_alloc_new ..)
   have YX : Hid (X + 1 + 1 < Y) := Lib.hid (by have := HD.out.size; rw [hY]; omega)
   have K4 := Lib.hid hW4
   have K5 := Lib.hid hW5
   clear hW4 hW5
   go_upto_region 9 with fail
   rw [← hY, ← K4.out]
   rw [← K5.out]
   clear hY hmk
   go_wp2_with fail
   clear K4 K5 B4 B5 Z4 HD
   go_loopw [41] (fun iv wr => ∃ (i : Nat) (vs : List (Df.Task × (Option Addr × Nat))), i ≤ k ∧ iv = .int .i64 i ∧ Hid (DS w wr X k ps (nms.map str)) ∧ Hid (RowD wr Y vs) ∧ Hid (vs.length = k) ∧ Hid ((vs.map (·.1)).take i = (Df.got nms ps).take i) ∧ Hid (Df.oks nms ps i) ∧ Hid (wr.heap[Y + 1]? = some (.cells #[.slice (some ⟨Y, 0, none⟩) k k] 37 (0, 0)))) (fun iv _ => k - (intOf iv).toNat)
   case atStart => exact ⟨0, _, Nat.zero_le _, rfl, D5, R5, Lib.hid (by simp), Lib.hid rfl, Lib.hid ⟨Nat.zero_le _, fun p hp => by simp at hp⟩, X5⟩
   case round =>
    obtain ⟨i, vs, hi, rfl, HD, HR, HV, HT, HOK, HX5⟩ := hrel
    by_cases hlt : i < k
    ·have hlt' : (i : Int) < (k : Int) := by omega
     have hkp : Hid (i < ps.length) := Lib.hid (by rw [← HM.out]; exact hlt)
     have cp : wr.cell? ⟨X + 1, i, none⟩ = some (.string (str ps[i])) := by
      have := HD.out.parts.val (i := i) (by rw [List.length_map]; exact hkp.out)
      rwa [List.getD_eq_getElem?_getD, List.getElem?_map, List.getElem?_eq_getElem hkp.out] at this
     have NST : Strs wr wr.heap.size (some ⟨X + 1 + 1, 0, none⟩) (nms.map str) := by
      have h1 := HD.out.names
      have h2 : OwnT wr (X + 1 + 1) (some ⟨X + 1 + 1, 0, none⟩) k (nms.map str) := h1
      exact h2.strs fun s hs => by
       obtain ⟨t, ht, rfl⟩ := List.mem_map.1 hs
       rw [str_size]
       have := NS.out t ht
       omega
     have CK := Lib.hid (RD.out i hkp.out _ k wr NST)
     clear NST
     have GT : Hid ((Df.got nms ps).take (i + 1) = (Df.got nms ps).take i ++ [(Df.rt nms (Tx.split 32 ps[i])).1]) := Lib.hid (by
      rw [List.take_succ_eq_append_getElem (by unfold Df.got; rw [List.length_map]; exact hkp.out)]
      unfold Df.got
      rw [List.getElem_map]
      rfl)
     have ON := Lib.hid (Df.oks_next HOK.out hkp.out)
     have NO := Lib.hid (@Df.oks_no nms ps ps[i] (List.getElem_mem hkp.out))
     have NI := Lib.hid (Df.rt_in nms (Tx.split 32 ps[i]))
     generalize (Df.rt nms (Tx.split 32 ps[i])).1 = t at *
     generalize (Df.rt nms (Tx.split 32 ps[i])).2 = b at *
     generalize ps[i] = p at *
     go_wp2_with fail
     (with_reducible refine CK.out.mono ?_); rintro e w5 ⟨A6, c6, rfl, o6, d6⟩
     obtain ⟨W6, hW6⟩ : ∃ W6, W6 = w5.alloc (.cells #[.string (str t.name), .slice A6 t.after.length c6, .int .i64 t.retry, .int .i64 t.wait, .int .i64 t.base, .string (str t.on)] 96) := ⟨_, rfl⟩
     obtain ⟨V, hV⟩ : ∃ V, V = w5.heap.size := ⟨_, rfl⟩
     have B6 : Hid (Below w5.heap.size w5 W6) := Lib.hid (by rw [hW6]; exact (Below.refl _ _).alloc (Nat.le_refl _) _)
     have P6 : Hid (W6.heap[V]? = some (.cells #[.string (str t.name), .slice A6 t.after.length c6, .int .i64 t.retry, .int .i64 t.wait, .int .i64 t.base, .string (str t.on)] 96 (0, 0))) := Lib.hid (by rw [hW6, hV]; exact heap_alloc_new ..)
     have D6 := Lib.hid ((HD.out.on d6.out).on B6.out)
     have R6 := Lib.hid ((HR.out.on d6.out).on B6.out)
     have Y6 : Hid (W6.heap[Y + 1]? = some (.cells #[.slice (some ⟨Y, 0, none⟩) k k] 37 (0, 0))) := Lib.hid (((B6.out.mono d6.out.size).block _ (lt_of_block HX5.out)).trans ((d6.out.block _ (lt_of_block HX5.out)).trans HX5.out))
     have Z6 : Hid (Zs W6 W6.heap.size A6 t.after ∧ t.after.length ≤ c6 ∧ ∀ a, A6 = some a → Y < a.block ∧ a.block < W6.heap.size) := Lib.hid ⟨o6.out.zs.on B6.out, o6.out.cap_, fun a ha => by
      subst ha
      have h1 := o6.out.lt
      have h2 := HR.out.lt
      have h3 := B6.out.size
      omega⟩
     have K6 := Lib.hid hW6
     clear hW6
     go_upto_region 13 with fail
     rw [← hV, ← K6.out]
     clear hV K6 B6 d6 o6 cp
     cases b with
     | false =>
      have PZ := Lib.hid (NO.out rfl)
      have x0 : W6.cell? ⟨X, 0, none⟩ = some (.slice none 0 0) := by simp [World.cell?, D6.out.res]
      have x1 : W6.frozen? ⟨X, 0, none⟩ = false := by simp [World.frozen?, D6.out.res]
      have BR : Hid (Below w.heap.size w (W6.setCell ⟨X, 0, none⟩ (.slice none 0 0))) := Lib.hid (by rw [← HX.out]; exact D6.out.below.setCell (p := ⟨X, 0, none⟩) (Nat.le_refl X) _)
      go_wp2
      exact bodyPost_ret (v := .tuple #[.agg #[.slice none 0 0], .bool false]) (by simp [results, Tryz.results74, go_sem, x0]) rfl
       (ReadG.no (by rw [PD.out]; exact PZ.out) BR.out)
     | true =>
      have ON2 := Lib.hid (ON.out rfl)
      obtain ⟨y0, y1, y2, y3, y4, y5⟩ := ob6 P6.out
      have hx0 : W6.cell? ⟨Y + 1, 0, none⟩ = some (.slice (some ⟨Y, 0, none⟩) k k) := by simp [World.cell?, Y6.out]
      obtain ⟨v0, v1, v2, v3, v4, v5, e0, e1, e2, e3, e4, e5⟩ := R6.out.cells (k := i) (by rw [HV.out]; exact hlt)
      have f0 := R6.out.row.thaw (i * 6)
      have f1 := R6.out.row.thaw (i * 6 + 1)
      have f2 := R6.out.row.thaw (i * 6 + 2)
      have f3 := R6.out.row.thaw (i * 6 + 3)
      have f4 := R6.out.row.thaw (i * 6 + 4)
      have f5 := R6.out.row.thaw (i * 6 + 5)
      obtain ⟨W7, hW7⟩ : ∃ W7, W7 = SK W6 Y (i * 6) (.string (str t.name)) (.slice A6 t.after.length c6) (.int .i64 t.retry) (.int .i64 t.wait) (.int .i64 t.base) (.string (str t.on)) := ⟨_, rfl⟩
      have K7 : Hid (W7 = (((((W6.setCell ⟨Y, i * 6, none⟩ (.string (str t.name))).setCell ⟨Y, i * 6 + 1, none⟩ (.slice A6 t.after.length c6)).setCell ⟨Y, i * 6 + 2, none⟩ (.int .i64 t.retry)).setCell ⟨Y, i * 6 + 3, none⟩ (.int .i64 t.wait)).setCell ⟨Y, i * 6 + 4, none⟩ (.int .i64 t.base)).setCell ⟨Y, i * 6 + 5, none⟩ (.string (str t.on))) := Lib.hid hW7
      have E7 : ∀ b, b ≠ Y → W7.heap[b]? = W6.heap[b]? := fun b hb => by rw [hW7]; exact SK.else_ _ _ _ _ _ _ _ _ _ hb
      have D7 : Hid (DS w W7 X k ps (nms.map str)) := Lib.hid (D6.out.apart YX.out E7 (by rw [hW7]; exact SK.below (Below.refl _ _) (by have := YX.out; omega) _ _ _ _ _ _ _))
      have R7 : Hid (RowD W7 Y (vs.set i (t, (A6, c6)))) := Lib.hid (by rw [hW7]; exact R6.out.put (by rw [HV.out]; exact hlt) t A6 c6 Z6.out.1 Z6.out.2.1 Z6.out.2.2 NI.out)
      have X7 : Hid (W7.heap[Y + 1]? = some (.cells #[.slice (some ⟨Y, 0, none⟩) k k] 37 (0, 0))) := Lib.hid ((E7 _ (by omega)).trans Y6.out)
      have V7 : Hid ((vs.set i (t, (A6, c6))).length = k) := Lib.hid (by rw [List.length_set]; exact HV.out)
      have T7 : Hid (((vs.set i (t, (A6, c6))).map (·.1)).take (i + 1) = (Df.got nms ps).take (i + 1)) := Lib.hid (by
       have hi2 : i < ((vs.set i (t, (A6, c6))).map (·.1)).length := by rw [List.length_map, V7.out]; exact hlt
       rw [List.take_succ_eq_append_getElem hi2, GT.out, ← HT.out, List.getElem_map, List.getElem_set_self, List.map_set, List.take_set_of_le (Nat.le_refl i)])
      clear hW7 E7
      go_upto_region 16 with fail
      rw [← K7.out]
      clear y0 y1 y2 y3 y4 y5 hx0 e0 e1 e2 e3 e4 e5 f0 f1 f2 f3 f4 f5 K7
      go_wp2
      go_roundw
      case rel => exact ⟨i + 1, _, by omega, by go_num, D7, R7, V7, T7, ON2, X7⟩
      case measure => simp [intOf]; omega
    ·obtain rfl : i = k := by omega
     have hge : ¬ (i : Int) < (i : Int) := by omega
     have EG : vs.map (·.1) = Df.got nms ps := by
      have h1 := HT.out
      rwa [List.take_of_length_le (by rw [List.length_map, HV.out]; exact Nat.le_refl _), List.take_of_length_le (by unfold Df.got; rw [List.length_map, ← HM.out]; exact Nat.le_refl _)] at h1
     have PS : Hid (Df.parseD tx = some (Df.got nms ps)) := Lib.hid (by rw [PD.out]; exact Df.oks_all (by have := HOK.out; rwa [HM.out] at this))
     have GL : Hid (i = (Df.got nms ps).length) := Lib.hid (by unfold Df.got; rw [List.length_map]; exact HM.out)
     have x0 : wr.cell? ⟨X, 0, none⟩ = some (.slice none 0 0) := by simp [World.cell?, HD.out.res]
     have x1 : wr.frozen? ⟨X, 0, none⟩ = false := by simp [World.frozen?, HD.out.res]
     have x2 : wr.cell? ⟨Y + 1, 0, none⟩ = some (.slice (some ⟨Y, 0, none⟩) i i) := by simp [World.cell?, HX5.out]
     have RF := HR.out.past (X := X) (o := 0) (by have := YX.out; omega) (.slice (some ⟨Y, 0, none⟩) i i)
     have DF : Hid (DefIn (wr.setCell ⟨X, 0, none⟩ (.slice (some ⟨Y, 0, none⟩) i i)) (wr.setCell ⟨X, 0, none⟩ (.slice (some ⟨Y, 0, none⟩) i i)).heap.size (some ⟨Y, 0, none⟩) (Df.got nms ps)) := Lib.hid (by rw [← EG]; exact RF.defIn)
     have BR : Hid (Below w.heap.size w (wr.setCell ⟨X, 0, none⟩ (.slice (some ⟨Y, 0, none⟩) i i))) := Lib.hid (by rw [← HX.out]; exact HD.out.below.setCell (p := ⟨X, 0, none⟩) (Nat.le_refl X) _)
     clear EG RF
     go_wp2
     exact bodyPost_ret (v := .tuple #[.agg #[.slice (some ⟨Y, 0, none⟩) i i], .bool true]) (by simp [results, Tryz.results74, go_sem, x0]) rfl
      (ReadG.yes PS.out GL.out DF.out BR.out)
end Go.Proofs.YtkbekojnmdgdgaaGreatDoor
