/-
  Part 17 of the texts behind the law: WalPlain, WalMem, WalRead.
-/
import Derived.Test.YtdbhicifjljjnaaGreatDoorMf7
import Derived.Test.YtdbhicifjljjnaaGreatDoorMf16
import Derived.Test.YtdbhicifjljjnaaGreatDoorMf5
import Derived.Test.YtdbhicifjljjnaaGreatDoorMf4
import Derived.BigQuiet
import Derived.Deep.QuietTactic
import Derived.Deep.RegionHeld3
/-
  The plain side of package wal: a log's segments, records, and how far it is durable.
-/
namespace Go.Proofs.YtdbhicifjljjnaaGreatDoor.Wl
open Go Go.WideShapes

structure L where
  most : Int
  segs : List (Int × Int)
  recs : List Fr.Rc
  sure : Int
def firstV (l : L) : Int := (l.segs.headD (0, 0)).1
def endV (l : L) : Int := firstV l + (l.recs.length : Int)
def epochV (l : L) : Int := if l.recs.length = 0 then 0 else Pl.epochV (l.recs.getD (l.recs.length - 1) (0, [])).1
/-- The bounds of a log in memory. -/
structure Inv (l : L) : Prop where
  most : 64 ≤ l.most ∧ l.most ≤ 1048576
  first : ∀ g ∈ l.segs, 0 ≤ g.1 ∧ g.1 ≤ 17592186044415
  size : ∀ g ∈ l.segs, 0 ≤ g.2 ∧ g.2 ≤ 16777216
  count : l.recs.length ≤ 16777216
  segc : l.segs.length ≤ 16777216
  at_ : ∀ r ∈ l.recs, 0 ≤ r.1 ∧ r.1 < 18446744073709551616
  pay : ∀ r ∈ l.recs, r.2.length ≤ 1024
  none_ : l.segs = [] → l.recs = []
  sure : 0 ≤ l.sure ∧ l.sure ≤ 17609365913600
theorem Inv.first_ {l : L} (h : Inv l) : 0 ≤ firstV l ∧ firstV l ≤ 17592186044415 := by
  unfold firstV
  cases e : l.segs with
  | nil => simp
  | cons g r => exact h.first g (by rw [e]; simp)
theorem Inv.end_ {l : L} (h : Inv l) : 0 ≤ endV l ∧ endV l ≤ 17592202821631 := by
  have h1 := h.first_
  have h2 := h.count
  unfold endV
  omega
/-- What Get answers. -/
def getE (l : L) (off : Int) : Int := if off < firstV l then 13 else if endV l ≤ off then 4 else 0
def getR (l : L) (off : Int) : Fr.Rc := if getE l off = 0 then l.recs.getD (off - firstV l).toNat (0, []) else (0, [])
end Go.Proofs.YtdbhicifjljjnaaGreatDoor.Wl
/-
  A log in memory: its object, its row of segments, its row of records with their bytes; which blocks are its own.
-/
namespace Go.Proofs.YtdbhicifjljjnaaGreatDoor
open Go.RowKit

def segV (g : List (Int × Int)) : List (Value × Value) := g.map fun p => (.int .i64 p.1, .int .i64 p.2)
theorem segV_len (g : List (Int × Int)) : (segV g).length = g.length := by unfold segV; rw [List.length_map]
theorem segV_get (g : List (Int × Int)) (i : Nat) (h : i < g.length) : (segV g).getD i (undef, undef) = (.int .i64 (g.getD i (0, 0)).1, .int .i64 (g.getD i (0, 0)).2) := by
  unfold segV
  rw [List.getD_eq_getElem?_getD, List.getElem?_map, List.getElem?_eq_getElem h, List.getD_eq_getElem?_getD, List.getElem?_eq_getElem h]
  rfl
/-- One record in a row: its stamp, and its bytes in a row among the blocks O. -/
def RecO (w : World) (O : Nat → Prop) (v : Value × Value) (r : Fr.Rc) : Prop := v.1 = .int .u64 r.1 ∧ ∃ A cap, v.2 = .slice A r.2.length cap ∧ OwnB w 0 A cap r.2 ∧ ∀ a, A = some a → O a.block
def RecsO (w : World) (O : Nat → Prop) (A : Option Addr) (cap : Nat) (l : List Fr.Rc) : Prop :=
  ∃ vs : List (Value × Value), vs.length = l.length ∧ OwnP w 0 40 A cap vs ∧ (∀ a, A = some a → O a.block) ∧ ∀ i, i < l.length → RecO w O (vs.getD i (undef, undef)) (l.getD i (0, []))
theorem RecO.keep {w w' : World} {O O' : Nat → Prop} {v : Value × Value} {r : Fr.Rc} (h : RecO w O v r) (hk : ∀ k, O k → w'.heap[k]? = w.heap[k]?) (ho : ∀ k, O k → O' k) : RecO w' O' v r := by
  obtain ⟨h1, A, cap, h2, h3, h4⟩ := h
  exact ⟨h1, A, cap, h2, h3.keep fun a ha => hk _ (h4 a ha), fun a ha => ho _ (h4 a ha)⟩
theorem RecsO.keep {w w' : World} {O O' : Nat → Prop} {A : Option Addr} {cap : Nat} {l : List Fr.Rc} (h : RecsO w O A cap l) (hk : ∀ k, O k → w'.heap[k]? = w.heap[k]?) (ho : ∀ k, O k → O' k) : RecsO w' O' A cap l := by
  obtain ⟨vs, h1, h2, h3, h4⟩ := h
  exact ⟨vs, h1, h2.keep fun a ha => hk _ (h3 a ha), fun a ha => ho _ (h3 a ha), fun i hi => (h4 i hi).keep hk ho⟩
structure LM (w : World) (Lb T : Nat) (O : Nat → Prop) (l : Wl.L) (sa : Option Addr) (sc : Nat) (ra : Option Addr) (rc : Nat) : Prop where
  obj : w.heap[Lb]? = some (.cells #[.pointer (some ⟨T, 0, none⟩), .int .i64 l.most, .slice sa l.segs.length sc, .slice ra l.recs.length rc, .int .i64 l.sure] 57 (0, 0))
  segs : OwnP w 0 70 sa sc (segV l.segs)
  recs : RecsO w O ra rc l.recs
  ownL : O Lb
  ownS : ∀ a, sa = some a → O a.block
  lt : ∀ k, O k → k < w.heap.size
  inv : Wl.Inv l
theorem LM.same {w w' : World} {Lb T : Nat} {O : Nat → Prop} {l : Wl.L} {sa : Option Addr} {sc : Nat} {ra : Option Addr} {rc : Nat} (h : LM w Lb T O l sa sc ra rc) (hs : w.heap.size ≤ w'.heap.size) (hk : ∀ k, O k → w'.heap[k]? = w.heap[k]?) : LM w' Lb T O l sa sc ra rc :=
  ⟨(hk _ h.ownL).trans h.obj, h.segs.keep fun a ha => hk _ (h.ownS a ha), h.recs.keep hk fun _ h => h, h.ownL, h.ownS, fun k hk => Nat.lt_of_lt_of_le (h.lt k hk) hs, h.inv⟩
theorem LM.grow {w w' : World} {Lb T : Nat} {O : Nat → Prop} {l : Wl.L} {sa : Option Addr} {sc : Nat} {ra : Option Addr} {rc : Nat} (h : LM w Lb T O l sa sc ra rc) (hb : Below w.heap.size w w') : LM w' Lb T O l sa sc ra rc :=
  h.same hb.size fun k hk => hb.block k (h.lt k hk)
theorem LM.draw {w : World} {Lb T : Nat} {O : Nat → Prop} {l : Wl.L} {sa : Option Addr} {sc : Nat} {ra : Option Addr} {rc : Nat} (h : LM w Lb T O l sa sc ra rc) (n : Nat) : LM (w.drewN n) Lb T O l sa sc ra rc := h.same (Nat.le_refl _) fun _ _ => rfl
/-- One segment's two cells. -/
theorem LM.seg {w : World} {Lb T : Nat} {O : Nat → Prop} {l : Wl.L} {sa : Option Addr} {sc : Nat} {ra : Option Addr} {rc : Nat} (h : LM w Lb T O l sa sc ra rc) {i : Nat} (hi : i < l.segs.length) :
    ∃ g, sa = some ⟨g, 0, none⟩ ∧ w.cell? ⟨g, i * 2, none⟩ = some (.int .i64 (l.segs.getD i (0, 0)).1) ∧ w.cell? ⟨g, i * 2 + 1, none⟩ = some (.int .i64 (l.segs.getD i (0, 0)).2) := by
  have hs := h.segs
  obtain ⟨g, e, _, _⟩ := hs.shape (by rw [segV_len]; omega)
  subst e
  have hc := hs.cell (undef, undef) (i := i) (by rw [segV_len]; exact hi)
  rw [segV_get _ _ hi] at hc
  exact ⟨g, rfl, hc.1, hc.2⟩
/-- One record's two cells, and its bytes. -/
theorem LM.rec_ {w : World} {Lb T : Nat} {O : Nat → Prop} {l : Wl.L} {sa : Option Addr} {sc : Nat} {ra : Option Addr} {rc : Nat} (h : LM w Lb T O l sa sc ra rc) {i : Nat} (hi : i < l.recs.length) :
    ∃ g A cap, ra = some ⟨g, 0, none⟩ ∧ w.cell? ⟨g, i * 2, none⟩ = some (.int .u64 (l.recs.getD i (0, [])).1) ∧ w.cell? ⟨g, i * 2 + 1, none⟩ = some (.slice A (l.recs.getD i (0, [])).2.length cap) ∧ OwnB w 0 A cap (l.recs.getD i (0, [])).2 := by
  obtain ⟨vs, h1, h2, h3, h4⟩ := h.recs
  obtain ⟨g, e, _, _⟩ := h2.shape (by omega)
  subst e
  have hc := h2.cell (undef, undef) (i := i) (by omega)
  obtain ⟨r1, A, cap, r2, r3, _⟩ := h4 i hi
  rw [r1, r2] at hc
  exact ⟨g, A, cap, rfl, hc.1, hc.2, r3⟩
end Go.Proofs.YtdbhicifjljjnaaGreatDoor
/-
  What a log is asked without a change: First, End, Epoch; one record copied.
-/
namespace Go.Proofs.YtdbhicifjljjnaaGreatDoor
open Go.RowKit

theorem drewN_drewN (w : World) (a b : Nat) : (w.drewN a).drewN b = w.drewN (a + b) := by simp [World.drewN, Nat.add_assoc]
section
variable {w : World} {Lb T : Nat} {O : Nat → Prop} {l : Wl.L} {sa : Option Addr} {sc : Nat} {ra : Option Addr} {rc : Nat} (h : LM w Lb T O l sa sc ra rc)
include h
set_option maxHeartbeats 1000000 in
theorem first_any : Calls Tryz.prog 17 #[.pointer (some ⟨Lb, 0, none⟩)] w fun e w' => e = .returned (.int .i64 (Wl.firstV l)) ∧ w = w' := by
  obtain ⟨⟨_, _, c2, _, _⟩, _⟩ := obj5 h.obj
  rcases Nat.eq_zero_or_pos l.segs.length with h0 | h0
  · have E : Hid (Wl.firstV l = 0) := Lib.hid (by unfold Wl.firstV; rw [List.eq_nil_of_length_eq_zero h0]; rfl)
    rw [h0] at c2
    clear h
    go_enter Tryz.func17, Tryz.ntmps17
    go_wp2
    go_ret
    exact ⟨ret_int E.out.symm, rfl⟩
  · obtain ⟨g, hg, d1, _⟩ := h.seg h0
    have E : Hid (Wl.firstV l = (l.segs.getD 0 (0, 0)).1) := Lib.hid (by unfold Wl.firstV; cases l.segs <;> rfl)
    have hn : (0 : Int) < (l.segs.length : Int) := by omega
    have hn0 : ((l.segs.length : Int) == 0) = false := beq_eq_false_iff_ne.2 (by omega)
    have hne : ¬ (l.segs.length : Int) = 0 := by omega
    subst hg
    clear h
    generalize (l.segs.getD 0 (0, 0)).1 = fv at *
    generalize l.segs.length = n at *
    rw [show 0 * 2 = 0 from rfl] at d1
    go_enter Tryz.func17, Tryz.ntmps17
    go_wp2
    go_ret
    exact ⟨ret_int E.out.symm, rfl⟩
theorem first_draw (k : Nat) : Calls Tryz.prog 17 #[.pointer (some ⟨Lb, 0, none⟩)] (w.drewN k) fun e w' => e = .returned (.int .i64 (Wl.firstV l)) ∧ ∃ j, w' = w.drewN j :=
  (first_any (h.draw k)).mono fun _ _ ⟨h1, h2⟩ => ⟨h1, k, h2.symm⟩
set_option maxHeartbeats 1000000 in
theorem end_any : Calls Tryz.prog 12 #[.pointer (some ⟨Lb, 0, none⟩)] w fun e w' => e = .returned (.int .i64 (Wl.endV l)) ∧ ∃ j, w' = w.drewN j := by
  obtain ⟨⟨_, _, _, c3, _⟩, _⟩ := obj5 h.obj
  have FD := Lib.hid (first_draw h)
  have hb := h.inv.first_
  have hn : (l.recs.length : Int) ≤ 16777216 := by have := h.inv.count; omega
  have hn0 : 0 ≤ (l.recs.length : Int) := by omega
  have E : Hid (Wl.endV l = Wl.firstV l + (l.recs.length : Int)) := Lib.hid rfl
  clear h
  obtain ⟨h0, h1⟩ := hb
  generalize Wl.firstV l = fv at *
  generalize l.recs.length = n at *
  go_enter Tryz.func12, Tryz.ntmps12
  go_wp2_with fail
  go_quiet ((go_at_call 17; exact FD.out _))
  go_wp2
  go_ret
  exact ⟨ret_int E.out.symm, _, rfl⟩
theorem end_draw (k : Nat) : Calls Tryz.prog 12 #[.pointer (some ⟨Lb, 0, none⟩)] (w.drewN k) fun e w' => e = .returned (.int .i64 (Wl.endV l)) ∧ ∃ j, w' = w.drewN j :=
  (end_any (h.draw k)).mono fun _ _ ⟨h1, j, h2⟩ => ⟨h1, k + j, by rw [h2]; exact drewN_drewN _ _ _⟩
set_option maxHeartbeats 1000000 in
theorem lepoch_any : Calls Tryz.prog 22 #[.pointer (some ⟨Lb, 0, none⟩)] w fun e w' => e = .returned (.int .i64 (Wl.epochV l)) ∧ ∃ j, w' = w.drewN j := by
  obtain ⟨⟨_, _, _, c3, _⟩, _⟩ := obj5 h.obj
  rcases Nat.eq_zero_or_pos l.recs.length with h0 | h0
  · have E : Hid (Wl.epochV l = 0) := Lib.hid (by unfold Wl.epochV; rw [if_pos h0])
    rw [h0] at c3
    clear h
    go_enter Tryz.func22, Tryz.ntmps22
    go_wp2
    go_ret
    exact ⟨ret_int E.out.symm, 0, rfl⟩
  · obtain ⟨m, hm⟩ : ∃ m, l.recs.length = m + 1 := ⟨l.recs.length - 1, by omega⟩
    obtain ⟨g, A, cap, hg, d1, _, _⟩ := h.rec_ (i := m) (by omega)
    have hat := h.inv.at_ (l.recs.getD m (0, [])) (by rw [List.getD_eq_getElem?_getD, List.getElem?_eq_getElem (by omega)]; exact List.getElem_mem _)
    have E : Hid (Wl.epochV l = Pl.epochV (l.recs.getD m (0, [])).1) := Lib.hid (by unfold Wl.epochV; rw [if_neg (by omega), hm]; rfl)
    generalize (l.recs.getD m (0, [])).1 = at_ at *
    have EP := Lib.hid (fun W => epoch_any at_ hat.1 hat.2 W)
    have hn : (m : Int) ≤ 16777216 := by have := h.inv.count; omega
    have hs1 : ((m + 1 : Nat) : Int) - 1 = (m : Int) := by omega
    have hlt : (m : Int) < ((m + 1 : Nat) : Int) := by omega
    have hne : ¬ ((m + 1 : Nat) : Int) = 0 := by omega
    have hm0 : 0 ≤ (m : Int) := by omega
    rw [hm] at c3
    subst hg
    clear h hat hm h0
    go_enter Tryz.func22, Tryz.ntmps22
    go_wp2_with fail
    go_quiet ((go_at_call 21; exact (EP.out _).mono fun _ _ ⟨h1, h2⟩ => ⟨h1, _, h2.symm⟩))
    go_wp2
    go_ret
    exact ⟨ret_int E.out.symm, _, rfl⟩
end
end Go.Proofs.YtdbhicifjljjnaaGreatDoor
