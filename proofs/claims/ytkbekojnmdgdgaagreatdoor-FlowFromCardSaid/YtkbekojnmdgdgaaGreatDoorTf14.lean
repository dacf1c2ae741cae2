/-
  Part 14 of the texts behind the law: TDfSplit, TDfReader, TDfAfter, TDfJoin.
-/
import Derived.Test.YtkbekojnmdgdgaaGreatDoorTf12
import Derived.Test.YtkbekojnmdgdgaaGreatDoorTf13
import Derived.Lib.IndexBytes
import Derived.Lib.SplitLaws
import Derived.Test.YtkbekojnmdgdgaaGreatDoorTf2
import Derived.Test.YtkbekojnmdgdgaaGreatDoorTf8
/- DfSplit -/
namespace Go.Proofs.YtkbekojnmdgdgaaGreatDoor
open Go.RowKit
theorem splitK_ne (c x : UInt8) (r : List UInt8) (h : x ≠ c) : ∀ k, Lib.splitK [c] 0 k (x :: r) = (x :: (Lib.splitK [c] 0 k r).headD []) :: (Lib.splitK [c] 0 k r).tail
 | 0 => rfl
 | k + 1 => by
  have hi : Lib.indexByte (x :: r) c = if x == c then 0 else if Lib.indexByte r c == -1 then -1 else Lib.indexByte r c + 1 := rfl
  have hx : ¬ (x == c) = true := fun e => h (beq_iff_eq.1 e)
  rw [if_neg hx] at hi
  unfold Lib.splitK
  rw [Lib.index_one, Lib.index_one, hi]
  by_cases hm : Lib.indexByte r c = -1
  ·rw [hm]; rfl
  ·have hge := Lib.indexByte_ge r c
   obtain ⟨i, e⟩ : ∃ i : Nat, Lib.indexByte r c = i := ⟨(Lib.indexByte r c).toNat, by omega⟩
   rw [e]
   have h1 : ¬ ((i : Int) == -1) = true := by simp
   have h2 : ¬ ((i : Int) + 1 == -1) = true := by simp; omega
   rw [if_neg h1, if_neg h2, if_neg h1]
   rw [show ((i : Int) + 1).toNat = i + 1 by omega, Int.toNat_natCast]
   rfl
theorem splitK_one (c : UInt8) : ∀ s : List UInt8, Lib.splitK [c] 0 (Lib.count s [c]) s = Tx.split c s
 | [] => by rw [Lib.count_one]; rfl
 | x :: r => by
  unfold Tx.split
  by_cases h : x = c
  ·subst h
   rw [if_pos rfl, Lib.count_cons_eq, Nat.add_comm]
   have e : ∀ k, Lib.splitK [x] 0 (k + 1) (x :: r) = if Lib.index (x :: r) [x] == -1 then [x :: r] else (x :: r).take ((Lib.index (x :: r) [x]).toNat + 0) :: Lib.splitK [x] 0 k ((x :: r).drop ((Lib.index (x :: r) [x]).toNat + [x].length)) := fun _ => rfl
   rw [e]
   have hi : Lib.indexByte (x :: r) x = if x == x then 0 else if Lib.indexByte r x == -1 then -1 else Lib.indexByte r x + 1 := rfl
   rw [beq_self_eq_true, if_pos rfl] at hi
   rw [Lib.index_one, hi, if_neg (by decide)]
   show [] :: Lib.splitK [x] 0 (Lib.count r [x]) r = _
   rw [splitK_one x r]
  ·rw [if_neg h, Lib.count_cons_ne x c r h, splitK_ne c x r h, splitK_one c r]
def sep1 (c : UInt8) : ByteArray := ⟨#[c]⟩
theorem splitB_one (c : UInt8) (s : ByteArray) : Lib.splitB (sep1 c) 0 (Lib.countB s (sep1 c)) s = (Tx.split c s.data.toList).map str := by
 have h := Lib.splitB_data (sep1 c) 0 (Lib.countB s (sep1 c)) s
 have h2 : Lib.countB s (sep1 c) = Lib.count s.data.toList [c] := rfl
 have h3 : (Lib.splitB (sep1 c) 0 (Lib.countB s (sep1 c)) s).map (·.data.toList) = Tx.split c s.data.toList := by
  rw [h, h2]
  exact splitK_one c s.data.toList
 rw [← h3, List.map_map]
 conv => lhs; rw [← List.map_id (Lib.splitB (sep1 c) 0 (Lib.countB s (sep1 c)) s)]
 apply List.map_congr_left
 intro x _
 exact (str_list x).symm
theorem countB_one (c : UInt8) (s : ByteArray) : Lib.countB s (sep1 c) + 1 = (Tx.split c s.data.toList).length := by
 have := Lib.splitB_all (sep1 c) (Nat.le_refl 1) 0 _ s rfl
 rw [splitB_one, List.length_map] at this
 exact this.symm
theorem split_len (c : UInt8) (l : List UInt8) : (Tx.split c l).length ≤ l.length + 1 := by
 induction l with
 | nil => exact Nat.le_refl _
 | cons x r ih =>
  unfold Tx.split
  split
  ·simp only [List.length_cons]; omega
  ·have := Tx.split_ne c r
   have : (Tx.split c r).length ≠ 0 := fun e => this (List.length_eq_zero_iff.1 e)
   simp only [List.length_cons, List.length_tail]; omega
theorem genSplit_at (s : ByteArray) (c : UInt8) (hs : s.size < 4294967281) (w : World) :
  Calls Tryz.prog 113 #[.string s, .string (sep1 c), .int .i64 0, .int .i64 (-1)] w fun e w' =>
   e = .returned (.slice (some ⟨w.heap.size, 0, none⟩) (Tx.split c s.data.toList).length (Tx.split c s.data.toList).length) ∧ w' = w.alloc (.cells (((Tx.split c s.data.toList).map str).map Value.string).toArray 9) := by
 have hle := Lib.countB_le (sep1 c) (Nat.le_refl 1) s.size s (Nat.le_refl _)
 have h := Any.strings_genSplit_core (P := Tryz.prog) (ρ := Tryz.lays146_ren) { Tryz.lays146 with } (by kernel_rfl) s (sep1 c) 0 (-1) (Lib.countB s (sep1 c) + 1) w hs (Nat.le_refl 1) (Nat.zero_le _)
  (fun x cs _ => (Tryz.strings_Index_one x c _).mono fun e w' ⟨he, hw⟩ => ⟨by rw [he]; show _ = Ending.returned (Value.int .i64 (Lib.index x.data.toList [c])); rw [Lib.index_one], hw⟩)
  ((Tryz.strings_Count_one s c w).mono fun e w' ⟨he, hw⟩ => ⟨by rw [he]; show _ = Ending.returned (Value.int .i64 ((Lib.count s.data.toList [c] : Nat) : Int)); rw [Lib.count_one]; rfl, hw⟩)
  (by decide) (by decide) (by rw [if_pos (by decide)]; omega)
 rw [Nat.add_sub_cancel, splitB_one, countB_one, List.length_map] at h
 have e2 : Lib.cellsOf ((Tx.split c s.data.toList).map str) (Tx.split c s.data.toList).length = (((Tx.split c s.data.toList).map str).map Value.string).toArray := by
  have := Lib.cellsOf_full ((Tx.split c s.data.toList).map str)
  rw [List.length_map] at this
  exact this
 rw [e2] at h
 exact h
set_option maxHeartbeats 400000 in
theorem split_at (s : ByteArray) (c : UInt8) (hs : s.size < 4294967281) (w : World) :
  Calls Tryz.prog 90 #[.string s, .string ⟨#[c]⟩] w fun e w' =>
   e = .returned (.slice (some ⟨w.heap.size, 0, none⟩) (Tx.split c s.data.toList).length (Tx.split c s.data.toList).length) ∧ w' = w.alloc (.cells (((Tx.split c s.data.toList).map str).map Value.string).toArray 9) := by
 have H := Lib.hid (genSplit_at s c hs w)
 clear hs
 go_enter Tryz.func90, Tryz.ntmps90
 go_wp2_with (go_at_call 113; refine H.out.mono ?_; rintro e w' ⟨rfl, rfl⟩)
 go_ret
 exact ⟨rfl, by rw [List.map_map]⟩
end Go.Proofs.YtkbekojnmdgdgaaGreatDoor
/- DfReader -/
namespace Go.Proofs.YtkbekojnmdgdgaaGreatDoor
open Go.RowKit
theorem sizeT (W : World) : (sizeOf 9).run Tryz.prog W = .ok 1 W := by kernel_rfl
theorem elemT : Tryz.prog.elem 39 = 9 := by kernel_rfl
theorem undT : Tryz.prog.underlying 39 = some (.slice (Tryz.prog.elem 39)) := by rw [elemT]; exact Tryz.underlying39
theorem slice_fromT (A : Option Addr) (n cap k : Nat) (h : k ≤ n) (ik : IntKind) (W : World) :
  (Instr.slice 39 (.slice A n cap) (some (.int ik (k : Int))) none none).run Tryz.prog W = .ok (.slice (tailA A cap k) (n - k) (cap - k)) W := by
 rw [run_slice_l (P := Tryz.prog) (w := W) 39 A n cap undT ik k (by omega) (by omega), elemT, sizeT]
 simp [Result.andThen, sliced, tailA]
theorem Strs.tail {w : World} {B : Nat} {A : Option Addr} {s : ByteArray} {ss : List ByteArray} (h : Strs w B A (s :: ss)) (cap : Nat) (hc : (s :: ss).length ≤ cap) : Strs w B (tailA A cap 1) ss := by
 refine ⟨fun i hi => ?_, fun hn => ?_⟩
 ·have := h.1 (i + 1) (by simpa using hi)
  simpa using this
 ·obtain ⟨b, off, e, hb, hcell⟩ := h.2 (by simp)
  refine ⟨b, off + 1, ?_, hb, fun i hi => ?_⟩
  ·rw [e]; unfold tailA
   rw [if_neg (by rw [List.length_cons] at hc; omega)]
   show some (Addr.add ⟨b, off, none⟩ 1) = _
   rw [add_off]
  ·have := hcell (i + 1) (by simpa using hi)
   rw [show off + 1 + i = off + (i + 1) by omega]
   simpa using this
def Rd (w : World) (g B : Nat) (ws : List (List UInt8)) (bad : Bool) : Prop :=
 ∃ A cap, w.heap[g]? = some (.cells #[.slice A ws.length cap, .bool bad] 177 (0, 0)) ∧ Strs w B A (ws.map str) ∧ ws.length ≤ cap ∧ B ≤ g
def Sm (ws : List (List UInt8)) : Prop := ws.length ≤ 1100 ∧ ∀ t ∈ ws, t.length ≤ 1100
theorem Rd.lt {w : World} {g B : Nat} {ws : List (List UInt8)} {bad : Bool} (h : Rd w g B ws bad) : g < w.heap.size := by obtain ⟨A, cap, h1, _⟩ := h; exact lt_of_block h1
theorem Rd.on {w w' : World} {g B : Nat} {ws : List (List UInt8)} {bad : Bool} (h : Rd w g B ws bad) (hb : Below w.heap.size w w') : Rd w' g B ws bad := by
 have hl := h.lt
 obtain ⟨A, cap, h1, h2, h3, h4⟩ := h
 exact ⟨A, cap, (hb.block _ hl).trans h1, h2.below (hb.mono (by omega)), h3, h4⟩
theorem Rd.bad_ {w : World} {g B : Nat} {ws : List (List UInt8)} {bad : Bool} (h : Rd w g B ws bad) : w.cell? ⟨g, 1, none⟩ = some (.bool bad) ∧ w.frozen? ⟨g, 1, none⟩ = false := by
 obtain ⟨A, cap, h1, _⟩ := h
 exact ⟨(obG h1).1.2, (obG h1).2.2⟩
theorem Rd.setBad {w : World} {g B : Nat} {ws : List (List UInt8)} {bad : Bool} (h : Rd w g B ws bad) (b : Bool) : Rd (w.setCell ⟨g, 1, none⟩ (.bool b)) g B ws b := by
 obtain ⟨A, cap, h1, h2, h3, h4⟩ := h
 exact ⟨A, cap, heap_setCell_same w g 1 _ _ _ h1, h2.below ((Below.refl _ _).setCell (p := ⟨g, 1, none⟩) h4 _), h3, h4⟩
theorem Df.opt_sm {key : List UInt8} {ws : List (List UInt8)} (h : Sm ws) : Sm (Df.opt key ws).2 ∧ ∀ v, (Df.opt key ws).1 = some v → v.length ≤ 1100 := by
 cases ws with
 | nil => exact ⟨h, fun v hv => by cases hv⟩
 | cons x r =>
  rw [Df.opt_cons]
  by_cases hp : key.isPrefixOf x = true
  ·rw [if_pos hp]
   refine ⟨⟨by have := h.1; simp only [List.length_cons] at this; show r.length ≤ 1100; omega, fun t ht => h.2 t (List.mem_cons_of_mem _ ht)⟩, fun v hv => ?_⟩
   injection hv with hv
   subst hv
   have := h.2 x (by simp)
   rw [List.length_drop]; omega
  ·rw [if_neg hp]
   exact ⟨h, fun v hv => by cases hv⟩
def TakeG (w : World) (g B : Nat) (o : Option (List UInt8) × List (List UInt8)) (bad : Bool) (e : Ending) (w' : World) : Prop :=
 e = .returned (.tuple #[.string (str (o.1.getD [])), .bool o.1.isSome]) ∧ Hid (Rd w' g B o.2 bad) ∧ Hid (But w.heap.size g w w')
set_option maxRecDepth 20000 in
set_option maxHeartbeats 1000000 in
theorem take_any (g B : Nat) (ws : List (List UInt8)) (bad : Bool) (key : List UInt8) (w : World) (hs : Sm ws) (h : Rd w g B ws bad) :
  Calls Tryz.prog 130 #[.pointer (some ⟨g, 0, none⟩), .string (str key)] w (TakeG w g B (Df.opt key ws) bad) := by
 have H := Lib.hid h
 cases ws with
 | nil =>
  obtain ⟨A, cap, h1, -⟩ := h
  obtain ⟨⟨c0, c1⟩, f0, f1⟩ := obG h1
  rw [List.length_nil] at c0
  clear h1
  go_enter Tryz.func130, Tryz.ntmps130
  go_wp2
  go_ret2
  exact ⟨rfl, H, Lib.hid (But.refl _ _ _)⟩
 | cons x r =>
  obtain ⟨A, cap, h1, h2, h3, h4⟩ := h
  obtain ⟨⟨c0, c1⟩, f0, f1⟩ := obG h1
  have CP := Lib.hid (Tryz.strings_CutPrefix (str x) (str key))
  rw [str_data, str_data] at CP
  unfold Lib.hasPrefix Lib.trimPrefix at CP
  obtain ⟨b, off, sx, rfl, hb, cx, hx, -⟩ := h2.at_ (k := 0) (by simp)
  have hx2 : sx = str x := by rw [← hx.out]; rfl
  subst hx2
  rw [Nat.add_zero] at cx
  obtain ⟨n, hn⟩ : ∃ n, n = r.length := ⟨_, rfl⟩
  rw [List.length_cons, ← hn] at c0 h1 h3
  have c0' : w.cell? ⟨g, 0, none⟩ = some (.slice (some ⟨b, off, none⟩) (n + 1) cap) := c0
  have n9 : (n : Int) + 1 ≤ 1100 := by have := hs.1; simp only [List.length_cons] at this; omega
  cases hp : key.isPrefixOf x with
  | false =>
   have EO : Hid (Df.opt key (x :: r) = (none, x :: r)) := Lib.hid (by rw [Df.opt_cons, if_neg (by rw [hp]; simp)])
   unfold Lib.hasPrefix at CP
   rw [hp] at CP
   clear hp h1 h2 h3 h4 hs hn
   go_enter Tryz.func130, Tryz.ntmps130
   go_wp2_with (go_at_call 144; refine (CP.out _).mono ?_; rintro e w' ⟨rfl, rfl⟩)
   go_ret2
   rw [EO.out]
   exact ⟨rfl, H, Lib.hid (But.refl _ _ _)⟩
  | true =>
   have EO : Hid (Df.opt key (x :: r) = (some (x.drop key.length), r)) := Lib.hid (by rw [Df.opt_cons, if_pos hp])
   unfold Lib.hasPrefix at CP
   rw [hp, if_pos rfl] at CP
   have hsl : ∀ W, (Instr.slice 39 (.slice (some ⟨b, off, none⟩) (n + 1) cap) (some (.int .i64 1)) none none).run Tryz.prog W = .ok (.slice (tailA (some ⟨b, off, none⟩) cap 1) n (cap - 1)) W := slice_fromT (some ⟨b, off, none⟩) (n + 1) cap 1 (by omega) .i64
   have RN : Hid (Rd (w.setCell ⟨g, 0, none⟩ (.slice (tailA (some ⟨b, off, none⟩) cap 1) n (cap - 1))) g B r bad) := Lib.hid (by
    refine ⟨tailA (some ⟨b, off, none⟩) cap 1, cap - 1, ?_, ?_, ?_, h4⟩
    ·rw [← hn]; exact heap_setCell_same w g 0 _ _ _ h1
    ·exact (h2.tail cap (by simp; omega)).below ((Below.refl _ _).setCell (p := ⟨g, 0, none⟩) h4 _)
    ·omega)
   clear hp h1 h2 h3 h4 hs hn
   go_enter Tryz.func130, Tryz.ntmps130
   go_wp2_with (go_at_call 144; refine (CP.out _).mono ?_; rintro e w' ⟨rfl, rfl⟩)
   go_ret2
   rw [EO.out]
   exact ⟨rfl, RN, Lib.hid (But.set _ _ _ _ _)⟩
def Df.numI (u : Nat) : Option (List UInt8) → Int
 | none => u
 | some l => ((Df.num l).getD 0 : Nat)
def Df.numB : Option (List UInt8) → Bool
 | none => false
 | some l => (Df.num l).isNone
def NumR (w : World) (g B : Nat) (ws : List (List UInt8)) (x : Int) (bad : Bool) (e : Ending) (w' : World) : Prop :=
 e = .returned (.int .i64 x) ∧ Hid (Rd w' g B ws bad) ∧ Hid (But w.heap.size g w w')
set_option maxRecDepth 20000 in
set_option maxHeartbeats 1000000 in
theorem numberR_any (g B : Nat) (ws : List (List UInt8)) (bad : Bool) (key : List UInt8) (u : Nat) (w : World) (hs : Sm ws) (h : Rd w g B ws bad) :
  Calls Tryz.prog 116 #[.pointer (some ⟨g, 0, none⟩), .string (str key), .int .i64 u] w (NumR w g B (Df.opt key ws).2 (Df.numI u (Df.opt key ws).1) (bad || Df.numB (Df.opt key ws).1)) := by
 have TK := Lib.hid (take_any g B ws bad key w hs h)
 have SM := Lib.hid (Df.opt_sm (key := key) hs).2
 generalize Df.opt key ws = o at *
 obtain ⟨o, ws'⟩ := o
 simp only at SM ⊢
 cases o with
 | none =>
  have E : Hid ((bad || Df.numB none) = bad) := Lib.hid (by cases bad <;> rfl)
  clear h hs
  go_enter Tryz.func116, Tryz.ntmps116
  go_wp2_with fail
  refine TK.out.mono ?_; rintro e w1 ⟨rfl, r1, b1⟩
  go_wp2
  go_ret
  exact ⟨rfl, by rw [E.out]; exact r1, b1⟩
 | some l =>
  have hl := SM.out l rfl
  have RN := Lib.hid (readNumber_at (str l) (by rw [str_size]; omega))
  rw [str_data] at RN
  have XI : Hid (Df.numI u (some l) = ((Df.num l).getD 0 : Nat)) := Lib.hid rfl
  have XB : Hid (Df.numB (some l) = (Df.num l).isNone) := Lib.hid rfl
  unfold dnR at RN
  cases hn : Df.num l with
  | none =>
   rw [hn] at RN XI XB
   have E : Hid ((bad || Df.numB (some l)) = true) := Lib.hid (by rw [XB.out]; cases bad <;> rfl)
   have E2 : Hid (Df.numI u (some l) = 0) := Lib.hid XI.out
   clear h hs hl hn XI XB SM
   cases bad
   all_goals
    go_enter Tryz.func116, Tryz.ntmps116
    go_wp2_with fail
    refine TK.out.mono ?_; rintro e w1 ⟨rfl, r1, b1⟩
    obtain ⟨y0, y1⟩ := r1.out.bad_
    go_wp2_with (go_at_call 131; refine (RN.out _).mono ?_; rintro e w' ⟨rfl, rfl⟩)
    go_ret
    exact ⟨ret_int E2.out.symm, by rw [E.out]; exact Lib.hid (r1.out.setBad _), Lib.hid (b1.out.trans (But.set _ _ _ _ _))⟩
  | some v =>
   rw [hn] at RN XI XB
   have E : Hid ((bad || Df.numB (some l)) = bad) := Lib.hid (by rw [XB.out]; cases bad <;> rfl)
   have E2 : Hid (Df.numI u (some l) = (v : Nat)) := Lib.hid XI.out
   clear h hs hl hn XI XB SM
   cases bad
   all_goals
    go_enter Tryz.func116, Tryz.ntmps116
    go_wp2_with fail
    refine TK.out.mono ?_; rintro e w1 ⟨rfl, r1, b1⟩
    obtain ⟨y0, y1⟩ := r1.out.bad_
    go_wp2_with (go_at_call 131; refine (RN.out _).mono ?_; rintro e w' ⟨rfl, rfl⟩)
    go_ret
    exact ⟨ret_int E2.out.symm, by rw [E.out]; exact Lib.hid (r1.out.setBad _), Lib.hid (b1.out.trans (But.set _ _ _ _ _))⟩
def Df.onBad : Option (List UInt8) → Bool
 | some [] => true
 | _ => false
def StrR (w : World) (g B : Nat) (ws : List (List UInt8)) (x : List UInt8) (bad : Bool) (e : Ending) (w' : World) : Prop :=
 e = .returned (.string (str x)) ∧ Hid (Rd w' g B ws bad) ∧ Hid (But w.heap.size g w w')
set_option maxRecDepth 20000 in
set_option maxHeartbeats 1000000 in
theorem onR_any (g B : Nat) (ws : List (List UInt8)) (bad : Bool) (w : World) (hs : Sm ws) (h : Rd w g B ws bad) :
  Calls Tryz.prog 117 #[.pointer (some ⟨g, 0, none⟩)] w (StrR w g B (Df.opt Df.kO ws).2 ((Df.opt Df.kO ws).1.getD []) (bad || Df.onBad (Df.opt Df.kO ws).1)) := by
 have TK := Lib.hid (take_any g B ws bad Df.kO w hs h)
 rw [show str Df.kO = ⟨#[111, 110, 61]⟩ from rfl] at TK
 generalize Df.opt Df.kO ws = o at *
 obtain ⟨o, ws'⟩ := o
 simp only
 cases o with
 | none =>
  have E : Hid ((bad || Df.onBad none) = bad) := Lib.hid (by cases bad <;> rfl)
  clear h hs
  cases bad
  all_goals
   go_enter Tryz.func117, Tryz.ntmps117
   go_wp2_with fail
   refine TK.out.mono ?_; rintro e w1 ⟨rfl, r1, b1⟩
   obtain ⟨y0, y1⟩ := r1.out.bad_
   go_wp2
   go_ret
   exact ⟨rfl, by rw [E.out]; exact Lib.hid (r1.out.setBad _), Lib.hid (b1.out.trans (But.set _ _ _ _ _))⟩
 | some l =>
  cases hl : l.isEmpty with
  | true =>
   have hl2 := List.isEmpty_iff.1 hl
   subst hl2
   have E : Hid ((bad || Df.onBad (some [])) = true) := Lib.hid (by cases bad <;> rfl)
   have TK2 : Hid (Calls Tryz.prog 130 #[.pointer (some ⟨g, 0, none⟩), .string ⟨#[111, 110, 61]⟩] w fun e w' => e = .returned (.tuple #[.string ⟨#[]⟩, .bool true]) ∧ Hid (Rd w' g B ws' bad) ∧ Hid (But w.heap.size g w w')) := Lib.hid (TK.out.mono fun e w' hh => ⟨hh.1, hh.2⟩)
   clear h hs hl TK
   cases bad
   all_goals
    go_enter Tryz.func117, Tryz.ntmps117
    go_wp2_with fail
    refine TK2.out.mono ?_; rintro e w1 ⟨rfl, r1, b1⟩
    obtain ⟨y0, y1⟩ := r1.out.bad_
    go_wp2
    go_ret
    exact ⟨rfl, by rw [E.out]; exact Lib.hid (r1.out.setBad _), Lib.hid (b1.out.trans (But.set _ _ _ _ _))⟩
  | false =>
   obtain ⟨f1, f2⟩ := str_full hl
   have E : Hid ((bad || Df.onBad (some l)) = bad) := Lib.hid (by
    cases l with
    | nil => cases hl
    | cons x r => cases bad <;> rfl)
   have TK2 : Hid (Calls Tryz.prog 130 #[.pointer (some ⟨g, 0, none⟩), .string ⟨#[111, 110, 61]⟩] w fun e w' => e = .returned (.tuple #[.string (str l), .bool true]) ∧ Hid (Rd w' g B ws' bad) ∧ Hid (But w.heap.size g w w')) := Lib.hid (TK.out.mono fun e w' hh => ⟨hh.1, hh.2⟩)
   clear h hs hl TK
   obtain ⟨sl, hsl⟩ : ∃ s, s = str l := ⟨_, rfl⟩
   have HS := Lib.hid hsl
   rw [← hsl] at TK2 f1 f2
   clear hsl
   cases bad
   all_goals
    go_enter Tryz.func117, Tryz.ntmps117
    go_wp2_with fail
    refine TK2.out.mono ?_; rintro e w1 ⟨rfl, r1, b1⟩
    obtain ⟨y0, y1⟩ := r1.out.bad_
    go_wp2
    go_ret
    exact ⟨by rw [HS.out]; rfl, by rw [E.out]; exact Lib.hid (r1.out.setBad _), Lib.hid (b1.out.trans (But.set _ _ _ _ _))⟩
end Go.Proofs.YtkbekojnmdgdgaaGreatDoor
/- DfAfter -/
namespace Go.Proofs.YtkbekojnmdgdgaaGreatDoor
open Go.RowKit
def Df.idxI (nms : List (List UInt8)) (x : List UInt8) : Int := if x ∈ nms then ((nms.idxOf x : Nat) : Int) else -1
theorem idxFromS_str (x : List UInt8) : ∀ (nms : List (List UInt8)) (i : Nat), Lib.idxFromS (nms.map str) (str x) i = if x ∈ nms then ((i + nms.idxOf x : Nat) : Int) else -1
 | [], i => by simp [Lib.idxFromS]
 | z :: zs, i => by
  rw [List.map_cons, Lib.idxFromS, idxFromS_str x zs (i + 1)]
  by_cases h : z = x
  ·subst h
   rw [if_pos rfl, if_pos (by simp), List.idxOf_cons_self]
   simp
  ·have hc : (z :: zs).idxOf x = zs.idxOf x + 1 := by rw [List.idxOf_cons, beq_false_of_ne h]; rfl
   rw [if_neg (fun e => h (str_inj.1 e)), hc]
   by_cases hm : x ∈ zs
   ·rw [if_pos hm, if_pos (List.mem_cons_of_mem _ hm)]
    congr 1; omega
   ·rw [if_neg hm, if_neg (by
     intro hx
     rcases List.mem_cons.1 hx with e | hx
     ·exact h e.symm
     ·exact hm hx)]
theorem idx_str (nms : List (List UInt8)) (x : List UInt8) : Lib.idxOfS (nms.map str) (str x) = Df.idxI nms x := by
 unfold Lib.idxOfS Df.idxI
 rw [idxFromS_str, Nat.zero_add]
theorem Df.idxI_rng (nms : List (List UInt8)) (x : List UInt8) (h : nms.length ≤ 1100) : -1 ≤ Df.idxI nms x ∧ Df.idxI nms x ≤ 1100 ∧ (Df.idxI nms x < 0 ↔ x ∉ nms) := by
 unfold Df.idxI
 by_cases hm : x ∈ nms
 ·rw [if_pos hm]
  have := List.idxOf_lt_length_iff.2 hm
  exact ⟨by omega, by omega, ⟨fun e => by omega, fun e => absurd hm e⟩⟩
 ·rw [if_neg hm]
  exact ⟨by omega, by omega, ⟨fun _ => hm, fun _ => by omega⟩⟩
theorem index_any (nms : List (List UInt8)) (x : List UInt8) (A : Option Addr) (n cap B : Nat) (hn : n = nms.length) (hl : nms.length ≤ 1100) (w : World) (h : Strs w B A (nms.map str)) :
  Calls Tryz.prog 111 #[.slice A n cap, .string (str x)] w fun e w' => e = .returned (.int .i64 (Df.idxI nms x)) ∧ w' = w := by
 rw [← idx_str]
 subst hn
 cases nms with
 | nil => exact Tryz.slices_Index_string_empty A cap (str x) w
 | cons a r =>
  obtain ⟨b, off, rfl, hb, hc⟩ := h.2 (by simp)
  have := Tryz.slices_Index_string b off (a :: r).length cap ((a :: r).map str) (str x) w (by rw [List.length_map]; exact Nat.le_refl _) (by omega) hc
  rw [List.take_of_length_le (by rw [List.length_map]; exact Nat.le_refl _)] at this
  exact this
theorem split_piece (c : UInt8) : ∀ (t p : List UInt8), p ∈ Tx.split c t → p.length ≤ t.length
 | [], p, h => by simp [Tx.split] at h; subst h; simp
 | x :: r, p, h => by
  have ih := split_piece c r
  unfold Tx.split at h
  by_cases hx : x = c
  ·rw [if_pos hx] at h
   rcases List.mem_cons.1 h with rfl | h
   ·simp
   ·have := ih p h; simp only [List.length_cons]; omega
  ·rw [if_neg hx] at h
   rcases List.mem_cons.1 h with rfl | h
   ·have := ih ((Tx.split c r).headD []) (by rw [← Tx.split_head c r]; simp)
    simp only [List.length_cons]; omega
   ·have := ih p (by rw [← Tx.split_head c r]; exact List.mem_cons_of_mem _ h)
    simp only [List.length_cons]; omega
theorem OwnT.strs2 {w : World} {base g cap : Nat} {ts : List (List UInt8)} (h : OwnT w base (some ⟨g, 0, none⟩) cap (ts.map str)) (hs : ∀ t ∈ ts, t.length ≤ 1100) : Strs w (g + 1) (some ⟨g, 0, none⟩) (ts.map str) := by
 refine ⟨fun i hi => ?_, fun _ => ⟨g, 0, rfl, Nat.lt_succ_self _, fun i hi => by rw [Nat.zero_add]; exact h.val hi⟩⟩
 rw [List.length_map] at hi
 rw [List.getD_eq_getElem?_getD, List.getElem?_map, List.getElem?_eq_getElem hi]
 show (str ts[i]).size ≤ _
 have := hs _ (List.getElem_mem hi)
 rw [str_size]; omega
def Df.idxs (nms : List (List UInt8)) (ps : List (List UInt8)) : List Int := ps.map (Df.idxI nms)
def Df.neg (l : List Int) : Bool := l.any fun z => decide (z < 0)
def Df.afterL (nms : List (List UInt8)) : Option (List UInt8) → List Int
 | none => []
 | some v => Df.idxs nms (Tx.split 44 v)
def AftG (w : World) (g B : Nat) (ws : List (List UInt8)) (l : List Int) (bad : Bool) (e : Ending) (w' : World) : Prop :=
 ∃ A' cap', e = .returned (.slice A' l.length cap') ∧ Hid (OwnZ w' w.heap.size A' cap' l) ∧ Hid (Rd w' g B ws bad) ∧ Hid (But w.heap.size g w w')
theorem But.cell {B g b o : Nat} {w w' : World} (h : But B g w w') (hb : b < B) (hne : b ≠ g) : w'.cell? ⟨b, o, none⟩ = w.cell? ⟨b, o, none⟩ := by simp [World.cell?, h.block b hb hne]
theorem Rd.under {w w' : World} {g B B' : Nat} {ws : List (List UInt8)} {bad : Bool} (h : Rd w g B ws bad) (hb : Below B' w w') (hg : g < B') : Rd w' g B ws bad := by
 obtain ⟨A, cap, h1, h2, h3, h4⟩ := h
 exact ⟨A, cap, (hb.block _ hg).trans h1, h2.below (hb.mono (by omega)), h3, h4⟩
theorem But.two {B B' g : Nat} {a b c : World} (h : But B g a b) (hb : Below B' b c) (hB : B ≤ B') : But B g a c := h.trans ((But.of hb).mono hB)
set_option maxRecDepth 20000 in
set_option maxHeartbeats 4000000 in
theorem afterR_any (g B : Nat) (ws : List (List UInt8)) (bad : Bool) (nms : List (List UInt8)) (A : Option Addr) (n cap : Nat) (hn : n = nms.length) (hl : nms.length ≤ 1100) (w : World) (hs : Sm ws) (h : Rd w g B ws bad) (hN : Strs w B A (nms.map str)) (hB : B ≤ w.heap.size) :
  Calls Tryz.prog 115 #[.pointer (some ⟨g, 0, none⟩), .slice A n cap] w (AftG w g B (Df.opt Df.kA ws).2 (Df.afterL nms (Df.opt Df.kA ws).1) (bad || Df.neg (Df.afterL nms (Df.opt Df.kA ws).1))) := by
 have TK := Lib.hid (take_any g B ws bad Df.kA w hs h)
 rw [show str Df.kA = ⟨#[97, 102, 116, 101, 114, 61]⟩ from rfl] at TK
 have SM := Lib.hid (Df.opt_sm (key := Df.kA) hs).2
 generalize Df.opt Df.kA ws = o at *
 obtain ⟨o, ws'⟩ := o
 simp only at SM ⊢
 have GW := Lib.hid h.lt
 have BG : Hid (B ≤ g) := Lib.hid (by obtain ⟨_, _, _, _, _, h4⟩ := h; exact h4)
 have HB := Lib.hid hB
 have NS := Lib.hid hN
 have HN := Lib.hid hn
 have HL := Lib.hid hl
 cases o with
 | none =>
  have E : Hid ((bad || Df.neg (Df.afterL nms none)) = bad) := Lib.hid (by cases bad <;> rfl)
  clear h hs hN hB hn hl
  go_enter Tryz.func115, Tryz.ntmps115
  go_wp2_with fail
  refine TK.out.mono ?_; rintro e w1 ⟨rfl, r1, b1⟩
  go_wp2
  go_ret
  exact ⟨none, 0, rfl, Lib.hid (OwnZ.none_ _ _), by rw [E.out]; exact r1, b1⟩
 | some v =>
  have vl := SM.out v rfl
  have IX : Hid (∀ x W, Strs W B A (nms.map str) → Calls Tryz.prog 111 #[.slice A n cap, .string (str x)] W fun e w' => e = .returned (.int .i64 (Df.idxI nms x)) ∧ w' = W) := Lib.hid fun x W hW => index_any nms x A n cap B hn hl W hW
  have SP := Lib.hid (split_at (str v) 44 (by rw [str_size]; omega))
  rw [str_data] at SP
  have PL : Hid ((Tx.split 44 v).length ≤ 1101) := Lib.hid (by have := split_len 44 v; omega)
  have AL : Hid (Df.afterL nms (some v) = Df.idxs nms (Tx.split 44 v)) := Lib.hid rfl
  have SVD : Hid ((some v).getD [] = v) := Lib.hid rfl
  have PS : Hid (∀ t ∈ Tx.split 44 v, t.length ≤ 1100) := Lib.hid fun t ht => by have := split_piece 44 v t ht; omega
  generalize Tx.split 44 v = ps at *
  obtain ⟨m, hm⟩ : ∃ m, m = ps.length := ⟨_, rfl⟩
  have HM := Lib.hid hm
  have TK2 : Hid (Calls Tryz.prog 130 #[.pointer (some ⟨g, 0, none⟩), .string ⟨#[97, 102, 116, 101, 114, 61]⟩] w fun e w' => e = .returned (.tuple #[.string (str v), .bool true]) ∧ Hid (Rd w' g B ws' bad) ∧ Hid (But w.heap.size g w w')) := Lib.hid (TK.out.mono fun e w' hh => ⟨hh.1, hh.2⟩)
  rw [← hm] at SP PL
  have m9 := PL.out
  clear h hs hN hB hn hl vl hm TK SM SVD
  go_enter Tryz.func115, Tryz.ntmps115
  go_wp2_with fail
  refine TK2.out.mono ?_; rintro e w1 ⟨rfl, r1, b1⟩
  go_wp2_with fail
  (with_reducible refine (SP.out _).mono ?_); rintro e w2 ⟨rfl, hw2⟩
  obtain ⟨Y, hY⟩ : ∃ Y, Y = w1.heap.size := ⟨_, rfl⟩
  have B2 : Hid (Below Y w1 w2) := Lib.hid (by rw [hw2, hY]; exact (Below.refl _ _).alloc (Nat.le_refl _) _)
  have Z2 : Hid (w2.heap.size = Y + 1) := Lib.hid (by rw [hw2, hY]; simp)
  have V2 : Hid (∀ i (hi : i < ps.length), w2.cell? ⟨Y, i, none⟩ = some (.string (str ps[i]))) := Lib.hid (fun i hi => by
   rw [hw2, hY]
   have h1 := OwnT.lit w1 (ps.map str) (by rw [List.length_map]; have := HM.out; omega) ((ps.map str).map Value.string).toArray (by simp)
   have := h1.val (i := i) (by rw [List.length_map]; exact hi)
   rwa [List.getD_eq_getElem?_getD, List.getElem?_map, List.getElem?_eq_getElem hi] at this)
  have WY : Hid (w.heap.size ≤ Y) := Lib.hid (by rw [hY]; exact b1.out.size)
  have R2 : Hid (Rd w2 g B ws' bad) := Lib.hid (r1.out.on (by rw [← hY]; exact B2.out))
  have C2 : Hid (But w.heap.size g w w2) := Lib.hid (b1.out.two B2.out WY.out)
  rw [← hY]
  clear hw2 hY r1 b1 B2
  go_wp2_with fail
  go_loopw [7, 21] (fun lv iv wr => ∃ (k : Nat) (A3 : Option Addr) (cap3 : Nat) (b : Bool), k ≤ m ∧ iv = .int .i64 k ∧ lv = .slice A3 k cap3 ∧ Hid (OwnZ wr (Y + 1) A3 cap3 (Df.idxs nms (ps.take k))) ∧ Hid (b = (bad || Df.neg (Df.idxs nms (ps.take k)))) ∧ Hid (Rd wr g B ws' b) ∧ Hid (But w.heap.size g w wr) ∧ Hid (But (Y + 1) g w2 wr)) (fun _ iv _ => m - (intOf iv).toNat)
  case atStart => exact ⟨0, none, 0, bad, Nat.zero_le _, rfl, rfl, Lib.hid (OwnZ.none_ _ _), Lib.hid (by cases bad <;> rfl), R2, C2, Lib.hid (But.refl _ _ _)⟩
  case round =>
   obtain ⟨k, A3, cap3, b, hk, rfl, rfl, HO, HBAD, HR, HC, HY⟩ := hrel
   by_cases hlt : k < m
   ·have hlt' : (k : Int) < (m : Int) := by omega
    have hkp : Hid (k < ps.length) := Lib.hid (by rw [← HM.out]; exact hlt)
    have cp : wr.cell? ⟨Y, k, none⟩ = some (.string (str ps[k])) := (HY.out.cell (Nat.lt_succ_self _) (by have := GW.out; have := WY.out; omega)).trans (V2.out k hkp.out)
    have hix := Df.idxI_rng nms ps[k] HL.out
    have NX : Hid (Df.idxs nms (ps.take (k + 1)) = Df.idxs nms (ps.take k) ++ [Df.idxI nms ps[k]]) := Lib.hid (by unfold Df.idxs; rw [List.take_succ_eq_append_getElem hkp.out, List.map_append]; rfl)
    have IC := Lib.hid (IX.out ps[k] wr (NS.out.below (HC.out.below HB.out BG.out)))
    generalize ps[k] = pk at *
    generalize Df.idxI nms pk = z at *
    obtain ⟨i0, i1, i2⟩ := hix
    have IN : Hid (inI z) := Lib.hid ⟨by omega, by omega⟩
    have ML : Hid (k = (Df.idxs nms (ps.take k)).length) := Lib.hid (by unfold Df.idxs; rw [List.length_map, List.length_take]; have := hkp.out; omega)
    generalize Df.idxs nms (ps.take k) = zs at *
    obtain ⟨y0, y1⟩ := HR.out.bad_
    have NB : ∀ b' : Bool, b' = (b || decide (z < 0)) → Hid (b' = (bad || Df.neg (Df.idxs nms (ps.take (k + 1))))) := fun b' hb' => Lib.hid (by rw [hb', HBAD.out, NX.out]; unfold Df.neg; rw [List.any_append]; simp [Bool.or_assoc])
    have NB := Lib.hid NB
    have SZ : Hid (Y + 1 ≤ wr.heap.size) := Lib.hid (by have := HY.out.size; rw [Z2.out] at this; exact this)
    clear i2
    by_cases hz : z < 0
    ·clear i1
     cases b with
     | true =>
      have NB2 := NB.out true (by rfl)
      obtain ⟨W5, hW5⟩ : ∃ W5, W5 = (wr.setCell ⟨g, 1, none⟩ (.bool true)).alloc (.cells #[.int .i64 z] 3) := ⟨_, rfl⟩
      have W5' := Lib.hid hW5
      have R4 : Hid (Rd (wr.setCell ⟨g, 1, none⟩ (.bool true)) g B ws' true) := Lib.hid (HR.out.setBad true)
      have C4 : Hid (But (Y + 1) g wr W5) := Lib.hid (by rw [hW5]; exact (But.set _ _ _ _ _).two ((Below.refl (wr.setCell ⟨g, 1, none⟩ (.bool true)).heap.size _).alloc (Nat.le_refl _) _) (by have := SZ.out; simpa [World.setCell] using this))
      have R5 : Hid (Rd W5 g B ws' true) := Lib.hid (by rw [hW5]; exact R4.out.on ((Below.refl _ _).alloc (Nat.le_refl _) _))
      have O5 : Hid (OwnZ W5 (Y + 1) A3 cap3 zs) := Lib.hid (HO.out.keep fun a ha => by
       subst ha
       have h1 := HO.out.lt
       rw [hW5]
       exact (heap_alloc_old _ _ (by simpa [World.setCell] using h1.2)).trans (Below.heap_setCell _ _ _ _ (by have := GW.out; have := WY.out; show a.block ≠ g; omega)))
      have X5 : Hid (W5.cell? ⟨wr.heap.size, 0, none⟩ = some (.int .i64 z)) := Lib.hid (by
       rw [hW5]
       have := cell_lit (wr.setCell ⟨g, 1, none⟩ (.bool true)) (.int .i64 z) 3
       simpa [World.setCell] using this)
      have S5 : Hid (Y + 1 ≤ W5.heap.size) := Lib.hid (Nat.le_trans SZ.out C4.out.size)
      clear hW5 R4
      go_wp2_with fail
      (with_reducible refine IC.out.mono ?_); rintro e w3 ⟨rfl, rfl⟩
      go_wp2_with (at_builtin; rw [← W5'.out]; refine wp_appZ rfl (.tmp 39) (.tmp 41) rfl rfl ML.out O5.out S5.out rfl X5.out IN.out (by rw [← ML.out]; omega) ?_; intro A6 c6 w6 o6 d6; have D6 := Lib.hid (grownZ_below O5.out S5.out d6); have O6 := Lib.hid o6; clear o6 d6)
      go_roundw
      case rel => exact ⟨k + 1, A6, c6, true, by omega, by go_num, by rw [← ML.out], by rw [NX.out]; exact O6, NB2, Lib.hid (R5.out.under D6.out (by have := GW.out; have := WY.out; omega)), Lib.hid (HC.out.trans ((C4.out.mono (by have := WY.out; omega)).two D6.out (by have := WY.out; omega))), Lib.hid (HY.out.trans (C4.out.two D6.out (Nat.le_refl _)))⟩
      case measure => simp [intOf]; omega
     | false =>
      have NB2 := NB.out true (by simp [hz])
      obtain ⟨W5, hW5⟩ : ∃ W5, W5 = (wr.setCell ⟨g, 1, none⟩ (.bool true)).alloc (.cells #[.int .i64 z] 3) := ⟨_, rfl⟩
      have W5' := Lib.hid hW5
      have R4 : Hid (Rd (wr.setCell ⟨g, 1, none⟩ (.bool true)) g B ws' true) := Lib.hid (HR.out.setBad true)
      have C4 : Hid (But (Y + 1) g wr W5) := Lib.hid (by rw [hW5]; exact (But.set _ _ _ _ _).two ((Below.refl (wr.setCell ⟨g, 1, none⟩ (.bool true)).heap.size _).alloc (Nat.le_refl _) _) (by have := SZ.out; simpa [World.setCell] using this))
      have R5 : Hid (Rd W5 g B ws' true) := Lib.hid (by rw [hW5]; exact R4.out.on ((Below.refl _ _).alloc (Nat.le_refl _) _))
      have O5 : Hid (OwnZ W5 (Y + 1) A3 cap3 zs) := Lib.hid (HO.out.keep fun a ha => by
       subst ha
       have h1 := HO.out.lt
       rw [hW5]
       exact (heap_alloc_old _ _ (by simpa [World.setCell] using h1.2)).trans (Below.heap_setCell _ _ _ _ (by have := GW.out; have := WY.out; show a.block ≠ g; omega)))
      have X5 : Hid (W5.cell? ⟨wr.heap.size, 0, none⟩ = some (.int .i64 z)) := Lib.hid (by
       rw [hW5]
       have := cell_lit (wr.setCell ⟨g, 1, none⟩ (.bool true)) (.int .i64 z) 3
       simpa [World.setCell] using this)
      have S5 : Hid (Y + 1 ≤ W5.heap.size) := Lib.hid (Nat.le_trans SZ.out C4.out.size)
      clear hW5 R4
      go_wp2_with fail
      (with_reducible refine IC.out.mono ?_); rintro e w3 ⟨rfl, rfl⟩
      go_wp2_with (at_builtin; rw [← W5'.out]; refine wp_appZ rfl (.tmp 39) (.tmp 41) rfl rfl ML.out O5.out S5.out rfl X5.out IN.out (by rw [← ML.out]; omega) ?_; intro A6 c6 w6 o6 d6; have D6 := Lib.hid (grownZ_below O5.out S5.out d6); have O6 := Lib.hid o6; clear o6 d6)
      go_roundw
      case rel => exact ⟨k + 1, A6, c6, true, by omega, by go_num, by rw [← ML.out], by rw [NX.out]; exact O6, NB2, Lib.hid (R5.out.under D6.out (by have := GW.out; have := WY.out; omega)), Lib.hid (HC.out.trans ((C4.out.mono (by have := WY.out; omega)).two D6.out (by have := WY.out; omega))), Lib.hid (HY.out.trans (C4.out.two D6.out (Nat.le_refl _)))⟩
      case measure => simp [intOf]; omega
    ·have hz' : 0 ≤ z := by omega
     have hzd : decide (z < 0) = false := decide_eq_false hz
     clear i0
     cases b with
     | true =>
      have NB2 := NB.out true (by rfl)
      obtain ⟨W5, hW5⟩ : ∃ W5, W5 = (wr.setCell ⟨g, 1, none⟩ (.bool true)).alloc (.cells #[.int .i64 z] 3) := ⟨_, rfl⟩
      have W5' := Lib.hid hW5
      have R4 : Hid (Rd (wr.setCell ⟨g, 1, none⟩ (.bool true)) g B ws' true) := Lib.hid (HR.out.setBad true)
      have C4 : Hid (But (Y + 1) g wr W5) := Lib.hid (by rw [hW5]; exact (But.set _ _ _ _ _).two ((Below.refl (wr.setCell ⟨g, 1, none⟩ (.bool true)).heap.size _).alloc (Nat.le_refl _) _) (by have := SZ.out; simpa [World.setCell] using this))
      have R5 : Hid (Rd W5 g B ws' true) := Lib.hid (by rw [hW5]; exact R4.out.on ((Below.refl _ _).alloc (Nat.le_refl _) _))
      have O5 : Hid (OwnZ W5 (Y + 1) A3 cap3 zs) := Lib.hid (HO.out.keep fun a ha => by
       subst ha
       have h1 := HO.out.lt
       rw [hW5]
       exact (heap_alloc_old _ _ (by simpa [World.setCell] using h1.2)).trans (Below.heap_setCell _ _ _ _ (by have := GW.out; have := WY.out; show a.block ≠ g; omega)))
      have X5 : Hid (W5.cell? ⟨wr.heap.size, 0, none⟩ = some (.int .i64 z)) := Lib.hid (by
       rw [hW5]
       have := cell_lit (wr.setCell ⟨g, 1, none⟩ (.bool true)) (.int .i64 z) 3
       simpa [World.setCell] using this)
      have S5 : Hid (Y + 1 ≤ W5.heap.size) := Lib.hid (Nat.le_trans SZ.out C4.out.size)
      clear hW5 R4
      go_wp2_with fail
      (with_reducible refine IC.out.mono ?_); rintro e w3 ⟨rfl, rfl⟩
      go_wp2_with (at_builtin; rw [← W5'.out]; refine wp_appZ rfl (.tmp 39) (.tmp 41) rfl rfl ML.out O5.out S5.out rfl X5.out IN.out (by rw [← ML.out]; omega) ?_; intro A6 c6 w6 o6 d6; have D6 := Lib.hid (grownZ_below O5.out S5.out d6); have O6 := Lib.hid o6; clear o6 d6)
      go_roundw
      case rel => exact ⟨k + 1, A6, c6, true, by omega, by go_num, by rw [← ML.out], by rw [NX.out]; exact O6, NB2, Lib.hid (R5.out.under D6.out (by have := GW.out; have := WY.out; omega)), Lib.hid (HC.out.trans ((C4.out.mono (by have := WY.out; omega)).two D6.out (by have := WY.out; omega))), Lib.hid (HY.out.trans (C4.out.two D6.out (Nat.le_refl _)))⟩
      case measure => simp [intOf]; omega
     | false =>
      have NB2 := NB.out false (by rw [hzd]; rfl)
      obtain ⟨W5, hW5⟩ : ∃ W5, W5 = (wr.setCell ⟨g, 1, none⟩ (.bool false)).alloc (.cells #[.int .i64 z] 3) := ⟨_, rfl⟩
      have W5' := Lib.hid hW5
      have R4 : Hid (Rd (wr.setCell ⟨g, 1, none⟩ (.bool false)) g B ws' false) := Lib.hid (HR.out.setBad false)
      have C4 : Hid (But (Y + 1) g wr W5) := Lib.hid (by rw [hW5]; exact (But.set _ _ _ _ _).two ((Below.refl (wr.setCell ⟨g, 1, none⟩ (.bool false)).heap.size _).alloc (Nat.le_refl _) _) (by have := SZ.out; simpa [World.setCell] using this))
      have R5 : Hid (Rd W5 g B ws' false) := Lib.hid (by rw [hW5]; exact R4.out.on ((Below.refl _ _).alloc (Nat.le_refl _) _))
      have O5 : Hid (OwnZ W5 (Y + 1) A3 cap3 zs) := Lib.hid (HO.out.keep fun a ha => by
       subst ha
       have h1 := HO.out.lt
       rw [hW5]
       exact (heap_alloc_old _ _ (by simpa [World.setCell] using h1.2)).trans (Below.heap_setCell _ _ _ _ (by have := GW.out; have := WY.out; show a.block ≠ g; omega)))
      have X5 : Hid (W5.cell? ⟨wr.heap.size, 0, none⟩ = some (.int .i64 z)) := Lib.hid (by
       rw [hW5]
       have := cell_lit (wr.setCell ⟨g, 1, none⟩ (.bool false)) (.int .i64 z) 3
       simpa [World.setCell] using this)
      have S5 : Hid (Y + 1 ≤ W5.heap.size) := Lib.hid (Nat.le_trans SZ.out C4.out.size)
      clear hW5 R4
      go_wp2_with fail
      (with_reducible refine IC.out.mono ?_); rintro e w3 ⟨rfl, rfl⟩
      go_wp2_with (at_builtin; rw [← W5'.out]; refine wp_appZ rfl (.tmp 39) (.tmp 41) rfl rfl ML.out O5.out S5.out rfl X5.out IN.out (by rw [← ML.out]; omega) ?_; intro A6 c6 w6 o6 d6; have D6 := Lib.hid (grownZ_below O5.out S5.out d6); have O6 := Lib.hid o6; clear o6 d6)
      go_roundw
      case rel => exact ⟨k + 1, A6, c6, false, by omega, by go_num, by rw [← ML.out], by rw [NX.out]; exact O6, NB2, Lib.hid (R5.out.under D6.out (by have := GW.out; have := WY.out; omega)), Lib.hid (HC.out.trans ((C4.out.mono (by have := WY.out; omega)).two D6.out (by have := WY.out; omega))), Lib.hid (HY.out.trans (C4.out.two D6.out (Nat.le_refl _)))⟩
      case measure => simp [intOf]; omega
   ·obtain rfl : k = m := by omega
    have hge : ¬ (k : Int) < (k : Int) := by omega
    have EP : ps.take k = ps := List.take_of_length_le (Nat.le_of_eq HM.out.symm)
    rw [EP] at HO HBAD
    have LN : Hid (k = (Df.idxs nms ps).length) := Lib.hid (by unfold Df.idxs; rw [List.length_map]; exact HM.out)
    go_wp2
    go_ret
    exact ⟨A3, cap3, by rw [AL.out, ← LN.out]; rfl, by rw [AL.out]; exact Lib.hid (HO.out.low (by have := WY.out; omega)), by rw [AL.out, ← HBAD.out]; exact HR, HC⟩
end Go.Proofs.YtkbekojnmdgdgaaGreatDoor
/- DfJoin -/
namespace Go.Proofs.YtkbekojnmdgdgaaGreatDoor
open Go.RowKit
theorem join_tx (c : UInt8) : ∀ l : List (List UInt8), Lib.join l [c] = Tx.join c l
 | [] => rfl
 | [p] => by rw [Lib.join_one]; rfl
 | p :: q :: r => by
  rw [Tx.join_more c p (by simp), ← join_tx c (q :: r), Lib.join_cons, Lib.join_cons]
  unfold Lib.joinTail
  rw [List.map_cons, List.flatten_cons]
  simp
theorem jl_le {b : Nat} : ∀ {l : List (List UInt8)}, (∀ p ∈ l, p.length ≤ b) → Tx.jl l ≤ l.length * (b + 1)
 | [], _ => by simp [Tx.jl]
 | p :: r, h => by
  have h1 := jl_le fun x hx => h x (List.mem_cons_of_mem p hx)
  have h2 := h p (by simp)
  simp only [Tx.jl, List.length_cons, Nat.add_mul, Nat.one_mul]
  omega
theorem join_le {b : Nat} (c : UInt8) {l : List (List UInt8)} (h : ∀ p ∈ l, p.length ≤ b) : (Tx.join c l).length ≤ l.length * (b + 1) := by
 rw [Tx.join_len]
 have := jl_le h
 omega
theorem map_str_data (ts : List (List UInt8)) : (ts.map str).map (·.data.toList) = ts := by
 rw [List.map_map]
 conv => rhs; rw [← List.map_id ts]
 exact List.map_congr_left fun x _ => str_data x
theorem str_app (a b : List UInt8) : str a ++ str b = str (a ++ b) := by
 apply ByteArray.ext
 rw [ByteArray.data_append]; simp [str]
theorem joinD_any (A : Option Addr) (ts : List (List UInt8)) (n cap : Nat) (hn : n = ts.length) (h0 : 0 < ts.length) (c : UInt8) (w : World) (base : Nat) (h : OwnT w base A cap (ts.map str)) (hN : ts.length ≤ 1000000) (hlen : (Tx.join c ts).length ≤ 140737488355328) :
  Calls Tryz.prog 77 #[.slice A n cap, .string ⟨#[c]⟩] w (StrG w (str (Tx.join c ts))) := by
 obtain ⟨g, rfl, _, hg⟩ := h.shape (by simpa using h0)
 have hc := h.cap_
 rw [List.length_map] at hc
 have := Tryz.strings_Join g 0 cap (ts.map str) ⟨#[c]⟩ w (fun j x hx => by
  have hj : j < (ts.map str).length := (List.getElem?_eq_some_iff.1 hx).1
  rw [Nat.zero_add, h.val hj, List.getD_eq_getElem?_getD, hx]; rfl) hg (by simp; omega) (by simpa using hc) (by rw [map_str_data]; show (Lib.join ts [c]).length ≤ _; rw [join_tx]; exact hlen)
 rw [map_str_data, List.length_map, ← hn] at this
 refine this.mono fun e w' ⟨he, hb⟩ => ⟨?_, Lib.hid hb⟩
 rw [he]
 show Ending.returned (Value.string ⟨(Lib.join ts [c]).toArray⟩) = _
 rw [join_tx]
 rfl
theorem below_growD (w : World) (k : Nat) (os : Array Obj) : Below w.heap.size w (Sort.grow (w.drewN k) os) :=
 ⟨rfl, rfl, rfl, by simp [Sort.grow], fun b hb => by simp only [Sort.grow]; exact Array.getElem?_append_left hb⟩
theorem itoaD_any (v : Nat) (hv : v ≤ 9999) (w : World) (hF : FactsD w) : Calls Tryz.prog 123 #[.int .i64 v] w (StrG w (str (Lib.decDigits v))) := by
 refine (Tryz.strconv_Itoa v (by omega) (by omega) w hF).mono ?_
 rintro e w' ⟨rfl, k, os, rfl⟩
 refine ⟨?_, Lib.hid (below_growD w k os)⟩
 rw [Pl.itoa_nat]; rfl
def TextsB (w : World) (base : Nat) (us : List (List UInt8)) (e : Ending) (w' : World) : Prop :=
 ∃ A cap, e = .returned (.slice A us.length cap) ∧ Hid (OwnT w' base A cap (us.map str)) ∧ Hid (Below base w w')
set_option maxHeartbeats 1000000 in
theorem appendNumber_any (A : Option Addr) (ts : List (List UInt8)) (m cap base : Nat) (hm : m = ts.length) (key : List UInt8) (hkey : key.length ≤ 1000) (v u : Nat) (hv : v ≤ 9999) (hu : u ≤ 9999) (w : World) (hF : FactsD w) (h : OwnT w base A cap (ts.map str)) (hb : base ≤ w.heap.size) (hl : ts.length ≤ 100) :
  Calls Tryz.prog 101 #[.slice A m cap, .string (str key), .int .i64 v, .int .i64 u] w (TextsB w base (ts ++ Df.optW key (if (v : Int) = (u : Int) then none else some (Lib.decDigits v)))) := by
 by_cases he : v = u
 ·subst he
  rw [if_pos rfl]
  have H := Lib.hid h
  have HM : Hid ((ts ++ Df.optW key none).length = m) := Lib.hid (by rw [hm]; simp [Df.optW])
  have HT : Hid (ts ++ Df.optW key none = ts) := Lib.hid (by simp [Df.optW])
  have hd : ((v : Int) == (v : Int)) = true := by simp
  clear h hl hm hb hF
  go_enter Tryz.func101, Tryz.ntmps101
  go_wp2
  go_ret
  exact ⟨A, cap, by rw [HM.out]; rfl, by rw [HT.out]; exact H, Lib.hid (Below.refl _ _)⟩
 ·rw [if_neg (by omega)]
  have hd : ((v : Int) == (u : Int)) = false := beq_eq_false_iff_ne.2 (by omega)
  have IT := Lib.hid (itoaD_any v hv)
  have HT : Hid (ts ++ Df.optW key (some (Lib.decDigits v)) = ts ++ [key ++ Lib.decDigits v]) := Lib.hid rfl
  obtain ⟨dd, hdd⟩ : ∃ dd, dd = Lib.decDigits v := ⟨_, rfl⟩
  rw [← hdd] at IT HT ⊢
  have H := Lib.hid h
  have HB := Lib.hid hb
  have HM : Hid (m = (ts.map str).length) := Lib.hid (by rw [hm]; simp)
  have M9 : Hid ((ts.map str).length ≤ 1000000000) := Lib.hid (by simp; omega)
  have HFF := Lib.hid hF
  obtain ⟨s1, hs1⟩ : ∃ s, s = str dd := ⟨_, rfl⟩
  obtain ⟨s0, hs0⟩ : ∃ s, s = str key := ⟨_, rfl⟩
  have HS : Hid (s0 ++ s1 = str (key ++ dd)) := Lib.hid (by rw [hs0, hs1, str_app])
  have hsz : s0.size + s1.size ≤ 9223372036854775807 := by
   have h1 := Pl.dec_len 4 v (by decide) (by omega)
   rw [hs0, hs1, str_size, str_size, hdd]; omega
  rw [← hs1] at IT
  rw [← hs0]
  clear h hl hm hb hF he hdd hs1 hs0
  go_enter Tryz.func101, Tryz.ntmps101
  go_wp2_with fail
  (with_reducible refine (IT.out _ HFF.out).mono ?_); rintro e w2 ⟨rfl, c2⟩
  have O2 : Hid (OwnT (w2.alloc (.cells #[.string (s0 ++ s1)] 9)) base A cap (ts.map str)) := Lib.hid ((H.out.keep c2.out).keep ((Below.refl _ _).alloc (Nat.le_refl _) _))
  have Z2 : Hid (base ≤ (w2.alloc (.cells #[.string (s0 ++ s1)] 9)).heap.size) := Lib.hid (by have := c2.out.size; have := HB.out; simp; omega)
  have X2 : Hid ((w2.alloc (.cells #[.string (s0 ++ s1)] 9)).cell? ⟨w2.heap.size, 0, none⟩ = some (.string (s0 ++ s1))) := Lib.hid (cell_lit _ _ _)
  have B2 : Hid (Below base w (w2.alloc (.cells #[.string (s0 ++ s1)] 9))) := Lib.hid ((c2.out.mono HB.out).alloc (by have := c2.out.size; have := HB.out; omega) _)
  go_wp2_with (at_builtin; refine wp_appT rfl (.tmp 13) (.tmp 18) rfl rfl HM.out O2.out Z2.out rfl X2.out M9.out ?_; intro A5 c5 w5 o5 d5; have D5 := Lib.hid (grownT_below O2.out Z2.out d5); have O5 := Lib.hid o5; clear o5 d5)
  go_ret
  refine ⟨A5, c5, ?_, ?_, Lib.hid (B2.out.trans D5.out)⟩
  ·rw [HT.out]; simp
  ·rw [HT.out, List.map_append]
   show Hid (OwnT w5 base A5 c5 (ts.map str ++ [str (key ++ dd)]))
   rw [← HS.out]
   exact O5
end Go.Proofs.YtkbekojnmdgdgaaGreatDoor
