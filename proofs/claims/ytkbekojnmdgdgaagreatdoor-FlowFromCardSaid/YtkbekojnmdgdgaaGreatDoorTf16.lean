/-
  Part 16 of the texts behind the law: TDfLoops.
-/
import Derived.Test.YtkbekojnmdgdgaaGreatDoorTf13
import Derived.Test.YtkbekojnmdgdgaaGreatDoorTf2
import Derived.Deep.Cut
import Derived.Shelf.Abstract
/- DfLoops -/
namespace Go.Proofs.YtkbekojnmdgdgaaGreatDoor
open Go.RowKit Go.Maps
def fv (F : Nat) : Value := .func (.func F) #[] #[]
def TestAt (F : Nat) (p : Df.Task → Bool) : Prop := ∀ (t : Df.Task), Small t → ∀ (A : Option Addr) (c : Nat) (w : World), Calls Tryz.prog F #[tv t A c] w (BoolG w (p t))
theorem DefIn.at2 {w : World} {B : Nat} {A : Option Addr} {d : Df.D} {k : Nat} (h : DefIn w B A d) (hk : k < d.length) :
  ∃ b off A2 c2, A = some ⟨b, off, none⟩ ∧ Hid (b < B) ∧ Hid (Zs w B A2 d[k].after) ∧ Hid (d[k].after.length ≤ c2) ∧ Hid (numIn d[k]) ∧
   w.cell? ⟨b, off + k * 6, none⟩ = some (.string (str d[k].name)) ∧ w.cell? ⟨b, off + k * 6 + 1, none⟩ = some (.slice A2 d[k].after.length c2) ∧ w.cell? ⟨b, off + k * 6 + 2, none⟩ = some (.int .i64 d[k].retry) ∧
   w.cell? ⟨b, off + k * 6 + 3, none⟩ = some (.int .i64 d[k].wait) ∧ w.cell? ⟨b, off + k * 6 + 4, none⟩ = some (.int .i64 d[k].base) ∧ w.cell? ⟨b, off + k * 6 + 5, none⟩ = some (.string (str d[k].on)) := by
 obtain ⟨b, off, e, hb, hc⟩ := h.2 (by omega)
 obtain ⟨A2, c2, h0, h1, h2, h3, h4, h5, h6, h7⟩ := hc k hk
 exact ⟨b, off, A2, c2, e, Lib.hid hb, Lib.hid h6, Lib.hid h7, Lib.hid (h.1 _ (List.getElem_mem hk)), h0, h1, h2, h3, h4, h5⟩
def NoneTo (p : Df.Task → Bool) (d : Df.D) (k : Nat) : Prop := k ≤ d.length ∧ (d.take k).any p = false
theorem NoneTo.next {p : Df.Task → Bool} {d : Df.D} {k : Nat} (h : NoneTo p d k) (hk : k < d.length) (hp : p d[k] = false) : NoneTo p d (k + 1) :=
 ⟨hk, by rw [List.take_succ_eq_append_getElem hk, List.any_append, h.2, Bool.false_or, List.any_cons, hp]; rfl⟩
def FoundG (w : World) (b : Bool) (e : Ending) (w' : World) : Prop := ∃ i : Int, e = .returned (.int .i64 i) ∧ Hid (decide (0 ≤ i) = b) ∧ -1 ≤ i ∧ Hid (Below w.heap.size w w')
set_option maxRecDepth 20000 in
set_option maxHeartbeats 1000000 in
theorem indexFunc_any (F : Nat) (eF : ∀ args w, (callFunc F args).run Tryz.prog w = .ok (.enter F args) w) (p : Df.Task → Bool) (hp : TestAt F p) (A : Option Addr) (d : Df.D) (cap : Nat) (hf : Fair d) (w : World) (h : DefIn w w.heap.size A d) :
  Calls Tryz.prog 118 #[.slice A d.length cap, fv F] w (FoundG w (d.any p)) := by
 have H := Lib.hid h
 have HP := Lib.hid hp
 have HF := Lib.hid hf
 obtain ⟨n, hn⟩ : ∃ n, n = d.length := ⟨_, rfl⟩
 have HN := Lib.hid hn
 have hn9 : n ≤ 1100 := by rw [hn]; exact hf.1
 unfold fv
 rw [← hn]
 clear h hp hf hn
 go_enter Tryz.func118, Tryz.ntmps118
 go_wp2
 go_loopw [8] (fun iv wr => ∃ k : Nat, k ≤ n ∧ iv = .int .i64 k ∧ Hid (NoneTo p d k) ∧ Hid (Below w.heap.size w wr)) (fun iv _ => n - (intOf iv).toNat)
 case atStart => exact ⟨0, Nat.zero_le _, rfl, Lib.hid ⟨Nat.zero_le _, rfl⟩, Lib.hid (Below.refl _ _)⟩
 case round =>
  obtain ⟨k, hk, rfl, HK, HB⟩ := hrel
  by_cases hlt : k < n
  ·have hlt' : (k : Int) < (n : Int) := by omega
   have hkd : Hid (k < d.length) := Lib.hid (by rw [← HN.out]; exact hlt)
   obtain ⟨b, off, A2, c2, rfl, hb, z2, zc, ni, p0, p1, p2, p3, p4, p5⟩ := (H.out.below HB.out).at2 hkd.out
   have CT := Lib.hid (HP.out d[k] (HF.out.2 _ (List.getElem_mem hkd.out)) A2 c2)
   cases hpk : p d[k] with
   | true =>
    rw [hpk] at CT
    have R : Hid (decide (0 ≤ (k : Int)) = d.any p) := Lib.hid (by
     rw [List.any_eq_true.2 ⟨_, List.getElem_mem hkd.out, hpk⟩]
     exact decide_eq_true (by omega))
    clear hpk
    unfold tv at CT
    generalize d[k] = t at *
    go_wp2_with fail
    refine (CT.out _).mono ?_; rintro e w' ⟨rfl, b2⟩
    go_wp2
    go_ret
    exact ⟨k, rfl, R, by omega, Lib.hid (HB.out.trans (b2.out.mono HB.out.size))⟩
   | false =>
    rw [hpk] at CT
    have R := Lib.hid (HK.out.next hkd.out hpk)
    clear hpk
    unfold tv at CT
    generalize d[k] = t at *
    go_wp2_with fail
    refine (CT.out _).mono ?_; rintro e w' ⟨rfl, b2⟩
    go_wp2
    go_roundw
    case rel => exact ⟨k + 1, by omega, by go_num, R, Lib.hid (HB.out.trans (b2.out.mono HB.out.size))⟩
    case measure => simp [intOf]; omega
  ·obtain rfl : k = n := by omega
   have R : Hid (decide (0 ≤ (-1 : Int)) = d.any p) := Lib.hid (by
    have := HK.out.2
    rw [HN.out, List.take_length] at this
    rw [this]; rfl)
   have hge : ¬ (k : Int) < (k : Int) := by omega
   go_wp2
   go_ret
   exact ⟨-1, rfl, R, by omega, HB⟩
set_option maxRecDepth 20000 in
set_option maxHeartbeats 1000000 in
theorem containsFunc_any (F : Nat) (eF : ∀ args w, (callFunc F args).run Tryz.prog w = .ok (.enter F args) w) (p : Df.Task → Bool) (hp : TestAt F p) (A : Option Addr) (d : Df.D) (cap n : Nat) (hn : n = d.length) (hf : Fair d) (w : World) (h : DefIn w w.heap.size A d) :
  Calls Tryz.prog 93 #[.slice A n cap, fv F] w (BoolG w (d.any p)) := by
 have C := Lib.hid (indexFunc_any F eF p hp A d cap hf w h)
 rw [← hn] at C
 clear h hp hf hn
 unfold fv at C ⊢
 go_enter Tryz.func93, Tryz.ntmps93
 go_wp2_with fail
 refine C.out.mono ?_; rintro e w' ⟨i, rfl, hi, -, b2⟩
 go_wp2
 go_ret
 exact ⟨ret_bool hi.out, b2⟩
theorem wrongName_test : TestAt 94 (fun t => !Df.nameOk t) := fun t ht A c w => wrongName_any t ht A c w
theorem wrongNumber_test : TestAt 97 (fun t => !Df.numOk t) := fun t _ A c w => wrongNumber_any t A c w
theorem wrongName_enters : ∀ args w, (callFunc 94 args).run Tryz.prog w = .ok (.enter 94 args) w := _root_.Go.Proofs.enters_of Tryz.func94 (by kernel_rfl) rfl
theorem wrongNumber_enters : ∀ args w, (callFunc 97 args).run Tryz.prog w = .ok (.enter 97 args) w := _root_.Go.Proofs.enters_of Tryz.func97 (by kernel_rfl) rfl
def afters (d : Df.D) : Nat := (d.map fun t => t.after.length).sum
theorem afters_next {d : Df.D} {k : Nat} (hk : k < d.length) : afters (d.take (k + 1)) = afters (d.take k) + d[k].after.length := by
 unfold afters
 rw [List.take_succ_eq_append_getElem hk, List.map_append, List.sum_append]
 simp
theorem afters_le {d : Df.D} (hf : Fair d) (k : Nat) : afters (d.take k) ≤ 1100 * 1100 := by
 have h : ∀ l : Df.D, (∀ t ∈ l, t.after.length ≤ 1100) → afters l ≤ l.length * 1100 := by
  intro l
  induction l with
  | nil => intro _; exact Nat.le_refl _
  | cons a r ih =>
   intro h
   have h1 := ih fun t ht => h t (List.mem_cons_of_mem _ ht)
   have h2 := h a (by simp)
   unfold afters at h1 ⊢
   simp only [List.map_cons, List.sum_cons, List.length_cons]
   omega
 have h1 := h (d.take k) (fun t ht => (hf.2 t (List.mem_of_mem_take ht)).1)
 have h2 : (d.take k).length ≤ 1100 := by rw [List.length_take]; have := hf.1; omega
 exact Nat.le_trans h1 (Nat.mul_le_mul_right 1100 h2)
set_option maxRecDepth 20000 in
set_option maxHeartbeats 1000000 in
theorem lengthOfAfter_any (A : Option Addr) (d : Df.D) (cap n : Nat) (hn : n = d.length) (hf : Fair d) (w : World) (h : DefIn w w.heap.size A d) :
  Calls Tryz.prog 98 #[.agg #[.slice A n cap]] w (IntG w (afters d)) := by
 have H := Lib.hid h
 have HF := Lib.hid hf
 have HN := Lib.hid hn
 have hn9 : n ≤ 1100 := by rw [hn]; exact hf.1
 clear h hf hn
 obtain ⟨X, hX⟩ : ∃ X, X = w.heap.size := ⟨_, rfl⟩
 obtain ⟨W1, hW1⟩ : ∃ W1, W1 = w.alloc (.cells #[.slice A n cap] 37) := ⟨_, rfl⟩
 have P1 : W1.cell? ⟨X, 0, none⟩ = some (.slice A n cap) := by rw [hW1, hX]; exact cell_lit _ _ _
 have B1 : Hid (Below w.heap.size w W1) := Lib.hid (by rw [hW1]; exact (Below.refl _ _).alloc (Nat.le_refl _) _)
 go_enter Tryz.func98, Tryz.ntmps98
 go_wp2_with fail
 rw [← hW1, ← hX]
 clear hW1
 go_loopw [3, 9] (fun sv iv wr => ∃ k : Nat, k ≤ n ∧ iv = .int .i64 k ∧ sv = .int .i64 (afters (d.take k) : Nat) ∧ Hid (Below w.heap.size w wr)) (fun _ iv _ => n - (intOf iv).toNat)
 case atStart => exact ⟨0, Nat.zero_le _, rfl, rfl, B1⟩
 case round =>
  obtain ⟨k, hk, rfl, rfl, HB⟩ := hrel
  have hle := afters_le HF.out k
  by_cases hlt : k < n
  ·have hlt' : (k : Int) < (n : Int) := by omega
   have hkd : Hid (k < d.length) := Lib.hid (by rw [← HN.out]; exact hlt)
   obtain ⟨b, off, A2, c2, rfl, hb, z2, zc, ni, p0, p1, p2, p3, p4, p5⟩ := (H.out.below HB.out).at2 hkd.out
   have R := Lib.hid (afters_next hkd.out)
   have hle2 : d[k].after.length ≤ 1100 := (HF.out.2 _ (List.getElem_mem hkd.out)).1
   have BW : Hid (Below w.heap.size w (wr.alloc (.cells #[.string (str d[k].name), .slice A2 d[k].after.length c2, .int .i64 d[k].retry, .int .i64 d[k].wait, .int .i64 d[k].base, .string (str d[k].on)] 96))) := Lib.hid (HB.out.alloc HB.out.size _)
   generalize afters (d.take k) = s at *
   generalize d[k] = t at *
   go_wp2
   go_roundw
   case rel => exact ⟨k + 1, by omega, by go_num, by rw [R.out]; go_num, BW⟩
   case measure => simp [intOf]; omega
  ·obtain rfl : k = n := by omega
   have R : Hid (afters (d.take k) = afters d) := Lib.hid (by rw [HN.out, List.take_length])
   have hge : ¬ (k : Int) < (k : Int) := by omega
   go_wp2
   go_ret
   exact ⟨ret_int (by rw [R.out]), HB⟩
theorem skey_law : Keyed Tryz.prog 9 := string_keyed Tryz.underlying9
theorem key_str (l : List UInt8) (h : l.length ≤ 1100) : keyOf Tryz.prog 9 (.string (str l)) = some (.string l) := by
 have := WideMaps.keyOf_string_mk Tryz.underlying9 (s := str l) (by rw [str_size]; unfold maxLen; omega)
 rw [str_data] at this
 exact this
def TSet (w : World) (m c : Nat) (S : List (List UInt8)) : Prop :=
 ∃ D : DataW Unit, w.ownsMap Tryz.prog 9 unitElem m c D ∧ (∀ l, Maps.has D (.string l) = decide (l ∈ S)) ∧ Maps.size D = S.length
def addT (S : List (List UInt8)) (l : List UInt8) : List (List UInt8) := if l ∈ S then S else S ++ [l]
theorem TSet.lt {w : World} {m c : Nat} {S : List (List UInt8)} (h : TSet w m c S) : m < w.heap.size := by obtain ⟨D, h, _⟩ := h; exact World.ownsMap.lt h
theorem TSet.keep {w w' : World} {m c : Nat} {S : List (List UInt8)} (h : TSet w m c S) (hk : w'.heap[m]? = w.heap[m]?) : TSet w' m c S := by
 obtain ⟨D, ⟨es, clock, hb, r⟩, h2⟩ := h
 exact ⟨D, ⟨es, clock, hk.trans hb, r⟩, h2⟩
theorem TSet.grew {w w' : World} {m c : Nat} {S : List (List UInt8)} (h : TSet w m c S) (hb : Below w.heap.size w w') : TSet w' m c S := h.keep (hb.block m h.lt)
theorem TSet.made (w : World) : TSet (w.alloc (.map #[] 0)) w.heap.size 0 [] := ⟨.map [], World.ownsMap_made w _ _ _, fun _ => rfl, rfl⟩
theorem TSet.store {w : World} {m c : Nat} {S : List (List UInt8)} (h : TSet w m c S) (hc : c ≤ 1000000000) (l : List UInt8) (hl : l.length ≤ 1100) :
  ∃ w', (Instr.mapUpdate 181 (.map (some m)) (.string (str l)) (.agg #[])).run Tryz.prog w = .ok () w' ∧ TSet w' m (c + 1) (addT S l) ∧ w.mapTurned w' m := by
 obtain ⟨D, h, h2, h3⟩ := h
 obtain ⟨w', hr, ho, ht⟩ := h.store skey_law Tryz.underlying181 (by unfold maxLen; omega) (key_str l hl) (d := .agg []) (ps := []) unitElem_mk
 refine ⟨w', hr, ⟨_, ho, fun x => ?_, ?_⟩, ht⟩
 ·unfold addT
  by_cases hx : x = l
  ·subst hx
   rw [has_put_same h.isMap (skey_law.key (key_str x hl))]
   split
   ·next hm => exact (decide_eq_true hm).symm
   ·exact (decide_eq_true (by simp)).symm
  ·rw [has_put_other (fun e => hx (by injection e)), h2]
   split
   ·rfl
   ·exact decide_eq_decide.2 (by simp [hx])
 ·rw [size_put (h.tidy skey_law), h2]
  unfold addT
  by_cases hm : l ∈ S
  ·rw [decide_eq_true hm, if_pos rfl, if_pos hm, h3]
  ·rw [decide_eq_false hm, if_neg (by simp), if_neg hm, h3]; simp
theorem TSet.len {w : World} {m c : Nat} {S : List (List UInt8)} (h : TSet w m c S) (ty : TypeId) : (Builtin.len_ #[181] ty #[.map (some m)]).run Tryz.prog w = .ok (.int .i64 (S.length : Int)) w := by
 obtain ⟨D, h, h2, h3⟩ := h
 have := h.len Tryz.underlying181 ty
 rw [h3] at this
 exact this
def setOfT (l : List (List UInt8)) : List (List UInt8) := l.foldl addT []
theorem setOfT_snoc (l : List (List UInt8)) (x : List UInt8) : setOfT (l ++ [x]) = addT (setOfT l) x := by unfold setOfT; rw [List.foldl_append]; rfl
theorem foldT_len : ∀ (l S : List (List UInt8)), (l.foldl addT S).length ≤ S.length + l.length ∧ ((l.foldl addT S).length = S.length + l.length ↔ l.Nodup ∧ ∀ x ∈ l, x ∉ S)
 | [], S => ⟨Nat.le_refl _, by simp⟩
 | a :: r, S => by
  obtain ⟨h1, h2⟩ := foldT_len r (addT S a)
  rw [List.foldl_cons, List.length_cons]
  by_cases hm : a ∈ S
  ·have e : addT S a = S := by unfold addT; rw [if_pos hm]
   rw [e] at h1 ⊢
   refine ⟨by omega, fun e => by omega, fun e => absurd hm (e.2 a (by simp))⟩
  ·have e : addT S a = S ++ [a] := by unfold addT; rw [if_neg hm]
   rw [e, List.length_append, List.length_singleton] at h1 h2
   rw [e]
   refine ⟨by omega, ?_⟩
   rw [show S.length + (r.length + 1) = S.length + 1 + r.length by omega, h2, List.nodup_cons]
   constructor
   ·rintro ⟨g1, g2⟩
    refine ⟨⟨fun ha => g2 a ha (by simp), g1⟩, fun x hx => ?_⟩
    rcases List.mem_cons.1 hx with rfl | hx
    ·exact hm
    ·exact fun hs => g2 x hx (List.mem_append.2 (.inl hs))
   ·rintro ⟨⟨g1, g2⟩, g3⟩
    refine ⟨g2, fun x hx hs => ?_⟩
    rcases List.mem_append.1 hs with hs | hs
    ·exact g3 x (List.mem_cons_of_mem _ hx) hs
    ·simp only [List.mem_singleton] at hs
     subst hs
     exact g1 hx
theorem setOfT_le (l : List (List UInt8)) : (setOfT l).length ≤ l.length ∧ ((setOfT l).length = l.length ↔ l.Nodup) := by
 have h := foldT_len l []
 simpa [setOfT] using h
set_option maxRecDepth 20000 in
set_option maxHeartbeats 1000000 in
theorem hasSameName_any (A : Option Addr) (d : Df.D) (cap n : Nat) (hn : n = d.length) (hf : Fair d) (w : World) (h : DefIn w w.heap.size A d) :
  Calls Tryz.prog 95 #[.agg #[.slice A n cap]] w (BoolG w (decide (¬ (Df.names d).Nodup))) := by
 have H := Lib.hid h
 have HF := Lib.hid hf
 have HN := Lib.hid hn
 have hn9 : n ≤ 1100 := by rw [hn]; exact hf.1
 clear h hf hn
 have hmm := @run_makeMap Tryz.prog
 obtain ⟨X, hX⟩ : ∃ X, X = w.heap.size := ⟨_, rfl⟩
 obtain ⟨W1, hW1⟩ : ∃ W1, W1 = (w.alloc (.cells #[.slice A n cap] 37)).alloc (.map #[] 0) := ⟨_, rfl⟩
 have P1 : Hid (W1.heap[X]? = some (.cells #[.slice A n cap] 37 (0, 0))) := Lib.hid (by rw [hW1, hX, Below.heap_alloc _ _ _ (by simp)]; exact heap_alloc_new ..)
 have M1 : Hid (TSet W1 (X + 1) 0 []) := Lib.hid (by
  rw [hW1, hX]
  have := TSet.made (w.alloc (.cells #[.slice A n cap] 37))
  rw [World.size_alloc] at this
  exact this)
 have B1 : Hid (Below X w W1) := Lib.hid (by rw [hW1, hX]; exact ((Below.refl _ _).alloc (Nat.le_refl _) _).alloc (by simp) _)
 have HX := Lib.hid hX
 have p1 : W1.cell? ⟨X, 0, none⟩ = some (.slice A n cap) := by simp [World.cell?, P1.out]
 go_enter Tryz.func95, Tryz.ntmps95
 go_wp2_with fail
 rw [← hW1, ← hX]
 clear hW1 hX hmm
 go_loopw [10] (fun iv wr => ∃ k : Nat, k ≤ n ∧ iv = .int .i64 k ∧ Hid (TSet wr (X + 1) k (setOfT ((Df.names d).take k))) ∧ Hid (wr.heap[X]? = some (.cells #[.slice A n cap] 37 (0, 0))) ∧ Hid (Below X w wr)) (fun iv _ => n - (intOf iv).toNat)
 case atStart => exact ⟨0, Nat.zero_le _, rfl, Lib.hid (by rw [List.take_zero]; exact M1.out), P1, B1⟩
 case round =>
  obtain ⟨k, hk, rfl, HM, HP, HB⟩ := hrel
  have p2 : wr.cell? ⟨X, 0, none⟩ = some (.slice A n cap) := by simp [World.cell?, HP.out]
  by_cases hlt : k < n
  ·have hlt' : (k : Int) < (n : Int) := by omega
   have hkd : Hid (k < d.length) := Lib.hid (by rw [← HN.out]; exact hlt)
   have HI : DefIn wr X A d := by have := H.out; rw [← HX.out] at this; exact this.below HB.out
   obtain ⟨b, off, A2, c2, rfl, hb, z2, zc, ni, p0, p1, p2, p3, p4, p5⟩ := HI.at2 hkd.out
   clear HI
   have hnm : (Df.names d).take (k + 1) = (Df.names d).take k ++ [d[k].name] := by
    unfold Df.names
    rw [← List.map_take, ← List.map_take, List.take_succ_eq_append_getElem hkd.out, List.map_append]; rfl
   have hsm := (HF.out.2 _ (List.getElem_mem hkd.out)).2.1
   obtain ⟨W2, hW2⟩ : ∃ W2, W2 = wr.alloc (.cells #[.string (str d[k].name), .slice A2 d[k].after.length c2, .int .i64 d[k].retry, .int .i64 d[k].wait, .int .i64 d[k].base, .string (str d[k].on)] 96) := ⟨_, rfl⟩
   have B2 : Hid (Below wr.heap.size wr W2) := Lib.hid (by rw [hW2]; exact (Below.refl _ _).alloc (Nat.le_refl _) _)
   have q2 : W2.cell? ⟨wr.heap.size, 0, none⟩ = some (.string (str d[k].name)) := by rw [hW2]; exact (ob6 (heap_alloc_new ..)).1
   obtain ⟨W3, hup, m3, t3⟩ := (HM.out.grew B2.out).store (by omega) d[k].name hsm
   have M3 : Hid (TSet W3 (X + 1) (k + 1) (setOfT ((Df.names d).take (k + 1)))) := Lib.hid (by rw [hnm, setOfT_snoc]; exact m3)
   have T3 := Lib.hid (turned_frame t3)
   have LT := lt_of_block HP.out
   clear m3 t3 hnm hsm
   have P3 : Hid (W3.heap[X]? = some (.cells #[.slice (some ⟨b, off, none⟩) n cap] 37 (0, 0))) := Lib.hid (((T3.out.2.2.2.2 _ (by omega)).trans (B2.out.block _ LT)).trans HP.out)
   have B3 : Hid (Below X w W3) := Lib.hid ((HB.out.trans (B2.out.mono (Nat.le_of_lt LT))).trans ⟨T3.out.1, T3.out.2.1, T3.out.2.2.1, Nat.le_of_eq T3.out.2.2.2.1.symm, fun i hi => T3.out.2.2.2.2 i (by omega)⟩)
   generalize d[k] = t at *
   go_upto_region 5 with fail
   rw [← hW2]
   clear hW2
   go_wp2
   go_roundw
   case rel => exact ⟨k + 1, by omega, by go_num, M3, P3, B3⟩
   case measure => simp [intOf]; omega
  ·obtain rfl : k = n := by omega
   have hln := HM.out.len
   obtain ⟨q1, q3⟩ := setOfT_le ((Df.names d).take k)
   have e1 : (Df.names d).take k = Df.names d := by rw [HN.out]; unfold Df.names; rw [← List.map_take, List.take_length]
   have e2 : (Df.names d).length = k := by rw [HN.out]; simp [Df.names]
   rw [e1] at q1 q3 hln
   rw [e2] at q1 q3
   have R : Hid (decide ((setOfT (Df.names d)).length < k) = !decide (Df.names d).Nodup) := Lib.hid (by
    rw [← decide_not, decide_eq_decide, ← q3]; omega)
   generalize (setOfT (Df.names d)).length = s at *
   clear q3 e1 e2
   have hge : ¬ (k : Int) < (k : Int) := by omega
   go_wp2
   go_ret
   exact ⟨ret_bool (by simpa using R.out), Lib.hid (by rw [← HX.out]; exact HB.out)⟩
end Go.Proofs.YtkbekojnmdgdgaaGreatDoor
