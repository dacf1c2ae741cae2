/-
  Part 24 of the texts behind the law: TFlFind, TFlDef, TFlStep, TFlDefine, TFlTick, TFlFirst, TFlNext.
-/
import Derived.Test.YtkbekojnmdgdgaaGreatDoorTf11
import Derived.Test.YtkbekojnmdgdgaaGreatDoorTf10
import Derived.Test.YtkbekojnmdgdgaaGreatDoorTf21
import Derived.Test.YtkbekojnmdgdgaaGreatDoorTf1
import Derived.Test.YtkbekojnmdgdgaaGreatDoorTf7
import Derived.Test.YtkbekojnmdgdgaaGreatDoorTf9
import Derived.Test.YtkbekojnmdgdgaaGreatDoorTf22
import Derived.Test.YtkbekojnmdgdgaaGreatDoorTf23
import Derived.BigQuiet
/- FlFind -/
namespace Go.Proofs.YtkbekojnmdgdgaaGreatDoor
open Go.RowKit Go.Maps
set_option maxRecDepth 20000
theorem eqB (a b : ByteArray) : (a.toList == b.toList) = decide (a = b) := by
 by_cases h : a = b
 ·subst h; simp
 ·rw [decide_eq_false h]; exact bs_ne h
def fvF (g : Nat) : Value := .func (.func 73) #[] #[.pointer (some ⟨g, 0, none⟩)]
theorem findF (g : Nat) (n x y : ByteArray) (w : World) (hx : w.cell? ⟨g, 0, none⟩ = some (.string n)) : Calls Tryz.prog 73 #[.agg #[.string x, .string y], .pointer (some ⟨g, 0, none⟩)] w (BoolG w (decide (x = n))) := by
 have BB : Hid (Below w.heap.size w (w.alloc (.cells #[.string x, .string y] 81))) := Lib.hid ((Below.refl _ _).alloc (Nat.le_refl _) _)
 have hx2 := (BB.out.cell (block_lt hx)).trans hx
 have E := Lib.hid (eqB x n)
 generalize decide (x = n) = v at *
 go_enter Tryz.func73, Tryz.ntmps73
 go_wp2
 go_ret
 exact ⟨ret_bool E.out, BB⟩
def FoundL (l : List (ByteArray × Df.D)) (n : ByteArray) (i : Int) : Prop :=
 (i = -1 ∧ l.find? (fun p => decide (p.1 = n)) = none) ∨ ∃ (k : Nat) (p : ByteArray × Df.D), i = (k : Int) ∧ l[k]? = some p ∧ p.1 = n ∧ l.find? (fun p => decide (p.1 = n)) = some p
theorem find_at (n : ByteArray) : ∀ (l : List (ByteArray × Df.D)) (k : Nat) (hk : k < l.length), (∀ j (hj : j < l.length), j < k → l[j].1 ≠ n) → l[k].1 = n → l.find? (fun p => decide (p.1 = n)) = some l[k]
 | [], k, hk, _, _ => by simp at hk
 | p :: r, 0, _, _, h => by
  rw [List.find?_cons_of_pos (by simpa using h)]
  rfl
 | p :: r, k + 1, hk, h0, h => by
  rw [List.find?_cons_of_neg (by have h1 : p.1 ≠ n := h0 0 (by simp) (by omega); simpa using h1)]
  have := find_at n r k (by simpa using hk) (fun j hj hjk => by have := h0 (j + 1) (by simpa using hj) (by omega); simpa using this) (by simpa using h)
  rw [this]
  simp
theorem find_none (n : ByteArray) {l : List (ByteArray × Df.D)} (h : ∀ j (hj : j < l.length), l[j].1 ≠ n) : l.find? (fun p => decide (p.1 = n)) = none := by
 rw [List.find?_eq_none]
 intro p hp
 obtain ⟨i, hi, rfl⟩ := List.getElem_of_mem hp
 simpa using h i hi
set_option maxHeartbeats 1000000 in
theorem indexDf (g : Nat) (n : ByteArray) (A : Option Addr) (l : List (ByteArray × Df.D)) (cap : Nat) (hl : l.length ≤ 16) (w : World) (h : OwnK w 0 81 2 A cap (l.map dfV)) (hx : w.cell? ⟨g, 0, none⟩ = some (.string n)) :
  Calls Tryz.prog 72 #[.slice A l.length cap, fvF g] w fun e w' => ∃ i, e = .returned (.int .i64 i) ∧ Hid (FoundL l n i) ∧ Hid (Below w.heap.size w w') := by
 have H := Lib.hid h
 have HX := Lib.hid hx
 obtain ⟨m, hm⟩ : ∃ m, m = l.length := ⟨_, rfl⟩
 have HM := Lib.hid hm
 have hm9 : m ≤ 16 := by rw [hm]; exact hl
 unfold fvF
 rw [← hm]
 clear h hl hm hx
 go_enter Tryz.func72, Tryz.ntmps72
 go_wp2
 go_loopw [8] (fun iv wr => ∃ k : Nat, k ≤ m ∧ iv = .int .i64 k ∧ Hid (∀ j (hj : j < l.length), j < k → l[j].1 ≠ n) ∧ Hid (Below w.heap.size w wr)) (fun iv _ => m - (intOf iv).toNat)
 case atStart => exact ⟨0, Nat.zero_le _, rfl, Lib.hid fun j _ hj => by omega, Lib.hid (Below.refl _ _)⟩
 case round =>
  obtain ⟨k, hk, rfl, HK, HB⟩ := hrel
  by_cases hlt : k < m
  ·have hlt' : (k : Int) < (m : Int) := by omega
   have hkd : Hid (k < l.length) := Lib.hid (by rw [← HM.out]; exact hlt)
   have H2 := Lib.hid (H.out.kept fun b _ hb => HB.out.block b hb)
   obtain ⟨b, rfl, -, hb⟩ := H2.out.shape (by rw [List.length_map]; exact Nat.lt_of_le_of_lt (Nat.zero_le _) hkd.out)
   obtain ⟨p0, p1⟩ := dfV_cells H2.out hkd.out
   obtain ⟨x, hx⟩ : ∃ x, x = l[k]'hkd.out := ⟨_, rfl⟩
   have HXX : Hid (∃ h : k < l.length, x = l[k]) := Lib.hid ⟨hkd.out, hx⟩
   rw [← hx] at p0 p1
   have CT := findF b.succ n x.1 (str (Df.showT x.2))
   have CF := Lib.hid (fun W (hW : Below w.heap.size w W) => findF g n x.1 (str (Df.showT x.2)) W ((hW.cell (block_lt HX.out)).trans HX.out))
   clear CT hx
   generalize str (Df.showT x.2) = tx at *
   by_cases hpk : x.1 = n
   ·have R : Hid (FoundL l n (k : Int)) := Lib.hid (by
     obtain ⟨hk2, e⟩ := HXX.out
     exact .inr ⟨k, x, rfl, by rw [List.getElem?_eq_getElem hk2, e], hpk, by rw [e]; exact find_at n l k hk2 (fun j hj hjk => HK.out j hj hjk) (by rw [← e]; exact hpk)⟩)
    rw [decide_eq_true hpk] at CF
    clear hpk
    generalize x.1 = x1 at *
    go_wp2_with fail
    refine (CF.out _ HB.out).mono ?_; rintro e w' ⟨rfl, b2⟩
    go_wp2
    go_ret
    exact ⟨k, rfl, R, Lib.hid (HB.out.trans (b2.out.mono HB.out.size))⟩
   ·have R : Hid (∀ j (hj : j < l.length), j < k + 1 → l[j].1 ≠ n) := Lib.hid fun j hj hjk => by
     obtain ⟨hk2, e⟩ := HXX.out
     by_cases he : j = k
     ·subst he; rw [← e]; exact hpk
     ·exact HK.out j hj (by omega)
    rw [decide_eq_false hpk] at CF
    clear hpk
    generalize x.1 = x1 at *
    go_wp2_with fail
    refine (CF.out _ HB.out).mono ?_; rintro e w' ⟨rfl, b2⟩
    go_wp2
    go_roundw
    case rel => exact ⟨k + 1, by omega, by go_num, R, Lib.hid (HB.out.trans (b2.out.mono HB.out.size))⟩
    case measure => simp [intOf]; omega
  ·obtain rfl : k = m := by omega
   have R : Hid (FoundL l n (-1)) := Lib.hid (.inl ⟨rfl, find_none n fun j hj => HK.out j hj (by rw [HM.out]; exact hj)⟩)
   have hge : ¬ (k : Int) < (k : Int) := by omega
   go_wp2
   go_ret
   exact ⟨-1, rfl, R, HB⟩
section
variable {w : World} {g : Nat} {a : FAt} {s : Fw.S}
theorem find_any (h : FPM w g a s) (n : ByteArray) : Calls Tryz.prog 56 #[.pointer (some ⟨g, 0, none⟩), .string n] w fun e w' => ∃ i, e = .returned (.int .i64 i) ∧ Hid (FoundL s.defs n i) ∧ Hid (Below w.heap.size w w') := by
 obtain ⟨w1, hw1⟩ : ∃ w1, w1 = w.alloc (.cells #[.string n] 9) := ⟨_, rfl⟩
 have B1 : Hid (Below w.heap.size w w1) := Lib.hid (by rw [hw1]; exact (Below.refl _ _).alloc (Nat.le_refl _) _)
 have x1 : w1.cell? ⟨w.heap.size, 0, none⟩ = some (.string n) := by rw [hw1]; simp
 have h1 := h.on B1.out
 obtain ⟨⟨-, c1, -, -, -⟩, -⟩ := h1.cells
 have C := Lib.hid (indexDf w.heap.size n a.D s.defs a.cd h.dm w1 h1.defs x1)
 unfold fvF at C
 generalize s.defs.length = m at *
 clear h h1
 go_enter Tryz.func56, Tryz.ntmps56
 go_upto_region 1 with (fail)
 rw [← hw1]
 clear hw1 x1
 go_wp2_with fail
 refine C.out.mono ?_; rintro e w' ⟨i, rfl, hi, b2⟩
 go_wp2
 go_ret
 exact ⟨i, rfl, hi, Lib.hid (B1.out.trans (b2.out.mono B1.out.size))⟩
end
end Go.Proofs.YtkbekojnmdgdgaaGreatDoor
/- FlDef -/
namespace Go.Proofs.YtkbekojnmdgdgaaGreatDoor
open Go.RowKit Go.Maps
set_option maxRecDepth 20000
def at0 : At3 := ⟨none, 0, none, 0, none, 0⟩
theorem flowNew_any (w : World) : Calls Tryz.prog 10 #[] w fun e w' => ∃ g M R, e = .returned (.pointer (some ⟨g, 0, none⟩)) ∧ FP w' g M R Fw.new ∧ (∀ i, R i → w.heap.size ≤ i) ∧ Below w.heap.size w w' := by
 have CN := Lib.hid (keysNew_any 128 w)
 go_enter Tryz.func10, Tryz.ntmps10
 go_wp2_with fail
 refine CN.out.mono ?_; rintro e w1 ⟨k, O, rfl, hk, ho, hb⟩
 have HK := Lib.hid hk
 have HO := Lib.hid ho
 have HB := Lib.hid hb
 clear hk ho hb
 go_wp2
 go_ret
 have hg : ∀ i, O i → i < w1.heap.size := HK.out.lt
 have h : FPM (w1.alloc (.cells #[.int .i64 0, .slice none 0 0, .slice none 0 0, .slice none 0 0, .pointer (some ⟨k, 0, none⟩)] 75)) w1.heap.size ⟨none, 0, none, 0, none, 0, k, O, fun _ => at0, fun _ => False⟩ Fw.new := by
  refine ⟨heap_alloc_new _ _, OwnK.none_ _ _ _ _, OwnK.none_ _ _ _ _, OwnK.none_ _ _ _ _, ?_, fun i hi => by simp [Fw.new] at hi, fun b hb => hb.elim, fun p hp => by simp [Fw.new] at hp, by decide, by decide⟩
  exact HK.out.keep (by simp) fun i hi => Below.heap_alloc _ _ _ (hg i hi)
 refine ⟨_, _, _, rfl, h.fp, fun i hi => ?_, HB.out.alloc HB.out.size _⟩
 rcases hi with (rfl | ⟨x, hx, _⟩ | ⟨x, hx, _⟩ | ⟨x, hx, _⟩ | hi) | hi
 ·exact HB.out.size
 ·cases hx
 ·cases hx
 ·cases hx
 ·exact HO.out i hi
 ·exact hi.elim
section
variable {w : World} {g : Nat} {a : FAt} {s : Fw.S}
theorem len_any (h : FPM w g a s) : Calls Tryz.prog 20 #[.pointer (some ⟨g, 0, none⟩)] w fun e w' => e = .returned (.int .i64 (s.runs.length : Int)) ∧ Hid (Below w.heap.size w w') := by
 obtain ⟨⟨-, -, c2, -, -⟩, -⟩ := h.cells
 clear h
 generalize s.runs.length = n at *
 go_enter Tryz.func20, Tryz.ntmps20
 go_wp2
 go_ret
 exact ⟨rfl, Lib.hid (Below.refl _ _)⟩
theorem key_any (h : FPM w g a s) (hI : Ky.Inv (Fw.ks s)) (n k : ByteArray) (hx : Ky.okk n k) : Calls Tryz.prog 14 #[.pointer (some ⟨g, 0, none⟩), .string n, .string k] w fun e w' => e = .returned (.tuple #[.int .i64 (Ky.getV (Fw.ks s) n k), .bool (Ky.getB (Fw.ks s) n k)]) ∧ Hid (Below w.heap.size w w') := by
 obtain ⟨⟨-, -, -, -, c4⟩, -⟩ := h.cells
 have C := Lib.hid (keysGet_any a.k a.K (Fw.ks s) n k w h.keys hI hx)
 clear h hx hI
 generalize Ky.getV (Fw.ks s) n k = v at *
 generalize Ky.getB (Fw.ks s) n k = b at *
 go_enter Tryz.func14, Tryz.ntmps14
 go_wp2_with fail
 refine C.out.mono ?_; rintro e w' ⟨rfl, b2⟩
 go_wp2
 go_ret2
 exact ⟨rfl, b2⟩
theorem keys_c (h : FPM w g a s) (hI : Ky.Inv (Fw.ks s)) : Calls Tryz.prog 45 #[.pointer (some ⟨g, 0, none⟩)] w fun e w' => ∃ A c, e = .returned (.slice A s.keys.length c) ∧ Hid (Below w.heap.size w w') ∧ Hid (Ents w' (fun b => w.heap.size ≤ b) A s.keys) ∧ Hid (s.keys.length ≤ c) := by
 obtain ⟨⟨-, -, -, -, c4⟩, -⟩ := h.cells
 have C := Lib.hid (keysAll_c a.k a.K (Fw.ks s) w h.keys hI)
 have e0 : (Fw.ks s).l = s.keys := rfl
 rw [e0] at C
 clear h hI e0
 generalize s.keys.length = n at *
 go_enter Tryz.func45, Tryz.ntmps45
 go_wp2_with fail
 refine C.out.mono ?_; rintro e w' ⟨A, c, rfl, b1, b2, b3⟩
 go_wp2
 go_ret
 exact ⟨A, c, rfl, b1, b2, b3⟩
def DefG (w : World) (o : Option Df.D) (e : Ending) (w' : World) : Prop :=
 ∃ A c, e = .returned (.tuple #[.agg #[.slice A (o.getD []).length c], .bool o.isSome]) ∧ Hid (DefIn w' w'.heap.size A (o.getD [])) ∧ Hid (Below w.heap.size w w')
theorem DefG.no {w w' : World} {o : Option Df.D} (h : o = none) (hb : Below w.heap.size w w') : DefG w o (.returned (.tuple #[.agg #[.slice none 0 0], .bool false])) w' := by
 subst h
 exact ⟨none, 0, rfl, Lib.hid DefIn.nil_, Lib.hid hb⟩
theorem DefG.yes {w w' : World} {o : Option Df.D} {d : Df.D} {A : Option Addr} {n c : Nat} (h : o = some d) (hn : n = d.length) (hd : DefIn w' w'.heap.size A d) (hb : Below w.heap.size w w') : DefG w o (.returned (.tuple #[.agg #[.slice A n c], .bool true])) w' := by
 subst h hn
 exact ⟨A, c, rfl, Lib.hid hd, Lib.hid hb⟩
set_option maxHeartbeats 1000000 in
theorem def_any (h : FPM w g a s) (hT : ∀ p ∈ s.defs, Df.parse (Df.showT p.2) = (p.2, 0)) (hF : FactsD w) (n : ByteArray) : Calls Tryz.prog 59 #[.pointer (some ⟨g, 0, none⟩), .string n] w (DefG w (Fw.lookD s n)) := by
 have LD : Hid (Fw.lookD s n = (s.defs.find? fun p => decide (p.1 = n)).map (·.2)) := Lib.hid rfl
 generalize Fw.lookD s n = o at *
 obtain ⟨w1, hw1⟩ : ∃ w1, w1 = w.alloc (.cells #[.slice none 0 0] 37) := ⟨_, rfl⟩
 have B1 : Hid (Below w.heap.size w w1) := Lib.hid (by rw [hw1]; exact (Below.refl _ _).alloc (Nat.le_refl _) _)
 have X1 : Hid (w1.heap[w.heap.size]? = some (.cells #[.slice none 0 0] 37 (0, 0))) := Lib.hid (by rw [hw1]; exact heap_alloc_new ..)
 have CF := Lib.hid (find_any (h.on B1.out) n)
 have H := Lib.hid h
 have HT := Lib.hid hT
 have HF := Lib.hid hF
 clear h hT hF
 go_enter Tryz.func59, Tryz.ntmps59
 go_upto_region 1 with (fail)
 rw [← hw1]
 clear hw1
 go_wp2_with fail
 refine CF.out.mono ?_; rintro e w2 ⟨i, rfl, hi, b2⟩
 have X2 : Hid (w2.heap[w.heap.size]? = some (.cells #[.slice none 0 0] 37 (0, 0))) := Lib.hid ((b2.out.block _ (lt_of_block X1.out)).trans X1.out)
 have B2 : Hid (Below w.heap.size w w2) := Lib.hid (B1.out.trans (b2.out.mono B1.out.size))
 clear X1 B1 b2 CF
 have FI := hi.out
 clear hi
 rcases FI with ⟨rfl, hn⟩ | ⟨k, p, rfl, hk, hp, hl⟩
 ·have R : Hid (o = none) := Lib.hid (by rw [LD.out, hn]; rfl)
  have x0 : w2.cell? ⟨w.heap.size, 0, none⟩ = some (.slice none 0 0) := by simp [World.cell?, X2.out]
  have x1 : w2.frozen? ⟨w.heap.size, 0, none⟩ = false := by simp [World.frozen?, X2.out]
  have BR : Hid (Below w.heap.size w (w2.setCell ⟨w.heap.size, 0, none⟩ (.slice none 0 0))) := Lib.hid (B2.out.setCell (p := ⟨w.heap.size, 0, none⟩) (Nat.le_refl _) _)
  clear hn
  go_wp2
  exact bodyPost_ret (v := .tuple #[.agg #[.slice none 0 0], .bool false]) (by simp [results, Tryz.results59, go_sem, x0]) rfl (DefG.no R.out BR.out)
 ·have R : Hid (o = some p.2) := Lib.hid (by rw [LD.out, hl]; rfl)
  obtain ⟨hk2, e2⟩ := List.getElem?_eq_some_iff.1 hk
  have hm : p ∈ s.defs := by rw [← e2]; exact List.getElem_mem _
  have SZ := (H.out.sz p hm).2
  have PT := HT.out p hm
  have H2 := Lib.hid (H.out.on B2.out)
  obtain ⟨⟨-, c1, -, -, -⟩, -⟩ := H2.out.cells
  obtain ⟨b, hA, -, hb⟩ := H2.out.defs.shape (by rw [List.length_map]; exact Nat.lt_of_le_of_lt (Nat.zero_le _) hk2)
  have HD := H2.out.defs
  rw [hA] at c1 HD
  obtain ⟨-, y1⟩ := dfV_cells HD hk2
  rw [e2] at y1
  have CP := Lib.hid (parse_wide (str (Df.showT p.2)) (by show (Df.showT p.2).toArray.size ≤ _; rw [List.size_toArray]; exact SZ) w2 (HF.out.on B2.out))
  rw [str_data, PT] at CP
  unfold ParseG at CP
  dsimp only at CP
  have hk3 : (k : Int) < (s.defs.length : Int) := by omega
  have hm9 := H.out.dm
  have DL : Hid (∃ d, d = p.2) := Lib.hid ⟨_, rfl⟩
  obtain ⟨m, hm2⟩ : ∃ m, m = p.2.length := ⟨_, rfl⟩
  have HM := Lib.hid hm2
  rw [← hm2] at CP
  clear hm2 DL SZ PT hm e2 hk hp hl HD hA LD
  generalize s.defs.length = q at *
  generalize str (Df.showT p.2) = tx at *
  go_wp2_with fail
  refine CP.out.mono ?_; rintro e w3 ⟨A3, c3, rfl, d3, b3⟩
  have X3 : Hid (w3.heap[w.heap.size]? = some (.cells #[.slice none 0 0] 37 (0, 0))) := Lib.hid ((b3.out.block _ (lt_of_block X2.out)).trans X2.out)
  have B3 : Hid (Below w.heap.size w w3) := Lib.hid (B2.out.trans (b3.out.mono B2.out.size))
  have X4 : Hid (w.heap.size < w3.heap.size) := Lib.hid (lt_of_block X3.out)
  clear X2 B2 b3 c1 y1 CP H2
  go_upto_region 5 with (fail)
  obtain ⟨w4, hw4⟩ : ∃ w4, w4 = w3.alloc (.cells #[.slice A3 m c3] 37) := ⟨_, rfl⟩
  have B4 : Hid (Below w3.heap.size w3 w4) := Lib.hid (by rw [hw4]; exact (Below.refl _ _).alloc (Nat.le_refl _) _)
  have x4 : w4.cell? ⟨w3.heap.size, 0, none⟩ = some (.slice A3 m c3) := by rw [hw4]; simp
  have X5 := (B4.out.block _ X4.out).trans X3.out
  have x5 : w4.cell? ⟨w.heap.size, 0, none⟩ = some (.slice none 0 0) := by simp [World.cell?, X5]
  have x6 : w4.frozen? ⟨w.heap.size, 0, none⟩ = false := by simp [World.frozen?, X5]
  have BR : Hid (Below w.heap.size w (w4.setCell ⟨w.heap.size, 0, none⟩ (.slice A3 m c3))) := Lib.hid ((B3.out.trans (B4.out.mono B3.out.size)).setCell (p := ⟨w.heap.size, 0, none⟩) (Nat.le_refl _) _)
  have DF : Hid (DefIn (w4.setCell ⟨w.heap.size, 0, none⟩ (.slice A3 m c3)) (w4.setCell ⟨w.heap.size, 0, none⟩ (.slice A3 m c3)).heap.size A3 p.2) := Lib.hid (by
   have := (d3.out.on B4.out).past X5 (.slice A3 m c3)
   have e : (w4.setCell ⟨w.heap.size, 0, none⟩ (.slice A3 m c3)).heap.size = w4.heap.size := by simp [World.setCell]
   rw [e]; exact this)
  rw [← hw4]
  clear hw4 X5
  go_wp2
  exact bodyPost_ret (v := .tuple #[.agg #[.slice A3 m c3], .bool true]) (by simp [results, Tryz.results59, go_sem, x5]) rfl (DefG.yes R.out HM.out DF.out BR.out)
end
end Go.Proofs.YtkbekojnmdgdgaaGreatDoor
/- FlStep -/
namespace Go.Proofs.YtkbekojnmdgdgaaGreatDoor
open Go.RowKit Go.Maps
set_option maxRecDepth 20000
structure StepM (g : Nat) (a a' : FAt) (w w' : World) : Prop where
 only : Only (mine g a) w w'
 m : ∀ k, mine g a' k → mine g a k ∨ w.heap.size ≤ k
 q : ∀ k, a'.Q k → a.Q k ∨ w.heap.size ≤ k
theorem StepM.of {g : Nat} {a : FAt} {w w' : World} (h : Below w.heap.size w w') : StepM g a a w w' := ⟨Only.of h, fun _ h => .inl h, fun _ h => .inl h⟩
theorem StepM.trans {g : Nat} {a b c : FAt} {x y z : World} (h : StepM g a b x y) (k : StepM g b c y z) : StepM g a c x z :=
 ⟨h.only.trans k.only h.m, fun i hi => by
  rcases k.m i hi with h1 | h1
  ·exact h.m i h1
  ·exact .inr (Nat.le_trans h.only.size h1), fun i hi => by
  rcases k.q i hi with h1 | h1
  ·exact h.q i h1
  ·exact .inr (Nat.le_trans h.only.size h1)⟩
theorem StepM.ahead {g : Nat} {a b : FAt} {x y z : World} (h : Below x.heap.size x y) (k : StepM g a b y z) : StepM g a b x z := (StepM.of h).trans k
theorem StepM.drew {g : Nat} {a b : FAt} {x y : World} (h : StepM g a b x y) : StepM g a b x y.drew := ⟨h.only.drew, h.m, h.q⟩
theorem StepM.step {g : Nat} {a a' : FAt} {w w' : World} {M R : Nat → Prop} (h : StepM g a a' w w') (hM : ∀ i, M i ↔ mine g a i) (hR : ∀ i, R i ↔ mine g a i ∨ a.Q i) : FStep M R (mine g a') (fun i => mine g a' i ∨ a'.Q i) w w' where
 only := h.only.mono fun k _ hk => (hM k).2 hk
 m := fun k hk => by
  rcases h.m k hk with h1 | h1
  ·exact .inl ((hM k).2 h1)
  ·exact .inr h1
 r := fun k hk => by
  rcases hk with hk | hk
  ·rcases h.m k hk with h1 | h1
   ·exact .inl ((hR k).2 (.inl h1))
   ·exact .inr h1
  ·rcases h.q k hk with h1 | h1
   ·exact .inl ((hR k).2 (.inr h1))
   ·exact .inr h1
theorem FPM.drew {w : World} {g : Nat} {a : FAt} {s : Fw.S} (h : FPM w g a s) : FPM w.drew g a s := h.keep (Nat.le_refl _) fun _ _ => rfl
section
variable {w w5 : World} {g : Nat} {a : FAt} {s : Fw.S}
theorem FPM.clock (h : FPM w g a s) (n : Int) : FPM (w.setCell ⟨g, 0, none⟩ (.int .i64 n)) g a { s with clock := n } ∧ StepM g a a w (w.setCell ⟨g, 0, none⟩ (.int .i64 n)) := by
 have hk : ∀ i, i ≠ g → (w.setCell ⟨g, 0, none⟩ (.int .i64 n)).heap[i]? = w.heap[i]? := fun i hi => Below.heap_setCell _ _ _ _ hi
 have hs : (w.setCell ⟨g, 0, none⟩ (.int .i64 n)).heap.size = w.heap.size := by simp [World.setCell]
 have ap := h.apart
 refine ⟨⟨heap_setCell_same w g 0 _ _ _ h.obj, h.defs.keepB fun i hi => hk i ?_, h.runs.keepB fun i hi => hk i ?_, h.of.keepB fun i hi => hk i ?_, h.keys.keep (Nat.le_of_eq hs.symm) fun i hi => hk i ?_, fun i hi => (h.inner i hi).keep (Nat.le_of_eq hs.symm) fun b hb _ => hk b ?_, fun b hb => ⟨by rw [hs]; exact (h.q b hb).1, (h.q b hb).2⟩, h.sz, h.dm, h.rm⟩, ⟨Only.set _ 0 w _ (.inl rfl), fun _ h => .inl h, fun _ h => .inl h⟩⟩
 ·rintro rfl; exact ap.d hi
 ·rintro rfl; exact ap.r hi
 ·rintro rfl; exact ap.f hi
 ·rintro rfl; exact ap.k hi
 ·rintro rfl; exact (h.q _ hb).2 (.inl rfl)
theorem grown_keep {w w' : World} {A : Option Addr} {n c : Nat} (h : w.grownBy w' (Value.slice A n c).ownBlock) : ∀ k, k < w.heap.size → ¬ isB A k → w'.heap[k]? = w.heap[k]? := fun k hk hn => h.block k hk fun e => hn (by
 cases A with
 | none => simp [Value.ownBlock] at e
 | some x => simp [Value.ownBlock] at e; exact ⟨x, rfl, e⟩)
theorem FPM.pushDef (h : FPM w g a s) {A5 : Option Addr} {c5 : Nat} {n : ByteArray} {d : Df.D} (o5 : OwnK w5 0 81 2 A5 c5 (s.defs.map dfV ++ [dfV (n, d)])) (g5 : w.grownBy w5 (Value.slice a.D (s.defs.map dfV).length a.cd).ownBlock)
  (l5 : ∀ x, A5 = some x → (∃ a0, a.D = some a0 ∧ x.block = a0.block) ∨ x.block = w.heap.size) (h1 : n.size ≤ 9223372036854775807) (h2 : (Df.showT d).length ≤ 9223372036854775807) (hm : s.defs.length < 16) {v : Value} (hv : v = .slice A5 (s.defs.length + 1) c5) :
  FPM (w5.setCell ⟨g, 1, none⟩ v) g { a with D := A5, cd := c5 } { s with defs := s.defs ++ [(n, d)] } ∧ StepM g a { a with D := A5, cd := c5 } w (w5.setCell ⟨g, 1, none⟩ v) := by
 subst hv
 have ap := h.apart
 have hs : (w5.setCell ⟨g, 1, none⟩ (.slice A5 (s.defs.length + 1) c5)).heap.size = w5.heap.size := by simp [World.setCell]
 have hk5 := grown_keep g5
 have hk : ∀ i, i ≠ g → i < w.heap.size → ¬ isB a.D i → (w5.setCell ⟨g, 1, none⟩ (.slice A5 (s.defs.length + 1) c5)).heap[i]? = w.heap[i]? := fun i hi hl hn => (Below.heap_setCell _ _ _ _ hi).trans (hk5 i hl hn)
 have hlt := h.lt
 have hA : ∀ i, isB A5 i → isB a.D i ∨ i = w.heap.size := fun i ⟨x, hx, hi⟩ => by
  rcases l5 x hx with ⟨a0, e1, e2⟩ | e
  ·exact .inl ⟨a0, e1, hi.trans e2⟩
  ·exact .inr (hi.trans e)
 have hg := hlt g (.inl (.inl rfl))
 have hM : ∀ k, mine g { a with D := A5, cd := c5 } k → mine g a k ∨ w.heap.size ≤ k := fun k hk => by
  rcases hk with rfl | hk | hk | hk | hk
  ·exact .inl (.inl rfl)
  ·rcases hA k hk with h1 | h1
   ·exact .inl (.inr (.inl h1))
   ·exact .inr (by omega)
  ·exact .inl (.inr (.inr (.inl hk)))
  ·exact .inl (.inr (.inr (.inr (.inl hk))))
  ·exact .inl (.inr (.inr (.inr (.inr hk))))
 refine ⟨⟨?_, ?_, h.runs.keepB fun i hi => hk i ?_ (hlt i (.inl (.inr (.inr (.inl hi))))) ?_, h.of.keepB fun i hi => hk i ?_ (hlt i (.inl (.inr (.inr (.inr (.inl hi)))))) ?_, h.keys.keep (by rw [hs]; exact g5.size) fun i hi => hk i ?_ (hlt i (.inl (.inr (.inr (.inr (.inr hi)))))) ?_,
  fun i hi => (h.inner i hi).keep (by rw [hs]; exact g5.size) fun b hb hl => hk b ?_ hl ?_, fun b hb => ⟨by rw [hs]; exact Nat.lt_of_lt_of_le (h.q b hb).1 g5.size, fun hm => ?_⟩, ?_, ?_, h.rm⟩, ⟨?_, hM, fun _ h => .inl h⟩⟩
 ·have e0 : w5.heap[g]? = _ := (hk5 g hg ap.d).trans h.obj
  have := heap_setCell_same w5 g 1 _ _ (.slice A5 (s.defs.length + 1) c5) e0
  rw [this]
  simp [flC]
 ·have := o5.keepB (w' := w5.setCell ⟨g, 1, none⟩ (.slice A5 (s.defs.length + 1) c5)) fun i hi => Below.heap_setCell _ _ _ _ (by
   rintro rfl
   rcases hA _ hi with h1 | h1
   ·exact ap.d h1
   ·omega)
  rw [List.map_append]
  exact this
 ·rintro rfl; exact ap.r hi
 ·exact fun hd => ap.dr i hd hi
 ·rintro rfl; exact ap.f hi
 ·exact fun hd => ap.df i hd hi
 ·rintro rfl; exact ap.k hi
 ·exact fun hd => ap.dk i hd hi
 ·rintro rfl; exact (h.q _ hb).2 (.inl rfl)
 ·exact fun hd => (h.q _ hb).2 (.inr (.inl hd))
 ·rcases hM b hm with h1 | h1
  ·exact (h.q b hb).2 h1
  ·have := (h.q b hb).1; omega
 ·intro p hp
  rcases List.mem_append.1 hp with hp | hp
  ·exact h.sz p hp
  ·obtain rfl := List.mem_singleton.1 hp
   exact ⟨h1, h2⟩
 ·show (s.defs ++ [(n, d)]).length ≤ 16
  rw [List.length_append, List.length_singleton]; omega
 ·exact (Only.grown g5 fun k e => .inr (.inl (by
   cases hD : a.D with
   | none => rw [hD] at e; simp [Value.ownBlock] at e
   | some x => rw [hD] at e; simp [Value.ownBlock] at e; exact ⟨x, rfl, e.symm⟩))).trans (Only.set (mine g a) 1 w5 _ (.inl rfl)) fun i hi => .inl hi
theorem OwnK.put4 {w : World} {base b cap : Nat} {T : TypeId} {vs : List (List Value)} (h : OwnK w base T 4 (some ⟨b, 0, none⟩) cap vs) {k : Nat} (hk : k < vs.length) (v0 v1 v2 v3 : Value) (h0 : v0.oneCell' = true) (h1 : v1.oneCell' = true) (h2 : v2.oneCell' = true) (h3 : v3.oneCell' = true) :
  OwnK ((((w.setCell ⟨b, k * 4, none⟩ v0).setCell ⟨b, k * 4 + 1, none⟩ v1).setCell ⟨b, k * 4 + 2, none⟩ v2).setCell ⟨b, k * 4 + 3, none⟩ v3) base T 4 (some ⟨b, 0, none⟩) cap (vs.set k [v0, v1, v2, v3]) := by
 have hl := (h.2 (vs.getD k []) (by rw [getD_at hk]; exact List.getElem_mem _)).1
 have p0 := h.put1 (j := 0) hk (by decide) h0
 have p1 := p0.put1 (i := k) (j := 1) (by simpa using hk) (by decide) h1
 have p2 := p1.put1 (i := k) (j := 2) (by simpa using hk) (by decide) h2
 have p3 := p2.put1 (i := k) (j := 3) (by simpa using hk) (by decide) h3
 have gs : ∀ (x : List Value), (vs.set k x).getD k [] = x := fun x => by rw [getD_at (by simpa using hk)]; simp
 simp only [gs, List.set_set] at p3
 obtain ⟨x0, x1, x2, x3, e⟩ : ∃ x0 x1 x2 x3, vs.getD k [] = [x0, x1, x2, x3] := by
  match vs.getD k [], hl with
  | [x0, x1, x2, x3], _ => exact ⟨x0, x1, x2, x3, rfl⟩
 rw [e] at p3
 exact p3
def RS (w : World) (b k : Nat) (p : At3) (n : Nat) (st : Int) (m l : Nat) : World := (((w.setCell ⟨b, k * 4, none⟩ (.slice p.A n p.ca)).setCell ⟨b, k * 4 + 1, none⟩ (.int .i64 st)).setCell ⟨b, k * 4 + 2, none⟩ (.slice p.T m p.ct)).setCell ⟨b, k * 4 + 3, none⟩ (.slice p.S l p.cs)
theorem RS.else_ (w : World) (b k : Nat) (p : At3) (n : Nat) (st : Int) (m l : Nat) {i : Nat} (hi : i ≠ b) : (RS w b k p n st m l).heap[i]? = w.heap[i]? :=
 (Below.heap_setCell _ _ _ _ hi).trans ((Below.heap_setCell _ _ _ _ hi).trans ((Below.heap_setCell _ _ _ _ hi).trans (Below.heap_setCell _ _ _ _ hi)))
theorem RS.size_ (w : World) (b k : Nat) (p : At3) (n : Nat) (st : Int) (m l : Nat) : (RS w b k p n st m l).heap.size = w.heap.size := by simp [RS, World.setCell]
theorem rnV_put {w : World} {base b cap k : Nat} {T : TypeId} {vs : List (List Value)} (h : OwnK w base T 4 (some ⟨b, 0, none⟩) cap vs) (hk : k < vs.length) (p : At3) (r : Rn.R) : OwnK (RS w b k p r.d.length r.st r.ts.length r.sg.length) base T 4 (some ⟨b, 0, none⟩) cap (vs.set k (rnV p r)) := h.put4 hk _ _ _ _ rfl rfl rfl rfl
theorem FPM.setRun (h : FPM w g a s) {b : Nat} (hR : a.R = some ⟨b, 0, none⟩) {k : Nat} (hk : k < s.runs.length) {p : At3} {r : Rn.R} {N : Nat → Prop} (hr : RunO w N p r) (hN : ∀ i, N i → i < w.heap.size ∧ ¬ mine g a i) :
  FPM (RS w b k p r.d.length r.st r.ts.length r.sg.length) g { a with f := fun i => if i = k then p else a.f i, Q := fun i => a.Q i ∨ N i } { s with runs := s.runs.modify k fun q => (r, q.2) } ∧
   Only (mine g a) w (RS w b k p r.d.length r.st r.ts.length r.sg.length) := by
 have ap := h.apart
 have hs := RS.size_ w b k p r.d.length r.st r.ts.length r.sg.length
 have ho : ∀ i, i ≠ b → (RS w b k p r.d.length r.st r.ts.length r.sg.length).heap[i]? = w.heap[i]? := fun i hi => RS.else_ w b k p _ _ _ _ hi
 have hb : isB a.R b := ⟨_, hR, rfl⟩
 have hlen : (s.runs.modify k fun q => (r, q.2)).length = s.runs.length := List.length_modify _ _ _
 refine ⟨⟨?_, h.defs.keepB fun i hi => ho i ?_, ?_, ?_, h.keys.keep (Nat.le_of_eq hs.symm) fun i hi => ho i ?_, fun i hi => ?_, fun i hi => ?_, h.sz, h.dm, by rw [hlen]; exact h.rm⟩, ?_⟩
 ·have := (ho g (by rintro rfl; exact ap.r hb)).trans h.obj
  rw [this]
  unfold flC
  rw [hlen]
 ·rintro rfl; exact ap.dr _ hi hb
 ·have := rnV_put (by have := h.runs; rw [hR] at this; exact this) (by rw [rsV_len]; exact hk) p r
  rw [rsV_set hk] at this
  rw [hR]
  exact this
 ·have h1 := h.of.keepB (w' := RS w b k p r.d.length r.st r.ts.length r.sg.length) fun i hi => ho i (by rintro rfl; exact ap.rf _ hb hi)
  have e : (s.runs.modify k fun q => (r, q.2)).map ofV = s.runs.map ofV := by
   refine List.ext_getElem (by simp) fun i h1 h2 => ?_
   rw [List.getElem_map, List.getElem_map, List.getElem_modify]
   split <;> rfl
  rw [e]
  exact h1
 ·rintro rfl; exact ap.rk _ hb hi
 ·have hi' : i < s.runs.length := by rw [← hlen]; exact hi
  rw [rAt_get hi, List.getElem_modify]
  by_cases e : i = k
  ·subst e
   simp only [if_pos]
   exact (hr.keep (Nat.le_of_eq hs.symm) fun c hc _ => ho c (by rintro rfl; exact (hN _ hc).2 (.inr (.inr (.inl hb))))).imp fun c _ hc => .inr hc
  ·rw [if_neg (Ne.symm e)]
   simp only [if_neg e]
   have := h.inner i hi'
   rw [rAt_get hi'] at this
   exact (this.keep (Nat.le_of_eq hs.symm) fun c hc _ => ho c (by rintro rfl; exact (h.q _ hc).2 (.inr (.inr (.inl hb))))).imp fun c _ hc => .inl hc
 ·rw [hs]
  rcases hi with hi | hi
  ·exact h.q i hi
  ·exact hN i hi
 ·exact ⟨rfl, rfl, rfl, Nat.le_of_eq hs.symm, fun i _ hi => ho i (by rintro rfl; exact hi (.inr (.inr (.inl hb))))⟩
theorem FPM.ofKept (h : FPM w g a s) (g5 : w.grownBy w5 (Value.slice a.R (rsV s.runs a.f).length a.cr).ownBlock) : OwnK w5 0 9 1 a.F a.cf (s.runs.map ofV) :=
 h.of.keepB fun i hi => grown_keep g5 i (h.lt i (.inl (.inr (.inr (.inr (.inl hi)))))) fun hr => h.apart.rf i hr hi
theorem FPM.pushRun {w6 w7 : World} (h : FPM w g a s) {A5 : Option Addr} {c5 : Nat} {p : At3} {r : Rn.R} {n : ByteArray} {N : Nat → Prop} (hr : RunO w N p r) (hN : ∀ i, N i → i < w.heap.size ∧ ¬ mine g a i)
  (o5 : OwnK w5 0 41 4 A5 c5 (rsV s.runs a.f ++ [rnV p r])) (g5 : w.grownBy w5 (Value.slice a.R (rsV s.runs a.f).length a.cr).ownBlock) (l5 : ∀ x, A5 = some x → (∃ a0, a.R = some a0 ∧ x.block = a0.block) ∨ x.block = w.heap.size)
  (b6 : Below w5.heap.size w5 w6) {A7 : Option Addr} {c7 : Nat} (o7 : OwnK w7 0 9 1 A7 c7 (s.runs.map ofV ++ [[.string n]])) (g7 : w6.grownBy w7 (Value.slice a.F (s.runs.map ofV).length a.cf).ownBlock) (l7 : ∀ x, A7 = some x → (∃ a0, a.F = some a0 ∧ x.block = a0.block) ∨ x.block = w6.heap.size)
  (hm : s.runs.length < 64) :
  FPM ((w7.setCell ⟨g, 2, none⟩ (.slice A5 (s.runs.length + 1) c5)).setCell ⟨g, 3, none⟩ (.slice A7 (s.runs.length + 1) c7)) g { a with R := A5, cr := c5, F := A7, cf := c7, f := fun i => if i = s.runs.length then p else a.f i, Q := fun i => a.Q i ∨ N i } { s with runs := s.runs ++ [(r, n)] } ∧
   Only (mine g a) w ((w7.setCell ⟨g, 2, none⟩ (.slice A5 (s.runs.length + 1) c5)).setCell ⟨g, 3, none⟩ (.slice A7 (s.runs.length + 1) c7)) ∧
   ∀ k, (k = g ∨ isB a.D k ∨ isB A5 k ∨ isB A7 k ∨ a.K k) → mine g a k ∨ w.heap.size ≤ k := by
 obtain ⟨w8, hw8⟩ : ∃ w8, w8 = (w7.setCell ⟨g, 2, none⟩ (.slice A5 (s.runs.length + 1) c5)).setCell ⟨g, 3, none⟩ (.slice A7 (s.runs.length + 1) c7) := ⟨_, rfl⟩
 rw [← hw8]
 have ap := h.apart
 have hlt := h.lt
 have s8 : w8.heap.size = w7.heap.size := by rw [hw8]; simp [World.setCell]
 have s5 := g5.size
 have s6 := b6.size
 have s7 := g7.size
 have k8 : ∀ i, i ≠ g → w8.heap[i]? = w7.heap[i]? := fun i hi => by rw [hw8]; exact (Below.heap_setCell _ _ _ _ hi).trans (Below.heap_setCell _ _ _ _ hi)
 have k7 : ∀ i, i < w.heap.size → ¬ isB a.R i → ¬ isB a.F i → w7.heap[i]? = w.heap[i]? := fun i hl h1 h2 => (grown_keep g7 i (by omega) h2).trans ((b6.block i (by omega)).trans (grown_keep g5 i hl h1))
 have hk : ∀ i, i ≠ g → i < w.heap.size → ¬ isB a.R i → ¬ isB a.F i → w8.heap[i]? = w.heap[i]? := fun i hi hl h1 h2 => (k8 i hi).trans (k7 i hl h1 h2)
 have hA : ∀ i, isB A5 i → isB a.R i ∨ i = w.heap.size := fun i ⟨x, hx, hi⟩ => by
  rcases l5 x hx with ⟨a0, e1, e2⟩ | e
  ·exact .inl ⟨a0, e1, hi.trans e2⟩
  ·exact .inr (hi.trans e)
 have hC : ∀ i, isB A7 i → isB a.F i ∨ i = w6.heap.size := fun i ⟨x, hx, hi⟩ => by
  rcases l7 x hx with ⟨a0, e1, e2⟩ | e
  ·exact .inl ⟨a0, e1, hi.trans e2⟩
  ·exact .inr (hi.trans e)
 have hg := hlt g (.inl (.inl rfl))
 have hM : ∀ k, (k = g ∨ isB a.D k ∨ isB A5 k ∨ isB A7 k ∨ a.K k) → mine g a k ∨ w.heap.size ≤ k := fun k hk => by
  rcases hk with rfl | hk | hk | hk | hk
  ·exact .inl (.inl rfl)
  ·exact .inl (.inr (.inl hk))
  ·rcases hA k hk with h1 | h1
   ·exact .inl (.inr (.inr (.inl h1)))
   ·exact .inr (by omega)
  ·rcases hC k hk with h1 | h1
   ·exact .inl (.inr (.inr (.inr (.inl h1))))
   ·exact .inr (by omega)
  ·exact .inl (.inr (.inr (.inr (.inr hk))))
 have ex : (s.runs ++ [(r, n)]).length = s.runs.length + 1 := by rw [List.length_append, List.length_singleton]
 refine ⟨⟨?_, h.defs.keepB fun i hi => hk i ?_ (hlt i (.inl (.inr (.inl hi)))) (ap.dr i hi) (ap.df i hi), ?_, ?_, h.keys.keep (by omega) fun i hi => hk i ?_ (hlt i (.inl (.inr (.inr (.inr (.inr hi)))))) (fun h1 => ap.rk i h1 hi) fun h1 => ap.fk i h1 hi, fun i hi => ?_, fun b hb => ?_, h.sz, h.dm, by rw [ex]; omega⟩, ?_, hM⟩
 ·have e0 : w7.heap[g]? = _ := (k7 g hg ap.r ap.f).trans h.obj
  have e1 := heap_setCell_same w7 g 2 _ _ (.slice A5 (s.runs.length + 1) c5) e0
  have e2 := heap_setCell_same _ g 3 _ _ (.slice A7 (s.runs.length + 1) c7) e1
  rw [hw8, e2]
  simp [flC, ex]
 ·rintro rfl; exact ap.d hi
 ·have := o5.keepB (w' := w8) fun i hi => (k8 i ?_).trans ((grown_keep g7 i (by have := o5.ltB hi; omega) ?_).trans (b6.block i (o5.ltB hi)))
  ·rw [rsV_app _ _ _ _ n] at this
   exact this
  ·rintro rfl
   rcases hA _ hi with h1 | h1
   ·exact ap.r h1
   ·omega
  ·intro hf
   rcases hA _ hi with h1 | h1
   ·exact ap.rf _ h1 hf
   ·have := hlt _ (.inl (.inr (.inr (.inr (.inl hf)))))
    omega
 ·have := o7.keepB (w' := w8) fun i hi => k8 i (by
   rintro rfl
   rcases hC _ hi with h1 | h1
   ·exact ap.f h1
   ·omega)
  rw [List.map_append]
  exact this
 ·rintro rfl; exact ap.k hi
 ·have qk : ∀ b, b < w.heap.size → ¬ mine g a b → w8.heap[b]? = w.heap[b]? := fun b hl hb => hk b (fun e => hb (.inl e)) hl (fun e => hb (.inr (.inr (.inl e)))) fun e => hb (.inr (.inr (.inr (.inl e))))
  rw [ex] at hi
  rw [rAt_get (by rw [ex]; exact hi), List.getElem_append]
  by_cases e : i = s.runs.length
  ·subst e
   rw [dif_neg (Nat.lt_irrefl _)]
   simp only [if_pos]
   have := (hr.keep (w' := w8) (by omega) fun c hc hl => qk c hl (hN c hc).2).imp (O' := fun i => a.Q i ∨ N i) fun c _ hc => .inr hc
   simpa using this
  ·have hl : i < s.runs.length := by omega
   rw [dif_pos hl]
   simp only [if_neg e]
   have := h.inner i hl
   rw [rAt_get hl] at this
   exact (this.keep (by omega) fun c hc hl => qk c hl (h.q c hc).2).imp fun c _ hc => .inl hc
 ·have hb2 : b < w.heap.size ∧ ¬ mine g a b := by
   rcases hb with hb | hb
   ·exact h.q b hb
   ·exact hN b hb
  refine ⟨by omega, fun hm => ?_⟩
  rcases hM b hm with h1 | h1
  ·exact hb2.2 h1
  ·omega
 ·refine ⟨?_, ?_, ?_, by omega, fun i hl hi => hk i (fun e => hi (.inl e)) hl (fun e => hi (.inr (.inr (.inl e)))) fun e => hi (.inr (.inr (.inr (.inl e))))⟩
  ·rw [hw8]; exact g7.os.trans (b6.os.trans g5.os)
  ·rw [hw8]; exact g7.tape.trans (b6.tape.trans g5.tape)
  ·rw [hw8]; exact g7.output.trans (b6.output.trans g5.output)
theorem FPM.putKey {w' : World} {O2 : Nat → Prop} {n k : ByteArray} {id : Int} (h : FPM w g a s) (hp : PK w' a.k O2 (Ky.putS (Fw.ks s) n k id)) (st : Step a.K O2 w w') :
  FPM w' g { a with K := O2 } { s with keys := (Ky.putS (Fw.ks s) n k id).l } ∧ StepM g a { a with K := O2 } w w' := by
 have ap := h.apart
 have hlt := h.lt
 have hk : ∀ i, i < w.heap.size → ¬ a.K i → w'.heap[i]? = w.heap[i]? := st.only.block
 have hM : ∀ i, mine g { a with K := O2 } i → mine g a i ∨ w.heap.size ≤ i := fun i hi => by
  rcases hi with rfl | hi | hi | hi | hi
  ·exact .inl (.inl rfl)
  ·exact .inl (.inr (.inl hi))
  ·exact .inl (.inr (.inr (.inl hi)))
  ·exact .inl (.inr (.inr (.inr (.inl hi))))
  ·rcases st.sub i hi with h1 | h1
   ·exact .inl (.inr (.inr (.inr (.inr h1))))
   ·exact .inr h1
 refine ⟨⟨(hk g (hlt g (.inl (.inl rfl))) ap.k).trans h.obj, h.defs.keepB fun i hi => hk i (hlt i (.inl (.inr (.inl hi)))) (ap.dk i hi), h.runs.keepB fun i hi => hk i (hlt i (.inl (.inr (.inr (.inl hi))))) (ap.rk i hi), h.of.keepB fun i hi => hk i (hlt i (.inl (.inr (.inr (.inr (.inl hi)))))) (ap.fk i hi), ?_,
  fun i hi => (h.inner i hi).keep st.only.size fun b hb hl => hk b hl fun e => (h.q b hb).2 (.inr (.inr (.inr (.inr e)))), fun b hb => ⟨Nat.lt_of_lt_of_le (h.q b hb).1 st.only.size, fun hm => ?_⟩, h.sz, h.dm, h.rm⟩, ⟨st.only.mono fun i _ hi => .inr (.inr (.inr (.inr hi))), hM, fun _ h => .inl h⟩⟩
 ·have hm : (Ky.putS (Fw.ks s) n k id).most = 128 := by unfold Ky.putS; split <;> rfl
  have e : Fw.ks { s with keys := (Ky.putS (Fw.ks s) n k id).l } = Ky.putS (Fw.ks s) n k id := by
   show (⟨128, (Ky.putS (Fw.ks s) n k id).l⟩ : Ky.S) = _
   rw [← hm]
  rw [e]
  exact hp
 ·rcases hM b hm with h1 | h1
  ·exact (h.q b hb).2 h1
  ·have := (h.q b hb).1; omega
end
end Go.Proofs.YtkbekojnmdgdgaaGreatDoor
/- FlDefine -/
namespace Go.Proofs.YtkbekojnmdgdgaaGreatDoor
open Go.RowKit Go.Maps
set_option maxRecDepth 20000
def ActG (w : World) (g : Nat) (a : FAt) (x : Int) (s' : Fw.S) (r : Ending) (w' : World) : Prop := r = .returned (.int .i64 x) ∧ Hid (∃ a', FPM w' g a' s' ∧ StepM g a a' w w')
theorem ActG.same {w w' : World} {g : Nat} {a : FAt} {s : Fw.S} {x y : Int} (h : FPM w g a s) (hb : Below w.heap.size w w') (hx : y = x) : ActG w g a x s (.returned (.int .i64 y)) w' := by
 subst hx
 exact ⟨rfl, Lib.hid ⟨a, h.on hb, StepM.of hb⟩⟩
theorem evBox (w : World) (e : Ev.E) (T : TypeId) : (w.alloc (.cells (evc e) T)).heap[w.heap.size]? = some (.cells (evc e) T (0, 0)) := heap_alloc_new _ _
theorem ev8 {w : World} {X : Nat} {e : Ev.E} {T : TypeId} (h : w.heap[X]? = some (.cells (evc e) T (0, 0))) :
  w.cell? ⟨X, 0, none⟩ = some (.int .i64 e.kind) ∧ w.cell? ⟨X, 1, none⟩ = some (.int .i64 e.run) ∧ w.cell? ⟨X, 2, none⟩ = some (.int .i64 e.task) ∧ w.cell? ⟨X, 3, none⟩ = some (.int .i64 e.try_) ∧
  w.cell? ⟨X, 4, none⟩ = some (.int .i64 e.n) ∧ w.cell? ⟨X, 5, none⟩ = some (.string e.name) ∧ w.cell? ⟨X, 6, none⟩ = some (.string e.key) ∧ w.cell? ⟨X, 7, none⟩ = some (.string e.data) := by
 simp [World.cell?, h, evc]
def Fw.defS (s : Fw.S) (e : Ev.E) : Fw.S := if Fw.defineE s e = 0 then Fw.defineS s e else s
set_option maxHeartbeats 2000000 in
theorem define_any {w : World} {g : Nat} {a : FAt} {s : Fw.S} (h : FPM w g a s) (hF : FactsE w) (e : Ev.E) (he : EvIn e) :
  Calls Tryz.prog 29 #[.pointer (some ⟨g, 0, none⟩), .agg (evc e)] w (ActG w g a (Fw.defineE s e) (Fw.defS s e)) := by
 have V : Hid (Fw.defineE s e = if (Fw.lookD s e.name).isSome = true then 5 else if (Df.parse (Fw.tx e.data)).2 ≠ 0 then (Df.parse (Fw.tx e.data)).2 else if 16 ≤ s.defs.length then 6 else 0) := Lib.hid rfl
 have VS : Hid (Fw.defS s e = if Fw.defineE s e = 0 then { s with defs := s.defs ++ [(e.name, (Df.parse (Fw.tx e.data)).1)] } else s) := Lib.hid rfl
 have LD : Hid (Fw.lookD s e.name = (s.defs.find? fun p => decide (p.1 = e.name)).map (·.2)) := Lib.hid rfl
 generalize Fw.defineE s e = v at *
 generalize Fw.defS s e = s2 at *
 generalize Fw.lookD s e.name = o at *
 obtain ⟨w1, hw1⟩ : ∃ w1, w1 = w.alloc (.cells (evc e) 28) := ⟨_, rfl⟩
 have B1 : Hid (Below w.heap.size w w1) := Lib.hid (by rw [hw1]; exact (Below.refl _ _).alloc (Nat.le_refl _) _)
 have X1 : Hid (w1.heap[w.heap.size]? = some (.cells (evc e) 28 (0, 0))) := Lib.hid (by rw [hw1]; exact evBox _ _ _)
 have CF := Lib.hid (find_any (h.on B1.out) e.name)
 have CP := Lib.hid (fun W (hW : Below w.heap.size w W) => parse_wide e.data he.data W (hF.on hW).d)
 have HF := Lib.hid hF
 have HE := Lib.hid he
 have H := Lib.hid h
 have PX : Hid (∃ x, x = Df.parse (Fw.tx e.data)) := Lib.hid ⟨_, rfl⟩
 obtain ⟨px, hpx⟩ := PX.out
 have PB : Hid (px.2 = 0 → Df.Ok px.1 ∧ (Df.showT px.1).length ≤ e.data.size) := Lib.hid fun h0 => by
  have := Df.parse_back (t := Fw.tx e.data) (d := px.1) (by rw [← hpx]; exact Prod.ext rfl h0)
  exact ⟨this.1, by rw [this.2.1]; exact Nat.le_trans this.2.2.1 (Nat.le_of_eq (Array.length_toList ..))⟩
 rw [← hpx] at V VS
 have hpx2 : px = Df.parse e.data.data.toList := hpx
 rw [← hpx2] at CP
 unfold ParseG at CP
 clear h hF he hpx hpx2 PX
 obtain ⟨⟨x0, x1, x2, x3, x4, x5, x6, x7⟩, -⟩ : _ ∧ True := ⟨ev8 X1.out, trivial⟩
 clear x0 x1 x2 x3 x4 x6 x7
 unfold evc at hw1 ⊢
 go_enter Tryz.func29, Tryz.ntmps29
 go_upto_region 1 with (fail)
 rw [← hw1]
 clear hw1
 go_wp2_with fail
 refine CF.out.mono ?_; rintro r w2 ⟨i, rfl, hi, b2⟩
 have X2 : Hid (w2.heap[w.heap.size]? = some (.cells (evc e) 28 (0, 0))) := Lib.hid ((b2.out.block _ (lt_of_block X1.out)).trans X1.out)
 have B2 : Hid (Below w.heap.size w w2) := Lib.hid (B1.out.trans (b2.out.mono B1.out.size))
 clear X1 B1 b2 CF x5
 have FI := hi.out
 clear hi
 rcases FI with ⟨rfl, hn⟩ | ⟨k, p, rfl, hk, hp, hl⟩
 ·have O : Hid (o = none) := Lib.hid (by rw [LD.out, hn]; rfl)
  have CQ := Lib.hid (CP.out w2 B2.out)
  obtain ⟨x0, x1, x2, x3, x4, x5, x6, x7⟩ := ev8 X2.out
  clear x0 x1 x2 x3 x4 x5 x6 hn CP
  go_wp2_with fail
  refine CQ.out.mono ?_; rintro r w3 ⟨A3, c3, rfl, d3, b3⟩
  have X3 : Hid (w3.heap[w.heap.size]? = some (.cells (evc e) 28 (0, 0))) := Lib.hid ((b3.out.block _ (lt_of_block X2.out)).trans X2.out)
  have B3 : Hid (Below w.heap.size w w3) := Lib.hid (B2.out.trans (b3.out.mono B2.out.size))
  have V2 : Hid (v = if px.2 ≠ 0 then px.2 else if 16 ≤ s.defs.length then 6 else 0) := Lib.hid (by rw [V.out, O.out]; rfl)
  clear X2 B2 b3 CQ x7 V O LD
  obtain ⟨d, x⟩ := px
  dsimp only at PB V2 VS d3 ⊢
  obtain ⟨n, hn⟩ : ∃ n, n = d.length := ⟨_, rfl⟩
  have HN := Lib.hid hn
  rw [← hn]
  clear hn
  by_cases hx : x = 0
  ·have PB2 := Lib.hid (PB.out hx)
   subst hx
   have V3 : Hid (v = if 16 ≤ s.defs.length then 6 else 0) := Lib.hid (by rw [V2.out, if_neg (fun h => h rfl)])
   clear V2 PB
   obtain ⟨w4, hw4⟩ : ∃ w4, w4 = w3.alloc (.cells #[.slice A3 n c3] 37) := ⟨_, rfl⟩
   have B4 : Hid (Below w3.heap.size w3 w4) := Lib.hid (by rw [hw4]; exact (Below.refl _ _).alloc (Nat.le_refl _) _)
   have y4 : w4.cell? ⟨w3.heap.size, 0, none⟩ = some (.slice A3 n c3) := by rw [hw4]; simp
   have W4 : Hid (Below w.heap.size w w4) := Lib.hid (B3.out.trans (B4.out.mono B3.out.size))
   have H4 := Lib.hid (H.out.on W4.out)
   obtain ⟨⟨-, c1, -, -, -⟩, -⟩ := H4.out.cells
   have hm9 := H.out.dm
   obtain ⟨m, hm⟩ : ∃ m, m = s.defs.length := ⟨_, rfl⟩
   have HM := Lib.hid hm
   rw [← hm] at c1 hm9
   go_upto_region 4 with (fail)
   rw [← hw4]
   clear hw4 hm
   by_cases hfull : 16 ≤ m
   ·have R : Hid (v = 6) := Lib.hid (by rw [V3.out, if_pos (by rw [← HM.out]; exact hfull)])
    have hf2 : (16 : Int) ≤ (m : Int) := by omega
    have RS : Hid (s2 = s) := Lib.hid (by rw [VS.out, if_neg (by rw [R.out]; decide)])
    clear V3 hfull y4
    go_wp2
    go_ret
    rw [RS.out]
    exact ActG.same H.out W4.out R.out.symm
   ·have R : Hid (v = 0) := Lib.hid (by rw [V3.out, if_neg (by rw [← HM.out]; exact hfull)])
    have hf2 : ¬ (16 : Int) ≤ (m : Int) := by omega
    have RS : Hid (s2 = { s with defs := s.defs ++ [(e.name, d)] }) := Lib.hid (by rw [VS.out, if_pos R.out])
    have X4 := (B4.out.block _ (lt_of_block X3.out)).trans X3.out
    obtain ⟨z0, z1, z2, z3, z4, z5, z6, z7⟩ := ev8 X4
    clear V3 hfull z0 z1 z2 z3 z4 z6 z7 X4
    go_upto_region 8 with (fail)
    have SD : Hid (∀ W, Below w4.heap.size w4 W → (W.cell? ⟨g, 1, none⟩ = some (.slice a.D m a.cd) ∧ W.cell? ⟨w.heap.size, 5, none⟩ = some (.string e.name) ∧ W.cell? ⟨w3.heap.size, 0, none⟩ = some (.slice A3 n c3))) := Lib.hid fun W hW => ⟨(hW.cell (block_lt c1)).trans c1, (hW.cell (block_lt z5)).trans z5, (hW.cell (block_lt y4)).trans y4⟩
    have CS : Hid (∀ W, Below w4.heap.size w4 W → Calls Tryz.prog 58 #[.agg #[.slice A3 n c3]] W (StrG W (str (Df.showT d)))) := Lib.hid fun W hW => by
     rw [HN.out]
     exact show_any A3 d c3 PB2.out.1.fair W ((HF.out.on W4.out).on hW).d ((d3.out.on B4.out).on hW)
    refine wp_region_C (fun w' => w'.cell? ⟨g, 1, none⟩ = some (.slice a.D m a.cd) ∧ w'.cell? ⟨w.heap.size, 5, none⟩ = some (.string e.name) ∧ w'.cell? ⟨w3.heap.size, 0, none⟩ = some (.slice A3 n c3)) 14 (by kernel_rfl) ?_
    have hS0 : (fun w' : World => w'.cell? ⟨g, 1, none⟩ = some (.slice a.D m a.cd) ∧ w'.cell? ⟨w.heap.size, 5, none⟩ = some (.string e.name) ∧ w'.cell? ⟨w3.heap.size, 0, none⟩ = some (.slice A3 n c3)) w4.drew := ⟨c1, z5, y4⟩
    clear c1 z5 y4
    refine takC 0 (h := ?_)
    try simp only [Act.put, List.setIfInBounds_toArray, List.set_cons_zero, List.set_cons_succ]
    refine takC 1 (h := ?_)
    try simp only [Act.put, List.setIfInBounds_toArray, List.set_cons_zero, List.set_cons_succ]
    refine takC 2 (h := ?_)
    try simp only [Act.put, List.setIfInBounds_toArray, List.set_cons_zero, List.set_cons_succ]
    refine takC 3 (h := ?_)
    try simp only [Act.put, List.setIfInBounds_toArray, List.set_cons_zero, List.set_cons_succ]
    refine takC 4 (h := ?_)
    try simp only [Act.put, List.setIfInBounds_toArray, List.set_cons_zero, List.set_cons_succ]
    refine takC 5 (h := ?_)
    try simp only [Act.put, List.setIfInBounds_toArray, List.set_cons_zero, List.set_cons_succ]
    refine takC 6 (h := ?_)
    try simp only [Act.put, List.setIfInBounds_toArray, List.set_cons_zero, List.set_cons_succ]
    refine takC 7 (h := ?_)
    try simp only [Act.put, List.setIfInBounds_toArray, List.set_cons_zero, List.set_cons_succ]
    refine wpAnyC_one (i := 8) (oi := ?o1) ?hi1 (by kernel_rfl) ?step1
    case hi1 => (simp only [List.getElem?_toArray, List.getElem?_cons_zero, List.getElem?_cons_succ]; exact rfl)
    intro K' hK
    (go_simp; go_at_call 58; (with_reducible refine (CS.out _ ((Below.refl _ w4).drew)).mono ?_); rintro r W5 ⟨rfl, b5⟩; have Q5 : Hid (Below w4.heap.size w4 W5) := Lib.hid ⟨b5.out.os, b5.out.tape, b5.out.output, b5.out.size, b5.out.block⟩; try dsimp only)
    refine hK.out _ _ ?_ (fun hHeld => ?_)
    ·exact fun _ => SD.out _ Q5.out
    clear hK K' hHeld
    try simp only [Act.put, List.setIfInBounds_toArray, List.set_cons_zero, List.set_cons_succ]
    obtain ⟨tx, htx⟩ : ∃ tx, tx = str (Df.showT d) := ⟨_, rfl⟩
    have TXE := Lib.hid htx
    rw [← htx]
    clear htx
    refine wpAnyC_one (i := 9) (oi := ?o2) ?hi2 (by kernel_rfl) ?step2
    case hi2 => (simp only [List.getElem?_toArray, List.getElem?_cons_zero, List.getElem?_cons_succ]; exact rfl)
    intro K' hK
    go_simp
    refine hK.out _ _ ?_ (fun hHeld => ?_)
    ·exact fun _ => SD.out _ Q5.out
    clear hK K' hHeld
    try simp only [Act.put, List.setIfInBounds_toArray, List.set_cons_zero, List.set_cons_succ]
    refine wpAnyC_one (i := 10) (oi := ?o3) ?hi3 (by kernel_rfl) ?step3
    case hi3 => (simp only [List.getElem?_toArray, List.getElem?_cons_zero, List.getElem?_cons_succ]; exact rfl)
    intro K' hK
    go_simp
    refine hK.out _ _ ?_ (fun hHeld => ?_)
    ·exact fun _ => (by have hb := Q5.out.trans (((Below.refl W5.heap.size W5).alloc (Nat.le_refl _) (.cells #[.string e.name, .string tx] 81)).mono Q5.out.size); exact SD.out _ hb)
    clear hK K' hHeld
    try simp only [Act.put, List.setIfInBounds_toArray, List.set_cons_zero, List.set_cons_succ]
    obtain ⟨w6, hw6⟩ : ∃ w6, w6 = W5.alloc (.cells #[.string e.name, .string tx] 81) := ⟨_, rfl⟩
    have L6 : Hid (w6.heap[W5.heap.size]? = some (.cells #[.string e.name, .string tx] 81 (0, 0))) := Lib.hid (by rw [hw6]; exact heap_alloc_new _ _)
    have Q6 : Hid (Below w4.heap.size w4 w6) := Lib.hid (by rw [hw6]; exact Q5.out.alloc Q5.out.size _)
    rw [← hw6]
    clear hw6
    have H6 := Lib.hid (H4.out.on Q6.out)
    have LM : Hid ((s.defs.map dfV).length = m) := Lib.hid (by rw [List.length_map, HM.out])
    have TX : Hid (tx = str (Df.showT d)) := TXE
    have KK : ∀ {W : World} (_ : w6.grownBy W (Value.slice a.D (s.defs.map dfV).length a.cd).ownBlock), Hid (W.cell? ⟨w.heap.size, 5, none⟩ = some (.string e.name) ∧ W.cell? ⟨w3.heap.size, 0, none⟩ = some (.slice A3 n c3)) := fun {W} gr => Lib.hid (by
     have n0 : ∀ b, w.heap.size ≤ b → b < w6.heap.size → W.heap[b]? = w6.heap[b]? := fun b h1 h2 => grown_keep gr b h2 fun hd => by have := H.out.lt b (.inl (.inr (.inl hd))); omega
     obtain ⟨-, c5, c0⟩ := SD.out _ Q6.out
     exact ⟨(World.cell?_of_block (w := w6) (n0 _ (Nat.le_refl _) (block_lt c5))).trans c5, (World.cell?_of_block (w := w6) (n0 _ (by have := B3.out.size; exact this) (block_lt c0))).trans c0⟩)
    refine wpAnyC_one (i := 11) (oi := ?o4) ?hi4 (by kernel_rfl) ?step4
    case hi4 => (simp only [List.getElem?_toArray, List.getElem?_cons_zero, List.getElem?_cons_succ]; exact rfl)
    intro K' hK
    refine step_appK' _ _ (by rfl) (vs := s.defs.map dfV) (us := [[.string e.name, .string tx]]) Tryz.underlying73 infoDf rfl (by decide) (by decide) (by rfl) LM.out.symm H6.out.defs (Nat.zero_le _) (by rfl) (by rfl) (by rw [TX.out]; exact dfV_wide [(e.name, d)]) (fun j u hu => lit_at L6.out hu) (by rw [LM.out]; show m + 1 ≤ _; omega) (r := m + 1) (by rw [LM.out]; rfl) ?_; intro A7 c7 w7 o7 g7 l7; rw [TX.out] at o7; obtain ⟨p8, q8⟩ := H6.out.pushDef o7 g7 l7 HE.out.name (by have := PB2.out.2; have := HE.out.data; omega) (by rw [← HM.out]; omega) (v := .slice A7 (m + 1) c7) (by rw [HM.out]); have P8 := Lib.hid p8; have Q8 := Lib.hid q8; have G7 : Hid (w7.heap[g]? = some (.cells (flC a s) 75 (0, 0))) := Lib.hid ((grown_keep g7 g (lt_of_block H6.out.obj) H6.out.apart.d).trans H6.out.obj); have f7 := (obF G7.out).2.2.1; have y7 := (obF G7.out).1.2.1; have K7 : Hid (w7.cell? ⟨w.heap.size, 5, none⟩ = some (.string e.name) ∧ w7.cell? ⟨w3.heap.size, 0, none⟩ = some (.slice A3 n c3)) := KK g7; clear o7 g7 l7 p8 q8
    refine hK.out _ _ ?_ (fun hHeld => ?_)
    ·exact fun _ => ⟨by rw [y7, HM.out], K7.out⟩
    clear hK K' hHeld
    try simp only [Act.put, List.setIfInBounds_toArray, List.set_cons_zero, List.set_cons_succ]
    refine wpAnyC_one (i := 12) (oi := ?o5) ?hi5 (by kernel_rfl) ?step5
    case hi5 => (simp only [List.getElem?_toArray, List.getElem?_cons_zero, List.getElem?_cons_succ]; exact rfl)
    intro K' hK
    go_simp
    refine hK.out _ _ ?_ (fun hHeld => ?_)
    ·exact fun _ => ⟨by rw [y7, HM.out], K7.out⟩
    clear hK K' hHeld
    try simp only [Act.put, List.setIfInBounds_toArray, List.set_cons_zero, List.set_cons_succ]
    refine wpAnyC_one (i := 13) (oi := ?o6) ?hi6 (by kernel_rfl) ?step6
    case hi6 => (simp only [List.getElem?_toArray, List.getElem?_cons_zero, List.getElem?_cons_succ]; exact rfl)
    intro K' hK
    go_simp
    refine hK.out _ _ ?_ (fun hHeld => ?_)
    ·exact fun _ => ⟨by rw [y7, HM.out], K7.out⟩
    clear hK K' hHeld
    try simp only [Act.put, List.setIfInBounds_toArray, List.set_cons_zero, List.set_cons_succ]
    refine wpAnyC_one (i := 14) (oi := ?o7) ?hi7 (by kernel_rfl) ?step7
    case hi7 => (simp only [List.getElem?_toArray, List.getElem?_cons_zero, List.getElem?_cons_succ]; exact rfl)
    intro K' hK
    go_simp
    refine hK.out _ _ ?_ (fun hHeld => ?_)
    ·exact fun h => (by cases h)
    clear hK K' hHeld
    try simp only [Act.put, List.setIfInBounds_toArray, List.set_cons_zero, List.set_cons_succ]
    refine wpAnyC_done (by kernel_rfl) ?_ _
    clear y7 f7
    go_wp2
    go_ret
    rw [RS.out]
    exact ⟨by rw [R.out]; rfl, Lib.hid ⟨_, P8.out, (StepM.ahead (W4.out.trans (Q6.out.mono W4.out.size)) Q8.out)⟩⟩
  ·have hx2 : (x != 0) = true := by simpa using hx
   have R : Hid (v = x) := Lib.hid (by rw [V2.out, if_pos hx])
   have RS : Hid (s2 = s) := Lib.hid (by rw [VS.out, if_neg (by rw [R.out]; exact hx)])
   have W4 : Hid (Below w.heap.size w (w3.alloc (.cells #[.slice A3 n c3] 37))) := Lib.hid (B3.out.alloc B3.out.size _)
   clear V2 VS PB hx
   go_wp2
   go_ret
   rw [RS.out]
   exact ActG.same H.out W4.out R.out.symm
 ·have O : Hid (o = some p.2) := Lib.hid (by rw [LD.out, hl]; rfl)
  have R : Hid (v = 5) := Lib.hid (by rw [V.out, O.out]; rfl)
  have RS : Hid (s2 = s) := Lib.hid (by rw [VS.out, if_neg (by rw [R.out]; decide)])
  have hk0 : (0 : Int) ≤ (k : Int) := by omega
  clear V VS LD O hk hl hp
  go_wp2
  go_ret
  rw [RS.out]
  exact ActG.same H.out B2.out R.out.symm
end Go.Proofs.YtkbekojnmdgdgaaGreatDoor
/- FlTick -/
namespace Go.Proofs.YtkbekojnmdgdgaaGreatDoor
open Go.RowKit Go.Maps
set_option maxRecDepth 20000
theorem RS.lit (w : World) (b k : Nat) (p : At3) (n : Nat) (st : Int) (m l : Nat) : (((w.setCell ⟨b, k * 4, none⟩ (.slice p.A n p.ca)).setCell ⟨b, k * 4 + 1, none⟩ (.int .i64 st)).setCell ⟨b, k * 4 + 2, none⟩ (.slice p.T m p.ct)).setCell ⟨b, k * 4 + 3, none⟩ (.slice p.S l p.cs) = RS w b k p n st m l := rfl
def tkR (n : Int) (k i : Nat) (p : Rn.R × ByteArray) : Rn.R × ByteArray := if i < k then (Rn.tickS p.1 n, p.2) else p
def tkS (s : Fw.S) (n : Int) (k : Nat) : Fw.S := { s with clock := n, runs := s.runs.mapIdx (tkR n k) }
theorem tkS_len (s : Fw.S) (n : Int) (k : Nat) : (tkS s n k).runs.length = s.runs.length := List.length_mapIdx
theorem tkS_zero (s : Fw.S) (n : Int) : tkS s n 0 = { s with clock := n } := by
 unfold tkS
 congr 1
 refine List.ext_getElem List.length_mapIdx fun i h1 h2 => ?_
 rw [List.getElem_mapIdx]
 rfl
theorem tkS_all (s : Fw.S) (n : Int) {m : Nat} (hm : m = s.runs.length) : tkS s n m = Fw.tickS s n := by
 unfold tkS Fw.tickS
 congr 1
 refine List.ext_getElem (by rw [List.length_mapIdx, List.length_map]) fun i h1 h2 => ?_
 rw [List.getElem_mapIdx, List.getElem_map]
 unfold tkR
 rw [if_pos (by rw [List.length_mapIdx] at h1; omega)]
theorem tkS_at (s : Fw.S) (n : Int) {k : Nat} (hk : k < s.runs.length) : rAt (tkS s n k).runs k = s.runs[k].1 := by
 have hl : k < (s.runs.mapIdx (tkR n k)).length := by rw [List.length_mapIdx]; exact hk
 have e := rAt_get (l := s.runs.mapIdx (tkR n k)) hl
 rw [List.getElem_mapIdx] at e
 unfold tkR at e
 rw [if_neg (Nat.lt_irrefl k)] at e
 exact e
theorem tkS_next (s : Fw.S) (n : Int) {k : Nat} (hk : k < s.runs.length) : { tkS s n k with runs := (tkS s n k).runs.modify k fun q => (Rn.tickS s.runs[k].1 n, q.2) } = tkS s n (k + 1) := by
 suffices key : (s.runs.mapIdx (tkR n k)).modify k (fun q => (Rn.tickS s.runs[k].1 n, q.2)) = s.runs.mapIdx (tkR n (k + 1)) by
  show ({ s with clock := n, runs := (s.runs.mapIdx (tkR n k)).modify k (fun q => (Rn.tickS s.runs[k].1 n, q.2)) } : Fw.S) = _
  rw [key]
  rfl
 refine List.ext_getElem (by rw [List.length_modify, List.length_mapIdx, List.length_mapIdx]) fun i h1 h2 => ?_
 rw [List.getElem_modify, List.getElem_mapIdx, List.getElem_mapIdx]
 unfold tkR
 by_cases e : k = i
 ·subst e
  rw [if_pos rfl, if_neg (Nat.lt_irrefl k), if_pos (by omega)]
 ·rw [if_neg e]
  by_cases h : i < k
  ·rw [if_pos h, if_pos (by omega)]
  ·rw [if_neg h, if_neg (by omega)]
def TkI (w : World) (g : Nat) (a : FAt) (s' : Fw.S) (wr : World) : Prop := ∃ a', FPM wr g a' s' ∧ StepM g a a' w wr ∧ a'.R = a.R ∧ a'.cr = a.cr
set_option maxHeartbeats 4000000 in
theorem tick_any {w : World} {g : Nat} {a : FAt} {s : Fw.S} (h : FPM w g a s) (hI : Fw.Inv s) (n : Int) (h0 : 0 ≤ n) (h1 : n ≤ Rn.tickMax) :
  Calls Tryz.prog 31 #[.pointer (some ⟨g, 0, none⟩), .int .i64 n] w (ActG w g a (if n ≤ s.clock then 10 else 0) (if n ≤ s.clock then s else Fw.tickS s n)) := by
 obtain ⟨⟨c0, -, c2, -, -⟩, f0, -⟩ := h.cells
 have H := Lib.hid h
 by_cases hn : n ≤ s.clock
 ·rw [if_pos hn, if_pos hn]
  clear h
  generalize s.clock = c at *
  go_enter Tryz.func31, Tryz.ntmps31
  go_wp2
  go_ret
  exact ActG.same H.out (Below.refl _ _) rfl
 ·rw [if_neg hn, if_neg hn]
  obtain ⟨m, hm⟩ : ∃ m, m = s.runs.length := ⟨_, rfl⟩
  have HM := Lib.hid hm
  have hm9 : m ≤ 64 := by rw [hm]; exact h.rm
  obtain ⟨p1, q1⟩ := h.clock n
  have I0 : Hid (TkI w g a (tkS s n 0) (w.setCell ⟨g, 0, none⟩ (.int .i64 n))) := Lib.hid (by rw [tkS_zero]; exact ⟨a, p1, q1, rfl, rfl⟩)
  have c2' : (w.setCell ⟨g, 0, none⟩ (.int .i64 n)).cell? ⟨g, 2, none⟩ = some (.slice a.R m a.cr) := by rw [hm]; exact p1.cells.1.2.2.1
  have RI : Hid (∀ k, k < s.runs.length → Rn.Inv (rAt (tkS s n k).runs k)) := Lib.hid fun k hk => by rw [tkS_at s n hk]; exact (hI.rok _ (List.getElem_mem hk)).1.toInv
  have h0' := Lib.hid h0
  have h1' := Lib.hid h1
  rw [← hm] at c2
  generalize s.clock = c at *
  clear h hm p1 q1 hI h0 h1
  generalize hw1 : w.setCell ⟨g, 0, none⟩ (.int .i64 n) = w1 at *
  go_enter Tryz.func31, Tryz.ntmps31
  go_upto_region 4 with (fail)
  clear hw1 c0 c2 f0 hn
  go_wp2_with fail
  go_loopw [22] (fun iv wr => ∃ k : Nat, k ≤ m ∧ iv = .int .i64 k ∧ Hid (TkI w g a (tkS s n k) wr)) (fun iv _ => m - (intOf iv).toNat)
  case atStart => exact ⟨0, Nat.zero_le _, rfl, I0⟩
  case round =>
   obtain ⟨k, hk, rfl, HI⟩ := hrel
   by_cases hlt : k < m
   ·have hlt' : (k : Int) < (m : Int) := by omega
    have HK : Hid (k < s.runs.length) := Lib.hid (by rw [← HM.out]; exact hlt)
    obtain ⟨a', p', q', eR, ec⟩ := HI.out
    have P := Lib.hid p'
    have Q := Lib.hid q'
    have ER := Lib.hid (And.intro eR ec)
    have hkl : k < (tkS s n k).runs.length := by rw [tkS_len]; exact HK.out
    obtain ⟨b, hA, -, hb⟩ := p'.runs.shape (by rw [rsV_len]; omega)
    have HA := Lib.hid hA
    have hrow := p'.runs
    rw [hA] at hrow
    have AR : a.R = some ⟨b, 0, none⟩ := eR.symm.trans hA
    obtain ⟨y0, y1, y2, y3⟩ := rsV_cells hrow hkl
    have d2 : wr.cell? ⟨g, 2, none⟩ = some (.slice (some ⟨b, 0, none⟩) m a.cr) := by
     have := p'.cells.1.2.2.1
     rw [hA, ec, tkS_len, ← HM.out] at this
     exact this
    have NX := Lib.hid (tkS_next s n HK.out)
    have TT := Lib.hid (fun W (hW : Below wr.heap.size wr W) => tick_p (a'.f k) (rAt (tkS s n k).runs k) (RI.out k HK.out) W a'.Q ((p'.inner k hkl).on hW) n h0'.out h1'.out)
    have RA := Lib.hid (tkS_at s n HK.out)
    rw [← RA.out] at NX
    have KL := Lib.hid hkl
    clear p' q' eR ec hA hrow hkl RA
    generalize hs' : tkS s n k = s' at *
    generalize rAt s'.runs k = r at *
    obtain ⟨p, hp⟩ : ∃ p, p = a'.f k := ⟨_, rfl⟩
    rw [← hp] at y0 y2 y3 TT
    clear hp
    unfold rv at TT
    generalize r.d.length = an at *
    generalize r.st = st at *
    generalize r.ts.length = tn at *
    generalize r.sg.length = sn at *
    rw [AR]
    clear hs' AR
    go_upto_region 7 with (fail)
    obtain ⟨w2, hw2⟩ : ∃ w2, w2 = wr.alloc (.cells #[.slice p.A an p.ca, .int .i64 st, .slice p.T tn p.ct, .slice p.S sn p.cs] 41) := ⟨_, rfl⟩
    have B2 : Hid (Below wr.heap.size wr w2) := Lib.hid (by rw [hw2]; exact (Below.refl _ _).alloc (Nat.le_refl _) _)
    have X2 : Hid (w2.heap[wr.heap.size]? = some (.cells #[.slice p.A an p.ca, .int .i64 st, .slice p.T tn p.ct, .slice p.S sn p.cs] 41 (0, 0))) := Lib.hid (by rw [hw2]; exact heap_alloc_new _ _)
    have d3 := (B2.out.cell (block_lt d2)).trans d2
    obtain ⟨⟨z0, z1, z2, z3⟩, -⟩ := obj4 X2.out
    have BL : Hid (b < wr.heap.size) := Lib.hid hb
    have SD : Hid (∀ W, Below w2.heap.size w2 W → W.cell? ⟨g, 2, none⟩ = some (.slice (some ⟨b, 0, none⟩) m a.cr) ∧ W.cell? ⟨wr.heap.size, 0, none⟩ = some (.slice p.A an p.ca) ∧ W.cell? ⟨wr.heap.size, 1, none⟩ = some (.int .i64 st) ∧ W.cell? ⟨wr.heap.size, 2, none⟩ = some (.slice p.T tn p.ct) ∧ W.cell? ⟨wr.heap.size, 3, none⟩ = some (.slice p.S sn p.cs)) := Lib.hid fun W hW =>
     ⟨(hW.cell (block_lt d3)).trans d3, (hW.cell (block_lt z0)).trans z0, (hW.cell (block_lt z1)).trans z1, (hW.cell (block_lt z2)).trans z2, (hW.cell (block_lt z3)).trans z3⟩
    rw [← hw2]
    clear hw2 d2 y0 y1 y2 y3 hb
    refine wp_region_C (fun w' => w'.cell? ⟨g, 2, none⟩ = some (.slice (some ⟨b, 0, none⟩) m a.cr) ∧ w'.cell? ⟨wr.heap.size, 0, none⟩ = some (.slice p.A an p.ca) ∧ w'.cell? ⟨wr.heap.size, 1, none⟩ = some (.int .i64 st) ∧ w'.cell? ⟨wr.heap.size, 2, none⟩ = some (.slice p.T tn p.ct) ∧ w'.cell? ⟨wr.heap.size, 3, none⟩ = some (.slice p.S sn p.cs)) 9 (by kernel_rfl) ?_
    have hS0 : (fun w' : World => w'.cell? ⟨g, 2, none⟩ = some (.slice (some ⟨b, 0, none⟩) m a.cr) ∧ w'.cell? ⟨wr.heap.size, 0, none⟩ = some (.slice p.A an p.ca) ∧ w'.cell? ⟨wr.heap.size, 1, none⟩ = some (.int .i64 st) ∧ w'.cell? ⟨wr.heap.size, 2, none⟩ = some (.slice p.T tn p.ct) ∧ w'.cell? ⟨wr.heap.size, 3, none⟩ = some (.slice p.S sn p.cs)) w2.drew := ⟨d3, z0, z1, z2, z3⟩
    clear d3 z0 z1 z2 z3
    refine takC 0 (h := ?_)
    try simp only [Act.put, List.setIfInBounds_toArray, List.set_cons_zero, List.set_cons_succ]
    refine takC 1 (h := ?_)
    try simp only [Act.put, List.setIfInBounds_toArray, List.set_cons_zero, List.set_cons_succ]
    refine takC 2 (h := ?_)
    try simp only [Act.put, List.setIfInBounds_toArray, List.set_cons_zero, List.set_cons_succ]
    refine takC 3 (h := ?_)
    try simp only [Act.put, List.setIfInBounds_toArray, List.set_cons_zero, List.set_cons_succ]
    refine takC 4 (h := ?_)
    try simp only [Act.put, List.setIfInBounds_toArray, List.set_cons_zero, List.set_cons_succ]
    refine takC 5 (h := ?_)
    try simp only [Act.put, List.setIfInBounds_toArray, List.set_cons_zero, List.set_cons_succ]
    refine takC 6 (h := ?_)
    try simp only [Act.put, List.setIfInBounds_toArray, List.set_cons_zero, List.set_cons_succ]
    obtain ⟨r2, hr2⟩ : ∃ r2, r2 = Rn.tickS r n := ⟨_, rfl⟩
    obtain ⟨an2, han⟩ : ∃ x, x = r2.d.length := ⟨_, rfl⟩
    obtain ⟨st2, hst⟩ : ∃ x, x = r2.st := ⟨_, rfl⟩
    obtain ⟨tn2, htn⟩ : ∃ x, x = r2.ts.length := ⟨_, rfl⟩
    obtain ⟨sn2, hsn⟩ : ∃ x, x = r2.sg.length := ⟨_, rfl⟩
    rw [← hr2] at TT NX
    have TU : Hid (∀ W, Below wr.heap.size wr W → Calls Tryz.prog 61 #[.agg #[.slice p.A an p.ca, .int .i64 st, .slice p.T tn p.ct, .slice p.S sn p.cs], .int .i64 n] W (RunY1 W r2 an2 st2 tn2 sn2)) := Lib.hid fun W hW => (TT.out W hW).mono fun _ _ h => h.of rfl han.symm hst.symm htn.symm hsn.symm
    have RR : Hid (r2.d.length = an2 ∧ r2.st = st2 ∧ r2.ts.length = tn2 ∧ r2.sg.length = sn2) := Lib.hid ⟨han.symm, hst.symm, htn.symm, hsn.symm⟩
    have DB : Hid (Below wr.heap.size wr w2.drew) := Lib.hid B2.out.drew
    clear TT hr2 han hst htn hsn
    unfold RunY1 at TU
    refine wpAnyC_one (i := 7) (oi := ?o1) ?hi1 (by kernel_rfl) ?step1
    case hi1 => (simp only [List.getElem?_toArray, List.getElem?_cons_zero, List.getElem?_cons_succ]; exact rfl)
    intro K' hK
    (go_simp; go_at_call 61; (with_reducible refine (TU.out _ DB.out).mono ?_); rintro e W5 ⟨q, rfl, o5, b5⟩; have Q5 : Hid (Below w2.heap.size w2 W5) := Lib.hid ⟨b5.out.os, b5.out.tape, b5.out.output, b5.out.size, b5.out.block⟩; try dsimp only)
    refine hK.out _ _ ?_ (fun hHeld => ?_)
    ·exact fun _ => SD.out _ Q5.out
    clear hK K' hHeld
    try simp only [Act.put, List.setIfInBounds_toArray, List.set_cons_zero, List.set_cons_succ]
    have B5 : Hid (Below wr.heap.size wr W5) := Lib.hid (B2.out.trans (Q5.out.mono B2.out.size))
    have P5 := Lib.hid (P.out.on B5.out)
    have row5 := P5.out.runs
    rw [HA.out] at row5
    have ff := fun i => row5.thawed i
    have hf0 := ff (k * 4)
    have hf1 := ff (k * 4 + 1)
    have hf2 := ff (k * 4 + 2)
    have hf3 := ff (k * 4 + 3)
    obtain ⟨y0, y1, y2, y3⟩ := rsV_cells row5 KL.out
    clear ff row5
    refine wpAnyC_one (i := 8) (oi := ?o2) ?hi2 (by kernel_rfl) ?step2
    case hi2 => (simp only [List.getElem?_toArray, List.getElem?_cons_zero, List.getElem?_cons_succ]; exact rfl)
    intro K' hK
    go_simp
    refine hK.out _ _ ?_ (fun hHeld => ?_)
    ·exact fun _ => SD.out _ Q5.out
    clear hK K' hHeld
    try simp only [Act.put, List.setIfInBounds_toArray, List.set_cons_zero, List.set_cons_succ]
    refine wpAnyC_one (i := 9) (oi := ?o3) ?hi3 (by kernel_rfl) ?step3
    case hi3 => (simp only [List.getElem?_toArray, List.getElem?_cons_zero, List.getElem?_cons_succ]; exact rfl)
    intro K' hK
    go_simp
    refine hK.out _ _ ?_ (fun hHeld => ?_)
    ·exact fun h => (by cases h)
    clear hK K' hHeld
    try simp only [Act.put, List.setIfInBounds_toArray, List.set_cons_zero, List.set_cons_succ]
    refine wpAnyC_done (by kernel_rfl) ?_ _
    clear hf0 hf1 hf2 hf3 y0 y1 y2 y3
    have O5 : Hid (RunO W5 (fun b => w2.heap.size ≤ b ∧ b < W5.heap.size) q r2) := Lib.hid o5.out.here
    have ST : Hid (TkI w g a (tkS s n (k + 1)) (RS W5 b k q an2 st2 tn2 sn2)) := Lib.hid (by
     have sz := B2.out.size
     obtain ⟨p6, q6⟩ := P5.out.setRun HA.out KL.out O5.out fun i hi => ⟨hi.2, fun hm => by have := P.out.lt i (.inl hm); omega⟩
     rw [RR.out.1, RR.out.2.1, RR.out.2.2.1, RR.out.2.2.2] at p6 q6
     rw [NX.out] at p6
     refine ⟨_, p6, Q.out.trans ⟨(Only.of B5.out).trans q6 fun i hi => .inl hi, fun i hi => .inl hi, fun i hi => ?_⟩, ER.out.1, ER.out.2⟩
     rcases hi with hi | hi
     ·exact .inl hi
     ·exact .inr (Nat.le_trans sz hi.1))
    go_wp2
    rw [RS.lit]
    go_roundw
    case rel => exact ⟨k + 1, by omega, by go_num, ST⟩
    case measure => simp [intOf]; omega
   ·obtain rfl : k = m := by omega
    have hge : ¬ (k : Int) < (k : Int) := by omega
    go_wp2
    go_ret
    obtain ⟨a', p', q', -, -⟩ := HI.out
    rw [tkS_all s n HM.out] at p'
    exact ⟨rfl, Lib.hid ⟨a', p', q'⟩⟩
end Go.Proofs.YtkbekojnmdgdgaaGreatDoor
/- FlFirst -/
namespace Go.Proofs.YtkbekojnmdgdgaaGreatDoor
open Go.RowKit Go.Maps
set_option maxRecDepth 20000
section
variable {w : World} {g : Nat} {a : FAt} {s : Fw.S}
theorem box4 (w : World) (p : At3) (n : Nat) (st : Int) (m l : Nat) : (w.alloc (.cells #[.slice p.A n p.ca, .int .i64 st, .slice p.T m p.ct, .slice p.S l p.cs] 41)).heap[w.heap.size]? = some (.cells #[.slice p.A n p.ca, .int .i64 st, .slice p.T m p.ct, .slice p.S l p.cs] 41 (0, 0)) := heap_alloc_new _ _
theorem FPM.runC (h : FPM w g a s) {k : Nat} (hk : k < s.runs.length) : ∃ b, a.R = some ⟨b, 0, none⟩ ∧
  w.cell? ⟨b, k * 4, none⟩ = some (.slice (a.f k).A (rAt s.runs k).d.length (a.f k).ca) ∧ w.cell? ⟨b, k * 4 + 1, none⟩ = some (.int .i64 (rAt s.runs k).st) ∧ w.cell? ⟨b, k * 4 + 2, none⟩ = some (.slice (a.f k).T (rAt s.runs k).ts.length (a.f k).ct) ∧ w.cell? ⟨b, k * 4 + 3, none⟩ = some (.slice (a.f k).S (rAt s.runs k).sg.length (a.f k).cs) := by
 obtain ⟨b, hA, -, hb⟩ := h.runs.shape (by rw [rsV_len]; omega)
 have hrow := h.runs
 rw [hA] at hrow
 exact ⟨b, hA, rsV_cells hrow hk⟩
end
end Go.Proofs.YtkbekojnmdgdgaaGreatDoor
/- FlNext -/
namespace Go.Proofs.YtkbekojnmdgdgaaGreatDoor
open Go.RowKit Go.Maps
set_option maxRecDepth 20000
section
variable {w : World} {g : Nat} {a : FAt} {s : Fw.S}
def optI (z : Int) (o : Bool) : Option Int := if o = true then some z else none
theorem next_drop (l : List (Rn.R × ByteArray)) {k : Nat} (hk : k < l.length) (o : Option Int) : Fw.nextR (l.drop k) o = Fw.nextR (l.drop (k + 1)) (Fw.lessO o (Rn.nextV (rAt l k))) := by
 rw [List.drop_eq_getElem_cons hk, rAt_get hk]
 rfl
set_option maxHeartbeats 2000000 in
theorem next_any (h : FPM w g a s) (hI : Fw.Inv s) : Calls Tryz.prog 12 #[.pointer (some ⟨g, 0, none⟩)] w fun e w' => e = .returned (.tuple #[.int .i64 ((Fw.nextV s).getD 0), .bool (Fw.nextV s).isSome]) ∧ Hid (Below w.heap.size w w') := by
 have H := Lib.hid h
 have RI : Hid (∀ k, k < s.runs.length → Rn.Inv (rAt s.runs k)) := Lib.hid fun k hk => by rw [rAt_get hk]; exact (hI.rok _ (List.getElem_mem hk)).1.toInv
 obtain ⟨⟨-, -, c2, -, -⟩, -⟩ := h.cells
 obtain ⟨m, hm⟩ : ∃ m, m = s.runs.length := ⟨_, rfl⟩
 have HM := Lib.hid hm
 have hm9 : m ≤ 64 := by rw [hm]; exact h.rm
 have V0 : Hid (Fw.nextV s = Fw.nextR (s.runs.drop 0) (optI 0 false)) := Lib.hid rfl
 have V9 : Hid (∀ o, Fw.nextR (s.runs.drop m) o = o) := Lib.hid fun o => by rw [hm, List.drop_length]; rfl
 have LT := Lib.hid (fun k (hk : k < s.runs.length) => next_drop s.runs hk)
 generalize Fw.nextV s = v at *
 rw [← hm] at c2
 clear h hm hI
 go_enter Tryz.func12, Tryz.ntmps12
 go_wp2_with fail
 go_loopw [4, 5, 15] (fun lv bv iv wr => ∃ (k : Nat) (z : Int) (o : Bool), k ≤ m ∧ lv = .int .i64 z ∧ bv = .bool o ∧ iv = .int .i64 k ∧ Hid (v = Fw.nextR (s.runs.drop k) (optI z o)) ∧ Hid (o = false → z = 0) ∧ Hid (Below w.heap.size w wr)) (fun _ _ iv _ => m - (intOf iv).toNat)
 case atStart => exact ⟨0, 0, false, Nat.zero_le _, rfl, rfl, rfl, V0, Lib.hid fun _ => rfl, Lib.hid (Below.refl _ _)⟩
 case round =>
  obtain ⟨k, z, o, hk, rfl, rfl, rfl, HQ, HZ, HB⟩ := hrel
  by_cases hlt : k < m
  ·have hlt' : (k : Int) < (m : Int) := by omega
   have HK : Hid (k < s.runs.length) := Lib.hid (by rw [← HM.out]; exact hlt)
   obtain ⟨b, hA, y0, y1, y2, y3⟩ := (H.out.on HB.out).runC HK.out
   have NQ := HQ.out
   rw [LT.out k HK.out] at NQ
   have CN := Lib.hid (fun W (hW : Below w.heap.size w W) => next_p (a.f k) (rAt s.runs k) (RI.out k HK.out) W a.Q ((H.out.on hW).inner k HK.out))
   unfold rv at CN
   rw [hA] at *
   clear hA
   generalize rAt s.runs k = r at *
   generalize a.f k = p at *
   generalize r.d.length = an at *
   generalize r.ts.length = tn at *
   generalize r.sg.length = sn at *
   generalize r.st = st at *
   generalize Rn.nextV r = u at *
   have NN := Lib.hid NQ
   clear NQ
   obtain ⟨w2, hw2⟩ : ∃ w2, w2 = wr.alloc (.cells #[.slice p.A an p.ca, .int .i64 st, .slice p.T tn p.ct, .slice p.S sn p.cs] 41) := ⟨_, rfl⟩
   have B2 : Hid (Below wr.heap.size wr w2) := Lib.hid (by rw [hw2]; exact (Below.refl _ _).alloc (Nat.le_refl _) _)
   have X2 := box4 wr p an st tn sn
   rw [← hw2] at X2
   have BB : Hid (Below w.heap.size w w2) := Lib.hid (HB.out.trans (B2.out.mono HB.out.size))
   go_upto_region 5 with (fail)
   rw [← hw2]
   obtain ⟨⟨z0, z1, z2, z3⟩, -⟩ := obj4 X2
   clear hw2 X2 y0 y1 y2 y3
   go_wp2_with fail
   refine (CN.out w2 BB.out).mono ?_; rintro e w3 ⟨rfl, b3⟩
   have B3 : Hid (Below w.heap.size w w3) := Lib.hid (BB.out.trans (b3.out.mono BB.out.size))
   clear z0 z1 z2 z3 CN
   cases u with
   | none =>
    have N2 : Hid (v = Fw.nextR (s.runs.drop (k + 1)) (optI z o)) := Lib.hid (by
     have := NN.out
     cases o <;> exact this)
    dsimp only [Option.getD_none, Option.isSome_none]
    go_wp2
    go_roundw
    case rel => exact ⟨k + 1, z, o, by omega, rfl, rfl, by go_num, N2, HZ, B3⟩
    case measure => simp [intOf]; omega
   | some y =>
    dsimp only [Option.getD_some, Option.isSome_some]
    cases o with
    | false =>
     have N2 : Hid (v = Fw.nextR (s.runs.drop (k + 1)) (optI y true)) := NN
     go_wp2
     go_roundw
     case rel => exact ⟨k + 1, y, true, by omega, rfl, rfl, by go_num, N2, Lib.hid (fun h => by cases h), B3⟩
     case measure => simp [intOf]; omega
    | true =>
     by_cases hy : y < z
     ·have N2 : Hid (v = Fw.nextR (s.runs.drop (k + 1)) (optI y true)) := Lib.hid (by
       have := NN.out
       unfold Fw.lessO optI at this
       simp only [if_pos, if_pos hy] at this
       exact this)
      go_wp2
      go_roundw
      case rel => exact ⟨k + 1, y, true, by omega, rfl, rfl, by go_num, N2, Lib.hid (fun h => by cases h), B3⟩
      case measure => simp [intOf]; omega
     ·have N2 : Hid (v = Fw.nextR (s.runs.drop (k + 1)) (optI z true)) := Lib.hid (by
       have := NN.out
       unfold Fw.lessO optI at this
       simp only [if_pos, if_neg hy] at this
       exact this)
      go_wp2
      go_roundw
      case rel => exact ⟨k + 1, z, true, by omega, rfl, rfl, by go_num, N2, Lib.hid (fun h => by cases h), B3⟩
      case measure => simp [intOf]; omega
  ·obtain rfl : k = m := by omega
   have hge : ¬ (k : Int) < (k : Int) := by omega
   have R : Hid (v.getD 0 = z ∧ v.isSome = o) := Lib.hid (by
    rw [HQ.out, V9.out]
    cases o
    ·exact ⟨(HZ.out rfl).symm, rfl⟩
    ·exact ⟨rfl, rfl⟩)
   go_wp2
   go_ret2
   exact ⟨by rw [R.out.1, R.out.2]; rfl, HB⟩
theorem firstT_drop (l : List Rn.Tk) {j : Nat} (hj : j < l.length) : Fw.firstT j (l.drop j) = if (l.getD j Rn.t0).ph = 1 then some (j, (l.getD j Rn.t0).tr + 1) else Fw.firstT (j + 1) (l.drop (j + 1)) := by
 rw [List.drop_eq_getElem_cons hj, getD_at hj]
 rfl
theorem firstR_drop (l : List (Rn.R × ByteArray)) {k : Nat} (hk : k < l.length) : Fw.firstR k (l.drop k) = match (if (rAt l k).st = 0 then Fw.firstT 0 (rAt l k).ts else none) with
  | some (j, y) => ((k : Int) + 1, (j : Int), y, true)
  | none => Fw.firstR (k + 1) (l.drop (k + 1)) := by
 rw [List.drop_eq_getElem_cons hk, rAt_get hk]
 rfl
set_option maxHeartbeats 4000000 in
theorem first_any (h : FPM w g a s) (hI : Fw.Inv s) : Calls Tryz.prog 13 #[.pointer (some ⟨g, 0, none⟩)] w fun e w' => e = .returned (.tuple #[.int .i64 (Fw.firstV s).1, .int .i64 (Fw.firstV s).2.1, .int .i64 (Fw.firstV s).2.2.1, .bool (Fw.firstV s).2.2.2]) ∧ Hid (Below w.heap.size w w') := by
 have H := Lib.hid h
 have RI : Hid (∀ k, k < s.runs.length → Rn.Inv (rAt s.runs k)) := Lib.hid fun k hk => by rw [rAt_get hk]; exact (hI.rok _ (List.getElem_mem hk)).1.toInv
 obtain ⟨⟨-, -, c2, -, -⟩, -⟩ := h.cells
 obtain ⟨m, hm⟩ : ∃ m, m = s.runs.length := ⟨_, rfl⟩
 have HM := Lib.hid hm
 have hm9 : m ≤ 64 := by rw [hm]; exact h.rm
 have V0 : Hid (Fw.firstV s = Fw.firstR 0 (s.runs.drop 0)) := Lib.hid rfl
 have V9 : Hid (Fw.firstR m (s.runs.drop m) = (0, 0, 0, false)) := Lib.hid (by rw [hm, List.drop_length]; rfl)
 have LT := Lib.hid (fun k (hk : k < s.runs.length) => firstR_drop s.runs hk)
 generalize Fw.firstV s = v at *
 rw [← hm] at c2
 clear h hm hI
 go_enter Tryz.func13, Tryz.ntmps13
 go_wp2_with fail
 go_loopw [15] (fun iv wr => ∃ k : Nat, k ≤ m ∧ iv = .int .i64 k ∧ Hid (v = Fw.firstR k (s.runs.drop k)) ∧ Hid (Below w.heap.size w wr)) (fun iv _ => m - (intOf iv).toNat)
 case atStart => exact ⟨0, Nat.zero_le _, rfl, V0, Lib.hid (Below.refl _ _)⟩
 case round =>
  obtain ⟨k, hk, rfl, HQ, HB⟩ := hrel
  by_cases hlt : k < m
  ·have hlt' : (k : Int) < (m : Int) := by omega
   have HK : Hid (k < s.runs.length) := Lib.hid (by rw [← HM.out]; exact hlt)
   obtain ⟨b, hA, y0, y1, y2, y3⟩ := (H.out.on HB.out).runC HK.out
   have NQ := HQ.out
   rw [LT.out k HK.out] at NQ
   have TT := Lib.hid (fun W (hW : Below w.heap.size w W) => ((H.out.on hW).inner k HK.out).t)
   have IR := Lib.hid (RI.out k HK.out)
   rw [hA] at *
   clear hA
   generalize rAt s.runs k = r at *
   generalize a.f k = p at *
   obtain ⟨tn, htn⟩ : ∃ tn, tn = r.ts.length := ⟨_, rfl⟩
   have TN := Lib.hid htn
   have tn9 : tn ≤ 1100 := by rw [htn]; exact (Bd.of IR.out.toPre).t
   rw [← htn] at y2
   clear htn
   generalize r.d.length = an at *
   generalize r.sg.length = sn at *
   have NN := Lib.hid NQ
   clear NQ
   obtain ⟨w2, hw2⟩ : ∃ w2, w2 = wr.alloc (.cells #[.slice p.A an p.ca, .int .i64 r.st, .slice p.T tn p.ct, .slice p.S sn p.cs] 41) := ⟨_, rfl⟩
   have B2 : Hid (Below wr.heap.size wr w2) := Lib.hid (by rw [hw2]; exact (Below.refl _ _).alloc (Nat.le_refl _) _)
   have X2 : Hid (w2.heap[wr.heap.size]? = some (.cells #[.slice p.A an p.ca, .int .i64 r.st, .slice p.T tn p.ct, .slice p.S sn p.cs] 41 (0, 0))) := Lib.hid (by rw [hw2]; exact box4 _ _ _ _ _ _)
   have BB : Hid (Below w.heap.size w w2) := Lib.hid (HB.out.trans (B2.out.mono HB.out.size))
   generalize r.st = st at *
   go_upto_region 4 with (fail)
   rw [← hw2]
   obtain ⟨⟨z0, z1, z2, z3⟩, -⟩ := obj4 X2.out
   clear hw2 y0 y1 y2 y3
   by_cases h0 : st = 0
   ·have N2 : Hid (v = match Fw.firstT 0 (r.ts.drop 0) with | some (j, y) => ((k : Int) + 1, (j : Int), y, true) | none => Fw.firstR (k + 1) (s.runs.drop (k + 1))) := Lib.hid (by have := NN.out; rw [if_pos h0] at this; exact this)
    clear NN
    subst h0
    go_wp2_with fail
    clear z0 z1 z2 z3
    go_loopw [26] (fun jv wq => ∃ j : Nat, j ≤ tn ∧ jv = .int .i64 j ∧ Hid (v = match Fw.firstT j (r.ts.drop j) with | some (j, y) => ((k : Int) + 1, (j : Int), y, true) | none => Fw.firstR (k + 1) (s.runs.drop (k + 1))) ∧ Hid (Below w.heap.size w wq)) (fun jv _ => tn - (intOf jv).toNat)
    case atStart => exact ⟨0, Nat.zero_le _, rfl, N2, BB⟩
    case round =>
     obtain ⟨j, hj, rfl, HN, HW⟩ := hrel
     by_cases hjt : j < tn
     ·have hjt' : (j : Int) < (tn : Int) := by omega
      have HD : Hid (j < r.ts.length) := Lib.hid (by rw [← TN.out]; exact hjt)
      obtain ⟨b2, off, kk, hT, -, hkk, hin, e0, e1, e2, e3⟩ := (TT.out _ HW.out).at_ HD.out
      have KK : Hid (r.ts.getD j Rn.t0 = kk) := Lib.hid (by rw [List.getD_eq_getElem?_getD, hkk.out]; rfl)
      have FT := firstT_drop r.ts HD.out
      rw [KK.out] at FT
      have TB : Hid (kk.ph = 1 → 0 ≤ kk.tr ∧ kk.tr ≤ 1000000) := Lib.hid fun hp => by
       have hl : j < r.d.length := by rw [← IR.out.len]; exact HD.out
       have h1 := IR.out.task j hl
       rw [KK.out] at h1
       have h2 := Rn.TkOk.tr1 h1
       have h3 : Df.numOk r.d[j] = true := IR.out.good.nums _ (List.getElem_mem hl)
       unfold Df.numOk at h3
       rw [decide_eq_true_eq] at h3
       exact ⟨h1.tr0, by omega⟩
      have F2 := Lib.hid FT
      clear FT hkk hin
      rw [hT]
      obtain ⟨w4, hw4⟩ : ∃ w4, w4 = wr.alloc (.cells #[.int .i64 kk.ph, .int .i64 kk.tr, .int .i64 kk.un, .string (str kk.da)] 47) := ⟨_, rfl⟩
      have T4 : w4.heap[wr.heap.size]? = some (.cells #[.int .i64 kk.ph, .int .i64 kk.tr, .int .i64 kk.un, .string (str kk.da)] 47 (0, 0)) := by rw [hw4]; exact heap_alloc_new _ _
      have B4 : Hid (Below w.heap.size w w4) := Lib.hid (by rw [hw4]; exact HW.out.alloc HW.out.size _)
      obtain ⟨⟨x0, x1, x2, x3⟩, -⟩ := obj4 T4
      clear T4
      go_upto_region 8 with (fail)
      rw [← hw4]
      clear hw4 e0 e1 e2 e3
      by_cases hp : kk.ph = 1
      ·have R : Hid (v = ((k : Int) + 1, (j : Int), kk.tr + 1, true)) := Lib.hid (by rw [HN.out, F2.out, if_pos hp])
       obtain ⟨t0, t1⟩ := TB.out hp
       rw [hp] at x0
       clear hp
       go_wp2_with fail
       go_quiet (fail)
       go_wp2
       refine bodyPost_ret (v := .tuple #[.int .i64 (k + 1), .int .i64 j, .int .i64 (kk.tr + 1), .bool true]) (by simp [results, Tryz.results13, go_sem]) rfl ⟨?_, Lib.hid (below_n B4.out _)⟩
       rw [R.out]
      ·have hp2 : (kk.ph == 1) = false := by simpa using hp
       have N3 : Hid (v = match Fw.firstT (j + 1) (r.ts.drop (j + 1)) with | some (j, y) => ((k : Int) + 1, (j : Int), y, true) | none => Fw.firstR (k + 1) (s.runs.drop (k + 1))) := Lib.hid (by rw [HN.out, F2.out, if_neg hp])
       clear hp
       go_wp2
       go_roundw
       case rel => exact ⟨j + 1, by omega, by go_num, N3, B4⟩
       case measure => simp [intOf]; omega
     ·obtain rfl : j = tn := by omega
      have hge : ¬ (j : Int) < (j : Int) := by omega
      have N3 : Hid (v = Fw.firstR (k + 1) (s.runs.drop (k + 1))) := Lib.hid (by rw [HN.out, TN.out, List.drop_length]; rfl)
      go_wp2
      go_roundw
      case rel => exact ⟨k + 1, by omega, by go_num, N3, HW⟩
      case measure => simp [intOf]; omega
   ·have N2 : Hid (v = Fw.firstR (k + 1) (s.runs.drop (k + 1))) := Lib.hid (by have := NN.out; rw [if_neg h0] at this; exact this)
    have h1 : (st != 0) = true := by simpa using h0
    clear NN h0
    go_wp2
    go_roundw
    case rel => exact ⟨k + 1, by omega, by go_num, N2, BB⟩
    case measure => simp [intOf]; omega
  ·obtain rfl : k = m := by omega
   have hge : ¬ (k : Int) < (k : Int) := by omega
   have R : Hid (v = (0, 0, 0, false)) := Lib.hid (by rw [HQ.out, V9.out])
   go_wp2
   refine bodyPost_ret (v := .tuple #[.int .i64 0, .int .i64 0, .int .i64 0, .bool false]) (by simp [results, Tryz.results13, go_sem]) rfl ⟨?_, HB⟩
   rw [R.out]
end
end Go.Proofs.YtkbekojnmdgdgaaGreatDoor
