/-
  Part 21 of the texts behind the law: TDfParse, TDfShow, TDfShowD, TRnSmall, TRnMay, TRnUpd.
-/
import Derived.Test.YtkbekojnmdgdgaaGreatDoorTf15
import Derived.Test.YtkbekojnmdgdgaaGreatDoorTf19
import Derived.Test.YtkbekojnmdgdgaaGreatDoorTf14
import Derived.Test.YtkbekojnmdgdgaaGreatDoorTf20
import Derived.Test.YtkbekojnmdgdgaaGreatDoorTf13
import Derived.Test.YtkbekojnmdgdgaaGreatDoorTf1
/- DfParse -/
namespace Go.Proofs.YtkbekojnmdgdgaaGreatDoor
open Go.RowKit
theorem Df.opt_le {key : List UInt8} {ws : List (List UInt8)} {b : Nat} (h : ∀ t ∈ ws, t.length ≤ b) : (∀ t ∈ (Df.opt key ws).2, t.length ≤ b) ∧ ∀ v, (Df.opt key ws).1 = some v → v.length ≤ b := by
 cases ws with
 | nil => exact ⟨h, fun v hv => by cases hv⟩
 | cons x r =>
  rw [Df.opt_cons]
  by_cases hp : key.isPrefixOf x = true
  ·rw [if_pos hp]
   refine ⟨fun t ht => h t (List.mem_cons_of_mem _ ht), fun v hv => ?_⟩
   injection hv with hv
   subst hv
   have := h x (by simp)
   rw [List.length_drop]; omega
  ·rw [if_neg hp]
   exact ⟨h, fun v hv => by cases hv⟩
theorem Df.rt_small (nms ws : List (List UInt8)) (h : ∀ t ∈ ws, t.length ≤ 1024) : (Df.rt nms ws).1.after.length ≤ 1100 ∧ (Df.rt nms ws).1.name.length ≤ 1100 ∧ (Df.rt nms ws).1.on.length ≤ 1100 := by
 have hd : (ws.headD []).length ≤ 1024 := by
  cases ws with
  | nil => simp
  | cons x r => exact h x (by simp)
 have ht : ∀ t ∈ ws.tail, t.length ≤ 1024 := fun t ht => h t (List.mem_of_mem_tail ht)
 obtain ⟨a1, a2⟩ := Df.opt_le (key := Df.kA) ht
 obtain ⟨r1, -⟩ := Df.opt_le (key := Df.kR) a1
 obtain ⟨q1, -⟩ := Df.opt_le (key := Df.kW) r1
 obtain ⟨b1, -⟩ := Df.opt_le (key := Df.kB) q1
 obtain ⟨-, o2⟩ := Df.opt_le (key := Df.kO) b1
 unfold Df.rt
 simp only
 refine ⟨?_, by omega, ?_⟩
 ·cases ha : (Df.opt Df.kA ws.tail).1 with
  | none => simp [Df.afterL]
  | some v =>
   have h1 := a2 v ha
   have h2 := split_len 44 v
   show (Df.idxs nms (Tx.split 44 v)).length ≤ 1100
   unfold Df.idxs
   rw [List.length_map]
   omega
 ·cases ho : (Df.opt Df.kO (Df.opt Df.kB (Df.opt Df.kW (Df.opt Df.kR (Df.opt Df.kA ws.tail).2).2).2).2).1 with
  | none => simp
  | some v =>
   have := o2 v ho
   show v.length ≤ 1100
   omega
theorem Df.parse_fair {t : List UInt8} {d : Df.D} (ht : t.length ≤ 1024) (h : Df.parseD t = some d) : Fair d := by
 have hl := split_len 59 t
 rw [Df.parse_parts t (by omega)] at h
 have hlen := Tx.mapO_len h
 refine ⟨by omega, fun x hx => ?_⟩
 obtain ⟨i, hi, rfl⟩ := List.getElem_of_mem hx
 have hg := Tx.mapO_get h (i := i) (by omega) hi
 unfold Df.one at hg
 split at hg
 ·injection hg with hg
  rw [← hg]
  exact Df.rt_small _ _ fun w hw => by
   have h1 := split_piece 32 _ w hw
   have h2 := split_piece 59 t _ (List.getElem_mem (by omega : i < (Tx.split 59 t).length))
   omega
 ·cases hg
theorem ParseG.no {w w' : World} {r : Df.D × Int} {x : Int} (h : r = ([], x)) (hb : Below w.heap.size w w') : ParseG w r (.returned (.tuple #[.agg #[.slice none 0 0], .int .i64 x])) w' := by
 subst h
 exact ⟨none, 0, rfl, Lib.hid DefIn.nil_, Lib.hid hb⟩
theorem ParseG.yes {w w' : World} {r : Df.D × Int} {d : Df.D} {A : Option Addr} {n c : Nat} (h : r = (d, 0)) (hn : n = d.length) (hd : DefIn w' w'.heap.size A d) (hb : Below w.heap.size w w') : ParseG w r (.returned (.tuple #[.agg #[.slice A n c], .int .i64 0])) w' := by
 subst h hn
 exact ⟨A, c, rfl, Lib.hid hd, Lib.hid hb⟩
theorem ne_box {w : World} {X b o : Nat} {A : Option Addr} {n c : Nat} {t : TypeId} {u : Value} (hx : w.heap[X]? = some (.cells #[.slice A n c] t (0, 0))) (hc : w.cell? ⟨b, o, none⟩ = some u) (hu : ∀ A n c, u ≠ .slice A n c) : b ≠ X := by
 rintro rfl
 simp only [World.cell?, hx] at hc
 cases o with
 | zero =>
  have hc : some (Value.slice A n c) = some u := by simpa using hc
  injection hc with hc
  exact hu _ _ _ hc.symm
 | succ o => simp at hc
theorem cell_past {w : World} {X b o : Nat} (hb : b ≠ X) (i : Nat) (v : Value) : (w.setCell ⟨X, i, none⟩ v).cell? ⟨b, o, none⟩ = w.cell? ⟨b, o, none⟩ := by
 have : (w.setCell ⟨X, i, none⟩ v).heap[b]? = w.heap[b]? := Below.heap_setCell _ _ _ _ hb
 simp [World.cell?, this]
theorem DefIn.past {w : World} {B X : Nat} {A A0 : Option Addr} {n0 c0 : Nat} {T : TypeId} {d : Df.D} (h : DefIn w B A d) (hx : w.heap[X]? = some (.cells #[.slice A0 n0 c0] T (0, 0))) (v : Value) : DefIn (w.setCell ⟨X, 0, none⟩ v) B A d :=
 ⟨h.1, fun hn => by
  obtain ⟨b, off, e, hl, hc⟩ := h.2 hn
  refine ⟨b, off, e, hl, fun i hi => ?_⟩
  obtain ⟨A2, c2, h0, h1, h2, h3, h4, h5, h6, h7⟩ := hc i hi
  have hb : b ≠ X := ne_box hx h0 (fun _ _ _ e => by cases e)
  refine ⟨A2, c2, (cell_past hb _ _).trans h0, (cell_past hb _ _).trans h1, (cell_past hb _ _).trans h2, (cell_past hb _ _).trans h3, (cell_past hb _ _).trans h4, (cell_past hb _ _).trans h5, ⟨h6.1, fun hz => ?_⟩, h7⟩
  obtain ⟨b2, off2, e2, hl2, hc2⟩ := h6.2 hz
  have hb2 : b2 ≠ X := ne_box hx (hc2 0 hz) (fun _ _ _ e => by cases e)
  exact ⟨b2, off2, e2, hl2, fun j hj => (cell_past hb2 _ _).trans (hc2 j hj)⟩⟩
set_option maxRecDepth 20000 in
set_option maxHeartbeats 4000000 in
theorem parse_wide (s : ByteArray) (hs : s.size ≤ 9223372036854775807) (w : World) (hF : FactsD w) : Calls Tryz.prog 57 #[.string s] w (ParseG w (Df.parse s.data.toList)) := by
 obtain ⟨X, hX⟩ : ∃ X, X = w.heap.size := ⟨_, rfl⟩
 have HX := Lib.hid hX
 obtain ⟨W1, hW1⟩ : ∃ W1, W1 = w.alloc (.cells #[.slice none 0 0] 37) := ⟨_, rfl⟩
 have P1 : Hid (W1.heap[X]? = some (.cells #[.slice none 0 0] 37 (0, 0))) := Lib.hid (by rw [hW1, hX]; exact heap_alloc_new ..)
 have B1 : Hid (Below w.heap.size w W1) := Lib.hid (by rw [hW1]; exact (Below.refl _ _).alloc (Nat.le_refl _) _)
 by_cases hl : 1024 < s.size
 ·have R : Hid (Df.parse s.data.toList = ([], 14)) := Lib.hid (by unfold Df.parse; rw [if_pos (by rw [sizeB_listD]; exact hl)])
  have hl' : (1024 : Int) < (s.size : Int) := by omega
  clear hl hF
  have x0 : W1.cell? ⟨X, 0, none⟩ = some (.slice none 0 0) := by simp [World.cell?, P1.out]
  have x1 : W1.frozen? ⟨X, 0, none⟩ = false := by simp [World.frozen?, P1.out]
  have BR : Hid (Below w.heap.size w (W1.setCell ⟨X, 0, none⟩ (.slice none 0 0))) := Lib.hid (B1.out.setCell (p := ⟨X, 0, none⟩) (by rw [← HX.out]; exact Nat.le_refl X) _)
  go_enter Tryz.func57, Tryz.ntmps57
  go_upto_region 1 with fail
  rw [← hW1, ← hX]
  clear hW1 hX
  go_wp2
  exact bodyPost_ret (v := .tuple #[.agg #[.slice none 0 0], .int .i64 14]) (by simp [results, Tryz.results57, go_sem, x0]) rfl (ParseG.no R.out BR.out)
 ·have hl' : ¬ (1024 : Int) < (s.size : Int) := by omega
  have hle : s.data.toList.length ≤ 1024 := by rw [sizeB_listD]; omega
  have RD := Lib.hid (readDef_any s.data.toList hle)
  rw [str_list] at RD
  have EP : Df.parse s.data.toList = match Df.parseD s.data.toList with | none => ([], 2) | some d => if Df.good d = 0 then (d, 0) else ([], Df.good d) := by
   unfold Df.parse
   rw [if_neg (by omega)]
   rfl
  have HFF := Lib.hid hF
  cases hp : Df.parseD s.data.toList with
  | none =>
   rw [hp] at RD EP
   have R : Hid (Df.parse s.data.toList = ([], 2)) := Lib.hid EP
   clear EP hp hl hle hs hF
   go_enter Tryz.func57, Tryz.ntmps57
   go_upto_region 1 with fail
   rw [← hW1, ← hX]
   clear hW1 hX
   go_wp2_with fail
   (with_reducible refine (RD.out _).mono ?_); rintro e w2 ⟨A2, c2, rfl, d2, b2⟩
   have B2 : Hid (Below w.heap.size w w2) := Lib.hid (B1.out.trans (b2.out.mono B1.out.size))
   have P2 : Hid (w2.heap[X]? = some (.cells #[.slice none 0 0] 37 (0, 0))) := Lib.hid ((b2.out.block _ (lt_of_block P1.out)).trans P1.out)
   obtain ⟨W3, hW3⟩ : ∃ W3, W3 = w2.alloc (.cells #[.slice A2 0 c2] 37) := ⟨_, rfl⟩
   have K3 : Hid (W3 = w2.alloc (.cells #[.slice A2 0 c2] 37)) := Lib.hid hW3
   have P3 : Hid (W3.heap[X]? = some (.cells #[.slice none 0 0] 37 (0, 0))) := Lib.hid (by rw [hW3, Below.heap_alloc _ _ _ (lt_of_block P2.out)]; exact P2.out)
   have x0 : W3.cell? ⟨X, 0, none⟩ = some (.slice none 0 0) := by simp [World.cell?, P3.out]
   have x1 : W3.frozen? ⟨X, 0, none⟩ = false := by simp [World.frozen?, P3.out]
   have BR : Hid (Below w.heap.size w (W3.setCell ⟨X, 0, none⟩ (.slice none 0 0))) := Lib.hid ((by rw [hW3]; exact B2.out.alloc B2.out.size _ : Below w.heap.size w W3).setCell (p := ⟨X, 0, none⟩) (by rw [← HX.out]; exact Nat.le_refl X) _)
   clear hW3 b2 d2
   go_upto_region 4 with fail
   rw [← K3.out]
   go_wp2
   exact bodyPost_ret (v := .tuple #[.agg #[.slice none 0 0], .int .i64 2]) (by simp [results, Tryz.results57, go_sem, x0]) rfl (ParseG.no R.out BR.out)
  | some d =>
   rw [hp] at RD EP
   have FR := Lib.hid (Df.parse_fair hle hp)
   obtain ⟨n, hn⟩ : ∃ n, n = d.length := ⟨_, rfl⟩
   have HN := Lib.hid hn
   have RD2 : Hid (∀ W, Calls Tryz.prog 74 #[.string s] W fun e w' => ∃ A c, e = .returned (.tuple #[.agg #[.slice A n c], .bool true]) ∧ Hid (DefIn w' w'.heap.size A d) ∧ Hid (Below W.heap.size W w')) := Lib.hid fun W => (RD.out W).mono fun e w' h => by
    obtain ⟨A, c, h1, h2, h3⟩ := h
    exact ⟨A, c, by rw [h1, hn]; rfl, h2, h3⟩
   have GD : Hid (∀ W A c, Below w.heap.size w W → DefIn W W.heap.size A d → Calls Tryz.prog 75 #[.agg #[.slice A n c]] W (IntG W (Df.good d))) := Lib.hid fun W A c hW hD => by
    have := goodD_any A d c FR.out W (HFF.out.on hW) hD
    rwa [← hn] at this
   have R0 : Hid (Df.good d = 0 → Df.parse s.data.toList = (d, 0)) := Lib.hid fun h => by rw [EP]; show (if Df.good d = 0 then (d, 0) else ([], Df.good d)) = _; rw [if_pos h]
   have R1 : Hid (Df.good d ≠ 0 → Df.parse s.data.toList = ([], Df.good d)) := Lib.hid fun h => by rw [EP]; show (if Df.good d = 0 then (d, 0) else ([], Df.good d)) = _; rw [if_neg h]
   generalize Df.good d = gd at *
   clear EP hp hl hle hs hF hn RD
   go_enter Tryz.func57, Tryz.ntmps57
   go_upto_region 1 with fail
   rw [← hW1, ← hX]
   clear hW1 hX
   go_wp2_with fail
   (with_reducible refine (RD2.out _).mono ?_); rintro e w2 ⟨A2, c2, rfl, d2, b2⟩
   have B2 : Hid (Below w.heap.size w w2) := Lib.hid (B1.out.trans (b2.out.mono B1.out.size))
   have P2 : Hid (w2.heap[X]? = some (.cells #[.slice none 0 0] 37 (0, 0))) := Lib.hid ((b2.out.block _ (lt_of_block P1.out)).trans P1.out)
   obtain ⟨Y, hY⟩ : ∃ Y, Y = w2.heap.size := ⟨_, rfl⟩
   obtain ⟨W3, hW3⟩ : ∃ W3, W3 = w2.alloc (.cells #[.slice A2 n c2] 37) := ⟨_, rfl⟩
   have K3 : Hid (W3 = w2.alloc (.cells #[.slice A2 n c2] 37)) := Lib.hid hW3
   have BA : Hid (Below w2.heap.size w2 W3) := Lib.hid (by rw [hW3]; exact (Below.refl _ _).alloc (Nat.le_refl _) _)
   have B3 : Hid (Below w.heap.size w W3) := Lib.hid (B2.out.trans (BA.out.mono B2.out.size))
   have P3 : Hid (W3.heap[X]? = some (.cells #[.slice none 0 0] 37 (0, 0))) := Lib.hid ((BA.out.block _ (lt_of_block P2.out)).trans P2.out)
   have Q3 : Hid (W3.heap[Y]? = some (.cells #[.slice A2 n c2] 37 (0, 0))) := Lib.hid (by rw [hW3, hY]; exact heap_alloc_new ..)
   have D3 : Hid (DefIn W3 W3.heap.size A2 d) := Lib.hid (d2.out.on BA.out)
   clear hW3 b2 d2
   go_upto_region 4 with fail
   rw [← K3.out, ← hY]
   clear K3 hY BA
   have y0 : W3.cell? ⟨Y, 0, none⟩ = some (.slice A2 n c2) := by simp [World.cell?, Q3.out]
   go_wp2_with fail
   (with_reducible refine (GD.out _ _ _ B3.out D3.out).mono ?_); rintro e w4 ⟨rfl, b4⟩
   have B4 : Hid (Below w.heap.size w w4) := Lib.hid (B3.out.trans (b4.out.mono B3.out.size))
   have P4 : Hid (w4.heap[X]? = some (.cells #[.slice none 0 0] 37 (0, 0))) := Lib.hid ((b4.out.block _ (lt_of_block P3.out)).trans P3.out)
   have D4 : Hid (DefIn w4 w4.heap.size A2 d) := Lib.hid (D3.out.on b4.out)
   have Q4 : Hid (w4.heap[Y]? = some (.cells #[.slice A2 n c2] 37 (0, 0))) := Lib.hid ((b4.out.block _ (lt_of_block Q3.out)).trans Q3.out)
   have y1 : w4.cell? ⟨Y, 0, none⟩ = some (.slice A2 n c2) := by simp [World.cell?, Q4.out]
   have x0 : w4.cell? ⟨X, 0, none⟩ = some (.slice none 0 0) := by simp [World.cell?, P4.out]
   have x1 : w4.frozen? ⟨X, 0, none⟩ = false := by simp [World.frozen?, P4.out]
   have XW : Hid (w.heap.size ≤ X) := Lib.hid (by rw [← HX.out]; exact Nat.le_refl X)
   clear y0 b4 D3 P3 Q3
   by_cases hg : gd = 0
   ·subst hg
    have DF : Hid (DefIn (w4.setCell ⟨X, 0, none⟩ (.slice A2 n c2)) (w4.setCell ⟨X, 0, none⟩ (.slice A2 n c2)).heap.size A2 d) := Lib.hid (by
     have := D4.out.past P4.out (.slice A2 n c2)
     have e : (w4.setCell ⟨X, 0, none⟩ (.slice A2 n c2)).heap.size = w4.heap.size := by simp [World.setCell]
     rw [e]; exact this)
    have BR : Hid (Below w.heap.size w (w4.setCell ⟨X, 0, none⟩ (.slice A2 n c2))) := Lib.hid (B4.out.setCell (p := ⟨X, 0, none⟩) XW.out _)
    go_wp2
    exact bodyPost_ret (v := .tuple #[.agg #[.slice A2 n c2], .int .i64 0]) (by simp [results, Tryz.results57, go_sem, x0]) rfl (ParseG.yes (R0.out (by trivial)) HN.out DF.out BR.out)
   ·have hd : (gd != 0) = true := by simpa using hg
    have GN := Lib.hid hg
    have BR : Hid (Below w.heap.size w (w4.setCell ⟨X, 0, none⟩ (.slice none 0 0))) := Lib.hid (B4.out.setCell (p := ⟨X, 0, none⟩) XW.out _)
    clear hg
    go_wp2
    exact bodyPost_ret (v := .tuple #[.agg #[.slice none 0 0], .int .i64 gd]) (by simp [results, Tryz.results57, go_sem, x0]) rfl (ParseG.no (R1.out GN.out) BR.out)
end Go.Proofs.YtkbekojnmdgdgaaGreatDoor
/- DfShow -/
namespace Go.Proofs.YtkbekojnmdgdgaaGreatDoor
open Go.RowKit
def NamesM (w : World) (us : List (List UInt8)) (m : Nat) (e : Ending) (w' : World) : Prop :=
 ∃ A cap, e = .returned (.slice A m cap) ∧ Hid (OwnT w' w.heap.size A cap (us.map str)) ∧ Hid (Below w.heap.size w w')
def Df.nmOf (d : Df.D) (l : List Int) : List (List UInt8) := l.map fun a => (Df.names d).getD a.toNat []
theorem Df.nmOf_len (d : Df.D) (l : List Int) : (Df.nmOf d l).length = l.length := by simp [Df.nmOf]
theorem map_mk (l : List (List UInt8)) : l.map (fun t => (⟨t.toArray⟩ : ByteArray)) = l.map str := rfl
set_option maxRecDepth 20000 in
set_option maxHeartbeats 1000000 in
theorem namesOf_any (A : Option Addr) (d : Df.D) (n cap : Nat) (hn : n = d.length) (A2 : Option Addr) (l : List Int) (m cap2 : Nat) (hm : m = l.length) (hm9 : m ≤ 1100) (hi : ∀ a ∈ l, 0 ≤ a ∧ a < (d.length : Int)) (w : World) (h : DefIn w w.heap.size A d) (hz : Zs w w.heap.size A2 l) :
  Calls Tryz.prog 100 #[.agg #[.slice A n cap], .slice A2 m cap2] w (NamesM w (Df.nmOf d l) m) := by
 have H := Lib.hid h
 have HZ := Lib.hid hz
 have HN := Lib.hid hn
 have HM := Lib.hid hm
 have HI := Lib.hid hi
 have hmk := made_T m (by omega)
 clear h hz hn hm hi
 obtain ⟨X, hX⟩ : ∃ X, X = w.heap.size := ⟨_, rfl⟩
 obtain ⟨W0, hW0⟩ : ∃ W0, W0 = w.alloc (.cells #[.slice A n cap] 37) := ⟨_, rfl⟩
 obtain ⟨W1, hW1⟩ : ∃ W1, W1 = W0.alloc (.cells (madeCells #[.string ⟨#[]⟩] m) 9) := ⟨_, rfl⟩
 have Z0 : Hid (W0.heap.size = X + 1) := Lib.hid (by rw [hW0, hX]; simp)
 have P0 : Hid (W0.heap[X]? = some (.cells #[.slice A n cap] 37 (0, 0))) := Lib.hid (by rw [hW0, hX]; exact heap_alloc_new ..)
 have P1 : Hid (W1.heap[X]? = some (.cells #[.slice A n cap] 37 (0, 0))) := Lib.hid (by rw [hW1, Below.heap_alloc _ _ _ (by rw [Z0.out]; omega)]; exact P0.out)
 have O1 : Hid (OwnT W1 (X + 1) (some ⟨X + 1, 0, none⟩) m (List.replicate m ⟨#[]⟩)) := Lib.hid (by rw [hW1, ← Z0.out]; exact OwnT.made W0 m (by omega))
 have B1 : Hid (Below X w W1) := Lib.hid (by
  have h0 : Below X w W0 := by rw [hW0, hX]; exact (Below.refl _ _).alloc (Nat.le_refl _) _
  rw [hW1]; exact h0.alloc (by rw [Z0.out]; omega) _)
 have F0 : Hid (Filled (List.replicate m (⟨#[]⟩ : ByteArray)) m (Df.nmOf d l) 0) := Lib.hid ⟨by simp, rfl⟩
 have HX := Lib.hid hX
 go_enter Tryz.func100, Tryz.ntmps100
 go_upto_region 2 with fail
 rw [← hW0, ← hW1, ← hX]
 clear hW0 hW1 hX hmk
 go_wp2_with fail
 go_loopw [13] (fun iv wr => ∃ (k : Nat) (ss : List ByteArray), k ≤ m ∧ iv = .int .i64 k ∧ Hid (OwnT wr (X + 1) (some ⟨X + 1, 0, none⟩) m ss) ∧ Hid (Filled ss m (Df.nmOf d l) k) ∧ Hid (wr.heap[X]? = some (.cells #[.slice A n cap] 37 (0, 0))) ∧ Hid (Below X w wr)) (fun iv _ => m - (intOf iv).toNat)
 case atStart => exact ⟨0, _, Nat.zero_le _, rfl, O1, F0, P1, B1⟩
 case round =>
  obtain ⟨k, ss, hk, rfl, HO, HFl, HP, HB⟩ := hrel
  by_cases hlt : k < m
  ·have hlt' : (k : Int) < (m : Int) := by omega
   have hkl : Hid (k < l.length) := Lib.hid (by rw [← HM.out]; exact hlt)
   have ZZ : Zs wr X A2 l := by have := HZ.out; rw [← HX.out] at this; exact this.below HB.out
   obtain ⟨b2, off2, z, rfl, hb2, cz, hz, r0, r1⟩ := ZZ.at_ hkl.out
   clear ZZ
   have hzl : l[k]'hkl.out = z := by
    have := hz.out
    rwa [List.getD_eq_getElem?_getD, List.getElem?_eq_getElem hkl.out] at this
   obtain ⟨i0, i1⟩ := HI.out z (by rw [← hzl]; exact List.getElem_mem hkl.out)
   obtain ⟨zn, rfl⟩ := Int.eq_ofNat_of_zero_le i0
   have hzn : zn < d.length := by omega
   have HID : DefIn wr X A d := by have := H.out; rw [← HX.out] at this; exact this.below HB.out
   obtain ⟨b, off, A3, c3, rfl, hb, -, -, -, p0, -, -, -, -, -⟩ := HID.at2 hzn
   clear HID
   have NE : (Df.nmOf d l)[k]'(by rw [Df.nmOf_len]; exact hkl.out) = d[zn].name := by
    unfold Df.nmOf
    rw [List.getElem_map, hzl, Int.toNat_natCast, List.getD_eq_getElem?_getD]
    unfold Df.names
    rw [List.getElem?_map, List.getElem?_eq_getElem hzn]
    rfl
   have FN : Hid (Filled (ss.set k (str d[zn].name)) m (Df.nmOf d l) (k + 1)) := Lib.hid (by
    have := HFl.out.next hlt (by rw [Df.nmOf_len]; exact hkl.out)
    rw [NE] at this
    exact this)
   have hn2 : (zn : Int) < (n : Int) := by rw [HN.out]; exact i1
   have hf := HO.out.thaw k
   have hc := HO.out.val (i := k) (by rw [HFl.out.1]; exact hlt)
   have q0 : wr.cell? ⟨X, 0, none⟩ = some (.slice (some ⟨b, off, none⟩) n cap) := by simp [World.cell?, HP.out]
   clear NE i0 i1 r0 r1 hzl
   generalize d[zn] = t at *
   have ON : Hid (OwnT (wr.setCell ⟨X + 1, k, none⟩ (.string (str t.name))) (X + 1) (some ⟨X + 1, 0, none⟩) m (ss.set k (str t.name))) := Lib.hid (HO.out.stored k _)
   have PN : Hid ((wr.setCell ⟨X + 1, k, none⟩ (.string (str t.name))).heap[X]? = some (.cells #[.slice (some ⟨b, off, none⟩) n cap] 37 (0, 0))) := Lib.hid ((Below.heap_setCell _ _ _ _ (show X ≠ X + 1 by omega)).trans HP.out)
   have BN : Hid (Below X w (wr.setCell ⟨X + 1, k, none⟩ (.string (str t.name)))) := Lib.hid (HB.out.setCell (p := ⟨X + 1, k, none⟩) (show X ≤ X + 1 by omega) _)
   go_wp2
   go_roundw
   case rel => exact ⟨k + 1, _, by omega, by go_num, ON, FN, PN, BN⟩
   case measure => simp [intOf]; omega
  ·obtain rfl : k = m := by omega
   have hge : ¬ (k : Int) < (k : Int) := by omega
   have E := HFl.out.all (by rw [Df.nmOf_len]; exact HM.out.symm)
   rw [map_mk] at E
   subst E
   go_wp2
   go_ret
   exact ⟨_, k, rfl, Lib.hid (by rw [← HX.out]; exact HO.out.low (by omega)), Lib.hid (by rw [← HX.out]; exact HB.out)⟩
theorem Df.Ok.aft_len {d : Df.D} (h : Df.Ok d) {t : Df.Task} (ht : t ∈ d) : t.after.length ≤ 16 ∧ ∀ a ∈ t.after, 0 ≤ a ∧ a < (d.length : Int) := by
 obtain ⟨i, hi, rfl⟩ := List.getElem_of_mem ht
 obtain ⟨h1, h2⟩ := h.after hi
 have h3 : (d[i].after.map Int.toNat).Nodup := by
  rw [List.Nodup, List.pairwise_map]
  exact h1.imp_of_mem fun {a b} ha hb hab e => hab (by have := h2 a ha; have := h2 b hb; omega)
 have h4 := Gr.nodup_low d.length (d[i].after.map Int.toNat) (fun x hx => by
  obtain ⟨a, ha, rfl⟩ := List.mem_map.1 hx
  have := h2 a ha
  omega) h3
 rw [List.length_map] at h4
 have := h.n16
 exact ⟨by omega, fun a ha => ⟨(h2 a ha).1, (h2 a ha).2.1⟩⟩
theorem Df.Ok.name_len {d : Df.D} (h : Df.Ok d) {t : Df.Task} (ht : t ∈ d) : t.name.length ≤ 16 ∧ t.on.length ≤ 16 := by
 have := h.name t ht
 unfold Df.nameOk at this
 rw [Bool.and_eq_true, Bool.or_eq_true] at this
 refine ⟨(Df.isName_len this.1).2, ?_⟩
 rcases this.2 with e | e
 ·rw [List.isEmpty_iff.1 e]; simp
 ·exact (Df.isName_len e).2
theorem Df.Ok.nm_len {d : Df.D} (h : Df.Ok d) (l : List Int) : ∀ p ∈ Df.nmOf d l, p.length ≤ 16 := fun p hp => by
 obtain ⟨a, _, rfl⟩ := List.mem_map.1 hp
 rw [List.getD_eq_getElem?_getD]
 unfold Df.names
 rw [List.getElem?_map]
 cases hg : d[a.toNat]? with
 | none => simp
 | some t => exact (h.name_len (List.mem_of_getElem? hg)).1
theorem Df.Ok.num {d : Df.D} (h : Df.Ok d) {t : Df.Task} (ht : t ∈ d) : ∃ r q b : Nat, t.retry = r ∧ t.wait = q ∧ t.base = b ∧ r ≤ 9999 ∧ q ≤ 9999 ∧ b ≤ 9999 := by
 have := h.nums t ht
 unfold Df.numOk at this
 rw [decide_eq_true_eq] at this
 exact ⟨t.retry.toNat, t.wait.toNat, t.base.toNat, by omega, by omega, by omega, by omega, by omega, by omega⟩
theorem Df.optW_len (k : List UInt8) (o : Option (List UInt8)) : (Df.optW k o).length ≤ 1 := by cases o <;> simp [Df.optW]
theorem Df.optW_mem {k : List UInt8} {o : Option (List UInt8)} {b : Nat} (h : ∀ v, o = some v → k.length + v.length ≤ b) : ∀ p ∈ Df.optW k o, p.length ≤ b := fun p hp => by
 cases o with
 | none => simp [Df.optW] at hp
 | some v =>
  simp only [Df.optW, List.mem_singleton] at hp
  subst hp
  rw [List.length_append]
  exact h v rfl
theorem Df.num_mem {k : List UInt8} {u : Nat} {v : Nat} (hk : k.length ≤ 6) (hv : v ≤ 9999) : ∀ p ∈ Df.optW k (if (v : Int) = (u : Int) then none else some (Lib.decDigits v)), p.length ≤ 300 :=
 Df.optW_mem fun x hx => by
  split at hx
  ·cases hx
  ·injection hx with hx
   have := Pl.dec_len 4 v (by decide) (by omega)
   rw [hx] at this
   omega
def TxtS (w0 w : World) (X : Nat) (cs1 cs2 : Array Value) (ws : List (List UInt8)) (A : Option Addr) (cap : Nat) : Prop :=
 w.heap[X]? = some (.cells cs1 37 (0, 0)) ∧ w.heap[X + 1]? = some (.cells cs2 96 (0, 0)) ∧ OwnT w (X + 1 + 1) A cap (ws.map str) ∧ Below X w0 w ∧ X + 1 + 1 ≤ w.heap.size
theorem TxtS.on {w0 w w' : World} {X : Nat} {cs1 cs2 : Array Value} {ws : List (List UInt8)} {A : Option Addr} {cap : Nat} (h : TxtS w0 w X cs1 cs2 ws A cap) (hb : Below w.heap.size w w') : TxtS w0 w' X cs1 cs2 ws A cap := by
 obtain ⟨h1, h2, h3, h4, h5⟩ := h
 exact ⟨(hb.block _ (by omega)).trans h1, (hb.block _ (by omega)).trans h2, h3.keep hb, h4.trans (hb.mono (by omega)), Nat.le_trans h5 hb.size⟩
theorem TxtS.more {w0 w w' : World} {X : Nat} {cs1 cs2 : Array Value} {ws us : List (List UInt8)} {A A' : Option Addr} {cap cap' : Nat} (h : TxtS w0 w X cs1 cs2 ws A cap) (hb : Below (X + 1 + 1) w w') (ho : OwnT w' (X + 1 + 1) A' cap' (us.map str)) : TxtS w0 w' X cs1 cs2 us A' cap' := by
 obtain ⟨h1, h2, h3, h4, h5⟩ := h
 exact ⟨(hb.block _ (by omega)).trans h1, (hb.block _ (by omega)).trans h2, ho, h4.trans (hb.mono (by omega)), Nat.le_trans h5 hb.size⟩
def Df.wA (d : Df.D) (t : Df.Task) : List (List UInt8) := [t.name] ++ Df.optW Df.kA (if t.after.isEmpty then none else some (Tx.join 44 (Df.nmOf d t.after)))
theorem Df.text_words (d : Df.D) (t : Df.Task) : Df.taskText (Df.names d) t = Tx.join 32 (Df.wA d t ++ Df.optW Df.kR (if t.retry = ((0 : Nat) : Int) then none else some (Lib.decDigits t.retry.toNat)) ++ Df.optW Df.kW (if t.wait = ((10 : Nat) : Int) then none else some (Lib.decDigits t.wait.toNat)) ++ Df.optW Df.kB (if t.base = ((1 : Nat) : Int) then none else some (Lib.decDigits t.base.toNat)) ++ Df.optW Df.kO (if t.on.isEmpty then none else some t.on)) := by
 unfold Df.taskText Df.words Df.rawOf Df.wA
 simp only [List.append_assoc, List.append_nil, List.cons_append, List.nil_append]
 rfl
theorem Df.wA_len (d : Df.D) (t : Df.Task) : 1 ≤ (Df.wA d t).length ∧ (Df.wA d t).length ≤ 2 := by
 have := Df.optW_len Df.kA (if t.after.isEmpty then none else some (Tx.join 44 (Df.nmOf d t.after)))
 unfold Df.wA
 rw [List.length_append, List.length_singleton]
 omega
theorem Df.Ok.aft_txt {d : Df.D} (h : Df.Ok d) {t : Df.Task} (ht : t ∈ d) : (Tx.join 44 (Df.nmOf d t.after)).length ≤ 272 := by
 have h1 := join_le 44 (h.nm_len t.after)
 rw [Df.nmOf_len] at h1
 have := (h.aft_len ht).1
 omega
theorem Df.Ok.wA_mem {d : Df.D} (h : Df.Ok d) {t : Df.Task} (ht : t ∈ d) : ∀ p ∈ Df.wA d t, p.length ≤ 300 := fun p hp => by
 unfold Df.wA at hp
 rcases List.mem_append.1 hp with hp | hp
 ·simp only [List.mem_singleton] at hp
  subst hp
  have := (h.name_len ht).1
  omega
 ·refine Df.optW_mem (fun v hv => ?_) p hp
  split at hv
  ·cases hv
  ·injection hv with hv
   subst hv
   have := h.aft_txt ht
   show 6 + _ ≤ _
   omega
theorem kA_str : str Df.kA = ⟨#[97, 102, 116, 101, 114, 61]⟩ := rfl
theorem kR_str : str Df.kR = ⟨#[114, 101, 116, 114, 121, 61]⟩ := rfl
theorem kW_str : str Df.kW = ⟨#[119, 97, 105, 116, 61]⟩ := rfl
theorem kB_str : str Df.kB = ⟨#[98, 97, 115, 101, 61]⟩ := rfl
theorem kO_str : str Df.kO = ⟨#[111, 110, 61]⟩ := rfl
theorem str_add (k : List UInt8) (b : ByteArray) (v : List UInt8) (hb : b = str v) : str k ++ b = str (k ++ v) := by rw [hb, str_app]
def StepG (w0 : World) (X : Nat) (cs1 cs2 : Array Value) (ws : List (List UInt8)) (m : Nat) (e : Ending) (w' : World) : Prop :=
 ∃ A cap, e = .returned (.slice A m cap) ∧ Hid (TxtS w0 w' X cs1 cs2 ws A cap)
set_option maxRecDepth 100000 in
set_option maxHeartbeats 4000000 in
theorem taskText_any (A : Option Addr) (d : Df.D) (n cap : Nat) (hn : n = d.length) (hk : Df.Ok d) (t : Df.Task) (ht : t ∈ d) (A2 : Option Addr) (c2 : Nat) (w : World) (hF : FactsD w) (h : DefIn w w.heap.size A d) (hz : Zs w w.heap.size A2 t.after) :
  Calls Tryz.prog 76 #[.agg #[.slice A n cap], tv t A2 c2] w (StrG w (str (Df.taskText (Df.names d) t))) := by
 have H := Lib.hid h
 have HZ := Lib.hid hz
 have HFF := Lib.hid hF
 have HK := Lib.hid hk
 have HT := Lib.hid ht
 have AL := Lib.hid (hk.aft_len ht)
 have NL := Lib.hid (hk.name_len ht)
 have WM := Lib.hid (hk.wA_mem ht)
 have WL := Lib.hid (Df.wA_len d t)
 have TW := Lib.hid (Df.text_words d t)
 have AT := Lib.hid (hk.aft_txt ht)
 have WE : Hid (Df.wA d t = [t.name] ++ Df.optW Df.kA (if t.after.isEmpty then none else some (Tx.join 44 (Df.nmOf d t.after)))) := Lib.hid rfl
 obtain ⟨rn, qn, bn, hr, hq, hb, r9, q9, b9⟩ := hk.num ht
 have NO : Hid (∀ W, Below w.heap.size w W → Calls Tryz.prog 100 #[.agg #[.slice A n cap], .slice A2 t.after.length c2] W (NamesM W (Df.nmOf d t.after) t.after.length)) := Lib.hid fun W hW => namesOf_any A d n cap hn A2 t.after t.after.length c2 rfl (by have := AL.out.1; omega) AL.out.2 W (h.on hW) (hz.on hW)
 have ON := Lib.hid (@str_full t.on)
 have OE := Lib.hid (@str_empty t.on)
 unfold tv
 rw [hr, hq, hb] at TW ⊢
 simp only [Int.toNat_natCast] at TW
 obtain ⟨am, ham⟩ : ∃ am, am = t.after.length := ⟨_, rfl⟩
 have HA := Lib.hid ham
 rw [← ham] at NO ⊢
 obtain ⟨sn, hsn⟩ : ∃ s, s = str t.name := ⟨_, rfl⟩
 obtain ⟨so, hso⟩ : ∃ s, s = str t.on := ⟨_, rfl⟩
 rw [← hso] at ON OE
 rw [← hsn, ← hso]
 have SN := Lib.hid hsn
 have SO := Lib.hid hso
 obtain ⟨tx, htx⟩ : ∃ tx, tx = Df.taskText (Df.names d) t := ⟨_, rfl⟩
 rw [← htx] at TW ⊢
 obtain ⟨WA, hWA⟩ : ∃ WA, WA = Df.wA d t := ⟨_, rfl⟩
 rw [← hWA] at TW WM WL WE
 clear hk ht hr hq hb hF h hz hn ham hsn hso htx hWA
 obtain ⟨X, hX⟩ : ∃ X, X = w.heap.size := ⟨_, rfl⟩
 obtain ⟨cs1, hcs1⟩ : ∃ cs : Array Value, cs = #[.slice A n cap] := ⟨_, rfl⟩
 obtain ⟨cs2, hcs2⟩ : ∃ cs : Array Value, cs = #[.string sn, .slice A2 am c2, .int .i64 rn, .int .i64 qn, .int .i64 bn, .string so] := ⟨_, rfl⟩
 obtain ⟨W3, hW3⟩ : ∃ W3, W3 = ((w.alloc (.cells #[.slice A n cap] 37)).alloc (.cells #[.string sn, .slice A2 am c2, .int .i64 rn, .int .i64 qn, .int .i64 bn, .string so] 96)).alloc (.cells #[.string sn] 9) := ⟨_, rfl⟩
 have T3 : Hid (TxtS w W3 X cs1 cs2 [t.name] (some ⟨X + 1 + 1, 0, none⟩) 1) := Lib.hid (by
  rw [hW3, hcs1, hcs2, hX]
  refine ⟨?_, ?_, ?_, ?_, by simp <;> omega⟩
  ·rw [Below.heap_alloc _ _ _ (by simp <;> omega)]; exact box0 ..
  ·rw [Below.heap_alloc _ _ _ (by simp)]; exact box1 ..
  ·have := OwnT.lit ((w.alloc (.cells #[.slice A n cap] 37)).alloc (.cells #[.string sn, .slice A2 am c2, .int .i64 rn, .int .i64 qn, .int .i64 bn, .string so] 96)) [str t.name] (by simp) #[.string sn] (by rw [SN.out]; rfl)
   rw [World.size_alloc, World.size_alloc] at this
   exact this
  ·exact (((Below.refl _ _).alloc (Nat.le_refl _) _).alloc (by simp) _).alloc (by simp <;> omega) _)
 have HX := Lib.hid hX
 have C1 := Lib.hid hcs1
 have C2 := Lib.hid hcs2
 have BW : Hid (∀ W ws A' c', TxtS w W X cs1 cs2 ws A' c' → Below w.heap.size w W) := Lib.hid fun W ws A' c' hT => by rw [← HX.out]; exact hT.2.2.2.1
 have CL : Hid (∀ W ws A' c', TxtS w W X cs1 cs2 ws A' c' → W.cell? ⟨X, 0, none⟩ = some (.slice A n cap) ∧ W.cell? ⟨X + 1, 0, none⟩ = some (.string sn) ∧ W.cell? ⟨X + 1, 1, none⟩ = some (.slice A2 am c2) ∧ W.cell? ⟨X + 1, 2, none⟩ = some (.int .i64 rn) ∧ W.cell? ⟨X + 1, 3, none⟩ = some (.int .i64 qn) ∧ W.cell? ⟨X + 1, 4, none⟩ = some (.int .i64 bn) ∧ W.cell? ⟨X + 1, 5, none⟩ = some (.string so)) := Lib.hid fun W ws A' c' hT => by
  have h2 := hT.2.1
  rw [C2.out] at h2
  have h1 := hT.1
  rw [C1.out] at h1
  exact ⟨by simp [World.cell?, h1], ob6 h2⟩
 have SG := Lib.hid (TW.out)
 obtain ⟨R1, hR1⟩ : ∃ R, R = Df.optW Df.kR (if (rn : Int) = ((0 : Nat) : Int) then none else some (Lib.decDigits rn)) := ⟨_, rfl⟩
 obtain ⟨R2, hR2⟩ : ∃ R, R = Df.optW Df.kW (if (qn : Int) = ((10 : Nat) : Int) then none else some (Lib.decDigits qn)) := ⟨_, rfl⟩
 obtain ⟨R3, hR3⟩ : ∃ R, R = Df.optW Df.kB (if (bn : Int) = ((1 : Nat) : Int) then none else some (Lib.decDigits bn)) := ⟨_, rfl⟩
 have l1 : R1.length ≤ 1 := by rw [hR1]; exact Df.optW_len _ _
 have l2 : R2.length ≤ 1 := by rw [hR2]; exact Df.optW_len _ _
 have l3 : R3.length ≤ 1 := by rw [hR3]; exact Df.optW_len _ _
 have g1 : ∀ p ∈ R1, p.length ≤ 300 := by rw [hR1]; exact Df.num_mem (by decide) r9
 have g2 : ∀ p ∈ R2, p.length ≤ 300 := by rw [hR2]; exact Df.num_mem (by decide) q9
 have g3 : ∀ p ∈ R3, p.length ≤ 300 := by rw [hR3]; exact Df.num_mem (by decide) b9
 rw [← hR1, ← hR2, ← hR3] at TW
 have wl := WL.out
 have step : ∀ (ws : List (List UInt8)) (m m' : Nat) (key : List UInt8) (v u : Nat) (R : List (List UInt8)), m = ws.length → m' = (ws ++ R).length → ws.length ≤ 10 → key.length ≤ 6 → v ≤ 9999 → u ≤ 9999 → R = Df.optW key (if (v : Int) = (u : Int) then none else some (Lib.decDigits v)) →
   ∀ W A' c', TxtS w W X cs1 cs2 ws A' c' → Calls Tryz.prog 101 #[.slice A' m c', .string (str key), .int .i64 v, .int .i64 u] W (StepG w X cs1 cs2 (ws ++ R) m') := fun ws m m' key v u R hm hm' hl hkey hv hu hR W A' c' hT => by
  refine (appendNumber_any A' ws m c' (X + 1 + 1) hm key (by omega) v u hv hu W (HFF.out.on (BW.out W ws A' c' hT)) hT.2.2.1 hT.2.2.2.2 (by omega)).mono ?_
  rintro e w' ⟨A6, c6, rfl, o6, d6⟩
  rw [← hR] at o6 ⊢
  exact ⟨A6, c6, by rw [hm'], Lib.hid (hT.more d6.out o6.out)⟩
 obtain ⟨L2, hL2⟩ : ∃ L, L = WA ++ R1 := ⟨_, rfl⟩
 obtain ⟨L3, hL3⟩ : ∃ L, L = L2 ++ R2 := ⟨_, rfl⟩
 obtain ⟨L4, hL4⟩ : ∃ L, L = L3 ++ R3 := ⟨_, rfl⟩
 obtain ⟨m1, hm1⟩ : ∃ m, m = WA.length := ⟨_, rfl⟩
 obtain ⟨m2, hm2⟩ : ∃ m, m = L2.length := ⟨_, rfl⟩
 obtain ⟨m3, hm3⟩ : ∃ m, m = L3.length := ⟨_, rfl⟩
 obtain ⟨m4, hm4⟩ : ∃ m, m = L4.length := ⟨_, rfl⟩
 have n2 : L2.length ≤ 3 := by rw [hL2, List.length_append]; omega
 have n3 : L3.length ≤ 4 := by rw [hL3, List.length_append]; omega
 have n4 : 1 ≤ L4.length ∧ L4.length ≤ 5 := by rw [hL4, List.length_append, hL3, List.length_append, hL2, List.length_append]; rw [hL2, List.length_append] at n2; rw [hL3, List.length_append] at n3; omega
 have AR := Lib.hid (step WA m1 m2 Df.kR rn 0 R1 hm1 (by rw [hm2, hL2]) (by omega) (by decide) r9 (by decide) hR1)
 have AQ := Lib.hid (step L2 m2 m3 Df.kW qn 10 R2 hm2 (by rw [hm3, hL3]) (by omega) (by decide) q9 (by decide) hR2)
 have AB := Lib.hid (step L3 m3 m4 Df.kB bn 1 R3 hm3 (by rw [hm4, hL4]) (by omega) (by decide) b9 (by decide) hR3)
 rw [← hL2] at AR TW
 rw [← hL3] at AQ TW
 rw [← hL4] at AB TW
 have gm : ∀ p ∈ L4, p.length ≤ 300 := fun p hp => by
  rw [hL4] at hp
  rcases List.mem_append.1 hp with hp | hp
  ·rw [hL3] at hp
   rcases List.mem_append.1 hp with hp | hp
   ·rw [hL2] at hp
    rcases List.mem_append.1 hp with hp | hp
    ·exact WM.out p hp
    ·exact g1 p hp
   ·exact g2 p hp
  ·exact g3 p hp
 have M4 := Lib.hid hm4
 have GM := Lib.hid gm
 have N4 := Lib.hid n4
 have join4 : ∀ (L : List (List UInt8)) (m : Nat), m = L.length → 0 < L.length → L.length ≤ 10 → (∀ p ∈ L, p.length ≤ 300) → tx = Tx.join 32 L → ∀ W A' c', TxtS w W X cs1 cs2 L A' c' → Calls Tryz.prog 77 #[.slice A' m c', .string ⟨#[32]⟩] W (StrG W (str tx)) := fun L m hm h0 h9 hp htx W A' c' hT => by
  have hj := join_le 32 hp
  have := joinD_any A' L m c' hm h0 32 W (X + 1 + 1) hT.2.2.1 (by omega) (by omega)
  rwa [← htx] at this
 have J4 := Lib.hid join4
 have M1 := Lib.hid hm1
 clear step join4 hR1 hR2 hR3 g1 g2 g3 l1 l2 l3 hL2 hL3 hL4 hm1 hm2 hm3 hm4 n2 n3 n4 gm wl SG WM WL r9 q9 b9
 rw [kR_str, show ((0 : Nat) : Int) = (0 : Int) from rfl] at AR
 rw [kW_str, show ((10 : Nat) : Int) = (10 : Int) from rfl] at AQ
 rw [kB_str, show ((1 : Nat) : Int) = (1 : Int) from rfl] at AB
 have hcl := CL.out W3 _ _ _ T3.out
 obtain ⟨k0, k1, k2, k3, k4, k5, k6⟩ := hcl
 go_enter Tryz.func76, Tryz.ntmps76
 go_upto_region 2 with fail
 rw [← hW3, ← hX]
 clear hW3 hX hcs1 hcs2
 by_cases ha0 : am = 0
 ·have WT : Hid (TxtS w W3 X cs1 cs2 WA (some ⟨X + 1 + 1, 0, none⟩) 1) := Lib.hid (by
   have : WA = [t.name] := by rw [WE.out, List.isEmpty_iff.2 (List.length_eq_zero_iff.1 (HA.out.symm.trans ha0))]; rfl
   rw [this]; exact T3.out)
  have hm1 : m1 = 1 := by
   have : WA = [t.name] := by rw [WE.out, List.isEmpty_iff.2 (List.length_eq_zero_iff.1 (HA.out.symm.trans ha0))]; rfl
   rw [M1.out, this]; rfl
  subst ha0
  rw [hm1] at AR
  clear hm1
  go_wp2_with fail
  clear k0 k1 k2 k3 k4 k5 k6
  (with_reducible refine (AR.out _ _ _ WT.out).mono ?_); rintro e u1 ⟨A11, c11, rfl, u1T⟩
  obtain ⟨k0, k1, k2, k3, k4, k5, k6⟩ := CL.out _ _ _ _ u1T.out
  go_wp2_with fail
  clear k0 k1 k2 k3 k4 k5 k6
  (with_reducible refine (AQ.out _ _ _ u1T.out).mono ?_); rintro e u2 ⟨A12, c12, rfl, u2T⟩
  obtain ⟨k0, k1, k2, k3, k4, k5, k6⟩ := CL.out _ _ _ _ u2T.out
  go_wp2_with fail
  clear k0 k1 k2 k3 k4 k5 k6
  (with_reducible refine (AB.out _ _ _ u2T.out).mono ?_); rintro e u3 ⟨A13, c13, rfl, u3T⟩
  obtain ⟨k0, k1, k2, k3, k4, k5, k6⟩ := CL.out _ _ _ _ u3T.out
  cases hoe : t.on.isEmpty with
  | true =>
   obtain rfl := OE.out hoe
   have JJ := Lib.hid (J4.out L4 m4 M4.out (by have := N4.out; omega) (by have := N4.out; omega) GM.out (by rw [TW.out, hoe]; simp [Df.optW]))
   clear hoe
   go_wp2_with fail
   (with_reducible refine (JJ.out _ _ _ u3T.out).mono ?_); rintro e u4 ⟨rfl, c14⟩
   go_wp2
   go_ret
   exact ⟨rfl, Lib.hid ((BW.out _ _ _ _ u3T.out).trans (c14.out.mono (BW.out _ _ _ _ u3T.out).size))⟩
  | false =>
   obtain ⟨f1, f2⟩ := ON.out hoe
   have XO : Hid ((⟨#[111, 110, 61]⟩ : ByteArray) ++ so = str (Df.kO ++ t.on)) := Lib.hid (by rw [← kO_str]; exact str_add _ _ _ SO.out)
   have os : so.size ≤ 1000 := by rw [SO.out, str_size]; have := NL.out.2; omega
   have JJ := Lib.hid (J4.out (L4 ++ [Df.kO ++ t.on]) (m4 + 1) (by rw [M4.out]; simp) (by simp) (by have := N4.out; simp; omega) (fun p hp => by
    rcases List.mem_append.1 hp with hp | hp
    ·exact GM.out p hp
    ·simp only [List.mem_singleton] at hp
     subst hp
     rw [List.length_append]
     have := NL.out.2
     show 3 + _ ≤ _
     omega) (by rw [TW.out, hoe]; rfl))
   clear hoe
   obtain ⟨xo, hxo⟩ : ∃ x, x = (⟨#[111, 110, 61]⟩ : ByteArray) ++ so := ⟨_, rfl⟩
   have HXO := Lib.hid hxo
   obtain ⟨W6, hW6⟩ : ∃ W6, W6 = u3.alloc (.cells #[.string xo] 9) := ⟨_, rfl⟩
   have W6' : Hid (W6 = u3.alloc (.cells #[.string ((⟨#[111, 110, 61]⟩ : ByteArray) ++ so)] 9)) := Lib.hid (by rw [hW6, hxo])
   have X6 : Hid (W6.cell? ⟨u3.heap.size, 0, none⟩ = some (.string xo)) := Lib.hid (by rw [hW6]; exact cell_lit _ _ _)
   have T6 : Hid (TxtS w W6 X cs1 cs2 L4 A13 c13) := Lib.hid (by rw [hW6]; exact u3T.out.on ((Below.refl _ _).alloc (Nat.le_refl _) _))
   have MM : Hid (m4 = (L4.map str).length) := Lib.hid (by rw [List.length_map]; exact M4.out)
   clear hW6 hxo
   go_wp2_with (at_builtin; rw [← W6'.out]; refine wp_appT rfl (.tmp 37) (.tmp 41) rfl rfl MM.out T6.out.2.2.1 T6.out.2.2.2.2 rfl X6.out (by have := N4.out; simp; omega) ?_; intro A5 c5 w5 o5 d5; have D5 := Lib.hid (grownT_below T6.out.2.2.1 T6.out.2.2.2.2 d5); have O5 : Hid (OwnT w5 (X + 1 + 1) A5 c5 ((L4 ++ [Df.kO ++ t.on]).map str)) := Lib.hid (by rw [List.map_append]; show OwnT _ _ _ _ (L4.map str ++ [str (Df.kO ++ t.on)]); rw [← XO.out, ← HXO.out]; exact o5); have T7 := Lib.hid (T6.out.more D5.out O5.out); rw [List.length_append, ← MM.out]; clear o5 d5)
   (with_reducible refine (JJ.out _ _ _ T7.out).mono ?_); rintro e u4 ⟨rfl, c14⟩
   go_wp2
   go_ret
   exact ⟨rfl, Lib.hid ((BW.out _ _ _ _ T7.out).trans (c14.out.mono (BW.out _ _ _ _ T7.out).size))⟩
 ·have hpos : (0 : Int) < (am : Int) := by omega
  obtain ⟨jt, hjt⟩ : ∃ jt, jt = Tx.join 44 (Df.nmOf d t.after) := ⟨_, rfl⟩
  have WN : WA = [t.name] ++ [Df.kA ++ jt] := by
   have : t.after.isEmpty = false := by
    rw [List.isEmpty_eq_false_iff]; intro e
    have := HA.out
    rw [e] at this; exact ha0 this
   rw [WE.out, this, hjt]; rfl
  have hm1 : m1 = 2 := by rw [M1.out, WN]; rfl
  rw [hm1] at AR
  have js : (str jt).size ≤ 272 := by rw [str_size, hjt]; exact AT.out
  have JA : Hid (∀ W base A' c', OwnT W base A' c' ((Df.nmOf d t.after).map str) → Calls Tryz.prog 77 #[.slice A' am c', .string ⟨#[44]⟩] W (StrG W (str jt))) := Lib.hid fun W base A' c' hO => by
   have := joinD_any A' (Df.nmOf d t.after) am c' (by rw [Df.nmOf_len]; exact HA.out) (by rw [Df.nmOf_len, ← HA.out]; omega) 44 W base hO (by rw [Df.nmOf_len]; have := AL.out.1; omega) (by have := AT.out; omega)
   rwa [← hjt] at this
  have XA : Hid ((⟨#[97, 102, 116, 101, 114, 61]⟩ : ByteArray) ++ str jt = str (Df.kA ++ jt)) := Lib.hid (by rw [← kA_str]; exact str_add _ _ _ rfl)
  have WN' := Lib.hid WN
  obtain ⟨sj, hsj⟩ : ∃ sj, sj = str jt := ⟨_, rfl⟩
  rw [← hsj] at js JA XA
  clear hm1 WN ha0 hjt hsj
  go_wp2_with fail
  (with_reducible refine (NO.out _ (BW.out _ _ _ _ T3.out)).mono ?_); rintro e v1 ⟨A4, c4, rfl, o4, d4⟩
  have V1 := Lib.hid (T3.out.on d4.out)
  clear d4
  go_wp2_with fail
  (with_reducible refine (JA.out _ _ _ _ o4.out).mono ?_); rintro e v2 ⟨rfl, d5⟩
  have V2 := Lib.hid (V1.out.on d5.out)
  clear d5 o4 V1
  obtain ⟨xa, hxa⟩ : ∃ x, x = (⟨#[97, 102, 116, 101, 114, 61]⟩ : ByteArray) ++ sj := ⟨_, rfl⟩
  have HXA := Lib.hid hxa
  obtain ⟨W6, hW6⟩ : ∃ W6, W6 = v2.alloc (.cells #[.string xa] 9) := ⟨_, rfl⟩
  have W6' : Hid (W6 = v2.alloc (.cells #[.string ((⟨#[97, 102, 116, 101, 114, 61]⟩ : ByteArray) ++ sj)] 9)) := Lib.hid (by rw [hW6, hxa])
  have X6 : Hid (W6.cell? ⟨v2.heap.size, 0, none⟩ = some (.string xa)) := Lib.hid (by rw [hW6]; exact cell_lit _ _ _)
  have T6 : Hid (TxtS w W6 X cs1 cs2 [t.name] (some ⟨X + 1 + 1, 0, none⟩) 1) := Lib.hid (by rw [hW6]; exact V2.out.on ((Below.refl _ _).alloc (Nat.le_refl _) _))
  clear hW6 hxa
  go_upto_region 4 with (at_builtin; rw [← W6'.out]; refine wp_appT rfl (.tmp 13) (.tmp 20) rfl rfl (ss := [str t.name]) rfl T6.out.2.2.1 T6.out.2.2.2.2 rfl X6.out (by simp) ?_; intro A5 c5 w5 o5 d5; have D5 := Lib.hid (grownT_below T6.out.2.2.1 T6.out.2.2.2.2 d5); have O5 : Hid (OwnT w5 (X + 1 + 1) A5 c5 (WA.map str)) := Lib.hid (by rw [WN'.out]; show OwnT _ _ _ _ [str t.name, str (Df.kA ++ jt)]; rw [← XA.out, ← HXA.out]; exact o5); have T7 := Lib.hid (T6.out.more D5.out O5.out); clear o5 d5)
  clear k0 k1 k2 k3 k4 k5 k6
  obtain ⟨k0, k1, k2, k3, k4, k5, k6⟩ := CL.out _ _ _ _ T7.out
  go_wp2_with fail
  clear k0 k1 k2 k3 k4 k5 k6
  (with_reducible refine (AR.out _ _ _ T7.out).mono ?_); rintro e u1 ⟨A11, c11, rfl, u1T⟩
  obtain ⟨k0, k1, k2, k3, k4, k5, k6⟩ := CL.out _ _ _ _ u1T.out
  go_wp2_with fail
  clear k0 k1 k2 k3 k4 k5 k6
  (with_reducible refine (AQ.out _ _ _ u1T.out).mono ?_); rintro e u2 ⟨A12, c12, rfl, u2T⟩
  obtain ⟨k0, k1, k2, k3, k4, k5, k6⟩ := CL.out _ _ _ _ u2T.out
  go_wp2_with fail
  clear k0 k1 k2 k3 k4 k5 k6
  (with_reducible refine (AB.out _ _ _ u2T.out).mono ?_); rintro e u3 ⟨A13, c13, rfl, u3T⟩
  obtain ⟨k0, k1, k2, k3, k4, k5, k6⟩ := CL.out _ _ _ _ u3T.out
  cases hoe : t.on.isEmpty with
  | true =>
   obtain rfl := OE.out hoe
   have JJ := Lib.hid (J4.out L4 m4 M4.out (by have := N4.out; omega) (by have := N4.out; omega) GM.out (by rw [TW.out, hoe]; simp [Df.optW]))
   clear hoe
   go_wp2_with fail
   (with_reducible refine (JJ.out _ _ _ u3T.out).mono ?_); rintro e u4 ⟨rfl, c14⟩
   go_wp2
   go_ret
   exact ⟨rfl, Lib.hid ((BW.out _ _ _ _ u3T.out).trans (c14.out.mono (BW.out _ _ _ _ u3T.out).size))⟩
  | false =>
   obtain ⟨f1, f2⟩ := ON.out hoe
   have XO : Hid ((⟨#[111, 110, 61]⟩ : ByteArray) ++ so = str (Df.kO ++ t.on)) := Lib.hid (by rw [← kO_str]; exact str_add _ _ _ SO.out)
   have os : so.size ≤ 1000 := by rw [SO.out, str_size]; have := NL.out.2; omega
   have JJ := Lib.hid (J4.out (L4 ++ [Df.kO ++ t.on]) (m4 + 1) (by rw [M4.out]; simp) (by simp) (by have := N4.out; simp; omega) (fun p hp => by
    rcases List.mem_append.1 hp with hp | hp
    ·exact GM.out p hp
    ·simp only [List.mem_singleton] at hp
     subst hp
     rw [List.length_append]
     have := NL.out.2
     show 3 + _ ≤ _
     omega) (by rw [TW.out, hoe]; rfl))
   clear hoe
   obtain ⟨xo, hxo⟩ : ∃ x, x = (⟨#[111, 110, 61]⟩ : ByteArray) ++ so := ⟨_, rfl⟩
   have HXO := Lib.hid hxo
   obtain ⟨W6, hW6⟩ : ∃ W6, W6 = u3.alloc (.cells #[.string xo] 9) := ⟨_, rfl⟩
   have W6' : Hid (W6 = u3.alloc (.cells #[.string ((⟨#[111, 110, 61]⟩ : ByteArray) ++ so)] 9)) := Lib.hid (by rw [hW6, hxo])
   have X6 : Hid (W6.cell? ⟨u3.heap.size, 0, none⟩ = some (.string xo)) := Lib.hid (by rw [hW6]; exact cell_lit _ _ _)
   have T6 : Hid (TxtS w W6 X cs1 cs2 L4 A13 c13) := Lib.hid (by rw [hW6]; exact u3T.out.on ((Below.refl _ _).alloc (Nat.le_refl _) _))
   have MM : Hid (m4 = (L4.map str).length) := Lib.hid (by rw [List.length_map]; exact M4.out)
   clear hW6 hxo
   go_wp2_with (at_builtin; rw [← W6'.out]; refine wp_appT rfl (.tmp 37) (.tmp 41) rfl rfl MM.out T6.out.2.2.1 T6.out.2.2.2.2 rfl X6.out (by have := N4.out; simp; omega) ?_; intro A5 c5 w5 o5 d5; have D5 := Lib.hid (grownT_below T6.out.2.2.1 T6.out.2.2.2.2 d5); have O5 : Hid (OwnT w5 (X + 1 + 1) A5 c5 ((L4 ++ [Df.kO ++ t.on]).map str)) := Lib.hid (by rw [List.map_append]; show OwnT _ _ _ _ (L4.map str ++ [str (Df.kO ++ t.on)]); rw [← XO.out, ← HXO.out]; exact o5); have T7 := Lib.hid (T6.out.more D5.out O5.out); rw [List.length_append, ← MM.out]; clear o5 d5)
   (with_reducible refine (JJ.out _ _ _ T7.out).mono ?_); rintro e u4 ⟨rfl, c14⟩
   go_wp2
   go_ret
   exact ⟨rfl, Lib.hid ((BW.out _ _ _ _ T7.out).trans (c14.out.mono (BW.out _ _ _ _ T7.out).size))⟩
end Go.Proofs.YtkbekojnmdgdgaaGreatDoor
/- DfShowD -/
namespace Go.Proofs.YtkbekojnmdgdgaaGreatDoor
open Go.RowKit
theorem Df.Ok.task_len {d : Df.D} (h : Df.Ok d) {t : Df.Task} (ht : t ∈ d) : (Df.taskText (Df.names d) t).length ≤ 3000 := by
 obtain ⟨r, q, b, hr, hq, hb, r9, q9, b9⟩ := h.num ht
 rw [Df.text_words, hr, hq, hb]
 have g1 := Df.num_mem (k := Df.kR) (u := 0) (by decide) r9
 have g2 := Df.num_mem (k := Df.kW) (u := 10) (by decide) q9
 have g3 := Df.num_mem (k := Df.kB) (u := 1) (by decide) b9
 simp only [Int.toNat_natCast]
 have g4 : ∀ p ∈ Df.optW Df.kO (if t.on.isEmpty then none else some t.on), p.length ≤ 300 := Df.optW_mem fun v hv => by
  split at hv
  ·cases hv
  ·injection hv with hv
   subst hv
   have := (h.name_len ht).2
   show 3 + _ ≤ _
   omega
 have hj := join_le 32 (l := Df.wA d t ++ Df.optW Df.kR (if (r : Int) = ((0 : Nat) : Int) then none else some (Lib.decDigits r)) ++ Df.optW Df.kW (if (q : Int) = ((10 : Nat) : Int) then none else some (Lib.decDigits q)) ++ Df.optW Df.kB (if (b : Int) = ((1 : Nat) : Int) then none else some (Lib.decDigits b)) ++ Df.optW Df.kO (if t.on.isEmpty then none else some t.on)) (b := 300) (fun p hp => by
  rcases List.mem_append.1 hp with hp | hp
  ·rcases List.mem_append.1 hp with hp | hp
   ·rcases List.mem_append.1 hp with hp | hp
    ·rcases List.mem_append.1 hp with hp | hp
     ·exact h.wA_mem ht p hp
     ·exact g1 p hp
    ·exact g2 p hp
   ·exact g3 p hp
  ·exact g4 p hp)
 have l0 := (Df.wA_len d t).2
 have l1 := Df.optW_len Df.kR (if (r : Int) = ((0 : Nat) : Int) then none else some (Lib.decDigits r))
 have l2 := Df.optW_len Df.kW (if (q : Int) = ((10 : Nat) : Int) then none else some (Lib.decDigits q))
 have l3 := Df.optW_len Df.kB (if (b : Int) = ((1 : Nat) : Int) then none else some (Lib.decDigits b))
 have l4 := Df.optW_len Df.kO (if t.on.isEmpty then none else some t.on)
 simp only [List.length_append] at hj
 refine Nat.le_trans hj ?_
 have : (Df.wA d t).length + (Df.optW Df.kR (if (r : Int) = ((0 : Nat) : Int) then none else some (Lib.decDigits r))).length + (Df.optW Df.kW (if (q : Int) = ((10 : Nat) : Int) then none else some (Lib.decDigits q))).length + (Df.optW Df.kB (if (b : Int) = ((1 : Nat) : Int) then none else some (Lib.decDigits b))).length + (Df.optW Df.kO (if t.on.isEmpty then none else some t.on)).length ≤ 6 := by omega
 have := Nat.mul_le_mul_right 301 this
 omega
def Df.lines (d : Df.D) : List (List UInt8) := d.map (Df.taskText (Df.names d))
theorem Df.lines_len (d : Df.D) : (Df.lines d).length = d.length := by simp [Df.lines]
set_option maxRecDepth 100000 in
set_option maxHeartbeats 4000000 in
theorem show_any (A : Option Addr) (d : Df.D) (cap : Nat) (hf : Fair d) (w : World) (hF : FactsD w) (h : DefIn w w.heap.size A d) : Calls Tryz.prog 58 #[.agg #[.slice A d.length cap]] w (StrG w (str (Df.showT d))) := by
 have GD : Hid (∀ W, Below w.heap.size w W → Calls Tryz.prog 75 #[.agg #[.slice A d.length cap]] W (IntG W (Df.good d))) := Lib.hid fun W hW => goodD_any A d cap hf W (hF.on hW) (h.on hW)
 obtain ⟨X, hX⟩ : ∃ X, X = w.heap.size := ⟨_, rfl⟩
 obtain ⟨W1, hW1⟩ : ∃ W1, W1 = w.alloc (.cells #[.slice A d.length cap] 37) := ⟨_, rfl⟩
 have B1 : Hid (Below w.heap.size w W1) := Lib.hid (by rw [hW1]; exact (Below.refl _ _).alloc (Nat.le_refl _) _)
 have P1 : Hid (W1.heap[X]? = some (.cells #[.slice A d.length cap] 37 (0, 0))) := Lib.hid (by rw [hW1, hX]; exact heap_alloc_new ..)
 by_cases hg : Df.good d = 0
 ·have hk := Df.good_iff.1 hg
  have ES : Hid (Df.showT d = Tx.join 59 (Df.lines d)) := Lib.hid (by unfold Df.showT; rw [if_pos hg]; rfl)
  rw [hg] at GD
  have JL : Hid ((Tx.join 59 (Df.lines d)).length ≤ 1000000) := Lib.hid (by
   have h1 := join_le 59 (l := Df.lines d) (b := 3000) (fun p hp => by
    obtain ⟨t, ht, rfl⟩ := List.mem_map.1 hp
    exact hk.task_len ht)
   rw [Df.lines_len] at h1
   have := Nat.mul_le_mul_right 3001 hk.n16
   omega)
  have HK := Lib.hid hk
  have H := Lib.hid h
  have HFF := Lib.hid hF
  have hn1 := hk.n1
  have hn16 := hk.n16
  have TT : Hid (∀ (k : Nat) (hkd : k < d.length) A2 c2 W, Below w.heap.size w W → Zs W W.heap.size A2 d[k].after → Calls Tryz.prog 76 #[.agg #[.slice A d.length cap], tv d[k] A2 c2] W (StrG W (str (Df.taskText (Df.names d) d[k])))) := Lib.hid fun k hkd A2 c2 W hW hz => taskText_any A d d.length cap rfl hk d[k] (List.getElem_mem hkd) A2 c2 W (hF.on hW) (h.on hW) hz
  obtain ⟨n, hn⟩ : ∃ n, n = d.length := ⟨_, rfl⟩
  have HN := Lib.hid hn
  rw [← hn] at GD hn1 hn16 P1 hW1 ⊢
  have TT2 : Hid (∀ (k : Nat) (hkd : k < d.length) A2 c2 W, Below w.heap.size w W → Zs W W.heap.size A2 d[k].after → Calls Tryz.prog 76 #[.agg #[.slice A n cap], tv d[k] A2 c2] W (StrG W (str (Df.taskText (Df.names d) d[k])))) := Lib.hid (by rw [hn]; exact TT.out)
  have hmk := made_T n (by omega)
  clear hg hk h hF hf TT hn
  have HX := Lib.hid hX
  go_enter Tryz.func58, Tryz.ntmps58
  go_upto_region 1 with fail
  rw [← hW1, ← hX]
  clear hW1 hX
  have p0 : W1.cell? ⟨X, 0, none⟩ = some (.slice A n cap) := by simp [World.cell?, P1.out]
  go_wp2_with fail
  (with_reducible refine (GD.out _ B1.out).mono ?_); rintro e w2 ⟨rfl, c2⟩
  obtain ⟨Y, hY⟩ : ∃ Y, Y = w2.heap.size := ⟨_, rfl⟩
  obtain ⟨W3, hW3⟩ : ∃ W3, W3 = w2.alloc (.cells (madeCells #[.string ⟨#[]⟩] n) 9) := ⟨_, rfl⟩
  have XY : Hid (X < Y) := Lib.hid (by have := c2.out.size; have := lt_of_block P1.out; rw [hY]; omega)
  have P2 : Hid (w2.heap[X]? = some (.cells #[.slice A n cap] 37 (0, 0))) := Lib.hid ((c2.out.block _ (lt_of_block P1.out)).trans P1.out)
  have P3 : Hid (W3.heap[X]? = some (.cells #[.slice A n cap] 37 (0, 0))) := Lib.hid (by rw [hW3, Below.heap_alloc _ _ _ (lt_of_block P2.out)]; exact P2.out)
  have O3 : Hid (OwnT W3 Y (some ⟨Y, 0, none⟩) n (List.replicate n ⟨#[]⟩)) := Lib.hid (by rw [hW3, hY]; exact OwnT.made w2 n (by omega))
  have B3 : Hid (Below w.heap.size w W3) := Lib.hid (by rw [hW3]; exact (B1.out.trans (c2.out.mono B1.out.size)).alloc (Nat.le_trans B1.out.size c2.out.size) _)
  have F3 : Hid (Filled (List.replicate n (⟨#[]⟩ : ByteArray)) n (Df.lines d) 0) := Lib.hid ⟨by simp, rfl⟩
  have p1 : w2.cell? ⟨X, 0, none⟩ = some (.slice A n cap) := by simp [World.cell?, P2.out]
  have p2 : W3.cell? ⟨X, 0, none⟩ = some (.slice A n cap) := by simp [World.cell?, P3.out]
  clear p0
  go_upto_region 4 with fail
  rw [← hW3, ← hY]
  clear hW3 hY hmk p1 c2
  go_wp2_with fail
  go_loopw [16] (fun iv wr => ∃ (k : Nat) (ss : List ByteArray), k ≤ n ∧ iv = .int .i64 k ∧ Hid (OwnT wr Y (some ⟨Y, 0, none⟩) n ss) ∧ Hid (Filled ss n (Df.lines d) k) ∧ Hid (wr.heap[X]? = some (.cells #[.slice A n cap] 37 (0, 0))) ∧ Hid (Below w.heap.size w wr) ∧ Hid (Y < wr.heap.size)) (fun iv _ => n - (intOf iv).toNat)
  case atStart => exact ⟨0, _, Nat.zero_le _, rfl, O3, F3, P3, B3, Lib.hid (O3.out.lt.2)⟩
  case round =>
   obtain ⟨k, ss, hk, rfl, HO, HFl, HP, HB, HY⟩ := hrel
   by_cases hlt : k < n
   ·have hlt' : (k : Int) < (n : Int) := by omega
    have hkd : Hid (k < d.length) := Lib.hid (by rw [← HN.out]; exact hlt)
    obtain ⟨b, off, A2, c2, rfl, hb, z2, zc, ni, p0, p1, p2, p3, p4, p5⟩ := (H.out.on HB.out).at2 hkd.out
    have CT := Lib.hid (TT2.out k hkd.out A2 c2)
    have FN := HFl.out.next hlt (by rw [Df.lines_len]; exact hkd.out)
    have NE : (Df.lines d)[k]'(by rw [Df.lines_len]; exact hkd.out) = Df.taskText (Df.names d) d[k] := by unfold Df.lines; exact List.getElem_map _
    rw [NE] at FN
    have FN : Hid (Filled (ss.set k (str (Df.taskText (Df.names d) d[k]))) n (Df.lines d) (k + 1)) := Lib.hid FN
    clear NE
    unfold tv at CT
    have q0 : wr.cell? ⟨X, 0, none⟩ = some (.slice (some ⟨b, off, none⟩) n cap) := by simp [World.cell?, HP.out]
    generalize Df.taskText (Df.names d) d[k] = tx at *
    generalize d[k] = t at *
    obtain ⟨W4, hW4⟩ : ∃ W4, W4 = wr.alloc (.cells #[.string (str t.name), .slice A2 t.after.length c2, .int .i64 t.retry, .int .i64 t.wait, .int .i64 t.base, .string (str t.on)] 96) := ⟨_, rfl⟩
    have B4 : Hid (Below wr.heap.size wr W4) := Lib.hid (by rw [hW4]; exact (Below.refl _ _).alloc (Nat.le_refl _) _)
    have Q4 : W4.heap[wr.heap.size]? = some (.cells #[.string (str t.name), .slice A2 t.after.length c2, .int .i64 t.retry, .int .i64 t.wait, .int .i64 t.base, .string (str t.on)] 96 (0, 0)) := by rw [hW4]; exact heap_alloc_new ..
    have Z4 : Hid (Zs W4 W4.heap.size A2 t.after) := Lib.hid (z2.out.on B4.out)
    have P4 : Hid (W4.heap[X]? = some (.cells #[.slice (some ⟨b, off, none⟩) n cap] 37 (0, 0))) := Lib.hid ((B4.out.block _ (lt_of_block HP.out)).trans HP.out)
    have p6 : W4.cell? ⟨X, 0, none⟩ = some (.slice (some ⟨b, off, none⟩) n cap) := by simp [World.cell?, P4.out]
    have BW4 : Hid (Below w.heap.size w W4) := Lib.hid (HB.out.trans (B4.out.mono HB.out.size))
    have O4 : Hid (OwnT W4 Y (some ⟨Y, 0, none⟩) n ss) := Lib.hid (HO.out.keep B4.out)
    have SL := Lib.hid HFl.out.1
    obtain ⟨y0, y1, y2, y3, y4, y5⟩ := ob6 Q4
    clear Q4
    clear z2 zc ni hb
    go_upto_region 7 with fail
    rw [← hW4]
    clear hW4 p0 p1 p2 p3 p4 p5 q0
    go_wp2_with fail
    (with_reducible refine (CT.out _ BW4.out Z4.out).mono ?_); rintro e w5 ⟨rfl, c5⟩
    have O5 : Hid (OwnT w5 Y (some ⟨Y, 0, none⟩) n ss) := Lib.hid (O4.out.keep c5.out)
    have P5 : Hid (w5.heap[X]? = some (.cells #[.slice (some ⟨b, off, none⟩) n cap] 37 (0, 0))) := Lib.hid ((c5.out.block _ (lt_of_block P4.out)).trans P4.out)
    have B5 : Hid (Below w.heap.size w w5) := Lib.hid (BW4.out.trans (c5.out.mono BW4.out.size))
    have hf := O5.out.thaw k
    have hc := O5.out.val (i := k) (by rw [SL.out]; exact hlt)
    have WY : Hid (w.heap.size ≤ Y) := Lib.hid (by rw [← HX.out]; exact Nat.le_of_lt XY.out)
    have ON : Hid (OwnT (w5.setCell ⟨Y, k, none⟩ (.string (str tx))) Y (some ⟨Y, 0, none⟩) n (ss.set k (str tx))) := Lib.hid (O5.out.stored k _)
    have PN : Hid ((w5.setCell ⟨Y, k, none⟩ (.string (str tx))).heap[X]? = some (.cells #[.slice (some ⟨b, off, none⟩) n cap] 37 (0, 0))) := Lib.hid ((Below.heap_setCell _ _ _ _ (show X ≠ Y by have := XY.out; omega)).trans P5.out)
    have BN : Hid (Below w.heap.size w (w5.setCell ⟨Y, k, none⟩ (.string (str tx)))) := Lib.hid (B5.out.setCell (p := ⟨Y, k, none⟩) WY.out _)
    have YN : Hid (Y < (w5.setCell ⟨Y, k, none⟩ (.string (str tx))).heap.size) := Lib.hid (by have := O5.out.lt.2; simpa [World.setCell] using this)
    clear y0 y1 y2 y3 y4 y5 p6 c5
    go_wp2
    go_roundw
    case rel => exact ⟨k + 1, _, by omega, by go_num, ON, FN, PN, BN, YN⟩
    case measure => simp [intOf]; omega
   ·obtain rfl : k = n := by omega
    have hge : ¬ (k : Int) < (k : Int) := by omega
    have E := HFl.out.all (by rw [Df.lines_len]; exact HN.out.symm)
    rw [map_mk] at E
    subst E
    have JJ : Hid (Calls Tryz.prog 77 #[.slice (some ⟨Y, 0, none⟩) k k, .string ⟨#[59]⟩] wr (StrG wr (str (Tx.join 59 (Df.lines d))))) := Lib.hid (joinD_any _ (Df.lines d) k k (by rw [Df.lines_len]; exact HN.out) (by rw [Df.lines_len, ← HN.out]; omega) 59 wr Y HO.out (by rw [Df.lines_len, ← HN.out]; omega) (by have := JL.out; omega))
    go_wp2_with fail
    (with_reducible refine JJ.out.mono ?_); rintro e w6 ⟨rfl, c6⟩
    go_wp2
    go_ret
    exact ⟨by rw [ES.out]; rfl, Lib.hid (HB.out.trans (c6.out.mono HB.out.size))⟩
 ·have ES : Hid (Df.showT d = []) := Lib.hid (by unfold Df.showT; rw [if_neg hg])
  have GB : Hid (Df.good d ≠ 0) := Lib.hid hg
  have hb : (Df.good d != 0) = true := by simpa using hg
  generalize Df.good d = x at *
  obtain ⟨n, hn⟩ : ∃ n, n = d.length := ⟨_, rfl⟩
  rw [← hn] at GD P1 hW1 ⊢
  clear h hF hf hn hg
  go_enter Tryz.func58, Tryz.ntmps58
  go_upto_region 1 with fail
  rw [← hW1, ← hX]
  clear hW1 hX
  have p0 : W1.cell? ⟨X, 0, none⟩ = some (.slice A n cap) := by simp [World.cell?, P1.out]
  go_wp2_with fail
  (with_reducible refine (GD.out _ B1.out).mono ?_); rintro e w2 ⟨rfl, c2⟩
  go_wp2
  go_ret
  exact ⟨by rw [ES.out]; rfl, Lib.hid (B1.out.trans (c2.out.mono B1.out.size))⟩
end Go.Proofs.YtkbekojnmdgdgaaGreatDoor
/- RnSmall -/
namespace Go.Proofs.YtkbekojnmdgdgaaGreatDoor
open Go.RowKit
set_option maxRecDepth 20000
theorem nodup_len : ∀ (l m : List Tx.T), l.Nodup → (∀ x ∈ l, x ∈ m) → l.length ≤ m.length
 | [], m, _, _ => Nat.zero_le _
 | x :: l, m, hn, hs => by
  have hx := hs x (List.mem_cons_self ..)
  obtain ⟨h1, h2⟩ := List.nodup_cons.1 hn
  have ih := nodup_len l (m.erase x) h2 fun y hy => (List.mem_erase_of_ne (fun e : y = x => h1 (by rw [← e]; exact hy))).2 (hs y (List.mem_cons_of_mem _ hy))
  rw [List.length_erase_of_mem hx] at ih
  have := List.length_pos_of_mem hx
  rw [List.length_cons]
  omega
theorem Bd.of {r : Rn.R} (h : Rn.Pre r) : Bd r := by
 have hf := h.good.fair
 refine ⟨hf.1, fun t ht => (hf.2 t ht).1, by rw [h.len]; exact hf.1, ?_, fun x hx => ?_⟩
 ·refine Nat.le_trans (nodup_len r.sg (r.d.map (·.on)) h.nodup fun x hx => ?_) (by rw [List.length_map]; exact hf.1)
  obtain ⟨_, t, ht, e⟩ := h.sigs x hx
  exact List.mem_map.2 ⟨t, ht, e⟩
 ·obtain ⟨_, t, ht, e⟩ := h.sigs x hx
  rw [← e]
  exact (hf.2 t ht).2.2
theorem size_p (p : At3) (n : Nat) (st : Int) (l : Nat) (w : World) :
  Calls Tryz.prog 80 #[.agg #[.slice p.A n p.ca, .int .i64 st, .slice p.T n p.ct, .slice p.S l p.cs]] w (IntG w (n : Int)) := by
 have BA : Hid (Below w.heap.size w (w.alloc (.cells #[.slice p.A n p.ca, .int .i64 st, .slice p.T n p.ct, .slice p.S l p.cs] 41))) := Lib.hid ((Below.refl _ _).alloc (Nat.le_refl _) _)
 go_enter Tryz.func80, Tryz.ntmps80
 go_wp2
 go_ret
 exact ⟨ret_int (by simp), BA⟩
theorem refusal_p (p : At3) (r : Rn.R) (hl : r.ts.length = r.d.length) (a : Int) (ha : inI a) (w : World) :
  Calls Tryz.prog 107 #[rv p r, .int .i64 a] w (IntG w (Rn.mayE r a)) := by
 have E : Hid (Rn.mayE r a = if a < 0 ∨ (r.ts.length : Int) ≤ a then 1 else if r.st ≠ 0 then 9 else 0) := Lib.hid rfl
 generalize Rn.mayE r a = v at *
 unfold rv
 rw [hl] at E ⊢
 generalize r.d.length = n at *
 generalize r.sg.length = l at *
 generalize r.st = st at *
 clear hl
 have SZ := Lib.hid (size_p p n st l)
 have BA : Hid (Below w.heap.size w (w.alloc (.cells #[.slice p.A n p.ca, .int .i64 st, .slice p.T n p.ct, .slice p.S l p.cs] 41))) := Lib.hid ((Below.refl _ _).alloc (Nat.le_refl _) _)
 obtain ⟨ha0, ha1⟩ := ha
 by_cases h0 : a < 0
 ·have R : Hid (v = 1) := Lib.hid (by rw [E.out, if_pos (.inl h0)])
  clear E
  go_enter Tryz.func107, Tryz.ntmps107
  go_wp2
  go_ret
  exact ⟨ret_int R.out.symm, BA⟩
 have h0' : decide (a < 0) = false := decide_eq_false h0
 by_cases h1 : (n : Int) ≤ a
 ·have R : Hid (v = 1) := Lib.hid (by rw [E.out, if_pos (.inr h1)])
  clear E
  go_enter Tryz.func107, Tryz.ntmps107
  go_wp2_with fail
  (with_reducible refine (SZ.out _).mono ?_); rintro e w2 ⟨rfl, b2⟩
  go_wp2
  go_ret
  exact ⟨ret_int R.out.symm, Lib.hid (BA.out.trans (b2.out.mono BA.out.size))⟩
 have h1' : decide ((n : Int) ≤ a) = false := decide_eq_false h1
 have X1 : Hid ((w.alloc (.cells #[.slice p.A n p.ca, .int .i64 st, .slice p.T n p.ct, .slice p.S l p.cs] 41)).heap[w.heap.size]? = some (.cells #[.slice p.A n p.ca, .int .i64 st, .slice p.T n p.ct, .slice p.S l p.cs] 41 (0, 0))) := Lib.hid (heap_alloc_new _ _)
 have R1 : Hid (v = if st ≠ 0 then 9 else 0) := Lib.hid (by rw [E.out, if_neg (fun h => by rcases h with h | h; exact h0 h; exact h1 h)])
 clear E
 by_cases h2 : st = 0
 ·have R : Hid (v = 0) := Lib.hid (by rw [R1.out, if_neg (fun h => h h2)])
  subst h2
  go_enter Tryz.func107, Tryz.ntmps107
  go_wp2_with fail
  (with_reducible refine (SZ.out _).mono ?_); rintro e w2 ⟨rfl, b2⟩
  obtain ⟨⟨x0, x1, x2, x3⟩, -⟩ := obj4 ((b2.out.block _ (lt_of_block X1.out)).trans X1.out)
  go_wp2
  go_ret
  exact ⟨ret_int R.out.symm, Lib.hid (BA.out.trans (b2.out.mono BA.out.size))⟩
 ·have R : Hid (v = 9) := Lib.hid (by rw [R1.out, if_pos h2])
  have h2' : (st != 0) = true := by simpa using h2
  go_enter Tryz.func107, Tryz.ntmps107
  go_wp2_with fail
  (with_reducible refine (SZ.out _).mono ?_); rintro e w2 ⟨rfl, b2⟩
  obtain ⟨⟨x0, x1, x2, x3⟩, -⟩ := obj4 ((b2.out.block _ (lt_of_block X1.out)).trans X1.out)
  go_wp2
  go_ret
  exact ⟨ret_int R.out.symm, Lib.hid (BA.out.trans (b2.out.mono BA.out.size))⟩
theorem outcome_p (p : At3) (r : Rn.R) (hl : r.ts.length = r.d.length) (a x : Int) (ha : inI a) (hx : inI x) (w : World) (O : Nat → Prop) (h : RunO w O p r) :
  Calls Tryz.prog 108 #[rv p r, .int .i64 a, .int .i64 x] w (IntG w (Rn.heldE r a x)) := by
 have E : Hid (Rn.heldE r a x = if Rn.mayE r a ≠ 0 then Rn.mayE r a else if (Rn.tk r a).ph ≠ 2 ∨ (Rn.tk r a).tr ≠ x then 8 else 0) := Lib.hid rfl
 have MO : Hid (Rn.mayE r a = 0 → 0 ≤ a ∧ a < (r.ts.length : Int) ∧ r.st = 0) := Lib.hid Rn.mayE_ok
 have RF := Lib.hid (refusal_p p r hl a ha)
 have HT := Lib.hid h.t
 have TK : Hid (Rn.tk r a = r.ts.getD a.toNat Rn.t0) := Lib.hid rfl
 generalize Rn.heldE r a x = v at *
 generalize Rn.mayE r a = u at *
 generalize Rn.tk r a = kk at *
 unfold rv at RF ⊢
 obtain ⟨m, hm⟩ : ∃ m, m = r.ts.length := ⟨_, rfl⟩
 have HM := Lib.hid hm
 rw [← hm] at MO RF ⊢
 generalize r.d.length = n at *
 generalize r.sg.length = l at *
 generalize r.st = st at *
 clear hl h hm
 obtain ⟨ha0, ha1⟩ := ha
 obtain ⟨hx0, hx1⟩ := hx
 have BA : Hid (Below w.heap.size w (w.alloc (.cells #[.slice p.A n p.ca, .int .i64 st, .slice p.T m p.ct, .slice p.S l p.cs] 41))) := Lib.hid ((Below.refl _ _).alloc (Nat.le_refl _) _)
 have X1 : Hid ((w.alloc (.cells #[.slice p.A n p.ca, .int .i64 st, .slice p.T m p.ct, .slice p.S l p.cs] 41)).heap[w.heap.size]? = some (.cells #[.slice p.A n p.ca, .int .i64 st, .slice p.T m p.ct, .slice p.S l p.cs] 41 (0, 0))) := Lib.hid (heap_alloc_new _ _)
 by_cases hu : u = 0
 ·obtain ⟨a0, a1, -⟩ := MO.out hu
  have hd : a.toNat < r.ts.length := by rw [← HM.out]; omega
  subst hu
  have R1 : Hid (v = if kk.ph ≠ 2 ∨ kk.tr ≠ x then 8 else 0) := Lib.hid (by rw [E.out, if_neg (fun h => h rfl)])
  clear E MO
  obtain ⟨i, hi⟩ : ∃ i : Nat, a = (i : Int) := ⟨a.toNat, by omega⟩
  subst hi
  rw [Int.toNat_natCast] at TK hd
  have HD := Lib.hid hd
  clear hd
  go_enter Tryz.func108, Tryz.ntmps108
  go_wp2_with fail
  (with_reducible refine (RF.out _).mono ?_); rintro e w2 ⟨rfl, b2⟩
  have B2 : Hid (Below w.heap.size w w2) := Lib.hid (BA.out.trans (b2.out.mono BA.out.size))
  obtain ⟨⟨x0, x1, x2, x3⟩, -⟩ := obj4 ((b2.out.block _ (lt_of_block X1.out)).trans X1.out)
  obtain ⟨b, off, k2, hpT, -, hk2, -, c0, c1, c2, c3⟩ := (HT.out.keep B2.out.size fun b _ hl => B2.out.block b hl).at_ HD.out
  obtain rfl : kk = k2 := by
   rw [TK.out, getD_at HD.out]
   have := hk2.out
   rw [List.getElem?_eq_getElem HD.out] at this
   exact Option.some.inj this
  rw [hpT] at x2 ⊢
  clear hk2
  by_cases h1 : kk.ph = 2
  ·by_cases h2 : kk.tr = x
   ·have R : Hid (v = 0) := Lib.hid (by rw [R1.out, if_neg (fun h => by rcases h with h | h; exact h h1; exact h h2)])
    rw [h1] at c0
    rw [h2] at c1
    clear R1 h1 h2
    go_wp2
    go_ret
    exact ⟨ret_int R.out.symm, Lib.hid (B2.out.alloc B2.out.size _)⟩
   ·have R : Hid (v = 8) := Lib.hid (by rw [R1.out, if_pos (.inr h2)])
    rw [h1] at c0
    clear R1 h1
    go_wp2
    go_ret
    exact ⟨ret_int R.out.symm, Lib.hid (B2.out.alloc B2.out.size _)⟩
  ·have R : Hid (v = 8) := Lib.hid (by rw [R1.out, if_pos (.inl h1)])
   clear R1
   go_wp2
   go_ret
   exact ⟨ret_int R.out.symm, Lib.hid (B2.out.alloc B2.out.size _)⟩
 ·have R : Hid (v = u) := Lib.hid (by rw [E.out, if_pos hu])
  have hu' : (u != 0) = true := by simpa using hu
  clear E MO
  go_enter Tryz.func108, Tryz.ntmps108
  go_wp2_with fail
  (with_reducible refine (RF.out _).mono ?_); rintro e w2 ⟨rfl, b2⟩
  go_wp2
  go_ret
  exact ⟨ret_int R.out.symm, Lib.hid (BA.out.trans (b2.out.mono BA.out.size))⟩
theorem SigsO.strs {w : World} {O : Nat → Prop} {A : Option Addr} {sg : List Tx.T} (h : SigsO w O A sg) (hz : ∀ x ∈ sg, x.length ≤ 1100) : Strs w w.heap.size A (sg.map str) := by
 refine ⟨fun i hi => ?_, fun hn => ?_⟩
 ·rw [List.length_map] at hi
  rw [List.getD_eq_getElem?_getD, List.getElem?_map, List.getElem?_eq_getElem hi]
  have := hz _ (List.getElem_mem hi)
  show (str sg[i]).size ≤ _
  rw [str_size]
  omega
 ·rw [List.length_map] at hn
  obtain ⟨b, off, e, _, hb, hc⟩ := h hn
  refine ⟨b, off, e, hb, fun i hi => ?_⟩
  rw [List.length_map] at hi
  have := hc i hi
  simp only [Nat.mul_one, Nat.add_zero] at this
  rw [this, List.getD_eq_getElem?_getD, List.getD_eq_getElem?_getD, List.getElem?_map, List.getElem?_eq_getElem hi]
  rfl
theorem contains_p (A : Option Addr) (sg : List Tx.T) (cap : Nat) (hl : sg.length ≤ 1100) (hz : ∀ x ∈ sg, x.length ≤ 1100) (x : Tx.T) (n : Nat) (hn : n = sg.length) (w : World) (O : Nat → Prop) (h : SigsO w O A sg) :
  Calls Tryz.prog 109 #[.slice A n cap, .string (str x)] w (BoolG w (decide (x ∈ sg))) := by
 have IX := Lib.hid (index_any sg x A n cap w.heap.size hn hl w (h.strs hz))
 obtain ⟨r0, r1, r2⟩ := Df.idxI_rng sg x hl
 generalize Df.idxI sg x = i at *
 have R : Hid (decide (x ∈ sg) = decide (0 ≤ i)) := Lib.hid (by
  by_cases hm : x ∈ sg
  ·rw [decide_eq_true hm, decide_eq_true (Int.not_lt.1 fun e => r2.1 e hm)]
  ·rw [decide_eq_false hm, decide_eq_false (Int.not_le.2 (r2.2 hm))])
 generalize decide (x ∈ sg) = v at *
 clear h hz hn hl r2
 go_enter Tryz.func109, Tryz.ntmps109
 go_wp2_with fail
 (with_reducible refine IX.out.mono ?_); rintro e w2 ⟨rfl, rfl⟩
 go_wp2
 go_ret
 exact ⟨ret_bool R.out.symm, Lib.hid (Below.refl _ _)⟩
end Go.Proofs.YtkbekojnmdgdgaaGreatDoor
/- RnMay -/
namespace Go.Proofs.YtkbekojnmdgdgaaGreatDoor
open Go.RowKit
set_option maxRecDepth 20000
def AfterIn (r : Rn.R) : Prop := ∀ i (hi : i < r.d.length), ∀ a ∈ r.d[i].after, 0 ≤ a ∧ a < (r.ts.length : Int)
theorem AfterIn.of {r : Rn.R} (h : Rn.Pre r) : AfterIn r := fun i hi a ha => by
 have := (Df.Ok.after h.good hi).2 a ha
 rw [h.len]
 omega
theorem str_ne {l : List UInt8} (h : ¬ l = []) : (str l).toList.isEmpty = false ∧ (str l).toList ≠ [] := str_full (by cases l with | nil => exact absurd rfl h | cons _ _ => rfl)
def DoneTo (ts : List Rn.Tk) (l : List Int) (k : Nat) : Prop := ∀ j, j < k → Rn.phase ts (l.getD j 0) = 3
set_option maxHeartbeats 2000000 in
theorem mayStart_p (p : At3) (r : Rn.R) (hB : Bd r) (i : Nat) (hi : i < r.d.length) (ha : AfterIn r) (w : World) (O : Nat → Prop) (h : RunO w O p r) :
  Calls Tryz.prog 105 #[rv p r, .int .i64 (i : Int)] w (BoolG w (Rn.free r.ts r.sg r.d[i])) := by
 obtain ⟨W0, hW0⟩ : ∃ W0, W0 = w.alloc (.cells #[.slice p.A r.d.length p.ca, .int .i64 r.st, .slice p.T r.ts.length p.ct, .slice p.S r.sg.length p.cs] 41) := ⟨_, rfl⟩
 have B0 : Hid (Below w.heap.size w W0) := Lib.hid (by rw [hW0]; exact (Below.refl _ _).alloc (Nat.le_refl _) _)
 have X0 : Hid (W0.heap[w.heap.size]? = some (.cells #[.slice p.A r.d.length p.ca, .int .i64 r.st, .slice p.T r.ts.length p.ct, .slice p.S r.sg.length p.cs] 41 (0, 0))) := Lib.hid (by rw [hW0]; exact heap_alloc_new _ _)
 have Z0 : Hid (W0.heap.size = w.heap.size + 1) := Lib.hid (by rw [hW0]; simp)
 have h0 := h.on B0.out
 have HA := Lib.hid (ha i hi)
 obtain ⟨b0, off0, A2, c2, t, hA, -, ht, z2, zc2, -, y0, y1, y2, y3, y4, y5⟩ := h0.d.at_ hi
 obtain rfl : r.d[i] = t := by
  have := ht.out
  rw [List.getElem?_eq_getElem hi] at this
  exact Option.some.inj this
 have BDo := Lib.hid hB
 have QL : r.d[i].after.length ≤ 1100 := hB.a _ (List.getElem_mem hi)
 have E : Hid (Rn.free r.ts r.sg r.d[i] = ((r.d[i].after.all fun a => decide (Rn.phase r.ts a = 3)) && (r.d[i].on.isEmpty || decide (r.d[i].on ∈ r.sg)))) := Lib.hid rfl
 generalize Rn.free r.ts r.sg r.d[i] = res at *
 have HT := Lib.hid h0.t
 have HS := Lib.hid h0.s
 generalize r.d[i] = t at *
 unfold rv
 rw [hA] at X0 hW0 ⊢
 obtain ⟨n, hn⟩ : ∃ n, n = r.d.length := ⟨_, rfl⟩
 obtain ⟨m, hm⟩ : ∃ m, m = r.ts.length := ⟨_, rfl⟩
 obtain ⟨l, hl⟩ : ∃ l, l = r.sg.length := ⟨_, rfl⟩
 obtain ⟨q, hq⟩ : ∃ q, q = t.after.length := ⟨_, rfl⟩
 have HM := Lib.hid hm
 have HL := Lib.hid hl
 have HQ := Lib.hid hq
 have MB : m ≤ 1100 := by rw [hm]; exact hB.t
 rw [← hq] at y1 QL
 rw [← hm] at HA
 rw [← hn] at hi
 rw [← hn, ← hm, ← hl] at X0 hW0 ⊢
 have hin : (i : Int) < (n : Int) := by omega
 clear hB ha h h0 ht hA hn hm hl hq
 obtain ⟨W1, hW1⟩ : ∃ W1, W1 = W0.alloc (.cells #[.string (str t.name), .slice A2 q c2, .int .i64 t.retry, .int .i64 t.wait, .int .i64 t.base, .string (str t.on)] 96) := ⟨_, rfl⟩
 have B1 : Hid (Below W0.heap.size W0 W1) := Lib.hid (by rw [hW1]; exact (Below.refl _ _).alloc (Nat.le_refl _) _)
 have X1 : Hid (W1.heap[w.heap.size]? = some (.cells #[.slice (some ⟨b0, off0, none⟩) n p.ca, .int .i64 r.st, .slice p.T m p.ct, .slice p.S l p.cs] 41 (0, 0))) := Lib.hid ((B1.out.block _ (lt_of_block X0.out)).trans X0.out)
 have T1 : Hid (W1.heap[W0.heap.size]? = some (.cells #[.string (str t.name), .slice A2 q c2, .int .i64 t.retry, .int .i64 t.wait, .int .i64 t.base, .string (str t.on)] 96 (0, 0))) := Lib.hid (by rw [hW1]; exact heap_alloc_new _ _)
 have BW : Hid (Below w.heap.size w W1) := Lib.hid (B0.out.trans (B1.out.mono B0.out.size))
 have HT1 : Hid (TksO W1 O p.T r.ts) := Lib.hid (HT.out.keep B1.out.size fun b _ hl => B1.out.block b hl)
 have HS1 : Hid (SigsO W1 O p.S r.sg) := Lib.hid (RowO.keep HS.out B1.out.size fun b _ hl => B1.out.block b hl)
 have HZ1 : Hid (Zs W1 W1.heap.size A2 t.after) := Lib.hid (z2.out.keep B1.out.size fun b _ hl => B1.out.block b hl).zs
 have CN : Hid (Calls Tryz.prog 109 #[.slice p.S l p.cs, .string (str t.on)] W1 (BoolG W1 (decide (t.on ∈ r.sg)))) := Lib.hid (contains_p p.S r.sg p.cs BDo.out.s BDo.out.z t.on l HL.out W1 O HS1.out)
 obtain ⟨⟨x0, x1, x2, x3⟩, -⟩ := obj4 X0.out
 go_enter Tryz.func105, Tryz.ntmps105
 go_upto_region 1 with (fail)
 rw [← hW0]
 clear hW0
 go_upto_region 2 with (fail)
 rw [← hW1]
 clear hW1 x0 x1 x2 x3 y0 y1 y2 y3 y4 y5 HT HS
 obtain ⟨⟨x0, x1, x2, x3⟩, -⟩ := obj4 X1.out
 obtain ⟨y0, y1, y2, y3, y4, y5⟩ := ob6 T1.out
 go_wp2_with fail
 go_loopw [17] (fun iv wr => ∃ k : Nat, k ≤ q ∧ iv = .int .i64 k ∧ Hid (DoneTo r.ts t.after k) ∧ wr = W1) (fun iv _ => q - (intOf iv).toNat)
 case atStart => exact ⟨0, Nat.zero_le _, rfl, Lib.hid fun j hj => by omega, rfl⟩
 case round =>
  obtain ⟨k, hk, rfl, HD, rfl⟩ := hrel
  by_cases hlt : k < q
  ·have hlt' : (k : Int) < (q : Int) := by omega
   obtain ⟨b, off, z, rfl, -, hc, hz, -, -⟩ := HZ1.out.at_ (k := k) (by rw [← HQ.out]; exact hlt)
   have hzm : z ∈ t.after := by
    rw [← hz.out, getD_at (by rw [← HQ.out]; exact hlt)]
    exact List.getElem_mem _
   obtain ⟨z0, z1⟩ := HA.out z hzm
   obtain ⟨j, rfl⟩ : ∃ j : Nat, z = (j : Int) := ⟨z.toNat, by omega⟩
   have hjm : j < r.ts.length := by rw [← HM.out]; omega
   obtain ⟨b2, off2, kk, hpT, -, hk2, -, c0, c1, c2', c3⟩ := HT1.out.at_ hjm
   have PH : Hid (Rn.phase r.ts (t.after.getD k 0) = kk.ph) := Lib.hid (by
    rw [hz.out]
    unfold Rn.phase
    rw [Int.toNat_natCast, getD_at hjm]
    have := hk2.out
    rw [List.getElem?_eq_getElem hjm] at this
    rw [Option.some.inj this])
   rw [hpT] at x2
   have z1' : decide ((m : Int) ≤ (j : Int)) = false := decide_eq_false (by omega)
   clear hk2 hjm hzm hpT c1 c2' c3
   by_cases h3 : kk.ph = 3
   ·rw [h3] at c0
    go_wp2
    go_roundw
    case rel => exact ⟨k + 1, by omega, by go_num, Lib.hid fun j2 hj2 => by
     by_cases e : j2 = k
     ·subst e; rw [PH.out, h3]
     ·exact HD.out j2 (by omega), trivial⟩
    case measure => simp [intOf]; omega
   ·have h3' : (kk.ph != 3) = true := by simpa using h3
    have R : Hid (res = false) := Lib.hid (by
     rw [E.out, Bool.and_eq_false_iff]
     left
     rw [List.all_eq_false]
     refine ⟨(j : Int), by rw [← hz.out, getD_at (by rw [← HQ.out]; exact hlt)]; exact List.getElem_mem _, ?_⟩
     rw [← hz.out, PH.out, decide_eq_false h3]
     decide)
    go_wp2
    go_ret
    exact ⟨ret_bool R.out.symm, BW⟩
  ·obtain rfl : k = q := by omega
   have hge : ¬ (k : Int) < (k : Int) := by omega
   have R1 : Hid (res = (t.on.isEmpty || decide (t.on ∈ r.sg))) := Lib.hid (by
    rw [E.out, List.all_eq_true.2 fun a ha2 => ?_, Bool.true_and]
    obtain ⟨j, hj, e⟩ := List.getElem_of_mem ha2
    have := HD.out j (by rw [HQ.out]; exact hj)
    rw [getD_at hj, e] at this
    exact decide_eq_true this)
   by_cases ho : t.on = []
   ·have R : Hid (res = true) := Lib.hid (by rw [R1.out, ho]; rfl)
    have ho' : str t.on = ⟨#[]⟩ := by rw [ho]; rfl
    rw [ho'] at y5
    clear ho ho' R1
    go_wp2
    go_ret
    exact ⟨ret_bool R.out.symm, BW⟩
   ·have R : Hid (res = decide (t.on ∈ r.sg)) := Lib.hid (by rw [R1.out]; cases hl : t.on with | nil => exact absurd hl ho | cons _ _ => rfl)
    obtain ⟨f1, f2⟩ := str_ne ho
    generalize decide (t.on ∈ r.sg) = v at *
    clear ho R1
    go_wp2_with fail
    (with_reducible refine CN.out.mono ?_); rintro e w2 ⟨rfl, b2⟩
    go_wp2
    go_ret
    exact ⟨ret_bool R.out.symm, Lib.hid (BW.out.trans (b2.out.mono BW.out.size))⟩
end Go.Proofs.YtkbekojnmdgdgaaGreatDoor
/- RnUpd -/
namespace Go.Proofs.YtkbekojnmdgdgaaGreatDoor
open Go.RowKit
set_option maxRecDepth 20000
theorem Own3.putT {w : World} {base g : Nat} {p : At3} {r : Rn.R} (h : Own3 w base p r) (hT : p.T = some ⟨g, 0, none⟩) {k : Nat} (hk : k < r.ts.length) {j : Nat} (hj : j < 4) {u : Value} (hu : u.oneCell' = true) (kk : Rn.Tk) (hkk : tkIn kk)
  (hset : (tkV (r.ts.getD k Rn.t0)).set j u = tkV kk) (st : Int) : Own3 (w.setCell ⟨g, k * 4 + j, none⟩ u) base p ⟨r.d, st, r.ts.set k kk, r.sg⟩ := by
 have K : ∀ b, b ≠ g → (w.setCell ⟨g, k * 4 + j, none⟩ u).heap[b]? = w.heap[b]? := fun b hb => Below.heap_setCell _ _ _ _ hb
 have Z : (w.setCell ⟨g, k * 4 + j, none⟩ u).heap.size = w.heap.size := by simp [World.setCell]
 refine ⟨h.d.keep (Nat.le_of_eq Z.symm) fun b hb _ => K b fun e => hb.2.1 _ hT e.symm, h.dc, ?_, fun x hx => ?_, h.s.keep fun a ea => K _ fun e => h.ap a ea _ hT e.symm, h.ap⟩
 ·have h1 := h.t
  rw [hT] at h1
  have h2 := h1.put1 (i := k) (j := j) (by rw [List.length_map]; exact hk) hj hu
  rw [getD_map hk, ← getD_at (d := Rn.t0) hk, hset] at h2
  show OwnK _ _ _ _ p.T _ ((r.ts.set k kk).map tkV)
  rw [hT, List.map_set]
  exact h2
 ·rcases List.mem_or_eq_of_mem_set hx with hx | rfl
  ·exact h.ti x hx
  ·exact hkk
theorem Own3.st {w : World} {base : Nat} {p : At3} {r : Rn.R} (h : Own3 w base p r) (st : Int) : Own3 w base p ⟨r.d, st, r.ts, r.sg⟩ := ⟨h.d, h.dc, h.t, h.ti, h.s, h.ap⟩
theorem Own3.tk {w : World} {base : Nat} {p : At3} {r : Rn.R} (h : Own3 w base p r) {g : Nat} (hT : p.T = some ⟨g, 0, none⟩) {k : Nat} (hk : k < r.ts.length) :
  (w.cell? ⟨g, k * 4, none⟩ = some (.int .i64 (r.ts.getD k Rn.t0).ph) ∧ w.cell? ⟨g, k * 4 + 1, none⟩ = some (.int .i64 (r.ts.getD k Rn.t0).tr) ∧ w.cell? ⟨g, k * 4 + 2, none⟩ = some (.int .i64 (r.ts.getD k Rn.t0).un) ∧ w.cell? ⟨g, k * 4 + 3, none⟩ = some (.string (str (r.ts.getD k Rn.t0).da))) ∧
  (w.frozen? ⟨g, k * 4, none⟩ = false ∧ w.frozen? ⟨g, k * 4 + 1, none⟩ = false ∧ w.frozen? ⟨g, k * 4 + 2, none⟩ = false ∧ w.frozen? ⟨g, k * 4 + 3, none⟩ = false) := by
 have h1 := h.t
 rw [hT] at h1
 have key : ∀ (j : Nat) (u : Value), j < 4 → (tkV (r.ts.getD k Rn.t0))[j]? = some u → w.cell? ⟨g, k * 4 + j, none⟩ = some u := fun j u hj hu =>
  h1.cell (by rw [List.length_map]; exact hk) hj (by rw [getD_map hk, ← getD_at (d := Rn.t0) hk]; exact hu)
 exact ⟨⟨key 0 _ (by decide) rfl, key 1 _ (by decide) rfl, key 2 _ (by decide) rfl, key 3 _ (by decide) rfl⟩, h1.thawed _, h1.thawed _, h1.thawed _, h1.thawed _⟩
theorem Own3.at0 {w : World} {base : Nat} {p : At3} {r : Rn.R} (h : Own3 w base p r) (hn : 0 < r.ts.length) : ∃ g, p.T = some ⟨g, 0, none⟩ ∧ base ≤ g ∧ g < w.heap.size := h.t.shape (by rw [List.length_map]; exact hn)
def boxR (w : World) (X : Nat) (p : At3) (n : Nat) (st : Int) (m l : Nat) : Prop := w.heap[X]? = some (.cells #[.slice p.A n p.ca, .int .i64 st, .slice p.T m p.ct, .slice p.S l p.cs] 41 (0, 0))
structure UpTo (r : Rn.R) (us : List Rn.Tk) (k : Nat) : Prop where
 len : us.length = r.ts.length
 new : ∀ j, j < k → us.getD j Rn.t0 = Rn.upT r.ts r.sg (r.d.getD j tz) (r.ts.getD j Rn.t0)
 old : ∀ j, k ≤ j → us.getD j Rn.t0 = r.ts.getD j Rn.t0
theorem UpTo.start (r : Rn.R) : UpTo r r.ts 0 := ⟨rfl, fun j hj => by omega, fun _ _ => rfl⟩
theorem UpTo.like {r : Rn.R} {us : List Rn.Tk} {k : Nat} (h : UpTo r us k) : Rn.Like r.ts us := ⟨h.len, fun i => by
 by_cases e : i < k
 ·rw [h.new i e]; exact Rn.up_ph
 ·rw [h.old i (by omega)]⟩
theorem UpTo.free {r : Rn.R} {us : List Rn.Tk} {k : Nat} (h : UpTo r us k) (t : Df.Task) : Rn.free us r.sg t = Rn.free r.ts r.sg t := h.like.free r.sg t
theorem UpTo.set {r : Rn.R} {us : List Rn.Tk} {k : Nat} (h : UpTo r us k) (hk : k < r.ts.length) : UpTo r (us.set k (Rn.upT r.ts r.sg (r.d.getD k tz) (r.ts.getD k Rn.t0))) (k + 1) := by
 have hk2 : k < us.length := by rw [h.len]; exact hk
 refine ⟨by rw [List.length_set, h.len], fun j hj => ?_, fun j hj => ?_⟩
 ·rw [Rn.getD_set hk2]
  by_cases e : j = k
  ·rw [if_pos e, e]
  ·rw [if_neg e]; exact h.new j (by omega)
 ·rw [Rn.getD_set hk2, if_neg (by omega)]
  exact h.old j (by omega)
theorem UpTo.skip {r : Rn.R} {us : List Rn.Tk} {k : Nat} (h : UpTo r us k) (e : Rn.upT r.ts r.sg (r.d.getD k tz) (r.ts.getD k Rn.t0) = r.ts.getD k Rn.t0) : UpTo r us (k + 1) :=
 ⟨h.len, fun j hj => by
  by_cases e2 : j = k
  ·subst e2; rw [h.old j (Nat.le_refl _), e]
  ·exact h.new j (by omega), fun j hj => h.old j (by omega)⟩
theorem UpTo.done {r : Rn.R} {us : List Rn.Tk} (hl : r.ts.length = r.d.length) (h : UpTo r us r.ts.length) : us = List.zipWith (Rn.upT r.ts r.sg) r.d r.ts := by
 refine List.ext_getElem (by rw [h.len, List.length_zipWith]; omega) fun i h1 h2 => ?_
 rw [← getD_at (d := Rn.t0) h1, h.new i (by rw [← h.len]; exact h1), List.getElem_zipWith, getD_at (by rw [← hl, ← h.len]; exact h1), getD_at]
def LeftTo (us : List Rn.Tk) (b : Bool) (k : Nat) : Prop := b = false ↔ ∀ j, j < k → (us.getD j Rn.t0).ph = 3
theorem LeftTo.next {us us' : List Rn.Tk} {b b' : Bool} {k : Nat} (h : LeftTo us b k) (hs : ∀ j, j < k → (us'.getD j Rn.t0).ph = (us.getD j Rn.t0).ph) (hb : b' = (b || decide ((us'.getD k Rn.t0).ph ≠ 3))) : LeftTo us' b' (k + 1) := by
 have h' : b = false ↔ ∀ j, j < k → (us.getD j Rn.t0).ph = 3 := h
 unfold LeftTo
 rw [hb, Bool.or_eq_false_iff, h', decide_eq_false_iff_not, Classical.not_not]
 refine ⟨fun ⟨h1, h2⟩ j hj => ?_, fun h1 => ⟨fun j hj => ?_, h1 k (by omega)⟩⟩
 ·by_cases e : j = k
  ·rw [e]; exact h2
  ·rw [hs j (by omega)]; exact h1 j (by omega)
 ·rw [← hs j hj]; exact h1 j (by omega)
end Go.Proofs.YtkbekojnmdgdgaaGreatDoor
