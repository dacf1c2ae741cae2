/-
  Part 34 of the texts behind the law: TEvLaidK, TFlLaid.
-/
import Derived.Test.YtkbekojnmdgdgaaGreatDoorCards
import Derived.Test.YtkbekojnmdgdgaaGreatDoorTf6
import Derived.MakeChecks
import Derived.ProofKit
import Derived.Stop.LaidErr
import Derived.LaidMore
/- EvLaidK -/
namespace Go.Proofs.YtkbekojnmdgdgaaGreatDoor
open Go.RowKit Go.ChangeShapes Go.WideShapes Go.ChangeAt
section Flat
variable {H : Type} {enc : TypeId × Value → H} {P : Program} {w : World} {base : Nat} {sp : Nat → Bool} {held : Bool}
theorem trod_arr {fuel : Nat} {t e : TypeId} {n m : Nat} {cs : List Value} {ds : List (DataW H)} {p : List MemPlace} (ht : P.underlying t = some (.array n e)) (hm : P.cellsOf e = m) (h : DataW.trod enc P w base sp held fuel t cs = some (.agg ds, p)) (i : Nat) (d : DataW H) (hd : ds[i]? = some d) :
  ∃ f q, DataW.trod enc P w base sp held f e ((cs.drop (i * m)).take m) = some (d, q) := by
 cases fuel with
 | zero => simp [DataW.trod] at h
 | succ fuel =>
  simp only [DataW.trod, ht, hm] at h
  split at h
  ·obtain ⟨xs, hx, he⟩ := Option.map_eq_some_iff.1 h
   have h1 : xs.map (·.1) = ds := by have := congrArg Prod.fst he; simpa using this
   rw [← h1, List.getElem?_map, Option.map_eq_some_iff] at hd
   obtain ⟨x, hx1, rfl⟩ := hd
   have hi : i < n := by
    have h2 := (List.getElem?_eq_some_iff.1 hx1).1
    have h3 := Lib.mapM_length hx
    rw [List.length_range] at h3; omega
   obtain ⟨b, hb, hf⟩ := Lib.mapM_at hx i i (by simp [hi])
   rw [hx1] at hb
   obtain rfl := Option.some.inj hb
   exact ⟨fuel, x.2, hf⟩
  ·cases h
theorem trod_fld {fuel : Nat} {t : TypeId} {fs : Array Field} {cs : List Value} {ds : List (DataW H)} {p : List MemPlace} (ht : P.underlying t = some (.struct fs)) (h : DataW.trod enc P w base sp held fuel t cs = some (.agg ds, p)) (j : Nat) (f : Field) (hf : fs.toList[j]? = some f) (d : DataW H) (hd : ds[j]? = some d) :
  ∃ f' q, DataW.trod enc P w base sp held f' f.type ((cs.drop f.offset).take (P.cellsOf f.type)) = some (d, q) := by
 cases fuel with
 | zero => simp [DataW.trod] at h
 | succ fuel =>
  simp only [DataW.trod, ht] at h
  split at h
  ·obtain ⟨xs, hx, he⟩ := Option.map_eq_some_iff.1 h
   have h1 : xs.map (·.1) = ds := by have := congrArg Prod.fst he; simpa using this
   rw [← h1, List.getElem?_map, Option.map_eq_some_iff] at hd
   obtain ⟨x, hx1, rfl⟩ := hd
   obtain ⟨b, hb, hf2⟩ := Lib.mapM_at hx j f hf
   rw [hx1] at hb
   obtain rfl := Option.some.inj hb
   exact ⟨fuel, x.2, hf2⟩
  ·cases h
theorem trod_num {fuel : Nat} {t : TypeId} {k : IntKind} {z : Int} {cs : List Value} {p : List MemPlace} (ht : P.underlying t = some (.int k)) (h : DataW.trod enc P w base sp held fuel t cs = some (.lit (.int k z), p)) : cs = [.int k z] := by
 cases fuel with
 | zero => simp [DataW.trod] at h
 | succ fuel =>
  unfold DataW.trod at h
  rw [ht] at h
  split at h <;> simp_all
theorem trod_txt {fuel : Nat} {t : TypeId} {l : List UInt8} {cs : List Value} {p : List MemPlace} (ht : P.underlying t = some .string) (h : DataW.trod enc P w base sp held fuel t cs = some (.lit (.string l), p)) : cs = [.string ⟨l.toArray⟩] := by
 cases fuel with
 | zero => simp [DataW.trod] at h
 | succ fuel =>
  unfold DataW.trod at h
  rw [ht] at h
  split at h <;> simp_all
  rw [← h.2.1]
end Flat
theorem pick1 {cs : List Value} {a b : Nat} {v : Value} (hb : b < 8) (h : (((cs.drop a).take 8).drop b).take 1 = [v]) : cs[a + b]? = some v := by
 have h1 := congrArg (·[0]?) h
 simp only [List.getElem?_take, List.getElem?_drop, List.getElem?_cons_zero, Nat.add_zero, if_pos Nat.zero_lt_one] at h1
 rwa [if_pos hb] at h1
theorem und_shapes : Tryz.prog.underlying 104 = some (.array 10 103) := by kernel_rfl
theorem cells_shape : Tryz.prog.cellsOf 103 = 8 := by kernel_rfl
theorem ty_shapes : (Tryz.prog.globals[0]?).map (·.type) = some 104 := by kernel_rfl
set_option maxRecDepth 20000 in
set_option maxHeartbeats 4000000 in
theorem shape_cells {w : World} {fuel : Nat} {cs : List Value} {p : List MemPlace} (h : DataW.trod (fun _ => ()) Tryz.prog w 0 (fun _ => true) false fuel 104 cs = some (Rows.laid_outrider_event_shapes, p)) (k j : Nat) (hk : k < 10) (hj : j < 8) :
  cs[k * 8 + j]? = (shapeRow k)[j]? := by
 have hkc : k = 0 ∨ k = 1 ∨ k = 2 ∨ k = 3 ∨ k = 4 ∨ k = 5 ∨ k = 6 ∨ k = 7 ∨ k = 8 ∨ k = 9 := by omega
 have hjc : j = 0 ∨ j = 1 ∨ j = 2 ∨ j = 3 ∨ j = 4 ∨ j = 5 ∨ j = 6 ∨ j = 7 := by omega
 clear hk hj
 unfold Rows.laid_outrider_event_shapes at h
 rcases hkc with rfl | rfl | rfl | rfl | rfl | rfl | rfl | rfl | rfl | rfl
 ·obtain ⟨f1, q1, h1⟩ := trod_arr und_shapes cells_shape h 0 _ rfl
  rcases hjc with rfl | rfl | rfl | rfl | rfl | rfl | rfl | rfl
  ·obtain ⟨f2, q2, h2⟩ := trod_fld Tryz.underlying103 h1 0 _ rfl _ rfl
   exact pick1 (by decide) (trod_txt Tryz.underlying9 h2)
  ·obtain ⟨f2, q2, h2⟩ := trod_fld Tryz.underlying103 h1 1 _ rfl _ rfl
   exact pick1 (by decide) (trod_num Tryz.underlying3 h2)
  ·obtain ⟨f2, q2, h2⟩ := trod_fld Tryz.underlying103 h1 2 _ rfl _ rfl
   exact pick1 (by decide) (trod_num Tryz.underlying3 h2)
  ·obtain ⟨f2, q2, h2⟩ := trod_fld Tryz.underlying103 h1 3 _ rfl _ rfl
   exact pick1 (by decide) (trod_num Tryz.underlying3 h2)
  ·obtain ⟨f2, q2, h2⟩ := trod_fld Tryz.underlying103 h1 4 _ rfl _ rfl
   exact pick1 (by decide) (trod_num Tryz.underlying2 h2)
  ·obtain ⟨f2, q2, h2⟩ := trod_fld Tryz.underlying103 h1 5 _ rfl _ rfl
   exact pick1 (by decide) (trod_num Tryz.underlying3 h2)
  ·obtain ⟨f2, q2, h2⟩ := trod_fld Tryz.underlying103 h1 6 _ rfl _ rfl
   exact pick1 (by decide) (trod_num Tryz.underlying3 h2)
  ·obtain ⟨f2, q2, h2⟩ := trod_fld Tryz.underlying103 h1 7 _ rfl _ rfl
   exact pick1 (by decide) (trod_num Tryz.underlying3 h2)
 ·obtain ⟨f1, q1, h1⟩ := trod_arr und_shapes cells_shape h 1 _ rfl
  rcases hjc with rfl | rfl | rfl | rfl | rfl | rfl | rfl | rfl
  ·obtain ⟨f2, q2, h2⟩ := trod_fld Tryz.underlying103 h1 0 _ rfl _ rfl
   exact pick1 (by decide) (trod_txt Tryz.underlying9 h2)
  ·obtain ⟨f2, q2, h2⟩ := trod_fld Tryz.underlying103 h1 1 _ rfl _ rfl
   exact pick1 (by decide) (trod_num Tryz.underlying3 h2)
  ·obtain ⟨f2, q2, h2⟩ := trod_fld Tryz.underlying103 h1 2 _ rfl _ rfl
   exact pick1 (by decide) (trod_num Tryz.underlying3 h2)
  ·obtain ⟨f2, q2, h2⟩ := trod_fld Tryz.underlying103 h1 3 _ rfl _ rfl
   exact pick1 (by decide) (trod_num Tryz.underlying3 h2)
  ·obtain ⟨f2, q2, h2⟩ := trod_fld Tryz.underlying103 h1 4 _ rfl _ rfl
   exact pick1 (by decide) (trod_num Tryz.underlying2 h2)
  ·obtain ⟨f2, q2, h2⟩ := trod_fld Tryz.underlying103 h1 5 _ rfl _ rfl
   exact pick1 (by decide) (trod_num Tryz.underlying3 h2)
  ·obtain ⟨f2, q2, h2⟩ := trod_fld Tryz.underlying103 h1 6 _ rfl _ rfl
   exact pick1 (by decide) (trod_num Tryz.underlying3 h2)
  ·obtain ⟨f2, q2, h2⟩ := trod_fld Tryz.underlying103 h1 7 _ rfl _ rfl
   exact pick1 (by decide) (trod_num Tryz.underlying3 h2)
 ·obtain ⟨f1, q1, h1⟩ := trod_arr und_shapes cells_shape h 2 _ rfl
  rcases hjc with rfl | rfl | rfl | rfl | rfl | rfl | rfl | rfl
  ·obtain ⟨f2, q2, h2⟩ := trod_fld Tryz.underlying103 h1 0 _ rfl _ rfl
   exact pick1 (by decide) (trod_txt Tryz.underlying9 h2)
  ·obtain ⟨f2, q2, h2⟩ := trod_fld Tryz.underlying103 h1 1 _ rfl _ rfl
   exact pick1 (by decide) (trod_num Tryz.underlying3 h2)
  ·obtain ⟨f2, q2, h2⟩ := trod_fld Tryz.underlying103 h1 2 _ rfl _ rfl
   exact pick1 (by decide) (trod_num Tryz.underlying3 h2)
  ·obtain ⟨f2, q2, h2⟩ := trod_fld Tryz.underlying103 h1 3 _ rfl _ rfl
   exact pick1 (by decide) (trod_num Tryz.underlying3 h2)
  ·obtain ⟨f2, q2, h2⟩ := trod_fld Tryz.underlying103 h1 4 _ rfl _ rfl
   exact pick1 (by decide) (trod_num Tryz.underlying2 h2)
  ·obtain ⟨f2, q2, h2⟩ := trod_fld Tryz.underlying103 h1 5 _ rfl _ rfl
   exact pick1 (by decide) (trod_num Tryz.underlying3 h2)
  ·obtain ⟨f2, q2, h2⟩ := trod_fld Tryz.underlying103 h1 6 _ rfl _ rfl
   exact pick1 (by decide) (trod_num Tryz.underlying3 h2)
  ·obtain ⟨f2, q2, h2⟩ := trod_fld Tryz.underlying103 h1 7 _ rfl _ rfl
   exact pick1 (by decide) (trod_num Tryz.underlying3 h2)
 ·obtain ⟨f1, q1, h1⟩ := trod_arr und_shapes cells_shape h 3 _ rfl
  rcases hjc with rfl | rfl | rfl | rfl | rfl | rfl | rfl | rfl
  ·obtain ⟨f2, q2, h2⟩ := trod_fld Tryz.underlying103 h1 0 _ rfl _ rfl
   exact pick1 (by decide) (trod_txt Tryz.underlying9 h2)
  ·obtain ⟨f2, q2, h2⟩ := trod_fld Tryz.underlying103 h1 1 _ rfl _ rfl
   exact pick1 (by decide) (trod_num Tryz.underlying3 h2)
  ·obtain ⟨f2, q2, h2⟩ := trod_fld Tryz.underlying103 h1 2 _ rfl _ rfl
   exact pick1 (by decide) (trod_num Tryz.underlying3 h2)
  ·obtain ⟨f2, q2, h2⟩ := trod_fld Tryz.underlying103 h1 3 _ rfl _ rfl
   exact pick1 (by decide) (trod_num Tryz.underlying3 h2)
  ·obtain ⟨f2, q2, h2⟩ := trod_fld Tryz.underlying103 h1 4 _ rfl _ rfl
   exact pick1 (by decide) (trod_num Tryz.underlying2 h2)
  ·obtain ⟨f2, q2, h2⟩ := trod_fld Tryz.underlying103 h1 5 _ rfl _ rfl
   exact pick1 (by decide) (trod_num Tryz.underlying3 h2)
  ·obtain ⟨f2, q2, h2⟩ := trod_fld Tryz.underlying103 h1 6 _ rfl _ rfl
   exact pick1 (by decide) (trod_num Tryz.underlying3 h2)
  ·obtain ⟨f2, q2, h2⟩ := trod_fld Tryz.underlying103 h1 7 _ rfl _ rfl
   exact pick1 (by decide) (trod_num Tryz.underlying3 h2)
 ·obtain ⟨f1, q1, h1⟩ := trod_arr und_shapes cells_shape h 4 _ rfl
  rcases hjc with rfl | rfl | rfl | rfl | rfl | rfl | rfl | rfl
  ·obtain ⟨f2, q2, h2⟩ := trod_fld Tryz.underlying103 h1 0 _ rfl _ rfl
   exact pick1 (by decide) (trod_txt Tryz.underlying9 h2)
  ·obtain ⟨f2, q2, h2⟩ := trod_fld Tryz.underlying103 h1 1 _ rfl _ rfl
   exact pick1 (by decide) (trod_num Tryz.underlying3 h2)
  ·obtain ⟨f2, q2, h2⟩ := trod_fld Tryz.underlying103 h1 2 _ rfl _ rfl
   exact pick1 (by decide) (trod_num Tryz.underlying3 h2)
  ·obtain ⟨f2, q2, h2⟩ := trod_fld Tryz.underlying103 h1 3 _ rfl _ rfl
   exact pick1 (by decide) (trod_num Tryz.underlying3 h2)
  ·obtain ⟨f2, q2, h2⟩ := trod_fld Tryz.underlying103 h1 4 _ rfl _ rfl
   exact pick1 (by decide) (trod_num Tryz.underlying2 h2)
  ·obtain ⟨f2, q2, h2⟩ := trod_fld Tryz.underlying103 h1 5 _ rfl _ rfl
   exact pick1 (by decide) (trod_num Tryz.underlying3 h2)
  ·obtain ⟨f2, q2, h2⟩ := trod_fld Tryz.underlying103 h1 6 _ rfl _ rfl
   exact pick1 (by decide) (trod_num Tryz.underlying3 h2)
  ·obtain ⟨f2, q2, h2⟩ := trod_fld Tryz.underlying103 h1 7 _ rfl _ rfl
   exact pick1 (by decide) (trod_num Tryz.underlying3 h2)
 ·obtain ⟨f1, q1, h1⟩ := trod_arr und_shapes cells_shape h 5 _ rfl
  rcases hjc with rfl | rfl | rfl | rfl | rfl | rfl | rfl | rfl
  ·obtain ⟨f2, q2, h2⟩ := trod_fld Tryz.underlying103 h1 0 _ rfl _ rfl
   exact pick1 (by decide) (trod_txt Tryz.underlying9 h2)
  ·obtain ⟨f2, q2, h2⟩ := trod_fld Tryz.underlying103 h1 1 _ rfl _ rfl
   exact pick1 (by decide) (trod_num Tryz.underlying3 h2)
  ·obtain ⟨f2, q2, h2⟩ := trod_fld Tryz.underlying103 h1 2 _ rfl _ rfl
   exact pick1 (by decide) (trod_num Tryz.underlying3 h2)
  ·obtain ⟨f2, q2, h2⟩ := trod_fld Tryz.underlying103 h1 3 _ rfl _ rfl
   exact pick1 (by decide) (trod_num Tryz.underlying3 h2)
  ·obtain ⟨f2, q2, h2⟩ := trod_fld Tryz.underlying103 h1 4 _ rfl _ rfl
   exact pick1 (by decide) (trod_num Tryz.underlying2 h2)
  ·obtain ⟨f2, q2, h2⟩ := trod_fld Tryz.underlying103 h1 5 _ rfl _ rfl
   exact pick1 (by decide) (trod_num Tryz.underlying3 h2)
  ·obtain ⟨f2, q2, h2⟩ := trod_fld Tryz.underlying103 h1 6 _ rfl _ rfl
   exact pick1 (by decide) (trod_num Tryz.underlying3 h2)
  ·obtain ⟨f2, q2, h2⟩ := trod_fld Tryz.underlying103 h1 7 _ rfl _ rfl
   exact pick1 (by decide) (trod_num Tryz.underlying3 h2)
 ·obtain ⟨f1, q1, h1⟩ := trod_arr und_shapes cells_shape h 6 _ rfl
  rcases hjc with rfl | rfl | rfl | rfl | rfl | rfl | rfl | rfl
  ·obtain ⟨f2, q2, h2⟩ := trod_fld Tryz.underlying103 h1 0 _ rfl _ rfl
   exact pick1 (by decide) (trod_txt Tryz.underlying9 h2)
  ·obtain ⟨f2, q2, h2⟩ := trod_fld Tryz.underlying103 h1 1 _ rfl _ rfl
   exact pick1 (by decide) (trod_num Tryz.underlying3 h2)
  ·obtain ⟨f2, q2, h2⟩ := trod_fld Tryz.underlying103 h1 2 _ rfl _ rfl
   exact pick1 (by decide) (trod_num Tryz.underlying3 h2)
  ·obtain ⟨f2, q2, h2⟩ := trod_fld Tryz.underlying103 h1 3 _ rfl _ rfl
   exact pick1 (by decide) (trod_num Tryz.underlying3 h2)
  ·obtain ⟨f2, q2, h2⟩ := trod_fld Tryz.underlying103 h1 4 _ rfl _ rfl
   exact pick1 (by decide) (trod_num Tryz.underlying2 h2)
  ·obtain ⟨f2, q2, h2⟩ := trod_fld Tryz.underlying103 h1 5 _ rfl _ rfl
   exact pick1 (by decide) (trod_num Tryz.underlying3 h2)
  ·obtain ⟨f2, q2, h2⟩ := trod_fld Tryz.underlying103 h1 6 _ rfl _ rfl
   exact pick1 (by decide) (trod_num Tryz.underlying3 h2)
  ·obtain ⟨f2, q2, h2⟩ := trod_fld Tryz.underlying103 h1 7 _ rfl _ rfl
   exact pick1 (by decide) (trod_num Tryz.underlying3 h2)
 ·obtain ⟨f1, q1, h1⟩ := trod_arr und_shapes cells_shape h 7 _ rfl
  rcases hjc with rfl | rfl | rfl | rfl | rfl | rfl | rfl | rfl
  ·obtain ⟨f2, q2, h2⟩ := trod_fld Tryz.underlying103 h1 0 _ rfl _ rfl
   exact pick1 (by decide) (trod_txt Tryz.underlying9 h2)
  ·obtain ⟨f2, q2, h2⟩ := trod_fld Tryz.underlying103 h1 1 _ rfl _ rfl
   exact pick1 (by decide) (trod_num Tryz.underlying3 h2)
  ·obtain ⟨f2, q2, h2⟩ := trod_fld Tryz.underlying103 h1 2 _ rfl _ rfl
   exact pick1 (by decide) (trod_num Tryz.underlying3 h2)
  ·obtain ⟨f2, q2, h2⟩ := trod_fld Tryz.underlying103 h1 3 _ rfl _ rfl
   exact pick1 (by decide) (trod_num Tryz.underlying3 h2)
  ·obtain ⟨f2, q2, h2⟩ := trod_fld Tryz.underlying103 h1 4 _ rfl _ rfl
   exact pick1 (by decide) (trod_num Tryz.underlying2 h2)
  ·obtain ⟨f2, q2, h2⟩ := trod_fld Tryz.underlying103 h1 5 _ rfl _ rfl
   exact pick1 (by decide) (trod_num Tryz.underlying3 h2)
  ·obtain ⟨f2, q2, h2⟩ := trod_fld Tryz.underlying103 h1 6 _ rfl _ rfl
   exact pick1 (by decide) (trod_num Tryz.underlying3 h2)
  ·obtain ⟨f2, q2, h2⟩ := trod_fld Tryz.underlying103 h1 7 _ rfl _ rfl
   exact pick1 (by decide) (trod_num Tryz.underlying3 h2)
 ·obtain ⟨f1, q1, h1⟩ := trod_arr und_shapes cells_shape h 8 _ rfl
  rcases hjc with rfl | rfl | rfl | rfl | rfl | rfl | rfl | rfl
  ·obtain ⟨f2, q2, h2⟩ := trod_fld Tryz.underlying103 h1 0 _ rfl _ rfl
   exact pick1 (by decide) (trod_txt Tryz.underlying9 h2)
  ·obtain ⟨f2, q2, h2⟩ := trod_fld Tryz.underlying103 h1 1 _ rfl _ rfl
   exact pick1 (by decide) (trod_num Tryz.underlying3 h2)
  ·obtain ⟨f2, q2, h2⟩ := trod_fld Tryz.underlying103 h1 2 _ rfl _ rfl
   exact pick1 (by decide) (trod_num Tryz.underlying3 h2)
  ·obtain ⟨f2, q2, h2⟩ := trod_fld Tryz.underlying103 h1 3 _ rfl _ rfl
   exact pick1 (by decide) (trod_num Tryz.underlying3 h2)
  ·obtain ⟨f2, q2, h2⟩ := trod_fld Tryz.underlying103 h1 4 _ rfl _ rfl
   exact pick1 (by decide) (trod_num Tryz.underlying2 h2)
  ·obtain ⟨f2, q2, h2⟩ := trod_fld Tryz.underlying103 h1 5 _ rfl _ rfl
   exact pick1 (by decide) (trod_num Tryz.underlying3 h2)
  ·obtain ⟨f2, q2, h2⟩ := trod_fld Tryz.underlying103 h1 6 _ rfl _ rfl
   exact pick1 (by decide) (trod_num Tryz.underlying3 h2)
  ·obtain ⟨f2, q2, h2⟩ := trod_fld Tryz.underlying103 h1 7 _ rfl _ rfl
   exact pick1 (by decide) (trod_num Tryz.underlying3 h2)
 ·obtain ⟨f1, q1, h1⟩ := trod_arr und_shapes cells_shape h 9 _ rfl
  rcases hjc with rfl | rfl | rfl | rfl | rfl | rfl | rfl | rfl
  ·obtain ⟨f2, q2, h2⟩ := trod_fld Tryz.underlying103 h1 0 _ rfl _ rfl
   exact pick1 (by decide) (trod_txt Tryz.underlying9 h2)
  ·obtain ⟨f2, q2, h2⟩ := trod_fld Tryz.underlying103 h1 1 _ rfl _ rfl
   exact pick1 (by decide) (trod_num Tryz.underlying3 h2)
  ·obtain ⟨f2, q2, h2⟩ := trod_fld Tryz.underlying103 h1 2 _ rfl _ rfl
   exact pick1 (by decide) (trod_num Tryz.underlying3 h2)
  ·obtain ⟨f2, q2, h2⟩ := trod_fld Tryz.underlying103 h1 3 _ rfl _ rfl
   exact pick1 (by decide) (trod_num Tryz.underlying3 h2)
  ·obtain ⟨f2, q2, h2⟩ := trod_fld Tryz.underlying103 h1 4 _ rfl _ rfl
   exact pick1 (by decide) (trod_num Tryz.underlying2 h2)
  ·obtain ⟨f2, q2, h2⟩ := trod_fld Tryz.underlying103 h1 5 _ rfl _ rfl
   exact pick1 (by decide) (trod_num Tryz.underlying3 h2)
  ·obtain ⟨f2, q2, h2⟩ := trod_fld Tryz.underlying103 h1 6 _ rfl _ rfl
   exact pick1 (by decide) (trod_num Tryz.underlying3 h2)
  ·obtain ⟨f2, q2, h2⟩ := trod_fld Tryz.underlying103 h1 7 _ rfl _ rfl
   exact pick1 (by decide) (trod_num Tryz.underlying3 h2)
theorem ty_pow : (Tryz.prog.globals[4]?).map (·.type) = some 226 := by kernel_rfl
theorem cells_u64 : Tryz.prog.cellsOf 215 = 1 := by kernel_rfl
theorem cells_pow : Tryz.prog.cellsOf 226 = 20 := by kernel_rfl
end Go.Proofs.YtkbekojnmdgdgaaGreatDoor
/- FlLaid -/
namespace Go.Proofs.YtkbekojnmdgdgaaGreatDoor
open Go.RowKit Go.ChangeShapes Go.WideShapes Go.ChangeAt
abbrev Facts (w : World) : Prop := FactsE w
theorem FactsS.of_head {W : World} {l : List (String × DataW Unit)} (h : laidMet Tryz.prog (("outrider/event.shapes", Rows.laid_outrider_event_shapes) :: l) W) : FactsS W := by
 obtain ⟨ps, ⟨g', t', cs, fuel, p, q, hg', ht', hvar, hd, _, _⟩, _⟩ := h
 obtain rfl := Option.some.inj (gd_shapes.symm.trans hg')
 obtain rfl := Option.some.inj (ty_shapes.symm.trans ht')
 refine ⟨cs, hvar, fun k j hk hj => ?_⟩
 rw [← shape_cells hd k j hk hj, Array.getElem?_toList]
theorem Facts.of_laid {W : World} (h : laidMetH Tryz.prog Rows.flowKnownRow.laid W) : Facts W := by
 rw [MakeChecks.laidMetH_plain _ _ _ (by kernel_rfl)] at h
 have h3 := h.tail.tail
 exact ⟨Lib.tabIs_of_head gd_tab ty_pow Tryz.underlying226 Tryz.underlying215 cells_u64 cells_pow h3, FactsS.of_head h3.tail.tail⟩
end Go.Proofs.YtkbekojnmdgdgaaGreatDoor
