/-
  Part 22 of the texts behind the law: EvShowRef.
-/
import Derived.Test.YtighnooklcmjaaaDoorEv14
import Derived.Test.YtighnooklcmjaaaDoorEv10
/-
  Events as texts; the reference's ShowEvent at every event.
-/
namespace Go.Proofs.YtighnooklcmjaaaDoor
open Go.RowKit
namespace Ev
open Go.Lib
def word (k : Int) : List UInt8 :=
  if k = 1 then [100, 101, 102, 105, 110, 101] else if k = 2 then [115, 116, 97, 114, 116] else if k = 3 then [108, 101, 97, 115, 101] else if k = 4 then [100, 111, 110, 101] else if k = 5 then [102, 97, 105, 108] else if k = 6 then [116, 105, 99, 107] else if k = 7 then [115, 105, 103, 110, 97, 108] else if k = 8 then [99, 97, 110, 99, 101, 108] else if k = 9 then [101, 112, 111, 99, 104] else []
def fieldT (e : E) (c : UInt8) : List UInt8 :=
  if c = 114 then decDigits e.run.toNat else if c = 116 then decDigits e.task.toNat else if c = 121 then decDigits e.try_.toNat else if c = 110 then decDigits e.n.toNat else if c = 97 then e.name.data.toList else if c = 107 then e.key.data.toList else e.data.data.toList
def text (e : E) : List UInt8 := word e.kind ++ (codes e.kind).flatMap fun c => 32 :: fieldT e c
def showV (e : E) : List UInt8 := if good e = true then text e else []
def upT (e : E) (j : Nat) : List UInt8 := word e.kind ++ ((codes e.kind).take j).flatMap fun c => 32 :: fieldT e c
theorem upT_next {e : E} {j : Nat} {c : UInt8} (h : (codes e.kind)[j]? = some c) : upT e (j + 1) = upT e j ++ 32 :: fieldT e c := by
  unfold upT
  rw [List.take_add_one, h, List.flatMap_append, List.append_assoc]
  simp
theorem upT_all {e : E} {j : Nat} (h : (codes e.kind).length ≤ j) : upT e j = text e := by
  unfold upT text
  rw [List.take_of_length_le h]
theorem word_len (k : Int) : (word k).length ≤ 6 := by
  unfold word
  repeat' split
  all_goals decide
theorem fieldT_len {e : E} (h : Good e) (c : UInt8) : (fieldT e c).length ≤ 900 := by
  have hf := h.fits
  have hd : ∀ n : Int, n ≤ 1099511627776 → (decDigits n.toNat).length ≤ 900 := fun n hn => by
    have h1 : n.toNat < 10 ^ 30 := by
      have : (1099511627776 : Nat) < 10 ^ 30 := by decide
      omega
    have := Nu.dec_len 30 n.toNat (by decide) h1
    omega
  have hs : ∀ s : ByteArray, s.size ≤ 900 → s.data.toList.length ≤ 900 := fun s h => by rw [Array.length_toList]; exact h
  unfold fieldT
  repeat' split
  · exact hd _ (by have := hf.r; omega)
  · exact hd _ (by have := hf.t; omega)
  · exact hd _ (by have := hf.y; omega)
  · exact hd _ (by have := hf.n; omega)
  · exact hs _ (by have := hf.a; omega)
  · exact hs _ (by have := hf.k; omega)
  · exact hs _ hf.d
theorem flat_len {α β : Type} (f : α → List β) (m : Nat) : ∀ l : List α, (∀ a ∈ l, (f a).length ≤ m) → (l.flatMap f).length ≤ l.length * m
  | [], _ => by simp
  | a :: l, h => by
    rw [List.flatMap_cons, List.length_append, List.length_cons, Nat.succ_mul]
    have h1 := h a (List.mem_cons_self ..)
    have h2 := flat_len f m l fun b hb => h b (List.mem_cons_of_mem _ hb)
    omega
theorem upT_len {e : E} (h : Good e) (j : Nat) : (upT e j).length ≤ 4000 := by
  unfold upT
  rw [List.length_append]
  have h1 := word_len e.kind
  have h2 := flat_len (fun c => (32 : UInt8) :: fieldT e c) 901 ((codes e.kind).take j) fun c _ => by
    have := fieldT_len h c
    simp only [List.length_cons]; omega
  have h3 : ((codes e.kind).take j).length ≤ 4 := by rw [List.length_take]; have := codes_few e.kind; omega
  have h4 : ((codes e.kind).take j).length * 901 ≤ 4 * 901 := Nat.mul_le_mul_right _ h3
  omega
end Ev
/-- A text handed back. -/
def TxtP (w : World) (l : List UInt8) (e : Ending) (w' : World) : Prop := ∃ s, e = .returned (.string s) ∧ Hid (s = Nu.txt l) ∧ Hid (Below w.heap.size w w')
theorem TxtP.mk_ {w w' : World} {l : List UInt8} {s : ByteArray} (h : s = Nu.txt l) (hb : Below w.heap.size w w') : TxtP w l (.returned (.string s)) w' := ⟨s, rfl, Lib.hid h, Lib.hid hb⟩
theorem obcell {W : World} {g : Nat} {cs : Array Value} {t : TypeId} (h : W.heap[g]? = some (.cells cs t (0, 0))) (i : Nat) : W.cell? ⟨g, i, none⟩ = cs[i]? := by simp [World.cell?, h]
theorem word_cell (w : World) (t : TypeId) (k : Int) (h1 : 1 ≤ k) (h9 : k ≤ 9) : (w.alloc (.cells #[.string ⟨#[]⟩, .string ⟨#[100, 101, 102, 105, 110, 101]⟩, .string ⟨#[115, 116, 97, 114, 116]⟩, .string ⟨#[108, 101, 97, 115, 101]⟩, .string ⟨#[100, 111, 110, 101]⟩, .string ⟨#[102, 97, 105, 108]⟩, .string ⟨#[116, 105, 99, 107]⟩, .string ⟨#[115, 105, 103, 110, 97, 108]⟩, .string ⟨#[99, 97, 110, 99, 101, 108]⟩, .string ⟨#[101, 112, 111, 99, 104]⟩] t)).cell? ⟨w.heap.size, k.toNat, none⟩ = some (.string (Nu.txt (Ev.word k))) := by
  have hc : k = 1 ∨ k = 2 ∨ k = 3 ∨ k = 4 ∨ k = 5 ∨ k = 6 ∨ k = 7 ∨ k = 8 ∨ k = 9 := by omega
  have hx := heap_alloc_new w (.cells #[.string ⟨#[]⟩, .string ⟨#[100, 101, 102, 105, 110, 101]⟩, .string ⟨#[115, 116, 97, 114, 116]⟩, .string ⟨#[108, 101, 97, 115, 101]⟩, .string ⟨#[100, 111, 110, 101]⟩, .string ⟨#[102, 97, 105, 108]⟩, .string ⟨#[116, 105, 99, 107]⟩, .string ⟨#[115, 105, 103, 110, 97, 108]⟩, .string ⟨#[99, 97, 110, 99, 101, 108]⟩, .string ⟨#[101, 112, 111, 99, 104]⟩] t)
  rcases hc with rfl | rfl | rfl | rfl | rfl | rfl | rfl | rfl | rfl <;> (rw [obcell hx]; rfl)
set_option maxRecDepth 8000 in
set_option maxHeartbeats 8000000 in
theorem showEvent_any (e : Ev.E) (he : EvIn e) (w : World) : Calls Tryd.prog 16 #[.agg (evc e)] w (TxtP w (Ev.showV e)) := by
  have X0 := Lib.hid (Bx.start w 33 e)
  have GD := Lib.hid (goodEvent_any e he)
  cases hg : Ev.good e with
  | false =>
    have PE : Hid (Ev.showV e = []) := Lib.hid (by unfold Ev.showV; rw [hg]; rfl)
    rw [hg] at GD
    clear hg he
    obtain ⟨kd, ru, ta, tr, n, na, ke, da⟩ := e
    change Calls _ _ #[.agg #[.int .i64 kd, .int .i64 ru, .int .i64 ta, .int .i64 tr, .int .i64 n, .string na, .string ke, .string da]] _ _
    change Hid (∀ W, Calls _ _ #[.agg #[.int .i64 kd, .int .i64 ru, .int .i64 ta, .int .i64 tr, .int .i64 n, .string na, .string ke, .string da]] W _) at GD
    go_enter Tryd.func16, Tryd.ntmps16
    go_wp2_with fail
    (with_reducible refine (GD.out _).mono ?_); rintro e w1 ⟨rfl, b1⟩
    go_wp2
    go_ret
    have hb : Below w.heap.size w w1 := ((Below.refl _ w).alloc (Nat.le_refl _) _).trans (b1.mono (by simp))
    exact TxtP.mk_ (by rw [PE.out]; rfl) hb
  | true =>
    have hG := Ev.good_iff.1 hg
    have PE : Hid (Ev.showV e = Ev.text e) := Lib.hid (by unfold Ev.showV; rw [hg]; rfl)
    have UN := Lib.hid (fun j c h => Ev.upT_next (e := e) (j := j) (c := c) h)
    have UA := Lib.hid (fun j h => Ev.upT_all (e := e) (j := j) h)
    have UL := Lib.hid (Ev.upT_len hG)
    have U0 : Hid (Ev.upT e 0 = Ev.word e.kind) := Lib.hid (by unfold Ev.upT; simp)
    have FT := Lib.hid (Ev.fieldT_len hG)
    have CC := Lib.hid (Ev.codes_code e.kind)
    have CG := Lib.hid (cstr_get e.kind)
    have CS := Lib.hid (cstr_size e.kind)
    have C4 := Lib.hid (codes_few e.kind)
    have WC := Lib.hid (fun w t => word_cell w t e.kind hG.kind.1 hG.kind.2)
    obtain ⟨⟨k0, k1⟩, ⟨r0, r1⟩, ⟨t0, t1⟩, ⟨y0, y1⟩, ⟨n0, n1⟩, na1, ke1, da1⟩ := hG.cases
    have kp := hG.kind.1
    have FL := Lib.hid (fields_any e.kind he.kind)
    rw [hg] at GD
    have F114 : Hid (Ev.fieldT e 114 = Lib.decDigits e.run.toNat) := Lib.hid rfl
    have F116 : Hid (Ev.fieldT e 116 = Lib.decDigits e.task.toNat) := Lib.hid rfl
    have F121 : Hid (Ev.fieldT e 121 = Lib.decDigits e.try_.toNat) := Lib.hid rfl
    have F110 : Hid (Ev.fieldT e 110 = Lib.decDigits e.n.toNat) := Lib.hid rfl
    have F97 : Hid (Ev.fieldT e 97 = e.name.data.toList) := Lib.hid rfl
    have F107 : Hid (Ev.fieldT e 107 = e.key.data.toList) := Lib.hid rfl
    have F100 : Hid (Ev.fieldT e 100 = e.data.data.toList) := Lib.hid rfl
    clear hg he hG
    generalize Ev.upT e = up at *
    generalize Ev.fieldT e = fi at *
    generalize Ev.showV e = pu at *
    generalize Ev.text e = by_ at *
    obtain ⟨kd, ru, ta, tr, n, na, ke, da⟩ := e
    simp only at *
    generalize Ev.codes kd = cs at *
    generalize Ev.cstr kd = s at *
    generalize Ev.most kd = mo at *
    generalize Ev.word kd = wd at *
    change Calls _ _ #[.agg #[.int .i64 kd, .int .i64 ru, .int .i64 ta, .int .i64 tr, .int .i64 n, .string na, .string ke, .string da]] _ _
    change Hid (∀ W, Calls _ _ #[.agg #[.int .i64 kd, .int .i64 ru, .int .i64 ta, .int .i64 tr, .int .i64 n, .string na, .string ke, .string da]] W _) at GD
    have u4 : IntKind.u64.wrap n = n := IntWalk.u64_in _ (by omega)
    obtain ⟨W0, hW0⟩ : ∃ W0, W0 = w.alloc (.cells #[.int .i64 kd, .int .i64 ru, .int .i64 ta, .int .i64 tr, .int .i64 n, .string na, .string ke, .string da] 33) := ⟨_, rfl⟩
    change Hid (Bx w _ _ (w.alloc (.cells #[.int .i64 kd, .int .i64 ru, .int .i64 ta, .int .i64 tr, .int .i64 n, .string na, .string ke, .string da] 33))) at X0
    rw [← hW0] at X0
    have HW := Lib.hid hW0
    clear hW0
    go_enter Tryd.func16, Tryd.ntmps16
    go_wp2_with fail
    rw [← HW.out]
    clear HW
    (with_reducible refine (GD.out _).mono ?_); rintro e w1 ⟨rfl, b1⟩
    have X1 := Lib.hid (X0.out.more b1)
    have c := X1.out.c.1
    have wc := WC.out w1 9
    have kdn : (kd.toNat : Int) = kd := by omega
    have kd10 : kd.toNat < 10 := by omega
    have cg : (w1.alloc (.cells #[.string ⟨#[]⟩, .string ⟨#[100, 101, 102, 105, 110, 101]⟩, .string ⟨#[115, 116, 97, 114, 116]⟩, .string ⟨#[108, 101, 97, 115, 101]⟩, .string ⟨#[100, 111, 110, 101]⟩, .string ⟨#[102, 97, 105, 108]⟩, .string ⟨#[116, 105, 99, 107]⟩, .string ⟨#[115, 105, 103, 110, 97, 108]⟩, .string ⟨#[99, 97, 110, 99, 101, 108]⟩, .string ⟨#[101, 112, 111, 99, 104]⟩] 9)).cell? ⟨w.heap.size, 0, none⟩ = some (.int .i64 kd) := (((Below.refl _ w1).alloc (Nat.le_refl _) _).cell (p := ⟨w.heap.size, 0, none⟩) (lt_of_block X1.out.x)).trans c
    clear X0 b1
    go_wp2_with fail
    (with_reducible refine (FL.out _).mono ?_); rintro e w3 ⟨rfl, b3⟩
    have X3 := Lib.hid ((X1.out.more ((Below.refl _ w1).alloc (Nat.le_refl _) _)).more b3)
    clear X1 b3 c wc cg
    go_wp2_with fail
    go_loopw [4, 7] (fun tv iv wr => ∃ (j : Nat) (x : ByteArray), j ≤ s.size ∧ iv = .int .i64 j ∧ tv = .string x ∧ Hid (x = Nu.txt (up j)) ∧ Hid (Bx w 33 ⟨kd, ru, ta, tr, n, na, ke, da⟩ wr)) (fun _ iv _ => s.size - (intOf iv).toNat)
    case atStart => exact ⟨0, _, Nat.zero_le _, rfl, rfl, Lib.hid (by rw [U0.out]), X3⟩
    case round =>
      obtain ⟨j, x, hj, rfl, rfl, HX, HB⟩ := hrel
      have XL : x.size ≤ 4000 := by rw [HX.out, Nu.txt_size]; exact UL.out j
      have SL : s.size ≤ 4 := by rw [CS.out]; exact C4.out
      by_cases hlt : j < s.size
      · have hlt' : (j : Int) < (s.size : Int) := by omega
        have hc := CG.out j hlt
        have NX := UN.out j _ hc
        have hm := CC.out _ (List.mem_of_getElem? hc)
        have FS := FT.out (s[j])
        obtain ⟨k0', k1', k2', k3', k4', k5', k6', k7'⟩ := HB.out.c
        unfold Ev.Code at hm
        rcases hm with hm | hm | hm | hm | hm | hm | hm
        · have hm' : ((s[j]).toNat : Int) = 114 := by rw [hm]; rfl
          rw [hm] at NX FS
          rw [F114.out] at NX FS
          have NY : Hid ((x ++ (⟨#[32]⟩ : ByteArray)) ++ Nu.txt (Lib.decDigits ru.toNat) = Nu.txt (up (j + 1))) := Lib.hid (by rw [NX, HX.out, show (⟨#[32]⟩ : ByteArray) = Nu.txt [32] from rfl, Nu.txt_app, Nu.txt_app, List.append_assoc]; rfl)
          have NS : (Nu.txt (Lib.decDigits ru.toNat)).size ≤ 900 := by rw [Nu.txt_size]; exact FS
          have NC := Lib.hid (num10_any ru r0 (by omega))
          generalize Nu.txt (Lib.decDigits ru.toNat) = y at *
          clear NX FS hc hm
          go_wp2_with fail
          (with_reducible refine (NC.out _).mono ?_); rintro e w4 ⟨rfl, b4⟩
          have X4 := Lib.hid (HB.out.more b4)
          clear b4
          go_wp2
          go_roundw
          case rel => exact ⟨j + 1, _, by omega, by go_num, rfl, NY, X4⟩
          case measure => simp [intOf]; omega
        · have hm' : ((s[j]).toNat : Int) = 116 := by rw [hm]; rfl
          rw [hm] at NX FS
          rw [F116.out] at NX FS
          have NY : Hid ((x ++ (⟨#[32]⟩ : ByteArray)) ++ Nu.txt (Lib.decDigits ta.toNat) = Nu.txt (up (j + 1))) := Lib.hid (by rw [NX, HX.out, show (⟨#[32]⟩ : ByteArray) = Nu.txt [32] from rfl, Nu.txt_app, Nu.txt_app, List.append_assoc]; rfl)
          have NS : (Nu.txt (Lib.decDigits ta.toNat)).size ≤ 900 := by rw [Nu.txt_size]; exact FS
          have NC := Lib.hid (num10_any ta t0 (by omega))
          generalize Nu.txt (Lib.decDigits ta.toNat) = y at *
          clear NX FS hc hm
          go_wp2_with fail
          (with_reducible refine (NC.out _).mono ?_); rintro e w4 ⟨rfl, b4⟩
          have X4 := Lib.hid (HB.out.more b4)
          clear b4
          go_wp2
          go_roundw
          case rel => exact ⟨j + 1, _, by omega, by go_num, rfl, NY, X4⟩
          case measure => simp [intOf]; omega
        · have hm' : ((s[j]).toNat : Int) = 121 := by rw [hm]; rfl
          rw [hm] at NX FS
          rw [F121.out] at NX FS
          have NY : Hid ((x ++ (⟨#[32]⟩ : ByteArray)) ++ Nu.txt (Lib.decDigits tr.toNat) = Nu.txt (up (j + 1))) := Lib.hid (by rw [NX, HX.out, show (⟨#[32]⟩ : ByteArray) = Nu.txt [32] from rfl, Nu.txt_app, Nu.txt_app, List.append_assoc]; rfl)
          have NS : (Nu.txt (Lib.decDigits tr.toNat)).size ≤ 900 := by rw [Nu.txt_size]; exact FS
          have NC := Lib.hid (num10_any tr y0 (by omega))
          generalize Nu.txt (Lib.decDigits tr.toNat) = y at *
          clear NX FS hc hm
          go_wp2_with fail
          (with_reducible refine (NC.out _).mono ?_); rintro e w4 ⟨rfl, b4⟩
          have X4 := Lib.hid (HB.out.more b4)
          clear b4
          go_wp2
          go_roundw
          case rel => exact ⟨j + 1, _, by omega, by go_num, rfl, NY, X4⟩
          case measure => simp [intOf]; omega
        · have hm' : ((s[j]).toNat : Int) = 110 := by rw [hm]; rfl
          rw [hm] at NX FS
          rw [F110.out] at NX FS
          have NY : Hid ((x ++ (⟨#[32]⟩ : ByteArray)) ++ Nu.txt (Lib.decDigits n.toNat) = Nu.txt (up (j + 1))) := Lib.hid (by rw [NX, HX.out, show (⟨#[32]⟩ : ByteArray) = Nu.txt [32] from rfl, Nu.txt_app, Nu.txt_app, List.append_assoc]; rfl)
          have NS : (Nu.txt (Lib.decDigits n.toNat)).size ≤ 900 := by rw [Nu.txt_size]; exact FS
          have NC := Lib.hid (num1_any n n0 (by omega))
          generalize Nu.txt (Lib.decDigits n.toNat) = y at *
          clear NX FS hc hm
          go_wp2_with fail
          (with_reducible refine (NC.out _).mono ?_); rintro e w4 ⟨rfl, b4⟩
          have X4 := Lib.hid (HB.out.more b4)
          clear b4
          go_wp2
          go_roundw
          case rel => exact ⟨j + 1, _, by omega, by go_num, rfl, NY, X4⟩
          case measure => simp [intOf]; omega
        · have hm' : ((s[j]).toNat : Int) = 97 := by rw [hm]; rfl
          rw [hm] at NX FS
          rw [F97.out] at NX FS
          have NY : Hid ((x ++ (⟨#[32]⟩ : ByteArray)) ++ na = Nu.txt (up (j + 1))) := Lib.hid (by rw [NX, HX.out, show (⟨#[32]⟩ : ByteArray) = Nu.txt [32] from rfl, Nu.txt_app, ← Nu.txt_back na, Nu.txt_app, List.append_assoc, Nu.txt_back]; rfl)
          clear NX FS hc hm
          have X4 := HB
          go_wp2
          go_roundw
          case rel => exact ⟨j + 1, _, by omega, by go_num, rfl, NY, X4⟩
          case measure => simp [intOf]; omega
        · have hm' : ((s[j]).toNat : Int) = 107 := by rw [hm]; rfl
          rw [hm] at NX FS
          rw [F107.out] at NX FS
          have NY : Hid ((x ++ (⟨#[32]⟩ : ByteArray)) ++ ke = Nu.txt (up (j + 1))) := Lib.hid (by rw [NX, HX.out, show (⟨#[32]⟩ : ByteArray) = Nu.txt [32] from rfl, Nu.txt_app, ← Nu.txt_back ke, Nu.txt_app, List.append_assoc, Nu.txt_back]; rfl)
          clear NX FS hc hm
          have X4 := HB
          go_wp2
          go_roundw
          case rel => exact ⟨j + 1, _, by omega, by go_num, rfl, NY, X4⟩
          case measure => simp [intOf]; omega
        · have hm' : ((s[j]).toNat : Int) = 100 := by rw [hm]; rfl
          rw [hm] at NX FS
          rw [F100.out] at NX FS
          have NY : Hid ((x ++ (⟨#[32]⟩ : ByteArray)) ++ da = Nu.txt (up (j + 1))) := Lib.hid (by rw [NX, HX.out, show (⟨#[32]⟩ : ByteArray) = Nu.txt [32] from rfl, Nu.txt_app, ← Nu.txt_back da, Nu.txt_app, List.append_assoc, Nu.txt_back]; rfl)
          clear NX FS hc hm
          have X4 := HB
          go_wp2
          go_roundw
          case rel => exact ⟨j + 1, _, by omega, by go_num, rfl, NY, X4⟩
          case measure => simp [intOf]; omega
      · obtain rfl : j = s.size := by omega
        have E : Hid (x = Nu.txt pu) := Lib.hid (by rw [HX.out, UA.out _ (by rw [CS.out]; exact Nat.le_refl _), ← PE.out])
        go_wp2
        go_ret
        exact TxtP.mk_ E.out HB.out.b
end Go.Proofs.YtighnooklcmjaaaDoor
