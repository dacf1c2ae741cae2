/-
  The law SegKnown.
-/
import Derived.Test.YtlaomaefhanacaaDoorSegPick
import Derived.Test.YtlaomaefhanacaaDoorSegScan
import Derived.Test.YtlaomaefhanacaaDoorSegAwake
namespace Go.Proofs.YtlaomaefhanacaaDoor
open Go.RowKit Go.Lib
/-! ### Records' bytes, one behind the other -/
def encS : List Fr.Rc → List Int
  | [] => []
  | r :: t => Fr.putV r.1 r.2 ++ encS t
theorem encS_snoc (l : List Fr.Rc) (r : Fr.Rc) : encS (l ++ [r]) = encS l ++ Fr.putV r.1 r.2 := by
  induction l with
  | nil => simp [encS]
  | cons a t ih => rw [List.cons_append, encS, ih, encS, List.append_assoc]
def okR (r : Fr.Rc) : Prop := 0 ≤ r.1 ∧ r.1 < 18446744073709551616 ∧ r.2.length ≤ 1024
theorem encS_len (l : List Fr.Rc) (h : ∀ r ∈ l, okR r) : (encS l).length ≤ 1040 * l.length := by
  induction l with
  | nil => simp [encS]
  | cons a t ih =>
    rw [encS, List.length_append, Fr.putV_len, List.length_cons]
    have := ih fun r hr => h r (List.mem_cons_of_mem _ hr)
    have := (h a (List.mem_cons_self ..)).2.2
    omega
theorem OwnR.at2 {w : World} {base : Nat} {A : Option Addr} {cap : Nat} {l : List Fr.Rc} (h : OwnR w base A cap l) {i : Nat} (hi : i < l.length) :
    ∃ g A2 cap2 at_ p, A = some ⟨g, 0, none⟩ ∧ Hid (g < w.heap.size) ∧ w.cell? ⟨g, i * 2, none⟩ = some (.int .u64 at_) ∧ w.cell? ⟨g, i * 2 + 1, none⟩ = some (.slice A2 p.length cap2) ∧ Hid (Bytes w w.heap.size A2 p) ∧ Hid (l.getD i (0, []) = (at_, p)) := by
  obtain ⟨vs, hl, ho, hv⟩ := h
  obtain ⟨g, rfl, _, hg⟩ := ho.shape (by omega)
  obtain ⟨h1, A2, cap2, h2, h3⟩ := hv i hi
  obtain ⟨c0, c1⟩ := ho.cell (undef, undef) (i := i) (by omega)
  rw [h1] at c0
  rw [h2] at c1
  exact ⟨g, A2, cap2, _, _, rfl, Lib.hid hg, c0, c1, Lib.hid h3.bytes, Lib.hid rfl⟩
def BytePost (w : World) (l : List Fr.Rc) (e : Ending) (w' : World) : Prop :=
  ∃ zs A cap, Hid (zs = encS l) ∧ e = .returned (.slice A zs.length cap) ∧ Hid (OwnB w' w.heap.size A cap zs) ∧ Hid (Below w.heap.size w w')
set_option maxHeartbeats 2000000 in
theorem bytes_any (A : Option Addr) (l : List Fr.Rc) (cap base : Nat) (hl : l.length ≤ 100) (hr : ∀ r ∈ l, okR r) (w : World) (h : OwnR w base A cap l) :
    Calls Tryd.prog 13 #[.slice A l.length cap] w (BytePost w l) := by
  have H := Lib.hid h
  have HR := Lib.hid hr
  have hl' : (l.length : Int) ≤ 100 := by omega
  clear h hr
  go_enter Tryd.func13, Tryd.ntmps13
  go_wp2
  go_loopw [3, 4] (fun bv iv wr => ∃ (k : Nat) (zs : List Int) (A' : Option Addr) (cap' : Nat), k ≤ l.length ∧ Hid (zs = encS (l.take k)) ∧ iv = .int .i64 k ∧ bv = .slice A' zs.length cap' ∧ Hid (OwnB wr w.heap.size A' cap' zs) ∧ Hid (Below w.heap.size w wr)) (fun _ iv _ => l.length - (intOf iv).toNat)
  case atStart => exact ⟨0, [], none, 0, Nat.zero_le _, Lib.hid (by simp [encS]), rfl, rfl, Lib.hid (OwnB.none_ _ _), Lib.hid (Below.refl _ _)⟩
  case round =>
    obtain ⟨k, zs, A', cap', hk, hz, rfl, rfl, HO, HW⟩ := hrel
    have hzl : Hid (zs.length ≤ 104000) := Lib.hid (by
      rw [hz.out]
      have := encS_len (l.take k) fun r hr => HR.out r (List.mem_of_mem_take hr)
      rw [List.length_take] at this
      omega)
    by_cases hlt : k < l.length
    · have hlt' : (k : Int) < (l.length : Int) := by omega
      obtain ⟨g, A2, c2, at_, p, rfl, hg, x0, x1, hb, he⟩ := (H.out.grew HW.out (Nat.le_refl _)).at2 hlt
      have hm : l[k] = (at_, p) := by
        have := he.out
        rw [List.getD_eq_getElem?_getD, List.getElem?_eq_getElem hlt] at this
        exact this
      have hok := HR.out l[k] (List.getElem_mem hlt)
      rw [hm] at hok
      obtain ⟨a0, a1, hp⟩ := hok
      have HN : Hid (zs ++ Fr.putV at_ p = encS (l.take (k + 1))) := Lib.hid (by
        rw [List.take_succ_eq_append_getElem hlt, encS_snoc, hm, hz.out])
      have PT := Lib.hid (put_any A' A2 zs p cap' c2 at_ a0 a1 (Nat.le_trans hzl.out (by decide)) hp wr (HO.out.bytes) hb.out)
      clear hm a0 a1 hp hz
      go_wp2_with fail
      refine PT.out.mono ?_; rintro e w2 ⟨ys, A3, c3, hy, rfl, o2, g2⟩
      have O2 := Lib.hid (o2.low HW.out.size)
      have G2 := Lib.hid (HW.out.trans (g2.below.mono HW.out.size))
      clear o2 g2 PT
      go_wp2
      go_roundw
      case rel => exact ⟨k + 1, ys, A3, c3, by omega, Lib.hid (by rw [hy.out]; exact HN.out), by go_num, rfl, O2, G2⟩
      case measure => simp [intOf]; omega
    · have hz2 : Hid (zs = encS l) := Lib.hid (by rw [hz.out, List.take_of_length_le (by omega)])
      have hlt' : (l.length : Int) ≤ (k : Int) := by omega
      clear hz hlt
      go_wp2
      go_ret
      exact ⟨zs, A', cap', hz2, rfl, HO, HW⟩

/-! ### The examples' values -/
def four : List Fr.Rc := [(35184372088837, []), (35184372088838, []), (52776558133255, []), (17592186044424, [])]
theorem four_ok : ∀ r ∈ four, okR r := by
  intro r hr
  simp only [four, List.mem_cons, List.not_mem_nil, or_false] at hr
  rcases hr with rfl | rfl | rfl | rfl <;> exact ⟨by decide, by decide, by decide⟩
theorem four_bytes : encS four = Fr.putV 35184372088837 [] ++ (Fr.putV 35184372088838 [] ++ (Fr.putV 52776558133255 [] ++ (Fr.putV 17592186044424 [] ++ []))) := rfl
theorem four_len : (encS four).length = 64 := by
  rw [four_bytes]; simp only [List.length_append, Fr.putV_len]; rfl
theorem scan52 : (Sg.scV (encS four) 5 2).1.length = 3 ∧ (Sg.scV (encS four) 5 2).2 = 48 := by
  rw [four_bytes, Sg.scV_put _ _ _ _ _ (by decide) (by decide) (by decide), if_pos (by decide), Sg.scV_put _ _ _ _ _ (by decide) (by decide) (by decide), if_pos (by decide), Sg.scV_put _ _ _ _ _ (by decide) (by decide) (by decide), if_pos (by decide), Sg.scV_put _ _ _ _ _ (by decide) (by decide) (by decide), if_neg (by decide)]
  exact ⟨rfl, rfl⟩
theorem scan62 : (Sg.scV (encS four) 6 2).1.length = 0 ∧ (Sg.scV (encS four) 6 2).2 = 0 := by
  rw [four_bytes, Sg.scV_put _ _ _ _ _ (by decide) (by decide) (by decide), if_neg (by decide)]
  exact ⟨rfl, rfl⟩
theorem scan53 : (Sg.scV (encS four) 5 3).1.length = 0 ∧ (Sg.scV (encS four) 5 3).2 = 0 := by
  rw [four_bytes, Sg.scV_put _ _ _ _ _ (by decide) (by decide) (by decide), if_neg (by decide)]
  exact ⟨rfl, rfl⟩
def bad8 : List ByteArray := [⟨#[]⟩, ⟨#[119, 45]⟩, ⟨#[119, 45, 48, 48, 48, 48, 48, 48, 48, 48, 48, 48, 49]⟩, ⟨#[119, 45, 48, 48, 48, 48, 48, 48, 48, 48, 48, 48, 48, 49, 50]⟩, ⟨#[119, 45, 48, 48, 48, 48, 48, 48, 48, 48, 48, 48, 48, 65]⟩, ⟨#[120, 45, 48, 48, 48, 48, 48, 48, 48, 48, 48, 48, 49, 50]⟩, ⟨#[119, 45, 49, 48, 48, 48, 48, 48, 48, 48, 48, 48, 48, 48]⟩, ⟨#[119, 95, 48, 48, 48, 48, 48, 48, 48, 48, 48, 48, 49, 50]⟩]
theorem bad8_none : bad8.all (fun s => (Sg.segP s).isNone) = true := by decide +kernel
theorem nmTop : Sg.nameB 17592186044415 = ⟨#[119, 45, 48, 102, 102, 102, 102, 102, 102, 102, 102, 102, 102, 102]⟩ := by decide +kernel
def four2 : List ByteArray := [⟨#[119, 45, 48, 48, 48, 48, 48, 48, 48, 48, 48, 48, 49, 50]⟩, ⟨#[115, 110, 97, 112]⟩, ⟨#[119, 45, 48, 48, 48, 48, 48, 48, 48, 48, 48, 48, 48, 51]⟩, ⟨#[119, 45, 48, 48, 48, 48, 48, 48, 48, 48, 48, 48, 49, 50]⟩]
theorem four2_map : four2.filterMap Sg.segP = [18, 3, 18] := by decide +kernel
theorem sorted3 : sorted [18, 3, 18] = [3, 18, 18] := by
  simp [sorted, List.mergeSort, List.MergeSort.Internal.splitInTwo, List.splitAt, List.splitAt.go]
theorem pick2 : pickV four2 = [3, 18] := by unfold pickV; rw [four2_map, sorted3]; decide +kernel
theorem strs_new (w : World) (ss : List ByteArray) (hs : ∀ i, i < ss.length → (ss.getD i ByteArray.empty).size ≤ 9223372036854775807) (fr : Nat × Nat) (t : TypeId) (cs : Array Value) (hc : cs = (ss.map Value.string).toArray) :
    Strs (w.alloc (.cells cs t fr)) (w.heap.size + 1) (some ⟨w.heap.size, 0, none⟩) ss := by
  subst hc
  refine ⟨hs, fun _ => ⟨w.heap.size, 0, rfl, by omega, fun i hi => ?_⟩⟩
  rw [Nat.zero_add, World.cell?_alloc_mark]
  simp [hi]
theorem bad8_size : ∀ i, i < bad8.length → (bad8.getD i ByteArray.empty).size ≤ 100 := by
  have : ∀ i : Fin 8, (bad8.getD i.1 ByteArray.empty).size ≤ 100 := by decide
  intro i hi
  exact this ⟨i, hi⟩
theorem bad8_at (i : Nat) (hi : i < 8) (s : ByteArray) (h : bad8.getD i ByteArray.empty = s) : Sg.segP s = none ∧ s.size ≤ 100 := by
  refine ⟨?_, by rw [← h]; exact bad8_size i hi⟩
  have hm : s ∈ bad8 := by
    rw [← h, List.getD_eq_getElem?_getD, List.getElem?_eq_getElem hi]; exact List.getElem_mem hi
  have := List.all_eq_true.1 bad8_none s hm
  simpa using this
theorem four2_size : ∀ i, i < four2.length → (four2.getD i ByteArray.empty).size ≤ 100 := by
  have : ∀ i : Fin 4, (four2.getD i.1 ByteArray.empty).size ≤ 100 := by decide
  intro i hi
  exact this ⟨i, hi⟩
theorem nm_top (w : World) (hF : Facts w) : Calls Tryd.prog 11 #[.int .i64 17592186044415] w (NamePost w ⟨#[119, 45, 48, 102, 102, 102, 102, 102, 102, 102, 102, 102, 102, 102]⟩ true) := by
  have := name_on 17592186044415 (by decide) (by decide) w hF
  rw [nmTop] at this
  exact this
theorem four_cells (w : World) (k : Nat) (hk : k < 4) : ∃ a, (w.alloc (.cells #[.int .u64 35184372088837, .int .u64 35184372088838, .int .u64 52776558133255, .int .u64 17592186044424] 28)).cell? ⟨w.heap.size, k, none⟩ = some (.int .u64 a) ∧ four[k]'hk = (a, []) := by
  match k, hk with
  | 0, _ => exact ⟨_, by rw [World.cell?_alloc_new]; rfl, rfl⟩
  | 1, _ => exact ⟨_, by rw [World.cell?_alloc_new]; rfl, rfl⟩
  | 2, _ => exact ⟨_, by rw [World.cell?_alloc_new]; rfl, rfl⟩
  | 3, _ => exact ⟨_, by rw [World.cell?_alloc_new]; rfl, rfl⟩
theorem scan_four (first ep : Int) (n m : Nat) (h : (Sg.scV (encS four) first ep).1.length = n ∧ (Sg.scV (encS four) first ep).2 = m) (A : Option Addr) (zs : List Int) (cap : Nat) (hz : zs = encS four) (w : World) {base : Nat} (ho : OwnB w base A cap zs) :
    Calls Tryd.prog 12 #[.slice A zs.length cap, .int .i64 first, .int .i64 ep] w fun e w' => ∃ A4 c4, e = .returned (.tuple #[.slice A4 n c4, .int .i64 m]) ∧ Hid (Below w.heap.size w w') := by
  refine (scan_any A zs cap first ep (by rw [hz, four_len]; decide) ho.cap_ w ho.bytes).mono ?_
  rintro e w' ⟨l, A4, c4, h1, rfl, _, h2⟩
  rw [hz] at h1
  rw [hz, h.2, ← h.1, h1.out]
  exact ⟨A4, c4, rfl, Lib.hid h2⟩
theorem pick_four (w : World) (hF : Facts w) :
    Calls Tryd.prog 14 #[.slice (some ⟨w.heap.size, 0, none⟩) 4 4] (w.alloc (.cells #[.string ⟨#[119, 45, 48, 48, 48, 48, 48, 48, 48, 48, 48, 48, 49, 50]⟩, .string ⟨#[115, 110, 97, 112]⟩, .string ⟨#[119, 45, 48, 48, 48, 48, 48, 48, 48, 48, 48, 48, 48, 51]⟩, .string ⟨#[119, 45, 48, 48, 48, 48, 48, 48, 48, 48, 48, 48, 49, 50]⟩] 9)) fun e w' =>
      ∃ g c, e = .returned (.slice (some ⟨g, 0, none⟩) 2 c) ∧ w'.cell? ⟨g, 0, none⟩ = some (.int .i64 3) ∧ w'.cell? ⟨g, 1, none⟩ = some (.int .i64 18) ∧ Hid (Below w.heap.size w w') := by
  have S := strs_new w four2 (fun i hi => Nat.le_trans (four2_size i hi) (by decide)) (0, 0) 9 _ rfl
  have hB : Below w.heap.size w (w.alloc (.cells (four2.map Value.string).toArray 9)) := (Below.refl _ _).alloc (Nat.le_refl _) _
  have hsz : (w.alloc (.cells (four2.map Value.string).toArray 9)).heap.size = w.heap.size + 1 := by simp
  have P := pick_any (some ⟨w.heap.size, 0, none⟩) four2 4 (by decide) (w.alloc (.cells (four2.map Value.string).toArray 9)) (by rw [hsz]; exact S) (fun k hk => Nat.le_trans (four2_size k hk) (by decide)) (hF.below hB)
  refine Calls.mono P ?_
  rintro e w' ⟨A, cap, ps, hps, rfl, ho, hb⟩
  rw [pick2] at hps
  have e1 := hps.out
  subst e1
  obtain ⟨g, rfl, _, c0⟩ := ho.out.cell (i := 0) (by decide)
  obtain ⟨g2, e2, _, c1⟩ := ho.out.cell (i := 1) (by decide)
  obtain rfl : g = g2 := by injection e2 with e2; injection e2
  exact ⟨g, cap, rfl, c0, c1, Lib.hid (hB.trans (hb.out.mono (by rw [hsz]; omega)))⟩
set_option maxHeartbeats 4000000 in
set_option maxRecDepth 20000 in
theorem known_walk (w : World) (hF : Facts w) : Calls Tryd.prog 3 #[] w fun e w' => e = .returned (.bool true) ∧ Below w.heap.size w w' := by
  have HF := Lib.hid hF
  clear hF
  go_enter Tryd.func3, Tryd.ntmps3
  go_wp2_with fail
  refine (awake_any _ HF.out).mono ?_; rintro e w1 ⟨rfl, b1⟩
  have S0 := Lib.hid (strs_new w1 bad8 (fun i hi => Nat.le_trans (bad8_size i hi) (by decide)) (0, 0) 9 _ rfl)
  go_wp2
  go_loopw [2] (fun iv wr => ∃ k : Nat, k ≤ 8 ∧ iv = .int .i64 k ∧ Hid (Below (w1.heap.size + 1) (w1.alloc (.cells (bad8.map Value.string).toArray 9)) wr)) (fun iv _ => 8 - (intOf iv).toNat)
  case atStart => exact ⟨0, by decide, rfl, Lib.hid (Below.refl _ _)⟩
  case round =>
    obtain ⟨k, hk, rfl, HW⟩ := hrel
    by_cases hlt : k < 8
    · have hlt' : (k : Int) < 8 := by omega
      obtain ⟨b, off, s, e0, hb, hc, hg, hsz⟩ := (S0.out.below HW.out).at_ (k := k) hlt
      injection e0 with e0
      injection e0 with e1 e2
      subst e1 e2
      rw [Nat.zero_add] at hc
      obtain ⟨h1, h2⟩ := bad8_at k hlt s hg.out
      have hB : Hid (Below w.heap.size w wr) := Lib.hid ((b1.out.alloc b1.out.size _).trans (HW.out.mono (Nat.le_succ_of_le b1.out.size)))
      have PA : Hid (Calls Tryd.prog 10 #[.string s] wr fun e w' => e = .returned (.tuple #[.int .i64 0, .bool false]) ∧ Hid (Below wr.heap.size wr w')) := Lib.hid ((parse_any s (by omega) wr (HF.out.below hB.out)).mono fun e w' ⟨q1, q2⟩ => by rw [h1] at q1; exact ⟨q1, q2⟩)
      clear h1 h2 hsz hg
      go_wp2_with fail
      refine PA.out.mono ?_; rintro e w2 ⟨rfl, c2⟩
      go_wp2
      go_roundw
      case rel => exact ⟨k + 1, by omega, by go_num, Lib.hid (HW.out.trans (c2.out.mono (by have := HW.out.size; simpa using this)))⟩
      case measure => simp [intOf]; omega
    · have hk8 : k = 8 := by omega
      subst hk8
      have B1 : Hid (Below w.heap.size w wr) := Lib.hid ((b1.out.alloc b1.out.size _).trans (HW.out.mono (Nat.le_succ_of_le b1.out.size)))
      have F1 := Lib.hid (HF.out.below B1.out)
      clear S0 HW hlt hk
      go_wp2_with fail
      refine (nm_top _ F1.out).mono ?_; rintro e w2 ⟨rfl, c2⟩
      have F2 := Lib.hid (F1.out.below c2.out)
      have B2 := Lib.hid (B1.out.trans (c2.out.mono B1.out.size))
      go_wp2_with fail
      refine (name_off 17592186044416 (by decide) w2).mono ?_; rintro e w3 ⟨rfl, c3⟩
      have F3 := Lib.hid (F2.out.below c3.out)
      have B3 := Lib.hid (B2.out.trans (c3.out.mono B2.out.size))
      go_wp2_with fail
      refine (name_off (-1) (by decide) w3).mono ?_; rintro e w4 ⟨rfl, c4⟩
      have F4 := Lib.hid (F3.out.below c4.out)
      have B4 := Lib.hid (B3.out.trans (c4.out.mono B3.out.size))
      have U0 := Lib.hid (four_cells w4)
      clear c2 c3 c4 F1 F2 F3 B1 B2 B3
      go_wp2
      go_loopw [12, 13] (fun lv iv wq => ∃ (k : Nat) (l : List Fr.Rc) (A' : Option Addr) (cap' : Nat), k ≤ 4 ∧ Hid (l = four.take k) ∧ iv = .int .i64 k ∧ lv = .slice A' l.length cap' ∧ Hid (OwnR wq (w4.heap.size + 1) A' cap' l) ∧ Hid (Below (w4.heap.size + 1) (w4.alloc (.cells #[.int .u64 35184372088837, .int .u64 35184372088838, .int .u64 52776558133255, .int .u64 17592186044424] 28)) wq)) (fun _ iv _ => 4 - (intOf iv).toNat)
      case atStart => exact ⟨0, [], none, 0, by decide, Lib.hid rfl, rfl, rfl, Lib.hid (OwnR.none_ _ _), Lib.hid (Below.refl _ _)⟩
      case round =>
        obtain ⟨k, l, A', cap', hk, hl, rfl, rfl, HO, HQ⟩ := hrel
        have hll : Hid (l.length ≤ 4) := Lib.hid (by rw [hl.out, List.length_take]; have : four.length = 4 := rfl; omega)
        by_cases hlt : k < 4
        · have hlt' : (k : Int) < 4 := by omega
          obtain ⟨a, hc0, ha⟩ := U0.out k hlt
          have hc : wr.cell? ⟨w4.heap.size, k, none⟩ = some (.int .u64 a) := (HQ.out.cell (p := ⟨w4.heap.size, k, none⟩) (Nat.lt_succ_self _)).trans hc0
          have HN : Hid (l ++ [(a, [])] = four.take (k + 1)) := Lib.hid (by rw [hl.out, ← ha]; exact (List.take_succ_eq_append_getElem (by exact hlt)).symm)
          have hs1 : w4.heap.size + 1 ≤ wr.heap.size := by have := HQ.out.size; simpa using this
          obtain ⟨vs, hvl, hop, hrv⟩ := HO.out
          have VL := Lib.hid hvl
          have OP := Lib.hid hop
          have RV := Lib.hid hrv
          have B2 : Hid (Below wr.heap.size wr (wr.alloc (.cells #[.int .u64 a, .slice none 0 0] 34))) := Lib.hid ((Below.refl _ _).alloc (Nat.le_refl _) _)
          have X1 := obj2 (heap_alloc_new wr (.cells #[.int .u64 a, .slice none 0 0] 34))
          clear hvl hop hrv hc0 ha hl
          go_wp2_with (at_builtin; refine wp_app2 rfl (.tmp 62) (.tmp 68) rfl Tryd.underlying30 rec_info rfl (by decide) rfl VL.out.symm (OP.out.grew B2.out (Nat.le_refl _)) (Nat.le_trans hs1 B2.out.size) rfl X1.1 X1.2 rfl rfl (by rw [VL.out]; have := hll.out; omega) ?_; intro A3 c3 w5 o3 d3; have O3 := Lib.hid o3; have D3 := Lib.hid d3; clear o3 d3)
          go_roundw
          case rel =>
            have OP2 := OP.out.grew B2.out (Nat.le_refl _)
            have hb2 := Nat.le_trans hs1 B2.out.size
            have BB := grown_below OP2 hb2 D3.out
            have kept : ∀ {b2 : Nat} {Aq : Option Addr} {cq : Nat} {zq : List Int}, OwnB wr b2 Aq cq zq → OwnB w5 b2 Aq cq zq := fun h => OwnB.grown (h.grew B2.out (Nat.le_refl _)) OP2 (by decide) D3.out
            refine ⟨k + 1, _, A3, c3, by omega, HN, by go_num, by simp [VL.out], Lib.hid (OwnR.snoc (p := []) VL.out (fun i hi => ?_) (OwnB.none_ _ _) O3.out), Lib.hid ((HQ.out.trans (B2.out.mono hs1)).trans BB)⟩
            obtain ⟨r1, Aq, cq, r2, r3⟩ := RV.out i hi
            exact ⟨r1, Aq, cq, r2, kept r3⟩
          case measure => simp [intOf]; omega
        · have hl4 : Hid (l = four) := Lib.hid (by rw [hl.out, List.take_of_length_le (by show 4 ≤ k; omega)])
          have hlen : l.length = 4 := by rw [hl4.out]; rfl
          have hlt' : (4 : Int) ≤ (k : Int) := by omega
          have BY : Hid (∀ W, Below wr.heap.size wr W → Calls Tryd.prog 13 #[.slice A' l.length cap'] W (BytePost W four)) := Lib.hid (fun W hW => by
            have := bytes_any A' l cap' (w4.heap.size + 1) (by omega) (by rw [hl4.out]; exact four_ok) W (HO.out.grew hW (Nat.le_refl _))
            rw [hl4.out] at this ⊢
            exact this)
          have B5 : Hid (Below w.heap.size w wr) := Lib.hid ((B4.out.alloc B4.out.size _).trans (HQ.out.mono (Nat.le_succ_of_le B4.out.size)))
          clear hl hlt hlen hl4 hll HO HQ U0
          go_wp2_with fail
          refine (BY.out _ (Below.refl _ _)).mono ?_; rintro e v1 ⟨z1, A1, c1, h1, rfl, o1, d1⟩
          go_wp2_with fail
          refine (scan_four 5 2 3 48 scan52 A1 z1 c1 h1.out v1 o1.out).mono ?_; rintro e v2 ⟨A2, c2, rfl, d2⟩
          have D2 := Lib.hid (below_on d1.out d2.out)
          clear o1 d2
          go_wp2_with fail
          refine (BY.out _ D2.out).mono ?_; rintro e v3 ⟨z3, A3, c3, h3, rfl, o3, d3⟩
          have D3 := Lib.hid (below_on D2.out d3.out)
          go_wp2_with fail
          refine (scan_four 6 2 0 0 scan62 A3 z3 c3 h3.out v3 o3.out).mono ?_; rintro e v4 ⟨A4, c4, rfl, d4⟩
          have D4 := Lib.hid (below_on D3.out d4.out)
          clear o3 d4 d3
          go_wp2_with fail
          refine (BY.out _ D4.out).mono ?_; rintro e v5 ⟨z5, A5, c5, h5, rfl, o5, d5⟩
          have D5 := Lib.hid (below_on D4.out d5.out)
          go_wp2_with fail
          refine (scan_four 5 3 0 0 scan53 A5 z5 c5 h5.out v5 o5.out).mono ?_; rintro e v6 ⟨A6, c6, rfl, d6⟩
          have D6 := Lib.hid (below_on D5.out d6.out)
          have B6 := Lib.hid (below_on B5.out D6.out)
          clear o5 d6 d5 d1 D2 D3 D4 D5 D6 BY
          have PK := Lib.hid (pick_four v6 (HF.out.below B6.out))
          go_wp2_with fail
          refine PK.out.mono ?_; rintro e v7 ⟨g, c7, rfl, y0, y1, d7⟩
          have B7 := Lib.hid (below_on B6.out d7.out)
          go_wp2
          go_ret
          exact ⟨rfl, B7.out⟩
end Go.Proofs.YtlaomaefhanacaaDoor
