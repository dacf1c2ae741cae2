/-
  The law SegPicks.
-/
import Derived.Test.YtlaomaefhanacaaDoorSegPick
import Derived.Test.YtlaomaefhanacaaDoorSegAwake
import Derived.Test.YtlaomaefhanacaaDoorStrRows
namespace Go.Proofs.YtlaomaefhanacaaDoor
open Go.RowKit Go.Lib
/-! ### What is told of the offsets picked -/
theorem comp_tells (d : Array Int) (hs : ∀ i j, i ≤ j → j < d.size → d[i]! ≤ d[j]!) : ∀ m, m ≤ d.size →
    (compactUpTo d m).Pairwise (· < ·) ∧ (∀ x ∈ compactUpTo d m, ∃ j, j < m ∧ x = d[j]!) ∧ ∀ j, j < m → d[j]! ∈ compactUpTo d m := by
  intro m
  induction m with
  | zero => intro _; simp [compactUpTo]
  | succ m ih =>
    intro hm
    obtain ⟨i1, i2, i3⟩ := ih (by omega)
    rw [compactUpTo_succ]
    by_cases hk : keeps d m = true
    · rw [if_pos hk]
      have hx : m = 0 ∨ d[m]! ≠ d[m - 1]! := by simpa [keeps] using hk
      refine ⟨?_, ?_, ?_⟩
      · rw [List.pairwise_append]
        refine ⟨i1, by simp, fun x hx2 y hy => ?_⟩
        rw [List.mem_singleton] at hy
        subst hy
        obtain ⟨j, hj, rfl⟩ := i2 x hx2
        have h1 := hs j (m - 1) (by omega) (by omega)
        have h2 := hs (m - 1) m (by omega) (by omega)
        rcases hx with h | h <;> omega
      · intro x hx2
        rcases List.mem_append.1 hx2 with h | h
        · obtain ⟨j, hj, e⟩ := i2 x h; exact ⟨j, by omega, e⟩
        · rw [List.mem_singleton] at h; exact ⟨m, by omega, h⟩
      · intro j hj
        rw [List.mem_append]
        by_cases hjm : j = m
        · subst hjm; exact .inr (List.mem_singleton_self _)
        · exact .inl (i3 j (by omega))
    · rw [if_neg hk, List.append_nil]
      have hx : m ≠ 0 ∧ d[m]! = d[m - 1]! := by simpa [keeps] using hk
      refine ⟨i1, ?_, ?_⟩
      · intro x hx2; obtain ⟨j, hj, e⟩ := i2 x hx2; exact ⟨j, by omega, e⟩
      · intro j hj
        by_cases hjm : j = m
        · subst hjm; rw [hx.2]; exact i3 (j - 1) (by omega)
        · exact i3 j (by omega)
theorem pick_tells (ss : List ByteArray) : (pickV ss).Pairwise (· < ·) ∧ ∀ x, x ∈ pickV ss ↔ (Sg.inO x = true ∧ Sg.nameB x ∈ ss) := by
  have hmem : ∀ x, x ∈ sorted (ss.filterMap Sg.segP) ↔ (Sg.inO x = true ∧ Sg.nameB x ∈ ss) := fun x => by
    unfold sorted
    rw [List.mem_mergeSort, List.mem_filterMap]
    constructor
    · rintro ⟨s, hs, he⟩
      obtain ⟨h1, h2⟩ := Sg.segP_some he
      rw [h2]; exact ⟨h1, hs⟩
    · rintro ⟨h1, h2⟩
      exact ⟨_, h2, Sg.segP_name x h1⟩
  have hp : (sorted (ss.filterMap Sg.segP)).Pairwise fun a b => a ≤ b := by
    have := List.pairwise_mergeSort (le := fun x y : Int => decide (x ≤ y)) (by intro a b c; simp; omega) (by intro a b; simp; omega) (ss.filterMap Sg.segP)
    exact this.imp (by intro a b h; simpa using h)
  unfold pickV
  generalize sorted (ss.filterMap Sg.segP) = l at *
  have hs : ∀ i j, i ≤ j → j < l.toArray.size → l.toArray[i]! ≤ l.toArray[j]! := fun i j hij hj => by
    have hj' : j < l.length := by simpa using hj
    rcases Nat.eq_or_lt_of_le hij with rfl | h
    · exact Int.le_refl _
    · have := List.pairwise_iff_getElem.1 hp i j (by omega) hj' h
      simpa [getElem!_pos, hj', show i < l.length by omega] using this
  obtain ⟨h1, h2, h3⟩ := comp_tells l.toArray hs l.length (by simp)
  refine ⟨h1, fun x => ?_⟩
  rw [← hmem x]
  constructor
  · intro hx
    obtain ⟨j, hj, rfl⟩ := h2 x hx
    have : l.toArray[j]! = l[j] := by simp [getElem!_pos, hj]
    rw [this]; exact List.getElem_mem hj
  · intro hx
    obtain ⟨j, hj, rfl⟩ := List.getElem_of_mem hx
    have := h3 j hj
    have e : l.toArray[j]! = l[j] := by simp [getElem!_pos, hj]
    rw [e] at this; exact this
theorem pickV_len (ss : List ByteArray) : (pickV ss).length ≤ ss.length := by
  unfold pickV compactUpTo
  rw [List.length_map]
  refine Nat.le_trans (List.length_filter_le _ _) ?_
  rw [List.length_range, sorted_len]
  exact List.length_filterMap_le _ _
/-- Is the text among the first k? -/
theorem among_next {xs : List ByteArray} {k : Nat} {b : Bool} {nm s : ByteArray} (h : b = true ↔ nm ∈ xs.take k) (hk : k < xs.length) (hg : xs.getD k ByteArray.empty = s) : (b || (s.toList == nm.toList)) = true ↔ nm ∈ xs.take (k + 1) := by
  have hs : xs[k] = s := by
    rw [List.getD_eq_getElem?_getD, List.getElem?_eq_getElem hk] at hg; exact hg
  rw [List.take_succ_eq_append_getElem hk, List.mem_append, Bool.or_eq_true, h, hs, List.mem_singleton]
  constructor
  · rintro (h | h)
    · exact .inl h
    · exact .inr (toList_inj (beq_iff_eq.1 h)).symm
  · rintro (h | h)
    · exact .inl h
    · exact .inr (by rw [h]; simp)
/-- The name of a number, if it has one. -/
def nmO (n : Int) : Option ByteArray := if Sg.inO n then some (Sg.nameB n) else none
theorem nmO_mem (ns : List Int) (n : Int) (h : n ∈ ns) (ho : Sg.inO n = true) : Sg.nameB n ∈ ns.filterMap nmO := by
  rw [List.mem_filterMap]
  exact ⟨n, h, by unfold nmO; rw [if_pos ho]⟩
theorem nmO_len (ns : List Int) (k : Nat) : ((ns.take k).filterMap nmO).length ≤ k := by
  have := List.length_filterMap_le nmO (ns.take k)
  rw [List.length_take] at this
  omega
theorem nmO_size (ns : List Int) : ∀ s ∈ ns.filterMap nmO, s.size ≤ 100 := by
  intro s hs
  obtain ⟨n, _, he⟩ := List.mem_filterMap.1 hs
  unfold nmO at he
  split at he
  · injection he with he; rw [← he, Sg.nameB_size]; decide
  · cases he
theorem num_next {ps : List Int} {k : Nat} {b : Bool} {z : Int} (h : b = true ↔ z ∈ ps.take k) (hk : k < ps.length) : (b || (ps.getD k 0 == z)) = true ↔ z ∈ ps.take (k + 1) := by
  have hs : ps.getD k 0 = ps[k] := by rw [List.getD_eq_getElem?_getD, List.getElem?_eq_getElem hk]; rfl
  rw [List.take_succ_eq_append_getElem hk, List.mem_append, Bool.or_eq_true, h, hs, List.mem_singleton, beq_iff_eq, eq_comm (a := z)]
theorem picks_off (A1 A2 : Option Addr) (n m cap1 cap2 : Nat) (h : 20 < n ∨ (n ≤ 20 ∧ 20 < m)) (w : World) (HF : Hid (Facts w)) :
    Calls Tryd.prog 7 #[.slice A1 n cap1, .slice A2 m cap2] w fun e w' => e = .returned (.bool true) ∧ Below w.heap.size w w' := by
  rcases h with h | ⟨h, h2⟩
  · have h' : (20 : Int) < (n : Int) := by omega
    clear h
    go_enter Tryd.func7, Tryd.ntmps7
    go_wp2_with fail
    refine (awake_any _ HF.out).mono ?_; rintro e w1 ⟨rfl, b1⟩
    go_wp2
    go_ret
    exact ⟨rfl, b1.out⟩
  · have h' : (n : Int) ≤ 20 := by omega
    have h2' : (20 : Int) < (m : Int) := by omega
    clear h h2
    go_enter Tryd.func7, Tryd.ntmps7
    go_wp2_with fail
    refine (awake_any _ HF.out).mono ?_; rintro e w1 ⟨rfl, b1⟩
    go_wp2
    go_ret
    exact ⟨rfl, b1.out⟩
set_option maxHeartbeats 4000000 in
set_option maxRecDepth 20000 in
theorem picks_core (A1 A2 : Option Addr) (ss : List ByteArray) (ns : List Int) (cap1 cap2 : Nat) (hn : ss.length ≤ 20) (hm : ns.length ≤ 20) (w : World) (hS : Strs w w.heap.size A1 ss) (hZ : ∀ s ∈ ss, s.size ≤ 140737488355328) (hN : Nums w w.heap.size A2 ns) (HF : Hid (Facts w)) :
    Calls Tryd.prog 7 #[.slice A1 ss.length cap1, .slice A2 ns.length cap2] w fun e w' => e = .returned (.bool true) ∧ Below w.heap.size w w' := by
  have hn' : (ss.length : Int) ≤ 20 := by omega
  have hm' : (ns.length : Int) ≤ 20 := by omega
  have HS := Lib.hid hS
  have HN := Lib.hid hN
  have HZ := Lib.hid hZ
  clear hS hN hZ
  go_enter Tryd.func7, Tryd.ntmps7
  go_wp2_with fail
  refine (awake_any _ HF.out).mono ?_; rintro e w1 ⟨rfl, b1⟩
  have L1 : Hid (Below w1.heap.size w1 (w1.alloc (.cells #[] 9))) := Lib.hid ((Below.refl _ _).alloc (Nat.le_refl _) _)
  go_wp2_with (at_builtin; refine wp_appTs rfl (.tmp 30) (.tmp 31) rfl rfl rfl (OwnT.start w1 w1.heap.size (Nat.le_refl _)) (by simp) rfl rfl ((HS.out.below b1.out).below (L1.out.mono b1.out.size)) (by simp; omega) ?_; intro A3 cap3 w2 o2 d2; rw [List.nil_append] at o2; have O2 := Lib.hid o2; have D2 := Lib.hid d2; clear o2 d2)
  have D2' : Hid (Below w1.heap.size w1 w2) := Lib.hid (L1.out.trans (grownT_below (OwnT.start w1 w1.heap.size (Nat.le_refl _)) (by simp) D2.out))
  have B2 : Hid (Below w.heap.size w w2) := Lib.hid (b1.out.trans (D2'.out.mono b1.out.size))
  have T2 : Hid (OwnT w2 w.heap.size A3 cap3 ss) := Lib.hid (Joins.ownsRow_le O2.out b1.out.size)
  clear O2 D2 L1 D2'
  go_loopw [5, 6] (fun lv iv wr => ∃ (k : Nat) (xs : List ByteArray) (A' : Option Addr) (cap' : Nat), k ≤ ns.length ∧ Hid (xs = ss ++ (ns.take k).filterMap nmO) ∧ iv = .int .i64 k ∧ lv = .slice A' xs.length cap' ∧ Hid (OwnT wr w.heap.size A' cap' xs) ∧ Hid (Below w.heap.size w wr)) (fun _ iv _ => ns.length - (intOf iv).toNat)
  case atStart => exact ⟨0, ss, A3, cap3, Nat.zero_le _, Lib.hid (by simp), rfl, by simp, T2, B2⟩
  case round =>
    obtain ⟨k, xs, A', cap', hk, hx, rfl, rfl, HO, HW⟩ := hrel
    have hxl : Hid (xs.length ≤ 40) := Lib.hid (by
      rw [hx.out, List.length_append]
      have := nmO_len ns k
      omega)
    by_cases hlt : k < ns.length
    · have hlt' : (k : Int) < (ns.length : Int) := by omega
      obtain ⟨b, off, z, rfl, hb, hc, hg, z0, z1⟩ := (HN.out.below HW.out).at_ hlt
      have hzz : ns[k] = z := by
        have := hg.out
        rw [List.getD_eq_getElem?_getD, List.getElem?_eq_getElem hlt] at this
        exact this
      have hnx : (ns.take (k + 1)).filterMap nmO = (ns.take k).filterMap nmO ++ (nmO z).toList := by
        rw [List.take_succ_eq_append_getElem hlt, List.filterMap_append, hzz]
        congr 1
      have NM := Lib.hid (name_any z wr (HF.out.below HW.out))
      by_cases ho : Sg.inO z = true
      · have HX : Hid (xs ++ [Sg.nameB z] = ss ++ (ns.take (k + 1)).filterMap nmO) := Lib.hid (by
          rw [hnx, hx.out, List.append_assoc]; unfold nmO; rw [if_pos ho]; rfl)
        have N2 := Lib.hid NM.out
        rw [ho, if_pos rfl] at N2
        clear NM ho hnx hzz z0 z1 hx
        go_wp2_with fail
        refine N2.out.mono ?_; rintro e w3 ⟨rfl, b3⟩
        have hs1 := HW.out.size
        have hs2 := b3.out.size
        have B3 : Hid (Below wr.heap.size wr (w3.alloc (.cells #[.string (Sg.nameB z)] 9))) := Lib.hid (b3.out.alloc hs2 _)
        go_wp2_with (at_builtin; refine wp_appT rfl (.tmp 48) (.tmp 50) rfl rfl rfl (HO.out.keep B3.out) (Nat.le_trans hs1 B3.out.size) rfl (cell_lit w3 _ _) (Nat.le_trans hxl.out (by decide)) ?_; intro A4 c4 w4 o4 d4; have O4 := Lib.hid o4; have D4 := Lib.hid d4; clear o4 d4)
        go_roundw
        case rel =>
          have OP2 := HO.out.keep B3.out
          have BB := grownT_below OP2 (Nat.le_trans hs1 B3.out.size) D4.out
          exact ⟨k + 1, _, A4, c4, by omega, HX, by go_num, by simp, O4, Lib.hid ((HW.out.trans (B3.out.mono hs1)).trans BB)⟩
        case measure => simp [intOf]; omega
      · have HX : Hid (xs = ss ++ (ns.take (k + 1)).filterMap nmO) := Lib.hid (by
          rw [hnx, hx.out]; unfold nmO; rw [if_neg ho]; simp)
        have N2 := Lib.hid NM.out
        rw [if_neg ho, show Sg.inO z = false by simpa using ho] at N2
        clear NM ho hnx hzz z0 z1 hx
        go_wp2_with fail
        refine N2.out.mono ?_; rintro e w3 ⟨rfl, b3⟩
        go_wp2
        go_roundw
        case rel => exact ⟨k + 1, xs, A', cap', by omega, HX, by go_num, rfl, Lib.hid (HO.out.keep b3.out), Lib.hid (HW.out.trans (b3.out.mono HW.out.size))⟩
        case measure => simp [intOf]; omega
    · have hxe : Hid (xs = ss ++ ns.filterMap nmO) := Lib.hid (by rw [hx.out, List.take_of_length_le (by omega)])
      have hxs : Hid (∀ s ∈ xs, s.size ≤ 140737488355328) := Lib.hid (fun s hs => by
        rw [hxe.out] at hs
        rcases List.mem_append.1 hs with h | h
        · exact HZ.out s h
        · exact Nat.le_trans (nmO_size ns s h) (by decide))
      have hlt' : (ns.length : Int) ≤ (k : Int) := by omega
      have PK := Lib.hid (pick_any A' xs cap' (Nat.le_trans hxl.out (by decide)) wr (HO.out.strs fun s hs => Nat.le_trans (hxs.out s hs) (by decide)) (fun j hj => Nat.le_trans (hxs.out _ (by rw [List.getD_eq_getElem?_getD, List.getElem?_eq_getElem hj]; exact List.getElem_mem hj)) (by decide)) (HF.out.below HW.out))
      clear hx hlt
      go_wp2_with fail
      refine PK.out.mono ?_; rintro e w3 ⟨A5, c5, ps, hp, rfl, o5, b5⟩
      have O3 := Lib.hid (HO.out.keep b5.out)
      have B3 := Lib.hid (HW.out.trans (b5.out.mono HW.out.size))
      have PT := Lib.hid (pick_tells xs)
      rw [← hp.out] at PT
      have P1 := Lib.hid (List.pairwise_iff_getElem.1 PT.out.1)
      have P2 := Lib.hid PT.out.2
      have O5 := Lib.hid o5.out
      have hpl : (ps.length : Int) ≤ 40 := by
        have := pickV_len xs
        rw [← hp.out] at this
        have := hxl.out
        omega
      clear PT PK HO b5 o5 hp HW
      go_wp2
      go_loopw [10] (fun iv wq => ∃ i : Nat, i ≤ ps.length ∧ iv = .int .i64 i ∧ Hid (Below w3.heap.size w3 wq)) (fun iv _ => ps.length - (intOf iv).toNat)
      case atStart => exact ⟨0, Nat.zero_le _, rfl, Lib.hid (Below.refl _ _)⟩
      case round =>
        obtain ⟨i, hi, rfl, HQ⟩ := hrel
        by_cases hlt : i < ps.length
        · have hlt' : (i : Int) < (ps.length : Int) := by omega
          obtain ⟨g, e5, hg, hc⟩ := (O5.out.grew HQ.out (Nat.le_refl _)).cell hlt
          have hv : ps.getD i 0 = ps[i] := by rw [List.getD_eq_getElem?_getD, List.getElem?_eq_getElem hlt]; rfl
          obtain ⟨ho, hnm⟩ := (P2.out ps[i]).1 (List.getElem_mem hlt)
          have NM := Lib.hid (name_any ps[i] wr (HF.out.below (B3.out.trans (HQ.out.mono B3.out.size))))
          rw [ho, if_pos rfl] at NM
          rw [hv] at hc
          subst e5
          have HNM := Lib.hid hnm
          clear ho hnm hv
          generalize Sg.nameB ps[i] = nm at *
          go_wp2_with fail
          refine NM.out.mono ?_; rintro e w4 ⟨rfl, b4⟩
          have HQ4 := Lib.hid (HQ.out.trans (b4.out.mono HQ.out.size))
          have O4 := Lib.hid ((O3.out.keep (HQ4.out)).strs fun s hs => Nat.le_trans (hxs.out s hs) (by decide))
          have hxl' : (xs.length : Int) ≤ 40 := by have := hxl.out; omega
          go_wp2
          go_loop [13, 14] (fun tv kv => ∃ (k : Nat) (b : Bool), k ≤ xs.length ∧ Hid (b = true ↔ nm ∈ xs.take k) ∧ tv = .bool b ∧ kv = .int .i64 k) (fun _ kv => xs.length - (intOf kv).toNat)
          case atStart => exact ⟨0, false, Nat.zero_le _, Lib.hid (by simp), rfl, rfl⟩
          case round =>
            obtain ⟨k, b, hk, hbb, rfl, rfl⟩ := hrel
            by_cases hlk : k < xs.length
            · have hlk' : (k : Int) < (xs.length : Int) := by omega
              obtain ⟨gb, off, s, rfl, _, hcs, hgs, _⟩ := O4.out.at_ hlk
              have HB := Lib.hid (among_next hbb.out hlk hgs.out)
              cases b with
              | true =>
                go_wp2
                go_round
                case rel => exact ⟨k + 1, true, by omega, Lib.hid (by have := HB.out; simpa using this), rfl, by go_num⟩
                case measure => simp [intOf]; omega
              | false =>
                go_wp2
                go_round
                case rel => exact ⟨k + 1, _, by omega, HB, by simp, by go_num⟩
                case measure => simp [intOf]; omega
            · have hbt : b = true := hbb.out.2 (by rw [List.take_of_length_le (by omega)]; exact HNM.out)
              subst hbt
              have hlk' : (xs.length : Int) ≤ (k : Int) := by omega
              obtain ⟨g2, e2, hg2, hc4⟩ := (O5.out.grew HQ4.out (Nat.le_refl _)).cell hlt
              obtain rfl : g = g2 := by injection e2 with e2; injection e2
              cases i with
              | zero =>
                have hl0 : (0 : Int) < (ps.length : Int) := by omega
                have hv1 : ps.getD 0 0 = ps[0] := by rw [List.getD_eq_getElem?_getD, List.getElem?_eq_getElem hlt]; rfl
                clear NM hc hc4 hv1
                generalize ps[0] = v1 at *
                clear hlt hlt' hi e2 hbb hlk hk
                go_wp2_with fail
                go_quiet (fail)
                go_wp2
                go_roundw
                case rel => exact ⟨1, by omega, by go_num, Lib.hid (below_n HQ4.out _)⟩
                case measure => simp [intOf]; omega
              | succ j =>
                obtain ⟨g3, e3, _, hc5⟩ := (O5.out.grew HQ4.out (Nat.le_refl _)).cell (i := j) (by omega)
                obtain rfl : g = g3 := by injection e3 with e3; injection e3
                have hpp := P1.out j (j + 1) (by omega) hlt (by omega)
                have hv1 : ps.getD (j + 1) 0 = ps[j + 1] := by rw [List.getD_eq_getElem?_getD, List.getElem?_eq_getElem hlt]; rfl
                have hv2 : ps.getD j 0 = ps[j] := by rw [List.getD_eq_getElem?_getD, List.getElem?_eq_getElem (show j < ps.length by omega)]; rfl
                rw [hv1] at hc4
                rw [hv2] at hc5
                have hd : decide (ps[j + 1] ≤ ps[j]) = false := decide_eq_false (by omega)
                have hd3 : decide ((0 : Int) < (j : Int) + 1) = true := decide_eq_true (by omega)
                have hl1 : (j : Int) + 1 < (ps.length : Int) := by omega
                have hl2 : (j : Int) < (ps.length : Int) := by omega
                clear NM hc hv1 hv2 hpp
                generalize ps[j + 1] = v1 at *
                generalize ps[j] = v2 at *
                clear hlt hlt' hi e2 e3 hbb hlk hk
                go_wp2_with fail
                go_quiet (fail)
                go_wp2
                go_roundw
                case rel => exact ⟨j + 1 + 1, by omega, by go_num, Lib.hid (below_n HQ4.out _)⟩
                case measure => simp [intOf]; omega
        · have hlt' : (ps.length : Int) ≤ (i : Int) := by omega
          have hie : i = ps.length := by omega
          have B4 := Lib.hid (B3.out.trans (HQ.out.mono B3.out.size))
          have O6 := Lib.hid (O5.out.grew HQ.out (Nat.le_refl _))
          clear hlt hie
          go_wp2
          generalize decide (i < ps.length) = bq
          go_loopw [15] (fun iv wq => ∃ i : Nat, i ≤ ns.length ∧ iv = .int .i64 i ∧ Hid (Below wr.heap.size wr wq)) (fun iv _ => ns.length - (intOf iv).toNat)
          case atStart => exact ⟨0, Nat.zero_le _, rfl, Lib.hid (Below.refl _ _)⟩
          case round =>
            obtain ⟨i2, hi2, rfl, HV⟩ := hrel
            by_cases hln : i2 < ns.length
            · have hln' : (i2 : Int) < (ns.length : Int) := by omega
              have B5 := Lib.hid (B4.out.trans (HV.out.mono B4.out.size))
              obtain ⟨bn, offn, z, rfl, hbn, hcn, hgn, z0, z1⟩ := (HN.out.below B5.out).at_ hln
              have hzz : ns[i2] = z := by
                have := hgn.out
                rw [List.getD_eq_getElem?_getD, List.getElem?_eq_getElem hln] at this
                exact this
              have NM := Lib.hid (name_any z wr (HF.out.below B5.out))
              have HP : Hid (Sg.inO z = true ↔ z ∈ ps) := Lib.hid (by
                rw [P2.out z]
                constructor
                · intro h
                  exact ⟨h, by rw [hxe.out]; exact List.mem_append_right _ (nmO_mem ns z (by rw [← hzz]; exact List.getElem_mem hln) h)⟩
                · exact fun h => h.1)
              generalize (if Sg.inO z then Sg.nameB z else ⟨#[]⟩) = nm2 at *
              generalize Sg.inO z = ok at *
              clear hzz hgn
              go_wp2_with fail
              refine NM.out.mono ?_; rintro e w5 ⟨rfl, b5⟩
              have HV5 := Lib.hid (HV.out.trans (b5.out.mono HV.out.size))
              have hcn5 : Hid (∀ W, Below w5.heap.size w5 W → W.cell? ⟨bn, offn + i2, none⟩ = some (.int .i64 z)) := Lib.hid (fun W hW => (hW.cell (p := ⟨bn, offn + i2, none⟩) (Nat.lt_of_lt_of_le hbn.out (Nat.le_trans B5.out.size b5.out.size))).trans ((b5.out.cell (p := ⟨bn, offn + i2, none⟩) (Nat.lt_of_lt_of_le hbn.out B5.out.size)).trans hcn))
              clear hcn
              go_wp2
              go_loopw [18, 19] (fun tv kv wq => ∃ (k : Nat) (b : Bool), k ≤ ps.length ∧ Hid (b = true ↔ z ∈ ps.take k) ∧ tv = .bool b ∧ kv = .int .i64 k ∧ Hid (Below w5.heap.size w5 wq)) (fun _ kv _ => ps.length - (intOf kv).toNat)
              case atStart => exact ⟨0, false, Nat.zero_le _, Lib.hid (by simp), rfl, rfl, Lib.hid (Below.refl _ _)⟩
              case round =>
                obtain ⟨k, b, hk, hbb, rfl, rfl, HU⟩ := hrel
                by_cases hlk : k < ps.length
                · have hlk' : (k : Int) < (ps.length : Int) := by omega
                  obtain ⟨gq, eq, _, hcq⟩ := (O6.out.grew (HV5.out.trans (HU.out.mono HV5.out.size)) (Nat.le_refl _)).cell hlk
                  subst eq
                  have hcz := hcn5.out _ HU.out
                  have HB := Lib.hid (num_next hbb.out hlk)
                  generalize ps.getD k 0 = v at *
                  cases b with
                  | true =>
                    go_wp2_with fail
                    go_quiet (fail)
                    go_wp2
                    go_roundw
                    case rel => exact ⟨k + 1, true, by omega, Lib.hid (by have := HB.out; simpa using this), rfl, by go_num, Lib.hid (below_n HU.out _)⟩
                    case measure => simp [intOf]; omega
                  | false =>
                    go_wp2_with fail
                    go_quiet (fail)
                    go_wp2
                    go_roundw
                    case rel => exact ⟨k + 1, _, by omega, HB, by simp, by go_num, Lib.hid (below_n HU.out _)⟩
                    case measure => simp [intOf]; omega
                · have hbo : b = ok := by
                    have h1 := hbb.out
                    rw [List.take_of_length_le (by omega)] at h1
                    have h2 := HP.out
                    cases b <;> cases ok <;> simp_all
                  subst hbo
                  have hlk' : (ps.length : Int) ≤ (k : Int) := by omega
                  have HV6 := Lib.hid (HV5.out.trans (HU.out.mono HV5.out.size))
                  clear hlk hbb
                  go_wp2
                  go_roundw
                  case rel => exact ⟨i2 + 1, by omega, by go_num, HV6⟩
                  case measure => simp [intOf]; omega
            · have hln' : (ns.length : Int) ≤ (i2 : Int) := by omega
              clear hln
              go_wp2
              go_ret
              exact ⟨rfl, B4.out.trans (HV.out.mono B4.out.size)⟩
theorem picks_walk (A1 A2 : Option Addr) (ss : List ByteArray) (ns : List Int) (cap1 cap2 : Nat) (hZ : ∀ s ∈ ss, s.size ≤ 140737488355328) (w : World) (hS : Strs w w.heap.size A1 ss) (hN : Nums w w.heap.size A2 ns) (hF : Facts w) :
    Calls Tryd.prog 7 #[.slice A1 ss.length cap1, .slice A2 ns.length cap2] w fun e w' => e = .returned (.bool true) ∧ Below w.heap.size w w' := by
  by_cases h : ss.length ≤ 20 ∧ ns.length ≤ 20
  · exact picks_core A1 A2 ss ns cap1 cap2 h.1 h.2 w hS hZ hN (Lib.hid hF)
  · exact picks_off A1 A2 _ _ cap1 cap2 (by omega) w (Lib.hid hF)
end Go.Proofs.YtlaomaefhanacaaDoor
