/-
  The law WheelOnce, walked: every timer comes once, at its tick, in order.
-/
import Derived.Test.YtaieoneilljagaaWhOnceP
import Derived.Test.YtaieoneilljagaaWhEq
import Derived.Test.YtaieoneilljagaaWhAwake
import Derived.Deep.CutBlock
import Derived.Deep.CutRange
import Derived.Deep.RegionHeld
namespace Go.Proofs.Ytaieoneilljagaa
open Go.RowKit
/-- The steps that came in. -/
def Wh.Steps (w : World) (A : Option Addr) (zs : List Int) : Prop := 0 < zs.length → ∃ b off, A = some ⟨b, off, none⟩ ∧ b < w.heap.size ∧ ∀ i, i < zs.length → w.cell? ⟨b, off + i, none⟩ = some (.int .i64 (zs.getD i 0))
theorem lit_cells (w : World) (x y z : Value) (t : TypeId) : (w.alloc (.cells #[x, y, z] t)).cell? ⟨w.heap.size, 0, none⟩ = some x ∧ (w.alloc (.cells #[x, y, z] t)).cell? ⟨w.heap.size, 1, none⟩ = some y ∧ (w.alloc (.cells #[x, y, z] t)).cell? ⟨w.heap.size, 2, none⟩ = some z := by
  simp only [World.cell?, heap_alloc_new]
  exact ⟨rfl, rfl, rfl⟩
/-- The blocks of a row. -/
def rowB (A : Option Addr) (k : Nat) : Prop := ∃ a, A = some a ∧ k = a.block
set_option maxRecDepth 20000 in
set_option maxHeartbeats 8000000 in
theorem once_walk (A Az : Option Addr) (l : List Wh.T) (zs : List Int) (n cap nz capz : Nat) (w : World) (hn : n = l.length) (hnz : nz = zs.length) (hm : n ≤ 9223372036854775807) (hmz : nz ≤ 9223372036854775807) (hl : Dues w (fun _ => True) A l) (hz : Wh.Steps w Az zs) :
    Calls Try.prog 5 #[.slice A n cap, .slice Az nz capz] w (BoolP w true) := by
  have AW := Lib.hid (awake_any w)
  have NW := Lib.hid (fun w' => oneNew w')
  have HL := Lib.hid hl
  have HZ := Lib.hid hz
  have HN := Lib.hid hn
  have HNZ := Lib.hid hnz
  clear hl hn hz hnz
  by_cases h30 : (30 : Int) < (n : Int)
  · go_enter Try.func5, Try.ntmps5
    go_wp2_with fail
    (with_reducible refine AW.out.mono ?_); rintro e w1 ⟨rfl, b1⟩
    go_wp2
    go_ret
    exact ⟨rfl, b1⟩
  · have hd30 : decide ((30 : Int) < (n : Int)) = false := decide_eq_false h30
    by_cases h30' : (30 : Int) < (nz : Int)
    · go_enter Try.func5, Try.ntmps5
      go_wp2_with fail
      (with_reducible refine AW.out.mono ?_); rintro e w1 ⟨rfl, b1⟩
      go_wp2
      go_ret
      exact ⟨rfl, b1⟩
    · have hd31 : decide ((30 : Int) < (nz : Int)) = false := decide_eq_false h30'
      go_enter Try.func5, Try.ntmps5
      go_wp2_with fail
      (with_reducible refine AW.out.mono ?_); rintro e w1 ⟨rfl, b1⟩
      go_wp2_with fail
      (with_reducible refine (NW.out w1).mono ?_); rintro e w2 ⟨T, rfl, r2, -, -⟩
      have TW := Lib.hid ((r2.out.from b1.out).fewer (G' := rowB none) fun k ⟨a, ha, _⟩ => by cases ha)
      have SC : Hid (∀ i b off a, i < n → A = some ⟨b, off, none⟩ → l[i]? = some a → ∀ W, Below w.heap.size w W → (fun w' : World => w'.cell? ⟨b, off + i * 3, none⟩ = some (.int .i64 a.run) ∧ w'.cell? ⟨b, off + i * 3 + 1, none⟩ = some (.int .i64 a.task) ∧ w'.cell? ⟨b, off + i * 3 + 2, none⟩ = some (.int .i64 a.at_)) W) := Lib.hid fun i b off a hi hA ha W hW => by
        have hi' : i < l.length := by rw [← HN.out]; exact hi
        obtain ⟨b', off', e, _, hlt, hc⟩ := HL.out.2 (by omega)
        rw [hA] at e
        injection e with e
        injection e with e1 e2
        subst e1 e2
        rw [List.getElem?_eq_getElem hi'] at ha
        injection ha with ha
        obtain ⟨c0, c1, c2⟩ := hc i hi'
        rw [ha] at c0 c1 c2
        exact ⟨(hW.cell (p := ⟨b, off + i * 3, none⟩) hlt).trans c0, (hW.cell (p := ⟨b, off + i * 3 + 1, none⟩) hlt).trans c1, (hW.cell (p := ⟨b, off + i * 3 + 2, none⟩) hlt).trans c2⟩
      clear r2 b1 AW NW
      go_upto_block 0 with fail
      go_cut [6] from 30 to 79 (fun wv wx => ∃ (Aw : Option Addr) (m cw : Nat) (want : List Wh.T) (s : Wh.S), wv = .slice Aw m cw ∧ Hid (OneW w wx T s n (rowB Aw)) ∧ Hid (OwnX wx w.heap.size Aw m cw want) ∧ Hid (want.Perm s.l) ∧ Hid (s.now = 0) ∧ Hid (∀ a ∈ want, a.ok))
      case first =>
        go_wp2_with fail
        go_loopw [6, 7] (fun wv iv wr => ∃ (i : Nat) (Aw : Option Addr) (m cw : Nat) (want : List Wh.T) (s : Wh.S), i ≤ n ∧ iv = .int .i64 i ∧ wv = .slice Aw m cw ∧ Hid (OneW w wr T s i (rowB Aw)) ∧ Hid (OwnX wr w.heap.size Aw m cw want) ∧ Hid (want.Perm s.l) ∧ Hid (s.now = 0) ∧ Hid (∀ a ∈ want, a.ok)) (fun _ iv _ => n - (intOf iv).toNat)
        case atStart => exact ⟨0, none, 0, 0, [], Wh.s0, Nat.zero_le _, rfl, rfl, TW, Lib.hid (OwnX.nil_ _ _), Lib.hid (List.Perm.refl _), Lib.hid rfl, Lib.hid fun a ha => by cases ha⟩
        case round =>
          obtain ⟨i, Aw, m, cw, want, s, hi, rfl, rfl, TS, WN, PM, NO, OKW⟩ := hrel
          clear TW
          have hmi : m ≤ i := by rw [← WN.out.len, PM.out.length_eq]; exact TS.out.len
          by_cases hlt : i < n
          · have hlt' : (i : Int) < (n : Int) := by omega
            obtain ⟨b, off, a, rfl, -, ha, -, -, -, hok⟩ := HL.out.at_ (k := i) (by rw [← HN.out]; exact hlt)
            have S1 := Lib.hid (SC.out i b off a hlt rfl ha.out)
            go_upto_region 10 with fail
            have TD := Lib.hid (TS.out.on (Below.refl _ _).drew)
            have WD := Lib.hid (WN.out.on (Below.refl _ _).drew)
            clear TS WN
            refine wp_region_held_drew (S := fun w' => w'.cell? ⟨b, off + i * 3, none⟩ = some (.int .i64 a.run) ∧ w'.cell? ⟨b, off + i * 3 + 1, none⟩ = some (.int .i64 a.task) ∧ w'.cell? ⟨b, off + i * 3 + 2, none⟩ = some (.int .i64 a.at_)) (by kernel_rfl) ?hS1001 (fun hHeld => ?_)
            case hS1001 => exact S1.out _ TD.out.below
            refine wpAnyH_take (i := 0) (oi := ?o1002) (v := ?v1002) ?hi1002 (by kernel_rfl) (by kernel_rfl) (by kernel_rfl) ?hQ1002 (Or.inl ⟨?hg1002, ?hy1002⟩) (by assumption) ?rest1002
            case hi1002 => (simp only [List.getElem?_toArray, List.getElem?_cons_zero]; exact rfl)
            case hQ1002 => exact fun _ _ _ h => h
            case hg1002 => rfl
            case hy1002 => (intro w' hSw; (try dsimp only at hSw); go_simp; try with_reducible rfl)
            try simp only [Act.put, List.setIfInBounds_toArray, List.set_cons_zero, List.set_cons_succ]
            refine wpAnyH_take (i := 1) (oi := ?o1003) (v := ?v1003) ?hi1003 (by kernel_rfl) (by kernel_rfl) (by kernel_rfl) ?hQ1003 (Or.inl ⟨?hg1003, ?hy1003⟩) (by assumption) ?rest1003
            case hi1003 => (simp only [List.getElem?_toArray, List.getElem?_cons_zero, List.getElem?_cons_succ]; exact rfl)
            case hQ1003 => exact fun _ _ _ h => h
            case hg1003 => rfl
            case hy1003 => (intro w' hSw; (try dsimp only at hSw); go_simp; try with_reducible rfl)
            try simp only [Act.put, List.setIfInBounds_toArray, List.set_cons_zero, List.set_cons_succ]
            refine wpAnyH_take (i := 2) (oi := ?o1004) (v := ?v1004) ?hi1004 (by kernel_rfl) (by kernel_rfl) (by kernel_rfl) ?hQ1004 (Or.inl ⟨?hg1004, ?hy1004⟩) (by assumption) ?rest1004
            case hi1004 => (simp only [List.getElem?_toArray, List.getElem?_cons_zero, List.getElem?_cons_succ]; exact rfl)
            case hQ1004 => exact fun _ _ _ h => h
            case hg1004 => rfl
            case hy1004 => (intro w' hSw; (try dsimp only at hSw); go_simp; try with_reducible rfl)
            try simp only [Act.put, List.setIfInBounds_toArray, List.set_cons_zero, List.set_cons_succ]
            refine wpAnyH_take (i := 3) (oi := ?o1005) (v := ?v1005) ?hi1005 (by kernel_rfl) (by kernel_rfl) (by kernel_rfl) ?hQ1005 (Or.inl ⟨?hg1005, ?hy1005⟩) (by assumption) ?rest1005
            case hi1005 => (simp only [List.getElem?_toArray, List.getElem?_cons_zero, List.getElem?_cons_succ]; exact rfl)
            case hQ1005 => exact fun _ _ _ h => h
            case hg1005 => rfl
            case hy1005 => (intro w' hSw; (try dsimp only at hSw); go_simp; try with_reducible rfl)
            try simp only [Act.put, List.setIfInBounds_toArray, List.set_cons_zero, List.set_cons_succ]
            refine wpAnyH_take (i := 4) (oi := ?o1006) (v := ?v1006) ?hi1006 (by kernel_rfl) (by kernel_rfl) (by kernel_rfl) ?hQ1006 (Or.inl ⟨?hg1006, ?hy1006⟩) (by assumption) ?rest1006
            case hi1006 => (simp only [List.getElem?_toArray, List.getElem?_cons_zero, List.getElem?_cons_succ]; exact rfl)
            case hQ1006 => exact fun _ _ _ h => h
            case hg1006 => rfl
            case hy1006 => (intro w' hSw; (try dsimp only at hSw); go_simp; try with_reducible rfl)
            try simp only [Act.put, List.setIfInBounds_toArray, List.set_cons_zero, List.set_cons_succ]
            refine wpAnyH_take (i := 5) (oi := ?o1007) (v := ?v1007) ?hi1007 (by kernel_rfl) (by kernel_rfl) (by kernel_rfl) ?hQ1007 (Or.inl ⟨?hg1007, ?hy1007⟩) (by assumption) ?rest1007
            case hi1007 => (simp only [List.getElem?_toArray, List.getElem?_cons_zero, List.getElem?_cons_succ]; exact rfl)
            case hQ1007 => exact fun _ _ _ h => h
            case hg1007 => rfl
            case hy1007 => (intro w' hSw; (try dsimp only at hSw); go_simp; try with_reducible rfl)
            try simp only [Act.put, List.setIfInBounds_toArray, List.set_cons_zero, List.set_cons_succ]
            refine wpAnyH_take (i := 6) (oi := ?o1008) (v := ?v1008) ?hi1008 (by kernel_rfl) (by kernel_rfl) (by kernel_rfl) ?hQ1008 (Or.inl ⟨?hg1008, ?hy1008⟩) (by assumption) ?rest1008
            case hi1008 => (simp only [List.getElem?_toArray, List.getElem?_cons_zero, List.getElem?_cons_succ]; exact rfl)
            case hQ1008 => exact fun _ _ _ h => h
            case hg1008 => rfl
            case hy1008 => (intro w' hSw; (try dsimp only at hSw); go_simp; try with_reducible rfl)
            try simp only [Act.put, List.setIfInBounds_toArray, List.set_cons_zero, List.set_cons_succ]
            refine wpAnyH_take (i := 7) (oi := ?o1009) (v := ?v1009) ?hi1009 (by kernel_rfl) (by kernel_rfl) (by kernel_rfl) ?hQ1009 (Or.inl ⟨?hg1009, ?hy1009⟩) (by assumption) ?rest1009
            case hi1009 => (simp only [List.getElem?_toArray, List.getElem?_cons_zero, List.getElem?_cons_succ]; exact rfl)
            case hQ1009 => exact fun _ _ _ h => h
            case hg1009 => rfl
            case hy1009 => (intro w' hSw; (try dsimp only at hSw); go_simp; try with_reducible rfl)
            try simp only [Act.put, List.setIfInBounds_toArray, List.set_cons_zero, List.set_cons_succ]
            refine wpAnyH_take (i := 8) (oi := ?o1010) (v := ?v1010) ?hi1010 (by kernel_rfl) (by kernel_rfl) (by kernel_rfl) ?hQ1010 (Or.inl ⟨?hg1010, ?hy1010⟩) (by assumption) ?rest1010
            case hi1010 => (simp only [List.getElem?_toArray, List.getElem?_cons_zero, List.getElem?_cons_succ]; exact rfl)
            case hQ1010 => exact fun _ _ _ h => h
            case hg1010 => rfl
            case hy1010 => (intro w' hSw; (try dsimp only at hSw); go_simp; try with_reducible rfl)
            try simp only [Act.put, List.setIfInBounds_toArray, List.set_cons_zero, List.set_cons_succ]
            refine wpAnyH_take (i := 9) (oi := ?o1011) (v := ?v1011) ?hi1011 (by kernel_rfl) (by kernel_rfl) (by kernel_rfl) ?hQ1011 (Or.inl ⟨?hg1011, ?hy1011⟩) (by assumption) ?rest1011
            case hi1011 => (simp only [List.getElem?_toArray, List.getElem?_cons_zero, List.getElem?_cons_succ]; exact rfl)
            case hQ1011 => exact fun _ _ _ h => h
            case hg1011 => rfl
            case hy1011 => (intro w' hSw; (try dsimp only at hSw); go_simp; try with_reducible rfl)
            try simp only [Act.put, List.setIfInBounds_toArray, List.set_cons_zero, List.set_cons_succ]
            refine wpAnyH_take (i := 10) (oi := ?o1012) (v := ?v1012) ?hi1012 (by kernel_rfl) (by kernel_rfl) (by kernel_rfl) ?hQ1012 (Or.inl ⟨?hg1012, ?hy1012⟩) (by assumption) ?rest1012
            case hi1012 => (simp only [List.getElem?_toArray, List.getElem?_cons_zero, List.getElem?_cons_succ]; exact rfl)
            case hQ1012 => exact fun _ _ _ h => h
            case hg1012 => rfl
            case hy1012 => (intro w' hSw; (try dsimp only at hSw); go_simp; try with_reducible rfl)
            try simp only [Act.put, List.setIfInBounds_toArray, List.set_cons_zero, List.set_cons_succ]
            refine wpAnyH_ready (rs := [11]) (by kernel_rfl) (by simp) ?_
            refine AllReadyH.cons (o := ?o1013) ?hi1013 (fun K hK => ?_) AllReadyH.nil
            case hi1013 => (simp only [List.getElem?_toArray, List.getElem?_cons_zero, List.getElem?_cons_succ]; exact rfl)
            (go_simp; go_at_call 8; (with_reducible refine (oneSet TD.out (by omega) a.run a.task a.at_ hok.out).mono ?_); rintro e w3 ⟨rfl, T3, K3⟩; try dsimp only)
            refine hK.out _ _ ?_ (fun hHeld => ?_)
            · exact S1.out _ T3.out.below
            clear hK K
            try simp only [Act.put, List.setIfInBounds_toArray, List.set_cons_zero, List.set_cons_succ]
            refine wpAnyH_take (i := 12) (oi := ?o1014) (v := ?v1014) ?hi1014 (by kernel_rfl) (by kernel_rfl) (by kernel_rfl) ?hQ1014 (Or.inl ⟨?hg1014, ?hy1014⟩) (by assumption) ?rest1014
            case hi1014 => (simp only [List.getElem?_toArray, List.getElem?_cons_zero, List.getElem?_cons_succ]; exact rfl)
            case hQ1014 => exact fun _ _ _ h => h
            case hg1014 => rfl
            case hy1014 => (intro w' hSw; (try dsimp only at hSw); go_simp; try with_reducible rfl)
            try simp only [Act.put, List.setIfInBounds_toArray, List.set_cons_zero, List.set_cons_succ]
            refine wpAnyH_done (by kernel_rfl) ?_ _
            have W3 := Lib.hid (WD.out.keep fun a ha => K3.out.2 _ ⟨a, ha, rfl⟩)
            clear K3 WD TD
            by_cases hbad : 1099511627776 < a.at_ ∨ a.at_ ≤ s.now
            · have E1 : Hid (Wh.setE s a.at_ = 1) := Lib.hid (by unfold Wh.setE; rw [if_pos hbad])
              have E2 : Wh.setS s a.run a.task a.at_ = s := by unfold Wh.setS; rw [if_pos hbad]
              rw [E2] at T3
              rw [E1.out]
              clear E2 hbad
              go_wp2
              go_roundw
              case rel => exact ⟨i + 1, Aw, m, cw, want, s, by omega, by go_num, rfl, T3, W3, PM, NO, OKW⟩
              case measure => simp [intOf]; omega
            · have E1 : Hid (Wh.setE s a.at_ = 0) := Lib.hid (by unfold Wh.setE; rw [if_neg hbad])
              have E2 : Wh.setS s a.run a.task a.at_ = ⟨s.now, Wh.ins a (Wh.del a.run a.task s.l)⟩ := by unfold Wh.setS; rw [if_neg hbad]
              rw [E2] at T3
              rw [E1.out]
              clear E2 hbad
              have BW3 := Lib.hid T3.out.below
              have D3 := Lib.hid (W3.out.cells OKW.out)
              have LW := Lib.hid W3.out.len
              go_wp2_with fail
              go_loopw [8, 9] (fun rv kv wr2 => ∃ (k n' : Nat) (A' : Option Addr) (c' : Nat), k ≤ m ∧ n' ≤ k ∧ kv = .int .i64 k ∧ rv = .slice A' n' c' ∧ Hid (OwnX wr2 w3.heap.size A' n' c' ((want.take k).filter fun t => !Wh.same t a.run a.task)) ∧ Hid (Below w3.heap.size w3 wr2)) (fun _ kv _ => m - (intOf kv).toNat)
              case atStart => exact ⟨0, 0, none, 0, Nat.zero_le _, Nat.le_refl _, rfl, rfl, Lib.hid (OwnX.nil_ _ _), Lib.hid (Below.refl _ _)⟩
              case round =>
                obtain ⟨k, n', A', c', hk, hn', rfl, rfl, RO, HB⟩ := hrel
                obtain ⟨c0, c1, c2⟩ := S1.out wr (BW3.out.trans (HB.out.mono BW3.out.size))
                by_cases hkm : k < m
                · have hkm' : (k : Int) < (m : Int) := by omega
                  obtain ⟨b2, off2, t, rfl, -, ht, d0, d1, d2, htok⟩ := (D3.out.on HB.out).at_ (k := k) (by rw [LW.out]; exact hkm)
                  have EQ : ∀ W, (binOp .neq 28 (.agg #[.int .i64 t.run, .int .i64 t.task]) (.agg #[.int .i64 a.run, .int .i64 a.task])).run Try.prog W = .ok (.bool (!Wh.same t a.run a.task)) W := fun W => keq_neq t.run t.task a.run a.task htok.out.1 htok.out.2.1 hok.out.1 hok.out.2.1 W
                  cases hsm : Wh.same t a.run a.task with
                  | true =>
                    have FL := Lib.hid (Wh.filter_no (p := fun t => !Wh.same t a.run a.task) ht.out (by show (!Wh.same t a.run a.task) = false; rw [hsm]; rfl))
                    rw [hsm, Bool.not_true] at EQ
                    clear hsm
                    go_wp2_with fail
                    go_quiet (fail)
                    go_wp2
                    go_roundw
                    case rel => exact ⟨k + 1, n', A', c', by omega, by omega, by go_num, rfl, by rw [FL.out]; exact Lib.hid (RO.out.on (below_n (Below.refl _ _) _)), Lib.hid (below_n HB.out _)⟩
                    case measure => simp [intOf]; omega
                  | false =>
                    have FL := Lib.hid (Wh.filter_yes (p := fun t => !Wh.same t a.run a.task) ht.out (by show (!Wh.same t a.run a.task) = true; rw [hsm]; rfl))
                    rw [hsm, Bool.not_false] at EQ
                    clear hsm
                    have HM := Lib.hid (Nat.le_trans hn' (Nat.le_of_lt hkm))
                    have hnn : n' ≤ 1000000 := by omega
                    go_wp2_with fail
                    go_quiet (fail)
                    go_wp2_with (at_builtin; refine wp_appX rfl (.tmp 66) (.tmp 71) rfl rfl (RO.out.on ((below_n (Below.refl _ _) _).alloc (Nat.le_refl _) _)) ((below_n HB.out _).alloc HB.out.size _).size rfl (lit_cells _ _ _ _ _).1 (lit_cells _ _ _ _ _).2.1 (lit_cells _ _ _ _ _).2.2 hnn ?_; intro A7 c7 w7 o7 b7; have O7 := Lib.hid o7; have B7 := Lib.hid (((below_n HB.out _).alloc HB.out.size _).trans b7); clear o7 b7)
                    go_roundw
                    case rel =>
                      (repeat apply Exists.intro)
                      exact ⟨⟨k + 1, n' + 1, A7, c7, by omega, by omega, by go_num, rfl, by rw [FL.out]; exact O7, B7⟩, rfl⟩
                    case measure => simp [intOf]; omega
                · obtain rfl : m = k := by omega
                  have hnn : n' ≤ 1000000 := by omega
                  have PM2 : Hid ((((want.take m).filter fun t => !Wh.same t a.run a.task) ++ [a]).Perm (Wh.ins a (Wh.del a.run a.task s.l))) := Lib.hid (by
                    rw [List.take_of_length_le (by rw [LW.out]; exact Nat.le_refl _)]
                    exact Wh.want_perm PM.out a a.run a.task)
                  have OK2 : Hid (∀ b ∈ ((want.take m).filter fun t => !Wh.same t a.run a.task) ++ [a], b.ok) := Lib.hid fun b hb => by
                    rcases List.mem_append.1 hb with hb | hb
                    · exact OKW.out b (List.mem_of_mem_take (List.mem_filter.1 hb).1)
                    · rw [List.mem_singleton.1 hb]; exact hok.out
                  go_wp2_with (at_builtin; refine wp_appX rfl (.tmp 73) (.tmp 78) rfl rfl (RO.out.on ((Below.refl _ _).alloc (Nat.le_refl _) _)) (HB.out.alloc HB.out.size _).size rfl (lit_cells _ _ _ _ _).1 (lit_cells _ _ _ _ _).2.1 (lit_cells _ _ _ _ _).2.2 hnn ?_; intro A8 c8 w8 o8 b8; have O8 := Lib.hid o8; have B8 := Lib.hid ((HB.out.alloc HB.out.size _).trans b8); clear o8 b8)
                  go_roundw
                  case rel => exact ⟨i + 1, A8, n' + 1, c8, _, ⟨s.now, Wh.ins a (Wh.del a.run a.task s.l)⟩, by omega, by go_num, rfl, Lib.hid (T3.out.join B8.out fun k ⟨x, hx, hk⟩ => .inr (hk ▸ O8.out.lt hx)), Lib.hid (O8.out.down BW3.out.size), PM2, NO, OK2⟩
                  case measure => simp [intOf]; omega
          · obtain rfl : n = i := by omega
            go_wp2_with fail
            go_meet
            exact ⟨Aw, m, cw, want, s, rfl, TS, WN, PM, NO, OKW⟩
      case rest =>
        obtain ⟨Aw, m, cw, want, s, rfl, TS, WN, PM, NO, OKW⟩ := hcut
        have LW := Lib.hid WN.out.len
        have hmn : m ≤ n := by rw [← WN.out.len, PM.out.length_eq]; exact TS.out.len
        have IN0 : Hid (∀ y ∈ s.l, y ∈ want) := Lib.hid fun y hy => (PM.out.mem_iff).2 hy
        have CT0 : Hid (0 + s.l.length = m) := Lib.hid (by rw [Nat.zero_add, ← PM.out.length_eq, LW.out])
        clear SC HL PM TW
        go_wp2_with fail
        go_loopw [10, 11, 12] (fun nv cv iv wr => ∃ (i c : Nat) (s' : Wh.S), i ≤ nz + 1 ∧ c ≤ m ∧ iv = .int .i64 i ∧ nv = .int .i64 s'.now ∧ cv = .int .i64 c ∧ Hid (OneW w wr T s' n (rowB Aw)) ∧ Hid (OwnX wr w.heap.size Aw m cw want) ∧ Hid (∀ y ∈ s'.l, y ∈ want) ∧ Hid (c + s'.l.length = m) ∧ Hid (i = nz + 1 → s'.l = [])) (fun _ _ iv _ => nz + 1 - (intOf iv).toNat)
        case atStart => exact ⟨0, 0, s, by omega, by omega, rfl, by rw [NO.out], rfl, TS, WN, IN0, CT0, Lib.hid fun h => by omega⟩
        case round =>
          obtain ⟨i, c, s', hi, hc, rfl, rfl, rfl, TS', WN', IN, CT, NI⟩ := hrel
          clear TS WN IN0 CT0
          by_cases hlt : i ≤ nz
          · have hlt' : (i : Int) ≤ (nz : Int) := by omega
            have IV := Lib.hid TS'.out.inv
            obtain ⟨n0, n1⟩ := And.intro IV.out.now0 IV.out.now1
            go_upto_if 89 with fail
            go_cut [13] from 80 to 173 (fun tv wx => ∃ tt : Int, tv = .int .i64 tt ∧ s'.now ≤ tt ∧ tt ≤ 1099511693311 ∧ (i = nz → tt = 1099511627776) ∧ wx = wr)
            case first =>
              by_cases hz : i < nz
              · have hz' : (i : Int) < (nz : Int) := by omega
                obtain ⟨bz, oz, rfl, hbz, hcz⟩ := HZ.out (by have := HNZ.out; omega)
                have z0 := (TS'.out.below.cell (p := ⟨bz, oz + i, none⟩) hbz).trans (hcz i (by have := HNZ.out; omega))
                generalize zs.getD i 0 = z at *
                have hb : bits .and .i64 z 65535 = z % 65536 := i64_and65535 z
                have hw : IntKind.i64.wrap (s'.now + z % 65536) = s'.now + z % 65536 := IntWalk.i64_in _ (by omega)
                clear hcz hbz
                go_wp2_with fail
                go_meet
                exact ⟨s'.now + z % 65536, by first | rfl | rw [hb, hw], by omega, by omega, fun h => by omega, rfl⟩
              · have hz' : decide ((i : Int) < (nz : Int)) = false := decide_eq_false (by omega)
                go_wp2_with fail
                go_meet
                exact ⟨1099511627776, rfl, n1, by omega, fun _ => rfl, rfl⟩
            case rest =>
              obtain ⟨tt, rfl, ht0, ht1, hti, rfl⟩ := hcut
              by_cases hbig : 1099511627776 < tt
              · go_wp2
                go_ret
                exact ⟨rfl, Lib.hid TS'.out.below⟩
              · have hdb : decide (1099511627776 < tt) = false := decide_eq_false hbig
                have TOK := Lib.hid (Wh.to_ok ht0 (Int.not_lt.1 hbig))
                have DL := Lib.hid (Wh.to_len TOK.out.1)
                have DM := Lib.hid (fun y => Wh.to_mem IV.out TOK.out.1 (y := y))
                have UP := Lib.hid (fun (j : Nat) (x y : Wh.T) (h1 : (Wh.toL s' tt)[j]? = some x) (h2 : (Wh.toL s' tt)[j + 1]? = some y) => Wh.to_up IV.out h1 h2)
                have SUB := Lib.hid (fun y (hy : y ∈ (Wh.toS s' tt).l) => Wh.to_sub hy)
                have NIL : Hid (i + 1 = nz + 1 → (Wh.toS s' tt).l = []) := Lib.hid fun h => by rw [hti (by omega)]; exact Wh.to_nil IV.out
                have hT64 : is64 tt := ⟨by omega, by omega⟩
                have TO := Lib.hid (knTo TS'.out (by omega) tt hT64 (er := 0) (s' := Wh.toS s' tt) (l := Wh.toL s' tt) (n := (Wh.toL s' tt).length) TOK.out.1 rfl rfl rfl)
                have NOW := Lib.hid TOK.out.2
                have LATE := Lib.hid IV.out.late
                generalize Wh.toL s' tt = d at *
                generalize Wh.toS s' tt = s2 at *
                clear hti hT64 NI
                go_wp2_with fail
                (with_reducible refine TO.out.mono ?_); rintro e w4 ⟨A4, c4, rfl, R4, K4, D4⟩
                have WN4 := Lib.hid (WN'.out.keep fun x hx => K4.out.2 _ ⟨x, hx, rfl⟩)
                have D5 := Lib.hid (WN4.out.cells OKW.out)
                have T4 := Lib.hid (R4.out.fewer (G' := rowB Aw) fun k hk => .inl hk)
                clear TO K4 R4 TS' WN'
                obtain ⟨dn, hdn⟩ : ∃ dn, dn = d.length := ⟨_, rfl⟩
                have HD := Lib.hid hdn
                rw [← hdn]
                have hdm : c + dn ≤ m := by have := CT.out; have := DL.out; omega
                clear hdn
                go_wp2_with fail
                go_loopw [16] (fun kv wr => ∃ k : Nat, k ≤ dn ∧ kv = .int .i64 k ∧ Hid (Below w4.heap.size w4 wr)) (fun kv _ => dn - (intOf kv).toNat)
                case atStart => exact ⟨0, Nat.zero_le _, rfl, Lib.hid (Below.refl _ _)⟩
                case round =>
                  obtain ⟨k, hk, rfl, HB⟩ := hrel
                  by_cases hkd : k < dn
                  · have hkd' : (k : Int) < (dn : Int) := by omega
                    have hkd2 : k < d.length := by rw [← HD.out]; exact hkd
                    obtain ⟨bd, od, t, rfl, -, ht, -, -, -, htok⟩ := D4.out.at_ (k := k) hkd2
                    have MT := Lib.hid (IN.out t ((DM.out t).1 (List.mem_of_getElem? ht.out)).1)
                    have hat1 : t.at_ ≤ tt := ((DM.out t).1 (List.mem_of_getElem? ht.out)).2
                    have hat2 : s'.now < t.at_ := (LATE.out t ((DM.out t).1 (List.mem_of_getElem? ht.out)).1).1
                    have DC : Hid (∀ W, Below w4.heap.size w4 W → W.cell? ⟨bd, od + k * 3, none⟩ = some (.int .i64 t.run) ∧ W.cell? ⟨bd, od + k * 3 + 1, none⟩ = some (.int .i64 t.task) ∧ W.cell? ⟨bd, od + k * 3 + 2, none⟩ = some (.int .i64 t.at_)) := Lib.hid fun W hW => by
                      obtain ⟨b', o', t', e', -, ht', e0, e1, e2, -⟩ := (D4.out.on hW).at_ (k := k) hkd2
                      injection e' with e'
                      injection e' with e3 e4
                      subst e3 e4
                      obtain rfl : t = t' := by have := ht.out.symm.trans ht'.out; injection this
                      exact ⟨e0, e1, e2⟩
                    go_wp2_with fail
                    go_loopw [17, 18] (fun tv qv wr => ∃ q : Nat, q ≤ m ∧ qv = .int .i64 q ∧ tv = .bool (thr want q t) ∧ Hid (Below w4.heap.size w4 wr)) (fun _ qv _ => m - (intOf qv).toNat)
                    case atStart => exact ⟨0, Nat.zero_le _, rfl, by rw [thr_zero], HB⟩
                    case round =>
                      obtain ⟨q, hq, rfl, rfl, HB2⟩ := hrel
                      obtain ⟨y0, y1, y2⟩ := DC.out _ HB2.out
                      by_cases hqm : q < m
                      · have hqm' : (q : Int) < (m : Int) := by omega
                        obtain ⟨bq, oq, u, rfl, -, hu, v0, v1, v2, huok⟩ := (D5.out.on HB2.out).at_ (k := q) (by rw [LW.out]; exact hqm)
                        have TQ := Lib.hid (thr_succ hu.out t)
                        cases hb : thr want q t with
                        | true =>
                          rw [hb, Bool.true_or] at TQ
                          clear hb
                          go_wp2_with fail
                          go_quiet (fail)
                          go_wp2
                          go_roundw
                          case rel => exact ⟨q + 1, by omega, by go_num, by rw [TQ.out], Lib.hid (below_n HB2.out _)⟩
                          case measure => simp [intOf]; omega
                        | false =>
                          rw [hb, Bool.false_or] at TQ
                          have EQ : ∀ W, (binOp .eql 56 (.agg #[.int .i64 u.run, .int .i64 u.task, .int .i64 u.at_]) (.agg #[.int .i64 t.run, .int .i64 t.task, .int .i64 t.at_])).run Try.prog W = .ok (.bool (decide (u = t))) W := fun W => deq_eql u.run u.task u.at_ t.run t.task t.at_ huok.out htok.out W
                          clear hb
                          generalize decide (u = t) = be at *
                          go_wp2_with fail
                          go_quiet (fail)
                          go_wp2
                          go_roundw
                          case rel => exact ⟨q + 1, by omega, by go_num, by rw [TQ.out], Lib.hid (below_n HB2.out _)⟩
                          case measure => simp [intOf]; omega
                      · obtain rfl : m = q := by omega
                        have TH := thr_all LW.out.symm MT.out
                        rw [TH]
                        clear TH y0 y1
                        have hn1 : decide (tt < t.at_) = false := decide_eq_false (by omega)
                        have hn2 : decide (t.at_ ≤ s'.now) = false := decide_eq_false (by omega)
                        rcases Nat.eq_zero_or_pos k with h0 | h0
                        · subst h0
                          go_wp2_with fail
                          go_quiet (fail)
                          go_wp2
                          go_roundw
                          case rel => exact ⟨1, by omega, by go_num, Lib.hid (below_n HB2.out _)⟩
                          case measure => simp [intOf]; omega
                        · obtain ⟨j, rfl⟩ : ∃ j, k = j + 1 := ⟨k - 1, by omega⟩
                          have hjd : j < d.length := by omega
                          obtain ⟨b', o', tp, e', -, htp, p0, p1, p2, -⟩ := (D4.out.on HB2.out).at_ (k := j) hjd
                          injection e' with e'
                          injection e' with e3 e4
                          subst e3 e4
                          have hn3 : decide (t.at_ < tp.at_) = false := decide_eq_false (by have := UP.out j tp t htp.out ht.out; omega)
                          obtain ⟨y0, y1, y2⟩ := DC.out _ HB2.out
                          have hw1 : (((j + 1 : Nat) : Int) - 1) = (j : Int) := by omega
                          have hw2 : IntKind.i64.wrap (j : Int) = (j : Int) := IntWalk.i64_in _ (by omega)
                          have hw3 : IntKind.i64.wrap ((j : Int) + 1 - 1) = (j : Int) := by rw [show ((j : Int) + 1 - 1) = j by omega]; exact hw2
                          have hj1 : (j : Int) < (dn : Int) := by omega
                          have hj2 : j < dn := by omega
                          go_wp2_with fail
                          go_quiet (fail)
                          go_wp2
                          go_roundw
                          case rel => exact ⟨j + 2, by omega, by go_num, Lib.hid (below_n HB2.out _)⟩
                          case measure => simp [intOf]; omega
                  · obtain rfl : dn = k := by omega
                    have TF := Lib.hid (T4.out.on HB.out)
                    have WF := Lib.hid (WN4.out.on HB.out)
                    have CT2 : Hid (c + dn + s2.l.length = m) := Lib.hid (by have := CT.out; have := DL.out; have := HD.out; omega)
                    have IN2 : Hid (∀ y ∈ s2.l, y ∈ want) := Lib.hid fun y hy => IN.out y (SUB.out y hy)
                    clear WN4 D5 T4 D4
                    go_wp2
                    go_roundw
                    case rel => exact ⟨i + 1, c + dn, s2, by omega, hdm, by go_num, by rw [NOW.out], by go_num, TF, WF, IN2, CT2, NIL⟩
                    case measure => simp [intOf]; omega
          · obtain rfl : i = nz + 1 := by omega
            have hd : decide (((nz + 1 : Nat) : Int) ≤ (nz : Int)) = false := decide_eq_false (by omega)
            have hd' : decide ((nz : Int) + 1 ≤ (nz : Int)) = false := decide_eq_false (by omega)
            have E := NI.out rfl
            obtain rfl : c = m := by have := CT.out; rw [E] at this; simpa using this
            have KL := Lib.hid (knLen TS'.out (n := 0) (by rw [E]; rfl))
            go_wp2_with fail
            (with_reducible refine KL.out.mono ?_); rintro e w9 ⟨rfl, b9⟩
            go_wp2
            go_ret
            exact ⟨rfl, Lib.hid (TS'.out.on b9.out).below⟩
end Go.Proofs.Ytaieoneilljagaa
