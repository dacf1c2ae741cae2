/-
  The law WheelPlays, walked: any acts on both wheels.
-/
import Derived.Test.YtaieoneilljagaaWhTwo
import Derived.Test.YtaieoneilljagaaWhAwake
import Derived.Deep.CutBlock
import Derived.Deep.CutRange
import Derived.Deep.RegionHeld
namespace Go.Proofs.Ytaieoneilljagaa
open Go.RowKit
/-- One act as it came in. -/
structure Wh.Ac where
  op : Int
  run : Int
  task : Int
  at_ : Int
def Wh.ac0 : Wh.Ac := ⟨0, 0, 0, 0⟩
def Wh.AcAt (w : World) (b o : Nat) (a : Wh.Ac) : Prop := (w.cell? ⟨b, o, none⟩ = some (.int .i64 a.op) ∧ w.cell? ⟨b, o + 1, none⟩ = some (.int .i64 a.run) ∧ w.cell? ⟨b, o + 2, none⟩ = some (.int .i64 a.task) ∧ w.cell? ⟨b, o + 3, none⟩ = some (.int .i64 a.at_)) ∧ is64 a.run ∧ is64 a.task ∧ is64 a.at_
/-- The row of acts that came in. -/
def Wh.Acts (w : World) (A : Option Addr) (l : List Wh.Ac) : Prop := 0 < l.length → ∃ b off, A = some ⟨b, off, none⟩ ∧ b < w.heap.size ∧ ∀ i, i < l.length → Wh.AcAt w b (off + i * 4) (l.getD i Wh.ac0)
theorem Wh.Acts.at_ {w0 w : World} {A : Option Addr} {l : List Wh.Ac} (h : Wh.Acts w0 A l) (hb : Below w0.heap.size w0 w) {i : Nat} (hi : i < l.length) : ∃ b off op run task at_, A = some ⟨b, off, none⟩ ∧ (w.cell? ⟨b, off + i * 4, none⟩ = some (.int .i64 op) ∧ w.cell? ⟨b, off + i * 4 + 1, none⟩ = some (.int .i64 run) ∧ w.cell? ⟨b, off + i * 4 + 2, none⟩ = some (.int .i64 task) ∧ w.cell? ⟨b, off + i * 4 + 3, none⟩ = some (.int .i64 at_)) ∧ Hid (is64 run) ∧ Hid (is64 task) ∧ Hid (is64 at_) := by
  obtain ⟨b, off, e, hlt, ha⟩ := h (by omega)
  obtain ⟨⟨c0, c1, c2, c3⟩, h1, h2, h3⟩ := ha i hi
  have k : ∀ o, w.cell? ⟨b, o, none⟩ = w0.cell? ⟨b, o, none⟩ := fun o => hb.cell (p := ⟨b, o, none⟩) hlt
  exact ⟨b, off, _, _, _, _, e, ⟨(k _).trans c0, (k _).trans c1, (k _).trans c2, (k _).trans c3⟩, Lib.hid h1, Lib.hid h2, Lib.hid h3⟩
theorem toL_le (s : Wh.S) (now : Int) : (Wh.toL s now).length ≤ s.l.length := by
  unfold Wh.toL
  split
  · exact Nat.zero_le _
  · exact (List.takeWhile_sublist _).length_le
set_option maxRecDepth 20000 in
set_option maxHeartbeats 8000000 in
theorem plays_walk (A : Option Addr) (l : List Wh.Ac) (n cap : Nat) (w : World) (hn : n = l.length) (hm : n ≤ 9223372036854775807) (hl : Wh.Acts w A l) :
    Calls Try.prog 4 #[.slice A n cap] w (BoolP w true) := by
  have AW := Lib.hid (awake_any w)
  have NW := Lib.hid (fun w' => oneNew w')
  have HL := Lib.hid hl
  have HN := Lib.hid hn
  clear hl hn
  by_cases h60 : (60 : Int) < (n : Int)
  · go_enter Try.func4, Try.ntmps4
    go_wp2_with fail
    (with_reducible refine AW.out.mono ?_); rintro e w1 ⟨rfl, b1⟩
    go_wp2
    go_ret
    exact ⟨rfl, b1⟩
  · have hd60 : decide ((60 : Int) < (n : Int)) = false := decide_eq_false h60
    go_enter Try.func4, Try.ntmps4
    go_wp2_with fail
    (with_reducible refine AW.out.mono ?_); rintro e w1 ⟨rfl, b1⟩
    go_wp2_with fail
    (with_reducible refine (NW.out w1).mono ?_); rintro e w2 ⟨T, rfl, r2, -, -⟩
    have TW := Lib.hid (two_start (r2.out.from b1.out) (R := w2.heap.size) (w' := w2.alloc (.cells #[.int .i64 0, .slice none 0 0] 44)) ((Below.refl _ _).alloc (Nat.le_refl _) _) (Nat.le_refl _) (heap_alloc_new ..))
    clear r2 b1 AW NW
    go_upto_region 6 with fail
    generalize w2.alloc (.cells #[.int .i64 0, .slice none 0 0] 44) = w3 at *
    generalize w2.heap.size = R at *
    go_wp2_with fail
    go_loopw [5] (fun iv wr => ∃ i : Nat, i ≤ n ∧ iv = .int .i64 i ∧ ∃ s, Hid (TwoW w wr T R s s i i noG)) (fun iv _ => n - (intOf iv).toNat)
    case atStart => exact ⟨0, Nat.zero_le _, rfl, _, TW⟩
    case round =>
      obtain ⟨i, hi, rfl, s, TS⟩ := hrel
      clear TW
      by_cases hlt : i < n
      · have hlt' : (i : Int) < (n : Int) := by omega
        obtain ⟨b, off, op, run, task, at_, rfl, ⟨c0, c1, c2, c3⟩, hr, ht, ha⟩ := HL.out.at_ TS.out.below (i := i) (by rw [← HN.out]; exact hlt)
        go_upto_block 2 with fail
        obtain ⟨X, hX⟩ : ∃ X, X = wr.heap.size := ⟨_, rfl⟩
        obtain ⟨wX, hwX⟩ : ∃ wX, wX = wr.alloc (.cells #[.int .i64 op, .int .i64 run, .int .i64 task, .int .i64 at_] 46) := ⟨_, rfl⟩
        have T0 : Hid (TwoW w wX T R s s i i (fun k => k = X)) := Lib.hid (by
          rw [hwX, hX]
          exact TS.out.join ((Below.refl _ _).alloc (Nat.le_refl _) _) fun k hk => .inr (by subst hk; simp))
        have PX : Hid (wX.heap[X]? = some (.cells #[.int .i64 op, .int .i64 run, .int .i64 task, .int .i64 at_] 46 (0, 0))) := Lib.hid (by rw [hwX, hX]; exact heap_alloc_new ..)
        rw [← hwX, ← hX]
        have hi6 : i ≤ 999999 := by omega
        have OK3 : Hid (Wh.T.ok ⟨run, task, at_⟩) := Lib.hid (And.intro hr.out (And.intro ht.out ha.out))
        clear hwX hX c0 c1 c2 c3 TS
        have SC : Hid (∀ W, KeptG (fun k => k = X) wX W → (fun w' : World => w'.cell? ⟨X, 1, none⟩ = some (.int .i64 run) ∧ w'.cell? ⟨X, 2, none⟩ = some (.int .i64 task) ∧ w'.cell? ⟨X, 3, none⟩ = some (.int .i64 at_)) W) := Lib.hid fun W hW => by
          have e := (hW.2 X rfl).trans PX.out
          exact ⟨by simp [World.cell?, e], by simp [World.cell?, e], by simp [World.cell?, e]⟩
        have K0 : Hid (KeptG (fun k => k = X) wX wX) := Lib.hid ⟨Nat.le_refl _, fun _ _ => rfl⟩
        clear PX
        go_cut [7] from 29 to 174 (fun okv wx => okv = .bool true ∧ ∃ s', Hid (TwoW w wx T R s' s' (i + 1) (i + 1) (fun k => k = X)) ∧ Hid (KeptG (fun k => k = X) wX wx))
        case first =>
          by_cases o0 : op = 0
          · as_aux_lemma =>
              subst o0
              go_upto_region 19 with fail
              have TD := Lib.hid (T0.out.on (Below.refl _ _).drew)
              have KD := Lib.hid (T0.out.kept (Below.refl _ _).drew)
              refine wp_region_held_drew (S := fun w' => w'.cell? ⟨X, 1, none⟩ = some (.int .i64 run) ∧ w'.cell? ⟨X, 2, none⟩ = some (.int .i64 task) ∧ w'.cell? ⟨X, 3, none⟩ = some (.int .i64 at_)) (by kernel_rfl) ?hS1001 (fun hHeld => ?_)
              case hS1001 => exact SC.out _ KD.out
              refine wpAnyH_take (i := 0) (oi := ?o1002) (v := ?v1002) ?hi1002 (by kernel_rfl) (by kernel_rfl) (by kernel_rfl) ?hQ1002 (Or.inl ⟨?hg1002, ?hy1002⟩) (by assumption) ?rest1002
              case hi1002 => (simp only [List.getElem?_toArray, List.getElem?_cons_zero]; exact rfl)
              case hQ1002 => exact fun _ _ _ h => h
              case hg1002 => rfl
              case hy1002 => (intro w' hSw; (try dsimp only at hSw); go_simp; try with_reducible rfl)
              try simp only [Act.put, List.setIfInBounds_toArray, List.set_cons_zero, List.set_cons_succ]
              refine wpAnyH_take (i := 1) (oi := ?o1003) (v := ?v1003) ?hi1003 (by kernel_rfl) (by kernel_rfl) (by kernel_rfl) ?hQ1003 (Or.inl ⟨?hg1003, ?hy1003⟩) (by assumption) ?rest1003
              case hi1003 => (simp only [List.getElem?_toArray, List.getElem?_cons_zero, List.getElem?_cons_succ]; exact rfl)
              case hQ1003 => exact fun _ _ _ h => h
              case hg1003 => rfl
              case hy1003 => (intro w' hSw; (try dsimp only at hSw); go_simp; try with_reducible rfl)
              try simp only [Act.put, List.setIfInBounds_toArray, List.set_cons_zero, List.set_cons_succ]
              refine wpAnyH_take (i := 2) (oi := ?o1004) (v := ?v1004) ?hi1004 (by kernel_rfl) (by kernel_rfl) (by kernel_rfl) ?hQ1004 (Or.inl ⟨?hg1004, ?hy1004⟩) (by assumption) ?rest1004
              case hi1004 => (simp only [List.getElem?_toArray, List.getElem?_cons_zero, List.getElem?_cons_succ]; exact rfl)
              case hQ1004 => exact fun _ _ _ h => h
              case hg1004 => rfl
              case hy1004 => (intro w' hSw; (try dsimp only at hSw); go_simp; try with_reducible rfl)
              try simp only [Act.put, List.setIfInBounds_toArray, List.set_cons_zero, List.set_cons_succ]
              refine wpAnyH_take (i := 3) (oi := ?o1005) (v := ?v1005) ?hi1005 (by kernel_rfl) (by kernel_rfl) (by kernel_rfl) ?hQ1005 (Or.inl ⟨?hg1005, ?hy1005⟩) (by assumption) ?rest1005
              case hi1005 => (simp only [List.getElem?_toArray, List.getElem?_cons_zero, List.getElem?_cons_succ]; exact rfl)
              case hQ1005 => exact fun _ _ _ h => h
              case hg1005 => rfl
              case hy1005 => (intro w' hSw; (try dsimp only at hSw); go_simp; try with_reducible rfl)
              try simp only [Act.put, List.setIfInBounds_toArray, List.set_cons_zero, List.set_cons_succ]
              refine wpAnyH_take (i := 4) (oi := ?o1006) (v := ?v1006) ?hi1006 (by kernel_rfl) (by kernel_rfl) (by kernel_rfl) ?hQ1006 (Or.inl ⟨?hg1006, ?hy1006⟩) (by assumption) ?rest1006
              case hi1006 => (simp only [List.getElem?_toArray, List.getElem?_cons_zero, List.getElem?_cons_succ]; exact rfl)
              case hQ1006 => exact fun _ _ _ h => h
              case hg1006 => rfl
              case hy1006 => (intro w' hSw; (try dsimp only at hSw); go_simp; try with_reducible rfl)
              try simp only [Act.put, List.setIfInBounds_toArray, List.set_cons_zero, List.set_cons_succ]
              refine wpAnyH_take (i := 6) (oi := ?o1007) (v := ?v1007) ?hi1007 (by kernel_rfl) (by kernel_rfl) (by kernel_rfl) ?hQ1007 (Or.inl ⟨?hg1007, ?hy1007⟩) (by assumption) ?rest1007
              case hi1007 => (simp only [List.getElem?_toArray, List.getElem?_cons_zero, List.getElem?_cons_succ]; exact rfl)
              case hQ1007 => exact fun _ _ _ h => h
              case hg1007 => rfl
              case hy1007 => (intro w' hSw; (try dsimp only at hSw); go_simp; try with_reducible rfl)
              try simp only [Act.put, List.setIfInBounds_toArray, List.set_cons_zero, List.set_cons_succ]
              refine wpAnyH_take (i := 7) (oi := ?o1008) (v := ?v1008) ?hi1008 (by kernel_rfl) (by kernel_rfl) (by kernel_rfl) ?hQ1008 (Or.inl ⟨?hg1008, ?hy1008⟩) (by assumption) ?rest1008
              case hi1008 => (simp only [List.getElem?_toArray, List.getElem?_cons_zero, List.getElem?_cons_succ]; exact rfl)
              case hQ1008 => exact fun _ _ _ h => h
              case hg1008 => rfl
              case hy1008 => (intro w' hSw; (try dsimp only at hSw); go_simp; try with_reducible rfl)
              try simp only [Act.put, List.setIfInBounds_toArray, List.set_cons_zero, List.set_cons_succ]
              refine wpAnyH_take (i := 8) (oi := ?o1009) (v := ?v1009) ?hi1009 (by kernel_rfl) (by kernel_rfl) (by kernel_rfl) ?hQ1009 (Or.inl ⟨?hg1009, ?hy1009⟩) (by assumption) ?rest1009
              case hi1009 => (simp only [List.getElem?_toArray, List.getElem?_cons_zero, List.getElem?_cons_succ]; exact rfl)
              case hQ1009 => exact fun _ _ _ h => h
              case hg1009 => rfl
              case hy1009 => (intro w' hSw; (try dsimp only at hSw); go_simp; try with_reducible rfl)
              try simp only [Act.put, List.setIfInBounds_toArray, List.set_cons_zero, List.set_cons_succ]
              refine wpAnyH_take (i := 9) (oi := ?o1010) (v := ?v1010) ?hi1010 (by kernel_rfl) (by kernel_rfl) (by kernel_rfl) ?hQ1010 (Or.inl ⟨?hg1010, ?hy1010⟩) (by assumption) ?rest1010
              case hi1010 => (simp only [List.getElem?_toArray, List.getElem?_cons_zero, List.getElem?_cons_succ]; exact rfl)
              case hQ1010 => exact fun _ _ _ h => h
              case hg1010 => rfl
              case hy1010 => (intro w' hSw; (try dsimp only at hSw); go_simp; try with_reducible rfl)
              try simp only [Act.put, List.setIfInBounds_toArray, List.set_cons_zero, List.set_cons_succ]
              refine wpAnyH_take (i := 10) (oi := ?o1011) (v := ?v1011) ?hi1011 (by kernel_rfl) (by kernel_rfl) (by kernel_rfl) ?hQ1011 (Or.inl ⟨?hg1011, ?hy1011⟩) (by assumption) ?rest1011
              case hi1011 => (simp only [List.getElem?_toArray, List.getElem?_cons_zero, List.getElem?_cons_succ]; exact rfl)
              case hQ1011 => exact fun _ _ _ h => h
              case hg1011 => rfl
              case hy1011 => (intro w' hSw; (try dsimp only at hSw); go_simp; try with_reducible rfl)
              try simp only [Act.put, List.setIfInBounds_toArray, List.set_cons_zero, List.set_cons_succ]
              refine wpAnyH_take (i := 11) (oi := ?o1012) (v := ?v1012) ?hi1012 (by kernel_rfl) (by kernel_rfl) (by kernel_rfl) ?hQ1012 (Or.inl ⟨?hg1012, ?hy1012⟩) (by assumption) ?rest1012
              case hi1012 => (simp only [List.getElem?_toArray, List.getElem?_cons_zero, List.getElem?_cons_succ]; exact rfl)
              case hQ1012 => exact fun _ _ _ h => h
              case hg1012 => rfl
              case hy1012 => (intro w' hSw; (try dsimp only at hSw); go_simp; try with_reducible rfl)
              try simp only [Act.put, List.setIfInBounds_toArray, List.set_cons_zero, List.set_cons_succ]
              refine wpAnyH_take (i := 12) (oi := ?o1013) (v := ?v1013) ?hi1013 (by kernel_rfl) (by kernel_rfl) (by kernel_rfl) ?hQ1013 (Or.inl ⟨?hg1013, ?hy1013⟩) (by assumption) ?rest1013
              case hi1013 => (simp only [List.getElem?_toArray, List.getElem?_cons_zero, List.getElem?_cons_succ]; exact rfl)
              case hQ1013 => exact fun _ _ _ h => h
              case hg1013 => rfl
              case hy1013 => (intro w' hSw; (try dsimp only at hSw); go_simp; try with_reducible rfl)
              try simp only [Act.put, List.setIfInBounds_toArray, List.set_cons_zero, List.set_cons_succ]
              refine wpAnyH_take (i := 13) (oi := ?o1014) (v := ?v1014) ?hi1014 (by kernel_rfl) (by kernel_rfl) (by kernel_rfl) ?hQ1014 (Or.inl ⟨?hg1014, ?hy1014⟩) (by assumption) ?rest1014
              case hi1014 => (simp only [List.getElem?_toArray, List.getElem?_cons_zero, List.getElem?_cons_succ]; exact rfl)
              case hQ1014 => exact fun _ _ _ h => h
              case hg1014 => rfl
              case hy1014 => (intro w' hSw; (try dsimp only at hSw); go_simp; try with_reducible rfl)
              try simp only [Act.put, List.setIfInBounds_toArray, List.set_cons_zero, List.set_cons_succ]
              refine wpAnyH_take (i := 14) (oi := ?o1015) (v := ?v1015) ?hi1015 (by kernel_rfl) (by kernel_rfl) (by kernel_rfl) ?hQ1015 (Or.inl ⟨?hg1015, ?hy1015⟩) (by assumption) ?rest1015
              case hi1015 => (simp only [List.getElem?_toArray, List.getElem?_cons_zero, List.getElem?_cons_succ]; exact rfl)
              case hQ1015 => exact fun _ _ _ h => h
              case hg1015 => rfl
              case hy1015 => (intro w' hSw; (try dsimp only at hSw); go_simp; try with_reducible rfl)
              try simp only [Act.put, List.setIfInBounds_toArray, List.set_cons_zero, List.set_cons_succ]
              refine wpAnyH_ready (rs := [5]) (by kernel_rfl) (by simp) ?_
              refine AllReadyH.cons (o := ?o1016) ?hi1016 (fun K hK => ?_) AllReadyH.nil
              case hi1016 => (simp only [List.getElem?_toArray, List.getElem?_cons_zero, List.getElem?_cons_succ]; exact rfl)
              (go_simp; go_at_call 8; (with_reducible refine (twoSet_p TD.out hi6 run task at_ OK3.out).mono ?_); rintro e u1 ⟨rfl, T1, k1⟩; try dsimp only)
              have K1 := Lib.hid (KD.out.trans k1.out)
              refine hK.out _ _ ?_ (fun hHeld => ?_)
              · exact SC.out _ K1.out
              clear hK K
              try simp only [Act.put, List.setIfInBounds_toArray, List.set_cons_zero, List.set_cons_succ]
              refine wpAnyH_ready (rs := [15]) (by kernel_rfl) (by simp) ?_
              refine AllReadyH.cons (o := ?o1017) ?hi1017 (fun K hK => ?_) AllReadyH.nil
              case hi1017 => (simp only [List.getElem?_toArray, List.getElem?_cons_zero, List.getElem?_cons_succ]; exact rfl)
              (go_simp; go_at_call 15; (with_reducible refine (twoSet_r T1.out T1.out.inv hi6 T1.out.lenr run task at_ OK3.out).mono ?_); rintro e u2 ⟨rfl, T2, k2⟩; try dsimp only)
              have K2 := Lib.hid (K1.out.trans k2.out)
              refine hK.out _ _ ?_ (fun hHeld => ?_)
              · exact SC.out _ K2.out
              clear hK K
              try simp only [Act.put, List.setIfInBounds_toArray, List.set_cons_zero, List.set_cons_succ]
              refine wpAnyH_take (i := 16) (oi := ?o1018) (v := ?v1018) ?hi1018 (by kernel_rfl) (by kernel_rfl) (by kernel_rfl) ?hQ1018 (Or.inl ⟨?hg1018, ?hy1018⟩) (by assumption) ?rest1018
              case hi1018 => (simp only [List.getElem?_toArray, List.getElem?_cons_zero, List.getElem?_cons_succ]; exact rfl)
              case hQ1018 => exact fun _ _ _ h => h
              case hg1018 => rfl
              case hy1018 => (intro w' hSw; (try dsimp only at hSw); go_simp; try with_reducible rfl)
              try simp only [Act.put, List.setIfInBounds_toArray, List.set_cons_zero, List.set_cons_succ]
              refine wpAnyH_take (i := 17) (oi := ?o1019) (v := ?v1019) ?hi1019 (by kernel_rfl) (by kernel_rfl) (by kernel_rfl) ?hQ1019 (Or.inl ⟨?hg1019, ?hy1019⟩) (by assumption) ?rest1019
              case hi1019 => (simp only [List.getElem?_toArray, List.getElem?_cons_zero, List.getElem?_cons_succ]; exact rfl)
              case hQ1019 => exact fun _ _ _ h => h
              case hg1019 => rfl
              case hy1019 => (intro w' hSw; (try dsimp only at hSw); go_simp; try with_reducible rfl)
              try simp only [Act.put, List.setIfInBounds_toArray, List.set_cons_zero, List.set_cons_succ]
              refine wpAnyH_done (by kernel_rfl) ?_ _
              go_wp2_with fail
              go_meet
              exact ⟨rfl, _, T2, K2⟩
          by_cases o1 : op = 1
          · as_aux_lemma =>
              subst o1
              go_upto_region 21 with fail
              have TD := Lib.hid (T0.out.on (Below.refl _ _).drew)
              have KD := Lib.hid (T0.out.kept (Below.refl _ _).drew)
              refine wp_region_held_drew (S := fun w' => w'.cell? ⟨X, 1, none⟩ = some (.int .i64 run) ∧ w'.cell? ⟨X, 2, none⟩ = some (.int .i64 task) ∧ w'.cell? ⟨X, 3, none⟩ = some (.int .i64 at_)) (by kernel_rfl) ?hS1020 (fun hHeld => ?_)
              case hS1020 => exact SC.out _ KD.out
              refine wpAnyH_take (i := 0) (oi := ?o1021) (v := ?v1021) ?hi1021 (by kernel_rfl) (by kernel_rfl) (by kernel_rfl) ?hQ1021 (Or.inl ⟨?hg1021, ?hy1021⟩) (by assumption) ?rest1021
              case hi1021 => (simp only [List.getElem?_toArray, List.getElem?_cons_zero]; exact rfl)
              case hQ1021 => exact fun _ _ _ h => h
              case hg1021 => rfl
              case hy1021 => (intro w' hSw; (try dsimp only at hSw); go_simp; try with_reducible rfl)
              try simp only [Act.put, List.setIfInBounds_toArray, List.set_cons_zero, List.set_cons_succ]
              refine wpAnyH_take (i := 1) (oi := ?o1022) (v := ?v1022) ?hi1022 (by kernel_rfl) (by kernel_rfl) (by kernel_rfl) ?hQ1022 (Or.inl ⟨?hg1022, ?hy1022⟩) (by assumption) ?rest1022
              case hi1022 => (simp only [List.getElem?_toArray, List.getElem?_cons_zero, List.getElem?_cons_succ]; exact rfl)
              case hQ1022 => exact fun _ _ _ h => h
              case hg1022 => rfl
              case hy1022 => (intro w' hSw; (try dsimp only at hSw); go_simp; try with_reducible rfl)
              try simp only [Act.put, List.setIfInBounds_toArray, List.set_cons_zero, List.set_cons_succ]
              refine wpAnyH_take (i := 2) (oi := ?o1023) (v := ?v1023) ?hi1023 (by kernel_rfl) (by kernel_rfl) (by kernel_rfl) ?hQ1023 (Or.inl ⟨?hg1023, ?hy1023⟩) (by assumption) ?rest1023
              case hi1023 => (simp only [List.getElem?_toArray, List.getElem?_cons_zero, List.getElem?_cons_succ]; exact rfl)
              case hQ1023 => exact fun _ _ _ h => h
              case hg1023 => rfl
              case hy1023 => (intro w' hSw; (try dsimp only at hSw); go_simp; try with_reducible rfl)
              try simp only [Act.put, List.setIfInBounds_toArray, List.set_cons_zero, List.set_cons_succ]
              refine wpAnyH_take (i := 4) (oi := ?o1024) (v := ?v1024) ?hi1024 (by kernel_rfl) (by kernel_rfl) (by kernel_rfl) ?hQ1024 (Or.inl ⟨?hg1024, ?hy1024⟩) (by assumption) ?rest1024
              case hi1024 => (simp only [List.getElem?_toArray, List.getElem?_cons_zero, List.getElem?_cons_succ]; exact rfl)
              case hQ1024 => exact fun _ _ _ h => h
              case hg1024 => rfl
              case hy1024 => (intro w' hSw; (try dsimp only at hSw); go_simp; try with_reducible rfl)
              try simp only [Act.put, List.setIfInBounds_toArray, List.set_cons_zero, List.set_cons_succ]
              refine wpAnyH_take (i := 5) (oi := ?o1025) (v := ?v1025) ?hi1025 (by kernel_rfl) (by kernel_rfl) (by kernel_rfl) ?hQ1025 (Or.inl ⟨?hg1025, ?hy1025⟩) (by assumption) ?rest1025
              case hi1025 => (simp only [List.getElem?_toArray, List.getElem?_cons_zero, List.getElem?_cons_succ]; exact rfl)
              case hQ1025 => exact fun _ _ _ h => h
              case hg1025 => rfl
              case hy1025 => (intro w' hSw; (try dsimp only at hSw); go_simp; try with_reducible rfl)
              try simp only [Act.put, List.setIfInBounds_toArray, List.set_cons_zero, List.set_cons_succ]
              refine wpAnyH_take (i := 6) (oi := ?o1026) (v := ?v1026) ?hi1026 (by kernel_rfl) (by kernel_rfl) (by kernel_rfl) ?hQ1026 (Or.inl ⟨?hg1026, ?hy1026⟩) (by assumption) ?rest1026
              case hi1026 => (simp only [List.getElem?_toArray, List.getElem?_cons_zero, List.getElem?_cons_succ]; exact rfl)
              case hQ1026 => exact fun _ _ _ h => h
              case hg1026 => rfl
              case hy1026 => (intro w' hSw; (try dsimp only at hSw); go_simp; try with_reducible rfl)
              try simp only [Act.put, List.setIfInBounds_toArray, List.set_cons_zero, List.set_cons_succ]
              refine wpAnyH_take (i := 7) (oi := ?o1027) (v := ?v1027) ?hi1027 (by kernel_rfl) (by kernel_rfl) (by kernel_rfl) ?hQ1027 (Or.inl ⟨?hg1027, ?hy1027⟩) (by assumption) ?rest1027
              case hi1027 => (simp only [List.getElem?_toArray, List.getElem?_cons_zero, List.getElem?_cons_succ]; exact rfl)
              case hQ1027 => exact fun _ _ _ h => h
              case hg1027 => rfl
              case hy1027 => (intro w' hSw; (try dsimp only at hSw); go_simp; try with_reducible rfl)
              try simp only [Act.put, List.setIfInBounds_toArray, List.set_cons_zero, List.set_cons_succ]
              refine wpAnyH_take (i := 8) (oi := ?o1028) (v := ?v1028) ?hi1028 (by kernel_rfl) (by kernel_rfl) (by kernel_rfl) ?hQ1028 (Or.inl ⟨?hg1028, ?hy1028⟩) (by assumption) ?rest1028
              case hi1028 => (simp only [List.getElem?_toArray, List.getElem?_cons_zero, List.getElem?_cons_succ]; exact rfl)
              case hQ1028 => exact fun _ _ _ h => h
              case hg1028 => rfl
              case hy1028 => (intro w' hSw; (try dsimp only at hSw); go_simp; try with_reducible rfl)
              try simp only [Act.put, List.setIfInBounds_toArray, List.set_cons_zero, List.set_cons_succ]
              refine wpAnyH_take (i := 9) (oi := ?o1029) (v := ?v1029) ?hi1029 (by kernel_rfl) (by kernel_rfl) (by kernel_rfl) ?hQ1029 (Or.inl ⟨?hg1029, ?hy1029⟩) (by assumption) ?rest1029
              case hi1029 => (simp only [List.getElem?_toArray, List.getElem?_cons_zero, List.getElem?_cons_succ]; exact rfl)
              case hQ1029 => exact fun _ _ _ h => h
              case hg1029 => rfl
              case hy1029 => (intro w' hSw; (try dsimp only at hSw); go_simp; try with_reducible rfl)
              try simp only [Act.put, List.setIfInBounds_toArray, List.set_cons_zero, List.set_cons_succ]
              refine wpAnyH_take (i := 10) (oi := ?o1030) (v := ?v1030) ?hi1030 (by kernel_rfl) (by kernel_rfl) (by kernel_rfl) ?hQ1030 (Or.inl ⟨?hg1030, ?hy1030⟩) (by assumption) ?rest1030
              case hi1030 => (simp only [List.getElem?_toArray, List.getElem?_cons_zero, List.getElem?_cons_succ]; exact rfl)
              case hQ1030 => exact fun _ _ _ h => h
              case hg1030 => rfl
              case hy1030 => (intro w' hSw; (try dsimp only at hSw); go_simp; try with_reducible rfl)
              try simp only [Act.put, List.setIfInBounds_toArray, List.set_cons_zero, List.set_cons_succ]
              refine wpAnyH_ready (rs := [3]) (by kernel_rfl) (by simp) ?_
              refine AllReadyH.cons (o := ?o1031) ?hi1031 (fun K hK => ?_) AllReadyH.nil
              case hi1031 => (simp only [List.getElem?_toArray, List.getElem?_cons_zero, List.getElem?_cons_succ]; exact rfl)
              (go_simp; go_at_call 9; (with_reducible refine (twoDrop_p TD.out run task hr.out ht.out).mono ?_); rintro e u1 ⟨rfl, T1, k1⟩; try dsimp only)
              have K1 := Lib.hid (KD.out.trans k1.out)
              refine hK.out _ _ ?_ (fun hHeld => ?_)
              · exact SC.out _ K1.out
              clear hK K
              try simp only [Act.put, List.setIfInBounds_toArray, List.set_cons_zero, List.set_cons_succ]
              refine wpAnyH_ready (rs := [11]) (by kernel_rfl) (by simp) ?_
              refine AllReadyH.cons (o := ?o1032) ?hi1032 (fun K hK => ?_) AllReadyH.nil
              case hi1032 => (simp only [List.getElem?_toArray, List.getElem?_cons_zero, List.getElem?_cons_succ]; exact rfl)
              (go_simp; go_at_call 16; (with_reducible refine (twoDrop_r T1.out T1.out.inv T1.out.lenr run task).mono ?_); rintro e u2 ⟨rfl, T2, k2⟩; try dsimp only)
              have K2 := Lib.hid (K1.out.trans k2.out)
              refine hK.out _ _ ?_ (fun hHeld => ?_)
              · exact SC.out _ K2.out
              clear hK K
              try simp only [Act.put, List.setIfInBounds_toArray, List.set_cons_zero, List.set_cons_succ]
              refine wpAnyH_take (i := 12) (oi := ?o1033) (v := ?v1033) ?hi1033 (by kernel_rfl) (by kernel_rfl) (by kernel_rfl) ?hQ1033 (Or.inl ⟨?hg1033, ?hy1033⟩) (by assumption) ?rest1033
              case hi1033 => (simp only [List.getElem?_toArray, List.getElem?_cons_zero, List.getElem?_cons_succ]; exact rfl)
              case hQ1033 => exact fun _ _ _ h => h
              case hg1033 => rfl
              case hy1033 => (intro w' hSw; (try dsimp only at hSw); go_simp; try with_reducible rfl)
              try simp only [Act.put, List.setIfInBounds_toArray, List.set_cons_zero, List.set_cons_succ]
              refine wpAnyH_take (i := 13) (oi := ?o1034) (v := ?v1034) ?hi1034 (by kernel_rfl) (by kernel_rfl) (by kernel_rfl) ?hQ1034 (Or.inl ⟨?hg1034, ?hy1034⟩) (by assumption) ?rest1034
              case hi1034 => (simp only [List.getElem?_toArray, List.getElem?_cons_zero, List.getElem?_cons_succ]; exact rfl)
              case hQ1034 => exact fun _ _ _ h => h
              case hg1034 => rfl
              case hy1034 => (intro w' hSw; (try dsimp only at hSw); go_simp; try with_reducible rfl)
              try simp only [Act.put, List.setIfInBounds_toArray, List.set_cons_zero, List.set_cons_succ]
              refine wpAnyH_done (by kernel_rfl) ?_ _
              have T3 := Lib.hid (T2.out.more (Nat.le_succ i) (Nat.le_succ i))
              go_wp2_with fail
              go_meet
              exact ⟨rfl, _, T3, K2⟩
          as_aux_lemma =>
            have q0 : (op == 0) = false := by simpa using o0
            have q1 : (op == 1) = false := by simpa using o1
            obtain ⟨y1, y2, y3⟩ := SC.out _ K0.out
            have I0 := T0.out.inv
            obtain ⟨n0, n1⟩ := And.intro I0.now0 I0.now1
            have yn := T0.out.now
            clear I0
            by_cases h0 : 0 ≤ at_
            · by_cases h1 : at_ ≤ 1073741824
              · have hw : IntKind.i64.wrap (s.now + at_) = s.now + at_ := IntWalk.i64_in _ (by omega)
                have hs : is64 (s.now + at_) := ⟨by omega, by omega⟩
                go_wp2_with fail
                (with_reducible refine (twoTo_p T0.out hi6 (s.now + at_) hs).mono ?_); rintro e w4 ⟨A4, c4, rfl, T4, K4, D4⟩
                go_wp2_with fail
                (with_reducible refine (twoTo_r T4.out T4.out.inv T4.out.lenr (s.now + at_)).mono ?_); rintro e w5 ⟨⟨A5, c5, rfl, D5⟩, T5, K5⟩
                have D6 := Lib.hid (D4.out.kept K5.out fun k hk => .inr hk)
                have LT := Lib.hid (toL_le s (s.now + at_))
                go_wp2_with fail
                (with_reducible refine (dues_same _ _ A4 A5 (Wh.toL s (s.now + at_)) _ c4 c5 w5 rfl D6.out D5.out (by have := LT.out; have := T0.out.lenr; omega)).mono ?_); rintro e w6 ⟨rfl, b6⟩
                have T6 := Lib.hid (((T5.out.on b6.out).fewer (G' := fun k => k = X) fun k hk => .inl hk).more (Nat.le_succ i) (Nat.le_succ i))
                have K6 := Lib.hid (((K4.out.trans (K5.out.fewer fun k hk => .inl hk))).trans ((T5.out.kept b6.out).fewer fun k hk => .inl hk))
                go_wp2_with fail
                go_meet
                exact ⟨rfl, _, T6, K6⟩
              · have hd : decide (at_ ≤ 1073741824) = false := decide_eq_false h1
                go_wp2_with fail
                (with_reducible refine (twoTo_p T0.out hi6 at_ ha.out).mono ?_); rintro e w4 ⟨A4, c4, rfl, T4, K4, D4⟩
                go_wp2_with fail
                (with_reducible refine (twoTo_r T4.out T4.out.inv T4.out.lenr at_).mono ?_); rintro e w5 ⟨⟨A5, c5, rfl, D5⟩, T5, K5⟩
                have D6 := Lib.hid (D4.out.kept K5.out fun k hk => .inr hk)
                have LT := Lib.hid (toL_le s at_)
                go_wp2_with fail
                (with_reducible refine (dues_same _ _ A4 A5 (Wh.toL s at_) _ c4 c5 w5 rfl D6.out D5.out (by have := LT.out; have := T0.out.lenr; omega)).mono ?_); rintro e w6 ⟨rfl, b6⟩
                have T6 := Lib.hid (((T5.out.on b6.out).fewer (G' := fun k => k = X) fun k hk => .inl hk).more (Nat.le_succ i) (Nat.le_succ i))
                have K6 := Lib.hid (((K4.out.trans (K5.out.fewer fun k hk => .inl hk))).trans ((T5.out.kept b6.out).fewer fun k hk => .inl hk))
                go_wp2_with fail
                go_meet
                exact ⟨rfl, _, T6, K6⟩
            · have hd : decide (0 ≤ at_) = false := decide_eq_false h0
              go_wp2_with fail
              (with_reducible refine (twoTo_p T0.out hi6 at_ ha.out).mono ?_); rintro e w4 ⟨A4, c4, rfl, T4, K4, D4⟩
              go_wp2_with fail
              (with_reducible refine (twoTo_r T4.out T4.out.inv T4.out.lenr at_).mono ?_); rintro e w5 ⟨⟨A5, c5, rfl, D5⟩, T5, K5⟩
              have D6 := Lib.hid (D4.out.kept K5.out fun k hk => .inr hk)
              have LT := Lib.hid (toL_le s at_)
              go_wp2_with fail
              (with_reducible refine (dues_same _ _ A4 A5 (Wh.toL s at_) _ c4 c5 w5 rfl D6.out D5.out (by have := LT.out; have := T0.out.lenr; omega)).mono ?_); rintro e w6 ⟨rfl, b6⟩
              have T6 := Lib.hid (((T5.out.on b6.out).fewer (G' := fun k => k = X) fun k hk => .inl hk).more (Nat.le_succ i) (Nat.le_succ i))
              have K6 := Lib.hid (((K4.out.trans (K5.out.fewer fun k hk => .inl hk))).trans ((T5.out.kept b6.out).fewer fun k hk => .inl hk))
              go_wp2_with fail
              go_meet
              exact ⟨rfl, _, T6, K6⟩
        case rest =>
          obtain ⟨rfl, s', T6, K6⟩ := hcut
          clear T0 K0
          obtain ⟨y1, y2, y3⟩ := SC.out _ K6.out
          go_wp2_with fail
          (with_reducible refine (twoAt_p T6.out run task hr.out ht.out).mono ?_); rintro e w7 ⟨rfl, b7⟩
          clear y1 y2 y3
          have T7 := Lib.hid (T6.out.on b7.out)
          obtain ⟨y1, y2, y3⟩ := SC.out _ (K6.out.trans (T6.out.kept b7.out))
          go_wp2_with fail
          (with_reducible refine (twoAt_r T7.out run task).mono ?_); rintro e _ ⟨rfl, rfl⟩
          clear y1 y2 y3
          go_wp2_with fail
          (with_reducible refine (twoNext_p T7.out (by omega)).mono ?_); rintro e w8 ⟨rfl, b8⟩
          have T8 := Lib.hid (T7.out.on b8.out)
          go_wp2_with fail
          (with_reducible refine (twoNext_r T8.out).mono ?_); rintro e _ ⟨rfl, rfl⟩
          go_upto_region 26 with fail
          generalize (Wh.atV s' run task).getD 0 = x1 at *
          generalize (Wh.atV s' run task).isSome = x2 at *
          generalize (Wh.nextV s').getD 0 = x3 at *
          generalize (Wh.nextV s').isSome = x4 at *
          have T9 := Lib.hid (T8.out.on (Below.refl _ _).drew)
          clear SC K6 T6 b7 T7 b8
          refine wp_region_held_drew (S := fun w' => w'.cell? ⟨R, 0, none⟩ = some (.int .i64 s'.now)) (by kernel_rfl) ?hS1035 (fun hHeld => ?_)
          case hS1035 => exact T9.out.now
          refine wpAnyH_take (i := 0) (oi := ?o1036) (v := ?v1036) ?hi1036 (by kernel_rfl) (by kernel_rfl) (by kernel_rfl) ?hQ1036 (Or.inl ⟨?hg1036, ?hy1036⟩) (by assumption) ?rest1036
          case hi1036 => (simp only [List.getElem?_toArray, List.getElem?_cons_zero]; exact rfl)
          case hQ1036 => exact fun _ _ _ h => h
          case hg1036 => rfl
          case hy1036 => (intro w' hSw; (try dsimp only at hSw); go_simp; try with_reducible rfl)
          try simp only [Act.put, List.setIfInBounds_toArray, List.set_cons_zero, List.set_cons_succ]
          refine wpAnyH_take (i := 1) (oi := ?o1037) (v := ?v1037) ?hi1037 (by kernel_rfl) (by kernel_rfl) (by kernel_rfl) ?hQ1037 (Or.inl ⟨?hg1037, ?hy1037⟩) (by assumption) ?rest1037
          case hi1037 => (simp only [List.getElem?_toArray, List.getElem?_cons_zero, List.getElem?_cons_succ]; exact rfl)
          case hQ1037 => exact fun _ _ _ h => h
          case hg1037 => rfl
          case hy1037 => (intro w' hSw; (try dsimp only at hSw); go_simp; try with_reducible rfl)
          try simp only [Act.put, List.setIfInBounds_toArray, List.set_cons_zero, List.set_cons_succ]
          refine wpAnyH_take (i := 2) (oi := ?o1038) (v := ?v1038) ?hi1038 (by kernel_rfl) (by kernel_rfl) (by kernel_rfl) ?hQ1038 (Or.inl ⟨?hg1038, ?hy1038⟩) (by assumption) ?rest1038
          case hi1038 => (simp only [List.getElem?_toArray, List.getElem?_cons_zero, List.getElem?_cons_succ]; exact rfl)
          case hQ1038 => exact fun _ _ _ h => h
          case hg1038 => rfl
          case hy1038 => (intro w' hSw; (try dsimp only at hSw); go_simp; try with_reducible rfl)
          try simp only [Act.put, List.setIfInBounds_toArray, List.set_cons_zero, List.set_cons_succ]
          refine wpAnyH_take (i := 3) (oi := ?o1039) (v := ?v1039) ?hi1039 (by kernel_rfl) (by kernel_rfl) (by kernel_rfl) ?hQ1039 (Or.inl ⟨?hg1039, ?hy1039⟩) (by assumption) ?rest1039
          case hi1039 => (simp only [List.getElem?_toArray, List.getElem?_cons_zero, List.getElem?_cons_succ]; exact rfl)
          case hQ1039 => exact fun _ _ _ h => h
          case hg1039 => rfl
          case hy1039 => (intro w' hSw; (try dsimp only at hSw); go_simp; try with_reducible rfl)
          try simp only [Act.put, List.setIfInBounds_toArray, List.set_cons_zero, List.set_cons_succ]
          refine wpAnyH_take (i := 4) (oi := ?o1040) (v := ?v1040) ?hi1040 (by kernel_rfl) (by kernel_rfl) (by kernel_rfl) ?hQ1040 (Or.inl ⟨?hg1040, ?hy1040⟩) (by assumption) ?rest1040
          case hi1040 => (simp only [List.getElem?_toArray, List.getElem?_cons_zero, List.getElem?_cons_succ]; exact rfl)
          case hQ1040 => exact fun _ _ _ h => h
          case hg1040 => rfl
          case hy1040 => (intro w' hSw; (try dsimp only at hSw); go_simp; try with_reducible rfl)
          try simp only [Act.put, List.setIfInBounds_toArray, List.set_cons_zero, List.set_cons_succ]
          refine wpAnyH_take (i := 5) (oi := ?o1041) (v := ?v1041) ?hi1041 (by kernel_rfl) (by kernel_rfl) (by kernel_rfl) ?hQ1041 (Or.inl ⟨?hg1041, ?hy1041⟩) (by assumption) ?rest1041
          case hi1041 => (simp only [List.getElem?_toArray, List.getElem?_cons_zero, List.getElem?_cons_succ]; exact rfl)
          case hQ1041 => exact fun _ _ _ h => h
          case hg1041 => rfl
          case hy1041 => (intro w' hSw; (try dsimp only at hSw); go_simp; try with_reducible rfl)
          try simp only [Act.put, List.setIfInBounds_toArray, List.set_cons_zero, List.set_cons_succ]
          refine wpAnyH_take (i := 6) (oi := ?o1042) (v := ?v1042) ?hi1042 (by kernel_rfl) (by kernel_rfl) (by kernel_rfl) ?hQ1042 (Or.inl ⟨?hg1042, ?hy1042⟩) (by assumption) ?rest1042
          case hi1042 => (simp only [List.getElem?_toArray, List.getElem?_cons_zero, List.getElem?_cons_succ]; exact rfl)
          case hQ1042 => exact fun _ _ _ h => h
          case hg1042 => rfl
          case hy1042 => (intro w' hSw; (try dsimp only at hSw); go_simp; try with_reducible rfl)
          try simp only [Act.put, List.setIfInBounds_toArray, List.set_cons_zero, List.set_cons_succ]
          refine wpAnyH_take (i := 7) (oi := ?o1043) (v := ?v1043) ?hi1043 (by kernel_rfl) (by kernel_rfl) (by kernel_rfl) ?hQ1043 (Or.inl ⟨?hg1043, ?hy1043⟩) (by assumption) ?rest1043
          case hi1043 => (simp only [List.getElem?_toArray, List.getElem?_cons_zero, List.getElem?_cons_succ]; exact rfl)
          case hQ1043 => exact fun _ _ _ h => h
          case hg1043 => rfl
          case hy1043 => (intro w' hSw; (try dsimp only at hSw); go_simp; try with_reducible rfl)
          try simp only [Act.put, List.setIfInBounds_toArray, List.set_cons_zero, List.set_cons_succ]
          refine wpAnyH_take (i := 8) (oi := ?o1044) (v := ?v1044) ?hi1044 (by kernel_rfl) (by kernel_rfl) (by kernel_rfl) ?hQ1044 (Or.inl ⟨?hg1044, ?hy1044⟩) (by assumption) ?rest1044
          case hi1044 => (simp only [List.getElem?_toArray, List.getElem?_cons_zero, List.getElem?_cons_succ]; exact rfl)
          case hQ1044 => exact fun _ _ _ h => h
          case hg1044 => rfl
          case hy1044 => (intro w' hSw; (try dsimp only at hSw); go_simp; try with_reducible rfl)
          try simp only [Act.put, List.setIfInBounds_toArray, List.set_cons_zero, List.set_cons_succ]
          refine wpAnyH_take (i := 9) (oi := ?o1045) (v := ?v1045) ?hi1045 (by kernel_rfl) (by kernel_rfl) (by kernel_rfl) ?hQ1045 (Or.inl ⟨?hg1045, ?hy1045⟩) (by assumption) ?rest1045
          case hi1045 => (simp only [List.getElem?_toArray, List.getElem?_cons_zero, List.getElem?_cons_succ]; exact rfl)
          case hQ1045 => exact fun _ _ _ h => h
          case hg1045 => rfl
          case hy1045 => (intro w' hSw; (try dsimp only at hSw); go_simp; try with_reducible rfl)
          try simp only [Act.put, List.setIfInBounds_toArray, List.set_cons_zero, List.set_cons_succ]
          refine wpAnyH_take (i := 10) (oi := ?o1046) (v := ?v1046) ?hi1046 (by kernel_rfl) (by kernel_rfl) (by kernel_rfl) ?hQ1046 (Or.inl ⟨?hg1046, ?hy1046⟩) (by assumption) ?rest1046
          case hi1046 => (simp only [List.getElem?_toArray, List.getElem?_cons_zero, List.getElem?_cons_succ]; exact rfl)
          case hQ1046 => exact fun _ _ _ h => h
          case hg1046 => rfl
          case hy1046 => (intro w' hSw; (try dsimp only at hSw); go_simp; try with_reducible rfl)
          try simp only [Act.put, List.setIfInBounds_toArray, List.set_cons_zero, List.set_cons_succ]
          refine wpAnyH_take (i := 11) (oi := ?o1047) (v := ?v1047) ?hi1047 (by kernel_rfl) (by kernel_rfl) (by kernel_rfl) ?hQ1047 (Or.inl ⟨?hg1047, ?hy1047⟩) (by assumption) ?rest1047
          case hi1047 => (simp only [List.getElem?_toArray, List.getElem?_cons_zero, List.getElem?_cons_succ]; exact rfl)
          case hQ1047 => exact fun _ _ _ h => h
          case hg1047 => rfl
          case hy1047 => (intro w' hSw; (try dsimp only at hSw); go_simp; try with_reducible rfl)
          try simp only [Act.put, List.setIfInBounds_toArray, List.set_cons_zero, List.set_cons_succ]
          refine wpAnyH_take (i := 12) (oi := ?o1048) (v := ?v1048) ?hi1048 (by kernel_rfl) (by kernel_rfl) (by kernel_rfl) ?hQ1048 (Or.inl ⟨?hg1048, ?hy1048⟩) (by assumption) ?rest1048
          case hi1048 => (simp only [List.getElem?_toArray, List.getElem?_cons_zero, List.getElem?_cons_succ]; exact rfl)
          case hQ1048 => exact fun _ _ _ h => h
          case hg1048 => rfl
          case hy1048 => (intro w' hSw; (try dsimp only at hSw); go_simp; try with_reducible rfl)
          try simp only [Act.put, List.setIfInBounds_toArray, List.set_cons_zero, List.set_cons_succ]
          refine wpAnyH_take (i := 13) (oi := ?o1049) (v := ?v1049) ?hi1049 (by kernel_rfl) (by kernel_rfl) (by kernel_rfl) ?hQ1049 (Or.inl ⟨?hg1049, ?hy1049⟩) (by assumption) ?rest1049
          case hi1049 => (simp only [List.getElem?_toArray, List.getElem?_cons_zero, List.getElem?_cons_succ]; exact rfl)
          case hQ1049 => exact fun _ _ _ h => h
          case hg1049 => rfl
          case hy1049 => (intro w' hSw; (try dsimp only at hSw); go_simp; try with_reducible rfl)
          try simp only [Act.put, List.setIfInBounds_toArray, List.set_cons_zero, List.set_cons_succ]
          refine wpAnyH_take (i := 14) (oi := ?o1050) (v := ?v1050) ?hi1050 (by kernel_rfl) (by kernel_rfl) (by kernel_rfl) ?hQ1050 (Or.inl ⟨?hg1050, ?hy1050⟩) (by assumption) ?rest1050
          case hi1050 => (simp only [List.getElem?_toArray, List.getElem?_cons_zero, List.getElem?_cons_succ]; exact rfl)
          case hQ1050 => exact fun _ _ _ h => h
          case hg1050 => rfl
          case hy1050 => (intro w' hSw; (try dsimp only at hSw); go_simp; try with_reducible rfl)
          try simp only [Act.put, List.setIfInBounds_toArray, List.set_cons_zero, List.set_cons_succ]
          refine wpAnyH_take (i := 15) (oi := ?o1051) (v := ?v1051) ?hi1051 (by kernel_rfl) (by kernel_rfl) (by kernel_rfl) ?hQ1051 (Or.inl ⟨?hg1051, ?hy1051⟩) (by assumption) ?rest1051
          case hi1051 => (simp only [List.getElem?_toArray, List.getElem?_cons_zero, List.getElem?_cons_succ]; exact rfl)
          case hQ1051 => exact fun _ _ _ h => h
          case hg1051 => rfl
          case hy1051 => (intro w' hSw; (try dsimp only at hSw); go_simp; try with_reducible rfl)
          try simp only [Act.put, List.setIfInBounds_toArray, List.set_cons_zero, List.set_cons_succ]
          refine wpAnyH_take (i := 16) (oi := ?o1052) (v := ?v1052) ?hi1052 (by kernel_rfl) (by kernel_rfl) (by kernel_rfl) ?hQ1052 (Or.inl ⟨?hg1052, ?hy1052⟩) (by assumption) ?rest1052
          case hi1052 => (simp only [List.getElem?_toArray, List.getElem?_cons_zero, List.getElem?_cons_succ]; exact rfl)
          case hQ1052 => exact fun _ _ _ h => h
          case hg1052 => rfl
          case hy1052 => (intro w' hSw; (try dsimp only at hSw); go_simp; try with_reducible rfl)
          try simp only [Act.put, List.setIfInBounds_toArray, List.set_cons_zero, List.set_cons_succ]
          refine wpAnyH_take (i := 17) (oi := ?o1053) (v := ?v1053) ?hi1053 (by kernel_rfl) (by kernel_rfl) (by kernel_rfl) ?hQ1053 (Or.inl ⟨?hg1053, ?hy1053⟩) (by assumption) ?rest1053
          case hi1053 => (simp only [List.getElem?_toArray, List.getElem?_cons_zero, List.getElem?_cons_succ]; exact rfl)
          case hQ1053 => exact fun _ _ _ h => h
          case hg1053 => rfl
          case hy1053 => (intro w' hSw; (try dsimp only at hSw); go_simp; try with_reducible rfl)
          try simp only [Act.put, List.setIfInBounds_toArray, List.set_cons_zero, List.set_cons_succ]
          refine wpAnyH_take (i := 18) (oi := ?o1054) (v := ?v1054) ?hi1054 (by kernel_rfl) (by kernel_rfl) (by kernel_rfl) ?hQ1054 (Or.inl ⟨?hg1054, ?hy1054⟩) (by assumption) ?rest1054
          case hi1054 => (simp only [List.getElem?_toArray, List.getElem?_cons_zero, List.getElem?_cons_succ]; exact rfl)
          case hQ1054 => exact fun _ _ _ h => h
          case hg1054 => rfl
          case hy1054 => (intro w' hSw; (try dsimp only at hSw); go_simp; try with_reducible rfl)
          try simp only [Act.put, List.setIfInBounds_toArray, List.set_cons_zero, List.set_cons_succ]
          refine wpAnyH_take (i := 19) (oi := ?o1055) (v := ?v1055) ?hi1055 (by kernel_rfl) (by kernel_rfl) (by kernel_rfl) ?hQ1055 (Or.inl ⟨?hg1055, ?hy1055⟩) (by assumption) ?rest1055
          case hi1055 => (simp only [List.getElem?_toArray, List.getElem?_cons_zero, List.getElem?_cons_succ]; exact rfl)
          case hQ1055 => exact fun _ _ _ h => h
          case hg1055 => rfl
          case hy1055 => (intro w' hSw; (try dsimp only at hSw); go_simp; try with_reducible rfl)
          try simp only [Act.put, List.setIfInBounds_toArray, List.set_cons_zero, List.set_cons_succ]
          refine wpAnyH_take (i := 20) (oi := ?o1056) (v := ?v1056) ?hi1056 (by kernel_rfl) (by kernel_rfl) (by kernel_rfl) ?hQ1056 (Or.inl ⟨?hg1056, ?hy1056⟩) (by assumption) ?rest1056
          case hi1056 => (simp only [List.getElem?_toArray, List.getElem?_cons_zero, List.getElem?_cons_succ]; exact rfl)
          case hQ1056 => exact fun _ _ _ h => h
          case hg1056 => rfl
          case hy1056 => (intro w' hSw; (try dsimp only at hSw); go_simp; try with_reducible rfl)
          try simp only [Act.put, List.setIfInBounds_toArray, List.set_cons_zero, List.set_cons_succ]
          refine wpAnyH_take (i := 21) (oi := ?o1057) (v := ?v1057) ?hi1057 (by kernel_rfl) (by kernel_rfl) (by kernel_rfl) ?hQ1057 (Or.inl ⟨?hg1057, ?hy1057⟩) (by assumption) ?rest1057
          case hi1057 => (simp only [List.getElem?_toArray, List.getElem?_cons_zero, List.getElem?_cons_succ]; exact rfl)
          case hQ1057 => exact fun _ _ _ h => h
          case hg1057 => rfl
          case hy1057 => (intro w' hSw; (try dsimp only at hSw); go_simp; try with_reducible rfl)
          try simp only [Act.put, List.setIfInBounds_toArray, List.set_cons_zero, List.set_cons_succ]
          refine wpAnyH_take (i := 22) (oi := ?o1058) (v := ?v1058) ?hi1058 (by kernel_rfl) (by kernel_rfl) (by kernel_rfl) ?hQ1058 (Or.inl ⟨?hg1058, ?hy1058⟩) (by assumption) ?rest1058
          case hi1058 => (simp only [List.getElem?_toArray, List.getElem?_cons_zero, List.getElem?_cons_succ]; exact rfl)
          case hQ1058 => exact fun _ _ _ h => h
          case hg1058 => rfl
          case hy1058 => (intro w' hSw; (try dsimp only at hSw); go_simp; try with_reducible rfl)
          try simp only [Act.put, List.setIfInBounds_toArray, List.set_cons_zero, List.set_cons_succ]
          refine wpAnyH_take (i := 23) (oi := ?o1059) (v := ?v1059) ?hi1059 (by kernel_rfl) (by kernel_rfl) (by kernel_rfl) ?hQ1059 (Or.inl ⟨?hg1059, ?hy1059⟩) (by assumption) ?rest1059
          case hi1059 => (simp only [List.getElem?_toArray, List.getElem?_cons_zero, List.getElem?_cons_succ]; exact rfl)
          case hQ1059 => exact fun _ _ _ h => h
          case hg1059 => rfl
          case hy1059 => (intro w' hSw; (try dsimp only at hSw); go_simp; try with_reducible rfl)
          try simp only [Act.put, List.setIfInBounds_toArray, List.set_cons_zero, List.set_cons_succ]
          refine wpAnyH_take (i := 25) (oi := ?o1060) (v := ?v1060) ?hi1060 (by kernel_rfl) (by kernel_rfl) (by kernel_rfl) ?hQ1060 (Or.inl ⟨?hg1060, ?hy1060⟩) (by assumption) ?rest1060
          case hi1060 => (simp only [List.getElem?_toArray, List.getElem?_cons_zero, List.getElem?_cons_succ]; exact rfl)
          case hQ1060 => exact fun _ _ _ h => h
          case hg1060 => rfl
          case hy1060 => (intro w' hSw; (try dsimp only at hSw); go_simp; try with_reducible rfl)
          try simp only [Act.put, List.setIfInBounds_toArray, List.set_cons_zero, List.set_cons_succ]
          refine wpAnyH_take (i := 26) (oi := ?o1061) (v := ?v1061) ?hi1061 (by kernel_rfl) (by kernel_rfl) (by kernel_rfl) ?hQ1061 (Or.inl ⟨?hg1061, ?hy1061⟩) (by assumption) ?rest1061
          case hi1061 => (simp only [List.getElem?_toArray, List.getElem?_cons_zero, List.getElem?_cons_succ]; exact rfl)
          case hQ1061 => exact fun _ _ _ h => h
          case hg1061 => rfl
          case hy1061 => (intro w' hSw; (try dsimp only at hSw); go_simp; try with_reducible rfl)
          try simp only [Act.put, List.setIfInBounds_toArray, List.set_cons_zero, List.set_cons_succ]
          refine wpAnyH_take (i := 27) (oi := ?o1062) (v := ?v1062) ?hi1062 (by kernel_rfl) (by kernel_rfl) (by kernel_rfl) ?hQ1062 (Or.inl ⟨?hg1062, ?hy1062⟩) (by assumption) ?rest1062
          case hi1062 => (simp only [List.getElem?_toArray, List.getElem?_cons_zero, List.getElem?_cons_succ]; exact rfl)
          case hQ1062 => exact fun _ _ _ h => h
          case hg1062 => rfl
          case hy1062 => (intro w' hSw; (try dsimp only at hSw); go_simp; try with_reducible rfl)
          try simp only [Act.put, List.setIfInBounds_toArray, List.set_cons_zero, List.set_cons_succ]
          refine wpAnyH_take (i := 28) (oi := ?o1063) (v := ?v1063) ?hi1063 (by kernel_rfl) (by kernel_rfl) (by kernel_rfl) ?hQ1063 (Or.inl ⟨?hg1063, ?hy1063⟩) (by assumption) ?rest1063
          case hi1063 => (simp only [List.getElem?_toArray, List.getElem?_cons_zero, List.getElem?_cons_succ]; exact rfl)
          case hQ1063 => exact fun _ _ _ h => h
          case hg1063 => rfl
          case hy1063 => (intro w' hSw; (try dsimp only at hSw); go_simp; try with_reducible rfl)
          try simp only [Act.put, List.setIfInBounds_toArray, List.set_cons_zero, List.set_cons_succ]
          refine wpAnyH_ready (rs := [24]) (by kernel_rfl) (by simp) ?_
          refine AllReadyH.cons (o := ?o1064) ?hi1064 (fun K hK => ?_) AllReadyH.nil
          case hi1064 => (simp only [List.getElem?_toArray, List.getElem?_cons_zero, List.getElem?_cons_succ]; exact rfl)
          (go_simp; go_at_call 20; (with_reducible refine (twoNow_p T9.out).mono ?_); rintro e u1 ⟨rfl, v1⟩; try dsimp only)
          have T10 := Lib.hid (T9.out.on v1.out)
          refine hK.out _ _ ?_ (fun hHeld => ?_)
          · exact T10.out.now
          clear hK K
          try simp only [Act.put, List.setIfInBounds_toArray, List.set_cons_zero, List.set_cons_succ]
          refine wpAnyH_take (i := 29) (oi := ?o1065) (v := ?v1065) ?hi1065 (by kernel_rfl) (by kernel_rfl) (by kernel_rfl) ?hQ1065 (Or.inl ⟨?hg1065, ?hy1065⟩) (by assumption) ?rest1065
          case hi1065 => (simp only [List.getElem?_toArray, List.getElem?_cons_zero, List.getElem?_cons_succ]; exact rfl)
          case hQ1065 => exact fun _ _ _ h => h
          case hg1065 => rfl
          case hy1065 => (intro w' hSw; (try dsimp only at hSw); go_simp; try with_reducible rfl)
          try simp only [Act.put, List.setIfInBounds_toArray, List.set_cons_zero, List.set_cons_succ]
          refine wpAnyH_take (i := 30) (oi := ?o1066) (v := ?v1066) ?hi1066 (by kernel_rfl) (by kernel_rfl) (by kernel_rfl) ?hQ1066 (Or.inl ⟨?hg1066, ?hy1066⟩) (by assumption) ?rest1066
          case hi1066 => (simp only [List.getElem?_toArray, List.getElem?_cons_zero, List.getElem?_cons_succ]; exact rfl)
          case hQ1066 => exact fun _ _ _ h => h
          case hg1066 => rfl
          case hy1066 => (intro w' hSw; (try dsimp only at hSw); go_simp; try with_reducible rfl)
          try simp only [Act.put, List.setIfInBounds_toArray, List.set_cons_zero, List.set_cons_succ]
          refine wpAnyH_take (i := 31) (oi := ?o1067) (v := ?v1067) ?hi1067 (by kernel_rfl) (by kernel_rfl) (by kernel_rfl) ?hQ1067 (Or.inl ⟨?hg1067, ?hy1067⟩) (by assumption) ?rest1067
          case hi1067 => (simp only [List.getElem?_toArray, List.getElem?_cons_zero, List.getElem?_cons_succ]; exact rfl)
          case hQ1067 => exact fun _ _ _ h => h
          case hg1067 => rfl
          case hy1067 => (intro w' hSw; (try dsimp only at hSw); go_simp; try with_reducible rfl)
          try simp only [Act.put, List.setIfInBounds_toArray, List.set_cons_zero, List.set_cons_succ]
          refine wpAnyH_take (i := 32) (oi := ?o1068) (v := ?v1068) ?hi1068 (by kernel_rfl) (by kernel_rfl) (by kernel_rfl) ?hQ1068 (Or.inl ⟨?hg1068, ?hy1068⟩) (by assumption) ?rest1068
          case hi1068 => (simp only [List.getElem?_toArray, List.getElem?_cons_zero, List.getElem?_cons_succ]; exact rfl)
          case hQ1068 => exact fun _ _ _ h => h
          case hg1068 => rfl
          case hy1068 => (intro w' hSw; (try dsimp only at hSw); go_simp; try with_reducible rfl)
          try simp only [Act.put, List.setIfInBounds_toArray, List.set_cons_zero, List.set_cons_succ]
          refine wpAnyH_take (i := 34) (oi := ?o1069) (v := ?v1069) ?hi1069 (by kernel_rfl) (by kernel_rfl) (by kernel_rfl) ?hQ1069 (Or.inl ⟨?hg1069, ?hy1069⟩) (by assumption) ?rest1069
          case hi1069 => (simp only [List.getElem?_toArray, List.getElem?_cons_zero, List.getElem?_cons_succ]; exact rfl)
          case hQ1069 => exact fun _ _ _ h => h
          case hg1069 => rfl
          case hy1069 => (intro w' hSw; (try dsimp only at hSw); go_simp; try with_reducible rfl)
          try simp only [Act.put, List.setIfInBounds_toArray, List.set_cons_zero, List.set_cons_succ]
          refine wpAnyH_ready (rs := [33]) (by kernel_rfl) (by simp) ?_
          refine AllReadyH.cons (o := ?o1070) ?hi1070 (fun K hK => ?_) AllReadyH.nil
          case hi1070 => (simp only [List.getElem?_toArray, List.getElem?_cons_zero, List.getElem?_cons_succ]; exact rfl)
          (go_simp; go_at_call 13; (with_reducible refine (twoLen_p T10.out).mono ?_); rintro e u2 ⟨rfl, v2⟩; try dsimp only)
          have T11 := Lib.hid (T10.out.on v2.out)
          refine hK.out _ _ ?_ (fun hHeld => ?_)
          · exact T11.out.now
          clear hK K
          try simp only [Act.put, List.setIfInBounds_toArray, List.set_cons_zero, List.set_cons_succ]
          refine wpAnyH_ready (rs := [35]) (by kernel_rfl) (by simp) ?_
          refine AllReadyH.cons (o := ?o1071) ?hi1071 (fun K hK => ?_) AllReadyH.nil
          case hi1071 => (simp only [List.getElem?_toArray, List.getElem?_cons_zero, List.getElem?_cons_succ]; exact rfl)
          (go_simp; go_at_call 21; (with_reducible refine (twoLen_r T11.out).mono ?_); rintro e _ ⟨rfl, rfl⟩; try dsimp only)
          refine hK.out _ _ ?_ (fun hHeld => ?_)
          · exact T11.out.now
          clear hK K
          try simp only [Act.put, List.setIfInBounds_toArray, List.set_cons_zero, List.set_cons_succ]
          refine wpAnyH_take (i := 36) (oi := ?o1072) (v := ?v1072) ?hi1072 (by kernel_rfl) (by kernel_rfl) (by kernel_rfl) ?hQ1072 (Or.inl ⟨?hg1072, ?hy1072⟩) (by assumption) ?rest1072
          case hi1072 => (simp only [List.getElem?_toArray, List.getElem?_cons_zero, List.getElem?_cons_succ]; exact rfl)
          case hQ1072 => exact fun _ _ _ h => h
          case hg1072 => rfl
          case hy1072 => (intro w' hSw; (try dsimp only at hSw); go_simp; try with_reducible rfl)
          try simp only [Act.put, List.setIfInBounds_toArray, List.set_cons_zero, List.set_cons_succ]
          refine wpAnyH_take (i := 37) (oi := ?o1073) (v := ?v1073) ?hi1073 (by kernel_rfl) (by kernel_rfl) (by kernel_rfl) ?hQ1073 (Or.inl ⟨?hg1073, ?hy1073⟩) (by assumption) ?rest1073
          case hi1073 => (simp only [List.getElem?_toArray, List.getElem?_cons_zero, List.getElem?_cons_succ]; exact rfl)
          case hQ1073 => exact fun _ _ _ h => h
          case hg1073 => rfl
          case hy1073 => (intro w' hSw; (try dsimp only at hSw); go_simp; try with_reducible rfl)
          try simp only [Act.put, List.setIfInBounds_toArray, List.set_cons_zero, List.set_cons_succ]
          refine wpAnyH_done (by kernel_rfl) ?_ _
          go_wp2
          go_roundw
          case rel => exact ⟨i + 1, by omega, by go_num, s', Lib.hid (T11.out.fewer fun k hk => hk.elim)⟩
          case measure => simp [intOf]; omega
      · obtain rfl : n = i := by omega
        go_wp2
        go_ret
        exact ⟨rfl, Lib.hid TS.out.below⟩
end Go.Proofs.Ytaieoneilljagaa
