/-
  The law KeysPlays, walked: any acts on both.
-/
import Derived.Test.YteppokokabgniaaKyTwo
import Derived.Deep.CutBlock
import Derived.Deep.CutRange
import Derived.BigQuiet
namespace Go.Proofs.Yteppokokabgniaa
open Go.RowKit
/-- One act as it came in. -/
structure Ky.Ac where
  op : Int
  id : Int
  name : ByteArray
  key : ByteArray
def Ky.ac0 : Ky.Ac := ⟨0, 0, ⟨#[]⟩, ⟨#[]⟩⟩
def Ky.AcAt (w : World) (b o : Nat) (a : Ky.Ac) : Prop := Ky.ok a.name a.key a.id ∧ w.cell? ⟨b, o, none⟩ = some (.int .i64 a.op) ∧ w.cell? ⟨b, o + 1, none⟩ = some (.int .i64 a.id) ∧ w.cell? ⟨b, o + 2, none⟩ = some (.string a.name) ∧ w.cell? ⟨b, o + 3, none⟩ = some (.string a.key)
/-- The row of acts that came in. -/
def Ky.Acts (w : World) (A : Option Addr) (l : List Ky.Ac) : Prop := 0 < l.length → ∃ b off, A = some ⟨b, off, none⟩ ∧ b < w.heap.size ∧ ∀ i, i < l.length → Ky.AcAt w b (off + i * 4) (l.getD i Ky.ac0)
theorem Ky.Acts.at_ {w0 w : World} {A : Option Addr} {l : List Ky.Ac} (h : Ky.Acts w0 A l) (hb : Below w0.heap.size w0 w) {i : Nat} (hi : i < l.length) : ∃ b off op id nm ky, A = some ⟨b, off, none⟩ ∧ Hid (Ky.ok nm ky id) ∧ w.cell? ⟨b, off + i * 4, none⟩ = some (.int .i64 op) ∧ w.cell? ⟨b, off + i * 4 + 1, none⟩ = some (.int .i64 id) ∧ w.cell? ⟨b, off + i * 4 + 2, none⟩ = some (.string nm) ∧ w.cell? ⟨b, off + i * 4 + 3, none⟩ = some (.string ky) := by
  obtain ⟨b, off, e, hlt, ha⟩ := h (by omega)
  obtain ⟨c, c0, c1, c2, c3⟩ := ha i hi
  have k : ∀ o, w.cell? ⟨b, o, none⟩ = w0.cell? ⟨b, o, none⟩ := fun o => hb.cell (p := ⟨b, o, none⟩) hlt
  exact ⟨b, off, _, _, _, _, e, Lib.hid c, (k _).trans c0, (k _).trans c1, (k _).trans c2, (k _).trans c3⟩
set_option maxRecDepth 20000 in
set_option maxHeartbeats 8000000 in
theorem plays_walk (m : Int) (A : Option Addr) (l : List Ky.Ac) (n cap : Nat) (w : World) (hn : n = l.length) (hm : n ≤ 9223372036854775807) (hl : Ky.Acts w A l) :
    Calls Try.prog 4 #[.int .i64 m, .slice A n cap] w (BoolP w true) := by
  have AW := Lib.hid (awake_any w)
  have NW := Lib.hid (fun w' => oneNew m w')
  have RW := Lib.hid (fun w' => refNewK_any m w')
  have HL := Lib.hid hl
  have HN := Lib.hid hn
  clear hl hn
  by_cases h200 : (200 : Int) < (n : Int)
  · go_enter Try.func4, Try.ntmps4
    go_wp2_with fail
    (with_reducible refine AW.out.mono ?_); rintro e w1 ⟨rfl, b1⟩
    go_wp2
    go_ret
    exact ⟨rfl, b1⟩
  · have hd200 : decide ((200 : Int) < (n : Int)) = false := decide_eq_false h200
    go_enter Try.func4, Try.ntmps4
    go_wp2_with fail
    (with_reducible refine AW.out.mono ?_); rintro e w1 ⟨rfl, b1⟩
    go_wp2_with fail
    (with_reducible refine (NW.out w1).mono ?_); rintro e w2 ⟨T, rfl, r2, -⟩
    go_wp2_with fail
    (with_reducible refine (RW.out w2).mono ?_); rintro e w3 ⟨R, rfl, hR, r3, b3⟩
    have TW := Lib.hid (two_start (r2.out.from b1.out) b3 hR r3)
    generalize Ky.newS m = s0 at *
    clear r2 r3 b3 hR b1 AW NW RW
    go_wp2_with fail
    go_loopw [7] (fun iv wr => ∃ i : Nat, i ≤ n ∧ iv = .int .i64 i ∧ ∃ s, Hid (TwoK w wr T R s s noG)) (fun iv _ => n - (intOf iv).toNat)
    case atStart => exact ⟨0, Nat.zero_le _, rfl, _, TW⟩
    case round =>
      obtain ⟨i, hi, rfl, s, TS⟩ := hrel
      clear TW
      by_cases hlt : i < n
      · have hlt' : (i : Int) < (n : Int) := by omega
        obtain ⟨b, off, op, id, nm, ky, rfl, OK, c0, c1, c2, c3⟩ := HL.out.at_ TS.out.below (i := i) (by rw [← HN.out]; exact hlt)
        go_upto_region 12 with fail
        obtain ⟨X, hX⟩ : ∃ X, X = wr.heap.size := ⟨_, rfl⟩
        obtain ⟨wX, hwX⟩ : ∃ wX, wX = wr.alloc (.cells #[.int .i64 op, .int .i64 id, .string nm, .string ky] 40) := ⟨_, rfl⟩
        have T0 : Hid (TwoK w wX T R s s (fun k => k = X)) := Lib.hid (by
          rw [hwX, hX]
          exact TS.out.join ((Below.refl _ _).alloc (Nat.le_refl _) _) fun k hk => .inr (by subst hk; simp))
        have PX : Hid (wX.heap[X]? = some (.cells #[.int .i64 op, .int .i64 id, .string nm, .string ky] 40 (0, 0))) := Lib.hid (by rw [hwX, hX]; exact heap_alloc_new ..)
        rw [← hwX, ← hX]
        clear hwX hX c0 c1 c2 c3 TS
        have SC : Hid (∀ W, KeptG (fun k => k = X) wX W → W.cell? ⟨X, 0, none⟩ = some (.int .i64 op) ∧ W.cell? ⟨X, 1, none⟩ = some (.int .i64 id) ∧ W.cell? ⟨X, 2, none⟩ = some (.string nm) ∧ W.cell? ⟨X, 3, none⟩ = some (.string ky)) := Lib.hid fun W hW => by
          have e := (hW.2 X rfl).trans PX.out
          exact ⟨by simp [World.cell?, e], by simp [World.cell?, e], by simp [World.cell?, e], by simp [World.cell?, e]⟩
        have K0 : Hid (KeptG (fun k => k = X) wX wX) := Lib.hid (KeptG.refl _ _)
        obtain ⟨y0, y1, y2, y3⟩ := SC.out _ K0.out
        clear PX
        by_cases o0 : op = 0
        · subst o0
          go_wp2_with fail
          (with_reducible refine (twoPut_p T0.out nm ky id OK.out).mono ?_); rintro e w4 ⟨rfl, T4, K4⟩
          clear y0 y1 y2 y3
          obtain ⟨y0, y1, y2, y3⟩ := SC.out _ K4.out
          go_wp2_with fail
          (with_reducible refine (twoPut_r T4.out nm ky id).mono ?_); rintro e w5 ⟨rfl, T5, k5⟩
          have K5 := Lib.hid (K4.out.trans k5.out)
          clear y0 y1 y2 y3 T0 T4 K4 k5 K0
          generalize Ky.putV s nm ky id = x3 at *
          generalize Ky.putB s nm ky = x4 at *
          generalize Ky.putS s nm ky id = s' at *
          obtain ⟨y0, y1, y2, y3⟩ := SC.out _ K5.out
          go_wp2_with fail
          (with_reducible refine (twoGet_p T5.out nm ky OK.out.k).mono ?_); rintro e w6 ⟨rfl, T6, k6⟩
          have K6 := Lib.hid (K5.out.trans k6.out)
          clear y0 y1 y2 y3 k6 T5 K5
          obtain ⟨y0, y1, y2, y3⟩ := SC.out _ K6.out
          go_wp2_with fail
          (with_reducible refine (twoGet_r T6.out nm ky).mono ?_); rintro e _ ⟨rfl, rfl⟩
          go_upto_region 19 with fail
          generalize Ky.getV s' nm ky = x1 at *
          generalize Ky.getB s' nm ky = x2 at *
          have T9 := Lib.hid (T6.out.on (Below.refl _ _).drew)
          obtain ⟨AR, cR, yR, -, -⟩ := T9.out.row
          clear SC K6 y0 y1 y2 y3
          refine wp_region_held_drew (S := fun w' => w'.cell? ⟨R, 1, none⟩ = some (.slice AR s'.l.length cR)) (by kernel_rfl) ?hS1001 (fun hHeld => ?_)
          case hS1001 => exact yR
          refine wpAnyH_take (i := 0) (oi := ?o1002) (v := ?v1002) ?hi1002 (by kernel_rfl) (by kernel_rfl) (by kernel_rfl) ?hQ1002 (Or.inl ⟨?hg1002, ?hy1002⟩) (by assumption) ?rest1002
          case hi1002 => (simp only [List.getElem?_toArray, List.getElem?_cons_zero]; exact rfl)
          case hQ1002 => exact fun _ _ _ h => h
          case hg1002 => rfl
          case hy1002 => (intro w' hSw; (try dsimp only at hSw); go_simp; try with_reducible rfl)
          try simp only [Act.put, List.setIfInBounds_toArray, List.set_cons_zero, List.set_cons_succ]
          refine wpAnyH_take (i := 1) (oi := ?o1003) (v := ?v1003) ?hi1003 (by kernel_rfl) (by kernel_rfl) (by kernel_rfl) ?hQ1003 (Or.inl ⟨?hg1003, ?hy1003⟩) (by assumption) ?rest1003
          case hi1003 => (simp only [List.getElem?_toArray, List.getElem?_cons_zero, List.getElem?_cons_succ]; exact rfl)
          case hQ1003 => exact fun _ _ _ h => h
          case hg1003 => rfl
          case hy1003 => (intro w' hSw; (try dsimp only at hSw); go_simp; try with_reducible rfl)
          try simp only [Act.put, List.setIfInBounds_toArray, List.set_cons_zero, List.set_cons_succ]
          refine wpAnyH_take (i := 2) (oi := ?o1004) (v := ?v1004) ?hi1004 (by kernel_rfl) (by kernel_rfl) (by kernel_rfl) ?hQ1004 (Or.inl ⟨?hg1004, ?hy1004⟩) (by assumption) ?rest1004
          case hi1004 => (simp only [List.getElem?_toArray, List.getElem?_cons_zero, List.getElem?_cons_succ]; exact rfl)
          case hQ1004 => exact fun _ _ _ h => h
          case hg1004 => rfl
          case hy1004 => (intro w' hSw; (try dsimp only at hSw); go_simp; try with_reducible rfl)
          try simp only [Act.put, List.setIfInBounds_toArray, List.set_cons_zero, List.set_cons_succ]
          refine wpAnyH_take (i := 3) (oi := ?o1005) (v := ?v1005) ?hi1005 (by kernel_rfl) (by kernel_rfl) (by kernel_rfl) ?hQ1005 (Or.inl ⟨?hg1005, ?hy1005⟩) (by assumption) ?rest1005
          case hi1005 => (simp only [List.getElem?_toArray, List.getElem?_cons_zero, List.getElem?_cons_succ]; exact rfl)
          case hQ1005 => exact fun _ _ _ h => h
          case hg1005 => rfl
          case hy1005 => (intro w' hSw; (try dsimp only at hSw); go_simp; try with_reducible rfl)
          try simp only [Act.put, List.setIfInBounds_toArray, List.set_cons_zero, List.set_cons_succ]
          refine wpAnyH_take (i := 4) (oi := ?o1006) (v := ?v1006) ?hi1006 (by kernel_rfl) (by kernel_rfl) (by kernel_rfl) ?hQ1006 (Or.inl ⟨?hg1006, ?hy1006⟩) (by assumption) ?rest1006
          case hi1006 => (simp only [List.getElem?_toArray, List.getElem?_cons_zero, List.getElem?_cons_succ]; exact rfl)
          case hQ1006 => exact fun _ _ _ h => h
          case hg1006 => rfl
          case hy1006 => (intro w' hSw; (try dsimp only at hSw); go_simp; try with_reducible rfl)
          try simp only [Act.put, List.setIfInBounds_toArray, List.set_cons_zero, List.set_cons_succ]
          refine wpAnyH_take (i := 5) (oi := ?o1007) (v := ?v1007) ?hi1007 (by kernel_rfl) (by kernel_rfl) (by kernel_rfl) ?hQ1007 (Or.inl ⟨?hg1007, ?hy1007⟩) (by assumption) ?rest1007
          case hi1007 => (simp only [List.getElem?_toArray, List.getElem?_cons_zero, List.getElem?_cons_succ]; exact rfl)
          case hQ1007 => exact fun _ _ _ h => h
          case hg1007 => rfl
          case hy1007 => (intro w' hSw; (try dsimp only at hSw); go_simp; try with_reducible rfl)
          try simp only [Act.put, List.setIfInBounds_toArray, List.set_cons_zero, List.set_cons_succ]
          refine wpAnyH_take (i := 6) (oi := ?o1008) (v := ?v1008) ?hi1008 (by kernel_rfl) (by kernel_rfl) (by kernel_rfl) ?hQ1008 (Or.inl ⟨?hg1008, ?hy1008⟩) (by assumption) ?rest1008
          case hi1008 => (simp only [List.getElem?_toArray, List.getElem?_cons_zero, List.getElem?_cons_succ]; exact rfl)
          case hQ1008 => exact fun _ _ _ h => h
          case hg1008 => rfl
          case hy1008 => (intro w' hSw; (try dsimp only at hSw); go_simp; try with_reducible rfl)
          try simp only [Act.put, List.setIfInBounds_toArray, List.set_cons_zero, List.set_cons_succ]
          refine wpAnyH_take (i := 7) (oi := ?o1009) (v := ?v1009) ?hi1009 (by kernel_rfl) (by kernel_rfl) (by kernel_rfl) ?hQ1009 (Or.inl ⟨?hg1009, ?hy1009⟩) (by assumption) ?rest1009
          case hi1009 => (simp only [List.getElem?_toArray, List.getElem?_cons_zero, List.getElem?_cons_succ]; exact rfl)
          case hQ1009 => exact fun _ _ _ h => h
          case hg1009 => rfl
          case hy1009 => (intro w' hSw; (try dsimp only at hSw); go_simp; try with_reducible rfl)
          try simp only [Act.put, List.setIfInBounds_toArray, List.set_cons_zero, List.set_cons_succ]
          refine wpAnyH_take (i := 8) (oi := ?o1010) (v := ?v1010) ?hi1010 (by kernel_rfl) (by kernel_rfl) (by kernel_rfl) ?hQ1010 (Or.inl ⟨?hg1010, ?hy1010⟩) (by assumption) ?rest1010
          case hi1010 => (simp only [List.getElem?_toArray, List.getElem?_cons_zero, List.getElem?_cons_succ]; exact rfl)
          case hQ1010 => exact fun _ _ _ h => h
          case hg1010 => rfl
          case hy1010 => (intro w' hSw; (try dsimp only at hSw); go_simp; try with_reducible rfl)
          try simp only [Act.put, List.setIfInBounds_toArray, List.set_cons_zero, List.set_cons_succ]
          refine wpAnyH_take (i := 9) (oi := ?o1011) (v := ?v1011) ?hi1011 (by kernel_rfl) (by kernel_rfl) (by kernel_rfl) ?hQ1011 (Or.inl ⟨?hg1011, ?hy1011⟩) (by assumption) ?rest1011
          case hi1011 => (simp only [List.getElem?_toArray, List.getElem?_cons_zero, List.getElem?_cons_succ]; exact rfl)
          case hQ1011 => exact fun _ _ _ h => h
          case hg1011 => rfl
          case hy1011 => (intro w' hSw; (try dsimp only at hSw); go_simp; try with_reducible rfl)
          try simp only [Act.put, List.setIfInBounds_toArray, List.set_cons_zero, List.set_cons_succ]
          refine wpAnyH_take (i := 11) (oi := ?o1012) (v := ?v1012) ?hi1012 (by kernel_rfl) (by kernel_rfl) (by kernel_rfl) ?hQ1012 (Or.inl ⟨?hg1012, ?hy1012⟩) (by assumption) ?rest1012
          case hi1012 => (simp only [List.getElem?_toArray, List.getElem?_cons_zero, List.getElem?_cons_succ]; exact rfl)
          case hQ1012 => exact fun _ _ _ h => h
          case hg1012 => rfl
          case hy1012 => (intro w' hSw; (try dsimp only at hSw); go_simp; try with_reducible rfl)
          try simp only [Act.put, List.setIfInBounds_toArray, List.set_cons_zero, List.set_cons_succ]
          refine wpAnyH_take (i := 12) (oi := ?o1013) (v := ?v1013) ?hi1013 (by kernel_rfl) (by kernel_rfl) (by kernel_rfl) ?hQ1013 (Or.inl ⟨?hg1013, ?hy1013⟩) (by assumption) ?rest1013
          case hi1013 => (simp only [List.getElem?_toArray, List.getElem?_cons_zero, List.getElem?_cons_succ]; exact rfl)
          case hQ1013 => exact fun _ _ _ h => h
          case hg1013 => rfl
          case hy1013 => (intro w' hSw; (try dsimp only at hSw); go_simp; try with_reducible rfl)
          try simp only [Act.put, List.setIfInBounds_toArray, List.set_cons_zero, List.set_cons_succ]
          refine wpAnyH_take (i := 13) (oi := ?o1014) (v := ?v1014) ?hi1014 (by kernel_rfl) (by kernel_rfl) (by kernel_rfl) ?hQ1014 (Or.inl ⟨?hg1014, ?hy1014⟩) (by assumption) ?rest1014
          case hi1014 => (simp only [List.getElem?_toArray, List.getElem?_cons_zero, List.getElem?_cons_succ]; exact rfl)
          case hQ1014 => exact fun _ _ _ h => h
          case hg1014 => rfl
          case hy1014 => (intro w' hSw; (try dsimp only at hSw); go_simp; try with_reducible rfl)
          try simp only [Act.put, List.setIfInBounds_toArray, List.set_cons_zero, List.set_cons_succ]
          refine wpAnyH_take (i := 14) (oi := ?o1015) (v := ?v1015) ?hi1015 (by kernel_rfl) (by kernel_rfl) (by kernel_rfl) ?hQ1015 (Or.inl ⟨?hg1015, ?hy1015⟩) (by assumption) ?rest1015
          case hi1015 => (simp only [List.getElem?_toArray, List.getElem?_cons_zero, List.getElem?_cons_succ]; exact rfl)
          case hQ1015 => exact fun _ _ _ h => h
          case hg1015 => rfl
          case hy1015 => (intro w' hSw; (try dsimp only at hSw); go_simp; try with_reducible rfl)
          try simp only [Act.put, List.setIfInBounds_toArray, List.set_cons_zero, List.set_cons_succ]
          refine wpAnyH_take (i := 15) (oi := ?o1016) (v := ?v1016) ?hi1016 (by kernel_rfl) (by kernel_rfl) (by kernel_rfl) ?hQ1016 (Or.inl ⟨?hg1016, ?hy1016⟩) (by assumption) ?rest1016
          case hi1016 => (simp only [List.getElem?_toArray, List.getElem?_cons_zero, List.getElem?_cons_succ]; exact rfl)
          case hQ1016 => exact fun _ _ _ h => h
          case hg1016 => rfl
          case hy1016 => (intro w' hSw; (try dsimp only at hSw); go_simp; try with_reducible rfl)
          try simp only [Act.put, List.setIfInBounds_toArray, List.set_cons_zero, List.set_cons_succ]
          refine wpAnyH_ready (rs := [10]) (by kernel_rfl) (by simp) ?_
          refine AllReadyH.cons (o := ?o1017) ?hi1017 (fun K hK => ?_) AllReadyH.nil
          case hi1017 => (simp only [List.getElem?_toArray, List.getElem?_cons_zero, List.getElem?_cons_succ]; exact rfl)
          (go_simp; go_at_call 12; (with_reducible refine (twoLen_q T9.out).mono ?_); rintro e u1 ⟨rfl, T10, e10⟩; try dsimp only)
          have y10 := e10.out.trans yR
          refine hK.out _ _ ?_ (fun hHeld => ?_)
          · exact y10
          clear hK K
          try simp only [Act.put, List.setIfInBounds_toArray, List.set_cons_zero, List.set_cons_succ]
          refine wpAnyH_take (i := 16) (oi := ?o1018) (v := ?v1018) ?hi1018 (by kernel_rfl) (by kernel_rfl) (by kernel_rfl) ?hQ1018 (Or.inl ⟨?hg1018, ?hy1018⟩) (by assumption) ?rest1018
          case hi1018 => (simp only [List.getElem?_toArray, List.getElem?_cons_zero, List.getElem?_cons_succ]; exact rfl)
          case hQ1018 => exact fun _ _ _ h => h
          case hg1018 => rfl
          case hy1018 => (intro w' hSw; (try dsimp only at hSw); go_simp; try with_reducible rfl)
          try simp only [Act.put, List.setIfInBounds_toArray, List.set_cons_zero, List.set_cons_succ]
          refine wpAnyH_take (i := 17) (oi := ?o1019) (v := ?v1019) ?hi1019 (by kernel_rfl) (by kernel_rfl) (by kernel_rfl) ?hQ1019 (Or.inl ⟨?hg1019, ?hy1019⟩) (by assumption) ?rest1019
          case hi1019 => (simp only [List.getElem?_toArray, List.getElem?_cons_zero, List.getElem?_cons_succ]; exact rfl)
          case hQ1019 => exact fun _ _ _ h => h
          case hg1019 => rfl
          case hy1019 => (intro w' hSw; (try dsimp only at hSw); go_simp; try with_reducible rfl)
          try simp only [Act.put, List.setIfInBounds_toArray, List.set_cons_zero, List.set_cons_succ]
          refine wpAnyH_done (by kernel_rfl) ?_ _
          have T11 := Lib.hid (T10.out.fewer (G' := noG) fun k hk => hk.elim)
          go_wp2
          refine ⟨⟨i + 1, by omega, by go_num, s', T11⟩, ?_⟩
          simp [intOf]; omega
        · have q0 : (op == 0) = false := by simpa using o0
          obtain ⟨s', hs'⟩ : ∃ s', s' = s := ⟨_, rfl⟩
          have T5 := T0
          have K5 := K0
          rw [← hs'] at T5
          clear T0 K0 hs' y1 y2 y3
          obtain ⟨-, y1, y2, y3⟩ := SC.out _ K5.out
          go_wp2_with fail
          (with_reducible refine (twoGet_p T5.out nm ky OK.out.k).mono ?_); rintro e w6 ⟨rfl, T6, k6⟩
          have K6 := Lib.hid (K5.out.trans k6.out)
          clear y0 y1 y2 y3 k6 T5 K5
          obtain ⟨y0, y1, y2, y3⟩ := SC.out _ K6.out
          go_wp2_with fail
          (with_reducible refine (twoGet_r T6.out nm ky).mono ?_); rintro e _ ⟨rfl, rfl⟩
          go_upto_region 19 with fail
          generalize Ky.getV s' nm ky = x1 at *
          generalize Ky.getB s' nm ky = x2 at *
          have T9 := Lib.hid (T6.out.on (Below.refl _ _).drew)
          obtain ⟨AR, cR, yR, -, -⟩ := T9.out.row
          clear SC K6 y0 y1 y2 y3
          refine wp_region_held_drew (S := fun w' => w'.cell? ⟨R, 1, none⟩ = some (.slice AR s'.l.length cR)) (by kernel_rfl) ?hS1020 (fun hHeld => ?_)
          case hS1020 => exact yR
          refine wpAnyH_take (i := 0) (oi := ?o1021) (v := ?v1021) ?hi1021 (by kernel_rfl) (by kernel_rfl) (by kernel_rfl) ?hQ1021 (Or.inl ⟨?hg1021, ?hy1021⟩) (by assumption) ?rest1021
          case hi1021 => (simp only [List.getElem?_toArray, List.getElem?_cons_zero]; exact rfl)
          case hQ1021 => exact fun _ _ _ h => h
          case hg1021 => rfl
          case hy1021 => (intro w' hSw; (try dsimp only at hSw); go_simp; try with_reducible rfl)
          try simp only [Act.put, List.setIfInBounds_toArray, List.set_cons_zero, List.set_cons_succ]
          refine wpAnyH_take (i := 1) (oi := ?o1022) (v := ?v1022) ?hi1022 (by kernel_rfl) (by kernel_rfl) (by kernel_rfl) ?hQ1022 (Or.inl ⟨?hg1022, ?hy1022⟩) (by assumption) ?rest1022
          case hi1022 => (simp only [List.getElem?_toArray, List.getElem?_cons_zero, List.getElem?_cons_succ]; exact rfl)
          case hQ1022 => exact fun _ _ _ h => h
          case hg1022 => rfl
          case hy1022 => (intro w' hSw; (try dsimp only at hSw); go_simp; try with_reducible rfl)
          try simp only [Act.put, List.setIfInBounds_toArray, List.set_cons_zero, List.set_cons_succ]
          refine wpAnyH_take (i := 2) (oi := ?o1023) (v := ?v1023) ?hi1023 (by kernel_rfl) (by kernel_rfl) (by kernel_rfl) ?hQ1023 (Or.inl ⟨?hg1023, ?hy1023⟩) (by assumption) ?rest1023
          case hi1023 => (simp only [List.getElem?_toArray, List.getElem?_cons_zero, List.getElem?_cons_succ]; exact rfl)
          case hQ1023 => exact fun _ _ _ h => h
          case hg1023 => rfl
          case hy1023 => (intro w' hSw; (try dsimp only at hSw); go_simp; try with_reducible rfl)
          try simp only [Act.put, List.setIfInBounds_toArray, List.set_cons_zero, List.set_cons_succ]
          refine wpAnyH_take (i := 3) (oi := ?o1024) (v := ?v1024) ?hi1024 (by kernel_rfl) (by kernel_rfl) (by kernel_rfl) ?hQ1024 (Or.inl ⟨?hg1024, ?hy1024⟩) (by assumption) ?rest1024
          case hi1024 => (simp only [List.getElem?_toArray, List.getElem?_cons_zero, List.getElem?_cons_succ]; exact rfl)
          case hQ1024 => exact fun _ _ _ h => h
          case hg1024 => rfl
          case hy1024 => (intro w' hSw; (try dsimp only at hSw); go_simp; try with_reducible rfl)
          try simp only [Act.put, List.setIfInBounds_toArray, List.set_cons_zero, List.set_cons_succ]
          refine wpAnyH_take (i := 4) (oi := ?o1025) (v := ?v1025) ?hi1025 (by kernel_rfl) (by kernel_rfl) (by kernel_rfl) ?hQ1025 (Or.inl ⟨?hg1025, ?hy1025⟩) (by assumption) ?rest1025
          case hi1025 => (simp only [List.getElem?_toArray, List.getElem?_cons_zero, List.getElem?_cons_succ]; exact rfl)
          case hQ1025 => exact fun _ _ _ h => h
          case hg1025 => rfl
          case hy1025 => (intro w' hSw; (try dsimp only at hSw); go_simp; try with_reducible rfl)
          try simp only [Act.put, List.setIfInBounds_toArray, List.set_cons_zero, List.set_cons_succ]
          refine wpAnyH_take (i := 5) (oi := ?o1026) (v := ?v1026) ?hi1026 (by kernel_rfl) (by kernel_rfl) (by kernel_rfl) ?hQ1026 (Or.inl ⟨?hg1026, ?hy1026⟩) (by assumption) ?rest1026
          case hi1026 => (simp only [List.getElem?_toArray, List.getElem?_cons_zero, List.getElem?_cons_succ]; exact rfl)
          case hQ1026 => exact fun _ _ _ h => h
          case hg1026 => rfl
          case hy1026 => (intro w' hSw; (try dsimp only at hSw); go_simp; try with_reducible rfl)
          try simp only [Act.put, List.setIfInBounds_toArray, List.set_cons_zero, List.set_cons_succ]
          refine wpAnyH_take (i := 6) (oi := ?o1027) (v := ?v1027) ?hi1027 (by kernel_rfl) (by kernel_rfl) (by kernel_rfl) ?hQ1027 (Or.inl ⟨?hg1027, ?hy1027⟩) (by assumption) ?rest1027
          case hi1027 => (simp only [List.getElem?_toArray, List.getElem?_cons_zero, List.getElem?_cons_succ]; exact rfl)
          case hQ1027 => exact fun _ _ _ h => h
          case hg1027 => rfl
          case hy1027 => (intro w' hSw; (try dsimp only at hSw); go_simp; try with_reducible rfl)
          try simp only [Act.put, List.setIfInBounds_toArray, List.set_cons_zero, List.set_cons_succ]
          refine wpAnyH_take (i := 7) (oi := ?o1028) (v := ?v1028) ?hi1028 (by kernel_rfl) (by kernel_rfl) (by kernel_rfl) ?hQ1028 (Or.inl ⟨?hg1028, ?hy1028⟩) (by assumption) ?rest1028
          case hi1028 => (simp only [List.getElem?_toArray, List.getElem?_cons_zero, List.getElem?_cons_succ]; exact rfl)
          case hQ1028 => exact fun _ _ _ h => h
          case hg1028 => rfl
          case hy1028 => (intro w' hSw; (try dsimp only at hSw); go_simp; try with_reducible rfl)
          try simp only [Act.put, List.setIfInBounds_toArray, List.set_cons_zero, List.set_cons_succ]
          refine wpAnyH_take (i := 8) (oi := ?o1029) (v := ?v1029) ?hi1029 (by kernel_rfl) (by kernel_rfl) (by kernel_rfl) ?hQ1029 (Or.inl ⟨?hg1029, ?hy1029⟩) (by assumption) ?rest1029
          case hi1029 => (simp only [List.getElem?_toArray, List.getElem?_cons_zero, List.getElem?_cons_succ]; exact rfl)
          case hQ1029 => exact fun _ _ _ h => h
          case hg1029 => rfl
          case hy1029 => (intro w' hSw; (try dsimp only at hSw); go_simp; try with_reducible rfl)
          try simp only [Act.put, List.setIfInBounds_toArray, List.set_cons_zero, List.set_cons_succ]
          refine wpAnyH_take (i := 9) (oi := ?o1030) (v := ?v1030) ?hi1030 (by kernel_rfl) (by kernel_rfl) (by kernel_rfl) ?hQ1030 (Or.inl ⟨?hg1030, ?hy1030⟩) (by assumption) ?rest1030
          case hi1030 => (simp only [List.getElem?_toArray, List.getElem?_cons_zero, List.getElem?_cons_succ]; exact rfl)
          case hQ1030 => exact fun _ _ _ h => h
          case hg1030 => rfl
          case hy1030 => (intro w' hSw; (try dsimp only at hSw); go_simp; try with_reducible rfl)
          try simp only [Act.put, List.setIfInBounds_toArray, List.set_cons_zero, List.set_cons_succ]
          refine wpAnyH_take (i := 11) (oi := ?o1031) (v := ?v1031) ?hi1031 (by kernel_rfl) (by kernel_rfl) (by kernel_rfl) ?hQ1031 (Or.inl ⟨?hg1031, ?hy1031⟩) (by assumption) ?rest1031
          case hi1031 => (simp only [List.getElem?_toArray, List.getElem?_cons_zero, List.getElem?_cons_succ]; exact rfl)
          case hQ1031 => exact fun _ _ _ h => h
          case hg1031 => rfl
          case hy1031 => (intro w' hSw; (try dsimp only at hSw); go_simp; try with_reducible rfl)
          try simp only [Act.put, List.setIfInBounds_toArray, List.set_cons_zero, List.set_cons_succ]
          refine wpAnyH_take (i := 12) (oi := ?o1032) (v := ?v1032) ?hi1032 (by kernel_rfl) (by kernel_rfl) (by kernel_rfl) ?hQ1032 (Or.inl ⟨?hg1032, ?hy1032⟩) (by assumption) ?rest1032
          case hi1032 => (simp only [List.getElem?_toArray, List.getElem?_cons_zero, List.getElem?_cons_succ]; exact rfl)
          case hQ1032 => exact fun _ _ _ h => h
          case hg1032 => rfl
          case hy1032 => (intro w' hSw; (try dsimp only at hSw); go_simp; try with_reducible rfl)
          try simp only [Act.put, List.setIfInBounds_toArray, List.set_cons_zero, List.set_cons_succ]
          refine wpAnyH_take (i := 13) (oi := ?o1033) (v := ?v1033) ?hi1033 (by kernel_rfl) (by kernel_rfl) (by kernel_rfl) ?hQ1033 (Or.inl ⟨?hg1033, ?hy1033⟩) (by assumption) ?rest1033
          case hi1033 => (simp only [List.getElem?_toArray, List.getElem?_cons_zero, List.getElem?_cons_succ]; exact rfl)
          case hQ1033 => exact fun _ _ _ h => h
          case hg1033 => rfl
          case hy1033 => (intro w' hSw; (try dsimp only at hSw); go_simp; try with_reducible rfl)
          try simp only [Act.put, List.setIfInBounds_toArray, List.set_cons_zero, List.set_cons_succ]
          refine wpAnyH_take (i := 14) (oi := ?o1034) (v := ?v1034) ?hi1034 (by kernel_rfl) (by kernel_rfl) (by kernel_rfl) ?hQ1034 (Or.inl ⟨?hg1034, ?hy1034⟩) (by assumption) ?rest1034
          case hi1034 => (simp only [List.getElem?_toArray, List.getElem?_cons_zero, List.getElem?_cons_succ]; exact rfl)
          case hQ1034 => exact fun _ _ _ h => h
          case hg1034 => rfl
          case hy1034 => (intro w' hSw; (try dsimp only at hSw); go_simp; try with_reducible rfl)
          try simp only [Act.put, List.setIfInBounds_toArray, List.set_cons_zero, List.set_cons_succ]
          refine wpAnyH_take (i := 15) (oi := ?o1035) (v := ?v1035) ?hi1035 (by kernel_rfl) (by kernel_rfl) (by kernel_rfl) ?hQ1035 (Or.inl ⟨?hg1035, ?hy1035⟩) (by assumption) ?rest1035
          case hi1035 => (simp only [List.getElem?_toArray, List.getElem?_cons_zero, List.getElem?_cons_succ]; exact rfl)
          case hQ1035 => exact fun _ _ _ h => h
          case hg1035 => rfl
          case hy1035 => (intro w' hSw; (try dsimp only at hSw); go_simp; try with_reducible rfl)
          try simp only [Act.put, List.setIfInBounds_toArray, List.set_cons_zero, List.set_cons_succ]
          refine wpAnyH_ready (rs := [10]) (by kernel_rfl) (by simp) ?_
          refine AllReadyH.cons (o := ?o1036) ?hi1036 (fun K hK => ?_) AllReadyH.nil
          case hi1036 => (simp only [List.getElem?_toArray, List.getElem?_cons_zero, List.getElem?_cons_succ]; exact rfl)
          (go_simp; go_at_call 12; (with_reducible refine (twoLen_q T9.out).mono ?_); rintro e u1 ⟨rfl, T10, e10⟩; try dsimp only)
          have y10 := e10.out.trans yR
          refine hK.out _ _ ?_ (fun hHeld => ?_)
          · exact y10
          clear hK K
          try simp only [Act.put, List.setIfInBounds_toArray, List.set_cons_zero, List.set_cons_succ]
          refine wpAnyH_take (i := 16) (oi := ?o1037) (v := ?v1037) ?hi1037 (by kernel_rfl) (by kernel_rfl) (by kernel_rfl) ?hQ1037 (Or.inl ⟨?hg1037, ?hy1037⟩) (by assumption) ?rest1037
          case hi1037 => (simp only [List.getElem?_toArray, List.getElem?_cons_zero, List.getElem?_cons_succ]; exact rfl)
          case hQ1037 => exact fun _ _ _ h => h
          case hg1037 => rfl
          case hy1037 => (intro w' hSw; (try dsimp only at hSw); go_simp; try with_reducible rfl)
          try simp only [Act.put, List.setIfInBounds_toArray, List.set_cons_zero, List.set_cons_succ]
          refine wpAnyH_take (i := 17) (oi := ?o1038) (v := ?v1038) ?hi1038 (by kernel_rfl) (by kernel_rfl) (by kernel_rfl) ?hQ1038 (Or.inl ⟨?hg1038, ?hy1038⟩) (by assumption) ?rest1038
          case hi1038 => (simp only [List.getElem?_toArray, List.getElem?_cons_zero, List.getElem?_cons_succ]; exact rfl)
          case hQ1038 => exact fun _ _ _ h => h
          case hg1038 => rfl
          case hy1038 => (intro w' hSw; (try dsimp only at hSw); go_simp; try with_reducible rfl)
          try simp only [Act.put, List.setIfInBounds_toArray, List.set_cons_zero, List.set_cons_succ]
          refine wpAnyH_done (by kernel_rfl) ?_ _
          have T11 := Lib.hid (T10.out.fewer (G' := noG) fun k hk => hk.elim)
          go_wp2
          refine ⟨⟨i + 1, by omega, by go_num, s', T11⟩, ?_⟩
          simp [intOf]; omega
      · obtain rfl : n = i := by omega
        have L128 := Lib.hid TS.out.len
        go_wp2_with fail
        (with_reducible refine (twoAll_p TS.out).mono ?_); rintro e w4 ⟨A4, c4, rfl, T4, D4⟩
        obtain ⟨AR, cR, yR, hcR, DR⟩ := T4.out.row
        have DR := Lib.hid DR
        obtain ⟨q, hq⟩ : ∃ q, q = s.l.length := ⟨_, rfl⟩
        have HQ := Lib.hid hq
        have hq128 : q ≤ 128 := by rw [hq]; exact L128.out
        rw [← hq] at yR
        rw [← hq]
        clear hcR hq
        go_wp2_with fail
        go_loopw [18] (fun iv wr => ∃ j : Nat, j ≤ q ∧ iv = .int .i64 j ∧ Hid (Below w4.heap.size w4 wr) ∧ wr.cell? ⟨R, 1, none⟩ = some (.slice AR q cR)) (fun iv _ => q - (intOf iv).toNat)
        case atStart => exact ⟨0, Nat.zero_le _, rfl, Lib.hid (Below.refl _ _), yR⟩
        case round =>
          obtain ⟨j, hj, rfl, HB, yR⟩ := hrel
          by_cases hlt : j < q
          · have hlt' : (j : Int) < (q : Int) := by omega
            obtain ⟨b, off, a, rfl, -, ha, c0, c1, c2⟩ := (D4.out.on HB.out).at_ (k := j) (by rw [← HQ.out]; exact hlt)
            obtain ⟨b', off', a', rfl, -, ha', d0, d1, d2⟩ := (DR.out.on HB.out).at_ (k := j) (by rw [← HQ.out]; exact hlt)
            obtain rfl : a = a' := by have := ha.out.symm.trans ha'.out; injection this
            go_wp2_with fail
            go_quiet (fail)
            go_wp2
            refine ⟨⟨j + 1, by omega, by go_num, Lib.hid (below_n HB.out _), yR⟩, ?_⟩
            simp [intOf]; omega
          · obtain rfl : q = j := by omega
            go_wp2
            go_ret
            exact ⟨rfl, Lib.hid (T4.out.below.trans (HB.out.mono T4.out.below.size))⟩
end Go.Proofs.Yteppokokabgniaa
