/-
  frame.All at every argument: the whole records from the front, in rows of the call's own, how far they go, and the error that follows.
-/
import Derived.Test.YtgjjpehelhdfdaaFrGet
import Derived.Test.YtgjjpehelhdfdaaPairRows
namespace Go.Proofs.Ytgjjpehelhdfdaa
open Go.RowKit

/-- What a record's two cells hold: its stamp, and its payload in a row of the call's own. -/
def RecV (w : World) (base : Nat) (v : Value × Value) (r : Fr.Rc) : Prop := v.1 = .int .u64 r.1 ∧ ∃ A cap, v.2 = .slice A r.2.length cap ∧ OwnB w base A cap r.2
/-- The row of records at address A, the call's own. -/
def OwnR (w : World) (base : Nat) (A : Option Addr) (cap : Nat) (l : List Fr.Rc) : Prop :=
  ∃ vs : List (Value × Value), vs.length = l.length ∧ OwnP w base 30 A cap vs ∧ ∀ i, i < l.length → RecV w base (vs.getD i (undef, undef)) (l.getD i (0, []))
theorem OwnR.none_ (w : World) (base : Nat) : OwnR w base none 0 [] := ⟨[], rfl, OwnP.none_ _ _ _, fun i hi => by simp at hi⟩
theorem RecV.grew {w w' : World} {base B : Nat} {v : Value × Value} {r : Fr.Rc} (h : RecV w base v r) (hb : Below B w w') (hB : w.heap.size ≤ B) : RecV w' base v r := by
  obtain ⟨h1, A, cap, h2, h3⟩ := h
  exact ⟨h1, A, cap, h2, h3.grew hb hB⟩
theorem OwnR.grew {w w' : World} {base B : Nat} {A : Option Addr} {cap : Nat} {l : List Fr.Rc} (h : OwnR w base A cap l) (hb : Below B w w') (hB : w.heap.size ≤ B) : OwnR w' base A cap l := by
  obtain ⟨vs, h1, h2, h3⟩ := h
  exact ⟨vs, h1, h2.grew hb hB, fun i hi => (h3 i hi).grew hb hB⟩
theorem getD_snoc_lt {α : Type} (l : List α) (x d : α) (i : Nat) (h : i < l.length) : (l ++ [x]).getD i d = l.getD i d := by
  rw [List.getD_eq_getElem?_getD, List.getElem?_append_left h, ← List.getD_eq_getElem?_getD]
theorem getD_snoc_eq {α : Type} (l : List α) (x d : α) : (l ++ [x]).getD l.length d = x := by
  rw [List.getD_eq_getElem?_getD, List.getElem?_append_right (Nat.le_refl _)]; simp
theorem OwnR.snoc {w' : World} {base : Nat} {A' : Option Addr} {cap' : Nat} {l : List Fr.Rc} {vs : List (Value × Value)} (hl : vs.length = l.length) (hv : ∀ i, i < l.length → RecV w' base (vs.getD i (undef, undef)) (l.getD i (0, [])))
    {at_ : Int} {p : List Int} {A2 : Option Addr} {cap2 : Nat} (hp : OwnB w' base A2 cap2 p) (h : OwnP w' base 30 A' cap' (vs ++ [(.int .u64 at_, .slice A2 p.length cap2)])) : OwnR w' base A' cap' (l ++ [(at_, p)]) := by
  refine ⟨_, by simp [hl], h, fun i hi => ?_⟩
  by_cases hi2 : i < l.length
  · rw [getD_snoc_lt _ _ _ _ hi2, getD_snoc_lt _ _ _ _ (by omega)]
    exact hv i hi2
  · rw [List.length_append, List.length_singleton] at hi
    have e : i = l.length := by omega
    subst e
    rw [getD_snoc_eq, ← hl, getD_snoc_eq]
    exact ⟨rfl, A2, cap2, rfl, hp⟩
theorem rec_info : (Try.prog.info? 30).map (fun i => (i.zero, i.size, i.bytes)) = some (some (.agg #[.int .u64 0, .slice none 0 0]), 2, 32) := by kernel_rfl
theorem second_new (w : World) (X Y : Obj) : ((w.alloc X).alloc Y).heap[w.heap.size + 1]? = some Y := by
  have h := heap_alloc_new (w.alloc X) Y
  simpa using h
def AllPost (w : World) (zs : List Int) (e : Ending) (w' : World) : Prop :=
  ∃ l A cap, Hid ((Fr.allV zs).1 = l) ∧ e = .returned (.tuple #[.slice A l.length cap, .int .i64 ((Fr.allV zs).2.1 : Nat), .int .i64 (Fr.allV zs).2.2]) ∧ OwnR w' w.heap.size A cap l ∧ Below w.heap.size w w'
theorem AllPost.mk_ {w w' : World} {zs : List Int} {l : List Fr.Rc} {n : Nat} {er : Int} {A : Option Addr} {cap : Nat} (h : Fr.allV zs = (l, n, er)) (ho : OwnR w' w.heap.size A cap l) (hb : Below w.heap.size w w') :
    AllPost w zs (.returned (.tuple #[.slice A l.length cap, .int .i64 (n : Int), .int .i64 er])) w' :=
  ⟨l, A, cap, Lib.hid (by rw [h]), by rw [h], ho, hb⟩
set_option maxHeartbeats 4000000 in
theorem all_any (A : Option Addr) (zs : List Int) (cap : Nat) (hl : zs.length ≤ 1000000000) (hc : zs.length ≤ cap) (w : World) (hb : Bytes w w.heap.size A zs) :
    Calls Try.prog 12 #[.slice A zs.length cap] w (AllPost w zs) := by
  have HB := Lib.hid hb
  have hl' : (zs.length : Int) ≤ 1000000000 := by omega
  clear hb
  go_enter Try.func12, Try.ntmps12
  go_wp2
  go_loopw [2, 3] (fun lv nv wr => ∃ (k : Nat) (l : List Fr.Rc) (A' : Option Addr) (cap' : Nat), Fr.AllAt zs k l ∧ nv = .int .i64 k ∧ lv = .slice A' l.length cap' ∧ OwnR wr w.heap.size A' cap' l ∧ Below w.heap.size w wr) (fun _ nv _ => zs.length - (intOf nv).toNat)
  case atStart => exact ⟨0, [], none, 0, Fr.AllAt.start zs, rfl, rfl, OwnR.none_ _ _, Below.refl _ _⟩
  case round =>
    obtain ⟨k, l, A', cap', hat, rfl, rfl, hown, hbel⟩ := hrel
    have HA := Lib.hid hat
    have HO := Lib.hid hown
    have HW := Lib.hid hbel
    clear hat hown hbel
    by_cases hlt : k < zs.length
    · have hlt' : (k : Int) < (zs.length : Int) := by omega
      have hsl := slice_from A zs.length cap k (by omega) .i64
      have G0 := get_any (tailA A cap k) (zs.drop k) (cap - k) (by rw [List.length_drop]; omega) (by rw [List.length_drop]; omega) wr (((HB.out.below HW.out).tail k cap hc).more HW.out.size)
      rw [List.length_drop] at G0
      by_cases he : Fr.errG (zs.drop k) = 0
      · have HN := Lib.hid (HA.out.next HB.out.byte hlt he)
        have ho := Fr.errG_ok (HB.out.byte.drop k) he
        have hsz : Hid (k + Fr.sizeG (zs.drop k) ≤ zs.length ∧ 0 < Fr.sizeG (zs.drop k) ∧ l.length ≤ 1000000000) := by
          have h1 := ho.2.2.2.1
          rw [List.length_drop] at h1
          have h2 := HA.out.2.1
          exact ⟨by omega, Fr.sizeG_pos _, by have := HA.out.1; omega⟩
        rw [he, Fr.getA_ok he, Fr.getP_ok he, Fr.getN_ok he] at G0
        have G := Lib.hid G0
        clear G0 he ho
        generalize Fr.atG (zs.drop k) = at_ at *
        generalize Fr.sizeG (zs.drop k) = sz at *
        have hs1 : (k : Int) + (sz : Int) ≤ (zs.length : Int) := by have := hsz.out.1; omega
        go_wp2_with fail
        refine G.out.mono ?_; rintro e w1 ⟨ps, A2, c2, hps, rfl, hob, hb1⟩
        have OB := Lib.hid hob
        have B1 := Lib.hid hb1
        have HN' := Lib.hid HN.out
        rw [← hps.out] at HN'
        clear hob hb1 G HN
        have hs2 := HW.out.size
        have hs3 := B1.out.size
        obtain ⟨vs, hvl, hop, hrv⟩ := HO.out
        have VL := Lib.hid hvl
        have OP := Lib.hid hop
        have RV := Lib.hid hrv
        clear hvl hop hrv
        have B2 : Hid (Below wr.heap.size wr ((w1.alloc (.cells #[.int .u64 at_, .slice A2 ps.length c2] 30)).alloc (.cells #[.int .u64 at_, .slice A2 ps.length c2] 30))) := (B1.out.alloc hs3 _).alloc (by simp; omega) _
        have B3 : Hid (Below w1.heap.size w1 ((w1.alloc (.cells #[.int .u64 at_, .slice A2 ps.length c2] 30)).alloc (.cells #[.int .u64 at_, .slice A2 ps.length c2] 30))) := ((Below.refl _ _).alloc (Nat.le_refl _) _).alloc (by simp) _
        go_wp2_with (at_builtin; refine wp_app2 rfl (.tmp 25) (.tmp 27) rfl Try.underlying33 rec_info rfl (by decide) rfl VL.out.symm (OP.out.grew B2.out (Nat.le_refl _)) (Nat.le_trans hs2 B2.out.size) rfl (obj2 (second_new w1 _ _)).1 (obj2 (second_new w1 _ _)).2 rfl rfl (by rw [VL.out]; exact hsz.out.2.2) ?_; intro A3 c3 w3 o3 d3; have O3 := Lib.hid o3; have D3 := Lib.hid d3; clear o3 d3)
        go_roundw
        case rel =>
          have OP2 := OP.out.grew B2.out (Nat.le_refl _)
          have hb2 := Nat.le_trans hs2 B2.out.size
          have BB := grown_below OP2 hb2 D3.out
          have kept : ∀ {b2 : Nat} {Aq : Option Addr} {cq : Nat} {zq : List Int}, OwnB wr b2 Aq cq zq → OwnB w3 b2 Aq cq zq := fun h => OwnB.grown (h.grew B2.out (Nat.le_refl _)) OP2 (by decide) D3.out
          refine ⟨k + sz, _, A3, c3, HN'.out, by go_num, by simp [VL.out], OwnR.snoc VL.out (fun i hi => ?_) ((OwnB.grown (OB.out.grew B3.out (Nat.le_refl _)) OP2 (by decide) D3.out).low hs2) O3.out, (HW.out.trans (B2.out.mono hs2)).trans BB⟩
          obtain ⟨r1, Aq, cq, r2, r3⟩ := RV.out i hi
          exact ⟨r1, Aq, cq, r2, kept r3⟩
        case measure => have := hsz.out; simp [intOf]; omega
      · have E := Lib.hid (HA.out.bad hlt he)
        rw [Fr.getA_bad he, Fr.getP_bad he, Fr.getN_bad he] at G0
        have he' : (Fr.errG (zs.drop k) != 0) = true := by simpa using he
        have G := Lib.hid G0
        clear G0 he
        generalize Fr.errG (zs.drop k) = er at *
        go_wp2_with fail
        refine G.out.mono ?_; rintro e w1 ⟨ps, A2, c2, hps, rfl, hob, hb1⟩
        have B1 := Lib.hid hb1
        clear hob hb1 G
        have hs2 := HW.out.size
        have hs3 := B1.out.size
        go_wp2
        go_ret3
        have B2 := (B1.out.alloc hs3 (.cells #[.int .u64 0, .slice A2 ps.length c2] 30))
        exact AllPost.mk_ E.out (HO.out.grew B2 (Nat.le_refl _)) (HW.out.trans (B2.mono hs2))
    · have E := Lib.hid (HA.out.done hlt)
      have hlt' : (zs.length : Int) ≤ (k : Int) := by omega
      go_wp2
      go_ret3
      exact AllPost.mk_ E.out HO.out HW.out
end Go.Proofs.Ytgjjpehelhdfdaa
