/-
  The reference's AllRecs at every argument, and the law's own comparison of the two rows of records.
-/
import Derived.Test.YtgjjpehelhdfdaaFrRefGet
import Derived.Test.YtgjjpehelhdfdaaFrAll
namespace Go.Proofs.Ytgjjpehelhdfdaa
open Go.RowKit

def valR (r : Fr.Rc) : Value × Value := (.int .u64 r.1, .string (strOfNums r.2))
theorem rrec_info : (Try.prog.info? 39).map (fun i => (i.zero, i.size, i.bytes)) = some (some (.agg #[.int .u64 0, .string ⟨#[]⟩]), 2, 24) := by kernel_rfl
def AllRPost (w : World) (zs : List Int) (e : Ending) (w' : World) : Prop :=
  ∃ l A cap, Hid ((Fr.allV zs).1 = l) ∧ e = .returned (.tuple #[.slice A l.length cap, .int .i64 ((Fr.allV zs).2.1 : Nat), .int .i64 (Fr.allV zs).2.2]) ∧ OwnP w' w.heap.size 39 A cap (l.map valR) ∧ Below w.heap.size w w'
theorem AllRPost.mk_ {w w' : World} {zs : List Int} {l : List Fr.Rc} {n : Nat} {er : Int} {A : Option Addr} {cap : Nat} (h : Fr.allV zs = (l, n, er)) (ho : OwnP w' w.heap.size 39 A cap (l.map valR)) (hb : Below w.heap.size w w') :
    AllRPost w zs (.returned (.tuple #[.slice A l.length cap, .int .i64 (n : Int), .int .i64 er])) w' :=
  ⟨l, A, cap, Lib.hid (by rw [h]), by rw [h], ho, hb⟩
set_option maxHeartbeats 4000000 in
theorem rall_any (A : Option Addr) (zs : List Int) (cap : Nat) (hl : zs.length ≤ 1000000000) (hc : zs.length ≤ cap) (w : World) (hb : Bytes w w.heap.size A zs) :
    Calls Try.prog 15 #[.slice A zs.length cap] w (AllRPost w zs) := by
  have HB := Lib.hid hb
  have hl' : (zs.length : Int) ≤ 1000000000 := by omega
  clear hb
  go_enter Try.func15, Try.ntmps15
  go_wp2
  go_loopw [5, 6] (fun lv nv wr => ∃ (k : Nat) (l : List Fr.Rc) (A' : Option Addr) (cap' : Nat), Fr.AllAt zs k l ∧ nv = .int .i64 k ∧ lv = .slice A' l.length cap' ∧ OwnP wr w.heap.size 39 A' cap' (l.map valR) ∧ Below w.heap.size w wr) (fun _ nv _ => zs.length - (intOf nv).toNat)
  case atStart => exact ⟨0, [], none, 0, Fr.AllAt.start zs, rfl, rfl, OwnP.none_ _ _ _, Below.refl _ _⟩
  case round =>
    obtain ⟨k, l, A', cap', hat, rfl, rfl, hown, hbel⟩ := hrel
    have HA := Lib.hid hat
    have HO := Lib.hid hown
    have HW := Lib.hid hbel
    have ML := Lib.hid (show (l.map valR).length = l.length by simp)
    clear hat hown hbel
    by_cases hlt : k < zs.length
    · have hlt' : (k : Int) < (zs.length : Int) := by omega
      have hsl := slice_from A zs.length cap k (by omega) .i64
      have G0 := rget_any (tailA A cap k) (zs.drop k) (cap - k) (by rw [List.length_drop]; omega) (by rw [List.length_drop]; omega) wr (((HB.out.below HW.out).tail k cap hc).more HW.out.size)
      rw [List.length_drop] at G0
      by_cases he : Fr.errG (zs.drop k) = 0
      · have HN := Lib.hid (HA.out.next HB.out.byte hlt he)
        have ho := Fr.errG_ok (HB.out.byte.drop k) he
        have hsz : Hid (k + Fr.sizeG (zs.drop k) ≤ zs.length ∧ 0 < Fr.sizeG (zs.drop k) ∧ l.length ≤ 1000000000) := by
          have h1 := ho.2.2.2.1
          rw [List.length_drop] at h1
          have h2 := HA.out.2.1
          exact ⟨by omega, Fr.sizeG_pos _, by have := HA.out.1; omega⟩
        rw [he, Fr.getA_ok he, Fr.getP_ok he, Fr.getN_ok he] at G0
        have G := Lib.hid G0
        clear G0 he ho
        generalize Fr.atG (zs.drop k) = at_ at *
        generalize Fr.sizeG (zs.drop k) = sz at *
        generalize Fr.payG (zs.drop k) = ps at *
        have hs1 : (k : Int) + (sz : Int) ≤ (zs.length : Int) := by have := hsz.out.1; omega
        have EV : Hid (l.map valR ++ [(.int .u64 at_, .string (strOfNums ps))] = (l ++ [(at_, ps)]).map valR) := by show _ = _; rw [List.map_append]; rfl
        go_wp2_with fail
        refine G.out.mono ?_; rintro e w1 ⟨rfl, hb1⟩
        have B1 := Lib.hid hb1
        clear hb1 G
        have hs2 := HW.out.size
        have hs3 := B1.out.size
        have B2 : Hid (Below wr.heap.size wr ((w1.alloc (.cells #[.int .u64 at_, .string (strOfNums ps)] 39)).alloc (.cells #[.int .u64 at_, .string (strOfNums ps)] 39))) := (B1.out.alloc hs3 _).alloc (by simp; omega) _
        go_wp2_with (at_builtin; refine wp_app2 rfl (.tmp 27) (.tmp 29) rfl Try.underlying42 rrec_info rfl (by decide) rfl ML.out.symm (HO.out.grew B2.out (Nat.le_refl _)) (Nat.le_trans hs2 B2.out.size) rfl (obj2 (second_new w1 _ _)).1 (obj2 (second_new w1 _ _)).2 rfl rfl (by rw [ML.out]; exact hsz.out.2.2) ?_; intro A3 c3 w3 o3 d3; have O3 := Lib.hid o3; have D3 := Lib.hid d3; clear o3 d3)
        go_roundw
        case rel =>
          have OP2 := HO.out.grew B2.out (Nat.le_refl _)
          have hb2 := Nat.le_trans hs2 B2.out.size
          have BB := grown_below OP2 hb2 D3.out
          exact ⟨k + sz, _, A3, c3, HN.out, by go_num, by simp, by rw [← EV.out]; exact O3.out, (HW.out.trans (B2.out.mono hs2)).trans BB⟩
        case measure => have := hsz.out; simp [intOf]; omega
      · have E := Lib.hid (HA.out.bad hlt he)
        rw [Fr.getA_bad he, Fr.getP_bad he, Fr.getN_bad he] at G0
        have he' : (Fr.errG (zs.drop k) != 0) = true := by simpa using he
        have G := Lib.hid G0
        clear G0 he
        generalize Fr.errG (zs.drop k) = er at *
        go_wp2_with fail
        refine G.out.mono ?_; rintro e w1 ⟨rfl, hb1⟩
        have B1 := Lib.hid hb1
        clear hb1 G
        have hs2 := HW.out.size
        have hs3 := B1.out.size
        go_wp2
        go_ret3
        have B2 := (B1.out.alloc hs3 (.cells #[.int .u64 0, .string (strOfNums [])] 39))
        exact AllRPost.mk_ E.out (HO.out.grew B2 (Nat.le_refl _)) (HW.out.trans (B2.mono hs2))
    · have E := Lib.hid (HA.out.done hlt)
      have hlt' : (zs.length : Int) ≤ (k : Int) := by omega
      go_wp2
      go_ret3
      exact AllRPost.mk_ E.out HO.out HW.out

/-! ### recs -/
theorem OwnR.at_ {w : World} {base : Nat} {A : Option Addr} {cap : Nat} {l : List Fr.Rc} (h : OwnR w base A cap l) {i : Nat} (hi : i < l.length) :
    ∃ g A2 cap2 at_ p, A = some ⟨g, 0, none⟩ ∧ Hid (g < w.heap.size) ∧ w.cell? ⟨g, i * 2, none⟩ = some (.int .u64 at_) ∧ w.cell? ⟨g, i * 2 + 1, none⟩ = some (.slice A2 p.length cap2) ∧ Hid (Bytes w w.heap.size A2 p) ∧ Hid (l.getD i (0, []) = (at_, p)) := by
  obtain ⟨vs, hl, ho, hv⟩ := h
  obtain ⟨g, rfl, _, hg⟩ := ho.shape (by omega)
  obtain ⟨h1, A2, cap2, h2, h3⟩ := hv i hi
  obtain ⟨c0, c1⟩ := ho.cell (undef, undef) (i := i) (by omega)
  rw [h1] at c0
  rw [h2] at c1
  exact ⟨g, A2, cap2, _, _, rfl, Lib.hid hg, c0, c1, Lib.hid h3.bytes, Lib.hid rfl⟩
theorem ownRef_at {w : World} {base : Nat} {T : TypeId} {A : Option Addr} {cap : Nat} {l : List Fr.Rc} (h : OwnP w base T A cap (l.map valR)) {i : Nat} (hi : i < l.length) {at_ : Int} {p : List Int} (he : l.getD i (0, []) = (at_, p)) :
    ∃ g, A = some ⟨g, 0, none⟩ ∧ Hid (g < w.heap.size) ∧ w.cell? ⟨g, i * 2, none⟩ = some (.int .u64 at_) ∧ w.cell? ⟨g, i * 2 + 1, none⟩ = some (.string (strOfNums p)) := by
  obtain ⟨g, rfl, _, hg⟩ := h.shape (by simp; omega)
  obtain ⟨c0, c1⟩ := h.cell (undef, undef) (i := i) (by simp; omega)
  have e : (l.map valR).getD i (undef, undef) = valR (at_, p) := by
    rw [← he, List.getD_eq_getElem?_getD, List.getD_eq_getElem?_getD, List.getElem?_map, List.getElem?_eq_getElem hi]; rfl
  rw [e] at c0 c1
  exact ⟨g, rfl, Lib.hid hg, c0, c1⟩
set_option maxHeartbeats 4000000 in
theorem recs_same (A A2 : Option Addr) (cap cap2 base : Nat) (l : List Fr.Rc) (hl : l.length ≤ 1000000000) (w : World) (h : OwnR w base A cap l) (h2 : OwnP w base 39 A2 cap2 (l.map valR)) :
    Calls Try.prog 16 #[.slice A l.length cap, .slice A2 l.length cap2] w fun e w' => e = .returned (.bool true) ∧ Below w.heap.size w w' := by
  have H1 := Lib.hid h
  have H2 := Lib.hid h2
  have hl' : (l.length : Int) ≤ 1000000000 := by omega
  clear h h2
  go_enter Try.func16, Try.ntmps16
  go_wp2
  go_loopw [5] (fun iv wr => ∃ k : Nat, k ≤ l.length ∧ iv = .int .i64 k ∧ Below w.heap.size w wr) (fun iv _ => l.length - (intOf iv).toNat)
  case atStart => exact ⟨0, Nat.zero_le _, rfl, Below.refl _ _⟩
  case round =>
    obtain ⟨k, hk, rfl, hbel⟩ := hrel
    have HW := Lib.hid hbel
    clear hbel
    by_cases hlt : k < l.length
    · have hlt' : (k : Int) < (l.length : Int) := by omega
      have R1 := H1.out.grew HW.out (Nat.le_refl _)
      have R2 := H2.out.grew HW.out (Nat.le_refl _)
      obtain ⟨g, A3, c3, at_, p, rfl, hg, c0, c1, hb, he⟩ := R1.at_ hlt
      obtain ⟨g2, rfl, hg2, d0, d1⟩ := ownRef_at R2 hlt he.out
      clear R1 R2
      have cv := fun n => conv_str (w := wr.drewN n) (hb.out.keep fun _ _ _ => rfl) c3
      generalize strOfNums p = st at *
      go_wp2_with fail
      go_quiet (fail)
      go_wp2
      go_roundw
      case rel => exact ⟨k + 1, by omega, by go_num, below_n HW.out _⟩
      case measure => simp [intOf]; omega
    · have hlt' : (l.length : Int) ≤ (k : Int) := by omega
      go_wp2
      go_ret
      exact ⟨rfl, HW.out⟩
end Go.Proofs.Ytgjjpehelhdfdaa
