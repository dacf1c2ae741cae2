/-
  The law EncRow: a row of strings and signed numbers is read again in order, and then no more.
-/
import Derived.Test.YthenjipljkphiaaEncAwake
import Derived.Test.YthenjipljkphiaaEncInS
import Derived.Test.YthenjipljkphiaaRowsKit
import Derived.Deep.QuietTactic
import Derived.BigQuiet
import Derived.Deep.RegionHeld3
namespace Go.Proofs.Ythenjipljkphiaa
open Go.RowKit
/-- What is written for a row of pairs. -/
def rowB : List (ByteArray × Int) → List Int
  | [] => []
  | p :: r => En.putS p.1 ++ (En.leb (Pl.foldV p.2) ++ rowB r)
theorem rowB_snoc (ps : List (ByteArray × Int)) (p : ByteArray × Int) : rowB (ps ++ [p]) = rowB ps ++ En.putS p.1 ++ En.leb (Pl.foldV p.2) := by
  induction ps with
  | nil => simp [rowB]
  | cons q r ih => rw [List.cons_append, rowB, rowB, ih]; simp only [List.append_assoc]
def goodP (p : ByteArray × Int) : Prop := p.1.size ≤ 100 ∧ -9223372036854775808 ≤ p.2 ∧ p.2 ≤ 9223372036854775807
theorem putS_len (s : ByteArray) (h : s.size ≤ 100) : (En.putS s).length ≤ 110 := by
  have := En.leb_len s.size (by omega) (by omega)
  show (En.leb s.size ++ En.strB s).length ≤ _
  rw [List.length_append, En.strB_len]; omega
theorem rowB_len (ps : List (ByteArray × Int)) (h : ∀ p ∈ ps, goodP p) : (rowB ps).length ≤ 120 * ps.length := by
  induction ps with
  | nil => simp [rowB]
  | cons q r ih =>
    have hq := h q (List.mem_cons_self ..)
    have h1 := putS_len q.1 hq.1
    have hr := Pl.foldV_range q.2 hq.2.1 hq.2.2
    have h2 := En.leb_len _ hr.1 hr.2
    have := ih fun p hp => h p (List.mem_cons_of_mem _ hp)
    rw [rowB, List.length_append, List.length_append, List.length_cons]
    omega
theorem row_read (p : ByteArray × Int) (r : List (ByteArray × Int)) (h : goodP p) :
    (En.okS (rowB (p :: r)) false 100 = true ∧ En.valS (rowB (p :: r)) false 100 = p.1) ∧
    (En.okU (En.restS (rowB (p :: r)) false 100) false = true ∧ Pl.unfoldV (En.valU (En.restS (rowB (p :: r)) false 100) false) = p.2) ∧
    En.restU (En.restS (rowB (p :: r)) false 100) false = rowB r := by
  have hr := Pl.foldV_range p.2 h.2.1 h.2.2
  have hs := h.1
  obtain ⟨a1, a2, a3⟩ := En.readS p.1 (En.leb (Pl.foldV p.2) ++ rowB r) 100 (by omega) (by omega)
  obtain ⟨b1, b2, b3⟩ := En.readU (Pl.foldV p.2) (rowB r) hr.1 hr.2
  have e : rowB (p :: r) = En.putS p.1 ++ (En.leb (Pl.foldV p.2) ++ rowB r) := rfl
  rw [e, a3]
  exact ⟨⟨a1, a2⟩, ⟨b1, by rw [b2]; exact Pl.unfold_fold p.2⟩, b3⟩
/-- The pairs of the two slices. -/
def prs (ss : List ByteArray) (ns : List Int) : List (ByteArray × Int) := ss.zip ns
theorem prs_len (ss : List ByteArray) (ns : List Int) (h : ns.length = ss.length) : (prs ss ns).length = ss.length := by
  unfold prs; rw [List.length_zip]; omega
theorem prs_take (ss : List ByteArray) (ns : List Int) (h : ns.length = ss.length) (k : Nat) (hk : k < ss.length) {s : ByteArray} {z : Int} (hs : ss.getD k ByteArray.empty = s) (hz : ns.getD k 0 = z) :
    (prs ss ns).take (k + 1) = (prs ss ns).take k ++ [(s, z)] := by
  have hl := prs_len ss ns h
  rw [List.take_succ_eq_append_getElem (by omega)]
  rw [List.getD_eq_getElem?_getD, List.getElem?_eq_getElem hk] at hs
  rw [List.getD_eq_getElem?_getD, List.getElem?_eq_getElem (by omega)] at hz
  simp at hs hz
  unfold prs
  rw [List.getElem_zip, hs, hz]
theorem prs_drop (ss : List ByteArray) (ns : List Int) (h : ns.length = ss.length) (k : Nat) (hk : k < ss.length) {s : ByteArray} {z : Int} (hs : ss.getD k ByteArray.empty = s) (hz : ns.getD k 0 = z) :
    (prs ss ns).drop k = (s, z) :: (prs ss ns).drop (k + 1) := by
  have hl := prs_len ss ns h
  rw [List.drop_eq_getElem_cons (by omega)]
  rw [List.getD_eq_getElem?_getD, List.getElem?_eq_getElem hk] at hs
  rw [List.getD_eq_getElem?_getD, List.getElem?_eq_getElem (by omega)] at hz
  simp at hs hz
  unfold prs
  rw [List.getElem_zip, hs, hz]
theorem Row.bytes {w : World} {base : Nat} {A : Option Addr} {cap : Nat} {xs : List Int} (h : Row w base A cap xs) : Bytes w w.heap.size A xs := by
  rcases h with h | ⟨_, _, h⟩
  · exact h.bytes
  · exact h
theorem InAt.like {w W : World} {t g : Nat} {zs : List Int} {b : Bool} (h : InAt w t g zs b) (h1 : W.heap = w.heap) (h2 : W.os = w.os) (h3 : W.tape = w.tape) (h4 : W.output = w.output) : InAt W t g zs b :=
  h.below (B := w.heap.size) ⟨h2, h3, h4, by rw [h1]; exact Nat.le_refl _, fun k _ => by rw [h1]⟩ (Nat.le_refl _)
theorem bad_cell {w : World} {t g : Nat} {zs : List Int} {b : Bool} (h : InAt w t g zs b) : w.cell? ⟨g, 1, none⟩ = some (.bool b) := by
  obtain ⟨A, cap, ho, _⟩ := h; exact (obj2 ho).1.2
theorem below_drew {B : Nat} {a w : World} (h : Below B a w) : Below B a w.drew := ⟨h.os, h.tape, h.output, h.size, h.block⟩
theorem inS_row (p : ByteArray × Int) (r : List (ByteArray × Int)) (h : goodP p) (g : Nat) (w : World) (hi : InAt w 33 g (rowB (p :: r)) false) :
    Calls Try.prog 14 #[.pointer (some ⟨g, 0, none⟩), .int .i64 100] w fun e w' => e = .returned (.string p.1) ∧ InPost w 33 g (En.restS (rowB (p :: r)) false 100) false w' := by
  obtain ⟨⟨a1, a2⟩, _, _⟩ := row_read p r h
  have := inS_any g _ false 100 (by decide) (by decide) w hi
  rw [a1, a2] at this
  exact this
theorem inI_row (p : ByteArray × Int) (r : List (ByteArray × Int)) (h : goodP p) (g : Nat) (w : World) (hi : InAt w 33 g (En.restS (rowB (p :: r)) false 100) false) :
    Calls Try.prog 13 #[.pointer (some ⟨g, 0, none⟩)] w fun e w' => e = .returned (.int .i64 p.2) ∧ InPost w 33 g (rowB r) false w' := by
  obtain ⟨_, ⟨b1, b2⟩, b3⟩ := row_read p r h
  have := inI_any g _ false w hi
  rw [b1, b2, b3] at this
  exact this
set_option maxHeartbeats 1000000 in
theorem row_off (A A1 : Option Addr) (n m cap cap1 : Nat) (h : 20 < n ∨ (n ≤ 20 ∧ m ≠ n)) (hn : n ≤ 9223372036854775807) (_hm : m ≤ 9223372036854775807) (w : World) :
    Calls Try.prog 7 #[.slice A n cap, .slice A1 m cap1] w fun e w' => e = .returned (.bool true) ∧ Below w.heap.size w w' := by
  rcases h with h | ⟨h1, h2⟩
  · have h' : (20 : Int) < (n : Int) := by omega
    go_enter Try.func7, Try.ntmps7
    go_wp2_with fail
    refine (awake_any _).mono ?_; rintro e w1 ⟨rfl, hb1⟩
    go_wp2
    go_ret
    exact ⟨rfl, hb1⟩
  · have h1' : (n : Int) ≤ 20 := by omega
    have h2' : ((m : Int) != (n : Int)) = true := by simp; omega
    go_enter Try.func7, Try.ntmps7
    go_wp2_with fail
    refine (awake_any _).mono ?_; rintro e w1 ⟨rfl, hb1⟩
    go_wp2
    go_ret
    exact ⟨rfl, hb1⟩
set_option maxHeartbeats 4000000 in
set_option maxRecDepth 100000 in
theorem row_in (A A1 : Option Addr) (ss : List ByteArray) (ns : List Int) (cap cap1 : Nat) (h1 : ss.length ≤ 20) (h2 : ns.length = ss.length) (w : World) (hs : Strs w w.heap.size A ss) (hz : Nums w w.heap.size A1 ns) :
    Calls Try.prog 7 #[.slice A ss.length cap, .slice A1 ns.length cap1] w fun e w' => e = .returned (.bool true) ∧ Below w.heap.size w w' := by
  have h1' : (ss.length : Int) ≤ 20 := by omega
  have HS := Lib.hid hs
  have HZ := Lib.hid hz
  have H2 := Lib.hid h2
  have HL := Lib.hid (prs_len ss ns h2)
  rw [h2]
  clear hs hz h2
  go_enter Try.func7, Try.ntmps7
  go_wp2_with fail
  refine (awake_any _).mono ?_; rintro e w1 ⟨rfl, hb1⟩
  have HB1 := Lib.hid hb1
  have hs1 := hb1.size
  clear hb1
  go_wp2_with fail
  have O0 : Hid (OutAt (w1.alloc (.cells #[.slice none 0 0] 26)) (w1.heap.size + 1) w1.heap.size (rowB ((prs ss ns).take 0))) := (OutOwn.start (heap_alloc_new w1 _) (by simp)).at_
  have L0 : Hid (Below w.heap.size w (w1.alloc (.cells #[.slice none 0 0] 26))) := HB1.out.alloc hs1 _
  go_loopw [6] (fun iv wr => ∃ k : Nat, k ≤ ss.length ∧ iv = .int .i64 k ∧ OutAt wr (w1.heap.size + 1) w1.heap.size (rowB ((prs ss ns).take k)) ∧ (∀ p ∈ (prs ss ns).take k, goodP p) ∧ Below w.heap.size w wr) (fun iv _ => ss.length - (intOf iv).toNat)
  case atStart => exact ⟨0, Nat.zero_le _, rfl, O0.out, fun p hp => by simp at hp, L0.out⟩
  case round =>
    obtain ⟨k, hk, rfl, hO, hG, hB⟩ := hrel
    have HO := Lib.hid hO
    have HG := Lib.hid hG
    have HB := Lib.hid hB
    clear hO hG hB O0 L0
    by_cases hlt : k < ss.length
    · have hlt' : (k : Int) < (ss.length : Int) := by omega
      obtain ⟨b, off, s, rfl, hbb, hc, hg, hsz⟩ := (HS.out.below HB.out).at_ hlt
      obtain ⟨b2, off2, z, rfl, hbb2, hc2, hg2, z0, z1⟩ := (HZ.out.below HB.out).at_ (show k < ns.length by have := H2.out; omega)
      by_cases h100 : 100 < s.size
      · have h100' : (100 : Int) < (s.size : Int) := by omega
        go_wp2
        go_ret
        exact ⟨rfl, HB.out⟩
      · have h100' : (s.size : Int) ≤ 100 := by omega
        have hlen : Hid ((rowB ((prs ss ns).take k)).length ≤ 2400) := by
          have e1 := rowB_len _ HG.out
          have e2 : ((prs ss ns).take k).length ≤ 20 := by rw [List.length_take]; omega
          show _ ≤ _; omega
        have PT := Lib.hid (prs_take ss ns H2.out k hlt hg.out hg2.out)
        go_wp2_with fail
        refine (outS_any s (by omega) _ _ _ (by have := hlen.out; omega) _ HO.out).mono ?_; rintro e wa ⟨rfl, ha⟩
        have HA := Lib.hid ha
        clear ha
        have BA := Lib.hid (HB.out.trans (HA.out.2.below (by omega) hs1))
        have hc2' := (HA.out.2.below (Nat.le_succ_of_le hs1) hs1).cell (p := ⟨b2, off2 + k, none⟩) hbb2.out
        rw [hc2] at hc2'
        clear hc hc2
        go_wp2_with fail
        refine (outI_any z z0 z1 _ _ _ (by have := hlen.out; have := putS_len s (by omega); rw [List.length_append]; omega) _ HA.out.1.at_).mono ?_; rintro e wb ⟨rfl, hb⟩
        have HBB := Lib.hid hb
        clear hb
        go_wp2
        go_roundw
        case rel =>
          refine ⟨k + 1, by omega, by go_num, ?_, ?_, BA.out.trans (HBB.out.2.below (by omega) hs1)⟩
          · rw [PT.out, rowB_snoc]; exact HBB.out.1.at_
          · rw [PT.out]
            intro p hp
            rcases List.mem_append.1 hp with e | e
            · exact HG.out p e
            · simp at e; subst e; exact ⟨show s.size ≤ 100 by omega, z0, z1⟩
        case measure => simp [intOf]; omega
    · have hlt' : (ss.length : Int) ≤ (k : Int) := by omega
      have et : (prs ss ns).take k = prs ss ns := List.take_of_length_le (by have := HL.out; omega)
      rw [et] at HO HG
      have hlen : Hid ((rowB (prs ss ns)).length ≤ 2400) := by
        have e1 := rowB_len _ HG.out
        have e2 := HL.out
        show _ ≤ _; omega
      obtain ⟨A5, cap5, ho, hbase, hrow⟩ := HO.out
      obtain ⟨x0, _⟩ := obj1 ho
      have BY := Lib.hid hrow.bytes
      have hg5 : w1.heap.size < wr.heap.size := by omega
      have hs5 := HB.out.size
      clear et ho hrow HO
      have BD : Hid ((prs ss ns).drop 0 = prs ss ns) := List.drop_zero
      go_wp2_with (first
        | (at_builtin; refine wp_app rfl (.tmp 48) (.tmp 52) rfl rfl rfl (OwnB.start wr wr.heap.size (Nat.le_refl _)) (by simp) rfl rfl (BY.out.below ((Below.refl _ _).alloc (Nat.le_refl _) _)) (by have := hlen.out; simp; omega) ?_; intro A6 cap6 w6 o6 d6; rw [List.nil_append] at o6; have O6 := Lib.hid o6; have D6 := Lib.hid (((Below.refl wr.heap.size wr).alloc (Nat.le_refl _) _).trans d6.below); have hs6 := D6.out.size; clear o6 d6)
        | fail)
      have I0 : Hid (InAt (w6.alloc (.cells #[.slice A6 (rowB (prs ss ns)).length cap6, .bool false] 33)) 33 w6.heap.size (rowB ((prs ss ns).drop 0)) false) := by
        rw [BD.out]
        exact in_new 33 cap6 _ rfl O6.out.cap_ (by have := hlen.out; omega) O6.out.bytes (Nat.le_refl _) false
      have E0 : Hid (Below w.heap.size w (w6.alloc (.cells #[.slice A6 (rowB (prs ss ns)).length cap6, .bool false] 33))) := (HB.out.trans (D6.out.mono hs5)).alloc (by omega) _
      have hgj : Hid (w.heap.size ≤ w6.heap.size) := by show _ ≤ _; omega
      clear O6 D6 BY x0 HB
      go_loopw [8] (fun iv wr => ∃ k : Nat, k ≤ ss.length ∧ iv = .int .i64 k ∧ InAt wr 33 w6.heap.size (rowB ((prs ss ns).drop k)) false ∧ Below w.heap.size w wr) (fun iv _ => ss.length - (intOf iv).toNat)
      case atStart => exact ⟨0, Nat.zero_le _, rfl, I0.out, E0.out⟩
      case round =>
        obtain ⟨q, hq, rfl, hI, hE⟩ := hrel
        have HI := Lib.hid hI
        have HE := Lib.hid hE
        clear hI hE I0 E0
        by_cases hqt : q < ss.length
        · have hqt' : (q : Int) < (ss.length : Int) := by omega
          obtain ⟨b, off, s, rfl, hbb, hc, hg, hsz⟩ := (HS.out.below HE.out).at_ hqt
          obtain ⟨b2, off2, z, rfl, hbb2, hc2, hg2, z0, z1⟩ := (HZ.out.below HE.out).at_ (show q < ns.length by have := H2.out; omega)
          have PD := prs_drop ss ns H2.out q hqt hg.out hg2.out
          have GP : Hid (goodP (s, z)) := HG.out _ (List.mem_of_mem_drop (i := q) (by rw [PD]; exact List.mem_cons_self ..))
          rw [PD] at HI
          have HID := Lib.hid (InAt.like (W := wr.drew) HI.out rfl rfl rfl rfl)
          have HED : Hid (Below w.heap.size w wr.drew) := below_drew HE.out
          have hqs : Hid (w.heap.size ≤ wr.drew.heap.size) := HED.out.size
          have y0 : wr.cell? ⟨w6.heap.size, 1, none⟩ = some (.bool false) := bad_cell HI.out
          have HC1 : Hid (wr.drew.cell? ⟨b, off + q, none⟩ = some (.string s)) := hc
          have HC2 : Hid (wr.drew.cell? ⟨b2, off2 + q, none⟩ = some (.int .i64 z)) := hc2
          clear PD
          go_wp2_with fail
          go_region_held3 (fun w' => w'.cell? ⟨b, off + q, none⟩ = some (.string s) ∧ w'.cell? ⟨b2, off2 + q, none⟩ = some (.int .i64 z) ∧ w'.cell? ⟨w6.heap.size, 1, none⟩ = some (.bool false)) ((first | go_keep | exact ⟨qb1, qb2, y2⟩ | exact ⟨qa1, qa2, y1⟩))
            (first
              | (go_at_call 14; (refine (inS_row (s, z) _ GP.out _ _ HID.out).mono ?_; rintro e wa ⟨rfl, ha⟩; have HA := Lib.hid ha; have ba := ha.2.below hqs.out hgj.out; have qa1 := (ba.cell (p := ⟨b, off + q, none⟩) hbb.out).trans HC1.out; have qa2 := (ba.cell (p := ⟨b2, off2 + q, none⟩) hbb2.out).trans HC2.out; have BA := Lib.hid ba; have y1 := bad_cell ha.1; clear ha ba))
              | (go_at_call 13; (refine (inI_row (s, z) _ GP.out _ _ HA.out.1).mono ?_; rintro e wb ⟨rfl, hb⟩; have HBB := Lib.hid hb; have bb := hb.2.below (Nat.le_trans hqs.out BA.out.size) hgj.out; have qb1 := (bb.cell (p := ⟨b, off + q, none⟩) hbb.out).trans qa1; have qb2 := (bb.cell (p := ⟨b2, off2 + q, none⟩) hbb2.out).trans qa2; have BB := Lib.hid bb; have y2 := bad_cell hb.1; clear hb bb)))
          go_wp2
          go_roundw
          case rel => exact ⟨q + 1, by omega, by go_num, HBB.out.1, HED.out.trans (BA.out.trans BB.out)⟩
          case measure => simp [intOf]; omega
        · have hqt' : (ss.length : Int) ≤ (q : Int) := by omega
          have ed : (prs ss ns).drop q = [] := List.drop_of_length_le (by have := HL.out; omega)
          rw [ed] at HI
          clear ed
          go_wp2_with fail
          refine (inEnd_any _ _ _ _ _ HI.out).mono ?_; rintro e w' ⟨rfl, rfl⟩
          rw [show En.isEnd (rowB []) false = true from rfl]
          go_wp2_with fail
          refine (inU_any _ _ _ _ HI.out).mono ?_; rintro e wb ⟨rfl, hb⟩
          rw [show (!En.okU (rowB []) false) = true from rfl] at hb
          have HBB := Lib.hid hb
          obtain ⟨AA, cc, oo, _, _, _⟩ := hb.1
          obtain ⟨⟨_, y1⟩, _, _⟩ := obj2 oo
          clear hb oo
          go_wp2_with fail
          refine (inEnd_any _ _ _ _ _ HBB.out.1).mono ?_; rintro e w' ⟨rfl, rfl⟩
          rw [show ∀ l, En.isEnd l true = false from fun l => rfl]
          go_wp2
          go_ret
          exact ⟨rfl, HE.out.trans (HBB.out.2.below HE.out.size hgj.out)⟩
theorem row_walk (A A1 : Option Addr) (ss : List ByteArray) (ns : List Int) (cap cap1 : Nat) (m0 : ss.length ≤ 9223372036854775807) (m1 : ns.length ≤ 9223372036854775807) (w : World) (hs : Strs w w.heap.size A ss) (hz : Nums w w.heap.size A1 ns) :
    Calls Try.prog 7 #[.slice A ss.length cap, .slice A1 ns.length cap1] w fun e w' => e = .returned (.bool true) ∧ Below w.heap.size w w' := by
  by_cases h : ss.length ≤ 20 ∧ ns.length = ss.length
  · exact row_in A A1 ss ns cap cap1 h.1 h.2 w hs hz
  · exact row_off A A1 _ _ cap cap1 (by omega) m0 m1 w
end Go.Proofs.Ythenjipljkphiaa
