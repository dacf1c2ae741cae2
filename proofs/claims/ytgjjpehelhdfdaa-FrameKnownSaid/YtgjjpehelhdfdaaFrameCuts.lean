/-
  The law FrameCuts: from a first part of records one behind the other, All tells exactly the whole ones, and EMORE unless it ends with one.
-/
import Derived.Test.YtgjjpehelhdfdaaFrameAll
import Derived.Test.YtgjjpehelhdfdaaNumRows
namespace Go.Proofs.Ytgjjpehelhdfdaa
open Go.RowKit
/-! ### Plain facts -/
theorem sizes_step (ps : List (List Int)) : ∀ (i : Nat) (p : List Int), i < ps.length → ps.getD i [] = p → Fr.sizesV ps (i + 1) = Fr.sizesV ps i + 16 + p.length := by
  induction ps with
  | nil => intro i p h; simp at h
  | cons q r ih =>
    intro i p h hp
    cases i with
    | zero =>
      rw [List.getD_cons_zero] at hp
      subst hp
      show 16 + q.length + Fr.sizesV r 0 = Fr.sizesV (q :: r) 0 + 16 + q.length
      rw [Fr.sizesV_zero, Fr.sizesV_zero]; omega
    | succ i =>
      rw [List.getD_cons_succ] at hp
      rw [Fr.sizesV, ih i p (by simpa using h) hp, Fr.sizesV]; omega
theorem sizes_mono (ps : List (List Int)) : ∀ k, k < ps.length → Fr.sizesV ps k ≤ Fr.sizesV ps (k + 1) := fun k h => by
  rw [sizes_step ps k _ h rfl]; omega
def endsL (ps : List (List Int)) (i : Nat) : List Int := (List.range i).map fun j => (Fr.sizesV ps (j + 1) : Int)
theorem endsL_len (ps : List (List Int)) (i : Nat) : (endsL ps i).length = i := by simp [endsL]
theorem endsL_get (ps : List (List Int)) (i j : Nat) (h : j < i) : (endsL ps i).getD j 0 = (Fr.sizesV ps (j + 1) : Int) := by
  rw [List.getD_eq_getElem?_getD]; simp [endsL, h]
theorem endsL_snoc (ps : List (List Int)) (i : Nat) : endsL ps (i + 1) = endsL ps i ++ [(Fr.sizesV ps (i + 1) : Int)] := by
  unfold endsL; rw [List.range_succ, List.map_append]; rfl
/-- Where the first loop stands in front of record i. -/
def CutAt (ps : List (List Int)) (i : Nat) (ys es : List Int) : Prop :=
  ys = Fr.putsV 0 (ps.take i) ∧ es = endsL ps i ∧ ys.length = Fr.sizesV ps i ∧ (∀ p ∈ ps.take i, p.length ≤ 100) ∧ ys.length ≤ 116 * i
theorem CutAt.start (ps : List (List Int)) : CutAt ps 0 [] [] := ⟨by simp [Fr.putsV], rfl, by rw [Fr.sizesV_zero]; rfl, by simp, by simp⟩
theorem CutAt.next {ps : List (List Int)} {i : Nat} {ys es p : List Int} (h : CutAt ps i ys es) (hi : i < ps.length) (hp : ps.getD i [] = p) (hl : p.length ≤ 100) :
    CutAt ps (i + 1) (ys ++ Fr.putV i p) (es ++ [(((ys.length + 16 + p.length : Nat)) : Int)]) := by
  obtain ⟨h1, h2, h3, h4, h5⟩ := h
  have e : ps.take (i + 1) = ps.take i ++ [p] := by
    rw [List.take_succ_eq_append_getElem hi]
    rw [List.getD_eq_getElem?_getD, List.getElem?_eq_getElem hi] at hp
    simp at hp
    rw [hp]
  refine ⟨?_, ?_, ?_, ?_, ?_⟩
  · rw [e, Fr.putsV_snoc, h1, List.length_take, Nat.min_eq_left (by omega), Int.zero_add]
  · rw [endsL_snoc, h2, sizes_step ps i p hi hp, h3]
  · rw [List.length_append, Fr.putV_len, sizes_step ps i p hi hp, h3]; omega
  · intro q hq
    rw [e] at hq
    rcases List.mem_append.1 hq with hq | hq
    · exact h4 q hq
    · simp at hq; subst hq; exact hl
  · rw [List.length_append, Fr.putV_len]; omega
theorem CutAt.done {ps : List (List Int)} {i : Nat} {ys es : List Int} (h : CutAt ps i ys es) (hi : ¬ i < ps.length) (hi2 : i ≤ ps.length) : ys = Fr.putsV 0 ps ∧ es = endsL ps ps.length ∧ ys.length = Fr.sizesV ps ps.length ∧ (∀ p ∈ ps, p.length ≤ 100) := by
  have e : i = ps.length := by omega
  subst e
  obtain ⟨h1, h2, h3, h4, _⟩ := h
  rw [List.take_length] at h1 h4
  exact ⟨h1, h2, h3, h4⟩
def PutM (w : World) (ys : List Int) (n : Nat) (e : Ending) (w' : World) : Prop :=
  ∃ A cap, e = .returned (.tuple #[.slice A n cap, .int .i64 0]) ∧ Hid (OwnB w' w.heap.size A cap ys) ∧ Hid (Below w.heap.size w w')
theorem put_more (Ab Ap : Option Addr) (xs p : List Int) (capb capp : Nat) (at_ : Int) (a0 : 0 ≤ at_) (a1 : at_ < 18446744073709551616) (hx : xs.length ≤ 100000000) (hp : p.length ≤ 1024) (w : World) (hb : Bytes w w.heap.size Ab xs) (hq : Bytes w w.heap.size Ap p) :
    Calls Try.prog 10 #[.slice Ab xs.length capb, .agg #[.int .u64 at_, .slice Ap p.length capp]] w (PutM w (xs ++ Fr.putV at_ p) (xs.length + 16 + p.length)) := by
  refine (put_any Ab Ap xs p capb capp at_ a0 a1 hx hp w hb hq).mono ?_
  rintro e w' ⟨zs, A, cap, hz, rfl, ho, hg⟩
  have e1 : zs = xs ++ Fr.putV at_ p := hz.out
  subst e1
  exact ⟨A, cap, by rw [List.length_append, Fr.putV_len, Nat.add_assoc], Lib.hid ho, Lib.hid hg.below⟩
set_option maxHeartbeats 1000000 in
theorem cuts_off (A1 : Option Addr) (n cap1 : Nat) (cut : Int) (h : 12 < n) (w : World) :
    Calls Try.prog 5 #[.slice A1 n cap1, .int .i64 cut] w fun e w' => e = .returned (.bool true) ∧ Below w.heap.size w w' := by
  have h' : (12 : Int) < (n : Int) := by omega
  go_enter Try.func5, Try.ntmps5
  go_wp2_with fail
  refine (awake_any _).mono ?_; rintro e w1 ⟨rfl, hb1⟩
  go_wp2
  go_ret
  exact ⟨rfl, hb1⟩
set_option maxHeartbeats 8000000 in
set_option maxRecDepth 100000 in
theorem cuts_core (A1 : Option Addr) (ps : List (List Int)) (cap1 : Nat) (cut : Int) (h : ps.length ≤ 12) (w : World) (hm : Mat w w.heap.size A1 ps) :
    Calls Try.prog 5 #[.slice A1 ps.length cap1, .int .i64 cut] w fun e w' => e = .returned (.bool true) ∧ Below w.heap.size w w' := by
  have h' : (ps.length : Int) ≤ 12 := by omega
  have HM := Lib.hid hm
  clear hm
  go_enter Try.func5, Try.ntmps5
  go_wp2_with fail
  refine (awake_any _).mono ?_; rintro e w1 ⟨rfl, hb1⟩
  have B1 := Lib.hid hb1
  clear hb1
  go_wp2_with fail
  go_loopw [5, 6, 7] (fun bv ev iv wr => ∃ (i : Nat) (A : Option Addr) (c : Nat) (ys : List Int) (Ae : Option Addr) (ce : Nat) (es : List Int), i ≤ ps.length ∧ CutAt ps i ys es ∧ iv = .int .i64 i ∧ bv = .slice A ys.length c ∧ ev = .slice Ae es.length ce ∧ OwnB wr w.heap.size A c ys ∧ OwnN wr w.heap.size Ae ce es ∧ Below w.heap.size w wr) (fun _ _ iv _ => ps.length - (intOf iv).toNat)
  case atStart => exact ⟨0, none, 0, [], none, 0, [], Nat.zero_le _, CutAt.start ps, rfl, rfl, rfl, OwnB.none_ _ _, OwnN.none_ _ _, B1.out⟩
  case round =>
    obtain ⟨i, A, c, ys, Ae, ce, es, hi, hat, rfl, rfl, rfl, hob, hon, hbel⟩ := hrel
    have HA := Lib.hid hat
    have OB := Lib.hid hob
    have ON := Lib.hid hon
    have HW := Lib.hid hbel
    clear hat hob hon hbel
    by_cases hlt : i < ps.length
    · have hlt' : (i : Int) < (ps.length : Int) := by omega
      obtain ⟨b, off, p, Ai, ci, rfl, hbb, hc, hp, hby, hpl⟩ := (HM.out.below HW.out).at_ hlt
      by_cases h100 : 100 < p.length
      · have h100' : (100 : Int) < (p.length : Int) := by omega
        go_wp2
        go_ret
        exact ⟨rfl, HW.out⟩
      · have h100' : (p.length : Int) ≤ 100 := by omega
        have hyl : Hid (ys.length ≤ 1400) := by have := HA.out.2.2.2.2; show _ ≤ _; omega
        have hyl' : (ys.length : Int) ≤ 1400 := by have := hyl.out; omega
        have EL : Hid (es.length = i) := by show _ = _; rw [HA.out.2.1, endsL_len]
        have hs := HW.out.size
        go_wp2_with fail
        refine (put_more A Ai ys p c ci (i : Int) (by omega) (by omega) (by have := hyl.out; omega) (by omega) wr OB.out.bytes (hby.out.more hs)).mono ?_; rintro e w3 ⟨A3, c3, rfl, o3, b3⟩
        have hc3 := (b3.out.cell (p := ⟨b, off + i, none⟩) (by have := hbb.out; simp; omega)).trans hc
        have B3 := Lib.hid (HW.out.trans (b3.out.mono hs))
        have hs3 := B3.out.size
        have ON3 := Lib.hid ((ON.out.grew b3.out (Nat.le_refl _)).grew ((Below.refl w3.heap.size w3).alloc (Nat.le_refl _) (.cells #[.int .i64 ((ys.length : Int) + 16 + (p.length : Int))] 3)) (Nat.le_refl _))
        clear hc
        go_wp2_with (at_builtin; refine wp_appN rfl (.tmp 62) (.tmp 65) rfl rfl rfl ON3.out (by simp; omega) rfl (by rw [World.cell?_alloc_new]; rfl) (by rw [EL.out]; omega) ?_; intro A4 c4 w4 o4 d4; have O4 := Lib.hid o4; have D4 := Lib.hid d4; clear o4 d4)
        go_roundw
        case rel =>
          have hn := HA.out.next hlt hp.out (by omega)
          have bb := grownN_below ON3.out (by simp; omega) D4.out
          have o5 := (o3.out.low hs).grew ((Below.refl w3.heap.size w3).alloc (Nat.le_refl _) (.cells #[.int .i64 ((ys.length : Int) + 16 + (p.length : Int))] 3)) (Nat.le_refl _)
          refine ⟨i + 1, A3, c3, _, A4, c4, _, by omega, hn, by go_num, ?_, by simp, o5.grownN ON3.out D4.out, O4.out, (B3.out.alloc hs3 _).trans bb⟩
          rw [List.length_append, Fr.putV_len, Nat.add_assoc]
        case measure => simp [intOf]; omega
    · have HD := Lib.hid (HA.out.done hlt hi)
      have hlt' : (ps.length : Int) ≤ (i : Int) := by omega
      have hyl : Hid (ys.length ≤ 1400) := by have := HA.out.2.2.2.2; show _ ≤ _; omega
      have hyl' : (ys.length : Int) ≤ 1400 := by have := hyl.out; omega
      have hs := HW.out.size
      by_cases hcut : 0 ≤ cut ∧ cut ≤ (ys.length : Int)
      · obtain ⟨hc0, hc1⟩ := hcut
        obtain ⟨cut, rfl⟩ := Int.eq_ofNat_of_zero_le hc0
        have hcy : cut ≤ ys.length := by omega
        have hsl := slice_to A ys.length c cut (by have := OB.out.cap_; omega) .i64
        obtain ⟨l1, nl, el, hV⟩ : ∃ l1 nl el, Fr.allV (ys.take cut) = (l1, nl, el) := ⟨_, _, _, rfl⟩
        have V := Lib.hid hV
        clear hV
        have LT : Hid (cut = (ys.take cut).length) := by show _ = _; rw [List.length_take]; omega
        go_wp2_with fail
        refine (all_at A (ys.take cut) l1 cut _ nl c el LT.out V.out rfl (by have := LT.out; have := hyl.out; omega) (by have := LT.out; have := OB.out.cap_; omega) wr (OB.out.bytes.head cut)).mono ?_; rintro e w5 ⟨A5, c5, rfl, o5, b5⟩
        have B5 := Lib.hid (HW.out.trans (b5.out.mono hs))
        have ON5 := Lib.hid (ON.out.grew b5.out (Nat.le_refl _))
        have EL : Hid (es.length = ps.length) := by show _ = _; rw [HD.out.2.1, endsL_len]
        rw [EL.out]
        have SZ : Hid (∀ k, k ≤ ps.length → Fr.sizesV ps k ≤ 100000) := fun k hk => by
          have h1 := HD.out.2.2.1
          have h2 : ∀ d, k + d ≤ ps.length → Fr.sizesV ps k ≤ Fr.sizesV ps (k + d) := by
            intro d
            induction d with
            | zero => intro _; exact Nat.le_refl _
            | succ d ih => intro hd; exact Nat.le_trans (ih (by omega)) (sizes_mono ps (k + d) (by omega))
          have h3 := h2 (ps.length - k) (by omega)
          rw [show k + (ps.length - k) = ps.length by omega] at h3
          have := hyl.out
          omega
        have CP : Hid (∀ p ∈ ps, p.length ≤ 1024) := fun p hp => by have := HD.out.2.2.2 p hp; omega
        have AC : Hid (∀ k, k ≤ ps.length → Fr.sizesV ps k ≤ cut → (k = ps.length ∨ cut < Fr.sizesV ps (k + 1)) → l1 = (Fr.recsV 0 ps).take k ∧ l1.length = k ∧ nl = Fr.sizesV ps k ∧ el = if Fr.sizesV ps k = cut then 0 else 3) := fun k hk hs hx => by
          have e := Fr.all_cut ps 0 k cut (by decide) (by omega) CP.out hk hs (by rw [← HD.out.1]; exact hcy) hx
          rw [← HD.out.1, V.out] at e
          have e1 : l1 = (Fr.recsV 0 ps).take k := congrArg (·.1) e
          refine ⟨e1, by rw [e1, List.length_take, Fr.recsV_len]; omega, congrArg (·.2.1) e, congrArg (·.2.2) e⟩
        have E0 : Hid (Fr.sizesV ps 0 = 0) := Fr.sizesV_zero ps
        go_wp2_with fail
        go_loop [13, 14] (fun kv lv => ∃ k : Nat, k ≤ ps.length ∧ Fr.sizesV ps k ≤ cut ∧ kv = .int .i64 k ∧ lv = .int .i64 (Fr.sizesV ps k : Nat)) (fun kv _ => ps.length - (intOf kv).toNat)
        case atStart => exact ⟨0, Nat.zero_le _, by rw [E0.out]; exact Nat.zero_le _, rfl, by rw [E0.out]; rfl⟩
        case round =>
          obtain ⟨k, hk, hsk, rfl, rfl⟩ := hrel
          by_cases hkt : k < ps.length
          · have hkt' : (k : Int) < (ps.length : Int) := by omega
            obtain ⟨g, rfl, hg, hcell⟩ := ON5.out.cell (i := k) (by rw [EL.out]; exact hkt)
            rw [HD.out.2.1, endsL_get ps _ k hkt] at hcell
            by_cases hsc : Fr.sizesV ps (k + 1) ≤ cut
            · have hsc' : (Fr.sizesV ps (k + 1) : Int) ≤ (cut : Int) := by omega
              go_wp2
              go_round
              case rel => exact ⟨k + 1, by omega, hsc, by go_num, rfl⟩
              case measure => simp [intOf]; omega
            · have hsc' : (cut : Int) < (Fr.sizesV ps (k + 1) : Int) := by omega
              have A0 := AC.out k hk hsk (.inr (by omega))
              obtain ⟨a1, a2, a3, a4⟩ := A0
              have L1 := Lib.hid a1
              have K1 := Lib.hid a2
              subst a3
              rw [K1.out]
              clear a1 a2 AC SZ CP E0
              have hk13 : (k : Int) ≤ 12 := by omega
              generalize hse : Fr.sizesV ps k = s at *
              clear hse
              have hq : (s = cut ∧ el = 0) ∨ (((s : Int) == (cut : Int)) = false ∧ el = 3) := by
                by_cases hq : s = cut
                · exact .inl ⟨hq, by rw [a4, if_pos hq]⟩
                · exact .inr ⟨by simp; omega, by rw [a4, if_neg hq]⟩
              clear a4
              rcases hq with ⟨rfl, rfl⟩ | ⟨hq, rfl⟩
              all_goals
                go_wp2_with fail
                go_loopw [15] (fun iv wr => ∃ j : Nat, j ≤ k ∧ iv = .int .i64 j ∧ Below w5.heap.size w5 wr) (fun iv _ => k - (intOf iv).toNat)
                case atStart => exact ⟨0, Nat.zero_le _, rfl, Below.refl _ _⟩
                case round =>
                  obtain ⟨j, hj, rfl, hbel⟩ := hrel
                  have H5 := Lib.hid hbel
                  clear hbel
                  by_cases hjt : j < k
                  · have hjt' : (j : Int) < (k : Int) := by omega
                    have hjn : (j : Int) < (ps.length : Int) := by omega
                    have R := o5.out.grew H5.out (Nat.le_refl _)
                    obtain ⟨g7, A7, c7, at_, p7, rfl, hg7, x0, x1, hb7, he7⟩ := R.at_ (i := j) (by rw [K1.out]; exact hjt)
                    have M := (HM.out.below B5.out).below (H5.out.mono B5.out.size)
                    obtain ⟨b8, off8, p8, A8, c8, rfl, hg8, y0, hp8, hb8, hl8⟩ := M.at_ (k := j) (by omega)
                    have ee : ((at_, p7) : Fr.Rc) = ((j : Int), p8) := by
                      rw [← he7.out, L1.out, List.getD_eq_getElem?_getD, List.getElem?_take_of_lt hjt, ← List.getD_eq_getElem?_getD, Fr.recsV_get 0 ps j (by omega), hp8.out, Int.zero_add]
                    injection ee with ee1 ee2
                    subst ee1 ee2
                    clear R M he7
                    have cv1 := fun n => conv_str (w := wr.drewN n) (hb7.out.keep fun _ _ _ => rfl) c7
                    have cv2 := fun n => conv_str (w := wr.drewN n) (hb8.out.keep fun _ _ _ => rfl) c8
                    generalize strOfNums p7 = st at *
                    go_wp2_with fail
                    go_quiet (fail)
                    go_wp2
                    go_roundw
                    case rel => exact ⟨j + 1, by omega, by go_num, below_n H5.out _⟩
                    case measure => simp [intOf]; omega
                  · have hjt' : (k : Int) ≤ (j : Int) := by omega
                    go_wp2
                    go_ret
                    exact ⟨rfl, B5.out.trans (H5.out.mono B5.out.size)⟩
          · have hkt' : (ps.length : Int) ≤ (k : Int) := by omega
            have A0 := AC.out k hk hsk (.inl (by omega))
            obtain ⟨a1, a2, a3, a4⟩ := A0
            have L1 := Lib.hid a1
            have K1 := Lib.hid a2
            subst a3
            rw [K1.out]
            clear a1 a2 AC SZ CP E0
            have hk13 : (k : Int) ≤ 12 := by omega
            generalize hse : Fr.sizesV ps k = s at *
            clear hse
            have hq : (s = cut ∧ el = 0) ∨ (((s : Int) == (cut : Int)) = false ∧ el = 3) := by
              by_cases hq : s = cut
              · exact .inl ⟨hq, by rw [a4, if_pos hq]⟩
              · exact .inr ⟨by simp; omega, by rw [a4, if_neg hq]⟩
            clear a4
            rcases hq with ⟨rfl, rfl⟩ | ⟨hq, rfl⟩
            all_goals
              go_wp2_with fail
              go_loopw [15] (fun iv wr => ∃ j : Nat, j ≤ k ∧ iv = .int .i64 j ∧ Below w5.heap.size w5 wr) (fun iv _ => k - (intOf iv).toNat)
              case atStart => exact ⟨0, Nat.zero_le _, rfl, Below.refl _ _⟩
              case round =>
                obtain ⟨j, hj, rfl, hbel⟩ := hrel
                have H5 := Lib.hid hbel
                clear hbel
                by_cases hjt : j < k
                · have hjt' : (j : Int) < (k : Int) := by omega
                  have hjn : (j : Int) < (ps.length : Int) := by omega
                  have R := o5.out.grew H5.out (Nat.le_refl _)
                  obtain ⟨g7, A7, c7, at_, p7, rfl, hg7, x0, x1, hb7, he7⟩ := R.at_ (i := j) (by rw [K1.out]; exact hjt)
                  have M := (HM.out.below B5.out).below (H5.out.mono B5.out.size)
                  obtain ⟨b8, off8, p8, A8, c8, rfl, hg8, y0, hp8, hb8, hl8⟩ := M.at_ (k := j) (by omega)
                  have ee : ((at_, p7) : Fr.Rc) = ((j : Int), p8) := by
                    rw [← he7.out, L1.out, List.getD_eq_getElem?_getD, List.getElem?_take_of_lt hjt, ← List.getD_eq_getElem?_getD, Fr.recsV_get 0 ps j (by omega), hp8.out, Int.zero_add]
                  injection ee with ee1 ee2
                  subst ee1 ee2
                  clear R M he7
                  have cv1 := fun n => conv_str (w := wr.drewN n) (hb7.out.keep fun _ _ _ => rfl) c7
                  have cv2 := fun n => conv_str (w := wr.drewN n) (hb8.out.keep fun _ _ _ => rfl) c8
                  generalize strOfNums p7 = st at *
                  go_wp2_with fail
                  go_quiet (fail)
                  go_wp2
                  go_roundw
                  case rel => exact ⟨j + 1, by omega, by go_num, below_n H5.out _⟩
                  case measure => simp [intOf]; omega
                · have hjt' : (k : Int) ≤ (j : Int) := by omega
                  go_wp2
                  go_ret
                  exact ⟨rfl, B5.out.trans (H5.out.mono B5.out.size)⟩
      · have hcut' : cut < 0 ∨ (0 ≤ cut ∧ (ys.length : Int) < cut) := by omega
        rcases hcut' with hc | ⟨hc, hc2⟩
        all_goals
          go_wp2
          go_ret
          exact ⟨rfl, HW.out⟩
theorem cuts_walk (A1 : Option Addr) (ps : List (List Int)) (cap1 : Nat) (cut : Int) (w : World) (hm : Mat w w.heap.size A1 ps) :
    Calls Try.prog 5 #[.slice A1 ps.length cap1, .int .i64 cut] w fun e w' => e = .returned (.bool true) ∧ Below w.heap.size w w' := by
  by_cases h : ps.length ≤ 12
  · exact cuts_core A1 ps cap1 cut h w hm
  · exact cuts_off A1 _ cap1 cut (by omega) w
end Go.Proofs.Ytgjjpehelhdfdaa
