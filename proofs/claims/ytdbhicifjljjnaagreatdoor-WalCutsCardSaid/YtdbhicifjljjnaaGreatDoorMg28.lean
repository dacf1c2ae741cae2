/-
  Part 28 of the texts behind the law: WalLcut.
-/
import Derived.Test.YtdbhicifjljjnaaGreatDoorMg27
import Derived.Test.YtdbhicifjljjnaaGreatDoorMg25
/-
  Cut: the records from an offset on are removed, the last segments first.
-/
namespace Go.Proofs.YtdbhicifjljjnaaGreatDoor
open Go.RowKit St
def dropE1 (f : Int) (s : S) : Int := actE s (fnd s (nmS f) [nmS f])
def dropS1 (f : Int) (s : S) : S := actS s (fnd s (nmS f) [nmS f]) (del (nmS f) s.fs)
/-- The segments' files removed from the last one on, while they begin at off or behind it: how many segments stay, the store, the error. -/
def dropC (l : Wl.L) (off : Int) : Nat → S → Nat × S × Int
  | 0, s => (0, s, 0)
  | 1, s => (1, s, 0)
  | n + 2, s => if off ≤ (segI l (n + 1)).1 then
      (if dropE1 (segI l (n + 1)).1 s ≠ 0 then (n + 2, dropS1 (segI l (n + 1)).1 s, dropE1 (segI l (n + 1)).1 s) else dropC l off (n + 1) (dropS1 (segI l (n + 1)).1 s))
    else (n + 2, s, 0)
def cutD (s : S) (l : Wl.L) (off : Int) : Nat × S × Int := dropC l off l.segs.length s
def lcutE (s : S) (l : Wl.L) (off : Int) : Int := if (cutD s l off).2.2 ≠ 0 then (cutD s l off).2.2 else shE (cutD s l off).2.1 l ((cutD s l off).1 - 1) off
def lcutS (s : S) (l : Wl.L) (off : Int) : S := if (cutD s l off).2.2 ≠ 0 then (cutD s l off).2.1 else shS (cutD s l off).2.1 l ((cutD s l off).1 - 1) off
def cutLg (l : Wl.L) (m : Nat) (off : Int) : Wl.L := ⟨l.most, (l.segs.set (m - 1) ((segI l (m - 1)).1, (shN l (m - 1) off : Int))).take m, l.recs.take (shZ l off), min l.sure off⟩
def lcutL (s : S) (l : Wl.L) (off : Int) : Wl.L := if lcutE s l off = 0 then cutLg l (cutD s l off).1 off else l
theorem dropC_bd (l : Wl.L) (off : Int) : ∀ (n : Nat) (s : S), 0 < n → 0 < (dropC l off n s).1 ∧ (dropC l off n s).1 ≤ n
  | 0, _, h => by omega
  | 1, _, _ => ⟨Nat.one_pos, Nat.le_refl _⟩
  | n + 2, s, _ => by
    unfold dropC
    split
    · split
      · exact ⟨by simp, Nat.le_refl _⟩
      · have := dropC_bd l off (n + 1) (dropS1 (segI l (n + 1)).1 s) (by omega)
        exact ⟨this.1, by omega⟩
    · exact ⟨by simp, Nat.le_refl _⟩
theorem shL_inv {l : Wl.L} {i : Nat} {off : Int} (h : Wl.Inv l) (hi : i < l.segs.length) (hN : shN l i off ≤ 16777216) : Wl.Inv { l with segs := l.segs.set i ((segI l i).1, (shN l i off : Int)) } := by
  have hm : segI l i ∈ l.segs := by unfold segI; rw [List.getD_eq_getElem?_getD, List.getElem?_eq_getElem hi]; exact List.getElem_mem _
  refine ⟨h.most, fun g hg => ?_, fun g hg => ?_, h.count, by show (l.segs.set _ _).length ≤ _; rw [List.length_set]; exact h.segc, h.at_, h.pay, fun hn => ?_, h.sure⟩
  · rcases List.mem_or_eq_of_mem_set hg with e | e
    · exact h.first g e
    · subst e
      show 0 ≤ (segI l i).1 ∧ (segI l i).1 ≤ _
      exact h.first _ hm
  · rcases List.mem_or_eq_of_mem_set hg with e | e
    · exact h.size g e
    · subst e
      show 0 ≤ (shN l i off : Int) ∧ (shN l i off : Int) ≤ _
      omega
  · have : (l.segs.set i ((segI l i).1, (shN l i off : Int))).length = 0 := by
      have e : l.segs.set i ((segI l i).1, (shN l i off : Int)) = [] := hn
      rw [e]; rfl
    rw [List.length_set] at this
    omega
theorem inv_take_segs {l : Wl.L} (h : Wl.Inv l) (n : Nat) (h0 : 0 < n) (hs : l.segs ≠ []) : Wl.Inv { l with segs := l.segs.take n } := by
  refine ⟨h.most, fun g hg => h.first g (List.mem_of_mem_take hg), fun g hg => h.size g (List.mem_of_mem_take hg), h.count, ?_, h.at_, h.pay, fun hn => ?_, h.sure⟩
  · have := h.segc
    show (l.segs.take n).length ≤ _
    rw [List.length_take]; omega
  · exfalso
    have e : l.segs.take n = [] := hn
    rcases List.take_eq_nil_iff.1 e with e | e
    · omega
    · exact hs e
theorem inv_take_recs {l : Wl.L} (h : Wl.Inv l) (n : Nat) : Wl.Inv { l with recs := l.recs.take n } := by
  refine ⟨h.most, h.first, h.size, ?_, h.segc, fun r hr => h.at_ r (List.mem_of_mem_take hr), fun r hr => h.pay r (List.mem_of_mem_take hr), fun hn => ?_, h.sure⟩
  · have := h.count
    show (l.recs.take n).length ≤ _
    rw [List.length_take]; omega
  · show l.recs.take n = []
    rw [h.none_ hn]; simp
section
variable {w0 w : World} {T Lb : Nat} {s : S} {l : Wl.L} {G : List (Nat × Obj)} {sa : Option Addr} {sc : Nat} {ra : Option Addr} {rc : Nat}
set_option maxRecDepth 20000 in
set_option maxHeartbeats 4000000 in
/-- Cut at the end: nothing. -/
theorem lcut_end (h : WRun w0 w T Lb s l G sa sc ra rc) (ho : s.off = false) (off : Int) (he : off = Wl.endV l) :
    Calls Tryz.prog 13 #[.pointer (some ⟨Lb, 0, none⟩), .int .i64 off] w fun e w' => RetI 0 e ∧ Hid (WRun w0 w' T Lb s l G sa sc ra rc) := by
  have H := Lib.hid h
  have hfv := h.inv.2.first_
  have hev : Wl.endV l = Wl.firstV l + (l.recs.length : Int) := rfl
  have EK : Hid (∀ W, WRun w0 W T Lb s l G sa sc ra rc → Calls Tryz.prog 12 #[.pointer (some ⟨Lb, 0, none⟩)] W fun e w' => e = .returned (.int .i64 (Wl.endV l)) ∧ ∃ j, w' = W.drewN j) := Lib.hid (fun W h => end_w h)
  have FK : Hid (∀ W, WRun w0 W T Lb s l G sa sc ra rc → Calls Tryz.prog 17 #[.pointer (some ⟨Lb, 0, none⟩)] W fun e w' => e = .returned (.int .i64 (Wl.firstV l)) ∧ W = w') := Lib.hid (fun W h => first_w h)
  have OK : Hid (∀ W, WRun w0 W T Lb s l G sa sc ra rc → Calls Tryz.prog 11 #[.pointer (some ⟨T, 0, none⟩)] W fun e w' => e = .returned (.bool false) ∧ W = w') := Lib.hid (fun W h => by rw [← ho]; exact off_w h)
  have CK : Hid (∀ W, WRun w0 W T Lb s l G sa sc ra rc → W.cell? ⟨Lb, 0, none⟩ = some (.pointer (some ⟨T, 0, none⟩))) := Lib.hid (fun W h => (obj5 (obj_w h)).1.1)
  have E1 := Lib.hid (EK.out w h)
  subst he
  have hlt : ¬ Wl.endV l < Wl.firstV l := by omega
  clear h hev
  generalize Wl.endV l = ev at *
  generalize Wl.firstV l = fv at *
  go_enter Tryz.func13, Tryz.ntmps13
  go_wp2_with fail
  (with_reducible refine E1.out.mono ?_); rintro e w' ⟨rfl, j, rfl⟩
  have H1 := Lib.hid (WRun.draw H.out j)
  generalize w.drewN j = w1 at *
  have F1 := Lib.hid (FK.out w1 H1.out)
  have hgt : ¬ ev < ev := by omega
  go_wp2_with fail
  (with_reducible refine F1.out.mono ?_); rintro e w' ⟨rfl, rfl⟩
  have O1 := Lib.hid (OK.out w1 H1.out)
  have c0 := CK.out w1 H1.out
  go_wp2_with fail
  (with_reducible refine O1.out.mono ?_); rintro e w' ⟨rfl, rfl⟩
  have E2 := Lib.hid (EK.out w1 H1.out)
  go_wp2_with fail
  (with_reducible refine E2.out.mono ?_); rintro e w' ⟨rfl, j2, rfl⟩
  have H2 := Lib.hid (WRun.draw H1.out j2)
  go_wp2
  go_ret
  exact ⟨rfl, H2⟩
theorem slice_toS (A : Option Addr) (n cap m : Nat) (h : m ≤ cap) (W : World) :
    (Instr.slice 55 (.slice A n cap) none (some (.int .i64 (m : Int))) none).run Tryz.prog W = .ok (.slice A m cap) W := by
  have hs : ∀ W, (sizeOf 70).run Tryz.prog W = .ok 2 W := fun W => by kernel_rfl
  have he : Tryz.prog.elem 55 = 70 := by kernel_rfl
  have hu : Tryz.prog.underlying 55 = some (.slice (Tryz.prog.elem 55)) := by rw [he]; exact Tryz.underlying55
  rw [run_slice_h (P := Tryz.prog) (w := W) 55 A n cap hu .i64 (m : Int) (by omega) (by omega), he, hs]
  cases A with
  | none => simp [Result.andThen, sliced]
  | some a => simp [Result.andThen, sliced, Addr.add]
theorem WRun.recs_own (h : WRun w0 w T Lb s l G sa sc ra rc) (hn : 0 < l.recs.length) : ∃ gr vs, ra = some ⟨gr, 0, none⟩ ∧ Hid (OwnP w 0 40 (some ⟨gr, 0, none⟩) rc vs ∧ vs.length = l.recs.length) := by
  obtain ⟨_, O, _, q, _⟩ := h
  obtain ⟨vs, r1, r2, r3, r4⟩ := q.recs
  obtain ⟨gr, e, _⟩ := r2.shape (by omega)
  subst e
  exact ⟨gr, vs, rfl, Lib.hid ⟨r2, r1⟩⟩
theorem WRun.seg_cap (h : WRun w0 w T Lb s l G sa sc ra rc) : l.segs.length ≤ sc := WRun.cap h
set_option maxRecDepth 20000 in
set_option maxHeartbeats 16000000 in
theorem lcut_in (h : WRun w0 w T Lb s l G sa sc ra rc) (hF : Facts w0) (ho : s.off = false) (off : Int) (h1 : Wl.firstV l ≤ off) (h2 : off < Wl.endV l) (hsg : ∀ i, i < l.segs.length → Wl.firstV l ≤ (segI l i).1) (hN : ∀ i, i < l.segs.length → shN l i off ≤ 16777216) :
    Calls Tryz.prog 13 #[.pointer (some ⟨Lb, 0, none⟩), .int .i64 off] w fun e w' => RetI (lcutE s l off) e ∧ Hid (WRun w0 w' T Lb (lcutS s l off) (lcutL s l off) G sa sc ra rc) := by
  have H := Lib.hid h
  have HF := Lib.hid hF
  have hfv := h.inv.2.first_
  have hev : Wl.endV l = Wl.firstV l + (l.recs.length : Int) := rfl
  have hrl : 0 < l.recs.length := by omega
  have hsl : 0 < l.segs.length := by
    rcases Nat.eq_zero_or_pos l.segs.length with h0 | h0
    · have := h.inv.2.none_ (List.eq_nil_of_length_eq_zero h0)
      rw [this] at hrl; simp at hrl
    · exact h0
  obtain ⟨g, hg, _⟩ := seg_w h hsl
  subst hg
  obtain ⟨gr, vs0, hgr, _⟩ := WRun.recs_own h hrl
  subst hgr
  have hsc := h.inv.2.segc
  have EK : Hid (∀ s' W, WRun w0 W T Lb s' l G (some ⟨g, 0, none⟩) sc (some ⟨gr, 0, none⟩) rc → Calls Tryz.prog 12 #[.pointer (some ⟨Lb, 0, none⟩)] W fun e w' => e = .returned (.int .i64 (Wl.endV l)) ∧ ∃ j, w' = W.drewN j) := Lib.hid (fun s' W h => end_w h)
  have FK : Hid (∀ s' W, WRun w0 W T Lb s' l G (some ⟨g, 0, none⟩) sc (some ⟨gr, 0, none⟩) rc → Calls Tryz.prog 17 #[.pointer (some ⟨Lb, 0, none⟩)] W fun e w' => e = .returned (.int .i64 (Wl.firstV l)) ∧ W = w') := Lib.hid (fun s' W h => first_w h)
  have OK : Hid (∀ W, WRun w0 W T Lb s l G (some ⟨g, 0, none⟩) sc (some ⟨gr, 0, none⟩) rc → Calls Tryz.prog 11 #[.pointer (some ⟨T, 0, none⟩)] W fun e w' => e = .returned (.bool false) ∧ W = w') := Lib.hid (fun W h => by rw [← ho]; exact off_w h)
  obtain ⟨n, hn⟩ : ∃ n, n = l.segs.length := ⟨_, rfl⟩
  have HN := Lib.hid hn
  have CK : Hid (∀ s' W, WRun w0 W T Lb s' l G (some ⟨g, 0, none⟩) sc (some ⟨gr, 0, none⟩) rc → W.cell? ⟨Lb, 0, none⟩ = some (.pointer (some ⟨T, 0, none⟩)) ∧ W.cell? ⟨Lb, 2, none⟩ = some (.slice (some ⟨g, 0, none⟩) n sc)) := Lib.hid (fun s' W h => by
    obtain ⟨⟨c0, _, c2, _⟩, _⟩ := obj5 (obj_w h)
    rw [← HN.out] at c2
    exact ⟨c0, c2⟩)
  have HSG := Lib.hid hsg
  have HNN := Lib.hid hN
  have H2 := Lib.hid h2
  have H1 := Lib.hid h1
  have DE : Hid (cutD s l off = dropC l off n s) := Lib.hid (by rw [HN.out]; rfl)
  have E1 := Lib.hid (EK.out s w h)
  have hlt : ¬ off < Wl.firstV l := by omega
  have hgt : ¬ Wl.endV l < off := by omega
  have hne : (off == Wl.endV l) = false := beq_eq_false_iff_ne.2 (by omega)
  have hn0 : 0 < n := by omega
  have hn1 : (n : Int) ≤ 16777216 := by omega
  have HRL := Lib.hid hrl
  have HEV := Lib.hid hev
  have HCAP := Lib.hid (WRun.cap h)
  clear h hF hev hsl hrl hsg hN hn ho hsc h2 h1
  go_enter Tryz.func13, Tryz.ntmps13
  go_wp2_with fail
  (with_reducible refine E1.out.mono ?_); rintro e w' ⟨rfl, j, rfl⟩
  have T1 := Lib.hid (WRun.draw H.out j)
  generalize w.drewN j = w1 at *
  have F1 := Lib.hid (FK.out s w1 T1.out)
  go_wp2_with fail
  (with_reducible refine F1.out.mono ?_); rintro e w' ⟨rfl, rfl⟩
  have O1 := Lib.hid (OK.out w1 T1.out)
  obtain ⟨c0, c2⟩ := CK.out s w1 T1.out
  go_wp2_with fail
  (with_reducible refine O1.out.mono ?_); rintro e w' ⟨rfl, rfl⟩
  have E2 := Lib.hid (EK.out s w1 T1.out)
  go_wp2_with fail
  (with_reducible refine E2.out.mono ?_); rintro e w' ⟨rfl, j2, rfl⟩
  have T2 := Lib.hid (WRun.draw T1.out j2)
  clear c0 c2 E1 E2 O1 F1 T1
  generalize w1.drewN j2 = w2 at *
  obtain ⟨c0, c2⟩ := CK.out s w2 T2.out
  go_upto_block 1 with fail
  clear c0 c2
  go_cut [5] from 34 to 67 (fun iv wx => ∃ (m : Nat) (s2 : S), iv = .int .i64 (m : Int) ∧ Hid (0 < m ∧ m ≤ n) ∧ Hid (dropC l off n s = (m, s2, 0)) ∧ Hid ((segI l (m - 1)).1 ≤ off) ∧ Hid (WRun w0 wx T Lb s2 l G (some ⟨g, 0, none⟩) sc (some ⟨gr, 0, none⟩) rc))
  case first =>
    go_wp2_with fail
    go_loopg [5] n (fun q iv wr => ∃ (m : Nat) (s2 : S), q = m ∧ iv = .int .i64 (m : Int) ∧ 0 < m ∧ m ≤ n ∧ Hid (dropC l off n s = dropC l off m s2) ∧ Hid (WRun w0 wr T Lb s2 l G (some ⟨g, 0, none⟩) sc (some ⟨gr, 0, none⟩) rc))
    case atStart => exact ⟨n, s, rfl, rfl, hn0, Nat.le_refl _, Lib.hid rfl, T2⟩
    case round =>
      obtain ⟨m, s2, hq, rfl, hm0, hm, HD, HR⟩ := hrel
      have hq' := hq.symm
      subst hq'
      by_cases hm1 : m = 1
      · subst hm1
        have DC : Hid (dropC l off n s = (1, s2, 0)) := HD
        have SF : Hid ((segI l (1 - 1)).1 ≤ off) := Lib.hid (by
          have e : (segI l 0).1 = Wl.firstV l := by unfold segI Wl.firstV; cases l.segs <;> rfl
          show (segI l 0).1 ≤ off
          rw [e]; exact H1.out)
        go_wp2
        go_meet
        exact ⟨1, s2, rfl, Lib.hid ⟨by omega, hm⟩, DC, SF, HR⟩
      · obtain ⟨k, rfl⟩ : ∃ k, m = k + 2 := ⟨m - 2, by omega⟩
        have hil : k + 1 < l.segs.length := by rw [← HN.out]; omega
        obtain ⟨g', hg', d0, d1⟩ := seg_w HR.out hil
        obtain rfl : g = g' := by injection hg' with e; injection e
        replace d0 : wr.cell? ⟨g, (k + 1) * 2, none⟩ = some (.int .i64 (segI l (k + 1)).1) := d0
        replace d1 : wr.cell? ⟨g, (k + 1) * 2 + 1, none⟩ = some (.int .i64 (segI l (k + 1)).2) := d1
        obtain ⟨c0, c2⟩ := CK.out s2 wr HR.out
        have DU : Hid (dropC l off (k + 2) s2 = if off ≤ (segI l (k + 1)).1 then
            (if dropE1 (segI l (k + 1)).1 s2 ≠ 0 then (k + 2, dropS1 (segI l (k + 1)).1 s2, dropE1 (segI l (k + 1)).1 s2) else dropC l off (k + 1) (dropS1 (segI l (k + 1)).1 s2))
          else (k + 2, s2, 0)) := Lib.hid (by rw [dropC])
        have FR := HR.out.inv.2.first (segI l (k + 1)) (by unfold segI; rw [List.getD_eq_getElem?_getD, List.getElem?_eq_getElem hil]; exact List.getElem_mem _)
        obtain ⟨i, hi⟩ : ∃ i, i = k + 1 := ⟨_, rfl⟩
        have hmi : k + 2 = i + 1 := by omega
        rw [← hi] at DU d0 d1 FR hil
        rw [hmi] at HD DU hm ⊢
        have HIL := Lib.hid hil
        have hi1 : 1 ≤ i := by omega
        have HMI := Lib.hid hmi
        clear hi hmi hm1 hm0 hil hq hg'
        generalize hsi : segI l i = sg at *
        have HSI := Lib.hid hsi
        clear hsi
        obtain ⟨f, z⟩ := sg
        dsimp only at d0 d1 FR DU
        have hgt1 : (1 : Int) < ((i + 1 : Nat) : Int) := by omega
        have hwi : IntKind.i64.wrap (((i + 1 : Nat) : Int) - 1) = (i : Int) := by rw [IntWalk.i64_in _ (by omega)]; omega
        have hin : (i : Int) < (n : Int) := by omega
        have hi0 : 0 ≤ (i : Int) := by omega
        generalize hmm : ((i + 1 : Nat) : Int) = mi at *
        have HMM := Lib.hid hmm
        clear hmm
        by_cases hle : off ≤ f
        · rw [if_pos hle] at DU
          have hd : decide (off ≤ f) = true := by simpa using hle
          go_upto_region 12 with fail
          have SC : Hid (∀ w' s', WRun w0 w' T Lb s' l G (some ⟨g, 0, none⟩) sc (some ⟨gr, 0, none⟩) rc → w'.cell? ⟨Lb, 0, none⟩ = some (.pointer (some ⟨T, 0, none⟩)) ∧ w'.cell? ⟨Lb, 2, none⟩ = some (.slice (some ⟨g, 0, none⟩) n sc) ∧ w'.cell? ⟨g, i * 2, none⟩ = some (.int .i64 f) ∧ w'.cell? ⟨g, i * 2 + 1, none⟩ = some (.int .i64 z)) := Lib.hid fun W s' h => by
            obtain ⟨c0, c2⟩ := CK.out s' W h
            obtain ⟨g', hg', d0, d1⟩ := seg_w h HIL.out
            obtain rfl : g = g' := by injection hg' with e; injection e
            have e : l.segs.getD i (0, 0) = (f, z) := HSI.out
            rw [e] at d0 d1
            exact ⟨c0, c2, d0, d1⟩
          have TBd := Lib.hid (WRun.drew HR.out)
          have NM := Lib.hid (segname_any f z FR.1 FR.2 wr.drew (HF.out.below (WRun.below TBd.out)))
          have SY := Lib.hid (fun (W : World) (h : WRun w0 W T Lb s2 l G (some ⟨g, 0, none⟩) sc (some ⟨gr, 0, none⟩) rc) => sdrop_w h f)
          have EE : Hid (dropE1 f s2 = actE s2 (fnd s2 (nmS f) [nmS f])) := Lib.hid rfl
          have ESS : Hid (dropS1 f s2 = actS s2 (fnd s2 (nmS f) [nmS f]) (del (nmS f) s2.fs)) := Lib.hid rfl
          rw [EE.out, ESS.out] at DU
          clear EE ESS c0 c2 d0 d1 hd
          generalize actE s2 (fnd s2 (nmS f) [nmS f]) = er at *
          generalize actS s2 (fnd s2 (nmS f) [nmS f]) (del (nmS f) s2.fs) = s5 at *
          generalize Sg.nameB f = nb at *
          go_region_held3 (fun w' => w'.cell? ⟨Lb, 0, none⟩ = some (.pointer (some ⟨T, 0, none⟩)) ∧ w'.cell? ⟨Lb, 2, none⟩ = some (.slice (some ⟨g, 0, none⟩) n sc) ∧ w'.cell? ⟨g, i * 2, none⟩ = some (.int .i64 f) ∧ w'.cell? ⟨g, i * 2 + 1, none⟩ = some (.int .i64 z)) ((first | exact SC.out _ _ TBd.out | exact SC.out _ _ T3.out | exact SC.out _ _ T4.out | go_keep))
            (first
              | (go_simp; go_at_call 31; (with_reducible refine NM.out.mono ?_); rintro e w3 ⟨rfl, b3⟩; have T3 := Lib.hid (WRun.grow TBd.out b3.out))
              | (go_simp; go_at_call 30; (with_reducible refine (SY.out _ T3.out).mono ?_); rintro e w4 ⟨rfl, T4⟩))
          all_goals
            by_cases he : er = 0
            · subst he
              rw [if_neg (by simp)] at DU
              go_wp2
              go_roundg i
              case measure => have := HMI.out; omega
              case rel => exact ⟨i, s5, rfl, by go_num, by omega, by omega, Lib.hid (by rw [HD.out, DU.out]), T4⟩
            · rw [if_pos he] at DU
              have hne2 : (er != 0) = true := by simpa using he
              have CD : Hid (cutD s l off = (i + 1, s5, er)) := Lib.hid (by rw [DE.out, HD.out, DU.out])
              go_wp2
              go_ret
              have e1 : lcutE s l off = er := by unfold lcutE; rw [CD.out]; exact if_pos he
              have e2 : lcutS s l off = s5 := by unfold lcutS; rw [CD.out]; exact if_pos he
              have e3 : lcutL s l off = l := by unfold lcutL; rw [e1]; exact if_neg he
              refine ⟨by rw [e1]; rfl, ?_⟩
              rw [e2, e3]; exact T4
        · rw [if_neg hle] at DU
          have hd : decide (off ≤ f) = false := by simpa using hle
          have SF : Hid ((segI l (i + 1 - 1)).1 ≤ off) := Lib.hid (by
            show (segI l i).1 ≤ off
            rw [HSI.out]
            show f ≤ off
            omega)
          go_wp2
          go_meet
          exact ⟨i + 1, s2, by rw [HMM.out], Lib.hid ⟨by omega, hm⟩, Lib.hid (by rw [HD.out, DU.out]), SF, HR⟩
  case rest =>
    obtain ⟨m, s2, rfl, HM, HD, HSF, HX⟩ := hcut
    have hm0 := HM.out.1
    have hmn := HM.out.2
    obtain ⟨i, rfl⟩ : ∃ i, m = i + 1 := ⟨m - 1, by omega⟩
    have hil : i < l.segs.length := by rw [← HN.out]; omega
    have HIL := Lib.hid hil
    have CD : Hid (cutD s l off = (i + 1, s2, 0)) := Lib.hid (by rw [DE.out, HD.out])
    have HSF' : Hid ((segI l i).1 ≤ off) := HSF
    have SHI := Lib.hid (shL_inv HX.out.inv.2 hil (HNN.out i hil))
    have SH := Lib.hid (shorten_any HX.out HF.out i hil off (HSG.out i hil) HSF'.out (by have := H2.out; omega) (fun hz => by unfold shL; rw [if_pos hz]; exact SHI.out))
    obtain ⟨c0, c2⟩ := CK.out s2 wc HX.out
    have hwi : IntKind.i64.wrap (((i + 1 : Nat) : Int) - 1) = (i : Int) := by rw [IntWalk.i64_in _ (by omega)]; omega
    have hin : (i : Int) < (n : Int) := by omega
    have hi0 : 0 ≤ (i : Int) := by omega
    have hmsc : i + 1 ≤ sc := by have := HCAP.out; have := HN.out; omega
    have SLM := fun W => slice_toS (some ⟨g, 0, none⟩) n sc (i + 1) hmsc W
    have HMI : Hid (0 < i + 1 ∧ i + 1 ≤ n) := HM
    clear hm0 hmn hil hmsc HM HSF
    generalize hmm : ((i + 1 : Nat) : Int) = mi at *
    have HMM := Lib.hid hmm
    clear hmm
    have EL : Hid (shL s2 l i off = if shE s2 l i off = 0 then { l with segs := l.segs.set i ((segI l i).1, (shN l i off : Int)) } else l) := Lib.hid rfl
    generalize hes : shE s2 l i off = es at *
    have HES := Lib.hid hes
    clear hes
    go_wp2_with fail
    (with_reducible refine SH.out.mono ?_); rintro e w3 ⟨rfl, T3⟩
    by_cases he : es = 0
    · subst he
      rw [if_pos rfl] at EL
      rw [EL.out] at T3
      have z2 : w3.frozen? ⟨Lb, 2, none⟩ = false := (obj5 (obj_w T3.out)).2.2.2.1
      have d2 : w3.cell? ⟨Lb, 2, none⟩ = some (.slice (some ⟨g, 0, none⟩) n sc) := by
        have := (obj5 (obj_w T3.out)).1.2.2.1
        rw [HN.out]
        simpa using this
      have T4 := Lib.hid (WRun.cut_segs T3.out (i + 1) (by omega) (by show i + 1 ≤ (l.segs.set _ _).length; rw [List.length_set, ← HN.out]; exact HMI.out.2) (inv_take_segs SHI.out (i + 1) (by omega) (fun hh => by
        have e : l.segs.set i ((segI l i).1, (shN l i off : Int)) = [] := hh
        have e2 := congrArg List.length e
        rw [List.length_set] at e2
        have := HIL.out
        rw [List.length_nil] at e2
        omega)))
      clear c0 c2
      go_upto_region 19 with fail
      have L4 : Hid (∃ l4 : Wl.L, l4 = { most := l.most, segs := (l.segs.set i ((segI l i).1, (shN l i off : Int))).take (i + 1), recs := l.recs, sure := l.sure }) := Lib.hid ⟨_, rfl⟩
      obtain ⟨l4, hl4⟩ := L4.out
      have T4' : Hid (WRun w0 (w3.setCell ⟨Lb, 2, none⟩ (.slice (some ⟨g, 0, none⟩) (i + 1) sc)) T Lb (shS s2 l i off) l4 G (some ⟨g, 0, none⟩) sc (some ⟨gr, 0, none⟩) rc) := Lib.hid (by rw [hl4]; exact T4.out)
      have FV : Hid (Wl.firstV l4 = Wl.firstV l) := Lib.hid (by
        rw [hl4]
        unfold Wl.firstV segI
        have hil := HIL.out
        cases e : l.segs with
        | nil => rw [e] at hil; simp at hil
        | cons x r => cases i <;> simp)
      have RV : Hid (l4.recs = l.recs) := Lib.hid (by rw [hl4])
      have IV4 := Lib.hid (T4'.out.inv.2)
      have HL4 := Lib.hid hl4
      clear hl4 L4 T4 d2 z2
      generalize w3.setCell ⟨Lb, 2, none⟩ (.slice (some ⟨g, 0, none⟩) (i + 1) sc) = w4 at *
      have Td := Lib.hid (WRun.drew T4'.out)
      obtain ⟨nr, hnr⟩ : ∃ nr, nr = l.recs.length := ⟨_, rfl⟩
      have HNR := Lib.hid hnr
      have CE : Hid (∀ W s' , WRun w0 W T Lb s' l4 G (some ⟨g, 0, none⟩) sc (some ⟨gr, 0, none⟩) rc → W.cell? ⟨Lb, 3, none⟩ = some (.slice (some ⟨gr, 0, none⟩) nr rc) ∧ W.frozen? ⟨Lb, 3, none⟩ = false) := Lib.hid (fun W s' h => by
        have o := obj5 (obj_w h)
        have c3 := o.1.2.2.2.1
        rw [RV.out, ← HNR.out] at c3
        exact ⟨c3, o.2.2.2.2.1⟩)
      have F4 := Lib.hid (first_w Td.out)
      rw [FV.out] at F4
      have zi : Hid (shZ l off < nr) := Lib.hid (by have h2 := H2.out; have h1 := H1.out; rw [HEV.out, ← HNR.out] at h2; unfold shZ; omega)
      obtain ⟨gr', vs, hgr', OV⟩ := WRun.recs_own Td.out (by rw [RV.out]; exact HRL.out)
      obtain rfl : gr = gr' := by injection hgr' with e; injection e
      have DL := Lib.hid (delete_rest OV.out.1 nr (shZ l off) (by rw [OV.out.2, RV.out]; exact HNR.out) zi.out)
      have hwz : IntKind.i64.wrap (off - Wl.firstV l) = (shZ l off : Int) := by
        have h1 := H1.out
        have h2 := H2.out
        have h3 := zi.out
        have h4 := T4'.out.inv.2.count
        rw [RV.out, ← HNR.out] at h4
        have e : off - Wl.firstV l = (shZ l off : Int) := by unfold shZ; omega
        rw [e]; exact IntWalk.i64_in _ (by omega)
      have SHZ : Hid (shZ l off = shZ l off) := Lib.hid rfl
      generalize hzz : shZ l off = zz at *
      have HZZ := Lib.hid hzz
      clear hzz hnr hgr' SHZ
      have CUTC : Hid (∀ q us, (((w4.drew).drewN q).setCells gr (zz * 2) us).cell? ⟨Lb, 3, none⟩ = some (.slice (some ⟨gr, 0, none⟩) nr rc) ∧ (((w4.drew).drewN q).setCells gr (zz * 2) us).frozen? ⟨Lb, 3, none⟩ = false) := Lib.hid (fun q us => by
        obtain ⟨_, O, _, qq, _⟩ := Td.out
        have hne : gr ≠ Lb := qq.apart.2.1 _ rfl
        have hh : (((w4.drew).drewN q).setCells gr (zz * 2) us).heap[Lb]? = w4.drew.heap[Lb]? := heap_setCells gr us _ _ Lb (Ne.symm hne)
        obtain ⟨k1, k2⟩ := CE.out _ _ Td.out
        exact ⟨(World.cell?_of_block (a := ⟨Lb, 3, none⟩) hh).trans k1, (World.frozen?_of_block (a := ⟨Lb, 3, none⟩) hh).trans k2⟩)
      refine wp_region_C (fun w' => w'.cell? ⟨Lb, 3, none⟩ = some (.slice (some ⟨gr, 0, none⟩) nr rc)) 17 (by kernel_rfl) ?_
      have hS0 : (fun w' : World => w'.cell? ⟨Lb, 3, none⟩ = some (.slice (some ⟨gr, 0, none⟩) nr rc)) w4.drew := (CE.out _ _ Td.out).1
      refine wpAnyC_take (i := 0) (oi := ?o1) (v := ?v1) ?hi1 (by kernel_rfl) (by kernel_rfl) (by kernel_rfl) ?hQ1 (by kernel_rfl) (by decide) (by kernel_rfl) (Or.inl ⟨?hg1, ?hy1⟩) (by assumption) ?rest1
      case hi1 => (simp only [List.getElem?_toArray, List.getElem?_cons_zero]; exact rfl)
      case hQ1 => exact fun _ _ _ h => h
      case hg1 => rfl
      case hy1 => (intro w' hSw; (try dsimp only at hSw); go_simp; try with_reducible rfl)
      try simp only [Act.put, List.setIfInBounds_toArray, List.set_cons_zero, List.set_cons_succ]
      refine wpAnyC_take (i := 1) (oi := ?o2) (v := ?v2) ?hi2 (by kernel_rfl) (by kernel_rfl) (by kernel_rfl) ?hQ2 (by kernel_rfl) (by decide) (by kernel_rfl) (Or.inl ⟨?hg2, ?hy2⟩) (by assumption) ?rest2
      case hi2 => (simp only [List.getElem?_toArray, List.getElem?_cons_zero, List.getElem?_cons_succ]; exact rfl)
      case hQ2 => exact fun _ _ _ h => h
      case hg2 => rfl
      case hy2 => (intro w' hSw; (try dsimp only at hSw); go_simp; try with_reducible rfl)
      try simp only [Act.put, List.setIfInBounds_toArray, List.set_cons_zero, List.set_cons_succ]
      refine wpAnyC_take (i := 2) (oi := ?o3) (v := ?v3) ?hi3 (by kernel_rfl) (by kernel_rfl) (by kernel_rfl) ?hQ3 (by kernel_rfl) (by decide) (by kernel_rfl) (Or.inl ⟨?hg3, ?hy3⟩) (by assumption) ?rest3
      case hi3 => (simp only [List.getElem?_toArray, List.getElem?_cons_zero, List.getElem?_cons_succ]; exact rfl)
      case hQ3 => exact fun _ _ _ h => h
      case hg3 => rfl
      case hy3 => (intro w' hSw; (try dsimp only at hSw); go_simp; try with_reducible rfl)
      try simp only [Act.put, List.setIfInBounds_toArray, List.set_cons_zero, List.set_cons_succ]
      refine wpAnyC_take (i := 3) (oi := ?o4) (v := ?v4) ?hi4 (by kernel_rfl) (by kernel_rfl) (by kernel_rfl) ?hQ4 (by kernel_rfl) (by decide) (by kernel_rfl) (Or.inl ⟨?hg4, ?hy4⟩) (by assumption) ?rest4
      case hi4 => (simp only [List.getElem?_toArray, List.getElem?_cons_zero, List.getElem?_cons_succ]; exact rfl)
      case hQ4 => exact fun _ _ _ h => h
      case hg4 => rfl
      case hy4 => (intro w' hSw; (try dsimp only at hSw); go_simp; try with_reducible rfl)
      try simp only [Act.put, List.setIfInBounds_toArray, List.set_cons_zero, List.set_cons_succ]
      refine wpAnyC_take (i := 4) (oi := ?o5) (v := ?v5) ?hi5 (by kernel_rfl) (by kernel_rfl) (by kernel_rfl) ?hQ5 (by kernel_rfl) (by decide) (by kernel_rfl) (Or.inl ⟨?hg5, ?hy5⟩) (by assumption) ?rest5
      case hi5 => (simp only [List.getElem?_toArray, List.getElem?_cons_zero, List.getElem?_cons_succ]; exact rfl)
      case hQ5 => exact fun _ _ _ h => h
      case hg5 => rfl
      case hy5 => (intro w' hSw; (try dsimp only at hSw); go_simp; try with_reducible rfl)
      try simp only [Act.put, List.setIfInBounds_toArray, List.set_cons_zero, List.set_cons_succ]
      refine wpAnyC_take (i := 5) (oi := ?o6) (v := ?v6) ?hi6 (by kernel_rfl) (by kernel_rfl) (by kernel_rfl) ?hQ6 (by kernel_rfl) (by decide) (by kernel_rfl) (Or.inl ⟨?hg6, ?hy6⟩) (by assumption) ?rest6
      case hi6 => (simp only [List.getElem?_toArray, List.getElem?_cons_zero, List.getElem?_cons_succ]; exact rfl)
      case hQ6 => exact fun _ _ _ h => h
      case hg6 => rfl
      case hy6 => (intro w' hSw; (try dsimp only at hSw); go_simp; try with_reducible rfl)
      try simp only [Act.put, List.setIfInBounds_toArray, List.set_cons_zero, List.set_cons_succ]
      refine wpAnyC_take (i := 6) (oi := ?o7) (v := ?v7) ?hi7 (by kernel_rfl) (by kernel_rfl) (by kernel_rfl) ?hQ7 (by kernel_rfl) (by decide) (by kernel_rfl) (Or.inl ⟨?hg7, ?hy7⟩) (by assumption) ?rest7
      case hi7 => (simp only [List.getElem?_toArray, List.getElem?_cons_zero, List.getElem?_cons_succ]; exact rfl)
      case hQ7 => exact fun _ _ _ h => h
      case hg7 => rfl
      case hy7 => (intro w' hSw; (try dsimp only at hSw); go_simp; try with_reducible rfl)
      try simp only [Act.put, List.setIfInBounds_toArray, List.set_cons_zero, List.set_cons_succ]
      refine wpAnyC_take (i := 9) (oi := ?o8) (v := ?v8) ?hi8 (by kernel_rfl) (by kernel_rfl) (by kernel_rfl) ?hQ8 (by kernel_rfl) (by decide) (by kernel_rfl) (Or.inl ⟨?hg8, ?hy8⟩) (by assumption) ?rest8
      case hi8 => (simp only [List.getElem?_toArray, List.getElem?_cons_zero, List.getElem?_cons_succ]; exact rfl)
      case hQ8 => exact fun _ _ _ h => h
      case hg8 => rfl
      case hy8 => (intro w' hSw; (try dsimp only at hSw); go_simp; try with_reducible rfl)
      try simp only [Act.put, List.setIfInBounds_toArray, List.set_cons_zero, List.set_cons_succ]
      refine wpAnyC_take (i := 10) (oi := ?o9) (v := ?v9) ?hi9 (by kernel_rfl) (by kernel_rfl) (by kernel_rfl) ?hQ9 (by kernel_rfl) (by decide) (by kernel_rfl) (Or.inl ⟨?hg9, ?hy9⟩) (by assumption) ?rest9
      case hi9 => (simp only [List.getElem?_toArray, List.getElem?_cons_zero, List.getElem?_cons_succ]; exact rfl)
      case hQ9 => exact fun _ _ _ h => h
      case hg9 => rfl
      case hy9 => (intro w' hSw; (try dsimp only at hSw); go_simp; try with_reducible rfl)
      try simp only [Act.put, List.setIfInBounds_toArray, List.set_cons_zero, List.set_cons_succ]
      refine wpAnyC_take (i := 11) (oi := ?o10) (v := ?v10) ?hi10 (by kernel_rfl) (by kernel_rfl) (by kernel_rfl) ?hQ10 (by kernel_rfl) (by decide) (by kernel_rfl) (Or.inl ⟨?hg10, ?hy10⟩) (by assumption) ?rest10
      case hi10 => (simp only [List.getElem?_toArray, List.getElem?_cons_zero, List.getElem?_cons_succ]; exact rfl)
      case hQ10 => exact fun _ _ _ h => h
      case hg10 => rfl
      case hy10 => (intro w' hSw; (try dsimp only at hSw); go_simp; try with_reducible rfl)
      try simp only [Act.put, List.setIfInBounds_toArray, List.set_cons_zero, List.set_cons_succ]
      refine wpAnyC_take (i := 12) (oi := ?o11) (v := ?v11) ?hi11 (by kernel_rfl) (by kernel_rfl) (by kernel_rfl) ?hQ11 (by kernel_rfl) (by decide) (by kernel_rfl) (Or.inl ⟨?hg11, ?hy11⟩) (by assumption) ?rest11
      case hi11 => (simp only [List.getElem?_toArray, List.getElem?_cons_zero, List.getElem?_cons_succ]; exact rfl)
      case hQ11 => exact fun _ _ _ h => h
      case hg11 => rfl
      case hy11 => (intro w' hSw; (try dsimp only at hSw); go_simp; try with_reducible rfl)
      try simp only [Act.put, List.setIfInBounds_toArray, List.set_cons_zero, List.set_cons_succ]
      refine wpAnyC_take (i := 13) (oi := ?o12) (v := ?v12) ?hi12 (by kernel_rfl) (by kernel_rfl) (by kernel_rfl) ?hQ12 (by kernel_rfl) (by decide) (by kernel_rfl) (Or.inl ⟨?hg12, ?hy12⟩) (by assumption) ?rest12
      case hi12 => (simp only [List.getElem?_toArray, List.getElem?_cons_zero, List.getElem?_cons_succ]; exact rfl)
      case hQ12 => exact fun _ _ _ h => h
      case hg12 => rfl
      case hy12 => (intro w' hSw; (try dsimp only at hSw); go_simp; try with_reducible rfl)
      try simp only [Act.put, List.setIfInBounds_toArray, List.set_cons_zero, List.set_cons_succ]
      refine wpAnyC_one (i := 7) (oi := ?o13) ?hi13 (by kernel_rfl) ?step13
      case hi13 => (simp only [List.getElem?_toArray, List.getElem?_cons_zero, List.getElem?_cons_succ]; exact rfl)
      intro K' hK
      (go_simp; go_at_call 17; (with_reducible refine F4.out.mono ?_); rintro e w5 ⟨rfl, rfl⟩)
      refine hK.out _ _ ?_ (fun hHeld => ?_)
      · exact fun _ => (CE.out _ _ Td.out).1
      clear hK K' hHeld
      try simp only [Act.put, List.setIfInBounds_toArray, List.set_cons_zero, List.set_cons_succ]
      refine wpAnyC_take (i := 8) (oi := ?o14) (v := ?v14) ?hi14 (by kernel_rfl) (by kernel_rfl) (by kernel_rfl) ?hQ14 (by kernel_rfl) (by decide) (by kernel_rfl) (Or.inl ⟨?hg14, ?hy14⟩) (by assumption) ?rest14
      case hi14 => (simp only [List.getElem?_toArray, List.getElem?_cons_zero, List.getElem?_cons_succ]; exact rfl)
      case hQ14 => exact fun _ _ _ h => h
      case hg14 => rfl
      case hy14 => (intro w' hSw; (try dsimp only at hSw); go_simp; try with_reducible rfl)
      try simp only [Act.put, List.setIfInBounds_toArray, List.set_cons_zero, List.set_cons_succ]
      refine wpAnyC_one (i := 14) (oi := ?o15) ?hi15 (by kernel_rfl) ?step15
      case hi15 => (simp only [List.getElem?_toArray, List.getElem?_cons_zero, List.getElem?_cons_succ]; exact rfl)
      intro K' hK
      (go_simp; go_at_call 33; (with_reducible refine DL.out.mono ?_); rintro e w6 ⟨rfl, q6, us, hw6⟩; have HW6 := Lib.hid hw6; have C6 : Hid (w6.cell? ⟨Lb, 3, none⟩ = some (.slice (some ⟨gr, 0, none⟩) nr rc) ∧ w6.frozen? ⟨Lb, 3, none⟩ = false) := Lib.hid (by rw [HW6.out]; exact CUTC.out q6 us); clear hw6)
      refine hK.out _ _ ?_ (fun hHeld => ?_)
      · exact fun _ => C6.out.1
      clear hK K' hHeld
      try simp only [Act.put, List.setIfInBounds_toArray, List.set_cons_zero, List.set_cons_succ]
      obtain ⟨c6, f6⟩ := C6.out
      refine wpAnyC_one (i := 15) (oi := ?o16) ?hi16 (by kernel_rfl) ?step16
      case hi16 => (simp only [List.getElem?_toArray, List.getElem?_cons_zero, List.getElem?_cons_succ]; exact rfl)
      intro K' hK
      go_simp
      refine hK.out _ _ ?_ (fun hHeld => ?_)
      · exact fun _ => C6.out.1
      clear hK K' hHeld
      try simp only [Act.put, List.setIfInBounds_toArray, List.set_cons_zero, List.set_cons_succ]
      refine wpAnyC_one (i := 16) (oi := ?o17) ?hi17 (by kernel_rfl) ?step17
      case hi17 => (simp only [List.getElem?_toArray, List.getElem?_cons_zero, List.getElem?_cons_succ]; exact rfl)
      intro K' hK
      go_simp
      refine hK.out _ _ ?_ (fun hHeld => ?_)
      · exact fun _ => C6.out.1
      clear hK K' hHeld
      try simp only [Act.put, List.setIfInBounds_toArray, List.set_cons_zero, List.set_cons_succ]
      refine wpAnyC_one (i := 17) (oi := ?o18) ?hi18 (by kernel_rfl) ?step18
      case hi18 => (simp only [List.getElem?_toArray, List.getElem?_cons_zero, List.getElem?_cons_succ]; exact rfl)
      intro K' hK
      go_simp
      refine hK.out _ _ ?_ (fun hHeld => ?_)
      · exact fun h => (by cases h)
      clear hK K' hHeld
      try simp only [Act.put, List.setIfInBounds_toArray, List.set_cons_zero, List.set_cons_succ]
      try simp only [Act.put, List.setIfInBounds_toArray, List.set_cons_zero, List.set_cons_succ]
      refine wpAnyC_done (by kernel_rfl) ?_ _
      have T6 : Hid (WRun w0 (w6.setCell ⟨Lb, 3, none⟩ (.slice (some ⟨gr, 0, none⟩) zz rc)) T Lb (shS s2 l i off) { l4 with recs := l4.recs.take zz } G (some ⟨g, 0, none⟩) sc (some ⟨gr, 0, none⟩) rc) := Lib.hid (by
        rw [HW6.out]
        exact WRun.cut_recs (WRun.draw Td.out q6) zz (by rw [RV.out, ← HNR.out]; have := zi.out; omega) us (inv_take_recs IV4.out zz))
      clear c6 f6 C6 CUTC HW6 DL F4 CE Td
      generalize w6.setCell ⟨Lb, 3, none⟩ (.slice (some ⟨gr, 0, none⟩) zz rc) = w7 at *
      have o := obj5 (obj_w T6.out)
      have c4 := o.1.2.2.2.2
      have z4 := o.2.2.2.2.2
      have SU : Hid (0 ≤ min l4.sure off ∧ min l4.sure off ≤ 17609365913600) := Lib.hid (by have := IV4.out.sure; have := H1.out; omega)
      have T7 := Lib.hid (WRun.sured T6.out (min l4.sure off) SU.out.1 SU.out.2)
      have e0 : (cutD s l off).2.2 = 0 := by rw [CD.out]
      have ER : Hid (lcutE s l off = 0) := Lib.hid (by unfold lcutE; rw [if_neg (by rw [e0]; simp), CD.out]; exact HES.out)
      have E2 : Hid (lcutS s l off = shS s2 l i off) := Lib.hid (by unfold lcutS; rw [if_neg (by rw [e0]; simp), CD.out]; rfl)
      have E3 : Hid (lcutL s l off = { l4 with recs := l4.recs.take zz, sure := min l4.sure off }) := Lib.hid (by
        unfold lcutL cutLg
        rw [if_pos ER.out, CD.out, HL4.out, HZZ.out]
        rfl)
      have T8 : Hid (WRun w0 (w7.setCell ⟨Lb, 4, none⟩ (.int .i64 (min l4.sure off))) T Lb (lcutS s l off) (lcutL s l off) G (some ⟨g, 0, none⟩) sc (some ⟨gr, 0, none⟩) rc) := Lib.hid (by rw [E2.out, E3.out]; exact T7.out)
      replace c4 : w7.cell? ⟨Lb, 4, none⟩ = some (.int .i64 l4.sure) := c4
      clear o e0 E2 E3 T7 T6
      generalize l4.sure = su at *
      go_wp2
      go_ret
      exact ⟨by rw [ER.out]; rfl, T8⟩
    · rw [if_neg he] at EL
      rw [EL.out] at T3
      have hne2 : (es != 0) = true := by simpa using he
      have e0 : (cutD s l off).2.2 = 0 := by rw [CD.out]
      have e1 : lcutE s l off = es := by unfold lcutE; rw [if_neg (by rw [e0]; simp), CD.out]; exact HES.out
      have e2 : lcutS s l off = shS s2 l i off := by unfold lcutS; rw [if_neg (by rw [e0]; simp), CD.out]; rfl
      have e3 : lcutL s l off = l := by unfold lcutL; rw [e1]; exact if_neg he
      have ER := Lib.hid e1
      have T5 : Hid (WRun w0 w3 T Lb (lcutS s l off) (lcutL s l off) G (some ⟨g, 0, none⟩) sc (some ⟨gr, 0, none⟩) rc) := Lib.hid (by rw [e2, e3]; exact T3.out)
      clear e0 e1 e2 e3
      go_wp2
      go_ret
      exact ⟨by rw [ER.out]; rfl, T5⟩
end
end Go.Proofs.YtdbhicifjljjnaaGreatDoor
