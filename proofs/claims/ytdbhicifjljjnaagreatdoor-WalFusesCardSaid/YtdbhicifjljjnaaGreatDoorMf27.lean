/-
  Part 27 of the texts behind the law: WalLcut, WalLoadOne, WalLoad.
-/
import Derived.Test.YtdbhicifjljjnaaGreatDoorMf26
import Derived.Test.YtdbhicifjljjnaaGreatDoorMf25
import Derived.Deep.CutRange
import Derived.Deep.LoopGhost
/-
  Cut: the records from an offset on are removed, the last segments first.
-/
namespace Go.Proofs.YtdbhicifjljjnaaGreatDoor
open Go.RowKit St
def dropE1 (f : Int) (s : S) : Int := actE s (fnd s (nmS f) [nmS f])
def dropS1 (f : Int) (s : S) : S := actS s (fnd s (nmS f) [nmS f]) (del (nmS f) s.fs)
/-- The segments' files removed from the last one on, while they begin at off or behind it: how many segments stay, the store, the error. -/
def dropC (l : Wl.L) (off : Int) : Nat → S → Nat × S × Int
  | 0, s => (0, s, 0)
  | 1, s => (1, s, 0)
  | n + 2, s => if off ≤ (segI l (n + 1)).1 then
      (if dropE1 (segI l (n + 1)).1 s ≠ 0 then (n + 2, dropS1 (segI l (n + 1)).1 s, dropE1 (segI l (n + 1)).1 s) else dropC l off (n + 1) (dropS1 (segI l (n + 1)).1 s))
    else (n + 2, s, 0)
def cutD (s : S) (l : Wl.L) (off : Int) : Nat × S × Int := dropC l off l.segs.length s
def lcutE (s : S) (l : Wl.L) (off : Int) : Int := if (cutD s l off).2.2 ≠ 0 then (cutD s l off).2.2 else shE (cutD s l off).2.1 l ((cutD s l off).1 - 1) off
def lcutS (s : S) (l : Wl.L) (off : Int) : S := if (cutD s l off).2.2 ≠ 0 then (cutD s l off).2.1 else shS (cutD s l off).2.1 l ((cutD s l off).1 - 1) off
def cutLg (l : Wl.L) (m : Nat) (off : Int) : Wl.L := ⟨l.most, (l.segs.set (m - 1) ((segI l (m - 1)).1, (shN l (m - 1) off : Int))).take m, l.recs.take (shZ l off), min l.sure off⟩
def lcutL (s : S) (l : Wl.L) (off : Int) : Wl.L := if lcutE s l off = 0 then cutLg l (cutD s l off).1 off else l
theorem dropC_bd (l : Wl.L) (off : Int) : ∀ (n : Nat) (s : S), 0 < n → 0 < (dropC l off n s).1 ∧ (dropC l off n s).1 ≤ n
  | 0, _, h => by omega
  | 1, _, _ => ⟨Nat.one_pos, Nat.le_refl _⟩
  | n + 2, s, _ => by
    unfold dropC
    split
    · split
      · exact ⟨by simp, Nat.le_refl _⟩
      · have := dropC_bd l off (n + 1) (dropS1 (segI l (n + 1)).1 s) (by omega)
        exact ⟨this.1, by omega⟩
    · exact ⟨by simp, Nat.le_refl _⟩
theorem shL_inv {l : Wl.L} {i : Nat} {off : Int} (h : Wl.Inv l) (hi : i < l.segs.length) (hN : shN l i off ≤ 16777216) : Wl.Inv { l with segs := l.segs.set i ((segI l i).1, (shN l i off : Int)) } := by
  have hm : segI l i ∈ l.segs := by unfold segI; rw [List.getD_eq_getElem?_getD, List.getElem?_eq_getElem hi]; exact List.getElem_mem _
  refine ⟨h.most, fun g hg => ?_, fun g hg => ?_, h.count, by show (l.segs.set _ _).length ≤ _; rw [List.length_set]; exact h.segc, h.at_, h.pay, fun hn => ?_, h.sure⟩
  · rcases List.mem_or_eq_of_mem_set hg with e | e
    · exact h.first g e
    · subst e
      show 0 ≤ (segI l i).1 ∧ (segI l i).1 ≤ _
      exact h.first _ hm
  · rcases List.mem_or_eq_of_mem_set hg with e | e
    · exact h.size g e
    · subst e
      show 0 ≤ (shN l i off : Int) ∧ (shN l i off : Int) ≤ _
      omega
  · have : (l.segs.set i ((segI l i).1, (shN l i off : Int))).length = 0 := by
      have e : l.segs.set i ((segI l i).1, (shN l i off : Int)) = [] := hn
      rw [e]; rfl
    rw [List.length_set] at this
    omega
theorem inv_take_segs {l : Wl.L} (h : Wl.Inv l) (n : Nat) (h0 : 0 < n) (hs : l.segs ≠ []) : Wl.Inv { l with segs := l.segs.take n } := by
  refine ⟨h.most, fun g hg => h.first g (List.mem_of_mem_take hg), fun g hg => h.size g (List.mem_of_mem_take hg), h.count, ?_, h.at_, h.pay, fun hn => ?_, h.sure⟩
  · have := h.segc
    show (l.segs.take n).length ≤ _
    rw [List.length_take]; omega
  · exfalso
    have e : l.segs.take n = [] := hn
    rcases List.take_eq_nil_iff.1 e with e | e
    · omega
    · exact hs e
theorem inv_take_recs {l : Wl.L} (h : Wl.Inv l) (n : Nat) : Wl.Inv { l with recs := l.recs.take n } := by
  refine ⟨h.most, h.first, h.size, ?_, h.segc, fun r hr => h.at_ r (List.mem_of_mem_take hr), fun r hr => h.pay r (List.mem_of_mem_take hr), fun hn => ?_, h.sure⟩
  · have := h.count
    show (l.recs.take n).length ≤ _
    rw [List.length_take]; omega
  · show l.recs.take n = []
    rw [h.none_ hn]; simp
section
variable {w0 w : World} {T Lb : Nat} {s : S} {l : Wl.L} {G : List (Nat × Obj)} {sa : Option Addr} {sc : Nat} {ra : Option Addr} {rc : Nat}
set_option maxRecDepth 20000 in
set_option maxHeartbeats 4000000 in
/-- Cut at the end: nothing. -/
theorem lcut_end (h : WRun w0 w T Lb s l G sa sc ra rc) (ho : s.off = false) (off : Int) (he : off = Wl.endV l) :
    Calls Tryz.prog 13 #[.pointer (some ⟨Lb, 0, none⟩), .int .i64 off] w fun e w' => RetI 0 e ∧ Hid (WRun w0 w' T Lb s l G sa sc ra rc) := by
  have H := Lib.hid h
  have hfv := h.inv.2.first_
  have hev : Wl.endV l = Wl.firstV l + (l.recs.length : Int) := rfl
  have EK : Hid (∀ W, WRun w0 W T Lb s l G sa sc ra rc → Calls Tryz.prog 12 #[.pointer (some ⟨Lb, 0, none⟩)] W fun e w' => e = .returned (.int .i64 (Wl.endV l)) ∧ ∃ j, w' = W.drewN j) := Lib.hid (fun W h => end_w h)
  have FK : Hid (∀ W, WRun w0 W T Lb s l G sa sc ra rc → Calls Tryz.prog 17 #[.pointer (some ⟨Lb, 0, none⟩)] W fun e w' => e = .returned (.int .i64 (Wl.firstV l)) ∧ W = w') := Lib.hid (fun W h => first_w h)
  have OK : Hid (∀ W, WRun w0 W T Lb s l G sa sc ra rc → Calls Tryz.prog 11 #[.pointer (some ⟨T, 0, none⟩)] W fun e w' => e = .returned (.bool false) ∧ W = w') := Lib.hid (fun W h => by rw [← ho]; exact off_w h)
  have CK : Hid (∀ W, WRun w0 W T Lb s l G sa sc ra rc → W.cell? ⟨Lb, 0, none⟩ = some (.pointer (some ⟨T, 0, none⟩))) := Lib.hid (fun W h => (obj5 (obj_w h)).1.1)
  have E1 := Lib.hid (EK.out w h)
  subst he
  have hlt : ¬ Wl.endV l < Wl.firstV l := by omega
  clear h hev
  generalize Wl.endV l = ev at *
  generalize Wl.firstV l = fv at *
  go_enter Tryz.func13, Tryz.ntmps13
  go_wp2_with fail
  (with_reducible refine E1.out.mono ?_); rintro e w' ⟨rfl, j, rfl⟩
  have H1 := Lib.hid (WRun.draw H.out j)
  generalize w.drewN j = w1 at *
  have F1 := Lib.hid (FK.out w1 H1.out)
  have hgt : ¬ ev < ev := by omega
  go_wp2_with fail
  (with_reducible refine F1.out.mono ?_); rintro e w' ⟨rfl, rfl⟩
  have O1 := Lib.hid (OK.out w1 H1.out)
  have c0 := CK.out w1 H1.out
  go_wp2_with fail
  (with_reducible refine O1.out.mono ?_); rintro e w' ⟨rfl, rfl⟩
  have E2 := Lib.hid (EK.out w1 H1.out)
  go_wp2_with fail
  (with_reducible refine E2.out.mono ?_); rintro e w' ⟨rfl, j2, rfl⟩
  have H2 := Lib.hid (WRun.draw H1.out j2)
  go_wp2
  go_ret
  exact ⟨rfl, H2⟩
theorem slice_toS (A : Option Addr) (n cap m : Nat) (h : m ≤ cap) (W : World) :
    (Instr.slice 55 (.slice A n cap) none (some (.int .i64 (m : Int))) none).run Tryz.prog W = .ok (.slice A m cap) W := by
  have hs : ∀ W, (sizeOf 70).run Tryz.prog W = .ok 2 W := fun W => by kernel_rfl
  have he : Tryz.prog.elem 55 = 70 := by kernel_rfl
  have hu : Tryz.prog.underlying 55 = some (.slice (Tryz.prog.elem 55)) := by rw [he]; exact Tryz.underlying55
  rw [run_slice_h (P := Tryz.prog) (w := W) 55 A n cap hu .i64 (m : Int) (by omega) (by omega), he, hs]
  cases A with
  | none => simp [Result.andThen, sliced]
  | some a => simp [Result.andThen, sliced, Addr.add]
theorem WRun.recs_own (h : WRun w0 w T Lb s l G sa sc ra rc) (hn : 0 < l.recs.length) : ∃ gr vs, ra = some ⟨gr, 0, none⟩ ∧ Hid (OwnP w 0 40 (some ⟨gr, 0, none⟩) rc vs ∧ vs.length = l.recs.length) := by
  obtain ⟨_, O, _, q, _⟩ := h
  obtain ⟨vs, r1, r2, r3, r4⟩ := q.recs
  obtain ⟨gr, e, _⟩ := r2.shape (by omega)
  subst e
  exact ⟨gr, vs, rfl, Lib.hid ⟨r2, r1⟩⟩
theorem WRun.seg_cap (h : WRun w0 w T Lb s l G sa sc ra rc) : l.segs.length ≤ sc := WRun.cap h
set_option maxRecDepth 20000 in
set_option maxHeartbeats 16000000 in
theorem lcut_in (h : WRun w0 w T Lb s l G sa sc ra rc) (hF : Facts w0) (ho : s.off = false) (off : Int) (h1 : Wl.firstV l ≤ off) (h2 : off < Wl.endV l) (hsg : ∀ i, i < l.segs.length → Wl.firstV l ≤ (segI l i).1) (hN : ∀ i, i < l.segs.length → shN l i off ≤ 16777216) :
    Calls Tryz.prog 13 #[.pointer (some ⟨Lb, 0, none⟩), .int .i64 off] w fun e w' => RetI (lcutE s l off) e ∧ Hid (WRun w0 w' T Lb (lcutS s l off) (lcutL s l off) G sa sc ra rc) := by
  have H := Lib.hid h
  have HF := Lib.hid hF
  have hfv := h.inv.2.first_
  have hev : Wl.endV l = Wl.firstV l + (l.recs.length : Int) := rfl
  have hrl : 0 < l.recs.length := by omega
  have hsl : 0 < l.segs.length := by
    rcases Nat.eq_zero_or_pos l.segs.length with h0 | h0
    · have := h.inv.2.none_ (List.eq_nil_of_length_eq_zero h0)
      rw [this] at hrl; simp at hrl
    · exact h0
  obtain ⟨g, hg, _⟩ := seg_w h hsl
  subst hg
  obtain ⟨gr, vs0, hgr, _⟩ := WRun.recs_own h hrl
  subst hgr
  have hsc := h.inv.2.segc
  have EK : Hid (∀ s' W, WRun w0 W T Lb s' l G (some ⟨g, 0, none⟩) sc (some ⟨gr, 0, none⟩) rc → Calls Tryz.prog 12 #[.pointer (some ⟨Lb, 0, none⟩)] W fun e w' => e = .returned (.int .i64 (Wl.endV l)) ∧ ∃ j, w' = W.drewN j) := Lib.hid (fun s' W h => end_w h)
  have FK : Hid (∀ s' W, WRun w0 W T Lb s' l G (some ⟨g, 0, none⟩) sc (some ⟨gr, 0, none⟩) rc → Calls Tryz.prog 17 #[.pointer (some ⟨Lb, 0, none⟩)] W fun e w' => e = .returned (.int .i64 (Wl.firstV l)) ∧ W = w') := Lib.hid (fun s' W h => first_w h)
  have OK : Hid (∀ W, WRun w0 W T Lb s l G (some ⟨g, 0, none⟩) sc (some ⟨gr, 0, none⟩) rc → Calls Tryz.prog 11 #[.pointer (some ⟨T, 0, none⟩)] W fun e w' => e = .returned (.bool false) ∧ W = w') := Lib.hid (fun W h => by rw [← ho]; exact off_w h)
  obtain ⟨n, hn⟩ : ∃ n, n = l.segs.length := ⟨_, rfl⟩
  have HN := Lib.hid hn
  have CK : Hid (∀ s' W, WRun w0 W T Lb s' l G (some ⟨g, 0, none⟩) sc (some ⟨gr, 0, none⟩) rc → W.cell? ⟨Lb, 0, none⟩ = some (.pointer (some ⟨T, 0, none⟩)) ∧ W.cell? ⟨Lb, 2, none⟩ = some (.slice (some ⟨g, 0, none⟩) n sc)) := Lib.hid (fun s' W h => by
    obtain ⟨⟨c0, _, c2, _⟩, _⟩ := obj5 (obj_w h)
    rw [← HN.out] at c2
    exact ⟨c0, c2⟩)
  have HSG := Lib.hid hsg
  have HNN := Lib.hid hN
  have H2 := Lib.hid h2
  have H1 := Lib.hid h1
  have DE : Hid (cutD s l off = dropC l off n s) := Lib.hid (by rw [HN.out]; rfl)
  have E1 := Lib.hid (EK.out s w h)
  have hlt : ¬ off < Wl.firstV l := by omega
  have hgt : ¬ Wl.endV l < off := by omega
  have hne : (off == Wl.endV l) = false := beq_eq_false_iff_ne.2 (by omega)
  have hn0 : 0 < n := by omega
  have hn1 : (n : Int) ≤ 16777216 := by omega
  have HRL := Lib.hid hrl
  have HEV := Lib.hid hev
  have HCAP := Lib.hid (WRun.cap h)
  clear h hF hev hsl hrl hsg hN hn ho hsc h2 h1
  go_enter Tryz.func13, Tryz.ntmps13
  go_wp2_with fail
  (with_reducible refine E1.out.mono ?_); rintro e w' ⟨rfl, j, rfl⟩
  have T1 := Lib.hid (WRun.draw H.out j)
  generalize w.drewN j = w1 at *
  have F1 := Lib.hid (FK.out s w1 T1.out)
  go_wp2_with fail
  (with_reducible refine F1.out.mono ?_); rintro e w' ⟨rfl, rfl⟩
  have O1 := Lib.hid (OK.out w1 T1.out)
  obtain ⟨c0, c2⟩ := CK.out s w1 T1.out
  go_wp2_with fail
  (with_reducible refine O1.out.mono ?_); rintro e w' ⟨rfl, rfl⟩
  have E2 := Lib.hid (EK.out s w1 T1.out)
  go_wp2_with fail
  (with_reducible refine E2.out.mono ?_); rintro e w' ⟨rfl, j2, rfl⟩
  have T2 := Lib.hid (WRun.draw T1.out j2)
  clear c0 c2 E1 E2 O1 F1 T1
  generalize w1.drewN j2 = w2 at *
  obtain ⟨c0, c2⟩ := CK.out s w2 T2.out
  go_upto_block 1 with fail
  clear c0 c2
  go_cut [5] from 34 to 67 (fun iv wx => ∃ (m : Nat) (s2 : S), iv = .int .i64 (m : Int) ∧ Hid (0 < m ∧ m ≤ n) ∧ Hid (dropC l off n s = (m, s2, 0)) ∧ Hid ((segI l (m - 1)).1 ≤ off) ∧ Hid (WRun w0 wx T Lb s2 l G (some ⟨g, 0, none⟩) sc (some ⟨gr, 0, none⟩) rc))
  case first =>
    go_wp2_with fail
    go_loopg [5] n (fun q iv wr => ∃ (m : Nat) (s2 : S), q = m ∧ iv = .int .i64 (m : Int) ∧ 0 < m ∧ m ≤ n ∧ Hid (dropC l off n s = dropC l off m s2) ∧ Hid (WRun w0 wr T Lb s2 l G (some ⟨g, 0, none⟩) sc (some ⟨gr, 0, none⟩) rc))
    case atStart => exact ⟨n, s, rfl, rfl, hn0, Nat.le_refl _, Lib.hid rfl, T2⟩
    case round =>
      obtain ⟨m, s2, hq, rfl, hm0, hm, HD, HR⟩ := hrel
      have hq' := hq.symm
      subst hq'
      by_cases hm1 : m = 1
      · subst hm1
        have DC : Hid (dropC l off n s = (1, s2, 0)) := HD
        have SF : Hid ((segI l (1 - 1)).1 ≤ off) := Lib.hid (by
          have e : (segI l 0).1 = Wl.firstV l := by unfold segI Wl.firstV; cases l.segs <;> rfl
          show (segI l 0).1 ≤ off
          rw [e]; exact H1.out)
        go_wp2
        go_meet
        exact ⟨1, s2, rfl, Lib.hid ⟨by omega, hm⟩, DC, SF, HR⟩
      · obtain ⟨k, rfl⟩ : ∃ k, m = k + 2 := ⟨m - 2, by omega⟩
        have hil : k + 1 < l.segs.length := by rw [← HN.out]; omega
        obtain ⟨g', hg', d0, d1⟩ := seg_w HR.out hil
        obtain rfl : g = g' := by injection hg' with e; injection e
        replace d0 : wr.cell? ⟨g, (k + 1) * 2, none⟩ = some (.int .i64 (segI l (k + 1)).1) := d0
        replace d1 : wr.cell? ⟨g, (k + 1) * 2 + 1, none⟩ = some (.int .i64 (segI l (k + 1)).2) := d1
        obtain ⟨c0, c2⟩ := CK.out s2 wr HR.out
        have DU : Hid (dropC l off (k + 2) s2 = if off ≤ (segI l (k + 1)).1 then
            (if dropE1 (segI l (k + 1)).1 s2 ≠ 0 then (k + 2, dropS1 (segI l (k + 1)).1 s2, dropE1 (segI l (k + 1)).1 s2) else dropC l off (k + 1) (dropS1 (segI l (k + 1)).1 s2))
          else (k + 2, s2, 0)) := Lib.hid (by rw [dropC])
        have FR := HR.out.inv.2.first (segI l (k + 1)) (by unfold segI; rw [List.getD_eq_getElem?_getD, List.getElem?_eq_getElem hil]; exact List.getElem_mem _)
        obtain ⟨i, hi⟩ : ∃ i, i = k + 1 := ⟨_, rfl⟩
        have hmi : k + 2 = i + 1 := by omega
        rw [← hi] at DU d0 d1 FR hil
        rw [hmi] at HD DU hm ⊢
        have HIL := Lib.hid hil
        have hi1 : 1 ≤ i := by omega
        have HMI := Lib.hid hmi
        clear hi hmi hm1 hm0 hil hq hg'
        generalize hsi : segI l i = sg at *
        have HSI := Lib.hid hsi
        clear hsi
        obtain ⟨f, z⟩ := sg
        dsimp only at d0 d1 FR DU
        have hgt1 : (1 : Int) < ((i + 1 : Nat) : Int) := by omega
        have hwi : IntKind.i64.wrap (((i + 1 : Nat) : Int) - 1) = (i : Int) := by rw [IntWalk.i64_in _ (by omega)]; omega
        have hin : (i : Int) < (n : Int) := by omega
        have hi0 : 0 ≤ (i : Int) := by omega
        generalize hmm : ((i + 1 : Nat) : Int) = mi at *
        have HMM := Lib.hid hmm
        clear hmm
        by_cases hle : off ≤ f
        · rw [if_pos hle] at DU
          have hd : decide (off ≤ f) = true := by simpa using hle
          go_upto_region 12 with fail
          have SC : Hid (∀ w' s', WRun w0 w' T Lb s' l G (some ⟨g, 0, none⟩) sc (some ⟨gr, 0, none⟩) rc → w'.cell? ⟨Lb, 0, none⟩ = some (.pointer (some ⟨T, 0, none⟩)) ∧ w'.cell? ⟨Lb, 2, none⟩ = some (.slice (some ⟨g, 0, none⟩) n sc) ∧ w'.cell? ⟨g, i * 2, none⟩ = some (.int .i64 f) ∧ w'.cell? ⟨g, i * 2 + 1, none⟩ = some (.int .i64 z)) := Lib.hid fun W s' h => by
            obtain ⟨c0, c2⟩ := CK.out s' W h
            obtain ⟨g', hg', d0, d1⟩ := seg_w h HIL.out
            obtain rfl : g = g' := by injection hg' with e; injection e
            have e : l.segs.getD i (0, 0) = (f, z) := HSI.out
            rw [e] at d0 d1
            exact ⟨c0, c2, d0, d1⟩
          have TBd := Lib.hid (WRun.drew HR.out)
          have NM := Lib.hid (segname_any f z FR.1 FR.2 wr.drew (HF.out.below (WRun.below TBd.out)))
          have SY := Lib.hid (fun (W : World) (h : WRun w0 W T Lb s2 l G (some ⟨g, 0, none⟩) sc (some ⟨gr, 0, none⟩) rc) => sdrop_w h f)
          have EE : Hid (dropE1 f s2 = actE s2 (fnd s2 (nmS f) [nmS f])) := Lib.hid rfl
          have ESS : Hid (dropS1 f s2 = actS s2 (fnd s2 (nmS f) [nmS f]) (del (nmS f) s2.fs)) := Lib.hid rfl
          rw [EE.out, ESS.out] at DU
          clear EE ESS c0 c2 d0 d1 hd
          generalize actE s2 (fnd s2 (nmS f) [nmS f]) = er at *
          generalize actS s2 (fnd s2 (nmS f) [nmS f]) (del (nmS f) s2.fs) = s5 at *
          generalize Sg.nameB f = nb at *
          go_region_held3 (fun w' => w'.cell? ⟨Lb, 0, none⟩ = some (.pointer (some ⟨T, 0, none⟩)) ∧ w'.cell? ⟨Lb, 2, none⟩ = some (.slice (some ⟨g, 0, none⟩) n sc) ∧ w'.cell? ⟨g, i * 2, none⟩ = some (.int .i64 f) ∧ w'.cell? ⟨g, i * 2 + 1, none⟩ = some (.int .i64 z)) ((first | exact SC.out _ _ TBd.out | exact SC.out _ _ T3.out | exact SC.out _ _ T4.out | go_keep))
            (first
              | (go_simp; go_at_call 31; (with_reducible refine NM.out.mono ?_); rintro e w3 ⟨rfl, b3⟩; have T3 := Lib.hid (WRun.grow TBd.out b3.out))
              | (go_simp; go_at_call 30; (with_reducible refine (SY.out _ T3.out).mono ?_); rintro e w4 ⟨rfl, T4⟩))
          all_goals
            by_cases he : er = 0
            · subst he
              rw [if_neg (by simp)] at DU
              go_wp2
              go_roundg i
              case measure => have := HMI.out; omega
              case rel => exact ⟨i, s5, rfl, by go_num, by omega, by omega, Lib.hid (by rw [HD.out, DU.out]), T4⟩
            · rw [if_pos he] at DU
              have hne2 : (er != 0) = true := by simpa using he
              have CD : Hid (cutD s l off = (i + 1, s5, er)) := Lib.hid (by rw [DE.out, HD.out, DU.out])
              go_wp2
              go_ret
              have e1 : lcutE s l off = er := by unfold lcutE; rw [CD.out]; exact if_pos he
              have e2 : lcutS s l off = s5 := by unfold lcutS; rw [CD.out]; exact if_pos he
              have e3 : lcutL s l off = l := by unfold lcutL; rw [e1]; exact if_neg he
              refine ⟨by rw [e1]; rfl, ?_⟩
              rw [e2, e3]; exact T4
        · rw [if_neg hle] at DU
          have hd : decide (off ≤ f) = false := by simpa using hle
          have SF : Hid ((segI l (i + 1 - 1)).1 ≤ off) := Lib.hid (by
            show (segI l i).1 ≤ off
            rw [HSI.out]
            show f ≤ off
            omega)
          go_wp2
          go_meet
          exact ⟨i + 1, s2, by rw [HMM.out], Lib.hid ⟨by omega, hm⟩, Lib.hid (by rw [HD.out, DU.out]), SF, HR⟩
  case rest =>
    obtain ⟨m, s2, rfl, HM, HD, HSF, HX⟩ := hcut
    have hm0 := HM.out.1
    have hmn := HM.out.2
    obtain ⟨i, rfl⟩ : ∃ i, m = i + 1 := ⟨m - 1, by omega⟩
    have hil : i < l.segs.length := by rw [← HN.out]; omega
    have HIL := Lib.hid hil
    have CD : Hid (cutD s l off = (i + 1, s2, 0)) := Lib.hid (by rw [DE.out, HD.out])
    have HSF' : Hid ((segI l i).1 ≤ off) := HSF
    have SHI := Lib.hid (shL_inv HX.out.inv.2 hil (HNN.out i hil))
    have SH := Lib.hid (shorten_any HX.out HF.out i hil off (HSG.out i hil) HSF'.out (by have := H2.out; omega) (fun hz => by unfold shL; rw [if_pos hz]; exact SHI.out))
    obtain ⟨c0, c2⟩ := CK.out s2 wc HX.out
    have hwi : IntKind.i64.wrap (((i + 1 : Nat) : Int) - 1) = (i : Int) := by rw [IntWalk.i64_in _ (by omega)]; omega
    have hin : (i : Int) < (n : Int) := by omega
    have hi0 : 0 ≤ (i : Int) := by omega
    have hmsc : i + 1 ≤ sc := by have := HCAP.out; have := HN.out; omega
    have SLM := fun W => slice_toS (some ⟨g, 0, none⟩) n sc (i + 1) hmsc W
    have HMI : Hid (0 < i + 1 ∧ i + 1 ≤ n) := HM
    clear hm0 hmn hil hmsc HM HSF
    generalize hmm : ((i + 1 : Nat) : Int) = mi at *
    have HMM := Lib.hid hmm
    clear hmm
    have EL : Hid (shL s2 l i off = if shE s2 l i off = 0 then { l with segs := l.segs.set i ((segI l i).1, (shN l i off : Int)) } else l) := Lib.hid rfl
    generalize hes : shE s2 l i off = es at *
    have HES := Lib.hid hes
    clear hes
    go_wp2_with fail
    (with_reducible refine SH.out.mono ?_); rintro e w3 ⟨rfl, T3⟩
    by_cases he : es = 0
    · subst he
      rw [if_pos rfl] at EL
      rw [EL.out] at T3
      have z2 : w3.frozen? ⟨Lb, 2, none⟩ = false := (obj5 (obj_w T3.out)).2.2.2.1
      have d2 : w3.cell? ⟨Lb, 2, none⟩ = some (.slice (some ⟨g, 0, none⟩) n sc) := by
        have := (obj5 (obj_w T3.out)).1.2.2.1
        rw [HN.out]
        simpa using this
      have T4 := Lib.hid (WRun.cut_segs T3.out (i + 1) (by omega) (by show i + 1 ≤ (l.segs.set _ _).length; rw [List.length_set, ← HN.out]; exact HMI.out.2) (inv_take_segs SHI.out (i + 1) (by omega) (fun hh => by
        have e : l.segs.set i ((segI l i).1, (shN l i off : Int)) = [] := hh
        have e2 := congrArg List.length e
        rw [List.length_set] at e2
        have := HIL.out
        rw [List.length_nil] at e2
        omega)))
      clear c0 c2
      go_upto_region 19 with fail
      have L4 : Hid (∃ l4 : Wl.L, l4 = { most := l.most, segs := (l.segs.set i ((segI l i).1, (shN l i off : Int))).take (i + 1), recs := l.recs, sure := l.sure }) := Lib.hid ⟨_, rfl⟩
      obtain ⟨l4, hl4⟩ := L4.out
      have T4' : Hid (WRun w0 (w3.setCell ⟨Lb, 2, none⟩ (.slice (some ⟨g, 0, none⟩) (i + 1) sc)) T Lb (shS s2 l i off) l4 G (some ⟨g, 0, none⟩) sc (some ⟨gr, 0, none⟩) rc) := Lib.hid (by rw [hl4]; exact T4.out)
      have FV : Hid (Wl.firstV l4 = Wl.firstV l) := Lib.hid (by
        rw [hl4]
        unfold Wl.firstV segI
        have hil := HIL.out
        cases e : l.segs with
        | nil => rw [e] at hil; simp at hil
        | cons x r => cases i <;> simp)
      have RV : Hid (l4.recs = l.recs) := Lib.hid (by rw [hl4])
      have IV4 := Lib.hid (T4'.out.inv.2)
      have HL4 := Lib.hid hl4
      clear hl4 L4 T4 d2 z2
      generalize w3.setCell ⟨Lb, 2, none⟩ (.slice (some ⟨g, 0, none⟩) (i + 1) sc) = w4 at *
      have Td := Lib.hid (WRun.drew T4'.out)
      obtain ⟨nr, hnr⟩ : ∃ nr, nr = l.recs.length := ⟨_, rfl⟩
      have HNR := Lib.hid hnr
      have CE : Hid (∀ W s' , WRun w0 W T Lb s' l4 G (some ⟨g, 0, none⟩) sc (some ⟨gr, 0, none⟩) rc → W.cell? ⟨Lb, 3, none⟩ = some (.slice (some ⟨gr, 0, none⟩) nr rc) ∧ W.frozen? ⟨Lb, 3, none⟩ = false) := Lib.hid (fun W s' h => by
        have o := obj5 (obj_w h)
        have c3 := o.1.2.2.2.1
        rw [RV.out, ← HNR.out] at c3
        exact ⟨c3, o.2.2.2.2.1⟩)
      have F4 := Lib.hid (first_w Td.out)
      rw [FV.out] at F4
      have zi : Hid (shZ l off < nr) := Lib.hid (by have h2 := H2.out; have h1 := H1.out; rw [HEV.out, ← HNR.out] at h2; unfold shZ; omega)
      obtain ⟨gr', vs, hgr', OV⟩ := WRun.recs_own Td.out (by rw [RV.out]; exact HRL.out)
      obtain rfl : gr = gr' := by injection hgr' with e; injection e
      have DL := Lib.hid (delete_rest OV.out.1 nr (shZ l off) (by rw [OV.out.2, RV.out]; exact HNR.out) zi.out)
      have hwz : IntKind.i64.wrap (off - Wl.firstV l) = (shZ l off : Int) := by
        have h1 := H1.out
        have h2 := H2.out
        have h3 := zi.out
        have h4 := T4'.out.inv.2.count
        rw [RV.out, ← HNR.out] at h4
        have e : off - Wl.firstV l = (shZ l off : Int) := by unfold shZ; omega
        rw [e]; exact IntWalk.i64_in _ (by omega)
      have SHZ : Hid (shZ l off = shZ l off) := Lib.hid rfl
      generalize hzz : shZ l off = zz at *
      have HZZ := Lib.hid hzz
      clear hzz hnr hgr' SHZ
      have CUTC : Hid (∀ q us, (((w4.drew).drewN q).setCells gr (zz * 2) us).cell? ⟨Lb, 3, none⟩ = some (.slice (some ⟨gr, 0, none⟩) nr rc) ∧ (((w4.drew).drewN q).setCells gr (zz * 2) us).frozen? ⟨Lb, 3, none⟩ = false) := Lib.hid (fun q us => by
        obtain ⟨_, O, _, qq, _⟩ := Td.out
        have hne : gr ≠ Lb := qq.apart.2.1 _ rfl
        have hh : (((w4.drew).drewN q).setCells gr (zz * 2) us).heap[Lb]? = w4.drew.heap[Lb]? := heap_setCells gr us _ _ Lb (Ne.symm hne)
        obtain ⟨k1, k2⟩ := CE.out _ _ Td.out
        exact ⟨(World.cell?_of_block (a := ⟨Lb, 3, none⟩) hh).trans k1, (World.frozen?_of_block (a := ⟨Lb, 3, none⟩) hh).trans k2⟩)
      refine wp_region_C (fun w' => w'.cell? ⟨Lb, 3, none⟩ = some (.slice (some ⟨gr, 0, none⟩) nr rc)) 17 (by kernel_rfl) ?_
      have hS0 : (fun w' : World => w'.cell? ⟨Lb, 3, none⟩ = some (.slice (some ⟨gr, 0, none⟩) nr rc)) w4.drew := (CE.out _ _ Td.out).1
      refine wpAnyC_take (i := 0) (oi := ?o1) (v := ?v1) ?hi1 (by kernel_rfl) (by kernel_rfl) (by kernel_rfl) ?hQ1 (by kernel_rfl) (by decide) (by kernel_rfl) (Or.inl ⟨?hg1, ?hy1⟩) (by assumption) ?rest1
      case hi1 => (simp only [List.getElem?_toArray, List.getElem?_cons_zero]; exact rfl)
      case hQ1 => exact fun _ _ _ h => h
      case hg1 => rfl
      case hy1 => (intro w' hSw; (try dsimp only at hSw); go_simp; try with_reducible rfl)
      try simp only [Act.put, List.setIfInBounds_toArray, List.set_cons_zero, List.set_cons_succ]
      refine wpAnyC_take (i := 1) (oi := ?o2) (v := ?v2) ?hi2 (by kernel_rfl) (by kernel_rfl) (by kernel_rfl) ?hQ2 (by kernel_rfl) (by decide) (by kernel_rfl) (Or.inl ⟨?hg2, ?hy2⟩) (by assumption) ?rest2
      case hi2 => (simp only [List.getElem?_toArray, List.getElem?_cons_zero, List.getElem?_cons_succ]; exact rfl)
      case hQ2 => exact fun _ _ _ h => h
      case hg2 => rfl
      case hy2 => (intro w' hSw; (try dsimp only at hSw); go_simp; try with_reducible rfl)
      try simp only [Act.put, List.setIfInBounds_toArray, List.set_cons_zero, List.set_cons_succ]
      refine wpAnyC_take (i := 2) (oi := ?o3) (v := ?v3) ?hi3 (by kernel_rfl) (by kernel_rfl) (by kernel_rfl) ?hQ3 (by kernel_rfl) (by decide) (by kernel_rfl) (Or.inl ⟨?hg3, ?hy3⟩) (by assumption) ?rest3
      case hi3 => (simp only [List.getElem?_toArray, List.getElem?_cons_zero, List.getElem?_cons_succ]; exact rfl)
      case hQ3 => exact fun _ _ _ h => h
      case hg3 => rfl
      case hy3 => (intro w' hSw; (try dsimp only at hSw); go_simp; try with_reducible rfl)
      try simp only [Act.put, List.setIfInBounds_toArray, List.set_cons_zero, List.set_cons_succ]
      refine wpAnyC_take (i := 3) (oi := ?o4) (v := ?v4) ?hi4 (by kernel_rfl) (by kernel_rfl) (by kernel_rfl) ?hQ4 (by kernel_rfl) (by decide) (by kernel_rfl) (Or.inl ⟨?hg4, ?hy4⟩) (by assumption) ?rest4
      case hi4 => (simp only [List.getElem?_toArray, List.getElem?_cons_zero, List.getElem?_cons_succ]; exact rfl)
      case hQ4 => exact fun _ _ _ h => h
      case hg4 => rfl
      case hy4 => (intro w' hSw; (try dsimp only at hSw); go_simp; try with_reducible rfl)
      try simp only [Act.put, List.setIfInBounds_toArray, List.set_cons_zero, List.set_cons_succ]
      refine wpAnyC_take (i := 4) (oi := ?o5) (v := ?v5) ?hi5 (by kernel_rfl) (by kernel_rfl) (by kernel_rfl) ?hQ5 (by kernel_rfl) (by decide) (by kernel_rfl) (Or.inl ⟨?hg5, ?hy5⟩) (by assumption) ?rest5
      case hi5 => (simp only [List.getElem?_toArray, List.getElem?_cons_zero, List.getElem?_cons_succ]; exact rfl)
      case hQ5 => exact fun _ _ _ h => h
      case hg5 => rfl
      case hy5 => (intro w' hSw; (try dsimp only at hSw); go_simp; try with_reducible rfl)
      try simp only [Act.put, List.setIfInBounds_toArray, List.set_cons_zero, List.set_cons_succ]
      refine wpAnyC_take (i := 5) (oi := ?o6) (v := ?v6) ?hi6 (by kernel_rfl) (by kernel_rfl) (by kernel_rfl) ?hQ6 (by kernel_rfl) (by decide) (by kernel_rfl) (Or.inl ⟨?hg6, ?hy6⟩) (by assumption) ?rest6
      case hi6 => (simp only [List.getElem?_toArray, List.getElem?_cons_zero, List.getElem?_cons_succ]; exact rfl)
      case hQ6 => exact fun _ _ _ h => h
      case hg6 => rfl
      case hy6 => (intro w' hSw; (try dsimp only at hSw); go_simp; try with_reducible rfl)
      try simp only [Act.put, List.setIfInBounds_toArray, List.set_cons_zero, List.set_cons_succ]
      refine wpAnyC_take (i := 6) (oi := ?o7) (v := ?v7) ?hi7 (by kernel_rfl) (by kernel_rfl) (by kernel_rfl) ?hQ7 (by kernel_rfl) (by decide) (by kernel_rfl) (Or.inl ⟨?hg7, ?hy7⟩) (by assumption) ?rest7
      case hi7 => (simp only [List.getElem?_toArray, List.getElem?_cons_zero, List.getElem?_cons_succ]; exact rfl)
      case hQ7 => exact fun _ _ _ h => h
      case hg7 => rfl
      case hy7 => (intro w' hSw; (try dsimp only at hSw); go_simp; try with_reducible rfl)
      try simp only [Act.put, List.setIfInBounds_toArray, List.set_cons_zero, List.set_cons_succ]
      refine wpAnyC_take (i := 9) (oi := ?o8) (v := ?v8) ?hi8 (by kernel_rfl) (by kernel_rfl) (by kernel_rfl) ?hQ8 (by kernel_rfl) (by decide) (by kernel_rfl) (Or.inl ⟨?hg8, ?hy8⟩) (by assumption) ?rest8
      case hi8 => (simp only [List.getElem?_toArray, List.getElem?_cons_zero, List.getElem?_cons_succ]; exact rfl)
      case hQ8 => exact fun _ _ _ h => h
      case hg8 => rfl
      case hy8 => (intro w' hSw; (try dsimp only at hSw); go_simp; try with_reducible rfl)
      try simp only [Act.put, List.setIfInBounds_toArray, List.set_cons_zero, List.set_cons_succ]
      refine wpAnyC_take (i := 10) (oi := ?o9) (v := ?v9) ?hi9 (by kernel_rfl) (by kernel_rfl) (by kernel_rfl) ?hQ9 (by kernel_rfl) (by decide) (by kernel_rfl) (Or.inl ⟨?hg9, ?hy9⟩) (by assumption) ?rest9
      case hi9 => (simp only [List.getElem?_toArray, List.getElem?_cons_zero, List.getElem?_cons_succ]; exact rfl)
      case hQ9 => exact fun _ _ _ h => h
      case hg9 => rfl
      case hy9 => (intro w' hSw; (try dsimp only at hSw); go_simp; try with_reducible rfl)
      try simp only [Act.put, List.setIfInBounds_toArray, List.set_cons_zero, List.set_cons_succ]
      refine wpAnyC_take (i := 11) (oi := ?o10) (v := ?v10) ?hi10 (by kernel_rfl) (by kernel_rfl) (by kernel_rfl) ?hQ10 (by kernel_rfl) (by decide) (by kernel_rfl) (Or.inl ⟨?hg10, ?hy10⟩) (by assumption) ?rest10
      case hi10 => (simp only [List.getElem?_toArray, List.getElem?_cons_zero, List.getElem?_cons_succ]; exact rfl)
      case hQ10 => exact fun _ _ _ h => h
      case hg10 => rfl
      case hy10 => (intro w' hSw; (try dsimp only at hSw); go_simp; try with_reducible rfl)
      try simp only [Act.put, List.setIfInBounds_toArray, List.set_cons_zero, List.set_cons_succ]
      refine wpAnyC_take (i := 12) (oi := ?o11) (v := ?v11) ?hi11 (by kernel_rfl) (by kernel_rfl) (by kernel_rfl) ?hQ11 (by kernel_rfl) (by decide) (by kernel_rfl) (Or.inl ⟨?hg11, ?hy11⟩) (by assumption) ?rest11
      case hi11 => (simp only [List.getElem?_toArray, List.getElem?_cons_zero, List.getElem?_cons_succ]; exact rfl)
      case hQ11 => exact fun _ _ _ h => h
      case hg11 => rfl
      case hy11 => (intro w' hSw; (try dsimp only at hSw); go_simp; try with_reducible rfl)
      try simp only [Act.put, List.setIfInBounds_toArray, List.set_cons_zero, List.set_cons_succ]
      refine wpAnyC_take (i := 13) (oi := ?o12) (v := ?v12) ?hi12 (by kernel_rfl) (by kernel_rfl) (by kernel_rfl) ?hQ12 (by kernel_rfl) (by decide) (by kernel_rfl) (Or.inl ⟨?hg12, ?hy12⟩) (by assumption) ?rest12
      case hi12 => (simp only [List.getElem?_toArray, List.getElem?_cons_zero, List.getElem?_cons_succ]; exact rfl)
      case hQ12 => exact fun _ _ _ h => h
      case hg12 => rfl
      case hy12 => (intro w' hSw; (try dsimp only at hSw); go_simp; try with_reducible rfl)
      try simp only [Act.put, List.setIfInBounds_toArray, List.set_cons_zero, List.set_cons_succ]
      refine wpAnyC_one (i := 7) (oi := ?o13) ?hi13 (by kernel_rfl) ?step13
      case hi13 => (simp only [List.getElem?_toArray, List.getElem?_cons_zero, List.getElem?_cons_succ]; exact rfl)
      intro K' hK
      (go_simp; go_at_call 17; (with_reducible refine F4.out.mono ?_); rintro e w5 ⟨rfl, rfl⟩)
      refine hK.out _ _ ?_ (fun hHeld => ?_)
      · exact fun _ => (CE.out _ _ Td.out).1
      clear hK K' hHeld
      try simp only [Act.put, List.setIfInBounds_toArray, List.set_cons_zero, List.set_cons_succ]
      refine wpAnyC_take (i := 8) (oi := ?o14) (v := ?v14) ?hi14 (by kernel_rfl) (by kernel_rfl) (by kernel_rfl) ?hQ14 (by kernel_rfl) (by decide) (by kernel_rfl) (Or.inl ⟨?hg14, ?hy14⟩) (by assumption) ?rest14
      case hi14 => (simp only [List.getElem?_toArray, List.getElem?_cons_zero, List.getElem?_cons_succ]; exact rfl)
      case hQ14 => exact fun _ _ _ h => h
      case hg14 => rfl
      case hy14 => (intro w' hSw; (try dsimp only at hSw); go_simp; try with_reducible rfl)
      try simp only [Act.put, List.setIfInBounds_toArray, List.set_cons_zero, List.set_cons_succ]
      refine wpAnyC_one (i := 14) (oi := ?o15) ?hi15 (by kernel_rfl) ?step15
      case hi15 => (simp only [List.getElem?_toArray, List.getElem?_cons_zero, List.getElem?_cons_succ]; exact rfl)
      intro K' hK
      (go_simp; go_at_call 33; (with_reducible refine DL.out.mono ?_); rintro e w6 ⟨rfl, q6, us, hw6⟩; have HW6 := Lib.hid hw6; have C6 : Hid (w6.cell? ⟨Lb, 3, none⟩ = some (.slice (some ⟨gr, 0, none⟩) nr rc) ∧ w6.frozen? ⟨Lb, 3, none⟩ = false) := Lib.hid (by rw [HW6.out]; exact CUTC.out q6 us); clear hw6)
      refine hK.out _ _ ?_ (fun hHeld => ?_)
      · exact fun _ => C6.out.1
      clear hK K' hHeld
      try simp only [Act.put, List.setIfInBounds_toArray, List.set_cons_zero, List.set_cons_succ]
      obtain ⟨c6, f6⟩ := C6.out
      refine wpAnyC_one (i := 15) (oi := ?o16) ?hi16 (by kernel_rfl) ?step16
      case hi16 => (simp only [List.getElem?_toArray, List.getElem?_cons_zero, List.getElem?_cons_succ]; exact rfl)
      intro K' hK
      go_simp
      refine hK.out _ _ ?_ (fun hHeld => ?_)
      · exact fun _ => C6.out.1
      clear hK K' hHeld
      try simp only [Act.put, List.setIfInBounds_toArray, List.set_cons_zero, List.set_cons_succ]
      refine wpAnyC_one (i := 16) (oi := ?o17) ?hi17 (by kernel_rfl) ?step17
      case hi17 => (simp only [List.getElem?_toArray, List.getElem?_cons_zero, List.getElem?_cons_succ]; exact rfl)
      intro K' hK
      go_simp
      refine hK.out _ _ ?_ (fun hHeld => ?_)
      · exact fun _ => C6.out.1
      clear hK K' hHeld
      try simp only [Act.put, List.setIfInBounds_toArray, List.set_cons_zero, List.set_cons_succ]
      refine wpAnyC_one (i := 17) (oi := ?o18) ?hi18 (by kernel_rfl) ?step18
      case hi18 => (simp only [List.getElem?_toArray, List.getElem?_cons_zero, List.getElem?_cons_succ]; exact rfl)
      intro K' hK
      go_simp
      refine hK.out _ _ ?_ (fun hHeld => ?_)
      · exact fun h => (by cases h)
      clear hK K' hHeld
      try simp only [Act.put, List.setIfInBounds_toArray, List.set_cons_zero, List.set_cons_succ]
      try simp only [Act.put, List.setIfInBounds_toArray, List.set_cons_zero, List.set_cons_succ]
      refine wpAnyC_done (by kernel_rfl) ?_ _
      have T6 : Hid (WRun w0 (w6.setCell ⟨Lb, 3, none⟩ (.slice (some ⟨gr, 0, none⟩) zz rc)) T Lb (shS s2 l i off) { l4 with recs := l4.recs.take zz } G (some ⟨g, 0, none⟩) sc (some ⟨gr, 0, none⟩) rc) := Lib.hid (by
        rw [HW6.out]
        exact WRun.cut_recs (WRun.draw Td.out q6) zz (by rw [RV.out, ← HNR.out]; have := zi.out; omega) us (inv_take_recs IV4.out zz))
      clear c6 f6 C6 CUTC HW6 DL F4 CE Td
      generalize w6.setCell ⟨Lb, 3, none⟩ (.slice (some ⟨gr, 0, none⟩) zz rc) = w7 at *
      have o := obj5 (obj_w T6.out)
      have c4 := o.1.2.2.2.2
      have z4 := o.2.2.2.2.2
      have SU : Hid (0 ≤ min l4.sure off ∧ min l4.sure off ≤ 17609365913600) := Lib.hid (by have := IV4.out.sure; have := H1.out; omega)
      have T7 := Lib.hid (WRun.sured T6.out (min l4.sure off) SU.out.1 SU.out.2)
      have e0 : (cutD s l off).2.2 = 0 := by rw [CD.out]
      have ER : Hid (lcutE s l off = 0) := Lib.hid (by unfold lcutE; rw [if_neg (by rw [e0]; simp), CD.out]; exact HES.out)
      have E2 : Hid (lcutS s l off = shS s2 l i off) := Lib.hid (by unfold lcutS; rw [if_neg (by rw [e0]; simp), CD.out]; rfl)
      have E3 : Hid (lcutL s l off = { l4 with recs := l4.recs.take zz, sure := min l4.sure off }) := Lib.hid (by
        unfold lcutL cutLg
        rw [if_pos ER.out, CD.out, HL4.out, HZZ.out]
        rfl)
      have T8 : Hid (WRun w0 (w7.setCell ⟨Lb, 4, none⟩ (.int .i64 (min l4.sure off))) T Lb (lcutS s l off) (lcutL s l off) G (some ⟨g, 0, none⟩) sc (some ⟨gr, 0, none⟩) rc) := Lib.hid (by rw [E2.out, E3.out]; exact T7.out)
      replace c4 : w7.cell? ⟨Lb, 4, none⟩ = some (.int .i64 l4.sure) := c4
      clear o e0 E2 E3 T7 T6
      generalize l4.sure = su at *
      go_wp2
      go_ret
      exact ⟨by rw [ER.out]; rfl, T8⟩
    · rw [if_neg he] at EL
      rw [EL.out] at T3
      have hne2 : (es != 0) = true := by simpa using he
      have e0 : (cutD s l off).2.2 = 0 := by rw [CD.out]
      have e1 : lcutE s l off = es := by unfold lcutE; rw [if_neg (by rw [e0]; simp), CD.out]; exact HES.out
      have e2 : lcutS s l off = shS s2 l i off := by unfold lcutS; rw [if_neg (by rw [e0]; simp), CD.out]; rfl
      have e3 : lcutL s l off = l := by unfold lcutL; rw [e1]; exact if_neg he
      have ER := Lib.hid e1
      have T5 : Hid (WRun w0 w3 T Lb (lcutS s l off) (lcutL s l off) G (some ⟨g, 0, none⟩) sc (some ⟨gr, 0, none⟩) rc) := Lib.hid (by rw [e2, e3]; exact T3.out)
      clear e0 e1 e2 e3
      go_wp2
      go_ret
      exact ⟨by rw [ER.out]; rfl, T5⟩
end
end Go.Proofs.YtdbhicifjljjnaaGreatDoor
/-
  loadOne: a segment is read as far as it can be, the rest of it is cut off, its records are taken into the log.
-/
namespace Go.Proofs.YtdbhicifjljjnaaGreatDoor
open Go.RowKit St
def ldZ (s : S) (f : Int) : List Int := readL s (nmS f)
def ldN (s : S) (l : Wl.L) (f : Int) : Nat := (Sg.scV (ldZ s f) f (Wl.epochV l)).2
def ldR (s : S) (l : Wl.L) (f : Int) : List Fr.Rc := (Sg.scV (ldZ s f) f (Wl.epochV l)).1
def ldL1 (s : S) (l : Wl.L) (f : Int) : Wl.L := { l with segs := l.segs ++ [(f, (ldN s l f : Int))] }
def ldL (s : S) (l : Wl.L) (f : Int) : Wl.L := { ldL1 s l f with recs := l.recs ++ ldR s l f }
def ldE (s : S) (l : Wl.L) (f : Int) : Int := if ldN s l f < (ldZ s f).length then actE s (cutE s (nmS f) (ldN s l f : Nat)) else 0
def ldS (s : S) (l : Wl.L) (f : Int) : S := if ldN s l f < (ldZ s f).length then actS s (cutE s (nmS f) (ldN s l f : Nat)) (cutL s (nmS f) (ldN s l f)) else s
def LoadPost (w0 : World) (T Lb : Nat) (s : S) (l : Wl.L) (G : List (Nat × Obj)) (f : Int) (e : Ending) (w' : World) : Prop :=
  e = .returned (.tuple #[.bool (decide (ldN s l f = (ldZ s f).length)), .int .i64 (ldE s l f)]) ∧ Hid (∃ sa' sc' ra' rc', WRun w0 w' T Lb (ldS s l f) (ldL s l f) G sa' sc' ra' rc')
theorem ret_bi {k : IntKind} {a b : Int} {x y : Bool} (h : x = y) (h2 : a = b) : Ending.returned (.tuple #[.bool x, .int k a]) = .returned (.tuple #[.bool y, .int k b]) := by rw [h, h2]
theorem flat2_mem : ∀ (us : List (Value × Value)) (u : Value), u ∈ flat2 us → ∃ i, i < us.length ∧ (u = (us.getD i (undef, undef)).1 ∨ u = (us.getD i (undef, undef)).2)
  | [], u, h => by cases h
  | v :: t, u, h => by
    have h' : u ∈ v.1 :: v.2 :: flat2 t := h
    rcases List.mem_cons.1 h' with e | h1
    · exact ⟨0, by simp, .inl (by simpa using e)⟩
    · rcases List.mem_cons.1 h1 with e | h2
      · exact ⟨0, by simp, .inr (by simpa using e)⟩
      · obtain ⟨i, hi, hu⟩ := flat2_mem t u h2
        exact ⟨i + 1, by simpa using hi, by simpa using hu⟩
set_option maxRecDepth 20000 in
set_option maxHeartbeats 8000000 in
theorem loadone_any {w0 w : World} {T Lb : Nat} {s : S} {l : Wl.L} {G : List (Nat × Obj)} {sa : Option Addr} {sc : Nat} {ra : Option Addr} {rc : Nat} (h : WRun w0 w T Lb s l G sa sc ra rc) (hF : Facts w0) (f : Int) (f0 : 0 ≤ f) (f1 : f ≤ 17592186044415)
    (hr : readE s (nmS f) = 0) (hzl : (ldZ s f).length ≤ 16777216) (hi1 : Wl.Inv (ldL1 s l f)) (hi2 : Wl.Inv (ldL s l f)) :
    Calls Tryz.prog 51 #[.pointer (some ⟨Lb, 0, none⟩), .int .i64 f] w (LoadPost w0 T Lb s l G f) := by
  have H := Lib.hid h
  have HF := Lib.hid hF
  obtain ⟨W1, hW1⟩ : ∃ W, W = w.alloc (.cells #[.int .i64 f, .int .i64 0] 70) := ⟨_, rfl⟩
  obtain ⟨X, hX⟩ : ∃ X, X = w.heap.size := ⟨_, rfl⟩
  have B1 : Hid (Below w.heap.size w W1) := Lib.hid (by rw [hW1]; exact (Below.refl _ _).alloc (Nat.le_refl _) _)
  have H1 : Hid (WRun w0 W1 T Lb s l ((X, .cells #[.int .i64 f, .int .i64 0] 70 (0, 0)) :: G) sa sc ra rc) := Lib.hid (WRun.join h B1.out (by rw [hX]; exact Nat.le_refl _) (by rw [hX, hW1]; exact heap_alloc_new ..))
  have XG : Hid (∀ g ∈ G, g.1 ≠ X) := Lib.hid fun g hg e => by have := w_some_lt (WRun.block h hg); omega
  have X0 : Hid (w0.heap.size ≤ X) := Lib.hid (by rw [hX]; exact (WRun.below h).size)
  have SC : Hid (∀ W s l G sa sc ra rc, WRun w0 W T Lb s l ((X, .cells #[.int .i64 f, .int .i64 0] 70 (0, 0)) :: G) sa sc ra rc → W.cell? ⟨Lb, 0, none⟩ = some (.pointer (some ⟨T, 0, none⟩)) ∧ W.cell? ⟨X, 0, none⟩ = some (.int .i64 f) ∧ W.cell? ⟨X, 1, none⟩ = some (.int .i64 0)) := Lib.hid fun W s l G sa sc ra rc hW => by
    obtain ⟨⟨c0, _⟩, _⟩ := obj5 (obj_w hW)
    exact ⟨c0, obj2P (WRun.block hW (List.mem_cons_self ..))⟩
  have NM := Lib.hid (fun (W : World) (hW : Facts W) => segname_any f 0 f0 f1 W hW)
  have RD := Lib.hid (fun (W : World) (hW : WRun w0 W T Lb s l ((X, .cells #[.int .i64 f, .int .i64 0] 70 (0, 0)) :: G) sa sc ra rc) => read_w hW f)
  have S0 := Lib.hid (SC.out _ _ _ _ _ _ _ _ (WRun.drew H1.out))
  have H1d := Lib.hid (WRun.drew H1.out)
  rw [hr] at RD
  have EN : Hid (ldN s l f = (Sg.scV (ldZ s f) f (Wl.epochV l)).2) := Lib.hid rfl
  have ER : Hid (ldR s l f = (Sg.scV (ldZ s f) f (Wl.epochV l)).1) := Lib.hid rfl
  have RD2 : Hid (∀ (W : World), WRun w0 W T Lb s l ((X, .cells #[.int .i64 f, .int .i64 0] 70 (0, 0)) :: G) sa sc ra rc → Calls Tryz.prog 65 #[.pointer (some ⟨T, 0, none⟩), .string (Sg.nameB f)] W (ReadPost W (ldZ s f) 0)) := RD
  have EE : Hid (ldE s l f = if ldN s l f < (ldZ s f).length then actE s (cutE s (nmS f) (ldN s l f : Nat)) else 0) := Lib.hid rfl
  have ES : Hid (ldS s l f = if ldN s l f < (ldZ s f).length then actS s (cutE s (nmS f) (ldN s l f : Nat)) (cutL s (nmS f) (ldN s l f)) else s) := Lib.hid rfl
  clear hr RD
  generalize hZ : ldZ s f = Z at *
  generalize hepl : Wl.epochV l = epl at *
  have EP := Lib.hid (fun (W : World) (G' : List (Nat × Obj)) (hW : WRun w0 W T Lb s l G' sa sc ra rc) => epoch_w hW)
  rw [hepl] at EP
  have SN := Lib.hid (fun (A : Option Addr) (cap : Nat) (hc : Z.length ≤ cap) (W : World) (hb : Bytes W W.heap.size A Z) => scan_any A Z cap f epl (by omega) hc W hb)
  have SZ : Hid (Fr.Byte Z → (Sg.scV Z f epl).2 ≤ Z.length ∧ (Sg.scV Z f epl).1.length ≤ Z.length) := Lib.hid fun hb => by
    have := Sg.scV_tells Z.length Z f epl (Nat.le_refl _) hb
    omega
  unfold LoadPost
  rw [hZ]
  rw [EN.out] at EE ES ⊢
  have EL1 : Hid (ldL1 s l f = { l with segs := l.segs ++ [(f, ((Sg.scV Z f epl).2 : Int))] }) := Lib.hid (by unfold ldL1; rw [EN.out])
  have EL : Hid (ldL s l f = { ldL1 s l f with recs := l.recs ++ (Sg.scV Z f epl).1 }) := Lib.hid (by unfold ldL; rw [ER.out])
  clear hZ hepl EN ER
  have ZL := Lib.hid hzl
  have hzl' : (Z.length : Int) ≤ 16777216 := by omega
  obtain ⟨zn, hzn⟩ : ∃ zn, zn = Z.length := ⟨_, rfl⟩
  rw [← hzn] at EE ES ZL SZ hzl' ⊢
  have ZN := Lib.hid hzn
  clear hzn hzl
  generalize hnb : Sg.nameB f = nb at *
  go_enter Tryz.func51, Tryz.ntmps51
  go_wp2_with fail
  rw [← hW1, ← hX]
  clear hW1 hX B1 H1
  go_region_held3 (fun w' => w'.cell? ⟨Lb, 0, none⟩ = some (.pointer (some ⟨T, 0, none⟩)) ∧ w'.cell? ⟨X, 0, none⟩ = some (.int .i64 f) ∧ w'.cell? ⟨X, 1, none⟩ = some (.int .i64 0)) ((first | exact S0.out | exact S2.out | exact S3.out | go_keep))
    (first
      | (go_simp; go_at_call 31; (with_reducible refine (NM.out _ (HF.out.below (WRun.below H1d.out))).mono ?_); rintro e w2 ⟨rfl, b2⟩; have H2 := Lib.hid (WRun.grow H1d.out b2.out); have S2 := Lib.hid (SC.out _ _ _ _ _ _ _ _ H2.out))
      | (go_simp; go_at_call 65; (with_reducible refine (RD2.out _ H2.out).mono ?_); rintro e w3 ⟨zs, A3, c3, hzs, rfl, o3, b3⟩; have H3 := Lib.hid (WRun.grow H2.out b3); have S3 := Lib.hid (SC.out _ _ _ _ _ _ _ _ H3.out)))
  obtain rfl := hzs.out
  have BY3 : Hid (Bytes w3 w3.heap.size A3 zs) := Lib.hid o3.bytes
  have ZB : Hid (Fr.Byte zs) := Lib.hid fun z hz => (o3.bytes.mem z hz)
  have ZC : Hid (zs.length ≤ c3) := Lib.hid o3.cap_
  rw [← ZN.out]
  clear o3 b3 S0 S2 S3 hzs RD2 H1d
  obtain ⟨hs1, hs2⟩ := SZ.out ZB.out
  go_wp2_with fail
  (with_reducible refine (EP.out _ _ H3.out).mono ?_); rintro e w4 ⟨rfl, j, rfl⟩
  have H4 := Lib.hid (WRun.draw H3.out j)
  have BY4 : Hid (Bytes (w3.drewN j) (w3.drewN j).heap.size A3 zs) := BY3
  generalize w3.drewN j = w4 at *
  have SN4 := Lib.hid (SN.out A3 c3 ZC.out w4 BY4.out)
  rw [← ZN.out] at SN4
  go_wp2_with fail
  (with_reducible refine SN4.out.mono ?_); rintro e w5 ⟨rs, A5, c5, hrs, rfl, o5, b5⟩
  rw [hrs.out] at hs2 EL
  generalize hsze : (Sg.scV zs f epl).2 = sz at *
  have SZE := Lib.hid hsze
  clear hsze
  have H5 := Lib.hid (WRun.news H4.out b5)
  have OR5 := Lib.hid o5
  have B45 := Lib.hid b5
  have XW : Hid (X < w4.heap.size) := Lib.hid (w_some_lt (WRun.block H4.out (List.mem_cons_self ..)))
  have GL : Hid (∀ g ∈ G, g.1 < w4.heap.size) := Lib.hid fun g hg => w_some_lt (WRun.block H4.out (List.mem_cons_of_mem _ hg))
  have W04 : Hid (w0.heap.size ≤ w4.heap.size) := Lib.hid (WRun.below H4.out).size
  clear o5 b5 H4 BY4 BY3 SN4 SN EP SZ hrs
  obtain ⟨er, her⟩ : ∃ er, er = if sz < zn then actE s (cutE s (nmS f) (sz : Nat)) else 0 := ⟨_, rfl⟩
  obtain ⟨s6, hs6⟩ : ∃ s6, s6 = if sz < zn then actS s (cutE s (nmS f) (sz : Nat)) (cutL s (nmS f) sz) else s := ⟨_, rfl⟩
  have EE6 : Hid (ldE s l f = er) := Lib.hid (EE.out.trans her.symm)
  have ES6 : Hid (ldS s l f = s6) := Lib.hid (ES.out.trans hs6.symm)
  have HER := Lib.hid her
  have HS6 := Lib.hid hs6
  clear EE ES her hs6
  go_upto_if 36 with fail
  go_cut [5] from 36 to 44 (fun ev wx => ev = .int .i64 er ∧ Hid (WRun w0 wx T Lb s6 l (newG w4 w5 ++ (X, .cells #[.int .i64 f, .int .i64 0] 70 (0, 0)) :: G) sa sc ra rc))
  case first =>
    by_cases hlt : sz < zn
    · have hlt' : (sz : Int) < (zn : Int) := by omega
      have E1 : Hid (er = actE s (cutE s (nmS f) (sz : Nat))) := Lib.hid (by rw [HER.out, if_pos hlt])
      have E2 : Hid (s6 = actS s (cutE s (nmS f) (sz : Nat)) (cutL s (nmS f) sz)) := Lib.hid (by rw [HS6.out, if_pos hlt])
      have CU := Lib.hid (fun (W : World) (hW : WRun w0 W T Lb s l (newG w4 w5 ++ (X, .cells #[.int .i64 f, .int .i64 0] 70 (0, 0)) :: G) sa sc ra rc) => scut_w hW f (sz : Int))
      rw [hnb, show ((sz : Int)).toNat = sz from rfl, ← E1.out, ← E2.out] at CU
      have H5d := Lib.hid (WRun.drew H5.out)
      have SC5 : Hid (∀ W s, WRun w0 W T Lb s l (newG w4 w5 ++ (X, .cells #[.int .i64 f, .int .i64 0] 70 (0, 0)) :: G) sa sc ra rc → W.cell? ⟨Lb, 0, none⟩ = some (.pointer (some ⟨T, 0, none⟩)) ∧ W.cell? ⟨X, 0, none⟩ = some (.int .i64 f) ∧ W.cell? ⟨X, 1, none⟩ = some (.int .i64 0)) := Lib.hid fun W s hW => SC.out _ _ _ _ _ _ _ _ (WRun.fewer hW (fun g hg => List.mem_append_right _ hg))
      clear E1 E2 HER HS6
      go_upto_region 7 with fail
      go_region_held3 (fun w' => w'.cell? ⟨Lb, 0, none⟩ = some (.pointer (some ⟨T, 0, none⟩)) ∧ w'.cell? ⟨X, 0, none⟩ = some (.int .i64 f) ∧ w'.cell? ⟨X, 1, none⟩ = some (.int .i64 0)) ((first | exact SC5.out _ _ H5d.out | exact SC5.out _ _ H7.out | exact SC5.out _ _ H8.out | go_keep))
        (first
          | (go_simp; go_at_call 31; (with_reducible refine (NM.out _ (HF.out.below (WRun.below H5d.out))).mono ?_); rintro e w7 ⟨rfl, b7⟩; have H7 := Lib.hid (WRun.grow H5d.out b7.out))
          | (go_simp; go_at_call 47; (with_reducible refine (CU.out _ H7.out).mono ?_); rintro e w8 ⟨rfl, H8⟩))
      all_goals go_wp2_with fail
      all_goals go_meet
      all_goals exact ⟨rfl, H8⟩
    · have hlt' : ¬ (sz : Int) < (zn : Int) := by omega
      have E1 : Hid (er = 0) := Lib.hid (by rw [HER.out, if_neg hlt])
      have E2 : Hid (s6 = s) := Lib.hid (by rw [HS6.out, if_neg hlt])
      go_wp2
      go_meet
      exact ⟨by rw [E1.out], by rw [E2.out]; exact H5⟩
  case rest =>
    obtain ⟨rfl, H6⟩ := hcut
    clear HER HS6 H5
    obtain ⟨⟨y0, y1⟩, y2, y3⟩ := (⟨obj2P (WRun.block H6.out (g := (X, _)) (List.mem_append_right _ (List.mem_cons_self ..))), obj2f (WRun.block H6.out (g := (X, _)) (List.mem_append_right _ (List.mem_cons_self ..)))⟩ : (_ ∧ _) ∧ _ ∧ _)
    have H7 : Hid (WRun w0 (wc.setCell ⟨X, 1, none⟩ (.int .i64 (sz : Int))) T Lb s6 l ((X, .cells #[.int .i64 f, .int .i64 (sz : Int)] 70 (0, 0)) :: (newG w4 w5 ++ G)) sa sc ra rc) := Lib.hid (WRun.setG H6.out (List.mem_append_right _ (List.mem_cons_self ..)) X0.out 1 _ (fun g hg => by
      rcases List.mem_append.1 hg with h1 | h1
      · exact ⟨List.mem_append_left _ h1, fun e => by
          have h2 := (newG_mem (k := g.1) (o := g.2)).1 h1
          have := XW.out
          omega⟩
      · exact ⟨List.mem_append_right _ (List.mem_cons_of_mem _ h1), XG.out g h1⟩))
    go_upto_region 9 with fail
    generalize wc.setCell ⟨X, 1, none⟩ (.int .i64 (sz : Int)) = w9 at *
    clear y0 y1 y2 y3 H6
    obtain ⟨q, hq⟩ : ∃ q, q = l.segs.length := ⟨_, rfl⟩
    have HQ := Lib.hid hq
    clear hq
    have CE : Hid (∀ W, WRun w0 W T Lb s6 l ((X, .cells #[.int .i64 f, .int .i64 (sz : Int)] 70 (0, 0)) :: (newG w4 w5 ++ G)) sa sc ra rc → W.cell? ⟨Lb, 2, none⟩ = some (.slice sa q sc) ∧ W.cell? ⟨X, 0, none⟩ = some (.int .i64 f) ∧ W.cell? ⟨X, 1, none⟩ = some (.int .i64 (sz : Int))) := Lib.hid fun W hW => by
      obtain ⟨⟨_, _, c2, _, _⟩, _⟩ := obj5 (obj_w hW)
      rw [← HQ.out] at c2
      exact ⟨c2, obj2P (WRun.block hW (List.mem_cons_self ..))⟩
    have FZ : Hid (∀ W, WRun w0 W T Lb s6 l ((X, .cells #[.int .i64 f, .int .i64 (sz : Int)] 70 (0, 0)) :: (newG w4 w5 ++ G)) sa sc ra rc → W.frozen? ⟨Lb, 2, none⟩ = false) := Lib.hid fun W hW => by
      obtain ⟨_, _, _, c2, _⟩ := obj5 (obj_w hW)
      exact c2
    have H9d := Lib.hid (WRun.drew H7.out)
    have H9a := Lib.hid (WRun.alloc H9d.out (.cells #[.int .i64 f, .int .i64 (sz : Int)] 70))
    have RW : Hid (OwnP (w9.drew.alloc (.cells #[.int .i64 f, .int .i64 (sz : Int)] 70)) 0 70 sa sc (segV l.segs)) := Lib.hid (by obtain ⟨_, _, _, q, _⟩ := H9a.out; exact q.segs)
    have SGC : Hid (l.segs.length ≤ 16777216) := Lib.hid (WRun.inv H7.out).2.segc
    refine wp_region_C (fun w' => w'.cell? ⟨Lb, 2, none⟩ = some (.slice sa q sc) ∧ w'.cell? ⟨X, 0, none⟩ = some (.int .i64 f) ∧ w'.cell? ⟨X, 1, none⟩ = some (.int .i64 (sz : Int))) 10 (by kernel_rfl) ?_
    have hS0 : (fun w' : World => w'.cell? ⟨Lb, 2, none⟩ = some (.slice sa q sc) ∧ w'.cell? ⟨X, 0, none⟩ = some (.int .i64 f) ∧ w'.cell? ⟨X, 1, none⟩ = some (.int .i64 (sz : Int))) w9.drew := CE.out _ H9d.out
    refine wpAnyC_take (i := 0) (oi := ?o1) (v := ?v1) ?hi1 (by kernel_rfl) (by kernel_rfl) (by kernel_rfl) ?hQ1 (by kernel_rfl) (by decide) (by kernel_rfl) (Or.inl ⟨?hg1, ?hy1⟩) (by assumption) ?rest1
    case hi1 => (simp only [List.getElem?_toArray, List.getElem?_cons_zero]; exact rfl)
    case hQ1 => exact fun _ _ _ h => h
    case hg1 => rfl
    case hy1 => (intro w' hSw; (try dsimp only at hSw); go_simp; try with_reducible rfl)
    try simp only [Act.put, List.setIfInBounds_toArray, List.set_cons_zero, List.set_cons_succ]
    refine wpAnyC_take (i := 1) (oi := ?o2) (v := ?v2) ?hi2 (by kernel_rfl) (by kernel_rfl) (by kernel_rfl) ?hQ2 (by kernel_rfl) (by decide) (by kernel_rfl) (Or.inl ⟨?hg2, ?hy2⟩) (by assumption) ?rest2
    case hi2 => (simp only [List.getElem?_toArray, List.getElem?_cons_zero, List.getElem?_cons_succ]; exact rfl)
    case hQ2 => exact fun _ _ _ h => h
    case hg2 => rfl
    case hy2 => (intro w' hSw; (try dsimp only at hSw); go_simp; try with_reducible rfl)
    try simp only [Act.put, List.setIfInBounds_toArray, List.set_cons_zero, List.set_cons_succ]
    refine wpAnyC_take (i := 2) (oi := ?o3) (v := ?v3) ?hi3 (by kernel_rfl) (by kernel_rfl) (by kernel_rfl) ?hQ3 (by kernel_rfl) (by decide) (by kernel_rfl) (Or.inl ⟨?hg3, ?hy3⟩) (by assumption) ?rest3
    case hi3 => (simp only [List.getElem?_toArray, List.getElem?_cons_zero, List.getElem?_cons_succ]; exact rfl)
    case hQ3 => exact fun _ _ _ h => h
    case hg3 => rfl
    case hy3 => (intro w' hSw; (try dsimp only at hSw); go_simp; try with_reducible rfl)
    try simp only [Act.put, List.setIfInBounds_toArray, List.set_cons_zero, List.set_cons_succ]
    refine wpAnyC_take (i := 3) (oi := ?o4) (v := ?v4) ?hi4 (by kernel_rfl) (by kernel_rfl) (by kernel_rfl) ?hQ4 (by kernel_rfl) (by decide) (by kernel_rfl) (Or.inl ⟨?hg4, ?hy4⟩) (by assumption) ?rest4
    case hi4 => (simp only [List.getElem?_toArray, List.getElem?_cons_zero, List.getElem?_cons_succ]; exact rfl)
    case hQ4 => exact fun _ _ _ h => h
    case hg4 => rfl
    case hy4 => (intro w' hSw; (try dsimp only at hSw); go_simp; try with_reducible rfl)
    try simp only [Act.put, List.setIfInBounds_toArray, List.set_cons_zero, List.set_cons_succ]
    refine wpAnyC_take (i := 4) (oi := ?o5) (v := ?v5) ?hi5 (by kernel_rfl) (by kernel_rfl) (by kernel_rfl) ?hQ5 (by kernel_rfl) (by decide) (by kernel_rfl) (Or.inl ⟨?hg5, ?hy5⟩) (by assumption) ?rest5
    case hi5 => (simp only [List.getElem?_toArray, List.getElem?_cons_zero, List.getElem?_cons_succ]; exact rfl)
    case hQ5 => exact fun _ _ _ h => h
    case hg5 => rfl
    case hy5 => (intro w' hSw; (try dsimp only at hSw); go_simp; try with_reducible rfl)
    try simp only [Act.put, List.setIfInBounds_toArray, List.set_cons_zero, List.set_cons_succ]
    refine wpAnyC_take (i := 5) (oi := ?o6) (v := ?v6) ?hi6 (by kernel_rfl) (by kernel_rfl) (by kernel_rfl) ?hQ6 (by kernel_rfl) (by decide) (by kernel_rfl) (Or.inl ⟨?hg6, ?hy6⟩) (by assumption) ?rest6
    case hi6 => (simp only [List.getElem?_toArray, List.getElem?_cons_zero, List.getElem?_cons_succ]; exact rfl)
    case hQ6 => exact fun _ _ _ h => h
    case hg6 => rfl
    case hy6 => (intro w' hSw; (try dsimp only at hSw); go_simp; try with_reducible rfl)
    try simp only [Act.put, List.setIfInBounds_toArray, List.set_cons_zero, List.set_cons_succ]
    refine wpAnyC_one (i := 6) (oi := ?o7) ?hi7 (by kernel_rfl) ?step7
    case hi7 => (simp only [List.getElem?_toArray, List.getElem?_cons_zero, List.getElem?_cons_succ]; exact rfl)
    intro K' hK
    go_simp
    refine hK.out _ _ ?_ (fun hHeld => ?_)
    · exact fun _ => CE.out _ H9a.out
    clear hK K' hHeld
    try simp only [Act.put, List.setIfInBounds_toArray, List.set_cons_zero, List.set_cons_succ]
    refine wpAnyC_one (i := 7) (oi := ?o8) ?hi8 (by kernel_rfl) ?step8
    case hi8 => (simp only [List.getElem?_toArray, List.getElem?_cons_zero, List.getElem?_cons_succ]; exact rfl)
    intro K' hK
    (refine step_appP4 _ _ (by rfl) undG seg_info rfl (by decide) (by rfl) (by rw [segV_len]; exact HQ.out) RW.out (Nat.zero_le _) (by rfl) (obj2P (heap_alloc_new _ _)).1 (obj2P (heap_alloc_new _ _)).2 rfl rfl (by rw [segV_len]; have := SGC.out; omega) (r := q + 1) (by rw [segV_len, HQ.out]) ?_; intro A7 c7 w10 o7 g7 d7 k7; have R2 : Hid (WRun2 w0 w10 T Lb s6 l ((X, .cells #[.int .i64 f, .int .i64 (sz : Int)] 70 (0, 0)) :: (newG w4 w5 ++ G)) sa sc ra rc A7 c7 (l.segs ++ [(f, (sz : Int))])) := Lib.hid (WRun.appended H9a.out (by rw [segV_app]; exact o7) g7 d7 k7); clear o7 g7 d7 k7)
    refine hK.out _ _ ?_ (fun hHeld => ?_)
    · exact fun _ => CE.out _ R2.out.run
    clear hK K' hHeld
    try simp only [Act.put, List.setIfInBounds_toArray, List.set_cons_zero, List.set_cons_succ]
    have fz7 := FZ.out _ R2.out.run
    have cc7 := (CE.out _ R2.out.run).1
    refine wpAnyC_one (i := 8) (oi := ?o9) ?hi9 (by kernel_rfl) ?step9
    case hi9 => (simp only [List.getElem?_toArray, List.getElem?_cons_zero, List.getElem?_cons_succ]; exact rfl)
    intro K' hK
    go_simp
    refine hK.out _ _ ?_ (fun hHeld => ?_)
    · exact fun _ => CE.out _ R2.out.run
    clear hK K' hHeld
    try simp only [Act.put, List.setIfInBounds_toArray, List.set_cons_zero, List.set_cons_succ]
    refine wpAnyC_one (i := 9) (oi := ?o10) ?hi10 (by kernel_rfl) ?step10
    case hi10 => (simp only [List.getElem?_toArray, List.getElem?_cons_zero, List.getElem?_cons_succ]; exact rfl)
    intro K' hK
    go_simp
    refine hK.out _ _ ?_ (fun hHeld => ?_)
    · exact fun _ => CE.out _ R2.out.run
    clear hK K' hHeld
    try simp only [Act.put, List.setIfInBounds_toArray, List.set_cons_zero, List.set_cons_succ]
    refine wpAnyC_one (i := 10) (oi := ?o11) ?hi11 (by kernel_rfl) ?step11
    case hi11 => (simp only [List.getElem?_toArray, List.getElem?_cons_zero, List.getElem?_cons_succ]; exact rfl)
    intro K' hK
    go_simp
    refine hK.out _ _ ?_ (fun hHeld => ?_)
    · exact fun h => (by cases h)
    clear hK K' hHeld
    try simp only [Act.put, List.setIfInBounds_toArray, List.set_cons_zero, List.set_cons_succ]
    refine wpAnyC_done (by kernel_rfl) ?_ _
    clear fz7 cc7 CE FZ H9d H9a RW
    have H10 : Hid (WRun w0 (w10.setCell ⟨Lb, 2, none⟩ (.slice A7 (q + 1) c7)) T Lb s6 (ldL1 s l f) ((X, .cells #[.int .i64 f, .int .i64 (sz : Int)] 70 (0, 0)) :: (newG w4 w5 ++ G)) A7 c7 ra rc) := Lib.hid (by
      have h2 := WRun2.take R2.out (by rw [← EL1.out]; exact hi1)
      rw [← EL1.out] at h2
      have e : (l.segs ++ [(f, (sz : Int))]).length = q + 1 := by rw [List.length_append, HQ.out]; rfl
      rw [e] at h2
      exact h2)
    generalize w10.setCell ⟨Lb, 2, none⟩ (.slice A7 (q + 1) c7) = w11 at *
    clear R2
    obtain ⟨o1, O, hp, hq, f1, f2, f3, f4, f5⟩ := WRun.adopt H10.out (w4 := w4) (w5 := w5) (G' := G) (fun k h1 o h2 => List.mem_cons_of_mem _ (List.mem_append_left _ (newG_mem.2 ⟨h1, h2⟩))) (fun g hg => ⟨List.mem_cons_of_mem _ (List.mem_append_right _ hg), .inl (GL.out g hg)⟩) W04.out
    obtain ⟨vs, hvl, hrw, hro, hv⟩ := hq.recs
    obtain ⟨us, hul, how, huv⟩ := OR5.out
    have SRC : Hid (OwnP w11 w4.heap.size 40 A5 c5 us) := Lib.hid (how.keep fun a ha => by subst ha; exact (f5 _ how.lt.1 how.lt.2).2)
    have ONE : Hid (∀ u ∈ flat2 us, u.oneCell' = true) := Lib.hid fun u hu => by
      obtain ⟨i, hi, hui⟩ := flat2_mem us u hu
      obtain ⟨g1, Ab, cb, g2, _⟩ := huv i (by rw [← hul]; exact hi)
      rcases hui with rfl | rfl
      · rw [g1]; rfl
      · rw [g2]; rfl
    have HUV : Hid (∀ i, i < rs.length → RecO w11 O (us.getD i (undef, undef)) (rs.getD i (0, []))) := Lib.hid fun i hi => by
      obtain ⟨g1, Ab, cb, g2, g3⟩ := huv i hi
      exact ⟨g1, Ab, cb, g2, (g3.low (Nat.zero_le _)).keep fun a ha => by subst ha; exact (f5 _ g3.lt.1 g3.lt.2).2, fun a ha => by subst ha; exact (f5 _ g3.lt.1 g3.lt.2).1⟩
    obtain ⟨p1, hp1⟩ : ∃ p1, p1 = l.recs.length := ⟨_, rfl⟩
    have HVL : Hid (vs.length = p1) := Lib.hid (hvl.trans hp1.symm)
    have HVL2 := Lib.hid hvl
    have HUL := Lib.hid hul
    have HRW := Lib.hid hrw
    have HRO := Lib.hid hro
    have HV := Lib.hid hv
    have HP := Lib.hid hp
    have HQ2 := Lib.hid hq
    have F1 := Lib.hid f1
    have F2 := Lib.hid f2
    have F3 := Lib.hid f3
    have F4 := Lib.hid f4
    have P1 := Lib.hid hp1
    obtain ⟨⟨c0, c1, c2, c3', c4⟩, z0, z1, z2, z3, z4⟩ := obj5 hq.obj
    have CNT : Hid (vs.length + us.length ≤ 1000000000) := Lib.hid (by
      have e1 := hi2.count
      rw [EL.out] at e1
      simp only [List.length_append] at e1
      rw [hvl, hul]
      show l.recs.length + rs.length ≤ _
      omega)
    have hc3 : w11.cell? ⟨Lb, 3, none⟩ = some (.slice ra p1 rc) := by rw [hp1]; exact c3'
    clear hvl hul hrw hro hv how huv hp hq f1 f2 f3 f4 f5 c0 c1 c2 c3' c4 z0 z1 z2 z4 hp1 OR5
    go_upto_region 11 with (at_builtin; refine wp_appPn rfl (.tmp 61) (.tmp 62) rfl Tryz.underlying29 rec_info rfl (by decide) rfl HVL.out.symm HRW.out (Nat.zero_le _) rfl HUL.out.symm SRC.out ONE.out CNT.out (r := p1 + rs.length) (by rw [HVL.out, HUL.out]) ?_; intro A8 c8 w12 o8 g8 k8; have E8 : Hid (w12.heap[Lb]? = w11.heap[Lb]?) := Lib.hid (g8.block Lb (HQ2.out.lt _ HQ2.out.ownL) (by cases ra with | none => simp [Value.ownBlock] | some a => simp [Value.ownBlock]; obtain ⟨cur, hcur⟩ := wal_block HRW.out; exact fun e => type_ne hcur HQ2.out.obj (by decide) e.symm)); have O8 := Lib.hid o8; have G8 := Lib.hid g8; have K8 := Lib.hid k8; clear o8 g8 k8; have fz8 : w12.frozen? ⟨Lb, 3, none⟩ = false := (World.frozen?_of_block E8.out).trans z3; have cc8 : w12.cell? ⟨Lb, 3, none⟩ = some (.slice ra p1 rc) := (World.cell?_of_block E8.out).trans hc3)
    have NEW := LM.push_recs HQ2.out HVL2.out HV.out HUL.out HUV.out O8.out G8.out K8.out HRO.out HRW.out (by have := hi2; rw [EL.out] at this; exact this)
    have FIN : Hid (WRun w0 (w12.setCell ⟨Lb, 3, none⟩ (.slice A8 (p1 + rs.length) c8)) T Lb s6 (ldL s l f) G A7 c7 A8 c8) := Lib.hid (by
      rw [EL.out, P1.out]
      exact w_log1 HP.out HQ2.out F1.out F2.out F3.out F4.out NEW)
    clear NEW fz8 cc8 z3 hc3
    go_wp2
    go_ret2
    refine ⟨ret_bi (x := ((sz : Int) == (zn : Int))) (by rw [Bool.eq_iff_iff, beq_iff_eq, decide_eq_true_iff, SZE.out]; exact Int.ofNat_inj) EE6.out.symm, Lib.hid ⟨A7, c7, A8, c8, ?_⟩⟩
    rw [ES6.out]
    exact FIN.out
end Go.Proofs.YtdbhicifjljjnaaGreatDoor
/-
  load: the segments are read as far as they form a log, the rest of them is removed.
-/
namespace Go.Proofs.YtdbhicifjljjnaaGreatDoor
open Go.RowKit St
theorem Nums.tail {w : World} {B : Nat} {A : Option Addr} {zs : List Int} (h : Nums w B A zs) (k cap : Nat) (hc : zs.length ≤ cap) : Nums w B (tailA A cap k) (zs.drop k) := by
  have hg : ∀ i, i < (zs.drop k).length → (zs.drop k).getD i 0 = zs.getD (k + i) 0 ∧ k + i < zs.length := fun i hi => by
    simp at hi
    rw [List.getD_eq_getElem?_getD, List.getD_eq_getElem?_getD, List.getElem?_drop]
    exact ⟨rfl, by omega⟩
  refine ⟨fun i hi => by rw [(hg i hi).1]; exact h.1 _ (hg i hi).2, fun hn => ?_⟩
  have hk := (hg 0 hn).2
  obtain ⟨b, off, rfl, hb, hcell⟩ := h.2 (by omega)
  refine ⟨b, off + k, ?_, hb, fun i hi => ?_⟩
  · unfold tailA
    rw [if_neg (by omega)]
    show some (Addr.add ⟨b, off, none⟩ k) = _
    rw [add_off]
  · rw [(hg i hi).1, Nat.add_assoc]
    exact hcell _ (hg i hi).2
theorem size1I (W : World) : (sizeOf 2).run Tryz.prog W = .ok 1 W := by kernel_rfl
theorem elemI : Tryz.prog.elem 83 = 2 := by kernel_rfl
theorem undI : Tryz.prog.underlying 83 = some (.slice (Tryz.prog.elem 83)) := by rw [elemI]; exact Tryz.underlying83
theorem slice_fromI (A : Option Addr) (n cap k : Nat) (h : k ≤ n) (ik : IntKind) (W : World) :
    (Instr.slice 83 (.slice A n cap) (some (.int ik (k : Int))) none none).run Tryz.prog W = .ok (.slice (tailA A cap k) (n - k) (cap - k)) W := by
  rw [run_slice_l (P := Tryz.prog) (w := W) 83 A n cap undI ik k (by omega) (by omega), elemI, size1I]
  simp [Result.andThen, sliced, tailA]
def loadF : List Int → S → Wl.L → Bool → S × Wl.L × List Int
  | [], s, l, _ => (s, l, [])
  | f :: r, s, l, b => if b = true ∧ (l.segs.length = 0 ∨ f = Wl.endV l) then loadF r (ldS s l f) (ldL s l f) (decide (ldN s l f = (ldZ s f).length)) else (s, l, f :: r)
def okF : List Int → S → Wl.L → Bool → Prop
  | [], _, _, _ => True
  | f :: r, s, l, b => if b = true ∧ (l.segs.length = 0 ∨ f = Wl.endV l) then
      (0 ≤ f ∧ f ≤ 17592186044415 ∧ readE s (nmS f) = 0 ∧ (ldZ s f).length ≤ 16777216 ∧ Wl.Inv (ldL1 s l f) ∧ Wl.Inv (ldL s l f) ∧ ldE s l f = 0) ∧ okF r (ldS s l f) (ldL s l f) (decide (ldN s l f = (ldZ s f).length))
    else True
def dropF : List Int → S → S
  | [], s => s
  | f :: r, s => dropF r (actS s (fnd s (nmS f) [nmS f]) (del (nmS f) s.fs))
def okD : List Int → S → Prop
  | [], _ => True
  | f :: r, s => (0 ≤ f ∧ f ≤ 17592186044415 ∧ actE s (fnd s (nmS f) [nmS f]) = 0) ∧ okD r (actS s (fnd s (nmS f) [nmS f]) (del (nmS f) s.fs))
set_option maxRecDepth 20000 in
set_option maxHeartbeats 8000000 in
theorem load_any {w0 w : World} {T Lb : Nat} {s : S} {l : Wl.L} {G : List (Nat × Obj)} {sa : Option Addr} {sc : Nat} {ra : Option Addr} {rc : Nat} (h : WRun w0 w T Lb s l G sa sc ra rc) (hF : Facts w0)
    (A : Option Addr) (n cap : Nat) (zs : List Int) (hn : n = zs.length) (hcap : n ≤ cap) (hl : n ≤ 1000000) (hA : ∀ W s l sa sc ra rc, WRun w0 W T Lb s l G sa sc ra rc → Nums W W.heap.size A zs)
    (ho : okF zs s l true) (hd : okD (loadF zs s l true).2.2 (loadF zs s l true).1) :
    Calls Tryz.prog 36 #[.pointer (some ⟨Lb, 0, none⟩), .slice A n cap] w fun e w' => RetI 0 e ∧ Hid (∃ sa' sc' ra' rc', WRun w0 w' T Lb (dropF (loadF zs s l true).2.2 (loadF zs s l true).1) (loadF zs s l true).2.1 G sa' sc' ra' rc') := by
  obtain ⟨R, hR⟩ : ∃ R, R = loadF zs s l true := ⟨_, rfl⟩
  rw [← hR] at hd ⊢
  have H := Lib.hid h
  have HF := Lib.hid hF
  have HO := Lib.hid ho
  have HD := Lib.hid hd
  have HR := Lib.hid hR.symm
  have HA := Lib.hid hA
  have HCAP := Lib.hid hcap
  have HN := Lib.hid hn
  have hl' : (n : Int) ≤ 1000000 := by omega
  clear h hF ho hd hR hA
  go_enter Tryz.func36, Tryz.ntmps36
  go_wp2_with fail
  go_loopg [1, 5] n (fun q fv bv wr => ∃ (r : List Int) (A' : Option Addr) (m c' : Nat) (b : Bool) (s' : S) (l' : Wl.L) (sa' : Option Addr) (sc' : Nat) (ra' : Option Addr) (rc' : Nat), q = m ∧ Hid (m = r.length) ∧ m ≤ n ∧ Hid (m ≤ c') ∧ fv = .slice A' m c' ∧ bv = .bool b ∧ Hid (∀ W s l sa sc ra rc, WRun w0 W T Lb s l G sa sc ra rc → Nums W W.heap.size A' r) ∧ Hid (WRun w0 wr T Lb s' l' G sa' sc' ra' rc') ∧ Hid (loadF r s' l' b = R) ∧ Hid (okF r s' l' b))
  case atStart => exact ⟨zs, A, n, cap, true, s, l, sa, sc, ra, rc, rfl, HN, Nat.le_refl _, HCAP, rfl, rfl, HA, H, HR, HO⟩
  case round =>
    obtain ⟨r, A', m, c', b, s', l', sa', sc', ra', rc', hqm, HM, hmn, HC, rfl, rfl, HA1, H1, HR1, HO1⟩ := hrel
    obtain rfl := hqm.symm
    have SC0 : Hid (∀ W s l sa sc ra rc, WRun w0 W T Lb s l G sa sc ra rc → W.cell? ⟨Lb, 2, none⟩ = some (.slice sa l.segs.length sc)) := Lib.hid fun W s l sa sc ra rc hW => by
      obtain ⟨⟨_, _, c2, _⟩, _⟩ := obj5 (obj_w hW)
      exact c2
    match r, b with
    | [], b =>
      have hm0 : ¬ 0 < (m : Int) := by have e : m = 0 := HM.out; omega
      have HR2 : Hid (R = (s', l', [])) := Lib.hid (by rw [← HR1.out, loadF])
      obtain ⟨RL, hRL⟩ : ∃ RL : List Int, RL = [] := ⟨_, rfl⟩
      rw [← hRL] at HM HA1 HR2
      clear SC0 hRL
      cases b
      all_goals
        go_wp2
        have HD2 : Hid (okD RL s') := Lib.hid (by have := HD.out; rw [HR2.out] at this; exact this)
        have er := HR2.out
        clear HD HR HR1 HO1 HO HR2 H HA
        subst er
        go_loopw [45] (fun iv wr => ∃ (i : Nat) (s2 : S), i ≤ m ∧ iv = .int .i64 i ∧ Hid (WRun w0 wr T Lb s2 l' G sa' sc' ra' rc') ∧ Hid (dropF (RL.drop i) s2 = dropF RL s') ∧ Hid (okD (RL.drop i) s2)) (fun iv _ => m - (intOf iv).toNat)
        case atStart => exact ⟨0, s', Nat.zero_le _, rfl, H1, Lib.hid rfl, HD2⟩
        case round =>
          obtain ⟨i, s2, hi, rfl, H2, HE, HK⟩ := hrel
          by_cases hlt : i < m
          · have hlt' : (i : Int) < (m : Int) := by omega
            obtain ⟨b7, off7, f2, hae, hb, hc, hf, f0, f1⟩ := (HA1.out _ _ _ _ _ _ _ H2.out).at_ (k := i) (by rw [← HM.out]; exact hlt)
            first | subst hae | (injection hae with hae; injection hae with h71 h72; subst h71 h72)
            have DR : Hid (RL.drop i = f2 :: RL.drop (i + 1)) := Lib.hid (by
              have hl : i < RL.length := by rw [← HM.out]; exact hlt
              rw [List.drop_eq_getElem_cons hl]
              have := hf.out
              rw [List.getD_eq_getElem?_getD, List.getElem?_eq_getElem hl] at this
              rw [show RL[i] = f2 from this])
            have HK2 := HK.out
            rw [DR.out] at HK2
            obtain ⟨⟨k1, k2, k3⟩, k4⟩ := HK2
            have HE2 : Hid (dropF (RL.drop (i + 1)) (actS s2 (fnd s2 (nmS f2) [nmS f2]) (del (nmS f2) s2.fs)) = dropF RL s') := Lib.hid (by have := HE.out; rw [DR.out] at this; exact this)
            have K4 := Lib.hid k4
            have H2d := Lib.hid (WRun.drew H2.out)
            have NM := Lib.hid (segname_any f2 0 k1 k2 wr.drew (HF.out.below (WRun.below H2d.out)))
            have DP := Lib.hid (fun (W : World) (hW : WRun w0 W T Lb s2 l' G sa' sc' ra' rc') => sdrop_w hW f2)
            rw [k3] at DP
            have SC : Hid (∀ W s, WRun w0 W T Lb s l' G sa' sc' ra' rc' → W.cell? ⟨Lb, 0, none⟩ = some (.pointer (some ⟨T, 0, none⟩))) := Lib.hid fun W s hW => by
              obtain ⟨⟨c0, _⟩, _⟩ := obj5 (obj_w hW)
              exact c0
            clear k1 k2 k3 k4 DR HK HE hb hf f0 f1
            generalize actS s2 (fnd s2 (nmS f2) [nmS f2]) (del (nmS f2) s2.fs) = s3 at *
            generalize Sg.nameB f2 = nb at *
            go_wp2_with fail
            go_region_held3 (fun w' => w'.cell? ⟨Lb, 0, none⟩ = some (.pointer (some ⟨T, 0, none⟩))) ((first | exact SC.out _ _ H2d.out | exact SC.out _ _ H3.out | exact SC.out _ _ H4.out | go_keep))
              (first
                | (go_simp; go_at_call 31; (with_reducible refine NM.out.mono ?_); rintro e w3 ⟨rfl, b3⟩; have H3 := Lib.hid (WRun.grow H2d.out b3.out))
                | (go_simp; go_at_call 30; (with_reducible refine (DP.out _ H3.out).mono ?_); rintro e w4 ⟨rfl, H4⟩))
            all_goals
              go_wp2
              go_roundw
              case rel => exact ⟨i + 1, s3, by omega, by go_num, H4, HE2, K4⟩
              case measure => simp [intOf]; omega
          · obtain rfl : i = m := by omega
            have E : Hid (dropF RL s' = s2) := Lib.hid (by rw [← HE.out, HM.out, List.drop_length]; rfl)
            clear HE HK HA1 HM
            go_wp2
            go_ret
            exact ⟨rfl, Lib.hid ⟨sa', sc', ra', rc', by rw [E.out]; exact H2.out⟩⟩
    | f :: r', false =>
      have HR2 : Hid (R = (s', l', f :: r')) := Lib.hid (by rw [← HR1.out, loadF, if_neg (by simp)])
      obtain ⟨RL, hRL⟩ : ∃ RL : List Int, RL = f :: r' := ⟨_, rfl⟩
      rw [← hRL] at HM HA1 HR2
      clear SC0 hRL
      go_wp2
      have HD2 : Hid (okD RL s') := Lib.hid (by have := HD.out; rw [HR2.out] at this; exact this)
      have er := HR2.out
      clear HD HR HR1 HO1 HO HR2 H HA
      subst er
      go_loopw [45] (fun iv wr => ∃ (i : Nat) (s2 : S), i ≤ m ∧ iv = .int .i64 i ∧ Hid (WRun w0 wr T Lb s2 l' G sa' sc' ra' rc') ∧ Hid (dropF (RL.drop i) s2 = dropF RL s') ∧ Hid (okD (RL.drop i) s2)) (fun iv _ => m - (intOf iv).toNat)
      case atStart => exact ⟨0, s', Nat.zero_le _, rfl, H1, Lib.hid rfl, HD2⟩
      case round =>
        obtain ⟨i, s2, hi, rfl, H2, HE, HK⟩ := hrel
        by_cases hlt : i < m
        · have hlt' : (i : Int) < (m : Int) := by omega
          obtain ⟨b7, off7, f2, hae, hb, hc, hf, f0, f1⟩ := (HA1.out _ _ _ _ _ _ _ H2.out).at_ (k := i) (by rw [← HM.out]; exact hlt)
          first | subst hae | (injection hae with hae; injection hae with h71 h72; subst h71 h72)
          have DR : Hid (RL.drop i = f2 :: RL.drop (i + 1)) := Lib.hid (by
            have hl : i < RL.length := by rw [← HM.out]; exact hlt
            rw [List.drop_eq_getElem_cons hl]
            have := hf.out
            rw [List.getD_eq_getElem?_getD, List.getElem?_eq_getElem hl] at this
            rw [show RL[i] = f2 from this])
          have HK2 := HK.out
          rw [DR.out] at HK2
          obtain ⟨⟨k1, k2, k3⟩, k4⟩ := HK2
          have HE2 : Hid (dropF (RL.drop (i + 1)) (actS s2 (fnd s2 (nmS f2) [nmS f2]) (del (nmS f2) s2.fs)) = dropF RL s') := Lib.hid (by have := HE.out; rw [DR.out] at this; exact this)
          have K4 := Lib.hid k4
          have H2d := Lib.hid (WRun.drew H2.out)
          have NM := Lib.hid (segname_any f2 0 k1 k2 wr.drew (HF.out.below (WRun.below H2d.out)))
          have DP := Lib.hid (fun (W : World) (hW : WRun w0 W T Lb s2 l' G sa' sc' ra' rc') => sdrop_w hW f2)
          rw [k3] at DP
          have SC : Hid (∀ W s, WRun w0 W T Lb s l' G sa' sc' ra' rc' → W.cell? ⟨Lb, 0, none⟩ = some (.pointer (some ⟨T, 0, none⟩))) := Lib.hid fun W s hW => by
            obtain ⟨⟨c0, _⟩, _⟩ := obj5 (obj_w hW)
            exact c0
          clear k1 k2 k3 k4 DR HK HE hb hf f0 f1
          generalize actS s2 (fnd s2 (nmS f2) [nmS f2]) (del (nmS f2) s2.fs) = s3 at *
          generalize Sg.nameB f2 = nb at *
          go_wp2_with fail
          go_region_held3 (fun w' => w'.cell? ⟨Lb, 0, none⟩ = some (.pointer (some ⟨T, 0, none⟩))) ((first | exact SC.out _ _ H2d.out | exact SC.out _ _ H3.out | exact SC.out _ _ H4.out | go_keep))
            (first
              | (go_simp; go_at_call 31; (with_reducible refine NM.out.mono ?_); rintro e w3 ⟨rfl, b3⟩; have H3 := Lib.hid (WRun.grow H2d.out b3.out))
              | (go_simp; go_at_call 30; (with_reducible refine (DP.out _ H3.out).mono ?_); rintro e w4 ⟨rfl, H4⟩))
          all_goals
            go_wp2
            go_roundw
            case rel => exact ⟨i + 1, s3, by omega, by go_num, H4, HE2, K4⟩
            case measure => simp [intOf]; omega
        · obtain rfl : i = m := by omega
          have E : Hid (dropF RL s' = s2) := Lib.hid (by rw [← HE.out, HM.out, List.drop_length]; rfl)
          clear HE HK HA1 HM
          go_wp2
          go_ret
          exact ⟨rfl, Lib.hid ⟨sa', sc', ra', rc', by rw [E.out]; exact H2.out⟩⟩
    | f :: r', true =>
      have hm1 : 0 < m := by rw [HM.out]; simp
      have hm1' : 0 < (m : Int) := by omega
      obtain ⟨b1, off, f', rfl, hb, hc, hf, f0, f1⟩ := (HA1.out _ _ _ _ _ _ _ H1.out).at_ (k := 0) (by simp)
      obtain rfl : f = f' := by simpa using hf.out
      rw [Nat.add_zero] at hc
      have EN := Lib.hid (fun k => end_w (WRun.draw H1.out k))
      have c2 := SC0.out _ _ _ _ _ _ _ H1.out
      by_cases hseg : l'.segs.length = 0 ∨ f = Wl.endV l'
      · have HOK := HO1.out
        rw [okF, if_pos ⟨rfl, hseg⟩] at HOK
        have HRK := HR1.out
        rw [loadF, if_pos ⟨rfl, hseg⟩] at HRK
        obtain ⟨⟨q1, q2, q3, q4, q5, q6, q7⟩, q8⟩ := HOK
        have HRK1 := Lib.hid HRK
        have HOK1 := Lib.hid q8
        have LO := Lib.hid (fun (W : World) (hW : WRun w0 W T Lb s' l' G sa' sc' ra' rc') => loadone_any hW HF.out f q1 q2 q3 q4 q5 q6)
        unfold LoadPost at LO
        rw [q7] at LO
        have sl : ∀ W, (Instr.slice 83 (.slice (some ⟨b1, off, none⟩) m c') (some (.int .i64 1)) none none).run Tryz.prog W = .ok (.slice (tailA (some ⟨b1, off, none⟩) c' 1) (m - 1) (c' - 1)) W := fun W => slice_fromI (some ⟨b1, off, none⟩) m c' 1 (by omega) .i64 W
        have HA2 : Hid (∀ W s l sa sc ra rc, WRun w0 W T Lb s l G sa sc ra rc → Nums W W.heap.size (tailA (some ⟨b1, off, none⟩) c' 1) r') := Lib.hid fun W s l sa sc ra rc hW => (HA1.out W s l sa sc ra rc hW).tail 1 c' (by rw [← HM.out]; exact HC.out)
        have HM2 : Hid (m - 1 = r'.length) := Lib.hid (by have := HM.out; simp at this; omega)
        have HC2 : Hid (m - 1 ≤ c' - 1) := Lib.hid (by have := HC.out; omega)
        clear HR1 HO1 HRK q1 q2 q3 q4 q5 q6 q7 q8 SC0 hf f0 f1 hb HA1 HM HC
        generalize hwh : decide (ldN s' l' f = (ldZ s' f).length) = wh at *
        generalize ldS s' l' f = s3 at *
        generalize ldL s' l' f = l3 at *
        clear hwh
        have EN2 : Hid (∀ k, Calls Tryz.prog 12 #[.pointer (some ⟨Lb, 0, none⟩)] (wr.drewN k) fun e w' => e = .returned (.int .i64 (Wl.endV l')) ∧ ∃ j, w' = wr.drewN j) := Lib.hid fun k => (EN.out k).mono fun _ _ ⟨h1, j, h2⟩ => ⟨h1, k + j, by rw [h2]; exact drewN_drewN _ _ _⟩
        clear EN
        by_cases h0 : l'.segs.length = 0
        · have hd0 : decide (0 < l'.segs.length) = false := decide_eq_false (by omega)
          clear hseg h0
          generalize l'.segs.length = ls at *
          go_wp2_with fail
          go_quiet (fail)
          have H3 := Lib.hid (WRun.draw H1.out nq)
          have hc2 : (wr.drewN nq).cell? ⟨b1, off, none⟩ = some (.int .i64 f) := hc
          generalize wr.drewN nq = w3 at *
          go_wp2_with fail
          (with_reducible refine (LO.out _ H3.out).mono ?_); rintro e w4 ⟨rfl, H4⟩
          obtain ⟨sa4, sc4, ra4, rc4, h4⟩ := H4.out
          go_wp2
          go_roundg (m - 1)
          case measure => omega
          case rel => exact ⟨r', _, m - 1, c' - 1, wh, s3, l3, sa4, sc4, ra4, rc4, rfl, HM2, by omega, HC2, rfl, rfl, HA2, Lib.hid h4, HRK1, HOK1⟩
        · have hfe : f = Wl.endV l' := by rcases hseg with h | h; exact absurd h h0; exact h
          rw [← hfe] at EN2
          have hd0 : decide (0 < l'.segs.length) = true := decide_eq_true (by omega)
          clear hseg h0 hfe
          generalize l'.segs.length = ls at *
          go_wp2_with fail
          go_quiet ((go_at_call 12; exact EN2.out _))
          have H3 := Lib.hid (WRun.draw H1.out nq)
          have hc2 : (wr.drewN nq).cell? ⟨b1, off, none⟩ = some (.int .i64 f) := hc
          generalize wr.drewN nq = w3 at *
          go_wp2_with fail
          (with_reducible refine (LO.out _ H3.out).mono ?_); rintro e w4 ⟨rfl, H4⟩
          obtain ⟨sa4, sc4, ra4, rc4, h4⟩ := H4.out
          go_wp2
          go_roundg (m - 1)
          case measure => omega
          case rel => exact ⟨r', _, m - 1, c' - 1, wh, s3, l3, sa4, sc4, ra4, rc4, rfl, HM2, by omega, HC2, rfl, rfl, HA2, Lib.hid h4, HRK1, HOK1⟩
      · have HR2 : Hid (R = (s', l', f :: r')) := Lib.hid (by rw [← HR1.out, loadF, if_neg (fun hh => hseg hh.2)])
        obtain ⟨RL, hRL⟩ : ∃ RL : List Int, RL = f :: r' := ⟨_, rfl⟩
        have HRL := Lib.hid hRL
        rw [← hRL] at HM HA1 HR2
        clear hRL HRL
        have h0 : l'.segs.length ≠ 0 := fun h => hseg (Or.inl h)
        have hne : (f == Wl.endV l') = false := by rw [beq_eq_false_iff_ne]; exact fun h => hseg (Or.inr h)
        have EN2 : Hid (∀ k, Calls Tryz.prog 12 #[.pointer (some ⟨Lb, 0, none⟩)] (wr.drewN k) fun e w' => e = .returned (.int .i64 (Wl.endV l')) ∧ ∃ j, w' = wr.drewN j) := Lib.hid fun k => (EN.out k).mono fun _ _ ⟨h1, j, h2⟩ => ⟨h1, k + j, by rw [h2]; exact drewN_drewN _ _ _⟩
        generalize Wl.endV l' = en at *
        have hd0 : decide (0 < l'.segs.length) = true := decide_eq_true (by omega)
        clear hseg h0 EN SC0 hf f0 f1 hb
        generalize l'.segs.length = ls at *
        go_wp2_with fail
        go_quiet ((go_at_call 12; exact EN2.out _))
        have H3 := Lib.hid (WRun.draw H1.out nq)
        generalize wr.drewN nq = w3 at *
        clear H1 EN2 hc c2
        have H1 := H3
        clear H3
        go_wp2
        clear hd0 hne
        generalize (f != en) = bb
        have HD2 : Hid (okD RL s') := Lib.hid (by have := HD.out; rw [HR2.out] at this; exact this)
        have er := HR2.out
        clear HD HR HR1 HO1 HO HR2 H HA
        subst er
        go_loopw [45] (fun iv wr => ∃ (i : Nat) (s2 : S), i ≤ m ∧ iv = .int .i64 i ∧ Hid (WRun w0 wr T Lb s2 l' G sa' sc' ra' rc') ∧ Hid (dropF (RL.drop i) s2 = dropF RL s') ∧ Hid (okD (RL.drop i) s2)) (fun iv _ => m - (intOf iv).toNat)
        case atStart => exact ⟨0, s', Nat.zero_le _, rfl, H1, Lib.hid rfl, HD2⟩
        case round =>
          obtain ⟨i, s2, hi, rfl, H2, HE, HK⟩ := hrel
          by_cases hlt : i < m
          · have hlt' : (i : Int) < (m : Int) := by omega
            obtain ⟨b7, off7, f2, hae, hb, hc, hf, f0, f1⟩ := (HA1.out _ _ _ _ _ _ _ H2.out).at_ (k := i) (by rw [← HM.out]; exact hlt)
            first | subst hae | (injection hae with hae; injection hae with h71 h72; subst h71 h72)
            have DR : Hid (RL.drop i = f2 :: RL.drop (i + 1)) := Lib.hid (by
              have hl : i < RL.length := by rw [← HM.out]; exact hlt
              rw [List.drop_eq_getElem_cons hl]
              have := hf.out
              rw [List.getD_eq_getElem?_getD, List.getElem?_eq_getElem hl] at this
              rw [show RL[i] = f2 from this])
            have HK2 := HK.out
            rw [DR.out] at HK2
            obtain ⟨⟨k1, k2, k3⟩, k4⟩ := HK2
            have HE2 : Hid (dropF (RL.drop (i + 1)) (actS s2 (fnd s2 (nmS f2) [nmS f2]) (del (nmS f2) s2.fs)) = dropF RL s') := Lib.hid (by have := HE.out; rw [DR.out] at this; exact this)
            have K4 := Lib.hid k4
            have H2d := Lib.hid (WRun.drew H2.out)
            have NM := Lib.hid (segname_any f2 0 k1 k2 wr.drew (HF.out.below (WRun.below H2d.out)))
            have DP := Lib.hid (fun (W : World) (hW : WRun w0 W T Lb s2 l' G sa' sc' ra' rc') => sdrop_w hW f2)
            rw [k3] at DP
            have SC : Hid (∀ W s, WRun w0 W T Lb s l' G sa' sc' ra' rc' → W.cell? ⟨Lb, 0, none⟩ = some (.pointer (some ⟨T, 0, none⟩))) := Lib.hid fun W s hW => by
              obtain ⟨⟨c0, _⟩, _⟩ := obj5 (obj_w hW)
              exact c0
            clear k1 k2 k3 k4 DR HK HE hb hf f0 f1
            generalize actS s2 (fnd s2 (nmS f2) [nmS f2]) (del (nmS f2) s2.fs) = s3 at *
            generalize Sg.nameB f2 = nb at *
            go_wp2_with fail
            go_region_held3 (fun w' => w'.cell? ⟨Lb, 0, none⟩ = some (.pointer (some ⟨T, 0, none⟩))) ((first | exact SC.out _ _ H2d.out | exact SC.out _ _ H3.out | exact SC.out _ _ H4.out | go_keep))
              (first
                | (go_simp; go_at_call 31; (with_reducible refine NM.out.mono ?_); rintro e w3 ⟨rfl, b3⟩; have H3 := Lib.hid (WRun.grow H2d.out b3.out))
                | (go_simp; go_at_call 30; (with_reducible refine (DP.out _ H3.out).mono ?_); rintro e w4 ⟨rfl, H4⟩))
            all_goals
              go_wp2
              go_roundw
              case rel => exact ⟨i + 1, s3, by omega, by go_num, H4, HE2, K4⟩
              case measure => simp [intOf]; omega
          · obtain rfl : i = m := by omega
            have E : Hid (dropF RL s' = s2) := Lib.hid (by rw [← HE.out, HM.out, List.drop_length]; rfl)
            clear HE HK HA1 HM
            go_wp2
            go_ret
            exact ⟨rfl, Lib.hid ⟨sa', sc', ra', rc', by rw [E.out]; exact H2.out⟩⟩
end Go.Proofs.YtdbhicifjljjnaaGreatDoor
