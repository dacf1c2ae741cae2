/-
  Part 32 of the texts behind the law: WalCutQ, WalCutL, WalTorn, WalTornO, WalFz, WalFzS, WalFzM.
-/
import Derived.Test.YtdbhicifjljjnaaGreatDoorMf31
/-
  The plain side of Cut, put together: the records ahead of the offset stay, and nothing else.
-/
namespace Go.Proofs.YtdbhicifjljjnaaGreatDoor
open Go.RowKit St
theorem codeV_app (a b : List Fr.Rc) : codeV (a ++ b) = codeV a ++ codeV b := by unfold codeV; simp
theorem sizeV_code : ∀ (rs : List Fr.Rc), sizeV rs = (codeV rs).length
  | [] => rfl
  | r :: t => by
    have e : codeV (r :: t) = Fr.putV r.1 r.2 ++ codeV t := rfl
    rw [e, List.length_append, Fr.putV_len, ← sizeV_code t]; rfl
theorem sizeV_sub (rs : List Fr.Rc) (a z : Nat) : sizeV ((rs.take z).drop a) ≤ sizeV rs := by
  have h1 : sizeV rs = sizeV (rs.take z) + sizeV (rs.drop z) := by rw [← sizeV_app, List.take_append_drop]
  have h2 : sizeV (rs.take z) = sizeV ((rs.take z).take a) + sizeV ((rs.take z).drop a) := by rw [← sizeV_app, List.take_append_drop]
  omega
theorem codeV_take (rs : List Fr.Rc) (k : Nat) : (codeV rs).take (codeV (rs.take k)).length = codeV (rs.take k) := by
  have e : codeV rs = codeV (rs.take k) ++ codeV (rs.drop k) := by rw [← codeV_app, List.take_append_drop]
  rw [e, List.take_append_of_le_length (Nat.le_refl _), List.take_length]
/-- The parts that stay ahead of offset off, when part i is the last. -/
def cutP (P0 : List Part) (i : Nat) (off : Int) : List Part := P0.take i ++ [((P0.getD i partD).1.take (off - cntP (P0.take i)).toNat, min (P0.getD i partD).2 (codeV ((P0.getD i partD).1.take (off - cntP (P0.take i)).toNat)).length)]
theorem part_split {P0 : List Part} {i : Nat} (h : i < P0.length) : P0 = P0.take i ++ P0.getD i partD :: P0.drop (i + 1) := by
  rw [List.getD_eq_getElem?_getD, List.getElem?_eq_getElem h]
  exact (by simp : P0.take i ++ P0[i] :: P0.drop (i + 1) = P0).symm
theorem cut_recs_eq {P0 : List Part} {i : Nat} {off : Int} (h : i < P0.length) (h1 : ((cntP (P0.take i) : Nat) : Int) ≤ off) (h2 : off ≤ (cntP (P0.take i) + (P0.getD i partD).1.length : Nat)) :
    recsP (cutP P0 i off) = (recsP P0).take off.toNat := by
  have e := part_split h
  have er : recsP P0 = recsP (P0.take i) ++ ((P0.getD i partD).1 ++ recsP (P0.drop (i + 1))) := by
    conv => lhs; rw [e]
    rw [recsP_app]; rfl
  unfold cutP
  rw [er, recsP_app]
  have hl : (recsP (P0.take i)).length = cntP (P0.take i) := recsP_len _
  rw [List.take_append, hl, List.take_of_length_le (l := recsP (P0.take i)) (by rw [hl]; omega), List.take_append]
  have hk : off.toNat - cntP (P0.take i) = (off - cntP (P0.take i)).toNat := by omega
  have h0 : off.toNat - cntP (P0.take i) - (P0.getD i partD).1.length = 0 := by omega
  rw [h0, List.take_zero, List.append_nil, hk]
  simp [recsP]
section
variable {s : S} {l : Wl.L} {P0 : List Part} {off : Int}
theorem fit_first (F : Fit s l 0 P0) : Wl.firstV l = 0 := by
  unfold Wl.firstV
  rw [F.segs]
  cases P0 <;> rfl
theorem fit_end (F : Fit s l 0 P0) : Wl.endV l = (cntP P0 : Nat) := by
  unfold Wl.endV
  rw [fit_first F, F.recs, cnt_flat]
  omega
theorem fit_seg (F : Fit s l 0 P0) {i : Nat} (h : i < P0.length) : segI l i = (((cntP (P0.take i) : Nat) : Int), ((codeV (P0.getD i partD).1).length : Int)) := by
  unfold segI
  rw [F.segs, segsV_get P0 0 i h, Int.zero_add]
theorem fit_shN (F : Fit s l 0 P0) (hi : St.Inv s) (i : Nat) : shN l i off ≤ 16777216 := by
  have h1 : shN l i off ≤ sizeV l.recs := sizeV_sub _ _ _
  have h2 : sizeV l.recs = total s.fs := by rw [sizeV_code, F.recs, F.fs, total_files]
  have := hi.tot
  have := hi.room
  omega
theorem fit_shR (F : Fit s l 0 P0) {i : Nat} (h : i < P0.length) (h1 : ((cntP (P0.take i) : Nat) : Int) ≤ off) (h2 : off ≤ (cntP (P0.take i) + (P0.getD i partD).1.length : Nat)) :
    shR l i off = (P0.getD i partD).1.take (off - cntP (P0.take i)).toNat := by
  have er : l.recs = recsP P0 := F.recs
  have ea : shA l i = cntP (P0.take i) := by unfold shA; rw [fit_first F, fit_seg F h]; simp
  have ez : shZ l off = off.toNat := by unfold shZ; rw [fit_first F]; simp
  unfold shR
  rw [ea, ez, er, ← cut_recs_eq h h1 h2]
  unfold cutP
  rw [recsP_app]
  have hl : (recsP (P0.take i)).length = cntP (P0.take i) := recsP_len _
  rw [List.drop_append, hl, List.drop_of_length_le (l := recsP (P0.take i)) (by rw [hl]; exact Nat.le_refl _)]
  simp [recsP]
/-- shorten on the last of the parts that stay. -/
theorem short_fit (F : Fit s l 0 P0) {i : Nat} (h : i < P0.length) (h1 : ((cntP (P0.take i) : Nat) : Int) ≤ off) (h2 : off ≤ (cntP (P0.take i) + (P0.getD i partD).1.length : Nat))
    (s1 : S) (hf : s1.fs = filesV 0 (P0.take (i + 1))) (hi1 : St.Inv s1) (ho : s1.off = false) :
    (shE s1 l i off = 0 ∧ ∃ j, shS s1 l i off = { s1 with fs := filesV 0 (cutP P0 i off), fuse := s1.fuse - j } ∧ (s1.fuse = 0 ∨ j < s1.fuse)) ∨ (shE s1 l i off = 11 ∧ s1.fuse ≠ 0 ∧ shS s1 l i off = crash { s1 with fuse := 0 } s1.keep) := by
  have hN : shN l i off = (codeV ((P0.getD i partD).1.take (off - cntP (P0.take i)).toNat)).length := by unfold shN; rw [fit_shR F h h1 h2, sizeV_code]
  have hsg := fit_seg F h
  have hf2 : s1.fs = filesV 0 (P0.take i ++ [P0.getD i partD]) := by rw [hf, part_take h]
  have hfc : filesV 0 (cutP P0 i off) = filesV 0 (P0.take i) ++ [⟨nmS (cntP (P0.take i) : Nat), codeV ((P0.getD i partD).1.take (off - cntP (P0.take i)).toNat), min (P0.getD i partD).2 (codeV ((P0.getD i partD).1.take (off - cntP (P0.take i)).toNat)).length⟩] := by
    unfold cutP
    rw [filesV_snoc, Int.zero_add]
  have hf3 : s1.fs = filesV 0 (P0.take i) ++ [⟨nmS (cntP (P0.take i) : Nat), codeV (P0.getD i partD).1, (P0.getD i partD).2⟩] := by rw [hf2, filesV_snoc, Int.zero_add]
  have hct := codeV_take (P0.getD i partD).1 (off - cntP (P0.take i)).toNat
  unfold shE shS
  rw [hsg, hN]
  simp only
  generalize (P0.getD i partD).1.take (off - cntP (P0.take i)).toNat = tk at *
  generalize P0.getD i partD = p at *
  generalize P0.take i = A at *
  by_cases hz : ((codeV tk).length : Int) = ((codeV p.1).length : Int)
  · rw [if_pos hz, if_pos hz]
    have hz' : (codeV tk).length = (codeV p.1).length := by omega
    have hc : codeV tk = codeV p.1 := by rw [← hct, hz', List.take_length]
    refine .inl ⟨rfl, 0, ?_, by omega⟩
    have hsu : p.2 ≤ (codeV p.1).length := hi1.sure ⟨nmS (cntP A : Nat), codeV p.1, p.2⟩ (by rw [hf3]; simp)
    have e : filesV 0 (cutP P0 i off) = s1.fs := by rw [hfc, hf3, hc, Nat.min_eq_left hsu]
    rw [e, Nat.sub_zero]
  · rw [if_neg hz, if_neg hz]
    have hle : (codeV tk).length ≤ (codeV p.1).length := by
      have := congrArg List.length hct
      rw [List.length_take] at this
      omega
    obtain ⟨_, hfd⟩ := sorted_del_last hf2 hi1.sorted
    have hfn := fnd_ok ho hfd
    have hE : cutE s1 (nmS (cntP A : Nat)) ((codeV tk).length : Nat) = 0 := by
      unfold cutE
      rw [hfn, if_neg (by simp), (file_mem hfd).1, if_neg]
      show ¬ (((codeV tk).length : Int) < 0 ∨ ((codeV p.1).length : Int) < ((codeV tk).length : Int))
      omega
    have hL : cutL s1 (nmS (cntP A : Nat)) (codeV tk).length = filesV 0 (cutP P0 i off) := by
      unfold cutL
      rw [(file_mem hfd).1, hfc]
      show put ⟨nmS (cntP A : Nat), (codeV p.1).take (codeV tk).length, min p.2 (codeV tk).length⟩ s1.fs = _
      rw [hct]
      have hso := hi1.sorted
      rw [hf3] at hso ⊢
      exact put_mid (f' := ⟨nmS (cntP A : Nat), codeV tk, min p.2 (codeV tk).length⟩) hso rfl
    rw [hE, hL]
    by_cases hfz : s1.fuse = 1
    · obtain ⟨e1, e2⟩ := act_blow (filesV 0 (cutP P0 i off)) hfz
      exact .inr ⟨e1, by omega, e2⟩
    · obtain ⟨e1, e2⟩ := act_go (filesV 0 (cutP P0 i off)) hfz
      exact .inl ⟨e1, 1, e2, by omega⟩
theorem cntP_take_le : ∀ (P : List Part) (a b : Nat), a ≤ b → cntP (P.take a) ≤ cntP (P.take b)
  | [], _, _, _ => by simp
  | p :: r, 0, b, _ => by simp [cntP]
  | p :: r, a + 1, 0, h => by omega
  | p :: r, a + 1, b + 1, h => by
    rw [List.take_succ_cons, List.take_succ_cons]
    have := cntP_take_le r a b (by omega)
    show p.1.length + _ ≤ p.1.length + _
    omega
/-- What Cut makes of a log whose segments are the store's files. -/
def CutOk (s : S) (l : Wl.L) (P0 : List Part) (off : Int) : Prop :=
  (lcutE s l off = 0 ∧ ∃ i, i < P0.length ∧ ((cntP (P0.take i) : Nat) : Int) ≤ off ∧ off ≤ (cntP (P0.take i) + (P0.getD i partD).1.length : Nat) ∧
    (∃ j, lcutS s l off = { s with fs := filesV 0 (cutP P0 i off), fuse := s.fuse - j } ∧ (s.fuse = 0 ∨ j < s.fuse)) ∧ lcutL s l off = ⟨l.most, segsV 0 (cutP P0 i off), recsP (cutP P0 i off), min l.sure off⟩) ∨
  (lcutE s l off = 11 ∧ s.fuse ≠ 0 ∧ lcutL s l off = l ∧ ∃ m, off ≤ (cntP (P0.take m) : Nat) ∧ m ≤ P0.length ∧ lcutS s l off = crash { s with fs := filesV 0 (P0.take m), fuse := 0 } s.keep)
theorem cut_fit (F : Fit s l 0 P0) (hi : St.Inv s) (ho : s.off = false) (o0 : 0 ≤ off) (o1 : off < (cntP P0 : Nat)) : CutOk s l P0 off := by
  have hP : 0 < P0.length := by
    rcases Nat.eq_zero_or_pos P0.length with h | h
    · have := List.eq_nil_of_length_eq_zero h
      subst this
      simp [cntP] at o1
      omega
    · exact h
  have hsl : l.segs.length = P0.length := by rw [F.segs, segsV_len]
  have hD : DropOk P0 off P0.length s (cutD s l off) := by
    unfold cutD
    rw [hsl]
    exact dropC_fit F.segs P0.length s hP (Nat.le_refl _) (by rw [List.take_length]; exact F.fs) hi.sorted ho
  obtain ⟨d1, d2, d3, d4⟩ := hD
  generalize hcd : cutD s l off = d at *
  obtain ⟨m, s1, e⟩ := d
  simp only at d1 d2 d3 d4
  obtain ⟨i, rfl⟩ : ∃ i, m = i + 1 := ⟨m - 1, by omega⟩
  have hil : i < P0.length := by omega
  have hadd : cntP (P0.take (i + 1)) = cntP (P0.take i) + (P0.getD i partD).1.length := by rw [part_take hil, cntP_snoc]
  have h2 : off ≤ (cntP (P0.take i) + (P0.getD i partD).1.length : Nat) := by
    rw [← hadd]
    by_cases he : i + 1 = P0.length
    · rw [he, List.take_length]; omega
    · exact d3 (i + 1) (Nat.le_refl _) (by omega)
  rcases d4 with ⟨rfl, h1, rfl, hz⟩ | ⟨rfl, hz, rfl⟩
  · have h1' : ((cntP (P0.take i) : Nat) : Int) ≤ off := by
      have : ((cntP (P0.take (i + 1 - 1)) : Nat) : Int) ≤ max off 0 := h1
      rw [Nat.add_sub_cancel] at this
      omega
    have hinv1 : St.Inv { s with fs := filesV 0 (P0.take (i + 1)), fuse := s.fuse - (P0.length - (i + 1)) } := by
      have hap : s.fs = filesV 0 (P0.take (i + 1)) ++ filesV (0 + cntP (P0.take (i + 1))) (P0.drop (i + 1)) := by
        rw [← filesV_app, List.take_append_drop]; exact F.fs
      have hsub : ∀ f ∈ filesV 0 (P0.take (i + 1)), f ∈ s.fs := fun f hf => by rw [hap]; exact List.mem_append_left _ hf
      have hso := hi.sorted
      have hto := hi.tot
      have hcn := hi.count
      rw [hap] at hso hto hcn
      rw [total_app] at hto
      rw [List.length_append] at hcn
      refine ⟨(sorted_app hso).1, fun f hf => hi.names f (hsub f hf), fun f hf => hi.sure f (hsub f hf), by show total (filesV 0 (P0.take (i + 1))) ≤ s.room; omega, hi.room, by show (filesV 0 (P0.take (i + 1))).length ≤ 64; omega, by show s.fuse - _ ≤ _; have := hi.fuse; omega, hi.keepl⟩
    have hcd1 : (cutD s l off).1 = i + 1 := by rw [hcd]
    have hcd2 : (cutD s l off).2.1 = { s with fs := filesV 0 (P0.take (i + 1)), fuse := s.fuse - (P0.length - (i + 1)) } := by rw [hcd]
    have hcd3 : (cutD s l off).2.2 = 0 := by rw [hcd]
    have hE : lcutE s l off = shE { s with fs := filesV 0 (P0.take (i + 1)), fuse := s.fuse - (P0.length - (i + 1)) } l i off := by
      unfold lcutE; rw [hcd3, if_neg (by simp), hcd1, hcd2]; rfl
    have hS : lcutS s l off = shS { s with fs := filesV 0 (P0.take (i + 1)), fuse := s.fuse - (P0.length - (i + 1)) } l i off := by
      unfold lcutS; rw [hcd3, if_neg (by simp), hcd1, hcd2]; rfl
    rcases short_fit F hil h1' h2 _ rfl hinv1 ho with ⟨a1, j, a2, a3⟩ | ⟨a1, a2, a3⟩
    · refine .inl ⟨by rw [hE, a1], i, hil, h1', h2, ⟨P0.length - (i + 1) + j, ?_, ?_⟩, ?_⟩
      · rw [hS, a2]
        have : s.fuse - (P0.length - (i + 1)) - j = s.fuse - (P0.length - (i + 1) + j) := by omega
        show ({ s with fs := filesV 0 (cutP P0 i off), fuse := s.fuse - (P0.length - (i + 1)) - j } : S) = _
        rw [this]
      · have a3 : s.fuse - (P0.length - (i + 1)) = 0 ∨ j < s.fuse - (P0.length - (i + 1)) := a3
        omega
      · unfold lcutL cutLg
        rw [if_pos (by rw [hE, a1]), hcd1]
        have er : l.recs.take (shZ l off) = recsP (cutP P0 i off) := by
          rw [cut_recs_eq hil h1' h2]
          have : shZ l off = off.toNat := by unfold shZ; rw [fit_first F]; simp
          rw [this]
          have : l.recs = recsP P0 := F.recs
          rw [this]
        have es : (l.segs.set (i + 1 - 1) ((segI l (i + 1 - 1)).1, (shN l (i + 1 - 1) off : Int))).take (i + 1) = segsV 0 (cutP P0 i off) := by
          rw [Nat.add_sub_cancel, fit_seg F hil, F.segs]
          have hN : shN l i off = (codeV ((P0.getD i partD).1.take (off - cntP (P0.take i)).toNat)).length := by unfold shN; rw [fit_shR F hil h1' h2, sizeV_code]
          rw [hN]
          have e1 : segsV 0 P0 = segsV 0 (P0.take i) ++ segsV (0 + cntP (P0.take i)) (P0.drop i) := by rw [← segsV_app, List.take_append_drop]
          have hla : (segsV 0 (P0.take i)).length = i := by rw [segsV_len, List.length_take]; omega
          have e2 : P0.drop i = P0.getD i partD :: P0.drop (i + 1) := by
            rw [List.drop_eq_getElem_cons hil, List.getD_eq_getElem?_getD, List.getElem?_eq_getElem hil]; rfl
          rw [e1, List.set_append_right _ _ (by omega), hla, Nat.sub_self, e2]
          unfold cutP
          rw [segsV_snoc, List.take_append, hla, List.take_of_length_le (by omega)]
          rw [show i + 1 - i = 1 by omega]
          simp [segsV]
        rw [es, er]
    · have a2 : s.fuse - (P0.length - (i + 1)) ≠ 0 := a2
      refine .inr ⟨by rw [hE, a1], by omega, ?_, i + 1, by rw [hadd]; exact h2, by omega, by rw [hS, a3]⟩
      unfold lcutL
      rw [if_neg (by rw [hE, a1]; decide)]
  · have hcd2 : (cutD s l off).2.1 = crash { s with fs := filesV 0 (P0.take (i + 1)), fuse := 0 } s.keep := by rw [hcd]
    have hcd3 : (cutD s l off).2.2 = 11 := by rw [hcd]
    have hE : lcutE s l off = 11 := by unfold lcutE; rw [hcd3, if_pos (by decide)]
    refine .inr ⟨hE, hz, ?_, i + 1, by rw [hadd]; exact h2, by omega, ?_⟩
    · unfold lcutL
      rw [if_neg (by rw [hE]; decide)]
    · unfold lcutS
      rw [hcd3, if_pos (by decide), hcd2]
end
end Go.Proofs.YtdbhicifjljjnaaGreatDoor
/-
  Cut, and an append that is too long, on a live log.
-/
namespace Go.Proofs.YtdbhicifjljjnaaGreatDoor
open Go.RowKit St
theorem append_long {w0 w : World} {T Lb : Nat} {most : Int} {rs : List Fr.Rc} {su : Int} {G : List (Nat × Obj)} (h : LiveAt w0 w T Lb most rs su G) (ep : Int) (e0 : 0 ≤ ep) (e1 : ep ≤ 1048575) (he : epR rs ≤ ep) (A : Option Addr) (n cap : Nat) (hl : 1024 < n) :
    Calls Tryz.prog 9 #[.pointer (some ⟨Lb, 0, none⟩), .int .i64 ep, .slice A n cap] w fun e w' => StE 0 14 e ∧ Hid (LiveAt w0 w' T Lb most rs su G) := by
  obtain ⟨s, l, P, sa, sc, ra, rc, H, L, LS, LM⟩ := h
  have hEp : Wl.epochV l ≤ ep := by
    have : Wl.epochV l = epR rs := by unfold Wl.epochV epR; rw [L.recs]
    rw [this]; exact he
  have hf := L.few
  refine (lappend_big H ep e0 e1 hEp (by rw [L.end_]; omega) A n cap hl).mono ?_
  rintro e w' ⟨h1, h2⟩
  exact ⟨h1, Lib.hid ⟨s, l, P, sa, sc, ra, rc, h2.out, L, LS, LM⟩⟩
theorem cutP_ne {P0 : List Part} {i : Nat} {off : Int} (h : i < P0.length) (hne : ∀ q ∈ P0.dropLast, q.1 ≠ []) : ∀ q ∈ (cutP P0 i off).dropLast, q.1 ≠ [] := by
  unfold cutP
  rw [List.dropLast_concat]
  intro q hq
  refine hne q ?_
  rw [List.dropLast_eq_take]
  have e : P0.take i = (P0.take (P0.length - 1)).take i := by rw [List.take_take, Nat.min_eq_left (by omega)]
  rw [e] at hq
  exact List.mem_of_mem_take hq
theorem cut_live {w0 w : World} {T Lb : Nat} {most : Int} {rs : List Fr.Rc} {G : List (Nat × Obj)} (h : LiveAt w0 w T Lb most rs 0 G) (hF : Facts w0) (off : Int) (o0 : 0 ≤ off) (o1 : off ≤ rs.length) :
    Calls Tryz.prog 13 #[.pointer (some ⟨Lb, 0, none⟩), .int .i64 off] w fun e w' => RetI 0 e ∧ Hid (LiveAt w0 w' T Lb most (rs.take off.toNat) 0 G) := by
  obtain ⟨s, l, P, sa, sc, ra, rc, H, L, LS, LM⟩ := h
  by_cases he : off = rs.length
  · refine (lcut_end H L.on off (by rw [he, L.end_])).mono ?_
    rintro e w' ⟨h1, h2⟩
    have : rs.take off.toNat = rs := by rw [he]; simp
    rw [this]
    exact ⟨h1, Lib.hid ⟨s, l, P, sa, sc, ra, rc, h2.out, L, LS, LM⟩⟩
  · have hc : cntP P = rs.length := L.cnt
    have hsl : l.segs.length = P.length := by rw [L.fit.segs, segsV_len]
    refine (lcut_in H hF L.on off (by rw [fit_first L.fit]; exact o0) (by rw [L.end_]; omega) (fun i hi => ?_) (fun i _ => fit_shN L.fit H.inv.1 i)).mono ?_
    · rw [hsl] at hi
      rw [fit_first L.fit, fit_seg L.fit hi]
      show (0 : Int) ≤ ((cntP (P.take i) : Nat) : Int)
      omega
    rintro e w' ⟨h1, h2⟩
    rcases cut_fit L.fit H.inv.1 L.on o0 (by omega) with ⟨c1, i, c2, c3, c4, ⟨j, c5, c6⟩, c7⟩ | ⟨_, c2, _⟩
    · rw [c1] at h1
      have h2 := h2.out
      rw [c5, c7] at h2
      have hr : recsP (cutP P i off) = rs.take off.toNat := by
        rw [cut_recs_eq c2 c3 c4]
        have : recsP P = rs := by rw [← L.recs]; exact L.fit.recs.symm
        rw [this]
      refine ⟨h1, Lib.hid ⟨_, _, cutP P i off, _, _, _, _, h2, ⟨⟨rfl, rfl, rfl, cutP_ne c2 L.fit.ne, Int.le_refl _⟩, hr, L.on, by show s.fuse - j = 0; rw [L.fuse]; omega, L.room, fun r hr => L.pay r (List.mem_of_mem_take hr), by have := L.few; rw [List.length_take]; omega⟩, ?_, LM⟩⟩
      show min l.sure off = 0
      rw [LS]; omega
    · exact absurd L.fuse c2
end Go.Proofs.YtdbhicifjljjnaaGreatDoor
/-
  Files of which a crash has left first parts: what Open reads from them.
-/
namespace Go.Proofs.YtdbhicifjljjnaaGreatDoor
open Go.RowKit Go.Lib St
/-- How many records stand whole in the first n bytes. -/
def whole : List Fr.Rc → Nat → Nat
  | [], _ => 0
  | r :: t, n => if 16 + r.2.length ≤ n then whole t (n - (16 + r.2.length)) + 1 else 0
theorem codeV_cons (r : Fr.Rc) (t : List Fr.Rc) : codeV (r :: t) = Fr.putV r.1 r.2 ++ codeV t := rfl
theorem whole_le : ∀ (rs : List Fr.Rc) (n : Nat), whole rs n ≤ rs.length ∧ (codeV (rs.take (whole rs n))).length ≤ n
  | [], n => by simp [whole, codeV]
  | r :: t, n => by
    unfold whole
    split
    · next h =>
      obtain ⟨h1, h2⟩ := whole_le t (n - (16 + r.2.length))
      rw [List.take_succ_cons, codeV_cons, List.length_append, Fr.putV_len, List.length_cons]
      omega
    · simp [codeV]
theorem whole_ge : ∀ (rs : List Fr.Rc) (n j : Nat), j ≤ rs.length → (codeV (rs.take j)).length ≤ n → j ≤ whole rs n
  | [], n, j, h, _ => by simp at h; omega
  | r :: t, n, 0, _, _ => Nat.zero_le _
  | r :: t, n, j + 1, h, h2 => by
    rw [List.take_succ_cons, codeV_cons, List.length_append, Fr.putV_len] at h2
    rw [List.length_cons] at h
    unfold whole
    rw [if_pos (by omega)]
    have := whole_ge t (n - (16 + r.2.length)) j (by omega) (by omega)
    omega
theorem whole_lt {rs : List Fr.Rc} {n : Nat} (h : n < (codeV rs).length) : whole rs n < rs.length := by
  obtain ⟨h1, h2⟩ := whole_le rs n
  rcases Nat.eq_or_lt_of_le h1 with e | e
  · rw [e, List.take_length] at h2; omega
  · exact e
theorem scan_torn : ∀ (rs : List Fr.Rc) (f ep : Int) (n : Nat), Chain f ep rs → Sg.scV ((codeV rs).take n) f ep = (rs.take (whole rs n), (codeV (rs.take (whole rs n))).length)
  | [], f, ep, n, _ => by
    have e : (codeV []).take n = [] := by simp [codeV]
    rw [e, Sg.scV_bad fun h => by have := Sg.okS_len h; simp at this]
    simp [whole, codeV]
  | r :: t, f, ep, n, ⟨h1, h2, h3, h4, h5, h6⟩ => by
    unfold whole
    have hl := Fr.putV_len r.1 r.2
    rw [codeV_cons, List.take_append]
    by_cases h : 16 + r.2.length ≤ n
    · rw [if_pos h, List.take_of_length_le (l := Fr.putV r.1 r.2) (by omega), Sg.scV_put r.1 r.2 _ f ep h3 h4 h5, if_pos ⟨h1, h2⟩, hl, scan_torn t (f + 1) _ _ h6, List.take_succ_cons, codeV_cons, List.length_append, hl]
    · rw [if_neg h]
      have h0 : n - (Fr.putV r.1 r.2).length = 0 := by omega
      rw [h0, List.take_zero, List.append_nil, Sg.scV_bad fun ho => by
        have := ho.1
        rw [Fr.get_cut r.1 r.2 n h5 (by omega)] at this
        cases this]
      simp [codeV]
/-- The files of parts of which only so many bytes are left, all of them durable. -/
def filesC : Int → List Part → List F
  | _, [] => []
  | f, p :: r => ⟨nmS f, (codeV p.1).take p.2, p.2⟩ :: filesC (f + p.1.length) r
theorem filesC_names : ∀ (f : Int) (C : List Part), (filesC f C).map F.nm = (filesV f C).map F.nm
  | _, [] => rfl
  | f, p :: r => by show _ :: (filesC _ r).map F.nm = _ :: (filesV _ r).map F.nm; rw [filesC_names _ r]
/-- What a crash leaves. -/
def Left : List Part → List Part → Prop
  | [], [] => True
  | p :: r, c :: t => c.1 = p.1 ∧ p.2 ≤ c.2 ∧ c.2 ≤ (codeV p.1).length ∧ Left r t
  | _, _ => False
theorem crash_left : ∀ (f : Int) (P : List Part) (ks : List Int), (∀ p ∈ P, p.2 ≤ (codeV p.1).length) → ∃ C, crashL (filesV f P) ks = filesC f C ∧ Left P C
  | _, [], _, _ => ⟨[], rfl, trivial⟩
  | f, p :: r, ks, h => by
    have hp := h p (by simp)
    show ∃ C, crashL (⟨nmS f, codeV p.1, p.2⟩ :: filesV (f + p.1.length) r) ks = _ ∧ _
    unfold crashL
    by_cases he : p.2 = (codeV p.1).length
    · rw [if_pos he]
      obtain ⟨C, h1, h2⟩ := crash_left (f + p.1.length) r ks fun q hq => h q (by simp [hq])
      refine ⟨p :: C, ?_, rfl, Nat.le_refl _, hp, h2⟩
      rw [h1]
      show _ = ⟨nmS f, (codeV p.1).take p.2, p.2⟩ :: filesC (f + p.1.length) C
      rw [he, List.take_length]
    · rw [if_neg he]
      obtain ⟨C, h1, h2⟩ := crash_left (f + p.1.length) r ks.tail fun q hq => h q (by simp [hq])
      refine ⟨(p.1, p.2 + min (ks.headD 0).toNat ((codeV p.1).length - p.2)) :: C, ?_, rfl, ?_, ?_, h2⟩
      · rw [h1]; rfl
      · show p.2 ≤ p.2 + _; omega
      · show p.2 + _ ≤ _; omega
theorem left_parts : ∀ {P C : List Part}, Left P C → C.map (·.1) = P.map (·.1) ∧ (∀ c ∈ C, c.2 ≤ (codeV c.1).length)
  | [], [], _ => ⟨rfl, fun c hc => by cases hc⟩
  | p :: r, c :: t, ⟨h1, h2, h3, h4⟩ => by
    obtain ⟨i1, i2⟩ := left_parts h4
    refine ⟨by rw [List.map_cons, List.map_cons, i1, h1], fun x hx => ?_⟩
    rcases List.mem_cons.1 hx with e | hx
    · subst e; rw [h1]; exact h3
    · exact i2 x hx
theorem cntP_map {P C : List Part} (h : C.map (·.1) = P.map (·.1)) : cntP C = cntP P := by
  rw [← cnt_flat, ← cnt_flat, h]
/-- The first k records are durable. -/
def Dur : List Part → Nat → Prop
  | [], _ => True
  | p :: r, k => (codeV (p.1.take k)).length ≤ p.2 ∧ Dur r (k - p.1.length)
theorem dur_left : ∀ {P C : List Part} {k : Nat}, Left P C → Dur P k → Dur C k
  | [], [], _, _, _ => trivial
  | p :: r, c :: t, k, ⟨h1, h2, h3, h4⟩, ⟨d1, d2⟩ => by
    refine ⟨?_, ?_⟩
    · rw [h1]; omega
    · rw [h1]; exact dur_left h4 d2
/-- What Open makes of the parts. -/
def tornP : List Part → List Part
  | [] => []
  | c :: r => if c.2 = (codeV c.1).length then c :: tornP r else [(c.1.take (whole c.1 c.2), (codeV (c.1.take (whole c.1 c.2))).length)]
theorem torn_recs : ∀ (C : List Part), recsP (tornP C) = (recsP C).take (cntP (tornP C)) ∧ cntP (tornP C) ≤ cntP C
  | [] => ⟨rfl, Nat.le_refl _⟩
  | c :: r => by
    have e : recsP (c :: r) = c.1 ++ recsP r := rfl
    unfold tornP
    split
    · obtain ⟨h1, h2⟩ := torn_recs r
      have e2 : recsP (c :: tornP r) = c.1 ++ recsP (tornP r) := rfl
      have e3 : cntP (c :: tornP r) = c.1.length + cntP (tornP r) := rfl
      have e4 : cntP (c :: r) = c.1.length + cntP r := rfl
      rw [e2, e3, e4, e, h1, List.take_append]
      refine ⟨?_, by omega⟩
      rw [List.take_of_length_le (l := c.1) (by omega), Nat.add_sub_cancel_left]
    · have hw := (whole_le c.1 c.2).1
      have e3 : cntP [(c.1.take (whole c.1 c.2), (codeV (c.1.take (whole c.1 c.2))).length)] = whole c.1 c.2 := by
        show (c.1.take _).length + 0 = _
        rw [List.length_take]; omega
      have e4 : cntP (c :: r) = c.1.length + cntP r := rfl
      rw [e3, e4, e, List.take_append]
      have h0 : whole c.1 c.2 - c.1.length = 0 := by omega
      rw [h0, List.take_zero]
      exact ⟨by simp [recsP], by omega⟩
theorem torn_dur : ∀ {C : List Part} {k : Nat}, (∀ c ∈ C, c.2 ≤ (codeV c.1).length) → Dur C k → k ≤ cntP C → k ≤ cntP (tornP C)
  | [], _, _, _, h => h
  | c :: r, k, hc, ⟨d1, d2⟩, h => by
    have e4 : cntP (c :: r) = c.1.length + cntP r := rfl
    rw [e4] at h
    unfold tornP
    split
    · have ih := torn_dur (fun x hx => hc x (by simp [hx])) d2 (by omega)
      show k ≤ c.1.length + cntP (tornP r)
      omega
    · next hne =>
      have hlt : c.2 < (codeV c.1).length := Nat.lt_of_le_of_ne (hc c (by simp)) hne
      have hk : k < c.1.length := by
        rcases Nat.lt_or_ge k c.1.length with h1 | h1
        · exact h1
        · rw [List.take_of_length_le h1] at d1; omega
      have := whole_ge c.1 c.2 k (by omega) d1
      show k ≤ (c.1.take _).length + 0
      rw [List.length_take]; omega
theorem torn_ne : ∀ {C : List Part}, (∀ c ∈ C.dropLast, c.1 ≠ []) → ∀ c ∈ (tornP C).dropLast, c.1 ≠ []
  | [], _ => fun c hc => by cases hc
  | c :: r, h => by
    unfold tornP
    split
    · intro x hx
      cases ht : tornP r with
      | nil => rw [ht] at hx; cases hx
      | cons a t =>
        rw [ht] at hx
        simp only [List.dropLast_cons_cons, List.mem_cons] at hx
        rcases hx with e | hx
        · subst e
          refine (ne_tail h).1 fun e => ?_
          rw [e] at ht; cases ht
        · exact torn_ne (ne_tail h).2 x (by rw [ht]; exact hx)
    · intro x hx; cases hx
theorem torn_full (C : List Part) : ∀ c ∈ tornP C, c.2 = (codeV c.1).length := by
  induction C with
  | nil => intro c hc; cases hc
  | cons a r ih =>
    unfold tornP
    split
    · next h =>
      intro c hc
      rcases List.mem_cons.1 hc with e | hc
      · subst e; exact h
      · exact ih c hc
    · intro c hc
      rw [List.mem_singleton.1 hc]
end Go.Proofs.YtdbhicifjljjnaaGreatDoor
/-
  Open on files of which a crash has left first parts.
-/
namespace Go.Proofs.YtdbhicifjljjnaaGreatDoor
open Go.RowKit Go.Lib St
theorem filesC_cons (f : Int) (p : Part) (r : List Part) : filesC f (p :: r) = ⟨nmS f, (codeV p.1).take p.2, p.2⟩ :: filesC (f + p.1.length) r := rfl
theorem total_filesV (f : Int) (P : List Part) : total (filesV f P) = (codeV (recsP P)).length := total_files f P
/-- A file in the midst, read. -/
theorem read_mid {s : S} {A B : List F} {f : Int} {zs : List Int} {n : Nat} (hs : s.fs = A ++ ⟨nmS f, zs, n⟩ :: B) (hso : Sorted s.fs) (ho : s.off = false) :
    readE s (nmS f) = 0 ∧ readL s (nmS f) = zs ∧ find (nmS f) s.fs = some ⟨nmS f, zs, n⟩ := by
  have hf : find (nmS f) s.fs = some ⟨nmS f, zs, n⟩ := find_mem (f := ⟨nmS f, zs, n⟩) hso (by rw [hs]; simp)
  have hE : readE s (nmS f) = 0 := fnd_ok ho hf
  refine ⟨hE, ?_, hf⟩
  unfold readL
  rw [if_neg (by rw [hE]; simp), (file_mem hf).1]
/-- What load has made when it stops: the parts, and what is left to be removed. -/
def LoadedT (most : Int) (s : S) (P0 C : List Part) (R : S × Wl.L × List Int) : Prop :=
  ∃ (Cr : List Part) (fr : Int), R.2.1 = logP most 0 (P0 ++ tornP C) ∧ R.2.2 = firsts fr Cr ∧ R.1 = { s with fs := filesV 0 (P0 ++ tornP C) ++ filesC fr Cr } ∧ Sorted (filesV 0 (P0 ++ tornP C) ++ filesC fr Cr) ∧ 0 ≤ fr ∧ fr + cntP Cr ≤ 1000
set_option maxHeartbeats 2000000 in
theorem load_torn (most : Int) (m0 : 64 ≤ most) (m1 : most ≤ 1048576) : ∀ (C P0 : List Part) (s : S), s.fs = filesV 0 P0 ++ filesC (cntP P0) C → Sorted s.fs → s.off = false → s.fuse = 0 → (∀ p ∈ (P0 ++ C).dropLast, p.1 ≠ []) → (∀ c ∈ C, c.2 ≤ (codeV c.1).length) →
    cntP P0 + cntP C ≤ 1000 → (codeV (recsP (P0 ++ C))).length ≤ 16777216 → Chain 0 0 (recsP (P0 ++ C)) →
    LoadedT most s P0 C (loadF (firsts (cntP P0) C) s (logP most 0 P0) true) ∧ okF (firsts (cntP P0) C) s (logP most 0 P0) true
  | [], P0, s, hs, hso, ho, hz, hne, hc, hn, ht, hch => by
    refine ⟨⟨[], 0, by simp [tornP]; rfl, rfl, ?_, ?_, Int.le_refl _, by show (0 : Int) + ((0 : Nat) : Int) ≤ 1000; omega⟩, trivial⟩
    · show s = _
      have : filesV 0 (P0 ++ tornP []) ++ filesC 0 [] = s.fs := by rw [hs]; simp [tornP, filesC]
      rw [this]
    · have : filesV 0 (P0 ++ tornP []) ++ filesC 0 [] = s.fs := by rw [hs]; simp [tornP, filesC]
      rw [this]; exact hso
  | c :: r, P0, s, hs, hso, ho, hz, hne, hc, hn, ht, hch => by
    have hcb := hc c (by simp)
    have hcn : cntP (c :: r) = c.1.length + cntP r := rfl
    rw [hcn] at hn
    rw [filesC_cons] at hs
    obtain ⟨hE, hL, hfd⟩ := read_mid hs hso ho
    have hch2 := hch
    rw [recsP_app, chain_app, recsP_len] at hch2
    have hq : recsP (c :: r) = c.1 ++ recsP r := rfl
    have hchp := hch2.2
    rw [hq, chain_app, Int.zero_add] at hchp
    have hZ : ldZ s (cntP P0) = (codeV c.1).take c.2 := hL
    have hsc : Sg.scV (ldZ s (cntP P0)) (cntP P0) (Wl.epochV (logP most 0 P0)) = (c.1.take (whole c.1 c.2), (codeV (c.1.take (whole c.1 c.2))).length) := by
      rw [hZ, epoch_logP]; exact scan_torn c.1 _ _ _ hchp.1
    have hw := whole_le c.1 c.2
    have hN : ldN s (logP most 0 P0) (cntP P0) = (codeV (c.1.take (whole c.1 c.2))).length := by unfold ldN; rw [hsc]
    have hR : ldR s (logP most 0 P0) (cntP P0) = c.1.take (whole c.1 c.2) := by unfold ldR; rw [hsc]
    have hZl : (ldZ s (cntP P0)).length = c.2 := by rw [hZ, List.length_take]; omega
    have hct := codeV_take c.1 (whole c.1 c.2)
    have hdz : ((P0 ++ c :: r).dropLast) = P0 ++ (c :: r).dropLast := List.dropLast_append_of_ne_nil (by simp)
    -- the part as it is kept
    obtain ⟨q, hq1⟩ : ∃ q : Part, q = (c.1.take (whole c.1 c.2), (codeV (c.1.take (whole c.1 c.2))).length) := ⟨_, rfl⟩
    have hql : q.1.length = whole c.1 c.2 := by rw [hq1]; show (c.1.take _).length = _; rw [List.length_take]; omega
    have hl1 : ldL1 s (logP most 0 P0) (cntP P0) = { logP most 0 (P0 ++ [q]) with recs := recsP P0 } := by
      unfold ldL1
      rw [hN]
      show (⟨most, segsV 0 P0 ++ [(((cntP P0 : Nat) : Int), _)], recsP P0, 0⟩ : Wl.L) = ⟨most, segsV 0 (P0 ++ [q]), recsP P0, 0⟩
      rw [segsV_snoc, Int.zero_add, hq1]
    have hrs : recsP (P0 ++ [q]) = recsP P0 ++ q.1 := by rw [recsP_app]; simp [recsP]
    have hl2 : ldL s (logP most 0 P0) (cntP P0) = logP most 0 (P0 ++ [q]) := by
      unfold ldL
      rw [hR, hl1]
      unfold logP
      rw [hrs, hq1]
    have hch3 : Chain 0 0 (recsP (P0 ++ [q])) := by
      rw [hrs, chain_app, recsP_len, Int.zero_add]
      refine ⟨hch2.1, ?_⟩
      have h1 := hchp.1
      have e : c.1 = q.1 ++ c.1.drop (whole c.1 c.2) := by rw [hq1]; exact (List.take_append_drop _ _).symm
      rw [e, chain_app] at h1
      exact h1.1
    have htq : (codeV (recsP (P0 ++ [q]))).length ≤ 16777216 := by
      have e : recsP (P0 ++ c :: r) = recsP P0 ++ (c.1 ++ recsP r) := by rw [recsP_app]; rfl
      rw [e, codeV_app, List.length_append, codeV_app, List.length_append] at ht
      rw [hrs, codeV_app, List.length_append]
      have e2 : (codeV q.1).length ≤ (codeV c.1).length := by rw [hq1]; show (codeV (c.1.take _)).length ≤ _; omega
      omega
    have hcnq : cntP (P0 ++ [q]) = cntP P0 + whole c.1 c.2 := by rw [cntP_snoc, hql]
    have hi2 : Wl.Inv (logP most 0 (P0 ++ [q])) := by
      refine logP_inv most 0 _ m0 m1 (Int.le_refl _) (by omega) (by omega) (fun x hx => hne x ?_) (by rw [total_filesV]; exact htq) hch3
      rw [List.dropLast_concat] at hx
      rw [hdz]; exact List.mem_append_left _ hx
    have hi1 : Wl.Inv { logP most 0 (P0 ++ [q]) with recs := recsP P0 } := by
      have h := hi2
      have e : logP most 0 (P0 ++ [q]) = { logP most 0 (P0 ++ [q]) with recs := recsP P0 ++ q.1 } := by unfold logP; rw [hrs]
      rw [e] at h
      refine inv_fewer (l := logP most 0 (P0 ++ [q])) h ?_
      show segsV 0 (P0 ++ [q]) ≠ []
      rw [segsV_snoc]; simp
    have hcond : (true = true) ∧ ((logP most 0 P0).segs.length = 0 ∨ ((cntP P0 : Nat) : Int) = Wl.endV (logP most 0 P0)) := by
      refine ⟨rfl, ?_⟩
      by_cases hP : P0 = []
      · left; subst hP; rfl
      · right; rw [end_logP most 0 P0 hP]; omega
    have hbig : (ldZ s (cntP P0)).length ≤ 16777216 := by
      rw [hZl]
      have e : recsP (P0 ++ c :: r) = recsP P0 ++ (c.1 ++ recsP r) := by rw [recsP_app]; rfl
      rw [e, codeV_app, List.length_append, codeV_app, List.length_append] at ht
      omega
    rw [firsts_cons]
    by_cases hfull : c.2 = (codeV c.1).length
    · -- whole: on with the next
      have hwl : whole c.1 c.2 = c.1.length := by
        have h1 := whole_ge c.1 c.2 c.1.length (Nat.le_refl _) (by rw [List.take_length]; omega)
        omega
      have hqc : q = c := by
        rw [hq1, hwl, List.take_length, ← hfull]
      have hNf : ldN s (logP most 0 P0) (cntP P0) = (ldZ s (cntP P0)).length := by rw [hN, hwl, List.take_length, hZl, hfull]
      have hSs : ldS s (logP most 0 P0) (cntP P0) = s := by unfold ldS; rw [hNf, if_neg (by omega)]
      have hEe : ldE s (logP most 0 P0) (cntP P0) = 0 := by unfold ldE; rw [hNf, if_neg (by omega)]
      have hfl : P0 ++ c :: r = (P0 ++ [c]) ++ r := by simp
      rw [hqc] at hl1 hl2 hi1 hi2
      have hnx : ((cntP P0 : Nat) : Int) + (c.1.length : Int) = ((cntP (P0 ++ [c]) : Nat) : Int) := by rw [cntP_snoc]; omega
      have hs2 : s.fs = filesV 0 (P0 ++ [c]) ++ filesC (cntP (P0 ++ [c]) : Nat) r := by
        rw [hs, filesV_snoc, Int.zero_add, ← hnx, List.append_assoc, hfull, List.take_length]; rfl
      have ih := load_torn most m0 m1 r (P0 ++ [c]) s hs2 hso ho hz (by rw [← hfl]; exact hne) (fun x hx => hc x (by simp [hx])) (by rw [cntP_snoc]; omega) (by rw [← hfl]; exact ht) (by rw [← hfl]; exact hch)
      have hd : decide (ldN s (logP most 0 P0) (cntP P0) = (ldZ s (cntP P0)).length) = true := by simpa using hNf
      have htp : tornP (c :: r) = c :: tornP r := by rw [tornP, if_pos hfull]
      rw [hnx]
      constructor
      · rw [loadF, if_pos hcond, hSs, hl2, hd]
        obtain ⟨Cr, fr, h1, h2, h3, h4, h5⟩ := ih.1
        have e : P0 ++ tornP (c :: r) = (P0 ++ [c]) ++ tornP r := by rw [htp]; simp
        exact ⟨Cr, fr, by rw [e]; exact h1, h2, by rw [e]; exact h3, by rw [e]; exact h4, h5⟩
      · rw [okF, if_pos hcond, hSs, hl2, hd, hl1]
        exact ⟨⟨by omega, by omega, hE, hbig, hi1, hi2, hEe⟩, ih.2⟩
    · -- torn: it is cut to its whole records, and nothing behind it is read
      have hlt : c.2 < (codeV c.1).length := Nat.lt_of_le_of_ne hcb hfull
      have hwlt := whole_lt hlt
      have htp : tornP (c :: r) = [q] := by unfold tornP; rw [if_neg hfull, hq1]
      have hfq : filesV 0 (P0 ++ [q]) = filesV 0 P0 ++ [⟨nmS (cntP P0 : Nat), codeV q.1, q.2⟩] := by rw [filesV_snoc, Int.zero_add]
      have hq2 : q.2 = (codeV q.1).length := by rw [hq1]
      have hq2le : q.2 ≤ c.2 := by rw [hq1]; exact hw.2
      have htake : ((codeV c.1).take c.2).take q.2 = codeV q.1 := by
        rw [List.take_take, Nat.min_eq_left hq2le, hq1]; exact hct
      have hNq : ldN s (logP most 0 P0) (cntP P0) = q.2 := by rw [hN, hq1]
      have key : ldS s (logP most 0 P0) (cntP P0) = { s with fs := filesV 0 (P0 ++ [q]) ++ filesC ((cntP P0 : Nat) + c.1.length) r } ∧ ldE s (logP most 0 P0) (cntP P0) = 0 ∧ Sorted (filesV 0 (P0 ++ [q]) ++ filesC ((cntP P0 : Nat) + c.1.length) r) := by
        have hsort : Sorted (filesV 0 P0 ++ ⟨nmS (cntP P0 : Nat), codeV q.1, q.2⟩ :: filesC ((cntP P0 : Nat) + c.1.length) r) := by
          refine sorted_names hso ?_
          rw [hs]; simp
        have efs : filesV 0 (P0 ++ [q]) ++ filesC ((cntP P0 : Nat) + c.1.length) r = filesV 0 P0 ++ ⟨nmS (cntP P0 : Nat), codeV q.1, q.2⟩ :: filesC ((cntP P0 : Nat) + c.1.length) r := by rw [hfq]; simp
        rw [efs]
        refine ⟨?_, ?_, hsort⟩
        · unfold ldS
          rw [hNq, hZl]
          by_cases hlt2 : q.2 < c.2
          · rw [if_pos hlt2]
            have hcE : cutE s (nmS (cntP P0 : Nat)) (q.2 : Nat) = 0 := by
              unfold cutE
              rw [fnd_ok ho hfd, if_neg (by simp), (file_mem hfd).1, if_neg]
              show ¬ ((q.2 : Int) < 0 ∨ (((codeV c.1).take c.2).length : Int) < (q.2 : Int))
              rw [List.length_take]
              omega
            rw [hcE, (act_go _ (by rw [hz]; decide)).2]
            unfold cutL
            rw [(file_mem hfd).1]
            show ({ s with fs := put ⟨nmS (cntP P0 : Nat), ((codeV c.1).take c.2).take q.2, min c.2 q.2⟩ s.fs, fuse := s.fuse - 1 } : S) = _
            rw [htake, Nat.min_eq_right (by omega), hz]
            have hso2 := hso
            rw [hs] at hso2 ⊢
            rw [put_mid (f' := ⟨nmS (cntP P0 : Nat), codeV q.1, q.2⟩) hso2 rfl, ← hz]
            cases s; simp_all
          · rw [if_neg hlt2]
            have e : q.2 = c.2 := by omega
            have e2 : (codeV c.1).take c.2 = codeV q.1 := by rw [← htake, e, List.take_take, Nat.min_self]
            rw [← e2, e, ← hs]
        · unfold ldE
          rw [hNq, hZl]
          by_cases hlt2 : q.2 < c.2
          · rw [if_pos hlt2]
            have hcE : cutE s (nmS (cntP P0 : Nat)) (q.2 : Nat) = 0 := by
              unfold cutE
              rw [fnd_ok ho hfd, if_neg (by simp), (file_mem hfd).1, if_neg]
              show ¬ ((q.2 : Int) < 0 ∨ (((codeV c.1).take c.2).length : Int) < (q.2 : Int))
              rw [List.length_take]
              omega
            rw [hcE, (act_go (s := s) s.fs (by rw [hz]; decide)).1]
          · rw [if_neg hlt2]
      obtain ⟨k1, k2, k3⟩ := key
      have hstop : ∀ (b : Bool) (s' : S), loadF (firsts ((cntP P0 : Nat) + c.1.length) r) s' (logP most 0 (P0 ++ [q])) b = (s', logP most 0 (P0 ++ [q]), firsts ((cntP P0 : Nat) + c.1.length) r) ∧ okF (firsts ((cntP P0 : Nat) + c.1.length) r) s' (logP most 0 (P0 ++ [q])) b := fun b s' => by
        cases r with
        | nil => exact ⟨rfl, trivial⟩
        | cons a t =>
          have hnot : ¬ (b = true ∧ ((logP most 0 (P0 ++ [q])).segs.length = 0 ∨ ((cntP P0 : Nat) : Int) + c.1.length = Wl.endV (logP most 0 (P0 ++ [q])))) := by
            rintro ⟨_, h | h⟩
            · have e : (segsV 0 (P0 ++ [q])).length = 0 := h
              rw [segsV_len] at e; simp at e
            · rw [end_logP most 0 _ (by simp), hcnq] at h
              omega
          rw [firsts_cons]
          constructor
          · rw [loadF, if_neg hnot]
          · rw [okF, if_neg hnot]; trivial
      constructor
      · rw [loadF, if_pos hcond, k1, hl2, (hstop _ _).1]
        rw [LoadedT, htp]
        exact ⟨r, (cntP P0 : Nat) + c.1.length, rfl, rfl, rfl, k3, by omega, by omega⟩
      · rw [okF, if_pos hcond, k1, hl2, hl1]
        exact ⟨⟨by omega, by omega, hE, hbig, hi1, hi2, k2⟩, (hstop _ _).2⟩
theorem drop_rest : ∀ (C : List Part) (f : Int) (A : List F) (s : S), s.fs = A ++ filesC f C → Sorted s.fs → s.off = false → s.fuse = 0 → 0 ≤ f → f + cntP C ≤ 1000 → dropF (firsts f C) s = { s with fs := A } ∧ okD (firsts f C) s
  | [], f, A, s, hs, _, _, _, _, _ => by
    refine ⟨?_, trivial⟩
    show s = _
    have e : s.fs = A := by rw [hs]; simp [filesC]
    rw [← e]
  | c :: r, f, A, s, hs, hso, ho, hz, f0, hn => by
    have hcn : cntP (c :: r) = c.1.length + cntP r := rfl
    rw [hcn] at hn
    rw [filesC_cons] at hs
    obtain ⟨_, _, hfd⟩ := read_mid hs hso ho
    have hfn := fnd_ok ho hfd
    have hdl : del (nmS f) s.fs = A ++ filesC (f + c.1.length) r := by
      have h2 := hso
      rw [hs] at h2 ⊢
      exact del_mid (f := ⟨nmS f, (codeV c.1).take c.2, c.2⟩) h2
    obtain ⟨a1, a2⟩ := act_go (s := s) (del (nmS f) s.fs) (by rw [hz]; decide)
    have hS : actS s (fnd s (nmS f) [nmS f]) (del (nmS f) s.fs) = { s with fs := A ++ filesC (f + c.1.length) r } := by
      rw [hfn, a2, hdl, hz]
    have hs2 : Sorted (A ++ filesC (f + c.1.length) r) := by
      rw [← hdl]; exact sorted_del hso
    have ih := drop_rest r (f + c.1.length) A { s with fs := A ++ filesC (f + c.1.length) r } rfl hs2 ho hz (by omega) (by omega)
    rw [firsts_cons]
    constructor
    · rw [dropF, hS]; exact ih.1
    · rw [okD, hS, hfn]
      exact ⟨⟨by omega, by omega, a1⟩, ih.2⟩
/-- Open on what a crash has left. -/
theorem reopen_torn (most : Int) (m0 : 64 ≤ most) (m1 : most ≤ 1048576) (s : S) (C : List Part) (hso : Sorted s.fs) (ho : s.off = false) (hz : s.fuse = 0) (hs : s.fs = filesC 0 C) (hne : ∀ p ∈ C.dropLast, p.1 ≠ []) (hc : ∀ c ∈ C, c.2 ≤ (codeV c.1).length) (hn : cntP C ≤ 1000) (ht : (codeV (recsP C)).length ≤ 16777216) (hch : Chain 0 0 (recsP C)) :
    OpOk s most ∧ opL s most = { logP most 0 (tornP C) with sure := Wl.endV (logP most 0 (tornP C)) } ∧ opS s most = { s with fs := filesV 0 (fullP (tornP C)) } := by
  have hnm : namesV s = (firsts 0 C).map Sg.nameB := by unfold namesV; rw [hs, filesC_names, names_files]
  have hpk : pickV (namesV s) = firsts 0 C := by rw [hnm]; exact pick_files 0 C (Int.le_refl _) (by omega) hne
  have hpc := part_count C hne
  have hld := load_torn most m0 m1 C [] s (by rw [hs]; rfl) hso ho hz hne hc (by show 0 + cntP C ≤ 1000; omega) ht hch
  rw [show ((cntP [] : Nat) : Int) = 0 from rfl, logP_nil] at hld
  obtain ⟨⟨Cr, fr, h1, h2, h3, h4, h5, h6⟩, hok⟩ := hld
  rw [List.nil_append] at h1 h3 h4
  have hR : opR s most = loadF (firsts 0 C) s (newL most) true := by unfold opR; rw [hpk]
  have hdr := drop_rest Cr fr (filesV 0 (tornP C)) { s with fs := filesV 0 (tornP C) ++ filesC fr Cr } rfl h4 ho hz h5 h6
  have hS1 : opS1 s most = { s with fs := filesV 0 (tornP C) } := by unfold opS1; rw [hR, h2, h3]; exact hdr.1
  have hL1 : opL1 s most = logP most 0 (tornP C) := by unfold opL1; rw [hR, h1]
  have hsy := sync_all (tornP C) 0 [] { s with fs := filesV 0 (tornP C) } rfl (sorted_app h4).1 ho hz
  refine ⟨⟨m0, m1, ho, ?_, ?_, ?_, ?_, ?_, ?_, ?_⟩, ?_, ?_⟩
  · rw [hnm, List.length_map, firsts_len]; omega
  · intro k hk
    rw [hnm] at hk ⊢
    rw [List.getD_eq_getElem?_getD, List.getElem?_eq_getElem hk]
    show (((firsts 0 C).map Sg.nameB)[k]).size ≤ _
    rw [List.getElem_map, Sg.nameB_size]; decide
  · intro i hi
    rw [hpk] at hi ⊢
    rw [List.getD_eq_getElem?_getD, List.getElem?_eq_getElem hi]
    have := firsts_bd 0 C _ (List.getElem_mem hi)
    show _ ≤ (firsts 0 C)[i] ∧ (firsts 0 C)[i] ≤ _
    omega
  · rw [hpk, firsts_len]; omega
  · rw [hpk]; exact hok
  · rw [hR, h2, h3]; exact hdr.2
  · rw [hL1, hS1]; exact hsy.1
  · unfold opL; rw [hL1]
  · unfold opS; rw [hL1, hS1]; exact hsy.2
end Go.Proofs.YtdbhicifjljjnaaGreatDoor
/-
  A log on a store under a fuse, in plain words: alive, or dead with what the crash has left.
-/
namespace Go.Proofs.YtdbhicifjljjnaaGreatDoor
open Go.RowKit Go.Lib St
structure Fz (s : S) (l : Wl.L) (P : List Part) (rs : List Fr.Rc) (k : Nat) : Prop where
  fit : Fit s l 0 P
  recs : l.recs = rs
  on : s.off = false
  room : s.room = 65536
  pay : ∀ r ∈ rs, r.2.length ≤ 1024
  few : rs.length ≤ 30
  sure : l.sure = k
  dur : Dur P k
  le : k ≤ rs.length
/-- The power is off (or on again); of the records rs, of which k were durable, first parts are left. -/
structure Dead (s : S) (C : List Part) (rs : List Fr.Rc) (k : Nat) (off : Bool) : Prop where
  fs : s.fs = filesC 0 C
  ne : ∀ p ∈ C.dropLast, p.1 ≠ []
  le2 : ∀ c ∈ C, c.2 ≤ (codeV c.1).length
  recs : recsP C = rs
  off : s.off = off
  fuse : s.fuse = 0
  room : s.room = 65536
  pay : ∀ r ∈ rs, r.2.length ≤ 1024
  few : rs.length ≤ 30
  dur : Dur C k
  le : k ≤ rs.length
theorem dur_le : ∀ {P : List Part} {a b : Nat}, a ≤ b → Dur P b → Dur P a
  | [], _, _, _, _ => trivial
  | p :: r, a, b, h, ⟨d1, d2⟩ => by
    refine ⟨?_, dur_le (by omega) d2⟩
    have e : codeV (p.1.take b) = codeV ((p.1.take b).take a) ++ codeV ((p.1.take b).drop a) := by rw [← codeV_app, List.take_append_drop]
    rw [List.take_take, Nat.min_eq_left h] at e
    have := congrArg List.length e
    rw [List.length_append] at this
    omega
theorem dur_app : ∀ {A B : List Part} {k : Nat}, Dur (A ++ B) k ↔ Dur A k ∧ Dur B (k - cntP A)
  | [], B, k => by
    show Dur B k ↔ True ∧ Dur B (k - 0)
    simp
  | p :: r, B, k => by
    have ih := dur_app (A := r) (B := B) (k := k - p.1.length)
    have e : k - cntP (p :: r) = k - p.1.length - cntP r := by show k - (p.1.length + cntP r) = _; omega
    rw [e]
    show _ ∧ Dur (r ++ B) _ ↔ (_ ∧ Dur r _) ∧ _
    rw [ih, and_assoc]
theorem dur_zero : ∀ (P : List Part), Dur P 0
  | [] => trivial
  | p :: r => ⟨by simp [codeV], by rw [Nat.zero_sub]; exact dur_zero r⟩
theorem code_take_le (rs : List Fr.Rc) (k : Nat) : (codeV (rs.take k)).length ≤ (codeV rs).length := by
  have e : codeV rs = codeV (rs.take k) ++ codeV (rs.drop k) := by rw [← codeV_app, List.take_append_drop]
  have := congrArg List.length e
  rw [List.length_append] at this
  omega
theorem dur_full : ∀ {P : List Part}, (∀ p ∈ P, p.2 = (codeV p.1).length) → ∀ k, Dur P k
  | [], _, _ => trivial
  | p :: r, h, k => ⟨by rw [h p (by simp)]; exact code_take_le _ _, dur_full (fun q hq => h q (by simp [hq])) _⟩
theorem full_full (P : List Part) : ∀ p ∈ fullP P, p.2 = (codeV p.1).length := fun p hp => by
  obtain ⟨q, _, rfl⟩ := List.mem_map.1 hp
  rfl
theorem left_refl : ∀ {P : List Part}, (∀ p ∈ P, p.2 ≤ (codeV p.1).length) → Left P P
  | [], _ => trivial
  | p :: r, h => ⟨rfl, Nat.le_refl _, h p (by simp), left_refl fun q hq => h q (by simp [hq])⟩
theorem left_fullP : ∀ {P : List Part}, (∀ p ∈ P, p.2 ≤ (codeV p.1).length) → Left P (fullP P)
  | [], _ => trivial
  | p :: r, h => ⟨rfl, h p (by simp), Nat.le_refl _, left_fullP fun q hq => h q (by simp [hq])⟩
theorem left_app : ∀ {A A' B B' : List Part}, Left A A' → Left B B' → Left (A ++ B) (A' ++ B')
  | [], [], _, _, _, h => h
  | _ :: _, _ :: _, _, _, ⟨h1, h2, h3, h4⟩, h => ⟨h1, h2, h3, left_app h4 h⟩
theorem left_trans : ∀ {A B C : List Part}, Left A B → Left B C → Left A C
  | [], [], [], _, _ => trivial
  | _ :: _, _ :: _, _ :: _, ⟨h1, h2, h3, h4⟩, ⟨k1, k2, k3, k4⟩ => ⟨k1.trans h1, Nat.le_trans h2 k2, by rw [h1] at k3; exact k3, left_trans h4 k4⟩
theorem ne_left : ∀ {P C : List Part}, Left P C → (∀ p ∈ P.dropLast, p.1 ≠ []) → ∀ c ∈ C.dropLast, c.1 ≠ [] := fun {P C} h hne => by
  have e := (left_parts h).1
  intro c hc
  have h1 : c.1 ∈ (C.map (·.1)).dropLast := by rw [← List.map_dropLast]; exact List.mem_map.2 ⟨c, hc, rfl⟩
  rw [e, ← List.map_dropLast] at h1
  obtain ⟨p, hp, e2⟩ := List.mem_map.1 h1
  rw [← e2]; exact hne p hp
theorem files_sure {P : List Part} {s : S} (hi : St.Inv s) (hf : s.fs = filesV 0 P) : ∀ p ∈ P, p.2 ≤ (codeV p.1).length := by
  have key : ∀ (f : Int) (P : List Part), (∀ x ∈ filesV f P, x.sure ≤ x.zs.length) → ∀ p ∈ P, p.2 ≤ (codeV p.1).length := by
    intro f P
    induction P generalizing f with
    | nil => intro _ p hp; cases hp
    | cons q r ih =>
      intro h p hp
      rcases List.mem_cons.1 hp with e | hp
      · subst e; exact h ⟨nmS f, codeV p.1, p.2⟩ (by simp [filesV])
      · exact ih (f + q.1.length) (fun x hx => h x (by simp [filesV, hx])) p hp
  exact key 0 P (by rw [← hf]; exact hi.sure)
/-- A crash of a store of parts. -/
theorem crash_dead {s : S} {P : List Part} {rs : List Fr.Rc} {k : Nat} (hf : s.fs = filesV 0 P) (hsu : ∀ p ∈ P, p.2 ≤ (codeV p.1).length) (ho : s.off = false) (hrm : s.room = 65536) (hne : ∀ p ∈ P.dropLast, p.1 ≠ []) (hr : recsP P = rs) (hp : ∀ r ∈ rs, r.2.length ≤ 1024) (hfew : rs.length ≤ 30) (hd : Dur P k) (hk : k ≤ rs.length) (ks : List Int) :
    ∃ C, Dead (crash s ks) C rs k true := by
  obtain ⟨C, h1, h2⟩ := crash_left 0 P ks hsu
  obtain ⟨c1, c2⟩ := left_parts h2
  refine ⟨C, ?_, ne_left h2 hne, c2, ?_, ?_, ?_, ?_, hp, hfew, dur_left h2 hd, hk⟩
  · unfold crash
    rw [if_neg (by rw [ho]; simp)]
    show crashL s.fs ks = _
    rw [hf, h1]
  · unfold recsP; rw [c1]; exact hr
  · unfold crash; rw [if_neg (by rw [ho]; simp)]
  · unfold crash; rw [if_neg (by rw [ho]; simp)]
  · unfold crash; rw [if_neg (by rw [ho]; simp)]; exact hrm
theorem Fz.rec_parts {s : S} {l : Wl.L} {P : List Part} {rs : List Fr.Rc} {k : Nat} (h : Fz s l P rs k) : recsP P = rs := by rw [← h.recs]; exact h.fit.recs.symm
theorem Fz.fallen {s : S} {l : Wl.L} {P : List Part} {rs : List Fr.Rc} {k : Nat} (h : Fz s l P rs k) (hi : St.Inv s) (ks : List Int) : ∃ C, Dead (crash s ks) C rs k true :=
  crash_dead h.fit.fs (files_sure hi h.fit.fs) h.on h.room h.fit.ne h.rec_parts h.pay h.few h.dur h.le ks
theorem Fz.blown {s : S} {l : Wl.L} {P : List Part} {rs : List Fr.Rc} {k : Nat} (h : Fz s l P rs k) (hi : St.Inv s) : ∃ C, Dead (crash { s with fuse := 0 } s.keep) C rs k true :=
  crash_dead (s := { s with fuse := 0 }) h.fit.fs (files_sure hi h.fit.fs) h.on h.room h.fit.ne h.rec_parts h.pay h.few h.dur h.le _
theorem Fz.live {s : S} {l : Wl.L} {P : List Part} {rs : List Fr.Rc} {k : Nat} (h : Fz s l P rs k) : Live { s with fuse := 0 } l P rs :=
  ⟨⟨h.fit.fs, h.fit.segs, h.fit.recs, h.fit.ne, h.fit.f0⟩, h.recs, h.on, rfl, h.room, h.pay, h.few⟩
theorem dur_push {P : List Part} {k : Nat} {r : Fr.Rc} (h : Dur P k) (hk : k ≤ cntP P) : Dur (P ++ [([r], 0)]) k := by
  rw [dur_app]
  refine ⟨h, ?_⟩
  have e : k - cntP P = 0 := by omega
  rw [e]
  exact dur_zero _
theorem dur_more {P : List Part} {p : Part} {k : Nat} {r : Fr.Rc} (h : Dur (P ++ [p]) k) (hk : k ≤ cntP (P ++ [p])) : Dur (P ++ [(p.1 ++ [r], p.2)]) k := by
  rw [cntP_snoc] at hk
  rw [dur_app] at h ⊢
  refine ⟨h.1, ?_, trivial⟩
  have := h.2.1
  rw [List.take_append_of_le_length (by omega)]
  exact this
/-- A record written under a fuse. -/
theorem Fz.write {s : S} {l : Wl.L} {P : List Part} {rs : List Fr.Rc} {k : Nat} (h : Fz s l P rs k) (hi : St.Inv s) (hl : Wl.Inv l) (r : Fr.Rc) (ha : 0 ≤ r.1 ∧ r.1 < 18446744073709551616) (hp : r.2.length ≤ 1024) (hfew : rs.length < 30) :
    (writeE s l (Wl.endV l) (Fr.putV r.1 r.2) = 0 ∧ Wl.Inv (writeL s l (Wl.endV l) (Fr.putV r.1 r.2)) ∧ Wl.Inv (pushL (writeL s l (Wl.endV l) (Fr.putV r.1 r.2)) r) ∧ ∃ P', Fz (writeS s l (Wl.endV l) (Fr.putV r.1 r.2)) (pushL (writeL s l (Wl.endV l) (Fr.putV r.1 r.2)) r) P' (rs ++ [r]) k) ∨
    (writeE s l (Wl.endV l) (Fr.putV r.1 r.2) = 11 ∧ ∃ C, Dead (writeS s l (Wl.endV l) (Fr.putV r.1 r.2)) C rs k true) := by
  have L := h.live
  have hi0 : St.Inv { s with fuse := 0 } := ⟨hi.sorted, hi.names, hi.sure, hi.tot, hi.room, hi.count, Nat.zero_le _, hi.keepl⟩
  obtain ⟨w1, w2, w3, _⟩ := L.write hi0 hl r ha hp hfew
  have hcl : (Fr.putV r.1 r.2).length ≤ 1040 := by rw [Fr.putV_len]; omega
  have hr := L.spare hcl
  have hcn : cntP P = rs.length := L.cnt
  -- the parts behind it
  have hkey : ∃ P', Fit (writeS { s with fuse := 0 } l (Wl.endV l) (Fr.putV r.1 r.2)) (pushL (writeL { s with fuse := 0 } l (Wl.endV l) (Fr.putV r.1 r.2)) r) 0 P' ∧ writeS { s with fuse := 0 } l (Wl.endV l) (Fr.putV r.1 r.2) = { { s with fuse := 0 } with fs := filesV 0 P' } ∧ Dur P' k := by
    by_cases hn : l.segs.length = 0 ∨ l.most ≤ (lastG l.segs).2
    · have he : Wl.endV l = 0 + (cntP P : Int) := by rw [L.end_, hcn]; omega
      have hf := L.few
      rw [he]
      obtain ⟨_, a2, a3⟩ := L.fit.write_new r hn hr (by omega) (by have := hl.most; omega)
      exact ⟨_, a2, a3, dur_push h.dur (by rw [hcn]; exact h.le)⟩
    · obtain ⟨P0, p, rfl⟩ : ∃ P0 p, P = P0 ++ [p] := by
        rcases List.eq_nil_or_concat P with e | ⟨a, b, e⟩
        · exfalso; apply hn; left; rw [L.fit.segs, e]; rfl
        · exact ⟨a, b, by rw [e]; simp⟩
      obtain ⟨_, a2, a3⟩ := L.fit.write_old hi0 r (fun hh => hn (.inr hh)) hr (Wl.endV l)
      exact ⟨_, a2, a3, dur_more h.dur (by rw [hcn]; exact h.le)⟩
  obtain ⟨P', f1, f2, f3⟩ := hkey
  have hap : appE { s with fuse := 0 } (nmS (lastG (wrG l (Wl.endV l))).1) (Fr.putV r.1 r.2).length = 0 := hr.app _
  have hapS : appE s (nmS (lastG (wrG l (Wl.endV l))).1) (Fr.putV r.1 r.2).length = 0 := hap
  have hfs : appL s (nmS (lastG (wrG l (Wl.endV l))).1) (Fr.putV r.1 r.2) = filesV 0 P' := by
    have e := f2
    unfold writeS at e
    rw [hap, (act_go (s := { s with fuse := 0 }) _ (by show (0 : Nat) ≠ 1; decide)).2] at e
    exact congrArg S.fs e
  by_cases hz : s.fuse = 1
  · right
    obtain ⟨b1, b2⟩ := act_blow (appL s (nmS (lastG (wrG l (Wl.endV l))).1) (Fr.putV r.1 r.2)) hz
    refine ⟨by unfold writeE; rw [hapS]; exact b1, ?_⟩
    have e : writeS s l (Wl.endV l) (Fr.putV r.1 r.2) = crash { s with fuse := 0 } s.keep := by unfold writeS; rw [hapS]; exact b2
    rw [e]
    exact h.blown hi
  · left
    obtain ⟨b1, b2⟩ := act_go (appL s (nmS (lastG (wrG l (Wl.endV l))).1) (Fr.putV r.1 r.2)) hz
    have hE : writeE s l (Wl.endV l) (Fr.putV r.1 r.2) = 0 := by unfold writeE; rw [hapS]; exact b1
    have hS : writeS s l (Wl.endV l) (Fr.putV r.1 r.2) = { s with fs := filesV 0 P', fuse := s.fuse - 1 } := by unfold writeS; rw [hapS, b2, hfs]
    have hL : writeL s l (Wl.endV l) (Fr.putV r.1 r.2) = writeL { s with fuse := 0 } l (Wl.endV l) (Fr.putV r.1 r.2) := by unfold writeL; rw [hE, w1]
    refine ⟨hE, by rw [hL]; exact w2, by rw [hL]; exact w3, P', ?_⟩
    rw [hS, hL]
    refine ⟨⟨rfl, f1.segs, f1.recs, f1.ne, f1.f0⟩, ?_, h.on, h.room, fun x hx => ?_, by simp; omega, ?_, f3, by simp; have := h.le; omega⟩
    · show (writeL _ _ _ _).recs ++ [r] = _
      rw [writeL_recs, h.recs]
    · rcases List.mem_append.1 hx with hx | hx
      · exact h.pay x hx
      · rw [List.mem_singleton.1 hx]; exact hp
    · show (writeL _ _ _ _).sure = _
      rw [writeL_sure]; exact h.sure
end Go.Proofs.YtdbhicifjljjnaaGreatDoor
/-
  Sync and Cut under a fuse, in plain words.
-/
namespace Go.Proofs.YtdbhicifjljjnaaGreatDoor
open Go.RowKit Go.Lib St
theorem last_true (p : Nat → Prop) [DecidablePred p] : ∀ n, 0 < n → p 0 → ∃ j, j < n ∧ p j ∧ ∀ i, j < i → i < n → ¬ p i
  | 0, h, _ => by omega
  | 1, _, h0 => ⟨0, by omega, h0, fun i h1 h2 => by omega⟩
  | n + 2, _, h0 => by
    by_cases h : p (n + 1)
    · exact ⟨n + 1, by omega, h, fun i h1 h2 => by omega⟩
    · obtain ⟨j, h1, h2, h3⟩ := last_true p (n + 1) (by omega) h0
      refine ⟨j, by omega, h2, fun i h4 h5 => ?_⟩
      by_cases he : i = n + 1
      · subst he; exact h
      · exact h3 i h4 (by omega)
/-- The segments made durable one after another, till the fuse ends. -/
def SyncOk (pre : List F) (f : Int) (P : List Part) (s : S) : Prop :=
  (syncE (segsV f P) s = 0 ∧ ∃ j, syncS (segsV f P) s = { s with fs := pre ++ filesV f (fullP P), fuse := j }) ∨
  (syncE (segsV f P) s = 11 ∧ ∃ P1 P2, P = P1 ++ P2 ∧ syncS (segsV f P) s = crash { s with fs := pre ++ filesV f (fullP P1 ++ P2), fuse := 0 } s.keep)
theorem sync_fuse : ∀ (P : List Part) (f : Int) (pre : List F) (s : S), s.fs = pre ++ filesV f P → Sorted s.fs → s.off = false → SyncOk pre f P s
  | [], f, pre, s, hf, _, _ => .inl ⟨rfl, s.fuse, by show s = _; have : s.fs = pre ++ filesV f (fullP []) := hf; rw [← this]⟩
  | p :: r, f, pre, s, hf, hs, ho => by
    have hf' : s.fs = pre ++ ⟨nmS f, codeV p.1, p.2⟩ :: filesV (f + p.1.length) r := hf
    have hso : Sorted (pre ++ ⟨nmS f, codeV p.1, p.2⟩ :: filesV (f + p.1.length) r) := by rw [← hf']; exact hs
    have hfd : find (nmS f) s.fs = some ⟨nmS f, codeV p.1, p.2⟩ := by rw [hf']; exact find_mem (f := ⟨nmS f, codeV p.1, p.2⟩) hso (by simp)
    have hc : chk s [nmS f, nmS f] = 0 := by
      unfold chk
      rw [ho]
      have := good_name f
      simp [nmS, this]
    have hfn : fnd s (nmS f) [nmS f, nmS f] = 0 := by
      unfold fnd
      rw [if_neg (by rw [hc]; simp), hfd]; rfl
    have hsw : swapL s (nmS f) (nmS f) = pre ++ ⟨nmS f, codeV p.1, (codeV p.1).length⟩ :: filesV (f + p.1.length) r := by
      unfold swapL
      rw [(file_mem hfd).1]
      have e : put ⟨nmS f, codeV p.1, (codeV p.1).length⟩ (del (nmS f) s.fs) = put ⟨nmS f, codeV p.1, (codeV p.1).length⟩ s.fs := by
        unfold put
        show ins _ (del (nmS f) (del (nmS f) s.fs)) = ins _ (del (nmS f) s.fs)
        rw [del_idem]
      show put ⟨nmS f, codeV p.1, (codeV p.1).length⟩ (del (nmS f) s.fs) = _
      rw [e, hf', put_mid (f' := ⟨nmS f, codeV p.1, (codeV p.1).length⟩) hso rfl]
    have hE1 : syncE1 f s = actE s 0 := by unfold syncE1; rw [hfn]
    have hS1 : syncS1 f s = actS s 0 (swapL s (nmS f) (nmS f)) := by unfold syncS1; rw [hfn]
    have hun : syncE (segsV f (p :: r)) s = (if syncE1 f s ≠ 0 then syncE1 f s else syncE (segsV (f + p.1.length) r) (syncS1 f s)) ∧ syncS (segsV f (p :: r)) s = (if syncE1 f s ≠ 0 then syncS1 f s else syncS (segsV (f + p.1.length) r) (syncS1 f s)) := ⟨rfl, rfl⟩
    by_cases hz : s.fuse = 1
    · obtain ⟨b1, b2⟩ := act_blow (swapL s (nmS f) (nmS f)) hz
      right
      refine ⟨?_, [], p :: r, rfl, ?_⟩
      · rw [hun.1, hE1, b1]; rfl
      · rw [hun.2, hE1, b1, if_pos (by decide), hS1, b2]
        show crash { s with fuse := 0 } s.keep = crash { s with fs := pre ++ filesV f (p :: r), fuse := 0 } s.keep
        rw [← hf]
    · obtain ⟨b1, b2⟩ := act_go (swapL s (nmS f) (nmS f)) hz
      have hs2 : Sorted (pre ++ ⟨nmS f, codeV p.1, (codeV p.1).length⟩ :: filesV (f + p.1.length) r) := sorted_names hso (by simp)
      have ih := sync_fuse r (f + p.1.length) (pre ++ [⟨nmS f, codeV p.1, (codeV p.1).length⟩]) { s with fs := swapL s (nmS f) (nmS f), fuse := s.fuse - 1 } (by rw [hsw]; simp) (by show Sorted (swapL _ _ _); rw [hsw]; exact hs2) ho
      rcases ih with ⟨i1, j, i2⟩ | ⟨i1, P1, P2, i2, i3⟩
      · left
        refine ⟨?_, j, ?_⟩
        · rw [hun.1, hE1, b1, if_neg (by simp), hS1, b2]; exact i1
        · rw [hun.2, hE1, b1, if_neg (by simp), hS1, b2, i2]
          show ({ s with fs := (pre ++ [_]) ++ filesV _ (fullP r), fuse := j } : S) = { s with fs := pre ++ (_ :: filesV _ (fullP r)), fuse := j }
          rw [List.append_assoc]; rfl
      · right
        refine ⟨?_, p :: P1, P2, by rw [i2]; rfl, ?_⟩
        · rw [hun.1, hE1, b1, if_neg (by simp), hS1, b2]; exact i1
        · rw [hun.2, hE1, b1, if_neg (by simp), hS1, b2, i3]
          show crash { s with fs := (pre ++ [_]) ++ filesV _ (fullP P1 ++ P2), fuse := 0 } s.keep = crash { s with fs := pre ++ (_ :: filesV _ (fullP P1 ++ P2)), fuse := 0 } s.keep
          rw [List.append_assoc]; rfl
theorem dur_ahead : ∀ {P : List Part} {k : Nat} (i : Nat), Dur P k → cntP (P.take i) ≤ k → ∀ n, Dur (P.take i) n
  | [], _, i, _, _, n => by simp; trivial
  | p :: r, k, 0, _, _, n => trivial
  | p :: r, k, i + 1, ⟨d1, d2⟩, h, n => by
    rw [List.take_succ_cons] at h ⊢
    have h' : p.1.length + cntP (r.take i) ≤ k := h
    rw [List.take_of_length_le (by omega)] at d1
    have := code_take_le p.1 n
    exact ⟨by omega, dur_ahead i d2 (by omega) _⟩
/-- Sync under a fuse. -/
theorem Fz.sync {s : S} {l : Wl.L} {P : List Part} {rs : List Fr.Rc} {k : Nat} (h : Fz s l P rs k) (hi : St.Inv s) :
    (l.sure ≠ Wl.endV l → ∃ j, j < l.segs.length ∧ (l.segs.getD j (0, 0)).1 ≤ l.sure) ∧
    ((lsyncE s l = 0 ∧ ∃ P', Fz (lsyncS s l) (lsyncL s l) P' rs rs.length) ∨ (lsyncE s l = 11 ∧ ∃ C, Dead (lsyncS s l) C rs k true)) := by
  have he : Wl.endV l = rs.length := by rw [fit_end h.fit, ← recsP_len, h.rec_parts]
  have hsu := files_sure hi h.fit.fs
  have hcn : cntP P = rs.length := by rw [← recsP_len, h.rec_parts]
  have hP : l.sure ≠ Wl.endV l → 0 < P.length := fun hne => by
    rcases Nat.eq_zero_or_pos P.length with h0 | h0
    · exfalso; apply hne
      rw [List.eq_nil_of_length_eq_zero h0] at hcn
      have := h.le
      have hs := h.sure
      have : cntP [] = 0 := rfl
      rw [he, hs]; omega
    · exact h0
  have hon : ¬ s.off = true := by rw [h.on]; simp
  have hsl : l.segs.length = P.length := by rw [h.fit.segs, segsV_len]
  refine ⟨fun hne => ⟨0, by rw [hsl]; exact hP hne, ?_⟩, ?_⟩
  · have := fit_seg h.fit (hP hne)
    unfold segI at this
    rw [this, h.sure]
    show ((cntP (P.take 0) : Nat) : Int) ≤ k
    have : cntP (P.take 0) = 0 := rfl
    omega
  · by_cases hne : l.sure = Wl.endV l
    · left
      have hE : lsyncE s l = 0 := by unfold lsyncE; rw [if_neg hon, if_pos hne]
      have hS : lsyncS s l = s := by unfold lsyncS; rw [if_neg hon, if_pos hne]
      have hL : lsyncL s l = l := by unfold lsyncL; rw [hE, if_pos rfl, ← hne]
      have hk : k = rs.length := by have := h.sure; rw [he, this] at hne; omega
      refine ⟨hE, P, ?_⟩
      rw [hS, hL, ← hk]
      exact h
    · obtain ⟨j, j1, j2, j3⟩ := last_true (fun i => cntP (P.take i) ≤ k) P.length (hP hne) (by show 0 ≤ k; omega)
      have hj : looseN l.sure l.segs = j := by
        refine loose_at l.sure l.segs j (by rw [hsl]; exact j1) ?_ fun i h1 h2 => ?_
        · have := fit_seg h.fit j1
          unfold segI at this
          rw [this, h.sure]
          show ((cntP (P.take j) : Nat) : Int) ≤ k
          omega
        · rw [hsl] at h2
          have := fit_seg h.fit h2
          unfold segI at this
          rw [this, h.sure]
          have h4 := j3 i h1 h2
          show ¬ ((cntP (P.take i) : Nat) : Int) ≤ k
          omega
      have hdr : l.segs.drop j = segsV (0 + cntP (P.take j)) (P.drop j) := by
        have hla : (segsV 0 (P.take j)).length = j := by rw [segsV_len, List.length_take]; omega
        have e1 : segsV 0 P = segsV 0 (P.take j) ++ segsV (0 + cntP (P.take j)) (P.drop j) := by rw [← segsV_app, List.take_append_drop]
        rw [h.fit.segs, e1, List.drop_append, hla, Nat.sub_self, List.drop_of_length_le (l := segsV 0 (P.take j)) (by omega)]
        rfl
      have hfs : s.fs = filesV 0 (P.take j) ++ filesV (0 + cntP (P.take j)) (P.drop j) := by rw [← filesV_app, List.take_append_drop]; exact h.fit.fs
      have hEq : lsyncE s l = syncE (segsV (0 + cntP (P.take j)) (P.drop j)) s := by unfold lsyncE; rw [if_neg hon, if_neg hne, hj, hdr]
      have hSq : lsyncS s l = syncS (segsV (0 + cntP (P.take j)) (P.drop j)) s := by unfold lsyncS; rw [if_neg hon, if_neg hne, hj, hdr]
      have hsuT : ∀ p ∈ P.take j, p.2 ≤ (codeV p.1).length := fun p hp => hsu p (List.mem_of_mem_take hp)
      have hsuD : ∀ p ∈ P.drop j, p.2 ≤ (codeV p.1).length := fun p hp => hsu p (List.mem_of_mem_drop hp)
      have hsp : P.take j ++ P.drop j = P := List.take_append_drop _ _
      rcases sync_fuse (P.drop j) (0 + cntP (P.take j)) (filesV 0 (P.take j)) s hfs hi.sorted h.on with ⟨i1, q, i2⟩ | ⟨i1, P1, P2, i2, i3⟩
      · left
        refine ⟨by rw [hEq]; exact i1, P.take j ++ fullP (P.drop j), ?_⟩
        have hlf : Left P (P.take j ++ fullP (P.drop j)) := by
          have := left_app (left_refl hsuT) (left_fullP hsuD)
          rwa [hsp] at this
        have hrp : recsP (P.take j ++ fullP (P.drop j)) = rs := by
          have e := (left_parts hlf).1
          unfold recsP
          rw [e]; exact h.rec_parts
        rw [hSq, i2]
        have hLq : lsyncL s l = { l with sure := rs.length } := by unfold lsyncL; rw [hEq, i1, if_pos rfl, he]
        rw [hLq]
        refine ⟨⟨?_, ?_, ?_, ne_left hlf h.fit.ne, Int.le_refl _⟩, h.recs, h.on, h.room, h.pay, h.few, rfl, ?_, Nat.le_refl _⟩
        · show _ = filesV 0 (P.take j ++ fullP (P.drop j))
          rw [filesV_app]
        · show l.segs = _
          rw [h.fit.segs, segsV_app, segsV_full, ← segsV_app, hsp]
        · show l.recs = recsP (P.take j ++ fullP (P.drop j))
          rw [hrp, h.recs]
        · rw [dur_app]
          exact ⟨dur_ahead j h.dur j2 _, dur_full (full_full _) _⟩
      · right
        refine ⟨by rw [hEq]; exact i1, ?_⟩
        have hlf : Left P (P.take j ++ (fullP P1 ++ P2)) := by
          have h2 : Left (P.drop j) (fullP P1 ++ P2) := by
            rw [i2] at hsuD ⊢
            exact left_app (left_fullP fun p hp => hsuD p (by simp [hp])) (left_refl fun p hp => hsuD p (by simp [hp]))
          have := left_app (left_refl hsuT) h2
          rwa [hsp] at this
        obtain ⟨e1, e2⟩ := left_parts hlf
        rw [hSq, i3]
        refine crash_dead (s := { s with fs := filesV 0 (P.take j) ++ filesV (0 + cntP (P.take j)) (fullP P1 ++ P2), fuse := 0 }) (P := P.take j ++ (fullP P1 ++ P2)) ?_ e2 h.on h.room (ne_left hlf h.fit.ne) ?_ h.pay h.few (dur_left hlf h.dur) h.le _
        · exact (filesV_app 0 (P.take j) (fullP P1 ++ P2)).symm
        · unfold recsP; rw [e1]; exact h.rec_parts
theorem ne_take {P : List Part} (m : Nat) (hne : ∀ q ∈ P.dropLast, q.1 ≠ []) : ∀ q ∈ (P.take m).dropLast, q.1 ≠ [] := by
  by_cases h : m < P.length
  · intro q hq
    have h1 : q ∈ P.take m := List.dropLast_subset _ hq
    refine hne q ?_
    rw [List.dropLast_eq_take]
    have e : P.take m = (P.take (P.length - 1)).take m := by rw [List.take_take, Nat.min_eq_left (by omega)]
    rw [e] at h1
    exact List.mem_of_mem_take h1
  · rw [List.take_of_length_le (by omega)]
    exact hne
theorem recs_take_parts (P : List Part) (m : Nat) : recsP (P.take m) = (recsP P).take (cntP (P.take m)) := by
  have e : recsP P = recsP (P.take m) ++ recsP (P.drop m) := by rw [← recsP_app, List.take_append_drop]
  rw [e, ← recsP_len, List.take_append_of_le_length (Nat.le_refl _), List.take_length]
/-- Cut under a fuse. -/
theorem Fz.cut {s : S} {l : Wl.L} {P : List Part} {rs : List Fr.Rc} {k : Nat} {off : Int} (h : Fz s l P rs k) (hi : St.Inv s) (o0 : 0 ≤ off) (o1 : off < rs.length) :
    (lcutE s l off = 0 ∧ ∃ P', Fz (lcutS s l off) (lcutL s l off) P' (rs.take off.toNat) (min k off.toNat)) ∨
    (lcutE s l off = 11 ∧ ∃ C c, Dead (lcutS s l off) C (rs.take c) (min k off.toNat) true) := by
  have hcn : cntP P = rs.length := by rw [← recsP_len, h.rec_parts]
  have hsu := files_sure hi h.fit.fs
  rcases cut_fit h.fit hi h.on o0 (by rw [hcn]; exact o1) with ⟨c1, i, c2, c3, c4, ⟨j, c5, c6⟩, c7⟩ | ⟨c1, c2, c3, m, c4, c5, c6⟩
  · left
    refine ⟨c1, cutP P i off, ?_⟩
    have hr : recsP (cutP P i off) = rs.take off.toNat := by rw [cut_recs_eq c2 c3 c4, h.rec_parts]
    have hlen : (rs.take off.toNat).length = off.toNat := by rw [List.length_take]; omega
    rw [c5, c7]
    refine ⟨⟨rfl, rfl, rfl, cutP_ne c2 h.fit.ne, Int.le_refl _⟩, hr, h.on, h.room, fun r hr => h.pay r (List.mem_of_mem_take hr), by rw [hlen]; have := h.few; omega, ?_, ?_, by rw [hlen]; omega⟩
    · show min l.sure off = ((min k off.toNat : Nat) : Int)
      rw [h.sure]; omega
    · have hd := dur_le (show min k off.toNat ≤ k by omega) h.dur
      have hsp := part_split c2
      rw [hsp, dur_app] at hd
      obtain ⟨d1, d2, _⟩ := hd
      unfold cutP
      rw [dur_app]
      refine ⟨d1, ?_, trivial⟩
      have hk : min k off.toNat - cntP (P.take i) ≤ (off - cntP (P.take i)).toNat := by omega
      show (codeV (((P.getD i partD).1.take (off - cntP (P.take i)).toNat).take (min k off.toNat - cntP (P.take i)))).length ≤ min (P.getD i partD).2 (codeV ((P.getD i partD).1.take (off - cntP (P.take i)).toNat)).length
      have h1 := code_take_le ((P.getD i partD).1.take (off - cntP (P.take i)).toNat) (min k off.toNat - cntP (P.take i))
      rw [List.take_take, Nat.min_eq_left hk] at h1 ⊢
      omega
  · right
    refine ⟨c1, ?_⟩
    have hcm : cntP (P.take m) ≤ rs.length := by
      have := cntP_take_le P m P.length c5
      rw [List.take_length, hcn] at this
      exact this
    have hr : recsP (P.take m) = rs.take (cntP (P.take m)) := by rw [recs_take_parts, h.rec_parts]
    have hlen : (rs.take (cntP (P.take m))).length = cntP (P.take m) := by rw [List.length_take]; omega
    rw [c6]
    have hd : Dur (P.take m) (min k off.toNat) := by
      have hd := dur_le (show min k off.toNat ≤ k by omega) h.dur
      have hsp : P = P.take m ++ P.drop m := (List.take_append_drop _ _).symm
      rw [hsp, dur_app] at hd
      exact hd.1
    obtain ⟨C, hC⟩ := crash_dead (s := { s with fs := filesV 0 (P.take m), fuse := 0 }) (P := P.take m) (rs := rs.take (cntP (P.take m))) (k := min k off.toNat) rfl (fun p hp => hsu p (List.mem_of_mem_take hp)) h.on h.room (ne_take m h.fit.ne) hr (fun r hr => h.pay r (List.mem_of_mem_take hr)) (by rw [hlen]; have := h.few; omega) hd (by rw [hlen]; omega) s.keep
    exact ⟨C, _, hC⟩
end Go.Proofs.YtdbhicifjljjnaaGreatDoor
/-
  A log on a store under a fuse, in memory: Append, Sync, Cut, Fuse, Crash, On, Open.
-/
namespace Go.Proofs.YtdbhicifjljjnaaGreatDoor
open Go.RowKit Go.Lib St
def FzAt (w0 w : World) (T Lb : Nat) (most : Int) (rs : List Fr.Rc) (k : Nat) (G : List (Nat × Obj)) : Prop := ∃ s l P sa sc ra rc, WRun w0 w T Lb s l G sa sc ra rc ∧ Fz s l P rs k ∧ l.most = most
def DdAt (w0 w : World) (T Lb : Nat) (rs : List Fr.Rc) (k : Nat) (off : Bool) (G : List (Nat × Obj)) : Prop := ∃ s l C sa sc ra rc, WRun w0 w T Lb s l G sa sc ra rc ∧ Dead s C rs k off
section
variable {w0 w : World} {T Lb : Nat} {most : Int} {rs : List Fr.Rc} {k : Nat} {G : List (Nat × Obj)} {off : Bool}
theorem FzAt.below (h : FzAt w0 w T Lb most rs k G) : Below w0.heap.size w0 w := by
  obtain ⟨s, l, P, sa, sc, ra, rc, H, _⟩ := h
  exact WRun.below H
theorem DdAt.below (h : DdAt w0 w T Lb rs k off G) : Below w0.heap.size w0 w := by
  obtain ⟨s, l, P, sa, sc, ra, rc, H, _⟩ := h
  exact WRun.below H
theorem FzAt.grow {w' : World} (h : FzAt w0 w T Lb most rs k G) (hb : Below w.heap.size w w') : FzAt w0 w' T Lb most rs k G := by
  obtain ⟨s, l, P, sa, sc, ra, rc, H, L⟩ := h
  exact ⟨s, l, P, sa, sc, ra, rc, H.grow hb, L⟩
theorem DdAt.grow {w' : World} (h : DdAt w0 w T Lb rs k off G) (hb : Below w.heap.size w w') : DdAt w0 w' T Lb rs k off G := by
  obtain ⟨s, l, P, sa, sc, ra, rc, H, L⟩ := h
  exact ⟨s, l, P, sa, sc, ra, rc, H.grow hb, L⟩
theorem FzAt.fewer {G' : List (Nat × Obj)} (h : FzAt w0 w T Lb most rs k G) (hs : ∀ g ∈ G', g ∈ G) : FzAt w0 w T Lb most rs k G' := by
  obtain ⟨s, l, P, sa, sc, ra, rc, H, L⟩ := h
  exact ⟨s, l, P, sa, sc, ra, rc, H.fewer hs, L⟩
theorem DdAt.fewer {G' : List (Nat × Obj)} (h : DdAt w0 w T Lb rs k off G) (hs : ∀ g ∈ G', g ∈ G) : DdAt w0 w T Lb rs k off G' := by
  obtain ⟨s, l, P, sa, sc, ra, rc, H, L⟩ := h
  exact ⟨s, l, P, sa, sc, ra, rc, H.fewer hs, L⟩
theorem FzAt.join {w' : World} (h : FzAt w0 w T Lb most rs k G) (hb : Below w.heap.size w w') {b : Nat} {o : Obj} (hn : w.heap.size ≤ b) (ho : w'.heap[b]? = some o) : FzAt w0 w' T Lb most rs k ((b, o) :: G) := by
  obtain ⟨s, l, P, sa, sc, ra, rc, H, L⟩ := h
  exact ⟨s, l, P, sa, sc, ra, rc, H.join hb hn ho, L⟩
theorem DdAt.join {w' : World} (h : DdAt w0 w T Lb rs k off G) (hb : Below w.heap.size w w') {b : Nat} {o : Obj} (hn : w.heap.size ≤ b) (ho : w'.heap[b]? = some o) : DdAt w0 w' T Lb rs k off ((b, o) :: G) := by
  obtain ⟨s, l, P, sa, sc, ra, rc, H, L⟩ := h
  exact ⟨s, l, P, sa, sc, ra, rc, H.join hb hn ho, L⟩
theorem FzAt.block (h : FzAt w0 w T Lb most rs k G) {g : Nat × Obj} (hg : g ∈ G) : w.heap[g.1]? = some g.2 := by
  obtain ⟨s, l, P, sa, sc, ra, rc, H, _⟩ := h
  exact WRun.block H hg
theorem DdAt.block (h : DdAt w0 w T Lb rs k off G) {g : Nat × Obj} (hg : g ∈ G) : w.heap[g.1]? = some g.2 := by
  obtain ⟨s, l, P, sa, sc, ra, rc, H, _⟩ := h
  exact WRun.block H hg
theorem FzAt.few (h : FzAt w0 w T Lb most rs k G) : rs.length ≤ 30 ∧ k ≤ rs.length := by
  obtain ⟨s, l, P, sa, sc, ra, rc, H, L, _⟩ := h
  exact ⟨L.few, L.le⟩
theorem DdAt.few (h : DdAt w0 w T Lb rs k off G) : rs.length ≤ 30 ∧ k ≤ rs.length := by
  obtain ⟨s, l, P, sa, sc, ra, rc, H, L⟩ := h
  exact ⟨L.few, L.le⟩
/-- The store is a block made since w0. -/
theorem WRun.store_new {s : S} {l : Wl.L} {sa : Option Addr} {sc : Nat} {ra : Option Addr} {rc : Nat} (h : WRun w0 w T Lb s l G sa sc ra rc) : w0.heap.size ≤ T := by
  obtain ⟨o1, O, p, q, h1, _⟩ := h
  obtain ⟨Ad, m, ka, kc, p⟩ := p
  exact (h1 T p.ownT).1
theorem fz_append (h : FzAt w0 w T Lb most rs k G) (hF : Facts w0) (ep : Int) (e0 : 0 ≤ ep) (e1 : ep ≤ 1048575) (he : epR rs ≤ ep) (A : Option Addr) (n cap : Nat) (b : List Int) (hn : n = b.length) (hl : n ≤ 1024) (hfew : rs.length < 30) (hA : AtB A b.length cap)
    (hb : ∀ W s l G' sa sc ra rc, WRun w0 W T Lb s l (G' ++ G) sa sc ra rc → Bytes W W.heap.size A b) :
    Calls Tryz.prog 9 #[.pointer (some ⟨Lb, 0, none⟩), .int .i64 ep, .slice A n cap] w fun e w' => (StE (Pl.packV ep rs.length) 0 e ∧ Hid (FzAt w0 w' T Lb most (rs ++ [recX ep rs b]) k G)) ∨ (StE 0 11 e ∧ Hid (DdAt w0 w' T Lb rs k true G)) := by
  obtain ⟨s, l, P, sa, sc, ra, rc, H, L, LM⟩ := h
  have hend : Wl.endV l = rs.length := by rw [fit_end L.fit, ← recsP_len, L.rec_parts]
  obtain ⟨p1, p2, p3⟩ := pack_of e0 e1 (show (0 : Int) ≤ (rs.length : Int) by omega) (show (rs.length : Int) ≤ 17592186044415 by omega)
  have hw := L.write H.inv.1 H.inv.2 (recX ep rs b) (by unfold recX; rw [p1]; omega) (by show b.length ≤ 1024; omega) hfew
  have hEp : Wl.epochV l ≤ ep := by
    have : Wl.epochV l = epR rs := by unfold Wl.epochV epR; rw [L.recs]
    rw [this]; exact he
  unfold recX at hw
  rw [← hend] at hw
  have hX : appX s l ep b = writeE s l (Wl.endV l) (Fr.putV (Pl.packV ep (Wl.endV l)) b) := rfl
  unfold recX
  rw [← hend]
  rcases hw with ⟨w1, w2, w3, P', w4⟩ | ⟨w1, C, w2⟩
  · refine (lappend_ok H hF ep e0 e1 hEp (by rw [hend]; omega) A n cap b hn hl hA hb (fun _ => ⟨w2, w3⟩)).mono ?_
    intro e w' hx
    obtain ⟨h1, h2⟩ := hx.1 (by rw [hX]; exact w1)
    obtain ⟨sa', sc', ra', rc', hw⟩ := h2.out
    exact .inl ⟨h1, Lib.hid ⟨_, _, P', _, _, _, _, hw, w4, by show (writeL _ _ _ _).most = _; rw [writeL_most, LM]⟩⟩
  · refine (lappend_ok H hF ep e0 e1 hEp (by rw [hend]; omega) A n cap b hn hl hA hb (fun hz => by rw [hX, w1] at hz; cases hz)).mono ?_
    intro e w' hx
    obtain ⟨h1, h2⟩ := hx.2 (by rw [hX, w1]; decide)
    obtain ⟨sa', sc', hw⟩ := h2.out
    rw [hX, w1] at h1
    exact .inr ⟨h1, Lib.hid ⟨_, _, C, _, _, _, _, hw, w2⟩⟩
theorem fz_sync (h : FzAt w0 w T Lb most rs k G) (hF : Facts w0) :
    Calls Tryz.prog 10 #[.pointer (some ⟨Lb, 0, none⟩)] w fun e w' => (RetI 0 e ∧ Hid (FzAt w0 w' T Lb most rs rs.length G)) ∨ (RetI 11 e ∧ Hid (DdAt w0 w' T Lb rs k true G)) := by
  obtain ⟨s, l, P, sa, sc, ra, rc, H, L, LM⟩ := h
  obtain ⟨h1, h2⟩ := L.sync H.inv.1
  refine (lsync_any H hF h1).mono ?_
  rintro e w' ⟨he, hw⟩
  rcases h2 with ⟨a1, P', a2⟩ | ⟨a1, C, a2⟩
  · rw [a1] at he
    refine .inl ⟨he, Lib.hid ⟨_, _, P', _, _, _, _, hw.out, a2, ?_⟩⟩
    unfold lsyncL
    rw [a1, if_pos rfl]; exact LM
  · rw [a1] at he
    exact .inr ⟨he, Lib.hid ⟨_, _, C, _, _, _, _, hw.out, a2⟩⟩
/-- What Cut leaves: a log of the records ahead of the offset, or a store on which more of them may stand. -/
def CutAt (w0 w : World) (T Lb : Nat) (most : Int) (rs : List Fr.Rc) (k : Nat) (G : List (Nat × Obj)) : Prop := ∃ c, FzAt w0 w T Lb most (rs.take c) k G ∨ DdAt w0 w T Lb (rs.take c) k true G
theorem fz_cut (h : FzAt w0 w T Lb most rs k G) (hF : Facts w0) (c : Int) (o0 : 0 ≤ c) (o1 : c ≤ rs.length) :
    Calls Tryz.prog 13 #[.pointer (some ⟨Lb, 0, none⟩), .int .i64 c] w fun e w' => (∃ er, e = .returned (.int .i64 er)) ∧ Hid (CutAt w0 w' T Lb most rs (min k c.toNat) G) := by
  obtain ⟨s, l, P, sa, sc, ra, rc, H, L, LM⟩ := h
  have hend : Wl.endV l = rs.length := by rw [fit_end L.fit, ← recsP_len, L.rec_parts]
  by_cases he : c = rs.length
  · refine (lcut_end H L.on c (by rw [hend]; exact he)).mono ?_
    rintro e w' ⟨h1, h2⟩
    have hk : min k c.toNat = k := by have := L.le; omega
    rw [hk]
    exact ⟨⟨_, h1⟩, Lib.hid ⟨rs.length, .inl ⟨s, l, P, sa, sc, ra, rc, h2.out, by rw [List.take_length]; exact L, LM⟩⟩⟩
  · have hsl : l.segs.length = P.length := by rw [L.fit.segs, segsV_len]
    refine (lcut_in H hF L.on c (by rw [fit_first L.fit]; exact o0) (by rw [hend]; omega) (fun i hi => ?_) (fun i _ => fit_shN L.fit H.inv.1 i)).mono ?_
    · rw [hsl] at hi
      rw [fit_first L.fit, fit_seg L.fit hi]
      show (0 : Int) ≤ ((cntP (P.take i) : Nat) : Int)
      omega
    rintro e w' ⟨h1, h2⟩
    rcases L.cut H.inv.1 o0 (by omega) with ⟨c1, P', c2⟩ | ⟨c1, C, n, c2⟩
    · refine ⟨⟨_, h1⟩, Lib.hid ⟨c.toNat, .inl ⟨_, _, P', _, _, _, _, h2.out, c2, ?_⟩⟩⟩
      unfold lcutL
      rw [if_pos c1]
      exact LM
    · exact ⟨⟨_, h1⟩, Lib.hid ⟨n, .inr ⟨_, _, C, _, _, _, _, h2.out, c2⟩⟩⟩
theorem fz_crash (h : FzAt w0 w T Lb most rs k G) (A : Option Addr) (ks : List Int) (cap : Nat) (hkl : ks.length ≤ cap) (hkb : ks.length ≤ 4611686018427387904) (hk : Ints w A ks) :
    Calls Tryz.prog 14 #[.pointer (some ⟨T, 0, none⟩), .slice A ks.length cap] w fun e w' => e = .returned (.tuple #[]) ∧ Hid (DdAt w0 w' T Lb rs k true G) := by
  obtain ⟨s, l, P, sa, sc, ra, rc, H, L, LM⟩ := h
  refine (w_prog H (E := fun e => e = .returned (.tuple #[])) fun own ho hb p => crash_any T own s A ks cap hkl hkb w p hk).mono ?_
  rintro e w' ⟨he, hw⟩
  obtain ⟨C, hC⟩ := L.fallen H.inv.1 ks
  exact ⟨he, Lib.hid ⟨_, _, C, _, _, _, _, hw.out, hC⟩⟩
theorem dd_crash (h : DdAt w0 w T Lb rs k true G) (A : Option Addr) (ks : List Int) (cap : Nat) (hkl : ks.length ≤ cap) (hkb : ks.length ≤ 4611686018427387904) (hk : Ints w A ks) :
    Calls Tryz.prog 14 #[.pointer (some ⟨T, 0, none⟩), .slice A ks.length cap] w fun e w' => e = .returned (.tuple #[]) ∧ Hid (DdAt w0 w' T Lb rs k true G) := by
  obtain ⟨s, l, C, sa, sc, ra, rc, H, D⟩ := h
  refine (w_prog H (E := fun e => e = .returned (.tuple #[])) fun own ho hb p => crash_any T own s A ks cap hkl hkb w p hk).mono ?_
  rintro e w' ⟨he, hw⟩
  have e1 : crash s ks = s := by unfold crash; rw [if_pos D.off]
  have hw := hw.out
  rw [e1] at hw
  exact ⟨he, Lib.hid ⟨s, l, C, sa, sc, ra, rc, hw, D⟩⟩
theorem dd_on (h : DdAt w0 w T Lb rs k true G) :
    Calls Tryz.prog 15 #[.pointer (some ⟨T, 0, none⟩)] w fun e w' => e = .returned (.tuple #[]) ∧ Hid (DdAt w0 w' T Lb rs k false G) := by
  obtain ⟨s, l, C, sa, sc, ra, rc, H, D⟩ := h
  refine (w_prog H (E := fun e => e = .returned (.tuple #[])) fun own ho hb p => on_any T own s w p).mono ?_
  rintro e w' ⟨he, hw⟩
  exact ⟨he, Lib.hid ⟨_, _, C, _, _, _, _, hw.out, D.fs, D.ne, D.le2, D.recs, rfl, D.fuse, D.room, D.pay, D.few, D.dur, D.le⟩⟩
theorem fz_off (h : FzAt w0 w T Lb most rs k G) : Calls Tryz.prog 11 #[.pointer (some ⟨T, 0, none⟩)] w fun e w' => e = .returned (.bool false) ∧ w = w' := by
  obtain ⟨s, l, P, sa, sc, ra, rc, H, L, LM⟩ := h
  have := off_w H
  rwa [L.on] at this
theorem dd_off (h : DdAt w0 w T Lb rs k off G) : Calls Tryz.prog 11 #[.pointer (some ⟨T, 0, none⟩)] w fun e w' => e = .returned (.bool off) ∧ w = w' := by
  obtain ⟨s, l, P, sa, sc, ra, rc, H, L⟩ := h
  have := off_w H
  rwa [L.off] at this
theorem fz_end (h : FzAt w0 w T Lb most rs k G) : Calls Tryz.prog 12 #[.pointer (some ⟨Lb, 0, none⟩)] w fun e w' => e = .returned (.int .i64 rs.length) ∧ ∃ j, w' = w.drewN j := by
  obtain ⟨s, l, P, sa, sc, ra, rc, H, L, LM⟩ := h
  have hend : Wl.endV l = rs.length := by rw [fit_end L.fit, ← recsP_len, L.rec_parts]
  have := end_w H
  rwa [hend] at this
/-- The fuse is laid on a new log. -/
theorem fz_fuse {sa : Option Addr} {sc : Nat} {ra : Option Addr} {rc : Nat} (h : WRun w0 w T Lb st0 (newL most) G sa sc ra rc) (at_ : Int) (a1 : at_ ≤ 9223372036854775807) (A : Option Addr) (ks : List Int) (cap : Nat) (hcap : ks.length ≤ cap) (hi : Nums w0 w0.heap.size A ks) :
    Calls Tryz.prog 8 #[.pointer (some ⟨T, 0, none⟩), .int .i64 at_, .slice A ks.length cap] w fun e w' => e = .returned (.tuple #[]) ∧ Hid (FzAt w0 w' T Lb most [] 0 G) := by
  have hT : 0 < ks.length → ∀ a, A = some a → a.block ≠ T := fun hn a ha => by
    obtain ⟨b, o, e, hb, _⟩ := hi.2 hn
    rw [e] at ha
    injection ha with ha
    subst ha
    have := WRun.store_new h
    show b ≠ T
    omega
  have hin : Ints w A ks := fun hn => by
    obtain ⟨b, o, e, hb, hc⟩ := hi.2 hn
    exact ⟨b, o, e, fun i hi => ((WRun.below h).cell (p := ⟨b, o + i, none⟩) hb).trans (hc i hi)⟩
  refine (w_prog h (E := fun e => e = .returned (.tuple #[])) fun own ho hb p => fuse_any T own st0 at_ A ks cap hcap w p a1 hin hT).mono ?_
  rintro e w' ⟨he, hw⟩
  refine ⟨he, Lib.hid ⟨_, _, [], _, _, _, _, hw.out, ⟨⟨?_, rfl, rfl, (fun p hp => by cases hp), Int.le_refl _⟩, rfl, ?_, ?_, (fun r hr => by cases hr), by simp, rfl, trivial, Nat.le_refl _⟩, rfl⟩⟩
  all_goals
    unfold fuseS
    rw [if_neg (show ¬ st0.off = true by decide)]
    split <;> rfl
/-- Open behind a crash: a first part of the records, with all that were durable. -/
def TornPost (w0 : World) (T : Nat) (most : Int) (rs : List Fr.Rc) (k : Nat) (G : List (Nat × Obj)) (e : Ending) (w' : World) : Prop :=
  ∃ Lb m, e = .returned (.tuple #[.pointer (some ⟨Lb, 0, none⟩), .int .i64 0]) ∧ k ≤ m ∧ m ≤ rs.length ∧ Hid (LiveAt w0 w' T Lb most (rs.take m) m G)
theorem dd_open (h : DdAt w0 w T Lb rs k false G) (hF : Facts w0) (hch : Chain 0 0 rs) (m0 : 64 ≤ most) (m1 : most ≤ 1048576) :
    Calls Tryz.prog 16 #[.pointer (some ⟨T, 0, none⟩), .int .i64 most] w (TornPost w0 T most rs k G) := by
  obtain ⟨s, l, C, sa, sc, ra, rc, H, D⟩ := h
  have hcn : cntP C = rs.length := by rw [← recsP_len, D.recs]
  have hfew := D.few
  have hcl := code_len rs D.pay
  obtain ⟨ok, hl, hs⟩ := reopen_torn most m0 m1 s C H.inv.1.sorted D.off D.fuse D.fs D.ne D.le2 (by omega) (by rw [D.recs]; omega) (by rw [D.recs]; exact hch)
  obtain ⟨t1, t2⟩ := torn_recs C
  have hk := torn_dur D.le2 D.dur (by rw [hcn]; exact D.le)
  refine (open_any H.srun hF most ok).mono ?_
  rintro e w' ⟨Lb', he, hw⟩
  obtain ⟨sa', sc', ra', rc', hw⟩ := hw.out
  rw [hl, hs] at hw
  have hr : recsP (tornP C) = rs.take (cntP (tornP C)) := by rw [t1, D.recs]
  have hend : Wl.endV (logP most 0 (tornP C)) = (cntP (tornP C) : Nat) := by
    by_cases hP : tornP C = []
    · rw [hP]; rfl
    · rw [end_logP most 0 _ hP]; omega
  rw [hend] at hw
  refine ⟨Lb', cntP (tornP C), he, hk, by omega, Lib.hid ⟨_, _, fullP (tornP C), _, _, _, _, hw, ⟨⟨rfl, by show segsV 0 (tornP C) = _; rw [segsV_full 0 (tornP C)], by show recsP (tornP C) = recsP (fullP (tornP C)); unfold recsP; rw [fullP_recs], ne_full (torn_ne D.ne), Int.le_refl _⟩, hr, D.off, D.fuse, D.room, fun r hr => D.pay r (List.mem_of_mem_take hr), by rw [List.length_take]; omega⟩, rfl, rfl⟩⟩
end
end Go.Proofs.YtdbhicifjljjnaaGreatDoor
