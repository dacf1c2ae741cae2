/-
  Swap and Sync at every store.
-/
import Derived.Test.YtmahbcpkilegpaaStoDrop
namespace Go.Proofs.Ytmahbcpkilegpaa
open Go.RowKit St

theorem full_one (w : World) (sn : ByteArray) (h : sn.size ≤ 9223372036854775807) : Full (w.alloc (.cells #[.string sn] 9)) (some ⟨w.heap.size, 0, none⟩) 1 [sn] := .inr ⟨rfl, by simp, by
  have := Strs.new1 w sn h (0, 0)
  have e : (w.alloc (.cells #[.string sn] 9 (0, 0))).heap.size = w.heap.size + 1 := by simp
  rw [e]; exact this⟩
theorem Only.setNew {own : Nat → Prop} {a w : World} {L : Nat} (h : Only own a w) (hL : a.heap.size ≤ L) (o : Nat) (v : Value) : Only own a (w.setCell ⟨L, o, none⟩ v) :=
  ⟨h.os, h.tape, h.output, by simp [World.setCell]; exact h.size, fun k hk hn => by rw [Below.heap_setCell _ _ _ _ (by show k ≠ L; omega)]; exact h.block k hk hn⟩
theorem Only.undrew {own : Nat → Prop} {w w' : World} (h : Only own w.drew w') : Only own w w' := ⟨h.os, h.tape, h.output, h.size, h.block⟩
theorem one_alloc (w : World) (o : Obj) : Below w.heap.size w (w.alloc o) := (Below.refl _ _).alloc (Nat.le_refl _) _
set_option maxRecDepth 20000 in
set_option maxHeartbeats 4000000 in
theorem swap_any (T : Nat) (own : Nat → Prop) (s : S) (w : World) (h : PState w T own s) (sa sb : ByteArray) (hsa : sa.size ≤ 9223372036854775807) (hsb : sb.size ≤ 9223372036854775807) :
    Calls Try.prog 14 #[.pointer (some ⟨T, 0, none⟩), .string sa, .string sb] w (OpPost w T own (actE s (fnd s (bs sa) [bs sb, bs sa])) (actS s (fnd s (bs sa) [bs sb, bs sa]) (swapL s (bs sa) (bs sb)))) := by
  obtain ⟨Ad, m, ka, kc, p⟩ := h
  have HA := Lib.hid hsa
  have HB := Lib.hid hsb
  have p1 := p.grow (one_alloc w (.cells #[.string sb] 9))
  by_cases hE : fnd s (bs sa) [bs sb, bs sa] = 0
  · obtain ⟨f, hfi, hc⟩ := find_ok T own s Ad m ka kc sa hsa _ 1 1 [sb] rfl (by simp) _ p1 (full_one w sb hsb) hE
    have FC := Lib.hid hc
    have HP := Lib.hid p
    by_cases hfu : s.fuse = 1
    · rw [actE_blow hE hfu, actS_blow hE hfu]
      have HF := Lib.hid hfu
      clear p p1 hc hfi hE hsa hsb hfu
      go_enter Try.func14, Try.ntmps14
      go_wp2_with fail
      refine FC.out.mono ?_; rintro e w2 ⟨rfl, hb⟩
      have B2 := Lib.hid ((one_alloc w (.cells #[.string sb] 9)).trans (hb.mono (by simp)))
      clear hb
      go_wp2_with fail
      refine (blows_one T own s _ ⟨Ad, m, ka, kc, HP.out.grow (B2.out.alloc B2.out.size _)⟩ HF.out).mono ?_; rintro e w3 ⟨rfl, hl⟩
      have HL := Lib.hid hl
      clear hl
      go_wp2
      go_ret
      exact ⟨rfl, Leaves.ahead (B2.out.alloc B2.out.size _) HL.out⟩
    · rw [actE_ok hE hfu, actS_ok hE hfu]
      have HF := Lib.hid hfu
      have HI : Hid (Inv { s with fs := swapL s (bs sa) (bs sb), fuse := s.fuse - 1 }) := Lib.hid (by have := p.inv.swap (bs sa) (bs sb); rw [actS_ok hE hfu] at this; exact this)
      have HI2 : Hid (Inv { s with fs := del (bs sa) s.fs, fuse := s.fuse - 1 }) := Lib.hid (by have := p.inv.drop (bs sa) 0; rw [actS_ok rfl hfu] at this; exact this)
      have hfm := find_some hfi
      have HFM := Lib.hid hfm
      have ESW : Hid (swapL s (bs sa) (bs sb) = put ⟨bs sb, f.zs, f.zs.length⟩ (del (bs sa) s.fs)) := Lib.hid (by show _ = _; unfold swapL; rw [(file_mem hfi).1])
      have ll : (f.zs.length : Int) ≤ 16777216 := by have h1 := total_mem hfm.1; have h2 := p.inv.tot; have h3 := p.inv.room; omega
      clear p p1 hc hfi hE hsa hsb hfu hfm
      go_enter Try.func14, Try.ntmps14
      go_wp2_with fail
      refine FC.out.mono ?_; rintro e w2 ⟨rfl, hb⟩
      have B2 := Lib.hid ((one_alloc w (.cells #[.string sb] 9)).trans (hb.mono (by simp)))
      clear hb
      go_wp2_with fail
      have X2 : Hid ((w2.alloc (.cells #[.slice (Ad f.nm).1 f.zs.length (Ad f.nm).2, .int .i64 (f.sure : Int)] 64)).heap[w2.heap.size]? = some (.cells #[.slice (Ad f.nm).1 f.zs.length (Ad f.nm).2, .int .i64 (f.sure : Int)] 64 (0, 0))) := Lib.hid (heap_alloc_new w2 _)
      refine (blows_quiet T own s Ad m ka kc _ (HP.out.grow (B2.out.alloc B2.out.size _)) HF.out).mono ?_; rintro e w3 ⟨rfl, hp3, hs3, hz3, hk3⟩
      have LO : Hid (∀ k, own k → k ≠ w2.heap.size) := Lib.hid fun k hk => by have := HP.out.lt k hk; have := B2.out.size; omega
      have X3 := Lib.hid ((hk3 w2.heap.size (LO.out T HP.out.ownT).symm).trans X2.out)
      have P3 := Lib.hid hp3
      have S3 := Lib.hid (hs3.ahead (B2.out.alloc B2.out.size _))
      have L3 : Hid (w2.heap.size < w3.heap.size) := Lib.hid (lt_of_block X3.out)
      clear hp3 hs3 hz3 hk3 X2
      have P4 : Hid (PS (w3.setCell ⟨w2.heap.size, 1, none⟩ (.int .i64 (f.zs.length : Int))) T own { s with fuse := s.fuse - 1 } Ad m ka kc) := Lib.hid (P3.out.same (by simp [World.setCell]) fun k hk => Below.heap_setCell _ _ _ _ (LO.out k hk))
      have X4 := Lib.hid (obj_set (o := 1) X3.out (.int .i64 (f.zs.length : Int)))
      have TO := Lib.hid P4.out.obj
      have PM := Lib.hid P4.out.map
      obtain ⟨⟨_, c1, _, _, _⟩, _⟩ := obj5 TO.out
      obtain ⟨⟨x0, x1⟩, g0, g1⟩ := obj2 X3.out
      go_wp2_with (first
        | (at_delete; refine wp_drop rfl _ _ rfl rfl PM.out rfl HA.out ?_; intro w5 hm5 ht5; have M5 := Lib.hid hm5; have T5 := Lib.hid ht5; clear hm5 ht5)
        | go_in)
      go_frame
      have P5 := Lib.hid (P4.out.drop (bs sa) M5.out T5.out HI2.out)
      have X5 := Lib.hid ((turn_at T5.out (P4.out.map.ne X4.out)).trans X4.out)
      have ROW : Hid (OwnB w5.drew 0 (Ad f.nm).1 (Ad f.nm).2 f.zs) := Lib.hid (((P4.out.rows f HFM.out.1).not_map T5.out).keep fun _ _ => rfl)
      have TO5 := Lib.hid P5.out.obj
      obtain ⟨f', hf'⟩ : ∃ f', f' = (⟨bs sb, f.zs, f.zs.length⟩ : F) := ⟨_, rfl⟩
      have HF' := Lib.hid hf'
      have PM5 : Hid (PMap w5.drew m (elt Ad) (del (bs sa) s.fs)) := Lib.hid (P5.out.map.keep rfl)
      have HE2 : Hid (∀ v, ∀ g ∈ del f'.nm (del (bs sa) s.fs), elt (upd Ad f'.nm v) g = elt Ad g) := Lib.hid fun v => elt_other
      obtain ⟨w6, hrun, hmap, hturn⟩ := PM5.out.store (E' := elt (upd Ad f'.nm ((Ad f.nm).1, (Ad f.nm).2))) (by have := P5.out.inv.count; have h : (del (bs sa) s.fs).length ≤ 64 := this; omega) f' sb HB.out (by rw [HF'.out]) (.agg #[.slice (Ad f.nm).1 f.zs.length (Ad f.nm).2, .int .i64 (f.zs.length : Int)]) (by rw [elt_same, HF'.out]) (HE2.out _)
      have M6 := Lib.hid hmap
      have T6 := Lib.hid hturn
      have NE := Lib.hid (show T ≠ m ∧ w2.heap.size ≠ m from ⟨P5.out.obj_ne, P5.out.map.ne X5.out⟩)
      have X6 := Lib.hid ((turn_at T6.out NE.out.2).trans X5.out)
      have TO6 := Lib.hid ((turn_at T6.out NE.out.1).trans TO5.out)
      clear c1 x0 x1 g0 g1 hmap hturn hf' ll
      obtain ⟨⟨_, c1, _, _, _⟩, _⟩ := obj5 TO5.out
      obtain ⟨⟨x0, x1⟩, _, _⟩ := obj2 X5.out
      have q6 := Lib.hid (show w6.cell? ⟨T, 1, none⟩ = some (.map (some m)) ∧ w6.cell? ⟨w2.heap.size, 0, none⟩ = some (.slice (Ad f.nm).1 f.zs.length (Ad f.nm).2) ∧ w6.cell? ⟨w2.heap.size, 1, none⟩ = some (.int .i64 (f.zs.length : Int)) from ⟨(obj5 TO6.out).1.2.1, (obj2 X6.out).1⟩)
      go_region_held3 (fun w' => w'.cell? ⟨T, 1, none⟩ = some (.map (some m)) ∧ w'.cell? ⟨w2.heap.size, 0, none⟩ = some (.slice (Ad f.nm).1 f.zs.length (Ad f.nm).2) ∧ w'.cell? ⟨w2.heap.size, 1, none⟩ = some (.int .i64 (f.zs.length : Int))) ((first | go_keep | exact ⟨c1, x0, x1⟩ | exact q6.out))
        (first | fail)
      clear x0 x1 c1 q6
      go_wp2
      go_ret
      have p6 := P5.out.put (w1 := w5.drew) (w2 := w6) f' (Ad f.nm).1 (Ad f.nm).2 (Nat.le_refl _) rfl (fun _ _ => rfl) (fun _ _ _ _ _ => rfl) (by rw [HF'.out]; exact ROW.out)
        (fun a' ha' => ⟨.inl (P4.out.ownR f HFM.out.1 a' ha'), fun g hg _ b hb => (P4.out.apart g (mem_del.1 hg).1 f HFM.out.1 (by rw [HFM.out.2]; exact (mem_del.1 hg).2) b a' hb ha').symm⟩) M6.out T6.out (by
          have h := HI.out
          rw [ESW.out, ← HF'.out] at h
          exact h)
      have e : ({ s with fs := swapL s (bs sa) (bs sb), fuse := s.fuse - 1 } : S) = { ({ ({ s with fuse := s.fuse - 1 } : S) with fs := del (bs sa) s.fs } : S) with fs := put f' (del (bs sa) s.fs) } := by rw [ESW.out, ← HF'.out]
      rw [e]
      have o5 : Only own w w5 := (S3.out.only.setNew (L := w2.heap.size) B2.out.size 1 _).trans (Only.turned T5.out P3.out.ownM) (fun _ h => .inl h)
      have o6 : Only own w w6 := o5.trans (Only.turned T6.out P3.out.ownM).undrew (fun _ h => .inl h)
      exact ⟨rfl, Leaves.mk_ p6 ⟨o6, fun k hk => by
        rcases hk with h1 | h1
        · exact .inl h1
        · exact .inr (Nat.le_trans o5.size h1.1)⟩⟩
  · rw [actE_bad hE, actS_bad hE]
    have FC : Hid (Calls Try.prog 38 #[.pointer (some ⟨T, 0, none⟩), .string sa, .slice (some ⟨w.heap.size, 0, none⟩) 1 1] (w.alloc (.cells #[.string sb] 9)) (FindPost (w.alloc (.cells #[.string sb] 9)) (.agg #[.slice none 0 0, .int .i64 0]) (fnd s (bs sa) [bs sb, bs sa]))) := Lib.hid (find_err T own s Ad m ka kc sa hsa _ 1 1 [sb] rfl (by simp) _ p1 (full_one w sb hsb) _ rfl hE)
    have hne : (fnd s (bs sa) [bs sb, bs sa] == 0) = false := by rw [beq_eq_false_iff_ne]; exact hE
    have HP : Hid (PState w T own s) := Lib.hid ⟨Ad, m, ka, kc, p⟩
    clear p p1 hE hsa hsb
    generalize fnd s (bs sa) [bs sb, bs sa] = er at *
    go_enter Try.func14, Try.ntmps14
    go_wp2_with fail
    refine FC.out.mono ?_; rintro e w2 ⟨rfl, hb⟩
    have B2 := Lib.hid ((one_alloc w (.cells #[.string sb] 9)).trans (hb.mono (by simp)))
    clear hb
    go_wp2
    go_ret
    exact ⟨rfl, Leaves.same HP.out (B2.out.alloc B2.out.size _)⟩
theorem sync_any (T : Nat) (own : Nat → Prop) (s : S) (w : World) (h : PState w T own s) (sn : ByteArray) (hsn : sn.size ≤ 9223372036854775807) :
    Calls Try.prog 12 #[.pointer (some ⟨T, 0, none⟩), .string sn] w (OpPost w T own (actE s (fnd s (bs sn) [bs sn, bs sn])) (actS s (fnd s (bs sn) [bs sn, bs sn]) (swapL s (bs sn) (bs sn)))) := by
  have SW := Lib.hid (swap_any T own s w h sn sn hsn hsn)
  clear h hsn
  generalize actE s (fnd s (bs sn) [bs sn, bs sn]) = er at *
  generalize actS s (fnd s (bs sn) [bs sn, bs sn]) (swapL s (bs sn) (bs sn)) = s2 at *
  go_enter Try.func12, Try.ntmps12
  go_wp2_with fail
  refine SW.out.mono ?_; rintro e w2 ⟨rfl, hl⟩
  have HL := Lib.hid hl
  clear hl
  go_wp2
  go_ret
  exact ⟨rfl, HL.out⟩
end Go.Proofs.Ytmahbcpkilegpaa
