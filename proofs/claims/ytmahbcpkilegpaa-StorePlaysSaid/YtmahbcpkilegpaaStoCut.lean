/-
  Cut at every store, every name and every number.
-/
import Derived.Test.YtmahbcpkilegpaaStoSwap
namespace Go.Proofs.Ytmahbcpkilegpaa
open Go.RowKit St

theorem fnd_err (T : Nat) (own : Nat → Prop) (s : S) (Ad : List UInt8 → Option Addr × Nat) (m : Nat) (ka : Option Addr) (kc : Nat) (sn : ByteArray) (hsn : sn.size ≤ 9223372036854775807) (w : World) (p : PS w T own s Ad m ka kc) (hE : fnd s (bs sn) [bs sn] ≠ 0) :
    Calls Try.prog 38 #[.pointer (some ⟨T, 0, none⟩), .string sn, .slice none 0 0] w (FindPost w (.agg #[.slice none 0 0, .int .i64 0]) (fnd s (bs sn) [bs sn])) := find_err T own s Ad m ka kc sn hsn none 0 0 [] rfl (by simp) w p (full_nil w) _ rfl hE
set_option maxRecDepth 20000 in
set_option maxHeartbeats 4000000 in
theorem cut_bad1 (T : Nat) (own : Nat → Prop) (s : S) (w : World) (h : PState w T own s) (sn : ByteArray) (hsn : sn.size ≤ 9223372036854775807) (n : Int) (hE : fnd s (bs sn) [bs sn] ≠ 0) :
    Calls Try.prog 13 #[.pointer (some ⟨T, 0, none⟩), .string sn, .int .i64 n] w (OpPost w T own (fnd s (bs sn) [bs sn]) s) := by
  obtain ⟨Ad, m, ka, kc, p⟩ := h
  have FC := Lib.hid (fnd_err T own s Ad m ka kc sn hsn w p hE)
  have hne : (fnd s (bs sn) [bs sn] == 0) = false := by rw [beq_eq_false_iff_ne]; exact hE
  have HP : Hid (PState w T own s) := Lib.hid ⟨Ad, m, ka, kc, p⟩
  clear p hE hsn
  generalize fnd s (bs sn) [bs sn] = er at *
  go_enter Try.func13, Try.ntmps13
  go_wp2_with fail
  refine FC.out.mono ?_; rintro e w2 ⟨rfl, hb⟩
  have B2 := Lib.hid hb
  clear hb
  go_wp2
  go_ret
  exact ⟨rfl, Leaves.same HP.out (B2.out.alloc B2.out.size _)⟩
set_option maxRecDepth 20000 in
set_option maxHeartbeats 4000000 in
theorem cut_bad2 (T : Nat) (own : Nat → Prop) (s : S) (w : World) (h : PState w T own s) (sn : ByteArray) (hsn : sn.size ≤ 9223372036854775807) (n : Int) (hE : fnd s (bs sn) [bs sn] = 0) (hn : n < 0 ∨ (¬ n < 0 ∧ ((file s (bs sn)).zs.length : Int) < n)) :
    Calls Try.prog 13 #[.pointer (some ⟨T, 0, none⟩), .string sn, .int .i64 n] w (OpPost w T own 1 s) := by
  obtain ⟨Ad, m, ka, kc, p⟩ := h
  obtain ⟨f, hfi, hc⟩ := find_ok T own s Ad m ka kc sn hsn none 0 0 [] rfl (by simp) w p (full_nil w) hE
  have FC := Lib.hid hc
  have HP : Hid (PState w T own s) := Lib.hid ⟨Ad, m, ka, kc, p⟩
  rw [(file_mem hfi).1] at hn
  clear p hE hsn hc hfi
  rcases hn with hn | ⟨hn, hn2⟩
  · go_enter Try.func13, Try.ntmps13
    go_wp2_with fail
    refine FC.out.mono ?_; rintro e w2 ⟨rfl, hb⟩
    have B2 := Lib.hid hb
    clear hb
    go_wp2
    go_ret
    exact ⟨rfl, Leaves.same HP.out (B2.out.alloc B2.out.size _)⟩
  · go_enter Try.func13, Try.ntmps13
    go_wp2_with fail
    refine FC.out.mono ?_; rintro e w2 ⟨rfl, hb⟩
    have B2 := Lib.hid hb
    clear hb
    go_wp2
    go_ret
    exact ⟨rfl, Leaves.same HP.out (B2.out.alloc B2.out.size _)⟩
set_option maxRecDepth 20000 in
set_option maxHeartbeats 4000000 in
theorem cut_blow (T : Nat) (own : Nat → Prop) (s : S) (w : World) (h : PState w T own s) (sn : ByteArray) (hsn : sn.size ≤ 9223372036854775807) (n : Nat) (hE : fnd s (bs sn) [bs sn] = 0) (hn : n ≤ (file s (bs sn)).zs.length) (hf : s.fuse = 1) :
    Calls Try.prog 13 #[.pointer (some ⟨T, 0, none⟩), .string sn, .int .i64 (n : Int)] w (OpPost w T own 11 (crash { s with fuse := 0 } s.keep)) := by
  obtain ⟨Ad, m, ka, kc, p⟩ := h
  obtain ⟨f, hfi, hc⟩ := find_ok T own s Ad m ka kc sn hsn none 0 0 [] rfl (by simp) w p (full_nil w) hE
  have FC := Lib.hid hc
  have HP := Lib.hid p
  have HF := Lib.hid hf
  rw [(file_mem hfi).1] at hn
  have hn' : (n : Int) ≤ (f.zs.length : Int) := by omega
  clear p hE hsn hc hfi hf hn
  go_enter Try.func13, Try.ntmps13
  go_wp2_with fail
  refine FC.out.mono ?_; rintro e w2 ⟨rfl, hb⟩
  have B2 := Lib.hid hb
  clear hb
  go_wp2_with fail
  refine (blows_one T own s _ ⟨Ad, m, ka, kc, HP.out.grow (B2.out.alloc B2.out.size _)⟩ HF.out).mono ?_; rintro e w3 ⟨rfl, hl⟩
  have HL := Lib.hid hl
  clear hl
  go_wp2
  go_ret
  exact ⟨rfl, Leaves.ahead (B2.out.alloc B2.out.size _) HL.out⟩
set_option maxRecDepth 20000 in
set_option maxHeartbeats 4000000 in
theorem cut_good (T : Nat) (own : Nat → Prop) (s : S) (w : World) (h : PState w T own s) (sn : ByteArray) (hsn : sn.size ≤ 9223372036854775807) (n : Nat) (hE : fnd s (bs sn) [bs sn] = 0) (hn : n ≤ (file s (bs sn)).zs.length) (hfu : s.fuse ≠ 1)
    (HI0 : Inv { s with fs := cutL s (bs sn) n, fuse := s.fuse - 1 }) :
    Calls Try.prog 13 #[.pointer (some ⟨T, 0, none⟩), .string sn, .int .i64 (n : Int)] w (OpPost w T own 0 { s with fs := cutL s (bs sn) n, fuse := s.fuse - 1 }) := by
  obtain ⟨Ad, m, ka, kc, p⟩ := h
  obtain ⟨f, hfi, hc⟩ := find_ok T own s Ad m ka kc sn hsn none 0 0 [] rfl (by simp) w p (full_nil w) hE
  have FC := Lib.hid hc
  have HP := Lib.hid p
  have HF := Lib.hid hfu
  have HS := Lib.hid hsn
  have HI := Lib.hid HI0
  have HFM := Lib.hid (find_some hfi)
  rw [(file_mem hfi).1] at hn
  have HN := Lib.hid hn
  have hn' : (n : Int) ≤ (f.zs.length : Int) := by omega
  obtain ⟨f', hf'⟩ : ∃ f', f' = (⟨bs sn, f.zs.take n, min f.sure n⟩ : F) := ⟨_, rfl⟩
  have HF' := Lib.hid hf'
  have ECL : Hid (cutL s (bs sn) n = put f' s.fs) := Lib.hid (by show _ = _; unfold cutL; rw [(file_mem hfi).1, hf'])
  clear p hE hsn hc hfi hfu hn hf' HI0
  go_enter Try.func13, Try.ntmps13
  go_wp2_with fail
  refine FC.out.mono ?_; rintro e w2 ⟨rfl, hb⟩
  have B2 := Lib.hid hb
  clear hb
  go_wp2_with fail
  have X2 : Hid ((w2.alloc (.cells #[.slice (Ad f.nm).1 f.zs.length (Ad f.nm).2, .int .i64 (f.sure : Int)] 64)).heap[w2.heap.size]? = some (.cells #[.slice (Ad f.nm).1 f.zs.length (Ad f.nm).2, .int .i64 (f.sure : Int)] 64 (0, 0))) := Lib.hid (heap_alloc_new w2 _)
  refine (blows_quiet T own s Ad m ka kc _ (HP.out.grow (B2.out.alloc B2.out.size _)) HF.out).mono ?_; rintro e w3 ⟨rfl, hp3, hs3, hz3, hk3⟩
  have LO : Hid (∀ k, own k → k ≠ w2.heap.size) := Lib.hid fun k hk => by have := HP.out.lt k hk; have := B2.out.size; omega
  have X3 := Lib.hid ((hk3 w2.heap.size (LO.out T HP.out.ownT).symm).trans X2.out)
  have P3 := Lib.hid hp3
  have S3 := Lib.hid (hs3.ahead (B2.out.alloc B2.out.size _))
  have L3 : Hid (w2.heap.size < w3.heap.size) := Lib.hid (lt_of_block X3.out)
  have TO := Lib.hid P3.out.obj
  have HE2 : Hid (∀ v, ∀ g ∈ del f'.nm s.fs, elt (upd Ad f'.nm v) g = elt Ad g) := Lib.hid fun v => elt_other
  have CNT : Hid (s.fs.length ≤ 1000000) := Lib.hid (by have := HP.out.inv.count; omega)
  have NE := Lib.hid (show T ≠ m ∧ w2.heap.size ≠ m from ⟨P3.out.obj_ne, P3.out.map.ne X3.out⟩)
  have TL : Hid (T < w3.heap.size ∧ m < w3.heap.size) := Lib.hid ⟨P3.out.lt T P3.out.ownT, P3.out.lt m P3.out.ownM⟩
  have SC : Hid (Calls Try.prog 39 #[.agg #[.slice (Ad f.nm).1 f.zs.length (Ad f.nm).2, .int .i64 (f.sure : Int)], .int .i64 (n : Int)] w3.drew fun e w' => ∃ A' cap', e = .returned (.agg #[.slice A' f'.zs.length cap', .int .i64 (f'.sure : Int)]) ∧ OwnB w' 0 A' cap' f'.zs ∧ Below w3.heap.size w3 w' ∧ Lies w3 (Ad f.nm).1 A') := Lib.hid (by
    have hz := total_mem HFM.out.1
    have ht := HP.out.inv.tot
    have hr := HP.out.inv.room
    refine (short_any (Ad f.nm).1 f.zs (Ad f.nm).2 f.sure n HN.out (by omega) w3.drew ((P3.out.rows f HFM.out.1).keep fun _ _ => rfl)).mono ?_
    rintro e w' ⟨ys, A', cap', hy, rfl, h1, h2, h3⟩
    have hy2 : ys = f'.zs := by rw [hy.out, HF'.out]
    subst hy2
    exact ⟨A', cap', by rw [HF'.out], h1, below_drew h2, h3⟩)
  clear hp3 hs3 hz3 hk3 X2
  obtain ⟨⟨_, c1, _, _, _⟩, _⟩ := obj5 TO.out
  obtain ⟨⟨x0, x1⟩, _⟩ := obj2 X3.out
  go_wp2_with fail
  go_region_held3 (fun w' => w'.cell? ⟨T, 1, none⟩ = some (.map (some m)) ∧ w'.cell? ⟨w2.heap.size, 0, none⟩ = some (.slice (Ad f.nm).1 f.zs.length (Ad f.nm).2) ∧ w'.cell? ⟨w2.heap.size, 1, none⟩ = some (.int .i64 (f.sure : Int))) ((first | go_keep | exact ⟨c1, x0, x1⟩ | exact q4.out | exact q5.out))
    (first
      | (go_at_call 39; refine SC.out.mono ?_; rintro e w4 ⟨A2, c2, rfl, ho2, hb2, hl2⟩; have q4 : Hid (w4.cell? ⟨T, 1, none⟩ = some (.map (some m)) ∧ w4.cell? ⟨w2.heap.size, 0, none⟩ = some (.slice (Ad f.nm).1 f.zs.length (Ad f.nm).2) ∧ w4.cell? ⟨w2.heap.size, 1, none⟩ = some (.int .i64 (f.sure : Int))) := Lib.hid ⟨(obj5 ((hb2.block _ TL.out.1).trans TO.out)).1.2.1, (obj2 ((hb2.block _ L3.out).trans X3.out)).1⟩; have PM4 := Lib.hid (P3.out.map.keep (hb2.block _ TL.out.2)); have O2 := Lib.hid ho2; have D2 := Lib.hid hb2; have L2 := Lib.hid hl2; obtain ⟨w5, hrun, hmap, hturn⟩ := PM4.out.store (E' := elt (upd Ad f'.nm (A2, c2))) CNT.out f' sn HS.out (by rw [HF'.out]) (.agg #[.slice A2 f'.zs.length c2, .int .i64 (f'.sure : Int)]) elt_same.symm (HE2.out (A2, c2)); have q5 : Hid (w5.cell? ⟨T, 1, none⟩ = some (.map (some m)) ∧ w5.cell? ⟨w2.heap.size, 0, none⟩ = some (.slice (Ad f.nm).1 f.zs.length (Ad f.nm).2) ∧ w5.cell? ⟨w2.heap.size, 1, none⟩ = some (.int .i64 (f.sure : Int))) := Lib.hid ⟨(World.cell?_of_block (w := w4) (turn_at hturn NE.out.1)).trans q4.out.1, (World.cell?_of_block (w := w4) (turn_at hturn NE.out.2)).trans q4.out.2.1, (World.cell?_of_block (w := w4) (turn_at hturn NE.out.2)).trans q4.out.2.2⟩; have M5 := Lib.hid hmap; have T5 := Lib.hid hturn; clear ho2 hb2 hl2 hmap hturn))
  clear x0 x1 c1 q4 q5
  go_wp2
  go_ret
  have hnm : f'.nm = f.nm := by rw [HF'.out]; exact HFM.out.2.symm
  have p5 := P3.out.put (w1 := w4) (w2 := w5) f' A2 c2 D2.out.size (D2.out.block _ TL.out.1) (fun a ha => D2.out.block _ (P3.out.lt _ (P3.out.ownK a ha))) (fun g hg _ a ha => D2.out.block _ (P3.out.lt _ (P3.out.ownR g hg a ha))) O2.out
    (by rw [hnm]; exact P3.out.loc HFM.out.1 L2.out) M5.out T5.out (by have h := HI.out; rw [ECL.out] at h; exact h)
  have e : ({ s with fs := cutL s (bs sn) n, fuse := s.fuse - 1 } : S) = { ({ s with fuse := s.fuse - 1 } : S) with fs := put f' s.fs } := by rw [ECL.out]
  rw [e]
  have o4 : Only own w3 w4 := Only.of D2.out
  have o5 : Only own w3 w5 := o4.trans (Only.turned T5.out P3.out.ownM) (fun _ h => .inl h)
  exact ⟨rfl, Leaves.mk_ p5 (S3.out.trans (ext_step o5))⟩
theorem cut_any (T : Nat) (own : Nat → Prop) (s : S) (w : World) (h : PState w T own s) (sn : ByteArray) (hsn : sn.size ≤ 9223372036854775807) (n : Int) :
    Calls Try.prog 13 #[.pointer (some ⟨T, 0, none⟩), .string sn, .int .i64 n] w (OpPost w T own (actE s (cutE s (bs sn) n)) (actS s (cutE s (bs sn) n) (cutL s (bs sn) n.toNat))) := by
  by_cases hE : fnd s (bs sn) [bs sn] = 0
  · by_cases hn : n < 0 ∨ ((file s (bs sn)).zs.length : Int) < n
    · have e : cutE s (bs sn) n = 1 := by unfold cutE; rw [if_neg (by simp [hE]), if_pos hn]
      rw [e, actE_bad (by decide), actS_bad (by decide)]
      exact cut_bad2 T own s w h sn hsn n hE (by omega)
    · have e : cutE s (bs sn) n = 0 := by unfold cutE; rw [if_neg (by simp [hE]), if_neg hn]
      rw [e]
      obtain ⟨k, rfl⟩ : ∃ k : Nat, n = (k : Int) := ⟨n.toNat, by omega⟩
      rw [Int.toNat_natCast]
      by_cases hf : s.fuse = 1
      · rw [actE_blow rfl hf, actS_blow rfl hf]
        exact cut_blow T own s w h sn hsn k hE (by omega) hf
      · rw [actE_ok rfl hf, actS_ok rfl hf]
        refine cut_good T own s w h sn hsn k hE (by omega) hf ?_
        have := h.inv.cut (bs sn) (k : Int)
        rw [e, actS_ok rfl hf, Int.toNat_natCast] at this
        exact this
  · have e : cutE s (bs sn) n = fnd s (bs sn) [bs sn] := by unfold cutE; rw [if_pos hE]
    rw [e, actE_bad hE, actS_bad hE]
    exact cut_bad1 T own s w h sn hsn n hE
end Go.Proofs.Ytmahbcpkilegpaa
