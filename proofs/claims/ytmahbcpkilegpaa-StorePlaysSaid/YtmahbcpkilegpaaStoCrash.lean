/-
  Crash at every store and every row of numbers.
-/
import Derived.Test.YtmahbcpkilegpaaStoPut
import Derived.Test.YtmahbcpkilegpaaStoNames
import Derived.Test.YtmahbcpkilegpaaStoShort
import Derived.Deep.RegionHeld3
import Derived.Deep.QuietTactic
import Derived.BigQuiet
namespace Go.Proofs.Ytmahbcpkilegpaa
open Go.RowKit St

/-! ### Rows of numbers that are only read -/
def Ints (w : World) (A : Option Addr) (zs : List Int) : Prop := 0 < zs.length → ∃ b off, A = some ⟨b, off, none⟩ ∧ ∀ i, i < zs.length → w.cell? ⟨b, off + i, none⟩ = some (.int .i64 (zs.getD i 0))
theorem Ints.of {w : World} {B : Nat} {A : Option Addr} {zs : List Int} (h : Nums w B A zs) : Ints w A zs := fun hn => by
  obtain ⟨b, off, e, _, hc⟩ := h.2 hn; exact ⟨b, off, e, hc⟩
theorem Ints.own {w : World} {base : Nat} {A : Option Addr} {cap : Nat} {zs : List Int} (h : OwnN w base A cap zs) : Ints w A zs := fun hn => by
  obtain ⟨g, e, _, _⟩ := h.cell hn
  refine ⟨g, 0, e, fun i hi => ?_⟩
  obtain ⟨g2, e2, _, hc⟩ := h.cell hi
  rw [e] at e2; injection e2 with e2; injection e2 with e2
  subst e2
  rw [Nat.zero_add]; exact hc
theorem Ints.keep {w w' : World} {A : Option Addr} {zs : List Int} {own : Nat → Prop} (h : Ints w A zs) (ho : Only own w w') (hn : ∀ b off v, own b → w.cell? ⟨b, off, none⟩ ≠ some v) : Ints w' A zs := fun hp => by
  obtain ⟨b, off, e, hc⟩ := h hp
  refine ⟨b, off, e, fun i hi => ?_⟩
  have h0 := hc i hi
  exact (World.cell?_of_block (w := w) (ho.block b (block_lt h0) fun hb => hn b _ _ hb h0)).trans h0
theorem Ints.grow {w w' : World} {A : Option Addr} {zs : List Int} (h : Ints w A zs) (hb : Below w.heap.size w w') : Ints w' A zs := h.keep (own := fun _ => False) (Only.of hb) fun _ _ _ hf => hf.elim
theorem map_cell {w : World} {m : Nat} {E : F → Value} {l : List F} (h : PMap w m E l) (off : Nat) (v : Value) : w.cell? ⟨m, off, none⟩ ≠ some v := by
  obtain ⟨es, clock, hb, _⟩ := h
  simp [World.cell?, hb]
theorem Ints.at_ {w : World} {A : Option Addr} {zs : List Int} {k : Nat} (h : Ints w A zs) (hk : k < zs.length) : ∃ b off, A = some ⟨b, off, none⟩ ∧ w.cell? ⟨b, off + k, none⟩ = some (.int .i64 (zs.getD k 0)) := by
  obtain ⟨b, off, e, hc⟩ := h (by omega)
  exact ⟨b, off, e, hc k hk⟩
theorem Ints.tail {w : World} {A : Option Addr} {z : Int} {zs : List Int} (h : Ints w A (z :: zs)) (cap : Nat) (hc : (z :: zs).length ≤ cap) : Ints w (tailA A cap 1) zs := fun hn => by
  obtain ⟨b, off, e, hcell⟩ := h (by simp)
  refine ⟨b, off + 1, ?_, fun i hi => ?_⟩
  · rw [e]; unfold tailA
    rw [if_neg (by rw [List.length_cons] at hc; omega)]
    show some (Addr.add ⟨b, off, none⟩ 1) = _
    rw [add_off]
  · have := hcell (i + 1) (by rw [List.length_cons]; omega)
    rw [show off + 1 + i = off + (i + 1) by omega]
    exact this
theorem sizeN (W : World) : (sizeOf 3).run Try.prog W = .ok 1 W := by kernel_rfl
theorem elemN : Try.prog.elem 44 = 3 := by kernel_rfl
theorem undN : Try.prog.underlying 44 = some (.slice (Try.prog.elem 44)) := by rw [elemN]; exact Try.underlying44
theorem slice_fromN (A : Option Addr) (n cap k : Nat) (h : k ≤ n) (ik : IntKind) (W : World) :
    (Instr.slice 44 (.slice A n cap) (some (.int ik (k : Int))) none none).run Try.prog W = .ok (.slice (tailA A cap k) (n - k) (cap - k)) W := by
  rw [run_slice_l (P := Try.prog) (w := W) 44 A n cap undN ik k (by omega) (by omega), elemN, sizeN]
  simp [Result.andThen, sliced, tailA]

/-! ### The plain side of one round -/
theorem Inv.crashed {s : S} {pre r : List F} {f : F} (h : Inv { s with fs := pre ++ f :: r }) (k : Int) : Inv { s with fs := pre ++ crashF f k :: r } := by
  have e : (pre ++ crashF f k :: r).map F.nm = (pre ++ f :: r).map F.nm := by simp [crashF]
  have hs := h.sure f (by simp)
  refine ⟨sorted_names h.sorted e, names_of e h.names, fun g hg => ?_, ?_, h.room, ?_, h.fuse, h.keepl⟩
  · have hg : g ∈ pre ++ crashF f k :: r := hg
    rw [List.mem_append, List.mem_cons] at hg
    rcases hg with hg | rfl | hg
    · exact h.sure g (by simp [hg])
    · rw [crashF_len hs]; exact Nat.le_refl _
    · exact h.sure g (by simp [hg])
  · have ht := h.tot
    have tot_app : ∀ a b : List F, total (a ++ b) = total a + total b := fun a b => by
      induction a with
      | nil => simp [total]
      | cons x t ih => rw [List.cons_append, total, total, ih]; omega
    show total (pre ++ crashF f k :: r) ≤ s.room
    have ht : total (pre ++ f :: r) ≤ s.room := ht
    rw [tot_app, total] at ht ⊢
    rw [crashF_len hs]
    omega
  · have := congrArg List.length e
    simp at this
    have hc := h.count
    show (pre ++ crashF f k :: r).length ≤ 64
    have hc : (pre ++ f :: r).length ≤ 64 := hc
    simp at hc ⊢; omega

/-- Under way: k files are done, the list pre in their place; ks is what is left of the numbers. -/
structure Cr (w : World) (T : Nat) (own : Nat → Prop) (s : S) (m : Nat) (ka : Option Addr) (kc : Nat) (ks0 : List Int) (An : Option Addr) (ns : List ByteArray) (k : Nat) (A : Option Addr) (cap : Nat) (ks : List Int) (wr : World) (pre : List F) (Ad : List UInt8 → Option Addr × Nat) : Prop where
  len : pre.length = k
  le : k ≤ s.fs.length
  eq : crashL s.fs ks0 = pre ++ crashL (s.fs.drop k) ks
  ps : PS wr T (ext own w wr) { s with fs := pre ++ s.fs.drop k } Ad m ka kc
  ints : Ints wr A ks
  only : Only (fun b => b = m) w wr
  strs : Strs wr wr.heap.size An ns
  kl : ks.length ≤ cap
  kb : ks.length ≤ 4611686018427387904
theorem strs_only {w w' : World} {own : Nat → Prop} {B : Nat} {A : Option Addr} {ss : List ByteArray} (h : Strs w B A ss) (ho : Only own w w') (hn : ∀ b off v, own b → w.cell? ⟨b, off, none⟩ ≠ some v) : Strs w' w'.heap.size A ss :=
  ⟨h.1, fun hp => by
    obtain ⟨b, off, e, hl, hc⟩ := h.2 hp
    have h0 := hc 0 hp
    have hl' := block_lt h0
    exact ⟨b, off, e, by have := ho.size; omega, fun i hi => (World.cell?_of_block (w := w) (ho.block b hl' fun hb => hn b _ _ hb h0)).trans (hc i hi)⟩⟩
section
variable {w : World} {T : Nat} {own : Nat → Prop} {s : S} {m : Nat} {ka : Option Addr} {kc : Nat} {ks0 : List Int} {An : Option Addr} {ns : List ByteArray} {k : Nat} {A : Option Addr} {cap : Nat} {ks : List Int} {wr : World} {pre : List F} {Ad : List UInt8 → Option Addr × Nat}
theorem ext_lt {own : Nat → Prop} {w w' : World} (h : ∀ k, own k → k < w.heap.size) (hs : w.heap.size ≤ w'.heap.size) : ∀ k, ext own w w' k → k < w'.heap.size := fun k hk => by
  rcases hk with h1 | h1
  · have := h k h1; omega
  · exact h1.2
theorem Cr.grow (h : Cr w T own s m ka kc ks0 An ns k A cap ks wr pre Ad) (hown : ∀ k, own k → k < w.heap.size) {w' : World} (hb : Below wr.heap.size wr w') : Cr w T own s m ka kc ks0 An ns k A cap ks w' pre Ad :=
  ⟨h.len, h.le, h.eq, (h.ps.grow hb).more (fun k hk => by
      rcases hk with h1 | h1
      · exact .inl h1
      · exact .inr ⟨h1.1, by have := hb.size; omega⟩) (ext_lt hown (Nat.le_trans h.only.size hb.size)), h.ints.grow hb, h.only.trans (Only.of (own := fun _ => False) hb) (fun _ hf => hf.elim), strs_only (own := fun _ => False) h.strs (Only.of hb) (fun _ _ _ hf => hf.elim), h.kl, h.kb⟩
theorem Cr.head (h : Cr w T own s m ka kc ks0 An ns k A cap ks wr pre Ad) (hn : ns = (s.fs.map F.nm).map mkB) (hk : k < ns.length) :
    ∃ f r, s.fs.drop k = f :: r ∧ s.fs.drop (k + 1) = r ∧ f ∈ pre ++ s.fs.drop k ∧ ns.getD k ByteArray.empty = mkB f.nm ∧ find f.nm (pre ++ s.fs.drop k) = some f := by
  have hk' : k < s.fs.length := by rw [hn] at hk; simpa using hk
  refine ⟨s.fs[k], s.fs.drop (k + 1), List.drop_eq_getElem_cons hk', rfl, ?_, ?_, ?_⟩
  · exact List.mem_append.2 (.inr (by rw [List.drop_eq_getElem_cons hk']; exact List.mem_cons_self))
  · rw [hn, List.getD_eq_getElem?_getD]; simp [hk']
  · exact find_mem h.ps.inv.sorted (List.mem_append.2 (.inr (by rw [List.drop_eq_getElem_cons hk']; exact List.mem_cons_self)))
theorem Cr.skip (h : Cr w T own s m ka kc ks0 An ns k A cap ks wr pre Ad) {f : F} {r : List F} (hd : s.fs.drop k = f :: r) (hd2 : s.fs.drop (k + 1) = r) (he : f.sure = f.zs.length) : Cr w T own s m ka kc ks0 An ns (k + 1) A cap ks wr (pre ++ [f]) Ad := by
  have hk : k < s.fs.length := by
    have := congrArg List.length hd
    simp at this; omega
  refine ⟨by simp [h.len], hk, ?_, ?_, h.ints, h.only, h.strs, h.kl, h.kb⟩
  · rw [h.eq, hd, hd2]
    rw [show crashL (f :: r) ks = f :: crashL r ks by rw [crashL, if_pos he]]
    simp
  · have := h.ps
    rw [hd] at this
    rw [hd2, List.append_assoc]
    exact this
theorem Cr.step (h : Cr w T own s m ka kc ks0 An ns k A cap ks wr pre Ad) (hown : ∀ k, own k → k < w.heap.size) {f f' : F} {r : List F} (hd : s.fs.drop k = f :: r) (hd2 : s.fs.drop (k + 1) = r) (hne : f.sure ≠ f.zs.length) (hf' : f' = crashF f (ks.headD 0))
    {w2 w3 : World} {A' : Option Addr} {cap' : Nat} (hb : Below wr.heap.size wr w2) (row : OwnB w2 0 A' cap' f'.zs) (lies : Lies wr (Ad f.nm).1 A')
    (map : PMap w3 m (elt (upd Ad f.nm (A', cap'))) (put f' (pre ++ f :: r))) (turn : w2.mapTurned w3 m) {A2 : Option Addr} {cap2 : Nat} (hi : Ints wr A2 ks.tail) (hl : ks.tail.length ≤ cap2) :
    Cr w T own s m ka kc ks0 An ns (k + 1) A2 cap2 ks.tail w3 (pre ++ [f']) (upd Ad f.nm (A', cap')) := by
  have hk : k < s.fs.length := by
    have := congrArg List.length hd
    simp at this; omega
  have hnm : f'.nm = f.nm := by rw [hf']; rfl
  have p := h.ps
  rw [hd] at p
  have hfm : f ∈ pre ++ f :: r := by simp
  have inv2 : Inv { s with fs := pre ++ f' :: r } := by rw [hf']; exact Inv.crashed (s := s) p.inv _
  have hput : put f' (pre ++ f :: r) = pre ++ f' :: r := put_mid p.inv.sorted hnm
  have lt := p.lt
  obtain ⟨t1, t2, t3, t4, t5⟩ := turned_frame turn
  have only2 : Only (fun b => b = m) wr w3 := (Only.of (own := fun b => b = m) hb).trans (Only.turned turn (own := fun b => b = m) rfl) (fun i hi => .inl hi)
  have p2 := p.put (w1 := w2) (w2 := w3) f' A' cap' hb.size (hb.block _ (lt _ p.ownT)) (fun a ha => hb.block _ (lt _ (p.ownK a ha))) (fun g hg _ a ha => hb.block _ (lt _ (p.ownR g hg a ha))) row
    (by rw [hnm]; exact p.loc hfm lies) (by rw [hnm]; exact map) turn (by rw [show put f' ({ s with fs := pre ++ f :: r } : S).fs = pre ++ f' :: r from hput]; exact inv2)
  have only3 : Only (fun b => b = m) w w3 := h.only.trans only2 (fun i hi => .inl hi)
  refine ⟨by simp [h.len], hk, ?_, ?_, hi.keep only2 (fun b off v hb => by subst hb; exact map_cell p.map off v), only3, strs_only h.strs only2 (fun b off v hb => by subst hb; exact map_cell p.map off v), hl, by have := h.kb; rw [List.length_tail]; omega⟩
  · rw [h.eq, hd, hd2]
    rw [show crashL (f :: r) ks = f' :: crashL r ks.tail by rw [crashL, if_neg hne, hf']]
    simp
  · rw [hd2, List.append_assoc]
    have e : ({ ({ s with fs := pre ++ f :: r } : S) with fs := put f' ({ s with fs := pre ++ f :: r } : S).fs } : S) = { s with fs := pre ++ ([f'] ++ r) } := by
      show ({ s with fs := put f' (pre ++ f :: r) } : S) = _
      rw [hput]; rfl
    rw [e, hnm] at p2
    refine p2.more (fun b hbx => ?_) (ext_lt hown only3.size)
    rcases hbx with h1 | h1
    · rcases h1 with h2 | h2
      · exact .inl h2
      · exact .inr ⟨h2.1, by have := only2.size; omega⟩
    · exact .inr ⟨by have := h.only.size; omega, h1.2⟩
end
theorem elt_put {Ad : List UInt8 → Option Addr × Nat} {nm : List UInt8} {f' : F} {A : Option Addr} {cap : Nat} (h : f'.nm = nm) : elt (upd Ad nm (A, cap)) f' = .agg #[.slice A f'.zs.length cap, .int .i64 (f'.sure : Int)] := by
  subst h; exact elt_same
theorem turn_at {w w' : World} {m i : Nat} (h : w.mapTurned w' m) (hi : i ≠ m) : w'.heap[i]? = w.heap[i]? := (turned_frame h).2.2.2.2 i hi
theorem below_drew {w w' : World} (h : Below w.drew.heap.size w.drew w') : Below w.heap.size w w' := ⟨h.os, h.tape, h.output, h.size, h.block⟩
theorem crash_off (T : Nat) (own : Nat → Prop) (s : S) (A : Option Addr) (ks : List Int) (cap : Nat) (w : World) (h : PState w T own s) (ho : s.off = true) :
    Calls Try.prog 17 #[.pointer (some ⟨T, 0, none⟩), .slice A ks.length cap] w fun e w' => e = .returned (.tuple #[]) ∧ Leaves w T own (crash s ks) w' := by
  have e : crash s ks = s := by unfold crash; rw [if_pos ho]
  rw [e]
  have H := Lib.hid h
  obtain ⟨Ad, m, ka, kc, p⟩ := h
  obtain ⟨⟨_, _, c2, _, _⟩, _⟩ := obj5 p.obj
  rw [ho] at c2
  clear p ho e
  go_enter Try.func17, Try.ntmps17
  go_wp2
  refine bodyPost_ret (results_none rfl _ _ _) rfl ?_
  exact ⟨rfl, Leaves.same H.out (Below.refl _ _)⟩
set_option maxRecDepth 20000 in
set_option maxHeartbeats 8000000 in
theorem crash_on (T : Nat) (own : Nat → Prop) (s : S) (A0 : Option Addr) (ks0 : List Int) (cap0 : Nat) (hkl : ks0.length ≤ cap0) (hkb : ks0.length ≤ 4611686018427387904) (w : World) (h : PState w T own s) (hk : Ints w A0 ks0) (ho : s.off = false) :
    Calls Try.prog 17 #[.pointer (some ⟨T, 0, none⟩), .slice A0 ks0.length cap0] w fun e w' => e = .returned (.tuple #[]) ∧ Leaves w T own (crash s ks0) w' := by
  have NM := Lib.hid (names_any T own s w h)
  obtain ⟨Ad, m, ka, kc, p⟩ := h
  obtain ⟨⟨_, _, c2, _, _⟩, _⟩ := obj5 p.obj
  rw [ho] at c2
  have HP := Lib.hid p
  have HK := Lib.hid hk
  have HKL := Lib.hid hkl
  have HKB := Lib.hid hkb
  have HOF := Lib.hid ho
  clear p hk ho hkl hkb
  go_enter Try.func17, Try.ntmps17
  go_wp2_with fail
  refine NM.out.mono ?_; rintro e w0 ⟨An, capn, ns, hns, rfl, hstr, hb0⟩
  have ST : Hid (Cr w T own s m ka kc ks0 An ns 0 A0 cap0 ks0 w0 [] Ad) := Lib.hid
    ⟨rfl, Nat.zero_le _, by simp, (HP.out.grow hb0).more (fun k hk => .inl hk) (fun k hk => by
      rcases hk with h1 | h1
      · have := HP.out.lt k h1; have := hb0.size; omega
      · exact h1.2), HK.out.grow hb0, Only.of hb0, hstr, HKL.out, HKB.out⟩
  have LN : Hid (ns.length = s.fs.length) := Lib.hid (by rw [hns.out]; simp)
  have C64 := Lib.hid HP.out.inv.count
  have ln64 : (ns.length : Int) ≤ 64 := by have := LN.out; have := C64.out; omega
  clear hb0 hstr c2
  go_wp2
  go_loopw [1, 5, 6, 7, 15] (fun kv _ _ _ i wr => ∃ (k : Nat) (A : Option Addr) (n cap : Nat) (ks : List Int) (pre : List F) (Ad2 : List UInt8 → Option Addr × Nat), i = .int .i64 k ∧ kv = .slice A n cap ∧ Hid (n = ks.length) ∧ Cr w T own s m ka kc ks0 An ns k A cap ks wr pre Ad2) (fun _ _ _ _ i _ => ns.length - (intOf i).toNat)
  case atStart => exact ⟨0, A0, _, cap0, ks0, [], Ad, rfl, rfl, Lib.hid rfl, ST.out⟩
  case round =>
    obtain ⟨k, A, n, cap, ks, pre, Ad2, rfl, rfl, hn, hc⟩ := hrel
    have HC := Lib.hid hc
    clear hc
    by_cases hlt : k < ns.length
    · obtain ⟨f, r, hd, hd2, hfm, hnk, hfind⟩ := HC.out.head hns.out hlt
      obtain ⟨b, off, sn, rfl, hbb, hcell, hsn, hsz⟩ := HC.out.strs.at_ hlt
      have hbs : bs sn = f.nm := by rw [← hsn.out, hnk, mkB, bs_mk]
      obtain ⟨⟨_, c1, _, _, _⟩, _⟩ := obj5 HC.out.ps.obj
      have hlt' : (k : Int) < (ns.length : Int) := by omega
      have VAL : Hid (valO (elt Ad2) (find (bs sn) (pre ++ s.fs.drop k)) = .agg #[.slice (Ad2 f.nm).1 f.zs.length (Ad2 f.nm).2, .int .i64 (f.sure : Int)]) := Lib.hid (by rw [hbs, hfind]; rfl)
      have PM := Lib.hid HC.out.ps.map
      have HSZ := Lib.hid hsz
      have HD := Lib.hid hd
      have HD2 := Lib.hid hd2
      have HFM := Lib.hid hfm
      have HBS := Lib.hid hbs
      have HLT := Lib.hid hlt
      clear hnk hfind hbs hsz hd hd2 hfm hlt
      by_cases he : f.sure = f.zs.length
      · have he' : ((f.sure : Int) == (f.zs.length : Int)) = true := by simp [he]
        have HE := Lib.hid he
        clear he
        go_wp2_with (first
          | (at_lookup; refine wp_look rfl _ _ rfl rfl PM.out rfl HSZ.out _ VAL.out ?_)
          | go_in)
        go_roundw
        case rel => exact ⟨k + 1, A, n, cap, ks, _, Ad2, by go_num, rfl, hn, (HC.out.skip HD.out HD2.out HE.out).grow HP.out.lt ((Below.refl _ _).alloc (Nat.le_refl _) _)⟩
        case measure => have := HLT.out; simp [intOf]; omega
      · have he' : ((f.sure : Int) == (f.zs.length : Int)) = false := by simp; omega
        have HE := Lib.hid he
        clear he
        cases ks with
        | nil =>
          have hn0 : n = 0 := hn.out
          subst hn0
          go_wp2_with (first
            | (at_lookup; refine wp_look rfl _ _ rfl rfl PM.out rfl HSZ.out _ VAL.out ?_)
            | go_in)
          obtain ⟨f', hf'⟩ : ∃ f', f' = crashF f (0) := ⟨_, rfl⟩
          have HF := Lib.hid hf'
          have hnm : f'.nm = f.nm := by rw [hf']; rfl
          have HNM := Lib.hid hnm
          have B1 : Hid (Below wr.heap.size wr (wr.alloc (.cells #[.slice (Ad2 f.nm).1 f.zs.length (Ad2 f.nm).2, .int .i64 (f.sure : Int)] 64))) := Lib.hid ((Below.refl _ _).alloc (Nat.le_refl _) _)
          have X1 : Hid ((wr.alloc (.cells #[.slice (Ad2 f.nm).1 f.zs.length (Ad2 f.nm).2, .int .i64 (f.sure : Int)] 64)).heap[wr.heap.size]? = some (.cells #[.slice (Ad2 f.nm).1 f.zs.length (Ad2 f.nm).2, .int .i64 (f.sure : Int)] 64 (0, 0))) := Lib.hid (heap_alloc_new wr _)
          have H1 := Lib.hid (HC.out.grow HP.out.lt B1.out)
          clear hf' hnm c1 hcell
          generalize wr.alloc (.cells #[.slice (Ad2 f.nm).1 f.zs.length (Ad2 f.nm).2, .int .i64 (f.sure : Int)] 64) = w1 at *
          have p1 := H1.out.ps
          have CRD : Hid (Calls Try.prog 42 #[.agg #[.slice (Ad2 f.nm).1 f.zs.length (Ad2 f.nm).2, .int .i64 (f.sure : Int)], .int .i64 (0)] w1.drew fun e w' => ∃ A' cap', e = .returned (.agg #[.slice A' f'.zs.length cap', .int .i64 (f'.sure : Int)]) ∧ OwnB w' 0 A' cap' f'.zs ∧ Below w1.heap.size w1 w' ∧ Lies w1 (Ad2 f.nm).1 A') := Lib.hid (by
            have hs := p1.inv.sure f HFM.out
            have ht := p1.inv.tot
            have hr := p1.inv.room
            have hz := total_mem HFM.out
            refine (crashed_any (Ad2 f.nm).1 f.zs (Ad2 f.nm).2 f.sure (0) (by have := HE.out; omega) (Nat.le_trans hz (Nat.le_trans ht hr)) w1.drew ((p1.rows f HFM.out).keep fun _ _ => rfl)).mono ?_
            rintro e w' ⟨ys, A', cap', hy, rfl, h1, h2, h3⟩
            have hy2 : ys = f'.zs := by rw [hy.out, HF.out]; rfl
            subst hy2
            exact ⟨A', cap', by rw [HF.out]; rfl, h1, below_drew h2, h3⟩)
          have PM1 : Hid (PMap w1 m (elt Ad2) (pre ++ f :: r)) := Lib.hid (by have := p1.map; rw [HD.out] at this; exact this)
          have CNT : Hid ((pre ++ f :: r).length ≤ 1000000) := Lib.hid (by have h := p1.inv.count; have h : (pre ++ s.fs.drop k).length ≤ 64 := h; rw [HD.out] at h; omega)
          have ML : Hid (m < w1.heap.size) := Lib.hid (p1.lt m p1.ownM)
          have TL : Hid (T < w1.heap.size) := Lib.hid (p1.lt T p1.ownT)
          have TO := Lib.hid p1.obj
          have XL : Hid (wr.heap.size < w1.heap.size) := Lib.hid (lt_of_block X1.out)
          have HE2 : Hid (∀ v, ∀ g ∈ del f'.nm (pre ++ f :: r), elt (upd Ad2 f.nm v) g = elt Ad2 g) := Lib.hid fun v => by rw [HNM.out]; exact elt_other
          have HB2 : Hid (bs sn = f'.nm) := Lib.hid (HBS.out.trans HNM.out.symm)
          have HV : Hid (∀ A2 c2, (.agg #[.slice A2 f'.zs.length c2, .int .i64 (f'.sure : Int)] : Value) = elt (upd Ad2 f.nm (A2, c2)) f') := Lib.hid fun A2 c2 => (elt_put HNM.out).symm
          have TM : Hid (T ≠ m ∧ wr.heap.size ≠ m) := Lib.hid ⟨p1.obj_ne, p1.map.ne X1.out⟩
          clear p1
          obtain ⟨⟨x0, x1⟩, _⟩ := obj2 X1.out
          obtain ⟨⟨_, c1, _, _, _⟩, _⟩ := obj5 TO.out
          go_region_held3 (fun w' => w'.cell? ⟨T, 1, none⟩ = some (.map (some m)) ∧ w'.cell? ⟨wr.heap.size, 0, none⟩ = some (.slice (Ad2 f.nm).1 f.zs.length (Ad2 f.nm).2) ∧ w'.cell? ⟨wr.heap.size, 1, none⟩ = some (.int .i64 (f.sure : Int))) ((first | go_keep | exact ⟨c1, x0, x1⟩ | exact q2.out | exact q3.out))
            (first
              | (go_at_call 42; refine CRD.out.mono ?_; rintro e w2 ⟨A2, c2, rfl, ho2, hb2, hl2⟩; have q2 : Hid (w2.cell? ⟨T, 1, none⟩ = some (.map (some m)) ∧ w2.cell? ⟨wr.heap.size, 0, none⟩ = some (.slice (Ad2 f.nm).1 f.zs.length (Ad2 f.nm).2) ∧ w2.cell? ⟨wr.heap.size, 1, none⟩ = some (.int .i64 (f.sure : Int))) := Lib.hid ⟨(obj5 ((hb2.block _ TL.out).trans TO.out)).1.2.1, (obj2 ((hb2.block _ XL.out).trans X1.out)).1⟩; have PM2 := Lib.hid (PM1.out.keep (hb2.block _ ML.out)); have O2 := Lib.hid ho2; have D2 := Lib.hid hb2; have L2 := Lib.hid hl2; obtain ⟨w3, hrun, hmap, hturn⟩ := PM2.out.store (E' := elt (upd Ad2 f.nm (A2, c2))) CNT.out f' sn HSZ.out HB2.out _ (HV.out A2 c2) (HE2.out (A2, c2)); have q3 : Hid (w3.cell? ⟨T, 1, none⟩ = some (.map (some m)) ∧ w3.cell? ⟨wr.heap.size, 0, none⟩ = some (.slice (Ad2 f.nm).1 f.zs.length (Ad2 f.nm).2) ∧ w3.cell? ⟨wr.heap.size, 1, none⟩ = some (.int .i64 (f.sure : Int))) := Lib.hid ⟨(World.cell?_of_block (w := w2) (turn_at hturn TM.out.1)).trans q2.out.1, (World.cell?_of_block (w := w2) (turn_at hturn TM.out.2)).trans q2.out.2.1, (World.cell?_of_block (w := w2) (turn_at hturn TM.out.2)).trans q2.out.2.2⟩; have M3 := Lib.hid hmap; have T3 := Lib.hid hturn; clear ho2 hb2 hl2 hmap hturn))
          clear x0 x1 c1 q2 q3
          go_wp2
          go_roundw
          case rel => exact ⟨k + 1, A, 0, cap, _, _, _, by go_num, rfl, Lib.hid rfl, H1.out.step HP.out.lt HD.out HD2.out HE.out HF.out D2.out O2.out L2.out M3.out T3.out ((fun h => by simp at h)) (Nat.zero_le _)⟩
          case measure => have := HLT.out; simp [intOf]; omega
        | cons z t =>
          have hn1 : n = t.length + 1 := by rw [hn.out]; rfl
          obtain ⟨kb, koff, rfl, hkc⟩ := HC.out.ints.at_ (k := 0) (by simp)
          have hkc : wr.cell? ⟨kb, koff, none⟩ = some (.int .i64 z) := hkc
          have n0 : (0 : Int) < (n : Int) := by omega
          have KC := Lib.hid hkc
          have N1 := Lib.hid hn1
          have NC := Lib.hid (show n ≤ cap by have := HC.out.kl; rw [List.length_cons] at this; omega)
          clear hkc hn1
          go_wp2_with (first
            | (at_lookup; refine wp_look rfl _ _ rfl rfl PM.out rfl HSZ.out _ VAL.out ?_)
            | go_in)
          obtain ⟨f', hf'⟩ : ∃ f', f' = crashF f z := ⟨_, rfl⟩
          have HF := Lib.hid hf'
          have hnm : f'.nm = f.nm := by rw [hf']; rfl
          have HNM := Lib.hid hnm
          have B1 : Hid (Below wr.heap.size wr (wr.alloc (.cells #[.slice (Ad2 f.nm).1 f.zs.length (Ad2 f.nm).2, .int .i64 (f.sure : Int)] 64))) := Lib.hid ((Below.refl _ _).alloc (Nat.le_refl _) _)
          have X1 : Hid ((wr.alloc (.cells #[.slice (Ad2 f.nm).1 f.zs.length (Ad2 f.nm).2, .int .i64 (f.sure : Int)] 64)).heap[wr.heap.size]? = some (.cells #[.slice (Ad2 f.nm).1 f.zs.length (Ad2 f.nm).2, .int .i64 (f.sure : Int)] 64 (0, 0))) := Lib.hid (heap_alloc_new wr _)
          have H1 := Lib.hid (HC.out.grow HP.out.lt B1.out)
          clear hf' hnm c1 hcell
          generalize wr.alloc (.cells #[.slice (Ad2 f.nm).1 f.zs.length (Ad2 f.nm).2, .int .i64 (f.sure : Int)] 64) = w1 at *
          have kc1 : w1.cell? ⟨kb, koff, none⟩ = some (.int .i64 z) := (World.cell?_of_block (w := wr) (B1.out.block _ (block_lt KC.out))).trans KC.out
          have sl : ∀ W, (Instr.slice 44 (.slice (some ⟨kb, koff, none⟩) n cap) (some (.int .i64 1)) none none).run Try.prog W = .ok (.slice (tailA (some ⟨kb, koff, none⟩) cap 1) (n - 1) (cap - 1)) W := fun W => slice_fromN _ n cap 1 (by have := N1.out; omega) .i64 W
          go_quiet (fail)
          have X2 : Hid ((w1.drewN nq).heap[wr.heap.size]? = some (.cells #[.slice (Ad2 f.nm).1 f.zs.length (Ad2 f.nm).2, .int .i64 (f.sure : Int)] 64 (0, 0))) := X1.out
          have H2 := Lib.hid (H1.out.grow HP.out.lt (below_n (Below.refl _ _) nq))
          clear B1 X1 H1 kc1 sl
          generalize w1.drewN nq = wq at *
          go_wp2_with fail
          have p1 := H2.out.ps
          have CRD : Hid (Calls Try.prog 42 #[.agg #[.slice (Ad2 f.nm).1 f.zs.length (Ad2 f.nm).2, .int .i64 (f.sure : Int)], .int .i64 z] wq.drew fun e w' => ∃ A' cap', e = .returned (.agg #[.slice A' f'.zs.length cap', .int .i64 (f'.sure : Int)]) ∧ OwnB w' 0 A' cap' f'.zs ∧ Below wq.heap.size wq w' ∧ Lies wq (Ad2 f.nm).1 A') := Lib.hid (by
            have hs := p1.inv.sure f HFM.out
            have ht := p1.inv.tot
            have hr := p1.inv.room
            have hz := total_mem HFM.out
            refine (crashed_any (Ad2 f.nm).1 f.zs (Ad2 f.nm).2 f.sure z (by have := HE.out; omega) (Nat.le_trans hz (Nat.le_trans ht hr)) wq.drew ((p1.rows f HFM.out).keep fun _ _ => rfl)).mono ?_
            rintro e w' ⟨ys, A', cap', hy, rfl, h1, h2, h3⟩
            have hy2 : ys = f'.zs := by rw [hy.out, HF.out]; rfl
            subst hy2
            exact ⟨A', cap', by rw [HF.out]; rfl, h1, below_drew h2, h3⟩)
          have PM1 : Hid (PMap wq m (elt Ad2) (pre ++ f :: r)) := Lib.hid (by have := p1.map; rw [HD.out] at this; exact this)
          have CNT : Hid ((pre ++ f :: r).length ≤ 1000000) := Lib.hid (by have h := p1.inv.count; have h : (pre ++ s.fs.drop k).length ≤ 64 := h; rw [HD.out] at h; omega)
          have ML : Hid (m < wq.heap.size) := Lib.hid (p1.lt m p1.ownM)
          have TL : Hid (T < wq.heap.size) := Lib.hid (p1.lt T p1.ownT)
          have TO := Lib.hid p1.obj
          have XL : Hid (wr.heap.size < wq.heap.size) := Lib.hid (lt_of_block X2.out)
          have HE2 : Hid (∀ v, ∀ g ∈ del f'.nm (pre ++ f :: r), elt (upd Ad2 f.nm v) g = elt Ad2 g) := Lib.hid fun v => by rw [HNM.out]; exact elt_other
          have HB2 : Hid (bs sn = f'.nm) := Lib.hid (HBS.out.trans HNM.out.symm)
          have HV : Hid (∀ A2 c2, (.agg #[.slice A2 f'.zs.length c2, .int .i64 (f'.sure : Int)] : Value) = elt (upd Ad2 f.nm (A2, c2)) f') := Lib.hid fun A2 c2 => (elt_put HNM.out).symm
          have TM : Hid (T ≠ m ∧ wr.heap.size ≠ m) := Lib.hid ⟨p1.obj_ne, p1.map.ne X2.out⟩
          clear p1
          obtain ⟨⟨x0, x1⟩, _⟩ := obj2 X2.out
          obtain ⟨⟨_, c1, _, _, _⟩, _⟩ := obj5 TO.out
          go_region_held3 (fun w' => w'.cell? ⟨T, 1, none⟩ = some (.map (some m)) ∧ w'.cell? ⟨wr.heap.size, 0, none⟩ = some (.slice (Ad2 f.nm).1 f.zs.length (Ad2 f.nm).2) ∧ w'.cell? ⟨wr.heap.size, 1, none⟩ = some (.int .i64 (f.sure : Int))) ((first | go_keep | exact ⟨c1, x0, x1⟩ | exact q2.out | exact q3.out))
            (first
              | (go_at_call 42; refine CRD.out.mono ?_; rintro e w2 ⟨A2, c2, rfl, ho2, hb2, hl2⟩; have q2 : Hid (w2.cell? ⟨T, 1, none⟩ = some (.map (some m)) ∧ w2.cell? ⟨wr.heap.size, 0, none⟩ = some (.slice (Ad2 f.nm).1 f.zs.length (Ad2 f.nm).2) ∧ w2.cell? ⟨wr.heap.size, 1, none⟩ = some (.int .i64 (f.sure : Int))) := Lib.hid ⟨(obj5 ((hb2.block _ TL.out).trans TO.out)).1.2.1, (obj2 ((hb2.block _ XL.out).trans X2.out)).1⟩; have PM2 := Lib.hid (PM1.out.keep (hb2.block _ ML.out)); have O2 := Lib.hid ho2; have D2 := Lib.hid hb2; have L2 := Lib.hid hl2; obtain ⟨w3, hrun, hmap, hturn⟩ := PM2.out.store (E' := elt (upd Ad2 f.nm (A2, c2))) CNT.out f' sn HSZ.out HB2.out _ (HV.out A2 c2) (HE2.out (A2, c2)); have q3 : Hid (w3.cell? ⟨T, 1, none⟩ = some (.map (some m)) ∧ w3.cell? ⟨wr.heap.size, 0, none⟩ = some (.slice (Ad2 f.nm).1 f.zs.length (Ad2 f.nm).2) ∧ w3.cell? ⟨wr.heap.size, 1, none⟩ = some (.int .i64 (f.sure : Int))) := Lib.hid ⟨(World.cell?_of_block (w := w2) (turn_at hturn TM.out.1)).trans q2.out.1, (World.cell?_of_block (w := w2) (turn_at hturn TM.out.2)).trans q2.out.2.1, (World.cell?_of_block (w := w2) (turn_at hturn TM.out.2)).trans q2.out.2.2⟩; have M3 := Lib.hid hmap; have T3 := Lib.hid hturn; clear ho2 hb2 hl2 hmap hturn))
          clear x0 x1 c1 q2 q3
          go_wp2
          go_roundw
          case rel => exact ⟨k + 1, _, n - 1, cap - 1, _, _, _, by go_num, rfl, Lib.hid (show n - 1 = t.length by have := N1.out; omega), H2.out.step (ks := z :: t) HP.out.lt HD.out HD2.out HE.out HF.out D2.out O2.out L2.out M3.out T3.out ((H2.out.ints).tail cap H2.out.kl) (show t.length ≤ cap - 1 by have := N1.out; have := NC.out; omega)⟩
          case measure => have := HLT.out; simp [intOf]; omega
    · have hge : ¬ (k : Int) < (ns.length : Int) := by omega
      have ek : k = s.fs.length := by have := HC.out.le; have := LN.out; omega
      have EQ : Hid (crashL s.fs ks0 = pre) := Lib.hid (by
        have h := HC.out.eq
        rw [ek, List.drop_length] at h
        simpa [crashL] using h)
      have PP : Hid (PS wr T (ext own w wr) { s with fs := pre } Ad2 m ka kc) := Lib.hid (by
        have h := HC.out.ps
        rw [ek, List.drop_length, List.append_nil] at h
        exact h)
      have TO := Lib.hid PP.out.obj
      obtain ⟨⟨_, _, c2, c3, c4⟩, _, _, f2, f3, f4⟩ := obj5 TO.out
      clear hlt ek
      go_wp2
      go_end0
      have o3 := obj_set (o := 4) (obj_set (o := 3) (obj_set (o := 2) TO.out (.bool true)) (.int .i64 0)) (.slice none 0 0)
      have hp := PP.out.flags (own2 := ext own w wr) (off := true) (fuse := 0) (keep := []) (ka2 := none) (kc2 := 0) (w' := ((wr.setCell ⟨T, 2, none⟩ (.bool true)).setCell ⟨T, 3, none⟩ (.int .i64 0)).setCell ⟨T, 4, none⟩ (.slice none 0 0)) (by simp [World.setCell])
        (fun b _ hb => by rw [Below.heap_setCell _ _ _ _ hb, Below.heap_setCell _ _ _ _ hb, Below.heap_setCell _ _ _ _ hb]) o3 (OwnN.none_ _ _) (fun _ h => h) (fun b hb => by have := PP.out.lt b hb; simp [World.setCell]; exact this) (fun a ha => by cases ha) (Nat.zero_le _) (by simp)
      have e : crash s ks0 = { s with fs := pre, off := true, fuse := 0, keep := [] } := by
        unfold crash; rw [if_neg (by rw [HOF.out]; decide), EQ.out]
      rw [e]
      have hT : own T := HP.out.ownT
      refine ⟨rfl, ext own w wr, ⟨Ad2, m, none, 0, hp⟩, ?_, fun b hb => ?_⟩
      · exact ((HC.out.only.mono (own2 := own) fun b _ hb => by have hb : b = m := hb; rw [hb]; exact HP.out.ownM).trans ((Only.set own 2 wr _ hT).trans ((Only.set own 3 _ _ hT).trans (Only.set own 4 _ _ hT) (fun _ h => .inl h)) (fun _ h => .inl h)) (fun _ h => .inl h))
      · rcases hb with h1 | h1
        · exact .inl h1
        · exact .inr h1.1
theorem crash_any (T : Nat) (own : Nat → Prop) (s : S) (A : Option Addr) (ks : List Int) (cap : Nat) (hkl : ks.length ≤ cap) (hkb : ks.length ≤ 4611686018427387904) (w : World) (h : PState w T own s) (hk : Ints w A ks) :
    Calls Try.prog 17 #[.pointer (some ⟨T, 0, none⟩), .slice A ks.length cap] w fun e w' => e = .returned (.tuple #[]) ∧ Leaves w T own (crash s ks) w' := by
  cases ho : s.off with
  | true => exact crash_off T own s A ks cap w h ho
  | false => exact crash_on T own s A ks cap hkl hkb w h hk ho
end Go.Proofs.Ytmahbcpkilegpaa
