/-
  Part 14 of the texts behind the law: StoCrash, StoBlow, StoSmall, StoDrop, StoSwap, StoCut.
-/
import Derived.Test.YtdbhicifjljjnaaGreatDoorMf11
import Derived.Test.YtdbhicifjljjnaaGreatDoorMf13
import Derived.Deep.RegionHeld3
import Derived.Deep.QuietTactic
import Derived.BigQuiet
/-
  Crash at every store and every row of numbers.
-/
namespace Go.Proofs.YtdbhicifjljjnaaGreatDoor
open Go.RowKit St

/-! ### Rows of numbers that are only read -/
def Ints (w : World) (A : Option Addr) (zs : List Int) : Prop := 0 < zs.length → ∃ b off, A = some ⟨b, off, none⟩ ∧ ∀ i, i < zs.length → w.cell? ⟨b, off + i, none⟩ = some (.int .i64 (zs.getD i 0))
theorem Ints.of {w : World} {B : Nat} {A : Option Addr} {zs : List Int} (h : Nums w B A zs) : Ints w A zs := fun hn => by
  obtain ⟨b, off, e, _, hc⟩ := h.2 hn; exact ⟨b, off, e, hc⟩
theorem Ints.own {w : World} {base : Nat} {A : Option Addr} {cap : Nat} {zs : List Int} (h : OwnN w base A cap zs) : Ints w A zs := fun hn => by
  obtain ⟨g, e, _, _⟩ := h.cell hn
  refine ⟨g, 0, e, fun i hi => ?_⟩
  obtain ⟨g2, e2, _, hc⟩ := h.cell hi
  rw [e] at e2; injection e2 with e2; injection e2 with e2
  subst e2
  rw [Nat.zero_add]; exact hc
theorem Ints.keep {w w' : World} {A : Option Addr} {zs : List Int} {own : Nat → Prop} (h : Ints w A zs) (ho : Only own w w') (hn : ∀ b off v, own b → w.cell? ⟨b, off, none⟩ ≠ some v) : Ints w' A zs := fun hp => by
  obtain ⟨b, off, e, hc⟩ := h hp
  refine ⟨b, off, e, fun i hi => ?_⟩
  have h0 := hc i hi
  exact (World.cell?_of_block (w := w) (ho.block b (block_lt h0) fun hb => hn b _ _ hb h0)).trans h0
theorem Ints.grow {w w' : World} {A : Option Addr} {zs : List Int} (h : Ints w A zs) (hb : Below w.heap.size w w') : Ints w' A zs := h.keep (own := fun _ => False) (Only.of hb) fun _ _ _ hf => hf.elim
theorem map_cell {w : World} {m : Nat} {E : F → Value} {l : List F} (h : PMap w m E l) (off : Nat) (v : Value) : w.cell? ⟨m, off, none⟩ ≠ some v := by
  obtain ⟨es, clock, hb, _⟩ := h
  simp [World.cell?, hb]
theorem Ints.at_ {w : World} {A : Option Addr} {zs : List Int} {k : Nat} (h : Ints w A zs) (hk : k < zs.length) : ∃ b off, A = some ⟨b, off, none⟩ ∧ w.cell? ⟨b, off + k, none⟩ = some (.int .i64 (zs.getD k 0)) := by
  obtain ⟨b, off, e, hc⟩ := h (by omega)
  exact ⟨b, off, e, hc k hk⟩
theorem Ints.tail {w : World} {A : Option Addr} {z : Int} {zs : List Int} (h : Ints w A (z :: zs)) (cap : Nat) (hc : (z :: zs).length ≤ cap) : Ints w (tailA A cap 1) zs := fun hn => by
  obtain ⟨b, off, e, hcell⟩ := h (by simp)
  refine ⟨b, off + 1, ?_, fun i hi => ?_⟩
  · rw [e]; unfold tailA
    rw [if_neg (by rw [List.length_cons] at hc; omega)]
    show some (Addr.add ⟨b, off, none⟩ 1) = _
    rw [add_off]
  · have := hcell (i + 1) (by rw [List.length_cons]; omega)
    rw [show off + 1 + i = off + (i + 1) by omega]
    exact this
theorem sizeN (W : World) : (sizeOf 3).run Tryz.prog W = .ok 1 W := by kernel_rfl
theorem elemN : Tryz.prog.elem 23 = 3 := by kernel_rfl
theorem undN : Tryz.prog.underlying 23 = some (.slice (Tryz.prog.elem 23)) := by rw [elemN]; exact Tryz.underlying23
theorem slice_fromN (A : Option Addr) (n cap k : Nat) (h : k ≤ n) (ik : IntKind) (W : World) :
    (Instr.slice 23 (.slice A n cap) (some (.int ik (k : Int))) none none).run Tryz.prog W = .ok (.slice (tailA A cap k) (n - k) (cap - k)) W := by
  rw [run_slice_l (P := Tryz.prog) (w := W) 23 A n cap undN ik k (by omega) (by omega), elemN, sizeN]
  simp [Result.andThen, sliced, tailA]

/-! ### The plain side of one round -/
theorem Inv.crashed {s : S} {pre r : List F} {f : F} (h : Inv { s with fs := pre ++ f :: r }) (k : Int) : Inv { s with fs := pre ++ crashF f k :: r } := by
  have e : (pre ++ crashF f k :: r).map F.nm = (pre ++ f :: r).map F.nm := by simp [crashF]
  have hs := h.sure f (by simp)
  refine ⟨sorted_names h.sorted e, names_of e h.names, fun g hg => ?_, ?_, h.room, ?_, h.fuse, h.keepl⟩
  · have hg : g ∈ pre ++ crashF f k :: r := hg
    rw [List.mem_append, List.mem_cons] at hg
    rcases hg with hg | rfl | hg
    · exact h.sure g (by simp [hg])
    · rw [crashF_len hs]; exact Nat.le_refl _
    · exact h.sure g (by simp [hg])
  · have ht := h.tot
    have tot_app : ∀ a b : List F, total (a ++ b) = total a + total b := fun a b => by
      induction a with
      | nil => simp [total]
      | cons x t ih => rw [List.cons_append, total, total, ih]; omega
    show total (pre ++ crashF f k :: r) ≤ s.room
    have ht : total (pre ++ f :: r) ≤ s.room := ht
    rw [tot_app, total] at ht ⊢
    rw [crashF_len hs]
    omega
  · have := congrArg List.length e
    simp at this
    have hc := h.count
    show (pre ++ crashF f k :: r).length ≤ 64
    have hc : (pre ++ f :: r).length ≤ 64 := hc
    simp at hc ⊢; omega

/-- Under way: k files are done, the list pre in their place; ks is what is left of the numbers. -/
structure Cr (w : World) (T : Nat) (own : Nat → Prop) (s : S) (m : Nat) (ka : Option Addr) (kc : Nat) (ks0 : List Int) (An : Option Addr) (ns : List ByteArray) (k : Nat) (A : Option Addr) (cap : Nat) (ks : List Int) (wr : World) (pre : List F) (Ad : List UInt8 → Option Addr × Nat) : Prop where
  len : pre.length = k
  le : k ≤ s.fs.length
  eq : crashL s.fs ks0 = pre ++ crashL (s.fs.drop k) ks
  ps : PS wr T (ext own w wr) { s with fs := pre ++ s.fs.drop k } Ad m ka kc
  ints : Ints wr A ks
  only : Only (fun b => b = m) w wr
  strs : Strs wr wr.heap.size An ns
  kl : ks.length ≤ cap
  kb : ks.length ≤ 4611686018427387904
theorem strs_only {w w' : World} {own : Nat → Prop} {B : Nat} {A : Option Addr} {ss : List ByteArray} (h : Strs w B A ss) (ho : Only own w w') (hn : ∀ b off v, own b → w.cell? ⟨b, off, none⟩ ≠ some v) : Strs w' w'.heap.size A ss :=
  ⟨h.1, fun hp => by
    obtain ⟨b, off, e, hl, hc⟩ := h.2 hp
    have h0 := hc 0 hp
    have hl' := block_lt h0
    exact ⟨b, off, e, by have := ho.size; omega, fun i hi => (World.cell?_of_block (w := w) (ho.block b hl' fun hb => hn b _ _ hb h0)).trans (hc i hi)⟩⟩
section
variable {w : World} {T : Nat} {own : Nat → Prop} {s : S} {m : Nat} {ka : Option Addr} {kc : Nat} {ks0 : List Int} {An : Option Addr} {ns : List ByteArray} {k : Nat} {A : Option Addr} {cap : Nat} {ks : List Int} {wr : World} {pre : List F} {Ad : List UInt8 → Option Addr × Nat}
theorem ext_lt {own : Nat → Prop} {w w' : World} (h : ∀ k, own k → k < w.heap.size) (hs : w.heap.size ≤ w'.heap.size) : ∀ k, ext own w w' k → k < w'.heap.size := fun k hk => by
  rcases hk with h1 | h1
  · have := h k h1; omega
  · exact h1.2
theorem Cr.grow (h : Cr w T own s m ka kc ks0 An ns k A cap ks wr pre Ad) (hown : ∀ k, own k → k < w.heap.size) {w' : World} (hb : Below wr.heap.size wr w') : Cr w T own s m ka kc ks0 An ns k A cap ks w' pre Ad :=
  ⟨h.len, h.le, h.eq, (h.ps.grow hb).more (fun k hk => by
      rcases hk with h1 | h1
      · exact .inl h1
      · exact .inr ⟨h1.1, by have := hb.size; omega⟩) (ext_lt hown (Nat.le_trans h.only.size hb.size)), h.ints.grow hb, h.only.trans (Only.of (own := fun _ => False) hb) (fun _ hf => hf.elim), strs_only (own := fun _ => False) h.strs (Only.of hb) (fun _ _ _ hf => hf.elim), h.kl, h.kb⟩
theorem Cr.head (h : Cr w T own s m ka kc ks0 An ns k A cap ks wr pre Ad) (hn : ns = (s.fs.map F.nm).map mkB) (hk : k < ns.length) :
    ∃ f r, s.fs.drop k = f :: r ∧ s.fs.drop (k + 1) = r ∧ f ∈ pre ++ s.fs.drop k ∧ ns.getD k ByteArray.empty = mkB f.nm ∧ find f.nm (pre ++ s.fs.drop k) = some f := by
  have hk' : k < s.fs.length := by rw [hn] at hk; simpa using hk
  refine ⟨s.fs[k], s.fs.drop (k + 1), List.drop_eq_getElem_cons hk', rfl, ?_, ?_, ?_⟩
  · exact List.mem_append.2 (.inr (by rw [List.drop_eq_getElem_cons hk']; exact List.mem_cons_self))
  · rw [hn, List.getD_eq_getElem?_getD]; simp [hk']
  · exact find_mem h.ps.inv.sorted (List.mem_append.2 (.inr (by rw [List.drop_eq_getElem_cons hk']; exact List.mem_cons_self)))
theorem Cr.skip (h : Cr w T own s m ka kc ks0 An ns k A cap ks wr pre Ad) {f : F} {r : List F} (hd : s.fs.drop k = f :: r) (hd2 : s.fs.drop (k + 1) = r) (he : f.sure = f.zs.length) : Cr w T own s m ka kc ks0 An ns (k + 1) A cap ks wr (pre ++ [f]) Ad := by
  have hk : k < s.fs.length := by
    have := congrArg List.length hd
    simp at this; omega
  refine ⟨by simp [h.len], hk, ?_, ?_, h.ints, h.only, h.strs, h.kl, h.kb⟩
  · rw [h.eq, hd, hd2]
    rw [show crashL (f :: r) ks = f :: crashL r ks by rw [crashL, if_pos he]]
    simp
  · have := h.ps
    rw [hd] at this
    rw [hd2, List.append_assoc]
    exact this
theorem Cr.step (h : Cr w T own s m ka kc ks0 An ns k A cap ks wr pre Ad) (hown : ∀ k, own k → k < w.heap.size) {f f' : F} {r : List F} (hd : s.fs.drop k = f :: r) (hd2 : s.fs.drop (k + 1) = r) (hne : f.sure ≠ f.zs.length) (hf' : f' = crashF f (ks.headD 0))
    {w2 w3 : World} {A' : Option Addr} {cap' : Nat} (hb : Below wr.heap.size wr w2) (row : OwnB w2 0 A' cap' f'.zs) (lies : Lies wr (Ad f.nm).1 A')
    (map : PMap w3 m (elt (upd Ad f.nm (A', cap'))) (put f' (pre ++ f :: r))) (turn : w2.mapTurned w3 m) {A2 : Option Addr} {cap2 : Nat} (hi : Ints wr A2 ks.tail) (hl : ks.tail.length ≤ cap2) :
    Cr w T own s m ka kc ks0 An ns (k + 1) A2 cap2 ks.tail w3 (pre ++ [f']) (upd Ad f.nm (A', cap')) := by
  have hk : k < s.fs.length := by
    have := congrArg List.length hd
    simp at this; omega
  have hnm : f'.nm = f.nm := by rw [hf']; rfl
  have p := h.ps
  rw [hd] at p
  have hfm : f ∈ pre ++ f :: r := by simp
  have inv2 : Inv { s with fs := pre ++ f' :: r } := by rw [hf']; exact Inv.crashed (s := s) p.inv _
  have hput : put f' (pre ++ f :: r) = pre ++ f' :: r := put_mid p.inv.sorted hnm
  have lt := p.lt
  obtain ⟨t1, t2, t3, t4, t5⟩ := turned_frame turn
  have only2 : Only (fun b => b = m) wr w3 := (Only.of (own := fun b => b = m) hb).trans (Only.turned turn (own := fun b => b = m) rfl) (fun i hi => .inl hi)
  have p2 := p.put (w1 := w2) (w2 := w3) f' A' cap' hb.size (hb.block _ (lt _ p.ownT)) (fun a ha => hb.block _ (lt _ (p.ownK a ha))) (fun g hg _ a ha => hb.block _ (lt _ (p.ownR g hg a ha))) row
    (by rw [hnm]; exact p.loc hfm lies) (by rw [hnm]; exact map) turn (by rw [show put f' ({ s with fs := pre ++ f :: r } : S).fs = pre ++ f' :: r from hput]; exact inv2)
  have only3 : Only (fun b => b = m) w w3 := h.only.trans only2 (fun i hi => .inl hi)
  refine ⟨by simp [h.len], hk, ?_, ?_, hi.keep only2 (fun b off v hb => by subst hb; exact map_cell p.map off v), only3, strs_only h.strs only2 (fun b off v hb => by subst hb; exact map_cell p.map off v), hl, by have := h.kb; rw [List.length_tail]; omega⟩
  · rw [h.eq, hd, hd2]
    rw [show crashL (f :: r) ks = f' :: crashL r ks.tail by rw [crashL, if_neg hne, hf']]
    simp
  · rw [hd2, List.append_assoc]
    have e : ({ ({ s with fs := pre ++ f :: r } : S) with fs := put f' ({ s with fs := pre ++ f :: r } : S).fs } : S) = { s with fs := pre ++ ([f'] ++ r) } := by
      show ({ s with fs := put f' (pre ++ f :: r) } : S) = _
      rw [hput]; rfl
    rw [e, hnm] at p2
    refine p2.more (fun b hbx => ?_) (ext_lt hown only3.size)
    rcases hbx with h1 | h1
    · rcases h1 with h2 | h2
      · exact .inl h2
      · exact .inr ⟨h2.1, by have := only2.size; omega⟩
    · exact .inr ⟨by have := h.only.size; omega, h1.2⟩
end
theorem elt_put {Ad : List UInt8 → Option Addr × Nat} {nm : List UInt8} {f' : F} {A : Option Addr} {cap : Nat} (h : f'.nm = nm) : elt (upd Ad nm (A, cap)) f' = .agg #[.slice A f'.zs.length cap, .int .i64 (f'.sure : Int)] := by
  subst h; exact elt_same
theorem turn_at {w w' : World} {m i : Nat} (h : w.mapTurned w' m) (hi : i ≠ m) : w'.heap[i]? = w.heap[i]? := (turned_frame h).2.2.2.2 i hi
theorem below_drew {w w' : World} (h : Below w.drew.heap.size w.drew w') : Below w.heap.size w w' := ⟨h.os, h.tape, h.output, h.size, h.block⟩
theorem crash_off (T : Nat) (own : Nat → Prop) (s : S) (A : Option Addr) (ks : List Int) (cap : Nat) (w : World) (h : PState w T own s) (ho : s.off = true) :
    Calls Tryz.prog 14 #[.pointer (some ⟨T, 0, none⟩), .slice A ks.length cap] w fun e w' => e = .returned (.tuple #[]) ∧ Leaves w T own (crash s ks) w' := by
  have e : crash s ks = s := by unfold crash; rw [if_pos ho]
  rw [e]
  have H := Lib.hid h
  obtain ⟨Ad, m, ka, kc, p⟩ := h
  obtain ⟨⟨_, _, c2, _, _⟩, _⟩ := obj5 p.obj
  rw [ho] at c2
  clear p ho e
  go_enter Tryz.func14, Tryz.ntmps14
  go_wp2
  refine bodyPost_ret (results_none rfl _ _ _) rfl ?_
  exact ⟨rfl, Leaves.same H.out (Below.refl _ _)⟩
set_option maxRecDepth 20000 in
set_option maxHeartbeats 8000000 in
theorem crash_on (T : Nat) (own : Nat → Prop) (s : S) (A0 : Option Addr) (ks0 : List Int) (cap0 : Nat) (hkl : ks0.length ≤ cap0) (hkb : ks0.length ≤ 4611686018427387904) (w : World) (h : PState w T own s) (hk : Ints w A0 ks0) (ho : s.off = false) :
    Calls Tryz.prog 14 #[.pointer (some ⟨T, 0, none⟩), .slice A0 ks0.length cap0] w fun e w' => e = .returned (.tuple #[]) ∧ Leaves w T own (crash s ks0) w' := by
  have NM := Lib.hid (names_any T own s w h)
  obtain ⟨Ad, m, ka, kc, p⟩ := h
  obtain ⟨⟨_, _, c2, _, _⟩, _⟩ := obj5 p.obj
  rw [ho] at c2
  have HP := Lib.hid p
  have HK := Lib.hid hk
  have HKL := Lib.hid hkl
  have HKB := Lib.hid hkb
  have HOF := Lib.hid ho
  clear p hk ho hkl hkb
  go_enter Tryz.func14, Tryz.ntmps14
  go_wp2_with fail
  refine NM.out.mono ?_; rintro e w0 ⟨An, capn, ns, hns, rfl, hstr, hb0⟩
  have ST : Hid (Cr w T own s m ka kc ks0 An ns 0 A0 cap0 ks0 w0 [] Ad) := Lib.hid
    ⟨rfl, Nat.zero_le _, by simp, (HP.out.grow hb0).more (fun k hk => .inl hk) (fun k hk => by
      rcases hk with h1 | h1
      · have := HP.out.lt k h1; have := hb0.size; omega
      · exact h1.2), HK.out.grow hb0, Only.of hb0, hstr, HKL.out, HKB.out⟩
  have LN : Hid (ns.length = s.fs.length) := Lib.hid (by rw [hns.out]; simp)
  have C64 := Lib.hid HP.out.inv.count
  have ln64 : (ns.length : Int) ≤ 64 := by have := LN.out; have := C64.out; omega
  clear hb0 hstr c2
  go_wp2
  go_loopw [1, 5, 6, 7, 15] (fun kv _ _ _ i wr => ∃ (k : Nat) (A : Option Addr) (n cap : Nat) (ks : List Int) (pre : List F) (Ad2 : List UInt8 → Option Addr × Nat), i = .int .i64 k ∧ kv = .slice A n cap ∧ Hid (n = ks.length) ∧ Cr w T own s m ka kc ks0 An ns k A cap ks wr pre Ad2) (fun _ _ _ _ i _ => ns.length - (intOf i).toNat)
  case atStart => exact ⟨0, A0, _, cap0, ks0, [], Ad, rfl, rfl, Lib.hid rfl, ST.out⟩
  case round =>
    obtain ⟨k, A, n, cap, ks, pre, Ad2, rfl, rfl, hn, hc⟩ := hrel
    have HC := Lib.hid hc
    clear hc
    by_cases hlt : k < ns.length
    · obtain ⟨f, r, hd, hd2, hfm, hnk, hfind⟩ := HC.out.head hns.out hlt
      obtain ⟨b, off, sn, rfl, hbb, hcell, hsn, hsz⟩ := HC.out.strs.at_ hlt
      have hbs : bs sn = f.nm := by rw [← hsn.out, hnk, mkB, bs_mk]
      obtain ⟨⟨_, c1, _, _, _⟩, _⟩ := obj5 HC.out.ps.obj
      have hlt' : (k : Int) < (ns.length : Int) := by omega
      have VAL : Hid (valO (elt Ad2) (find (bs sn) (pre ++ s.fs.drop k)) = .agg #[.slice (Ad2 f.nm).1 f.zs.length (Ad2 f.nm).2, .int .i64 (f.sure : Int)]) := Lib.hid (by rw [hbs, hfind]; rfl)
      have PM := Lib.hid HC.out.ps.map
      have HSZ := Lib.hid hsz
      have HD := Lib.hid hd
      have HD2 := Lib.hid hd2
      have HFM := Lib.hid hfm
      have HBS := Lib.hid hbs
      have HLT := Lib.hid hlt
      clear hnk hfind hbs hsz hd hd2 hfm hlt
      by_cases he : f.sure = f.zs.length
      · have he' : ((f.sure : Int) == (f.zs.length : Int)) = true := by simp [he]
        have HE := Lib.hid he
        clear he
        go_wp2_with (first
          | (at_lookup; refine wp_look rfl _ _ rfl rfl PM.out rfl HSZ.out _ VAL.out ?_)
          | go_in)
        go_roundw
        case rel => exact ⟨k + 1, A, n, cap, ks, _, Ad2, by go_num, rfl, hn, (HC.out.skip HD.out HD2.out HE.out).grow HP.out.lt ((Below.refl _ _).alloc (Nat.le_refl _) _)⟩
        case measure => have := HLT.out; simp [intOf]; omega
      · have he' : ((f.sure : Int) == (f.zs.length : Int)) = false := by simp; omega
        have HE := Lib.hid he
        clear he
        cases ks with
        | nil =>
          have hn0 : n = 0 := hn.out
          subst hn0
          go_wp2_with (first
            | (at_lookup; refine wp_look rfl _ _ rfl rfl PM.out rfl HSZ.out _ VAL.out ?_)
            | go_in)
          obtain ⟨f', hf'⟩ : ∃ f', f' = crashF f (0) := ⟨_, rfl⟩
          have HF := Lib.hid hf'
          have hnm : f'.nm = f.nm := by rw [hf']; rfl
          have HNM := Lib.hid hnm
          have B1 : Hid (Below wr.heap.size wr (wr.alloc (.cells #[.slice (Ad2 f.nm).1 f.zs.length (Ad2 f.nm).2, .int .i64 (f.sure : Int)] 80))) := Lib.hid ((Below.refl _ _).alloc (Nat.le_refl _) _)
          have X1 : Hid ((wr.alloc (.cells #[.slice (Ad2 f.nm).1 f.zs.length (Ad2 f.nm).2, .int .i64 (f.sure : Int)] 80)).heap[wr.heap.size]? = some (.cells #[.slice (Ad2 f.nm).1 f.zs.length (Ad2 f.nm).2, .int .i64 (f.sure : Int)] 80 (0, 0))) := Lib.hid (heap_alloc_new wr _)
          have H1 := Lib.hid (HC.out.grow HP.out.lt B1.out)
          clear hf' hnm c1 hcell
          generalize wr.alloc (.cells #[.slice (Ad2 f.nm).1 f.zs.length (Ad2 f.nm).2, .int .i64 (f.sure : Int)] 80) = w1 at *
          have p1 := H1.out.ps
          have CRD : Hid (Calls Tryz.prog 35 #[.agg #[.slice (Ad2 f.nm).1 f.zs.length (Ad2 f.nm).2, .int .i64 (f.sure : Int)], .int .i64 (0)] w1.drew fun e w' => ∃ A' cap', e = .returned (.agg #[.slice A' f'.zs.length cap', .int .i64 (f'.sure : Int)]) ∧ OwnB w' 0 A' cap' f'.zs ∧ Below w1.heap.size w1 w' ∧ Lies w1 (Ad2 f.nm).1 A') := Lib.hid (by
            have hs := p1.inv.sure f HFM.out
            have ht := p1.inv.tot
            have hr := p1.inv.room
            have hz := total_mem HFM.out
            refine (crashed_any (Ad2 f.nm).1 f.zs (Ad2 f.nm).2 f.sure (0) (by have := HE.out; omega) (Nat.le_trans hz (Nat.le_trans ht hr)) w1.drew ((p1.rows f HFM.out).keep fun _ _ => rfl)).mono ?_
            rintro e w' ⟨ys, A', cap', hy, rfl, h1, h2, h3⟩
            have hy2 : ys = f'.zs := by rw [hy.out, HF.out]; rfl
            subst hy2
            exact ⟨A', cap', by rw [HF.out]; rfl, h1, below_drew h2, h3⟩)
          have PM1 : Hid (PMap w1 m (elt Ad2) (pre ++ f :: r)) := Lib.hid (by have := p1.map; rw [HD.out] at this; exact this)
          have CNT : Hid ((pre ++ f :: r).length ≤ 1000000) := Lib.hid (by have h := p1.inv.count; have h : (pre ++ s.fs.drop k).length ≤ 64 := h; rw [HD.out] at h; omega)
          have ML : Hid (m < w1.heap.size) := Lib.hid (p1.lt m p1.ownM)
          have TL : Hid (T < w1.heap.size) := Lib.hid (p1.lt T p1.ownT)
          have TO := Lib.hid p1.obj
          have XL : Hid (wr.heap.size < w1.heap.size) := Lib.hid (lt_of_block X1.out)
          have HE2 : Hid (∀ v, ∀ g ∈ del f'.nm (pre ++ f :: r), elt (upd Ad2 f.nm v) g = elt Ad2 g) := Lib.hid fun v => by rw [HNM.out]; exact elt_other
          have HB2 : Hid (bs sn = f'.nm) := Lib.hid (HBS.out.trans HNM.out.symm)
          have HV : Hid (∀ A2 c2, (.agg #[.slice A2 f'.zs.length c2, .int .i64 (f'.sure : Int)] : Value) = elt (upd Ad2 f.nm (A2, c2)) f') := Lib.hid fun A2 c2 => (elt_put HNM.out).symm
          have TM : Hid (T ≠ m ∧ wr.heap.size ≠ m) := Lib.hid ⟨p1.obj_ne, p1.map.ne X1.out⟩
          clear p1
          obtain ⟨⟨x0, x1⟩, _⟩ := obj2 X1.out
          obtain ⟨⟨_, c1, _, _, _⟩, _⟩ := obj5 TO.out
          go_region_held3 (fun w' => w'.cell? ⟨T, 1, none⟩ = some (.map (some m)) ∧ w'.cell? ⟨wr.heap.size, 0, none⟩ = some (.slice (Ad2 f.nm).1 f.zs.length (Ad2 f.nm).2) ∧ w'.cell? ⟨wr.heap.size, 1, none⟩ = some (.int .i64 (f.sure : Int))) ((first | go_keep | exact ⟨c1, x0, x1⟩ | exact q2.out | exact q3.out))
            (first
              | (go_at_call 35; refine CRD.out.mono ?_; rintro e w2 ⟨A2, c2, rfl, ho2, hb2, hl2⟩; have q2 : Hid (w2.cell? ⟨T, 1, none⟩ = some (.map (some m)) ∧ w2.cell? ⟨wr.heap.size, 0, none⟩ = some (.slice (Ad2 f.nm).1 f.zs.length (Ad2 f.nm).2) ∧ w2.cell? ⟨wr.heap.size, 1, none⟩ = some (.int .i64 (f.sure : Int))) := Lib.hid ⟨(obj5 ((hb2.block _ TL.out).trans TO.out)).1.2.1, (obj2 ((hb2.block _ XL.out).trans X1.out)).1⟩; have PM2 := Lib.hid (PM1.out.keep (hb2.block _ ML.out)); have O2 := Lib.hid ho2; have D2 := Lib.hid hb2; have L2 := Lib.hid hl2; obtain ⟨w3, hrun, hmap, hturn⟩ := PM2.out.store (E' := elt (upd Ad2 f.nm (A2, c2))) CNT.out f' sn HSZ.out HB2.out _ (HV.out A2 c2) (HE2.out (A2, c2)); have q3 : Hid (w3.cell? ⟨T, 1, none⟩ = some (.map (some m)) ∧ w3.cell? ⟨wr.heap.size, 0, none⟩ = some (.slice (Ad2 f.nm).1 f.zs.length (Ad2 f.nm).2) ∧ w3.cell? ⟨wr.heap.size, 1, none⟩ = some (.int .i64 (f.sure : Int))) := Lib.hid ⟨(World.cell?_of_block (w := w2) (turn_at hturn TM.out.1)).trans q2.out.1, (World.cell?_of_block (w := w2) (turn_at hturn TM.out.2)).trans q2.out.2.1, (World.cell?_of_block (w := w2) (turn_at hturn TM.out.2)).trans q2.out.2.2⟩; have M3 := Lib.hid hmap; have T3 := Lib.hid hturn; clear ho2 hb2 hl2 hmap hturn))
          clear x0 x1 c1 q2 q3
          go_wp2
          go_roundw
          case rel => exact ⟨k + 1, A, 0, cap, _, _, _, by go_num, rfl, Lib.hid rfl, H1.out.step HP.out.lt HD.out HD2.out HE.out HF.out D2.out O2.out L2.out M3.out T3.out ((fun h => by simp at h)) (Nat.zero_le _)⟩
          case measure => have := HLT.out; simp [intOf]; omega
        | cons z t =>
          have hn1 : n = t.length + 1 := by rw [hn.out]; rfl
          obtain ⟨kb, koff, rfl, hkc⟩ := HC.out.ints.at_ (k := 0) (by simp)
          have hkc : wr.cell? ⟨kb, koff, none⟩ = some (.int .i64 z) := hkc
          have n0 : (0 : Int) < (n : Int) := by omega
          have KC := Lib.hid hkc
          have N1 := Lib.hid hn1
          have NC := Lib.hid (show n ≤ cap by have := HC.out.kl; rw [List.length_cons] at this; omega)
          clear hkc hn1
          go_wp2_with (first
            | (at_lookup; refine wp_look rfl _ _ rfl rfl PM.out rfl HSZ.out _ VAL.out ?_)
            | go_in)
          obtain ⟨f', hf'⟩ : ∃ f', f' = crashF f z := ⟨_, rfl⟩
          have HF := Lib.hid hf'
          have hnm : f'.nm = f.nm := by rw [hf']; rfl
          have HNM := Lib.hid hnm
          have B1 : Hid (Below wr.heap.size wr (wr.alloc (.cells #[.slice (Ad2 f.nm).1 f.zs.length (Ad2 f.nm).2, .int .i64 (f.sure : Int)] 80))) := Lib.hid ((Below.refl _ _).alloc (Nat.le_refl _) _)
          have X1 : Hid ((wr.alloc (.cells #[.slice (Ad2 f.nm).1 f.zs.length (Ad2 f.nm).2, .int .i64 (f.sure : Int)] 80)).heap[wr.heap.size]? = some (.cells #[.slice (Ad2 f.nm).1 f.zs.length (Ad2 f.nm).2, .int .i64 (f.sure : Int)] 80 (0, 0))) := Lib.hid (heap_alloc_new wr _)
          have H1 := Lib.hid (HC.out.grow HP.out.lt B1.out)
          clear hf' hnm c1 hcell
          generalize wr.alloc (.cells #[.slice (Ad2 f.nm).1 f.zs.length (Ad2 f.nm).2, .int .i64 (f.sure : Int)] 80) = w1 at *
          have kc1 : w1.cell? ⟨kb, koff, none⟩ = some (.int .i64 z) := (World.cell?_of_block (w := wr) (B1.out.block _ (block_lt KC.out))).trans KC.out
          have sl : ∀ W, (Instr.slice 23 (.slice (some ⟨kb, koff, none⟩) n cap) (some (.int .i64 1)) none none).run Tryz.prog W = .ok (.slice (tailA (some ⟨kb, koff, none⟩) cap 1) (n - 1) (cap - 1)) W := fun W => slice_fromN _ n cap 1 (by have := N1.out; omega) .i64 W
          go_quiet (fail)
          have X2 : Hid ((w1.drewN nq).heap[wr.heap.size]? = some (.cells #[.slice (Ad2 f.nm).1 f.zs.length (Ad2 f.nm).2, .int .i64 (f.sure : Int)] 80 (0, 0))) := X1.out
          have H2 := Lib.hid (H1.out.grow HP.out.lt (below_n (Below.refl _ _) nq))
          clear B1 X1 H1 kc1 sl
          generalize w1.drewN nq = wq at *
          go_wp2_with fail
          have p1 := H2.out.ps
          have CRD : Hid (Calls Tryz.prog 35 #[.agg #[.slice (Ad2 f.nm).1 f.zs.length (Ad2 f.nm).2, .int .i64 (f.sure : Int)], .int .i64 z] wq.drew fun e w' => ∃ A' cap', e = .returned (.agg #[.slice A' f'.zs.length cap', .int .i64 (f'.sure : Int)]) ∧ OwnB w' 0 A' cap' f'.zs ∧ Below wq.heap.size wq w' ∧ Lies wq (Ad2 f.nm).1 A') := Lib.hid (by
            have hs := p1.inv.sure f HFM.out
            have ht := p1.inv.tot
            have hr := p1.inv.room
            have hz := total_mem HFM.out
            refine (crashed_any (Ad2 f.nm).1 f.zs (Ad2 f.nm).2 f.sure z (by have := HE.out; omega) (Nat.le_trans hz (Nat.le_trans ht hr)) wq.drew ((p1.rows f HFM.out).keep fun _ _ => rfl)).mono ?_
            rintro e w' ⟨ys, A', cap', hy, rfl, h1, h2, h3⟩
            have hy2 : ys = f'.zs := by rw [hy.out, HF.out]; rfl
            subst hy2
            exact ⟨A', cap', by rw [HF.out]; rfl, h1, below_drew h2, h3⟩)
          have PM1 : Hid (PMap wq m (elt Ad2) (pre ++ f :: r)) := Lib.hid (by have := p1.map; rw [HD.out] at this; exact this)
          have CNT : Hid ((pre ++ f :: r).length ≤ 1000000) := Lib.hid (by have h := p1.inv.count; have h : (pre ++ s.fs.drop k).length ≤ 64 := h; rw [HD.out] at h; omega)
          have ML : Hid (m < wq.heap.size) := Lib.hid (p1.lt m p1.ownM)
          have TL : Hid (T < wq.heap.size) := Lib.hid (p1.lt T p1.ownT)
          have TO := Lib.hid p1.obj
          have XL : Hid (wr.heap.size < wq.heap.size) := Lib.hid (lt_of_block X2.out)
          have HE2 : Hid (∀ v, ∀ g ∈ del f'.nm (pre ++ f :: r), elt (upd Ad2 f.nm v) g = elt Ad2 g) := Lib.hid fun v => by rw [HNM.out]; exact elt_other
          have HB2 : Hid (bs sn = f'.nm) := Lib.hid (HBS.out.trans HNM.out.symm)
          have HV : Hid (∀ A2 c2, (.agg #[.slice A2 f'.zs.length c2, .int .i64 (f'.sure : Int)] : Value) = elt (upd Ad2 f.nm (A2, c2)) f') := Lib.hid fun A2 c2 => (elt_put HNM.out).symm
          have TM : Hid (T ≠ m ∧ wr.heap.size ≠ m) := Lib.hid ⟨p1.obj_ne, p1.map.ne X2.out⟩
          clear p1
          obtain ⟨⟨x0, x1⟩, _⟩ := obj2 X2.out
          obtain ⟨⟨_, c1, _, _, _⟩, _⟩ := obj5 TO.out
          go_region_held3 (fun w' => w'.cell? ⟨T, 1, none⟩ = some (.map (some m)) ∧ w'.cell? ⟨wr.heap.size, 0, none⟩ = some (.slice (Ad2 f.nm).1 f.zs.length (Ad2 f.nm).2) ∧ w'.cell? ⟨wr.heap.size, 1, none⟩ = some (.int .i64 (f.sure : Int))) ((first | go_keep | exact ⟨c1, x0, x1⟩ | exact q2.out | exact q3.out))
            (first
              | (go_at_call 35; refine CRD.out.mono ?_; rintro e w2 ⟨A2, c2, rfl, ho2, hb2, hl2⟩; have q2 : Hid (w2.cell? ⟨T, 1, none⟩ = some (.map (some m)) ∧ w2.cell? ⟨wr.heap.size, 0, none⟩ = some (.slice (Ad2 f.nm).1 f.zs.length (Ad2 f.nm).2) ∧ w2.cell? ⟨wr.heap.size, 1, none⟩ = some (.int .i64 (f.sure : Int))) := Lib.hid ⟨(obj5 ((hb2.block _ TL.out).trans TO.out)).1.2.1, (obj2 ((hb2.block _ XL.out).trans X2.out)).1⟩; have PM2 := Lib.hid (PM1.out.keep (hb2.block _ ML.out)); have O2 := Lib.hid ho2; have D2 := Lib.hid hb2; have L2 := Lib.hid hl2; obtain ⟨w3, hrun, hmap, hturn⟩ := PM2.out.store (E' := elt (upd Ad2 f.nm (A2, c2))) CNT.out f' sn HSZ.out HB2.out _ (HV.out A2 c2) (HE2.out (A2, c2)); have q3 : Hid (w3.cell? ⟨T, 1, none⟩ = some (.map (some m)) ∧ w3.cell? ⟨wr.heap.size, 0, none⟩ = some (.slice (Ad2 f.nm).1 f.zs.length (Ad2 f.nm).2) ∧ w3.cell? ⟨wr.heap.size, 1, none⟩ = some (.int .i64 (f.sure : Int))) := Lib.hid ⟨(World.cell?_of_block (w := w2) (turn_at hturn TM.out.1)).trans q2.out.1, (World.cell?_of_block (w := w2) (turn_at hturn TM.out.2)).trans q2.out.2.1, (World.cell?_of_block (w := w2) (turn_at hturn TM.out.2)).trans q2.out.2.2⟩; have M3 := Lib.hid hmap; have T3 := Lib.hid hturn; clear ho2 hb2 hl2 hmap hturn))
          clear x0 x1 c1 q2 q3
          go_wp2
          go_roundw
          case rel => exact ⟨k + 1, _, n - 1, cap - 1, _, _, _, by go_num, rfl, Lib.hid (show n - 1 = t.length by have := N1.out; omega), H2.out.step (ks := z :: t) HP.out.lt HD.out HD2.out HE.out HF.out D2.out O2.out L2.out M3.out T3.out ((H2.out.ints).tail cap H2.out.kl) (show t.length ≤ cap - 1 by have := N1.out; have := NC.out; omega)⟩
          case measure => have := HLT.out; simp [intOf]; omega
    · have hge : ¬ (k : Int) < (ns.length : Int) := by omega
      have ek : k = s.fs.length := by have := HC.out.le; have := LN.out; omega
      have EQ : Hid (crashL s.fs ks0 = pre) := Lib.hid (by
        have h := HC.out.eq
        rw [ek, List.drop_length] at h
        simpa [crashL] using h)
      have PP : Hid (PS wr T (ext own w wr) { s with fs := pre } Ad2 m ka kc) := Lib.hid (by
        have h := HC.out.ps
        rw [ek, List.drop_length, List.append_nil] at h
        exact h)
      have TO := Lib.hid PP.out.obj
      obtain ⟨⟨_, _, c2, c3, c4⟩, _, _, f2, f3, f4⟩ := obj5 TO.out
      clear hlt ek
      go_wp2
      go_end0
      have o3 := obj_set (o := 4) (obj_set (o := 3) (obj_set (o := 2) TO.out (.bool true)) (.int .i64 0)) (.slice none 0 0)
      have hp := PP.out.flags (own2 := ext own w wr) (off := true) (fuse := 0) (keep := []) (ka2 := none) (kc2 := 0) (w' := ((wr.setCell ⟨T, 2, none⟩ (.bool true)).setCell ⟨T, 3, none⟩ (.int .i64 0)).setCell ⟨T, 4, none⟩ (.slice none 0 0)) (by simp [World.setCell])
        (fun b _ hb => by rw [Below.heap_setCell _ _ _ _ hb, Below.heap_setCell _ _ _ _ hb, Below.heap_setCell _ _ _ _ hb]) o3 (OwnN.none_ _ _) (fun _ h => h) (fun b hb => by have := PP.out.lt b hb; simp [World.setCell]; exact this) (fun a ha => by cases ha) (Nat.zero_le _) (by simp)
      have e : crash s ks0 = { s with fs := pre, off := true, fuse := 0, keep := [] } := by
        unfold crash; rw [if_neg (by rw [HOF.out]; decide), EQ.out]
      rw [e]
      have hT : own T := HP.out.ownT
      refine ⟨rfl, ext own w wr, ⟨Ad2, m, none, 0, hp⟩, ?_, fun b hb => ?_⟩
      · exact ((HC.out.only.mono (own2 := own) fun b _ hb => by have hb : b = m := hb; rw [hb]; exact HP.out.ownM).trans ((Only.set own 2 wr _ hT).trans ((Only.set own 3 _ _ hT).trans (Only.set own 4 _ _ hT) (fun _ h => .inl h)) (fun _ h => .inl h)) (fun _ h => .inl h))
      · rcases hb with h1 | h1
        · exact .inl h1
        · exact .inr h1.1
theorem crash_any (T : Nat) (own : Nat → Prop) (s : S) (A : Option Addr) (ks : List Int) (cap : Nat) (hkl : ks.length ≤ cap) (hkb : ks.length ≤ 4611686018427387904) (w : World) (h : PState w T own s) (hk : Ints w A ks) :
    Calls Tryz.prog 14 #[.pointer (some ⟨T, 0, none⟩), .slice A ks.length cap] w fun e w' => e = .returned (.tuple #[]) ∧ Leaves w T own (crash s ks) w' := by
  cases ho : s.off with
  | true => exact crash_off T own s A ks cap w h ho
  | false => exact crash_on T own s A ks cap hkl hkb w h hk ho
end Go.Proofs.YtdbhicifjljjnaaGreatDoor
/-
  The fuse: blows at every store.
-/
namespace Go.Proofs.YtdbhicifjljjnaaGreatDoor
open Go.RowKit St

def blownS (s : S) : S := if s.fuse = 1 then crash { s with fuse := 0 } s.keep else { s with fuse := s.fuse - 1 }
theorem OwnN.capmax {w : World} {base : Nat} {A : Option Addr} {cap : Nat} {zs : List Int} (h : OwnN w base A cap zs) : zs.length ≤ cap := by
  rcases h.2 with ⟨e, e0⟩ | ⟨g, c', cur, e, _, _, hle, hm, _⟩
  · injection e with e1 e2 e3; omega
  · injection e with e1 e2 e3; omega
theorem fuse_set {w : World} {T : Nat} {own : Nat → Prop} {s : S} {Ad : List UInt8 → Option Addr × Nat} {m : Nat} {ka : Option Addr} {kc : Nat} (p : PS w T own s Ad m ka kc) (n : Nat) (hn : n ≤ 9223372036854775807) (v : Int) (hv : v = (n : Int)) :
    PS (w.setCell ⟨T, 3, none⟩ (.int .i64 v)) T own { s with fuse := n } Ad m ka kc ∧ Step own own w (w.setCell ⟨T, 3, none⟩ (.int .i64 v)) := by
  subst hv
  refine ⟨p.flags (own2 := own) (off := s.off) (fuse := n) (keep := s.keep) (ka2 := ka) (kc2 := kc) (by simp [World.setCell]) (fun b _ hb => Below.heap_setCell _ _ _ _ hb) (obj_set (o := 3) p.obj _) ?_ (fun _ h => h) (fun b hb => by have := p.lt b hb; simp [World.setCell]; exact this) p.ownK hn p.inv.keepl, Only.set own 3 w _ p.ownT, fun _ h => .inl h⟩
  exact p.keep.keep fun a ha => Below.heap_setCell _ _ _ _ (p.keep_ne ha).1
theorem blows_zero (T : Nat) (own : Nat → Prop) (s : S) (w : World) (h : PState w T own s) (hf : s.fuse = 0) :
    Calls Tryz.prog 45 #[.pointer (some ⟨T, 0, none⟩)] w fun e w' => e = .returned (.bool false) ∧ Leaves w T own { s with fuse := s.fuse - 1 } w' := by
  have e : ({ s with fuse := s.fuse - 1 } : S) = s := by cases s; simp at hf ⊢; omega
  rw [e]
  have H := Lib.hid h
  obtain ⟨Ad, m, ka, kc, p⟩ := h
  obtain ⟨⟨_, _, _, c3, _⟩, _⟩ := obj5 p.obj
  rw [hf] at c3
  have c3 : w.cell? ⟨T, 3, none⟩ = some (.int .i64 0) := c3
  clear p hf e
  go_enter Tryz.func45, Tryz.ntmps45
  go_wp2
  go_ret
  exact ⟨rfl, Leaves.same H.out (Below.refl _ _)⟩
set_option maxHeartbeats 1000000 in
theorem blows_more (T : Nat) (own : Nat → Prop) (s : S) (w : World) (h : PState w T own s) (hf : 2 ≤ s.fuse) :
    Calls Tryz.prog 45 #[.pointer (some ⟨T, 0, none⟩)] w fun e w' => e = .returned (.bool false) ∧ Leaves w T own { s with fuse := s.fuse - 1 } w' := by
  obtain ⟨Ad, m, ka, kc, p⟩ := h
  have hi := p.inv.fuse
  obtain ⟨⟨_, _, _, c3, _⟩, _, _, _, f3, _⟩ := obj5 p.obj
  have FS := Lib.hid (fuse_set p (s.fuse - 1) (by omega) ((s.fuse : Int) - 1) (by omega))
  have g0 : 2 ≤ (s.fuse : Int) := by omega
  have g1 : (s.fuse : Int) ≤ 9223372036854775807 := by omega
  clear p hf hi
  go_enter Tryz.func45, Tryz.ntmps45
  go_wp2
  go_ret
  exact ⟨rfl, own, ⟨Ad, m, ka, kc, FS.out.1⟩, FS.out.2⟩
set_option maxHeartbeats 1000000 in
theorem blows_one (T : Nat) (own : Nat → Prop) (s : S) (w : World) (h : PState w T own s) (hf : s.fuse = 1) :
    Calls Tryz.prog 45 #[.pointer (some ⟨T, 0, none⟩)] w fun e w' => e = .returned (.bool true) ∧ Leaves w T own (crash { s with fuse := 0 } s.keep) w' := by
  obtain ⟨Ad, m, ka, kc, p⟩ := h
  obtain ⟨⟨_, _, _, c3, c4⟩, _, _, _, f3, _⟩ := obj5 p.obj
  rw [hf] at c3
  have c3 : w.cell? ⟨T, 3, none⟩ = some (.int .i64 1) := c3
  have FS := Lib.hid (fuse_set p 0 (by omega) 0 rfl)
  have KP : Hid (Ints (w.setCell ⟨T, 3, none⟩ (.int .i64 0)) ka s.keep) := Lib.hid (Ints.own FS.out.1.keep)
  have CR := Lib.hid (crash_any T own { s with fuse := 0 } ka s.keep kc p.keep.capmax (by have := p.inv.keepl; omega) _ ⟨Ad, m, ka, kc, FS.out.1⟩ KP.out)
  clear p hf
  go_enter Tryz.func45, Tryz.ntmps45
  go_wp2_with fail
  refine CR.out.mono ?_; rintro e w2 ⟨rfl, hl⟩
  have HL := Lib.hid hl
  clear hl
  go_wp2
  go_ret
  exact ⟨rfl, HL.out.trans FS.out.2⟩
theorem blows_any (T : Nat) (own : Nat → Prop) (s : S) (w : World) (h : PState w T own s) :
    Calls Tryz.prog 45 #[.pointer (some ⟨T, 0, none⟩)] w fun e w' => e = .returned (.bool (decide (s.fuse = 1))) ∧ Leaves w T own (blownS s) w' := by
  unfold blownS
  by_cases h1 : s.fuse = 1
  · rw [if_pos h1]
    refine (blows_one T own s w h h1).mono ?_
    rintro e w' ⟨rfl, hl⟩
    exact ⟨by simp [h1], hl⟩
  · rw [if_neg h1]
    by_cases h0 : s.fuse = 0
    · refine (blows_zero T own s w h h0).mono ?_
      rintro e w' ⟨rfl, hl⟩
      exact ⟨by simp [h1], hl⟩
    · refine (blows_more T own s w h (by omega)).mono ?_
      rintro e w' ⟨rfl, hl⟩
      exact ⟨by simp [h1], hl⟩
set_option maxHeartbeats 1000000 in
/-- Where the fuse does not end, nothing but its number has changed. -/
theorem blows_quiet (T : Nat) (own : Nat → Prop) (s : S) (Ad : List UInt8 → Option Addr × Nat) (m : Nat) (ka : Option Addr) (kc : Nat) (w : World) (p : PS w T own s Ad m ka kc) (hf : s.fuse ≠ 1) :
    Calls Tryz.prog 45 #[.pointer (some ⟨T, 0, none⟩)] w fun e w' => e = .returned (.bool false) ∧ PS w' T own { s with fuse := s.fuse - 1 } Ad m ka kc ∧ Step own own w w' ∧ w'.heap.size = w.heap.size ∧ ∀ k, k ≠ T → w'.heap[k]? = w.heap[k]? := by
  by_cases h0 : s.fuse = 0
  · have e : ({ s with fuse := s.fuse - 1 } : S) = s := by cases s; simp at h0 ⊢; omega
    rw [e]
    obtain ⟨⟨_, _, _, c3, _⟩, _⟩ := obj5 p.obj
    rw [h0] at c3
    have c3 : w.cell? ⟨T, 3, none⟩ = some (.int .i64 0) := c3
    have HP := Lib.hid p
    clear p hf h0 e
    go_enter Tryz.func45, Tryz.ntmps45
    go_wp2
    go_ret
    exact ⟨rfl, HP.out, Step.refl _ _, rfl, fun _ _ => rfl⟩
  · have hi := p.inv.fuse
    obtain ⟨⟨_, _, _, c3, _⟩, _, _, _, f3, _⟩ := obj5 p.obj
    have FS := Lib.hid (fuse_set p (s.fuse - 1) (by omega) ((s.fuse : Int) - 1) (by omega))
    have g0 : 2 ≤ (s.fuse : Int) := by omega
    have g1 : (s.fuse : Int) ≤ 9223372036854775807 := by omega
    clear p hf hi h0
    go_enter Tryz.func45, Tryz.ntmps45
    go_wp2
    go_ret
    exact ⟨rfl, FS.out.1, FS.out.2, by simp [World.setCell], fun k hk => Below.heap_setCell _ _ _ _ hk⟩
end Go.Proofs.YtdbhicifjljjnaaGreatDoor
/-
  The small methods of a store: New, On, Off, Sure, Read, Drop.
-/
namespace Go.Proofs.YtdbhicifjljjnaaGreatDoor
open Go.RowKit St

theorem full_nil (w : World) : Full w none 0 [] := .inl ⟨rfl, rfl, rfl⟩
set_option maxHeartbeats 1000000 in
theorem on_any (T : Nat) (own : Nat → Prop) (s : S) (w : World) (h : PState w T own s) :
    Calls Tryz.prog 15 #[.pointer (some ⟨T, 0, none⟩)] w fun e w' => e = .returned (.tuple #[]) ∧ Leaves w T own { s with off := false } w' := by
  obtain ⟨Ad, m, ka, kc, p⟩ := h
  obtain ⟨⟨_, _, c2, _, _⟩, _, _, f2, _, _⟩ := obj5 p.obj
  have FS : Hid (Leaves w T own { s with off := false } (w.setCell ⟨T, 2, none⟩ (.bool false))) := Lib.hid ⟨own, ⟨Ad, m, ka, kc, p.flags (own2 := own) (off := false) (fuse := s.fuse) (keep := s.keep) (ka2 := ka) (kc2 := kc) (by simp [World.setCell]) (fun b _ hb => Below.heap_setCell _ _ _ _ hb) (obj_set (o := 2) p.obj _)
    (p.keep.keep fun a ha => Below.heap_setCell _ _ _ _ (p.keep_ne ha).1) (fun _ h => h) (fun b hb => by have := p.lt b hb; simp [World.setCell]; exact this) p.ownK p.inv.fuse p.inv.keepl⟩, Only.set own 2 w _ p.ownT, fun _ h => .inl h⟩
  clear p
  go_enter Tryz.func15, Tryz.ntmps15
  go_wp2
  go_end0
  exact ⟨rfl, FS.out⟩
theorem off_any (T : Nat) (own : Nat → Prop) (s : S) (w : World) (h : PState w T own s) :
    Calls Tryz.prog 11 #[.pointer (some ⟨T, 0, none⟩)] w fun e w' => e = .returned (.bool s.off) ∧ w = w' := by
  obtain ⟨Ad, m, ka, kc, p⟩ := h
  obtain ⟨⟨_, _, c2, _, _⟩, _⟩ := obj5 p.obj
  clear p
  go_enter Tryz.func11, Tryz.ntmps11
  go_wp2
  go_ret
  exact ⟨rfl, rfl⟩
theorem field_sure (x : Value) (v : Int) (W : World) : (Instr.field 80 (.agg #[x, .int .i64 v]) 1).run Tryz.prog W = .ok (.int .i64 v) W := by kernel_rfl
theorem new_bad (room : Int) (h : room < 1 ∨ 16777216 < room) (w : World) : Calls Tryz.prog 23 #[.int .i64 room] w fun e w' => e = .returned (.tuple #[.pointer none, .int .i64 1]) ∧ w = w' := by
  rcases h with h | h
  · go_enter Tryz.func23, Tryz.ntmps23
    go_wp2
    go_ret2
    exact ⟨rfl, rfl⟩
  · have h1 : ¬ room < 1 := by omega
    go_enter Tryz.func23, Tryz.ntmps23
    go_wp2
    go_ret2
    exact ⟨rfl, rfl⟩
/-- The store that a call of New has made. -/
def NewPost (w : World) (room : Nat) (T : Nat) (w' : World) : Prop := ∃ own, PState w' T own ⟨room, [], false, 0, []⟩ ∧ Below w.heap.size w w' ∧ (∀ k, own k → w.heap.size ≤ k)
theorem made_store (w : World) (room : Nat) (hr : room ≤ 16777216) : NewPost w room (w.heap.size + 1) ((w.alloc (.map #[] 0)).alloc (.cells #[.int .i64 (room : Int), .map (some w.heap.size), .bool false, .int .i64 0, .slice none 0 0] 62)) := by
  have hb : Below w.heap.size w ((w.alloc (.map #[] 0)).alloc (.cells #[.int .i64 (room : Int), .map (some w.heap.size), .bool false, .int .i64 0, .slice none 0 0] 62)) := ((Below.refl _ _).alloc (Nat.le_refl _) _).alloc (by simp) _
  refine ⟨fun k => k = w.heap.size ∨ k = w.heap.size + 1, ⟨fun _ => (none, 0), w.heap.size, none, 0, ?_, ?_, fun f hf => by simp at hf, fun f hf => by simp at hf, OwnN.none_ _ _, .inr rfl, .inl rfl, fun f hf => by simp at hf, fun a ha => (by cases ha), fun k hk => ?_, Inv.start room hr⟩, hb, fun k hk => ?_⟩
  · have e : w.heap.size + 1 = (w.alloc (.map #[] 0)).heap.size := by simp
    rw [e]; exact heap_alloc_new _ _
  · exact (pmap_made w _).keep (Below.heap_alloc _ _ _ (by simp))
  · simp; rcases hk with rfl | rfl <;> omega
  · rcases hk with rfl | rfl <;> omega
set_option maxHeartbeats 1000000 in
theorem new_good (room : Nat) (h0 : 1 ≤ room) (hr : room ≤ 16777216) (w : World) :
    Calls Tryz.prog 23 #[.int .i64 (room : Int)] w fun e w' => e = .returned (.tuple #[.pointer (some ⟨w.heap.size + 1, 0, none⟩), .int .i64 0]) ∧ NewPost w room (w.heap.size + 1) w' := by
  have MS := Lib.hid (made_store w room hr)
  have hmm := @run_makeMap Tryz.prog
  have g0 : 1 ≤ (room : Int) := by omega
  have g1 : (room : Int) ≤ 16777216 := by omega
  clear h0 hr
  go_enter Tryz.func23, Tryz.ntmps23
  go_wp2
  go_ret2
  exact ⟨rfl, MS.out⟩

/-! ### Read -/
def ReadPost (w : World) (ys : List Int) (er : Int) (e : Ending) (w' : World) : Prop := ∃ zs A cap, Hid (zs = ys) ∧ e = .returned (.tuple #[.slice A zs.length cap, .int .i64 er]) ∧ OwnB w' w.heap.size A cap zs ∧ Below w.heap.size w w'
def readE (s : S) (nm : List UInt8) : Int := fnd s nm [nm]
def readL (s : S) (nm : List UInt8) : List Int := if readE s nm ≠ 0 then [] else (file s nm).zs
set_option maxHeartbeats 1000000 in
theorem read_any (T : Nat) (own : Nat → Prop) (s : S) (w : World) (h : PState w T own s) (sn : ByteArray) (hsn : sn.size ≤ 9223372036854775807) :
    Calls Tryz.prog 65 #[.pointer (some ⟨T, 0, none⟩), .string sn] w (ReadPost w (readL s (bs sn)) (readE s (bs sn))) := by
  obtain ⟨Ad, m, ka, kc, p⟩ := h
  by_cases hE : readE s (bs sn) = 0
  · obtain ⟨f, hfi, hc⟩ := find_ok T own s Ad m ka kc sn hsn none 0 0 [] rfl (by simp) w p (full_nil w) hE
    have FC := Lib.hid hc
    have hfm := (find_some hfi).1
    have e1 : readL s (bs sn) = f.zs := by unfold readL; rw [if_neg (by rw [hE]; simp), (file_mem hfi).1]
    rw [e1, hE]
    have HP := Lib.hid p
    have HFM := Lib.hid hfm
    have LB : Hid (f.zs.length ≤ 1000000000) := Lib.hid (by have h1 := total_mem hfm; have h2 := p.inv.tot; have h3 := p.inv.room; omega)
    clear p hc hfm hfi e1 hE hsn
    go_enter Tryz.func65, Tryz.ntmps65
    go_wp2_with fail
    refine FC.out.mono ?_; rintro e w2 ⟨rfl, hb⟩
    have B2 := Lib.hid hb
    have CL : Hid (∀ o, Calls Tryz.prog 42 #[.slice (Ad f.nm).1 f.zs.length (Ad f.nm).2] (w2.alloc o) (ClonePost (w2.alloc o) f.zs)) := Lib.hid fun o => clone_row _ _ _ LB.out _ (((HP.out.grow B2.out).rows f HFM.out).grew ((Below.refl _ _).alloc (Nat.le_refl _) o) (Nat.le_refl _))
    clear hb
    go_wp2_with fail
    refine (CL.out _).mono ?_; rintro e w3 ⟨zs, A, cap, hz, rfl, ho, h3⟩
    have HO := Lib.hid ho
    have B3 := Lib.hid ((B2.out.alloc B2.out.size _).trans (h3.mono (by have := B2.out.size; simp; omega)))
    clear ho h3
    go_wp2
    go_ret2
    exact ⟨zs, A, cap, hz, rfl, HO.out.low (by have := B2.out.size; simp; omega), B3.out⟩
  · have FC := Lib.hid (find_err T own s Ad m ka kc sn hsn none 0 0 [] rfl (by simp) w p (full_nil w) _ rfl hE)
    have e1 : readL s (bs sn) = [] := by unfold readL; rw [if_pos hE]
    rw [e1]
    have hne : (readE s (bs sn) == 0) = false := by rw [beq_eq_false_iff_ne]; exact hE
    have FC2 : Hid (Calls Tryz.prog 44 #[.pointer (some ⟨T, 0, none⟩), .string sn, .slice none 0 0] w (FindPost w (.agg #[.slice none 0 0, .int .i64 0]) (readE s (bs sn)))) := FC
    clear p hE hsn FC e1
    generalize readE s (bs sn) = er at *
    go_enter Tryz.func65, Tryz.ntmps65
    go_wp2_with fail
    refine FC2.out.mono ?_; rintro e w2 ⟨rfl, hb⟩
    have B2 := Lib.hid hb
    clear hb
    go_wp2
    go_ret2
    exact ⟨[], none, 0, Lib.hid rfl, rfl, OwnB.none_ _ _, B2.out.alloc B2.out.size _⟩
end Go.Proofs.YtdbhicifjljjnaaGreatDoor
/-
  Drop, Swap, Sync and Cut at every store.
-/
namespace Go.Proofs.YtdbhicifjljjnaaGreatDoor
open Go.RowKit St

def OpPost (w : World) (T : Nat) (own : Nat → Prop) (er : Int) (s' : S) (e : Ending) (w' : World) : Prop := e = .returned (.int .i64 er) ∧ Leaves w T own s' w'
theorem actE_bad {s : S} {e : Int} (h : e ≠ 0) : actE s e = e := by unfold actE; rw [if_pos h]
theorem actS_bad {s : S} {e : Int} {l : List F} (h : e ≠ 0) : actS s e l = s := by unfold actS; rw [if_pos h]
theorem actE_blow {s : S} {e : Int} (h : e = 0) (hf : s.fuse = 1) : actE s e = 11 := by unfold actE; rw [if_neg (by simp [h]), if_pos hf]
theorem actS_blow {s : S} {e : Int} {l : List F} (h : e = 0) (hf : s.fuse = 1) : actS s e l = crash { s with fuse := 0 } s.keep := by unfold actS; rw [if_neg (by simp [h]), if_pos hf]
theorem actE_ok {s : S} {e : Int} (h : e = 0) (hf : s.fuse ≠ 1) : actE s e = 0 := by unfold actE; rw [if_neg (by simp [h]), if_neg hf]
theorem actS_ok {s : S} {e : Int} {l : List F} (h : e = 0) (hf : s.fuse ≠ 1) : actS s e l = { s with fs := l, fuse := s.fuse - 1 } := by unfold actS; rw [if_neg (by simp [h]), if_neg hf]
/-- A store's file that is changed leaves the others' places; the state behind an operation that has taken effect. -/
theorem Leaves.mk_ {w w' : World} {T : Nat} {own own2 : Nat → Prop} {s : S} {Ad : List UInt8 → Option Addr × Nat} {m : Nat} {ka : Option Addr} {kc : Nat} (p : PS w' T own2 s Ad m ka kc) (h : Step own own2 w w') : Leaves w T own s w' := ⟨own2, ⟨Ad, m, ka, kc, p⟩, h⟩
set_option maxRecDepth 20000 in
set_option maxHeartbeats 2000000 in
theorem drop_any (T : Nat) (own : Nat → Prop) (s : S) (w : World) (h : PState w T own s) (sn : ByteArray) (hsn : sn.size ≤ 9223372036854775807) :
    Calls Tryz.prog 30 #[.pointer (some ⟨T, 0, none⟩), .string sn] w (OpPost w T own (actE s (fnd s (bs sn) [bs sn])) (actS s (fnd s (bs sn) [bs sn]) (del (bs sn) s.fs))) := by
  obtain ⟨Ad, m, ka, kc, p⟩ := h
  have HS := Lib.hid hsn
  by_cases hE : fnd s (bs sn) [bs sn] = 0
  · obtain ⟨f, hfi, hc⟩ := find_ok T own s Ad m ka kc sn hsn none 0 0 [] rfl (by simp) w p (full_nil w) hE
    have FC := Lib.hid hc
    have HP := Lib.hid p
    by_cases hfu : s.fuse = 1
    · rw [actE_blow hE hfu, actS_blow hE hfu]
      have HF := Lib.hid hfu
      clear p hc hfi hE hsn hfu
      go_enter Tryz.func30, Tryz.ntmps30
      go_wp2_with fail
      refine FC.out.mono ?_; rintro e w2 ⟨rfl, hb⟩
      have B2 := Lib.hid hb
      clear hb
      go_wp2_with fail
      refine (blows_one T own s _ ⟨Ad, m, ka, kc, HP.out.grow (B2.out.alloc B2.out.size _)⟩ HF.out).mono ?_; rintro e w3 ⟨rfl, hl⟩
      have HL := Lib.hid hl
      clear hl
      go_wp2
      go_ret
      exact ⟨rfl, Leaves.ahead (B2.out.alloc B2.out.size _) HL.out⟩
    · rw [actE_ok hE hfu, actS_ok hE hfu]
      have HF := Lib.hid hfu
      have HI : Hid (Inv { s with fs := del (bs sn) s.fs, fuse := s.fuse - 1 }) := Lib.hid (by have := p.inv.drop (bs sn) 0; rw [actS_ok rfl hfu] at this; exact this)
      clear p hc hfi hE hsn hfu
      go_enter Tryz.func30, Tryz.ntmps30
      go_wp2_with fail
      refine FC.out.mono ?_; rintro e w2 ⟨rfl, hb⟩
      have B2 := Lib.hid hb
      clear hb
      go_wp2_with fail
      refine (blows_quiet T own s Ad m ka kc _ (HP.out.grow (B2.out.alloc B2.out.size _)) HF.out).mono ?_; rintro e w3 ⟨rfl, hp3, hs3, _, _⟩
      have P3 := Lib.hid hp3
      have S3 := Lib.hid (hs3.ahead (B2.out.alloc B2.out.size _))
      have TO := Lib.hid hp3.obj
      have PM := Lib.hid hp3.map
      clear hp3 hs3
      obtain ⟨⟨_, c1, _, _, _⟩, _⟩ := obj5 TO.out
      go_wp2_with (first
        | (at_delete; refine wp_drop rfl _ _ rfl rfl PM.out rfl HS.out ?_; intro w4 hm4 ht4; have M4 := Lib.hid hm4; have T4 := Lib.hid ht4; clear hm4 ht4)
        | go_in)
      go_ret
      exact ⟨rfl, Leaves.mk_ (P3.out.drop (bs sn) M4.out T4.out HI.out) (S3.out.trans ⟨Only.turned T4.out P3.out.ownM, fun _ h => .inl h⟩)⟩
  · rw [actE_bad hE, actS_bad hE]
    have FC : Hid (Calls Tryz.prog 44 #[.pointer (some ⟨T, 0, none⟩), .string sn, .slice none 0 0] w (FindPost w (.agg #[.slice none 0 0, .int .i64 0]) (fnd s (bs sn) [bs sn]))) := Lib.hid (find_err T own s Ad m ka kc sn hsn none 0 0 [] rfl (by simp) w p (full_nil w) _ rfl hE)
    have hne : (fnd s (bs sn) [bs sn] == 0) = false := by rw [beq_eq_false_iff_ne]; exact hE
    have HP : Hid (PState w T own s) := Lib.hid ⟨Ad, m, ka, kc, p⟩
    clear p hE hsn
    generalize fnd s (bs sn) [bs sn] = er at *
    go_enter Tryz.func30, Tryz.ntmps30
    go_wp2_with fail
    refine FC.out.mono ?_; rintro e w2 ⟨rfl, hb⟩
    have B2 := Lib.hid hb
    clear hb
    go_wp2
    go_ret
    exact ⟨rfl, Leaves.same HP.out (B2.out.alloc B2.out.size _)⟩
end Go.Proofs.YtdbhicifjljjnaaGreatDoor
/-
  Swap and Sync at every store.
-/
namespace Go.Proofs.YtdbhicifjljjnaaGreatDoor
open Go.RowKit St

theorem full_one (w : World) (sn : ByteArray) (h : sn.size ≤ 9223372036854775807) : Full (w.alloc (.cells #[.string sn] 9)) (some ⟨w.heap.size, 0, none⟩) 1 [sn] := .inr ⟨rfl, by simp, by
  have := Strs.new1 w sn h (0, 0)
  have e : (w.alloc (.cells #[.string sn] 9 (0, 0))).heap.size = w.heap.size + 1 := by simp
  rw [e]; exact this⟩
theorem Only.setNew {own : Nat → Prop} {a w : World} {L : Nat} (h : Only own a w) (hL : a.heap.size ≤ L) (o : Nat) (v : Value) : Only own a (w.setCell ⟨L, o, none⟩ v) :=
  ⟨h.os, h.tape, h.output, by simp [World.setCell]; exact h.size, fun k hk hn => by rw [Below.heap_setCell _ _ _ _ (by show k ≠ L; omega)]; exact h.block k hk hn⟩
theorem Only.undrew {own : Nat → Prop} {w w' : World} (h : Only own w.drew w') : Only own w w' := ⟨h.os, h.tape, h.output, h.size, h.block⟩
theorem one_alloc (w : World) (o : Obj) : Below w.heap.size w (w.alloc o) := (Below.refl _ _).alloc (Nat.le_refl _) _
set_option maxRecDepth 20000 in
set_option maxHeartbeats 4000000 in
theorem swap_any (T : Nat) (own : Nat → Prop) (s : S) (w : World) (h : PState w T own s) (sa sb : ByteArray) (hsa : sa.size ≤ 9223372036854775807) (hsb : sb.size ≤ 9223372036854775807) :
    Calls Tryz.prog 59 #[.pointer (some ⟨T, 0, none⟩), .string sa, .string sb] w (OpPost w T own (actE s (fnd s (bs sa) [bs sb, bs sa])) (actS s (fnd s (bs sa) [bs sb, bs sa]) (swapL s (bs sa) (bs sb)))) := by
  obtain ⟨Ad, m, ka, kc, p⟩ := h
  have HA := Lib.hid hsa
  have HB := Lib.hid hsb
  have p1 := p.grow (one_alloc w (.cells #[.string sb] 9))
  by_cases hE : fnd s (bs sa) [bs sb, bs sa] = 0
  · obtain ⟨f, hfi, hc⟩ := find_ok T own s Ad m ka kc sa hsa _ 1 1 [sb] rfl (by simp) _ p1 (full_one w sb hsb) hE
    have FC := Lib.hid hc
    have HP := Lib.hid p
    by_cases hfu : s.fuse = 1
    · rw [actE_blow hE hfu, actS_blow hE hfu]
      have HF := Lib.hid hfu
      clear p p1 hc hfi hE hsa hsb hfu
      go_enter Tryz.func59, Tryz.ntmps59
      go_wp2_with fail
      refine FC.out.mono ?_; rintro e w2 ⟨rfl, hb⟩
      have B2 := Lib.hid ((one_alloc w (.cells #[.string sb] 9)).trans (hb.mono (by simp)))
      clear hb
      go_wp2_with fail
      refine (blows_one T own s _ ⟨Ad, m, ka, kc, HP.out.grow (B2.out.alloc B2.out.size _)⟩ HF.out).mono ?_; rintro e w3 ⟨rfl, hl⟩
      have HL := Lib.hid hl
      clear hl
      go_wp2
      go_ret
      exact ⟨rfl, Leaves.ahead (B2.out.alloc B2.out.size _) HL.out⟩
    · rw [actE_ok hE hfu, actS_ok hE hfu]
      have HF := Lib.hid hfu
      have HI : Hid (Inv { s with fs := swapL s (bs sa) (bs sb), fuse := s.fuse - 1 }) := Lib.hid (by have := p.inv.swap (bs sa) (bs sb); rw [actS_ok hE hfu] at this; exact this)
      have HI2 : Hid (Inv { s with fs := del (bs sa) s.fs, fuse := s.fuse - 1 }) := Lib.hid (by have := p.inv.drop (bs sa) 0; rw [actS_ok rfl hfu] at this; exact this)
      have hfm := find_some hfi
      have HFM := Lib.hid hfm
      have ESW : Hid (swapL s (bs sa) (bs sb) = put ⟨bs sb, f.zs, f.zs.length⟩ (del (bs sa) s.fs)) := Lib.hid (by show _ = _; unfold swapL; rw [(file_mem hfi).1])
      have ll : (f.zs.length : Int) ≤ 16777216 := by have h1 := total_mem hfm.1; have h2 := p.inv.tot; have h3 := p.inv.room; omega
      clear p p1 hc hfi hE hsa hsb hfu hfm
      go_enter Tryz.func59, Tryz.ntmps59
      go_wp2_with fail
      refine FC.out.mono ?_; rintro e w2 ⟨rfl, hb⟩
      have B2 := Lib.hid ((one_alloc w (.cells #[.string sb] 9)).trans (hb.mono (by simp)))
      clear hb
      go_wp2_with fail
      have X2 : Hid ((w2.alloc (.cells #[.slice (Ad f.nm).1 f.zs.length (Ad f.nm).2, .int .i64 (f.sure : Int)] 80)).heap[w2.heap.size]? = some (.cells #[.slice (Ad f.nm).1 f.zs.length (Ad f.nm).2, .int .i64 (f.sure : Int)] 80 (0, 0))) := Lib.hid (heap_alloc_new w2 _)
      refine (blows_quiet T own s Ad m ka kc _ (HP.out.grow (B2.out.alloc B2.out.size _)) HF.out).mono ?_; rintro e w3 ⟨rfl, hp3, hs3, hz3, hk3⟩
      have LO : Hid (∀ k, own k → k ≠ w2.heap.size) := Lib.hid fun k hk => by have := HP.out.lt k hk; have := B2.out.size; omega
      have X3 := Lib.hid ((hk3 w2.heap.size (LO.out T HP.out.ownT).symm).trans X2.out)
      have P3 := Lib.hid hp3
      have S3 := Lib.hid (hs3.ahead (B2.out.alloc B2.out.size _))
      have L3 : Hid (w2.heap.size < w3.heap.size) := Lib.hid (lt_of_block X3.out)
      clear hp3 hs3 hz3 hk3 X2
      have P4 : Hid (PS (w3.setCell ⟨w2.heap.size, 1, none⟩ (.int .i64 (f.zs.length : Int))) T own { s with fuse := s.fuse - 1 } Ad m ka kc) := Lib.hid (P3.out.same (by simp [World.setCell]) fun k hk => Below.heap_setCell _ _ _ _ (LO.out k hk))
      have X4 := Lib.hid (obj_set (o := 1) X3.out (.int .i64 (f.zs.length : Int)))
      have TO := Lib.hid P4.out.obj
      have PM := Lib.hid P4.out.map
      obtain ⟨⟨_, c1, _, _, _⟩, _⟩ := obj5 TO.out
      obtain ⟨⟨x0, x1⟩, g0, g1⟩ := obj2 X3.out
      go_wp2_with (first
        | (at_delete; refine wp_drop rfl _ _ rfl rfl PM.out rfl HA.out ?_; intro w5 hm5 ht5; have M5 := Lib.hid hm5; have T5 := Lib.hid ht5; clear hm5 ht5)
        | go_in)
      go_frame
      have P5 := Lib.hid (P4.out.drop (bs sa) M5.out T5.out HI2.out)
      have X5 := Lib.hid ((turn_at T5.out (P4.out.map.ne X4.out)).trans X4.out)
      have ROW : Hid (OwnB w5.drew 0 (Ad f.nm).1 (Ad f.nm).2 f.zs) := Lib.hid (((P4.out.rows f HFM.out.1).not_map T5.out).keep fun _ _ => rfl)
      have TO5 := Lib.hid P5.out.obj
      obtain ⟨f', hf'⟩ : ∃ f', f' = (⟨bs sb, f.zs, f.zs.length⟩ : F) := ⟨_, rfl⟩
      have HF' := Lib.hid hf'
      have PM5 : Hid (PMap w5.drew m (elt Ad) (del (bs sa) s.fs)) := Lib.hid (P5.out.map.keep rfl)
      have HE2 : Hid (∀ v, ∀ g ∈ del f'.nm (del (bs sa) s.fs), elt (upd Ad f'.nm v) g = elt Ad g) := Lib.hid fun v => elt_other
      obtain ⟨w6, hrun, hmap, hturn⟩ := PM5.out.store (E' := elt (upd Ad f'.nm ((Ad f.nm).1, (Ad f.nm).2))) (by have := P5.out.inv.count; have h : (del (bs sa) s.fs).length ≤ 64 := this; omega) f' sb HB.out (by rw [HF'.out]) (.agg #[.slice (Ad f.nm).1 f.zs.length (Ad f.nm).2, .int .i64 (f.zs.length : Int)]) (by rw [elt_same, HF'.out]) (HE2.out _)
      have M6 := Lib.hid hmap
      have T6 := Lib.hid hturn
      have NE := Lib.hid (show T ≠ m ∧ w2.heap.size ≠ m from ⟨P5.out.obj_ne, P5.out.map.ne X5.out⟩)
      have X6 := Lib.hid ((turn_at T6.out NE.out.2).trans X5.out)
      have TO6 := Lib.hid ((turn_at T6.out NE.out.1).trans TO5.out)
      clear c1 x0 x1 g0 g1 hmap hturn hf' ll
      obtain ⟨⟨_, c1, _, _, _⟩, _⟩ := obj5 TO5.out
      obtain ⟨⟨x0, x1⟩, _, _⟩ := obj2 X5.out
      have q6 := Lib.hid (show w6.cell? ⟨T, 1, none⟩ = some (.map (some m)) ∧ w6.cell? ⟨w2.heap.size, 0, none⟩ = some (.slice (Ad f.nm).1 f.zs.length (Ad f.nm).2) ∧ w6.cell? ⟨w2.heap.size, 1, none⟩ = some (.int .i64 (f.zs.length : Int)) from ⟨(obj5 TO6.out).1.2.1, (obj2 X6.out).1⟩)
      go_region_held3 (fun w' => w'.cell? ⟨T, 1, none⟩ = some (.map (some m)) ∧ w'.cell? ⟨w2.heap.size, 0, none⟩ = some (.slice (Ad f.nm).1 f.zs.length (Ad f.nm).2) ∧ w'.cell? ⟨w2.heap.size, 1, none⟩ = some (.int .i64 (f.zs.length : Int))) ((first | go_keep | exact ⟨c1, x0, x1⟩ | exact q6.out))
        (first | fail)
      clear x0 x1 c1 q6
      go_wp2
      go_ret
      have p6 := P5.out.put (w1 := w5.drew) (w2 := w6) f' (Ad f.nm).1 (Ad f.nm).2 (Nat.le_refl _) rfl (fun _ _ => rfl) (fun _ _ _ _ _ => rfl) (by rw [HF'.out]; exact ROW.out)
        (fun a' ha' => ⟨.inl (P4.out.ownR f HFM.out.1 a' ha'), fun g hg _ b hb => (P4.out.apart g (mem_del.1 hg).1 f HFM.out.1 (by rw [HFM.out.2]; exact (mem_del.1 hg).2) b a' hb ha').symm⟩) M6.out T6.out (by
          have h := HI.out
          rw [ESW.out, ← HF'.out] at h
          exact h)
      have e : ({ s with fs := swapL s (bs sa) (bs sb), fuse := s.fuse - 1 } : S) = { ({ ({ s with fuse := s.fuse - 1 } : S) with fs := del (bs sa) s.fs } : S) with fs := put f' (del (bs sa) s.fs) } := by rw [ESW.out, ← HF'.out]
      rw [e]
      have o5 : Only own w w5 := (S3.out.only.setNew (L := w2.heap.size) B2.out.size 1 _).trans (Only.turned T5.out P3.out.ownM) (fun _ h => .inl h)
      have o6 : Only own w w6 := o5.trans (Only.turned T6.out P3.out.ownM).undrew (fun _ h => .inl h)
      exact ⟨rfl, Leaves.mk_ p6 ⟨o6, fun k hk => by
        rcases hk with h1 | h1
        · exact .inl h1
        · exact .inr (Nat.le_trans o5.size h1.1)⟩⟩
  · rw [actE_bad hE, actS_bad hE]
    have FC : Hid (Calls Tryz.prog 44 #[.pointer (some ⟨T, 0, none⟩), .string sa, .slice (some ⟨w.heap.size, 0, none⟩) 1 1] (w.alloc (.cells #[.string sb] 9)) (FindPost (w.alloc (.cells #[.string sb] 9)) (.agg #[.slice none 0 0, .int .i64 0]) (fnd s (bs sa) [bs sb, bs sa]))) := Lib.hid (find_err T own s Ad m ka kc sa hsa _ 1 1 [sb] rfl (by simp) _ p1 (full_one w sb hsb) _ rfl hE)
    have hne : (fnd s (bs sa) [bs sb, bs sa] == 0) = false := by rw [beq_eq_false_iff_ne]; exact hE
    have HP : Hid (PState w T own s) := Lib.hid ⟨Ad, m, ka, kc, p⟩
    clear p p1 hE hsa hsb
    generalize fnd s (bs sa) [bs sb, bs sa] = er at *
    go_enter Tryz.func59, Tryz.ntmps59
    go_wp2_with fail
    refine FC.out.mono ?_; rintro e w2 ⟨rfl, hb⟩
    have B2 := Lib.hid ((one_alloc w (.cells #[.string sb] 9)).trans (hb.mono (by simp)))
    clear hb
    go_wp2
    go_ret
    exact ⟨rfl, Leaves.same HP.out (B2.out.alloc B2.out.size _)⟩
theorem sync_any (T : Nat) (own : Nat → Prop) (s : S) (w : World) (h : PState w T own s) (sn : ByteArray) (hsn : sn.size ≤ 9223372036854775807) :
    Calls Tryz.prog 43 #[.pointer (some ⟨T, 0, none⟩), .string sn] w (OpPost w T own (actE s (fnd s (bs sn) [bs sn, bs sn])) (actS s (fnd s (bs sn) [bs sn, bs sn]) (swapL s (bs sn) (bs sn)))) := by
  have SW := Lib.hid (swap_any T own s w h sn sn hsn hsn)
  clear h hsn
  generalize actE s (fnd s (bs sn) [bs sn, bs sn]) = er at *
  generalize actS s (fnd s (bs sn) [bs sn, bs sn]) (swapL s (bs sn) (bs sn)) = s2 at *
  go_enter Tryz.func43, Tryz.ntmps43
  go_wp2_with fail
  refine SW.out.mono ?_; rintro e w2 ⟨rfl, hl⟩
  have HL := Lib.hid hl
  clear hl
  go_wp2
  go_ret
  exact ⟨rfl, HL.out⟩
end Go.Proofs.YtdbhicifjljjnaaGreatDoor
/-
  Cut at every store, every name and every number.
-/
namespace Go.Proofs.YtdbhicifjljjnaaGreatDoor
open Go.RowKit St

theorem fnd_err (T : Nat) (own : Nat → Prop) (s : S) (Ad : List UInt8 → Option Addr × Nat) (m : Nat) (ka : Option Addr) (kc : Nat) (sn : ByteArray) (hsn : sn.size ≤ 9223372036854775807) (w : World) (p : PS w T own s Ad m ka kc) (hE : fnd s (bs sn) [bs sn] ≠ 0) :
    Calls Tryz.prog 44 #[.pointer (some ⟨T, 0, none⟩), .string sn, .slice none 0 0] w (FindPost w (.agg #[.slice none 0 0, .int .i64 0]) (fnd s (bs sn) [bs sn])) := find_err T own s Ad m ka kc sn hsn none 0 0 [] rfl (by simp) w p (full_nil w) _ rfl hE
set_option maxRecDepth 20000 in
set_option maxHeartbeats 4000000 in
theorem cut_bad1 (T : Nat) (own : Nat → Prop) (s : S) (w : World) (h : PState w T own s) (sn : ByteArray) (hsn : sn.size ≤ 9223372036854775807) (n : Int) (hE : fnd s (bs sn) [bs sn] ≠ 0) :
    Calls Tryz.prog 47 #[.pointer (some ⟨T, 0, none⟩), .string sn, .int .i64 n] w (OpPost w T own (fnd s (bs sn) [bs sn]) s) := by
  obtain ⟨Ad, m, ka, kc, p⟩ := h
  have FC := Lib.hid (fnd_err T own s Ad m ka kc sn hsn w p hE)
  have hne : (fnd s (bs sn) [bs sn] == 0) = false := by rw [beq_eq_false_iff_ne]; exact hE
  have HP : Hid (PState w T own s) := Lib.hid ⟨Ad, m, ka, kc, p⟩
  clear p hE hsn
  generalize fnd s (bs sn) [bs sn] = er at *
  go_enter Tryz.func47, Tryz.ntmps47
  go_wp2_with fail
  refine FC.out.mono ?_; rintro e w2 ⟨rfl, hb⟩
  have B2 := Lib.hid hb
  clear hb
  go_wp2
  go_ret
  exact ⟨rfl, Leaves.same HP.out (B2.out.alloc B2.out.size _)⟩
set_option maxRecDepth 20000 in
set_option maxHeartbeats 4000000 in
theorem cut_bad2 (T : Nat) (own : Nat → Prop) (s : S) (w : World) (h : PState w T own s) (sn : ByteArray) (hsn : sn.size ≤ 9223372036854775807) (n : Int) (hE : fnd s (bs sn) [bs sn] = 0) (hn : n < 0 ∨ (¬ n < 0 ∧ ((file s (bs sn)).zs.length : Int) < n)) :
    Calls Tryz.prog 47 #[.pointer (some ⟨T, 0, none⟩), .string sn, .int .i64 n] w (OpPost w T own 1 s) := by
  obtain ⟨Ad, m, ka, kc, p⟩ := h
  obtain ⟨f, hfi, hc⟩ := find_ok T own s Ad m ka kc sn hsn none 0 0 [] rfl (by simp) w p (full_nil w) hE
  have FC := Lib.hid hc
  have HP : Hid (PState w T own s) := Lib.hid ⟨Ad, m, ka, kc, p⟩
  rw [(file_mem hfi).1] at hn
  clear p hE hsn hc hfi
  rcases hn with hn | ⟨hn, hn2⟩
  · go_enter Tryz.func47, Tryz.ntmps47
    go_wp2_with fail
    refine FC.out.mono ?_; rintro e w2 ⟨rfl, hb⟩
    have B2 := Lib.hid hb
    clear hb
    go_wp2
    go_ret
    exact ⟨rfl, Leaves.same HP.out (B2.out.alloc B2.out.size _)⟩
  · go_enter Tryz.func47, Tryz.ntmps47
    go_wp2_with fail
    refine FC.out.mono ?_; rintro e w2 ⟨rfl, hb⟩
    have B2 := Lib.hid hb
    clear hb
    go_wp2
    go_ret
    exact ⟨rfl, Leaves.same HP.out (B2.out.alloc B2.out.size _)⟩
set_option maxRecDepth 20000 in
set_option maxHeartbeats 4000000 in
theorem cut_blow (T : Nat) (own : Nat → Prop) (s : S) (w : World) (h : PState w T own s) (sn : ByteArray) (hsn : sn.size ≤ 9223372036854775807) (n : Nat) (hE : fnd s (bs sn) [bs sn] = 0) (hn : n ≤ (file s (bs sn)).zs.length) (hf : s.fuse = 1) :
    Calls Tryz.prog 47 #[.pointer (some ⟨T, 0, none⟩), .string sn, .int .i64 (n : Int)] w (OpPost w T own 11 (crash { s with fuse := 0 } s.keep)) := by
  obtain ⟨Ad, m, ka, kc, p⟩ := h
  obtain ⟨f, hfi, hc⟩ := find_ok T own s Ad m ka kc sn hsn none 0 0 [] rfl (by simp) w p (full_nil w) hE
  have FC := Lib.hid hc
  have HP := Lib.hid p
  have HF := Lib.hid hf
  rw [(file_mem hfi).1] at hn
  have hn' : (n : Int) ≤ (f.zs.length : Int) := by omega
  clear p hE hsn hc hfi hf hn
  go_enter Tryz.func47, Tryz.ntmps47
  go_wp2_with fail
  refine FC.out.mono ?_; rintro e w2 ⟨rfl, hb⟩
  have B2 := Lib.hid hb
  clear hb
  go_wp2_with fail
  refine (blows_one T own s _ ⟨Ad, m, ka, kc, HP.out.grow (B2.out.alloc B2.out.size _)⟩ HF.out).mono ?_; rintro e w3 ⟨rfl, hl⟩
  have HL := Lib.hid hl
  clear hl
  go_wp2
  go_ret
  exact ⟨rfl, Leaves.ahead (B2.out.alloc B2.out.size _) HL.out⟩
set_option maxRecDepth 20000 in
set_option maxHeartbeats 4000000 in
theorem cut_good (T : Nat) (own : Nat → Prop) (s : S) (w : World) (h : PState w T own s) (sn : ByteArray) (hsn : sn.size ≤ 9223372036854775807) (n : Nat) (hE : fnd s (bs sn) [bs sn] = 0) (hn : n ≤ (file s (bs sn)).zs.length) (hfu : s.fuse ≠ 1)
    (HI0 : Inv { s with fs := cutL s (bs sn) n, fuse := s.fuse - 1 }) :
    Calls Tryz.prog 47 #[.pointer (some ⟨T, 0, none⟩), .string sn, .int .i64 (n : Int)] w (OpPost w T own 0 { s with fs := cutL s (bs sn) n, fuse := s.fuse - 1 }) := by
  obtain ⟨Ad, m, ka, kc, p⟩ := h
  obtain ⟨f, hfi, hc⟩ := find_ok T own s Ad m ka kc sn hsn none 0 0 [] rfl (by simp) w p (full_nil w) hE
  have FC := Lib.hid hc
  have HP := Lib.hid p
  have HF := Lib.hid hfu
  have HS := Lib.hid hsn
  have HI := Lib.hid HI0
  have HFM := Lib.hid (find_some hfi)
  rw [(file_mem hfi).1] at hn
  have HN := Lib.hid hn
  have hn' : (n : Int) ≤ (f.zs.length : Int) := by omega
  obtain ⟨f', hf'⟩ : ∃ f', f' = (⟨bs sn, f.zs.take n, min f.sure n⟩ : F) := ⟨_, rfl⟩
  have HF' := Lib.hid hf'
  have ECL : Hid (cutL s (bs sn) n = put f' s.fs) := Lib.hid (by show _ = _; unfold cutL; rw [(file_mem hfi).1, hf'])
  clear p hE hsn hc hfi hfu hn hf' HI0
  go_enter Tryz.func47, Tryz.ntmps47
  go_wp2_with fail
  refine FC.out.mono ?_; rintro e w2 ⟨rfl, hb⟩
  have B2 := Lib.hid hb
  clear hb
  go_wp2_with fail
  have X2 : Hid ((w2.alloc (.cells #[.slice (Ad f.nm).1 f.zs.length (Ad f.nm).2, .int .i64 (f.sure : Int)] 80)).heap[w2.heap.size]? = some (.cells #[.slice (Ad f.nm).1 f.zs.length (Ad f.nm).2, .int .i64 (f.sure : Int)] 80 (0, 0))) := Lib.hid (heap_alloc_new w2 _)
  refine (blows_quiet T own s Ad m ka kc _ (HP.out.grow (B2.out.alloc B2.out.size _)) HF.out).mono ?_; rintro e w3 ⟨rfl, hp3, hs3, hz3, hk3⟩
  have LO : Hid (∀ k, own k → k ≠ w2.heap.size) := Lib.hid fun k hk => by have := HP.out.lt k hk; have := B2.out.size; omega
  have X3 := Lib.hid ((hk3 w2.heap.size (LO.out T HP.out.ownT).symm).trans X2.out)
  have P3 := Lib.hid hp3
  have S3 := Lib.hid (hs3.ahead (B2.out.alloc B2.out.size _))
  have L3 : Hid (w2.heap.size < w3.heap.size) := Lib.hid (lt_of_block X3.out)
  have TO := Lib.hid P3.out.obj
  have HE2 : Hid (∀ v, ∀ g ∈ del f'.nm s.fs, elt (upd Ad f'.nm v) g = elt Ad g) := Lib.hid fun v => elt_other
  have CNT : Hid (s.fs.length ≤ 1000000) := Lib.hid (by have := HP.out.inv.count; omega)
  have NE := Lib.hid (show T ≠ m ∧ w2.heap.size ≠ m from ⟨P3.out.obj_ne, P3.out.map.ne X3.out⟩)
  have TL : Hid (T < w3.heap.size ∧ m < w3.heap.size) := Lib.hid ⟨P3.out.lt T P3.out.ownT, P3.out.lt m P3.out.ownM⟩
  have SC : Hid (Calls Tryz.prog 50 #[.agg #[.slice (Ad f.nm).1 f.zs.length (Ad f.nm).2, .int .i64 (f.sure : Int)], .int .i64 (n : Int)] w3.drew fun e w' => ∃ A' cap', e = .returned (.agg #[.slice A' f'.zs.length cap', .int .i64 (f'.sure : Int)]) ∧ OwnB w' 0 A' cap' f'.zs ∧ Below w3.heap.size w3 w' ∧ Lies w3 (Ad f.nm).1 A') := Lib.hid (by
    have hz := total_mem HFM.out.1
    have ht := HP.out.inv.tot
    have hr := HP.out.inv.room
    refine (short_any (Ad f.nm).1 f.zs (Ad f.nm).2 f.sure n HN.out (by omega) w3.drew ((P3.out.rows f HFM.out.1).keep fun _ _ => rfl)).mono ?_
    rintro e w' ⟨ys, A', cap', hy, rfl, h1, h2, h3⟩
    have hy2 : ys = f'.zs := by rw [hy.out, HF'.out]
    subst hy2
    exact ⟨A', cap', by rw [HF'.out], h1, below_drew h2, h3⟩)
  clear hp3 hs3 hz3 hk3 X2
  obtain ⟨⟨_, c1, _, _, _⟩, _⟩ := obj5 TO.out
  obtain ⟨⟨x0, x1⟩, _⟩ := obj2 X3.out
  go_wp2_with fail
  go_region_held3 (fun w' => w'.cell? ⟨T, 1, none⟩ = some (.map (some m)) ∧ w'.cell? ⟨w2.heap.size, 0, none⟩ = some (.slice (Ad f.nm).1 f.zs.length (Ad f.nm).2) ∧ w'.cell? ⟨w2.heap.size, 1, none⟩ = some (.int .i64 (f.sure : Int))) ((first | go_keep | exact ⟨c1, x0, x1⟩ | exact q4.out | exact q5.out))
    (first
      | (go_at_call 50; refine SC.out.mono ?_; rintro e w4 ⟨A2, c2, rfl, ho2, hb2, hl2⟩; have q4 : Hid (w4.cell? ⟨T, 1, none⟩ = some (.map (some m)) ∧ w4.cell? ⟨w2.heap.size, 0, none⟩ = some (.slice (Ad f.nm).1 f.zs.length (Ad f.nm).2) ∧ w4.cell? ⟨w2.heap.size, 1, none⟩ = some (.int .i64 (f.sure : Int))) := Lib.hid ⟨(obj5 ((hb2.block _ TL.out.1).trans TO.out)).1.2.1, (obj2 ((hb2.block _ L3.out).trans X3.out)).1⟩; have PM4 := Lib.hid (P3.out.map.keep (hb2.block _ TL.out.2)); have O2 := Lib.hid ho2; have D2 := Lib.hid hb2; have L2 := Lib.hid hl2; obtain ⟨w5, hrun, hmap, hturn⟩ := PM4.out.store (E' := elt (upd Ad f'.nm (A2, c2))) CNT.out f' sn HS.out (by rw [HF'.out]) (.agg #[.slice A2 f'.zs.length c2, .int .i64 (f'.sure : Int)]) elt_same.symm (HE2.out (A2, c2)); have q5 : Hid (w5.cell? ⟨T, 1, none⟩ = some (.map (some m)) ∧ w5.cell? ⟨w2.heap.size, 0, none⟩ = some (.slice (Ad f.nm).1 f.zs.length (Ad f.nm).2) ∧ w5.cell? ⟨w2.heap.size, 1, none⟩ = some (.int .i64 (f.sure : Int))) := Lib.hid ⟨(World.cell?_of_block (w := w4) (turn_at hturn NE.out.1)).trans q4.out.1, (World.cell?_of_block (w := w4) (turn_at hturn NE.out.2)).trans q4.out.2.1, (World.cell?_of_block (w := w4) (turn_at hturn NE.out.2)).trans q4.out.2.2⟩; have M5 := Lib.hid hmap; have T5 := Lib.hid hturn; clear ho2 hb2 hl2 hmap hturn))
  clear x0 x1 c1 q4 q5
  go_wp2
  go_ret
  have hnm : f'.nm = f.nm := by rw [HF'.out]; exact HFM.out.2.symm
  have p5 := P3.out.put (w1 := w4) (w2 := w5) f' A2 c2 D2.out.size (D2.out.block _ TL.out.1) (fun a ha => D2.out.block _ (P3.out.lt _ (P3.out.ownK a ha))) (fun g hg _ a ha => D2.out.block _ (P3.out.lt _ (P3.out.ownR g hg a ha))) O2.out
    (by rw [hnm]; exact P3.out.loc HFM.out.1 L2.out) M5.out T5.out (by have h := HI.out; rw [ECL.out] at h; exact h)
  have e : ({ s with fs := cutL s (bs sn) n, fuse := s.fuse - 1 } : S) = { ({ s with fuse := s.fuse - 1 } : S) with fs := put f' s.fs } := by rw [ECL.out]
  rw [e]
  have o4 : Only own w3 w4 := Only.of D2.out
  have o5 : Only own w3 w5 := o4.trans (Only.turned T5.out P3.out.ownM) (fun _ h => .inl h)
  exact ⟨rfl, Leaves.mk_ p5 (S3.out.trans (ext_step o5))⟩
theorem cut_any (T : Nat) (own : Nat → Prop) (s : S) (w : World) (h : PState w T own s) (sn : ByteArray) (hsn : sn.size ≤ 9223372036854775807) (n : Int) :
    Calls Tryz.prog 47 #[.pointer (some ⟨T, 0, none⟩), .string sn, .int .i64 n] w (OpPost w T own (actE s (cutE s (bs sn) n)) (actS s (cutE s (bs sn) n) (cutL s (bs sn) n.toNat))) := by
  by_cases hE : fnd s (bs sn) [bs sn] = 0
  · by_cases hn : n < 0 ∨ ((file s (bs sn)).zs.length : Int) < n
    · have e : cutE s (bs sn) n = 1 := by unfold cutE; rw [if_neg (by simp [hE]), if_pos hn]
      rw [e, actE_bad (by decide), actS_bad (by decide)]
      exact cut_bad2 T own s w h sn hsn n hE (by omega)
    · have e : cutE s (bs sn) n = 0 := by unfold cutE; rw [if_neg (by simp [hE]), if_neg hn]
      rw [e]
      obtain ⟨k, rfl⟩ : ∃ k : Nat, n = (k : Int) := ⟨n.toNat, by omega⟩
      rw [Int.toNat_natCast]
      by_cases hf : s.fuse = 1
      · rw [actE_blow rfl hf, actS_blow rfl hf]
        exact cut_blow T own s w h sn hsn k hE (by omega) hf
      · rw [actE_ok rfl hf, actS_ok rfl hf]
        refine cut_good T own s w h sn hsn k hE (by omega) hf ?_
        have := h.inv.cut (bs sn) (k : Int)
        rw [e, actS_ok rfl hf, Int.toNat_natCast] at this
        exact this
  · have e : cutE s (bs sn) n = fnd s (bs sn) [bs sn] := by unfold cutE; rw [if_pos hE]
    rw [e, actE_bad hE, actS_bad hE]
    exact cut_bad1 T own s w h sn hsn n hE
end Go.Proofs.YtdbhicifjljjnaaGreatDoor
