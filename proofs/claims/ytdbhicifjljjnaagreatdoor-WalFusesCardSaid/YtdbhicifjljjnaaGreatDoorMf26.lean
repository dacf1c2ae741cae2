/-
  Part 26 of the texts behind the law: WalAppend, WalMut, WalDelete, WalRecs, WalKeep, WalShort.
-/
import Derived.Test.YtdbhicifjljjnaaGreatDoorMf24
import Derived.Test.YtdbhicifjljjnaaGreatDoorMf25
import Derived.Deep.RegionLaw
import Derived.Deep.RegionWith
import Derived.Deep.LoopGhost
/-
  The log's Append of a record whose epoch and offset fit: ESIZE, or what write answers; what it leaves.
-/
namespace Go.Proofs.YtdbhicifjljjnaaGreatDoor
open Go.RowKit St
def StE (st er : Int) (e : Ending) : Prop := e = .returned (.tuple #[.int .u64 st, .int .i64 er])
def appX (s : S) (l : Wl.L) (ep : Int) (b : List Int) : Int := writeE s l (Wl.endV l) (Fr.putV (Pl.packV ep (Wl.endV l)) b)
/-- A change of the log alone, told of its own blocks. -/
theorem w_log1 {w0 w w' : World} {T Lb : Nat} {s : S} {l l' : Wl.L} {G : List (Nat × Obj)} {sa : Option Addr} {sc : Nat} {ra : Option Addr} {rc : Nat} {sa' : Option Addr} {sc' : Nat} {ra' : Option Addr} {rc' : Nat} {o1 O : Nat → Prop}
    (p : PState w T o1 s) (q : LM w Lb T O l sa sc ra rc) (h1 : ∀ k, o1 k → w0.heap.size ≤ k ∧ ¬ O k) (h2 : ∀ k, O k → w0.heap.size ≤ k) (h3 : Below w0.heap.size w0 w) (h4 : ∀ g ∈ G, w.heap[g.1]? = some g.2 ∧ ¬ o1 g.1 ∧ ¬ O g.1)
    (hc : ∃ O', LM w' Lb T O' l' sa' sc' ra' rc' ∧ Step O O' w w') : WRun w0 w' T Lb s l' G sa' sc' ra' rc' := by
  obtain ⟨O', q', st⟩ := hc
  refine ⟨o1, O', p.same st.only.size fun k hk => st.only.block k (p.lt k hk) fun ho => (h1 k hk).2 ho, q', fun k hk => ⟨(h1 k hk).1, fun ho => ?_⟩, fun k hk => ?_, h3.trans (st.only.below h3.size h2), fun g m => ?_⟩
  · rcases st.sub k ho with h5 | h5
    · exact (h1 k hk).2 h5
    · have := p.lt k hk; omega
  · rcases st.sub k hk with h5 | h5
    · exact h2 k h5
    · exact Nat.le_trans h3.size h5
  · have h5 := w_some_lt (h4 g m).1
    refine ⟨(st.only.block g.1 h5 (h4 g m).2.2).trans (h4 g m).1, (h4 g m).2.1, fun hk => ?_⟩
    rcases st.sub _ hk with h6 | h6
    · exact (h4 g m).2.2 h6
    · omega
/-- What holds where a call answers 0, and where it answers an error. -/
def Ok0 (er : Int) (P Q : Prop) : Prop := (er = 0 → P) ∧ (er ≠ 0 → Q)
def pushL (l : Wl.L) (r : Fr.Rc) : Wl.L := { l with recs := l.recs ++ [r] }
theorem step_appP3 {w : World} {o : Oper} {a : Act} {K : Act → World → Prop} {Q : Exit → Act → World → Prop} (s t : Operand) {T ST : TypeId}
    (ho : o.op = .call { callee := .builtin .append, args := #[s, t], argTypes := #[ST, ST] })
    {base : Nat} {A : Option Addr} {n cap : Nat} {vs : List (Value × Value)} {z x y : Value} {by_ : Nat} (hST : Tryz.prog.underlying ST = some (.slice T))
    (hI : (Tryz.prog.info? T).map (fun i => (i.zero, i.size, i.bytes)) = some (some z, 2, by_)) (hz : z.cells.size = 2) (hby : by_ ≤ 64)
    (hs : a.eval s = .slice A n cap) (hn : n = vs.length) (h : OwnP w base T A cap vs) (hbase : base ≤ w.heap.size)
    {b2 c : Nat} (ht : a.eval t = .slice (some ⟨b2, 0, none⟩) 1 c) (hx : w.cell? ⟨b2, 0, none⟩ = some x) (hy : w.cell? ⟨b2, 1, none⟩ = some y) (hx1 : x.oneCell' = true) (hy1 : y.oneCell' = true)
    (hlen : vs.length ≤ 1000000000) {r : Nat} (hr : vs.length + 1 = r)
    (H : ∀ A' cap' w', OwnP w' base T A' cap' (vs ++ [(x, y)]) → w.grownBy w' (Value.slice A vs.length cap).ownBlock → (∀ a, A' = some a → (∃ a0, A = some a0 ∧ a.block = a0.block) ∨ a.block = w.heap.size) → K (a.put o.dst (.slice A' r cap')) w') :
    Oper.wp Tryz.prog o a w K Q := by
  subst hn hr
  obtain ⟨A', cap', w', hrun, h1, h2, h3⟩ := run_appP3 hST hI hz hby h hbase hx hy hx1 hy1 c hlen o.type
  unfold Oper.wp
  simp [execOp, ho, resolve, invoke, builtin, hs, ht, hrun, Result.andThen]
  have hk := H A' cap' w' h1 h2 h3
  exact hk
set_option maxRecDepth 20000 in
set_option maxHeartbeats 8000000 in
theorem lappend_ok {w0 w : World} {T Lb : Nat} {s : S} {l : Wl.L} {G : List (Nat × Obj)} {sa : Option Addr} {sc : Nat} {ra : Option Addr} {rc : Nat} (h : WRun w0 w T Lb s l G sa sc ra rc) (hF : Facts w0)
    (ep : Int) (e0 : 0 ≤ ep) (e1 : ep ≤ 1048575) (he : Wl.epochV l ≤ ep) (hend : Wl.endV l ≤ 17592186044415) (A : Option Addr) (n cap : Nat) (b : List Int) (hn : n = b.length) (hl : n ≤ 1024) (hA : AtB A b.length cap)
    (hb : ∀ W s l G' sa sc ra rc, WRun w0 W T Lb s l (G' ++ G) sa sc ra rc → Bytes W W.heap.size A b)
    (hinv : appX s l ep b = 0 → Wl.Inv (writeL s l (Wl.endV l) (Fr.putV (Pl.packV ep (Wl.endV l)) b)) ∧ Wl.Inv (pushL (writeL s l (Wl.endV l) (Fr.putV (Pl.packV ep (Wl.endV l)) b)) (Pl.packV ep (Wl.endV l), b))) :
    Calls Tryz.prog 9 #[.pointer (some ⟨Lb, 0, none⟩), .int .i64 ep, .slice A n cap] w fun e w' =>
      Ok0 (appX s l ep b) (StE (Pl.packV ep (Wl.endV l)) 0 e ∧ Hid (∃ sa' sc' ra' rc', WRun w0 w' T Lb (writeS s l (Wl.endV l) (Fr.putV (Pl.packV ep (Wl.endV l)) b)) (pushL (writeL s l (Wl.endV l) (Fr.putV (Pl.packV ep (Wl.endV l)) b)) (Pl.packV ep (Wl.endV l), b)) G sa' sc' ra' rc'))
        (StE 0 (appX s l ep b) e ∧ Hid (∃ sa' sc', WRun w0 w' T Lb (writeS s l (Wl.endV l) (Fr.putV (Pl.packV ep (Wl.endV l)) b)) l G sa' sc' ra rc)) := by
  have H := Lib.hid h
  have HF := Lib.hid hF
  have HB := Lib.hid hb
  have HA := Lib.hid hA
  have hend0 := h.inv.2.end_.1
  have hpo : Pl.packOk ep (Wl.endV l) = true := by unfold Pl.packOk; simp [e0, e1, hend0, hend]
  have hpv : Pl.packV ep (Wl.endV l) = ep * 17592186044416 + Wl.endV l := by unfold Pl.packV; rw [if_pos hpo]
  have hst0 : 0 ≤ Pl.packV ep (Wl.endV l) ∧ Pl.packV ep (Wl.endV l) < 18446744073709551616 := by rw [hpv]; omega
  have hoff : Pl.offV (Pl.packV ep (Wl.endV l)) = Wl.endV l := by rw [hpv]; unfold Pl.offV; omega
  have EPd : ∀ j, Calls Tryz.prog 22 #[.pointer (some ⟨Lb, 0, none⟩)] (w.drewN j) fun e w' => e = .returned (.int .i64 (Wl.epochV l)) ∧ ∃ i, w' = (w.drewN j).drewN i := fun j => epoch_w (WRun.draw h j)
  have EP := Lib.hid (epoch_w h)
  have ENd := Lib.hid (fun (W : World) (hW : WRun w0 W T Lb s l G sa sc ra rc) => end_w hW)
  have PK := pack_any ep (Wl.endV l)
  rw [hpo] at PK
  have SO := stOff_any _ hst0.1 hst0.2
  rw [hoff] at SO
  have PU := Lib.hid (fun (W : World) (hq : Bytes W W.heap.size A b) => put_any none A [] b 0 cap (Pl.packV ep (Wl.endV l)) hst0.1 hst0.2 (by simp) (by omega) W Bytes.nil_ hq)
  have WR := Lib.hid (fun (W : World) (G' : List (Nat × Obj)) (hW : WRun w0 W T Lb s l (G' ++ G) sa sc ra rc) (Ac : Option Addr) (cc : Nat) (hc : ∀ W s, WRun w0 W T Lb s l (G' ++ G) sa sc ra rc → Bytes W W.heap.size Ac (Fr.putV (Pl.packV ep (Wl.endV l)) b)) =>
    write_any hW hF (Wl.endV l) hend0 hend Ac (16 + n) cc (Fr.putV (Pl.packV ep (Wl.endV l)) b) (by rw [Fr.putV_len, hn]) (by omega) hc (fun he => (hinv he).1))
  have HI := Lib.hid (fun he => (hinv he).2)
  have WL := Lib.hid (fun (he : writeE s l (Wl.endV l) (Fr.putV (Pl.packV ep (Wl.endV l)) b) ≠ 0) => show writeL s l (Wl.endV l) (Fr.putV (Pl.packV ep (Wl.endV l)) b) = l by unfold writeL; rw [if_neg he])
  have RL : Hid ((writeL s l (Wl.endV l) (Fr.putV (Pl.packV ep (Wl.endV l)) b)).recs = l.recs) := Lib.hid (by unfold writeL; split <;> rfl)
  unfold appX at HI ⊢
  generalize hst : Pl.packV ep (Wl.endV l) = st at *
  generalize hcd : Fr.putV st b = code at *
  have HCD : Hid (code.length = 16 + n) := Lib.hid (by rw [← hcd, Fr.putV_len, hn])
  have HN := Lib.hid hn
  have HST := Lib.hid hst0
  generalize Wl.endV l = en at *
  generalize Wl.epochV l = epl at *
  generalize writeE s l en code = er at *
  generalize writeS s l en code = s5 at *
  generalize writeL s l en code = l5 at *
  clear h hF hb hA hpv hst0 hoff hinv hpo hst hcd hn EPd
  have hl' : (n : Int) ≤ 1024 := by omega
  go_enter Tryz.func9, Tryz.ntmps9
  go_wp2_with fail
  (with_reducible refine EP.out.mono ?_); rintro e w1 ⟨rfl, j1, rfl⟩
  have H1 := Lib.hid (WRun.draw H.out j1)
  generalize w.drewN j1 = w1 at *
  go_wp2_with fail
  (with_reducible refine (ENd.out _ H1.out).mono ?_); rintro e w2 ⟨rfl, j2, rfl⟩
  have H2 := Lib.hid (WRun.draw H1.out j2)
  generalize w1.drewN j2 = w2 at *
  go_wp2_with fail
  (with_reducible refine (PK _).mono ?_); rintro e w' ⟨rfl, rfl⟩
  go_wp2_with fail
  obtain ⟨W2, hW2⟩ : ∃ W, W = w2.alloc (.cells #[.int .u64 st, .slice A n cap] 40) := ⟨_, rfl⟩
  rw [← hW2]
  have BL2 : Hid (Below w2.heap.size w2 W2) := Lib.hid (by rw [hW2]; exact (Below.refl _ _).alloc (Nat.le_refl _) _)
  obtain ⟨X, hX⟩ : ∃ X, X = w2.heap.size := ⟨_, rfl⟩
  have H3 : Hid (WRun w0 W2 T Lb s l ((X, .cells #[.int .u64 st, .slice A n cap] 40 (0, 0)) :: G) sa sc ra rc) := Lib.hid (WRun.join H2.out BL2.out (by rw [hX]; exact Nat.le_refl _) (by rw [hX, hW2]; exact heap_alloc_new ..))
  rw [← hX]
  clear hW2 hX BL2
  have BY2 := Lib.hid (HB.out _ _ _ [_] _ _ _ _ H3.out)
  have PU2 : Hid (Calls Tryz.prog 25 #[.slice none 0 0, .agg #[.int .u64 st, .slice A n cap]] W2 (PutPost W2 code)) := Lib.hid (by have := PU.out W2 BY2.out; rw [← HN.out] at this; exact this)
  (with_reducible refine PU2.out.mono ?_); rintro e w3 ⟨zs, Ac, cc, hz, rfl, o3, g3⟩
  obtain rfl := hz.out
  have HZ : Hid (zs.length = 16 + n) := HCD
  obtain ⟨gc, rfl, _, _⟩ := o3.shape (by rw [HZ.out]; omega)
  obtain ⟨cur, hcur⟩ := o3.block
  have O3 := Lib.hid o3
  have H4 : Hid (WRun w0 w3 T Lb s l ((gc, _) :: (X, .cells #[.int .u64 st, .slice A n cap] 40 (0, 0)) :: G) sa sc ra rc) := Lib.hid (WRun.join H3.out g3.below (O3.out.1.lt gc (by simp [Value.ownBlock])).1 hcur)
  have HC : Hid (∀ W s, WRun w0 W T Lb s l ([(gc, Obj.cells cur 5 (0, 0)), (X, .cells #[.int .u64 st, .slice A n cap] 40 (0, 0))] ++ G) sa sc ra rc → Bytes W W.heap.size (some ⟨gc, 0, none⟩) zs) := Lib.hid fun W s hW => (O3.out.keep fun a ha => by
    injection ha with ha
    subst ha
    exact (WRun.block hW (g := (gc, _)) (by simp)).trans hcur.symm).bytes
  have WR3 := Lib.hid (WR.out w3 [(gc, Obj.cells cur 5 (0, 0)), (X, .cells #[.int .u64 st, .slice A n cap] 40 (0, 0))] H4.out (some ⟨gc, 0, none⟩) cc HC.out)
  clear o3 g3 hcur PU PU2 WR BY2
  rw [HZ.out]
  go_wp2_with fail
  (with_reducible refine (SO _).mono ?_); rintro e w' ⟨rfl, rfl⟩
  go_wp2_with fail
  (with_reducible refine WR3.out.mono ?_); rintro e w5 ⟨rfl, H5⟩
  obtain ⟨sa5, sc5, h5⟩ := H5.out
  clear H5 WR3 HC
  by_cases her : er = 0
  · subst her
    have H5 := Lib.hid (WRun.fewer h5 (G' := (X, .cells #[.int .u64 st, .slice A n cap] 40 (0, 0)) :: G) (fun g hg => List.mem_cons_of_mem _ hg))
    clear h5
    have BY5 := Lib.hid (HB.out _ _ _ [_] _ _ _ _ H5.out)
    have CP5 : Hid (Calls Tryz.prog 28 #[.agg #[.int .u64 st, .slice A n cap]] w5.drew (CopyPost w5.drew st b)) := Lib.hid (by have := copied_any st A b cap (by rw [← HN.out]; omega) HA.out w5.drew BY5.out; rw [← HN.out] at this; exact this)
    have HI5 : Hid (Wl.Inv { l5 with recs := l5.recs ++ [(st, b)] }) := Lib.hid (HI.out rfl)
    obtain ⟨o1, O, hp, hq, f1, f2, f3, f4⟩ := H5.out
    obtain ⟨vs, hvl, hrw, hro, hv⟩ := hq.recs
    have XO : Hid (¬ O X) := Lib.hid (f4 _ (List.mem_cons_self ..)).2.2
    have NE : Hid (∀ a, ra = some a → a.block ≠ Lb ∧ a.block ≠ X) := Lib.hid fun a ha => ⟨by
      subst ha
      obtain ⟨cur, hc⟩ := wal_block hrw
      exact type_ne hc hq.obj (by decide), fun e => XO.out (e ▸ hro a ha)⟩
    have LT5 : Hid (Lb < w5.heap.size ∧ X < w5.heap.size) := Lib.hid ⟨hq.lt _ hq.ownL, w_some_lt (f4 _ (List.mem_cons_self ..)).1⟩
    have OB := Lib.hid hq.obj
    have XB : Hid (w5.heap[X]? = some (.cells #[.int .u64 st, .slice A n cap] 40 (0, 0))) := Lib.hid (f4 _ (List.mem_cons_self ..)).1
    have HVL := Lib.hid hvl
    have QL : Hid (vs.length ≤ 1000000000) := Lib.hid (by rw [hvl]; have := hq.inv.count; omega)
    have HP := Lib.hid hp
    have HQ := Lib.hid hq
    have HV := Lib.hid hv
    have HRW := Lib.hid hrw
    have HRO := Lib.hid hro
    have F1 := Lib.hid f1
    have F2 := Lib.hid f2
    have F3 := Lib.hid f3
    have F4 := Lib.hid f4
    clear hp hq hvl hrw hro hv f1 f2 f3 f4
    obtain ⟨q, hqq⟩ : ∃ q, q = l5.recs.length := ⟨_, rfl⟩
    have HQL := Lib.hid hqq
    have CE : Hid (∀ W : World, (W.heap[Lb]? = w5.heap[Lb]?) → (W.heap[X]? = w5.heap[X]?) → W.cell? ⟨Lb, 3, none⟩ = some (.slice ra q rc) ∧ W.cell? ⟨X, 0, none⟩ = some (.int .u64 st) ∧ W.cell? ⟨X, 1, none⟩ = some (.slice A n cap)) := Lib.hid fun W h1 h2 => by
      obtain ⟨⟨_, _, _, c3, _⟩, _⟩ := obj5 (h1.trans OB.out)
      rw [← HQL.out] at c3
      exact ⟨c3, obj2P (h2.trans XB.out)⟩
    have CB : Hid (∀ W : World, Below w5.heap.size w5 W → W.cell? ⟨Lb, 3, none⟩ = some (.slice ra q rc) ∧ W.cell? ⟨X, 0, none⟩ = some (.int .u64 st) ∧ W.cell? ⟨X, 1, none⟩ = some (.slice A n cap)) := Lib.hid fun W hW => CE.out W (hW.block _ LT5.out.1) (hW.block _ LT5.out.2)
    have FZ : Hid (∀ W : World, (W.heap[Lb]? = w5.heap[Lb]?) → W.frozen? ⟨Lb, 3, none⟩ = false) := Lib.hid fun W h1 => by
      obtain ⟨_, _, _, _, c3, _⟩ := obj5 (h1.trans OB.out)
      exact c3
    clear hqq
    go_upto_region 13 with fail
    refine wp_region_C (fun w' => w'.cell? ⟨Lb, 3, none⟩ = some (.slice ra q rc) ∧ w'.cell? ⟨X, 0, none⟩ = some (.int .u64 st) ∧ w'.cell? ⟨X, 1, none⟩ = some (.slice A n cap)) 11 (by kernel_rfl) ?_
    have hS0 : (fun w' : World => w'.cell? ⟨Lb, 3, none⟩ = some (.slice ra q rc) ∧ w'.cell? ⟨X, 0, none⟩ = some (.int .u64 st) ∧ w'.cell? ⟨X, 1, none⟩ = some (.slice A n cap)) w5.drew := CB.out _ (Below.refl _ _).drew
    refine wpAnyC_take (i := 0) (oi := ?o71) (v := ?v71) ?hi71 (by kernel_rfl) (by kernel_rfl) (by kernel_rfl) ?hQ71 (by kernel_rfl) (by decide) (by kernel_rfl) (Or.inl ⟨?hg71, ?hy71⟩) (by assumption) ?rest71
    case hi71 => (simp only [List.getElem?_toArray, List.getElem?_cons_zero]; exact rfl)
    case hQ71 => exact fun _ _ _ h => h
    case hg71 => rfl
    case hy71 => (intro w' hSw; (try dsimp only at hSw); go_simp; try with_reducible rfl)
    try simp only [Act.put, List.setIfInBounds_toArray, List.set_cons_zero, List.set_cons_succ]
    refine wpAnyC_take (i := 1) (oi := ?o72) (v := ?v72) ?hi72 (by kernel_rfl) (by kernel_rfl) (by kernel_rfl) ?hQ72 (by kernel_rfl) (by decide) (by kernel_rfl) (Or.inl ⟨?hg72, ?hy72⟩) (by assumption) ?rest72
    case hi72 => (simp only [List.getElem?_toArray, List.getElem?_cons_zero, List.getElem?_cons_succ]; exact rfl)
    case hQ72 => exact fun _ _ _ h => h
    case hg72 => rfl
    case hy72 => (intro w' hSw; (try dsimp only at hSw); go_simp; try with_reducible rfl)
    try simp only [Act.put, List.setIfInBounds_toArray, List.set_cons_zero, List.set_cons_succ]
    refine wpAnyC_take (i := 2) (oi := ?o73) (v := ?v73) ?hi73 (by kernel_rfl) (by kernel_rfl) (by kernel_rfl) ?hQ73 (by kernel_rfl) (by decide) (by kernel_rfl) (Or.inl ⟨?hg73, ?hy73⟩) (by assumption) ?rest73
    case hi73 => (simp only [List.getElem?_toArray, List.getElem?_cons_zero, List.getElem?_cons_succ]; exact rfl)
    case hQ73 => exact fun _ _ _ h => h
    case hg73 => rfl
    case hy73 => (intro w' hSw; (try dsimp only at hSw); go_simp; try with_reducible rfl)
    try simp only [Act.put, List.setIfInBounds_toArray, List.set_cons_zero, List.set_cons_succ]
    refine wpAnyC_take (i := 3) (oi := ?o74) (v := ?v74) ?hi74 (by kernel_rfl) (by kernel_rfl) (by kernel_rfl) ?hQ74 (by kernel_rfl) (by decide) (by kernel_rfl) (Or.inl ⟨?hg74, ?hy74⟩) (by assumption) ?rest74
    case hi74 => (simp only [List.getElem?_toArray, List.getElem?_cons_zero, List.getElem?_cons_succ]; exact rfl)
    case hQ74 => exact fun _ _ _ h => h
    case hg74 => rfl
    case hy74 => (intro w' hSw; (try dsimp only at hSw); go_simp; try with_reducible rfl)
    try simp only [Act.put, List.setIfInBounds_toArray, List.set_cons_zero, List.set_cons_succ]
    refine wpAnyC_take (i := 4) (oi := ?o75) (v := ?v75) ?hi75 (by kernel_rfl) (by kernel_rfl) (by kernel_rfl) ?hQ75 (by kernel_rfl) (by decide) (by kernel_rfl) (Or.inl ⟨?hg75, ?hy75⟩) (by assumption) ?rest75
    case hi75 => (simp only [List.getElem?_toArray, List.getElem?_cons_zero, List.getElem?_cons_succ]; exact rfl)
    case hQ75 => exact fun _ _ _ h => h
    case hg75 => rfl
    case hy75 => (intro w' hSw; (try dsimp only at hSw); go_simp; try with_reducible rfl)
    try simp only [Act.put, List.setIfInBounds_toArray, List.set_cons_zero, List.set_cons_succ]
    refine wpAnyC_take (i := 5) (oi := ?o76) (v := ?v76) ?hi76 (by kernel_rfl) (by kernel_rfl) (by kernel_rfl) ?hQ76 (by kernel_rfl) (by decide) (by kernel_rfl) (Or.inl ⟨?hg76, ?hy76⟩) (by assumption) ?rest76
    case hi76 => (simp only [List.getElem?_toArray, List.getElem?_cons_zero, List.getElem?_cons_succ]; exact rfl)
    case hQ76 => exact fun _ _ _ h => h
    case hg76 => rfl
    case hy76 => (intro w' hSw; (try dsimp only at hSw); go_simp; try with_reducible rfl)
    try simp only [Act.put, List.setIfInBounds_toArray, List.set_cons_zero, List.set_cons_succ]
    refine wpAnyC_one (i := 6) (oi := ?o77) ?hi77 (by kernel_rfl) ?step77
    case hi77 => (simp only [List.getElem?_toArray, List.getElem?_cons_zero, List.getElem?_cons_succ]; exact rfl)
    intro K' hK
    ((try go_simp); go_at_call 28; (with_reducible refine CP5.out.mono ?_); rintro e w6 ⟨A3, c3, rfl, o6, b6⟩; have B6 : Hid (Below w5.heap.size w5 w6) := Lib.hid ((Below.refl _ _).drew.trans b6.out))
    refine hK.out _ _ ?_ (fun hHeld => ?_)
    · exact fun _ => CB.out _ B6.out
    clear hK K' hHeld
    try simp only [Act.put, List.setIfInBounds_toArray, List.set_cons_zero, List.set_cons_succ]
    have BZ : Hid (Below w5.heap.size w5 (w6.alloc (.cells #[.int .u64 st, .slice A3 b.length c3] 40))) := Lib.hid (B6.out.alloc B6.out.size _)
    have X6 := Lib.hid (obj2P (heap_alloc_new w6 (.cells #[.int .u64 st, .slice A3 b.length c3] 40)))
    have OZ : Hid (OwnB (w6.alloc (.cells #[.int .u64 st, .slice A3 b.length c3] 40)) w5.heap.size A3 c3 b) := Lib.hid (o6.out.grew (Below.alloc (Below.refl _ _) (Nat.le_refl _) _) (Nat.le_refl _))
    refine wpAnyC_one (i := 7) (oi := ?o78) ?hi78 (by kernel_rfl) ?step78
    case hi78 => (simp only [List.getElem?_toArray, List.getElem?_cons_zero, List.getElem?_cons_succ]; exact rfl)
    intro K' hK
    go_simp
    refine hK.out _ _ ?_ (fun hHeld => ?_)
    · exact fun _ => CB.out _ BZ.out
    clear hK K' hHeld
    try simp only [Act.put, List.setIfInBounds_toArray, List.set_cons_zero, List.set_cons_succ]
    have RZ : Hid (OwnP (w6.alloc (.cells #[.int .u64 st, .slice A3 b.length c3] 40)) 0 40 ra rc vs) := Lib.hid (HRW.out.keep fun a ha => BZ.out.block _ (HQ.out.lt _ (HRO.out a ha)))
    refine wpAnyC_one (i := 8) (oi := ?o79) ?hi79 (by kernel_rfl) ?step79
    case hi79 => (simp only [List.getElem?_toArray, List.getElem?_cons_zero, List.getElem?_cons_succ]; exact rfl)
    intro K' hK
    (refine step_appP3 _ _ (by rfl) Tryz.underlying29 rec_info rfl (by decide) (by rfl) (HQL.out.trans HVL.out.symm) RZ.out (Nat.zero_le _) (by rfl) X6.out.1 X6.out.2 rfl rfl QL.out (r := q + 1) (by rw [HVL.out, HQL.out]) ?_; intro A7 c7 w7 o7 g7 k7; have O7 := Lib.hid o7; have G7 := Lib.hid g7; have K7 := Lib.hid k7; clear o7 g7 k7; have E7 : Hid (w7.heap[Lb]? = w5.heap[Lb]? ∧ w7.heap[X]? = w5.heap[X]?) := Lib.hid ⟨(G7.out.block Lb (Nat.lt_of_lt_of_le LT5.out.1 BZ.out.size) (by cases ra with | none => simp [Value.ownBlock] | some a => simp [Value.ownBlock]; exact (NE.out a rfl).1.symm)).trans (BZ.out.block _ LT5.out.1), (G7.out.block X (Nat.lt_of_lt_of_le LT5.out.2 BZ.out.size) (by cases ra with | none => simp [Value.ownBlock] | some a => simp [Value.ownBlock]; exact (NE.out a rfl).2.symm)).trans (BZ.out.block _ LT5.out.2)⟩)
    refine hK.out _ _ ?_ (fun hHeld => ?_)
    · exact fun _ => CE.out _ E7.out.1 E7.out.2
    clear hK K' hHeld
    try simp only [Act.put, List.setIfInBounds_toArray, List.set_cons_zero, List.set_cons_succ]
    have fz7 := FZ.out w7 E7.out.1
    have cc7 := (CE.out w7 E7.out.1 E7.out.2).1
    refine wpAnyC_one (i := 9) (oi := ?o80) ?hi80 (by kernel_rfl) ?step80
    case hi80 => (simp only [List.getElem?_toArray, List.getElem?_cons_zero, List.getElem?_cons_succ]; exact rfl)
    intro K' hK
    go_simp
    refine hK.out _ _ ?_ (fun hHeld => ?_)
    · exact fun _ => CE.out _ E7.out.1 E7.out.2
    clear hK K' hHeld
    try simp only [Act.put, List.setIfInBounds_toArray, List.set_cons_zero, List.set_cons_succ]
    refine wpAnyC_one (i := 10) (oi := ?o81) ?hi81 (by kernel_rfl) ?step81
    case hi81 => (simp only [List.getElem?_toArray, List.getElem?_cons_zero, List.getElem?_cons_succ]; exact rfl)
    intro K' hK
    go_simp
    refine hK.out _ _ ?_ (fun hHeld => ?_)
    · exact fun _ => CE.out _ E7.out.1 E7.out.2
    clear hK K' hHeld
    try simp only [Act.put, List.setIfInBounds_toArray, List.set_cons_zero, List.set_cons_succ]
    refine wpAnyC_one (i := 11) (oi := ?o82) ?hi82 (by kernel_rfl) ?step82
    case hi82 => (simp only [List.getElem?_toArray, List.getElem?_cons_zero, List.getElem?_cons_succ]; exact rfl)
    intro K' hK
    go_simp
    refine hK.out _ _ ?_ (fun hHeld => ?_)
    · exact fun h => (by cases h)
    clear hK K' hHeld
    try simp only [Act.put, List.setIfInBounds_toArray, List.set_cons_zero, List.set_cons_succ]
    refine wpAnyC_done (by kernel_rfl) ?_ _
    clear fz7 cc7
    go_wp2
    go_ret2
    refine ⟨fun _ => ⟨rfl, Lib.hid ⟨sa5, sc5, A7, c7, ?_⟩⟩, fun h => absurd rfl h⟩
    have NEW := LM.push_rec HQ.out BZ.out HVL.out HV.out rfl OZ.out O7.out G7.out K7.out HRO.out HRW.out HI5.out
    rw [← HQL.out] at NEW
    exact WRun.fewer (w_log1 HP.out HQ.out F1.out F2.out F3.out F4.out NEW) (fun g hg => List.mem_cons_of_mem _ hg)
  · have hne : (er != 0) = true := by simpa using her
    have hne2 : (er == 0) = false := by simpa using her
    have E5 := Lib.hid (WL.out her)
    go_wp2
    go_ret2
    refine ⟨fun h => absurd h her, fun _ => ⟨rfl, Lib.hid ⟨sa5, sc5, ?_⟩⟩⟩
    have h6 := WRun.fewer h5 (G' := G) (fun g hg => List.mem_cons_of_mem _ (List.mem_cons_of_mem _ hg))
    rw [E5.out] at h6
    exact h6
set_option maxRecDepth 20000 in
set_option maxHeartbeats 4000000 in
theorem lappend_big {w0 w : World} {T Lb : Nat} {s : S} {l : Wl.L} {G : List (Nat × Obj)} {sa : Option Addr} {sc : Nat} {ra : Option Addr} {rc : Nat} (h : WRun w0 w T Lb s l G sa sc ra rc)
    (ep : Int) (e0 : 0 ≤ ep) (e1 : ep ≤ 1048575) (he : Wl.epochV l ≤ ep) (hend : Wl.endV l ≤ 17592186044415) (A : Option Addr) (n cap : Nat) (hl : 1024 < n) :
    Calls Tryz.prog 9 #[.pointer (some ⟨Lb, 0, none⟩), .int .i64 ep, .slice A n cap] w fun e w' => StE 0 14 e ∧ Hid (WRun w0 w' T Lb s l G sa sc ra rc) := by
  have H := Lib.hid h
  have EP := Lib.hid (epoch_w h)
  have ENd := Lib.hid (fun (W : World) (hW : WRun w0 W T Lb s l G sa sc ra rc) => end_w hW)
  have PK := pack_any ep (Wl.endV l)
  generalize Pl.packV ep (Wl.endV l) = st at *
  generalize Pl.packOk ep (Wl.endV l) = po at *
  have PU := Lib.hid (fun (W : World) => put_large none A 0 n 0 cap st hl W)
  generalize Wl.endV l = en at *
  generalize Wl.epochV l = epl at *
  clear h
  go_enter Tryz.func9, Tryz.ntmps9
  go_wp2_with fail
  (with_reducible refine EP.out.mono ?_); rintro e w1 ⟨rfl, j1, rfl⟩
  have H1 := Lib.hid (WRun.draw H.out j1)
  generalize w.drewN j1 = w1 at *
  go_wp2_with fail
  (with_reducible refine (ENd.out _ H1.out).mono ?_); rintro e w2 ⟨rfl, j2, rfl⟩
  have H2 := Lib.hid (WRun.draw H1.out j2)
  generalize w1.drewN j2 = w2 at *
  go_wp2_with fail
  (with_reducible refine (PK _).mono ?_); rintro e w' ⟨rfl, rfl⟩
  go_wp2_with fail
  (with_reducible refine (PU.out _).mono ?_); rintro e w3 ⟨rfl, g3⟩
  have H3 := Lib.hid (WRun.grow (WRun.alloc H2.out _) g3.below)
  clear g3
  go_wp2
  go_ret2
  exact ⟨rfl, H3⟩
end Go.Proofs.YtdbhicifjljjnaaGreatDoor
/-
  A log in memory, changed: a segment's size, fewer segments, fewer records, how far it is durable.
-/
namespace Go.Proofs.YtdbhicifjljjnaaGreatDoor
open Go.RowKit St
theorem flat2_take : ∀ (vs : List (Value × Value)) (n : Nat), (flat2 vs).take (n * 2) = flat2 (vs.take n)
  | [], n => by simp [flat2]
  | v :: r, 0 => by simp [flat2]
  | v :: r, n + 1 => by
    have ih := flat2_take r n
    have e : flat2 (v :: r) = v.1 :: v.2 :: flat2 r := rfl
    rw [e, show (n + 1) * 2 = n * 2 + 1 + 1 by omega, List.take_succ_cons, List.take_succ_cons, ih]
    rfl
theorem OwnP.take {w : World} {base g cap : Nat} {T : TypeId} {vs : List (Value × Value)} (h : OwnP w base T (some ⟨g, 0, none⟩) cap vs) (n : Nat) (hn : n ≤ vs.length) : OwnP w base T (some ⟨g, 0, none⟩) cap (vs.take n) := by
  have hl : (vs.take n).length = n := by rw [List.length_take]; omega
  unfold OwnP
  rw [hl]
  refine ⟨by rw [flat2_len, hl], ?_⟩
  rcases h.2 with ⟨e, _⟩ | ⟨g', c', cur, e, hb, hg, hle, hm, hsz, htk⟩
  · cases e
  · injection e with e1 e2 e3
    injection e1 with e1
    injection e1 with e1
    subst e1 e3
    refine .inr ⟨g, _, cur, rfl, hb, hg, by omega, hm, hsz, ?_⟩
    have e : cur.toList.take (n * 2) = (cur.toList.take (vs.length * 2)).take (n * 2) := by rw [List.take_take, Nat.min_eq_left (by omega)]
    rw [e, htk, flat2_take]
/-- What stands behind the row may turn. -/
theorem OwnP.behind {base g cap : Nat} {T : TypeId} {vs : List (Value × Value)} : ∀ (us : List Value) (w : World) (o : Nat), OwnP w base T (some ⟨g, 0, none⟩) cap vs → vs.length * 2 ≤ o → OwnP (w.setCells g o us) base T (some ⟨g, 0, none⟩) cap vs
  | [], _, _, h, _ => h
  | u :: r, w, o, h, ho => by
    have h1 : OwnP (w.setCell ⟨g, o, none⟩ u) base T (some ⟨g, 0, none⟩) cap vs := by
      have := w_ownsRow_set h o u
      rwa [List.set_eq_of_length_le (by rw [flat2_len]; exact ho)] at this
    exact OwnP.behind r _ (o + 1) h1 (by omega)
theorem heap_setCells (g : Nat) : ∀ (us : List Value) (w : World) (o k : Nat), k ≠ g → (w.setCells g o us).heap[k]? = w.heap[k]?
  | [], _, _, _, _ => rfl
  | u :: r, w, o, k, hk => (heap_setCells g r _ (o + 1) k hk).trans (Below.heap_setCell _ _ _ _ hk)
theorem only_setCells {O : Nat → Prop} {g : Nat} (hg : O g) : ∀ (us : List Value) (w : World) (o : Nat), Only O w (w.setCells g o us)
  | [], w, _ => Only.refl _ _
  | u :: r, w, o => (Only.set O o w u hg).trans (only_setCells hg r _ (o + 1)) fun _ h => .inl h
section
variable {w : World} {Lb T : Nat} {O : Nat → Prop} {l : Wl.L} {sa : Option Addr} {sc : Nat} {ra : Option Addr} {rc : Nat}
theorem LM.apart (h : LM w Lb T O l sa sc ra rc) : (∀ a, sa = some a → a.block ≠ Lb) ∧ (∀ a, ra = some a → a.block ≠ Lb) ∧ (∀ a b, sa = some a → ra = some b → a.block ≠ b.block) ∧ (∀ a, ra = some a → O a.block) := by
  obtain ⟨vs, r1, r2, r3, r4⟩ := h.recs
  have np : ∀ {T' : TypeId} {A : Option Addr} {cap : Nat} {us : List (Value × Value)}, OwnP w 0 T' A cap us → T' ≠ 57 → ∀ a, A = some a → a.block ≠ Lb := fun hb ht a ha => by
    subst ha
    obtain ⟨cur, hc⟩ := wal_block hb
    exact type_ne hc h.obj ht
  refine ⟨np h.segs (by decide), np r2 (by decide), fun a b ha hb => ?_, r3⟩
  subst ha hb
  obtain ⟨cur, hc⟩ := wal_block h.segs
  obtain ⟨cur2, hc2⟩ := wal_block r2
  exact type_ne hc hc2 (by decide)
/-- The bytes of a record stand in no row of pairs, and not in the log's object. -/
theorem OwnB.not_row {g cap cap2 : Nat} {A : Option Addr} {zs : List Int} {T' : TypeId} {us : List (Value × Value)} (hb : OwnB w 0 A cap zs) (h : OwnP w 0 T' (some ⟨g, 0, none⟩) cap2 us) (hT : T' ≠ 5) : ∀ a, A = some a → a.block ≠ g := fun a ha => by
  subst ha
  obtain ⟨cur, hc⟩ := hb.block
  obtain ⟨cur2, hc2⟩ := wal_block h
  exact type_ne hc hc2 (Ne.symm hT)
/-- One segment's size, stored. -/
theorem LM.sized {g : Nat} (h : LM w Lb T O l (some ⟨g, 0, none⟩) sc ra rc) {i : Nat} (hi : i < l.segs.length) (v : Int) (hinv : Wl.Inv { l with segs := l.segs.set i ((l.segs.getD i (0, 0)).1, v) }) :
    LM (w.setCell ⟨g, i * 2 + 1, none⟩ (.int .i64 v)) Lb T O { l with segs := l.segs.set i ((l.segs.getD i (0, 0)).1, v) } (some ⟨g, 0, none⟩) sc ra rc := by
  obtain ⟨a1, a2, a3, a4⟩ := h.apart
  have hgL : g ≠ Lb := a1 _ rfl
  have hk : ∀ k, k ≠ g → (w.setCell ⟨g, i * 2 + 1, none⟩ (.int .i64 v)).heap[k]? = w.heap[k]? := fun k hk => Below.heap_setCell _ _ _ _ hk
  obtain ⟨vs, r1, r2, r3, r4⟩ := h.recs
  refine ⟨?_, h.segs.set2 hi v, ⟨vs, r1, r2.keep fun b hb => hk _ fun e => a3 _ b rfl hb e.symm, r3, fun j hj => ?_⟩, h.ownL, h.ownS, fun k hk => by have := h.lt k hk; simpa [World.setCell] using this, hinv⟩
  · rw [hk _ (Ne.symm hgL), h.obj]; simp
  · obtain ⟨q1, A, cap, q2, q3, q4⟩ := r4 j hj
    exact ⟨q1, A, cap, q2, q3.keep fun b hb => hk _ (q3.not_row h.segs (by decide) b hb), q4⟩
/-- The log's object, one cell of which is another. -/
theorem LM.recell (h : LM w Lb T O l sa sc ra rc) {l' : Wl.L} (o : Nat) (v : Value) (hs : OwnP w 0 70 sa sc (segV l'.segs)) (hr : RecsO w O ra rc l'.recs) (hinv : Wl.Inv l')
    (ho : #[.pointer (some ⟨T, 0, none⟩), .int .i64 l.most, .slice sa l.segs.length sc, .slice ra l.recs.length rc, .int .i64 l.sure].setIfInBounds o v = #[.pointer (some ⟨T, 0, none⟩), .int .i64 l'.most, .slice sa l'.segs.length sc, .slice ra l'.recs.length rc, .int .i64 l'.sure]) :
    LM (w.setCell ⟨Lb, o, none⟩ v) Lb T O l' sa sc ra rc := by
  obtain ⟨a1, a2, a3, a4⟩ := h.apart
  have hk : ∀ k, k ≠ Lb → (w.setCell ⟨Lb, o, none⟩ v).heap[k]? = w.heap[k]? := fun k hk => Below.heap_setCell _ _ _ _ hk
  obtain ⟨vs, r1, r2, r3, r4⟩ := hr
  refine ⟨?_, hs.keep fun a ha => hk _ (a1 a ha), ⟨vs, r1, r2.keep fun a ha => hk _ (a2 a ha), r3, fun j hj => ?_⟩, h.ownL, h.ownS, fun k hk => by have := h.lt k hk; simpa [World.setCell] using this, hinv⟩
  · rw [heap_setCell_same w Lb o _ _ v h.obj, ho]
  · obtain ⟨q1, A, cap, q2, q3, q4⟩ := r4 j hj
    refine ⟨q1, A, cap, q2, q3.keep fun b hb => ?_, q4⟩
    subst hb
    obtain ⟨cur, hc⟩ := q3.block
    exact hk _ (type_ne hc h.obj (by decide))
theorem segV_take (g : List (Int × Int)) (n : Nat) : segV (g.take n) = (segV g).take n := by unfold segV; rw [List.map_take]
/-- Only the first n segments stay. -/
theorem LM.cut_segs (h : LM w Lb T O l sa sc ra rc) (n : Nat) (h0 : 0 < n) (hn : n ≤ l.segs.length) (hinv : Wl.Inv { l with segs := l.segs.take n }) :
    LM (w.setCell ⟨Lb, 2, none⟩ (.slice sa n sc)) Lb T O { l with segs := l.segs.take n } sa sc ra rc := by
  have hs := h.segs
  obtain ⟨g, e, _, _⟩ := hs.shape (by rw [segV_len]; omega)
  subst e
  refine h.recell 2 _ ?_ h.recs hinv ?_
  · rw [segV_take]
    exact hs.take n (by rw [segV_len]; exact hn)
  · simp [List.length_take, Nat.min_eq_left hn]
theorem RecsO.take {g : Nat} {rs : List Fr.Rc} (h : RecsO w O (some ⟨g, 0, none⟩) rc rs) (n : Nat) (hn : n ≤ rs.length) : RecsO w O (some ⟨g, 0, none⟩) rc (rs.take n) := by
  obtain ⟨vs, r1, r2, r3, r4⟩ := h
  have hl : (rs.take n).length = n := by rw [List.length_take]; omega
  refine ⟨vs.take n, by rw [List.length_take, hl]; omega, r2.take n (by omega), r3, fun j hj => ?_⟩
  rw [hl] at hj
  have e1 : (vs.take n).getD j (undef, undef) = vs.getD j (undef, undef) := by rw [List.getD_eq_getElem?_getD, List.getD_eq_getElem?_getD, List.getElem?_take_of_lt hj]
  have e2 : (rs.take n).getD j (0, []) = rs.getD j (0, []) := by rw [List.getD_eq_getElem?_getD, List.getD_eq_getElem?_getD, List.getElem?_take_of_lt hj]
  rw [e1, e2]
  exact r4 j (by omega)
/-- Only the first n records stay; what stood behind them is struck. -/
theorem LM.cut_recs {g : Nat} (h : LM w Lb T O l sa sc (some ⟨g, 0, none⟩) rc) (n : Nat) (hn : n ≤ l.recs.length) (us : List Value) (hinv : Wl.Inv { l with recs := l.recs.take n }) :
    LM ((w.setCells g (n * 2) us).setCell ⟨Lb, 3, none⟩ (.slice (some ⟨g, 0, none⟩) n rc)) Lb T O { l with recs := l.recs.take n } sa sc (some ⟨g, 0, none⟩) rc := by
  obtain ⟨a1, a2, a3, a4⟩ := h.apart
  have hk : ∀ k, k ≠ g → (w.setCells g (n * 2) us).heap[k]? = w.heap[k]? := fun k hk => heap_setCells g us w _ k hk
  have hl : (l.recs.take n).length = n := by rw [List.length_take]; omega
  obtain ⟨vs, r1, r2, r3, r4⟩ := h.recs.take n hn
  rw [hl] at r1
  have hobj : (w.setCells g (n * 2) us).heap[Lb]? = w.heap[Lb]? := hk _ (Ne.symm (a2 _ rfl))
  have hsz : (w.setCells g (n * 2) us).heap.size = w.heap.size := by
    have : ∀ (us : List Value) (w : World) (o : Nat), (w.setCells g o us).heap.size = w.heap.size := fun us => by
      induction us with
      | nil => intro w o; rfl
      | cons u r ih => intro w o; rw [World.setCells, ih]; simp [World.setCell]
    exact this us w _
  have hR : RecsO (w.setCells g (n * 2) us) O (some ⟨g, 0, none⟩) rc (l.recs.take n) := by
    refine ⟨vs, by rw [r1, hl], r2.behind us w (n * 2) (by omega), r3, fun j hj => ?_⟩
    obtain ⟨q1, A, cap, q2, q3, q4⟩ := r4 j hj
    exact ⟨q1, A, cap, q2, q3.keep fun b hb => hk _ (q3.not_row r2 (by decide) b hb), q4⟩
  -- the object as it stood, over the world behind the strike
  have hk2 : ∀ k, k ≠ Lb → ((w.setCells g (n * 2) us).setCell ⟨Lb, 3, none⟩ (.slice (some ⟨g, 0, none⟩) n rc)).heap[k]? = (w.setCells g (n * 2) us).heap[k]? := fun k hk => Below.heap_setCell _ _ _ _ hk
  obtain ⟨vs2, t1, t2, t3, t4⟩ := hR
  refine ⟨?_, h.segs.keep fun a ha => (hk2 _ (a1 a ha)).trans (hk _ (a3 a _ ha rfl)), ⟨vs2, t1, t2.keep fun a ha => hk2 _ (a2 a ha), t3, fun j hj => ?_⟩, h.ownL, h.ownS, fun k hk => by have := h.lt k hk; simpa [World.setCell, hsz] using this, hinv⟩
  · rw [heap_setCell_same _ Lb 3 _ _ _ (hobj.trans h.obj)]
    simp [hl]
  · obtain ⟨q1, A, cap, q2, q3, q4⟩ := t4 j hj
    refine ⟨q1, A, cap, q2, q3.keep fun b hb => ?_, q4⟩
    subst hb
    obtain ⟨cur, hc⟩ := q3.block
    exact hk2 _ (type_ne hc (hobj.trans h.obj) (by decide))
end
/-! The same, beside the store. -/
section
variable {w0 w : World} {T Lb : Nat} {s : S} {l : Wl.L} {G : List (Nat × Obj)} {sa : Option Addr} {sc : Nat} {ra : Option Addr} {rc : Nat}
theorem WRun.sized {g : Nat} (h : WRun w0 w T Lb s l G (some ⟨g, 0, none⟩) sc ra rc) {i : Nat} (hi : i < l.segs.length) (v : Int) (hinv : Wl.Inv { l with segs := l.segs.set i ((l.segs.getD i (0, 0)).1, v) }) :
    WRun w0 (w.setCell ⟨g, i * 2 + 1, none⟩ (.int .i64 v)) T Lb s { l with segs := l.segs.set i ((l.segs.getD i (0, 0)).1, v) } G (some ⟨g, 0, none⟩) sc ra rc :=
  w_log h fun O _ q => ⟨O, q.sized hi v hinv, ⟨Only.set O _ w _ (q.ownS _ rfl), fun _ h => .inl h⟩⟩
theorem WRun.cut_segs (h : WRun w0 w T Lb s l G sa sc ra rc) (n : Nat) (h0 : 0 < n) (hn : n ≤ l.segs.length) (hinv : Wl.Inv { l with segs := l.segs.take n }) :
    WRun w0 (w.setCell ⟨Lb, 2, none⟩ (.slice sa n sc)) T Lb s { l with segs := l.segs.take n } G sa sc ra rc :=
  w_log h fun O _ q => ⟨O, q.cut_segs n h0 hn hinv, ⟨Only.set O _ w _ q.ownL, fun _ h => .inl h⟩⟩
theorem WRun.cut_recs {g : Nat} (h : WRun w0 w T Lb s l G sa sc (some ⟨g, 0, none⟩) rc) (n : Nat) (hn : n ≤ l.recs.length) (us : List Value) (hinv : Wl.Inv { l with recs := l.recs.take n }) :
    WRun w0 ((w.setCells g (n * 2) us).setCell ⟨Lb, 3, none⟩ (.slice (some ⟨g, 0, none⟩) n rc)) T Lb s { l with recs := l.recs.take n } G sa sc (some ⟨g, 0, none⟩) rc :=
  w_log h fun O _ q => ⟨O, q.cut_recs n hn us hinv, ⟨(only_setCells (q.apart.2.2.2 _ rfl) us w _).trans (Only.set O _ _ _ q.ownL) fun _ h => .inl h, fun _ h => .inl h⟩⟩
theorem WRun.sured (h : WRun w0 w T Lb s l G sa sc ra rc) (v : Int) (h0 : 0 ≤ v) (h1 : v ≤ 17609365913600) : WRun w0 (w.setCell ⟨Lb, 4, none⟩ (.int .i64 v)) T Lb s { l with sure := v } G sa sc ra rc :=
  w_log h fun O _ q => ⟨O, q.sured v h0 h1, ⟨Only.set O _ w _ q.ownL, fun _ h => .inl h⟩⟩
end
end Go.Proofs.YtdbhicifjljjnaaGreatDoor
/-
  slices.Delete at []frame.Rec, of all that stands from a record on.
-/
namespace Go.Proofs.YtdbhicifjljjnaaGreatDoor
open Go.RowKit St
theorem undR : Tryz.prog.underlying 29 = some (.slice 40) := Tryz.underlying29
theorem recT_info : (Tryz.prog.info? 40).map (fun i => (i.zero, i.size, i.bytes)) = some (some (.agg #[.int .u64 0, .slice none 0 0]), 2, 32) := by kernel_rfl
theorem zeroR (w : World) : (zeroValue 40).run Tryz.prog w = .ok (.agg #[.int .u64 0, .slice none 0 0]) w := by kernel_rfl
theorem zeroCells_one (z : Array Value) (n : Nat) (h : ∀ v ∈ z, v.oneCell' = true) (h0 : 0 < z.size) : (Builtin.zeroCells z n).toList.length = n * z.size ∧ ∀ v ∈ (Builtin.zeroCells z n).toList, v.oneCell' = true := by
  unfold Builtin.zeroCells
  refine ⟨by simp, fun v hv => ?_⟩
  simp at hv
  obtain ⟨i, hi, rfl⟩ := hv
  have hm : i % z.size < z.size := Nat.mod_lt _ h0
  rw [getElem!_pos z _ hm]
  exact h _ (Array.getElem_mem hm)
/-- 'clear' on a slice of records: their cells hold something else. -/
theorem clear_recs (w : World) (ty : TypeId) (b o n c : Nat) (hn : 0 < n) (hc : ∀ j, j < n * 2 → (w.cell? ⟨b, o + j, none⟩).isSome = true) (hf : ∀ j, j < n * 2 → w.frozen? ⟨b, o + j, none⟩ = false) :
    (Builtin.clear_ #[29] ty #[.slice (some ⟨b, o, none⟩) n c]).run Tryz.prog w = .ok (.tuple #[]) (w.setCells b o (Builtin.zeroCells #[.int .u64 0, .slice none 0 0] n).toList) := by
  obtain ⟨z1, z2⟩ := zeroCells_one #[.int .u64 0, .slice none 0 0] n (by simp [Value.oneCell']) (by simp)
  have z1' : (Builtin.zeroCells #[.int .u64 0, .slice none 0 0] n).toList.length = n * 2 := z1
  have hst := run_storeCells_cells (P := Tryz.prog) b o (Builtin.zeroCells #[.int .u64 0, .slice none 0 0] n).toList 0 w (by rw [z1']; simpa using hc) (by rw [z1']; simpa using hf) z2
  simp only [Nat.add_zero] at hst
  obtain ⟨m, rfl⟩ : ∃ m, n = m + 1 := ⟨n - 1, by omega⟩
  have hcs : (Value.agg #[.int .u64 0, .slice none 0 0]).cells = #[.int .u64 0, .slice none 0 0] := rfl
  simp [Builtin.clear_, run_underlying undR, zeroR, hcs, hst]
theorem OwnP.spare {w : World} {base g cap : Nat} {T : TypeId} {vs : List (Value × Value)} (h : OwnP w base T (some ⟨g, 0, none⟩) cap vs) : vs.length ≤ cap ∧ cap ≤ 9223372036854775807 ∧ ∀ j, j < cap * 2 → (w.cell? ⟨g, j, none⟩).isSome = true ∧ w.frozen? ⟨g, j, none⟩ = false := by
  rcases h.2 with ⟨e, _⟩ | ⟨g', c', cur, e, hb, hg, hle, hm, hsz, htk⟩
  · cases e
  · injection e with e1 e2 e3
    injection e1 with e1
    injection e1 with e1
    subst e1 e3
    refine ⟨hle, by unfold maxLen at hm; exact hm, fun j hj => ⟨?_, ?_⟩⟩
    · simp [World.cell?, hg]; omega
    · simp [World.frozen?, hg]
set_option maxRecDepth 20000 in
set_option maxHeartbeats 4000000 in
theorem delete_rest {w : World} {base g cap : Nat} {vs : List (Value × Value)} (h : OwnP w base 40 (some ⟨g, 0, none⟩) cap vs) (n i : Nat) (hn : n = vs.length) (hi : i < n) :
    Calls Tryz.prog 33 #[.slice (some ⟨g, 0, none⟩) n cap, .int .i64 i, .int .i64 n] w fun e w' => e = .returned (.slice (some ⟨g, 0, none⟩) i cap) ∧ ∃ q us, w' = (w.drewN q).setCells g (i * 2) us := by
  obtain ⟨s1, s2, s3⟩ := h.spare
  rw [← hn] at s1
  clear hn h
  obtain ⟨i0, hi0, hz0, hz1, hz2⟩ := info_parts recT_info
  obtain ⟨A, hA⟩ : ∃ A : Addr, (if cap = n then (some ⟨g, 0, none⟩ : Option Addr) else some ⟨g, n * 2, none⟩) = some A := by
    by_cases hh : cap = n
    · exact ⟨_, by rw [if_pos hh]⟩
    · exact ⟨_, by rw [if_neg hh]⟩
  have hic : i ≤ cap := by omega
  have hne : (i : Int) ≠ n := by omega
  have hcl : ∀ (W : World) ty, (∀ j, j < cap * 2 → (W.cell? ⟨g, j, none⟩).isSome = true ∧ W.frozen? ⟨g, j, none⟩ = false) → (Builtin.clear_ #[29] ty #[.slice (some ⟨g, i * 2, none⟩) (n - i) (cap - i)]).run Tryz.prog W = .ok (.tuple #[]) (W.setCells g (i * 2) (Builtin.zeroCells #[.int .u64 0, .slice none 0 0] (n - i)).toList) :=
    fun W ty hW => clear_recs W ty g (i * 2) (n - i) (cap - i) (by omega) (fun j hj => (hW _ (by omega)).1) (fun j hj => (hW _ (by omega)).2)
  have hc2 : ∀ ty, (Builtin.clear_ #[29] ty #[.slice (some ⟨g, i * 2, none⟩) (n - i) (cap - i)]).run Tryz.prog w.drew = .ok (.tuple #[]) (w.drew.setCells g (i * 2) (Builtin.zeroCells #[.int .u64 0, .slice none 0 0] (n - i)).toList) := fun ty => hcl w.drew ty s3
  clear s3 hcl
  go_enter Tryz.func33, Tryz.ntmps33
  go_wp2_with fail
  go_region_law (refine step_append_room rfl (.tmp 22) (.tmp 25) 29 rfl 40 i0 2 undR hi0 hz1 g 0 i cap (by simp [Act.eval, Act.put]) A 0 (cap - n) [] (by simp [Act.eval, Act.put]) (by simp) (fun j u hu => by simp at hu) (fun u hu => by simp at hu) (by omega) (fun j hj => by simp at hj) ?_; rw [show w.drew.setCells g (0 + i * 2) [] = w.drew from rfl])
  go_wp2
  go_ret
  exact ⟨rfl, 1, _, rfl⟩
end Go.Proofs.YtdbhicifjljjnaaGreatDoor
/-
  The log's row of records grown by a row of records that a scan has made.
-/
namespace Go.Proofs.YtdbhicifjljjnaaGreatDoor
open Go.RowKit St
theorem flat2_apps (vs us : List (Value × Value)) : flat2 (vs ++ us) = flat2 vs ++ flat2 us := by
  induction vs with
  | nil => rfl
  | cons v t ih => rw [List.cons_append, show flat2 (v :: (t ++ us)) = v.1 :: v.2 :: flat2 (t ++ us) from rfl, ih]; rfl
theorem flat2_lens (vs : List (Value × Value)) : (flat2 vs).length = vs.length * 2 := by
  induction vs with
  | nil => rfl
  | cons v t ih => rw [show flat2 (v :: t) = v.1 :: v.2 :: flat2 t from rfl, List.length_cons, List.length_cons, ih, List.length_cons]; omega
set_option maxRecDepth 20000 in
/-- What an append of a row of pairs onto a row of the call's own leaves. -/
theorem run_appPn {w : World} {base : Nat} {T ST : TypeId} {A : Option Addr} {cap : Nat} {vs : List (Value × Value)} {z : Value} {by_ : Nat} (hST : Tryz.prog.underlying ST = some (.slice T))
    (hI : (Tryz.prog.info? T).map (fun i => (i.zero, i.size, i.bytes)) = some (some z, 2, by_)) (hz : z.cells.size = 2) (hby : by_ ≤ 64)
    (h : OwnP w base T A cap vs) (hbase : base ≤ w.heap.size) {base2 : Nat} {A2 : Option Addr} {cap2 : Nat} {us : List (Value × Value)} (hs : OwnP w base2 T A2 cap2 us) (hone : ∀ u ∈ flat2 us, u.oneCell' = true)
    (hlen : vs.length + us.length ≤ 1000000000) (ty : TypeId) :
    ∃ A' cap' w', (Builtin.append_ #[ST, ST] ty #[.slice A vs.length cap, .slice A2 us.length cap2]).run Tryz.prog w = .ok (.slice A' (vs ++ us).length cap') w' ∧
      OwnP w' base T A' cap' (vs ++ us) ∧ w.grownBy w' (Value.slice A vs.length cap).ownBlock ∧ ∀ a, A' = some a → (∃ a0, A = some a0 ∧ a.block = a0.block) ∨ a.block = w.heap.size := by
  obtain ⟨i, hi, hz0, hsz, hyb⟩ := info_parts hI
  rcases A2 with _ | ad
  · have h0 : us = [] := by
      rcases hs.2 with ⟨e, e0⟩ | ⟨g, c', cur, e, _⟩
      · injection e with e1 e2 e3
        exact List.eq_nil_of_length_eq_zero e2
      · injection e with e1 e2 e3
        cases e1
    subst h0
    refine ⟨A, cap, w, ?_, by rw [List.append_nil]; exact h, World.grownBy.refl _ _, fun a ha => .inl ⟨a, ha, rfl⟩⟩
    rw [List.append_nil]
    have hfit := h.2
    rcases hfit with ⟨e, _⟩ | ⟨g, c', cur, e, _, _, hle, _⟩
    · rw [e]
      simp [Builtin.append_, run_underlying hST, sizeOf, typeInfo, hi, Builtin.lenOf, Builtin.firstCells]
    · rw [e]
      simp [Builtin.append_, run_underlying hST, sizeOf, typeInfo, hi, Builtin.lenOf, Builtin.firstCells, hle, storeCells]
  · have hcell : ∀ j u, (flat2 us)[j]? = some u → w.cell? (ad.add j) = some u := fun j u hu => by
      have hj : j < (flat2 us).length := (List.getElem?_eq_some_iff.1 hu).1
      rw [flat2_lens] at hj
      obtain ⟨g, e, _, _⟩ := hs.shape (by omega)
      injection e with e
      subst e
      rw [add_off, Nat.zero_add, World.ownsRow.cellAt hs j (by omega)]
      exact hu
    obtain ⟨v', w', hrun, hown, hg, _, hwh⟩ := run_append_own_at (P := Tryz.prog) (w := w) base ST ty T i z 2 by_ hST hi hz0 hsz hyb hz (by decide)
      _ vs.length _ h ad us.length cap2 (flat2 us) (flat2_lens us) hcell hone (by unfold maxLen; omega) (by
        have h1 : (vs.length + us.length) * by_ ≤ 1000000000 * 64 := Nat.mul_le_mul hlen hby
        omega) hbase
    obtain ⟨A', cap', rfl⟩ := form_of2 hown
    have e : vs.length + us.length = (vs ++ us).length := by simp
    rw [e] at hrun hown
    refine ⟨A', cap', w', hrun, ?_, hg, fun a ha => ?_⟩
    · unfold OwnP
      rw [flat2_apps]
      exact hown
    · subst ha
      rcases hwh with h1 | h1
      · cases A with
        | none => simp [Value.ownBlock] at h1
        | some a0 => simp [Value.ownBlock] at h1; exact .inl ⟨a0, rfl, h1⟩
      · simp [Value.ownBlock] at h1; exact .inr h1
theorem step_appP4 {w : World} {o : Oper} {a : Act} {K : Act → World → Prop} {Q : Exit → Act → World → Prop} (s t : Operand) {T ST : TypeId}
    (ho : o.op = .call { callee := .builtin .append, args := #[s, t], argTypes := #[ST, ST] })
    {base : Nat} {A : Option Addr} {n cap : Nat} {vs : List (Value × Value)} {z x y : Value} {by_ : Nat} (hST : Tryz.prog.underlying ST = some (.slice T))
    (hI : (Tryz.prog.info? T).map (fun i => (i.zero, i.size, i.bytes)) = some (some z, 2, by_)) (hz : z.cells.size = 2) (hby : by_ ≤ 64)
    (hs : a.eval s = .slice A n cap) (hn : n = vs.length) (h : OwnP w base T A cap vs) (hbase : base ≤ w.heap.size)
    {b2 c : Nat} (ht : a.eval t = .slice (some ⟨b2, 0, none⟩) 1 c) (hx : w.cell? ⟨b2, 0, none⟩ = some x) (hy : w.cell? ⟨b2, 1, none⟩ = some y) (hx1 : x.oneCell' = true) (hy1 : y.oneCell' = true)
    (hlen : vs.length ≤ 1000000000) {r : Nat} (hr : vs.length + 1 = r)
    (H : ∀ A' cap' w', OwnP w' base T A' cap' (vs ++ [(x, y)]) → w.grownBy w' (Value.slice A vs.length cap).ownBlock → (∀ a, A' = some a → (∃ a0, A = some a0 ∧ a.block = a0.block) ∨ a.block = w.heap.size) → OwnP w' base T A cap vs → K (a.put o.dst (.slice A' r cap')) w') :
    Oper.wp Tryz.prog o a w K Q := by
  subst hn hr
  obtain ⟨A', cap', w', hrun, h1, h2, h3, h4⟩ := run_appP4 hST hI hz hby h hbase hx hy hx1 hy1 c hlen o.type
  unfold Oper.wp
  simp [execOp, ho, resolve, invoke, builtin, hs, ht, hrun, Result.andThen]
  have hk := H A' cap' w' h1 h2 h3 h4
  exact hk
theorem getD_apps {α : Type} (l m : List α) (d : α) (i : Nat) : (l ++ m).getD i d = if i < l.length then l.getD i d else m.getD (i - l.length) d := by
  split
  · next h => rw [List.getD_eq_getElem?_getD, List.getElem?_append_left h, ← List.getD_eq_getElem?_getD]
  · next h => rw [List.getD_eq_getElem?_getD, List.getElem?_append_right (by omega), ← List.getD_eq_getElem?_getD]
theorem LM.push_recs {w w5 : World} {Lb T : Nat} {O : Nat → Prop} {l : Wl.L} {sa : Option Addr} {sc : Nat} {ra : Option Addr} {rc : Nat} (h : LM w Lb T O l sa sc ra rc)
    {vs : List (Value × Value)} (hvl : vs.length = l.recs.length) (hv : ∀ i, i < l.recs.length → RecO w O (vs.getD i (undef, undef)) (l.recs.getD i (0, [])))
    {rs : List Fr.Rc} {us : List (Value × Value)} (hul : us.length = rs.length) (hu : ∀ i, i < rs.length → RecO w O (us.getD i (undef, undef)) (rs.getD i (0, []))) {A5 : Option Addr} {c5 : Nat}
    (h5 : OwnP w5 0 40 A5 c5 (vs ++ us)) (hg : w.grownBy w5 (Value.slice ra vs.length rc).ownBlock) (hw : ∀ a, A5 = some a → (∃ a0, ra = some a0 ∧ a.block = a0.block) ∨ a.block = w.heap.size)
    (hro : ∀ a, ra = some a → O a.block) (hrw : OwnP w 0 40 ra rc vs) (hinv : Wl.Inv { l with recs := l.recs ++ rs }) :
    ∃ O', LM (w5.setCell ⟨Lb, 3, none⟩ (.slice A5 (l.recs.length + rs.length) c5)) Lb T O' { l with recs := l.recs ++ rs } sa sc A5 c5 ∧ Step O O' w (w5.setCell ⟨Lb, 3, none⟩ (.slice A5 (l.recs.length + rs.length) c5)) := by
  have hLt := h.lt Lb h.ownL
  have hb : Below w.heap.size w w := Below.refl _ _
  -- a block that is not the row's is as it was
  have keep5 : ∀ k, k < w.heap.size → (∀ a, ra = some a → k ≠ a.block) → w5.heap[k]? = w.heap[k]? := fun k hk hne => hg.block k hk (by
    cases ra with
    | none => simp [Value.ownBlock]
    | some a => simp [Value.ownBlock]; exact hne a rfl)
  have sz5 : w.heap.size ≤ w5.heap.size := hg.size
  have np : ∀ {T' T2 : TypeId} {A A2 : Option Addr} {cap cap2 : Nat} {us us2 : List (Value × Value)}, OwnP w 0 T' A cap us → OwnP w 0 T2 A2 cap2 us2 → T' ≠ T2 → ∀ a a2, A = some a → A2 = some a2 → a.block ≠ a2.block := fun h1 h2 ht a a2 ha ha2 => by
    subst ha; subst ha2
    obtain ⟨c1, e1⟩ := wal_block h1
    obtain ⟨c2, e2⟩ := wal_block h2
    exact type_ne e1 e2 ht
  have nb : ∀ {A A2 : Option Addr} {cap cap2 : Nat} {zs : List Int} {us : List (Value × Value)} {T2 : TypeId}, OwnB w 0 A cap zs → OwnP w 0 T2 A2 cap2 us → 5 ≠ T2 → ∀ a a2, A = some a → A2 = some a2 → a.block ≠ a2.block := fun h1 h2 ht a a2 ha ha2 => by
    subst ha; subst ha2
    obtain ⟨c1, e1⟩ := h1.block
    obtain ⟨c2, e2⟩ := wal_block h2
    exact type_ne e1 e2 ht
  have nL : ∀ {T' : TypeId} {A : Option Addr} {cap : Nat} {us : List (Value × Value)}, OwnP w 0 T' A cap us → T' ≠ 57 → ∀ a, A = some a → a.block ≠ Lb := fun h1 ht a ha => by
    subst ha
    obtain ⟨c1, e1⟩ := wal_block h1
    exact type_ne e1 h.obj ht
  have nLb : ∀ {A : Option Addr} {cap : Nat} {zs : List Int}, OwnB w 0 A cap zs → ∀ a, A = some a → a.block ≠ Lb := fun h1 a ha => by
    subst ha
    obtain ⟨c1, e1⟩ := h1.block
    exact type_ne e1 h.obj (by decide)
  have obj5' : w5.heap[Lb]? = w.heap[Lb]? := (keep5 Lb (Nat.lt_of_lt_of_le hLt hb.size) fun a ha e => nL hrw (by decide) a ha e.symm).trans (hb.block Lb hLt)
  have hob := obj5'.trans h.obj
  have o3 := obj_set (o := 3) hob (.slice A5 (l.recs.length + rs.length) c5)
  have hkb : ∀ k, k ≠ Lb → (w5.setCell ⟨Lb, 3, none⟩ (.slice A5 (l.recs.length + rs.length) c5)).heap[k]? = w5.heap[k]? := fun k hk => Below.heap_setCell _ _ _ _ hk
  have hsz : (w5.setCell ⟨Lb, 3, none⟩ (.slice A5 (l.recs.length + rs.length) c5)).heap.size = w5.heap.size := by simp [World.setCell]
  have hA5 : ∀ a, A5 = some a → a.block < w5.heap.size ∧ (O a.block ∨ w.heap.size ≤ a.block) ∧ a.block ≠ Lb := fun a ha => by
    refine ⟨by subst ha; exact h5.lt.2, ?_, ?_⟩
    · rcases hw a ha with ⟨a0, h1, h2⟩ | h1
      · exact .inl (h2 ▸ hro a0 h1)
      · exact .inr (by rw [h1]; exact hb.size)
    · rcases hw a ha with ⟨a0, h1, h2⟩ | h1
      · rw [h2]; exact nL hrw (by decide) a0 h1
      · rw [h1]; have := hb.size; omega
  refine ⟨fun k => O k ∨ ∃ a, A5 = some a ∧ k = a.block, ⟨?_, ?_, ⟨_, ?_, h5.keep fun a ha => hkb _ (hA5 a ha).2.2, fun a ha => ?_, fun i hi => ?_⟩, .inl h.ownL, fun a ha => .inl (h.ownS a ha), fun k hk => ?_, hinv⟩, ?_, fun k hk => ?_⟩
  · rw [o3]; simp
  · exact h.segs.keep fun a ha => (hkb _ (nL h.segs (by decide) a ha)).trans ((keep5 _ (Nat.lt_of_lt_of_le (h.lt _ (h.ownS a ha)) hb.size) fun a2 ha2 => np h.segs hrw (by decide) a a2 ha ha2).trans (hb.block _ (h.lt _ (h.ownS a ha))))
  · simp [hvl, hul]
  · exact .inr ⟨a, ha, rfl⟩
  · show RecO _ _ _ ((l.recs ++ rs).getD i (0, []))
    rw [getD_apps, getD_apps]
    by_cases hi2 : i < l.recs.length
    · rw [if_pos hi2, if_pos (by omega)]
      obtain ⟨q1, A, cap, q2, q3, q4⟩ := hv i hi2
      exact ⟨q1, A, cap, q2, q3.keep fun a ha => (hkb _ (nLb q3 a ha)).trans ((keep5 _ (Nat.lt_of_lt_of_le (h.lt _ (q4 a ha)) hb.size) fun a2 ha2 => nb q3 hrw (by decide) a a2 ha ha2).trans (hb.block _ (h.lt _ (q4 a ha)))), fun a ha => .inl (q4 a ha)⟩
    · rw [if_neg hi2, if_neg (by omega), hvl]
      have hi3 : i < (l.recs ++ rs).length := hi
      rw [List.length_append] at hi3
      obtain ⟨q1, A, cap, q2, q3, q4⟩ := hu (i - l.recs.length) (by omega)
      exact ⟨q1, A, cap, q2, q3.keep fun a ha => (hkb _ (nLb q3 a ha)).trans (keep5 _ (h.lt _ (q4 a ha)) fun a2 ha2 => nb q3 hrw (by decide) a a2 ha ha2), fun a ha => .inl (q4 a ha)⟩
  · rw [hsz]
    rcases hk with h1 | ⟨a, ha, rfl⟩
    · have := h.lt k h1; have := hg.size; omega
    · exact (hA5 a ha).1
  · have h1 : Only O w w5 := Only.grown hg fun k hk => by
      cases ra with
      | none => cases hk
      | some a => simp [Value.ownBlock] at hk; subst hk; exact hro a rfl
    exact ((Only.of (own := O) hb).trans h1 fun _ h => .inl h).trans (Only.set O 3 w5 _ h.ownL) fun _ h => .inl h
  · rcases hk with h1 | ⟨a, ha, rfl⟩
    · exact .inl h1
    · exact (hA5 a ha).2.1
theorem wp_appPn {w : World} {ops : Array Oper} {rest : List Oper} {o : Oper} {a : Act} {Q : Exit → Act → World → Prop} (hgd : o.guard = none) (s t : Operand) {T ST : TypeId}
    (ho : o.op = .call { callee := .builtin .append, args := #[s, t], argTypes := #[ST, ST] })
    {base : Nat} {A : Option Addr} {n cap : Nat} {vs : List (Value × Value)} {z : Value} {by_ : Nat} (hST : Tryz.prog.underlying ST = some (.slice T))
    (hI : (Tryz.prog.info? T).map (fun i => (i.zero, i.size, i.bytes)) = some (some z, 2, by_)) (hz : z.cells.size = 2) (hby : by_ ≤ 64)
    (hs : a.eval s = .slice A n cap) (hn : n = vs.length) (h : OwnP w base T A cap vs) (hbase : base ≤ w.heap.size)
    {base2 : Nat} {A2 : Option Addr} {m c : Nat} {us : List (Value × Value)} (ht : a.eval t = .slice A2 m c) (hm : m = us.length) (hu : OwnP w base2 T A2 c us) (hone : ∀ u ∈ flat2 us, u.oneCell' = true)
    (hlen : vs.length + us.length ≤ 1000000000) {r : Nat} (hr : vs.length + us.length = r)
    (K : ∀ A' cap' w', OwnP w' base T A' cap' (vs ++ us) → w.grownBy w' (Value.slice A vs.length cap).ownBlock → (∀ a, A' = some a → (∃ a0, A = some a0 ∧ a.block = a0.block) ∨ a.block = w.heap.size) → wpList Tryz.prog ops Q rest (a.put o.dst (.slice A' r cap')) w') :
    wpList Tryz.prog ops Q (o :: rest) a w := by
  subst hn hm hr
  obtain ⟨A', cap', w', hrun, h1, h2, h3⟩ := run_appPn hST hI hz hby h hbase hu hone hlen o.type
  refine wpList_plain hgd fun K' hK => ?_
  unfold Oper.wp
  simp [execOp, ho, resolve, invoke, builtin, hs, ht, hrun, Result.andThen]
  have hk := K A' cap' w' h1 h2 h3
  exact hK _ _ hk
end Go.Proofs.YtdbhicifjljjnaaGreatDoor
/-
  A log beside all the blocks that a call has made; a guest that is written; a longer row of segments taken over; the store's Read and Cut beside a log.
-/
namespace Go.Proofs.YtdbhicifjljjnaaGreatDoor
open Go.RowKit St
/-- All the blocks that lie in w' and not in w. -/
def newG (w w' : World) : List (Nat × Obj) := (List.range w'.heap.size).filterMap fun k => if w.heap.size ≤ k then (w'.heap[k]?).map (fun o => (k, o)) else none
theorem newG_mem {w w' : World} {k : Nat} {o : Obj} : (k, o) ∈ newG w w' ↔ w.heap.size ≤ k ∧ w'.heap[k]? = some o := by
  unfold newG
  rw [List.mem_filterMap]
  constructor
  · rintro ⟨j, _, hj⟩
    split at hj
    · next h =>
      obtain ⟨o', h1, h2⟩ := Option.map_eq_some_iff.1 hj
      injection h2 with h2 h3
      subst h2 h3
      exact ⟨h, h1⟩
    · cases hj
  · rintro ⟨h1, h2⟩
    refine ⟨k, List.mem_range.2 (w_some_lt h2), ?_⟩
    rw [if_pos h1, h2]
    rfl
section
variable {w0 w : World} {T Lb : Nat} {s : S} {l : Wl.L} {G : List (Nat × Obj)} {sa : Option Addr} {sc : Nat} {ra : Option Addr} {rc : Nat} (h : WRun w0 w T Lb s l G sa sc ra rc)
include h
theorem WRun.news {w' : World} (hb : Below w.heap.size w w') : WRun w0 w' T Lb s l (newG w w' ++ G) sa sc ra rc := by
  obtain ⟨o1, O, p, q, h1, h2, h3, h4⟩ := h
  refine ⟨o1, O, p.grow hb, q.grow hb, h1, h2, h3.trans (hb.mono h3.size), fun g m => ?_⟩
  rcases List.mem_append.1 m with m | m
  · obtain ⟨m1, m2⟩ := (newG_mem (k := g.1) (o := g.2)).1 m
    exact ⟨m2, fun hk => by have := p.lt _ hk; omega, fun hk => by have := q.lt _ hk; omega⟩
  · exact ⟨(hb.block g.1 (w_some_lt (h4 g m).1)).trans (h4 g m).1, (h4 g m).2⟩
/-- The guests' blocks are as they were. -/
theorem WRun.kept {w1 w2 : World} (hG : ∀ k, w1.heap.size ≤ k → ∀ o, w2.heap[k]? = some o → (k, o) ∈ G) {k : Nat} (h1 : w1.heap.size ≤ k) (h2 : k < w2.heap.size) : w.heap[k]? = w2.heap[k]? := by
  have e : w2.heap[k]? = some w2.heap[k] := Array.getElem?_eq_getElem h2
  rw [e]
  exact WRun.block h (hG k h1 _ e)
/-- A guest that is written. -/
theorem WRun.setG {X : Nat} {cs : Array Value} {t : TypeId} (hx : (X, Obj.cells cs t (0, 0)) ∈ G) (hX : w0.heap.size ≤ X) (o : Nat) (v : Value) {G' : List (Nat × Obj)} (hG : ∀ g ∈ G', g ∈ G ∧ g.1 ≠ X) :
    WRun w0 (w.setCell ⟨X, o, none⟩ v) T Lb s l ((X, Obj.cells (cs.setIfInBounds o v) t (0, 0)) :: G') sa sc ra rc := by
  obtain ⟨o1, O, p, q, h1, h2, h3, h4⟩ := h
  obtain ⟨x1, x2, x3⟩ := h4 _ hx
  have hk : ∀ k, k ≠ X → (w.setCell ⟨X, o, none⟩ v).heap[k]? = w.heap[k]? := fun k hk => Below.heap_setCell _ _ _ _ hk
  have hsz : (w.setCell ⟨X, o, none⟩ v).heap.size = w.heap.size := by simp [World.setCell]
  refine ⟨o1, O, p.same (by omega) fun k k1 => hk k fun e => x2 (e ▸ k1), q.same (by omega) fun k k1 => hk k fun e => x3 (e ▸ k1), h1, h2, h3.setCell (p := ⟨X, o, none⟩) hX v, fun g m => ?_⟩
  rcases List.mem_cons.1 m with rfl | m
  · exact ⟨heap_setCell_same w X o cs _ v x1, x2, x3⟩
  · obtain ⟨m1, m2⟩ := hG g m
    exact ⟨(hk _ m2).trans (h4 g m1).1, (h4 g m1).2⟩
/-- The blocks that a call has made become the log's own. -/
theorem WRun.adopt {w4 w5 : World} {G' : List (Nat × Obj)} (hG : ∀ k, w4.heap.size ≤ k → ∀ o, w5.heap[k]? = some o → (k, o) ∈ G) (hs : ∀ g ∈ G', g ∈ G ∧ (g.1 < w4.heap.size ∨ w5.heap.size ≤ g.1)) (h04 : w0.heap.size ≤ w4.heap.size) :
    ∃ o1 O, PState w T o1 s ∧ LM w Lb T O l sa sc ra rc ∧ (∀ k, o1 k → w0.heap.size ≤ k ∧ ¬ O k) ∧ (∀ k, O k → w0.heap.size ≤ k) ∧ Below w0.heap.size w0 w ∧ (∀ g ∈ G', w.heap[g.1]? = some g.2 ∧ ¬ o1 g.1 ∧ ¬ O g.1) ∧ ∀ k, w4.heap.size ≤ k → k < w5.heap.size → O k ∧ w.heap[k]? = w5.heap[k]? := by
  have hK := fun (k : Nat) (h1 : w4.heap.size ≤ k) (h2 : k < w5.heap.size) => WRun.kept h hG h1 h2
  obtain ⟨o1, O, p, q, h1, h2, h3, h4⟩ := h
  have hD : ∀ k, w4.heap.size ≤ k → k < w5.heap.size → ¬ o1 k := fun k k1 k2 => (h4 _ (hG k k1 _ (Array.getElem?_eq_getElem k2))).2.1
  refine ⟨o1, fun k => O k ∨ (w4.heap.size ≤ k ∧ k < w5.heap.size), p, ⟨q.obj, q.segs, q.recs.keep (fun _ _ => rfl) fun _ h => .inl h, .inl q.ownL, fun a ha => .inl (q.ownS a ha), fun k hk => ?_, q.inv⟩, fun k hk => ⟨(h1 k hk).1, fun ho => ?_⟩, fun k hk => ?_, h3, fun g m => ⟨(h4 g (hs g m).1).1, (h4 g (hs g m).1).2.1, fun ho => ?_⟩, fun k k1 k2 => ⟨.inr ⟨k1, k2⟩, hK k k1 k2⟩⟩
  · rcases hk with hk | hk
    · exact q.lt k hk
    · exact w_some_lt ((hK k hk.1 hk.2).trans (Array.getElem?_eq_getElem hk.2))
  · rcases ho with ho | ho
    · exact (h1 k hk).2 ho
    · exact hD k ho.1 ho.2 hk
  · rcases hk with hk | hk
    · exact h2 k hk
    · omega
  · rcases ho with ho | ho
    · exact (h4 g (hs g m).1).2.2 ho
    · have := (hs g m).2
      omega
/-- The store's Read. -/
theorem read_w (f : Int) : Calls Tryz.prog 65 #[.pointer (some ⟨T, 0, none⟩), .string (Sg.nameB f)] w (ReadPost w (readL s (nmS f)) (readE s (nmS f))) := by
  obtain ⟨o1, O, p, _⟩ := h
  exact read_any T o1 s w p (Sg.nameB f) (by rw [Sg.nameB_size]; decide)
theorem scut_w (f n : Int) : Calls Tryz.prog 47 #[.pointer (some ⟨T, 0, none⟩), .string (Sg.nameB f), .int .i64 n] w fun e w' => RetI (actE s (cutE s (nmS f) n)) e ∧ Hid (WRun w0 w' T Lb (actS s (cutE s (nmS f) n) (cutL s (nmS f) n.toNat)) l G sa sc ra rc) :=
  w_prog h fun own _ _ p => cut_any T own s w p (Sg.nameB f) (by rw [Sg.nameB_size]; decide) n
theorem sdrop_w (f : Int) : Calls Tryz.prog 30 #[.pointer (some ⟨T, 0, none⟩), .string (Sg.nameB f)] w fun e w' => RetI (actE s (fnd s (nmS f) [nmS f])) e ∧ Hid (WRun w0 w' T Lb (actS s (fnd s (nmS f) [nmS f]) (del (nmS f) s.fs)) l G sa sc ra rc) :=
  w_prog h fun own _ _ p => drop_any T own s w p (Sg.nameB f) (by rw [Sg.nameB_size]; decide)
end
section
variable {w0 w : World} {T Lb : Nat} {s : S} {l : Wl.L} {G : List (Nat × Obj)} {sa : Option Addr} {sc : Nat} {ra : Option Addr} {rc : Nat}
/-- The longer row taken over. -/
theorem WRun2.take {A4 : Option Addr} {c4 : Nat} {gs : List (Int × Int)} (h : WRun2 w0 w T Lb s l G sa sc ra rc A4 c4 gs) (hinv : Wl.Inv { l with segs := gs }) :
    WRun w0 (w.setCell ⟨Lb, 2, none⟩ (.slice A4 gs.length c4)) T Lb s { l with segs := gs } G A4 c4 ra rc := by
  obtain ⟨o1, O, p, q, h1, h2, h3, h4, h5, h6⟩ := h
  have hgL : ∀ a, A4 = some a → a.block ≠ Lb := fun a ha => by
    subst ha
    obtain ⟨cur, hc⟩ := wal_block h5
    exact type_ne hc q.obj (by decide)
  have kk : ∀ k, k ≠ Lb → (w.setCell ⟨Lb, 2, none⟩ (.slice A4 gs.length c4)).heap[k]? = w.heap[k]? := fun k hk => Below.heap_setCell _ _ _ _ hk
  have kO : ∀ k, ¬ O k → k ≠ Lb := fun k hk e => hk (e ▸ q.ownL)
  have hsz : (w.setCell ⟨Lb, 2, none⟩ (.slice A4 gs.length c4)).heap.size = w.heap.size := by simp [World.setCell]
  obtain ⟨vs, r1, r2, r3, r4⟩ := q.recs
  have o2 := obj_set (o := 2) q.obj (.slice A4 gs.length c4)
  have hon : Only O w (w.setCell ⟨Lb, 2, none⟩ (.slice A4 gs.length c4)) := Only.set O 2 _ _ q.ownL
  refine ⟨o1, O, p.same (by omega) fun k hk => kk k (kO k (h1 k hk).2), ⟨?_, h5.keep fun a ha => kk _ (hgL a ha), ⟨vs, r1, r2.keep fun b hb => ?_, r3, fun j hj => ?_⟩, q.ownL, h6, fun k hk => by rw [hsz]; exact q.lt k hk, hinv⟩, h1, h2, h3.trans (hon.below h3.size h2), fun x m => ⟨(kk _ (kO _ (h4 x m).2.2)).trans (h4 x m).1, (h4 x m).2⟩⟩
  · rw [o2]; simp
  · subst hb
    obtain ⟨cur2, hc2⟩ := wal_block r2
    exact kk _ (type_ne hc2 q.obj (by decide))
  · obtain ⟨q1, A, cap, q2, q3, q4⟩ := r4 j hj
    refine ⟨q1, A, cap, q2, q3.keep fun b hb => ?_, q4⟩
    subst hb
    obtain ⟨cur2, hc2⟩ := q3.block
    exact kk _ (type_ne hc2 q.obj (by decide))
end
end Go.Proofs.YtdbhicifjljjnaaGreatDoor
/-
  shorten: of a segment only the records ahead of an offset stay.
-/
namespace Go.Proofs.YtdbhicifjljjnaaGreatDoor
open Go.RowKit St
def sizeV : List Fr.Rc → Nat
  | [] => 0
  | r :: t => 16 + r.2.length + sizeV t
theorem sizeV_app : ∀ (a b : List Fr.Rc), sizeV (a ++ b) = sizeV a + sizeV b
  | [], b => by simp [sizeV]
  | r :: t, b => by show 16 + r.2.length + sizeV (t ++ b) = 16 + r.2.length + sizeV t + sizeV b; rw [sizeV_app t b]; omega
theorem sizeV_le : ∀ (rs : List Fr.Rc), (∀ r ∈ rs, r.2.length ≤ 1024) → sizeV rs ≤ 1040 * rs.length
  | [], _ => by simp [sizeV]
  | r :: t, h => by
    have ih := sizeV_le t fun x hx => h x (by simp [hx])
    have := h r (by simp)
    show 16 + r.2.length + sizeV t ≤ _
    rw [List.length_cons]; omega
/-- The records of segment i ahead of off, their bytes. -/
def segI (l : Wl.L) (i : Nat) : Int × Int := l.segs.getD i (0, 0)
def shA (l : Wl.L) (i : Nat) : Nat := ((segI l i).1 - Wl.firstV l).toNat
def shZ (l : Wl.L) (off : Int) : Nat := (off - Wl.firstV l).toNat
def shR (l : Wl.L) (i : Nat) (off : Int) : List Fr.Rc := (l.recs.take (shZ l off)).drop (shA l i)
def shN (l : Wl.L) (i : Nat) (off : Int) : Nat := sizeV (shR l i off)
def shE (s : S) (l : Wl.L) (i : Nat) (off : Int) : Int := if (shN l i off : Int) = (segI l i).2 then 0 else actE s (cutE s (nmS (segI l i).1) (shN l i off : Nat))
def shS (s : S) (l : Wl.L) (i : Nat) (off : Int) : S := if (shN l i off : Int) = (segI l i).2 then s else actS s (cutE s (nmS (segI l i).1) (shN l i off : Nat)) (cutL s (nmS (segI l i).1) (shN l i off))
def shL (s : S) (l : Wl.L) (i : Nat) (off : Int) : Wl.L := if shE s l i off = 0 then { l with segs := l.segs.set i ((segI l i).1, (shN l i off : Int)) } else l
theorem size2R (W : World) : (sizeOf 40).run Tryz.prog W = .ok 2 W := by kernel_rfl
theorem elemRc : Tryz.prog.elem 29 = 40 := by kernel_rfl
theorem undRc : Tryz.prog.underlying 29 = some (.slice (Tryz.prog.elem 29)) := by rw [elemRc]; exact Tryz.underlying29
theorem slice_midR (A : Option Addr) (n cap a z : Nat) (h1 : a ≤ z) (h2 : z ≤ cap) (W : World) :
    (Instr.slice 29 (.slice A n cap) (some (.int .i64 (a : Int))) (some (.int .i64 (z : Int))) none).run Tryz.prog W = .ok (.slice (tail2 A cap a) (z - a) (cap - a)) W := by
  rw [run_slice_lh (P := Tryz.prog) (w := W) 29 A n cap undRc .i64 .i64 (a : Int) (z : Int) (by omega) (by omega) (by omega), elemRc, size2R]
  simp [Result.andThen, sliced, tail2]
theorem WRun.rec_w {w0 w : World} {T Lb : Nat} {s : S} {l : Wl.L} {G : List (Nat × Obj)} {sa : Option Addr} {sc : Nat} {ra : Option Addr} {rc : Nat} (h : WRun w0 w T Lb s l G sa sc ra rc) {i : Nat} (hi : i < l.recs.length) :
    ∃ g A cap, ra = some ⟨g, 0, none⟩ ∧ w.cell? ⟨g, i * 2, none⟩ = some (.int .u64 (l.recs.getD i (0, [])).1) ∧ w.cell? ⟨g, i * 2 + 1, none⟩ = some (.slice A (l.recs.getD i (0, [])).2.length cap) := by
  obtain ⟨_, O, _, q, _⟩ := h
  obtain ⟨g, A, cap, e, d0, d1, _⟩ := q.rec_ hi
  exact ⟨g, A, cap, e, d0, d1⟩
theorem WRun.seg_free {w0 w : World} {T Lb : Nat} {s : S} {l : Wl.L} {G : List (Nat × Obj)} {g : Nat} {sc : Nat} {ra : Option Addr} {rc : Nat} (h : WRun w0 w T Lb s l G (some ⟨g, 0, none⟩) sc ra rc) {i : Nat} (hi : i < l.segs.length) : w.frozen? ⟨g, i * 2 + 1, none⟩ = false := by
  obtain ⟨_, O, _, q, _⟩ := h
  obtain ⟨s1, s2, s3⟩ := q.segs.spare
  rw [segV_len] at s1
  exact (s3 _ (by omega)).2
set_option maxRecDepth 20000 in
set_option maxHeartbeats 8000000 in
theorem shorten_any {w0 w : World} {T Lb : Nat} {s : S} {l : Wl.L} {G : List (Nat × Obj)} {g : Nat} {sc : Nat} {ra : Option Addr} {rc : Nat} (h : WRun w0 w T Lb s l G (some ⟨g, 0, none⟩) sc ra rc) (hF : Facts w0) (i : Nat) (hi : i < l.segs.length) (off : Int)
    (h1 : Wl.firstV l ≤ (segI l i).1) (h2 : (segI l i).1 ≤ off) (h3 : off ≤ Wl.endV l) (hinv : shE s l i off = 0 → Wl.Inv (shL s l i off)) :
    Calls Tryz.prog 32 #[.pointer (some ⟨Lb, 0, none⟩), .pointer (some ⟨g, i * 2, none⟩), .int .i64 off] w fun e w' => RetI (shE s l i off) e ∧ Hid (WRun w0 w' T Lb (shS s l i off) (shL s l i off) G (some ⟨g, 0, none⟩) sc ra rc) := by
  have H := Lib.hid h
  have HF := Lib.hid hF
  have HI := Lib.hid hi
  have hfv := h.inv.2.first_
  have hcnt := h.inv.2.count
  have hev : Wl.endV l = Wl.firstV l + (l.recs.length : Int) := rfl
  have FK : Hid (∀ k, Calls Tryz.prog 17 #[.pointer (some ⟨Lb, 0, none⟩)] (w.drewN k) fun e w' => e = .returned (.int .i64 (Wl.firstV l)) ∧ ∃ j, w' = w.drewN j) := Lib.hid (fun k => (first_w (WRun.draw h k)).mono fun _ _ ⟨h1, h2⟩ => ⟨h1, k, h2.symm⟩)
  obtain ⟨⟨c0, c1, c2, c3, c4⟩, _⟩ := obj5 (obj_w h)
  obtain ⟨g', hg', d0, d1⟩ := seg_w h hi
  obtain rfl : g = g' := by injection hg' with e; injection e
  have FR := h.inv.2.first (segI l i) (by unfold segI; rw [List.getD_eq_getElem?_getD, List.getElem?_eq_getElem hi]; exact List.getElem_mem _)
  have FZ := h.inv.2.size (segI l i) (by unfold segI; rw [List.getD_eq_getElem?_getD, List.getElem?_eq_getElem hi]; exact List.getElem_mem _)
  -- the records that stay
  have haz : shA l i ≤ shZ l off := by unfold shA shZ; omega
  have hzn : shZ l off ≤ l.recs.length := by unfold shZ; omega
  have SB := Lib.hid (sizeV_le (shR l i off) (fun r hr => h.inv.2.pay r (List.mem_of_mem_take (List.mem_of_mem_drop hr))))
  have RL : Hid ((shR l i off).length = shZ l off - shA l i) := Lib.hid (by unfold shR; rw [List.length_drop, List.length_take]; omega)
  have RG : Hid (∀ k, k < shZ l off - shA l i → (shR l i off).getD k (0, []) = l.recs.getD (shA l i + k) (0, [])) := Lib.hid (fun k hk => by
    unfold shR
    rw [List.getD_eq_getElem?_getD, List.getD_eq_getElem?_getD, List.getElem?_drop, List.getElem?_take_of_lt (by omega)])
  have SN : Hid (sizeV (shR l i off) = shN l i off) := Lib.hid rfl
  have EA : Hid (shE s l i off = if (shN l i off : Int) = (segI l i).2 then 0 else actE s (cutE s (nmS (segI l i).1) (shN l i off : Nat))) := Lib.hid rfl
  have ES : Hid (shS s l i off = if (shN l i off : Int) = (segI l i).2 then s else actS s (cutE s (nmS (segI l i).1) (shN l i off : Nat)) (cutL s (nmS (segI l i).1) (shN l i off))) := Lib.hid rfl
  have EL : Hid (shL s l i off = if shE s l i off = 0 then { l with segs := l.segs.set i ((segI l i).1, (shN l i off : Int)) } else l) := Lib.hid rfl
  have HV := Lib.hid hinv
  have SG : Hid (segI l i = l.segs.getD i (0, 0)) := Lib.hid rfl
  have ha : (segI l i).1 - Wl.firstV l = (shA l i : Int) := by unfold shA; omega
  have hz : off - Wl.firstV l = (shZ l off : Int) := by unfold shZ; omega
  replace d0 : w.cell? ⟨g, i * 2, none⟩ = some (.int .i64 (segI l i).1) := d0
  replace d1 : w.cell? ⟨g, i * 2 + 1, none⟩ = some (.int .i64 (segI l i).2) := d1
  have wa : IntKind.i64.wrap ((segI l i).1 - Wl.firstV l) = (shA l i : Int) := by rw [ha]; exact IntWalk.i64_in _ (by omega)
  have wz : IntKind.i64.wrap (off - Wl.firstV l) = (shZ l off : Int) := by rw [hz]; exact IntWalk.i64_in _ (by omega)
  obtain ⟨n, hn⟩ : ∃ n, n = l.recs.length := ⟨_, rfl⟩
  have HN := Lib.hid hn
  have hcap : l.recs.length ≤ rc ∧ ∀ k, k < l.recs.length → ∃ gr, ra = some ⟨gr, 0, none⟩ := by
    obtain ⟨_, O, _, q, _⟩ := h
    obtain ⟨vs, r1, r2, r3, r4⟩ := q.recs
    refine ⟨?_, fun k hk => ?_⟩
    · rcases r2.2 with ⟨e, e0⟩ | ⟨g', c', cur, e, hb, hg, hle, hm, hsz, htk⟩
      · omega
      · injection e with e1 e2 e3
        subst e3; omega
    · obtain ⟨gr, A, cap, e, _⟩ := q.rec_ hk
      exact ⟨gr, e⟩
  have SL := fun W => slice_midR ra n rc (shA l i) (shZ l off) haz (by omega) W
  rw [← hn] at c3
  obtain ⟨TA, hTA⟩ : ∃ TA, TA = tail2 ra rc (shA l i) := ⟨_, rfl⟩
  rw [← hTA] at SL
  have HTA := Lib.hid hTA
  clear hTA
  have hm : shZ l off - shA l i ≤ n := by omega
  have RA := Lib.hid hcap.2
  have HZ := Lib.hid (show shA l i + (shZ l off - shA l i) ≤ n by omega)
  have HRC := Lib.hid (show n ≤ rc by omega)
  have hn7 : (n : Int) ≤ 16777216 := by omega
  clear hcap h hi hinv h1 h2 h3 hev hg' hn ha hz hzn haz hcnt hF
  generalize hsi : segI l i = sg at *
  have HSI := Lib.hid hsi
  clear hsi
  obtain ⟨f, z⟩ := sg
  dsimp only at d0 d1 wa FR FZ EA ES EL
  generalize shA l i = a at *
  generalize shZ l off = zz at *
  generalize Wl.firstV l = fv at *
  generalize shR l i off = rs at *
  generalize hnn : shN l i off = nn at *
  generalize hm0 : zz - a = m at *
  go_enter Tryz.func32, Tryz.ntmps32
  go_upto_region 2 with fail
  go_quiet ((go_at_call 17; exact FK.out _))
  have HQ := Lib.hid (WRun.draw H.out nq)
  generalize w.drewN nq = wq at *
  clear c0 c1 c2 c3 c4 d0 d1 FK SL wa wz
  have WN : Hid (∀ k, k < m → IntKind.i64.wrap ((sizeV (rs.take k) : Int) + (16 + ((rs.getD k (0, [])).2.length : Int))) = (sizeV (rs.take (k + 1)) : Int)) := Lib.hid (fun k hk => by
    have hkl : k < rs.length := by rw [RL.out]; exact hk
    have e : rs.take (k + 1) = rs.take k ++ [rs.getD k (0, [])] := by
      rw [List.take_add_one, List.getElem?_eq_getElem hkl, List.getD_eq_getElem?_getD, List.getElem?_eq_getElem hkl]; rfl
    have e2 : sizeV rs = sizeV (rs.take (k + 1)) + sizeV (rs.drop (k + 1)) := by rw [← sizeV_app, List.take_append_drop]
    have e3 := SB.out
    rw [RL.out] at e3
    rw [e, sizeV_app] at e2 ⊢
    have e4 : sizeV [rs.getD k (0, [])] = 16 + (rs.getD k (0, [])).2.length := rfl
    rw [e4] at e2 ⊢
    rw [IntWalk.i64_in _ (by omega)]
    omega)
  go_wp2_with fail
  go_loopg [7, 28] m (fun q zv iv wr => ∃ k : Nat, k ≤ m ∧ q = m - k ∧ zv = .int .i64 (sizeV (rs.take k) : Int) ∧ iv = .int .i64 (k : Int) ∧ Hid (WRun w0 wr T Lb s l G (some ⟨g, 0, none⟩) sc ra rc))
  case atStart => exact ⟨0, Nat.zero_le _, rfl, rfl, rfl, HQ⟩
  case round =>
    obtain ⟨k, hk, hq, rfl, rfl, HR⟩ := hrel
    subst hq
    by_cases hlt : k < m
    · have hkl : a + k < l.recs.length := by have := HN.out; have := HZ.out; omega
      obtain ⟨gr, A, cap, hgr, e0, e1⟩ := WRun.rec_w HR.out hkl
      rw [← RG.out k hlt] at e0 e1
      have PB := Lib.hid (HR.out.inv.2.pay (l.recs.getD (a + k) (0, [])) (by rw [List.getD_eq_getElem?_getD, List.getElem?_eq_getElem hkl]; exact List.getElem_mem _))
      rw [← RG.out k hlt] at PB
      have WK := WN.out k hlt
      generalize sizeV (rs.take k) = zk at *
      generalize hz1 : sizeV (rs.take (k + 1)) = zk1 at *
      have HZ1 := Lib.hid hz1
      clear hz1
      generalize rs.getD k (0, []) = r at *
      obtain ⟨rt, rb⟩ := r
      dsimp only at e0 e1 PB WK
      generalize hrn : rb.length = rn at *
      have hta := HTA.out
      rw [hgr] at hta
      unfold tail2 at hta
      rw [if_neg (by have := HRC.out; have := HN.out; omega)] at hta
      replace hta : TA = some ⟨gr, a * 2, none⟩ := by rw [hta]; show some (Addr.add ⟨gr, 0, none⟩ (a * 2)) = _; rw [Addr.add_lit]; simp
      subst hta
      replace e0 : wr.cell? ⟨gr, a * 2 + k * 2, none⟩ = some (.int .u64 rt) := by rw [show a * 2 + k * 2 = (a + k) * 2 by omega]; exact e0
      replace e1 : wr.cell? ⟨gr, a * 2 + k * 2 + 1, none⟩ = some (.slice A rn cap) := by rw [show a * 2 + k * 2 = (a + k) * 2 by omega]; exact e1
      have hlt' : (k : Int) < (m : Int) := by omega
      have hk0 : 0 ≤ (k : Int) := by omega
      have SZ := Lib.hid (size_any (.int .u64 rt) A rn cap (by have := PB.out; omega) (wr.alloc (.cells #[.int .u64 rt, .slice A rn cap] 40)))
      have HRa := Lib.hid (WRun.alloc HR.out (.cells #[.int .u64 rt, .slice A rn cap] 40))
      clear hgr hkl hrn
      go_wp2_with fail
      (with_reducible refine SZ.out.mono ?_); rintro e w3 ⟨rfl, g3⟩
      have HR3 := Lib.hid (WRun.grow HRa.out g3.below)
      go_wp2
      go_roundg (m - (k + 1))
      case measure => omega
      case rel => exact ⟨k + 1, hlt, rfl, congrArg (fun x : Nat => Value.int .i64 (x : Int)) HZ1.out.symm, by go_num, HR3⟩
    · have e : k = m := by omega
      subst e
      have hge : ¬ (k : Int) < (k : Int) := by omega
      have TK : Hid (sizeV (rs.take k) = nn) := Lib.hid (by rw [← RL.out, List.take_length]; exact SN.out)
      rw [TK.out]
      clear WN hlt hk
      obtain ⟨⟨c0, _, _, _, _⟩, _⟩ := obj5 (obj_w HR.out)
      obtain ⟨g', hg', d0, d1⟩ := seg_w HR.out HI.out
      obtain rfl : g = g' := by injection hg' with e; injection e
      rw [← SG.out] at d0 d1
      replace d0 : wr.cell? ⟨g, i * 2, none⟩ = some (.int .i64 f) := d0
      replace d1 : wr.cell? ⟨g, i * 2 + 1, none⟩ = some (.int .i64 z) := d1
      clear hg'
      by_cases hzz : (nn : Int) = z
      · rw [if_pos hzz] at EA ES
        have ELL : Hid (shL s l i off = l) := Lib.hid (by
          rw [EL.out, EA.out, if_pos rfl, hzz, SG.out]
          have : l.segs.set i (l.segs.getD i (0, 0)) = l.segs := by
            rw [List.getD_eq_getElem?_getD, List.getElem?_eq_getElem HI.out]
            exact List.set_getElem_self HI.out
          rw [this])
        clear EL
        go_wp2
        go_ret
        refine ⟨by rw [EA.out]; rfl, ?_⟩
        rw [ES.out, ELL.out]; exact HR
      · rw [if_neg hzz] at EA ES
        rw [EA.out] at EL
        have HV2 : Hid (actE s (cutE s (nmS f) (nn : Nat)) = 0 → Wl.Inv { l with segs := l.segs.set i (f, (nn : Int)) }) := Lib.hid (fun h => by
          have := HV.out (by rw [EA.out]; exact h)
          rw [EL.out, if_pos h] at this
          exact this)
        have hne : ((nn : Int) == z) = false := beq_eq_false_iff_ne.2 hzz
        go_upto_region 9 with fail
        have SC : Hid (∀ w' s', WRun w0 w' T Lb s' l G (some ⟨g, 0, none⟩) sc ra rc → w'.cell? ⟨Lb, 0, none⟩ = some (.pointer (some ⟨T, 0, none⟩)) ∧ w'.cell? ⟨g, i * 2, none⟩ = some (.int .i64 f) ∧ w'.cell? ⟨g, i * 2 + 1, none⟩ = some (.int .i64 z)) := Lib.hid fun W s' h => by
          obtain ⟨⟨c0, _⟩, _⟩ := obj5 (obj_w h)
          obtain ⟨g', hg', d0, d1⟩ := seg_w h HI.out
          obtain rfl : g = g' := by injection hg' with e; injection e
          rw [← SG.out] at d0 d1
          exact ⟨c0, d0, d1⟩
        have TBd := Lib.hid (WRun.drew HR.out)
        have NM := Lib.hid (segname_any f z FR.1 FR.2 wr.drew (HF.out.below (WRun.below TBd.out)))
        have SY := Lib.hid (fun (W : World) (h : WRun w0 W T Lb s l G (some ⟨g, 0, none⟩) sc ra rc) => scut_w h f (nn : Int))
        clear c0 d0 d1
        rw [show ((nn : Int)).toNat = nn from rfl] at SY
        generalize actE s (cutE s (nmS f) (nn : Nat)) = er at *
        generalize actS s (cutE s (nmS f) (nn : Nat)) (cutL s (nmS f) nn) = s5 at *
        generalize Sg.nameB f = nb at *
        go_region_held3 (fun w' => w'.cell? ⟨Lb, 0, none⟩ = some (.pointer (some ⟨T, 0, none⟩)) ∧ w'.cell? ⟨g, i * 2, none⟩ = some (.int .i64 f) ∧ w'.cell? ⟨g, i * 2 + 1, none⟩ = some (.int .i64 z)) ((first | exact SC.out _ _ TBd.out | exact SC.out _ _ T3.out | exact SC.out _ _ T4.out | go_keep))
          (first
            | (go_simp; go_at_call 31; (with_reducible refine NM.out.mono ?_); rintro e w3 ⟨rfl, b3⟩; have T3 := Lib.hid (WRun.grow TBd.out b3.out))
            | (go_simp; go_at_call 47; (with_reducible refine (SY.out _ T3.out).mono ?_); rintro e w4 ⟨rfl, T4⟩))
        all_goals
          by_cases he : er = 0
          · subst he
            rw [if_pos rfl] at EL
            obtain ⟨d0, d1⟩ := (SC.out _ _ T4.out).2
            have z1 := WRun.seg_free T4.out HI.out
            have T5 := Lib.hid (WRun.sized T4.out HI.out (nn : Int) (by rw [← SG.out]; exact HV2.out rfl))
            rw [← SG.out] at T5
            go_wp2
            go_ret
            refine ⟨by rw [EA.out]; rfl, ?_⟩
            rw [ES.out, EL.out]; exact T5
          · rw [if_neg he] at EL
            have hne2 : (er != 0) = true := by simpa using he
            go_wp2
            go_ret
            refine ⟨by rw [EA.out]; rfl, ?_⟩
            rw [ES.out, EL.out]; exact T4
end Go.Proofs.YtdbhicifjljjnaaGreatDoor
