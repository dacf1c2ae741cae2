/-
  Part 26 of the texts behind the law: WalAppend, WalRecs, WalKeep, WalLoadOne.
-/
import Derived.Test.YtdbhicifjljjnaaGreatDoorMg24
import Derived.Test.YtdbhicifjljjnaaGreatDoorMg25
import Derived.Deep.CutRange
/-
  The log's Append of a record whose epoch and offset fit: ESIZE, or what write answers; what it leaves.
-/
namespace Go.Proofs.YtdbhicifjljjnaaGreatDoor
open Go.RowKit St
def StE (st er : Int) (e : Ending) : Prop := e = .returned (.tuple #[.int .u64 st, .int .i64 er])
def appX (s : S) (l : Wl.L) (ep : Int) (b : List Int) : Int := writeE s l (Wl.endV l) (Fr.putV (Pl.packV ep (Wl.endV l)) b)
/-- A change of the log alone, told of its own blocks. -/
theorem w_log1 {w0 w w' : World} {T Lb : Nat} {s : S} {l l' : Wl.L} {G : List (Nat × Obj)} {sa : Option Addr} {sc : Nat} {ra : Option Addr} {rc : Nat} {sa' : Option Addr} {sc' : Nat} {ra' : Option Addr} {rc' : Nat} {o1 O : Nat → Prop}
    (p : PState w T o1 s) (q : LM w Lb T O l sa sc ra rc) (h1 : ∀ k, o1 k → w0.heap.size ≤ k ∧ ¬ O k) (h2 : ∀ k, O k → w0.heap.size ≤ k) (h3 : Below w0.heap.size w0 w) (h4 : ∀ g ∈ G, w.heap[g.1]? = some g.2 ∧ ¬ o1 g.1 ∧ ¬ O g.1)
    (hc : ∃ O', LM w' Lb T O' l' sa' sc' ra' rc' ∧ Step O O' w w') : WRun w0 w' T Lb s l' G sa' sc' ra' rc' := by
  obtain ⟨O', q', st⟩ := hc
  refine ⟨o1, O', p.same st.only.size fun k hk => st.only.block k (p.lt k hk) fun ho => (h1 k hk).2 ho, q', fun k hk => ⟨(h1 k hk).1, fun ho => ?_⟩, fun k hk => ?_, h3.trans (st.only.below h3.size h2), fun g m => ?_⟩
  · rcases st.sub k ho with h5 | h5
    · exact (h1 k hk).2 h5
    · have := p.lt k hk; omega
  · rcases st.sub k hk with h5 | h5
    · exact h2 k h5
    · exact Nat.le_trans h3.size h5
  · have h5 := w_some_lt (h4 g m).1
    refine ⟨(st.only.block g.1 h5 (h4 g m).2.2).trans (h4 g m).1, (h4 g m).2.1, fun hk => ?_⟩
    rcases st.sub _ hk with h6 | h6
    · exact (h4 g m).2.2 h6
    · omega
/-- What holds where a call answers 0, and where it answers an error. -/
def Ok0 (er : Int) (P Q : Prop) : Prop := (er = 0 → P) ∧ (er ≠ 0 → Q)
def pushL (l : Wl.L) (r : Fr.Rc) : Wl.L := { l with recs := l.recs ++ [r] }
theorem step_appP3 {w : World} {o : Oper} {a : Act} {K : Act → World → Prop} {Q : Exit → Act → World → Prop} (s t : Operand) {T ST : TypeId}
    (ho : o.op = .call { callee := .builtin .append, args := #[s, t], argTypes := #[ST, ST] })
    {base : Nat} {A : Option Addr} {n cap : Nat} {vs : List (Value × Value)} {z x y : Value} {by_ : Nat} (hST : Tryz.prog.underlying ST = some (.slice T))
    (hI : (Tryz.prog.info? T).map (fun i => (i.zero, i.size, i.bytes)) = some (some z, 2, by_)) (hz : z.cells.size = 2) (hby : by_ ≤ 64)
    (hs : a.eval s = .slice A n cap) (hn : n = vs.length) (h : OwnP w base T A cap vs) (hbase : base ≤ w.heap.size)
    {b2 c : Nat} (ht : a.eval t = .slice (some ⟨b2, 0, none⟩) 1 c) (hx : w.cell? ⟨b2, 0, none⟩ = some x) (hy : w.cell? ⟨b2, 1, none⟩ = some y) (hx1 : x.oneCell' = true) (hy1 : y.oneCell' = true)
    (hlen : vs.length ≤ 1000000000) {r : Nat} (hr : vs.length + 1 = r)
    (H : ∀ A' cap' w', OwnP w' base T A' cap' (vs ++ [(x, y)]) → w.grownBy w' (Value.slice A vs.length cap).ownBlock → (∀ a, A' = some a → (∃ a0, A = some a0 ∧ a.block = a0.block) ∨ a.block = w.heap.size) → K (a.put o.dst (.slice A' r cap')) w') :
    Oper.wp Tryz.prog o a w K Q := by
  subst hn hr
  obtain ⟨A', cap', w', hrun, h1, h2, h3⟩ := run_appP3 hST hI hz hby h hbase hx hy hx1 hy1 c hlen o.type
  unfold Oper.wp
  simp [execOp, ho, resolve, invoke, builtin, hs, ht, hrun, Result.andThen]
  have hk := H A' cap' w' h1 h2 h3
  exact hk
set_option maxRecDepth 20000 in
set_option maxHeartbeats 8000000 in
theorem lappend_ok {w0 w : World} {T Lb : Nat} {s : S} {l : Wl.L} {G : List (Nat × Obj)} {sa : Option Addr} {sc : Nat} {ra : Option Addr} {rc : Nat} (h : WRun w0 w T Lb s l G sa sc ra rc) (hF : Facts w0)
    (ep : Int) (e0 : 0 ≤ ep) (e1 : ep ≤ 1048575) (he : Wl.epochV l ≤ ep) (hend : Wl.endV l ≤ 17592186044415) (A : Option Addr) (n cap : Nat) (b : List Int) (hn : n = b.length) (hl : n ≤ 1024) (hA : AtB A b.length cap)
    (hb : ∀ W s l G' sa sc ra rc, WRun w0 W T Lb s l (G' ++ G) sa sc ra rc → Bytes W W.heap.size A b)
    (hinv : appX s l ep b = 0 → Wl.Inv (writeL s l (Wl.endV l) (Fr.putV (Pl.packV ep (Wl.endV l)) b)) ∧ Wl.Inv (pushL (writeL s l (Wl.endV l) (Fr.putV (Pl.packV ep (Wl.endV l)) b)) (Pl.packV ep (Wl.endV l), b))) :
    Calls Tryz.prog 9 #[.pointer (some ⟨Lb, 0, none⟩), .int .i64 ep, .slice A n cap] w fun e w' =>
      Ok0 (appX s l ep b) (StE (Pl.packV ep (Wl.endV l)) 0 e ∧ Hid (∃ sa' sc' ra' rc', WRun w0 w' T Lb (writeS s l (Wl.endV l) (Fr.putV (Pl.packV ep (Wl.endV l)) b)) (pushL (writeL s l (Wl.endV l) (Fr.putV (Pl.packV ep (Wl.endV l)) b)) (Pl.packV ep (Wl.endV l), b)) G sa' sc' ra' rc'))
        (StE 0 (appX s l ep b) e ∧ Hid (∃ sa' sc', WRun w0 w' T Lb (writeS s l (Wl.endV l) (Fr.putV (Pl.packV ep (Wl.endV l)) b)) l G sa' sc' ra rc)) := by
  have H := Lib.hid h
  have HF := Lib.hid hF
  have HB := Lib.hid hb
  have HA := Lib.hid hA
  have hend0 := h.inv.2.end_.1
  have hpo : Pl.packOk ep (Wl.endV l) = true := by unfold Pl.packOk; simp [e0, e1, hend0, hend]
  have hpv : Pl.packV ep (Wl.endV l) = ep * 17592186044416 + Wl.endV l := by unfold Pl.packV; rw [if_pos hpo]
  have hst0 : 0 ≤ Pl.packV ep (Wl.endV l) ∧ Pl.packV ep (Wl.endV l) < 18446744073709551616 := by rw [hpv]; omega
  have hoff : Pl.offV (Pl.packV ep (Wl.endV l)) = Wl.endV l := by rw [hpv]; unfold Pl.offV; omega
  have EPd : ∀ j, Calls Tryz.prog 22 #[.pointer (some ⟨Lb, 0, none⟩)] (w.drewN j) fun e w' => e = .returned (.int .i64 (Wl.epochV l)) ∧ ∃ i, w' = (w.drewN j).drewN i := fun j => epoch_w (WRun.draw h j)
  have EP := Lib.hid (epoch_w h)
  have ENd := Lib.hid (fun (W : World) (hW : WRun w0 W T Lb s l G sa sc ra rc) => end_w hW)
  have PK := pack_any ep (Wl.endV l)
  rw [hpo] at PK
  have SO := stOff_any _ hst0.1 hst0.2
  rw [hoff] at SO
  have PU := Lib.hid (fun (W : World) (hq : Bytes W W.heap.size A b) => put_any none A [] b 0 cap (Pl.packV ep (Wl.endV l)) hst0.1 hst0.2 (by simp) (by omega) W Bytes.nil_ hq)
  have WR := Lib.hid (fun (W : World) (G' : List (Nat × Obj)) (hW : WRun w0 W T Lb s l (G' ++ G) sa sc ra rc) (Ac : Option Addr) (cc : Nat) (hc : ∀ W s, WRun w0 W T Lb s l (G' ++ G) sa sc ra rc → Bytes W W.heap.size Ac (Fr.putV (Pl.packV ep (Wl.endV l)) b)) =>
    write_any hW hF (Wl.endV l) hend0 hend Ac (16 + n) cc (Fr.putV (Pl.packV ep (Wl.endV l)) b) (by rw [Fr.putV_len, hn]) (by omega) hc (fun he => (hinv he).1))
  have HI := Lib.hid (fun he => (hinv he).2)
  have WL := Lib.hid (fun (he : writeE s l (Wl.endV l) (Fr.putV (Pl.packV ep (Wl.endV l)) b) ≠ 0) => show writeL s l (Wl.endV l) (Fr.putV (Pl.packV ep (Wl.endV l)) b) = l by unfold writeL; rw [if_neg he])
  have RL : Hid ((writeL s l (Wl.endV l) (Fr.putV (Pl.packV ep (Wl.endV l)) b)).recs = l.recs) := Lib.hid (by unfold writeL; split <;> rfl)
  unfold appX at HI ⊢
  generalize hst : Pl.packV ep (Wl.endV l) = st at *
  generalize hcd : Fr.putV st b = code at *
  have HCD : Hid (code.length = 16 + n) := Lib.hid (by rw [← hcd, Fr.putV_len, hn])
  have HN := Lib.hid hn
  have HST := Lib.hid hst0
  generalize Wl.endV l = en at *
  generalize Wl.epochV l = epl at *
  generalize writeE s l en code = er at *
  generalize writeS s l en code = s5 at *
  generalize writeL s l en code = l5 at *
  clear h hF hb hA hpv hst0 hoff hinv hpo hst hcd hn EPd
  have hl' : (n : Int) ≤ 1024 := by omega
  go_enter Tryz.func9, Tryz.ntmps9
  go_wp2_with fail
  (with_reducible refine EP.out.mono ?_); rintro e w1 ⟨rfl, j1, rfl⟩
  have H1 := Lib.hid (WRun.draw H.out j1)
  generalize w.drewN j1 = w1 at *
  go_wp2_with fail
  (with_reducible refine (ENd.out _ H1.out).mono ?_); rintro e w2 ⟨rfl, j2, rfl⟩
  have H2 := Lib.hid (WRun.draw H1.out j2)
  generalize w1.drewN j2 = w2 at *
  go_wp2_with fail
  (with_reducible refine (PK _).mono ?_); rintro e w' ⟨rfl, rfl⟩
  go_wp2_with fail
  obtain ⟨W2, hW2⟩ : ∃ W, W = w2.alloc (.cells #[.int .u64 st, .slice A n cap] 40) := ⟨_, rfl⟩
  rw [← hW2]
  have BL2 : Hid (Below w2.heap.size w2 W2) := Lib.hid (by rw [hW2]; exact (Below.refl _ _).alloc (Nat.le_refl _) _)
  obtain ⟨X, hX⟩ : ∃ X, X = w2.heap.size := ⟨_, rfl⟩
  have H3 : Hid (WRun w0 W2 T Lb s l ((X, .cells #[.int .u64 st, .slice A n cap] 40 (0, 0)) :: G) sa sc ra rc) := Lib.hid (WRun.join H2.out BL2.out (by rw [hX]; exact Nat.le_refl _) (by rw [hX, hW2]; exact heap_alloc_new ..))
  rw [← hX]
  clear hW2 hX BL2
  have BY2 := Lib.hid (HB.out _ _ _ [_] _ _ _ _ H3.out)
  have PU2 : Hid (Calls Tryz.prog 25 #[.slice none 0 0, .agg #[.int .u64 st, .slice A n cap]] W2 (PutPost W2 code)) := Lib.hid (by have := PU.out W2 BY2.out; rw [← HN.out] at this; exact this)
  (with_reducible refine PU2.out.mono ?_); rintro e w3 ⟨zs, Ac, cc, hz, rfl, o3, g3⟩
  obtain rfl := hz.out
  have HZ : Hid (zs.length = 16 + n) := HCD
  obtain ⟨gc, rfl, _, _⟩ := o3.shape (by rw [HZ.out]; omega)
  obtain ⟨cur, hcur⟩ := o3.block
  have O3 := Lib.hid o3
  have H4 : Hid (WRun w0 w3 T Lb s l ((gc, _) :: (X, .cells #[.int .u64 st, .slice A n cap] 40 (0, 0)) :: G) sa sc ra rc) := Lib.hid (WRun.join H3.out g3.below (O3.out.1.lt gc (by simp [Value.ownBlock])).1 hcur)
  have HC : Hid (∀ W s, WRun w0 W T Lb s l ([(gc, Obj.cells cur 5 (0, 0)), (X, .cells #[.int .u64 st, .slice A n cap] 40 (0, 0))] ++ G) sa sc ra rc → Bytes W W.heap.size (some ⟨gc, 0, none⟩) zs) := Lib.hid fun W s hW => (O3.out.keep fun a ha => by
    injection ha with ha
    subst ha
    exact (WRun.block hW (g := (gc, _)) (by simp)).trans hcur.symm).bytes
  have WR3 := Lib.hid (WR.out w3 [(gc, Obj.cells cur 5 (0, 0)), (X, .cells #[.int .u64 st, .slice A n cap] 40 (0, 0))] H4.out (some ⟨gc, 0, none⟩) cc HC.out)
  clear o3 g3 hcur PU PU2 WR BY2
  rw [HZ.out]
  go_wp2_with fail
  (with_reducible refine (SO _).mono ?_); rintro e w' ⟨rfl, rfl⟩
  go_wp2_with fail
  (with_reducible refine WR3.out.mono ?_); rintro e w5 ⟨rfl, H5⟩
  obtain ⟨sa5, sc5, h5⟩ := H5.out
  clear H5 WR3 HC
  by_cases her : er = 0
  · subst her
    have H5 := Lib.hid (WRun.fewer h5 (G' := (X, .cells #[.int .u64 st, .slice A n cap] 40 (0, 0)) :: G) (fun g hg => List.mem_cons_of_mem _ hg))
    clear h5
    have BY5 := Lib.hid (HB.out _ _ _ [_] _ _ _ _ H5.out)
    have CP5 : Hid (Calls Tryz.prog 28 #[.agg #[.int .u64 st, .slice A n cap]] w5.drew (CopyPost w5.drew st b)) := Lib.hid (by have := copied_any st A b cap (by rw [← HN.out]; omega) HA.out w5.drew BY5.out; rw [← HN.out] at this; exact this)
    have HI5 : Hid (Wl.Inv { l5 with recs := l5.recs ++ [(st, b)] }) := Lib.hid (HI.out rfl)
    obtain ⟨o1, O, hp, hq, f1, f2, f3, f4⟩ := H5.out
    obtain ⟨vs, hvl, hrw, hro, hv⟩ := hq.recs
    have XO : Hid (¬ O X) := Lib.hid (f4 _ (List.mem_cons_self ..)).2.2
    have NE : Hid (∀ a, ra = some a → a.block ≠ Lb ∧ a.block ≠ X) := Lib.hid fun a ha => ⟨by
      subst ha
      obtain ⟨cur, hc⟩ := wal_block hrw
      exact type_ne hc hq.obj (by decide), fun e => XO.out (e ▸ hro a ha)⟩
    have LT5 : Hid (Lb < w5.heap.size ∧ X < w5.heap.size) := Lib.hid ⟨hq.lt _ hq.ownL, w_some_lt (f4 _ (List.mem_cons_self ..)).1⟩
    have OB := Lib.hid hq.obj
    have XB : Hid (w5.heap[X]? = some (.cells #[.int .u64 st, .slice A n cap] 40 (0, 0))) := Lib.hid (f4 _ (List.mem_cons_self ..)).1
    have HVL := Lib.hid hvl
    have QL : Hid (vs.length ≤ 1000000000) := Lib.hid (by rw [hvl]; have := hq.inv.count; omega)
    have HP := Lib.hid hp
    have HQ := Lib.hid hq
    have HV := Lib.hid hv
    have HRW := Lib.hid hrw
    have HRO := Lib.hid hro
    have F1 := Lib.hid f1
    have F2 := Lib.hid f2
    have F3 := Lib.hid f3
    have F4 := Lib.hid f4
    clear hp hq hvl hrw hro hv f1 f2 f3 f4
    obtain ⟨q, hqq⟩ : ∃ q, q = l5.recs.length := ⟨_, rfl⟩
    have HQL := Lib.hid hqq
    have CE : Hid (∀ W : World, (W.heap[Lb]? = w5.heap[Lb]?) → (W.heap[X]? = w5.heap[X]?) → W.cell? ⟨Lb, 3, none⟩ = some (.slice ra q rc) ∧ W.cell? ⟨X, 0, none⟩ = some (.int .u64 st) ∧ W.cell? ⟨X, 1, none⟩ = some (.slice A n cap)) := Lib.hid fun W h1 h2 => by
      obtain ⟨⟨_, _, _, c3, _⟩, _⟩ := obj5 (h1.trans OB.out)
      rw [← HQL.out] at c3
      exact ⟨c3, obj2P (h2.trans XB.out)⟩
    have CB : Hid (∀ W : World, Below w5.heap.size w5 W → W.cell? ⟨Lb, 3, none⟩ = some (.slice ra q rc) ∧ W.cell? ⟨X, 0, none⟩ = some (.int .u64 st) ∧ W.cell? ⟨X, 1, none⟩ = some (.slice A n cap)) := Lib.hid fun W hW => CE.out W (hW.block _ LT5.out.1) (hW.block _ LT5.out.2)
    have FZ : Hid (∀ W : World, (W.heap[Lb]? = w5.heap[Lb]?) → W.frozen? ⟨Lb, 3, none⟩ = false) := Lib.hid fun W h1 => by
      obtain ⟨_, _, _, _, c3, _⟩ := obj5 (h1.trans OB.out)
      exact c3
    clear hqq
    go_upto_region 13 with fail
    refine wp_region_C (fun w' => w'.cell? ⟨Lb, 3, none⟩ = some (.slice ra q rc) ∧ w'.cell? ⟨X, 0, none⟩ = some (.int .u64 st) ∧ w'.cell? ⟨X, 1, none⟩ = some (.slice A n cap)) 11 (by kernel_rfl) ?_
    have hS0 : (fun w' : World => w'.cell? ⟨Lb, 3, none⟩ = some (.slice ra q rc) ∧ w'.cell? ⟨X, 0, none⟩ = some (.int .u64 st) ∧ w'.cell? ⟨X, 1, none⟩ = some (.slice A n cap)) w5.drew := CB.out _ (Below.refl _ _).drew
    refine wpAnyC_take (i := 0) (oi := ?o71) (v := ?v71) ?hi71 (by kernel_rfl) (by kernel_rfl) (by kernel_rfl) ?hQ71 (by kernel_rfl) (by decide) (by kernel_rfl) (Or.inl ⟨?hg71, ?hy71⟩) (by assumption) ?rest71
    case hi71 => (simp only [List.getElem?_toArray, List.getElem?_cons_zero]; exact rfl)
    case hQ71 => exact fun _ _ _ h => h
    case hg71 => rfl
    case hy71 => (intro w' hSw; (try dsimp only at hSw); go_simp; try with_reducible rfl)
    try simp only [Act.put, List.setIfInBounds_toArray, List.set_cons_zero, List.set_cons_succ]
    refine wpAnyC_take (i := 1) (oi := ?o72) (v := ?v72) ?hi72 (by kernel_rfl) (by kernel_rfl) (by kernel_rfl) ?hQ72 (by kernel_rfl) (by decide) (by kernel_rfl) (Or.inl ⟨?hg72, ?hy72⟩) (by assumption) ?rest72
    case hi72 => (simp only [List.getElem?_toArray, List.getElem?_cons_zero, List.getElem?_cons_succ]; exact rfl)
    case hQ72 => exact fun _ _ _ h => h
    case hg72 => rfl
    case hy72 => (intro w' hSw; (try dsimp only at hSw); go_simp; try with_reducible rfl)
    try simp only [Act.put, List.setIfInBounds_toArray, List.set_cons_zero, List.set_cons_succ]
    refine wpAnyC_take (i := 2) (oi := ?o73) (v := ?v73) ?hi73 (by kernel_rfl) (by kernel_rfl) (by kernel_rfl) ?hQ73 (by kernel_rfl) (by decide) (by kernel_rfl) (Or.inl ⟨?hg73, ?hy73⟩) (by assumption) ?rest73
    case hi73 => (simp only [List.getElem?_toArray, List.getElem?_cons_zero, List.getElem?_cons_succ]; exact rfl)
    case hQ73 => exact fun _ _ _ h => h
    case hg73 => rfl
    case hy73 => (intro w' hSw; (try dsimp only at hSw); go_simp; try with_reducible rfl)
    try simp only [Act.put, List.setIfInBounds_toArray, List.set_cons_zero, List.set_cons_succ]
    refine wpAnyC_take (i := 3) (oi := ?o74) (v := ?v74) ?hi74 (by kernel_rfl) (by kernel_rfl) (by kernel_rfl) ?hQ74 (by kernel_rfl) (by decide) (by kernel_rfl) (Or.inl ⟨?hg74, ?hy74⟩) (by assumption) ?rest74
    case hi74 => (simp only [List.getElem?_toArray, List.getElem?_cons_zero, List.getElem?_cons_succ]; exact rfl)
    case hQ74 => exact fun _ _ _ h => h
    case hg74 => rfl
    case hy74 => (intro w' hSw; (try dsimp only at hSw); go_simp; try with_reducible rfl)
    try simp only [Act.put, List.setIfInBounds_toArray, List.set_cons_zero, List.set_cons_succ]
    refine wpAnyC_take (i := 4) (oi := ?o75) (v := ?v75) ?hi75 (by kernel_rfl) (by kernel_rfl) (by kernel_rfl) ?hQ75 (by kernel_rfl) (by decide) (by kernel_rfl) (Or.inl ⟨?hg75, ?hy75⟩) (by assumption) ?rest75
    case hi75 => (simp only [List.getElem?_toArray, List.getElem?_cons_zero, List.getElem?_cons_succ]; exact rfl)
    case hQ75 => exact fun _ _ _ h => h
    case hg75 => rfl
    case hy75 => (intro w' hSw; (try dsimp only at hSw); go_simp; try with_reducible rfl)
    try simp only [Act.put, List.setIfInBounds_toArray, List.set_cons_zero, List.set_cons_succ]
    refine wpAnyC_take (i := 5) (oi := ?o76) (v := ?v76) ?hi76 (by kernel_rfl) (by kernel_rfl) (by kernel_rfl) ?hQ76 (by kernel_rfl) (by decide) (by kernel_rfl) (Or.inl ⟨?hg76, ?hy76⟩) (by assumption) ?rest76
    case hi76 => (simp only [List.getElem?_toArray, List.getElem?_cons_zero, List.getElem?_cons_succ]; exact rfl)
    case hQ76 => exact fun _ _ _ h => h
    case hg76 => rfl
    case hy76 => (intro w' hSw; (try dsimp only at hSw); go_simp; try with_reducible rfl)
    try simp only [Act.put, List.setIfInBounds_toArray, List.set_cons_zero, List.set_cons_succ]
    refine wpAnyC_one (i := 6) (oi := ?o77) ?hi77 (by kernel_rfl) ?step77
    case hi77 => (simp only [List.getElem?_toArray, List.getElem?_cons_zero, List.getElem?_cons_succ]; exact rfl)
    intro K' hK
    ((try go_simp); go_at_call 28; (with_reducible refine CP5.out.mono ?_); rintro e w6 ⟨A3, c3, rfl, o6, b6⟩; have B6 : Hid (Below w5.heap.size w5 w6) := Lib.hid ((Below.refl _ _).drew.trans b6.out))
    refine hK.out _ _ ?_ (fun hHeld => ?_)
    · exact fun _ => CB.out _ B6.out
    clear hK K' hHeld
    try simp only [Act.put, List.setIfInBounds_toArray, List.set_cons_zero, List.set_cons_succ]
    have BZ : Hid (Below w5.heap.size w5 (w6.alloc (.cells #[.int .u64 st, .slice A3 b.length c3] 40))) := Lib.hid (B6.out.alloc B6.out.size _)
    have X6 := Lib.hid (obj2P (heap_alloc_new w6 (.cells #[.int .u64 st, .slice A3 b.length c3] 40)))
    have OZ : Hid (OwnB (w6.alloc (.cells #[.int .u64 st, .slice A3 b.length c3] 40)) w5.heap.size A3 c3 b) := Lib.hid (o6.out.grew (Below.alloc (Below.refl _ _) (Nat.le_refl _) _) (Nat.le_refl _))
    refine wpAnyC_one (i := 7) (oi := ?o78) ?hi78 (by kernel_rfl) ?step78
    case hi78 => (simp only [List.getElem?_toArray, List.getElem?_cons_zero, List.getElem?_cons_succ]; exact rfl)
    intro K' hK
    go_simp
    refine hK.out _ _ ?_ (fun hHeld => ?_)
    · exact fun _ => CB.out _ BZ.out
    clear hK K' hHeld
    try simp only [Act.put, List.setIfInBounds_toArray, List.set_cons_zero, List.set_cons_succ]
    have RZ : Hid (OwnP (w6.alloc (.cells #[.int .u64 st, .slice A3 b.length c3] 40)) 0 40 ra rc vs) := Lib.hid (HRW.out.keep fun a ha => BZ.out.block _ (HQ.out.lt _ (HRO.out a ha)))
    refine wpAnyC_one (i := 8) (oi := ?o79) ?hi79 (by kernel_rfl) ?step79
    case hi79 => (simp only [List.getElem?_toArray, List.getElem?_cons_zero, List.getElem?_cons_succ]; exact rfl)
    intro K' hK
    (refine step_appP3 _ _ (by rfl) Tryz.underlying29 rec_info rfl (by decide) (by rfl) (HQL.out.trans HVL.out.symm) RZ.out (Nat.zero_le _) (by rfl) X6.out.1 X6.out.2 rfl rfl QL.out (r := q + 1) (by rw [HVL.out, HQL.out]) ?_; intro A7 c7 w7 o7 g7 k7; have O7 := Lib.hid o7; have G7 := Lib.hid g7; have K7 := Lib.hid k7; clear o7 g7 k7; have E7 : Hid (w7.heap[Lb]? = w5.heap[Lb]? ∧ w7.heap[X]? = w5.heap[X]?) := Lib.hid ⟨(G7.out.block Lb (Nat.lt_of_lt_of_le LT5.out.1 BZ.out.size) (by cases ra with | none => simp [Value.ownBlock] | some a => simp [Value.ownBlock]; exact (NE.out a rfl).1.symm)).trans (BZ.out.block _ LT5.out.1), (G7.out.block X (Nat.lt_of_lt_of_le LT5.out.2 BZ.out.size) (by cases ra with | none => simp [Value.ownBlock] | some a => simp [Value.ownBlock]; exact (NE.out a rfl).2.symm)).trans (BZ.out.block _ LT5.out.2)⟩)
    refine hK.out _ _ ?_ (fun hHeld => ?_)
    · exact fun _ => CE.out _ E7.out.1 E7.out.2
    clear hK K' hHeld
    try simp only [Act.put, List.setIfInBounds_toArray, List.set_cons_zero, List.set_cons_succ]
    have fz7 := FZ.out w7 E7.out.1
    have cc7 := (CE.out w7 E7.out.1 E7.out.2).1
    refine wpAnyC_one (i := 9) (oi := ?o80) ?hi80 (by kernel_rfl) ?step80
    case hi80 => (simp only [List.getElem?_toArray, List.getElem?_cons_zero, List.getElem?_cons_succ]; exact rfl)
    intro K' hK
    go_simp
    refine hK.out _ _ ?_ (fun hHeld => ?_)
    · exact fun _ => CE.out _ E7.out.1 E7.out.2
    clear hK K' hHeld
    try simp only [Act.put, List.setIfInBounds_toArray, List.set_cons_zero, List.set_cons_succ]
    refine wpAnyC_one (i := 10) (oi := ?o81) ?hi81 (by kernel_rfl) ?step81
    case hi81 => (simp only [List.getElem?_toArray, List.getElem?_cons_zero, List.getElem?_cons_succ]; exact rfl)
    intro K' hK
    go_simp
    refine hK.out _ _ ?_ (fun hHeld => ?_)
    · exact fun _ => CE.out _ E7.out.1 E7.out.2
    clear hK K' hHeld
    try simp only [Act.put, List.setIfInBounds_toArray, List.set_cons_zero, List.set_cons_succ]
    refine wpAnyC_one (i := 11) (oi := ?o82) ?hi82 (by kernel_rfl) ?step82
    case hi82 => (simp only [List.getElem?_toArray, List.getElem?_cons_zero, List.getElem?_cons_succ]; exact rfl)
    intro K' hK
    go_simp
    refine hK.out _ _ ?_ (fun hHeld => ?_)
    · exact fun h => (by cases h)
    clear hK K' hHeld
    try simp only [Act.put, List.setIfInBounds_toArray, List.set_cons_zero, List.set_cons_succ]
    refine wpAnyC_done (by kernel_rfl) ?_ _
    clear fz7 cc7
    go_wp2
    go_ret2
    refine ⟨fun _ => ⟨rfl, Lib.hid ⟨sa5, sc5, A7, c7, ?_⟩⟩, fun h => absurd rfl h⟩
    have NEW := LM.push_rec HQ.out BZ.out HVL.out HV.out rfl OZ.out O7.out G7.out K7.out HRO.out HRW.out HI5.out
    rw [← HQL.out] at NEW
    exact WRun.fewer (w_log1 HP.out HQ.out F1.out F2.out F3.out F4.out NEW) (fun g hg => List.mem_cons_of_mem _ hg)
  · have hne : (er != 0) = true := by simpa using her
    have hne2 : (er == 0) = false := by simpa using her
    have E5 := Lib.hid (WL.out her)
    go_wp2
    go_ret2
    refine ⟨fun h => absurd h her, fun _ => ⟨rfl, Lib.hid ⟨sa5, sc5, ?_⟩⟩⟩
    have h6 := WRun.fewer h5 (G' := G) (fun g hg => List.mem_cons_of_mem _ (List.mem_cons_of_mem _ hg))
    rw [E5.out] at h6
    exact h6
set_option maxRecDepth 20000 in
set_option maxHeartbeats 4000000 in
theorem lappend_big {w0 w : World} {T Lb : Nat} {s : S} {l : Wl.L} {G : List (Nat × Obj)} {sa : Option Addr} {sc : Nat} {ra : Option Addr} {rc : Nat} (h : WRun w0 w T Lb s l G sa sc ra rc)
    (ep : Int) (e0 : 0 ≤ ep) (e1 : ep ≤ 1048575) (he : Wl.epochV l ≤ ep) (hend : Wl.endV l ≤ 17592186044415) (A : Option Addr) (n cap : Nat) (hl : 1024 < n) :
    Calls Tryz.prog 9 #[.pointer (some ⟨Lb, 0, none⟩), .int .i64 ep, .slice A n cap] w fun e w' => StE 0 14 e ∧ Hid (WRun w0 w' T Lb s l G sa sc ra rc) := by
  have H := Lib.hid h
  have EP := Lib.hid (epoch_w h)
  have ENd := Lib.hid (fun (W : World) (hW : WRun w0 W T Lb s l G sa sc ra rc) => end_w hW)
  have PK := pack_any ep (Wl.endV l)
  generalize Pl.packV ep (Wl.endV l) = st at *
  generalize Pl.packOk ep (Wl.endV l) = po at *
  have PU := Lib.hid (fun (W : World) => put_large none A 0 n 0 cap st hl W)
  generalize Wl.endV l = en at *
  generalize Wl.epochV l = epl at *
  clear h
  go_enter Tryz.func9, Tryz.ntmps9
  go_wp2_with fail
  (with_reducible refine EP.out.mono ?_); rintro e w1 ⟨rfl, j1, rfl⟩
  have H1 := Lib.hid (WRun.draw H.out j1)
  generalize w.drewN j1 = w1 at *
  go_wp2_with fail
  (with_reducible refine (ENd.out _ H1.out).mono ?_); rintro e w2 ⟨rfl, j2, rfl⟩
  have H2 := Lib.hid (WRun.draw H1.out j2)
  generalize w1.drewN j2 = w2 at *
  go_wp2_with fail
  (with_reducible refine (PK _).mono ?_); rintro e w' ⟨rfl, rfl⟩
  go_wp2_with fail
  (with_reducible refine (PU.out _).mono ?_); rintro e w3 ⟨rfl, g3⟩
  have H3 := Lib.hid (WRun.grow (WRun.alloc H2.out _) g3.below)
  clear g3
  go_wp2
  go_ret2
  exact ⟨rfl, H3⟩
end Go.Proofs.YtdbhicifjljjnaaGreatDoor
/-
  The log's row of records grown by a row of records that a scan has made.
-/
namespace Go.Proofs.YtdbhicifjljjnaaGreatDoor
open Go.RowKit St
theorem flat2_apps (vs us : List (Value × Value)) : flat2 (vs ++ us) = flat2 vs ++ flat2 us := by
  induction vs with
  | nil => rfl
  | cons v t ih => rw [List.cons_append, show flat2 (v :: (t ++ us)) = v.1 :: v.2 :: flat2 (t ++ us) from rfl, ih]; rfl
theorem flat2_lens (vs : List (Value × Value)) : (flat2 vs).length = vs.length * 2 := by
  induction vs with
  | nil => rfl
  | cons v t ih => rw [show flat2 (v :: t) = v.1 :: v.2 :: flat2 t from rfl, List.length_cons, List.length_cons, ih, List.length_cons]; omega
set_option maxRecDepth 20000 in
/-- What an append of a row of pairs onto a row of the call's own leaves. -/
theorem run_appPn {w : World} {base : Nat} {T ST : TypeId} {A : Option Addr} {cap : Nat} {vs : List (Value × Value)} {z : Value} {by_ : Nat} (hST : Tryz.prog.underlying ST = some (.slice T))
    (hI : (Tryz.prog.info? T).map (fun i => (i.zero, i.size, i.bytes)) = some (some z, 2, by_)) (hz : z.cells.size = 2) (hby : by_ ≤ 64)
    (h : OwnP w base T A cap vs) (hbase : base ≤ w.heap.size) {base2 : Nat} {A2 : Option Addr} {cap2 : Nat} {us : List (Value × Value)} (hs : OwnP w base2 T A2 cap2 us) (hone : ∀ u ∈ flat2 us, u.oneCell' = true)
    (hlen : vs.length + us.length ≤ 1000000000) (ty : TypeId) :
    ∃ A' cap' w', (Builtin.append_ #[ST, ST] ty #[.slice A vs.length cap, .slice A2 us.length cap2]).run Tryz.prog w = .ok (.slice A' (vs ++ us).length cap') w' ∧
      OwnP w' base T A' cap' (vs ++ us) ∧ w.grownBy w' (Value.slice A vs.length cap).ownBlock ∧ ∀ a, A' = some a → (∃ a0, A = some a0 ∧ a.block = a0.block) ∨ a.block = w.heap.size := by
  obtain ⟨i, hi, hz0, hsz, hyb⟩ := info_parts hI
  rcases A2 with _ | ad
  · have h0 : us = [] := by
      rcases hs.2 with ⟨e, e0⟩ | ⟨g, c', cur, e, _⟩
      · injection e with e1 e2 e3
        exact List.eq_nil_of_length_eq_zero e2
      · injection e with e1 e2 e3
        cases e1
    subst h0
    refine ⟨A, cap, w, ?_, by rw [List.append_nil]; exact h, World.grownBy.refl _ _, fun a ha => .inl ⟨a, ha, rfl⟩⟩
    rw [List.append_nil]
    have hfit := h.2
    rcases hfit with ⟨e, _⟩ | ⟨g, c', cur, e, _, _, hle, _⟩
    · rw [e]
      simp [Builtin.append_, run_underlying hST, sizeOf, typeInfo, hi, Builtin.lenOf, Builtin.firstCells]
    · rw [e]
      simp [Builtin.append_, run_underlying hST, sizeOf, typeInfo, hi, Builtin.lenOf, Builtin.firstCells, hle, storeCells]
  · have hcell : ∀ j u, (flat2 us)[j]? = some u → w.cell? (ad.add j) = some u := fun j u hu => by
      have hj : j < (flat2 us).length := (List.getElem?_eq_some_iff.1 hu).1
      rw [flat2_lens] at hj
      obtain ⟨g, e, _, _⟩ := hs.shape (by omega)
      injection e with e
      subst e
      rw [add_off, Nat.zero_add, World.ownsRow.cellAt hs j (by omega)]
      exact hu
    obtain ⟨v', w', hrun, hown, hg, _, hwh⟩ := run_append_own_at (P := Tryz.prog) (w := w) base ST ty T i z 2 by_ hST hi hz0 hsz hyb hz (by decide)
      _ vs.length _ h ad us.length cap2 (flat2 us) (flat2_lens us) hcell hone (by unfold maxLen; omega) (by
        have h1 : (vs.length + us.length) * by_ ≤ 1000000000 * 64 := Nat.mul_le_mul hlen hby
        omega) hbase
    obtain ⟨A', cap', rfl⟩ := form_of2 hown
    have e : vs.length + us.length = (vs ++ us).length := by simp
    rw [e] at hrun hown
    refine ⟨A', cap', w', hrun, ?_, hg, fun a ha => ?_⟩
    · unfold OwnP
      rw [flat2_apps]
      exact hown
    · subst ha
      rcases hwh with h1 | h1
      · cases A with
        | none => simp [Value.ownBlock] at h1
        | some a0 => simp [Value.ownBlock] at h1; exact .inl ⟨a0, rfl, h1⟩
      · simp [Value.ownBlock] at h1; exact .inr h1
theorem step_appP4 {w : World} {o : Oper} {a : Act} {K : Act → World → Prop} {Q : Exit → Act → World → Prop} (s t : Operand) {T ST : TypeId}
    (ho : o.op = .call { callee := .builtin .append, args := #[s, t], argTypes := #[ST, ST] })
    {base : Nat} {A : Option Addr} {n cap : Nat} {vs : List (Value × Value)} {z x y : Value} {by_ : Nat} (hST : Tryz.prog.underlying ST = some (.slice T))
    (hI : (Tryz.prog.info? T).map (fun i => (i.zero, i.size, i.bytes)) = some (some z, 2, by_)) (hz : z.cells.size = 2) (hby : by_ ≤ 64)
    (hs : a.eval s = .slice A n cap) (hn : n = vs.length) (h : OwnP w base T A cap vs) (hbase : base ≤ w.heap.size)
    {b2 c : Nat} (ht : a.eval t = .slice (some ⟨b2, 0, none⟩) 1 c) (hx : w.cell? ⟨b2, 0, none⟩ = some x) (hy : w.cell? ⟨b2, 1, none⟩ = some y) (hx1 : x.oneCell' = true) (hy1 : y.oneCell' = true)
    (hlen : vs.length ≤ 1000000000) {r : Nat} (hr : vs.length + 1 = r)
    (H : ∀ A' cap' w', OwnP w' base T A' cap' (vs ++ [(x, y)]) → w.grownBy w' (Value.slice A vs.length cap).ownBlock → (∀ a, A' = some a → (∃ a0, A = some a0 ∧ a.block = a0.block) ∨ a.block = w.heap.size) → OwnP w' base T A cap vs → K (a.put o.dst (.slice A' r cap')) w') :
    Oper.wp Tryz.prog o a w K Q := by
  subst hn hr
  obtain ⟨A', cap', w', hrun, h1, h2, h3, h4⟩ := run_appP4 hST hI hz hby h hbase hx hy hx1 hy1 c hlen o.type
  unfold Oper.wp
  simp [execOp, ho, resolve, invoke, builtin, hs, ht, hrun, Result.andThen]
  have hk := H A' cap' w' h1 h2 h3 h4
  exact hk
theorem getD_apps {α : Type} (l m : List α) (d : α) (i : Nat) : (l ++ m).getD i d = if i < l.length then l.getD i d else m.getD (i - l.length) d := by
  split
  · next h => rw [List.getD_eq_getElem?_getD, List.getElem?_append_left h, ← List.getD_eq_getElem?_getD]
  · next h => rw [List.getD_eq_getElem?_getD, List.getElem?_append_right (by omega), ← List.getD_eq_getElem?_getD]
theorem LM.push_recs {w w5 : World} {Lb T : Nat} {O : Nat → Prop} {l : Wl.L} {sa : Option Addr} {sc : Nat} {ra : Option Addr} {rc : Nat} (h : LM w Lb T O l sa sc ra rc)
    {vs : List (Value × Value)} (hvl : vs.length = l.recs.length) (hv : ∀ i, i < l.recs.length → RecO w O (vs.getD i (undef, undef)) (l.recs.getD i (0, [])))
    {rs : List Fr.Rc} {us : List (Value × Value)} (hul : us.length = rs.length) (hu : ∀ i, i < rs.length → RecO w O (us.getD i (undef, undef)) (rs.getD i (0, []))) {A5 : Option Addr} {c5 : Nat}
    (h5 : OwnP w5 0 40 A5 c5 (vs ++ us)) (hg : w.grownBy w5 (Value.slice ra vs.length rc).ownBlock) (hw : ∀ a, A5 = some a → (∃ a0, ra = some a0 ∧ a.block = a0.block) ∨ a.block = w.heap.size)
    (hro : ∀ a, ra = some a → O a.block) (hrw : OwnP w 0 40 ra rc vs) (hinv : Wl.Inv { l with recs := l.recs ++ rs }) :
    ∃ O', LM (w5.setCell ⟨Lb, 3, none⟩ (.slice A5 (l.recs.length + rs.length) c5)) Lb T O' { l with recs := l.recs ++ rs } sa sc A5 c5 ∧ Step O O' w (w5.setCell ⟨Lb, 3, none⟩ (.slice A5 (l.recs.length + rs.length) c5)) := by
  have hLt := h.lt Lb h.ownL
  have hb : Below w.heap.size w w := Below.refl _ _
  -- a block that is not the row's is as it was
  have keep5 : ∀ k, k < w.heap.size → (∀ a, ra = some a → k ≠ a.block) → w5.heap[k]? = w.heap[k]? := fun k hk hne => hg.block k hk (by
    cases ra with
    | none => simp [Value.ownBlock]
    | some a => simp [Value.ownBlock]; exact hne a rfl)
  have sz5 : w.heap.size ≤ w5.heap.size := hg.size
  have np : ∀ {T' T2 : TypeId} {A A2 : Option Addr} {cap cap2 : Nat} {us us2 : List (Value × Value)}, OwnP w 0 T' A cap us → OwnP w 0 T2 A2 cap2 us2 → T' ≠ T2 → ∀ a a2, A = some a → A2 = some a2 → a.block ≠ a2.block := fun h1 h2 ht a a2 ha ha2 => by
    subst ha; subst ha2
    obtain ⟨c1, e1⟩ := wal_block h1
    obtain ⟨c2, e2⟩ := wal_block h2
    exact type_ne e1 e2 ht
  have nb : ∀ {A A2 : Option Addr} {cap cap2 : Nat} {zs : List Int} {us : List (Value × Value)} {T2 : TypeId}, OwnB w 0 A cap zs → OwnP w 0 T2 A2 cap2 us → 5 ≠ T2 → ∀ a a2, A = some a → A2 = some a2 → a.block ≠ a2.block := fun h1 h2 ht a a2 ha ha2 => by
    subst ha; subst ha2
    obtain ⟨c1, e1⟩ := h1.block
    obtain ⟨c2, e2⟩ := wal_block h2
    exact type_ne e1 e2 ht
  have nL : ∀ {T' : TypeId} {A : Option Addr} {cap : Nat} {us : List (Value × Value)}, OwnP w 0 T' A cap us → T' ≠ 57 → ∀ a, A = some a → a.block ≠ Lb := fun h1 ht a ha => by
    subst ha
    obtain ⟨c1, e1⟩ := wal_block h1
    exact type_ne e1 h.obj ht
  have nLb : ∀ {A : Option Addr} {cap : Nat} {zs : List Int}, OwnB w 0 A cap zs → ∀ a, A = some a → a.block ≠ Lb := fun h1 a ha => by
    subst ha
    obtain ⟨c1, e1⟩ := h1.block
    exact type_ne e1 h.obj (by decide)
  have obj5' : w5.heap[Lb]? = w.heap[Lb]? := (keep5 Lb (Nat.lt_of_lt_of_le hLt hb.size) fun a ha e => nL hrw (by decide) a ha e.symm).trans (hb.block Lb hLt)
  have hob := obj5'.trans h.obj
  have o3 := obj_set (o := 3) hob (.slice A5 (l.recs.length + rs.length) c5)
  have hkb : ∀ k, k ≠ Lb → (w5.setCell ⟨Lb, 3, none⟩ (.slice A5 (l.recs.length + rs.length) c5)).heap[k]? = w5.heap[k]? := fun k hk => Below.heap_setCell _ _ _ _ hk
  have hsz : (w5.setCell ⟨Lb, 3, none⟩ (.slice A5 (l.recs.length + rs.length) c5)).heap.size = w5.heap.size := by simp [World.setCell]
  have hA5 : ∀ a, A5 = some a → a.block < w5.heap.size ∧ (O a.block ∨ w.heap.size ≤ a.block) ∧ a.block ≠ Lb := fun a ha => by
    refine ⟨by subst ha; exact h5.lt.2, ?_, ?_⟩
    · rcases hw a ha with ⟨a0, h1, h2⟩ | h1
      · exact .inl (h2 ▸ hro a0 h1)
      · exact .inr (by rw [h1]; exact hb.size)
    · rcases hw a ha with ⟨a0, h1, h2⟩ | h1
      · rw [h2]; exact nL hrw (by decide) a0 h1
      · rw [h1]; have := hb.size; omega
  refine ⟨fun k => O k ∨ ∃ a, A5 = some a ∧ k = a.block, ⟨?_, ?_, ⟨_, ?_, h5.keep fun a ha => hkb _ (hA5 a ha).2.2, fun a ha => ?_, fun i hi => ?_⟩, .inl h.ownL, fun a ha => .inl (h.ownS a ha), fun k hk => ?_, hinv⟩, ?_, fun k hk => ?_⟩
  · rw [o3]; simp
  · exact h.segs.keep fun a ha => (hkb _ (nL h.segs (by decide) a ha)).trans ((keep5 _ (Nat.lt_of_lt_of_le (h.lt _ (h.ownS a ha)) hb.size) fun a2 ha2 => np h.segs hrw (by decide) a a2 ha ha2).trans (hb.block _ (h.lt _ (h.ownS a ha))))
  · simp [hvl, hul]
  · exact .inr ⟨a, ha, rfl⟩
  · show RecO _ _ _ ((l.recs ++ rs).getD i (0, []))
    rw [getD_apps, getD_apps]
    by_cases hi2 : i < l.recs.length
    · rw [if_pos hi2, if_pos (by omega)]
      obtain ⟨q1, A, cap, q2, q3, q4⟩ := hv i hi2
      exact ⟨q1, A, cap, q2, q3.keep fun a ha => (hkb _ (nLb q3 a ha)).trans ((keep5 _ (Nat.lt_of_lt_of_le (h.lt _ (q4 a ha)) hb.size) fun a2 ha2 => nb q3 hrw (by decide) a a2 ha ha2).trans (hb.block _ (h.lt _ (q4 a ha)))), fun a ha => .inl (q4 a ha)⟩
    · rw [if_neg hi2, if_neg (by omega), hvl]
      have hi3 : i < (l.recs ++ rs).length := hi
      rw [List.length_append] at hi3
      obtain ⟨q1, A, cap, q2, q3, q4⟩ := hu (i - l.recs.length) (by omega)
      exact ⟨q1, A, cap, q2, q3.keep fun a ha => (hkb _ (nLb q3 a ha)).trans (keep5 _ (h.lt _ (q4 a ha)) fun a2 ha2 => nb q3 hrw (by decide) a a2 ha ha2), fun a ha => .inl (q4 a ha)⟩
  · rw [hsz]
    rcases hk with h1 | ⟨a, ha, rfl⟩
    · have := h.lt k h1; have := hg.size; omega
    · exact (hA5 a ha).1
  · have h1 : Only O w w5 := Only.grown hg fun k hk => by
      cases ra with
      | none => cases hk
      | some a => simp [Value.ownBlock] at hk; subst hk; exact hro a rfl
    exact ((Only.of (own := O) hb).trans h1 fun _ h => .inl h).trans (Only.set O 3 w5 _ h.ownL) fun _ h => .inl h
  · rcases hk with h1 | ⟨a, ha, rfl⟩
    · exact .inl h1
    · exact (hA5 a ha).2.1
theorem wp_appPn {w : World} {ops : Array Oper} {rest : List Oper} {o : Oper} {a : Act} {Q : Exit → Act → World → Prop} (hgd : o.guard = none) (s t : Operand) {T ST : TypeId}
    (ho : o.op = .call { callee := .builtin .append, args := #[s, t], argTypes := #[ST, ST] })
    {base : Nat} {A : Option Addr} {n cap : Nat} {vs : List (Value × Value)} {z : Value} {by_ : Nat} (hST : Tryz.prog.underlying ST = some (.slice T))
    (hI : (Tryz.prog.info? T).map (fun i => (i.zero, i.size, i.bytes)) = some (some z, 2, by_)) (hz : z.cells.size = 2) (hby : by_ ≤ 64)
    (hs : a.eval s = .slice A n cap) (hn : n = vs.length) (h : OwnP w base T A cap vs) (hbase : base ≤ w.heap.size)
    {base2 : Nat} {A2 : Option Addr} {m c : Nat} {us : List (Value × Value)} (ht : a.eval t = .slice A2 m c) (hm : m = us.length) (hu : OwnP w base2 T A2 c us) (hone : ∀ u ∈ flat2 us, u.oneCell' = true)
    (hlen : vs.length + us.length ≤ 1000000000) {r : Nat} (hr : vs.length + us.length = r)
    (K : ∀ A' cap' w', OwnP w' base T A' cap' (vs ++ us) → w.grownBy w' (Value.slice A vs.length cap).ownBlock → (∀ a, A' = some a → (∃ a0, A = some a0 ∧ a.block = a0.block) ∨ a.block = w.heap.size) → wpList Tryz.prog ops Q rest (a.put o.dst (.slice A' r cap')) w') :
    wpList Tryz.prog ops Q (o :: rest) a w := by
  subst hn hm hr
  obtain ⟨A', cap', w', hrun, h1, h2, h3⟩ := run_appPn hST hI hz hby h hbase hu hone hlen o.type
  refine wpList_plain hgd fun K' hK => ?_
  unfold Oper.wp
  simp [execOp, ho, resolve, invoke, builtin, hs, ht, hrun, Result.andThen]
  have hk := K A' cap' w' h1 h2 h3
  exact hK _ _ hk
end Go.Proofs.YtdbhicifjljjnaaGreatDoor
/-
  A log beside all the blocks that a call has made; a guest that is written; a longer row of segments taken over; the store's Read and Cut beside a log.
-/
namespace Go.Proofs.YtdbhicifjljjnaaGreatDoor
open Go.RowKit St
/-- All the blocks that lie in w' and not in w. -/
def newG (w w' : World) : List (Nat × Obj) := (List.range w'.heap.size).filterMap fun k => if w.heap.size ≤ k then (w'.heap[k]?).map (fun o => (k, o)) else none
theorem newG_mem {w w' : World} {k : Nat} {o : Obj} : (k, o) ∈ newG w w' ↔ w.heap.size ≤ k ∧ w'.heap[k]? = some o := by
  unfold newG
  rw [List.mem_filterMap]
  constructor
  · rintro ⟨j, _, hj⟩
    split at hj
    · next h =>
      obtain ⟨o', h1, h2⟩ := Option.map_eq_some_iff.1 hj
      injection h2 with h2 h3
      subst h2 h3
      exact ⟨h, h1⟩
    · cases hj
  · rintro ⟨h1, h2⟩
    refine ⟨k, List.mem_range.2 (w_some_lt h2), ?_⟩
    rw [if_pos h1, h2]
    rfl
section
variable {w0 w : World} {T Lb : Nat} {s : S} {l : Wl.L} {G : List (Nat × Obj)} {sa : Option Addr} {sc : Nat} {ra : Option Addr} {rc : Nat} (h : WRun w0 w T Lb s l G sa sc ra rc)
include h
theorem WRun.news {w' : World} (hb : Below w.heap.size w w') : WRun w0 w' T Lb s l (newG w w' ++ G) sa sc ra rc := by
  obtain ⟨o1, O, p, q, h1, h2, h3, h4⟩ := h
  refine ⟨o1, O, p.grow hb, q.grow hb, h1, h2, h3.trans (hb.mono h3.size), fun g m => ?_⟩
  rcases List.mem_append.1 m with m | m
  · obtain ⟨m1, m2⟩ := (newG_mem (k := g.1) (o := g.2)).1 m
    exact ⟨m2, fun hk => by have := p.lt _ hk; omega, fun hk => by have := q.lt _ hk; omega⟩
  · exact ⟨(hb.block g.1 (w_some_lt (h4 g m).1)).trans (h4 g m).1, (h4 g m).2⟩
/-- The guests' blocks are as they were. -/
theorem WRun.kept {w1 w2 : World} (hG : ∀ k, w1.heap.size ≤ k → ∀ o, w2.heap[k]? = some o → (k, o) ∈ G) {k : Nat} (h1 : w1.heap.size ≤ k) (h2 : k < w2.heap.size) : w.heap[k]? = w2.heap[k]? := by
  have e : w2.heap[k]? = some w2.heap[k] := Array.getElem?_eq_getElem h2
  rw [e]
  exact WRun.block h (hG k h1 _ e)
/-- A guest that is written. -/
theorem WRun.setG {X : Nat} {cs : Array Value} {t : TypeId} (hx : (X, Obj.cells cs t (0, 0)) ∈ G) (hX : w0.heap.size ≤ X) (o : Nat) (v : Value) {G' : List (Nat × Obj)} (hG : ∀ g ∈ G', g ∈ G ∧ g.1 ≠ X) :
    WRun w0 (w.setCell ⟨X, o, none⟩ v) T Lb s l ((X, Obj.cells (cs.setIfInBounds o v) t (0, 0)) :: G') sa sc ra rc := by
  obtain ⟨o1, O, p, q, h1, h2, h3, h4⟩ := h
  obtain ⟨x1, x2, x3⟩ := h4 _ hx
  have hk : ∀ k, k ≠ X → (w.setCell ⟨X, o, none⟩ v).heap[k]? = w.heap[k]? := fun k hk => Below.heap_setCell _ _ _ _ hk
  have hsz : (w.setCell ⟨X, o, none⟩ v).heap.size = w.heap.size := by simp [World.setCell]
  refine ⟨o1, O, p.same (by omega) fun k k1 => hk k fun e => x2 (e ▸ k1), q.same (by omega) fun k k1 => hk k fun e => x3 (e ▸ k1), h1, h2, h3.setCell (p := ⟨X, o, none⟩) hX v, fun g m => ?_⟩
  rcases List.mem_cons.1 m with rfl | m
  · exact ⟨heap_setCell_same w X o cs _ v x1, x2, x3⟩
  · obtain ⟨m1, m2⟩ := hG g m
    exact ⟨(hk _ m2).trans (h4 g m1).1, (h4 g m1).2⟩
/-- The blocks that a call has made become the log's own. -/
theorem WRun.adopt {w4 w5 : World} {G' : List (Nat × Obj)} (hG : ∀ k, w4.heap.size ≤ k → ∀ o, w5.heap[k]? = some o → (k, o) ∈ G) (hs : ∀ g ∈ G', g ∈ G ∧ (g.1 < w4.heap.size ∨ w5.heap.size ≤ g.1)) (h04 : w0.heap.size ≤ w4.heap.size) :
    ∃ o1 O, PState w T o1 s ∧ LM w Lb T O l sa sc ra rc ∧ (∀ k, o1 k → w0.heap.size ≤ k ∧ ¬ O k) ∧ (∀ k, O k → w0.heap.size ≤ k) ∧ Below w0.heap.size w0 w ∧ (∀ g ∈ G', w.heap[g.1]? = some g.2 ∧ ¬ o1 g.1 ∧ ¬ O g.1) ∧ ∀ k, w4.heap.size ≤ k → k < w5.heap.size → O k ∧ w.heap[k]? = w5.heap[k]? := by
  have hK := fun (k : Nat) (h1 : w4.heap.size ≤ k) (h2 : k < w5.heap.size) => WRun.kept h hG h1 h2
  obtain ⟨o1, O, p, q, h1, h2, h3, h4⟩ := h
  have hD : ∀ k, w4.heap.size ≤ k → k < w5.heap.size → ¬ o1 k := fun k k1 k2 => (h4 _ (hG k k1 _ (Array.getElem?_eq_getElem k2))).2.1
  refine ⟨o1, fun k => O k ∨ (w4.heap.size ≤ k ∧ k < w5.heap.size), p, ⟨q.obj, q.segs, q.recs.keep (fun _ _ => rfl) fun _ h => .inl h, .inl q.ownL, fun a ha => .inl (q.ownS a ha), fun k hk => ?_, q.inv⟩, fun k hk => ⟨(h1 k hk).1, fun ho => ?_⟩, fun k hk => ?_, h3, fun g m => ⟨(h4 g (hs g m).1).1, (h4 g (hs g m).1).2.1, fun ho => ?_⟩, fun k k1 k2 => ⟨.inr ⟨k1, k2⟩, hK k k1 k2⟩⟩
  · rcases hk with hk | hk
    · exact q.lt k hk
    · exact w_some_lt ((hK k hk.1 hk.2).trans (Array.getElem?_eq_getElem hk.2))
  · rcases ho with ho | ho
    · exact (h1 k hk).2 ho
    · exact hD k ho.1 ho.2 hk
  · rcases hk with hk | hk
    · exact h2 k hk
    · omega
  · rcases ho with ho | ho
    · exact (h4 g (hs g m).1).2.2 ho
    · have := (hs g m).2
      omega
/-- The store's Read. -/
theorem read_w (f : Int) : Calls Tryz.prog 65 #[.pointer (some ⟨T, 0, none⟩), .string (Sg.nameB f)] w (ReadPost w (readL s (nmS f)) (readE s (nmS f))) := by
  obtain ⟨o1, O, p, _⟩ := h
  exact read_any T o1 s w p (Sg.nameB f) (by rw [Sg.nameB_size]; decide)
theorem scut_w (f n : Int) : Calls Tryz.prog 47 #[.pointer (some ⟨T, 0, none⟩), .string (Sg.nameB f), .int .i64 n] w fun e w' => RetI (actE s (cutE s (nmS f) n)) e ∧ Hid (WRun w0 w' T Lb (actS s (cutE s (nmS f) n) (cutL s (nmS f) n.toNat)) l G sa sc ra rc) :=
  w_prog h fun own _ _ p => cut_any T own s w p (Sg.nameB f) (by rw [Sg.nameB_size]; decide) n
theorem sdrop_w (f : Int) : Calls Tryz.prog 30 #[.pointer (some ⟨T, 0, none⟩), .string (Sg.nameB f)] w fun e w' => RetI (actE s (fnd s (nmS f) [nmS f])) e ∧ Hid (WRun w0 w' T Lb (actS s (fnd s (nmS f) [nmS f]) (del (nmS f) s.fs)) l G sa sc ra rc) :=
  w_prog h fun own _ _ p => drop_any T own s w p (Sg.nameB f) (by rw [Sg.nameB_size]; decide)
end
section
variable {w0 w : World} {T Lb : Nat} {s : S} {l : Wl.L} {G : List (Nat × Obj)} {sa : Option Addr} {sc : Nat} {ra : Option Addr} {rc : Nat}
/-- The longer row taken over. -/
theorem WRun2.take {A4 : Option Addr} {c4 : Nat} {gs : List (Int × Int)} (h : WRun2 w0 w T Lb s l G sa sc ra rc A4 c4 gs) (hinv : Wl.Inv { l with segs := gs }) :
    WRun w0 (w.setCell ⟨Lb, 2, none⟩ (.slice A4 gs.length c4)) T Lb s { l with segs := gs } G A4 c4 ra rc := by
  obtain ⟨o1, O, p, q, h1, h2, h3, h4, h5, h6⟩ := h
  have hgL : ∀ a, A4 = some a → a.block ≠ Lb := fun a ha => by
    subst ha
    obtain ⟨cur, hc⟩ := wal_block h5
    exact type_ne hc q.obj (by decide)
  have kk : ∀ k, k ≠ Lb → (w.setCell ⟨Lb, 2, none⟩ (.slice A4 gs.length c4)).heap[k]? = w.heap[k]? := fun k hk => Below.heap_setCell _ _ _ _ hk
  have kO : ∀ k, ¬ O k → k ≠ Lb := fun k hk e => hk (e ▸ q.ownL)
  have hsz : (w.setCell ⟨Lb, 2, none⟩ (.slice A4 gs.length c4)).heap.size = w.heap.size := by simp [World.setCell]
  obtain ⟨vs, r1, r2, r3, r4⟩ := q.recs
  have o2 := obj_set (o := 2) q.obj (.slice A4 gs.length c4)
  have hon : Only O w (w.setCell ⟨Lb, 2, none⟩ (.slice A4 gs.length c4)) := Only.set O 2 _ _ q.ownL
  refine ⟨o1, O, p.same (by omega) fun k hk => kk k (kO k (h1 k hk).2), ⟨?_, h5.keep fun a ha => kk _ (hgL a ha), ⟨vs, r1, r2.keep fun b hb => ?_, r3, fun j hj => ?_⟩, q.ownL, h6, fun k hk => by rw [hsz]; exact q.lt k hk, hinv⟩, h1, h2, h3.trans (hon.below h3.size h2), fun x m => ⟨(kk _ (kO _ (h4 x m).2.2)).trans (h4 x m).1, (h4 x m).2⟩⟩
  · rw [o2]; simp
  · subst hb
    obtain ⟨cur2, hc2⟩ := wal_block r2
    exact kk _ (type_ne hc2 q.obj (by decide))
  · obtain ⟨q1, A, cap, q2, q3, q4⟩ := r4 j hj
    refine ⟨q1, A, cap, q2, q3.keep fun b hb => ?_, q4⟩
    subst hb
    obtain ⟨cur2, hc2⟩ := q3.block
    exact kk _ (type_ne hc2 q.obj (by decide))
end
end Go.Proofs.YtdbhicifjljjnaaGreatDoor
/-
  loadOne: a segment is read as far as it can be, the rest of it is cut off, its records are taken into the log.
-/
namespace Go.Proofs.YtdbhicifjljjnaaGreatDoor
open Go.RowKit St
def ldZ (s : S) (f : Int) : List Int := readL s (nmS f)
def ldN (s : S) (l : Wl.L) (f : Int) : Nat := (Sg.scV (ldZ s f) f (Wl.epochV l)).2
def ldR (s : S) (l : Wl.L) (f : Int) : List Fr.Rc := (Sg.scV (ldZ s f) f (Wl.epochV l)).1
def ldL1 (s : S) (l : Wl.L) (f : Int) : Wl.L := { l with segs := l.segs ++ [(f, (ldN s l f : Int))] }
def ldL (s : S) (l : Wl.L) (f : Int) : Wl.L := { ldL1 s l f with recs := l.recs ++ ldR s l f }
def ldE (s : S) (l : Wl.L) (f : Int) : Int := if ldN s l f < (ldZ s f).length then actE s (cutE s (nmS f) (ldN s l f : Nat)) else 0
def ldS (s : S) (l : Wl.L) (f : Int) : S := if ldN s l f < (ldZ s f).length then actS s (cutE s (nmS f) (ldN s l f : Nat)) (cutL s (nmS f) (ldN s l f)) else s
def LoadPost (w0 : World) (T Lb : Nat) (s : S) (l : Wl.L) (G : List (Nat × Obj)) (f : Int) (e : Ending) (w' : World) : Prop :=
  e = .returned (.tuple #[.bool (decide (ldN s l f = (ldZ s f).length)), .int .i64 (ldE s l f)]) ∧ Hid (∃ sa' sc' ra' rc', WRun w0 w' T Lb (ldS s l f) (ldL s l f) G sa' sc' ra' rc')
theorem ret_bi {k : IntKind} {a b : Int} {x y : Bool} (h : x = y) (h2 : a = b) : Ending.returned (.tuple #[.bool x, .int k a]) = .returned (.tuple #[.bool y, .int k b]) := by rw [h, h2]
theorem flat2_mem : ∀ (us : List (Value × Value)) (u : Value), u ∈ flat2 us → ∃ i, i < us.length ∧ (u = (us.getD i (undef, undef)).1 ∨ u = (us.getD i (undef, undef)).2)
  | [], u, h => by cases h
  | v :: t, u, h => by
    have h' : u ∈ v.1 :: v.2 :: flat2 t := h
    rcases List.mem_cons.1 h' with e | h1
    · exact ⟨0, by simp, .inl (by simpa using e)⟩
    · rcases List.mem_cons.1 h1 with e | h2
      · exact ⟨0, by simp, .inr (by simpa using e)⟩
      · obtain ⟨i, hi, hu⟩ := flat2_mem t u h2
        exact ⟨i + 1, by simpa using hi, by simpa using hu⟩
set_option maxRecDepth 20000 in
set_option maxHeartbeats 8000000 in
theorem loadone_any {w0 w : World} {T Lb : Nat} {s : S} {l : Wl.L} {G : List (Nat × Obj)} {sa : Option Addr} {sc : Nat} {ra : Option Addr} {rc : Nat} (h : WRun w0 w T Lb s l G sa sc ra rc) (hF : Facts w0) (f : Int) (f0 : 0 ≤ f) (f1 : f ≤ 17592186044415)
    (hr : readE s (nmS f) = 0) (hzl : (ldZ s f).length ≤ 16777216) (hi1 : Wl.Inv (ldL1 s l f)) (hi2 : Wl.Inv (ldL s l f)) :
    Calls Tryz.prog 51 #[.pointer (some ⟨Lb, 0, none⟩), .int .i64 f] w (LoadPost w0 T Lb s l G f) := by
  have H := Lib.hid h
  have HF := Lib.hid hF
  obtain ⟨W1, hW1⟩ : ∃ W, W = w.alloc (.cells #[.int .i64 f, .int .i64 0] 70) := ⟨_, rfl⟩
  obtain ⟨X, hX⟩ : ∃ X, X = w.heap.size := ⟨_, rfl⟩
  have B1 : Hid (Below w.heap.size w W1) := Lib.hid (by rw [hW1]; exact (Below.refl _ _).alloc (Nat.le_refl _) _)
  have H1 : Hid (WRun w0 W1 T Lb s l ((X, .cells #[.int .i64 f, .int .i64 0] 70 (0, 0)) :: G) sa sc ra rc) := Lib.hid (WRun.join h B1.out (by rw [hX]; exact Nat.le_refl _) (by rw [hX, hW1]; exact heap_alloc_new ..))
  have XG : Hid (∀ g ∈ G, g.1 ≠ X) := Lib.hid fun g hg e => by have := w_some_lt (WRun.block h hg); omega
  have X0 : Hid (w0.heap.size ≤ X) := Lib.hid (by rw [hX]; exact (WRun.below h).size)
  have SC : Hid (∀ W s l G sa sc ra rc, WRun w0 W T Lb s l ((X, .cells #[.int .i64 f, .int .i64 0] 70 (0, 0)) :: G) sa sc ra rc → W.cell? ⟨Lb, 0, none⟩ = some (.pointer (some ⟨T, 0, none⟩)) ∧ W.cell? ⟨X, 0, none⟩ = some (.int .i64 f) ∧ W.cell? ⟨X, 1, none⟩ = some (.int .i64 0)) := Lib.hid fun W s l G sa sc ra rc hW => by
    obtain ⟨⟨c0, _⟩, _⟩ := obj5 (obj_w hW)
    exact ⟨c0, obj2P (WRun.block hW (List.mem_cons_self ..))⟩
  have NM := Lib.hid (fun (W : World) (hW : Facts W) => segname_any f 0 f0 f1 W hW)
  have RD := Lib.hid (fun (W : World) (hW : WRun w0 W T Lb s l ((X, .cells #[.int .i64 f, .int .i64 0] 70 (0, 0)) :: G) sa sc ra rc) => read_w hW f)
  have S0 := Lib.hid (SC.out _ _ _ _ _ _ _ _ (WRun.drew H1.out))
  have H1d := Lib.hid (WRun.drew H1.out)
  rw [hr] at RD
  have EN : Hid (ldN s l f = (Sg.scV (ldZ s f) f (Wl.epochV l)).2) := Lib.hid rfl
  have ER : Hid (ldR s l f = (Sg.scV (ldZ s f) f (Wl.epochV l)).1) := Lib.hid rfl
  have RD2 : Hid (∀ (W : World), WRun w0 W T Lb s l ((X, .cells #[.int .i64 f, .int .i64 0] 70 (0, 0)) :: G) sa sc ra rc → Calls Tryz.prog 65 #[.pointer (some ⟨T, 0, none⟩), .string (Sg.nameB f)] W (ReadPost W (ldZ s f) 0)) := RD
  have EE : Hid (ldE s l f = if ldN s l f < (ldZ s f).length then actE s (cutE s (nmS f) (ldN s l f : Nat)) else 0) := Lib.hid rfl
  have ES : Hid (ldS s l f = if ldN s l f < (ldZ s f).length then actS s (cutE s (nmS f) (ldN s l f : Nat)) (cutL s (nmS f) (ldN s l f)) else s) := Lib.hid rfl
  clear hr RD
  generalize hZ : ldZ s f = Z at *
  generalize hepl : Wl.epochV l = epl at *
  have EP := Lib.hid (fun (W : World) (G' : List (Nat × Obj)) (hW : WRun w0 W T Lb s l G' sa sc ra rc) => epoch_w hW)
  rw [hepl] at EP
  have SN := Lib.hid (fun (A : Option Addr) (cap : Nat) (hc : Z.length ≤ cap) (W : World) (hb : Bytes W W.heap.size A Z) => scan_any A Z cap f epl (by omega) hc W hb)
  have SZ : Hid (Fr.Byte Z → (Sg.scV Z f epl).2 ≤ Z.length ∧ (Sg.scV Z f epl).1.length ≤ Z.length) := Lib.hid fun hb => by
    have := Sg.scV_tells Z.length Z f epl (Nat.le_refl _) hb
    omega
  unfold LoadPost
  rw [hZ]
  rw [EN.out] at EE ES ⊢
  have EL1 : Hid (ldL1 s l f = { l with segs := l.segs ++ [(f, ((Sg.scV Z f epl).2 : Int))] }) := Lib.hid (by unfold ldL1; rw [EN.out])
  have EL : Hid (ldL s l f = { ldL1 s l f with recs := l.recs ++ (Sg.scV Z f epl).1 }) := Lib.hid (by unfold ldL; rw [ER.out])
  clear hZ hepl EN ER
  have ZL := Lib.hid hzl
  have hzl' : (Z.length : Int) ≤ 16777216 := by omega
  obtain ⟨zn, hzn⟩ : ∃ zn, zn = Z.length := ⟨_, rfl⟩
  rw [← hzn] at EE ES ZL SZ hzl' ⊢
  have ZN := Lib.hid hzn
  clear hzn hzl
  generalize hnb : Sg.nameB f = nb at *
  go_enter Tryz.func51, Tryz.ntmps51
  go_wp2_with fail
  rw [← hW1, ← hX]
  clear hW1 hX B1 H1
  go_region_held3 (fun w' => w'.cell? ⟨Lb, 0, none⟩ = some (.pointer (some ⟨T, 0, none⟩)) ∧ w'.cell? ⟨X, 0, none⟩ = some (.int .i64 f) ∧ w'.cell? ⟨X, 1, none⟩ = some (.int .i64 0)) ((first | exact S0.out | exact S2.out | exact S3.out | go_keep))
    (first
      | (go_simp; go_at_call 31; (with_reducible refine (NM.out _ (HF.out.below (WRun.below H1d.out))).mono ?_); rintro e w2 ⟨rfl, b2⟩; have H2 := Lib.hid (WRun.grow H1d.out b2.out); have S2 := Lib.hid (SC.out _ _ _ _ _ _ _ _ H2.out))
      | (go_simp; go_at_call 65; (with_reducible refine (RD2.out _ H2.out).mono ?_); rintro e w3 ⟨zs, A3, c3, hzs, rfl, o3, b3⟩; have H3 := Lib.hid (WRun.grow H2.out b3); have S3 := Lib.hid (SC.out _ _ _ _ _ _ _ _ H3.out)))
  obtain rfl := hzs.out
  have BY3 : Hid (Bytes w3 w3.heap.size A3 zs) := Lib.hid o3.bytes
  have ZB : Hid (Fr.Byte zs) := Lib.hid fun z hz => (o3.bytes.mem z hz)
  have ZC : Hid (zs.length ≤ c3) := Lib.hid o3.cap_
  rw [← ZN.out]
  clear o3 b3 S0 S2 S3 hzs RD2 H1d
  obtain ⟨hs1, hs2⟩ := SZ.out ZB.out
  go_wp2_with fail
  (with_reducible refine (EP.out _ _ H3.out).mono ?_); rintro e w4 ⟨rfl, j, rfl⟩
  have H4 := Lib.hid (WRun.draw H3.out j)
  have BY4 : Hid (Bytes (w3.drewN j) (w3.drewN j).heap.size A3 zs) := BY3
  generalize w3.drewN j = w4 at *
  have SN4 := Lib.hid (SN.out A3 c3 ZC.out w4 BY4.out)
  rw [← ZN.out] at SN4
  go_wp2_with fail
  (with_reducible refine SN4.out.mono ?_); rintro e w5 ⟨rs, A5, c5, hrs, rfl, o5, b5⟩
  rw [hrs.out] at hs2 EL
  generalize hsze : (Sg.scV zs f epl).2 = sz at *
  have SZE := Lib.hid hsze
  clear hsze
  have H5 := Lib.hid (WRun.news H4.out b5)
  have OR5 := Lib.hid o5
  have B45 := Lib.hid b5
  have XW : Hid (X < w4.heap.size) := Lib.hid (w_some_lt (WRun.block H4.out (List.mem_cons_self ..)))
  have GL : Hid (∀ g ∈ G, g.1 < w4.heap.size) := Lib.hid fun g hg => w_some_lt (WRun.block H4.out (List.mem_cons_of_mem _ hg))
  have W04 : Hid (w0.heap.size ≤ w4.heap.size) := Lib.hid (WRun.below H4.out).size
  clear o5 b5 H4 BY4 BY3 SN4 SN EP SZ hrs
  obtain ⟨er, her⟩ : ∃ er, er = if sz < zn then actE s (cutE s (nmS f) (sz : Nat)) else 0 := ⟨_, rfl⟩
  obtain ⟨s6, hs6⟩ : ∃ s6, s6 = if sz < zn then actS s (cutE s (nmS f) (sz : Nat)) (cutL s (nmS f) sz) else s := ⟨_, rfl⟩
  have EE6 : Hid (ldE s l f = er) := Lib.hid (EE.out.trans her.symm)
  have ES6 : Hid (ldS s l f = s6) := Lib.hid (ES.out.trans hs6.symm)
  have HER := Lib.hid her
  have HS6 := Lib.hid hs6
  clear EE ES her hs6
  go_upto_if 36 with fail
  go_cut [5] from 36 to 44 (fun ev wx => ev = .int .i64 er ∧ Hid (WRun w0 wx T Lb s6 l (newG w4 w5 ++ (X, .cells #[.int .i64 f, .int .i64 0] 70 (0, 0)) :: G) sa sc ra rc))
  case first =>
    by_cases hlt : sz < zn
    · have hlt' : (sz : Int) < (zn : Int) := by omega
      have E1 : Hid (er = actE s (cutE s (nmS f) (sz : Nat))) := Lib.hid (by rw [HER.out, if_pos hlt])
      have E2 : Hid (s6 = actS s (cutE s (nmS f) (sz : Nat)) (cutL s (nmS f) sz)) := Lib.hid (by rw [HS6.out, if_pos hlt])
      have CU := Lib.hid (fun (W : World) (hW : WRun w0 W T Lb s l (newG w4 w5 ++ (X, .cells #[.int .i64 f, .int .i64 0] 70 (0, 0)) :: G) sa sc ra rc) => scut_w hW f (sz : Int))
      rw [hnb, show ((sz : Int)).toNat = sz from rfl, ← E1.out, ← E2.out] at CU
      have H5d := Lib.hid (WRun.drew H5.out)
      have SC5 : Hid (∀ W s, WRun w0 W T Lb s l (newG w4 w5 ++ (X, .cells #[.int .i64 f, .int .i64 0] 70 (0, 0)) :: G) sa sc ra rc → W.cell? ⟨Lb, 0, none⟩ = some (.pointer (some ⟨T, 0, none⟩)) ∧ W.cell? ⟨X, 0, none⟩ = some (.int .i64 f) ∧ W.cell? ⟨X, 1, none⟩ = some (.int .i64 0)) := Lib.hid fun W s hW => SC.out _ _ _ _ _ _ _ _ (WRun.fewer hW (fun g hg => List.mem_append_right _ hg))
      clear E1 E2 HER HS6
      go_upto_region 7 with fail
      go_region_held3 (fun w' => w'.cell? ⟨Lb, 0, none⟩ = some (.pointer (some ⟨T, 0, none⟩)) ∧ w'.cell? ⟨X, 0, none⟩ = some (.int .i64 f) ∧ w'.cell? ⟨X, 1, none⟩ = some (.int .i64 0)) ((first | exact SC5.out _ _ H5d.out | exact SC5.out _ _ H7.out | exact SC5.out _ _ H8.out | go_keep))
        (first
          | (go_simp; go_at_call 31; (with_reducible refine (NM.out _ (HF.out.below (WRun.below H5d.out))).mono ?_); rintro e w7 ⟨rfl, b7⟩; have H7 := Lib.hid (WRun.grow H5d.out b7.out))
          | (go_simp; go_at_call 47; (with_reducible refine (CU.out _ H7.out).mono ?_); rintro e w8 ⟨rfl, H8⟩))
      all_goals go_wp2_with fail
      all_goals go_meet
      all_goals exact ⟨rfl, H8⟩
    · have hlt' : ¬ (sz : Int) < (zn : Int) := by omega
      have E1 : Hid (er = 0) := Lib.hid (by rw [HER.out, if_neg hlt])
      have E2 : Hid (s6 = s) := Lib.hid (by rw [HS6.out, if_neg hlt])
      go_wp2
      go_meet
      exact ⟨by rw [E1.out], by rw [E2.out]; exact H5⟩
  case rest =>
    obtain ⟨rfl, H6⟩ := hcut
    clear HER HS6 H5
    obtain ⟨⟨y0, y1⟩, y2, y3⟩ := (⟨obj2P (WRun.block H6.out (g := (X, _)) (List.mem_append_right _ (List.mem_cons_self ..))), obj2f (WRun.block H6.out (g := (X, _)) (List.mem_append_right _ (List.mem_cons_self ..)))⟩ : (_ ∧ _) ∧ _ ∧ _)
    have H7 : Hid (WRun w0 (wc.setCell ⟨X, 1, none⟩ (.int .i64 (sz : Int))) T Lb s6 l ((X, .cells #[.int .i64 f, .int .i64 (sz : Int)] 70 (0, 0)) :: (newG w4 w5 ++ G)) sa sc ra rc) := Lib.hid (WRun.setG H6.out (List.mem_append_right _ (List.mem_cons_self ..)) X0.out 1 _ (fun g hg => by
      rcases List.mem_append.1 hg with h1 | h1
      · exact ⟨List.mem_append_left _ h1, fun e => by
          have h2 := (newG_mem (k := g.1) (o := g.2)).1 h1
          have := XW.out
          omega⟩
      · exact ⟨List.mem_append_right _ (List.mem_cons_of_mem _ h1), XG.out g h1⟩))
    go_upto_region 9 with fail
    generalize wc.setCell ⟨X, 1, none⟩ (.int .i64 (sz : Int)) = w9 at *
    clear y0 y1 y2 y3 H6
    obtain ⟨q, hq⟩ : ∃ q, q = l.segs.length := ⟨_, rfl⟩
    have HQ := Lib.hid hq
    clear hq
    have CE : Hid (∀ W, WRun w0 W T Lb s6 l ((X, .cells #[.int .i64 f, .int .i64 (sz : Int)] 70 (0, 0)) :: (newG w4 w5 ++ G)) sa sc ra rc → W.cell? ⟨Lb, 2, none⟩ = some (.slice sa q sc) ∧ W.cell? ⟨X, 0, none⟩ = some (.int .i64 f) ∧ W.cell? ⟨X, 1, none⟩ = some (.int .i64 (sz : Int))) := Lib.hid fun W hW => by
      obtain ⟨⟨_, _, c2, _, _⟩, _⟩ := obj5 (obj_w hW)
      rw [← HQ.out] at c2
      exact ⟨c2, obj2P (WRun.block hW (List.mem_cons_self ..))⟩
    have FZ : Hid (∀ W, WRun w0 W T Lb s6 l ((X, .cells #[.int .i64 f, .int .i64 (sz : Int)] 70 (0, 0)) :: (newG w4 w5 ++ G)) sa sc ra rc → W.frozen? ⟨Lb, 2, none⟩ = false) := Lib.hid fun W hW => by
      obtain ⟨_, _, _, c2, _⟩ := obj5 (obj_w hW)
      exact c2
    have H9d := Lib.hid (WRun.drew H7.out)
    have H9a := Lib.hid (WRun.alloc H9d.out (.cells #[.int .i64 f, .int .i64 (sz : Int)] 70))
    have RW : Hid (OwnP (w9.drew.alloc (.cells #[.int .i64 f, .int .i64 (sz : Int)] 70)) 0 70 sa sc (segV l.segs)) := Lib.hid (by obtain ⟨_, _, _, q, _⟩ := H9a.out; exact q.segs)
    have SGC : Hid (l.segs.length ≤ 16777216) := Lib.hid (WRun.inv H7.out).2.segc
    refine wp_region_C (fun w' => w'.cell? ⟨Lb, 2, none⟩ = some (.slice sa q sc) ∧ w'.cell? ⟨X, 0, none⟩ = some (.int .i64 f) ∧ w'.cell? ⟨X, 1, none⟩ = some (.int .i64 (sz : Int))) 10 (by kernel_rfl) ?_
    have hS0 : (fun w' : World => w'.cell? ⟨Lb, 2, none⟩ = some (.slice sa q sc) ∧ w'.cell? ⟨X, 0, none⟩ = some (.int .i64 f) ∧ w'.cell? ⟨X, 1, none⟩ = some (.int .i64 (sz : Int))) w9.drew := CE.out _ H9d.out
    refine wpAnyC_take (i := 0) (oi := ?o1) (v := ?v1) ?hi1 (by kernel_rfl) (by kernel_rfl) (by kernel_rfl) ?hQ1 (by kernel_rfl) (by decide) (by kernel_rfl) (Or.inl ⟨?hg1, ?hy1⟩) (by assumption) ?rest1
    case hi1 => (simp only [List.getElem?_toArray, List.getElem?_cons_zero]; exact rfl)
    case hQ1 => exact fun _ _ _ h => h
    case hg1 => rfl
    case hy1 => (intro w' hSw; (try dsimp only at hSw); go_simp; try with_reducible rfl)
    try simp only [Act.put, List.setIfInBounds_toArray, List.set_cons_zero, List.set_cons_succ]
    refine wpAnyC_take (i := 1) (oi := ?o2) (v := ?v2) ?hi2 (by kernel_rfl) (by kernel_rfl) (by kernel_rfl) ?hQ2 (by kernel_rfl) (by decide) (by kernel_rfl) (Or.inl ⟨?hg2, ?hy2⟩) (by assumption) ?rest2
    case hi2 => (simp only [List.getElem?_toArray, List.getElem?_cons_zero, List.getElem?_cons_succ]; exact rfl)
    case hQ2 => exact fun _ _ _ h => h
    case hg2 => rfl
    case hy2 => (intro w' hSw; (try dsimp only at hSw); go_simp; try with_reducible rfl)
    try simp only [Act.put, List.setIfInBounds_toArray, List.set_cons_zero, List.set_cons_succ]
    refine wpAnyC_take (i := 2) (oi := ?o3) (v := ?v3) ?hi3 (by kernel_rfl) (by kernel_rfl) (by kernel_rfl) ?hQ3 (by kernel_rfl) (by decide) (by kernel_rfl) (Or.inl ⟨?hg3, ?hy3⟩) (by assumption) ?rest3
    case hi3 => (simp only [List.getElem?_toArray, List.getElem?_cons_zero, List.getElem?_cons_succ]; exact rfl)
    case hQ3 => exact fun _ _ _ h => h
    case hg3 => rfl
    case hy3 => (intro w' hSw; (try dsimp only at hSw); go_simp; try with_reducible rfl)
    try simp only [Act.put, List.setIfInBounds_toArray, List.set_cons_zero, List.set_cons_succ]
    refine wpAnyC_take (i := 3) (oi := ?o4) (v := ?v4) ?hi4 (by kernel_rfl) (by kernel_rfl) (by kernel_rfl) ?hQ4 (by kernel_rfl) (by decide) (by kernel_rfl) (Or.inl ⟨?hg4, ?hy4⟩) (by assumption) ?rest4
    case hi4 => (simp only [List.getElem?_toArray, List.getElem?_cons_zero, List.getElem?_cons_succ]; exact rfl)
    case hQ4 => exact fun _ _ _ h => h
    case hg4 => rfl
    case hy4 => (intro w' hSw; (try dsimp only at hSw); go_simp; try with_reducible rfl)
    try simp only [Act.put, List.setIfInBounds_toArray, List.set_cons_zero, List.set_cons_succ]
    refine wpAnyC_take (i := 4) (oi := ?o5) (v := ?v5) ?hi5 (by kernel_rfl) (by kernel_rfl) (by kernel_rfl) ?hQ5 (by kernel_rfl) (by decide) (by kernel_rfl) (Or.inl ⟨?hg5, ?hy5⟩) (by assumption) ?rest5
    case hi5 => (simp only [List.getElem?_toArray, List.getElem?_cons_zero, List.getElem?_cons_succ]; exact rfl)
    case hQ5 => exact fun _ _ _ h => h
    case hg5 => rfl
    case hy5 => (intro w' hSw; (try dsimp only at hSw); go_simp; try with_reducible rfl)
    try simp only [Act.put, List.setIfInBounds_toArray, List.set_cons_zero, List.set_cons_succ]
    refine wpAnyC_take (i := 5) (oi := ?o6) (v := ?v6) ?hi6 (by kernel_rfl) (by kernel_rfl) (by kernel_rfl) ?hQ6 (by kernel_rfl) (by decide) (by kernel_rfl) (Or.inl ⟨?hg6, ?hy6⟩) (by assumption) ?rest6
    case hi6 => (simp only [List.getElem?_toArray, List.getElem?_cons_zero, List.getElem?_cons_succ]; exact rfl)
    case hQ6 => exact fun _ _ _ h => h
    case hg6 => rfl
    case hy6 => (intro w' hSw; (try dsimp only at hSw); go_simp; try with_reducible rfl)
    try simp only [Act.put, List.setIfInBounds_toArray, List.set_cons_zero, List.set_cons_succ]
    refine wpAnyC_one (i := 6) (oi := ?o7) ?hi7 (by kernel_rfl) ?step7
    case hi7 => (simp only [List.getElem?_toArray, List.getElem?_cons_zero, List.getElem?_cons_succ]; exact rfl)
    intro K' hK
    go_simp
    refine hK.out _ _ ?_ (fun hHeld => ?_)
    · exact fun _ => CE.out _ H9a.out
    clear hK K' hHeld
    try simp only [Act.put, List.setIfInBounds_toArray, List.set_cons_zero, List.set_cons_succ]
    refine wpAnyC_one (i := 7) (oi := ?o8) ?hi8 (by kernel_rfl) ?step8
    case hi8 => (simp only [List.getElem?_toArray, List.getElem?_cons_zero, List.getElem?_cons_succ]; exact rfl)
    intro K' hK
    (refine step_appP4 _ _ (by rfl) undG seg_info rfl (by decide) (by rfl) (by rw [segV_len]; exact HQ.out) RW.out (Nat.zero_le _) (by rfl) (obj2P (heap_alloc_new _ _)).1 (obj2P (heap_alloc_new _ _)).2 rfl rfl (by rw [segV_len]; have := SGC.out; omega) (r := q + 1) (by rw [segV_len, HQ.out]) ?_; intro A7 c7 w10 o7 g7 d7 k7; have R2 : Hid (WRun2 w0 w10 T Lb s6 l ((X, .cells #[.int .i64 f, .int .i64 (sz : Int)] 70 (0, 0)) :: (newG w4 w5 ++ G)) sa sc ra rc A7 c7 (l.segs ++ [(f, (sz : Int))])) := Lib.hid (WRun.appended H9a.out (by rw [segV_app]; exact o7) g7 d7 k7); clear o7 g7 d7 k7)
    refine hK.out _ _ ?_ (fun hHeld => ?_)
    · exact fun _ => CE.out _ R2.out.run
    clear hK K' hHeld
    try simp only [Act.put, List.setIfInBounds_toArray, List.set_cons_zero, List.set_cons_succ]
    have fz7 := FZ.out _ R2.out.run
    have cc7 := (CE.out _ R2.out.run).1
    refine wpAnyC_one (i := 8) (oi := ?o9) ?hi9 (by kernel_rfl) ?step9
    case hi9 => (simp only [List.getElem?_toArray, List.getElem?_cons_zero, List.getElem?_cons_succ]; exact rfl)
    intro K' hK
    go_simp
    refine hK.out _ _ ?_ (fun hHeld => ?_)
    · exact fun _ => CE.out _ R2.out.run
    clear hK K' hHeld
    try simp only [Act.put, List.setIfInBounds_toArray, List.set_cons_zero, List.set_cons_succ]
    refine wpAnyC_one (i := 9) (oi := ?o10) ?hi10 (by kernel_rfl) ?step10
    case hi10 => (simp only [List.getElem?_toArray, List.getElem?_cons_zero, List.getElem?_cons_succ]; exact rfl)
    intro K' hK
    go_simp
    refine hK.out _ _ ?_ (fun hHeld => ?_)
    · exact fun _ => CE.out _ R2.out.run
    clear hK K' hHeld
    try simp only [Act.put, List.setIfInBounds_toArray, List.set_cons_zero, List.set_cons_succ]
    refine wpAnyC_one (i := 10) (oi := ?o11) ?hi11 (by kernel_rfl) ?step11
    case hi11 => (simp only [List.getElem?_toArray, List.getElem?_cons_zero, List.getElem?_cons_succ]; exact rfl)
    intro K' hK
    go_simp
    refine hK.out _ _ ?_ (fun hHeld => ?_)
    · exact fun h => (by cases h)
    clear hK K' hHeld
    try simp only [Act.put, List.setIfInBounds_toArray, List.set_cons_zero, List.set_cons_succ]
    refine wpAnyC_done (by kernel_rfl) ?_ _
    clear fz7 cc7 CE FZ H9d H9a RW
    have H10 : Hid (WRun w0 (w10.setCell ⟨Lb, 2, none⟩ (.slice A7 (q + 1) c7)) T Lb s6 (ldL1 s l f) ((X, .cells #[.int .i64 f, .int .i64 (sz : Int)] 70 (0, 0)) :: (newG w4 w5 ++ G)) A7 c7 ra rc) := Lib.hid (by
      have h2 := WRun2.take R2.out (by rw [← EL1.out]; exact hi1)
      rw [← EL1.out] at h2
      have e : (l.segs ++ [(f, (sz : Int))]).length = q + 1 := by rw [List.length_append, HQ.out]; rfl
      rw [e] at h2
      exact h2)
    generalize w10.setCell ⟨Lb, 2, none⟩ (.slice A7 (q + 1) c7) = w11 at *
    clear R2
    obtain ⟨o1, O, hp, hq, f1, f2, f3, f4, f5⟩ := WRun.adopt H10.out (w4 := w4) (w5 := w5) (G' := G) (fun k h1 o h2 => List.mem_cons_of_mem _ (List.mem_append_left _ (newG_mem.2 ⟨h1, h2⟩))) (fun g hg => ⟨List.mem_cons_of_mem _ (List.mem_append_right _ hg), .inl (GL.out g hg)⟩) W04.out
    obtain ⟨vs, hvl, hrw, hro, hv⟩ := hq.recs
    obtain ⟨us, hul, how, huv⟩ := OR5.out
    have SRC : Hid (OwnP w11 w4.heap.size 40 A5 c5 us) := Lib.hid (how.keep fun a ha => by subst ha; exact (f5 _ how.lt.1 how.lt.2).2)
    have ONE : Hid (∀ u ∈ flat2 us, u.oneCell' = true) := Lib.hid fun u hu => by
      obtain ⟨i, hi, hui⟩ := flat2_mem us u hu
      obtain ⟨g1, Ab, cb, g2, _⟩ := huv i (by rw [← hul]; exact hi)
      rcases hui with rfl | rfl
      · rw [g1]; rfl
      · rw [g2]; rfl
    have HUV : Hid (∀ i, i < rs.length → RecO w11 O (us.getD i (undef, undef)) (rs.getD i (0, []))) := Lib.hid fun i hi => by
      obtain ⟨g1, Ab, cb, g2, g3⟩ := huv i hi
      exact ⟨g1, Ab, cb, g2, (g3.low (Nat.zero_le _)).keep fun a ha => by subst ha; exact (f5 _ g3.lt.1 g3.lt.2).2, fun a ha => by subst ha; exact (f5 _ g3.lt.1 g3.lt.2).1⟩
    obtain ⟨p1, hp1⟩ : ∃ p1, p1 = l.recs.length := ⟨_, rfl⟩
    have HVL : Hid (vs.length = p1) := Lib.hid (hvl.trans hp1.symm)
    have HVL2 := Lib.hid hvl
    have HUL := Lib.hid hul
    have HRW := Lib.hid hrw
    have HRO := Lib.hid hro
    have HV := Lib.hid hv
    have HP := Lib.hid hp
    have HQ2 := Lib.hid hq
    have F1 := Lib.hid f1
    have F2 := Lib.hid f2
    have F3 := Lib.hid f3
    have F4 := Lib.hid f4
    have P1 := Lib.hid hp1
    obtain ⟨⟨c0, c1, c2, c3', c4⟩, z0, z1, z2, z3, z4⟩ := obj5 hq.obj
    have CNT : Hid (vs.length + us.length ≤ 1000000000) := Lib.hid (by
      have e1 := hi2.count
      rw [EL.out] at e1
      simp only [List.length_append] at e1
      rw [hvl, hul]
      show l.recs.length + rs.length ≤ _
      omega)
    have hc3 : w11.cell? ⟨Lb, 3, none⟩ = some (.slice ra p1 rc) := by rw [hp1]; exact c3'
    clear hvl hul hrw hro hv how huv hp hq f1 f2 f3 f4 f5 c0 c1 c2 c3' c4 z0 z1 z2 z4 hp1 OR5
    go_upto_region 11 with (at_builtin; refine wp_appPn rfl (.tmp 61) (.tmp 62) rfl Tryz.underlying29 rec_info rfl (by decide) rfl HVL.out.symm HRW.out (Nat.zero_le _) rfl HUL.out.symm SRC.out ONE.out CNT.out (r := p1 + rs.length) (by rw [HVL.out, HUL.out]) ?_; intro A8 c8 w12 o8 g8 k8; have E8 : Hid (w12.heap[Lb]? = w11.heap[Lb]?) := Lib.hid (g8.block Lb (HQ2.out.lt _ HQ2.out.ownL) (by cases ra with | none => simp [Value.ownBlock] | some a => simp [Value.ownBlock]; obtain ⟨cur, hcur⟩ := wal_block HRW.out; exact fun e => type_ne hcur HQ2.out.obj (by decide) e.symm)); have O8 := Lib.hid o8; have G8 := Lib.hid g8; have K8 := Lib.hid k8; clear o8 g8 k8; have fz8 : w12.frozen? ⟨Lb, 3, none⟩ = false := (World.frozen?_of_block E8.out).trans z3; have cc8 : w12.cell? ⟨Lb, 3, none⟩ = some (.slice ra p1 rc) := (World.cell?_of_block E8.out).trans hc3)
    have NEW := LM.push_recs HQ2.out HVL2.out HV.out HUL.out HUV.out O8.out G8.out K8.out HRO.out HRW.out (by have := hi2; rw [EL.out] at this; exact this)
    have FIN : Hid (WRun w0 (w12.setCell ⟨Lb, 3, none⟩ (.slice A8 (p1 + rs.length) c8)) T Lb s6 (ldL s l f) G A7 c7 A8 c8) := Lib.hid (by
      rw [EL.out, P1.out]
      exact w_log1 HP.out HQ2.out F1.out F2.out F3.out F4.out NEW)
    clear NEW fz8 cc8 z3 hc3
    go_wp2
    go_ret2
    refine ⟨ret_bi (x := ((sz : Int) == (zn : Int))) (by rw [Bool.eq_iff_iff, beq_iff_eq, decide_eq_true_iff, SZE.out]; exact Int.ofNat_inj) EE6.out.symm, Lib.hid ⟨A7, c7, A8, c8, ?_⟩⟩
    rw [ES6.out]
    exact FIN.out
end Go.Proofs.YtdbhicifjljjnaaGreatDoor
