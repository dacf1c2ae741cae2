/-
  Part 31 of the texts behind the law: WalOpen, WalBegun, WalFit, WalLive, WalSure, WalPicks, WalReopen, WalBack, WalAwake, WalRecX, WalCutP.
-/
import Derived.Test.YtdbhicifjljjnaaGreatDoorMf27
import Derived.Test.YtdbhicifjljjnaaGreatDoorMf24
import Derived.Test.YtdbhicifjljjnaaGreatDoorMf30
import Derived.Test.YtdbhicifjljjnaaGreatDoorMf13
import Derived.Test.YtdbhicifjljjnaaGreatDoorMf26
import Derived.Test.YtdbhicifjljjnaaGreatDoorMf14
import Derived.Test.YtdbhicifjljjnaaGreatDoorMf10
/-
  Open: a log on a store that has power: what it reads, what it removes, and that the rest is durable.
-/
namespace Go.Proofs.YtdbhicifjljjnaaGreatDoor
open Go.RowKit St
/-- A store in memory beside guests. -/
def SRun (w0 w : World) (T : Nat) (s : S) (G : List (Nat × Obj)) : Prop := ∃ o1, PState w T o1 s ∧ (∀ k, o1 k → w0.heap.size ≤ k) ∧ Below w0.heap.size w0 w ∧ ∀ g ∈ G, w.heap[g.1]? = some g.2 ∧ ¬ o1 g.1
theorem WRun.srun {w0 w : World} {T Lb : Nat} {s : S} {l : Wl.L} {G : List (Nat × Obj)} {sa : Option Addr} {sc : Nat} {ra : Option Addr} {rc : Nat} (h : WRun w0 w T Lb s l G sa sc ra rc) : SRun w0 w T s G := by
  obtain ⟨o1, O, p, q, h1, h2, h3, h4⟩ := h
  exact ⟨o1, p, fun k hk => (h1 k hk).1, h3, fun g hg => ⟨(h4 g hg).1, (h4 g hg).2.1⟩⟩
theorem Run.srun {w0 w : World} {T : Nat} {s : S} (h : Run w0 w T s) : SRun w0 w T s [] := by
  obtain ⟨o1, p, h1, h2⟩ := h
  exact ⟨o1, p, h1, h2, fun g hg => by cases hg⟩
def newL (most : Int) : Wl.L := ⟨most, [], [], 0⟩
theorem newL_inv (most : Int) (h0 : 64 ≤ most) (h1 : most ≤ 1048576) : Wl.Inv (newL most) :=
  ⟨⟨h0, h1⟩, (fun g hg => by cases hg), (fun g hg => by cases hg), by simp [newL], by simp [newL], (fun r hr => by cases hr), (fun r hr => by cases hr), fun _ => rfl, by simp [newL]⟩
theorem SRun.log {w0 w : World} {T : Nat} {s : S} {G : List (Nat × Obj)} (h : SRun w0 w T s G) (most : Int) (m0 : 64 ≤ most) (m1 : most ≤ 1048576) :
    WRun w0 (w.alloc (.cells #[.pointer (some ⟨T, 0, none⟩), .int .i64 most, .slice none 0 0, .slice none 0 0, .int .i64 0] 57)) T w.heap.size s (newL most) G none 0 none 0 := by
  obtain ⟨o1, p, h1, h2, h3⟩ := h
  have hb : Below w.heap.size w (w.alloc (.cells #[.pointer (some ⟨T, 0, none⟩), .int .i64 most, .slice none 0 0, .slice none 0 0, .int .i64 0] 57)) := (Below.refl _ _).alloc (Nat.le_refl _) _
  refine ⟨o1, fun k => k = w.heap.size, p.grow hb, ⟨heap_alloc_new .., OwnP.none_ _ _ _, ⟨[], rfl, OwnP.none_ _ _ _, (fun a ha => by cases ha), (fun i hi => by cases hi)⟩, rfl, (fun a ha => by cases ha), (fun k hk => by have e : k = w.heap.size := hk; subst e; simp), newL_inv most m0 m1⟩, (fun k hk => ⟨h1 k hk, fun e => by have e2 : k = w.heap.size := e; have := p.lt k hk; omega⟩), (fun k hk => by have e : k = w.heap.size := hk; subst e; exact h2.size), h2.trans (hb.mono h2.size), fun g hg => ?_⟩
  obtain ⟨g1, g2⟩ := h3 g hg
  exact ⟨(hb.block _ (w_some_lt g1)).trans g1, g2, fun e => by have e2 : g.1 = w.heap.size := e; have := w_some_lt g1; omega⟩
theorem OwnL.nums {w : World} {base : Nat} {A : Option Addr} {cap : Nat} {zs : List Int} (h : OwnL w base A cap zs) (hr : ∀ i, i < zs.length → -9223372036854775808 ≤ zs.getD i 0 ∧ zs.getD i 0 ≤ 9223372036854775807) : Nums w w.heap.size A zs := by
  refine ⟨hr, fun hn => ?_⟩
  obtain ⟨g, rfl, hg, _⟩ := h.cell hn
  refine ⟨g, 0, rfl, hg.out, fun i hi => ?_⟩
  obtain ⟨g', e, _, hc⟩ := h.cell hi
  injection e with e
  injection e with e
  subst e
  rw [Nat.zero_add]
  exact hc
theorem names_w {w0 w : World} {T Lb : Nat} {s : S} {l : Wl.L} {G : List (Nat × Obj)} {sa : Option Addr} {sc : Nat} {ra : Option Addr} {rc : Nat} (h : WRun w0 w T Lb s l G sa sc ra rc) : Calls Tryz.prog 34 #[.pointer (some ⟨T, 0, none⟩)] w (NamesPost w s.fs) := by
  obtain ⟨o1, O, p, _⟩ := h
  exact names_any T o1 s w p
theorem OwnL.cap_ {w : World} {base : Nat} {A : Option Addr} {cap : Nat} {zs : List Int} (h : OwnL w base A cap zs) : zs.length ≤ cap := by
  rcases h.2 with ⟨e, e0⟩ | ⟨g, c', cur, e, _, _, hle, _⟩
  · omega
  · injection e with e1 e2 e3; omega
def namesV (s : S) : List ByteArray := (s.fs.map F.nm).map mkB
def opR (s : S) (most : Int) : S × Wl.L × List Int := loadF (pickV (namesV s)) s (newL most) true
def opS1 (s : S) (most : Int) : S := dropF (opR s most).2.2 (opR s most).1
def opL1 (s : S) (most : Int) : Wl.L := (opR s most).2.1
def opS (s : S) (most : Int) : S := syncS (opL1 s most).segs (opS1 s most)
def opL (s : S) (most : Int) : Wl.L := { opL1 s most with sure := Wl.endV (opL1 s most) }
/-- Nothing fails while the log is opened. -/
structure OpOk (s : S) (most : Int) : Prop where
  m0 : 64 ≤ most
  m1 : most ≤ 1048576
  on : s.off = false
  few : (namesV s).length ≤ 1000000
  short : ∀ k, k < (namesV s).length → ((namesV s).getD k ByteArray.empty).size ≤ 281474976710656
  rng : ∀ i, i < (pickV (namesV s)).length → -9223372036854775808 ≤ (pickV (namesV s)).getD i 0 ∧ (pickV (namesV s)).getD i 0 ≤ 9223372036854775807
  picks : (pickV (namesV s)).length ≤ 1000000
  load : okF (pickV (namesV s)) s (newL most) true
  drop : okD (opR s most).2.2 (opR s most).1
  sync : syncE (opL1 s most).segs (opS1 s most) = 0
def OpenPost (w0 : World) (T : Nat) (s : S) (most : Int) (G : List (Nat × Obj)) (e : Ending) (w' : World) : Prop :=
  ∃ Lb, e = .returned (.tuple #[.pointer (some ⟨Lb, 0, none⟩), .int .i64 0]) ∧ Hid (∃ sa sc ra rc, WRun w0 w' T Lb (opS s most) (opL s most) G sa sc ra rc)
set_option maxRecDepth 20000 in
set_option maxHeartbeats 8000000 in
theorem open_any {w0 w : World} {T : Nat} {s : S} {G : List (Nat × Obj)} (h : SRun w0 w T s G) (hF : Facts w0) (most : Int) (ok : OpOk s most) :
    Calls Tryz.prog 16 #[.pointer (some ⟨T, 0, none⟩), .int .i64 most] w (OpenPost w0 T s most G) := by
  have HF := Lib.hid hF
  have m0 := ok.m0
  have m1 := ok.m1
  have OF : Hid (Calls Tryz.prog 11 #[.pointer (some ⟨T, 0, none⟩)] w fun e w' => e = .returned (.bool false) ∧ w = w') := Lib.hid (by obtain ⟨o1, p, _⟩ := h; have := off_any T o1 s w p; rw [ok.on] at this; exact this)
  have HL := Lib.hid (SRun.log h most m0 m1)
  have OK := Lib.hid ok
  obtain ⟨W1, hW1⟩ : ∃ W, W = w.alloc (.cells #[.pointer (some ⟨T, 0, none⟩), .int .i64 most, .slice none 0 0, .slice none 0 0, .int .i64 0] 57) := ⟨_, rfl⟩
  obtain ⟨Lb, hLb⟩ : ∃ Lb, Lb = w.heap.size := ⟨_, rfl⟩
  rw [← hW1, ← hLb] at HL
  clear h hF ok
  go_enter Tryz.func16, Tryz.ntmps16
  go_wp2_with fail
  (with_reducible refine OF.out.mono ?_); rintro e w' ⟨rfl, rfl⟩
  go_wp2_with fail
  rw [← hW1, ← hLb]
  clear hW1 hLb
  have NS := Lib.hid (names_w HL.out)
  (with_reducible refine NS.out.mono ?_); rintro e w2 ⟨A2, c2, ns, hns, rfl, o2, b2⟩
  have H2 := Lib.hid (WRun.grow HL.out b2)
  have ENS : Hid (ns = namesV s) := hns
  have PK : Hid (Calls Tryz.prog 37 #[.slice A2 ns.length c2] w2 (PickPost w2 ns)) := Lib.hid (pick_any A2 ns c2 (by rw [ENS.out]; exact OK.out.few) w2 o2 (by rw [ENS.out]; exact OK.out.short) (HF.out.below (WRun.below H2.out)))
  clear o2 b2 NS hns HL
  go_wp2_with fail
  (with_reducible refine PK.out.mono ?_); rintro e w3 ⟨A3, c3, ps, hps, rfl, o3, b3⟩
  have H3 := Lib.hid (WRun.news H2.out b3.out)
  have EPS : Hid (ps = pickV (namesV s)) := Lib.hid (by rw [hps.out, ENS.out])
  have RG : Hid (∀ i, i < ps.length → -9223372036854775808 ≤ ps.getD i 0 ∧ ps.getD i 0 ≤ 9223372036854775807) := Lib.hid (by rw [EPS.out]; exact OK.out.rng)
  have HA : Hid (∀ W s l sa sc ra rc, WRun w0 W T Lb s l (newG w2 w3 ++ G) sa sc ra rc → Nums W W.heap.size A3 ps) := Lib.hid fun W s l sa sc ra rc hW => OwnL.nums (o3.out.keep fun a ha => by
    subst ha
    exact WRun.kept hW (fun k h1 o h2 => List.mem_append_left _ (newG_mem.2 ⟨h1, h2⟩)) o3.out.lt.1 o3.out.lt.2) RG.out
  have LD := Lib.hid (load_any H3.out HF.out A3 ps.length c3 ps rfl o3.out.cap_ (by rw [EPS.out]; exact OK.out.picks) HA.out (by rw [EPS.out]; exact OK.out.load) (by rw [EPS.out]; exact OK.out.drop))
  rw [EPS.out] at LD
  rw [EPS.out]
  clear PK o3 b3 hps HA RG H2
  go_wp2_with fail
  (with_reducible refine LD.out.mono ?_); rintro e w4 ⟨rfl, H4⟩
  obtain ⟨sa4, sc4, ra4, rc4, h4⟩ := H4.out
  have H5 : Hid (WRun w0 w4 T Lb (opS1 s most) (opL1 s most) G sa4 sc4 ra4 rc4) := Lib.hid (WRun.fewer h4 fun g hg => List.mem_append_right _ hg)
  have E2 : Hid (opL s most = { opL1 s most with sure := Wl.endV (opL1 s most) }) := Lib.hid rfl
  have E1 : Hid (opS s most = syncS (opL1 s most).segs (opS1 s most)) := Lib.hid rfl
  have SYE := Lib.hid OK.out.sync
  clear H4 h4 H3 LD OK ENS EPS
  unfold OpenPost
  generalize opS1 s most = s1 at *
  generalize opL1 s most = l1 at *
  generalize hs9 : opS s most = s9 at *
  generalize hl9 : opL s most = l9 at *
  have HS9 := Lib.hid hs9
  have HL9 := Lib.hid hl9
  clear hs9 hl9
  obtain ⟨q, hq⟩ : ∃ q, q = l1.segs.length := ⟨_, rfl⟩
  have SA := Lib.hid (syncAll_any H5.out HF.out 0 q sc4 sa4 (by omega) (fun h0 => by
    obtain ⟨g, e, _⟩ := seg_w H5.out (i := 0) (by omega)
    exact ⟨g, e, by rw [Nat.zero_mul]; exact e⟩))
  rw [List.drop_zero, SYE.out, ← E1.out] at SA
  obtain ⟨⟨d0, d1, d2, d3, d4⟩, _⟩ := obj5 (obj_w H5.out)
  rw [← hq] at d2
  clear hq
  go_wp2_with fail
  (with_reducible refine SA.out.mono ?_); rintro e w5 ⟨rfl, H6⟩
  clear d0 d1 d2 d3 d4
  obtain ⟨⟨g0, g1, g2, g3, g4⟩, _, _, _, _, z4⟩ := obj5 (obj_w H6.out)
  have EN := Lib.hid (end_w H6.out)
  go_wp2_with fail
  (with_reducible refine EN.out.mono ?_); rintro e w6 ⟨rfl, t, rfl⟩
  have H7 := Lib.hid (WRun.draw H6.out t)
  have IE := Lib.hid (H6.out.inv.2.end_)
  have H8 : Hid (WRun w0 ((w5.drewN t).setCell ⟨Lb, 4, none⟩ (.int .i64 (Wl.endV l1))) T Lb s9 { l1 with sure := Wl.endV l1 } G sa4 sc4 ra4 rc4) := Lib.hid (w_log H7.out fun O hO q => ⟨O, q.sured _ IE.out.1 (by have := IE.out.2; omega), Only.set O 4 _ _ q.ownL, fun _ h => .inl h⟩)
  go_wp2
  go_ret2
  exact ⟨Lb, rfl, Lib.hid ⟨sa4, sc4, ra4, rc4, by rw [HS9.out, HL9.out, E2.out]; exact H8.out⟩⟩
end Go.Proofs.YtdbhicifjljjnaaGreatDoor
/-
  begun: a new store and a log on it.
-/
namespace Go.Proofs.YtdbhicifjljjnaaGreatDoor
open Go.RowKit St
def st0 : S := ⟨65536, [], false, 0, []⟩
theorem names0 : namesV st0 = [] := rfl
theorem pick0 : pickV (namesV st0) = [] := by
  rw [names0]
  unfold pickV
  simp [sorted, Lib.compactUpTo]
theorem opR0 (most : Int) : opR st0 most = (st0, newL most, []) := by unfold opR; rw [pick0]; rfl
theorem opS0 (most : Int) : opS st0 most = st0 := by unfold opS opL1 opS1; rw [opR0]; rfl
theorem opL0 (most : Int) : opL st0 most = newL most := by unfold opL opL1; rw [opR0]; rfl
theorem ok0 (most : Int) (m0 : 64 ≤ most) (m1 : most ≤ 1048576) : OpOk st0 most where
  m0 := m0
  m1 := m1
  on := rfl
  few := by rw [names0]; decide
  short := by rw [names0]; intro k hk; cases hk
  rng := by rw [pick0]; intro k hk; cases hk
  picks := by rw [pick0]; decide
  load := by rw [pick0]; trivial
  drop := by rw [opR0]; trivial
  sync := by unfold opL1 opS1; rw [opR0]; rfl
def BegunPost (w0 : World) (most : Int) (e : Ending) (w' : World) : Prop :=
  ∃ Lb T, e = .returned (.tuple #[.pointer (some ⟨Lb, 0, none⟩), .pointer (some ⟨T, 0, none⟩)]) ∧ Hid (∃ sa sc ra rc, WRun w0 w' T Lb st0 (newL most) [] sa sc ra rc)
set_option maxRecDepth 20000 in
set_option maxHeartbeats 2000000 in
theorem begun_any {w0 w : World} (hb : Below w0.heap.size w0 w) (hF : Facts w0) (most : Int) (m0 : 64 ≤ most) (m1 : most ≤ 1048576) :
    Calls Tryz.prog 7 #[.int .i64 most] w (BegunPost w0 most) := by
  have NR := Lib.hid (new_run 65536 65536 rfl (by decide) (by decide) w0 w hb)
  have HF := Lib.hid hF
  have OK := Lib.hid (ok0 most m0 m1)
  go_enter Tryz.func7, Tryz.ntmps7
  clear hb hF
  go_wp2_with fail
  (with_reducible refine NR.out.mono ?_); rintro e w1 ⟨T, rfl, H1⟩
  have HO := Lib.hid (open_any (Run.srun H1.out) HF.out most OK.out)
  clear NR OK
  go_wp2_with fail
  (with_reducible refine HO.out.mono ?_); rintro e w2 ⟨Lb, rfl, H2⟩
  clear HO H1
  go_wp2
  go_ret2
  refine ⟨Lb, T, rfl, Lib.hid ?_⟩
  have h := H2.out
  rw [show (⟨65536, [], false, 0, []⟩ : S) = st0 from rfl, opS0, opL0] at h
  exact h
end Go.Proofs.YtdbhicifjljjnaaGreatDoor
/-
  The plain side of a log and its store: the store's files are the log's segments, and hold the frames of their records.
-/
namespace Go.Proofs.YtdbhicifjljjnaaGreatDoor
open Go.RowKit St
theorem before_less : ∀ (a b : List UInt8), bytesBefore a b = Op.bytesLess a b
  | [], [] => rfl
  | [], _ :: _ => rfl
  | _ :: _, [] => rfl
  | a :: r, b :: s => by
    have ih := before_less r s
    simp only [bytesBefore, Op.bytesLess, ih]
theorem nm_before {f g : Int} (f0 : 0 ≤ f) (hfg : f < g) (g1 : g ≤ 17592186044415) : bytesBefore (nmS f) (nmS g) = true := by
  have h := Sg.name_lt ((Sg.inO_iff f).2 ⟨f0, by omega⟩) ((Sg.inO_iff g).2 ⟨by omega, g1⟩)
  rw [show decide (f < g) = true from decide_eq_true hfg] at h
  rw [Lib.toList_data, Lib.toList_data] at h
  rw [before_less]
  exact h
/-- A segment's records, and how many of its bytes are durable. -/
abbrev Part := List Fr.Rc × Nat
def codeV (rs : List Fr.Rc) : List Int := (rs.map fun r => Fr.putV r.1 r.2).flatten
theorem codeV_snoc (rs : List Fr.Rc) (r : Fr.Rc) : codeV (rs ++ [r]) = codeV rs ++ Fr.putV r.1 r.2 := by unfold codeV; simp
def cntP : List Part → Nat
  | [] => 0
  | p :: r => p.1.length + cntP r
theorem cntP_snoc (P : List Part) (p : Part) : cntP (P ++ [p]) = cntP P + p.1.length := by
  induction P with
  | nil => simp [cntP]
  | cons q r ih => show q.1.length + cntP (r ++ [p]) = q.1.length + cntP r + p.1.length; rw [ih]; omega
def filesV : Int → List Part → List F
  | _, [] => []
  | f, p :: r => ⟨nmS f, codeV p.1, p.2⟩ :: filesV (f + p.1.length) r
def segsV : Int → List Part → List (Int × Int)
  | _, [] => []
  | f, p :: r => (f, ((codeV p.1).length : Int)) :: segsV (f + p.1.length) r
theorem filesV_snoc : ∀ (f : Int) (P : List Part) (p : Part), filesV f (P ++ [p]) = filesV f P ++ [⟨nmS (f + cntP P), codeV p.1, p.2⟩]
  | f, [], p => by simp [filesV, cntP]
  | f, q :: r, p => by
    show _ :: filesV _ (r ++ [p]) = _
    rw [filesV_snoc _ r p]
    show _ = _ :: (filesV _ r ++ _)
    rw [show f + (cntP (q :: r) : Nat) = f + (q.1.length : Int) + (cntP r : Int) from by show f + ((q.1.length + cntP r : Nat) : Int) = _; omega]
theorem segsV_snoc : ∀ (f : Int) (P : List Part) (p : Part), segsV f (P ++ [p]) = segsV f P ++ [(f + cntP P, ((codeV p.1).length : Int))]
  | f, [], p => by simp [segsV, cntP]
  | f, q :: r, p => by
    show _ :: segsV _ (r ++ [p]) = _
    rw [segsV_snoc _ r p]
    show _ = _ :: (segsV _ r ++ _)
    rw [show f + (cntP (q :: r) : Nat) = f + (q.1.length : Int) + (cntP r : Int) from by show f + ((q.1.length + cntP r : Nat) : Int) = _; omega]
theorem filesV_len : ∀ (f : Int) (P : List Part), (filesV f P).length = P.length
  | _, [] => rfl
  | f, q :: r => by show (filesV _ r).length + 1 = r.length + 1; rw [filesV_len _ r]
theorem segsV_len : ∀ (f : Int) (P : List Part), (segsV f P).length = P.length
  | _, [] => rfl
  | f, q :: r => by show (segsV _ r).length + 1 = r.length + 1; rw [segsV_len _ r]
/-- The files' names stand ahead of the next segment's. -/
theorem filesV_before : ∀ (f : Int) (P : List Part) (g : Int), 0 ≤ f → (∀ p ∈ P, p.1 ≠ []) → f + cntP P ≤ g → g ≤ 17592186044415 → ∀ x ∈ filesV f P, bytesBefore x.nm (nmS g) = true
  | _, [], _, _, _, _, _ => fun x hx => by cases hx
  | f, q :: r, g, f0, hne, hg, g1 => fun x hx => by
    have hq : 0 < q.1.length := List.length_pos_iff.2 (hne q (by simp))
    have e : (cntP (q :: r) : Int) = (q.1.length : Int) + cntP r := by show ((q.1.length + cntP r : Nat) : Int) = _; omega
    rcases List.mem_cons.1 hx with rfl | hx
    · exact nm_before f0 (by omega) g1
    · exact filesV_before (f + q.1.length) r g (by omega) (fun p hp => hne p (by simp [hp])) (by omega) g1 x hx
theorem find_absent {nm : List UInt8} {l : List F} (h : ∀ g ∈ l, bytesBefore g.nm nm = true) : find nm l = none := by
  cases e : find nm l with
  | none => rfl
  | some f => have := find_some e; exact absurd this.2 (before_ne (h f this.1))
theorem put_end {f : F} {l : List F} (h : ∀ g ∈ l, bytesBefore g.nm f.nm = true) : put f l = l ++ [f] := by
  unfold put
  rw [del_none (find_absent h)]
  have := ins_mid (f := f) (pre := l) (r := []) h (fun g hg => by cases hg)
  rwa [List.append_nil] at this
theorem ne_snoc {P : List Part} {p : Part} (h : ∀ q ∈ P, q.1 ≠ []) : ∀ q ∈ (P ++ [p]).dropLast, q.1 ≠ [] := by rw [List.dropLast_concat]; exact h
theorem ne_tail {p : Part} {r : List Part} (h : ∀ q ∈ (p :: r).dropLast, q.1 ≠ []) : (r ≠ [] → p.1 ≠ []) ∧ ∀ q ∈ r.dropLast, q.1 ≠ [] := by
  cases r with
  | nil => exact ⟨fun hr => absurd rfl hr, fun q hq => by cases hq⟩
  | cons a t => exact ⟨fun _ => h p (by simp), fun q hq => h q (by simp only [List.dropLast_cons_cons, List.mem_cons] at hq ⊢; exact .inr hq)⟩
theorem ne_all {P : List Part} {f : Int} (h : ∀ q ∈ P.dropLast, q.1 ≠ []) (hl : P = [] ∨ 0 < (lastG (segsV f P)).2) : ∀ q ∈ P, q.1 ≠ [] := by
  rcases List.eq_nil_or_concat P with e | ⟨a, b, e⟩
  · subst e; intro q hq; cases hq
  · rw [List.concat_eq_append] at e
    subst e
    rw [List.dropLast_concat] at h
    intro q hq
    rcases List.mem_append.1 hq with hq | hq
    · exact h q hq
    · rw [List.mem_singleton.1 hq]
      rcases hl with hl | hl
      · simp at hl
      · rw [segsV_snoc, last_app] at hl
        intro hb
        rw [hb] at hl
        simp [codeV] at hl
/-- The store's files are the log's segments, from the offset f. -/
structure Fit (s : S) (l : Wl.L) (f : Int) (P : List Part) : Prop where
  fs : s.fs = filesV f P
  segs : l.segs = segsV f P
  recs : l.recs = (P.map (·.1)).flatten
  ne : ∀ p ∈ P.dropLast, p.1 ≠ []
  f0 : 0 ≤ f
theorem cnt_flat (P : List Part) : (P.map (·.1)).flatten.length = cntP P := by
  induction P with
  | nil => rfl
  | cons q r ih => show (q.1 ++ (r.map (·.1)).flatten).length = q.1.length + cntP r; rw [List.length_append, ih]
theorem Fit.first {s : S} {l : Wl.L} {f : Int} {P : List Part} (h : Fit s l f P) (hP : P ≠ []) : Wl.firstV l = f := by
  unfold Wl.firstV
  rw [h.segs]
  cases P with
  | nil => exact absurd rfl hP
  | cons q r => rfl
theorem Fit.end_ {s : S} {l : Wl.L} {f : Int} {P : List Part} (h : Fit s l f P) (hP : P ≠ []) : Wl.endV l = f + cntP P := by
  unfold Wl.endV
  rw [h.first hP, h.recs, cnt_flat]
theorem segsV_last (f : Int) (P : List Part) (p : Part) : lastG (segsV f (P ++ [p])) = (f + cntP P, ((codeV p.1).length : Int)) := by rw [segsV_snoc, last_app]
/-- Power, no fuse, room and a file to spare. -/
structure Room (s : S) (n : Nat) : Prop where
  on : s.off = false
  fuse : s.fuse = 0
  fits : total s.fs + n ≤ s.room
  count : s.fs.length < 64
theorem Room.app {s : S} {n : Nat} (h : Room s n) (f : Int) : appE s (nmS f) n = 0 := by
  have hc : chk s [nmS f] = 0 := by
    unfold chk
    rw [h.on]
    have := good_name f
    simp [nmS, this]
  unfold appE
  rw [if_neg (by rw [hc]; simp), if_neg]
  rintro (h1 | ⟨_, h1⟩)
  · have := h.fits; omega
  · have := h.count; omega
theorem Room.act {s : S} {n : Nat} (h : Room s n) : actE s 0 = 0 := by
  unfold actE
  rw [if_neg (by simp), if_neg (by rw [h.fuse]; decide)]
theorem Room.actS {s : S} {n : Nat} (h : Room s n) (l : List F) : actS s 0 l = { s with fs := l } := by
  unfold St.actS
  rw [if_neg (by simp), if_neg (by rw [h.fuse]; decide), h.fuse]
/-- A record written into a new segment. -/
theorem Fit.write_new {s : S} {l : Wl.L} {f : Int} {P : List Part} (h : Fit s l f P) (r : Fr.Rc) (hn : l.segs.length = 0 ∨ l.most ≤ (lastG l.segs).2) (hr : Room s (Fr.putV r.1 r.2).length) (h1 : f + cntP P ≤ 17592186044415) (hm : 0 < l.most) :
    writeE s l (f + cntP P) (Fr.putV r.1 r.2) = 0 ∧ Fit (writeS s l (f + cntP P) (Fr.putV r.1 r.2)) (pushL (writeL s l (f + cntP P) (Fr.putV r.1 r.2)) r) f (P ++ [([r], 0)])
      ∧ writeS s l (f + cntP P) (Fr.putV r.1 r.2) = { s with fs := filesV f (P ++ [([r], 0)]) } := by
  have hg : wrG l (f + cntP P) = l.segs ++ [(f + (cntP P : Int), 0)] := if_pos hn
  have hl : lastG (wrG l (f + cntP P)) = (f + (cntP P : Int), 0) := by rw [hg, last_app]
  have hE : writeE s l (f + cntP P) (Fr.putV r.1 r.2) = 0 := by unfold writeE; rw [hr.app]; exact hr.act
  have hall : ∀ p ∈ P, p.1 ≠ [] := by
    refine ne_all (f := f) h.ne ?_
    rcases hn with hn | hn
    · left
      rw [h.segs, segsV_len] at hn
      exact List.eq_nil_of_length_eq_zero hn
    · right
      rw [← h.segs]; omega
  have hb := filesV_before f P (f + cntP P) h.f0 hall (Int.le_refl _) h1
  have hS : writeS s l (f + cntP P) (Fr.putV r.1 r.2) = { s with fs := filesV f (P ++ [([r], 0)]) } := by
    unfold writeS
    rw [hr.app, hr.actS, hl]
    unfold appL
    have hfn : find (nmS (f + cntP P)) s.fs = none := by rw [h.fs]; exact find_absent hb
    rw [file_none hfn, h.fs, put_end (by exact hb), filesV_snoc]
    simp [codeV]
  refine ⟨hE, ⟨by rw [hS], ?_, ?_, ?_, h.f0⟩, hS⟩
  · unfold pushL writeL
    rw [if_pos hE]
    show (wrG l (f + cntP P)).set _ _ = _
    rw [hl, hg, segsV_snoc, h.segs]
    simp [codeV]
  · unfold pushL writeL
    rw [if_pos hE]
    show l.recs ++ [r] = _
    rw [h.recs]; simp
  · exact ne_snoc hall
/-- A record written behind the last segment's. -/
theorem Fit.write_old {s : S} {l : Wl.L} {f : Int} {P : List Part} {p : Part} (h : Fit s l f (P ++ [p])) (hi : St.Inv s) (r : Fr.Rc) (hn : ¬ l.most ≤ (lastG l.segs).2) (hr : Room s (Fr.putV r.1 r.2).length) (off : Int) :
    writeE s l off (Fr.putV r.1 r.2) = 0 ∧ Fit (writeS s l off (Fr.putV r.1 r.2)) (pushL (writeL s l off (Fr.putV r.1 r.2)) r) f (P ++ [(p.1 ++ [r], p.2)])
      ∧ writeS s l off (Fr.putV r.1 r.2) = { s with fs := filesV f (P ++ [(p.1 ++ [r], p.2)]) } := by
  have hlen : l.segs.length ≠ 0 := by rw [h.segs, segsV_len]; simp
  have hg : wrG l off = l.segs := if_neg (by rintro (h1 | h1); exact hlen h1; exact hn h1)
  have hl : lastG (wrG l off) = (f + (cntP P : Int), ((codeV p.1).length : Int)) := by rw [hg, h.segs, segsV_last]
  have hE : writeE s l off (Fr.putV r.1 r.2) = 0 := by unfold writeE; rw [hr.app]; exact hr.act
  have hfs : s.fs = filesV f P ++ [⟨nmS (f + cntP P), codeV p.1, p.2⟩] := by rw [h.fs, filesV_snoc]
  have hs : Sorted (filesV f P ++ [⟨nmS (f + cntP P), codeV p.1, p.2⟩]) := by rw [← hfs]; exact hi.sorted
  have hS : writeS s l off (Fr.putV r.1 r.2) = { s with fs := filesV f (P ++ [(p.1 ++ [r], p.2)]) } := by
    unfold writeS
    rw [hr.app, hr.actS, hl]
    unfold appL
    have hf : find (nmS (f + cntP P)) s.fs = some ⟨nmS (f + cntP P), codeV p.1, p.2⟩ := by
      rw [hfs]; exact find_mem (f := ⟨nmS (f + cntP P), codeV p.1, p.2⟩) hs (by simp)
    rw [(file_mem hf).1, hfs]
    show ({ s with fs := put ⟨nmS (f + cntP P), codeV p.1 ++ Fr.putV r.1 r.2, p.2⟩ _ } : S) = _
    rw [put_mid (f' := ⟨nmS (f + cntP P), codeV p.1 ++ Fr.putV r.1 r.2, p.2⟩) hs rfl, filesV_snoc, codeV_snoc]
  refine ⟨hE, ⟨by rw [hS], ?_, ?_, ?_, h.f0⟩, hS⟩
  · unfold pushL writeL
    rw [if_pos hE]
    show (wrG l off).set _ _ = _
    rw [hl, hg, segsV_snoc, h.segs, segsV_snoc]
    simp [codeV_snoc]
  · unfold pushL writeL
    rw [if_pos hE]
    show l.recs ++ [r] = _
    rw [h.recs]; simp
  · have := h.ne
    rw [List.dropLast_concat] at this ⊢
    exact this
end Go.Proofs.YtdbhicifjljjnaaGreatDoor
/-
  A log that takes its records one after another, with power, room and no fuse.
-/
namespace Go.Proofs.YtdbhicifjljjnaaGreatDoor
open Go.RowKit St
theorem total_files : ∀ (f : Int) (P : List Part), total (filesV f P) = (codeV (P.map (·.1)).flatten).length
  | _, [] => rfl
  | f, p :: r => by
    show (codeV p.1).length + total (filesV _ r) = (codeV (p.1 ++ (r.map (·.1)).flatten)).length
    rw [total_files _ r]
    unfold codeV
    simp
theorem code_len : ∀ (rs : List Fr.Rc), (∀ r ∈ rs, r.2.length ≤ 1024) → (codeV rs).length ≤ 1040 * rs.length
  | [], _ => by simp [codeV]
  | r :: t, h => by
    have ih := code_len t fun x hx => h x (by simp [hx])
    have h1 := h r (by simp)
    have e : codeV (r :: t) = Fr.putV r.1 r.2 ++ codeV t := rfl
    rw [e, List.length_append, Fr.putV_len, List.length_cons]
    omega
theorem segs_bd : ∀ (f : Int) (P : List Part), ∀ g ∈ segsV f P, f ≤ g.1 ∧ g.1 ≤ f + cntP P ∧ 0 ≤ g.2 ∧ g.2 ≤ (total (filesV f P) : Int)
  | _, [] => fun g hg => by cases hg
  | f, p :: r => fun g hg => by
    have e : (cntP (p :: r) : Int) = (p.1.length : Int) + cntP r := by show ((p.1.length + cntP r : Nat) : Int) = _; omega
    have e2 : (total (filesV f (p :: r)) : Int) = ((codeV p.1).length : Int) + total (filesV (f + p.1.length) r) := by show (((codeV p.1).length + total (filesV (f + p.1.length) r) : Nat) : Int) = _; omega
    rcases List.mem_cons.1 hg with rfl | hg
    · refine ⟨Int.le_refl _, ?_, ?_, ?_⟩ <;> simp only <;> omega
    · have := segs_bd (f + p.1.length) r g hg
      omega
theorem part_count : ∀ (P : List Part), (∀ p ∈ P.dropLast, p.1 ≠ []) → P.length ≤ cntP P + 1
  | [], _ => Nat.zero_le _
  | p :: r, h => by
    have ih := part_count r (ne_tail h).2
    show r.length + 1 ≤ p.1.length + cntP r + 1
    by_cases hr : r = []
    · subst hr; simp
    · have := List.length_pos_iff.2 ((ne_tail h).1 hr)
      omega
theorem Fit.linv {s : S} {l : Wl.L} {f : Int} {P : List Part} (h : Fit s l f P) (hf : f + cntP P ≤ 17592186044415) (hc : cntP P ≤ 1000) (hm : 64 ≤ l.most ∧ l.most ≤ 1048576) (ht : total s.fs ≤ 16777216) (ha : ∀ r ∈ l.recs, 0 ≤ r.1 ∧ r.1 < 18446744073709551616) (hp : ∀ r ∈ l.recs, r.2.length ≤ 1024) (hs : 0 ≤ l.sure ∧ l.sure ≤ 17609365913600) : Wl.Inv l := by
  have hb := segs_bd f P
  have h0 := h.f0
  rw [h.fs] at ht
  refine ⟨hm, fun g hg => ?_, fun g hg => ?_, ?_, ?_, ha, hp, fun hn => ?_, hs⟩
  · rw [h.segs] at hg; have := hb g hg; omega
  · rw [h.segs] at hg; have := hb g hg; omega
  · rw [h.recs, cnt_flat]; omega
  · rw [h.segs, segsV_len]; have := part_count P h.ne; omega
  · rw [h.segs] at hn
    have : P = [] := by
      have e := segsV_len f P
      rw [hn] at e
      exact List.eq_nil_of_length_eq_zero e.symm
    rw [h.recs, this]; rfl
theorem inv_unpush {l : Wl.L} {r : Fr.Rc} (h : Wl.Inv (pushL l r)) : Wl.Inv l := by
  refine ⟨h.most, h.first, h.size, ?_, h.segc, fun x hx => h.at_ x (List.mem_append_left _ hx), fun x hx => h.pay x (List.mem_append_left _ hx), fun hn => ?_, h.sure⟩
  · have e := h.count
    have : (pushL l r).recs.length = l.recs.length + 1 := by unfold pushL; simp
    omega
  · have e : l.recs ++ [r] = [] := h.none_ hn
    simp at e
/-- A log from offset 0 on a store with room. -/
structure Live (s : S) (l : Wl.L) (P : List Part) (rs : List Fr.Rc) : Prop where
  fit : Fit s l 0 P
  recs : l.recs = rs
  on : s.off = false
  fuse : s.fuse = 0
  room : s.room = 65536
  pay : ∀ r ∈ rs, r.2.length ≤ 1024
  few : rs.length ≤ 30
theorem Live.cnt {s : S} {l : Wl.L} {P : List Part} {rs : List Fr.Rc} (h : Live s l P rs) : cntP P = rs.length := by rw [← h.recs, h.fit.recs, cnt_flat]
theorem Live.end_ {s : S} {l : Wl.L} {P : List Part} {rs : List Fr.Rc} (h : Live s l P rs) : Wl.endV l = rs.length := by
  by_cases hP : P = []
  · subst hP
    unfold Wl.endV Wl.firstV
    rw [h.fit.segs, h.recs]
    show (0 : Int) + _ = _
    omega
  · rw [h.fit.end_ hP, h.cnt]; omega
theorem Live.tot {s : S} {l : Wl.L} {P : List Part} {rs : List Fr.Rc} (h : Live s l P rs) : total s.fs = (codeV rs).length := by rw [h.fit.fs, total_files, ← h.fit.recs, h.recs]
theorem Live.spare {s : S} {l : Wl.L} {P : List Part} {rs : List Fr.Rc} (h : Live s l P rs) {n : Nat} (hn : n ≤ 1040) : Room s n := by
  have h1 := code_len rs h.pay
  have h2 := h.few
  refine ⟨h.on, h.fuse, by rw [h.tot, h.room]; omega, ?_⟩
  rw [h.fit.fs, filesV_len]
  have := part_count P h.fit.ne
  have := h.cnt
  omega
theorem writeL_most (s : S) (l : Wl.L) (off : Int) (c : List Int) : (writeL s l off c).most = l.most := by unfold writeL; split <;> rfl
theorem writeL_sure (s : S) (l : Wl.L) (off : Int) (c : List Int) : (writeL s l off c).sure = l.sure := by unfold writeL; split <;> rfl
theorem writeL_recs (s : S) (l : Wl.L) (off : Int) (c : List Int) : (writeL s l off c).recs = l.recs := by unfold writeL; split <;> rfl
theorem Live.write {s : S} {l : Wl.L} {P : List Part} {rs : List Fr.Rc} (h : Live s l P rs) (hi : St.Inv s) (hl : Wl.Inv l) (r : Fr.Rc) (ha : 0 ≤ r.1 ∧ r.1 < 18446744073709551616) (hp : r.2.length ≤ 1024) (hfew : rs.length < 30) :
    writeE s l (Wl.endV l) (Fr.putV r.1 r.2) = 0 ∧ Wl.Inv (writeL s l (Wl.endV l) (Fr.putV r.1 r.2)) ∧ Wl.Inv (pushL (writeL s l (Wl.endV l) (Fr.putV r.1 r.2)) r) ∧
      ∃ P', Live (writeS s l (Wl.endV l) (Fr.putV r.1 r.2)) (pushL (writeL s l (Wl.endV l) (Fr.putV r.1 r.2)) r) P' (rs ++ [r]) := by
  have hcl : (Fr.putV r.1 r.2).length ≤ 1040 := by rw [Fr.putV_len]; omega
  have hr := h.spare hcl
  have hkey : ∃ P', writeE s l (Wl.endV l) (Fr.putV r.1 r.2) = 0 ∧ Fit (writeS s l (Wl.endV l) (Fr.putV r.1 r.2)) (pushL (writeL s l (Wl.endV l) (Fr.putV r.1 r.2)) r) 0 P' ∧ writeS s l (Wl.endV l) (Fr.putV r.1 r.2) = { s with fs := filesV 0 P' } := by
    by_cases hn : l.segs.length = 0 ∨ l.most ≤ (lastG l.segs).2
    · have hc := h.cnt
      have he : Wl.endV l = 0 + (cntP P : Int) := by rw [h.end_, hc]; omega
      rw [he]
      exact ⟨_, h.fit.write_new r hn hr (by omega) (by have := hl.most; omega)⟩
    · obtain ⟨P0, p, rfl⟩ : ∃ P0 p, P = P0 ++ [p] := by
        rcases List.eq_nil_or_concat P with e | ⟨a, b, e⟩
        · exfalso; apply hn; left; rw [h.fit.segs, e]; rfl
        · exact ⟨a, b, by rw [e]; simp⟩
      exact ⟨_, h.fit.write_old hi r (fun hh => hn (.inr hh)) hr _⟩
  obtain ⟨P', hE, hF, hS⟩ := hkey
  have hrec : (pushL (writeL s l (Wl.endV l) (Fr.putV r.1 r.2)) r).recs = rs ++ [r] := by show (writeL _ _ _ _).recs ++ [r] = _; rw [writeL_recs, h.recs]
  have hpay : ∀ x ∈ rs ++ [r], x.2.length ≤ 1024 := fun x hx => by
    rcases List.mem_append.1 hx with hx | hx
    · exact h.pay x hx
    · rw [List.mem_singleton.1 hx]; exact hp
  have hL : Live (writeS s l (Wl.endV l) (Fr.putV r.1 r.2)) (pushL (writeL s l (Wl.endV l) (Fr.putV r.1 r.2)) r) P' (rs ++ [r]) :=
    ⟨hF, hrec, by rw [hS]; exact h.on, by rw [hS]; exact h.fuse, by rw [hS]; exact h.room, hpay, by simp; omega⟩
  have hcn := hL.cnt
  rw [List.length_append, List.length_singleton] at hcn
  have hI : Wl.Inv (pushL (writeL s l (Wl.endV l) (Fr.putV r.1 r.2)) r) := by
    refine hF.linv (by omega) (by omega) (by show 64 ≤ (writeL _ _ _ _).most ∧ (writeL _ _ _ _).most ≤ _; rw [writeL_most]; exact hl.most) ?_ ?_ ?_ (by show 0 ≤ (writeL _ _ _ _).sure ∧ (writeL _ _ _ _).sure ≤ _; rw [writeL_sure]; exact hl.sure)
    · rw [hL.tot]
      have := code_len _ hpay
      rw [List.length_append, List.length_singleton] at this
      omega
    · rw [hrec]
      intro x hx
      rcases List.mem_append.1 hx with hx | hx
      · exact hl.at_ x (by rw [h.recs]; exact hx)
      · rw [List.mem_singleton.1 hx]; exact ha
    · rw [hrec]; intro x hx; have := hpay x hx; omega
  exact ⟨hE, inv_unpush hI, hI, P', hL⟩
theorem live0 (most : Int) : Live st0 (newL most) [] [] :=
  ⟨⟨rfl, rfl, rfl, (fun p hp => by cases hp), Int.le_refl _⟩, rfl, rfl, rfl, rfl, (fun r hr => by cases hr), by simp⟩
/-- A live log in memory. -/
def epR (rs : List Fr.Rc) : Int := if rs.length = 0 then 0 else Pl.epochV (rs.getD (rs.length - 1) (0, [])).1
def LiveAt (w0 w : World) (T Lb : Nat) (most : Int) (rs : List Fr.Rc) (su : Int) (G : List (Nat × Obj)) : Prop := ∃ s l P sa sc ra rc, WRun w0 w T Lb s l G sa sc ra rc ∧ Live s l P rs ∧ l.sure = su ∧ l.most = most
theorem LiveAt.of {w0 w : World} {T Lb : Nat} {most : Int} {G : List (Nat × Obj)} {sa : Option Addr} {sc : Nat} {ra : Option Addr} {rc : Nat} (h : WRun w0 w T Lb st0 (newL most) G sa sc ra rc) : LiveAt w0 w T Lb most [] 0 G := ⟨_, _, _, _, _, _, _, h, live0 most, rfl, rfl⟩
theorem LiveAt.join {w0 w w' : World} {T Lb : Nat} {most : Int} {rs : List Fr.Rc} {su : Int} {G : List (Nat × Obj)} (h : LiveAt w0 w T Lb most rs su G) (hb : Below w.heap.size w w') {b : Nat} {o : Obj} (hn : w.heap.size ≤ b) (ho : w'.heap[b]? = some o) : LiveAt w0 w' T Lb most rs su ((b, o) :: G) := by
  obtain ⟨s, l, P, sa, sc, ra, rc, H, L⟩ := h
  exact ⟨s, l, P, sa, sc, ra, rc, H.join hb hn ho, L⟩
theorem LiveAt.fewer {w0 w : World} {T Lb : Nat} {most : Int} {rs : List Fr.Rc} {su : Int} {G G' : List (Nat × Obj)} (h : LiveAt w0 w T Lb most rs su G) (hs : ∀ g ∈ G', g ∈ G) : LiveAt w0 w T Lb most rs su G' := by
  obtain ⟨s, l, P, sa, sc, ra, rc, H, L⟩ := h
  exact ⟨s, l, P, sa, sc, ra, rc, H.fewer hs, L⟩
theorem LiveAt.grow {w0 w w' : World} {T Lb : Nat} {most : Int} {rs : List Fr.Rc} {su : Int} {G : List (Nat × Obj)} (h : LiveAt w0 w T Lb most rs su G) (hb : Below w.heap.size w w') : LiveAt w0 w' T Lb most rs su G := by
  obtain ⟨s, l, P, sa, sc, ra, rc, H, L⟩ := h
  exact ⟨s, l, P, sa, sc, ra, rc, H.grow hb, L⟩
def recX (ep : Int) (rs : List Fr.Rc) (b : List Int) : Fr.Rc := (Pl.packV ep rs.length, b)
/-- Append on a live log. -/
theorem append_live {w0 w : World} {T Lb : Nat} {most : Int} {rs : List Fr.Rc} {su : Int} {G : List (Nat × Obj)} (h : LiveAt w0 w T Lb most rs su G) (hF : Facts w0) (ep : Int) (e0 : 0 ≤ ep) (e1 : ep ≤ 1048575) (he : epR rs ≤ ep) (A : Option Addr) (n cap : Nat) (b : List Int) (hn : n = b.length) (hl : n ≤ 1024) (hfew : rs.length < 30) (hA : AtB A b.length cap)
    (hb : ∀ W s l G' sa sc ra rc, WRun w0 W T Lb s l (G' ++ G) sa sc ra rc → Bytes W W.heap.size A b) :
    Calls Tryz.prog 9 #[.pointer (some ⟨Lb, 0, none⟩), .int .i64 ep, .slice A n cap] w fun e w' => StE (Pl.packV ep rs.length) 0 e ∧ Hid (LiveAt w0 w' T Lb most (rs ++ [recX ep rs b]) su G) := by
  obtain ⟨s, l, P, sa, sc, ra, rc, H, L, LS, LM⟩ := h
  have hend := L.end_
  have hpo : Pl.packOk ep (rs.length : Int) = true := by unfold Pl.packOk; simp; omega
  have hpv : Pl.packV ep (rs.length : Int) = ep * 17592186044416 + rs.length := by unfold Pl.packV; rw [if_pos hpo]
  have hst : 0 ≤ Pl.packV ep (rs.length : Int) ∧ Pl.packV ep (rs.length : Int) < 18446744073709551616 := by rw [hpv]; omega
  obtain ⟨hE, hI1, hI2, P', hL⟩ := L.write H.inv.1 H.inv.2 (recX ep rs b) hst (by show b.length ≤ 1024; omega) hfew
  have hEp : Wl.epochV l ≤ ep := by
    have : Wl.epochV l = epR rs := by unfold Wl.epochV epR; rw [L.recs]
    rw [this]; exact he
  unfold recX at hE hI1 hI2 hL
  rw [← hend] at hE hI1 hI2 hL ⊢
  refine (lappend_ok H hF ep e0 e1 hEp (by rw [hend]; omega) A n cap b hn (by omega) hA hb (fun _ => ⟨hI1, hI2⟩)).mono ?_
  intro e w' hx
  obtain ⟨h1, h2⟩ := hx.1 hE
  refine ⟨h1, Lib.hid ?_⟩
  obtain ⟨sa', sc', ra', rc', hw⟩ := h2.out
  unfold recX
  rw [← hend]
  exact ⟨_, _, _, _, _, _, _, hw, hL, by show (writeL _ _ _ _).sure = _; rw [writeL_sure, LS], by show (writeL _ _ _ _).most = _; rw [writeL_most, LM]⟩
end Go.Proofs.YtdbhicifjljjnaaGreatDoor
/-
  The plain side of Sync: every byte of the log's segments becomes durable; and a crash then changes nothing.
-/
namespace Go.Proofs.YtdbhicifjljjnaaGreatDoor
open Go.RowKit St
def fullP (P : List Part) : List Part := P.map fun p => (p.1, (codeV p.1).length)
theorem fullP_cons (p : Part) (P : List Part) : fullP (p :: P) = (p.1, (codeV p.1).length) :: fullP P := rfl
theorem fullP_recs (P : List Part) : (fullP P).map (·.1) = P.map (·.1) := by unfold fullP; simp
theorem segsV_full : ∀ (f : Int) (P : List Part), segsV f (fullP P) = segsV f P
  | _, [] => rfl
  | f, p :: r => by show _ :: segsV _ (fullP r) = _ :: segsV _ r; rw [segsV_full _ r]
theorem fullP_len (P : List Part) : (fullP P).length = P.length := by unfold fullP; simp
theorem cntP_full : ∀ (P : List Part), cntP (fullP P) = cntP P
  | [] => rfl
  | p :: r => by show p.1.length + cntP (fullP r) = p.1.length + cntP r; rw [cntP_full r]
theorem files_full : ∀ (f : Int) (P : List Part), ∀ x ∈ filesV f (fullP P), x.sure = x.zs.length
  | _, [] => fun x hx => by cases hx
  | f, p :: r => fun x hx => by
    rcases List.mem_cons.1 hx with rfl | hx
    · rfl
    · exact files_full (f + p.1.length) r x hx
theorem names_full : ∀ (f : Int) (P : List Part), (filesV f (fullP P)).map F.nm = (filesV f P).map F.nm
  | _, [] => rfl
  | f, p :: r => by show _ :: (filesV _ (fullP r)).map F.nm = _ :: (filesV _ r).map F.nm; rw [names_full _ r]
theorem del_idem (nm : List UInt8) (l : List F) : del nm (del nm l) = del nm l := by unfold del; simp
theorem sync_all : ∀ (P : List Part) (f : Int) (pre : List F) (s : S), s.fs = pre ++ filesV f P → Sorted s.fs → s.off = false → s.fuse = 0 →
    syncE (segsV f P) s = 0 ∧ syncS (segsV f P) s = { s with fs := pre ++ filesV f (fullP P) }
  | [], f, pre, s, hf, _, _, _ => ⟨rfl, by show s = _; have : s.fs = pre ++ filesV f (fullP []) := hf; cases s; simp_all⟩
  | p :: r, f, pre, s, hf, hs, ho, hz => by
    have hf' : s.fs = pre ++ ⟨nmS f, codeV p.1, p.2⟩ :: filesV (f + p.1.length) r := hf
    have hso : Sorted (pre ++ ⟨nmS f, codeV p.1, p.2⟩ :: filesV (f + p.1.length) r) := by rw [← hf']; exact hs
    have hfd : find (nmS f) s.fs = some ⟨nmS f, codeV p.1, p.2⟩ := by rw [hf']; exact find_mem (f := ⟨nmS f, codeV p.1, p.2⟩) hso (by simp)
    have hc : chk s [nmS f, nmS f] = 0 := by
      unfold chk
      rw [ho]
      have := good_name f
      simp [nmS, this]
    have hfn : fnd s (nmS f) [nmS f, nmS f] = 0 := by
      unfold fnd
      rw [if_neg (by rw [hc]; simp), hfd]; rfl
    have hE : syncE1 f s = 0 := by
      unfold syncE1 actE
      rw [hfn, if_neg (by simp), if_neg (by rw [hz]; decide)]
    have hS : syncS1 f s = { s with fs := pre ++ ⟨nmS f, codeV p.1, (codeV p.1).length⟩ :: filesV (f + p.1.length) r } := by
      unfold syncS1 St.actS
      rw [hfn, if_neg (by simp), if_neg (by rw [hz]; decide), hz]
      unfold swapL
      rw [(file_mem hfd).1]
      have e : put ⟨nmS f, codeV p.1, (codeV p.1).length⟩ (del (nmS f) s.fs) = put ⟨nmS f, codeV p.1, (codeV p.1).length⟩ s.fs := by
        unfold put
        show ins _ (del (nmS f) (del (nmS f) s.fs)) = ins _ (del (nmS f) s.fs)
        rw [del_idem]
      show ({ s with fs := put ⟨nmS f, codeV p.1, (codeV p.1).length⟩ (del (nmS f) s.fs), fuse := 0 - 1 } : S) = _
      rw [e, hf', put_mid (f' := ⟨nmS f, codeV p.1, (codeV p.1).length⟩) hso rfl]
    have hs2 : Sorted (syncS1 f s).fs := by
      rw [hS]
      exact sorted_names hso (by simp)
    have ih := sync_all r (f + p.1.length) (pre ++ [⟨nmS f, codeV p.1, (codeV p.1).length⟩]) (syncS1 f s) (by rw [hS]; simp) hs2 (by rw [hS]; exact ho) (by rw [hS]; exact hz)
    show (if syncE1 f s ≠ 0 then _ else syncE (segsV _ r) (syncS1 f s)) = 0 ∧ (if syncE1 f s ≠ 0 then _ else syncS (segsV _ r) (syncS1 f s)) = _
    rw [if_neg (by rw [hE]; simp), if_neg (by rw [hE]; simp)]
    refine ⟨ih.1, ?_⟩
    rw [ih.2, hS, fullP_cons]
    show ({ s with fs := (pre ++ [_]) ++ filesV _ (fullP r) } : S) = { s with fs := pre ++ (_ :: filesV _ (fullP r)) }
    rw [List.append_assoc]; rfl
theorem loose0 (P : List Part) (p : Part) (hne : ∀ q ∈ (p :: P).dropLast, q.1 ≠ []) : looseN 0 (segsV 0 (p :: P)) = 0 := by
  refine loose_at 0 _ 0 (by rw [segsV_len]; simp) (by show (0 : Int) ≤ 0; omega) fun i hi hl => ?_
  obtain ⟨j, rfl⟩ : ∃ j, i = j + 1 := ⟨i - 1, by omega⟩
  rw [segsV_len] at hl
  have hq : 0 < p.1.length := List.length_pos_iff.2 ((ne_tail hne).1 fun e => by rw [e] at hl; simp at hl)
  have hm : (segsV (0 + p.1.length) P).getD j (0, 0) ∈ segsV (0 + p.1.length) P := by
    have hj : j < (segsV (0 + (p.1.length : Int)) P).length := by rw [segsV_len]; simp at hl; omega
    rw [List.getD_eq_getElem?_getD, List.getElem?_eq_getElem hj]
    exact List.getElem_mem hj
  have := segs_bd _ P _ hm
  show ¬ (((0, _) :: segsV (0 + p.1.length) P).getD (j + 1) (0, 0)).1 ≤ 0
  rw [List.getD_cons_succ]
  omega
/-- Sync on a live log of which nothing is durable yet. -/
theorem Live.sync {s : S} {l : Wl.L} {P : List Part} {rs : List Fr.Rc} (h : Live s l P rs) (hi : St.Inv s) (hs : l.sure = 0) :
    lsyncE s l = 0 ∧ lsyncS s l = { s with fs := filesV 0 (fullP P) } ∧ lsyncL s l = { l with sure := rs.length } ∧ (l.sure ≠ Wl.endV l → ∃ j, j < l.segs.length ∧ (l.segs.getD j (0, 0)).1 ≤ l.sure) := by
  have he := h.end_
  have hE0 : lsyncE s l = 0 ∧ lsyncS s l = { s with fs := filesV 0 (fullP P) } := by
    unfold lsyncE lsyncS
    have on : ¬ s.off = true := by rw [h.on]; simp
    rw [if_neg on, if_neg on]
    cases P with
    | nil =>
      have hr : rs.length = 0 := by rw [← h.cnt]; rfl
      rw [if_pos (by rw [hs, he, hr]; rfl), if_pos (by rw [hs, he, hr]; rfl)]
      refine ⟨rfl, ?_⟩
      have : s.fs = filesV 0 (fullP []) := h.fit.fs
      rw [← this]
    | cons p r =>
      have hc : p.1.length + cntP r = rs.length := h.cnt
      have hz : rs.length = 0 → r = [] ∧ p.1 = [] := fun hr => by
        have hp : p.1 = [] := List.eq_nil_of_length_eq_zero (by omega)
        refine ⟨?_, hp⟩
        by_cases hrr : r = []
        · exact hrr
        · exact absurd hp ((ne_tail h.fit.ne).1 hrr)
      by_cases hr0 : rs.length = 0
      · rw [if_pos (by rw [hs, he, hr0]; rfl), if_pos (by rw [hs, he, hr0]; rfl)]
        refine ⟨rfl, ?_⟩
        obtain ⟨z1, z2⟩ := hz hr0
        subst z1
        have hsu := hi.sure
        have hfs : s.fs = filesV 0 [p] := h.fit.fs
        have h2 : p.2 ≤ (codeV p.1).length := hsu ⟨nmS 0, codeV p.1, p.2⟩ (by rw [hfs]; simp [filesV])
        have h3 : p.2 = (codeV p.1).length := by rw [z2] at h2 ⊢; simp [codeV] at h2 ⊢; exact h2
        have : s.fs = filesV 0 (fullP [p]) := by
          rw [hfs]
          show _ = filesV 0 [(p.1, (codeV p.1).length)]
          rw [← h3]
        rw [← this]
      rw [if_neg (by rw [hs, he]; omega), if_neg (by rw [hs, he]; omega), hs, h.fit.segs, loose0 r p h.fit.ne, List.drop_zero]
      have := sync_all (p :: r) 0 [] s h.fit.fs hi.sorted h.on h.fuse
      exact this
  refine ⟨hE0.1, hE0.2, by unfold lsyncL; rw [if_pos hE0.1, he], fun hne => ?_⟩
  cases P with
  | nil =>
    exfalso; apply hne
    have hr : rs.length = 0 := by rw [← h.cnt]; rfl
    rw [hs, he, hr]; rfl
  | cons p r =>
    refine ⟨0, by rw [h.fit.segs, segsV_len]; simp, ?_⟩
    rw [h.fit.segs, hs]
    show (0 : Int) ≤ 0
    omega
/-- A crash where everything is durable. -/
theorem crash_full (s : S) (P : List Part) (f : Int) (hf : s.fs = filesV f (fullP P)) (ho : s.off = false) (ks : List Int) : crash s ks = { s with off := true, fuse := 0, keep := [] } := by
  unfold crash
  rw [if_neg (by rw [ho]; simp), hf, crashL_eq (files_full f P), ← hf]
end Go.Proofs.YtdbhicifjljjnaaGreatDoor
/-
  What Open reads of a store whose files are whole: the log's segments and records.
-/
namespace Go.Proofs.YtdbhicifjljjnaaGreatDoor
open Go.RowKit Go.Lib St
/-! ### What is told of the offsets picked -/
theorem comp_tells (d : Array Int) (hs : ∀ i j, i ≤ j → j < d.size → d[i]! ≤ d[j]!) : ∀ m, m ≤ d.size →
    (compactUpTo d m).Pairwise (· < ·) ∧ (∀ x ∈ compactUpTo d m, ∃ j, j < m ∧ x = d[j]!) ∧ ∀ j, j < m → d[j]! ∈ compactUpTo d m := by
  intro m
  induction m with
  | zero => intro _; simp [compactUpTo]
  | succ m ih =>
    intro hm
    obtain ⟨i1, i2, i3⟩ := ih (by omega)
    rw [compactUpTo_succ]
    by_cases hk : keeps d m = true
    · rw [if_pos hk]
      have hx : m = 0 ∨ d[m]! ≠ d[m - 1]! := by simpa [keeps] using hk
      refine ⟨?_, ?_, ?_⟩
      · rw [List.pairwise_append]
        refine ⟨i1, by simp, fun x hx2 y hy => ?_⟩
        rw [List.mem_singleton] at hy
        subst hy
        obtain ⟨j, hj, rfl⟩ := i2 x hx2
        have h1 := hs j (m - 1) (by omega) (by omega)
        have h2 := hs (m - 1) m (by omega) (by omega)
        rcases hx with h | h <;> omega
      · intro x hx2
        rcases List.mem_append.1 hx2 with h | h
        · obtain ⟨j, hj, e⟩ := i2 x h; exact ⟨j, by omega, e⟩
        · rw [List.mem_singleton] at h; exact ⟨m, by omega, h⟩
      · intro j hj
        rw [List.mem_append]
        by_cases hjm : j = m
        · subst hjm; exact .inr (List.mem_singleton_self _)
        · exact .inl (i3 j (by omega))
    · rw [if_neg hk, List.append_nil]
      have hx : m ≠ 0 ∧ d[m]! = d[m - 1]! := by simpa [keeps] using hk
      refine ⟨i1, ?_, ?_⟩
      · intro x hx2; obtain ⟨j, hj, e⟩ := i2 x hx2; exact ⟨j, by omega, e⟩
      · intro j hj
        by_cases hjm : j = m
        · subst hjm; rw [hx.2]; exact i3 (j - 1) (by omega)
        · exact i3 j (by omega)
theorem pick_tells (ss : List ByteArray) : (pickV ss).Pairwise (· < ·) ∧ ∀ x, x ∈ pickV ss ↔ (Sg.inO x = true ∧ Sg.nameB x ∈ ss) := by
  have hmem : ∀ x, x ∈ sorted (ss.filterMap Sg.segP) ↔ (Sg.inO x = true ∧ Sg.nameB x ∈ ss) := fun x => by
    unfold sorted
    rw [List.mem_mergeSort, List.mem_filterMap]
    constructor
    · rintro ⟨s, hs, he⟩
      obtain ⟨h1, h2⟩ := Sg.segP_some he
      rw [h2]; exact ⟨h1, hs⟩
    · rintro ⟨h1, h2⟩
      exact ⟨_, h2, Sg.segP_name x h1⟩
  have hp : (sorted (ss.filterMap Sg.segP)).Pairwise fun a b => a ≤ b := by
    have := List.pairwise_mergeSort (le := fun x y : Int => decide (x ≤ y)) (by intro a b c; simp; omega) (by intro a b; simp; omega) (ss.filterMap Sg.segP)
    exact this.imp (by intro a b h; simpa using h)
  unfold pickV
  generalize sorted (ss.filterMap Sg.segP) = l at *
  have hs : ∀ i j, i ≤ j → j < l.toArray.size → l.toArray[i]! ≤ l.toArray[j]! := fun i j hij hj => by
    have hj' : j < l.length := by simpa using hj
    rcases Nat.eq_or_lt_of_le hij with rfl | h
    · exact Int.le_refl _
    · have := List.pairwise_iff_getElem.1 hp i j (by omega) hj' h
      simpa [getElem!_pos, hj', show i < l.length by omega] using this
  obtain ⟨h1, h2, h3⟩ := comp_tells l.toArray hs l.length (by simp)
  refine ⟨h1, fun x => ?_⟩
  rw [← hmem x]
  constructor
  · intro hx
    obtain ⟨j, hj, rfl⟩ := h2 x hx
    have : l.toArray[j]! = l[j] := by simp [getElem!_pos, hj]
    rw [this]; exact List.getElem_mem hj
  · intro hx
    obtain ⟨j, hj, rfl⟩ := List.getElem_of_mem hx
    have := h3 j hj
    have e : l.toArray[j]! = l[j] := by simp [getElem!_pos, hj]
    rw [e] at this; exact this
theorem pickV_len (ss : List ByteArray) : (pickV ss).length ≤ ss.length := by
  unfold pickV compactUpTo
  rw [List.length_map]
  refine Nat.le_trans (List.length_filter_le _ _) ?_
  rw [List.length_range, sorted_len]
  exact List.length_filterMap_le _ _
theorem eq_of_rises : ∀ (a b : List Int), a.Pairwise (· < ·) → b.Pairwise (· < ·) → (∀ x, x ∈ a ↔ x ∈ b) → a = b
  | [], [], _, _, _ => rfl
  | [], y :: b, _, _, h => by have := (h y).2 (by simp); cases this
  | x :: a, [], _, _, h => by have := (h x).1 (by simp); cases this
  | x :: a, y :: b, ha, hb, h => by
    have ha' := List.pairwise_cons.1 ha
    have hb' := List.pairwise_cons.1 hb
    have hxy : x = y := by
      rcases List.mem_cons.1 ((h x).1 (by simp)) with e | e
      · exact e
      · rcases List.mem_cons.1 ((h y).2 (by simp)) with e2 | e2
        · exact e2.symm
        · have := hb'.1 x e; have := ha'.1 y e2; omega
    subst hxy
    rw [eq_of_rises a b ha'.2 hb'.2 fun z => ?_]
    constructor
    · intro hz
      rcases List.mem_cons.1 ((h z).1 (by simp [hz])) with e | e
      · have := ha'.1 z hz; omega
      · exact e
    · intro hz
      rcases List.mem_cons.1 ((h z).2 (by simp [hz])) with e | e
      · have := hb'.1 z hz; omega
      · exact e
def firsts (f : Int) (P : List Part) : List Int := (segsV f P).map (·.1)
theorem firsts_cons (f : Int) (p : Part) (P : List Part) : firsts f (p :: P) = f :: firsts (f + p.1.length) P := rfl
theorem firsts_len (f : Int) (P : List Part) : (firsts f P).length = P.length := by unfold firsts; rw [List.length_map, segsV_len]
theorem firsts_bd (f : Int) (P : List Part) : ∀ x ∈ firsts f P, f ≤ x ∧ x ≤ f + cntP P := fun x hx => by
  obtain ⟨g, hg, rfl⟩ := List.mem_map.1 hx
  have := segs_bd f P g hg
  omega
theorem firsts_rise : ∀ (f : Int) (P : List Part), (∀ p ∈ P.dropLast, p.1 ≠ []) → (firsts f P).Pairwise (· < ·)
  | _, [], _ => List.Pairwise.nil
  | f, p :: r, h => by
    rw [firsts_cons]
    refine List.pairwise_cons.2 ⟨fun x hx => ?_, firsts_rise _ r (ne_tail h).2⟩
    have hp : 0 < p.1.length := List.length_pos_iff.2 ((ne_tail h).1 fun e => by rw [e] at hx; cases hx)
    have := firsts_bd _ r x hx
    omega
theorem mkB_bs (b : ByteArray) : mkB (bs b) = b := by
  unfold mkB bs
  cases b
  simp
theorem names_files : ∀ (f : Int) (P : List Part), ((filesV f P).map F.nm).map mkB = (firsts f P).map Sg.nameB
  | _, [] => rfl
  | f, p :: r => by
    show mkB (nmS f) :: ((filesV _ r).map F.nm).map mkB = Sg.nameB f :: (firsts _ r).map Sg.nameB
    rw [names_files _ r, show mkB (nmS f) = Sg.nameB f from mkB_bs _]
theorem pick_files (f : Int) (P : List Part) (f0 : 0 ≤ f) (h1 : f + cntP P ≤ 17592186044415) (hne : ∀ p ∈ P.dropLast, p.1 ≠ []) : pickV ((firsts f P).map Sg.nameB) = firsts f P := by
  obtain ⟨p1, p2⟩ := pick_tells ((firsts f P).map Sg.nameB)
  have hin : ∀ x ∈ firsts f P, Sg.inO x = true := fun x hx => (Sg.inO_iff x).2 (by have := firsts_bd f P x hx; omega)
  refine eq_of_rises _ _ p1 (firsts_rise f P hne) fun x => ?_
  rw [p2]
  constructor
  · rintro ⟨h, hm⟩
    obtain ⟨y, hy, e⟩ := List.mem_map.1 hm
    rw [← Sg.nameB_inj (hin y hy) h e]; exact hy
  · intro h
    exact ⟨hin x h, List.mem_map.2 ⟨x, h, rfl⟩⟩
/-- Records at offsets that go on, with epochs that never fall. -/
def Chain : Int → Int → List Fr.Rc → Prop
  | _, _, [] => True
  | f, ep, r :: t => Pl.offV r.1 = f ∧ ep ≤ Pl.epochV r.1 ∧ 0 ≤ r.1 ∧ r.1 < 18446744073709551616 ∧ r.2.length ≤ 1024 ∧ Chain (f + 1) (Pl.epochV r.1) t
def lastE : Int → List Fr.Rc → Int
  | ep, [] => ep
  | _, r :: t => lastE (Pl.epochV r.1) t
theorem chain_app : ∀ (f ep : Int) (a b : List Fr.Rc), Chain f ep (a ++ b) ↔ Chain f ep a ∧ Chain (f + a.length) (lastE ep a) b
  | f, ep, [], b => by simp [Chain, lastE]
  | f, ep, r :: t, b => by
    show (_ ∧ _ ∧ _ ∧ _ ∧ _ ∧ Chain (f + 1) _ (t ++ b)) ↔ (_ ∧ _ ∧ _ ∧ _ ∧ _ ∧ Chain (f + 1) _ t) ∧ Chain _ (lastE _ t) b
    rw [chain_app (f + 1) _ t b, show f + 1 + (t.length : Int) = f + ((r :: t).length : Int) from by rw [List.length_cons]; omega]
    constructor
    · rintro ⟨h1, h2, h3, h4, h5, h6, h7⟩; exact ⟨⟨h1, h2, h3, h4, h5, h6⟩, h7⟩
    · rintro ⟨⟨h1, h2, h3, h4, h5, h6⟩, h7⟩; exact ⟨h1, h2, h3, h4, h5, h6, h7⟩
theorem lastE_snoc : ∀ (ep : Int) (a : List Fr.Rc) (r : Fr.Rc), lastE ep (a ++ [r]) = Pl.epochV r.1
  | _, [], _ => rfl
  | _, x :: t, r => lastE_snoc (Pl.epochV x.1) t r
theorem epR_last (rs : List Fr.Rc) : epR rs = lastE 0 rs := by
  rcases List.eq_nil_or_concat rs with e | ⟨a, r, e⟩
  · subst e; rfl
  · subst e
    rw [List.concat_eq_append, lastE_snoc]
    unfold epR
    simp
theorem scan_code : ∀ (rs : List Fr.Rc) (f ep : Int), Chain f ep rs → Sg.scV (codeV rs) f ep = (rs, (codeV rs).length)
  | [], f, ep, _ => Sg.scV_bad fun h => by have := Sg.okS_len h; simp [codeV] at this
  | r :: t, f, ep, ⟨h1, h2, h3, h4, h5, h6⟩ => by
    have e : codeV (r :: t) = Fr.putV r.1 r.2 ++ codeV t := rfl
    rw [e, Sg.scV_put r.1 r.2 (codeV t) f ep h3 h4 h5, if_pos ⟨h1, h2⟩, scan_code t (f + 1) _ h6, List.length_append, Fr.putV_len]
end Go.Proofs.YtdbhicifjljjnaaGreatDoor
/-
  Open on a store whose files are whole: it reads the log that was.
-/
namespace Go.Proofs.YtdbhicifjljjnaaGreatDoor
open Go.RowKit Go.Lib St
def recsP (P : List Part) : List Fr.Rc := (P.map (·.1)).flatten
theorem recsP_app (P Q : List Part) : recsP (P ++ Q) = recsP P ++ recsP Q := by unfold recsP; simp
theorem recsP_len (P : List Part) : (recsP P).length = cntP P := cnt_flat P
theorem segsV_app : ∀ (f : Int) (P Q : List Part), segsV f (P ++ Q) = segsV f P ++ segsV (f + cntP P) Q
  | f, [], Q => by show _ = [] ++ segsV (f + ((0 : Nat) : Int)) Q; simp
  | f, p :: r, Q => by
    show _ :: segsV _ (r ++ Q) = _ :: (segsV _ r ++ _)
    rw [segsV_app _ r Q, show f + (cntP (p :: r) : Nat) = f + (p.1.length : Int) + (cntP r : Int) from by show f + ((p.1.length + cntP r : Nat) : Int) = _; omega]
theorem filesV_app : ∀ (f : Int) (P Q : List Part), filesV f (P ++ Q) = filesV f P ++ filesV (f + cntP P) Q
  | f, [], Q => by show _ = [] ++ filesV (f + ((0 : Nat) : Int)) Q; simp
  | f, p :: r, Q => by
    show _ :: filesV _ (r ++ Q) = _ :: (filesV _ r ++ _)
    rw [filesV_app _ r Q, show f + (cntP (p :: r) : Nat) = f + (p.1.length : Int) + (cntP r : Int) from by show f + ((p.1.length + cntP r : Nat) : Int) = _; omega]
/-- The log that holds these segments. -/
def logP (most f : Int) (P : List Part) : Wl.L := ⟨most, segsV f P, recsP P, 0⟩
theorem chain_at : ∀ (rs : List Fr.Rc) (f ep : Int), Chain f ep rs → ∀ r ∈ rs, 0 ≤ r.1 ∧ r.1 < 18446744073709551616 ∧ r.2.length ≤ 1024
  | [], _, _, _ => fun r hr => by cases hr
  | x :: t, f, ep, ⟨_, _, h3, h4, h5, h6⟩ => fun r hr => by
    rcases List.mem_cons.1 hr with rfl | hr
    · exact ⟨h3, h4, h5⟩
    · exact chain_at t (f + 1) _ h6 r hr
theorem logP_inv (most f : Int) (P : List Part) (m0 : 64 ≤ most) (m1 : most ≤ 1048576) (f0 : 0 ≤ f) (hf : f + cntP P ≤ 17592186044415) (hc : cntP P ≤ 1000) (hne : ∀ p ∈ P.dropLast, p.1 ≠ []) (ht : total (filesV f P) ≤ 16777216) (hch : Chain f 0 (recsP P)) : Wl.Inv (logP most f P) :=
  Fit.linv (s := ⟨0, filesV f P, false, 0, []⟩) ⟨rfl, rfl, rfl, hne, f0⟩ hf hc ⟨m0, m1⟩ ht (fun r hr => ⟨(chain_at _ _ _ hch r hr).1, (chain_at _ _ _ hch r hr).2.1⟩) (fun r hr => (chain_at _ _ _ hch r hr).2.2) (by show (0 : Int) ≤ 0 ∧ (0 : Int) ≤ _; omega)
theorem inv_fewer {l : Wl.L} {a b : List Fr.Rc} (h : Wl.Inv { l with recs := a ++ b }) (hs : l.segs ≠ []) : Wl.Inv { l with recs := a } := by
  refine ⟨h.most, h.first, h.size, ?_, h.segc, fun x hx => h.at_ x (List.mem_append_left _ hx), fun x hx => h.pay x (List.mem_append_left _ hx), fun hn => absurd hn hs, h.sure⟩
  have e := h.count
  rw [List.length_append] at e
  show a.length ≤ _
  omega
theorem total_app (a b : List F) : total (a ++ b) = total a + total b := by
  induction a with
  | nil => simp [total]
  | cons x r ih => show x.zs.length + total (r ++ b) = x.zs.length + total r + total b; rw [ih]; omega
theorem epoch_logP (most f : Int) (P : List Part) : Wl.epochV (logP most f P) = lastE 0 (recsP P) := epR_last _
theorem end_logP (most f : Int) (P : List Part) (hP : P ≠ []) : Wl.endV (logP most f P) = f + cntP P := by
  unfold Wl.endV Wl.firstV
  cases P with
  | nil => exact absurd rfl hP
  | cons p r => show f + ((recsP (p :: r)).length : Int) = _; rw [recsP_len]
/-- A part's file, read. -/
theorem read_part {s : S} {f : Int} {P0 : List Part} {p : Part} {Q : List Part} (hs : s.fs = filesV f (P0 ++ p :: Q)) (hso : Sorted s.fs) (ho : s.off = false) :
    readE s (nmS (f + cntP P0)) = 0 ∧ readL s (nmS (f + cntP P0)) = codeV p.1 := by
  have hf : find (nmS (f + cntP P0)) s.fs = some ⟨nmS (f + cntP P0), codeV p.1, p.2⟩ := by
    refine find_mem (f := ⟨nmS (f + cntP P0), codeV p.1, p.2⟩) hso ?_
    rw [hs, filesV_app]
    simp [filesV]
  have hc : chk s [nmS (f + cntP P0)] = 0 := by
    unfold chk
    rw [ho]
    have := good_name (f + cntP P0)
    simp [nmS, this]
  have hE : readE s (nmS (f + cntP P0)) = 0 := by
    unfold readE fnd
    rw [if_neg (by rw [hc]; simp), hf]; rfl
  refine ⟨hE, ?_⟩
  unfold readL
  rw [if_neg (by rw [hE]; simp), (file_mem hf).1]
set_option maxHeartbeats 1000000 in
theorem load_parts (most f : Int) (m0 : 64 ≤ most) (m1 : most ≤ 1048576) (f0 : 0 ≤ f) (s : S) (hso : Sorted s.fs) (ho : s.off = false) : ∀ (Q P0 : List Part), s.fs = filesV f (P0 ++ Q) → (∀ p ∈ (P0 ++ Q).dropLast, p.1 ≠ []) →
    f + cntP (P0 ++ Q) ≤ 17592186044415 → cntP (P0 ++ Q) ≤ 1000 → total s.fs ≤ 16777216 → Chain f 0 (recsP (P0 ++ Q)) →
    loadF (firsts (f + cntP P0) Q) s (logP most f P0) true = (s, logP most f (P0 ++ Q), []) ∧ okF (firsts (f + cntP P0) Q) s (logP most f P0) true
  | [], P0, _, _, _, _, _, _ => ⟨by rw [List.append_nil]; rfl, trivial⟩
  | p :: Q, P0, hs, hne, hf, hc, ht, hch => by
    have hcn : cntP (P0 ++ p :: Q) = cntP P0 + (p.1.length + cntP Q) := by rw [← recsP_len, recsP_app, List.length_append, recsP_len, recsP_len]; rfl
    obtain ⟨hE, hL⟩ := read_part hs hso ho
    have hch2 := hch
    rw [recsP_app, chain_app, recsP_len] at hch2
    have hq : recsP (p :: Q) = p.1 ++ recsP Q := rfl
    have hchp := hch2.2
    rw [hq, chain_app] at hchp
    have hZ : ldZ s (f + cntP P0) = codeV p.1 := hL
    have hsc : Sg.scV (ldZ s (f + cntP P0)) (f + cntP P0) (Wl.epochV (logP most f P0)) = (p.1, (codeV p.1).length) := by
      rw [hZ, epoch_logP]; exact scan_code p.1 _ _ hchp.1
    have hN : ldN s (logP most f P0) (f + cntP P0) = (codeV p.1).length := by unfold ldN; rw [hsc]
    have hR : ldR s (logP most f P0) (f + cntP P0) = p.1 := by unfold ldR; rw [hsc]
    have hfl : P0 ++ p :: Q = (P0 ++ [p]) ++ Q := by simp
    have hl1 : ldL1 s (logP most f P0) (f + cntP P0) = { logP most f (P0 ++ [p]) with recs := recsP P0 } := by
      unfold ldL1
      rw [hN]
      show (⟨most, segsV f P0 ++ [(f + (cntP P0 : Int), ((codeV p.1).length : Int))], recsP P0, 0⟩ : Wl.L) = ⟨most, segsV f (P0 ++ [p]), recsP P0, 0⟩
      rw [segsV_snoc]
    have hrs : recsP (P0 ++ [p]) = recsP P0 ++ p.1 := by rw [recsP_app]; simp [recsP]
    have hl2 : ldL s (logP most f P0) (f + cntP P0) = logP most f (P0 ++ [p]) := by
      unfold ldL
      rw [hR, hl1]
      unfold logP
      rw [hrs]
    have hSs : ldS s (logP most f P0) (f + cntP P0) = s := by unfold ldS; rw [hN, hZ, if_neg (by omega)]
    have hEe : ldE s (logP most f P0) (f + cntP P0) = 0 := by unfold ldE; rw [hN, hZ, if_neg (by omega)]
    have htt : total (filesV f (P0 ++ [p])) ≤ total s.fs := by rw [hs, hfl, filesV_app f (P0 ++ [p]), total_app]; omega
    have hcn1 : cntP (P0 ++ [p]) = cntP P0 + p.1.length := cntP_snoc P0 p
    have hi2 : Wl.Inv (logP most f (P0 ++ [p])) := by
      refine logP_inv most f _ m0 m1 f0 (by omega) (by omega) (fun q hq => hne q ?_) (by omega) ?_
      · rw [List.dropLast_concat] at hq
        rw [List.dropLast_append_of_ne_nil (by simp)]
        exact List.mem_append_left _ hq
      · rw [hfl, recsP_app, chain_app] at hch; exact hch.1
    have hi1 : Wl.Inv { logP most f (P0 ++ [p]) with recs := recsP P0 } := by
      have h := hi2
      have e : logP most f (P0 ++ [p]) = { logP most f (P0 ++ [p]) with recs := recsP P0 ++ p.1 } := by unfold logP; rw [hrs]
      rw [e] at h
      refine inv_fewer (l := logP most f (P0 ++ [p])) h ?_
      show segsV f (P0 ++ [p]) ≠ []
      rw [segsV_snoc]; simp
    have hcond : (true = true) ∧ ((logP most f P0).segs.length = 0 ∨ f + cntP P0 = Wl.endV (logP most f P0)) := by
      refine ⟨rfl, ?_⟩
      by_cases hP : P0 = []
      · left; subst hP; rfl
      · right; rw [end_logP most f P0 hP]
    have hnx : f + (cntP P0 : Int) + (p.1.length : Int) = f + (cntP (P0 ++ [p]) : Int) := by rw [hcn1]; omega
    have ih := load_parts most f m0 m1 f0 s hso ho Q (P0 ++ [p]) (by rw [← hfl]; exact hs) (by rw [← hfl]; exact hne) (by rw [← hfl]; exact hf) (by rw [← hfl]; exact hc) ht (by rw [← hfl]; exact hch)
    rw [firsts_cons, hnx]
    have hd : decide (ldN s (logP most f P0) (f + cntP P0) = (ldZ s (f + cntP P0)).length) = true := by rw [hN, hZ]; simp
    have hbig : (codeV p.1).length ≤ total s.fs := by
      rw [hs, filesV_app, total_app]
      show _ ≤ _ + ((codeV p.1).length + _)
      omega
    constructor
    · rw [loadF, if_pos hcond, hSs, hl2, hd, ih.1, hfl]
    · rw [okF, if_pos hcond, hSs, hl2, hd, hl1]
      exact ⟨⟨by omega, by omega, hE, by rw [hZ]; omega, hi1, hi2, hEe⟩, ih.2⟩
theorem logP_nil (most f : Int) : logP most f [] = newL most := rfl
/-- Open on a store whose files are whole. -/
theorem reopen (most f : Int) (m0 : 64 ≤ most) (m1 : most ≤ 1048576) (f0 : 0 ≤ f) (s : S) (P : List Part) (hso : Sorted s.fs) (ho : s.off = false) (hz : s.fuse = 0) (hs : s.fs = filesV f P) (hne : ∀ p ∈ P.dropLast, p.1 ≠ []) (hf : f + cntP P ≤ 17592186044415) (hc : cntP P ≤ 1000) (ht : total s.fs ≤ 16777216) (hch : Chain f 0 (recsP P)) :
    OpOk s most ∧ opL s most = { logP most f P with sure := Wl.endV (logP most f P) } ∧ opS s most = { s with fs := filesV f (fullP P) } := by
  have hnm : namesV s = (firsts f P).map Sg.nameB := by unfold namesV; rw [hs, names_files]
  have hpk : pickV (namesV s) = firsts f P := by rw [hnm]; exact pick_files f P f0 hf hne
  have hpc := part_count P hne
  have hld := load_parts most f m0 m1 f0 s hso ho P [] hs hne hf hc ht hch
  rw [show f + (cntP [] : Nat) = f from by show f + ((0 : Nat) : Int) = f; omega, List.nil_append, logP_nil] at hld
  have hR : opR s most = (s, logP most f P, []) := by unfold opR; rw [hpk]; exact hld.1
  have hS1 : opS1 s most = s := by unfold opS1; rw [hR]; rfl
  have hL1 : opL1 s most = logP most f P := by unfold opL1; rw [hR]
  have hsy := sync_all P f [] s hs hso ho hz
  refine ⟨⟨m0, m1, ho, ?_, ?_, ?_, ?_, ?_, ?_, ?_⟩, ?_, ?_⟩
  · rw [hnm, List.length_map, firsts_len]; omega
  · intro k hk
    rw [hnm] at hk ⊢
    rw [List.getD_eq_getElem?_getD, List.getElem?_eq_getElem hk]
    show (((firsts f P).map Sg.nameB)[k]).size ≤ _
    rw [List.getElem_map, Sg.nameB_size]; decide
  · intro i hi
    rw [hpk] at hi ⊢
    rw [List.getD_eq_getElem?_getD, List.getElem?_eq_getElem hi]
    have := firsts_bd f P _ (List.getElem_mem hi)
    show _ ≤ (firsts f P)[i] ∧ (firsts f P)[i] ≤ _
    omega
  · rw [hpk, firsts_len]; omega
  · rw [hpk]; exact hld.2
  · rw [hR]; trivial
  · rw [hL1, hS1]; exact hsy.1
  · unfold opL; rw [hL1]
  · unfold opS; rw [hL1, hS1]; exact hsy.2
end Go.Proofs.YtdbhicifjljjnaaGreatDoor
/-
  Sync, Crash, On, Open: the log that was synced is back.
-/
namespace Go.Proofs.YtdbhicifjljjnaaGreatDoor
open Go.RowKit St
theorem ne_full {P : List Part} (h : ∀ p ∈ P.dropLast, p.1 ≠ []) : ∀ p ∈ (fullP P).dropLast, p.1 ≠ [] := fun p hp => by
  unfold fullP at hp
  rw [← List.map_dropLast] at hp
  obtain ⟨q, hq, rfl⟩ := List.mem_map.1 hp
  exact h q hq
structure Kept (s : S) (P : List Part) (rs : List Fr.Rc) (off : Bool) : Prop where
  fs : s.fs = filesV 0 (fullP P)
  ne : ∀ p ∈ P.dropLast, p.1 ≠ []
  recs : recsP P = rs
  off : s.off = off
  fuse : s.fuse = 0
  room : s.room = 65536
  pay : ∀ r ∈ rs, r.2.length ≤ 1024
  few : rs.length ≤ 30
/-- A store of synced records, beside a log that is told nothing of. -/
def LogAt (w0 w : World) (T Lb : Nat) (rs : List Fr.Rc) (off : Bool) (G : List (Nat × Obj)) : Prop := ∃ s l P sa sc ra rc, WRun w0 w T Lb s l G sa sc ra rc ∧ Kept s P rs off
theorem sync_live {w0 w : World} {T Lb : Nat} {most : Int} {rs : List Fr.Rc} {G : List (Nat × Obj)} (h : LiveAt w0 w T Lb most rs 0 G) (hF : Facts w0) :
    Calls Tryz.prog 10 #[.pointer (some ⟨Lb, 0, none⟩)] w fun e w' => RetI 0 e ∧ Hid (LogAt w0 w' T Lb rs false G) := by
  obtain ⟨s, l, P, sa, sc, ra, rc, H, L, LS, LM⟩ := h
  obtain ⟨h1, h2, h3, h4⟩ := L.sync H.inv.1 LS
  refine (lsync_any H hF h4).mono ?_
  rintro e w' ⟨he, hw⟩
  rw [h1] at he
  have hw := hw.out
  rw [h2] at hw
  exact ⟨he, Lib.hid ⟨_, _, P, _, _, _, _, hw, rfl, L.fit.ne, by rw [← L.recs]; exact L.fit.recs.symm, L.on, L.fuse, L.room, L.pay, L.few⟩⟩
theorem crash_live {w0 w : World} {T Lb : Nat} {rs : List Fr.Rc} {G : List (Nat × Obj)} (h : LogAt w0 w T Lb rs false G) (A : Option Addr) (ks : List Int) (n cap : Nat) (hn : n = ks.length) (hkl : n ≤ cap) (hkb : n ≤ 4611686018427387904) (hk : Ints w A ks) :
    Calls Tryz.prog 14 #[.pointer (some ⟨T, 0, none⟩), .slice A n cap] w fun e w' => e = .returned (.tuple #[]) ∧ Hid (LogAt w0 w' T Lb rs true G) := by
  subst hn
  obtain ⟨s, l, P, sa, sc, ra, rc, H, K⟩ := h
  refine (w_prog H (E := fun e => e = .returned (.tuple #[])) fun own ho hb p => crash_any T own s A ks cap hkl hkb w p hk).mono ?_
  rintro e w' ⟨he, hw⟩
  have hw := hw.out
  rw [crash_full s P 0 K.fs K.off] at hw
  exact ⟨he, Lib.hid ⟨_, _, P, _, _, _, _, hw, K.fs, K.ne, K.recs, rfl, rfl, K.room, K.pay, K.few⟩⟩
theorem on_live {w0 w : World} {T Lb : Nat} {rs : List Fr.Rc} {G : List (Nat × Obj)} (h : LogAt w0 w T Lb rs true G) :
    Calls Tryz.prog 15 #[.pointer (some ⟨T, 0, none⟩)] w fun e w' => e = .returned (.tuple #[]) ∧ Hid (LogAt w0 w' T Lb rs false G) := by
  obtain ⟨s, l, P, sa, sc, ra, rc, H, K⟩ := h
  refine (w_prog H (E := fun e => e = .returned (.tuple #[])) fun own ho hb p => on_any T own s w p).mono ?_
  rintro e w' ⟨he, hw⟩
  exact ⟨he, Lib.hid ⟨_, _, P, _, _, _, _, hw.out, K.fs, K.ne, K.recs, rfl, K.fuse, K.room, K.pay, K.few⟩⟩
def ReopenPost (w0 : World) (T : Nat) (most : Int) (rs : List Fr.Rc) (G : List (Nat × Obj)) (e : Ending) (w' : World) : Prop :=
  ∃ Lb, e = .returned (.tuple #[.pointer (some ⟨Lb, 0, none⟩), .int .i64 0]) ∧ Hid (LiveAt w0 w' T Lb most rs rs.length G)
theorem open_live {w0 w : World} {T Lb : Nat} {rs : List Fr.Rc} {G : List (Nat × Obj)} (h : LogAt w0 w T Lb rs false G) (hF : Facts w0) (hch : Chain 0 0 rs) (most : Int) (m0 : 64 ≤ most) (m1 : most ≤ 1048576) :
    Calls Tryz.prog 16 #[.pointer (some ⟨T, 0, none⟩), .int .i64 most] w (ReopenPost w0 T most rs G) := by
  obtain ⟨s, l, P, sa, sc, ra, rc, H, K⟩ := h
  have hcn : cntP (fullP P) = rs.length := by rw [cntP_full, ← recsP_len, K.recs]
  have hrp : recsP (fullP P) = rs := by unfold recsP; rw [fullP_recs]; exact K.recs
  have hne := ne_full K.ne
  have htt : total s.fs ≤ 16777216 := by
    rw [K.fs, total_files]
    have := code_len rs K.pay
    have hx := K.few
    show (codeV (recsP (fullP P))).length ≤ _
    rw [hrp]; omega
  have hf := K.few
  obtain ⟨ok, hl, hs⟩ := reopen most 0 m0 m1 (Int.le_refl _) s (fullP P) H.inv.1.sorted K.off K.fuse K.fs hne (by omega) (by omega) htt (by rw [hrp]; exact hch)
  refine (open_any H.srun hF most ok).mono ?_
  rintro e w' ⟨Lb', he, hw⟩
  refine ⟨Lb', he, Lib.hid ?_⟩
  obtain ⟨sa', sc', ra', rc', hw⟩ := hw.out
  rw [hl, hs] at hw
  have hend : Wl.endV (logP most 0 (fullP P)) = rs.length := by
    by_cases hP : fullP P = []
    · rw [hP] at hcn ⊢
      have : rs.length = 0 := hcn.symm
      rw [this]; rfl
    · rw [end_logP most 0 _ hP, hcn]; omega
  rw [hend] at hw
  exact ⟨_, _, fullP (fullP P), _, _, _, _, hw, ⟨⟨rfl, by show segsV 0 (fullP P) = _; rw [segsV_full _ (fullP P)], by show recsP (fullP P) = _; rw [fullP_recs]; rfl, ne_full hne, Int.le_refl _⟩, hrp, K.off, K.fuse, K.room, K.pay, K.few⟩, rfl, rfl⟩
end Go.Proofs.YtdbhicifjljjnaaGreatDoor
/-
  awake: two records, synced, are back after a crash.
-/
namespace Go.Proofs.YtdbhicifjljjnaaGreatDoor
open Go.RowKit St
theorem Live.first {s : S} {l : Wl.L} {P : List Part} {rs : List Fr.Rc} (h : Live s l P rs) : Wl.firstV l = 0 := by
  by_cases hP : P = []
  · subst hP; unfold Wl.firstV; rw [h.fit.segs]; rfl
  · exact h.fit.first hP
theorem Live.get {s : S} {l : Wl.L} {P : List Part} {rs : List Fr.Rc} (h : Live s l P rs) (off : Nat) (ho : off < rs.length) : Wl.getE l off = 0 ∧ Wl.getR l off = rs.getD off (0, []) := by
  have hE : Wl.getE l off = 0 := by
    unfold Wl.getE
    rw [h.first, h.end_, if_neg (by omega), if_neg (by omega)]
  refine ⟨hE, ?_⟩
  unfold Wl.getR
  rw [if_pos hE, h.first, h.recs]
  simp
theorem end_live {w0 w : World} {T Lb : Nat} {most : Int} {rs : List Fr.Rc} {su : Int} {G : List (Nat × Obj)} (h : LiveAt w0 w T Lb most rs su G) : Calls Tryz.prog 12 #[.pointer (some ⟨Lb, 0, none⟩)] w fun e w' => e = .returned (.int .i64 rs.length) ∧ ∃ j, w' = w.drewN j := by
  obtain ⟨s, l, P, sa, sc, ra, rc, H, L, _⟩ := h
  have := end_w H
  rwa [L.end_] at this
theorem epoch_live {w0 w : World} {T Lb : Nat} {most : Int} {rs : List Fr.Rc} {su : Int} {G : List (Nat × Obj)} (h : LiveAt w0 w T Lb most rs su G) : Calls Tryz.prog 22 #[.pointer (some ⟨Lb, 0, none⟩)] w fun e w' => e = .returned (.int .i64 (lastE 0 rs)) ∧ ∃ j, w' = w.drewN j := by
  obtain ⟨s, l, P, sa, sc, ra, rc, H, L, _⟩ := h
  have := epoch_w H
  rwa [show Wl.epochV l = lastE 0 rs by rw [← epR_last]; unfold Wl.epochV epR; rw [L.recs]] at this
theorem get_live {w0 w : World} {T Lb : Nat} {most : Int} {rs : List Fr.Rc} {su : Int} {G : List (Nat × Obj)} (h : LiveAt w0 w T Lb most rs su G) (off : Nat) (ho : off < rs.length) : Calls Tryz.prog 20 #[.pointer (some ⟨Lb, 0, none⟩), .int .i64 (off : Int)] w (LGetPost w (rs.getD off (0, [])) 0) := by
  obtain ⟨s, l, P, sa, sc, ra, rc, H, L, _⟩ := h
  have hf := L.few
  have := get_w H (off : Int) (by omega) (by omega)
  rwa [(L.get off ho).1, (L.get off ho).2] at this
/-- The log's first field is its store. -/
theorem LiveAt.obj {w0 w : World} {T Lb : Nat} {most : Int} {rs : List Fr.Rc} {su : Int} {G : List (Nat × Obj)} (h : LiveAt w0 w T Lb most rs su G) : w.cell? ⟨Lb, 0, none⟩ = some (.pointer (some ⟨T, 0, none⟩)) := by
  obtain ⟨s, l, P, sa, sc, ra, rc, H, _⟩ := h
  exact (obj5 (obj_w H)).1.1
theorem LiveAt.below {w0 w : World} {T Lb : Nat} {most : Int} {rs : List Fr.Rc} {su : Int} {G : List (Nat × Obj)} (h : LiveAt w0 w T Lb most rs su G) : Below w0.heap.size w0 w := by
  obtain ⟨s, l, P, sa, sc, ra, rc, H, _⟩ := h
  exact WRun.below H
theorem LiveAt.block {w0 w : World} {T Lb : Nat} {most : Int} {rs : List Fr.Rc} {su : Int} {G : List (Nat × Obj)} (h : LiveAt w0 w T Lb most rs su G) {g : Nat × Obj} (hg : g ∈ G) : w.heap[g.1]? = some g.2 := by
  obtain ⟨s, l, P, sa, sc, ra, rc, H, _⟩ := h
  exact WRun.block H hg
/-- A one-byte slice among the guests. -/
theorem bytes_guest {W : World} {b : Nat} {z : Int} {fr : Nat × Nat} (h0 : 0 ≤ z) (h1 : z ≤ 255) (h : W.heap[b]? = some (.cells #[.int .u8 z] 5 fr)) : Bytes W W.heap.size (some ⟨b, 0, none⟩) [z] := by
  refine ⟨fun i hi => ?_, fun _ => ⟨b, 0, rfl, w_some_lt h, fun i hi => ?_⟩⟩
  · simp at hi; subst hi; exact ⟨h0, h1⟩
  · simp at hi; subst hi
    simp [World.cell?, h]
/-- Append of a one-byte slice that was just made. -/
theorem append_one {w0 w : World} {T Lb : Nat} {most : Int} {rs : List Fr.Rc} {su : Int} (h : LiveAt w0 w T Lb most rs su []) (hF : Facts w0) (z : Int) (h0 : 0 ≤ z) (h1 : z ≤ 255) (he : epR rs ≤ 1) (hfew : rs.length < 30) (fr : Nat × Nat) :
    Calls Tryz.prog 9 #[.pointer (some ⟨Lb, 0, none⟩), .int .i64 1, .slice (some ⟨w.heap.size, 0, none⟩) 1 1] (w.alloc (.cells #[.int .u8 z] 5 fr)) fun e w' => StE (Pl.packV 1 rs.length) 0 e ∧ Hid (LiveAt w0 w' T Lb most (rs ++ [recX 1 rs [z]]) su []) := by
  have hj : LiveAt w0 (w.alloc (.cells #[.int .u8 z] 5 fr)) T Lb most rs su [(w.heap.size, .cells #[.int .u8 z] 5 fr)] := h.join (one_alloc w _) (Nat.le_refl _) (heap_alloc_new ..)
  refine (append_live hj hF 1 (by decide) (by decide) he (some ⟨w.heap.size, 0, none⟩) 1 1 [z] rfl (by decide) hfew (fun h => by cases h) fun W s l G' sa sc ra rc hW => bytes_guest h0 h1 (WRun.block hW (g := (w.heap.size, .cells #[.int .u8 z] 5 fr)) (by simp))).mono ?_
  rintro e w' ⟨he, hl⟩
  exact ⟨he, Lib.hid (hl.out.fewer fun g hg => by cases hg)⟩
def AwakePost (w0 : World) (e : Ending) (w' : World) : Prop := e = .returned (.bool true) ∧ Hid (Below w0.heap.size w0 w')
def rs1 : List Fr.Rc := [recX 1 [] [97]]
def rs2 : List Fr.Rc := rs1 ++ [recX 1 rs1 [98]]
theorem ep1 : epR [] ≤ 1 := by decide
theorem ep2 : epR rs1 ≤ 1 := by decide
theorem pk1 : Pl.packV 1 (([] : List Fr.Rc).length : Int) = 17592186044416 := by decide
theorem ch2 : Chain 0 0 rs2 := by
  refine ⟨by decide, by decide, by decide, by decide, by decide, by decide, by decide, by decide, by decide, by decide, trivial⟩
theorem le2 : lastE 0 rs2 = 1 := by decide
set_option maxRecDepth 20000 in
set_option maxHeartbeats 4000000 in
theorem awake_any {w0 w : World} (hb : Below w0.heap.size w0 w) (hF : Facts w0) :
    Calls Tryz.prog 6 #[] w (AwakePost w0) := by
  have BG := Lib.hid (begun_any hb hF 100 (by decide) (by decide))
  have HF := Lib.hid hF
  have hcv := conv_lit
  go_enter Tryz.func6, Tryz.ntmps6
  clear hb hF
  go_wp2_with fail
  (with_reducible refine BG.out.mono ?_); rintro e w1 ⟨Lb, T, rfl, H1⟩
  clear BG
  have L1 : Hid (LiveAt w0 w1 T Lb 100 [] 0 []) := Lib.hid (by obtain ⟨sa, sc, ra, rc, h⟩ := H1.out; exact LiveAt.of h)
  clear H1
  have C1 := L1.out.obj
  have A1 := Lib.hid (append_one L1.out HF.out 97 (by decide) (by decide) ep1 (by decide) (1, 2))
  rw [pk1] at A1
  go_wp2_with fail
  (with_reducible refine A1.out.mono ?_); rintro e w2 ⟨rfl, H2⟩
  clear A1 C1 L1
  have L2 : Hid (LiveAt w0 w2 T Lb 100 rs1 0 []) := H2
  clear H2
  have A2 := Lib.hid (append_one L2.out HF.out 98 (by decide) (by decide) ep2 (by decide) (1, 2))
  go_wp2_with fail
  (with_reducible refine A2.out.mono ?_); rintro e w3 ⟨rfl, H3⟩
  clear A2 L2
  have L3 : Hid (LiveAt w0 w3 T Lb 100 rs2 0 []) := H3
  clear H3
  have SY := Lib.hid (sync_live L3.out HF.out)
  go_wp2_with fail
  (with_reducible refine SY.out.mono ?_); rintro e w4 ⟨rfl, H4⟩
  clear SY L3
  have CR := Lib.hid (crash_live H4.out none [] 0 0 rfl (by decide) (by decide) (fun h => by simp at h))
  go_wp2_with fail
  (with_reducible refine CR.out.mono ?_); rintro e w5 ⟨rfl, H5⟩
  clear CR H4
  have ON := Lib.hid (on_live H5.out)
  go_wp2_with fail
  (with_reducible refine ON.out.mono ?_); rintro e w6 ⟨rfl, H6⟩
  clear ON H5
  have OP := Lib.hid (open_live H6.out HF.out ch2 100 (by decide) (by decide))
  go_wp2_with fail
  (with_reducible refine OP.out.mono ?_); rintro e w7 ⟨Lc, rfl, L7⟩
  clear OP H6
  have GT : Hid (Calls Tryz.prog 20 #[.pointer (some ⟨Lc, 0, none⟩), .int .i64 0] w7 (LGetPost w7 (17592186044416, [97]) 0)) := Lib.hid (get_live L7.out 0 (by decide))
  go_wp2_with fail
  (with_reducible refine GT.out.mono ?_); rintro e w8 ⟨A8, c8, rfl, o8, b8⟩
  clear GT
  have L8 := Lib.hid (L7.out.grow b8.out)
  clear L7
  go_wp2_with fail
  have L9 := Lib.hid (L8.out.grow (one_alloc w8 (.cells #[.int .u64 17592186044416, .slice A8 1 c8] 40)))
  have EN : Hid (Calls Tryz.prog 12 #[.pointer (some ⟨Lc, 0, none⟩)] (w8.alloc (.cells #[.int .u64 17592186044416, .slice A8 1 c8] 40)) fun e w' => e = .returned (.int .i64 2) ∧ ∃ j, w' = (w8.alloc (.cells #[.int .u64 17592186044416, .slice A8 1 c8] 40)).drewN j) := Lib.hid (end_live L9.out)
  have X0 : (w8.alloc (.cells #[.int .u64 17592186044416, .slice A8 1 c8] 40)).cell? ⟨w8.heap.size, 1, none⟩ = some (.slice A8 1 c8) := by rw [World.cell?_alloc_new]; rfl
  have B9 : Hid (Bytes (w8.alloc (.cells #[.int .u64 17592186044416, .slice A8 1 c8] 40)) ((w8.alloc (.cells #[.int .u64 17592186044416, .slice A8 1 c8] 40)).heap.size) A8 [97]) := Lib.hid ((o8.out.bytes.below (one_alloc w8 _)).more (one_alloc w8 _).size)
  generalize hw9 : w8.alloc (.cells #[.int .u64 17592186044416, .slice A8 1 c8] 40) = w9 at *
  (with_reducible refine EN.out.mono ?_); rintro e w' ⟨rfl, j, rfl⟩
  have CV : (convert 31 9 (.slice A8 1 c8)).run Tryz.prog (w9.drewN j) = .ok (.string ⟨#[97]⟩) (w9.drewN j) := conv_str (zs := [97]) (w := w9.drewN j) (B9.out.keep fun _ _ _ => rfl) c8
  have L10 := Lib.hid (L9.out.grow (below_n (Below.refl _ w9) j))
  have EP : Hid (Calls Tryz.prog 22 #[.pointer (some ⟨Lc, 0, none⟩)] (w9.drewN j) fun e w' => e = .returned (.int .i64 1) ∧ ∃ i, w' = (w9.drewN j).drewN i) := Lib.hid (epoch_live L10.out)
  clear hcv EN
  go_wp2_with fail
  (with_reducible refine EP.out.mono ?_); rintro e w' ⟨rfl, i, rfl⟩
  go_wp2_with fail
  go_ret
  exact ⟨rfl, Lib.hid (L9.out.grow (below_n (Below.refl _ w9) (j + i))).below⟩
end Go.Proofs.YtdbhicifjljjnaaGreatDoor
/-
  Records appended one after another at one epoch; Since on a live log.
-/
namespace Go.Proofs.YtdbhicifjljjnaaGreatDoor
open Go.RowKit St
/-- The records that the first i payloads make behind rs0. -/
def recsX (ep : Int) (rs0 : List Fr.Rc) (ps : List (List Int)) (i : Nat) : List Fr.Rc := rs0 ++ (List.range i).map fun k => (Pl.packV ep ((rs0.length + k : Nat) : Int), ps.getD k [])
theorem recsX_len (ep : Int) (rs0 : List Fr.Rc) (ps : List (List Int)) (i : Nat) : (recsX ep rs0 ps i).length = rs0.length + i := by unfold recsX; simp
theorem recsX_zero (ep : Int) (rs0 : List Fr.Rc) (ps : List (List Int)) : recsX ep rs0 ps 0 = rs0 := by unfold recsX; simp
theorem recsX_succ (ep : Int) (rs0 : List Fr.Rc) (ps : List (List Int)) (i : Nat) : recsX ep rs0 ps (i + 1) = recsX ep rs0 ps i ++ [recX ep (recsX ep rs0 ps i) (ps.getD i [])] := by
  unfold recX
  rw [recsX_len]
  unfold recsX
  rw [List.range_succ, List.map_append, List.append_assoc]
  rfl
theorem recsX_get {ep : Int} {rs0 : List Fr.Rc} {ps : List (List Int)} {i k : Nat} (hk : k < i) : (recsX ep rs0 ps i).getD (rs0.length + k) (0, []) = (Pl.packV ep ((rs0.length + k : Nat) : Int), ps.getD k []) := by
  unfold recsX
  rw [List.getD_eq_getElem?_getD, List.getElem?_append_right (by omega), Nat.add_sub_cancel_left]
  simp [hk]
theorem recsX_old {ep : Int} {rs0 : List Fr.Rc} {ps : List (List Int)} {i k : Nat} (hk : k < rs0.length) : (recsX ep rs0 ps i).getD k (0, []) = rs0.getD k (0, []) := by
  unfold recsX
  rw [List.getD_eq_getElem?_getD, List.getElem?_append_left hk, ← List.getD_eq_getElem?_getD]
theorem pack_of {ep o : Int} (e0 : 0 ≤ ep) (e1 : ep ≤ 1048575) (o0 : 0 ≤ o) (o1 : o ≤ 17592186044415) : Pl.packV ep o = ep * 17592186044416 + o ∧ Pl.epochV (Pl.packV ep o) = ep ∧ Pl.offV (Pl.packV ep o) = o := by
  have h : Pl.packOk ep o = true := by unfold Pl.packOk; simp; omega
  have e : Pl.packV ep o = ep * 17592186044416 + o := by unfold Pl.packV; rw [if_pos h]
  rw [e]
  refine ⟨rfl, ?_, ?_⟩
  · unfold Pl.epochV; omega
  · unfold Pl.offV; omega
theorem recsX_ep {ep : Int} {rs0 : List Fr.Rc} (ps : List (List Int)) (i : Nat) (e0 : 0 ≤ ep) (e1 : ep ≤ 1048575) (h0 : epR rs0 ≤ ep) (hn : rs0.length + i ≤ 1000) : epR (recsX ep rs0 ps i) ≤ ep := by
  cases i with
  | zero => rw [recsX_zero]; exact h0
  | succ i =>
    rw [epR_last, recsX_succ, lastE_snoc]
    unfold recX
    rw [recsX_len, (pack_of e0 e1 (by omega) (by omega)).2.1]
    exact Int.le_refl _
theorem recsX_chain {ep : Int} {rs0 : List Fr.Rc} (ps : List (List Int)) (e0 : 0 ≤ ep) (e1 : ep ≤ 1048575) (h0 : epR rs0 ≤ ep) (hc : Chain 0 0 rs0) : ∀ (i : Nat), rs0.length + i ≤ 1000 → (∀ k, k < i → (ps.getD k []).length ≤ 1024) → Chain 0 0 (recsX ep rs0 ps i)
  | 0, _, _ => by rw [recsX_zero]; exact hc
  | i + 1, hn, hp => by
    have ih := recsX_chain ps e0 e1 h0 hc i (by omega) fun k hk => hp k (by omega)
    have he := recsX_ep (rs0 := rs0) ps i e0 e1 h0 (by omega)
    rw [recsX_succ, chain_app]
    refine ⟨ih, ?_⟩
    unfold recX
    rw [recsX_len]
    obtain ⟨p1, p2, p3⟩ := pack_of e0 e1 (show (0 : Int) ≤ ((rs0.length + i : Nat) : Int) by omega) (show ((rs0.length + i : Nat) : Int) ≤ 17592186044415 by omega)
    rw [epR_last] at he
    refine ⟨by rw [p3]; omega, by rw [p2]; exact he, by rw [p1]; omega, by rw [p1]; omega, hp i (by omega), trivial⟩
theorem since_live {w0 w : World} {T Lb : Nat} {most : Int} {rs : List Fr.Rc} {su : Int} {G : List (Nat × Obj)} (h : LiveAt w0 w T Lb most rs su G) (off m : Int) (o0 : -9223372036854775808 ≤ off) (o1 : off ≤ 9223372036854775807) (m0 : -9223372036854775808 ≤ m) (m1 : m ≤ 9223372036854775807) :
    Calls Tryz.prog 19 #[.pointer (some ⟨Lb, 0, none⟩), .int .i64 off, .int .i64 m] w (SincePost w ((rs.drop (max off 0).toNat).take m.toNat)) := by
  obtain ⟨s, l, P, sa, sc, ra, rc, H, L, _⟩ := h
  have := since_w H off m o0 o1 m0 m1
  have e : Wl.sinceV l off m = (rs.drop (max off 0).toNat).take m.toNat := by
    unfold Wl.sinceV Wl.sinceD
    rw [L.first, L.recs, Int.sub_zero]
  rwa [e] at this
theorem OwnR.row {w : World} {base : Nat} {A : Option Addr} {cap : Nat} {l : List Fr.Rc} (h : OwnR w base A cap l) {i : Nat} (hi : i < l.length) :
    ∃ g Ai ci, A = some ⟨g, 0, none⟩ ∧ w.cell? ⟨g, i * 2, none⟩ = some (.int .u64 (l.getD i (0, [])).1) ∧ w.cell? ⟨g, i * 2 + 1, none⟩ = some (.slice Ai (l.getD i (0, [])).2.length ci) ∧ Hid (OwnB w base Ai ci (l.getD i (0, [])).2) := by
  obtain ⟨vs, h1, h2, h3⟩ := h
  obtain ⟨g, e, _, _⟩ := h2.shape (by omega)
  subst e
  have hc := h2.cell (undef, undef) (i := i) (by omega)
  obtain ⟨r1, Ai, ci, r2, r3⟩ := h3 i hi
  rw [r1, r2] at hc
  exact ⟨g, Ai, ci, rfl, hc.1, hc.2, Lib.hid r3⟩
end Go.Proofs.YtdbhicifjljjnaaGreatDoor
/-
  The plain side of Cut: what of the parts stays, with and without a fuse.
-/
namespace Go.Proofs.YtdbhicifjljjnaaGreatDoor
open Go.RowKit St
def partD : Part := ([], 0)
theorem part_take {P : List Part} {n : Nat} (h : n < P.length) : P.take (n + 1) = P.take n ++ [P.getD n partD] := by
  rw [List.take_add_one, List.getElem?_eq_getElem h, List.getD_eq_getElem?_getD, List.getElem?_eq_getElem h]; rfl
theorem segsV_get : ∀ (P : List Part) (f : Int) (i : Nat), i < P.length → (segsV f P).getD i (0, 0) = (f + (cntP (P.take i) : Nat), ((codeV (P.getD i partD).1).length : Int))
  | [], _, _, h => by simp at h
  | p :: r, f, 0, _ => by simp [segsV, cntP]
  | p :: r, f, i + 1, h => by
    have ih := segsV_get r (f + p.1.length) i (by simpa using h)
    have e1 : (segsV f (p :: r)).getD (i + 1) (0, 0) = (segsV (f + p.1.length) r).getD i (0, 0) := by
      show ((f, _) :: segsV (f + p.1.length) r).getD (i + 1) (0, 0) = _
      rw [List.getD_cons_succ]
    rw [e1, ih]
    have e2 : cntP ((p :: r).take (i + 1)) = p.1.length + cntP (r.take i) := by rw [List.take_succ_cons]; rfl
    rw [e2, List.getD_cons_succ]
    have : f + (p.1.length : Int) + (cntP (r.take i) : Nat) = f + ((p.1.length + cntP (r.take i) : Nat) : Int) := by omega
    rw [this]
theorem sorted_del_last {P : List Part} {p : Part} {s : S} (hf : s.fs = filesV 0 (P ++ [p])) (hs : Sorted s.fs) : del (nmS (cntP P : Nat)) s.fs = filesV 0 P ∧ find (nmS (cntP P : Nat)) s.fs = some ⟨nmS (cntP P : Nat), codeV p.1, p.2⟩ := by
  have e : s.fs = filesV 0 P ++ ⟨nmS (cntP P : Nat), codeV p.1, p.2⟩ :: [] := by rw [hf, filesV_snoc, Int.zero_add]
  rw [e] at hs ⊢
  refine ⟨?_, find_mem (f := ⟨nmS (cntP P : Nat), codeV p.1, p.2⟩) hs (by simp)⟩
  have := del_mid (f := ⟨nmS (cntP P : Nat), codeV p.1, p.2⟩) hs
  rwa [List.append_nil] at this
theorem fnd_ok {s : S} {f : Int} {x : F} (ho : s.off = false) (h : find (nmS f) s.fs = some x) : fnd s (nmS f) [nmS f] = 0 := by
  have hc : chk s [nmS f] = 0 := by
    unfold chk
    rw [ho]
    have := good_name f
    simp [nmS, this]
  unfold fnd
  rw [if_neg (by rw [hc]; simp), h]; rfl
theorem act_go {s : S} (l : List F) (hf : s.fuse ≠ 1) : actE s 0 = 0 ∧ actS s 0 l = { s with fs := l, fuse := s.fuse - 1 } := by
  unfold actE St.actS
  simp [hf]
theorem act_blow {s : S} (l : List F) (hf : s.fuse = 1) : actE s 0 = 11 ∧ actS s 0 l = crash { s with fuse := 0 } s.keep := by
  unfold actE St.actS
  simp [hf]
theorem drop_last {P : List Part} {p : Part} {s : S} (hf : s.fs = filesV 0 (P ++ [p])) (hs : Sorted s.fs) (ho : s.off = false) :
    (s.fuse ≠ 1 → dropE1 (cntP P : Nat) s = 0 ∧ dropS1 (cntP P : Nat) s = { s with fs := filesV 0 P, fuse := s.fuse - 1 }) ∧ (s.fuse = 1 → dropE1 (cntP P : Nat) s = 11 ∧ dropS1 (cntP P : Nat) s = crash { s with fuse := 0 } s.keep) := by
  obtain ⟨h1, h2⟩ := sorted_del_last hf hs
  have h3 := fnd_ok ho h2
  unfold dropE1 dropS1
  rw [h3, h1]
  exact ⟨fun h => act_go _ h, fun h => act_blow _ h⟩
/-- What the loop of Cut leaves. -/
def DropOk (P0 : List Part) (off : Int) (n : Nat) (s : S) (d : Nat × S × Int) : Prop :=
  0 < d.1 ∧ d.1 ≤ n ∧ (∀ i, d.1 ≤ i → i < n → off ≤ (cntP (P0.take i) : Nat)) ∧
  ((d.2.2 = 0 ∧ ((cntP (P0.take (d.1 - 1)) : Nat) : Int) ≤ max off 0 ∧ d.2.1 = { s with fs := filesV 0 (P0.take d.1), fuse := s.fuse - (n - d.1) } ∧ (s.fuse = 0 ∨ n - d.1 < s.fuse)) ∨
   (d.2.2 = 11 ∧ s.fuse ≠ 0 ∧ d.2.1 = crash { s with fs := filesV 0 (P0.take d.1), fuse := 0 } s.keep))
theorem dropC_fit {l : Wl.L} {P0 : List Part} {off : Int} (hl : l.segs = segsV 0 P0) : ∀ (n : Nat) (s : S), 0 < n → n ≤ P0.length → s.fs = filesV 0 (P0.take n) → Sorted s.fs → s.off = false → DropOk P0 off n s (dropC l off n s)
  | 0, _, h, _, _, _, _ => by omega
  | 1, s, _, hn, hf, hs, ho => by
    refine ⟨Nat.one_pos, Nat.le_refl _, fun i h1 h2 => by have : (dropC l off 1 s).1 = 1 := rfl; omega, .inl ⟨rfl, ?_, ?_, by show s.fuse = 0 ∨ 1 - 1 < s.fuse; omega⟩⟩
    · show ((cntP (P0.take (1 - 1)) : Nat) : Int) ≤ _
      simp [cntP]
      omega
    · show s = { s with fs := filesV 0 (P0.take 1), fuse := s.fuse - (1 - 1) }
      rw [← hf, Nat.sub_self]; rfl
  | n + 2, s, _, hn, hf, hs, ho => by
    have hg : (segI l (n + 1)).1 = (cntP (P0.take (n + 1)) : Nat) := by
      unfold segI
      rw [hl, segsV_get P0 0 (n + 1) (by omega)]
      show 0 + _ = _
      omega
    have hd : dropC l off (n + 2) s = if off ≤ (segI l (n + 1)).1 then
        (if dropE1 (segI l (n + 1)).1 s ≠ 0 then (n + 2, dropS1 (segI l (n + 1)).1 s, dropE1 (segI l (n + 1)).1 s) else dropC l off (n + 1) (dropS1 (segI l (n + 1)).1 s))
      else (n + 2, s, 0) := by rw [dropC]
    rw [hd, hg]
    have hf2 : s.fs = filesV 0 (P0.take (n + 1) ++ [P0.getD (n + 1) partD]) := by rw [hf, part_take (by omega)]
    obtain ⟨k1, k2⟩ := drop_last hf2 hs ho
    by_cases hle : off ≤ (cntP (P0.take (n + 1)) : Nat)
    · rw [if_pos hle]
      by_cases hz : s.fuse = 1
      · obtain ⟨e1, e2⟩ := k2 hz
        rw [if_pos (by rw [e1]; decide), e1, e2]
        refine ⟨by simp, Nat.le_refl _, fun i h1 h2 => by have h3 : n + 2 ≤ i := h1; omega, .inr ⟨rfl, by omega, ?_⟩⟩
        show crash { s with fuse := 0 } s.keep = crash { s with fs := filesV 0 (P0.take (n + 2)), fuse := 0 } s.keep
        rw [← hf]
      · obtain ⟨e1, e2⟩ := k1 hz
        rw [if_neg (by rw [e1]; simp), e2]
        have hs2 : Sorted (filesV 0 (P0.take (n + 1))) := by
          have := hf2
          rw [this, filesV_snoc] at hs
          exact (sorted_app hs).1
        obtain ⟨i1, i2, i3, i4⟩ := dropC_fit (off := off) hl (n + 1) { s with fs := filesV 0 (P0.take (n + 1)), fuse := s.fuse - 1 } (by omega) (by omega) rfl hs2 ho
        generalize dropC l off (n + 1) { s with fs := filesV 0 (P0.take (n + 1)), fuse := s.fuse - 1 } = d at *
        refine ⟨i1, by omega, fun i h1 h2 => ?_, ?_⟩
        · by_cases he : i = n + 1
          · subst he; exact hle
          · exact i3 i h1 (by omega)
        · rcases i4 with ⟨a1, a2, a3, a4⟩ | ⟨a1, a2, a3⟩
          · refine .inl ⟨a1, a2, ?_, ?_⟩
            · rw [a3]
              have : s.fuse - 1 - (n + 1 - d.1) = s.fuse - (n + 2 - d.1) := by omega
              show ({ s with fs := filesV 0 (P0.take d.1), fuse := s.fuse - 1 - (n + 1 - d.1) } : S) = _
              rw [this]
            · have a4 : s.fuse - 1 = 0 ∨ n + 1 - d.1 < s.fuse - 1 := a4
              omega
          · have a2 : s.fuse - 1 ≠ 0 := a2
            exact .inr ⟨a1, by omega, a3⟩
    · rw [if_neg hle]
      refine ⟨by simp, Nat.le_refl _, fun i h1 h2 => by have h3 : n + 2 ≤ i := h1; omega, .inl ⟨rfl, ?_, ?_, by show s.fuse = 0 ∨ n + 2 - (n + 2) < s.fuse; omega⟩⟩
      · show ((cntP (P0.take (n + 1)) : Nat) : Int) ≤ _
        omega
      · show s = { s with fs := filesV 0 (P0.take (n + 2)), fuse := s.fuse - (n + 2 - (n + 2)) }
        rw [← hf, Nat.sub_self]; rfl
end Go.Proofs.YtdbhicifjljjnaaGreatDoor
