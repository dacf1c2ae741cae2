/-
  Part 24 of the texts behind the law: WalName, WalSync, WalPush, WalOld, WalTwo, WalWrite.
-/
import Derived.Test.YtdbhicifjljjnaaGreatDoorMf18
import Derived.Test.YtdbhicifjljjnaaGreatDoorMf23
import Derived.Deep.LoopGhost
import Derived.Deep.CutRange
import Derived.Deep.CutBlock
/-
  A segment's name; all segments of a row synced.
-/
namespace Go.Proofs.YtdbhicifjljjnaaGreatDoor
open Go.RowKit St

set_option maxHeartbeats 1000000 in
theorem segname_any (f z : Int) (h0 : 0 ≤ f) (h1 : f ≤ 17592186044415) (w : World) (hF : Facts w) :
    Calls Tryz.prog 31 #[.agg #[.int .i64 f, .int .i64 z]] w fun e w' => e = .returned (.string (Sg.nameB f)) ∧ Hid (Below w.heap.size w w') := by
  have B1 : Hid (Below w.heap.size w (w.alloc (.cells #[.int .i64 f, .int .i64 z] 70))) := Lib.hid ((Below.refl _ _).alloc (Nat.le_refl _) _)
  have NM := Lib.hid (name_any f (w.alloc (.cells #[.int .i64 f, .int .i64 z] 70)) (hF.below B1.out))
  rw [(Sg.inO_iff f).2 ⟨h0, h1⟩, if_pos rfl] at NM
  generalize Sg.nameB f = nb at *
  clear hF
  go_enter Tryz.func31, Tryz.ntmps31
  go_wp2_with fail
  refine NM.out.mono ?_; rintro e w2 ⟨rfl, hb2⟩
  have B2 : Hid (Below w.heap.size w w2) := Lib.hid (B1.out.trans (hb2.out.mono B1.out.size))
  clear hb2
  go_wp2
  go_ret
  exact ⟨rfl, B2⟩
/-! ### A segment's name is a good one -/
theorem pad_hex (n f : Nat) : ∀ c ∈ Sg.pad n f, Sg.isHex c := by
  induction n generalizing f with
  | zero => intro c hc; simp [Sg.pad] at hc
  | succ n ih =>
    intro c hc
    unfold Sg.pad at hc
    rcases List.mem_append.1 hc with h | h
    · exact ih _ c h
    · simp at h; subst h; exact Sg.hexC_is _ (Nat.mod_lt _ (by decide))
theorem good_name (f : Int) : good (bs (Sg.nameB f)) = true := by
  have e : bs (Sg.nameB f) = Sg.nameL f.toNat := Sg.nameB_data f
  rw [e]
  unfold good
  have hl := Sg.nameL_len f.toNat
  simp only [hl, Bool.and_eq_true, decide_eq_true_eq, List.all_eq_true]
  refine ⟨by decide, by decide, fun c hc => ?_⟩
  unfold Sg.nameL at hc
  simp only [List.mem_cons] at hc
  rcases hc with rfl | rfl | hc
  · decide
  · decide
  · have h := pad_hex _ _ c hc
    unfold okB
    rcases h with h | h <;> simp <;> omega
/-! ### Synced, one after the other -/
def nmS (f : Int) : List UInt8 := bs (Sg.nameB f)
def syncE1 (f : Int) (s : S) : Int := actE s (fnd s (nmS f) [nmS f, nmS f])
def syncS1 (f : Int) (s : S) : S := actS s (fnd s (nmS f) [nmS f, nmS f]) (swapL s (nmS f) (nmS f))
def syncE : List (Int × Int) → S → Int
  | [], _ => 0
  | g :: r, s => if syncE1 g.1 s ≠ 0 then syncE1 g.1 s else syncE r (syncS1 g.1 s)
def syncS : List (Int × Int) → S → S
  | [], s => s
  | g :: r, s => if syncE1 g.1 s ≠ 0 then syncS1 g.1 s else syncS r (syncS1 g.1 s)
def RetI (er : Int) (e : Ending) : Prop := e = .returned (.int .i64 er)
theorem sync_w {w0 w : World} {T Lb : Nat} {s : S} {l : Wl.L} {G : List (Nat × Obj)} {sa : Option Addr} {sc : Nat} {ra : Option Addr} {rc : Nat} (h : WRun w0 w T Lb s l G sa sc ra rc) (f : Int) :
    Calls Tryz.prog 43 #[.pointer (some ⟨T, 0, none⟩), .string (Sg.nameB f)] w fun e w' => RetI (syncE1 f s) e ∧ Hid (WRun w0 w' T Lb (syncS1 f s) l G sa sc ra rc) :=
  w_prog h fun own ho hb p => sync_any T own s w p (Sg.nameB f) (by rw [Sg.nameB_size]; decide)
set_option maxRecDepth 20000 in
set_option maxHeartbeats 4000000 in
theorem syncAll_any {w0 w : World} {T Lb : Nat} {s : S} {l : Wl.L} {G : List (Nat × Obj)} {sa : Option Addr} {sc : Nat} {ra : Option Addr} {rc : Nat} (h : WRun w0 w T Lb s l G sa sc ra rc) (hF : Facts w0) (k n c : Nat) (A : Option Addr) (hk : k + n = l.segs.length) (hA : 0 < n → ∃ g, sa = some ⟨g, 0, none⟩ ∧ A = some ⟨g, k * 2, none⟩) :
    Calls Tryz.prog 29 #[.pointer (some ⟨Lb, 0, none⟩), .slice A n c] w fun e w' => RetI (syncE (l.segs.drop k) s) e ∧ Hid (WRun w0 w' T Lb (syncS (l.segs.drop k) s) l G sa sc ra rc) := by
  have H := Lib.hid h
  have HF := Lib.hid hF
  have hcn : (n : Int) ≤ 16777216 := by have := h.inv.2.segc; omega
  have HK := Lib.hid hk
  have HA := Lib.hid hA
  clear h hF hk hA
  go_enter Tryz.func29, Tryz.ntmps29
  go_wp2_with fail
  go_loopg [10] n (fun q iv wr => ∃ i : Nat, i ≤ n ∧ q = n - i ∧ iv = .int .i64 (i : Int) ∧ ∃ s2, Hid (WRun w0 wr T Lb s2 l G sa sc ra rc) ∧ Hid (syncE (l.segs.drop (k + i)) s2 = syncE (l.segs.drop k) s) ∧ Hid (syncS (l.segs.drop (k + i)) s2 = syncS (l.segs.drop k) s))
  case atStart => exact ⟨0, Nat.zero_le _, rfl, rfl, s, H, Lib.hid rfl, Lib.hid rfl⟩
  case round =>
    obtain ⟨i, hi, hq, rfl, s2, HR, HE, HS⟩ := hrel
    subst hq
    by_cases hlt : i < n
    · have hseg : k + i < l.segs.length := by have := HK.out; omega
      obtain ⟨g, hg, hAe⟩ := HA.out (by omega)
      obtain ⟨g', hg', d0, d1⟩ := seg_w HR.out hseg
      obtain rfl : g = g' := by rw [hg] at hg'; injection hg' with e; injection e
      subst hAe
      have DR : Hid (l.segs.drop (k + i) = l.segs.getD (k + i) (0, 0) :: l.segs.drop (k + (i + 1))) := Lib.hid (by
        rw [List.drop_eq_getElem_cons hseg, List.getD_eq_getElem?_getD, List.getElem?_eq_getElem hseg]; rfl)
      have FR := H.out.inv.2.first (l.segs.getD (k + i) (0, 0)) (by rw [List.getD_eq_getElem?_getD, List.getElem?_eq_getElem hseg]; exact List.getElem_mem _)
      have hlt' : (i : Int) < (n : Int) := by omega
      have hi0 : 0 ≤ (i : Int) := by omega
      replace d0 : wr.cell? ⟨g, k * 2 + i * 2, none⟩ = some (.int .i64 (l.segs.getD (k + i) (0, 0)).1) := by rw [show k * 2 + i * 2 = (k + i) * 2 by omega]; exact d0
      replace d1 : wr.cell? ⟨g, k * 2 + i * 2 + 1, none⟩ = some (.int .i64 (l.segs.getD (k + i) (0, 0)).2) := by rw [show k * 2 + i * 2 = (k + i) * 2 by omega]; exact d1
      generalize l.segs.getD (k + i) (0, 0) = sg at *
      obtain ⟨f, z⟩ := sg
      replace d0 : wr.cell? ⟨g, k * 2 + i * 2, none⟩ = some (.int .i64 f) := d0
      replace d1 : wr.cell? ⟨g, k * 2 + i * 2 + 1, none⟩ = some (.int .i64 z) := d1
      clear hg' hseg
      go_upto_region 4 with fail
      obtain ⟨bx, hbx⟩ : ∃ bx : Obj, bx = .cells #[.int .i64 f, .int .i64 z] 70 := ⟨_, rfl⟩
      have TB := Lib.hid (WRun.join HR.out (one_alloc wr bx) (Nat.le_refl _) (heap_alloc_new wr bx))
      rw [← hbx]
      have HBX := Lib.hid hbx
      clear hbx d0 d1
      generalize wr.alloc bx = wb at *
      generalize wr.heap.size = X at *
      have SC : Hid (∀ w' s', WRun w0 w' T Lb s' l ((X, bx) :: G) sa sc ra rc → w'.cell? ⟨Lb, 0, none⟩ = some (.pointer (some ⟨T, 0, none⟩)) ∧ w'.cell? ⟨X, 0, none⟩ = some (.int .i64 f) ∧ w'.cell? ⟨X, 1, none⟩ = some (.int .i64 z)) := Lib.hid fun W s' h => by
        have h1 := WRun.block h (g := (X, bx)) (by simp)
        rw [show (X, bx).1 = X from rfl, show (X, bx).2 = bx from rfl, HBX.out] at h1
        obtain ⟨⟨c0, _⟩, _⟩ := obj5 (obj_w h)
        exact ⟨c0, obj2P h1⟩
      have TBd := Lib.hid (WRun.drew TB.out)
      have NM := Lib.hid (segname_any f z FR.1 FR.2 wb.drew (HF.out.below (WRun.below TBd.out)))
      have SY := Lib.hid (fun (W : World) (h : WRun w0 W T Lb s2 l ((X, bx) :: G) sa sc ra rc) => sync_w h f)
      have ECA : Hid (syncE (l.segs.drop (k + i)) s2 = if syncE1 f s2 ≠ 0 then syncE1 f s2 else syncE (l.segs.drop (k + (i + 1))) (syncS1 f s2)) := Lib.hid (by rw [DR.out]; rfl)
      have ESA : Hid (syncS (l.segs.drop (k + i)) s2 = if syncE1 f s2 ≠ 0 then syncS1 f s2 else syncS (l.segs.drop (k + (i + 1))) (syncS1 f s2)) := Lib.hid (by rw [DR.out]; rfl)
      rw [ECA.out] at HE
      rw [ESA.out] at HS
      clear DR ECA ESA
      generalize syncE1 f s2 = er at *
      generalize syncS1 f s2 = s5 at *
      generalize Sg.nameB f = nb at *
      go_region_held3 (fun w' => w'.cell? ⟨Lb, 0, none⟩ = some (.pointer (some ⟨T, 0, none⟩)) ∧ w'.cell? ⟨X, 0, none⟩ = some (.int .i64 f) ∧ w'.cell? ⟨X, 1, none⟩ = some (.int .i64 z)) ((first | exact SC.out _ _ TBd.out | exact SC.out _ _ T3.out | exact SC.out _ _ T4.out | go_keep))
        (first
          | (go_simp; go_at_call 31; (with_reducible refine NM.out.mono ?_); rintro e w3 ⟨rfl, b3⟩; have T3 := Lib.hid (WRun.grow TBd.out b3.out))
          | (go_simp; go_at_call 43; (with_reducible refine (SY.out _ T3.out).mono ?_); rintro e w4 ⟨rfl, T4⟩))
      all_goals
        have T5 := Lib.hid (WRun.fewer T4.out (G' := G) fun g hg => by simp [hg])
        by_cases he : er = 0
        · rw [if_neg (by simp [he])] at HE HS
          subst he
          go_wp2
          go_roundg (n - (i + 1))
          case measure => omega
          case rel => exact ⟨i + 1, hlt, rfl, by go_num, s5, T5, HE, HS⟩
        · rw [if_pos he] at HE HS
          have hne : (er != 0) = true := by simpa using he
          go_wp2
          go_ret
          refine ⟨?_, ?_⟩
          · rw [← HE.out]; rfl
          · rw [← HS.out]; exact T5
    · have e : i = n := by omega
      subst e
      have DN : Hid (l.segs.drop (k + i) = []) := Lib.hid (List.drop_eq_nil_of_le (by have := HK.out; omega))
      rw [DN.out] at HE HS
      have hge : ¬ (i : Int) < (i : Int) := by omega
      go_wp2
      go_ret
      refine ⟨?_, ?_⟩
      · rw [← HE.out]; rfl
      · rw [← HS.out]; exact HR
end Go.Proofs.YtdbhicifjljjnaaGreatDoor
/-
  Sync.
-/
namespace Go.Proofs.YtdbhicifjljjnaaGreatDoor
open Go.RowKit St

theorem wal_block {w : World} {base : Nat} {T : TypeId} {a : Addr} {cap : Nat} {vs : List (Value × Value)} (h : OwnP w base T (some a) cap vs) : ∃ cur, w.heap[a.block]? = some (.cells cur T (0, 0)) := by
  rcases h.2 with ⟨e, _⟩ | ⟨g, c', cur, e, _, hg, _⟩
  · cases e
  · injection e with e1 _ _
    injection e1 with e1
    subst e1
    exact ⟨cur, hg⟩
/-- The last segment whose first offset is at most that. -/
def looseN (sure : Int) : List (Int × Int) → Nat
  | [] => 0
  | _ :: r => if r.any (fun x => decide (x.1 ≤ sure)) then looseN sure r + 1 else 0
theorem loose_at (sure : Int) : ∀ (l : List (Int × Int)) (j : Nat), j < l.length → (l.getD j (0, 0)).1 ≤ sure → (∀ i, j < i → i < l.length → ¬ (l.getD i (0, 0)).1 ≤ sure) → looseN sure l = j
  | [], j, h, _, _ => by simp at h
  | g :: r, 0, _, _, h2 => by
    unfold looseN
    rw [if_neg]
    simp only [List.any_eq_true, decide_eq_true_eq, not_exists, not_and]
    intro x hx hle
    obtain ⟨i, hi, rfl⟩ := List.getElem_of_mem hx
    refine h2 (i + 1) (by omega) (by simpa using hi) ?_
    rw [List.getD_eq_getElem?_getD, List.getElem?_cons_succ, List.getElem?_eq_getElem hi]
    exact hle
  | g :: r, j + 1, h, h1, h2 => by
    have hj : j < r.length := by simpa using h
    have h1' : (r.getD j (0, 0)).1 ≤ sure := by simpa using h1
    have ih := loose_at sure r j hj h1' fun i hi hil => by
      have := h2 (i + 1) (by omega) (by simpa using hil)
      simpa using this
    unfold looseN
    rw [if_pos, ih]
    simp only [List.any_eq_true, decide_eq_true_eq]
    refine ⟨r[j], List.getElem_mem hj, ?_⟩
    rw [List.getD_eq_getElem?_getD, List.getElem?_eq_getElem hj] at h1'
    exact h1'
def tail2 (A : Option Addr) (cap k : Nat) : Option Addr := if cap = k then A else A.map (·.add (k * 2))
theorem sizeG (W : World) : (sizeOf 70).run Tryz.prog W = .ok 2 W := by kernel_rfl
theorem elemG : Tryz.prog.elem 55 = 70 := by kernel_rfl
theorem undG : Tryz.prog.underlying 55 = some (.slice (Tryz.prog.elem 55)) := by rw [elemG]; exact Tryz.underlying55
theorem slice_fromG (A : Option Addr) (n cap k : Nat) (h : k ≤ n) (ik : IntKind) (W : World) :
    (Instr.slice 55 (.slice A n cap) (some (.int ik (k : Int))) none none).run Tryz.prog W = .ok (.slice (tail2 A cap k) (n - k) (cap - k)) W := by
  rw [run_slice_l (P := Tryz.prog) (w := W) 55 A n cap undG ik k (by omega) (by omega), elemG, sizeG]
  simp [Result.andThen, sliced, tail2]
theorem WRun.cap {w0 w : World} {T Lb : Nat} {s : S} {l : Wl.L} {G : List (Nat × Obj)} {sa : Option Addr} {sc : Nat} {ra : Option Addr} {rc : Nat} (h : WRun w0 w T Lb s l G sa sc ra rc) : l.segs.length ≤ sc := by
  obtain ⟨_, _, _, q, _⟩ := h
  have hs := q.segs
  unfold OwnP at hs
  rw [segV_len] at hs
  rcases hs.2 with ⟨e, h0⟩ | ⟨g, c', cur, e, _, _, hle, _⟩
  · omega
  · injection e with _ _ e3
    omega
/-- How far a log is durable, stored. -/
theorem LM.sured {w : World} {Lb T : Nat} {O : Nat → Prop} {l : Wl.L} {sa : Option Addr} {sc : Nat} {ra : Option Addr} {rc : Nat} (h : LM w Lb T O l sa sc ra rc) (v : Int) (h0 : 0 ≤ v) (h1 : v ≤ 17609365913600) : LM (w.setCell ⟨Lb, 4, none⟩ (.int .i64 v)) Lb T O { l with sure := v } sa sc ra rc := by
  have hkb : ∀ k, k ≠ Lb → (w.setCell ⟨Lb, 4, none⟩ (.int .i64 v)).heap[k]? = w.heap[k]? := fun k hk => Below.heap_setCell _ _ _ _ hk
  have o4 := obj_set (o := 4) h.obj (.int .i64 v)
  obtain ⟨vs, r1, r2, r3, r4⟩ := h.recs
  have nb : ∀ {A : Option Addr} {cap : Nat} {zs : List Int}, OwnB w 0 A cap zs → ∀ a, A = some a → a.block ≠ Lb := fun hb a ha => by
    subst ha
    obtain ⟨cur, hc⟩ := hb.block
    exact type_ne hc h.obj (by decide)
  have np : ∀ {T' : TypeId} {A : Option Addr} {cap : Nat} {us : List (Value × Value)}, OwnP w 0 T' A cap us → T' ≠ 57 → ∀ a, A = some a → a.block ≠ Lb := fun hb ht a ha => by
    subst ha
    obtain ⟨cur, hc⟩ := wal_block hb
    exact type_ne hc h.obj ht
  refine ⟨?_, h.segs.keep fun a ha => hkb _ (np h.segs (by decide) a ha), ⟨vs, r1, r2.keep fun a ha => hkb _ (np r2 (by decide) a ha), r3, fun i hi => ?_⟩, h.ownL, h.ownS, fun k hk => by have := h.lt k hk; simpa [World.setCell] using this, ⟨h.inv.most, h.inv.first, h.inv.size, h.inv.count, h.inv.segc, h.inv.at_, h.inv.pay, h.inv.none_, h0, h1⟩⟩
  · rw [o4]; simp
  · obtain ⟨q1, A, cap, q2, q3, q4⟩ := r4 i hi
    exact ⟨q1, A, cap, q2, q3.keep fun a ha => hkb _ (nb q3 a ha), q4⟩
def lsyncE (s : S) (l : Wl.L) : Int := if s.off then 11 else if l.sure = Wl.endV l then 0 else syncE (l.segs.drop (looseN l.sure l.segs)) s
def lsyncS (s : S) (l : Wl.L) : S := if s.off then s else if l.sure = Wl.endV l then s else syncS (l.segs.drop (looseN l.sure l.segs)) s
def lsyncL (s : S) (l : Wl.L) : Wl.L := if lsyncE s l = 0 then { l with sure := Wl.endV l } else l
set_option maxRecDepth 20000 in
set_option maxHeartbeats 4000000 in
theorem lsync_any {w0 w : World} {T Lb : Nat} {s : S} {l : Wl.L} {G : List (Nat × Obj)} {sa : Option Addr} {sc : Nat} {ra : Option Addr} {rc : Nat} (h : WRun w0 w T Lb s l G sa sc ra rc) (hF : Facts w0) (hex : l.sure ≠ Wl.endV l → ∃ j, j < l.segs.length ∧ (l.segs.getD j (0, 0)).1 ≤ l.sure) :
    Calls Tryz.prog 10 #[.pointer (some ⟨Lb, 0, none⟩)] w fun e w' => RetI (lsyncE s l) e ∧ Hid (WRun w0 w' T Lb (lsyncS s l) (lsyncL s l) G sa sc ra rc) := by
  have H := Lib.hid h
  have HF := Lib.hid hF
  have OF := Lib.hid (off_w h)
  obtain ⟨⟨c0, c1, c2, c3, c4⟩, _⟩ := obj5 (obj_w h)
  cases ho : s.off with
  | true =>
    have E1 : Hid (lsyncE s l = 11) := Lib.hid (by unfold lsyncE; rw [if_pos ho])
    have E2 : Hid (lsyncS s l = s) := Lib.hid (by unfold lsyncS; rw [if_pos ho])
    have E3 : Hid (lsyncL s l = l) := Lib.hid (by unfold lsyncL; rw [E1.out, if_neg (by decide)])
    rw [E1.out, E2.out, E3.out]
    rw [ho] at OF
    clear h hex E1 E2 E3
    go_enter Tryz.func10, Tryz.ntmps10
    go_wp2_with fail
    refine OF.out.mono ?_; rintro e w' ⟨rfl, rfl⟩
    go_wp2
    go_ret
    exact ⟨rfl, H⟩
  | false =>
    rw [ho] at OF
    have EK : Hid (∀ k, Calls Tryz.prog 12 #[.pointer (some ⟨Lb, 0, none⟩)] (w.drewN k) fun e w' => e = .returned (.int .i64 (Wl.endV l)) ∧ ∃ j, w' = w.drewN j) := Lib.hid (fun k => (end_w (WRun.draw h k)).mono fun _ _ ⟨h1, j, h2⟩ => ⟨h1, k + j, h2.trans (drewN_drewN _ _ _)⟩)
    by_cases hs : l.sure = Wl.endV l
    · have E1 : Hid (lsyncE s l = 0) := Lib.hid (by unfold lsyncE; rw [if_neg (by simp [ho]), if_pos hs])
      have E2 : Hid (lsyncS s l = s) := Lib.hid (by unfold lsyncS; rw [if_neg (by simp [ho]), if_pos hs])
      have E3 : Hid (lsyncL s l = l) := Lib.hid (by unfold lsyncL; rw [E1.out, if_pos rfl, ← hs])
      rw [E1.out, E2.out, E3.out]
      clear hex E1 E2 E3
      rw [hs] at c4
      clear hs h
      generalize Wl.endV l = ev at *
      go_enter Tryz.func10, Tryz.ntmps10
      go_wp2_with fail
      refine OF.out.mono ?_; rintro e w' ⟨rfl, rfl⟩
      go_wp2_with fail
      go_quiet ((go_at_call 12; exact EK.out _))
      go_wp2
      go_ret
      exact ⟨rfl, Lib.hid (WRun.draw H.out _)⟩
    · obtain ⟨j0, hj0, hj1⟩ := hex hs
      have E1 : Hid (lsyncE s l = syncE (l.segs.drop (looseN l.sure l.segs)) s) := Lib.hid (by unfold lsyncE; rw [if_neg (by simp [ho]), if_neg hs])
      have E2 : Hid (lsyncS s l = syncS (l.segs.drop (looseN l.sure l.segs)) s) := Lib.hid (by unfold lsyncS; rw [if_neg (by simp [ho]), if_neg hs])
      rw [E2.out]
      have HJ0 := Lib.hid hj0
      have HJ1 := Lib.hid hj1
      have EV : Hid (∃ ev, ev = Wl.endV l) := Lib.hid ⟨_, rfl⟩
      have hsc : (l.segs.length : Int) ≤ 16777216 := by have := h.inv.2.segc; omega
      have hsp : 0 < (l.segs.length : Int) := by omega
      have hne : (l.sure == Wl.endV l) = false := by simpa using hs
      clear hex h hj1 hj0
      go_enter Tryz.func10, Tryz.ntmps10
      go_wp2_with fail
      refine OF.out.mono ?_; rintro e w' ⟨rfl, rfl⟩
      go_wp2_with fail
      go_quiet ((go_at_call 12; exact EK.out _))
      have HQ := Lib.hid (WRun.draw H.out nq)
      generalize w.drewN nq = wq at *
      obtain ⟨⟨e0, e1, e2, e3, e4⟩, _⟩ := obj5 (obj_w HQ.out)
      clear c0 c1 c2 c3 c4 EK OF
      obtain ⟨n, hn⟩ : ∃ n, n = l.segs.length := ⟨_, rfl⟩
      rw [← hn] at e2 hsc hsp
      have HN := Lib.hid hn
      obtain ⟨su, hsu⟩ : ∃ su, su = l.sure := ⟨_, rfl⟩
      rw [← hsu] at e4
      have SU := Lib.hid hsu
      clear hn hsu hne hs
      go_upto_block 0 with fail
      go_cut [3] from 23 to 37 (fun iv wx => ∃ j : Nat, iv = .int .i64 (j : Int) ∧ Hid (j < n) ∧ Hid (looseN su l.segs = j) ∧ Hid (WRun w0 wx T Lb s l G sa sc ra rc))
      case first =>
        have hm1 : IntKind.i64.wrap ((n : Int) - 1) = (n : Int) - 1 := IntWalk.i64_in _ (by omega)
        go_wp2_with fail
        go_loopg [3] (n - 1) (fun q iv wr => ∃ j : Nat, q = j ∧ iv = .int .i64 (j : Int) ∧ j < n ∧ Hid (∀ i, j < i → i < l.segs.length → ¬ (l.segs.getD i (0, 0)).1 ≤ su) ∧ Hid (WRun w0 wr T Lb s l G sa sc ra rc))
        case atStart => exact ⟨n - 1, rfl, congrArg _ (by omega), by omega, Lib.hid fun i hi hil => by have := HN.out; omega, HQ⟩
        case round =>
          obtain ⟨j, hq, rfl, hj, HU, HR⟩ := hrel
          have hq' := hq.symm
          subst hq'
          have hjl : j < l.segs.length := by rw [← HN.out]; exact hj
          obtain ⟨g, hg, d0, _⟩ := seg_w HR.out hjl
          obtain ⟨⟨_, _, f2, _, f4⟩, _⟩ := obj5 (obj_w HR.out)
          rw [← HN.out] at f2
          rw [← SU.out] at f4
          subst hg
          have hj' : (j : Int) < (n : Int) := by omega
          have hj0 : 0 ≤ (j : Int) := by omega
          by_cases hle : (l.segs.getD j (0, 0)).1 ≤ su
          · have LO := Lib.hid (loose_at su l.segs j hjl hle HU.out)
            generalize (l.segs.getD j (0, 0)).1 = f at *
            have hd : decide (su < f) = false := by simp; omega
            go_wp2
            go_quiet (fail)
            have HR2 := Lib.hid (WRun.draw HR.out nq)
            go_wp2
            go_meet
            exact ⟨j, rfl, Lib.hid hj, LO, HR2⟩
          · have hj1 : 0 < j := by
              rcases Nat.eq_zero_or_pos j with h0 | h0
              · exfalso
                by_cases he : j0 = j
                · subst he; exact hle (by rw [SU.out]; exact HJ1.out)
                · exact HU.out j0 (by omega) HJ0.out (by rw [SU.out]; exact HJ1.out)
              · exact h0
            have HU2 : Hid (∀ i, j - 1 < i → i < l.segs.length → ¬ (l.segs.getD i (0, 0)).1 ≤ su) := Lib.hid fun i hi hil => by
              by_cases he : i = j
              · subst he; exact hle
              · exact HU.out i (by omega) hil
            generalize (l.segs.getD j (0, 0)).1 = f at *
            have hd : decide (su < f) = true := by simp; omega
            go_wp2
            go_quiet (fail)
            have HR2 := Lib.hid (WRun.draw HR.out nq)
            go_wp2
            go_roundg (j - 1)
            case measure => omega
            case rel => exact ⟨j - 1, rfl, by go_num, by omega, HU2, HR2⟩
      case rest =>
        obtain ⟨j, rfl, HJ, HLO, HX⟩ := hcut
        obtain ⟨⟨_, _, f2, _, f4⟩, _⟩ := obj5 (obj_w HX.out)
        rw [← HN.out] at f2
        have hcap := WRun.cap HX.out
        have hjn := HJ.out
        have hs2 := fun W => slice_fromG sa n sc j (by omega) .i64 W
        have SA := Lib.hid (syncAll_any HX.out HF.out j (n - j) (sc - j) (tail2 sa sc j) (by have := HN.out; omega) (fun _ => by
          obtain ⟨g, hg, _⟩ := seg_w HX.out (i := j) (by rw [← HN.out]; exact hjn)
          subst hg
          refine ⟨g, rfl, ?_⟩
          unfold tail2
          rw [if_neg (by have := HN.out; omega)]
          simp only [Option.map_some, Addr.add]
          simp
          intro h
          omega))
        have EE : Hid (lsyncE s l = syncE (l.segs.drop j) s) := Lib.hid (by rw [E1.out, ← HLO.out, SU.out])
        have ES : Hid (syncS (l.segs.drop (looseN l.sure l.segs)) s = syncS (l.segs.drop j) s) := Lib.hid (by rw [← HLO.out, SU.out])
        have EL : Hid (lsyncL s l = if syncE (l.segs.drop j) s = 0 then { l with sure := Wl.endV l } else l) := Lib.hid (by unfold lsyncL; rw [EE.out])
        clear hcap hjn E1 E2
        generalize syncE (l.segs.drop j) s = er at *
        generalize syncS (l.segs.drop j) s = s2 at *
        go_wp2_with fail
        refine SA.out.mono ?_; rintro e w3 ⟨rfl, T3⟩
        by_cases he : er = 0
        · subst he
          rw [if_pos rfl] at EL
          obtain ⟨⟨_, _, _, _, g4⟩, _, _, _, _, z4⟩ := obj5 (obj_w T3.out)
          have EN := Lib.hid (end_w T3.out)
          go_wp2_with fail
          refine EN.out.mono ?_; rintro e w4 ⟨rfl, t, rfl⟩
          have T4 := Lib.hid (WRun.draw T3.out t)
          have IE := Lib.hid (T3.out.inv.2.end_)
          have T5 : Hid (WRun w0 ((w3.drewN t).setCell ⟨Lb, 4, none⟩ (.int .i64 (Wl.endV l))) T Lb s2 { l with sure := Wl.endV l } G sa sc ra rc) := Lib.hid (w_log T4.out fun O hO q => ⟨O, q.sured _ IE.out.1 (by have := IE.out.2; omega), Only.set O 4 _ _ q.ownL, fun _ h => .inl h⟩)
          go_wp2
          go_ret
          refine ⟨?_, ?_⟩
          · rw [EE.out]; rfl
          · rw [ES.out, EL.out]; exact T5
        · rw [if_neg he] at EL
          have hne : (er != 0) = true := by simpa using he
          go_wp2
          go_ret
          refine ⟨?_, ?_⟩
          · rw [EE.out]; rfl
          · rw [ES.out, EL.out]; exact T3
end Go.Proofs.YtdbhicifjljjnaaGreatDoor
/-
  One record, one segment more in a log's rows: where the row lies then; the log with it.
-/
namespace Go.Proofs.YtdbhicifjljjnaaGreatDoor
open Go.RowKit St

/-- An append of one pair, and where the row lies then: in its old block, or in the one that was just made. -/
theorem run_appP3 {w : World} {base : Nat} {T ST : TypeId} {A : Option Addr} {cap : Nat} {vs : List (Value × Value)} {z x y : Value} {by_ : Nat} (hST : Tryz.prog.underlying ST = some (.slice T))
    (hI : (Tryz.prog.info? T).map (fun i => (i.zero, i.size, i.bytes)) = some (some z, 2, by_)) (hz : z.cells.size = 2) (hby : by_ ≤ 64)
    (h : OwnP w base T A cap vs) (hbase : base ≤ w.heap.size) {b2 : Nat} (hx : w.cell? ⟨b2, 0, none⟩ = some x) (hy : w.cell? ⟨b2, 1, none⟩ = some y) (hx1 : x.oneCell' = true) (hy1 : y.oneCell' = true) (c : Nat)
    (hlen : vs.length ≤ 1000000000) (ty : TypeId) :
    ∃ A' cap' w', (Builtin.append_ #[ST, ST] ty #[.slice A vs.length cap, .slice (some ⟨b2, 0, none⟩) 1 c]).run Tryz.prog w = .ok (.slice A' (vs ++ [(x, y)]).length cap') w' ∧
      OwnP w' base T A' cap' (vs ++ [(x, y)]) ∧ w.grownBy w' (Value.slice A vs.length cap).ownBlock ∧ ∀ a, A' = some a → (∃ a0, A = some a0 ∧ a.block = a0.block) ∨ a.block = w.heap.size := by
  obtain ⟨i, hi, hz0, hs, hyb⟩ := info_parts hI
  obtain ⟨v', w', hrun, hown, hg, _, hwh⟩ := run_append_own_at (P := Tryz.prog) (w := w) base ST ty T i z 2 by_ hST hi hz0 hs hyb hz (by decide)
    _ vs.length _ h ⟨b2, 0, none⟩ 1 c [x, y] rfl (fun j u hu => by
      rw [add_off, Nat.zero_add]
      match j, hu with
      | 0, hu => simp at hu; rw [← hu]; exact hx
      | 1, hu => simp at hu; rw [← hu]; exact hy
      | j + 2, hu => simp at hu) (fun u hu => by
      simp at hu
      rcases hu with rfl | rfl
      · exact hx1
      · exact hy1) (by unfold maxLen; omega) (by
      have h1 : (vs.length + 1) * by_ ≤ 1000000001 * 64 := Nat.mul_le_mul (by omega) hby
      omega) hbase
  obtain ⟨A', cap', rfl⟩ := form_of2 hown
  have e : vs.length + 1 = (vs ++ [(x, y)]).length := by simp
  rw [e] at hrun hown
  refine ⟨A', cap', w', hrun, ?_, hg, fun a ha => ?_⟩
  · unfold OwnP
    rw [flat2_app]
    exact hown
  · subst ha
    rcases hwh with h1 | h1
    · cases A with
      | none => simp [Value.ownBlock] at h1
      | some a0 => simp [Value.ownBlock] at h1; exact .inl ⟨a0, rfl, h1⟩
    · simp [Value.ownBlock] at h1; exact .inr h1
/-- One record more. -/
theorem LM.push_rec {w w4 w5 : World} {Lb T : Nat} {O : Nat → Prop} {l : Wl.L} {sa : Option Addr} {sc : Nat} {ra : Option Addr} {rc : Nat} (h : LM w Lb T O l sa sc ra rc) (hb : Below w.heap.size w w4)
    {vs : List (Value × Value)} (hvl : vs.length = l.recs.length) (hv : ∀ i, i < l.recs.length → RecO w O (vs.getD i (undef, undef)) (l.recs.getD i (0, [])))
    {at_ : Int} {p : List Int} {A3 : Option Addr} {c3 n : Nat} (hn : n = p.length) (hp : OwnB w4 w.heap.size A3 c3 p) {A5 : Option Addr} {c5 : Nat}
    (h5 : OwnP w5 0 40 A5 c5 (vs ++ [(.int .u64 at_, .slice A3 n c3)])) (hg : w4.grownBy w5 (Value.slice ra vs.length rc).ownBlock) (hw : ∀ a, A5 = some a → (∃ a0, ra = some a0 ∧ a.block = a0.block) ∨ a.block = w4.heap.size)
    (hro : ∀ a, ra = some a → O a.block) (hrw : OwnP w 0 40 ra rc vs) (hinv : Wl.Inv { l with recs := l.recs ++ [(at_, p)] }) :
    ∃ O', LM (w5.setCell ⟨Lb, 3, none⟩ (.slice A5 (l.recs.length + 1) c5)) Lb T O' { l with recs := l.recs ++ [(at_, p)] } sa sc A5 c5 ∧ Step O O' w (w5.setCell ⟨Lb, 3, none⟩ (.slice A5 (l.recs.length + 1) c5)) := by
  subst hn
  have hLt := h.lt Lb h.ownL
  have hA3 : ∀ a, A3 = some a → w.heap.size ≤ a.block ∧ a.block < w4.heap.size := fun a ha => by subst ha; exact OwnB.lt hp
  -- a block that is not the row's is as it was
  have keep5 : ∀ k, k < w4.heap.size → (∀ a, ra = some a → k ≠ a.block) → w5.heap[k]? = w4.heap[k]? := fun k hk hne => hg.block k hk (by
    cases ra with
    | none => simp [Value.ownBlock]
    | some a => simp [Value.ownBlock]; exact hne a rfl)
  have sz5 : w4.heap.size ≤ w5.heap.size := hg.size
  have np : ∀ {T' T2 : TypeId} {A A2 : Option Addr} {cap cap2 : Nat} {us us2 : List (Value × Value)}, OwnP w 0 T' A cap us → OwnP w 0 T2 A2 cap2 us2 → T' ≠ T2 → ∀ a a2, A = some a → A2 = some a2 → a.block ≠ a2.block := fun h1 h2 ht a a2 ha ha2 => by
    subst ha; subst ha2
    obtain ⟨c1, e1⟩ := wal_block h1
    obtain ⟨c2, e2⟩ := wal_block h2
    exact type_ne e1 e2 ht
  have nb : ∀ {A A2 : Option Addr} {cap cap2 : Nat} {zs : List Int} {us : List (Value × Value)} {T2 : TypeId}, OwnB w 0 A cap zs → OwnP w 0 T2 A2 cap2 us → 5 ≠ T2 → ∀ a a2, A = some a → A2 = some a2 → a.block ≠ a2.block := fun h1 h2 ht a a2 ha ha2 => by
    subst ha; subst ha2
    obtain ⟨c1, e1⟩ := h1.block
    obtain ⟨c2, e2⟩ := wal_block h2
    exact type_ne e1 e2 ht
  have nL : ∀ {T' : TypeId} {A : Option Addr} {cap : Nat} {us : List (Value × Value)}, OwnP w 0 T' A cap us → T' ≠ 57 → ∀ a, A = some a → a.block ≠ Lb := fun h1 ht a ha => by
    subst ha
    obtain ⟨c1, e1⟩ := wal_block h1
    exact type_ne e1 h.obj ht
  have nLb : ∀ {A : Option Addr} {cap : Nat} {zs : List Int}, OwnB w 0 A cap zs → ∀ a, A = some a → a.block ≠ Lb := fun h1 a ha => by
    subst ha
    obtain ⟨c1, e1⟩ := h1.block
    exact type_ne e1 h.obj (by decide)
  have obj5' : w5.heap[Lb]? = w.heap[Lb]? := (keep5 Lb (Nat.lt_of_lt_of_le hLt hb.size) fun a ha e => nL hrw (by decide) a ha e.symm).trans (hb.block Lb hLt)
  have hob := obj5'.trans h.obj
  have o3 := obj_set (o := 3) hob (.slice A5 (l.recs.length + 1) c5)
  have hkb : ∀ k, k ≠ Lb → (w5.setCell ⟨Lb, 3, none⟩ (.slice A5 (l.recs.length + 1) c5)).heap[k]? = w5.heap[k]? := fun k hk => Below.heap_setCell _ _ _ _ hk
  have hsz : (w5.setCell ⟨Lb, 3, none⟩ (.slice A5 (l.recs.length + 1) c5)).heap.size = w5.heap.size := by simp [World.setCell]
  have hA5 : ∀ a, A5 = some a → a.block < w5.heap.size ∧ (O a.block ∨ w.heap.size ≤ a.block) ∧ a.block ≠ Lb := fun a ha => by
    refine ⟨by subst ha; exact h5.lt.2, ?_, ?_⟩
    · rcases hw a ha with ⟨a0, h1, h2⟩ | h1
      · exact .inl (h2 ▸ hro a0 h1)
      · exact .inr (by rw [h1]; exact hb.size)
    · rcases hw a ha with ⟨a0, h1, h2⟩ | h1
      · rw [h2]; exact nL hrw (by decide) a0 h1
      · rw [h1]; have := hb.size; omega
  refine ⟨fun k => O k ∨ (∃ a, A3 = some a ∧ k = a.block) ∨ ∃ a, A5 = some a ∧ k = a.block, ⟨?_, ?_, ⟨_, ?_, h5.keep fun a ha => hkb _ (hA5 a ha).2.2, fun a ha => .inr (.inr ⟨a, ha, rfl⟩), fun i hi => ?_⟩, .inl h.ownL, fun a ha => .inl (h.ownS a ha), fun k hk => ?_, hinv⟩, ?_, fun k hk => ?_⟩
  · rw [o3]; simp
  · exact h.segs.keep fun a ha => (hkb _ (nL h.segs (by decide) a ha)).trans ((keep5 _ (Nat.lt_of_lt_of_le (h.lt _ (h.ownS a ha)) hb.size) fun a2 ha2 => np h.segs hrw (by decide) a a2 ha ha2).trans (hb.block _ (h.lt _ (h.ownS a ha))))
  · simp [hvl]
  · by_cases hi2 : i < l.recs.length
    · obtain ⟨q1, A, cap, q2, q3, q4⟩ := hv i hi2
      show RecO _ _ _ ((l.recs ++ [(at_, p)]).getD i (0, []))
      rw [getD_snoc_lt _ _ _ _ (by omega), getD_snoc_lt _ _ _ _ hi2]
      exact ⟨q1, A, cap, q2, q3.keep fun a ha => (hkb _ (nLb q3 a ha)).trans ((keep5 _ (Nat.lt_of_lt_of_le (h.lt _ (q4 a ha)) hb.size) fun a2 ha2 => nb q3 hrw (by decide) a a2 ha ha2).trans (hb.block _ (h.lt _ (q4 a ha)))), fun a ha => .inl (q4 a ha)⟩
    · have hi3 : i < l.recs.length + 1 := by simpa using hi
      have e : i = l.recs.length := by omega
      subst e
      show RecO _ _ _ ((l.recs ++ [(at_, p)]).getD l.recs.length (0, []))
      rw [getD_snoc_eq]
      have e2 : (vs ++ [(Value.int .u64 at_, Value.slice A3 p.length c3)]).getD l.recs.length (undef, undef) = (Value.int .u64 at_, Value.slice A3 p.length c3) := by rw [← hvl]; exact getD_snoc_eq _ _ _
      rw [e2]
      refine ⟨rfl, A3, c3, rfl, (hp.low (Nat.zero_le _)).keep fun a ha => ?_, fun a ha => .inr (.inl ⟨a, ha, rfl⟩)⟩
      have := hA3 a ha
      refine (hkb _ (by omega)).trans (keep5 _ this.2 fun a2 ha2 e => ?_)
      have := h.lt _ (hro a2 ha2)
      omega
  · rw [hsz]
    rcases hk with h1 | ⟨a, ha, rfl⟩ | ⟨a, ha, rfl⟩
    · have := h.lt k h1; have := hb.size; omega
    · have := (hA3 a ha).2; omega
    · exact (hA5 a ha).1
  · have h1 : Only O w4 w5 := Only.grown hg fun k hk => by
      cases ra with
      | none => cases hk
      | some a => simp [Value.ownBlock] at hk; subst hk; exact hro a rfl
    exact ((Only.of (own := O) hb).trans h1 fun _ h => .inl h).trans (Only.set O 3 w5 _ h.ownL) fun _ h => .inl h
  · rcases hk with h1 | ⟨a, ha, rfl⟩ | ⟨a, ha, rfl⟩
    · exact .inl h1
    · exact .inr (hA3 a ha).1
    · exact (hA5 a ha).2.1
end Go.Proofs.YtdbhicifjljjnaaGreatDoor
/-
  An append of one pair that leaves the old row standing (what write needs where the store's Append fails); a log with a longer row of segments beside it, not yet its own.
-/
namespace Go.Proofs.YtdbhicifjljjnaaGreatDoor
open Go.RowKit St

/-- As run_appP3; and the old slice still reads as it did. -/
theorem run_appP4 {w : World} {base : Nat} {T ST : TypeId} {A : Option Addr} {cap : Nat} {vs : List (Value × Value)} {z x y : Value} {by_ : Nat} (hST : Tryz.prog.underlying ST = some (.slice T))
    (hI : (Tryz.prog.info? T).map (fun i => (i.zero, i.size, i.bytes)) = some (some z, 2, by_)) (hz : z.cells.size = 2) (hby : by_ ≤ 64)
    (h : OwnP w base T A cap vs) (hbase : base ≤ w.heap.size) {b2 : Nat} (hx : w.cell? ⟨b2, 0, none⟩ = some x) (hy : w.cell? ⟨b2, 1, none⟩ = some y) (hx1 : x.oneCell' = true) (hy1 : y.oneCell' = true) (c : Nat)
    (hlen : vs.length ≤ 1000000000) (ty : TypeId) :
    ∃ A' cap' w', (Builtin.append_ #[ST, ST] ty #[.slice A vs.length cap, .slice (some ⟨b2, 0, none⟩) 1 c]).run Tryz.prog w = .ok (.slice A' (vs ++ [(x, y)]).length cap') w' ∧
      OwnP w' base T A' cap' (vs ++ [(x, y)]) ∧ w.grownBy w' (Value.slice A vs.length cap).ownBlock ∧ (∀ a, A' = some a → (∃ a0, A = some a0 ∧ a.block = a0.block) ∨ a.block = w.heap.size) ∧ OwnP w' base T A cap vs := by
  obtain ⟨A', cap', w', hrun, hown, hg, hw⟩ := run_appP3 hST hI hz hby h hbase hx hy hx1 hy1 c hlen ty
  refine ⟨A', cap', w', hrun, hown, hg, hw, ?_⟩
  obtain ⟨i, hi, hz0, hs, hyb⟩ := info_parts hI
  have hnews : ∀ j u, [x, y][j]? = some u → w.cell? ((⟨b2, 0, none⟩ : Addr).add j) = some u := fun j u hu => by
    rw [add_off, Nat.zero_add]
    match j, hu with
    | 0, hu => simp at hu; rw [← hu]; exact hx
    | 1, hu => simp at hu; rw [← hu]; exact hy
    | j + 2, hu => simp at hu
  have h1 : ∀ u ∈ [x, y], u.oneCell' = true := fun u hu => by
    simp at hu
    rcases hu with rfl | rfl
    · exact hx1
    · exact hy1
  have hold := h
  unfold OwnP at hold
  have hl := hold.1
  rcases hold.2 with ⟨e, e0⟩ | ⟨g, c', cur, e, hbg, hgg, hnc, hcm, hcs, ht⟩
  · injection e with e1 e2 e3
    have : vs = [] := List.eq_nil_of_length_eq_zero e2
    subst e1; subst e3; subst this
    exact OwnP.none_ _ _ _
  · injection e with e1 e2 e3
    subst e1; subst e3
    by_cases hroom : vs.length + 1 ≤ cap
    · have hr := run_append_room (P := Tryz.prog) w ST ty T i hST hi g vs.length cap cur hgg ⟨b2, 0, none⟩ 1 c [x, y] (by rw [hs]; rfl) hnews h1 hroom (by rw [hs, hcs]; simp; omega)
      rw [hr] at hrun
      injection hrun with _ hw'
      subst hw'
      unfold OwnP
      refine ⟨hl, .inr ⟨g, cap, _, rfl, hbg, setRow_heap w g cur _ T _ hgg, hnc, hcm, ?_, ?_⟩⟩
      · simp only [List.size_toArray, List.length_append, List.length_take, List.length_drop, Array.length_toList, hs, List.length_cons, List.length_nil, hcs]
        omega
      · rw [hs, ht, List.append_assoc, ← hl]
        exact List.take_left
    · have hr := run_append_grow (P := Tryz.prog) w ST ty T i z hST hi hz0 ⟨g, 0, none⟩ vs.length cap _ (by rw [hs]; exact hl) (World.ownsRow.cells hold rfl) ⟨b2, 0, none⟩ 1 c [x, y] (by rw [hs]; rfl) hnews (by omega) (by unfold maxLen at hcm; omega) (growslice_fits (by omega) (by
        rw [hyb]
        have h1 : (vs.length + 1) * by_ ≤ 1000000001 * 64 := Nat.mul_le_mul (by omega) hby
        omega))
      rw [hr] at hrun
      injection hrun with _ hw'
      subst hw'
      exact h.keep fun a ha => heap_alloc_old w.drew _ (by cases ha; exact h.lt.2)
set_option maxRecDepth 20000 in
theorem wp_appP4 {w : World} {ops : Array Oper} {rest : List Oper} {o : Oper} {a : Act} {Q : Exit → Act → World → Prop} (hgd : o.guard = none) (s t : Operand) {T ST : TypeId}
    (ho : o.op = .call { callee := .builtin .append, args := #[s, t], argTypes := #[ST, ST] })
    {base : Nat} {A : Option Addr} {n cap : Nat} {vs : List (Value × Value)} {z x y : Value} {by_ : Nat} (hST : Tryz.prog.underlying ST = some (.slice T))
    (hI : (Tryz.prog.info? T).map (fun i => (i.zero, i.size, i.bytes)) = some (some z, 2, by_)) (hz : z.cells.size = 2) (hby : by_ ≤ 64)
    (hs : a.eval s = .slice A n cap) (hn : n = vs.length) (h : OwnP w base T A cap vs) (hbase : base ≤ w.heap.size)
    {b2 c : Nat} (ht : a.eval t = .slice (some ⟨b2, 0, none⟩) 1 c) (hx : w.cell? ⟨b2, 0, none⟩ = some x) (hy : w.cell? ⟨b2, 1, none⟩ = some y) (hx1 : x.oneCell' = true) (hy1 : y.oneCell' = true)
    (hlen : vs.length ≤ 1000000000) {r : Nat} (hr : vs.length + 1 = r)
    (K : ∀ A' cap' w', OwnP w' base T A' cap' (vs ++ [(x, y)]) → w.grownBy w' (Value.slice A vs.length cap).ownBlock → (∀ a, A' = some a → (∃ a0, A = some a0 ∧ a.block = a0.block) ∨ a.block = w.heap.size) → OwnP w' base T A cap vs → wpList Tryz.prog ops Q rest (a.put o.dst (.slice A' r cap')) w') :
    wpList Tryz.prog ops Q (o :: rest) a w := by
  subst hn hr
  obtain ⟨A', cap', w', hrun, h1, h2, h3, h4⟩ := run_appP4 hST hI hz hby h hbase hx hy hx1 hy1 c hlen o.type
  refine wpList_plain hgd fun K' hK => ?_
  unfold Oper.wp
  simp [execOp, ho, resolve, invoke, builtin, hs, ht, hrun, Result.andThen]
  exact hK _ _ (K A' cap' w' h1 h2 h3 h4)
theorem seg_info : (Tryz.prog.info? 70).map (fun i => (i.zero, i.size, i.bytes)) = some (some (.agg #[.int .i64 0, .int .i64 0]), 2, 16) := by kernel_rfl
end Go.Proofs.YtdbhicifjljjnaaGreatDoor
/-
  A log with a row of segments beside it that is not yet its own (write's): made by an append, kept through a call of the store, taken over at the end.
-/
namespace Go.Proofs.YtdbhicifjljjnaaGreatDoor
open Go.RowKit St

theorem w_ownsRow_set {w : World} {base n size g cap : Nat} {e : TypeId} {xs : List Value} (h : w.ownsRow base e size (.slice (some ⟨g, 0, none⟩) n cap) n xs) (o : Nat) (v : Value) : (w.setCell ⟨g, o, none⟩ v).ownsRow base e size (.slice (some ⟨g, 0, none⟩) n cap) n (xs.set o v) := by
  refine ⟨by rw [List.length_set]; exact h.1, ?_⟩
  rcases h.2 with ⟨e, _⟩ | ⟨g', c', cur, e, hb, hg, hle, hm, hsz, htk⟩
  · cases e
  · injection e with e1 e2 e3
    injection e1 with e1
    injection e1 with e1
    subst e1 e3
    exact .inr ⟨g, _, _, rfl, hb, heap_setCell_same w g o cur _ v hg, hle, hm, by simpa using hsz, by rw [Array.toList_setIfInBounds, List.take_set, htk]⟩
theorem flat2_set : ∀ (gs : List (Int × Int)) (i : Nat) (v : Int), i < gs.length → (flat2 (segV gs)).set (i * 2 + 1) (.int .i64 v) = flat2 (segV (gs.set i ((gs.getD i (0, 0)).1, v)))
  | [], i, v, h => by simp at h
  | g :: gs, 0, v, h => rfl
  | g :: gs, i + 1, v, h => by
    have ih := flat2_set gs i v (by simpa using h)
    have e : flat2 (segV (g :: gs)) = .int .i64 g.1 :: .int .i64 g.2 :: flat2 (segV gs) := rfl
    rw [e, show (i + 1) * 2 + 1 = (i * 2 + 1) + 1 + 1 by omega]
    simp only [List.set_cons_succ, List.getD_cons_succ]
    rw [ih]
    rfl
theorem OwnP.set2 {w : World} {base g cap : Nat} {T : TypeId} {gs : List (Int × Int)} (h : OwnP w base T (some ⟨g, 0, none⟩) cap (segV gs)) {i : Nat} (hi : i < gs.length) (v : Int) :
    OwnP (w.setCell ⟨g, i * 2 + 1, none⟩ (.int .i64 v)) base T (some ⟨g, 0, none⟩) cap (segV (gs.set i ((gs.getD i (0, 0)).1, v))) := by
  have hs := w_ownsRow_set h (i * 2 + 1) (.int .i64 v)
  rw [flat2_set gs i v hi] at hs
  unfold OwnP
  rw [segV_len, List.length_set]
  rw [segV_len] at hs
  exact hs
def WRun2 (w0 w : World) (T Lb : Nat) (s : S) (l : Wl.L) (G : List (Nat × Obj)) (sa : Option Addr) (sc : Nat) (ra : Option Addr) (rc : Nat) (A4 : Option Addr) (c4 : Nat) (gs : List (Int × Int)) : Prop :=
  ∃ o1 O, PState w T o1 s ∧ LM w Lb T O l sa sc ra rc ∧ (∀ k, o1 k → w0.heap.size ≤ k ∧ ¬ O k) ∧ (∀ k, O k → w0.heap.size ≤ k) ∧ Below w0.heap.size w0 w ∧ (∀ g ∈ G, w.heap[g.1]? = some g.2 ∧ ¬ o1 g.1 ∧ ¬ O g.1) ∧
    OwnP w 0 70 A4 c4 (segV gs) ∧ ∀ a, A4 = some a → O a.block
section
variable {w0 w : World} {T Lb : Nat} {s : S} {l : Wl.L} {G : List (Nat × Obj)} {sa : Option Addr} {sc : Nat} {ra : Option Addr} {rc : Nat}
theorem WRun.two (h : WRun w0 w T Lb s l G sa sc ra rc) : WRun2 w0 w T Lb s l G sa sc ra rc sa sc l.segs := by
  obtain ⟨o1, O, p, q, h1, h2, h3, h4⟩ := h
  exact ⟨o1, O, p, q, h1, h2, h3, h4, q.segs, q.ownS⟩
theorem WRun2.run {A4 : Option Addr} {c4 : Nat} {gs : List (Int × Int)} (h : WRun2 w0 w T Lb s l G sa sc ra rc A4 c4 gs) : WRun w0 w T Lb s l G sa sc ra rc := by
  obtain ⟨o1, O, p, q, h1, h2, h3, h4, _⟩ := h
  exact ⟨o1, O, p, q, h1, h2, h3, h4⟩
theorem WRun2.grow {A4 : Option Addr} {c4 : Nat} {gs : List (Int × Int)} (h : WRun2 w0 w T Lb s l G sa sc ra rc A4 c4 gs) {w' : World} (hb : Below w.heap.size w w') : WRun2 w0 w' T Lb s l G sa sc ra rc A4 c4 gs := by
  obtain ⟨o1, O, p, q, h1, h2, h3, h4, h5, h6⟩ := h
  exact ⟨o1, O, p.grow hb, q.grow hb, h1, h2, h3.trans (hb.mono h3.size), fun g m => ⟨(hb.block g.1 (w_some_lt (h4 g m).1)).trans (h4 g m).1, (h4 g m).2⟩, h5.keep fun a ha => hb.block _ (q.lt _ (h6 a ha)), h6⟩
/-- A call of the store. -/
theorem w_prog2 {A4 : Option Addr} {c4 : Nat} {gs : List (Int × Int)} (h : WRun2 w0 w T Lb s l G sa sc ra rc A4 c4 gs) {s' : S} {f : FuncId} {args : Array Value} {E : Ending → Prop} (hc : ∀ own, (∀ k, own k → w0.heap.size ≤ k) → Below w0.heap.size w0 w → PState w T own s → Calls Tryz.prog f args w fun e w' => E e ∧ Leaves w T own s' w') :
    Calls Tryz.prog f args w fun e w' => E e ∧ Hid (WRun2 w0 w' T Lb s' l G sa sc ra rc A4 c4 gs) := by
  obtain ⟨o1, O, p, q, h1, h2, h3, h4, h5, h6⟩ := h
  refine (hc o1 (fun k hk => (h1 k hk).1) h3 p).mono ?_
  rintro e w' ⟨he, own, p', st⟩
  have hO : ∀ k, O k → w'.heap[k]? = w.heap[k]? := fun k hk => st.only.block k (q.lt k hk) fun ho => (h1 k ho).2 hk
  refine ⟨he, Lib.hid ⟨own, O, p', q.same st.only.size hO, fun k hk => ?_, h2, h3.trans (st.only.below h3.size fun k hk => (h1 k hk).1), fun g m => ?_, h5.keep fun a ha => hO _ (h6 a ha), h6⟩⟩
  · rcases st.sub k hk with h5 | h5
    · exact h1 k h5
    · exact ⟨Nat.le_trans h3.size h5, fun ho => by have := q.lt k ho; omega⟩
  · have h5 := w_some_lt (h4 g m).1
    refine ⟨(st.only.block g.1 h5 (h4 g m).2.1).trans (h4 g m).1, fun hk => ?_, (h4 g m).2.2⟩
    rcases st.sub _ hk with h6 | h6
    · exact (h4 g m).2.1 h6
    · omega
/-- What an append to the row of segments leaves. -/
theorem WRun.appended (h : WRun w0 w T Lb s l G sa sc ra rc) {w5 : World} {A5 : Option Addr} {c5 n : Nat} {gs : List (Int × Int)}
    (h5 : OwnP w5 0 70 A5 c5 (segV gs)) (hg : w.grownBy w5 (Value.slice sa n sc).ownBlock) (hw : ∀ a, A5 = some a → (∃ a0, sa = some a0 ∧ a.block = a0.block) ∨ a.block = w.heap.size)
    (hold : OwnP w5 0 70 sa sc (segV l.segs)) : WRun2 w0 w5 T Lb s l G sa sc ra rc A5 c5 gs := by
  obtain ⟨o1, O, p, q, h1, h2, h3, h4⟩ := h
  have keep5 : ∀ k, k < w.heap.size → (∀ a, sa = some a → k ≠ a.block) → w5.heap[k]? = w.heap[k]? := fun k hk hne => hg.block k hk (by
    cases sa with
    | none => simp [Value.ownBlock]
    | some a => simp [Value.ownBlock]; exact hne a rfl)
  have hS : ∀ k, ¬ O k → ∀ a, sa = some a → k ≠ a.block := fun k hk a ha e => hk (e ▸ q.ownS a ha)
  obtain ⟨vs, r1, r2, r3, r4⟩ := q.recs
  have nL : ∀ a, sa = some a → Lb ≠ a.block := fun a ha e => by
    subst ha
    obtain ⟨cur, hc⟩ := wal_block q.segs
    exact type_ne hc q.obj (by decide) e.symm
  have nR : ∀ b, ra = some b → ∀ a, sa = some a → b.block ≠ a.block := fun b hb a ha e => by
    subst ha; subst hb
    obtain ⟨cur, hc⟩ := wal_block q.segs
    obtain ⟨cur2, hc2⟩ := wal_block r2
    exact type_ne hc2 hc (by decide) e
  have nB : ∀ {A : Option Addr} {cap : Nat} {zs : List Int}, OwnB w 0 A cap zs → ∀ b, A = some b → ∀ a, sa = some a → b.block ≠ a.block := fun hq b hb a ha e => by
    subst ha; subst hb
    obtain ⟨cur, hc⟩ := wal_block q.segs
    obtain ⟨cur2, hc2⟩ := hq.block
    exact type_ne hc2 hc (by decide) e
  refine ⟨o1, fun k => O k ∨ ∃ a, A5 = some a ∧ k = a.block, p.same hg.size fun k hk => keep5 k (p.lt k hk) (hS k (h1 k hk).2), ⟨?_, hold, ⟨vs, r1, r2.keep fun b hb => keep5 _ (q.lt _ (r3 b hb)) (nR b hb), fun a ha => .inl (r3 a ha), fun i hi => ?_⟩, .inl q.ownL, fun a ha => .inl (q.ownS a ha), fun k hk => ?_, q.inv⟩, fun k hk => ⟨(h1 k hk).1, fun ho => ?_⟩, fun k hk => ?_, h3.grown hg h3.size fun k hk => ?_, fun g m => ⟨?_, (h4 g m).2.1, fun ho => ?_⟩, h5, fun a ha => .inr ⟨a, ha, rfl⟩⟩
  · exact (keep5 Lb (q.lt _ q.ownL) nL).trans q.obj
  · obtain ⟨q1, A, cap, q2, q3, q4⟩ := r4 i hi
    exact ⟨q1, A, cap, q2, q3.keep fun b hb => keep5 _ (q.lt _ (q4 b hb)) (nB q3 b hb), fun a ha => .inl (q4 a ha)⟩
  · rcases hk with hk | ⟨a, ha, rfl⟩
    · exact Nat.lt_of_lt_of_le (q.lt k hk) hg.size
    · subst ha; exact h5.lt.2
  · rcases ho with ho | ⟨a, ha, rfl⟩
    · exact (h1 k hk).2 ho
    · rcases hw a ha with ⟨a0, e0, e1⟩ | e1
      · rw [e1] at hk; exact (h1 _ hk).2 (q.ownS a0 e0)
      · have := p.lt _ hk; omega
  · rcases hk with hk | ⟨a, ha, rfl⟩
    · exact h2 k hk
    · rcases hw a ha with ⟨a0, e0, e1⟩ | e1
      · rw [e1]; exact h2 _ (q.ownS a0 e0)
      · rw [e1]; exact h3.size
  · cases sa with
    | none => cases hk
    | some a => simp [Value.ownBlock] at hk; subst hk; exact h2 _ (q.ownS a rfl)
  · exact (keep5 _ (w_some_lt (h4 g m).1) (hS _ (h4 g m).2.2)).trans (h4 g m).1
  · have hlt := w_some_lt (h4 g m).1
    rcases ho with ho | ⟨a, ha, e⟩
    · exact (h4 g m).2.2 ho
    · rcases hw a ha with ⟨a0, e0, e1⟩ | e1
      · exact (h4 g m).2.2 (by rw [e, e1]; exact q.ownS a0 e0)
      · omega
/-- The row taken over, its last segment longer. -/
theorem WRun2.done {g c4 : Nat} {gs : List (Int × Int)} (h : WRun2 w0 w T Lb s l G sa sc ra rc (some ⟨g, 0, none⟩) c4 gs) {i : Nat} (hi : i < gs.length) (v : Int) (hinv : Wl.Inv { l with segs := gs.set i ((gs.getD i (0, 0)).1, v) }) :
    WRun w0 ((w.setCell ⟨g, i * 2 + 1, none⟩ (.int .i64 v)).setCell ⟨Lb, 2, none⟩ (.slice (some ⟨g, 0, none⟩) gs.length c4)) T Lb s { l with segs := gs.set i ((gs.getD i (0, 0)).1, v) } G (some ⟨g, 0, none⟩) c4 ra rc := by
  obtain ⟨o1, O, p, q, h1, h2, h3, h4, h5, h6⟩ := h
  obtain ⟨cur, hc⟩ := wal_block h5
  have hgO : O g := h6 _ rfl
  have hgL : g ≠ Lb := type_ne hc q.obj (by decide)
  have k1 : ∀ k, k ≠ g → (w.setCell ⟨g, i * 2 + 1, none⟩ (.int .i64 v)).heap[k]? = w.heap[k]? := fun k hk => Below.heap_setCell _ _ _ _ hk
  have k2 : ∀ k, k ≠ Lb → ((w.setCell ⟨g, i * 2 + 1, none⟩ (.int .i64 v)).setCell ⟨Lb, 2, none⟩ (.slice (some ⟨g, 0, none⟩) gs.length c4)).heap[k]? = (w.setCell ⟨g, i * 2 + 1, none⟩ (.int .i64 v)).heap[k]? := fun k hk => Below.heap_setCell _ _ _ _ hk
  have kk : ∀ k, k ≠ g → k ≠ Lb → ((w.setCell ⟨g, i * 2 + 1, none⟩ (.int .i64 v)).setCell ⟨Lb, 2, none⟩ (.slice (some ⟨g, 0, none⟩) gs.length c4)).heap[k]? = w.heap[k]? := fun k a b => (k2 k b).trans (k1 k a)
  have kO : ∀ k, ¬ O k → k ≠ g ∧ k ≠ Lb := fun k hk => ⟨fun e => hk (e ▸ hgO), fun e => hk (e ▸ q.ownL)⟩
  have hsz : ((w.setCell ⟨g, i * 2 + 1, none⟩ (.int .i64 v)).setCell ⟨Lb, 2, none⟩ (.slice (some ⟨g, 0, none⟩) gs.length c4)).heap.size = w.heap.size := by simp [World.setCell]
  obtain ⟨vs, r1, r2, r3, r4⟩ := q.recs
  have hob := (k1 Lb (Ne.symm hgL)).trans q.obj
  have o2 := obj_set (o := 2) hob (.slice (some ⟨g, 0, none⟩) gs.length c4)
  have hon : Only O w ((w.setCell ⟨g, i * 2 + 1, none⟩ (.int .i64 v)).setCell ⟨Lb, 2, none⟩ (.slice (some ⟨g, 0, none⟩) gs.length c4)) := (Only.set O (i * 2 + 1) w _ hgO).trans (Only.set O 2 _ _ q.ownL) fun _ h => .inl h
  refine ⟨o1, O, p.same (by omega) fun k hk => kk k (kO k (h1 k hk).2).1 (kO k (h1 k hk).2).2, ⟨?_, (h5.set2 hi v).keep fun a ha => k2 _ (by cases ha; exact hgL), ⟨vs, r1, r2.keep fun b hb => ?_, r3, fun j hj => ?_⟩, q.ownL, fun a ha => h6 a ha, fun k hk => by rw [hsz]; exact q.lt k hk, hinv⟩, h1, h2, h3.trans (hon.below h3.size h2), fun x m => ⟨(kk _ (kO _ (h4 x m).2.2).1 (kO _ (h4 x m).2.2).2).trans (h4 x m).1, (h4 x m).2⟩⟩
  · rw [o2]; simp
  · subst hb
    obtain ⟨cur2, hc2⟩ := wal_block r2
    exact kk _ (type_ne hc2 hc (by decide)) (type_ne hc2 q.obj (by decide))
  · obtain ⟨q1, A, cap, q2, q3, q4⟩ := r4 j hj
    refine ⟨q1, A, cap, q2, q3.keep fun b hb => ?_, q4⟩
    subst hb
    obtain ⟨cur2, hc2⟩ := q3.block
    exact kk _ (type_ne hc2 hc (by decide)) (type_ne hc2 q.obj (by decide))
end
end Go.Proofs.YtdbhicifjljjnaaGreatDoor
/-
  write: the store's Append beside a row of segments that is not yet the log's own; write_any: what write answers, and what it leaves.
-/
namespace Go.Proofs.YtdbhicifjljjnaaGreatDoor
open Go.RowKit St
def lastG (gs : List (Int × Int)) : Int × Int := gs.getD (gs.length - 1) (0, 0)
def wrG (l : Wl.L) (off : Int) : List (Int × Int) := if l.segs.length = 0 ∨ l.most ≤ (lastG l.segs).2 then l.segs ++ [(off, 0)] else l.segs
def writeE (s : S) (l : Wl.L) (off : Int) (code : List Int) : Int := actE s (appE s (nmS (lastG (wrG l off)).1) code.length)
def writeS (s : S) (l : Wl.L) (off : Int) (code : List Int) : S := actS s (appE s (nmS (lastG (wrG l off)).1) code.length) (appL s (nmS (lastG (wrG l off)).1) code)
def writeL (s : S) (l : Wl.L) (off : Int) (code : List Int) : Wl.L := if writeE s l off code = 0 then { l with segs := (wrG l off).set ((wrG l off).length - 1) ((lastG (wrG l off)).1, (lastG (wrG l off)).2 + code.length) } else l
theorem append_w2 {w0 w : World} {T Lb : Nat} {s : S} {l : Wl.L} {G : List (Nat × Obj)} {sa : Option Addr} {sc : Nat} {ra : Option Addr} {rc : Nat} {A4 : Option Addr} {c4 : Nat} {gs : List (Int × Int)} (h : WRun2 w0 w T Lb s l G sa sc ra rc A4 c4 gs) (f : Int) (Ac : Option Addr) (cc n : Nat) (code : List Int) (hn : n = code.length) (hb : Bytes w w.heap.size Ac code) :
    Calls Tryz.prog 41 #[.pointer (some ⟨T, 0, none⟩), .string (Sg.nameB f), .slice Ac n cc] w fun e w' => RetI (actE s (appE s (nmS f) code.length)) e ∧ Hid (WRun2 w0 w' T Lb (actS s (appE s (nmS f) code.length) (appL s (nmS f) code)) l G sa sc ra rc A4 c4 gs) := by
  subst hn
  exact w_prog2 h fun own ho hbl p => append_any T own s w p (Sg.nameB f) (by rw [Sg.nameB_size]; decide) Ac cc code hb
theorem WRun2.last {w0 w : World} {T Lb : Nat} {s : S} {l : Wl.L} {G : List (Nat × Obj)} {sa : Option Addr} {sc : Nat} {ra : Option Addr} {rc : Nat} {A4 : Option Addr} {c4 : Nat} {gs : List (Int × Int)} (h : WRun2 w0 w T Lb s l G sa sc ra rc A4 c4 gs) {M : Nat} (hM : gs.length = M + 1) :
    ∃ g, A4 = some ⟨g, 0, none⟩ ∧ w.cell? ⟨g, M * 2, none⟩ = some (.int .i64 (lastG gs).1) ∧ w.cell? ⟨g, M * 2 + 1, none⟩ = some (.int .i64 (lastG gs).2) ∧ w.frozen? ⟨g, M * 2 + 1, none⟩ = false := by
  obtain ⟨_, _, _, _, _, _, _, _, h5, _⟩ := h
  obtain ⟨g, e, _, _⟩ := h5.shape (by rw [segV_len]; omega)
  subst e
  have hc := h5.cell (undef, undef) (i := M) (by rw [segV_len]; omega)
  rw [segV_get _ _ (by omega)] at hc
  have e : lastG gs = gs.getD M (0, 0) := by unfold lastG; rw [hM]; rfl
  obtain ⟨cur, hb⟩ := wal_block h5
  rw [e]
  exact ⟨g, rfl, hc.1, hc.2, by simp [World.frozen?, hb]⟩
theorem last_app (gs : List (Int × Int)) (x : Int × Int) : lastG (gs ++ [x]) = x := by unfold lastG; simp
theorem segV_app (gs : List (Int × Int)) (f z : Int) : segV (gs ++ [(f, z)]) = segV gs ++ [(.int .i64 f, .int .i64 z)] := by unfold segV; simp
set_option maxRecDepth 20000 in
set_option maxHeartbeats 8000000 in
theorem write_any {w0 w : World} {T Lb : Nat} {s : S} {l : Wl.L} {G : List (Nat × Obj)} {sa : Option Addr} {sc : Nat} {ra : Option Addr} {rc : Nat} (h : WRun w0 w T Lb s l G sa sc ra rc) (hF : Facts w0) (off : Int) (h0 : 0 ≤ off) (h1 : off ≤ 17592186044415) (Ac : Option Addr) (nc cc : Nat) (code : List Int) (hcl : nc = code.length) (hcn : nc ≤ 2000)
    (hcode : ∀ W s, WRun w0 W T Lb s l G sa sc ra rc → Bytes W W.heap.size Ac code) (hinv : writeE s l off code = 0 → Wl.Inv (writeL s l off code)) :
    Calls Tryz.prog 26 #[.pointer (some ⟨Lb, 0, none⟩), .int .i64 off, .slice Ac nc cc] w fun e w' => RetI (writeE s l off code) e ∧ Hid (∃ sa' sc', WRun w0 w' T Lb (writeS s l off code) (writeL s l off code) G sa' sc' ra rc) := by
  have H := Lib.hid h
  have HF := Lib.hid hF
  have HC := Lib.hid hcode
  have HCL := Lib.hid hcl
  obtain ⟨⟨c0, c1, c2, c3, c4⟩, _⟩ := obj5 (obj_w h)
  have FR : 0 ≤ (lastG (wrG l off)).1 ∧ (lastG (wrG l off)).1 ≤ 17592186044415 ∧ 0 ≤ (lastG (wrG l off)).2 ∧ (lastG (wrG l off)).2 ≤ 16777216 := by
    unfold wrG
    split
    · rw [last_app]; exact ⟨h0, h1, by simp, by simp⟩
    · rename_i hne
      have hl : l.segs.length - 1 < l.segs.length := by omega
      have hm : lastG l.segs ∈ l.segs := by unfold lastG; rw [List.getD_eq_getElem?_getD, List.getElem?_eq_getElem hl]; exact List.getElem_mem _
      exact ⟨(h.inv.2.first _ hm).1, (h.inv.2.first _ hm).2, (h.inv.2.size _ hm).1, (h.inv.2.size _ hm).2⟩
  have OW : Hid (OwnP w 0 70 sa sc (segV l.segs)) := Lib.hid (by obtain ⟨_, _, _, q, _⟩ := h; exact q.segs)
  have HI : Hid (writeE s l off code = 0 → Wl.Inv { l with segs := (wrG l off).set ((wrG l off).length - 1) ((lastG (wrG l off)).1, (lastG (wrG l off)).2 + (nc : Int)) }) := Lib.hid fun he => by
    have := hinv he
    unfold writeL at this
    rw [if_pos he, ← hcl] at this
    exact this
  have EL : Hid (writeL s l off code = if writeE s l off code = 0 then { l with segs := (wrG l off).set ((wrG l off).length - 1) ((lastG (wrG l off)).1, (lastG (wrG l off)).2 + (nc : Int)) } else l) := Lib.hid (by rw [hcl]; rfl)
  have AP : Hid (∀ (W : World) (A4 : Option Addr) (c4 : Nat), WRun2 w0 W T Lb s l G sa sc ra rc A4 c4 (wrG l off) → Calls Tryz.prog 41 #[.pointer (some ⟨T, 0, none⟩), .string (Sg.nameB (lastG (wrG l off)).1), .slice Ac nc cc] W fun e w' => RetI (writeE s l off code) e ∧ Hid (WRun2 w0 w' T Lb (writeS s l off code) l G sa sc ra rc A4 c4 (wrG l off))) := Lib.hid fun W A4 c4 h2 => append_w2 h2 _ Ac cc nc code hcl (hcode W s h2.run)
  obtain ⟨ln, hln⟩ : ∃ ln, ln = l.segs.length := ⟨_, rfl⟩
  have hsc : (ln : Int) ≤ 16777216 := by have := h.inv.2.segc; omega
  rw [← hln] at c2
  have HLN := Lib.hid hln
  have GEc : (ln = 0 ∨ l.most ≤ (lastG l.segs).2) → wrG l off = l.segs ++ [(off, 0)] := fun hh => by unfold wrG; rw [← hln, if_pos hh]
  have GNc : ¬ (ln = 0 ∨ l.most ≤ (lastG l.segs).2) → wrG l off = l.segs := fun hh => by unfold wrG; rw [← hln, if_neg hh]
  have LST := Lib.hid (fun (M : Nat) (hM : l.segs.length = M + 1) => (WRun.two h).last hM)
  rw [EL.out]
  clear h hF hcode hcl hinv EL hln
  generalize writeE s l off code = er at *
  generalize writeS s l off code = s5 at *
  by_cases hl0 : ln = 0
  · have GE := Lib.hid (GEc (Or.inl hl0))
    clear GEc GNc LST
    subst hl0
    go_enter Tryz.func26, Tryz.ntmps26
    go_upto_region 2 with fail
    go_quiet (fail)
    have B2 : Hid (Below w.heap.size w ((w.drewN nq).alloc (.cells #[.int .i64 off, .int .i64 0] 70))) := Lib.hid ((below_n (Below.refl _ _) nq).alloc (Nat.le_refl _) _)
    go_upto_region 4 with (at_builtin; refine wp_appP4 rfl (.tmp 31) (.tmp 34) rfl undG seg_info rfl (by decide) rfl (by rw [segV_len]; exact HLN.out) (OW.out.grew B2.out (Nat.le_refl _)) (Nat.zero_le _) rfl (obj2P (heap_alloc_new _ _)).1 (obj2P (heap_alloc_new _ _)).2 rfl rfl (by rw [segV_len, ← HLN.out]; omega) (r := 1) (by rw [segV_len, ← HLN.out]) ?_; intro A4 c4' w4 o4 g4 d4 k4)
    have WR2 : Hid (WRun2 w0 w4 T Lb s l G sa sc ra rc A4 c4' (wrG l off)) := Lib.hid (by rw [GE.out]; exact WRun.appended (WRun.grow H.out B2.out) (by rw [segV_app]; exact o4) g4 d4 k4)
    have HM : Hid ((wrG l off).length = 1) := Lib.hid (by rw [GE.out]; simp [← HLN.out])
    clear o4 g4 d4 k4 B2 c0 c1 c2 c3 c4 GE
    obtain ⟨g, hg, d0, d1, d2⟩ := WR2.out.last HM.out
    subst hg
    go_upto_region 5 with fail
    have SC : Hid (∀ W s', WRun2 w0 W T Lb s' l G sa sc ra rc (some ⟨g, 0, none⟩) c4' (wrG l off) → W.cell? ⟨Lb, 0, none⟩ = some (.pointer (some ⟨T, 0, none⟩)) ∧ W.cell? ⟨g, 0, none⟩ = some (.int .i64 (lastG (wrG l off)).1) ∧ W.cell? ⟨g, 0 + 1, none⟩ = some (.int .i64 (lastG (wrG l off)).2)) := Lib.hid fun W s' h => by
      obtain ⟨⟨c0, _⟩, _⟩ := obj5 (obj_w h.run)
      obtain ⟨g', hg, d0, d1, d2⟩ := h.last HM.out
      obtain rfl : g = g' := by injection hg with e; injection e
      exact ⟨c0, by simpa using d0, by simpa using d1⟩
    have TBd := Lib.hid (WRun2.grow WR2.out (Below.refl _ _).drew)
    have NM := Lib.hid (segname_any (lastG (wrG l off)).1 (lastG (wrG l off)).2 FR.1 FR.2.1 w4.drew (HF.out.below (WRun.below TBd.out.run)))
    have DN : Hid (∀ W, WRun2 w0 W T Lb s5 l G sa sc ra rc (some ⟨g, 0, none⟩) c4' (wrG l off) → Wl.Inv { l with segs := (wrG l off).set ((wrG l off).length - 1) ((lastG (wrG l off)).1, (lastG (wrG l off)).2 + (nc : Int)) } → WRun w0 ((W.setCell ⟨g, 0 + 1, none⟩ (.int .i64 ((lastG (wrG l off)).2 + (nc : Int)))).setCell ⟨Lb, 2, none⟩ (.slice (some ⟨g, 0, none⟩) (1) c4')) T Lb s5 { l with segs := (wrG l off).set ((wrG l off).length - 1) ((lastG (wrG l off)).1, (lastG (wrG l off)).2 + (nc : Int)) } G (some ⟨g, 0, none⟩) c4' ra rc) := Lib.hid fun W h hi => by
      have e : lastG (wrG l off) = (wrG l off).getD (0) (0, 0) := by unfold lastG; simp [HM.out]
      have h2 := WRun2.done h (i := 0) (by have := HM.out; omega) ((lastG (wrG l off)).2 + (nc : Int))
      rw [HM.out, ← e] at h2
      rw [HM.out] at hi ⊢
      exact h2 hi
    generalize hfz : lastG (wrG l off) = fz at *
    obtain ⟨f, z⟩ := fz
    generalize hgs : wrG l off = gs at *
    have HGS := Lib.hid hgs
    have HFZ := Lib.hid hfz
    have hwz : IntKind.i64.wrap (z + (nc : Int)) = z + (nc : Int) := IntWalk.i64_in _ (by have := FR.2.2; simp at this; omega)
    clear hfz hgs d0 d1 d2
    generalize Sg.nameB f = nb at *
    go_region_held3 (fun w' => w'.cell? ⟨Lb, 0, none⟩ = some (.pointer (some ⟨T, 0, none⟩)) ∧ w'.cell? ⟨g, 0, none⟩ = some (.int .i64 f) ∧ w'.cell? ⟨g, 0 + 1, none⟩ = some (.int .i64 z)) ((first | exact SC.out _ _ TBd.out | exact SC.out _ _ T3.out | exact SC.out _ _ T4.out | go_keep))
        (first
          | (go_simp; go_at_call 31; (with_reducible refine NM.out.mono ?_); rintro e w3 ⟨rfl, b3⟩; have T3 := Lib.hid (WRun2.grow TBd.out b3.out))
          | (go_simp; go_at_call 41; (with_reducible refine (AP.out _ _ _ T3.out).mono ?_); rintro e w5 ⟨rfl, T4⟩))
    all_goals
      by_cases he : er = 0
      · subst he
        obtain ⟨⟨x0, x1, x2, x3, x4⟩, y0, y1, y2, y3, y4⟩ := obj5 (obj_w T4.out.run)
        obtain ⟨g', hg', u0, u1, u2⟩ := T4.out.last HM.out
        obtain rfl : g = g' := by injection hg' with e; injection e
        clear hg'
        go_wp2
        go_ret
        refine ⟨rfl, Lib.hid ⟨some ⟨g, 0, none⟩, c4', ?_⟩⟩
        rw [HGS.out, HFZ.out]
        exact DN.out _ T4.out (HI.out trivial)
      · have hne : (er != 0) = true := by simpa using he
        go_wp2
        go_ret
        exact ⟨rfl, Lib.hid ⟨_, _, T4.out.run⟩⟩
  · obtain ⟨n, hn⟩ : ∃ n, ln = n + 1 := ⟨ln - 1, by omega⟩
    obtain ⟨g0, hg0, e0, e1, e2⟩ := LST.out n (by rw [← HLN.out]; exact hn)
    have hz0 : ((ln : Int) == 0) = false := by rw [beq_eq_false_iff_ne]; omega
    have hw0 : IntKind.i64.wrap ((ln : Int) - 1) = (n : Int) := by rw [show (ln : Int) - 1 = (n : Int) by omega]; exact IntWalk.i64_in _ (by omega)
    have hn0 : 0 ≤ (n : Int) := by omega
    have hn1 : (n : Int) < (ln : Int) := by omega
    clear LST hl0 hz0 hw0 hn1
    subst hn
    have hz0 : ((n : Int) + 1 == 0) = false := by rw [beq_eq_false_iff_ne]; omega
    have hw0 : IntKind.i64.wrap (n : Int) = (n : Int) := IntWalk.i64_in _ (by omega)
    have hn1 : (n : Int) < (n : Int) + 1 := by omega
    generalize lastG l.segs = lg at *
    obtain ⟨f, z⟩ := lg
    replace e0 : w.cell? ⟨g0, n * 2, none⟩ = some (.int .i64 f) := e0
    replace e1 : w.cell? ⟨g0, n * 2 + 1, none⟩ = some (.int .i64 z) := e1
    by_cases hful : l.most ≤ z
    · have GE := Lib.hid (GEc (Or.inr hful))
      clear GEc GNc
      rw [hg0] at c2
      have HG0 := Lib.hid hg0
      go_enter Tryz.func26, Tryz.ntmps26
      go_upto_region 2 with fail
      go_quiet (fail)
      rw [← HG0.out]
      have B2 : Hid (Below w.heap.size w ((w.drewN nq).alloc (.cells #[.int .i64 off, .int .i64 0] 70))) := Lib.hid ((below_n (Below.refl _ _) nq).alloc (Nat.le_refl _) _)
      go_upto_region 4 with (at_builtin; refine wp_appP4 rfl (.tmp 31) (.tmp 34) rfl undG seg_info rfl (by decide) rfl (by rw [segV_len]; exact HLN.out) (OW.out.grew B2.out (Nat.le_refl _)) (Nat.zero_le _) rfl (obj2P (heap_alloc_new _ _)).1 (obj2P (heap_alloc_new _ _)).2 rfl rfl (by rw [segV_len, ← HLN.out]; omega) (r := n + 1 + 1) (by rw [segV_len, ← HLN.out]) ?_; intro A4 c4' w4 o4 g4 d4 k4)
      have WR2 : Hid (WRun2 w0 w4 T Lb s l G sa sc ra rc A4 c4' (wrG l off)) := Lib.hid (by rw [GE.out]; exact WRun.appended (WRun.grow H.out B2.out) (by rw [segV_app]; exact o4) g4 d4 k4)
      have HM : Hid ((wrG l off).length = n + 1 + 1) := Lib.hid (by rw [GE.out]; simp [← HLN.out])
      clear o4 g4 d4 k4 B2 c0 c1 c2 c3 c4 GE
      obtain ⟨M, hM⟩ : ∃ M, M = n + 1 := ⟨_, rfl⟩
      rw [← hM] at HM ⊢
      have hMc : (M : Int) ≤ 16777216 := by omega
      clear hz0 hw0 hn0 hn1 hsc hM
      obtain ⟨g, hg, d0, d1, d2⟩ := WR2.out.last HM.out
      subst hg
      have hw1 : IntKind.i64.wrap (M : Int) = (M : Int) := IntWalk.i64_in _ (by omega)
      have hi0 : 0 ≤ (M : Int) := by omega
      have hi1 : (M : Int) < (M : Int) + 1 := by omega
      go_upto_region 5 with fail
      have SC : Hid (∀ W s', WRun2 w0 W T Lb s' l G sa sc ra rc (some ⟨g, 0, none⟩) c4' (wrG l off) → W.cell? ⟨Lb, 0, none⟩ = some (.pointer (some ⟨T, 0, none⟩)) ∧ W.cell? ⟨g, M * 2, none⟩ = some (.int .i64 (lastG (wrG l off)).1) ∧ W.cell? ⟨g, M * 2 + 1, none⟩ = some (.int .i64 (lastG (wrG l off)).2)) := Lib.hid fun W s' h => by
        obtain ⟨⟨c0, _⟩, _⟩ := obj5 (obj_w h.run)
        obtain ⟨g', hg, d0, d1, d2⟩ := h.last HM.out
        obtain rfl : g = g' := by injection hg with e; injection e
        exact ⟨c0, by simpa using d0, by simpa using d1⟩
      have TBd := Lib.hid (WRun2.grow WR2.out (Below.refl _ _).drew)
      have NM := Lib.hid (segname_any (lastG (wrG l off)).1 (lastG (wrG l off)).2 FR.1 FR.2.1 w4.drew (HF.out.below (WRun.below TBd.out.run)))
      have DN : Hid (∀ W, WRun2 w0 W T Lb s5 l G sa sc ra rc (some ⟨g, 0, none⟩) c4' (wrG l off) → Wl.Inv { l with segs := (wrG l off).set ((wrG l off).length - 1) ((lastG (wrG l off)).1, (lastG (wrG l off)).2 + (nc : Int)) } → WRun w0 ((W.setCell ⟨g, M * 2 + 1, none⟩ (.int .i64 ((lastG (wrG l off)).2 + (nc : Int)))).setCell ⟨Lb, 2, none⟩ (.slice (some ⟨g, 0, none⟩) (M + 1) c4')) T Lb s5 { l with segs := (wrG l off).set ((wrG l off).length - 1) ((lastG (wrG l off)).1, (lastG (wrG l off)).2 + (nc : Int)) } G (some ⟨g, 0, none⟩) c4' ra rc) := Lib.hid fun W h hi => by
        have e : lastG (wrG l off) = (wrG l off).getD (M) (0, 0) := by unfold lastG; simp [HM.out]
        have h2 := WRun2.done h (i := M) (by have := HM.out; omega) ((lastG (wrG l off)).2 + (nc : Int))
        rw [HM.out, ← e] at h2
        rw [HM.out] at hi ⊢
        exact h2 hi
      generalize hfz : lastG (wrG l off) = fz at *
      obtain ⟨f, z⟩ := fz
      generalize hgs : wrG l off = gs at *
      have HGS := Lib.hid hgs
      have HFZ := Lib.hid hfz
      have hwz : IntKind.i64.wrap (z + (nc : Int)) = z + (nc : Int) := IntWalk.i64_in _ (by have := FR.2.2; simp at this; omega)
      clear hfz hgs d0 d1 d2
      generalize Sg.nameB f = nb at *
      go_region_held3 (fun w' => w'.cell? ⟨Lb, 0, none⟩ = some (.pointer (some ⟨T, 0, none⟩)) ∧ w'.cell? ⟨g, M * 2, none⟩ = some (.int .i64 f) ∧ w'.cell? ⟨g, M * 2 + 1, none⟩ = some (.int .i64 z)) ((first | exact SC.out _ _ TBd.out | exact SC.out _ _ T3.out | exact SC.out _ _ T4.out | go_keep))
          (first
            | (go_simp; go_at_call 31; (with_reducible refine NM.out.mono ?_); rintro e w3 ⟨rfl, b3⟩; have T3 := Lib.hid (WRun2.grow TBd.out b3.out))
            | (go_simp; go_at_call 41; (with_reducible refine (AP.out _ _ _ T3.out).mono ?_); rintro e w5 ⟨rfl, T4⟩))
      all_goals
        by_cases he : er = 0
        · subst he
          obtain ⟨⟨x0, x1, x2, x3, x4⟩, y0, y1, y2, y3, y4⟩ := obj5 (obj_w T4.out.run)
          obtain ⟨g', hg', u0, u1, u2⟩ := T4.out.last HM.out
          obtain rfl : g = g' := by injection hg' with e; injection e
          clear hg'
          go_wp2
          go_ret
          refine ⟨rfl, Lib.hid ⟨some ⟨g, 0, none⟩, c4', ?_⟩⟩
          rw [HGS.out, HFZ.out]
          exact DN.out _ T4.out (HI.out trivial)
        · have hne : (er != 0) = true := by simpa using he
          go_wp2
          go_ret
          exact ⟨rfl, Lib.hid ⟨_, _, T4.out.run⟩⟩
    · have GN := Lib.hid (GNc (fun hh => by rcases hh with h | h; omega; exact hful h))
      clear GEc GNc
      rw [hg0] at c2
      have HG0 := Lib.hid hg0
      go_enter Tryz.func26, Tryz.ntmps26
      go_upto_region 2 with fail
      go_quiet (fail)
      go_upto_region 4 with fail
      have WR2 : Hid (WRun2 w0 (w.drewN nq) T Lb s l G sa sc ra rc sa sc (wrG l off)) := Lib.hid (by rw [GN.out]; exact WRun.two (WRun.draw H.out nq))
      have HM : Hid ((wrG l off).length = n + 1) := Lib.hid (by rw [GN.out, ← HLN.out])
      clear c0 c1 c2 c3 c4 GN
      generalize w.drewN nq = w4 at *
      obtain ⟨M, hM⟩ : ∃ M, M = n := ⟨_, rfl⟩
      rw [← hM] at HM ⊢
      have hMc : (M : Int) ≤ 16777216 := by omega
      clear hz0 hw0 hn0 hn1 hsc hM
      obtain ⟨g, hg, d0, d1, d2⟩ := WR2.out.last HM.out
      obtain rfl : g0 = g := by have e := HG0.out.symm.trans hg; injection e with e; injection e
      have hsa := HG0.out
      clear HG0 hg hg0
      subst hsa
      have hw1 : IntKind.i64.wrap (M : Int) = (M : Int) := IntWalk.i64_in _ (by omega)
      have hi0 : 0 ≤ (M : Int) := by omega
      have hi1 : (M : Int) < (M : Int) + 1 := by omega
      go_upto_region 5 with fail
      have SC : Hid (∀ W s', WRun2 w0 W T Lb s' l G (some ⟨g0, 0, none⟩) sc ra rc (some ⟨g0, 0, none⟩) sc (wrG l off) → W.cell? ⟨Lb, 0, none⟩ = some (.pointer (some ⟨T, 0, none⟩)) ∧ W.cell? ⟨g0, M * 2, none⟩ = some (.int .i64 (lastG (wrG l off)).1) ∧ W.cell? ⟨g0, M * 2 + 1, none⟩ = some (.int .i64 (lastG (wrG l off)).2)) := Lib.hid fun W s' h => by
        obtain ⟨⟨c0, _⟩, _⟩ := obj5 (obj_w h.run)
        obtain ⟨g', hg, d0, d1, d2⟩ := h.last HM.out
        obtain rfl : g0 = g' := by injection hg with e; injection e
        exact ⟨c0, by simpa using d0, by simpa using d1⟩
      have TBd := Lib.hid (WRun2.grow WR2.out (Below.refl _ _).drew)
      have NM := Lib.hid (segname_any (lastG (wrG l off)).1 (lastG (wrG l off)).2 FR.1 FR.2.1 w4.drew (HF.out.below (WRun.below TBd.out.run)))
      have DN : Hid (∀ W, WRun2 w0 W T Lb s5 l G (some ⟨g0, 0, none⟩) sc ra rc (some ⟨g0, 0, none⟩) sc (wrG l off) → Wl.Inv { l with segs := (wrG l off).set ((wrG l off).length - 1) ((lastG (wrG l off)).1, (lastG (wrG l off)).2 + (nc : Int)) } → WRun w0 ((W.setCell ⟨g0, M * 2 + 1, none⟩ (.int .i64 ((lastG (wrG l off)).2 + (nc : Int)))).setCell ⟨Lb, 2, none⟩ (.slice (some ⟨g0, 0, none⟩) (M + 1) sc)) T Lb s5 { l with segs := (wrG l off).set ((wrG l off).length - 1) ((lastG (wrG l off)).1, (lastG (wrG l off)).2 + (nc : Int)) } G (some ⟨g0, 0, none⟩) sc ra rc) := Lib.hid fun W h hi => by
        have e : lastG (wrG l off) = (wrG l off).getD (M) (0, 0) := by unfold lastG; simp [HM.out]
        have h2 := WRun2.done h (i := M) (by have := HM.out; omega) ((lastG (wrG l off)).2 + (nc : Int))
        rw [HM.out, ← e] at h2
        rw [HM.out] at hi ⊢
        exact h2 hi
      generalize hfz : lastG (wrG l off) = fz at *
      obtain ⟨f, z⟩ := fz
      generalize hgs : wrG l off = gs at *
      have HGS := Lib.hid hgs
      have HFZ := Lib.hid hfz
      have hwz : IntKind.i64.wrap (z + (nc : Int)) = z + (nc : Int) := IntWalk.i64_in _ (by have := FR.2.2; simp at this; omega)
      clear hfz hgs d0 d1 d2
      generalize Sg.nameB f = nb at *
      go_region_held3 (fun w' => w'.cell? ⟨Lb, 0, none⟩ = some (.pointer (some ⟨T, 0, none⟩)) ∧ w'.cell? ⟨g0, M * 2, none⟩ = some (.int .i64 f) ∧ w'.cell? ⟨g0, M * 2 + 1, none⟩ = some (.int .i64 z)) ((first | exact SC.out _ _ TBd.out | exact SC.out _ _ T3.out | exact SC.out _ _ T4.out | go_keep))
          (first
            | (go_simp; go_at_call 31; (with_reducible refine NM.out.mono ?_); rintro e w3 ⟨rfl, b3⟩; have T3 := Lib.hid (WRun2.grow TBd.out b3.out))
            | (go_simp; go_at_call 41; (with_reducible refine (AP.out _ _ _ T3.out).mono ?_); rintro e w5 ⟨rfl, T4⟩))
      all_goals
        by_cases he : er = 0
        · subst he
          obtain ⟨⟨x0, x1, x2, x3, x4⟩, y0, y1, y2, y3, y4⟩ := obj5 (obj_w T4.out.run)
          obtain ⟨g', hg', u0, u1, u2⟩ := T4.out.last HM.out
          obtain rfl : g0 = g' := by injection hg' with e; injection e
          clear hg'
          go_wp2
          go_ret
          refine ⟨rfl, Lib.hid ⟨some ⟨g0, 0, none⟩, sc, ?_⟩⟩
          rw [HGS.out, HFZ.out]
          exact DN.out _ T4.out (HI.out trivial)
        · have hne : (er != 0) = true := by simpa using he
          go_wp2
          go_ret
          exact ⟨rfl, Lib.hid ⟨_, _, T4.out.run⟩⟩
end Go.Proofs.YtdbhicifjljjnaaGreatDoor
