/-
  The reference's Crash.
-/
import Derived.Test.YtmahbcpkilegpaaStoRefCr
import Derived.Test.YtmahbcpkilegpaaLastOp
namespace Go.Proofs.Ytmahbcpkilegpaa
open Go.RowKit St

theorem rcrash_end {w wr : World} {R : Nat} {own : Nat → Prop} {s : S} {rf : Int} {rk : List Int} {fa : Option Addr} {fc : Nat} {ka : Option Addr} {kc : Nat} {ks : List Int} {own2 : Nat → Prop} {Ad Ad2 : List UInt8 → Option Addr × Nat} (p : RP w R own s rf rk Ad fa fc ka kc) (h : RCr w wr R own s rf rk fa fc ka kc (crashL s.fs ks) own2 Ad2) (ho : s.off = false) (hrk : rk.length ≤ 1000000) :
    RLeaves w R own (crash s ks) ((wr.setCell ⟨R, 2, none⟩ (.bool true)).setCell ⟨R, 3, none⟩ (.int .i64 0)) := by
  have o3 := obj_set (o := 3) (obj_set (o := 2) h.rp.rs.obj (.bool true)) (.int .i64 0)
  have hkb : ∀ k, k ≠ R → ((wr.setCell ⟨R, 2, none⟩ (.bool true)).setCell ⟨R, 3, none⟩ (.int .i64 0)).heap[k]? = wr.heap[k]? := fun k hk => by
    rw [Below.heap_setCell _ _ _ _ hk, Below.heap_setCell _ _ _ _ hk]
  have hsz : ((wr.setCell ⟨R, 2, none⟩ (.bool true)).setCell ⟨R, 3, none⟩ (.int .i64 0)).heap.size = wr.heap.size := by simp [World.setCell]
  have ho1 : Only own w wr := h.only.mono fun b _ ⟨a, ha, hb⟩ => by rw [hb]; exact p.ownF a ha
  have hon := ho1.trans ((Only.set own 2 wr (.bool true) p.ownT).trans (Only.set own 3 _ (.int .i64 0) p.ownT) (fun _ h => .inl h)) (fun _ h => .inl h)
  have e : crash s ks = { ({ s with fs := crashL s.fs ks } : S) with off := true, fuse := 0, keep := [] } := by unfold crash; rw [if_neg (by simp [ho])]
  rw [e]
  refine ⟨own2, ⟨0, rk, Ad2, fa, fc, ka, kc, ?_, by omega, by omega, hrk⟩, hon, h.sub⟩
  refine h.rp.flags (fun k _ hne => hkb k hne) ?_ (h.rp.keep.keep fun a ha => hkb _ (h.rp.keep_ne ha)) (fun _ h => h) (fun k hk => by rw [hsz]; exact h.rp.lt k hk) h.rp.ownK (inv_flags h.rp.rs.inv (by omega) (by simp)) ⟨rfl, fun h => by omega⟩
  rw [o3]; simp
theorem far_cell {w : World} {g i j : Nat} {v : Value} (h : i ≠ j) : (w.setCell ⟨g, i, none⟩ v).cell? ⟨g, j, none⟩ = w.cell? ⟨g, j, none⟩ := by
  refine World.cell?_setCell_other (h := ?_) ..
  intro e
  exact h (by injection e)
set_option maxRecDepth 20000 in
set_option maxHeartbeats 8000000 in
theorem rcrash_on {w : World} {R : Nat} {own : Nat → Prop} {s : S} {rf : Int} {rk : List Int} {Ad : List UInt8 → Option Addr × Nat} {fa : Option Addr} {fc : Nat} {ka : Option Addr} {kc : Nat} (h : RP w R own s rf rk Ad fa fc ka kc) (hrk : rk.length ≤ 1000000) (ho : s.off = false)
    (A : Option Addr) (ks : List Int) (len cap : Nat) (hl : len = ks.length) (hk : ks.length ≤ 1000000) (hi : Ints w A ks) (hA : 0 < ks.length → ∀ a b, A = some a → fa = some b → a.block ≠ b.block) :
    Calls Try.prog 30 #[.pointer (some ⟨R, 0, none⟩), .slice A len cap] w fun e w' => e = .returned (.tuple #[]) ∧ RLeaves w R own (crash s ks) w' := by
  have HR := Lib.hid h
  have HI := Lib.hid hi
  have HA := Lib.hid hA
  have HRK := Lib.hid hrk
  have hn : (s.fs.length : Int) ≤ 64 := by have := h.rs.inv.count; omega
  obtain ⟨⟨_, c1, c2, _, _⟩, _⟩ := obj5 h.rs.obj
  rw [ho] at c2
  have HO := Lib.hid ho
  clear h hi hA hrk ho
  obtain ⟨n, hN⟩ : ∃ n, n = s.fs.length := ⟨_, rfl⟩
  rw [← hN] at c1 hn
  have HN := Lib.hid hN
  clear hN
  subst hl
  have hk' : (ks.length : Int) ≤ 1000000 := by omega
  clear hk
  go_enter Try.func30, Try.ntmps30
  go_wp2
  go_loopw [4, 5] (fun av iv wr => ∃ (k at_ : Nat) (own2 : Nat → Prop) (Ad2 : List UInt8 → Option Addr × Nat), k ≤ n ∧ av = .int .i64 (at_ : Int) ∧ iv = .int .i64 (k : Int) ∧ Hid (at_ = cnt (s.fs.take k)) ∧ Hid (RCr w wr R own s rf rk fa fc ka kc (crashTo s.fs ks k) own2 Ad2)) (fun _ iv _ => n - (intOf iv).toNat)
  case atStart => exact ⟨0, 0, own, Ad, Nat.zero_le _, rfl, rfl, Lib.hid rfl, Lib.hid (RCr.start HR.out)⟩
  case round =>
    obtain ⟨k, at_, own2, Ad2, hk0, rfl, rfl, HAT, HC⟩ := hrel
    by_cases hlt : k < n
    · have HL : Hid (k < s.fs.length) := Lib.hid (by rw [← HN.out]; exact hlt)
      obtain ⟨g, f, hg, HF, c1, d2, d3, _, _, _, _, su1, zn1, _, _⟩ := HC.out.facts HL.out
      rw [← HN.out] at c1
      have hlt' : (k : Int) < (n : Int) := by omega
      obtain ⟨zn, hzn⟩ : ∃ zn, zn = f.zs.length := ⟨_, rfl⟩
      obtain ⟨su, hsu2⟩ : ∃ su, su = f.sure := ⟨_, rfl⟩
      rw [← hzn] at d2 su1 zn1
      rw [← hsu2] at d3 su1
      have ZN := Lib.hid hzn
      have SU := Lib.hid hsu2
      clear hzn hsu2
      subst hg
      by_cases hz : su = zn
      · have SK := Lib.hid (crashTo_skip s.fs ks k HL.out (by rw [← HF.out, ← SU.out, ← ZN.out]; exact hz))
        subst hz
        clear su1
        go_wp2
        go_quiet (fail)
        have HQ := Lib.hid (HC.out.drewN nq)
        go_wp2
        go_roundw
        case rel => exact ⟨k + 1, at_, own2, Ad2, hlt, rfl, by go_num, Lib.hid (by rw [SK.out.2]; exact HAT.out), by rw [SK.out.1]; exact HQ⟩
        case measure => simp [intOf]; omega
      · have hz0 : ¬ (zn : Int) - (su : Int) = 0 := by omega
        have ST := Lib.hid (crashTo_step s.fs ks k HL.out (by rw [← HF.out, ← SU.out, ← ZN.out]; exact hz))
        have hat : at_ ≤ 64 := by
          have h1 := cnt_le (s.fs.take k); rw [List.length_take] at h1
          have := HAT.out; have := HN.out; have := HL.out; omega
        go_wp2
        go_quiet (fail)
        have HQ := Lib.hid (HC.out.drewN nq)
        have HIq := Lib.hid (HQ.out.ints HI.out HA.out)
        clear c1 d2 d3
        generalize wr.drewN nq = wq at *
        clear HC
        obtain ⟨g', f', hg', HF', c1, d2, d3, ne, fz1, fz2, ROW, _, _, lg, lR⟩ := HQ.out.facts HL.out
        obtain rfl : g = g' := by injection hg' with e; injection e
        obtain rfl : f = f' := HF.out.trans HF'.out.symm
        rw [← HN.out] at c1
        rw [← ZN.out] at d2
        rw [← SU.out] at d3
        clear hg' HF'
        by_cases ha : at_ < ks.length
        · obtain ⟨b, off, hAe, hcell⟩ := HIq.out.at_ ha
          obtain ⟨kv, hkv⟩ : ∃ kv, kv = ks.getD at_ 0 := ⟨_, rfl⟩
          rw [← hkv] at hcell
          have KV := Lib.hid hkv
          clear hkv
          subst hAe
          have ha' : (at_ : Int) < (ks.length : Int) := by omega
          by_cases h0 : kv < 0
          · have h1 : (0 : Int) < (zn : Int) - (su : Int) := by omega
            go_wp2
            go_region
            have HX : Hid (su = f.sure + min (kv).toNat (f.zs.length - f.sure)) := Lib.hid (by rw [← SU.out, ← ZN.out]; omega)
            have hxl : su ≤ f.zs.length := by have := ZN.out; omega
            have hxb : su ≤ 16777216 := by omega
            clear c1 d2 d3 fz2 ROW
            generalize hw1 : (wq.setCell ⟨g, k * 3 + 2, none⟩ (.int .i64 (su : Int))).drew = w1 at *
            obtain ⟨c1, d2, d3, fz1, ROW, sz1, BW⟩ := HQ.out.next HL.out rfl HF.out hxl hw1.symm
            rw [← HN.out] at c1
            have hsl := slice_to (Ad2 f.nm).1 f.zs.length (Ad2 f.nm).2 su (Nat.le_trans hxl ROW.out.cap_) .i64
            have TL : Hid ((f.zs.take su).length = su) := Lib.hid (by rw [List.length_take]; omega)
            have RB := Lib.hid (ROW.out.bytes.head su)
            have lg1 : g < w1.heap.size := by rw [sz1]; exact lg
            have lR1 : R < w1.heap.size := by rw [sz1]; exact lR
            have SZ := Lib.hid sz1
            clear sz1
            have BA : Hid (Below w1.heap.size w1 (w1.alloc (.cells #[] 5)).drew) := Lib.hid (((Below.refl _ _).alloc (Nat.le_refl _) (.cells #[] 5)).drew)
            have q4 : Hid ((w1.alloc (.cells #[] 5)).drew.cell? ⟨R, 1, none⟩ = some (.slice (some ⟨g, 0, none⟩) n fc) ∧ (w1.alloc (.cells #[] 5)).drew.cell? ⟨g, k * 3 + 2, none⟩ = some (.int .i64 (su : Int))) := Lib.hid ⟨(BA.out.cell (p := ⟨R, 1, none⟩) lR1).trans c1, (BA.out.cell (p := ⟨g, k * 3 + 2, none⟩) lg1).trans d3⟩
            have z2 : (w1.alloc (.cells #[] 5)).drew.cell? ⟨g, k * 3 + 1, none⟩ = some (.slice (Ad2 f.nm).1 f.zs.length (Ad2 f.nm).2) := (BA.out.cell (p := ⟨g, k * 3 + 1, none⟩) lg1).trans d2
            go_wp2_with fail
            refine wp_region_C (fun w' => w'.cell? ⟨R, 1, none⟩ = some (.slice (some ⟨g, 0, none⟩) n fc) ∧ w'.cell? ⟨g, k * 3 + 1, none⟩ = some (.slice (Ad2 f.nm).1 f.zs.length (Ad2 f.nm).2) ∧ w'.cell? ⟨g, k * 3 + 2, none⟩ = some (.int .i64 (su : Int))) 26 (by kernel_rfl) ?_
            have hS0 : (fun w' : World => w'.cell? ⟨R, 1, none⟩ = some (.slice (some ⟨g, 0, none⟩) n fc) ∧ w'.cell? ⟨g, k * 3 + 1, none⟩ = some (.slice (Ad2 f.nm).1 f.zs.length (Ad2 f.nm).2) ∧ w'.cell? ⟨g, k * 3 + 2, none⟩ = some (.int .i64 (su : Int))) w1.drew := ⟨c1, d2, d3⟩
            refine wpAnyC_take (i := 0) (oi := ?o1) (v := ?v1) ?hi1 (by kernel_rfl) (by kernel_rfl) (by kernel_rfl) ?hQ1 (by kernel_rfl) (by decide) (by kernel_rfl) (Or.inl ⟨?hg1, ?hy1⟩) (by assumption) ?rest1
            case hi1 => (simp only [List.getElem?_toArray, List.getElem?_cons_zero]; exact rfl)
            case hQ1 => exact fun _ _ _ h => h
            case hg1 => rfl
            case hy1 => (intro w' hSw; (try dsimp only at hSw); go_simp; try with_reducible rfl)
            try simp only [Act.put, List.setIfInBounds_toArray, List.set_cons_zero, List.set_cons_succ]
            refine wpAnyC_take (i := 1) (oi := ?o2) (v := ?v2) ?hi2 (by kernel_rfl) (by kernel_rfl) (by kernel_rfl) ?hQ2 (by kernel_rfl) (by decide) (by kernel_rfl) (Or.inl ⟨?hg2, ?hy2⟩) (by assumption) ?rest2
            case hi2 => (simp only [List.getElem?_toArray, List.getElem?_cons_zero, List.getElem?_cons_succ]; exact rfl)
            case hQ2 => exact fun _ _ _ h => h
            case hg2 => rfl
            case hy2 => (intro w' hSw; (try dsimp only at hSw); go_simp; try with_reducible rfl)
            try simp only [Act.put, List.setIfInBounds_toArray, List.set_cons_zero, List.set_cons_succ]
            refine wpAnyC_take (i := 2) (oi := ?o3) (v := ?v3) ?hi3 (by kernel_rfl) (by kernel_rfl) (by kernel_rfl) ?hQ3 (by kernel_rfl) (by decide) (by kernel_rfl) (Or.inl ⟨?hg3, ?hy3⟩) (by assumption) ?rest3
            case hi3 => (simp only [List.getElem?_toArray, List.getElem?_cons_zero, List.getElem?_cons_succ]; exact rfl)
            case hQ3 => exact fun _ _ _ h => h
            case hg3 => rfl
            case hy3 => (intro w' hSw; (try dsimp only at hSw); go_simp; try with_reducible rfl)
            try simp only [Act.put, List.setIfInBounds_toArray, List.set_cons_zero, List.set_cons_succ]
            refine wpAnyC_take (i := 3) (oi := ?o4) (v := ?v4) ?hi4 (by kernel_rfl) (by kernel_rfl) (by kernel_rfl) ?hQ4 (by kernel_rfl) (by decide) (by kernel_rfl) (Or.inl ⟨?hg4, ?hy4⟩) (by assumption) ?rest4
            case hi4 => (simp only [List.getElem?_toArray, List.getElem?_cons_zero, List.getElem?_cons_succ]; exact rfl)
            case hQ4 => exact fun _ _ _ h => h
            case hg4 => rfl
            case hy4 => (intro w' hSw; (try dsimp only at hSw); go_simp; try with_reducible rfl)
            try simp only [Act.put, List.setIfInBounds_toArray, List.set_cons_zero, List.set_cons_succ]
            refine wpAnyC_take (i := 4) (oi := ?o5) (v := ?v5) ?hi5 (by kernel_rfl) (by kernel_rfl) (by kernel_rfl) ?hQ5 (by kernel_rfl) (by decide) (by kernel_rfl) (Or.inl ⟨?hg5, ?hy5⟩) (by assumption) ?rest5
            case hi5 => (simp only [List.getElem?_toArray, List.getElem?_cons_zero, List.getElem?_cons_succ]; exact rfl)
            case hQ5 => exact fun _ _ _ h => h
            case hg5 => rfl
            case hy5 => (intro w' hSw; (try dsimp only at hSw); go_simp; try with_reducible rfl)
            try simp only [Act.put, List.setIfInBounds_toArray, List.set_cons_zero, List.set_cons_succ]
            refine wpAnyC_take (i := 6) (oi := ?o6) (v := ?v6) ?hi6 (by kernel_rfl) (by kernel_rfl) (by kernel_rfl) ?hQ6 (by kernel_rfl) (by decide) (by kernel_rfl) (Or.inl ⟨?hg6, ?hy6⟩) (by assumption) ?rest6
            case hi6 => (simp only [List.getElem?_toArray, List.getElem?_cons_zero, List.getElem?_cons_succ]; exact rfl)
            case hQ6 => exact fun _ _ _ h => h
            case hg6 => rfl
            case hy6 => (intro w' hSw; (try dsimp only at hSw); go_simp; try with_reducible rfl)
            try simp only [Act.put, List.setIfInBounds_toArray, List.set_cons_zero, List.set_cons_succ]
            refine wpAnyC_take (i := 7) (oi := ?o7) (v := ?v7) ?hi7 (by kernel_rfl) (by kernel_rfl) (by kernel_rfl) ?hQ7 (by kernel_rfl) (by decide) (by kernel_rfl) (Or.inl ⟨?hg7, ?hy7⟩) (by assumption) ?rest7
            case hi7 => (simp only [List.getElem?_toArray, List.getElem?_cons_zero, List.getElem?_cons_succ]; exact rfl)
            case hQ7 => exact fun _ _ _ h => h
            case hg7 => rfl
            case hy7 => (intro w' hSw; (try dsimp only at hSw); go_simp; try with_reducible rfl)
            try simp only [Act.put, List.setIfInBounds_toArray, List.set_cons_zero, List.set_cons_succ]
            refine wpAnyC_take (i := 8) (oi := ?o8) (v := ?v8) ?hi8 (by kernel_rfl) (by kernel_rfl) (by kernel_rfl) ?hQ8 (by kernel_rfl) (by decide) (by kernel_rfl) (Or.inl ⟨?hg8, ?hy8⟩) (by assumption) ?rest8
            case hi8 => (simp only [List.getElem?_toArray, List.getElem?_cons_zero, List.getElem?_cons_succ]; exact rfl)
            case hQ8 => exact fun _ _ _ h => h
            case hg8 => rfl
            case hy8 => (intro w' hSw; (try dsimp only at hSw); go_simp; try with_reducible rfl)
            try simp only [Act.put, List.setIfInBounds_toArray, List.set_cons_zero, List.set_cons_succ]
            refine wpAnyC_take (i := 9) (oi := ?o9) (v := ?v9) ?hi9 (by kernel_rfl) (by kernel_rfl) (by kernel_rfl) ?hQ9 (by kernel_rfl) (by decide) (by kernel_rfl) (Or.inl ⟨?hg9, ?hy9⟩) (by assumption) ?rest9
            case hi9 => (simp only [List.getElem?_toArray, List.getElem?_cons_zero, List.getElem?_cons_succ]; exact rfl)
            case hQ9 => exact fun _ _ _ h => h
            case hg9 => rfl
            case hy9 => (intro w' hSw; (try dsimp only at hSw); go_simp; try with_reducible rfl)
            try simp only [Act.put, List.setIfInBounds_toArray, List.set_cons_zero, List.set_cons_succ]
            refine wpAnyC_take (i := 10) (oi := ?o10) (v := ?v10) ?hi10 (by kernel_rfl) (by kernel_rfl) (by kernel_rfl) ?hQ10 (by kernel_rfl) (by decide) (by kernel_rfl) (Or.inl ⟨?hg10, ?hy10⟩) (by assumption) ?rest10
            case hi10 => (simp only [List.getElem?_toArray, List.getElem?_cons_zero, List.getElem?_cons_succ]; exact rfl)
            case hQ10 => exact fun _ _ _ h => h
            case hg10 => rfl
            case hy10 => (intro w' hSw; (try dsimp only at hSw); go_simp; try with_reducible rfl)
            try simp only [Act.put, List.setIfInBounds_toArray, List.set_cons_zero, List.set_cons_succ]
            refine wpAnyC_take (i := 11) (oi := ?o11) (v := ?v11) ?hi11 (by kernel_rfl) (by kernel_rfl) (by kernel_rfl) ?hQ11 (by kernel_rfl) (by decide) (by kernel_rfl) (Or.inl ⟨?hg11, ?hy11⟩) (by assumption) ?rest11
            case hi11 => (simp only [List.getElem?_toArray, List.getElem?_cons_zero, List.getElem?_cons_succ]; exact rfl)
            case hQ11 => exact fun _ _ _ h => h
            case hg11 => rfl
            case hy11 => (intro w' hSw; (try dsimp only at hSw); go_simp; try with_reducible rfl)
            try simp only [Act.put, List.setIfInBounds_toArray, List.set_cons_zero, List.set_cons_succ]
            refine wpAnyC_take (i := 12) (oi := ?o12) (v := ?v12) ?hi12 (by kernel_rfl) (by kernel_rfl) (by kernel_rfl) ?hQ12 (by kernel_rfl) (by decide) (by kernel_rfl) (Or.inl ⟨?hg12, ?hy12⟩) (by assumption) ?rest12
            case hi12 => (simp only [List.getElem?_toArray, List.getElem?_cons_zero, List.getElem?_cons_succ]; exact rfl)
            case hQ12 => exact fun _ _ _ h => h
            case hg12 => rfl
            case hy12 => (intro w' hSw; (try dsimp only at hSw); go_simp; try with_reducible rfl)
            try simp only [Act.put, List.setIfInBounds_toArray, List.set_cons_zero, List.set_cons_succ]
            refine wpAnyC_take (i := 13) (oi := ?o13) (v := ?v13) ?hi13 (by kernel_rfl) (by kernel_rfl) (by kernel_rfl) ?hQ13 (by kernel_rfl) (by decide) (by kernel_rfl) (Or.inl ⟨?hg13, ?hy13⟩) (by assumption) ?rest13
            case hi13 => (simp only [List.getElem?_toArray, List.getElem?_cons_zero, List.getElem?_cons_succ]; exact rfl)
            case hQ13 => exact fun _ _ _ h => h
            case hg13 => rfl
            case hy13 => (intro w' hSw; (try dsimp only at hSw); go_simp; try with_reducible rfl)
            try simp only [Act.put, List.setIfInBounds_toArray, List.set_cons_zero, List.set_cons_succ]
            refine wpAnyC_take (i := 14) (oi := ?o14) (v := ?v14) ?hi14 (by kernel_rfl) (by kernel_rfl) (by kernel_rfl) ?hQ14 (by kernel_rfl) (by decide) (by kernel_rfl) (Or.inl ⟨?hg14, ?hy14⟩) (by assumption) ?rest14
            case hi14 => (simp only [List.getElem?_toArray, List.getElem?_cons_zero, List.getElem?_cons_succ]; exact rfl)
            case hQ14 => exact fun _ _ _ h => h
            case hg14 => rfl
            case hy14 => (intro w' hSw; (try dsimp only at hSw); go_simp; try with_reducible rfl)
            try simp only [Act.put, List.setIfInBounds_toArray, List.set_cons_zero, List.set_cons_succ]
            refine wpAnyC_take (i := 15) (oi := ?o15) (v := ?v15) ?hi15 (by kernel_rfl) (by kernel_rfl) (by kernel_rfl) ?hQ15 (by kernel_rfl) (by decide) (by kernel_rfl) (Or.inl ⟨?hg15, ?hy15⟩) (by assumption) ?rest15
            case hi15 => (simp only [List.getElem?_toArray, List.getElem?_cons_zero, List.getElem?_cons_succ]; exact rfl)
            case hQ15 => exact fun _ _ _ h => h
            case hg15 => rfl
            case hy15 => (intro w' hSw; (try dsimp only at hSw); go_simp; try with_reducible rfl)
            try simp only [Act.put, List.setIfInBounds_toArray, List.set_cons_zero, List.set_cons_succ]
            refine wpAnyC_take (i := 16) (oi := ?o16) (v := ?v16) ?hi16 (by kernel_rfl) (by kernel_rfl) (by kernel_rfl) ?hQ16 (by kernel_rfl) (by decide) (by kernel_rfl) (Or.inl ⟨?hg16, ?hy16⟩) (by assumption) ?rest16
            case hi16 => (simp only [List.getElem?_toArray, List.getElem?_cons_zero, List.getElem?_cons_succ]; exact rfl)
            case hQ16 => exact fun _ _ _ h => h
            case hg16 => rfl
            case hy16 => (intro w' hSw; (try dsimp only at hSw); go_simp; try with_reducible rfl)
            try simp only [Act.put, List.setIfInBounds_toArray, List.set_cons_zero, List.set_cons_succ]
            refine wpAnyC_take (i := 17) (oi := ?o17) (v := ?v17) ?hi17 (by kernel_rfl) (by kernel_rfl) (by kernel_rfl) ?hQ17 (by kernel_rfl) (by decide) (by kernel_rfl) (Or.inl ⟨?hg17, ?hy17⟩) (by assumption) ?rest17
            case hi17 => (simp only [List.getElem?_toArray, List.getElem?_cons_zero, List.getElem?_cons_succ]; exact rfl)
            case hQ17 => exact fun _ _ _ h => h
            case hg17 => rfl
            case hy17 => (intro w' hSw; (try dsimp only at hSw); go_simp; try with_reducible rfl)
            try simp only [Act.put, List.setIfInBounds_toArray, List.set_cons_zero, List.set_cons_succ]
            refine wpAnyC_take (i := 18) (oi := ?o18) (v := ?v18) ?hi18 (by kernel_rfl) (by kernel_rfl) (by kernel_rfl) ?hQ18 (by kernel_rfl) (by decide) (by kernel_rfl) (Or.inl ⟨?hg18, ?hy18⟩) (by assumption) ?rest18
            case hi18 => (simp only [List.getElem?_toArray, List.getElem?_cons_zero, List.getElem?_cons_succ]; exact rfl)
            case hQ18 => exact fun _ _ _ h => h
            case hg18 => rfl
            case hy18 => (intro w' hSw; (try dsimp only at hSw); go_simp; try with_reducible rfl)
            try simp only [Act.put, List.setIfInBounds_toArray, List.set_cons_zero, List.set_cons_succ]
            refine wpAnyC_take (i := 19) (oi := ?o19) (v := ?v19) ?hi19 (by kernel_rfl) (by kernel_rfl) (by kernel_rfl) ?hQ19 (by kernel_rfl) (by decide) (by kernel_rfl) (Or.inl ⟨?hg19, ?hy19⟩) (by assumption) ?rest19
            case hi19 => (simp only [List.getElem?_toArray, List.getElem?_cons_zero, List.getElem?_cons_succ]; exact rfl)
            case hQ19 => exact fun _ _ _ h => h
            case hg19 => rfl
            case hy19 => (intro w' hSw; (try dsimp only at hSw); go_simp; try with_reducible rfl)
            try simp only [Act.put, List.setIfInBounds_toArray, List.set_cons_zero, List.set_cons_succ]
            refine wpAnyC_take (i := 20) (oi := ?o20) (v := ?v20) ?hi20 (by kernel_rfl) (by kernel_rfl) (by kernel_rfl) ?hQ20 (by kernel_rfl) (by decide) (by kernel_rfl) (Or.inl ⟨?hg20, ?hy20⟩) (by assumption) ?rest20
            case hi20 => (simp only [List.getElem?_toArray, List.getElem?_cons_zero, List.getElem?_cons_succ]; exact rfl)
            case hQ20 => exact fun _ _ _ h => h
            case hg20 => rfl
            case hy20 => (intro w' hSw; (try dsimp only at hSw); go_simp; try with_reducible rfl)
            try simp only [Act.put, List.setIfInBounds_toArray, List.set_cons_zero, List.set_cons_succ]
            refine wpAnyC_take (i := 21) (oi := ?o21) (v := ?v21) ?hi21 (by kernel_rfl) (by kernel_rfl) (by kernel_rfl) ?hQ21 (by kernel_rfl) (by decide) (by kernel_rfl) (Or.inl ⟨?hg21, ?hy21⟩) (by assumption) ?rest21
            case hi21 => (simp only [List.getElem?_toArray, List.getElem?_cons_zero, List.getElem?_cons_succ]; exact rfl)
            case hQ21 => exact fun _ _ _ h => h
            case hg21 => rfl
            case hy21 => (intro w' hSw; (try dsimp only at hSw); go_simp; try with_reducible rfl)
            try simp only [Act.put, List.setIfInBounds_toArray, List.set_cons_zero, List.set_cons_succ]
            refine wpAnyC_take (i := 22) (oi := ?o22) (v := ?v22) ?hi22 (by kernel_rfl) (by kernel_rfl) (by kernel_rfl) ?hQ22 (by kernel_rfl) (by decide) (by kernel_rfl) (Or.inl ⟨?hg22, ?hy22⟩) (by assumption) ?rest22
            case hi22 => (simp only [List.getElem?_toArray, List.getElem?_cons_zero, List.getElem?_cons_succ]; exact rfl)
            case hQ22 => exact fun _ _ _ h => h
            case hg22 => rfl
            case hy22 => (intro w' hSw; (try dsimp only at hSw); go_simp; try with_reducible rfl)
            try simp only [Act.put, List.setIfInBounds_toArray, List.set_cons_zero, List.set_cons_succ]
            refine wpAnyC_one (i := 5) (oi := ?o23) ?hi23 (by kernel_rfl) ?step23
            case hi23 => (simp only [List.getElem?_toArray, List.getElem?_cons_zero, List.getElem?_cons_succ]; exact rfl)
            intro K' hK
            go_simp
            refine hK.out _ _ ?_ (fun hHeld => ?_)
            · exact fun _ => ⟨q4.out.1, z2, q4.out.2⟩
            clear hK K' hHeld
            try simp only [Act.put, List.setIfInBounds_toArray, List.set_cons_zero, List.set_cons_succ]
            refine wpAnyC_one (i := 23) (oi := ?o24) ?hi24 (by kernel_rfl) ?step24
            case hi24 => (simp only [List.getElem?_toArray, List.getElem?_cons_zero, List.getElem?_cons_succ]; exact rfl)
            intro K' hK
            (refine step_app (by rfl) _ _ (by rfl) (n := 0) (by rfl) (by rfl) (base := w1.heap.size) (xs := []) (OwnB.start w1 w1.heap.size (Nat.le_refl _) |>.keep fun _ _ => rfl) (by simp) (by rfl) TL.out.symm (RB.out.below BA.out) (by rw [TL.out]; simp; omega) ?_; intro A5 c5 w5 o5 g5; have B5 : Hid (Below w1.heap.size w1 w5) := Lib.hid (BA.out.trans g5.below); have O5 := Lib.hid o5; have q5 : Hid (w5.cell? ⟨R, 1, none⟩ = some (.slice (some ⟨g, 0, none⟩) n fc) ∧ w5.cell? ⟨g, k * 3 + 2, none⟩ = some (.int .i64 (su : Int))) := Lib.hid ⟨(B5.out.cell (p := ⟨R, 1, none⟩) lR1).trans c1, (B5.out.cell (p := ⟨g, k * 3 + 2, none⟩) lg1).trans d3⟩; have y4 : w5.frozen? ⟨g, k * 3 + 1, none⟩ = false := (by simp only [World.frozen?, B5.out.block g lg1]; exact fz1); have y2 := (B5.out.cell (p := ⟨g, k * 3 + 1, none⟩) lg1).trans d2; have q6 : Hid (∀ v, (w5.setCell ⟨g, k * 3 + 1, none⟩ v).cell? ⟨R, 1, none⟩ = some (.slice (some ⟨g, 0, none⟩) n fc) ∧ (w5.setCell ⟨g, k * 3 + 1, none⟩ v).cell? ⟨g, k * 3 + 2, none⟩ = some (.int .i64 (su : Int))) := Lib.hid (fun v => ⟨(World.cell?_of_block (w := w5) (Below.heap_setCell _ _ _ _ ne)).trans q5.out.1, (far_cell (by omega)).trans q5.out.2⟩); clear o5 g5)
            refine hK.out _ _ ?_ (fun hHeld => ?_)
            · exact fun _ => ⟨q5.out.1, y2, q5.out.2⟩
            clear hK K' hHeld
            try simp only [Act.put, List.setIfInBounds_toArray, List.set_cons_zero, List.set_cons_succ]
            refine wpAnyC_one (i := 24) (oi := ?o25) ?hi25 (by kernel_rfl) ?step25
            case hi25 => (simp only [List.getElem?_toArray, List.getElem?_cons_zero, List.getElem?_cons_succ]; exact rfl)
            intro K' hK
            go_simp
            refine hK.out _ _ ?_ (fun hHeld => ?_)
            · exact fun _ => ⟨q5.out.1, y2, q5.out.2⟩
            clear hK K' hHeld
            try simp only [Act.put, List.setIfInBounds_toArray, List.set_cons_zero, List.set_cons_succ]
            refine wpAnyC_one (i := 25) (oi := ?o26) ?hi26 (by kernel_rfl) ?step26
            case hi26 => (simp only [List.getElem?_toArray, List.getElem?_cons_zero, List.getElem?_cons_succ]; exact rfl)
            intro K' hK
            go_simp
            refine hK.out _ _ ?_ (fun hHeld => ?_)
            · exact fun _ => ⟨q5.out.1, y2, q5.out.2⟩
            clear hK K' hHeld
            try simp only [Act.put, List.setIfInBounds_toArray, List.set_cons_zero, List.set_cons_succ]
            refine wpAnyC_one (i := 26) (oi := ?o27) ?hi27 (by kernel_rfl) ?step27
            case hi27 => (simp only [List.getElem?_toArray, List.getElem?_cons_zero, List.getElem?_cons_succ]; exact rfl)
            intro K' hK
            go_simp
            refine hK.out _ _ ?_ (fun hHeld => ?_)
            · exact fun h => (by cases h)
            clear hK K' hHeld
            try simp only [Act.put, List.setIfInBounds_toArray, List.set_cons_zero, List.set_cons_succ]
            refine wpAnyC_done (by kernel_rfl) ?_ _
            go_wp2
            all_goals
              obtain ⟨own3, Ad3, r1, r2⟩ := HQ.out.fall HL.out rfl HF.out (by rw [← SU.out, ← ZN.out]; exact hz) HAT.out KV.out HX.out (by rw [← SU.out, ← ZN.out]; exact su1) (BW.out.trans (B5.out.mono (by rw [SZ.out]; exact Nat.le_refl _))) (show OwnB w5 wq.heap.size A5 c5 _ from SZ.out ▸ O5.out)
              have R1 := Lib.hid r1
              have R2 := Lib.hid r2
              clear r1 r2
              go_roundw
              case rel => exact ⟨k + 1, at_ + 1, own3, Ad3, hlt, by go_num, by go_num, R1, R2⟩
              case measure => simp [intOf]; omega
          · by_cases h1 : kv < (zn : Int) - (su : Int)
            · obtain ⟨j, rfl⟩ : ∃ j : Nat, kv = j := ⟨kv.toNat, by omega⟩
              go_wp2
              go_region
              obtain ⟨x, hx⟩ : ∃ x, x = su + j := ⟨_, rfl⟩
              rw [show (su : Int) + (j : Int) = (x : Int) by omega]
              have HX : Hid (x = f.sure + min ((j : Int)).toNat (f.zs.length - f.sure)) := Lib.hid (by rw [← SU.out, ← ZN.out]; omega)
              have hxl : x ≤ f.zs.length := by have := ZN.out; omega
              have hxb : x ≤ 16777216 := by omega
              clear hx
              clear c1 d2 d3 fz2 ROW
              generalize hw1 : (wq.setCell ⟨g, k * 3 + 2, none⟩ (.int .i64 (x : Int))).drew = w1 at *
              obtain ⟨c1, d2, d3, fz1, ROW, sz1, BW⟩ := HQ.out.next HL.out rfl HF.out hxl hw1.symm
              rw [← HN.out] at c1
              have hsl := slice_to (Ad2 f.nm).1 f.zs.length (Ad2 f.nm).2 x (Nat.le_trans hxl ROW.out.cap_) .i64
              have TL : Hid ((f.zs.take x).length = x) := Lib.hid (by rw [List.length_take]; omega)
              have RB := Lib.hid (ROW.out.bytes.head x)
              have lg1 : g < w1.heap.size := by rw [sz1]; exact lg
              have lR1 : R < w1.heap.size := by rw [sz1]; exact lR
              have SZ := Lib.hid sz1
              clear sz1
              have BA : Hid (Below w1.heap.size w1 (w1.alloc (.cells #[] 5)).drew) := Lib.hid (((Below.refl _ _).alloc (Nat.le_refl _) (.cells #[] 5)).drew)
              have q4 : Hid ((w1.alloc (.cells #[] 5)).drew.cell? ⟨R, 1, none⟩ = some (.slice (some ⟨g, 0, none⟩) n fc) ∧ (w1.alloc (.cells #[] 5)).drew.cell? ⟨g, k * 3 + 2, none⟩ = some (.int .i64 (x : Int))) := Lib.hid ⟨(BA.out.cell (p := ⟨R, 1, none⟩) lR1).trans c1, (BA.out.cell (p := ⟨g, k * 3 + 2, none⟩) lg1).trans d3⟩
              have z2 : (w1.alloc (.cells #[] 5)).drew.cell? ⟨g, k * 3 + 1, none⟩ = some (.slice (Ad2 f.nm).1 f.zs.length (Ad2 f.nm).2) := (BA.out.cell (p := ⟨g, k * 3 + 1, none⟩) lg1).trans d2
              go_wp2_with fail
              refine wp_region_C (fun w' => w'.cell? ⟨R, 1, none⟩ = some (.slice (some ⟨g, 0, none⟩) n fc) ∧ w'.cell? ⟨g, k * 3 + 1, none⟩ = some (.slice (Ad2 f.nm).1 f.zs.length (Ad2 f.nm).2) ∧ w'.cell? ⟨g, k * 3 + 2, none⟩ = some (.int .i64 (x : Int))) 26 (by kernel_rfl) ?_
              have hS0 : (fun w' : World => w'.cell? ⟨R, 1, none⟩ = some (.slice (some ⟨g, 0, none⟩) n fc) ∧ w'.cell? ⟨g, k * 3 + 1, none⟩ = some (.slice (Ad2 f.nm).1 f.zs.length (Ad2 f.nm).2) ∧ w'.cell? ⟨g, k * 3 + 2, none⟩ = some (.int .i64 (x : Int))) w1.drew := ⟨c1, d2, d3⟩
              refine wpAnyC_take (i := 0) (oi := ?o28) (v := ?v28) ?hi28 (by kernel_rfl) (by kernel_rfl) (by kernel_rfl) ?hQ28 (by kernel_rfl) (by decide) (by kernel_rfl) (Or.inl ⟨?hg28, ?hy28⟩) (by assumption) ?rest28
              case hi28 => (simp only [List.getElem?_toArray, List.getElem?_cons_zero]; exact rfl)
              case hQ28 => exact fun _ _ _ h => h
              case hg28 => rfl
              case hy28 => (intro w' hSw; (try dsimp only at hSw); go_simp; try with_reducible rfl)
              try simp only [Act.put, List.setIfInBounds_toArray, List.set_cons_zero, List.set_cons_succ]
              refine wpAnyC_take (i := 1) (oi := ?o29) (v := ?v29) ?hi29 (by kernel_rfl) (by kernel_rfl) (by kernel_rfl) ?hQ29 (by kernel_rfl) (by decide) (by kernel_rfl) (Or.inl ⟨?hg29, ?hy29⟩) (by assumption) ?rest29
              case hi29 => (simp only [List.getElem?_toArray, List.getElem?_cons_zero, List.getElem?_cons_succ]; exact rfl)
              case hQ29 => exact fun _ _ _ h => h
              case hg29 => rfl
              case hy29 => (intro w' hSw; (try dsimp only at hSw); go_simp; try with_reducible rfl)
              try simp only [Act.put, List.setIfInBounds_toArray, List.set_cons_zero, List.set_cons_succ]
              refine wpAnyC_take (i := 2) (oi := ?o30) (v := ?v30) ?hi30 (by kernel_rfl) (by kernel_rfl) (by kernel_rfl) ?hQ30 (by kernel_rfl) (by decide) (by kernel_rfl) (Or.inl ⟨?hg30, ?hy30⟩) (by assumption) ?rest30
              case hi30 => (simp only [List.getElem?_toArray, List.getElem?_cons_zero, List.getElem?_cons_succ]; exact rfl)
              case hQ30 => exact fun _ _ _ h => h
              case hg30 => rfl
              case hy30 => (intro w' hSw; (try dsimp only at hSw); go_simp; try with_reducible rfl)
              try simp only [Act.put, List.setIfInBounds_toArray, List.set_cons_zero, List.set_cons_succ]
              refine wpAnyC_take (i := 3) (oi := ?o31) (v := ?v31) ?hi31 (by kernel_rfl) (by kernel_rfl) (by kernel_rfl) ?hQ31 (by kernel_rfl) (by decide) (by kernel_rfl) (Or.inl ⟨?hg31, ?hy31⟩) (by assumption) ?rest31
              case hi31 => (simp only [List.getElem?_toArray, List.getElem?_cons_zero, List.getElem?_cons_succ]; exact rfl)
              case hQ31 => exact fun _ _ _ h => h
              case hg31 => rfl
              case hy31 => (intro w' hSw; (try dsimp only at hSw); go_simp; try with_reducible rfl)
              try simp only [Act.put, List.setIfInBounds_toArray, List.set_cons_zero, List.set_cons_succ]
              refine wpAnyC_take (i := 4) (oi := ?o32) (v := ?v32) ?hi32 (by kernel_rfl) (by kernel_rfl) (by kernel_rfl) ?hQ32 (by kernel_rfl) (by decide) (by kernel_rfl) (Or.inl ⟨?hg32, ?hy32⟩) (by assumption) ?rest32
              case hi32 => (simp only [List.getElem?_toArray, List.getElem?_cons_zero, List.getElem?_cons_succ]; exact rfl)
              case hQ32 => exact fun _ _ _ h => h
              case hg32 => rfl
              case hy32 => (intro w' hSw; (try dsimp only at hSw); go_simp; try with_reducible rfl)
              try simp only [Act.put, List.setIfInBounds_toArray, List.set_cons_zero, List.set_cons_succ]
              refine wpAnyC_take (i := 6) (oi := ?o33) (v := ?v33) ?hi33 (by kernel_rfl) (by kernel_rfl) (by kernel_rfl) ?hQ33 (by kernel_rfl) (by decide) (by kernel_rfl) (Or.inl ⟨?hg33, ?hy33⟩) (by assumption) ?rest33
              case hi33 => (simp only [List.getElem?_toArray, List.getElem?_cons_zero, List.getElem?_cons_succ]; exact rfl)
              case hQ33 => exact fun _ _ _ h => h
              case hg33 => rfl
              case hy33 => (intro w' hSw; (try dsimp only at hSw); go_simp; try with_reducible rfl)
              try simp only [Act.put, List.setIfInBounds_toArray, List.set_cons_zero, List.set_cons_succ]
              refine wpAnyC_take (i := 7) (oi := ?o34) (v := ?v34) ?hi34 (by kernel_rfl) (by kernel_rfl) (by kernel_rfl) ?hQ34 (by kernel_rfl) (by decide) (by kernel_rfl) (Or.inl ⟨?hg34, ?hy34⟩) (by assumption) ?rest34
              case hi34 => (simp only [List.getElem?_toArray, List.getElem?_cons_zero, List.getElem?_cons_succ]; exact rfl)
              case hQ34 => exact fun _ _ _ h => h
              case hg34 => rfl
              case hy34 => (intro w' hSw; (try dsimp only at hSw); go_simp; try with_reducible rfl)
              try simp only [Act.put, List.setIfInBounds_toArray, List.set_cons_zero, List.set_cons_succ]
              refine wpAnyC_take (i := 8) (oi := ?o35) (v := ?v35) ?hi35 (by kernel_rfl) (by kernel_rfl) (by kernel_rfl) ?hQ35 (by kernel_rfl) (by decide) (by kernel_rfl) (Or.inl ⟨?hg35, ?hy35⟩) (by assumption) ?rest35
              case hi35 => (simp only [List.getElem?_toArray, List.getElem?_cons_zero, List.getElem?_cons_succ]; exact rfl)
              case hQ35 => exact fun _ _ _ h => h
              case hg35 => rfl
              case hy35 => (intro w' hSw; (try dsimp only at hSw); go_simp; try with_reducible rfl)
              try simp only [Act.put, List.setIfInBounds_toArray, List.set_cons_zero, List.set_cons_succ]
              refine wpAnyC_take (i := 9) (oi := ?o36) (v := ?v36) ?hi36 (by kernel_rfl) (by kernel_rfl) (by kernel_rfl) ?hQ36 (by kernel_rfl) (by decide) (by kernel_rfl) (Or.inl ⟨?hg36, ?hy36⟩) (by assumption) ?rest36
              case hi36 => (simp only [List.getElem?_toArray, List.getElem?_cons_zero, List.getElem?_cons_succ]; exact rfl)
              case hQ36 => exact fun _ _ _ h => h
              case hg36 => rfl
              case hy36 => (intro w' hSw; (try dsimp only at hSw); go_simp; try with_reducible rfl)
              try simp only [Act.put, List.setIfInBounds_toArray, List.set_cons_zero, List.set_cons_succ]
              refine wpAnyC_take (i := 10) (oi := ?o37) (v := ?v37) ?hi37 (by kernel_rfl) (by kernel_rfl) (by kernel_rfl) ?hQ37 (by kernel_rfl) (by decide) (by kernel_rfl) (Or.inl ⟨?hg37, ?hy37⟩) (by assumption) ?rest37
              case hi37 => (simp only [List.getElem?_toArray, List.getElem?_cons_zero, List.getElem?_cons_succ]; exact rfl)
              case hQ37 => exact fun _ _ _ h => h
              case hg37 => rfl
              case hy37 => (intro w' hSw; (try dsimp only at hSw); go_simp; try with_reducible rfl)
              try simp only [Act.put, List.setIfInBounds_toArray, List.set_cons_zero, List.set_cons_succ]
              refine wpAnyC_take (i := 11) (oi := ?o38) (v := ?v38) ?hi38 (by kernel_rfl) (by kernel_rfl) (by kernel_rfl) ?hQ38 (by kernel_rfl) (by decide) (by kernel_rfl) (Or.inl ⟨?hg38, ?hy38⟩) (by assumption) ?rest38
              case hi38 => (simp only [List.getElem?_toArray, List.getElem?_cons_zero, List.getElem?_cons_succ]; exact rfl)
              case hQ38 => exact fun _ _ _ h => h
              case hg38 => rfl
              case hy38 => (intro w' hSw; (try dsimp only at hSw); go_simp; try with_reducible rfl)
              try simp only [Act.put, List.setIfInBounds_toArray, List.set_cons_zero, List.set_cons_succ]
              refine wpAnyC_take (i := 12) (oi := ?o39) (v := ?v39) ?hi39 (by kernel_rfl) (by kernel_rfl) (by kernel_rfl) ?hQ39 (by kernel_rfl) (by decide) (by kernel_rfl) (Or.inl ⟨?hg39, ?hy39⟩) (by assumption) ?rest39
              case hi39 => (simp only [List.getElem?_toArray, List.getElem?_cons_zero, List.getElem?_cons_succ]; exact rfl)
              case hQ39 => exact fun _ _ _ h => h
              case hg39 => rfl
              case hy39 => (intro w' hSw; (try dsimp only at hSw); go_simp; try with_reducible rfl)
              try simp only [Act.put, List.setIfInBounds_toArray, List.set_cons_zero, List.set_cons_succ]
              refine wpAnyC_take (i := 13) (oi := ?o40) (v := ?v40) ?hi40 (by kernel_rfl) (by kernel_rfl) (by kernel_rfl) ?hQ40 (by kernel_rfl) (by decide) (by kernel_rfl) (Or.inl ⟨?hg40, ?hy40⟩) (by assumption) ?rest40
              case hi40 => (simp only [List.getElem?_toArray, List.getElem?_cons_zero, List.getElem?_cons_succ]; exact rfl)
              case hQ40 => exact fun _ _ _ h => h
              case hg40 => rfl
              case hy40 => (intro w' hSw; (try dsimp only at hSw); go_simp; try with_reducible rfl)
              try simp only [Act.put, List.setIfInBounds_toArray, List.set_cons_zero, List.set_cons_succ]
              refine wpAnyC_take (i := 14) (oi := ?o41) (v := ?v41) ?hi41 (by kernel_rfl) (by kernel_rfl) (by kernel_rfl) ?hQ41 (by kernel_rfl) (by decide) (by kernel_rfl) (Or.inl ⟨?hg41, ?hy41⟩) (by assumption) ?rest41
              case hi41 => (simp only [List.getElem?_toArray, List.getElem?_cons_zero, List.getElem?_cons_succ]; exact rfl)
              case hQ41 => exact fun _ _ _ h => h
              case hg41 => rfl
              case hy41 => (intro w' hSw; (try dsimp only at hSw); go_simp; try with_reducible rfl)
              try simp only [Act.put, List.setIfInBounds_toArray, List.set_cons_zero, List.set_cons_succ]
              refine wpAnyC_take (i := 15) (oi := ?o42) (v := ?v42) ?hi42 (by kernel_rfl) (by kernel_rfl) (by kernel_rfl) ?hQ42 (by kernel_rfl) (by decide) (by kernel_rfl) (Or.inl ⟨?hg42, ?hy42⟩) (by assumption) ?rest42
              case hi42 => (simp only [List.getElem?_toArray, List.getElem?_cons_zero, List.getElem?_cons_succ]; exact rfl)
              case hQ42 => exact fun _ _ _ h => h
              case hg42 => rfl
              case hy42 => (intro w' hSw; (try dsimp only at hSw); go_simp; try with_reducible rfl)
              try simp only [Act.put, List.setIfInBounds_toArray, List.set_cons_zero, List.set_cons_succ]
              refine wpAnyC_take (i := 16) (oi := ?o43) (v := ?v43) ?hi43 (by kernel_rfl) (by kernel_rfl) (by kernel_rfl) ?hQ43 (by kernel_rfl) (by decide) (by kernel_rfl) (Or.inl ⟨?hg43, ?hy43⟩) (by assumption) ?rest43
              case hi43 => (simp only [List.getElem?_toArray, List.getElem?_cons_zero, List.getElem?_cons_succ]; exact rfl)
              case hQ43 => exact fun _ _ _ h => h
              case hg43 => rfl
              case hy43 => (intro w' hSw; (try dsimp only at hSw); go_simp; try with_reducible rfl)
              try simp only [Act.put, List.setIfInBounds_toArray, List.set_cons_zero, List.set_cons_succ]
              refine wpAnyC_take (i := 17) (oi := ?o44) (v := ?v44) ?hi44 (by kernel_rfl) (by kernel_rfl) (by kernel_rfl) ?hQ44 (by kernel_rfl) (by decide) (by kernel_rfl) (Or.inl ⟨?hg44, ?hy44⟩) (by assumption) ?rest44
              case hi44 => (simp only [List.getElem?_toArray, List.getElem?_cons_zero, List.getElem?_cons_succ]; exact rfl)
              case hQ44 => exact fun _ _ _ h => h
              case hg44 => rfl
              case hy44 => (intro w' hSw; (try dsimp only at hSw); go_simp; try with_reducible rfl)
              try simp only [Act.put, List.setIfInBounds_toArray, List.set_cons_zero, List.set_cons_succ]
              refine wpAnyC_take (i := 18) (oi := ?o45) (v := ?v45) ?hi45 (by kernel_rfl) (by kernel_rfl) (by kernel_rfl) ?hQ45 (by kernel_rfl) (by decide) (by kernel_rfl) (Or.inl ⟨?hg45, ?hy45⟩) (by assumption) ?rest45
              case hi45 => (simp only [List.getElem?_toArray, List.getElem?_cons_zero, List.getElem?_cons_succ]; exact rfl)
              case hQ45 => exact fun _ _ _ h => h
              case hg45 => rfl
              case hy45 => (intro w' hSw; (try dsimp only at hSw); go_simp; try with_reducible rfl)
              try simp only [Act.put, List.setIfInBounds_toArray, List.set_cons_zero, List.set_cons_succ]
              refine wpAnyC_take (i := 19) (oi := ?o46) (v := ?v46) ?hi46 (by kernel_rfl) (by kernel_rfl) (by kernel_rfl) ?hQ46 (by kernel_rfl) (by decide) (by kernel_rfl) (Or.inl ⟨?hg46, ?hy46⟩) (by assumption) ?rest46
              case hi46 => (simp only [List.getElem?_toArray, List.getElem?_cons_zero, List.getElem?_cons_succ]; exact rfl)
              case hQ46 => exact fun _ _ _ h => h
              case hg46 => rfl
              case hy46 => (intro w' hSw; (try dsimp only at hSw); go_simp; try with_reducible rfl)
              try simp only [Act.put, List.setIfInBounds_toArray, List.set_cons_zero, List.set_cons_succ]
              refine wpAnyC_take (i := 20) (oi := ?o47) (v := ?v47) ?hi47 (by kernel_rfl) (by kernel_rfl) (by kernel_rfl) ?hQ47 (by kernel_rfl) (by decide) (by kernel_rfl) (Or.inl ⟨?hg47, ?hy47⟩) (by assumption) ?rest47
              case hi47 => (simp only [List.getElem?_toArray, List.getElem?_cons_zero, List.getElem?_cons_succ]; exact rfl)
              case hQ47 => exact fun _ _ _ h => h
              case hg47 => rfl
              case hy47 => (intro w' hSw; (try dsimp only at hSw); go_simp; try with_reducible rfl)
              try simp only [Act.put, List.setIfInBounds_toArray, List.set_cons_zero, List.set_cons_succ]
              refine wpAnyC_take (i := 21) (oi := ?o48) (v := ?v48) ?hi48 (by kernel_rfl) (by kernel_rfl) (by kernel_rfl) ?hQ48 (by kernel_rfl) (by decide) (by kernel_rfl) (Or.inl ⟨?hg48, ?hy48⟩) (by assumption) ?rest48
              case hi48 => (simp only [List.getElem?_toArray, List.getElem?_cons_zero, List.getElem?_cons_succ]; exact rfl)
              case hQ48 => exact fun _ _ _ h => h
              case hg48 => rfl
              case hy48 => (intro w' hSw; (try dsimp only at hSw); go_simp; try with_reducible rfl)
              try simp only [Act.put, List.setIfInBounds_toArray, List.set_cons_zero, List.set_cons_succ]
              refine wpAnyC_take (i := 22) (oi := ?o49) (v := ?v49) ?hi49 (by kernel_rfl) (by kernel_rfl) (by kernel_rfl) ?hQ49 (by kernel_rfl) (by decide) (by kernel_rfl) (Or.inl ⟨?hg49, ?hy49⟩) (by assumption) ?rest49
              case hi49 => (simp only [List.getElem?_toArray, List.getElem?_cons_zero, List.getElem?_cons_succ]; exact rfl)
              case hQ49 => exact fun _ _ _ h => h
              case hg49 => rfl
              case hy49 => (intro w' hSw; (try dsimp only at hSw); go_simp; try with_reducible rfl)
              try simp only [Act.put, List.setIfInBounds_toArray, List.set_cons_zero, List.set_cons_succ]
              refine wpAnyC_one (i := 5) (oi := ?o50) ?hi50 (by kernel_rfl) ?step50
              case hi50 => (simp only [List.getElem?_toArray, List.getElem?_cons_zero, List.getElem?_cons_succ]; exact rfl)
              intro K' hK
              go_simp
              refine hK.out _ _ ?_ (fun hHeld => ?_)
              · exact fun _ => ⟨q4.out.1, z2, q4.out.2⟩
              clear hK K' hHeld
              try simp only [Act.put, List.setIfInBounds_toArray, List.set_cons_zero, List.set_cons_succ]
              refine wpAnyC_one (i := 23) (oi := ?o51) ?hi51 (by kernel_rfl) ?step51
              case hi51 => (simp only [List.getElem?_toArray, List.getElem?_cons_zero, List.getElem?_cons_succ]; exact rfl)
              intro K' hK
              (refine step_app (by rfl) _ _ (by rfl) (n := 0) (by rfl) (by rfl) (base := w1.heap.size) (xs := []) (OwnB.start w1 w1.heap.size (Nat.le_refl _) |>.keep fun _ _ => rfl) (by simp) (by rfl) TL.out.symm (RB.out.below BA.out) (by rw [TL.out]; simp; omega) ?_; intro A5 c5 w5 o5 g5; have B5 : Hid (Below w1.heap.size w1 w5) := Lib.hid (BA.out.trans g5.below); have O5 := Lib.hid o5; have q5 : Hid (w5.cell? ⟨R, 1, none⟩ = some (.slice (some ⟨g, 0, none⟩) n fc) ∧ w5.cell? ⟨g, k * 3 + 2, none⟩ = some (.int .i64 (x : Int))) := Lib.hid ⟨(B5.out.cell (p := ⟨R, 1, none⟩) lR1).trans c1, (B5.out.cell (p := ⟨g, k * 3 + 2, none⟩) lg1).trans d3⟩; have y4 : w5.frozen? ⟨g, k * 3 + 1, none⟩ = false := (by simp only [World.frozen?, B5.out.block g lg1]; exact fz1); have y2 := (B5.out.cell (p := ⟨g, k * 3 + 1, none⟩) lg1).trans d2; have q6 : Hid (∀ v, (w5.setCell ⟨g, k * 3 + 1, none⟩ v).cell? ⟨R, 1, none⟩ = some (.slice (some ⟨g, 0, none⟩) n fc) ∧ (w5.setCell ⟨g, k * 3 + 1, none⟩ v).cell? ⟨g, k * 3 + 2, none⟩ = some (.int .i64 (x : Int))) := Lib.hid (fun v => ⟨(World.cell?_of_block (w := w5) (Below.heap_setCell _ _ _ _ ne)).trans q5.out.1, (far_cell (by omega)).trans q5.out.2⟩); clear o5 g5)
              refine hK.out _ _ ?_ (fun hHeld => ?_)
              · exact fun _ => ⟨q5.out.1, y2, q5.out.2⟩
              clear hK K' hHeld
              try simp only [Act.put, List.setIfInBounds_toArray, List.set_cons_zero, List.set_cons_succ]
              refine wpAnyC_one (i := 24) (oi := ?o52) ?hi52 (by kernel_rfl) ?step52
              case hi52 => (simp only [List.getElem?_toArray, List.getElem?_cons_zero, List.getElem?_cons_succ]; exact rfl)
              intro K' hK
              go_simp
              refine hK.out _ _ ?_ (fun hHeld => ?_)
              · exact fun _ => ⟨q5.out.1, y2, q5.out.2⟩
              clear hK K' hHeld
              try simp only [Act.put, List.setIfInBounds_toArray, List.set_cons_zero, List.set_cons_succ]
              refine wpAnyC_one (i := 25) (oi := ?o53) ?hi53 (by kernel_rfl) ?step53
              case hi53 => (simp only [List.getElem?_toArray, List.getElem?_cons_zero, List.getElem?_cons_succ]; exact rfl)
              intro K' hK
              go_simp
              refine hK.out _ _ ?_ (fun hHeld => ?_)
              · exact fun _ => ⟨q5.out.1, y2, q5.out.2⟩
              clear hK K' hHeld
              try simp only [Act.put, List.setIfInBounds_toArray, List.set_cons_zero, List.set_cons_succ]
              refine wpAnyC_one (i := 26) (oi := ?o54) ?hi54 (by kernel_rfl) ?step54
              case hi54 => (simp only [List.getElem?_toArray, List.getElem?_cons_zero, List.getElem?_cons_succ]; exact rfl)
              intro K' hK
              go_simp
              refine hK.out _ _ ?_ (fun hHeld => ?_)
              · exact fun h => (by cases h)
              clear hK K' hHeld
              try simp only [Act.put, List.setIfInBounds_toArray, List.set_cons_zero, List.set_cons_succ]
              refine wpAnyC_done (by kernel_rfl) ?_ _
              go_wp2
              all_goals
                obtain ⟨own3, Ad3, r1, r2⟩ := HQ.out.fall HL.out rfl HF.out (by rw [← SU.out, ← ZN.out]; exact hz) HAT.out KV.out HX.out (by rw [← SU.out, ← ZN.out]; exact su1) (BW.out.trans (B5.out.mono (by rw [SZ.out]; exact Nat.le_refl _))) (show OwnB w5 wq.heap.size A5 c5 _ from SZ.out ▸ O5.out)
                have R1 := Lib.hid r1
                have R2 := Lib.hid r2
                clear r1 r2
                go_roundw
                case rel => exact ⟨k + 1, at_ + 1, own3, Ad3, hlt, by go_num, by go_num, R1, R2⟩
                case measure => simp [intOf]; omega
            · 
              go_wp2
              go_region
              rw [show (su : Int) + ((zn : Int) - (su : Int)) = (zn : Int) by omega]
              have HX : Hid (zn = f.sure + min (kv).toNat (f.zs.length - f.sure)) := Lib.hid (by rw [← SU.out, ← ZN.out]; omega)
              have hxl : zn ≤ f.zs.length := by have := ZN.out; omega
              have hxb : zn ≤ 16777216 := by omega
              clear c1 d2 d3 fz2 ROW
              generalize hw1 : (wq.setCell ⟨g, k * 3 + 2, none⟩ (.int .i64 (zn : Int))).drew = w1 at *
              obtain ⟨c1, d2, d3, fz1, ROW, sz1, BW⟩ := HQ.out.next HL.out rfl HF.out hxl hw1.symm
              rw [← HN.out] at c1
              have hsl := slice_to (Ad2 f.nm).1 f.zs.length (Ad2 f.nm).2 zn (Nat.le_trans hxl ROW.out.cap_) .i64
              have TL : Hid ((f.zs.take zn).length = zn) := Lib.hid (by rw [List.length_take]; omega)
              have RB := Lib.hid (ROW.out.bytes.head zn)
              have lg1 : g < w1.heap.size := by rw [sz1]; exact lg
              have lR1 : R < w1.heap.size := by rw [sz1]; exact lR
              have SZ := Lib.hid sz1
              clear sz1
              have BA : Hid (Below w1.heap.size w1 (w1.alloc (.cells #[] 5)).drew) := Lib.hid (((Below.refl _ _).alloc (Nat.le_refl _) (.cells #[] 5)).drew)
              have q4 : Hid ((w1.alloc (.cells #[] 5)).drew.cell? ⟨R, 1, none⟩ = some (.slice (some ⟨g, 0, none⟩) n fc) ∧ (w1.alloc (.cells #[] 5)).drew.cell? ⟨g, k * 3 + 2, none⟩ = some (.int .i64 (zn : Int))) := Lib.hid ⟨(BA.out.cell (p := ⟨R, 1, none⟩) lR1).trans c1, (BA.out.cell (p := ⟨g, k * 3 + 2, none⟩) lg1).trans d3⟩
              have z2 : (w1.alloc (.cells #[] 5)).drew.cell? ⟨g, k * 3 + 1, none⟩ = some (.slice (Ad2 f.nm).1 f.zs.length (Ad2 f.nm).2) := (BA.out.cell (p := ⟨g, k * 3 + 1, none⟩) lg1).trans d2
              go_wp2_with fail
              refine wp_region_C (fun w' => w'.cell? ⟨R, 1, none⟩ = some (.slice (some ⟨g, 0, none⟩) n fc) ∧ w'.cell? ⟨g, k * 3 + 1, none⟩ = some (.slice (Ad2 f.nm).1 f.zs.length (Ad2 f.nm).2) ∧ w'.cell? ⟨g, k * 3 + 2, none⟩ = some (.int .i64 (zn : Int))) 26 (by kernel_rfl) ?_
              have hS0 : (fun w' : World => w'.cell? ⟨R, 1, none⟩ = some (.slice (some ⟨g, 0, none⟩) n fc) ∧ w'.cell? ⟨g, k * 3 + 1, none⟩ = some (.slice (Ad2 f.nm).1 f.zs.length (Ad2 f.nm).2) ∧ w'.cell? ⟨g, k * 3 + 2, none⟩ = some (.int .i64 (zn : Int))) w1.drew := ⟨c1, d2, d3⟩
              refine wpAnyC_take (i := 0) (oi := ?o55) (v := ?v55) ?hi55 (by kernel_rfl) (by kernel_rfl) (by kernel_rfl) ?hQ55 (by kernel_rfl) (by decide) (by kernel_rfl) (Or.inl ⟨?hg55, ?hy55⟩) (by assumption) ?rest55
              case hi55 => (simp only [List.getElem?_toArray, List.getElem?_cons_zero]; exact rfl)
              case hQ55 => exact fun _ _ _ h => h
              case hg55 => rfl
              case hy55 => (intro w' hSw; (try dsimp only at hSw); go_simp; try with_reducible rfl)
              try simp only [Act.put, List.setIfInBounds_toArray, List.set_cons_zero, List.set_cons_succ]
              refine wpAnyC_take (i := 1) (oi := ?o56) (v := ?v56) ?hi56 (by kernel_rfl) (by kernel_rfl) (by kernel_rfl) ?hQ56 (by kernel_rfl) (by decide) (by kernel_rfl) (Or.inl ⟨?hg56, ?hy56⟩) (by assumption) ?rest56
              case hi56 => (simp only [List.getElem?_toArray, List.getElem?_cons_zero, List.getElem?_cons_succ]; exact rfl)
              case hQ56 => exact fun _ _ _ h => h
              case hg56 => rfl
              case hy56 => (intro w' hSw; (try dsimp only at hSw); go_simp; try with_reducible rfl)
              try simp only [Act.put, List.setIfInBounds_toArray, List.set_cons_zero, List.set_cons_succ]
              refine wpAnyC_take (i := 2) (oi := ?o57) (v := ?v57) ?hi57 (by kernel_rfl) (by kernel_rfl) (by kernel_rfl) ?hQ57 (by kernel_rfl) (by decide) (by kernel_rfl) (Or.inl ⟨?hg57, ?hy57⟩) (by assumption) ?rest57
              case hi57 => (simp only [List.getElem?_toArray, List.getElem?_cons_zero, List.getElem?_cons_succ]; exact rfl)
              case hQ57 => exact fun _ _ _ h => h
              case hg57 => rfl
              case hy57 => (intro w' hSw; (try dsimp only at hSw); go_simp; try with_reducible rfl)
              try simp only [Act.put, List.setIfInBounds_toArray, List.set_cons_zero, List.set_cons_succ]
              refine wpAnyC_take (i := 3) (oi := ?o58) (v := ?v58) ?hi58 (by kernel_rfl) (by kernel_rfl) (by kernel_rfl) ?hQ58 (by kernel_rfl) (by decide) (by kernel_rfl) (Or.inl ⟨?hg58, ?hy58⟩) (by assumption) ?rest58
              case hi58 => (simp only [List.getElem?_toArray, List.getElem?_cons_zero, List.getElem?_cons_succ]; exact rfl)
              case hQ58 => exact fun _ _ _ h => h
              case hg58 => rfl
              case hy58 => (intro w' hSw; (try dsimp only at hSw); go_simp; try with_reducible rfl)
              try simp only [Act.put, List.setIfInBounds_toArray, List.set_cons_zero, List.set_cons_succ]
              refine wpAnyC_take (i := 4) (oi := ?o59) (v := ?v59) ?hi59 (by kernel_rfl) (by kernel_rfl) (by kernel_rfl) ?hQ59 (by kernel_rfl) (by decide) (by kernel_rfl) (Or.inl ⟨?hg59, ?hy59⟩) (by assumption) ?rest59
              case hi59 => (simp only [List.getElem?_toArray, List.getElem?_cons_zero, List.getElem?_cons_succ]; exact rfl)
              case hQ59 => exact fun _ _ _ h => h
              case hg59 => rfl
              case hy59 => (intro w' hSw; (try dsimp only at hSw); go_simp; try with_reducible rfl)
              try simp only [Act.put, List.setIfInBounds_toArray, List.set_cons_zero, List.set_cons_succ]
              refine wpAnyC_take (i := 6) (oi := ?o60) (v := ?v60) ?hi60 (by kernel_rfl) (by kernel_rfl) (by kernel_rfl) ?hQ60 (by kernel_rfl) (by decide) (by kernel_rfl) (Or.inl ⟨?hg60, ?hy60⟩) (by assumption) ?rest60
              case hi60 => (simp only [List.getElem?_toArray, List.getElem?_cons_zero, List.getElem?_cons_succ]; exact rfl)
              case hQ60 => exact fun _ _ _ h => h
              case hg60 => rfl
              case hy60 => (intro w' hSw; (try dsimp only at hSw); go_simp; try with_reducible rfl)
              try simp only [Act.put, List.setIfInBounds_toArray, List.set_cons_zero, List.set_cons_succ]
              refine wpAnyC_take (i := 7) (oi := ?o61) (v := ?v61) ?hi61 (by kernel_rfl) (by kernel_rfl) (by kernel_rfl) ?hQ61 (by kernel_rfl) (by decide) (by kernel_rfl) (Or.inl ⟨?hg61, ?hy61⟩) (by assumption) ?rest61
              case hi61 => (simp only [List.getElem?_toArray, List.getElem?_cons_zero, List.getElem?_cons_succ]; exact rfl)
              case hQ61 => exact fun _ _ _ h => h
              case hg61 => rfl
              case hy61 => (intro w' hSw; (try dsimp only at hSw); go_simp; try with_reducible rfl)
              try simp only [Act.put, List.setIfInBounds_toArray, List.set_cons_zero, List.set_cons_succ]
              refine wpAnyC_take (i := 8) (oi := ?o62) (v := ?v62) ?hi62 (by kernel_rfl) (by kernel_rfl) (by kernel_rfl) ?hQ62 (by kernel_rfl) (by decide) (by kernel_rfl) (Or.inl ⟨?hg62, ?hy62⟩) (by assumption) ?rest62
              case hi62 => (simp only [List.getElem?_toArray, List.getElem?_cons_zero, List.getElem?_cons_succ]; exact rfl)
              case hQ62 => exact fun _ _ _ h => h
              case hg62 => rfl
              case hy62 => (intro w' hSw; (try dsimp only at hSw); go_simp; try with_reducible rfl)
              try simp only [Act.put, List.setIfInBounds_toArray, List.set_cons_zero, List.set_cons_succ]
              refine wpAnyC_take (i := 9) (oi := ?o63) (v := ?v63) ?hi63 (by kernel_rfl) (by kernel_rfl) (by kernel_rfl) ?hQ63 (by kernel_rfl) (by decide) (by kernel_rfl) (Or.inl ⟨?hg63, ?hy63⟩) (by assumption) ?rest63
              case hi63 => (simp only [List.getElem?_toArray, List.getElem?_cons_zero, List.getElem?_cons_succ]; exact rfl)
              case hQ63 => exact fun _ _ _ h => h
              case hg63 => rfl
              case hy63 => (intro w' hSw; (try dsimp only at hSw); go_simp; try with_reducible rfl)
              try simp only [Act.put, List.setIfInBounds_toArray, List.set_cons_zero, List.set_cons_succ]
              refine wpAnyC_take (i := 10) (oi := ?o64) (v := ?v64) ?hi64 (by kernel_rfl) (by kernel_rfl) (by kernel_rfl) ?hQ64 (by kernel_rfl) (by decide) (by kernel_rfl) (Or.inl ⟨?hg64, ?hy64⟩) (by assumption) ?rest64
              case hi64 => (simp only [List.getElem?_toArray, List.getElem?_cons_zero, List.getElem?_cons_succ]; exact rfl)
              case hQ64 => exact fun _ _ _ h => h
              case hg64 => rfl
              case hy64 => (intro w' hSw; (try dsimp only at hSw); go_simp; try with_reducible rfl)
              try simp only [Act.put, List.setIfInBounds_toArray, List.set_cons_zero, List.set_cons_succ]
              refine wpAnyC_take (i := 11) (oi := ?o65) (v := ?v65) ?hi65 (by kernel_rfl) (by kernel_rfl) (by kernel_rfl) ?hQ65 (by kernel_rfl) (by decide) (by kernel_rfl) (Or.inl ⟨?hg65, ?hy65⟩) (by assumption) ?rest65
              case hi65 => (simp only [List.getElem?_toArray, List.getElem?_cons_zero, List.getElem?_cons_succ]; exact rfl)
              case hQ65 => exact fun _ _ _ h => h
              case hg65 => rfl
              case hy65 => (intro w' hSw; (try dsimp only at hSw); go_simp; try with_reducible rfl)
              try simp only [Act.put, List.setIfInBounds_toArray, List.set_cons_zero, List.set_cons_succ]
              refine wpAnyC_take (i := 12) (oi := ?o66) (v := ?v66) ?hi66 (by kernel_rfl) (by kernel_rfl) (by kernel_rfl) ?hQ66 (by kernel_rfl) (by decide) (by kernel_rfl) (Or.inl ⟨?hg66, ?hy66⟩) (by assumption) ?rest66
              case hi66 => (simp only [List.getElem?_toArray, List.getElem?_cons_zero, List.getElem?_cons_succ]; exact rfl)
              case hQ66 => exact fun _ _ _ h => h
              case hg66 => rfl
              case hy66 => (intro w' hSw; (try dsimp only at hSw); go_simp; try with_reducible rfl)
              try simp only [Act.put, List.setIfInBounds_toArray, List.set_cons_zero, List.set_cons_succ]
              refine wpAnyC_take (i := 13) (oi := ?o67) (v := ?v67) ?hi67 (by kernel_rfl) (by kernel_rfl) (by kernel_rfl) ?hQ67 (by kernel_rfl) (by decide) (by kernel_rfl) (Or.inl ⟨?hg67, ?hy67⟩) (by assumption) ?rest67
              case hi67 => (simp only [List.getElem?_toArray, List.getElem?_cons_zero, List.getElem?_cons_succ]; exact rfl)
              case hQ67 => exact fun _ _ _ h => h
              case hg67 => rfl
              case hy67 => (intro w' hSw; (try dsimp only at hSw); go_simp; try with_reducible rfl)
              try simp only [Act.put, List.setIfInBounds_toArray, List.set_cons_zero, List.set_cons_succ]
              refine wpAnyC_take (i := 14) (oi := ?o68) (v := ?v68) ?hi68 (by kernel_rfl) (by kernel_rfl) (by kernel_rfl) ?hQ68 (by kernel_rfl) (by decide) (by kernel_rfl) (Or.inl ⟨?hg68, ?hy68⟩) (by assumption) ?rest68
              case hi68 => (simp only [List.getElem?_toArray, List.getElem?_cons_zero, List.getElem?_cons_succ]; exact rfl)
              case hQ68 => exact fun _ _ _ h => h
              case hg68 => rfl
              case hy68 => (intro w' hSw; (try dsimp only at hSw); go_simp; try with_reducible rfl)
              try simp only [Act.put, List.setIfInBounds_toArray, List.set_cons_zero, List.set_cons_succ]
              refine wpAnyC_take (i := 15) (oi := ?o69) (v := ?v69) ?hi69 (by kernel_rfl) (by kernel_rfl) (by kernel_rfl) ?hQ69 (by kernel_rfl) (by decide) (by kernel_rfl) (Or.inl ⟨?hg69, ?hy69⟩) (by assumption) ?rest69
              case hi69 => (simp only [List.getElem?_toArray, List.getElem?_cons_zero, List.getElem?_cons_succ]; exact rfl)
              case hQ69 => exact fun _ _ _ h => h
              case hg69 => rfl
              case hy69 => (intro w' hSw; (try dsimp only at hSw); go_simp; try with_reducible rfl)
              try simp only [Act.put, List.setIfInBounds_toArray, List.set_cons_zero, List.set_cons_succ]
              refine wpAnyC_take (i := 16) (oi := ?o70) (v := ?v70) ?hi70 (by kernel_rfl) (by kernel_rfl) (by kernel_rfl) ?hQ70 (by kernel_rfl) (by decide) (by kernel_rfl) (Or.inl ⟨?hg70, ?hy70⟩) (by assumption) ?rest70
              case hi70 => (simp only [List.getElem?_toArray, List.getElem?_cons_zero, List.getElem?_cons_succ]; exact rfl)
              case hQ70 => exact fun _ _ _ h => h
              case hg70 => rfl
              case hy70 => (intro w' hSw; (try dsimp only at hSw); go_simp; try with_reducible rfl)
              try simp only [Act.put, List.setIfInBounds_toArray, List.set_cons_zero, List.set_cons_succ]
              refine wpAnyC_take (i := 17) (oi := ?o71) (v := ?v71) ?hi71 (by kernel_rfl) (by kernel_rfl) (by kernel_rfl) ?hQ71 (by kernel_rfl) (by decide) (by kernel_rfl) (Or.inl ⟨?hg71, ?hy71⟩) (by assumption) ?rest71
              case hi71 => (simp only [List.getElem?_toArray, List.getElem?_cons_zero, List.getElem?_cons_succ]; exact rfl)
              case hQ71 => exact fun _ _ _ h => h
              case hg71 => rfl
              case hy71 => (intro w' hSw; (try dsimp only at hSw); go_simp; try with_reducible rfl)
              try simp only [Act.put, List.setIfInBounds_toArray, List.set_cons_zero, List.set_cons_succ]
              refine wpAnyC_take (i := 18) (oi := ?o72) (v := ?v72) ?hi72 (by kernel_rfl) (by kernel_rfl) (by kernel_rfl) ?hQ72 (by kernel_rfl) (by decide) (by kernel_rfl) (Or.inl ⟨?hg72, ?hy72⟩) (by assumption) ?rest72
              case hi72 => (simp only [List.getElem?_toArray, List.getElem?_cons_zero, List.getElem?_cons_succ]; exact rfl)
              case hQ72 => exact fun _ _ _ h => h
              case hg72 => rfl
              case hy72 => (intro w' hSw; (try dsimp only at hSw); go_simp; try with_reducible rfl)
              try simp only [Act.put, List.setIfInBounds_toArray, List.set_cons_zero, List.set_cons_succ]
              refine wpAnyC_take (i := 19) (oi := ?o73) (v := ?v73) ?hi73 (by kernel_rfl) (by kernel_rfl) (by kernel_rfl) ?hQ73 (by kernel_rfl) (by decide) (by kernel_rfl) (Or.inl ⟨?hg73, ?hy73⟩) (by assumption) ?rest73
              case hi73 => (simp only [List.getElem?_toArray, List.getElem?_cons_zero, List.getElem?_cons_succ]; exact rfl)
              case hQ73 => exact fun _ _ _ h => h
              case hg73 => rfl
              case hy73 => (intro w' hSw; (try dsimp only at hSw); go_simp; try with_reducible rfl)
              try simp only [Act.put, List.setIfInBounds_toArray, List.set_cons_zero, List.set_cons_succ]
              refine wpAnyC_take (i := 20) (oi := ?o74) (v := ?v74) ?hi74 (by kernel_rfl) (by kernel_rfl) (by kernel_rfl) ?hQ74 (by kernel_rfl) (by decide) (by kernel_rfl) (Or.inl ⟨?hg74, ?hy74⟩) (by assumption) ?rest74
              case hi74 => (simp only [List.getElem?_toArray, List.getElem?_cons_zero, List.getElem?_cons_succ]; exact rfl)
              case hQ74 => exact fun _ _ _ h => h
              case hg74 => rfl
              case hy74 => (intro w' hSw; (try dsimp only at hSw); go_simp; try with_reducible rfl)
              try simp only [Act.put, List.setIfInBounds_toArray, List.set_cons_zero, List.set_cons_succ]
              refine wpAnyC_take (i := 21) (oi := ?o75) (v := ?v75) ?hi75 (by kernel_rfl) (by kernel_rfl) (by kernel_rfl) ?hQ75 (by kernel_rfl) (by decide) (by kernel_rfl) (Or.inl ⟨?hg75, ?hy75⟩) (by assumption) ?rest75
              case hi75 => (simp only [List.getElem?_toArray, List.getElem?_cons_zero, List.getElem?_cons_succ]; exact rfl)
              case hQ75 => exact fun _ _ _ h => h
              case hg75 => rfl
              case hy75 => (intro w' hSw; (try dsimp only at hSw); go_simp; try with_reducible rfl)
              try simp only [Act.put, List.setIfInBounds_toArray, List.set_cons_zero, List.set_cons_succ]
              refine wpAnyC_take (i := 22) (oi := ?o76) (v := ?v76) ?hi76 (by kernel_rfl) (by kernel_rfl) (by kernel_rfl) ?hQ76 (by kernel_rfl) (by decide) (by kernel_rfl) (Or.inl ⟨?hg76, ?hy76⟩) (by assumption) ?rest76
              case hi76 => (simp only [List.getElem?_toArray, List.getElem?_cons_zero, List.getElem?_cons_succ]; exact rfl)
              case hQ76 => exact fun _ _ _ h => h
              case hg76 => rfl
              case hy76 => (intro w' hSw; (try dsimp only at hSw); go_simp; try with_reducible rfl)
              try simp only [Act.put, List.setIfInBounds_toArray, List.set_cons_zero, List.set_cons_succ]
              refine wpAnyC_one (i := 5) (oi := ?o77) ?hi77 (by kernel_rfl) ?step77
              case hi77 => (simp only [List.getElem?_toArray, List.getElem?_cons_zero, List.getElem?_cons_succ]; exact rfl)
              intro K' hK
              go_simp
              refine hK.out _ _ ?_ (fun hHeld => ?_)
              · exact fun _ => ⟨q4.out.1, z2, q4.out.2⟩
              clear hK K' hHeld
              try simp only [Act.put, List.setIfInBounds_toArray, List.set_cons_zero, List.set_cons_succ]
              refine wpAnyC_one (i := 23) (oi := ?o78) ?hi78 (by kernel_rfl) ?step78
              case hi78 => (simp only [List.getElem?_toArray, List.getElem?_cons_zero, List.getElem?_cons_succ]; exact rfl)
              intro K' hK
              (refine step_app (by rfl) _ _ (by rfl) (n := 0) (by rfl) (by rfl) (base := w1.heap.size) (xs := []) (OwnB.start w1 w1.heap.size (Nat.le_refl _) |>.keep fun _ _ => rfl) (by simp) (by rfl) TL.out.symm (RB.out.below BA.out) (by rw [TL.out]; simp; omega) ?_; intro A5 c5 w5 o5 g5; have B5 : Hid (Below w1.heap.size w1 w5) := Lib.hid (BA.out.trans g5.below); have O5 := Lib.hid o5; have q5 : Hid (w5.cell? ⟨R, 1, none⟩ = some (.slice (some ⟨g, 0, none⟩) n fc) ∧ w5.cell? ⟨g, k * 3 + 2, none⟩ = some (.int .i64 (zn : Int))) := Lib.hid ⟨(B5.out.cell (p := ⟨R, 1, none⟩) lR1).trans c1, (B5.out.cell (p := ⟨g, k * 3 + 2, none⟩) lg1).trans d3⟩; have y4 : w5.frozen? ⟨g, k * 3 + 1, none⟩ = false := (by simp only [World.frozen?, B5.out.block g lg1]; exact fz1); have y2 := (B5.out.cell (p := ⟨g, k * 3 + 1, none⟩) lg1).trans d2; have q6 : Hid (∀ v, (w5.setCell ⟨g, k * 3 + 1, none⟩ v).cell? ⟨R, 1, none⟩ = some (.slice (some ⟨g, 0, none⟩) n fc) ∧ (w5.setCell ⟨g, k * 3 + 1, none⟩ v).cell? ⟨g, k * 3 + 2, none⟩ = some (.int .i64 (zn : Int))) := Lib.hid (fun v => ⟨(World.cell?_of_block (w := w5) (Below.heap_setCell _ _ _ _ ne)).trans q5.out.1, (far_cell (by omega)).trans q5.out.2⟩); clear o5 g5)
              refine hK.out _ _ ?_ (fun hHeld => ?_)
              · exact fun _ => ⟨q5.out.1, y2, q5.out.2⟩
              clear hK K' hHeld
              try simp only [Act.put, List.setIfInBounds_toArray, List.set_cons_zero, List.set_cons_succ]
              refine wpAnyC_one (i := 24) (oi := ?o79) ?hi79 (by kernel_rfl) ?step79
              case hi79 => (simp only [List.getElem?_toArray, List.getElem?_cons_zero, List.getElem?_cons_succ]; exact rfl)
              intro K' hK
              go_simp
              refine hK.out _ _ ?_ (fun hHeld => ?_)
              · exact fun _ => ⟨q5.out.1, y2, q5.out.2⟩
              clear hK K' hHeld
              try simp only [Act.put, List.setIfInBounds_toArray, List.set_cons_zero, List.set_cons_succ]
              refine wpAnyC_one (i := 25) (oi := ?o80) ?hi80 (by kernel_rfl) ?step80
              case hi80 => (simp only [List.getElem?_toArray, List.getElem?_cons_zero, List.getElem?_cons_succ]; exact rfl)
              intro K' hK
              go_simp
              refine hK.out _ _ ?_ (fun hHeld => ?_)
              · exact fun _ => ⟨q5.out.1, y2, q5.out.2⟩
              clear hK K' hHeld
              try simp only [Act.put, List.setIfInBounds_toArray, List.set_cons_zero, List.set_cons_succ]
              refine wpAnyC_one (i := 26) (oi := ?o81) ?hi81 (by kernel_rfl) ?step81
              case hi81 => (simp only [List.getElem?_toArray, List.getElem?_cons_zero, List.getElem?_cons_succ]; exact rfl)
              intro K' hK
              go_simp
              refine hK.out _ _ ?_ (fun hHeld => ?_)
              · exact fun h => (by cases h)
              clear hK K' hHeld
              try simp only [Act.put, List.setIfInBounds_toArray, List.set_cons_zero, List.set_cons_succ]
              refine wpAnyC_done (by kernel_rfl) ?_ _
              go_wp2
              all_goals
                obtain ⟨own3, Ad3, r1, r2⟩ := HQ.out.fall HL.out rfl HF.out (by rw [← SU.out, ← ZN.out]; exact hz) HAT.out KV.out HX.out (by rw [← SU.out, ← ZN.out]; exact su1) (BW.out.trans (B5.out.mono (by rw [SZ.out]; exact Nat.le_refl _))) (show OwnB w5 wq.heap.size A5 c5 _ from SZ.out ▸ O5.out)
                have R1 := Lib.hid r1
                have R2 := Lib.hid r2
                clear r1 r2
                go_roundw
                case rel => exact ⟨k + 1, at_ + 1, own3, Ad3, hlt, by go_num, by go_num, R1, R2⟩
                case measure => simp [intOf]; omega
        · have ha' : ¬ (at_ : Int) < (ks.length : Int) := by omega
          have h1 : (0 : Int) < (zn : Int) - (su : Int) := by omega
          have KV : Hid ((0 : Int) = ks.getD at_ 0) := Lib.hid (by rw [List.getD_eq_getElem?_getD, List.getElem?_eq_none (by omega)]; rfl)
          go_wp2
          go_region
          have HX : Hid (su = f.sure + min ((0 : Int)).toNat (f.zs.length - f.sure)) := Lib.hid (by rw [← SU.out, ← ZN.out]; omega)
          have hxl : su ≤ f.zs.length := by have := ZN.out; omega
          have hxb : su ≤ 16777216 := by omega
          clear c1 d2 d3 fz2 ROW
          generalize hw1 : (wq.setCell ⟨g, k * 3 + 2, none⟩ (.int .i64 (su : Int))).drew = w1 at *
          obtain ⟨c1, d2, d3, fz1, ROW, sz1, BW⟩ := HQ.out.next HL.out rfl HF.out hxl hw1.symm
          rw [← HN.out] at c1
          have hsl := slice_to (Ad2 f.nm).1 f.zs.length (Ad2 f.nm).2 su (Nat.le_trans hxl ROW.out.cap_) .i64
          have TL : Hid ((f.zs.take su).length = su) := Lib.hid (by rw [List.length_take]; omega)
          have RB := Lib.hid (ROW.out.bytes.head su)
          have lg1 : g < w1.heap.size := by rw [sz1]; exact lg
          have lR1 : R < w1.heap.size := by rw [sz1]; exact lR
          have SZ := Lib.hid sz1
          clear sz1
          have BA : Hid (Below w1.heap.size w1 (w1.alloc (.cells #[] 5)).drew) := Lib.hid (((Below.refl _ _).alloc (Nat.le_refl _) (.cells #[] 5)).drew)
          have q4 : Hid ((w1.alloc (.cells #[] 5)).drew.cell? ⟨R, 1, none⟩ = some (.slice (some ⟨g, 0, none⟩) n fc) ∧ (w1.alloc (.cells #[] 5)).drew.cell? ⟨g, k * 3 + 2, none⟩ = some (.int .i64 (su : Int))) := Lib.hid ⟨(BA.out.cell (p := ⟨R, 1, none⟩) lR1).trans c1, (BA.out.cell (p := ⟨g, k * 3 + 2, none⟩) lg1).trans d3⟩
          have z2 : (w1.alloc (.cells #[] 5)).drew.cell? ⟨g, k * 3 + 1, none⟩ = some (.slice (Ad2 f.nm).1 f.zs.length (Ad2 f.nm).2) := (BA.out.cell (p := ⟨g, k * 3 + 1, none⟩) lg1).trans d2
          go_wp2_with fail
          refine wp_region_C (fun w' => w'.cell? ⟨R, 1, none⟩ = some (.slice (some ⟨g, 0, none⟩) n fc) ∧ w'.cell? ⟨g, k * 3 + 1, none⟩ = some (.slice (Ad2 f.nm).1 f.zs.length (Ad2 f.nm).2) ∧ w'.cell? ⟨g, k * 3 + 2, none⟩ = some (.int .i64 (su : Int))) 26 (by kernel_rfl) ?_
          have hS0 : (fun w' : World => w'.cell? ⟨R, 1, none⟩ = some (.slice (some ⟨g, 0, none⟩) n fc) ∧ w'.cell? ⟨g, k * 3 + 1, none⟩ = some (.slice (Ad2 f.nm).1 f.zs.length (Ad2 f.nm).2) ∧ w'.cell? ⟨g, k * 3 + 2, none⟩ = some (.int .i64 (su : Int))) w1.drew := ⟨c1, d2, d3⟩
          refine wpAnyC_take (i := 0) (oi := ?o82) (v := ?v82) ?hi82 (by kernel_rfl) (by kernel_rfl) (by kernel_rfl) ?hQ82 (by kernel_rfl) (by decide) (by kernel_rfl) (Or.inl ⟨?hg82, ?hy82⟩) (by assumption) ?rest82
          case hi82 => (simp only [List.getElem?_toArray, List.getElem?_cons_zero]; exact rfl)
          case hQ82 => exact fun _ _ _ h => h
          case hg82 => rfl
          case hy82 => (intro w' hSw; (try dsimp only at hSw); go_simp; try with_reducible rfl)
          try simp only [Act.put, List.setIfInBounds_toArray, List.set_cons_zero, List.set_cons_succ]
          refine wpAnyC_take (i := 1) (oi := ?o83) (v := ?v83) ?hi83 (by kernel_rfl) (by kernel_rfl) (by kernel_rfl) ?hQ83 (by kernel_rfl) (by decide) (by kernel_rfl) (Or.inl ⟨?hg83, ?hy83⟩) (by assumption) ?rest83
          case hi83 => (simp only [List.getElem?_toArray, List.getElem?_cons_zero, List.getElem?_cons_succ]; exact rfl)
          case hQ83 => exact fun _ _ _ h => h
          case hg83 => rfl
          case hy83 => (intro w' hSw; (try dsimp only at hSw); go_simp; try with_reducible rfl)
          try simp only [Act.put, List.setIfInBounds_toArray, List.set_cons_zero, List.set_cons_succ]
          refine wpAnyC_take (i := 2) (oi := ?o84) (v := ?v84) ?hi84 (by kernel_rfl) (by kernel_rfl) (by kernel_rfl) ?hQ84 (by kernel_rfl) (by decide) (by kernel_rfl) (Or.inl ⟨?hg84, ?hy84⟩) (by assumption) ?rest84
          case hi84 => (simp only [List.getElem?_toArray, List.getElem?_cons_zero, List.getElem?_cons_succ]; exact rfl)
          case hQ84 => exact fun _ _ _ h => h
          case hg84 => rfl
          case hy84 => (intro w' hSw; (try dsimp only at hSw); go_simp; try with_reducible rfl)
          try simp only [Act.put, List.setIfInBounds_toArray, List.set_cons_zero, List.set_cons_succ]
          refine wpAnyC_take (i := 3) (oi := ?o85) (v := ?v85) ?hi85 (by kernel_rfl) (by kernel_rfl) (by kernel_rfl) ?hQ85 (by kernel_rfl) (by decide) (by kernel_rfl) (Or.inl ⟨?hg85, ?hy85⟩) (by assumption) ?rest85
          case hi85 => (simp only [List.getElem?_toArray, List.getElem?_cons_zero, List.getElem?_cons_succ]; exact rfl)
          case hQ85 => exact fun _ _ _ h => h
          case hg85 => rfl
          case hy85 => (intro w' hSw; (try dsimp only at hSw); go_simp; try with_reducible rfl)
          try simp only [Act.put, List.setIfInBounds_toArray, List.set_cons_zero, List.set_cons_succ]
          refine wpAnyC_take (i := 4) (oi := ?o86) (v := ?v86) ?hi86 (by kernel_rfl) (by kernel_rfl) (by kernel_rfl) ?hQ86 (by kernel_rfl) (by decide) (by kernel_rfl) (Or.inl ⟨?hg86, ?hy86⟩) (by assumption) ?rest86
          case hi86 => (simp only [List.getElem?_toArray, List.getElem?_cons_zero, List.getElem?_cons_succ]; exact rfl)
          case hQ86 => exact fun _ _ _ h => h
          case hg86 => rfl
          case hy86 => (intro w' hSw; (try dsimp only at hSw); go_simp; try with_reducible rfl)
          try simp only [Act.put, List.setIfInBounds_toArray, List.set_cons_zero, List.set_cons_succ]
          refine wpAnyC_take (i := 6) (oi := ?o87) (v := ?v87) ?hi87 (by kernel_rfl) (by kernel_rfl) (by kernel_rfl) ?hQ87 (by kernel_rfl) (by decide) (by kernel_rfl) (Or.inl ⟨?hg87, ?hy87⟩) (by assumption) ?rest87
          case hi87 => (simp only [List.getElem?_toArray, List.getElem?_cons_zero, List.getElem?_cons_succ]; exact rfl)
          case hQ87 => exact fun _ _ _ h => h
          case hg87 => rfl
          case hy87 => (intro w' hSw; (try dsimp only at hSw); go_simp; try with_reducible rfl)
          try simp only [Act.put, List.setIfInBounds_toArray, List.set_cons_zero, List.set_cons_succ]
          refine wpAnyC_take (i := 7) (oi := ?o88) (v := ?v88) ?hi88 (by kernel_rfl) (by kernel_rfl) (by kernel_rfl) ?hQ88 (by kernel_rfl) (by decide) (by kernel_rfl) (Or.inl ⟨?hg88, ?hy88⟩) (by assumption) ?rest88
          case hi88 => (simp only [List.getElem?_toArray, List.getElem?_cons_zero, List.getElem?_cons_succ]; exact rfl)
          case hQ88 => exact fun _ _ _ h => h
          case hg88 => rfl
          case hy88 => (intro w' hSw; (try dsimp only at hSw); go_simp; try with_reducible rfl)
          try simp only [Act.put, List.setIfInBounds_toArray, List.set_cons_zero, List.set_cons_succ]
          refine wpAnyC_take (i := 8) (oi := ?o89) (v := ?v89) ?hi89 (by kernel_rfl) (by kernel_rfl) (by kernel_rfl) ?hQ89 (by kernel_rfl) (by decide) (by kernel_rfl) (Or.inl ⟨?hg89, ?hy89⟩) (by assumption) ?rest89
          case hi89 => (simp only [List.getElem?_toArray, List.getElem?_cons_zero, List.getElem?_cons_succ]; exact rfl)
          case hQ89 => exact fun _ _ _ h => h
          case hg89 => rfl
          case hy89 => (intro w' hSw; (try dsimp only at hSw); go_simp; try with_reducible rfl)
          try simp only [Act.put, List.setIfInBounds_toArray, List.set_cons_zero, List.set_cons_succ]
          refine wpAnyC_take (i := 9) (oi := ?o90) (v := ?v90) ?hi90 (by kernel_rfl) (by kernel_rfl) (by kernel_rfl) ?hQ90 (by kernel_rfl) (by decide) (by kernel_rfl) (Or.inl ⟨?hg90, ?hy90⟩) (by assumption) ?rest90
          case hi90 => (simp only [List.getElem?_toArray, List.getElem?_cons_zero, List.getElem?_cons_succ]; exact rfl)
          case hQ90 => exact fun _ _ _ h => h
          case hg90 => rfl
          case hy90 => (intro w' hSw; (try dsimp only at hSw); go_simp; try with_reducible rfl)
          try simp only [Act.put, List.setIfInBounds_toArray, List.set_cons_zero, List.set_cons_succ]
          refine wpAnyC_take (i := 10) (oi := ?o91) (v := ?v91) ?hi91 (by kernel_rfl) (by kernel_rfl) (by kernel_rfl) ?hQ91 (by kernel_rfl) (by decide) (by kernel_rfl) (Or.inl ⟨?hg91, ?hy91⟩) (by assumption) ?rest91
          case hi91 => (simp only [List.getElem?_toArray, List.getElem?_cons_zero, List.getElem?_cons_succ]; exact rfl)
          case hQ91 => exact fun _ _ _ h => h
          case hg91 => rfl
          case hy91 => (intro w' hSw; (try dsimp only at hSw); go_simp; try with_reducible rfl)
          try simp only [Act.put, List.setIfInBounds_toArray, List.set_cons_zero, List.set_cons_succ]
          refine wpAnyC_take (i := 11) (oi := ?o92) (v := ?v92) ?hi92 (by kernel_rfl) (by kernel_rfl) (by kernel_rfl) ?hQ92 (by kernel_rfl) (by decide) (by kernel_rfl) (Or.inl ⟨?hg92, ?hy92⟩) (by assumption) ?rest92
          case hi92 => (simp only [List.getElem?_toArray, List.getElem?_cons_zero, List.getElem?_cons_succ]; exact rfl)
          case hQ92 => exact fun _ _ _ h => h
          case hg92 => rfl
          case hy92 => (intro w' hSw; (try dsimp only at hSw); go_simp; try with_reducible rfl)
          try simp only [Act.put, List.setIfInBounds_toArray, List.set_cons_zero, List.set_cons_succ]
          refine wpAnyC_take (i := 12) (oi := ?o93) (v := ?v93) ?hi93 (by kernel_rfl) (by kernel_rfl) (by kernel_rfl) ?hQ93 (by kernel_rfl) (by decide) (by kernel_rfl) (Or.inl ⟨?hg93, ?hy93⟩) (by assumption) ?rest93
          case hi93 => (simp only [List.getElem?_toArray, List.getElem?_cons_zero, List.getElem?_cons_succ]; exact rfl)
          case hQ93 => exact fun _ _ _ h => h
          case hg93 => rfl
          case hy93 => (intro w' hSw; (try dsimp only at hSw); go_simp; try with_reducible rfl)
          try simp only [Act.put, List.setIfInBounds_toArray, List.set_cons_zero, List.set_cons_succ]
          refine wpAnyC_take (i := 13) (oi := ?o94) (v := ?v94) ?hi94 (by kernel_rfl) (by kernel_rfl) (by kernel_rfl) ?hQ94 (by kernel_rfl) (by decide) (by kernel_rfl) (Or.inl ⟨?hg94, ?hy94⟩) (by assumption) ?rest94
          case hi94 => (simp only [List.getElem?_toArray, List.getElem?_cons_zero, List.getElem?_cons_succ]; exact rfl)
          case hQ94 => exact fun _ _ _ h => h
          case hg94 => rfl
          case hy94 => (intro w' hSw; (try dsimp only at hSw); go_simp; try with_reducible rfl)
          try simp only [Act.put, List.setIfInBounds_toArray, List.set_cons_zero, List.set_cons_succ]
          refine wpAnyC_take (i := 14) (oi := ?o95) (v := ?v95) ?hi95 (by kernel_rfl) (by kernel_rfl) (by kernel_rfl) ?hQ95 (by kernel_rfl) (by decide) (by kernel_rfl) (Or.inl ⟨?hg95, ?hy95⟩) (by assumption) ?rest95
          case hi95 => (simp only [List.getElem?_toArray, List.getElem?_cons_zero, List.getElem?_cons_succ]; exact rfl)
          case hQ95 => exact fun _ _ _ h => h
          case hg95 => rfl
          case hy95 => (intro w' hSw; (try dsimp only at hSw); go_simp; try with_reducible rfl)
          try simp only [Act.put, List.setIfInBounds_toArray, List.set_cons_zero, List.set_cons_succ]
          refine wpAnyC_take (i := 15) (oi := ?o96) (v := ?v96) ?hi96 (by kernel_rfl) (by kernel_rfl) (by kernel_rfl) ?hQ96 (by kernel_rfl) (by decide) (by kernel_rfl) (Or.inl ⟨?hg96, ?hy96⟩) (by assumption) ?rest96
          case hi96 => (simp only [List.getElem?_toArray, List.getElem?_cons_zero, List.getElem?_cons_succ]; exact rfl)
          case hQ96 => exact fun _ _ _ h => h
          case hg96 => rfl
          case hy96 => (intro w' hSw; (try dsimp only at hSw); go_simp; try with_reducible rfl)
          try simp only [Act.put, List.setIfInBounds_toArray, List.set_cons_zero, List.set_cons_succ]
          refine wpAnyC_take (i := 16) (oi := ?o97) (v := ?v97) ?hi97 (by kernel_rfl) (by kernel_rfl) (by kernel_rfl) ?hQ97 (by kernel_rfl) (by decide) (by kernel_rfl) (Or.inl ⟨?hg97, ?hy97⟩) (by assumption) ?rest97
          case hi97 => (simp only [List.getElem?_toArray, List.getElem?_cons_zero, List.getElem?_cons_succ]; exact rfl)
          case hQ97 => exact fun _ _ _ h => h
          case hg97 => rfl
          case hy97 => (intro w' hSw; (try dsimp only at hSw); go_simp; try with_reducible rfl)
          try simp only [Act.put, List.setIfInBounds_toArray, List.set_cons_zero, List.set_cons_succ]
          refine wpAnyC_take (i := 17) (oi := ?o98) (v := ?v98) ?hi98 (by kernel_rfl) (by kernel_rfl) (by kernel_rfl) ?hQ98 (by kernel_rfl) (by decide) (by kernel_rfl) (Or.inl ⟨?hg98, ?hy98⟩) (by assumption) ?rest98
          case hi98 => (simp only [List.getElem?_toArray, List.getElem?_cons_zero, List.getElem?_cons_succ]; exact rfl)
          case hQ98 => exact fun _ _ _ h => h
          case hg98 => rfl
          case hy98 => (intro w' hSw; (try dsimp only at hSw); go_simp; try with_reducible rfl)
          try simp only [Act.put, List.setIfInBounds_toArray, List.set_cons_zero, List.set_cons_succ]
          refine wpAnyC_take (i := 18) (oi := ?o99) (v := ?v99) ?hi99 (by kernel_rfl) (by kernel_rfl) (by kernel_rfl) ?hQ99 (by kernel_rfl) (by decide) (by kernel_rfl) (Or.inl ⟨?hg99, ?hy99⟩) (by assumption) ?rest99
          case hi99 => (simp only [List.getElem?_toArray, List.getElem?_cons_zero, List.getElem?_cons_succ]; exact rfl)
          case hQ99 => exact fun _ _ _ h => h
          case hg99 => rfl
          case hy99 => (intro w' hSw; (try dsimp only at hSw); go_simp; try with_reducible rfl)
          try simp only [Act.put, List.setIfInBounds_toArray, List.set_cons_zero, List.set_cons_succ]
          refine wpAnyC_take (i := 19) (oi := ?o100) (v := ?v100) ?hi100 (by kernel_rfl) (by kernel_rfl) (by kernel_rfl) ?hQ100 (by kernel_rfl) (by decide) (by kernel_rfl) (Or.inl ⟨?hg100, ?hy100⟩) (by assumption) ?rest100
          case hi100 => (simp only [List.getElem?_toArray, List.getElem?_cons_zero, List.getElem?_cons_succ]; exact rfl)
          case hQ100 => exact fun _ _ _ h => h
          case hg100 => rfl
          case hy100 => (intro w' hSw; (try dsimp only at hSw); go_simp; try with_reducible rfl)
          try simp only [Act.put, List.setIfInBounds_toArray, List.set_cons_zero, List.set_cons_succ]
          refine wpAnyC_take (i := 20) (oi := ?o101) (v := ?v101) ?hi101 (by kernel_rfl) (by kernel_rfl) (by kernel_rfl) ?hQ101 (by kernel_rfl) (by decide) (by kernel_rfl) (Or.inl ⟨?hg101, ?hy101⟩) (by assumption) ?rest101
          case hi101 => (simp only [List.getElem?_toArray, List.getElem?_cons_zero, List.getElem?_cons_succ]; exact rfl)
          case hQ101 => exact fun _ _ _ h => h
          case hg101 => rfl
          case hy101 => (intro w' hSw; (try dsimp only at hSw); go_simp; try with_reducible rfl)
          try simp only [Act.put, List.setIfInBounds_toArray, List.set_cons_zero, List.set_cons_succ]
          refine wpAnyC_take (i := 21) (oi := ?o102) (v := ?v102) ?hi102 (by kernel_rfl) (by kernel_rfl) (by kernel_rfl) ?hQ102 (by kernel_rfl) (by decide) (by kernel_rfl) (Or.inl ⟨?hg102, ?hy102⟩) (by assumption) ?rest102
          case hi102 => (simp only [List.getElem?_toArray, List.getElem?_cons_zero, List.getElem?_cons_succ]; exact rfl)
          case hQ102 => exact fun _ _ _ h => h
          case hg102 => rfl
          case hy102 => (intro w' hSw; (try dsimp only at hSw); go_simp; try with_reducible rfl)
          try simp only [Act.put, List.setIfInBounds_toArray, List.set_cons_zero, List.set_cons_succ]
          refine wpAnyC_take (i := 22) (oi := ?o103) (v := ?v103) ?hi103 (by kernel_rfl) (by kernel_rfl) (by kernel_rfl) ?hQ103 (by kernel_rfl) (by decide) (by kernel_rfl) (Or.inl ⟨?hg103, ?hy103⟩) (by assumption) ?rest103
          case hi103 => (simp only [List.getElem?_toArray, List.getElem?_cons_zero, List.getElem?_cons_succ]; exact rfl)
          case hQ103 => exact fun _ _ _ h => h
          case hg103 => rfl
          case hy103 => (intro w' hSw; (try dsimp only at hSw); go_simp; try with_reducible rfl)
          try simp only [Act.put, List.setIfInBounds_toArray, List.set_cons_zero, List.set_cons_succ]
          refine wpAnyC_one (i := 5) (oi := ?o104) ?hi104 (by kernel_rfl) ?step104
          case hi104 => (simp only [List.getElem?_toArray, List.getElem?_cons_zero, List.getElem?_cons_succ]; exact rfl)
          intro K' hK
          go_simp
          refine hK.out _ _ ?_ (fun hHeld => ?_)
          · exact fun _ => ⟨q4.out.1, z2, q4.out.2⟩
          clear hK K' hHeld
          try simp only [Act.put, List.setIfInBounds_toArray, List.set_cons_zero, List.set_cons_succ]
          refine wpAnyC_one (i := 23) (oi := ?o105) ?hi105 (by kernel_rfl) ?step105
          case hi105 => (simp only [List.getElem?_toArray, List.getElem?_cons_zero, List.getElem?_cons_succ]; exact rfl)
          intro K' hK
          (refine step_app (by rfl) _ _ (by rfl) (n := 0) (by rfl) (by rfl) (base := w1.heap.size) (xs := []) (OwnB.start w1 w1.heap.size (Nat.le_refl _) |>.keep fun _ _ => rfl) (by simp) (by rfl) TL.out.symm (RB.out.below BA.out) (by rw [TL.out]; simp; omega) ?_; intro A5 c5 w5 o5 g5; have B5 : Hid (Below w1.heap.size w1 w5) := Lib.hid (BA.out.trans g5.below); have O5 := Lib.hid o5; have q5 : Hid (w5.cell? ⟨R, 1, none⟩ = some (.slice (some ⟨g, 0, none⟩) n fc) ∧ w5.cell? ⟨g, k * 3 + 2, none⟩ = some (.int .i64 (su : Int))) := Lib.hid ⟨(B5.out.cell (p := ⟨R, 1, none⟩) lR1).trans c1, (B5.out.cell (p := ⟨g, k * 3 + 2, none⟩) lg1).trans d3⟩; have y4 : w5.frozen? ⟨g, k * 3 + 1, none⟩ = false := (by simp only [World.frozen?, B5.out.block g lg1]; exact fz1); have y2 := (B5.out.cell (p := ⟨g, k * 3 + 1, none⟩) lg1).trans d2; have q6 : Hid (∀ v, (w5.setCell ⟨g, k * 3 + 1, none⟩ v).cell? ⟨R, 1, none⟩ = some (.slice (some ⟨g, 0, none⟩) n fc) ∧ (w5.setCell ⟨g, k * 3 + 1, none⟩ v).cell? ⟨g, k * 3 + 2, none⟩ = some (.int .i64 (su : Int))) := Lib.hid (fun v => ⟨(World.cell?_of_block (w := w5) (Below.heap_setCell _ _ _ _ ne)).trans q5.out.1, (far_cell (by omega)).trans q5.out.2⟩); clear o5 g5)
          refine hK.out _ _ ?_ (fun hHeld => ?_)
          · exact fun _ => ⟨q5.out.1, y2, q5.out.2⟩
          clear hK K' hHeld
          try simp only [Act.put, List.setIfInBounds_toArray, List.set_cons_zero, List.set_cons_succ]
          refine wpAnyC_one (i := 24) (oi := ?o106) ?hi106 (by kernel_rfl) ?step106
          case hi106 => (simp only [List.getElem?_toArray, List.getElem?_cons_zero, List.getElem?_cons_succ]; exact rfl)
          intro K' hK
          go_simp
          refine hK.out _ _ ?_ (fun hHeld => ?_)
          · exact fun _ => ⟨q5.out.1, y2, q5.out.2⟩
          clear hK K' hHeld
          try simp only [Act.put, List.setIfInBounds_toArray, List.set_cons_zero, List.set_cons_succ]
          refine wpAnyC_one (i := 25) (oi := ?o107) ?hi107 (by kernel_rfl) ?step107
          case hi107 => (simp only [List.getElem?_toArray, List.getElem?_cons_zero, List.getElem?_cons_succ]; exact rfl)
          intro K' hK
          go_simp
          refine hK.out _ _ ?_ (fun hHeld => ?_)
          · exact fun _ => ⟨q5.out.1, y2, q5.out.2⟩
          clear hK K' hHeld
          try simp only [Act.put, List.setIfInBounds_toArray, List.set_cons_zero, List.set_cons_succ]
          refine wpAnyC_one (i := 26) (oi := ?o108) ?hi108 (by kernel_rfl) ?step108
          case hi108 => (simp only [List.getElem?_toArray, List.getElem?_cons_zero, List.getElem?_cons_succ]; exact rfl)
          intro K' hK
          go_simp
          refine hK.out _ _ ?_ (fun hHeld => ?_)
          · exact fun h => (by cases h)
          clear hK K' hHeld
          try simp only [Act.put, List.setIfInBounds_toArray, List.set_cons_zero, List.set_cons_succ]
          refine wpAnyC_done (by kernel_rfl) ?_ _
          go_wp2
          all_goals
            obtain ⟨own3, Ad3, r1, r2⟩ := HQ.out.fall HL.out rfl HF.out (by rw [← SU.out, ← ZN.out]; exact hz) HAT.out KV.out HX.out (by rw [← SU.out, ← ZN.out]; exact su1) (BW.out.trans (B5.out.mono (by rw [SZ.out]; exact Nat.le_refl _))) (show OwnB w5 wq.heap.size A5 c5 _ from SZ.out ▸ O5.out)
            have R1 := Lib.hid r1
            have R2 := Lib.hid r2
            clear r1 r2
            go_roundw
            case rel => exact ⟨k + 1, at_ + 1, own3, Ad3, hlt, by go_num, by go_num, R1, R2⟩
            case measure => simp [intOf]; omega
    · have e : k = n := by omega
      subst e
      have hge : ¬ (k : Int) < (k : Int) := by omega
      have HE : Hid (RCr w wr R own s rf rk fa fc ka kc (crashL s.fs ks) own2 Ad2) := Lib.hid (by
        have := HC.out
        rw [HN.out, crashTo_end] at this; exact this)
      obtain ⟨⟨_, c0, c2, c3, _⟩, _, _, f2, f3, _⟩ := obj5 HE.out.rp.rs.obj
      have c1 : wr.cell? ⟨R, 1, none⟩ = some (.slice fa (crashL s.fs ks).length fc) := c0
      clear c0
      rw [crashL_len, ← HN.out] at c1
      have lR : R < wr.heap.size := HE.out.rp.lt R HE.out.rp.ownT
      clear HC HAT hk0
      go_wp2
      refine bodyPost_end (results_none rfl _ _ _) rfl ?_
      exact ⟨rfl, rcrash_end HR.out HE.out HO.out HRK.out⟩
end Go.Proofs.Ytmahbcpkilegpaa

