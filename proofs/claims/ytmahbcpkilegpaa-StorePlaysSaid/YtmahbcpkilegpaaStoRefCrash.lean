/-
  The reference's Crash.
-/
import Derived.Test.YtmahbcpkilegpaaStoRefCr
namespace Go.Proofs.Ytmahbcpkilegpaa
open Go.RowKit St

theorem rcrash_end {w wr : World} {R : Nat} {own : Nat → Prop} {s : S} {rf : Int} {rk : List Int} {fa : Option Addr} {fc : Nat} {ka : Option Addr} {kc : Nat} {ks : List Int} {own2 : Nat → Prop} {Ad Ad2 : List UInt8 → Option Addr × Nat} (p : RP w R own s rf rk Ad fa fc ka kc) (h : RCr w wr R own s rf rk fa fc ka kc (crashL s.fs ks) own2 Ad2) (ho : s.off = false) (hrk : rk.length ≤ 1000000) :
    RLeaves w R own (crash s ks) ((wr.setCell ⟨R, 2, none⟩ (.bool true)).setCell ⟨R, 3, none⟩ (.int .i64 0)) := by
  have o3 := obj_set (o := 3) (obj_set (o := 2) h.rp.rs.obj (.bool true)) (.int .i64 0)
  have hkb : ∀ k, k ≠ R → ((wr.setCell ⟨R, 2, none⟩ (.bool true)).setCell ⟨R, 3, none⟩ (.int .i64 0)).heap[k]? = wr.heap[k]? := fun k hk => by
    rw [Below.heap_setCell _ _ _ _ hk, Below.heap_setCell _ _ _ _ hk]
  have hsz : ((wr.setCell ⟨R, 2, none⟩ (.bool true)).setCell ⟨R, 3, none⟩ (.int .i64 0)).heap.size = wr.heap.size := by simp [World.setCell]
  have ho1 : Only own w wr := h.only.mono fun b _ ⟨a, ha, hb⟩ => by rw [hb]; exact p.ownF a ha
  have hon := ho1.trans ((Only.set own 2 wr (.bool true) p.ownT).trans (Only.set own 3 _ (.int .i64 0) p.ownT) (fun _ h => .inl h)) (fun _ h => .inl h)
  have e : crash s ks = { ({ s with fs := crashL s.fs ks } : S) with off := true, fuse := 0, keep := [] } := by unfold crash; rw [if_neg (by simp [ho])]
  rw [e]
  refine ⟨own2, ⟨0, rk, Ad2, fa, fc, ka, kc, ?_, by omega, by omega, hrk⟩, hon, h.sub⟩
  refine h.rp.flags (fun k _ hne => hkb k hne) ?_ (h.rp.keep.keep fun a ha => hkb _ (h.rp.keep_ne ha)) (fun _ h => h) (fun k hk => by rw [hsz]; exact h.rp.lt k hk) h.rp.ownK (inv_flags h.rp.rs.inv (by omega) (by simp)) ⟨rfl, fun h => by omega⟩
  rw [o3]; simp
theorem far_cell {w : World} {g i j : Nat} {v : Value} (h : i ≠ j) : (w.setCell ⟨g, i, none⟩ v).cell? ⟨g, j, none⟩ = w.cell? ⟨g, j, none⟩ := by
  refine World.cell?_setCell_other (h := ?_) ..
  intro e
  exact h (by injection e)
set_option maxRecDepth 20000 in
set_option maxHeartbeats 8000000 in
theorem rcrash_on {w : World} {R : Nat} {own : Nat → Prop} {s : S} {rf : Int} {rk : List Int} {Ad : List UInt8 → Option Addr × Nat} {fa : Option Addr} {fc : Nat} {ka : Option Addr} {kc : Nat} (h : RP w R own s rf rk Ad fa fc ka kc) (hrk : rk.length ≤ 1000000) (ho : s.off = false)
    (A : Option Addr) (ks : List Int) (len cap : Nat) (hl : len = ks.length) (hk : ks.length ≤ 1000000) (hi : Ints w A ks) (hA : 0 < ks.length → ∀ a b, A = some a → fa = some b → a.block ≠ b.block) :
    Calls Try.prog 30 #[.pointer (some ⟨R, 0, none⟩), .slice A len cap] w fun e w' => e = .returned (.tuple #[]) ∧ RLeaves w R own (crash s ks) w' := by
  have HR := Lib.hid h
  have HI := Lib.hid hi
  have HA := Lib.hid hA
  have HRK := Lib.hid hrk
  have hn : (s.fs.length : Int) ≤ 64 := by have := h.rs.inv.count; omega
  obtain ⟨⟨_, c1, c2, _, _⟩, _⟩ := obj5 h.rs.obj
  rw [ho] at c2
  have HO := Lib.hid ho
  clear h hi hA hrk ho
  obtain ⟨n, hN⟩ : ∃ n, n = s.fs.length := ⟨_, rfl⟩
  rw [← hN] at c1 hn
  have HN := Lib.hid hN
  clear hN
  subst hl
  have hk' : (ks.length : Int) ≤ 1000000 := by omega
  clear hk
  go_enter Try.func30, Try.ntmps30
  go_wp2
  go_loopw [4, 5] (fun av iv wr => ∃ (k at_ : Nat) (own2 : Nat → Prop) (Ad2 : List UInt8 → Option Addr × Nat), k ≤ n ∧ av = .int .i64 (at_ : Int) ∧ iv = .int .i64 (k : Int) ∧ Hid (at_ = cnt (s.fs.take k)) ∧ Hid (RCr w wr R own s rf rk fa fc ka kc (crashTo s.fs ks k) own2 Ad2)) (fun _ iv _ => n - (intOf iv).toNat)
  case atStart => exact ⟨0, 0, own, Ad, Nat.zero_le _, rfl, rfl, Lib.hid rfl, Lib.hid (RCr.start HR.out)⟩
  case round =>
    obtain ⟨k, at_, own2, Ad2, hk0, rfl, rfl, HAT, HC⟩ := hrel
    by_cases hlt : k < n
    · have HL : Hid (k < s.fs.length) := Lib.hid (by rw [← HN.out]; exact hlt)
      obtain ⟨g, f, hg, HF, c1, d2, d3, _, _, _, _, su1, zn1, _, _⟩ := HC.out.facts HL.out
      rw [← HN.out] at c1
      have hlt' : (k : Int) < (n : Int) := by omega
      obtain ⟨zn, hzn⟩ : ∃ zn, zn = f.zs.length := ⟨_, rfl⟩
      obtain ⟨su, hsu2⟩ : ∃ su, su = f.sure := ⟨_, rfl⟩
      rw [← hzn] at d2 su1 zn1
      rw [← hsu2] at d3 su1
      have ZN := Lib.hid hzn
      have SU := Lib.hid hsu2
      clear hzn hsu2
      subst hg
      by_cases hz : su = zn
      · have SK := Lib.hid (crashTo_skip s.fs ks k HL.out (by rw [← HF.out, ← SU.out, ← ZN.out]; exact hz))
        subst hz
        clear su1
        go_wp2
        go_quiet (fail)
        have HQ := Lib.hid (HC.out.drewN nq)
        go_wp2
        go_roundw
        case rel => exact ⟨k + 1, at_, own2, Ad2, hlt, rfl, by go_num, Lib.hid (by rw [SK.out.2]; exact HAT.out), by rw [SK.out.1]; exact HQ⟩
        case measure => simp [intOf]; omega
      · have hz0 : ¬ (zn : Int) - (su : Int) = 0 := by omega
        have ST := Lib.hid (crashTo_step s.fs ks k HL.out (by rw [← HF.out, ← SU.out, ← ZN.out]; exact hz))
        have hat : at_ ≤ 64 := by
          have h1 := cnt_le (s.fs.take k); rw [List.length_take] at h1
          have := HAT.out; have := HN.out; have := HL.out; omega
        go_wp2
        go_quiet (fail)
        have HQ := Lib.hid (HC.out.drewN nq)
        have HIq := Lib.hid (HQ.out.ints HI.out HA.out)
        clear c1 d2 d3
        generalize wr.drewN nq = wq at *
        clear HC
        obtain ⟨g', f', hg', HF', c1, d2, d3, ne, fz1, fz2, ROW, _, _, lg, lR⟩ := HQ.out.facts HL.out
        obtain rfl : g = g' := by injection hg' with e; injection e
        obtain rfl : f = f' := HF.out.trans HF'.out.symm
        rw [← HN.out] at c1
        rw [← ZN.out] at d2
        rw [← SU.out] at d3
        clear hg' HF'
        by_cases ha : at_ < ks.length
        · obtain ⟨b, off, hAe, hcell⟩ := HIq.out.at_ ha
          obtain ⟨kv, hkv⟩ : ∃ kv, kv = ks.getD at_ 0 := ⟨_, rfl⟩
          rw [← hkv] at hcell
          have KV := Lib.hid hkv
          clear hkv
          subst hAe
          have ha' : (at_ : Int) < (ks.length : Int) := by omega
          by_cases h0 : kv < 0
          · have h1 : (0 : Int) < (zn : Int) - (su : Int) := by omega
            go_wp2
            go_region
            have HX : Hid (su = f.sure + min (kv).toNat (f.zs.length - f.sure)) := Lib.hid (by rw [← SU.out, ← ZN.out]; omega)
            have hxl : su ≤ f.zs.length := by have := ZN.out; omega
            have hxb : su ≤ 16777216 := by omega
            clear c1 d2 d3 fz2 ROW
            generalize hw1 : (wq.setCell ⟨g, k * 3 + 2, none⟩ (.int .i64 (su : Int))).drew = w1 at *
            obtain ⟨c1, d2, d3, fz1, ROW, sz1, BW⟩ := HQ.out.next HL.out rfl HF.out hxl hw1.symm
            rw [← HN.out] at c1
            have hsl := slice_to (Ad2 f.nm).1 f.zs.length (Ad2 f.nm).2 su (Nat.le_trans hxl ROW.out.cap_) .i64
            have TL : Hid ((f.zs.take su).length = su) := Lib.hid (by rw [List.length_take]; omega)
            have RB := Lib.hid (ROW.out.bytes.head su)
            have lg1 : g < w1.heap.size := by rw [sz1]; exact lg
            have lR1 : R < w1.heap.size := by rw [sz1]; exact lR
            have SZ := Lib.hid sz1
            clear sz1
            have BA : Hid (Below w1.heap.size w1 (w1.alloc (.cells #[] 5)).drew) := Lib.hid (((Below.refl _ _).alloc (Nat.le_refl _) (.cells #[] 5)).drew)
            have q4 : Hid ((w1.alloc (.cells #[] 5)).drew.cell? ⟨R, 1, none⟩ = some (.slice (some ⟨g, 0, none⟩) n fc) ∧ (w1.alloc (.cells #[] 5)).drew.cell? ⟨g, k * 3 + 2, none⟩ = some (.int .i64 (su : Int))) := Lib.hid ⟨(BA.out.cell (p := ⟨R, 1, none⟩) lR1).trans c1, (BA.out.cell (p := ⟨g, k * 3 + 2, none⟩) lg1).trans d3⟩
            have z2 : (w1.alloc (.cells #[] 5)).drew.cell? ⟨g, k * 3 + 1, none⟩ = some (.slice (Ad2 f.nm).1 f.zs.length (Ad2 f.nm).2) := (BA.out.cell (p := ⟨g, k * 3 + 1, none⟩) lg1).trans d2
            go_wp2_with fail
            go_region_held3 (fun w' => w'.cell? ⟨R, 1, none⟩ = some (.slice (some ⟨g, 0, none⟩) n fc) ∧ w'.cell? ⟨g, k * 3 + 2, none⟩ = some (.int .i64 (su : Int))) ((first | exact ⟨c1, d3⟩ | exact q4.out | exact q5.out | exact q6.out _ | go_keep))
              (first | (refine step_app (by rfl) _ _ (by rfl) (n := 0) (by rfl) (by rfl) (base := w1.heap.size) (xs := []) (OwnB.start w1 w1.heap.size (Nat.le_refl _) |>.keep fun _ _ => rfl) (by simp) (by rfl) TL.out.symm (RB.out.below BA.out) (by rw [TL.out]; simp; omega) ?_; intro A5 c5 w5 o5 g5; have B5 : Hid (Below w1.heap.size w1 w5) := Lib.hid (BA.out.trans g5.below); have O5 := Lib.hid o5; have q5 : Hid (w5.cell? ⟨R, 1, none⟩ = some (.slice (some ⟨g, 0, none⟩) n fc) ∧ w5.cell? ⟨g, k * 3 + 2, none⟩ = some (.int .i64 (su : Int))) := Lib.hid ⟨(B5.out.cell (p := ⟨R, 1, none⟩) lR1).trans c1, (B5.out.cell (p := ⟨g, k * 3 + 2, none⟩) lg1).trans d3⟩; have y4 : w5.frozen? ⟨g, k * 3 + 1, none⟩ = false := (by simp only [World.frozen?, B5.out.block g lg1]; exact fz1); have y2 := (B5.out.cell (p := ⟨g, k * 3 + 1, none⟩) lg1).trans d2; have q6 : Hid (∀ v, (w5.setCell ⟨g, k * 3 + 1, none⟩ v).cell? ⟨R, 1, none⟩ = some (.slice (some ⟨g, 0, none⟩) n fc) ∧ (w5.setCell ⟨g, k * 3 + 1, none⟩ v).cell? ⟨g, k * 3 + 2, none⟩ = some (.int .i64 (su : Int))) := Lib.hid (fun v => ⟨(World.cell?_of_block (w := w5) (Below.heap_setCell _ _ _ _ ne)).trans q5.out.1, (far_cell (by omega)).trans q5.out.2⟩); clear o5 g5))
            go_wp2
            all_goals
              obtain ⟨own3, Ad3, r1, r2⟩ := HQ.out.fall HL.out rfl HF.out (by rw [← SU.out, ← ZN.out]; exact hz) HAT.out KV.out HX.out (by rw [← SU.out, ← ZN.out]; exact su1) (BW.out.trans (B5.out.mono (by rw [SZ.out]; exact Nat.le_refl _))) (show OwnB w5 wq.heap.size A5 c5 _ from SZ.out ▸ O5.out)
              have R1 := Lib.hid r1
              have R2 := Lib.hid r2
              clear r1 r2
              go_roundw
              case rel => exact ⟨k + 1, at_ + 1, own3, Ad3, hlt, by go_num, by go_num, R1, R2⟩
              case measure => simp [intOf]; omega
          · by_cases h1 : kv < (zn : Int) - (su : Int)
            · obtain ⟨j, rfl⟩ : ∃ j : Nat, kv = j := ⟨kv.toNat, by omega⟩
              go_wp2
              go_region
              obtain ⟨x, hx⟩ : ∃ x, x = su + j := ⟨_, rfl⟩
              rw [show (su : Int) + (j : Int) = (x : Int) by omega]
              have HX : Hid (x = f.sure + min ((j : Int)).toNat (f.zs.length - f.sure)) := Lib.hid (by rw [← SU.out, ← ZN.out]; omega)
              have hxl : x ≤ f.zs.length := by have := ZN.out; omega
              have hxb : x ≤ 16777216 := by omega
              clear hx
              clear c1 d2 d3 fz2 ROW
              generalize hw1 : (wq.setCell ⟨g, k * 3 + 2, none⟩ (.int .i64 (x : Int))).drew = w1 at *
              obtain ⟨c1, d2, d3, fz1, ROW, sz1, BW⟩ := HQ.out.next HL.out rfl HF.out hxl hw1.symm
              rw [← HN.out] at c1
              have hsl := slice_to (Ad2 f.nm).1 f.zs.length (Ad2 f.nm).2 x (Nat.le_trans hxl ROW.out.cap_) .i64
              have TL : Hid ((f.zs.take x).length = x) := Lib.hid (by rw [List.length_take]; omega)
              have RB := Lib.hid (ROW.out.bytes.head x)
              have lg1 : g < w1.heap.size := by rw [sz1]; exact lg
              have lR1 : R < w1.heap.size := by rw [sz1]; exact lR
              have SZ := Lib.hid sz1
              clear sz1
              have BA : Hid (Below w1.heap.size w1 (w1.alloc (.cells #[] 5)).drew) := Lib.hid (((Below.refl _ _).alloc (Nat.le_refl _) (.cells #[] 5)).drew)
              have q4 : Hid ((w1.alloc (.cells #[] 5)).drew.cell? ⟨R, 1, none⟩ = some (.slice (some ⟨g, 0, none⟩) n fc) ∧ (w1.alloc (.cells #[] 5)).drew.cell? ⟨g, k * 3 + 2, none⟩ = some (.int .i64 (x : Int))) := Lib.hid ⟨(BA.out.cell (p := ⟨R, 1, none⟩) lR1).trans c1, (BA.out.cell (p := ⟨g, k * 3 + 2, none⟩) lg1).trans d3⟩
              have z2 : (w1.alloc (.cells #[] 5)).drew.cell? ⟨g, k * 3 + 1, none⟩ = some (.slice (Ad2 f.nm).1 f.zs.length (Ad2 f.nm).2) := (BA.out.cell (p := ⟨g, k * 3 + 1, none⟩) lg1).trans d2
              go_wp2_with fail
              go_region_held3 (fun w' => w'.cell? ⟨R, 1, none⟩ = some (.slice (some ⟨g, 0, none⟩) n fc) ∧ w'.cell? ⟨g, k * 3 + 2, none⟩ = some (.int .i64 (x : Int))) ((first | exact ⟨c1, d3⟩ | exact q4.out | exact q5.out | exact q6.out _ | go_keep))
                (first | (refine step_app (by rfl) _ _ (by rfl) (n := 0) (by rfl) (by rfl) (base := w1.heap.size) (xs := []) (OwnB.start w1 w1.heap.size (Nat.le_refl _) |>.keep fun _ _ => rfl) (by simp) (by rfl) TL.out.symm (RB.out.below BA.out) (by rw [TL.out]; simp; omega) ?_; intro A5 c5 w5 o5 g5; have B5 : Hid (Below w1.heap.size w1 w5) := Lib.hid (BA.out.trans g5.below); have O5 := Lib.hid o5; have q5 : Hid (w5.cell? ⟨R, 1, none⟩ = some (.slice (some ⟨g, 0, none⟩) n fc) ∧ w5.cell? ⟨g, k * 3 + 2, none⟩ = some (.int .i64 (x : Int))) := Lib.hid ⟨(B5.out.cell (p := ⟨R, 1, none⟩) lR1).trans c1, (B5.out.cell (p := ⟨g, k * 3 + 2, none⟩) lg1).trans d3⟩; have y4 : w5.frozen? ⟨g, k * 3 + 1, none⟩ = false := (by simp only [World.frozen?, B5.out.block g lg1]; exact fz1); have y2 := (B5.out.cell (p := ⟨g, k * 3 + 1, none⟩) lg1).trans d2; have q6 : Hid (∀ v, (w5.setCell ⟨g, k * 3 + 1, none⟩ v).cell? ⟨R, 1, none⟩ = some (.slice (some ⟨g, 0, none⟩) n fc) ∧ (w5.setCell ⟨g, k * 3 + 1, none⟩ v).cell? ⟨g, k * 3 + 2, none⟩ = some (.int .i64 (x : Int))) := Lib.hid (fun v => ⟨(World.cell?_of_block (w := w5) (Below.heap_setCell _ _ _ _ ne)).trans q5.out.1, (far_cell (by omega)).trans q5.out.2⟩); clear o5 g5))
              go_wp2
              all_goals
                obtain ⟨own3, Ad3, r1, r2⟩ := HQ.out.fall HL.out rfl HF.out (by rw [← SU.out, ← ZN.out]; exact hz) HAT.out KV.out HX.out (by rw [← SU.out, ← ZN.out]; exact su1) (BW.out.trans (B5.out.mono (by rw [SZ.out]; exact Nat.le_refl _))) (show OwnB w5 wq.heap.size A5 c5 _ from SZ.out ▸ O5.out)
                have R1 := Lib.hid r1
                have R2 := Lib.hid r2
                clear r1 r2
                go_roundw
                case rel => exact ⟨k + 1, at_ + 1, own3, Ad3, hlt, by go_num, by go_num, R1, R2⟩
                case measure => simp [intOf]; omega
            · 
              go_wp2
              go_region
              rw [show (su : Int) + ((zn : Int) - (su : Int)) = (zn : Int) by omega]
              have HX : Hid (zn = f.sure + min (kv).toNat (f.zs.length - f.sure)) := Lib.hid (by rw [← SU.out, ← ZN.out]; omega)
              have hxl : zn ≤ f.zs.length := by have := ZN.out; omega
              have hxb : zn ≤ 16777216 := by omega
              clear c1 d2 d3 fz2 ROW
              generalize hw1 : (wq.setCell ⟨g, k * 3 + 2, none⟩ (.int .i64 (zn : Int))).drew = w1 at *
              obtain ⟨c1, d2, d3, fz1, ROW, sz1, BW⟩ := HQ.out.next HL.out rfl HF.out hxl hw1.symm
              rw [← HN.out] at c1
              have hsl := slice_to (Ad2 f.nm).1 f.zs.length (Ad2 f.nm).2 zn (Nat.le_trans hxl ROW.out.cap_) .i64
              have TL : Hid ((f.zs.take zn).length = zn) := Lib.hid (by rw [List.length_take]; omega)
              have RB := Lib.hid (ROW.out.bytes.head zn)
              have lg1 : g < w1.heap.size := by rw [sz1]; exact lg
              have lR1 : R < w1.heap.size := by rw [sz1]; exact lR
              have SZ := Lib.hid sz1
              clear sz1
              have BA : Hid (Below w1.heap.size w1 (w1.alloc (.cells #[] 5)).drew) := Lib.hid (((Below.refl _ _).alloc (Nat.le_refl _) (.cells #[] 5)).drew)
              have q4 : Hid ((w1.alloc (.cells #[] 5)).drew.cell? ⟨R, 1, none⟩ = some (.slice (some ⟨g, 0, none⟩) n fc) ∧ (w1.alloc (.cells #[] 5)).drew.cell? ⟨g, k * 3 + 2, none⟩ = some (.int .i64 (zn : Int))) := Lib.hid ⟨(BA.out.cell (p := ⟨R, 1, none⟩) lR1).trans c1, (BA.out.cell (p := ⟨g, k * 3 + 2, none⟩) lg1).trans d3⟩
              have z2 : (w1.alloc (.cells #[] 5)).drew.cell? ⟨g, k * 3 + 1, none⟩ = some (.slice (Ad2 f.nm).1 f.zs.length (Ad2 f.nm).2) := (BA.out.cell (p := ⟨g, k * 3 + 1, none⟩) lg1).trans d2
              go_wp2_with fail
              go_region_held3 (fun w' => w'.cell? ⟨R, 1, none⟩ = some (.slice (some ⟨g, 0, none⟩) n fc) ∧ w'.cell? ⟨g, k * 3 + 2, none⟩ = some (.int .i64 (zn : Int))) ((first | exact ⟨c1, d3⟩ | exact q4.out | exact q5.out | exact q6.out _ | go_keep))
                (first | (refine step_app (by rfl) _ _ (by rfl) (n := 0) (by rfl) (by rfl) (base := w1.heap.size) (xs := []) (OwnB.start w1 w1.heap.size (Nat.le_refl _) |>.keep fun _ _ => rfl) (by simp) (by rfl) TL.out.symm (RB.out.below BA.out) (by rw [TL.out]; simp; omega) ?_; intro A5 c5 w5 o5 g5; have B5 : Hid (Below w1.heap.size w1 w5) := Lib.hid (BA.out.trans g5.below); have O5 := Lib.hid o5; have q5 : Hid (w5.cell? ⟨R, 1, none⟩ = some (.slice (some ⟨g, 0, none⟩) n fc) ∧ w5.cell? ⟨g, k * 3 + 2, none⟩ = some (.int .i64 (zn : Int))) := Lib.hid ⟨(B5.out.cell (p := ⟨R, 1, none⟩) lR1).trans c1, (B5.out.cell (p := ⟨g, k * 3 + 2, none⟩) lg1).trans d3⟩; have y4 : w5.frozen? ⟨g, k * 3 + 1, none⟩ = false := (by simp only [World.frozen?, B5.out.block g lg1]; exact fz1); have y2 := (B5.out.cell (p := ⟨g, k * 3 + 1, none⟩) lg1).trans d2; have q6 : Hid (∀ v, (w5.setCell ⟨g, k * 3 + 1, none⟩ v).cell? ⟨R, 1, none⟩ = some (.slice (some ⟨g, 0, none⟩) n fc) ∧ (w5.setCell ⟨g, k * 3 + 1, none⟩ v).cell? ⟨g, k * 3 + 2, none⟩ = some (.int .i64 (zn : Int))) := Lib.hid (fun v => ⟨(World.cell?_of_block (w := w5) (Below.heap_setCell _ _ _ _ ne)).trans q5.out.1, (far_cell (by omega)).trans q5.out.2⟩); clear o5 g5))
              go_wp2
              all_goals
                obtain ⟨own3, Ad3, r1, r2⟩ := HQ.out.fall HL.out rfl HF.out (by rw [← SU.out, ← ZN.out]; exact hz) HAT.out KV.out HX.out (by rw [← SU.out, ← ZN.out]; exact su1) (BW.out.trans (B5.out.mono (by rw [SZ.out]; exact Nat.le_refl _))) (show OwnB w5 wq.heap.size A5 c5 _ from SZ.out ▸ O5.out)
                have R1 := Lib.hid r1
                have R2 := Lib.hid r2
                clear r1 r2
                go_roundw
                case rel => exact ⟨k + 1, at_ + 1, own3, Ad3, hlt, by go_num, by go_num, R1, R2⟩
                case measure => simp [intOf]; omega
        · have ha' : ¬ (at_ : Int) < (ks.length : Int) := by omega
          have h1 : (0 : Int) < (zn : Int) - (su : Int) := by omega
          have KV : Hid ((0 : Int) = ks.getD at_ 0) := Lib.hid (by rw [List.getD_eq_getElem?_getD, List.getElem?_eq_none (by omega)]; rfl)
          go_wp2
          go_region
          have HX : Hid (su = f.sure + min ((0 : Int)).toNat (f.zs.length - f.sure)) := Lib.hid (by rw [← SU.out, ← ZN.out]; omega)
          have hxl : su ≤ f.zs.length := by have := ZN.out; omega
          have hxb : su ≤ 16777216 := by omega
          clear c1 d2 d3 fz2 ROW
          generalize hw1 : (wq.setCell ⟨g, k * 3 + 2, none⟩ (.int .i64 (su : Int))).drew = w1 at *
          obtain ⟨c1, d2, d3, fz1, ROW, sz1, BW⟩ := HQ.out.next HL.out rfl HF.out hxl hw1.symm
          rw [← HN.out] at c1
          have hsl := slice_to (Ad2 f.nm).1 f.zs.length (Ad2 f.nm).2 su (Nat.le_trans hxl ROW.out.cap_) .i64
          have TL : Hid ((f.zs.take su).length = su) := Lib.hid (by rw [List.length_take]; omega)
          have RB := Lib.hid (ROW.out.bytes.head su)
          have lg1 : g < w1.heap.size := by rw [sz1]; exact lg
          have lR1 : R < w1.heap.size := by rw [sz1]; exact lR
          have SZ := Lib.hid sz1
          clear sz1
          have BA : Hid (Below w1.heap.size w1 (w1.alloc (.cells #[] 5)).drew) := Lib.hid (((Below.refl _ _).alloc (Nat.le_refl _) (.cells #[] 5)).drew)
          have q4 : Hid ((w1.alloc (.cells #[] 5)).drew.cell? ⟨R, 1, none⟩ = some (.slice (some ⟨g, 0, none⟩) n fc) ∧ (w1.alloc (.cells #[] 5)).drew.cell? ⟨g, k * 3 + 2, none⟩ = some (.int .i64 (su : Int))) := Lib.hid ⟨(BA.out.cell (p := ⟨R, 1, none⟩) lR1).trans c1, (BA.out.cell (p := ⟨g, k * 3 + 2, none⟩) lg1).trans d3⟩
          have z2 : (w1.alloc (.cells #[] 5)).drew.cell? ⟨g, k * 3 + 1, none⟩ = some (.slice (Ad2 f.nm).1 f.zs.length (Ad2 f.nm).2) := (BA.out.cell (p := ⟨g, k * 3 + 1, none⟩) lg1).trans d2
          go_wp2_with fail
          go_region_held3 (fun w' => w'.cell? ⟨R, 1, none⟩ = some (.slice (some ⟨g, 0, none⟩) n fc) ∧ w'.cell? ⟨g, k * 3 + 2, none⟩ = some (.int .i64 (su : Int))) ((first | exact ⟨c1, d3⟩ | exact q4.out | exact q5.out | exact q6.out _ | go_keep))
            (first | (refine step_app (by rfl) _ _ (by rfl) (n := 0) (by rfl) (by rfl) (base := w1.heap.size) (xs := []) (OwnB.start w1 w1.heap.size (Nat.le_refl _) |>.keep fun _ _ => rfl) (by simp) (by rfl) TL.out.symm (RB.out.below BA.out) (by rw [TL.out]; simp; omega) ?_; intro A5 c5 w5 o5 g5; have B5 : Hid (Below w1.heap.size w1 w5) := Lib.hid (BA.out.trans g5.below); have O5 := Lib.hid o5; have q5 : Hid (w5.cell? ⟨R, 1, none⟩ = some (.slice (some ⟨g, 0, none⟩) n fc) ∧ w5.cell? ⟨g, k * 3 + 2, none⟩ = some (.int .i64 (su : Int))) := Lib.hid ⟨(B5.out.cell (p := ⟨R, 1, none⟩) lR1).trans c1, (B5.out.cell (p := ⟨g, k * 3 + 2, none⟩) lg1).trans d3⟩; have y4 : w5.frozen? ⟨g, k * 3 + 1, none⟩ = false := (by simp only [World.frozen?, B5.out.block g lg1]; exact fz1); have y2 := (B5.out.cell (p := ⟨g, k * 3 + 1, none⟩) lg1).trans d2; have q6 : Hid (∀ v, (w5.setCell ⟨g, k * 3 + 1, none⟩ v).cell? ⟨R, 1, none⟩ = some (.slice (some ⟨g, 0, none⟩) n fc) ∧ (w5.setCell ⟨g, k * 3 + 1, none⟩ v).cell? ⟨g, k * 3 + 2, none⟩ = some (.int .i64 (su : Int))) := Lib.hid (fun v => ⟨(World.cell?_of_block (w := w5) (Below.heap_setCell _ _ _ _ ne)).trans q5.out.1, (far_cell (by omega)).trans q5.out.2⟩); clear o5 g5))
          go_wp2
          all_goals
            obtain ⟨own3, Ad3, r1, r2⟩ := HQ.out.fall HL.out rfl HF.out (by rw [← SU.out, ← ZN.out]; exact hz) HAT.out KV.out HX.out (by rw [← SU.out, ← ZN.out]; exact su1) (BW.out.trans (B5.out.mono (by rw [SZ.out]; exact Nat.le_refl _))) (show OwnB w5 wq.heap.size A5 c5 _ from SZ.out ▸ O5.out)
            have R1 := Lib.hid r1
            have R2 := Lib.hid r2
            clear r1 r2
            go_roundw
            case rel => exact ⟨k + 1, at_ + 1, own3, Ad3, hlt, by go_num, by go_num, R1, R2⟩
            case measure => simp [intOf]; omega
    · have e : k = n := by omega
      subst e
      have hge : ¬ (k : Int) < (k : Int) := by omega
      have HE : Hid (RCr w wr R own s rf rk fa fc ka kc (crashL s.fs ks) own2 Ad2) := Lib.hid (by
        have := HC.out
        rw [HN.out, crashTo_end] at this; exact this)
      obtain ⟨⟨_, c0, c2, c3, _⟩, _, _, f2, f3, _⟩ := obj5 HE.out.rp.rs.obj
      have c1 : wr.cell? ⟨R, 1, none⟩ = some (.slice fa (crashL s.fs ks).length fc) := c0
      clear c0
      rw [crashL_len, ← HN.out] at c1
      have lR : R < wr.heap.size := HE.out.rp.lt R HE.out.rp.ownT
      clear HC HAT hk0
      go_wp2
      refine bodyPost_end (results_none rfl _ _ _) rfl ?_
      exact ⟨rfl, rcrash_end HR.out HE.out HO.out HRK.out⟩
end Go.Proofs.Ytmahbcpkilegpaa

