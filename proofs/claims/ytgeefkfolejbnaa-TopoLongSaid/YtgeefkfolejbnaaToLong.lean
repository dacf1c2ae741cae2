/-
  The law TopoLong walked.
-/
import Derived.Test.YtgeefkfolejbnaaToAwake
namespace Go.Proofs.Ytgeefkfolejbnaa
open Go.RowKit
theorem To.mx_range1 (f : Nat → Nat) (k : Nat) (v : Int) (hv : v = (To.mx f (List.range k) : Int) - 1) : (To.mx f (List.range (k + 1)) : Int) - 1 = if v < (f k : Int) then (f k : Int) else v := by
  rw [To.mx_range]
  split <;> omega
theorem To.short_len (n : Int) (es : Gr.EI) : (Gr.shortI n es).length ≤ es.length := by
  unfold Gr.shortI
  split
  · exact List.length_filter_le _ _
  · exact Nat.le_refl _
set_option maxRecDepth 100000 in
set_option maxHeartbeats 8000000 in
theorem longl_walk (A : Option Addr) (es : List (Int × Int)) (cap : Nat) (n : Int) (w : World) (hl : es.length ≤ 9223372036854775807) (_hcap : es.length ≤ cap) (h : Edg w w.heap.size A es) :
    Calls Try.prog 7 #[.agg #[.int .i64 n, .slice A es.length cap]] w (BoolG w true) := by
  have AW : Hid (∀ W, Calls Try.prog 8 #[] W (BoolG W true)) := Lib.hid awake_any
  have LE : Hid (∀ W, Below w.heap.size w W → Calls Try.prog 10 #[.agg #[.int .i64 n, .slice A es.length cap]] W (OptG W (To.levelsI n es))) := Lib.hid fun W hW => levels_any n A es cap hl W (h.on hW)
  have LO : Hid (∀ W, Below w.heap.size w W → Calls Try.prog 13 #[.agg #[.int .i64 n, .slice A es.length cap]] W (IntG W (To.longI n es))) := Lib.hid fun W hW => long_any n A es cap hl W (h.on hW)
  have SH : Hid (es.length ≤ 60 → ∀ W, Below w.heap.size w W → Calls Try.prog 26 #[.agg #[.int .i64 n, .slice A es.length cap]] W (GrPost W n (Gr.shortI n es))) := Lib.hid fun h60 W hW => short_any n A es cap (by omega) W (h.on hW)
  obtain ⟨l, hll⟩ : ∃ l, l = es.length := ⟨_, rfl⟩
  have EL := Lib.hid hll
  rw [← hll] at LE LO SH ⊢
  obtain ⟨W1, hW1⟩ : ∃ W1, W1 = w.alloc (.cells #[.int .i64 n, .slice A l cap] 27) := ⟨_, rfl⟩
  have P1 : Hid (W1.heap[w.heap.size]? = some (.cells #[.int .i64 n, .slice A l cap] 27 (0, 0))) := Lib.hid (by rw [hW1]; exact heap_alloc_new ..)
  have B1 : Hid (Below w.heap.size w W1) := Lib.hid (by rw [hW1]; exact (Below.refl _ _).alloc (Nat.le_refl _) _)
  have PX : Hid (∀ W, Below W1.heap.size W1 W → (W.cell? ⟨w.heap.size, 0, none⟩ = some (.int .i64 n) ∧ W.cell? ⟨w.heap.size, 1, none⟩ = some (.slice A l cap)) ∧ Below w.heap.size w W) := Lib.hid fun W hW =>
    ⟨(obG ((hW.block _ (lt_of_block P1.out)).trans P1.out)).1, B1.out.trans (hW.mono B1.out.size)⟩
  clear h hl _hcap hll
  go_enter Try.func7, Try.ntmps7
  go_wp2_with fail
  rw [← hW1]
  clear hW1
  (with_reducible refine (AW.out _).mono ?_); rintro e w2 ⟨rfl, b2⟩
  have D2 := Lib.hid b2.out
  clear b2
  obtain ⟨⟨x0, x1⟩, BB⟩ := PX.out _ D2.out
  have BB := Lib.hid BB
  cases ho : To.okI n es with
  | false =>
    have L1 : Hid (Calls Try.prog 10 #[.agg #[.int .i64 n, .slice A l cap]] w2 (OptN w2)) := Lib.hid ((LE.out _ BB.out).mono fun e w' h => by rw [To.levelsI_no ho] at h; exact h.no)
    clear ho
    go_wp2_with fail
    (with_reducible refine L1.out.mono ?_); rintro e w3 ⟨A3, c3, rfl, b3⟩
    have D3 : Hid (Below W1.heap.size W1 w3) := Lib.hid (D2.out.trans (b3.out.mono D2.out.size))
    clear x0 x1 BB b3
    obtain ⟨⟨x0, x1⟩, BB⟩ := PX.out _ D3.out
    have BB := Lib.hid BB
    by_cases h60 : 60 < l
    · have h60' : (60 : Int) < (l : Int) := by omega
      go_wp2
      go_ret
      exact ⟨rfl, BB⟩
    · have h60' : (l : Int) ≤ 60 := by omega
      clear h60
      go_wp2
      go_ret
      exact ⟨rfl, BB⟩
  | true =>
    obtain ⟨hG, hT⟩ := To.okI_iff.1 ho
    obtain ⟨N, hN⟩ : ∃ N : Nat, n = (N : Int) := ⟨n.toNat, by have := hG.n0; omega⟩
    have hN16 : N ≤ 16 := by have := hG.n16; omega
    subst hN
    have hlow := hG.low
    rw [Int.toNat_natCast] at hlow
    obtain ⟨lv, hlv⟩ : ∃ lv, lv = (List.range N).map (To.lev (Gr.nat es) N) := ⟨_, rfl⟩
    have hll : lv.length = N := by rw [hlv, List.length_map, List.length_range]
    have L1 : Hid (Calls Try.prog 10 #[.agg #[.int .i64 (N : Int), .slice A l cap]] w2 (OptY w2 (Gr.ints lv) N)) := Lib.hid ((LE.out _ BB.out).mono fun e w' h => by rw [To.levelsI_yes ho, Int.toNat_natCast, ← hlv] at h; exact h.yes (by rw [Gr.ints_len, hll]))
    have LV : Hid (∀ k, k < N → (Gr.ints lv).getD k 0 = (To.lev (Gr.nat es) N k : Int) ∧ To.lev (Gr.nat es) N k < N) := Lib.hid fun k hk => ⟨by
      rw [Gr.ints_get, hlv, List.getD_eq_getElem?_getD, List.getElem?_map, List.getElem?_range hk]; rfl, To.lev_lt hlow hT hk⟩
    have LL : Hid ((Gr.ints lv).length = N) := Lib.hid (by rw [Gr.ints_len, hll])
    have LG : Hid (To.longI (N : Int) es = (To.mx (To.lev (Gr.nat es) N) (List.range N) : Nat)) := Lib.hid (by rw [To.longI_yes ho, Int.toNat_natCast])
    have LS := Lib.hid (To.long_shortI ho)
    have NIL : Hid (es.length = 0 → N ≠ 0 → To.mx (To.lev (Gr.nat es) N) (List.range N) = 1) := Lib.hid fun h0 hN0 => by
      have he : es = [] := List.eq_nil_of_length_eq_zero h0
      subst he
      have := To.long_nil (n := (N : Int)) (by rw [Int.toNat_natCast]; exact hN0)
      rwa [Int.toNat_natCast] at this
    have S60 := Lib.hid (To.short_len (N : Int) es)
    clear ho hG hT hlow hlv hll
    generalize To.lev (Gr.nat es) N = f at *
    go_wp2_with fail
    (with_reducible refine L1.out.mono ?_); rintro e w3 ⟨A3, c3, rfl, z3, b3⟩
    have D3 : Hid (Below W1.heap.size W1 w3) := Lib.hid (D2.out.trans (b3.out.mono D2.out.size))
    clear x0 x1 BB b3
    obtain ⟨⟨x0, x1⟩, BB⟩ := PX.out _ D3.out
    have BB := Lib.hid BB
    by_cases h60 : 60 < l
    · have h60' : (60 : Int) < (l : Int) := by omega
      go_wp2
      go_ret
      exact ⟨rfl, BB⟩
    have h60' : (l : Int) ≤ 60 := by omega
    have hl60 : l ≤ 60 := by omega
    have SH1 := Lib.hid (SH.out hl60)
    clear h60 L1 LE SH
    go_wp2_with fail
    generalize decide ((60 : Int) < (l : Int)) = t0
    generalize decide (60 < l) = t1
    go_loopw [5, 6] (fun mv iv wr => ∃ (k : Nat) (v : Int), k ≤ N ∧ iv = .int .i64 k ∧ mv = .int .i64 v ∧ Hid (v = (To.mx f (List.range k) : Int) - 1) ∧ Hid (v ≤ 16) ∧ wr = w3) (fun _ iv _ => N - (intOf iv).toNat)
    case atStart => exact ⟨0, _, Nat.zero_le _, rfl, rfl, Lib.hid rfl, Lib.hid (by decide), rfl⟩
    case round =>
      obtain ⟨k, v, hk, rfl, rfl, HV, HV16, rfl⟩ := hrel
      have hv0 : -1 ≤ v := by have := HV.out; omega
      have hv1 : v ≤ 16 := HV16.out
      by_cases hlt : k < N
      · have hlt' : (k : Int) < (N : Int) := by omega
        obtain ⟨b3, o3, u, rfl, hb3, hc3, hu, hu0, hu1⟩ := z3.out.at_ (k := k) (by rw [LL.out]; exact hlt)
        obtain ⟨h1, h2⟩ := LV.out k hlt
        rw [hu.out] at h1
        have MS := To.mx_range1 f k v HV.out
        rw [← h1] at MS
        have hu3 : u < 16 := by omega
        have hu4 : 0 ≤ u := by omega
        have MSH := Lib.hid MS
        clear hu hu0 hu1 h1 h2 MS HV
        by_cases c3 : v < u
        · have V' : Hid (u = (To.mx f (List.range (k + 1)) : Int) - 1) := Lib.hid (by rw [MSH.out, if_pos c3])
          clear MSH
          go_wp2
          go_roundw
          case rel => exact ⟨k + 1, u, by omega, by go_num, rfl, V', Lib.hid (by omega), trivial⟩
          case measure => simp [intOf]; omega
        · have V' : Hid (v = (To.mx f (List.range (k + 1)) : Int) - 1) := Lib.hid (by rw [MSH.out, if_neg c3])
          clear MSH
          go_wp2
          go_roundw
          case rel => exact ⟨k + 1, v, by omega, by go_num, rfl, V', HV16, trivial⟩
          case measure => simp [intOf]; omega
      · obtain rfl : N = k := by omega
        have HL : Hid (To.longI (N : Int) es = v + 1) := Lib.hid (by rw [LG.out, HV.out]; omega)
        have LO1 : Hid (∀ W, Below w.heap.size w W → Calls Try.prog 13 #[.agg #[.int .i64 (N : Int), .slice A l cap]] W (IntG W (v + 1))) := Lib.hid fun W hW => by have := LO.out W hW; rwa [HL.out] at this
        have NV : Hid (l = 0 → N ≠ 0 → v = 0) := Lib.hid fun h1 h2 => by
          have := NIL.out (by rw [← EL.out]; exact h1) h2
          rw [HV.out, this]; rfl
        have hw : wrap64 (v + 1) = v + 1 := by unfold wrap64; omega
        clear HV LO LG NIL
        go_wp2_with fail
        (with_reducible refine (LO1.out _ BB.out).mono ?_); rintro e w4 ⟨rfl, b4⟩
        have D4 : Hid (Below W1.heap.size W1 w4) := Lib.hid (D3.out.trans (b4.out.mono D3.out.size))
        clear x0 x1 BB b4
        obtain ⟨⟨x0, x1⟩, BB⟩ := PX.out _ D4.out
        have BB := Lib.hid BB
        obtain ⟨sh, hsh⟩ : ∃ sh, sh = Gr.shortI (N : Int) es := ⟨_, rfl⟩
        rw [← hsh] at SH1 LS S60
        clear hsh
        by_cases hl0 : 0 < l
        · have hl0' : (0 : Int) < (l : Int) := by omega
          go_wp2_with fail
          (with_reducible refine (SH1.out _ BB.out).mono ?_); rintro e w5 ⟨A5, c5, rfl, o5, b5⟩
          have D5 : Hid (Below w.heap.size w w5) := Lib.hid (BB.out.trans (b5.out.mono BB.out.size))
          have L5 : Hid (Calls Try.prog 13 #[.agg #[.int .i64 (N : Int), .slice A5 sh.length c5]] w5 (IntG w5 (v + 1))) := Lib.hid (by
            have := long_any (N : Int) A5 sh c5 (by have := S60.out; have := EL.out; omega) w5 o5.out.edg
            rwa [LS.out, HL.out] at this)
          generalize sh.length = ls at *
          clear o5 b5
          go_wp2_with fail
          (with_reducible refine L5.out.mono ?_); rintro e w6 ⟨rfl, b6⟩
          go_wp2
          go_ret
          exact ⟨rfl, Lib.hid (D5.out.trans (b6.out.mono D5.out.size))⟩
        · obtain rfl : l = 0 := by omega
          clear hl0
          by_cases hN0 : N = 0
          · have hd1 : ((N : Int) == 0) = true := by rw [beq_iff_eq]; omega
            have hd2 : (N == 0) = true := by rw [beq_iff_eq]; exact hN0
            clear hN0
            go_wp2_with fail
            (with_reducible refine (SH1.out _ BB.out).mono ?_); rintro e w5 ⟨A5, c5, rfl, o5, b5⟩
            have D5 : Hid (Below w.heap.size w w5) := Lib.hid (BB.out.trans (b5.out.mono BB.out.size))
            have L5 : Hid (Calls Try.prog 13 #[.agg #[.int .i64 (N : Int), .slice A5 sh.length c5]] w5 (IntG w5 (v + 1))) := Lib.hid (by
              have := long_any (N : Int) A5 sh c5 (by have := S60.out; have := EL.out; omega) w5 o5.out.edg
              rwa [LS.out, HL.out] at this)
            generalize sh.length = ls at *
            clear o5 b5
            go_wp2_with fail
            (with_reducible refine L5.out.mono ?_); rintro e w6 ⟨rfl, b6⟩
            go_wp2
            go_ret
            exact ⟨rfl, Lib.hid (D5.out.trans (b6.out.mono D5.out.size))⟩
          · have hv00 : (v == 0) = true := by rw [beq_iff_eq]; exact NV.out rfl hN0
            have hd1 : ((N : Int) == 0) = false := by rw [beq_eq_false_iff_ne]; omega
            have hd2 : (N == 0) = false := by rw [beq_eq_false_iff_ne]; exact hN0
            clear hN0
            go_wp2_with fail
            (with_reducible refine (SH1.out _ BB.out).mono ?_); rintro e w5 ⟨A5, c5, rfl, o5, b5⟩
            have D5 : Hid (Below w.heap.size w w5) := Lib.hid (BB.out.trans (b5.out.mono BB.out.size))
            have L5 : Hid (Calls Try.prog 13 #[.agg #[.int .i64 (N : Int), .slice A5 sh.length c5]] w5 (IntG w5 (v + 1))) := Lib.hid (by
              have := long_any (N : Int) A5 sh c5 (by have := S60.out; have := EL.out; omega) w5 o5.out.edg
              rwa [LS.out, HL.out] at this)
            generalize sh.length = ls at *
            clear o5 b5
            go_wp2_with fail
            (with_reducible refine L5.out.mono ?_); rintro e w6 ⟨rfl, b6⟩
            go_wp2
            go_ret
            exact ⟨rfl, Lib.hid (D5.out.trans (b6.out.mono D5.out.size))⟩
end Go.Proofs.Ytgeefkfolejbnaa
