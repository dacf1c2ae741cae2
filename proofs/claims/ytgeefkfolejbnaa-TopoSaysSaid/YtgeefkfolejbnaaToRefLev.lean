/-
  The reference's Levels.
-/
import Derived.Test.YtgeefkfolejbnaaToRefOrd
import Derived.Test.YtgeefkfolejbnaaZCells
namespace Go.Proofs.Ytgeefkfolejbnaa
open Go.RowKit
/-- An answer, and that there is one. -/
def OptY (w : World) (l : List Int) (n : Nat) (e : Ending) (w' : World) : Prop :=
  ∃ A cap, e = .returned (.tuple #[.slice A n cap, .bool true]) ∧ Hid (Zs w' w'.heap.size A l) ∧ Hid (Below w.heap.size w w')
def OptN (w : World) (e : Ending) (w' : World) : Prop := ∃ A cap, e = .returned (.tuple #[.slice A 0 cap, .bool false]) ∧ Hid (Below w.heap.size w w')
theorem OptG.yes {w w' : World} {l : List Int} {n : Nat} {e : Ending} (hn : n = l.length) (h : OptG w (some l) e w') : OptY w l n e w' := by
  obtain ⟨A, cap, he, _, hz, hb⟩ := h
  exact ⟨A, cap, by rw [he, hn]; rfl, hz, hb⟩
theorem OptG.no {w w' : World} {e : Ending} (h : OptG w none e w') : OptN w e w' := by
  obtain ⟨A, cap, he, _, hz, hb⟩ := h
  exact ⟨A, cap, by rw [he]; rfl, hb⟩
/-- An answer, that there is one, and that it has room. -/
def OptC (w : World) (l : List Int) (n : Nat) (e : Ending) (w' : World) : Prop :=
  ∃ A cap, e = .returned (.tuple #[.slice A n cap, .bool true]) ∧ Hid (n ≤ cap) ∧ Hid (Zs w' w'.heap.size A l) ∧ Hid (Below w.heap.size w w')
theorem OptG.full {w w' : World} {l : List Int} {n : Nat} {e : Ending} (hn : n = l.length) (h : OptG w (some l) e w') : OptC w l n e w' := by
  obtain ⟨A, cap, he, hc, hz, hb⟩ := h
  exact ⟨A, cap, by rw [he, hn]; rfl, Lib.hid (by rw [hn]; exact hc.out), hz, hb⟩
theorem set_get (d : List Int) (i j : Nat) (v : Int) (hi : i < d.length) : (d.set i v).getD j 0 = if j = i then v else d.getD j 0 := by
  rw [List.getD_eq_getElem?_getD, List.getElem?_set]
  by_cases h : i = j
  · subst h; rw [if_pos rfl, if_pos hi, if_pos rfl]; rfl
  · rw [if_neg h, if_neg (Ne.symm h), List.getD_eq_getElem?_getD]
theorem all_get {l : List Int} {f : Nat → Int} {n : Nat} (hl : l.length = n) (h : ∀ x, x < n → l.getD x 0 = f x) : l = (List.range n).map f := by
  apply List.ext_getElem (by simp [hl])
  intro i h1 h2
  have := h i (by omega)
  rw [List.getD_eq_getElem?_getD, List.getElem?_eq_getElem h1] at this
  simp only [Option.getD_some] at this
  rw [this]
  simp
theorem cell_set_block {w : World} {b o b2 o2 n : Nat} {v x : Value} (hne : b2 ≠ b) (h : w.cell? ⟨b2, o2, none⟩ = some x) : ((w.drewN n).setCell ⟨b, o, none⟩ v).cell? ⟨b2, o2, none⟩ = some x := by
  have hk := heap_setCell_other (w.drewN n) ⟨b, o, none⟩ b2 v hne
  rw [← h]
  simp only [World.cell?, hk]
  rfl
/-- The levels of the first i nodes of the order, and what the first k of those that the next one wants tell of it. -/
structure To.Lv (E : Gr.E) (N : Nat) (o : List Nat) (i q : Nat) (v : Nat) (D : List Int) : Prop where
  len : D.length = N
  at_ : ∀ x, x < N → D.getD x 0 = if x = q then (v : Int) else if x ∈ o.take i then (To.lev E N x : Int) else 0
theorem To.Lv.zero (E : Gr.E) (N : Nat) (o : List Nat) (q : Nat) : To.Lv E N o 0 q 0 (List.replicate N 0) :=
  ⟨by simp, fun x hx => by
    rw [List.getD_eq_getElem?_getD, List.getElem?_replicate, if_pos hx, List.take_zero]
    by_cases h : x = q <;> simp [h]⟩
theorem getD_mem {o : List Nat} {i : Nat} (hi : i < o.length) : o.getD i 0 ∈ o := by rw [List.getD_eq_getElem?_getD, List.getElem?_eq_getElem hi]; exact List.getElem_mem hi
theorem take_nat {o : List Nat} {i : Nat} (hi : i < o.length) : o.take (i + 1) = o.take i ++ [o.getD i 0] := by
  rw [List.take_succ_eq_append_getElem hi, List.getD_eq_getElem?_getD, List.getElem?_eq_getElem hi]; rfl
theorem To.Ord.new {E : Gr.E} {N : Nat} {o : List Nat} (h : To.Ord E N o) {i : Nat} (hi : i < o.length) : o.getD i 0 ∉ o.take i := fun hm => by
  obtain ⟨j, hj, e⟩ := List.getElem_of_mem hm
  rw [List.length_take] at hj
  rw [List.getElem_take] at e
  have e2 : o[j] = o[i] := by rw [e, List.getD_eq_getElem?_getD, List.getElem?_eq_getElem hi]; rfl
  have e3 : o.idxOf o[j] = o.idxOf o[i] := by rw [e2]
  rw [h.once.idxOf_getElem, h.once.idxOf_getElem] at e3
  omega
/-- The next node of the order stands at nought. -/
theorem To.Lv.begin {E : Gr.E} {N : Nat} {o : List Nat} (h : To.Ord E N o) {i : Nat} (hi : i < o.length) {D : List Int} (hD : To.Lv E N o i N 0 D) : To.Lv E N o i (o.getD i 0) 0 D :=
  ⟨hD.len, fun x hx => by
    rw [hD.at_ x hx, if_neg (by omega)]
    by_cases hq : x = o.getD i 0
    · subst hq
      rw [if_neg (h.new hi), if_pos rfl]; rfl
    · rw [if_neg hq]⟩
theorem To.Lv.finish {E : Gr.E} {N : Nat} {o : List Nat} {i : Nat} (hi : i < o.length) {D : List Int} (hD : To.Lv E N o i (o.getD i 0) (To.lev E N (o.getD i 0)) D) : To.Lv E N o (i + 1) N 0 D :=
  ⟨hD.len, fun x hx => by
    rw [hD.at_ x hx, if_neg (show ¬ x = N by omega), take_nat hi]
    by_cases hq : x = o.getD i 0
    · rw [if_pos hq, if_pos (by simp [hq]), hq]
    · rw [if_neg hq]
      by_cases hm : x ∈ o.take i
      · rw [if_pos hm, if_pos (by simp [hm])]
      · rw [if_neg hm, if_neg fun hx => (List.mem_append.1 hx).elim hm fun h => hq (by simpa using h)]⟩
theorem To.Lv.put {E : Gr.E} {N : Nat} {o : List Nat} {i q v v' : Nat} {D : List Int} (hD : To.Lv E N o i q v D) (hq : q < N) : To.Lv E N o i q v' (D.set q (v' : Int)) :=
  ⟨by rw [List.length_set, hD.len], fun x hx => by
    rw [set_get _ _ _ _ (by rw [hD.len]; exact hq)]
    by_cases h : x = q
    · rw [if_pos h, if_pos h]
    · rw [if_neg h, hD.at_ x hx, if_neg h, if_neg h]⟩
theorem To.Lv.same {E : Gr.E} {N : Nat} {o : List Nat} {i q v v' : Nat} {D : List Int} (hD : To.Lv E N o i q v D) (h : v = v') : To.Lv E N o i q v' D := h ▸ hD
theorem take_getD {l : List Nat} {k a : Nat} (hk : k < l.length) (ha : l.getD k 0 = a) : l.take (k + 1) = l.take k ++ [a] := by rw [take_nat hk, ha]
set_option maxRecDepth 100000 in
set_option maxHeartbeats 4000000 in
theorem refLevels_any (n : Int) (A : Option Addr) (es : Gr.EI) (cap : Nat) (hl : es.length ≤ 1000000) (w : World) (h : Edg w w.heap.size A es) :
    Calls Try.prog 17 #[.agg #[.int .i64 n, .slice A es.length cap]] w (OptG w (To.levelsI n es)) := by
  have OR : Hid (∀ W, Below w.heap.size w W → Calls Try.prog 16 #[.agg #[.int .i64 n, .slice A es.length cap]] W (OptG W (To.orderI n es))) := Lib.hid fun W hW => refOrder_any n A es cap hl W (h.on hW)
  have AH : Hid (∀ W v, Below w.heap.size w W → Calls Try.prog 33 #[.agg #[.int .i64 n, .slice A es.length cap], .int .i64 v] W (ListG W (Gr.aheadI n es v))) := Lib.hid fun W v hW => refAhead_any n A es cap v hl W (h.on hW)
  generalize es.length = l at *
  clear h hl
  obtain ⟨W1, hW1⟩ : ∃ W1, W1 = w.alloc (.cells #[.int .i64 n, .slice A l cap] 39) := ⟨_, rfl⟩
  have P1 : Hid (W1.heap[w.heap.size]? = some (.cells #[.int .i64 n, .slice A l cap] 39 (0, 0))) := Lib.hid (by rw [hW1]; exact heap_alloc_new ..)
  have B1 : Hid (Below w.heap.size w W1) := Lib.hid (by rw [hW1]; exact (Below.refl _ _).alloc (Nat.le_refl _) _)
  obtain ⟨⟨x0, x1⟩, -⟩ := obG P1.out
  cases hg : To.okI n es with
  | false =>
    have OR1 : Hid (Calls Try.prog 16 #[.agg #[.int .i64 n, .slice A l cap]] W1 (OptN W1)) := Lib.hid ((OR.out _ B1.out).mono fun e w' h => by rw [To.orderI_no hg] at h; exact h.no)
    have E : Hid (To.levelsI n es = none) := Lib.hid (To.levelsI_no hg)
    clear hg
    go_enter Try.func17, Try.ntmps17
    go_wp2_with fail
    rw [← hW1]
    clear hW1
    (with_reducible refine OR1.out.mono ?_); rintro e w2 ⟨A2, c2, rfl, b2⟩
    go_wp2_with fail
    refine bodyPost_ret (v := .tuple #[.slice none 0 0, .bool false]) (by simp [results, Try.results17, go_sem]) rfl ?_
    rw [E.out]
    exact ⟨none, 0, rfl, Lib.hid (Nat.le_refl _), Lib.hid Zs.nil_, Lib.hid (B1.out.trans (b2.out.mono B1.out.size))⟩
  | true =>
    obtain ⟨o, ho, hoI, HO0, hlen⟩ := To.orderI_yes hg
    obtain ⟨hG, hT⟩ := To.okI_iff.1 hg
    obtain ⟨N, hN⟩ : ∃ N : Nat, n = (N : Int) := ⟨n.toNat, by have := hG.n0; omega⟩
    have hN16 : N ≤ 16 := by have := hG.n16; omega
    subst hN
    rw [Int.toNat_natCast] at HO0 hlen
    have E : Hid (To.levelsI (N : Int) es = some ((List.range N).map fun x => (To.lev (Gr.nat es) N x : Int))) := Lib.hid (by
      rw [To.levelsI_yes hg, Int.toNat_natCast]
      unfold Gr.ints
      rw [List.map_map]
      rfl)
    have OR1 : Hid (Calls Try.prog 16 #[.agg #[.int .i64 (N : Int), .slice A l cap]] W1 (OptY W1 (Gr.ints o) N)) := Lib.hid ((OR.out _ B1.out).mono fun e w' h => by rw [hoI] at h; exact h.yes (by rw [Gr.ints_len, hlen]))
    have GH := Lib.hid hG
    have TH := Lib.hid hT
    have OH := Lib.hid HO0
    have LH := Lib.hid hlen
    have MK := fun W => made_Z N (by omega) W
    clear hg ho hoI HO0 hlen hG hT OR
    go_enter Try.func17, Try.ntmps17
    go_wp2_with fail
    rw [← hW1]
    clear hW1
    (with_reducible refine OR1.out.mono ?_); rintro e w2 ⟨A2, c2, rfl, z2, b2⟩
    have P2 : Hid (w2.heap[w.heap.size]? = some (.cells #[.int .i64 (N : Int), .slice A l cap] 39 (0, 0))) := Lib.hid ((b2.out.block _ (lt_of_block P1.out)).trans P1.out)
    have B2 : Hid (Below w.heap.size w w2) := Lib.hid (B1.out.trans (b2.out.mono B1.out.size))
    clear x0 x1
    obtain ⟨⟨x0, x1⟩, -⟩ := obG P2.out
    obtain ⟨W3, hW3⟩ : ∃ W3, W3 = w2.alloc (.cells (madeCells #[.int .i64 0] N) 3) := ⟨_, rfl⟩
    obtain ⟨R, hR⟩ : ∃ R, R = w2.heap.size := ⟨_, rfl⟩
    have C3 : Hid (Below R w2 W3) := Lib.hid (by rw [hW3, hR]; exact (Below.refl _ _).alloc (Nat.le_refl _) _)
    have O3 : Hid (OwnZ W3 R (some ⟨R, 0, none⟩) N (List.replicate N 0)) := Lib.hid (by rw [hW3, hR]; exact OwnZ.made w2 N (by omega))
    have R3 : Hid (R < W3.heap.size) := Lib.hid (by rw [hW3, hR]; simp)
    have XR : Hid (w.heap.size < R) := Lib.hid (by rw [hR]; exact lt_of_block P2.out)
    have ZO : Hid (∀ W, Below R w2 W → Zs W R A2 (Gr.ints o)) := Lib.hid fun W hW => by
      rw [hR] at hW ⊢
      exact z2.out.below hW
    have PX : Hid (∀ W, Below R w2 W → (W.cell? ⟨w.heap.size, 0, none⟩ = some (.int .i64 (N : Int)) ∧ W.cell? ⟨w.heap.size, 1, none⟩ = some (.slice A l cap))) := Lib.hid fun W hW => by
      exact (obG ((hW.block _ XR.out).trans P2.out)).1
    have BX : Hid (∀ W, Below R w2 W → Below w.heap.size w W) := Lib.hid fun W hW => B2.out.trans (hW.mono (Nat.le_of_lt XR.out))
    clear b2 z2 OR1 P1 B1
    go_wp2_with fail
    rw [← hW3, ← hR]
    clear hW3 hR MK x0 x1
    go_loopw [7] (fun iv wr => ∃ (i : Nat) (D : List Int), i ≤ N ∧ iv = .int .i64 i ∧ Hid (To.Lv (Gr.nat es) N o i N 0 D) ∧ Hid (OwnZ wr R (some ⟨R, 0, none⟩) N D) ∧ Hid (Below R w2 wr) ∧ Hid (R < wr.heap.size)) (fun iv _ => N - (intOf iv).toNat)
    case atStart => exact ⟨0, _, Nat.zero_le _, rfl, Lib.hid (To.Lv.zero _ _ _ _), O3, C3, R3⟩
    case round =>
      obtain ⟨i, D, hi, rfl, HD, HO, HB, HR⟩ := hrel
      obtain ⟨wo, hwo⟩ : ∃ wo, wo = wr := ⟨_, rfl⟩
      rw [← hwo] at HO HB HR ⊢
      clear hwo O3 C3 R3
      by_cases hlt : i < N
      · have hlt' : (i : Int) < (N : Int) := by omega
        obtain ⟨x0, x1⟩ := PX.out _ HB.out
        have hio : i < o.length := by rw [LH.out]; exact hlt
        obtain ⟨q, hq⟩ : ∃ q, q = o.getD i 0 := ⟨_, rfl⟩
        obtain ⟨b, off, y, rfl, hb, hc, hy, hy0, hy1⟩ := (ZO.out _ HB.out).at_ (k := i) (by rw [Gr.ints_len]; exact hio)
        obtain rfl : y = (q : Int) := by rw [← hy.out, Gr.ints_get, hq]
        have hqN : q < N := by rw [hq]; exact OH.out.low _ (getD_mem hio)
        have AI : Hid (Calls Try.prog 33 #[.agg #[.int .i64 (N : Int), .slice A l cap], .int .i64 (q : Int)] wo.drew (ListG wo.drew (Gr.aheadI (N : Int) es (q : Int)))) := Lib.hid (AH.out _ _ ((BX.out _ HB.out).drew))
        have HD1 : Hid (To.Lv (Gr.nat es) N o i q 0 D) := Lib.hid (by rw [hq]; exact HD.out.begin OH.out hio)
        have HQ := Lib.hid hq
        clear hy hy0 hy1 HD hq
        have CQ : Hid (∀ W, Below R w2 W → W.cell? ⟨b, off + i, none⟩ = some (.int .i64 (q : Int))) := Lib.hid fun W hW => (hW.cell (p := ⟨b, off + i, none⟩) hb.out).trans ((HB.out.cell (p := ⟨b, off + i, none⟩) hb.out).symm.trans hc)
        have S0 := Lib.hid (And.intro x0 (And.intro x1 hc))
        go_wp2_with fail
        go_region_held3 (fun w' => w'.cell? ⟨w.heap.size, 0, none⟩ = some (.int .i64 (N : Int)) ∧ w'.cell? ⟨w.heap.size, 1, none⟩ = some (.slice A l cap) ∧ w'.cell? ⟨b, off + i, none⟩ = some (.int .i64 (q : Int))) ((first | exact S0.out | exact S5.out | go_keep))
          (first
            | (go_simp; go_at_call 33; (with_reducible refine AI.out.mono ?_); rintro e w5 ⟨A5, c5, rfl, o5, b5⟩; have B5 : Hid (Below R w2 w5) := Lib.hid ((HB.out.drew).trans (b5.out.mono (Nat.le_of_lt HR.out))); have S5 := Lib.hid (And.intro (PX.out _ B5.out).1 (And.intro (PX.out _ B5.out).2 (CQ.out _ B5.out)))))
        have HO5 : Hid (OwnZ w5 R (some ⟨R, 0, none⟩) N D) := Lib.hid ((show OwnZ wo.drew R (some ⟨R, 0, none⟩) N D from HO.out).grew b5.out (Nat.le_refl _))
        have R5 : Hid (R < w5.heap.size) := Lib.hid (Nat.lt_of_lt_of_le HR.out b5.out.size)
        obtain ⟨av, hav⟩ : ∃ av, av = Gr.aheadV (Gr.nat es) N q := ⟨_, rfl⟩
        obtain ⟨lz, hlz⟩ : ∃ lz, lz = av.length := ⟨_, rfl⟩
        have ZE : Hid (Gr.aheadI (N : Int) es (q : Int) = Gr.ints av) := Lib.hid (by rw [Gr.aheadI_eq GH.out, hav])
        have O5 : Hid (OwnZ w5 wo.heap.size A5 c5 (Gr.ints av)) := Lib.hid (by have := o5.out; rwa [ZE.out] at this)
        have AP : Hid (∀ a ∈ av, a < N ∧ a ≠ q ∧ a ∈ o.take i) := Lib.hid fun a ha => by
          rw [hav] at ha
          have he := (Gr.mem_ahead GH.out.low).1 ha
          rw [HQ.out] at he
          have hm := OH.out.behind i hio a he
          exact ⟨OH.out.low _ (List.mem_of_mem_take hm), fun h => (OH.out.new hio) (by rw [← HQ.out, ← h]; exact hm), hm⟩
        have LE : Hid (To.mx (To.lev (Gr.nat es) N) av = To.lev (Gr.nat es) N q) := Lib.hid (by have hl := GH.out.low; rw [Int.toNat_natCast] at hl; rw [hav, ← To.lev_eq hl TH.out q])
        have hlz16 : lz ≤ 16 := by rw [hlz, hav]; exact Nat.le_trans (To.ahead_len _ _ _) hN16
        have LZ := Lib.hid hlz
        rw [ZE.out, Gr.ints_len, ← hlz]
        clear hav hlz o5 b5 AI S0 S5 x0 x1 hc HO ZE
        go_wp2_with fail
        go_loopw [9] (fun iv wr => ∃ (k : Nat) (D' : List Int), k ≤ lz ∧ iv = .int .i64 k ∧ Hid (To.Lv (Gr.nat es) N o i q (To.mx (To.lev (Gr.nat es) N) (av.take k)) D') ∧ Hid (OwnZ wr R (some ⟨R, 0, none⟩) N D') ∧ Hid (But w5.heap.size R w5 wr)) (fun iv _ => lz - (intOf iv).toNat)
        case atStart => exact ⟨0, D, Nat.zero_le _, rfl, HD1, HO5, Lib.hid (But.refl _ _ _)⟩
        case round =>
          obtain ⟨k, D', hk, rfl, HD', HO', HB'⟩ := hrel
          have BR : Hid (Below R w2 wr) := Lib.hid (B5.out.trans (HB'.out.below (Nat.le_of_lt R5.out) (Nat.le_refl _)))
          by_cases hlk : k < lz
          · have hlk' : (k : Int) < (lz : Int) := by omega
            have hka : k < av.length := by rw [← LZ.out]; exact hlk
            obtain ⟨g5, rfl, hg5, hg6⟩ := O5.out.shape (by rw [Gr.ints_len]; omega)
            have hva := (O5.out.keep (w' := wr) fun a ha => by
              injection ha with ha
              subst ha
              exact HB'.out.block g5 hg6 (by have := HR.out; omega)).val (i := k) (by rw [Gr.ints_len]; exact hka)
            obtain ⟨a, ha⟩ : ∃ a, a = av.getD k 0 := ⟨_, rfl⟩
            rw [Gr.ints_get, ← ha] at hva
            obtain ⟨haN, haq, hao⟩ := AP.out a (by rw [ha]; exact getD_mem hka)
            have haN' : (a : Int) < (N : Int) := by omega
            have hqN' : (q : Int) < (N : Int) := by omega
            have hcq := CQ.out _ BR.out
            have hda := HO'.out.val (i := a) (by rw [HD'.out.len]; exact haN)
            have hdq := HO'.out.val (i := q) (by rw [HD'.out.len]; exact hqN)
            have hDa : D'.getD a 0 = (To.lev (Gr.nat es) N a : Int) := by rw [HD'.out.at_ a haN, if_neg haq, if_pos hao]
            rw [hDa] at hda
            rw [HD'.out.at_ q hqN, if_pos rfl] at hdq
            have hf := HO'.out.thaw q
            have MS : Hid (To.mx (To.lev (Gr.nat es) N) (av.take (k + 1)) = max (To.mx (To.lev (Gr.nat es) N) (av.take k)) (To.lev (Gr.nat es) N a + 1)) := Lib.hid (by rw [take_getD hka ha.symm, To.mx_snoc])
            have hl := GH.out.low
            rw [Int.toNat_natCast] at hl
            have hla := To.lev_lt hl TH.out haN
            obtain ⟨la, hla'⟩ : ∃ la, la = To.lev (Gr.nat es) N a := ⟨_, rfl⟩
            obtain ⟨mv, hmv⟩ : ∃ mv, mv = To.mx (To.lev (Gr.nat es) N) (av.take k) := ⟨_, rfl⟩
            rw [← hla'] at hda hla MS hDa
            rw [← hmv] at hdq MS HD'
            obtain ⟨u, hu⟩ : ∃ u : Int, u = (la : Int) := ⟨_, rfl⟩
            obtain ⟨v, hv⟩ : ∃ v : Int, v = (mv : Int) := ⟨_, rfl⟩
            rw [← hu] at hda hDa
            have DA := Lib.hid hDa
            rw [← hv] at hdq
            have hu0 : 0 ≤ u := by omega
            have hu1 : u < 16 := by omega
            have hw : IntKind.i64.wrap (u + 1) = u + 1 := IntWalk.i64_in _ (by omega)
            have HU := Lib.hid hu
            have HV := Lib.hid hv
            clear hl hla hla' hmv hu hv ha HB BR hDa
            by_cases c3 : v < u + 1
            · have hd3 : decide (v < u + 1) = true := decide_eq_true c3
              have D2 : Hid (To.Lv (Gr.nat es) N o i q (To.mx (To.lev (Gr.nat es) N) (av.take (k + 1))) (D'.set q (u + 1))) := Lib.hid (by
                have h1 := (HD'.out.put (v' := la + 1) hqN).same (v' := To.mx (To.lev (Gr.nat es) N) (av.take (k + 1))) (by rw [MS.out]; have := HU.out; have := HV.out; omega)
                have e : ((la + 1 : Nat) : Int) = u + 1 := by have := HU.out; omega
                rwa [e] at h1)
              clear HU HV MS
              go_wp2_with fail
              go_quiet (fail)
              go_wp2_with fail
              have S0 := Lib.hid (And.intro hcq (And.intro hva hda))
              have S6 : Hid (∀ n, ((wr.drewN n).setCell ⟨R, q, none⟩ (.int .i64 (u + 1))).cell? ⟨b, off + i, none⟩ = some (.int .i64 (q : Int)) ∧ ((wr.drewN n).setCell ⟨R, q, none⟩ (.int .i64 (u + 1))).cell? ⟨g5, k, none⟩ = some (.int .i64 (a : Int)) ∧ ((wr.drewN n).setCell ⟨R, q, none⟩ (.int .i64 (u + 1))).cell? ⟨R, a, none⟩ = some (.int .i64 u)) := Lib.hid fun n =>
                ⟨cell_set_block (Nat.ne_of_lt hb.out) hcq, cell_set_block (by have := HR.out; omega) hva, by
                  have h1 := (OwnZ.stored (w := wr.drewN n) HO'.out q (u + 1) ⟨by omega, by omega⟩).val (i := a) (by rw [List.length_set, HD'.out.len]; exact haN)
                  rwa [set_get _ _ _ _ (by rw [HD'.out.len]; exact hqN), if_neg haq, DA.out] at h1⟩
              go_region_held3 (fun w' => w'.cell? ⟨b, off + i, none⟩ = some (.int .i64 (q : Int)) ∧ w'.cell? ⟨g5, k, none⟩ = some (.int .i64 (a : Int)) ∧ w'.cell? ⟨R, a, none⟩ = some (.int .i64 u)) ((first | exact S0.out | exact S6.out _ | go_keep)) (first | fail)
              clear S0 S6
              go_wp2
              go_roundw
              case rel => exact ⟨k + 1, _, by omega, by go_num, D2, Lib.hid (OwnZ.stored (w := wr.drewN _) HO'.out q (u + 1) ⟨by omega, by omega⟩), Lib.hid ((HB'.out.drewN _).trans (But.set _ _ _ _ _))⟩
              case measure => simp [intOf]; omega
            · have hd3 : decide (v < u + 1) = false := decide_eq_false c3
              have D2 : Hid (To.Lv (Gr.nat es) N o i q (To.mx (To.lev (Gr.nat es) N) (av.take (k + 1))) D') := Lib.hid (HD'.out.same (by rw [MS.out]; have := HU.out; have := HV.out; omega))
              clear HU HV MS
              go_wp2_with fail
              go_quiet (fail)
              go_wp2
              go_roundw
              case rel => exact ⟨k + 1, D', by omega, by go_num, D2, HO', Lib.hid (HB'.out.drewN _)⟩
              case measure => simp [intOf]; omega
          · obtain rfl : lz = k := by omega
            have D2 : Hid (To.Lv (Gr.nat es) N o (i + 1) N 0 D') := Lib.hid (To.Lv.finish hio (by
              have h := HD'.out
              rw [LZ.out, List.take_length, LE.out] at h
              rw [← HQ.out]; exact h))
            go_wp2
            go_roundw
            case rel => exact ⟨i + 1, D', by omega, by go_num, D2, HO', BR, Lib.hid (Nat.lt_of_lt_of_le R5.out HB'.out.size)⟩
            case measure => simp [intOf]; omega
      · obtain rfl : N = i := by omega
        have ED : Hid (D = (List.range N).map fun x => (To.lev (Gr.nat es) N x : Int)) := Lib.hid (all_get HD.out.len fun x hx => by
          rw [HD.out.at_ x hx, if_neg (by omega), if_pos]
          rw [← LH.out, List.take_length]
          exact To.nodup_full OH.out.once OH.out.low LH.out x hx)
        go_wp2_with fail
        refine bodyPost_ret (v := .tuple #[.slice (some ⟨R, 0, none⟩) N N, .bool true]) (by simp [results, Try.results17, go_sem]) rfl ?_
        rw [E.out, ← ED.out]
        exact ⟨some ⟨R, 0, none⟩, N, by rw [show ((some D).getD []).length = N from HD.out.len]; rfl, Lib.hid (show ((some D).getD []).length ≤ N by rw [show ((some D).getD []).length = N from HD.out.len]; exact Nat.le_refl _), Lib.hid HO.out.zs, Lib.hid (BX.out _ HB.out)⟩
end Go.Proofs.Ytgeefkfolejbnaa
