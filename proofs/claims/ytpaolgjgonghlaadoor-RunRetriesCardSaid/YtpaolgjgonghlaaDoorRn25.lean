/-
  Part 25 of the texts behind the law: RnKnown, RnInK, RnInE, RnInR.
-/
import Derived.Test.YtpaolgjgonghlaaDoorRn24
import Derived.Deep.Cut
import Derived.Test.YtpaolgjgonghlaaDoorRn7
import Derived.Test.YtpaolgjgonghlaaDoorRn1
/-
  The law RunKnown, walked: the examples of chapter 16. (Written by wip/genrnknown.py.)
-/
namespace Go.Proofs.YtpaolgjgonghlaaDoor
open Go.RowKit
set_option maxRecDepth 40000
/-- The run r stands in the box X. -/
structure Bxd (w : World) (X : Nat) (p : At3) (r : Rn.R) (n : Nat) (st : Int) (m k : Nat) : Prop where
  box : w.heap[X]? = some (.cells #[.slice p.A n p.ca, .int .i64 st, .slice p.T m p.ct, .slice p.S k p.cs] 29 (0, 0))
  run : RunO w (fun _ => True) p r
theorem Bxd.on {w w' : World} {X : Nat} {p : At3} {r : Rn.R} {n : Nat} {st : Int} {m k : Nat} (h : Bxd w X p r n st m k) (hb : Below w.heap.size w w') : Bxd w' X p r n st m k :=
  ⟨(hb.block _ (lt_of_block h.box)).trans h.box, h.run.on hb⟩
set_option maxHeartbeats 32000000 in
theorem known_walk (w : World) (hF : FactsD w) : Calls Tryd.prog 3 #[] w fun e w' => e = .returned (.bool true) ∧ Hid (Below w.heap.size w w') := by
  have AW := Lib.hid (awake_any w hF)
  have HF := Lib.hid hF
  clear hF
  go_enter Tryd.func3, Tryd.ntmps3
  go_wp2_with fail
  (with_reducible refine AW.out.mono ?_); rintro e w2 ⟨rfl, BW⟩
  clear AW
  have C : Hid (Calls Tryd.prog 8 #[.agg #[.slice none 0 0]] w2 (RunY w2 Rn.r0 0 0 0 0 1)) := Lib.hid ((new_p none 0 [] ⟨by decide, fun t h => by simp at h⟩ w2 (HF.out.on BW.out) DefIn.nil_).mono fun e w' h => h.of Rn.kNo rfl rfl rfl rfl)
  go_wp2_with fail
  (with_reducible refine C.out.mono ?_); rintro e w3 ⟨q3, rfl, hr, hb⟩
  obtain ⟨r5, x5, b5, -⟩ := box_ok hr.out 0 0 0 0
  replace BW := Lib.hid (BW.out.trans ((hb.out.trans (b5.mono hb.out.size)).mono BW.out.size))
  clear C hb hr r5 x5 b5
  go_upto_region 4 with (fail)
  generalize w3.alloc (.cells #[.slice q3.A 0 q3.ca, .int .i64 0, .slice q3.T 0 q3.ct, .slice q3.S 0 q3.cs] 29) = w4 at *
  generalize hXq : w3.heap.size = XQ at *
  clear hXq
  have C : Hid (Calls Tryd.prog 9 #[.string { data := #[97, 32, 114, 101, 116, 114, 121, 61, 49, 32, 119, 97, 105, 116, 61, 53, 32, 98, 97, 115, 101, 61, 51, 59, 98, 32, 97, 102, 116, 101, 114, 61, 97, 32, 111, 110, 61, 103, 111] }] w4 (RunY w4 Rn.rK 2 0 2 0 0)) := Lib.hid ((begun_any { data := #[97, 32, 114, 101, 116, 114, 121, 61, 49, 32, 119, 97, 105, 116, 61, 53, 32, 98, 97, 115, 101, 61, 51, 59, 98, 32, 97, 102, 116, 101, 114, 61, 97, 32, 111, 110, 61, 103, 111] } (by decide) w4 (HF.out.on BW.out)).mono fun e w' h => h.of (Rn.begun_of Rn.pK Rn.kK) rfl rfl rfl rfl)
  go_wp2_with fail
  (with_reducible refine C.out.mono ?_); rintro e w5 ⟨pr, rfl, hr, hb⟩
  obtain ⟨r5, x5, b5, -⟩ := box_ok hr.out 2 0 2 0
  have Hr := Lib.hid (show Bxd _ _ pr Rn.rK 2 0 2 0 from ⟨x5, r5.imp fun _ _ _ => trivial⟩)
  replace BW := Lib.hid (BW.out.trans ((hb.out.trans (b5.mono hb.out.size)).mono BW.out.size))
  clear C hb hr r5 x5 b5
  go_upto_region 5 with (fail)
  generalize w5.alloc (.cells #[.slice pr.A 2 pr.ca, .int .i64 0, .slice pr.T 2 pr.ct, .slice pr.S 0 pr.cs] 29) = w6 at *
  generalize hXr : w5.heap.size = Xr at *
  clear hXr
  obtain ⟨⟨c0, c1, c2, c3⟩, -⟩ := obj4 Hr.out.box
  have C : Hid (Calls Tryd.prog 10 #[.agg #[.slice pr.A 2 pr.ca, .int .i64 0, .slice pr.T 2 pr.ct, .slice pr.S 0 pr.cs], .int .i64 2, .int .i64 1, .int .i64 0] w6 (RunY w6 Rn.r0 0 0 0 0 1)) := Lib.hid ((lease_p pr Rn.rK Rn.iK w6 _ Hr.out.run 2 1 0 (by unfold inI; decide) (by unfold inI; decide) (by decide) (by decide)).mono fun e w' h => h.of Rn.kb rfl rfl rfl rfl)
  go_wp2_with fail
  (with_reducible refine C.out.mono ?_); rintro e w7 ⟨q5, rfl, hr, hb⟩
  obtain ⟨r5, x5, b5, -⟩ := box_ok hr.out 0 0 0 0
  replace Hr := Lib.hid (Hr.out.on (hb.out.trans (b5.mono hb.out.size)))
  replace BW := Lib.hid (BW.out.trans ((hb.out.trans (b5.mono hb.out.size)).mono BW.out.size))
  clear C c0 c1 c2 c3 hb hr r5 x5 b5
  go_upto_region 6 with (fail)
  generalize w7.alloc (.cells #[.slice q5.A 0 q5.ca, .int .i64 0, .slice q5.T 0 q5.ct, .slice q5.S 0 q5.cs] 29) = w8 at *
  generalize hXq : w7.heap.size = XQ at *
  clear hXq
  obtain ⟨⟨c0, c1, c2, c3⟩, -⟩ := obj4 Hr.out.box
  have C : Hid (Calls Tryd.prog 10 #[.agg #[.slice pr.A 2 pr.ca, .int .i64 0, .slice pr.T 2 pr.ct, .slice pr.S 0 pr.cs], .int .i64 1, .int .i64 1, .int .i64 0] w8 (RunY w8 Rn.r0 0 0 0 0 4)) := Lib.hid ((lease_p pr Rn.rK Rn.iK w8 _ Hr.out.run 1 1 0 (by unfold inI; decide) (by unfold inI; decide) (by decide) (by decide)).mono fun e w' h => h.of Rn.kc rfl rfl rfl rfl)
  go_wp2_with fail
  (with_reducible refine C.out.mono ?_); rintro e w9 ⟨q6, rfl, hr, hb⟩
  obtain ⟨r5, x5, b5, -⟩ := box_ok hr.out 0 0 0 0
  replace Hr := Lib.hid (Hr.out.on (hb.out.trans (b5.mono hb.out.size)))
  replace BW := Lib.hid (BW.out.trans ((hb.out.trans (b5.mono hb.out.size)).mono BW.out.size))
  clear C c0 c1 c2 c3 hb hr r5 x5 b5
  go_upto_region 7 with (fail)
  generalize w9.alloc (.cells #[.slice q6.A 0 q6.ca, .int .i64 0, .slice q6.T 0 q6.ct, .slice q6.S 0 q6.cs] 29) = w10 at *
  generalize hXq : w9.heap.size = XQ at *
  clear hXq
  obtain ⟨⟨c0, c1, c2, c3⟩, -⟩ := obj4 Hr.out.box
  have C : Hid (Calls Tryd.prog 10 #[.agg #[.slice pr.A 2 pr.ca, .int .i64 0, .slice pr.T 2 pr.ct, .slice pr.S 0 pr.cs], .int .i64 0, .int .i64 2, .int .i64 0] w10 (RunY w10 Rn.r0 0 0 0 0 8)) := Lib.hid ((lease_p pr Rn.rK Rn.iK w10 _ Hr.out.run 0 2 0 (by unfold inI; decide) (by unfold inI; decide) (by decide) (by decide)).mono fun e w' h => h.of Rn.kd rfl rfl rfl rfl)
  go_wp2_with fail
  (with_reducible refine C.out.mono ?_); rintro e w11 ⟨q7, rfl, hr, hb⟩
  obtain ⟨r5, x5, b5, -⟩ := box_ok hr.out 0 0 0 0
  replace Hr := Lib.hid (Hr.out.on (hb.out.trans (b5.mono hb.out.size)))
  replace BW := Lib.hid (BW.out.trans ((hb.out.trans (b5.mono hb.out.size)).mono BW.out.size))
  clear C c0 c1 c2 c3 hb hr r5 x5 b5
  go_upto_region 8 with (fail)
  generalize w11.alloc (.cells #[.slice q7.A 0 q7.ca, .int .i64 0, .slice q7.T 0 q7.ct, .slice q7.S 0 q7.cs] 29) = w12 at *
  generalize hXq : w11.heap.size = XQ at *
  clear hXq
  obtain ⟨⟨c0, c1, c2, c3⟩, -⟩ := obj4 Hr.out.box
  have C : Hid (Calls Tryd.prog 10 #[.agg #[.slice pr.A 2 pr.ca, .int .i64 0, .slice pr.T 2 pr.ct, .slice pr.S 0 pr.cs], .int .i64 0, .int .i64 1, .int .i64 100] w12 (RunY w12 Rn.xK 2 0 2 0 0)) := Lib.hid ((lease_p pr Rn.rK Rn.iK w12 _ Hr.out.run 0 1 100 (by unfold inI; decide) (by unfold inI; decide) (by decide) (by decide)).mono fun e w' h => h.of Rn.kx rfl rfl rfl rfl)
  go_wp2_with fail
  (with_reducible refine C.out.mono ?_); rintro e w13 ⟨px, rfl, hr, hb⟩
  obtain ⟨r5, x5, b5, -⟩ := box_ok hr.out 2 0 2 0
  have Hx := Lib.hid (show Bxd _ _ px Rn.xK 2 0 2 0 from ⟨x5, r5.imp fun _ _ _ => trivial⟩)
  replace Hr := Lib.hid (Hr.out.on (hb.out.trans (b5.mono hb.out.size)))
  replace BW := Lib.hid (BW.out.trans ((hb.out.trans (b5.mono hb.out.size)).mono BW.out.size))
  clear C c0 c1 c2 c3 hb hr r5 x5 b5
  go_upto_region 9 with (fail)
  generalize w13.alloc (.cells #[.slice px.A 2 px.ca, .int .i64 0, .slice px.T 2 px.ct, .slice px.S 0 px.cs] 29) = w14 at *
  generalize hXx : w13.heap.size = Xx at *
  clear hXx
  obtain ⟨⟨c0, c1, c2, c3⟩, -⟩ := obj4 Hx.out.box
  have C : Hid (Calls Tryd.prog 11 #[.agg #[.slice px.A 2 px.ca, .int .i64 0, .slice px.T 2 px.ct, .slice px.S 0 px.cs]] w14 fun e w' => e = .returned (.tuple #[.int .i64 105, .bool true]) ∧ Hid (Below w14.heap.size w14 w')) := Lib.hid (next_p px Rn.xK Rn.ix w14 _ Hx.out.run)
  go_wp2_with fail
  (with_reducible refine C.out.mono ?_); rintro e w15 ⟨rfl, hb⟩
  replace BW := Lib.hid (BW.out.trans (hb.out.mono BW.out.size))
  replace Hr := Lib.hid (Hr.out.on hb.out)
  replace Hx := Lib.hid (Hx.out.on hb.out)
  clear C c0 c1 c2 c3 hb
  obtain ⟨⟨c0, c1, c2, c3⟩, -⟩ := obj4 Hx.out.box
  have C : Hid (Calls Tryd.prog 12 #[.agg #[.slice px.A 2 px.ca, .int .i64 0, .slice px.T 2 px.ct, .slice px.S 0 px.cs], .int .i64 0, .int .i64 2, .string { data := #[] }] w15 (RunY w15 Rn.r0 0 0 0 0 8)) := Lib.hid ((done_p px Rn.xK Rn.ix w15 _ Hx.out.run 0 2 { data := #[] } (by unfold inI; decide) (by unfold inI; decide) (by decide)).mono fun e w' h => h.of Rn.kg rfl rfl rfl rfl)
  go_wp2_with fail
  (with_reducible refine C.out.mono ?_); rintro e w16 ⟨q10, rfl, hr, hb⟩
  obtain ⟨r5, x5, b5, -⟩ := box_ok hr.out 0 0 0 0
  replace Hr := Lib.hid (Hr.out.on (hb.out.trans (b5.mono hb.out.size)))
  replace Hx := Lib.hid (Hx.out.on (hb.out.trans (b5.mono hb.out.size)))
  replace BW := Lib.hid (BW.out.trans ((hb.out.trans (b5.mono hb.out.size)).mono BW.out.size))
  clear C c0 c1 c2 c3 hb hr r5 x5 b5
  go_upto_region 11 with (fail)
  generalize w16.alloc (.cells #[.slice q10.A 0 q10.ca, .int .i64 0, .slice q10.T 0 q10.ct, .slice q10.S 0 q10.cs] 29) = w17 at *
  generalize hXq : w16.heap.size = XQ at *
  clear hXq
  obtain ⟨⟨c0, c1, c2, c3⟩, -⟩ := obj4 Hx.out.box
  have C : Hid (Calls Tryd.prog 13 #[.agg #[.slice px.A 2 px.ca, .int .i64 0, .slice px.T 2 px.ct, .slice px.S 0 px.cs], .int .i64 0, .int .i64 1, .int .i64 101] w17 (RunY w17 Rn.yK 2 0 2 0 0)) := Lib.hid ((fail_p px Rn.xK Rn.ix w17 _ Hx.out.run 0 1 101 (by unfold inI; decide) (by unfold inI; decide) (by decide) (by decide)).mono fun e w' h => h.of Rn.ky rfl rfl rfl rfl)
  go_wp2_with fail
  (with_reducible refine C.out.mono ?_); rintro e w18 ⟨py, rfl, hr, hb⟩
  obtain ⟨r5, x5, b5, -⟩ := box_ok hr.out 2 0 2 0
  have Hy := Lib.hid (show Bxd _ _ py Rn.yK 2 0 2 0 from ⟨x5, r5.imp fun _ _ _ => trivial⟩)
  replace Hr := Lib.hid (Hr.out.on (hb.out.trans (b5.mono hb.out.size)))
  replace Hx := Lib.hid (Hx.out.on (hb.out.trans (b5.mono hb.out.size)))
  replace BW := Lib.hid (BW.out.trans ((hb.out.trans (b5.mono hb.out.size)).mono BW.out.size))
  clear C c0 c1 c2 c3 hb hr r5 x5 b5
  go_upto_region 12 with (fail)
  generalize w18.alloc (.cells #[.slice py.A 2 py.ca, .int .i64 0, .slice py.T 2 py.ct, .slice py.S 0 py.cs] 29) = w19 at *
  generalize hXy : w18.heap.size = Xy at *
  clear hXy
  obtain ⟨⟨c0, c1, c2, c3⟩, -⟩ := obj4 Hy.out.box
  have C : Hid (Calls Tryd.prog 11 #[.agg #[.slice py.A 2 py.ca, .int .i64 0, .slice py.T 2 py.ct, .slice py.S 0 py.cs]] w19 fun e w' => e = .returned (.tuple #[.int .i64 104, .bool true]) ∧ Hid (Below w19.heap.size w19 w')) := Lib.hid (next_p py Rn.yK Rn.iy w19 _ Hy.out.run)
  go_wp2_with fail
  (with_reducible refine C.out.mono ?_); rintro e w20 ⟨rfl, hb⟩
  replace BW := Lib.hid (BW.out.trans (hb.out.mono BW.out.size))
  replace Hr := Lib.hid (Hr.out.on hb.out)
  replace Hx := Lib.hid (Hx.out.on hb.out)
  replace Hy := Lib.hid (Hy.out.on hb.out)
  clear C c0 c1 c2 c3 hb
  obtain ⟨⟨c0, c1, c2, c3⟩, -⟩ := obj4 Hy.out.box
  have C : Hid (Calls Tryd.prog 14 #[.agg #[.slice py.A 2 py.ca, .int .i64 0, .slice py.T 2 py.ct, .slice py.S 0 py.cs], .int .i64 103] w20 (RunY1 w20 Rn.yK 2 0 2 0)) := Lib.hid ((tick_p py Rn.yK Rn.iy w20 _ Hy.out.run 103 (by decide) (by decide)).mono fun e w' h => h.of Rn.kz rfl rfl rfl rfl)
  go_wp2_with fail
  (with_reducible refine C.out.mono ?_); rintro e w21 ⟨pz, rfl, hr, hb⟩
  obtain ⟨r5, x5, b5, -⟩ := box_ok hr.out 2 0 2 0
  have Hz := Lib.hid (show Bxd _ _ pz Rn.yK 2 0 2 0 from ⟨x5, r5.imp fun _ _ _ => trivial⟩)
  replace Hr := Lib.hid (Hr.out.on (hb.out.trans (b5.mono hb.out.size)))
  replace Hx := Lib.hid (Hx.out.on (hb.out.trans (b5.mono hb.out.size)))
  replace Hy := Lib.hid (Hy.out.on (hb.out.trans (b5.mono hb.out.size)))
  replace BW := Lib.hid (BW.out.trans ((hb.out.trans (b5.mono hb.out.size)).mono BW.out.size))
  clear C c0 c1 c2 c3 hb hr r5 x5 b5
  go_upto_region 14 with (fail)
  generalize w21.alloc (.cells #[.slice pz.A 2 pz.ca, .int .i64 0, .slice pz.T 2 pz.ct, .slice pz.S 0 pz.cs] 29) = w22 at *
  generalize hXz : w21.heap.size = Xz at *
  clear hXz
  obtain ⟨⟨c0, c1, c2, c3⟩, -⟩ := obj4 Hy.out.box
  have C : Hid (Calls Tryd.prog 14 #[.agg #[.slice py.A 2 py.ca, .int .i64 0, .slice py.T 2 py.ct, .slice py.S 0 py.cs], .int .i64 104] w22 (RunY1 w22 Rn.wK 2 0 2 0)) := Lib.hid ((tick_p py Rn.yK Rn.iy w22 _ Hy.out.run 104 (by decide) (by decide)).mono fun e w' h => h.of Rn.kw rfl rfl rfl rfl)
  go_wp2_with fail
  (with_reducible refine C.out.mono ?_); rintro e w23 ⟨pw, rfl, hr, hb⟩
  obtain ⟨r5, x5, b5, -⟩ := box_ok hr.out 2 0 2 0
  have Hw := Lib.hid (show Bxd _ _ pw Rn.wK 2 0 2 0 from ⟨x5, r5.imp fun _ _ _ => trivial⟩)
  replace Hr := Lib.hid (Hr.out.on (hb.out.trans (b5.mono hb.out.size)))
  replace Hx := Lib.hid (Hx.out.on (hb.out.trans (b5.mono hb.out.size)))
  replace Hy := Lib.hid (Hy.out.on (hb.out.trans (b5.mono hb.out.size)))
  replace Hz := Lib.hid (Hz.out.on (hb.out.trans (b5.mono hb.out.size)))
  replace BW := Lib.hid (BW.out.trans ((hb.out.trans (b5.mono hb.out.size)).mono BW.out.size))
  clear C c0 c1 c2 c3 hb hr r5 x5 b5
  go_upto_region 15 with (fail)
  generalize w23.alloc (.cells #[.slice pw.A 2 pw.ca, .int .i64 0, .slice pw.T 2 pw.ct, .slice pw.S 0 pw.cs] 29) = w24 at *
  generalize hXw : w23.heap.size = Xw at *
  clear hXw
  obtain ⟨⟨c0, c1, c2, c3⟩, -⟩ := obj4 Hw.out.box
  have C : Hid (Calls Tryd.prog 10 #[.agg #[.slice pw.A 2 pw.ca, .int .i64 0, .slice pw.T 2 pw.ct, .slice pw.S 0 pw.cs], .int .i64 0, .int .i64 2, .int .i64 104] w24 (RunY w24 Rn.pKr 2 0 2 0 0)) := Lib.hid ((lease_p pw Rn.wK Rn.iw w24 _ Hw.out.run 0 2 104 (by unfold inI; decide) (by unfold inI; decide) (by decide) (by decide)).mono fun e w' h => h.of Rn.kp rfl rfl rfl rfl)
  go_wp2_with fail
  (with_reducible refine C.out.mono ?_); rintro e w25 ⟨pp, rfl, hr, hb⟩
  obtain ⟨r5, x5, b5, -⟩ := box_ok hr.out 2 0 2 0
  have Hp := Lib.hid (show Bxd _ _ pp Rn.pKr 2 0 2 0 from ⟨x5, r5.imp fun _ _ _ => trivial⟩)
  replace Hr := Lib.hid (Hr.out.on (hb.out.trans (b5.mono hb.out.size)))
  replace Hx := Lib.hid (Hx.out.on (hb.out.trans (b5.mono hb.out.size)))
  replace Hy := Lib.hid (Hy.out.on (hb.out.trans (b5.mono hb.out.size)))
  replace Hz := Lib.hid (Hz.out.on (hb.out.trans (b5.mono hb.out.size)))
  replace Hw := Lib.hid (Hw.out.on (hb.out.trans (b5.mono hb.out.size)))
  replace BW := Lib.hid (BW.out.trans ((hb.out.trans (b5.mono hb.out.size)).mono BW.out.size))
  clear C c0 c1 c2 c3 hb hr r5 x5 b5
  go_upto_region 16 with (fail)
  generalize w25.alloc (.cells #[.slice pp.A 2 pp.ca, .int .i64 0, .slice pp.T 2 pp.ct, .slice pp.S 0 pp.cs] 29) = w26 at *
  generalize hXp : w25.heap.size = Xp at *
  clear hXp
  obtain ⟨⟨c0, c1, c2, c3⟩, -⟩ := obj4 Hp.out.box
  have C : Hid (Calls Tryd.prog 14 #[.agg #[.slice pp.A 2 pp.ca, .int .i64 0, .slice pp.T 2 pp.ct, .slice pp.S 0 pp.cs], .int .i64 109] w26 (RunY1 w26 Rn.qK 2 2 2 0)) := Lib.hid ((tick_p pp Rn.pKr Rn.ip w26 _ Hp.out.run 109 (by decide) (by decide)).mono fun e w' h => h.of Rn.kq rfl rfl rfl rfl)
  go_wp2_with fail
  (with_reducible refine C.out.mono ?_); rintro e w27 ⟨pq, rfl, hr, hb⟩
  obtain ⟨r5, x5, b5, -⟩ := box_ok hr.out 2 2 2 0
  have Hq := Lib.hid (show Bxd _ _ pq Rn.qK 2 2 2 0 from ⟨x5, r5.imp fun _ _ _ => trivial⟩)
  replace Hr := Lib.hid (Hr.out.on (hb.out.trans (b5.mono hb.out.size)))
  replace Hx := Lib.hid (Hx.out.on (hb.out.trans (b5.mono hb.out.size)))
  replace Hy := Lib.hid (Hy.out.on (hb.out.trans (b5.mono hb.out.size)))
  replace Hz := Lib.hid (Hz.out.on (hb.out.trans (b5.mono hb.out.size)))
  replace Hw := Lib.hid (Hw.out.on (hb.out.trans (b5.mono hb.out.size)))
  replace Hp := Lib.hid (Hp.out.on (hb.out.trans (b5.mono hb.out.size)))
  replace BW := Lib.hid (BW.out.trans ((hb.out.trans (b5.mono hb.out.size)).mono BW.out.size))
  clear C c0 c1 c2 c3 hb hr r5 x5 b5
  go_upto_region 17 with (fail)
  generalize w27.alloc (.cells #[.slice pq.A 2 pq.ca, .int .i64 2, .slice pq.T 2 pq.ct, .slice pq.S 0 pq.cs] 29) = w28 at *
  generalize hXq : w27.heap.size = Xq at *
  clear hXq
  obtain ⟨⟨c0, c1, c2, c3⟩, -⟩ := obj4 Hq.out.box
  have C : Hid (Calls Tryd.prog 15 #[.agg #[.slice pq.A 2 pq.ca, .int .i64 2, .slice pq.T 2 pq.ct, .slice pq.S 0 pq.cs]] w28 (RunY w28 Rn.r0 0 0 0 0 9)) := Lib.hid ((cancel_p pq Rn.qK Rn.iq w28 _ Hq.out.run ).mono fun e w' h => h.of Rn.kj rfl rfl rfl rfl)
  go_wp2_with fail
  (with_reducible refine C.out.mono ?_); rintro e w29 ⟨q17, rfl, hr, hb⟩
  obtain ⟨r5, x5, b5, -⟩ := box_ok hr.out 0 0 0 0
  replace Hr := Lib.hid (Hr.out.on (hb.out.trans (b5.mono hb.out.size)))
  replace Hx := Lib.hid (Hx.out.on (hb.out.trans (b5.mono hb.out.size)))
  replace Hy := Lib.hid (Hy.out.on (hb.out.trans (b5.mono hb.out.size)))
  replace Hz := Lib.hid (Hz.out.on (hb.out.trans (b5.mono hb.out.size)))
  replace Hw := Lib.hid (Hw.out.on (hb.out.trans (b5.mono hb.out.size)))
  replace Hp := Lib.hid (Hp.out.on (hb.out.trans (b5.mono hb.out.size)))
  replace Hq := Lib.hid (Hq.out.on (hb.out.trans (b5.mono hb.out.size)))
  replace BW := Lib.hid (BW.out.trans ((hb.out.trans (b5.mono hb.out.size)).mono BW.out.size))
  clear C c0 c1 c2 c3 hb hr r5 x5 b5
  go_upto_region 18 with (fail)
  generalize w29.alloc (.cells #[.slice q17.A 0 q17.ca, .int .i64 0, .slice q17.T 0 q17.ct, .slice q17.S 0 q17.cs] 29) = w30 at *
  generalize hXq : w29.heap.size = XQ at *
  clear hXq
  obtain ⟨⟨c0, c1, c2, c3⟩, -⟩ := obj4 Hp.out.box
  have C : Hid (Calls Tryd.prog 12 #[.agg #[.slice pp.A 2 pp.ca, .int .i64 0, .slice pp.T 2 pp.ct, .slice pp.S 0 pp.cs], .int .i64 0, .int .i64 2, .string { data := #[111, 107] }] w30 (RunY w30 Rn.sK 2 0 2 0 0)) := Lib.hid ((done_p pp Rn.pKr Rn.ip w30 _ Hp.out.run 0 2 { data := #[111, 107] } (by unfold inI; decide) (by unfold inI; decide) (by decide)).mono fun e w' h => h.of Rn.ks rfl rfl rfl rfl)
  go_wp2_with fail
  (with_reducible refine C.out.mono ?_); rintro e w31 ⟨ps, rfl, hr, hb⟩
  obtain ⟨r5, x5, b5, -⟩ := box_ok hr.out 2 0 2 0
  have Hs := Lib.hid (show Bxd _ _ ps Rn.sK 2 0 2 0 from ⟨x5, r5.imp fun _ _ _ => trivial⟩)
  replace Hr := Lib.hid (Hr.out.on (hb.out.trans (b5.mono hb.out.size)))
  replace Hx := Lib.hid (Hx.out.on (hb.out.trans (b5.mono hb.out.size)))
  replace Hy := Lib.hid (Hy.out.on (hb.out.trans (b5.mono hb.out.size)))
  replace Hz := Lib.hid (Hz.out.on (hb.out.trans (b5.mono hb.out.size)))
  replace Hw := Lib.hid (Hw.out.on (hb.out.trans (b5.mono hb.out.size)))
  replace Hp := Lib.hid (Hp.out.on (hb.out.trans (b5.mono hb.out.size)))
  replace Hq := Lib.hid (Hq.out.on (hb.out.trans (b5.mono hb.out.size)))
  replace BW := Lib.hid (BW.out.trans ((hb.out.trans (b5.mono hb.out.size)).mono BW.out.size))
  clear C c0 c1 c2 c3 hb hr r5 x5 b5
  go_upto_region 19 with (fail)
  generalize w31.alloc (.cells #[.slice ps.A 2 ps.ca, .int .i64 0, .slice ps.T 2 ps.ct, .slice ps.S 0 ps.cs] 29) = w32 at *
  generalize hXs : w31.heap.size = Xs at *
  clear hXs
  obtain ⟨⟨c0, c1, c2, c3⟩, -⟩ := obj4 Hs.out.box
  have C : Hid (Calls Tryd.prog 16 #[.agg #[.slice ps.A 2 ps.ca, .int .i64 0, .slice ps.T 2 ps.ct, .slice ps.S 0 ps.cs], .string { data := #[120] }] w32 (RunY w32 Rn.r0 0 0 0 0 1)) := Lib.hid ((sig_p ps Rn.sK Rn.is_ w32 _ Hs.out.run { data := #[120] } (by decide)).mono fun e w' h => h.of Rn.kl rfl rfl rfl rfl)
  go_wp2_with fail
  (with_reducible refine C.out.mono ?_); rintro e w33 ⟨q19, rfl, hr, hb⟩
  obtain ⟨r5, x5, b5, -⟩ := box_ok hr.out 0 0 0 0
  replace Hr := Lib.hid (Hr.out.on (hb.out.trans (b5.mono hb.out.size)))
  replace Hx := Lib.hid (Hx.out.on (hb.out.trans (b5.mono hb.out.size)))
  replace Hy := Lib.hid (Hy.out.on (hb.out.trans (b5.mono hb.out.size)))
  replace Hz := Lib.hid (Hz.out.on (hb.out.trans (b5.mono hb.out.size)))
  replace Hw := Lib.hid (Hw.out.on (hb.out.trans (b5.mono hb.out.size)))
  replace Hp := Lib.hid (Hp.out.on (hb.out.trans (b5.mono hb.out.size)))
  replace Hq := Lib.hid (Hq.out.on (hb.out.trans (b5.mono hb.out.size)))
  replace Hs := Lib.hid (Hs.out.on (hb.out.trans (b5.mono hb.out.size)))
  replace BW := Lib.hid (BW.out.trans ((hb.out.trans (b5.mono hb.out.size)).mono BW.out.size))
  clear C c0 c1 c2 c3 hb hr r5 x5 b5
  go_upto_region 20 with (fail)
  generalize w33.alloc (.cells #[.slice q19.A 0 q19.ca, .int .i64 0, .slice q19.T 0 q19.ct, .slice q19.S 0 q19.cs] 29) = w34 at *
  generalize hXq : w33.heap.size = XQ at *
  clear hXq
  obtain ⟨⟨c0, c1, c2, c3⟩, -⟩ := obj4 Hs.out.box
  have C : Hid (Calls Tryd.prog 16 #[.agg #[.slice ps.A 2 ps.ca, .int .i64 0, .slice ps.T 2 ps.ct, .slice ps.S 0 ps.cs], .string { data := #[103, 111] }] w34 (RunY w34 Rn.tK 2 0 2 1 0)) := Lib.hid ((sig_p ps Rn.sK Rn.is_ w34 _ Hs.out.run { data := #[103, 111] } (by decide)).mono fun e w' h => h.of Rn.kt rfl rfl rfl rfl)
  go_wp2_with fail
  (with_reducible refine C.out.mono ?_); rintro e w35 ⟨pt, rfl, hr, hb⟩
  obtain ⟨r5, x5, b5, -⟩ := box_ok hr.out 2 0 2 1
  have Ht := Lib.hid (show Bxd _ _ pt Rn.tK 2 0 2 1 from ⟨x5, r5.imp fun _ _ _ => trivial⟩)
  replace Hr := Lib.hid (Hr.out.on (hb.out.trans (b5.mono hb.out.size)))
  replace Hx := Lib.hid (Hx.out.on (hb.out.trans (b5.mono hb.out.size)))
  replace Hy := Lib.hid (Hy.out.on (hb.out.trans (b5.mono hb.out.size)))
  replace Hz := Lib.hid (Hz.out.on (hb.out.trans (b5.mono hb.out.size)))
  replace Hw := Lib.hid (Hw.out.on (hb.out.trans (b5.mono hb.out.size)))
  replace Hp := Lib.hid (Hp.out.on (hb.out.trans (b5.mono hb.out.size)))
  replace Hq := Lib.hid (Hq.out.on (hb.out.trans (b5.mono hb.out.size)))
  replace Hs := Lib.hid (Hs.out.on (hb.out.trans (b5.mono hb.out.size)))
  replace BW := Lib.hid (BW.out.trans ((hb.out.trans (b5.mono hb.out.size)).mono BW.out.size))
  clear C c0 c1 c2 c3 hb hr r5 x5 b5
  go_upto_region 21 with (fail)
  generalize w35.alloc (.cells #[.slice pt.A 2 pt.ca, .int .i64 0, .slice pt.T 2 pt.ct, .slice pt.S 1 pt.cs] 29) = w36 at *
  generalize hXt : w35.heap.size = Xt at *
  clear hXt
  obtain ⟨⟨c0, c1, c2, c3⟩, -⟩ := obj4 Ht.out.box
  have C : Hid (Calls Tryd.prog 16 #[.agg #[.slice pt.A 2 pt.ca, .int .i64 0, .slice pt.T 2 pt.ct, .slice pt.S 1 pt.cs], .string { data := #[103, 111] }] w36 (RunY w36 Rn.r0 0 0 0 0 5)) := Lib.hid ((sig_p pt Rn.tK Rn.it w36 _ Ht.out.run { data := #[103, 111] } (by decide)).mono fun e w' h => h.of Rn.kn rfl rfl rfl rfl)
  go_wp2_with fail
  (with_reducible refine C.out.mono ?_); rintro e w37 ⟨q21, rfl, hr, hb⟩
  obtain ⟨r5, x5, b5, -⟩ := box_ok hr.out 0 0 0 0
  replace Hr := Lib.hid (Hr.out.on (hb.out.trans (b5.mono hb.out.size)))
  replace Hx := Lib.hid (Hx.out.on (hb.out.trans (b5.mono hb.out.size)))
  replace Hy := Lib.hid (Hy.out.on (hb.out.trans (b5.mono hb.out.size)))
  replace Hz := Lib.hid (Hz.out.on (hb.out.trans (b5.mono hb.out.size)))
  replace Hw := Lib.hid (Hw.out.on (hb.out.trans (b5.mono hb.out.size)))
  replace Hp := Lib.hid (Hp.out.on (hb.out.trans (b5.mono hb.out.size)))
  replace Hq := Lib.hid (Hq.out.on (hb.out.trans (b5.mono hb.out.size)))
  replace Hs := Lib.hid (Hs.out.on (hb.out.trans (b5.mono hb.out.size)))
  replace Ht := Lib.hid (Ht.out.on (hb.out.trans (b5.mono hb.out.size)))
  replace BW := Lib.hid (BW.out.trans ((hb.out.trans (b5.mono hb.out.size)).mono BW.out.size))
  clear C c0 c1 c2 c3 hb hr r5 x5 b5
  go_upto_region 22 with (fail)
  generalize w37.alloc (.cells #[.slice q21.A 0 q21.ca, .int .i64 0, .slice q21.T 0 q21.ct, .slice q21.S 0 q21.cs] 29) = w38 at *
  generalize hXq : w37.heap.size = XQ at *
  clear hXq
  obtain ⟨⟨c0, c1, c2, c3⟩, -⟩ := obj4 Ht.out.box
  have C : Hid (Calls Tryd.prog 10 #[.agg #[.slice pt.A 2 pt.ca, .int .i64 0, .slice pt.T 2 pt.ct, .slice pt.S 1 pt.cs], .int .i64 1, .int .i64 1, .int .i64 200] w38 (RunY w38 Rn.oK 2 0 2 1 0)) := Lib.hid ((lease_p pt Rn.tK Rn.it w38 _ Ht.out.run 1 1 200 (by unfold inI; decide) (by unfold inI; decide) (by decide) (by decide)).mono fun e w' h => h.of Rn.ko rfl rfl rfl rfl)
  go_wp2_with fail
  (with_reducible refine C.out.mono ?_); rintro e w39 ⟨po, rfl, hr, hb⟩
  obtain ⟨r5, x5, b5, -⟩ := box_ok hr.out 2 0 2 1
  have Ho := Lib.hid (show Bxd _ _ po Rn.oK 2 0 2 1 from ⟨x5, r5.imp fun _ _ _ => trivial⟩)
  replace Hr := Lib.hid (Hr.out.on (hb.out.trans (b5.mono hb.out.size)))
  replace Hx := Lib.hid (Hx.out.on (hb.out.trans (b5.mono hb.out.size)))
  replace Hy := Lib.hid (Hy.out.on (hb.out.trans (b5.mono hb.out.size)))
  replace Hz := Lib.hid (Hz.out.on (hb.out.trans (b5.mono hb.out.size)))
  replace Hw := Lib.hid (Hw.out.on (hb.out.trans (b5.mono hb.out.size)))
  replace Hp := Lib.hid (Hp.out.on (hb.out.trans (b5.mono hb.out.size)))
  replace Hq := Lib.hid (Hq.out.on (hb.out.trans (b5.mono hb.out.size)))
  replace Hs := Lib.hid (Hs.out.on (hb.out.trans (b5.mono hb.out.size)))
  replace Ht := Lib.hid (Ht.out.on (hb.out.trans (b5.mono hb.out.size)))
  replace BW := Lib.hid (BW.out.trans ((hb.out.trans (b5.mono hb.out.size)).mono BW.out.size))
  clear C c0 c1 c2 c3 hb hr r5 x5 b5
  go_upto_region 23 with (fail)
  generalize w39.alloc (.cells #[.slice po.A 2 po.ca, .int .i64 0, .slice po.T 2 po.ct, .slice po.S 1 po.cs] 29) = w40 at *
  generalize hXo : w39.heap.size = Xo at *
  clear hXo
  obtain ⟨⟨c0, c1, c2, c3⟩, -⟩ := obj4 Ho.out.box
  have C : Hid (Calls Tryd.prog 12 #[.agg #[.slice po.A 2 po.ca, .int .i64 0, .slice po.T 2 po.ct, .slice po.S 1 po.cs], .int .i64 1, .int .i64 1, .string { data := #[] }] w40 (RunY w40 Rn.finK 2 1 2 1 0)) := Lib.hid ((done_p po Rn.oK Rn.io w40 _ Ho.out.run 1 1 { data := #[] } (by unfold inI; decide) (by unfold inI; decide) (by decide)).mono fun e w' h => h.of Rn.kfin rfl rfl rfl rfl)
  go_wp2_with fail
  (with_reducible refine C.out.mono ?_); rintro e w41 ⟨pf, rfl, hr, hb⟩
  obtain ⟨r5, x5, b5, -⟩ := box_ok hr.out 2 1 2 1
  have Hf := Lib.hid (show Bxd _ _ pf Rn.finK 2 1 2 1 from ⟨x5, r5.imp fun _ _ _ => trivial⟩)
  replace Hr := Lib.hid (Hr.out.on (hb.out.trans (b5.mono hb.out.size)))
  replace Hx := Lib.hid (Hx.out.on (hb.out.trans (b5.mono hb.out.size)))
  replace Hy := Lib.hid (Hy.out.on (hb.out.trans (b5.mono hb.out.size)))
  replace Hz := Lib.hid (Hz.out.on (hb.out.trans (b5.mono hb.out.size)))
  replace Hw := Lib.hid (Hw.out.on (hb.out.trans (b5.mono hb.out.size)))
  replace Hp := Lib.hid (Hp.out.on (hb.out.trans (b5.mono hb.out.size)))
  replace Hq := Lib.hid (Hq.out.on (hb.out.trans (b5.mono hb.out.size)))
  replace Hs := Lib.hid (Hs.out.on (hb.out.trans (b5.mono hb.out.size)))
  replace Ht := Lib.hid (Ht.out.on (hb.out.trans (b5.mono hb.out.size)))
  replace Ho := Lib.hid (Ho.out.on (hb.out.trans (b5.mono hb.out.size)))
  replace BW := Lib.hid (BW.out.trans ((hb.out.trans (b5.mono hb.out.size)).mono BW.out.size))
  clear C c0 c1 c2 c3 hb hr r5 x5 b5
  go_upto_region 24 with (fail)
  generalize w41.alloc (.cells #[.slice pf.A 2 pf.ca, .int .i64 1, .slice pf.T 2 pf.ct, .slice pf.S 1 pf.cs] 29) = w42 at *
  generalize hXf : w41.heap.size = Xf at *
  clear hXf
  obtain ⟨⟨c0, c1, c2, c3⟩, -⟩ := obj4 Hr.out.box
  have C : Hid (Calls Tryd.prog 15 #[.agg #[.slice pr.A 2 pr.ca, .int .i64 0, .slice pr.T 2 pr.ct, .slice pr.S 0 pr.cs]] w42 (RunY w42 Rn.canK 2 3 2 0 0)) := Lib.hid ((cancel_p pr Rn.rK Rn.iK w42 _ Hr.out.run ).mono fun e w' h => h.of Rn.kcan rfl rfl rfl rfl)
  go_wp2_with fail
  (with_reducible refine C.out.mono ?_); rintro e w43 ⟨pc, rfl, hr, hb⟩
  obtain ⟨r5, x5, b5, -⟩ := box_ok hr.out 2 3 2 0
  have Hc := Lib.hid (show Bxd _ _ pc Rn.canK 2 3 2 0 from ⟨x5, r5.imp fun _ _ _ => trivial⟩)
  replace Hr := Lib.hid (Hr.out.on (hb.out.trans (b5.mono hb.out.size)))
  replace Hx := Lib.hid (Hx.out.on (hb.out.trans (b5.mono hb.out.size)))
  replace Hy := Lib.hid (Hy.out.on (hb.out.trans (b5.mono hb.out.size)))
  replace Hz := Lib.hid (Hz.out.on (hb.out.trans (b5.mono hb.out.size)))
  replace Hw := Lib.hid (Hw.out.on (hb.out.trans (b5.mono hb.out.size)))
  replace Hp := Lib.hid (Hp.out.on (hb.out.trans (b5.mono hb.out.size)))
  replace Hq := Lib.hid (Hq.out.on (hb.out.trans (b5.mono hb.out.size)))
  replace Hs := Lib.hid (Hs.out.on (hb.out.trans (b5.mono hb.out.size)))
  replace Ht := Lib.hid (Ht.out.on (hb.out.trans (b5.mono hb.out.size)))
  replace Ho := Lib.hid (Ho.out.on (hb.out.trans (b5.mono hb.out.size)))
  replace Hf := Lib.hid (Hf.out.on (hb.out.trans (b5.mono hb.out.size)))
  replace BW := Lib.hid (BW.out.trans ((hb.out.trans (b5.mono hb.out.size)).mono BW.out.size))
  clear C c0 c1 c2 c3 hb hr r5 x5 b5
  go_upto_region 25 with (fail)
  generalize w43.alloc (.cells #[.slice pc.A 2 pc.ca, .int .i64 3, .slice pc.T 2 pc.ct, .slice pc.S 0 pc.cs] 29) = w44 at *
  generalize hXc : w43.heap.size = Xc at *
  clear hXc
  obtain ⟨⟨c0, c1, c2, c3⟩, -⟩ := obj4 Hf.out.box
  have C : Hid (Calls Tryd.prog 11 #[.agg #[.slice pf.A 2 pf.ca, .int .i64 1, .slice pf.T 2 pf.ct, .slice pf.S 1 pf.cs]] w44 fun e w' => e = .returned (.tuple #[.int .i64 0, .bool false]) ∧ Hid (Below w44.heap.size w44 w')) := Lib.hid (next_p pf Rn.finK Rn.ifin w44 _ Hf.out.run)
  go_wp2_with fail
  (with_reducible refine C.out.mono ?_); rintro e w45 ⟨rfl, hb⟩
  replace BW := Lib.hid (BW.out.trans (hb.out.mono BW.out.size))
  replace Hr := Lib.hid (Hr.out.on hb.out)
  replace Hx := Lib.hid (Hx.out.on hb.out)
  replace Hy := Lib.hid (Hy.out.on hb.out)
  replace Hz := Lib.hid (Hz.out.on hb.out)
  replace Hw := Lib.hid (Hw.out.on hb.out)
  replace Hp := Lib.hid (Hp.out.on hb.out)
  replace Hq := Lib.hid (Hq.out.on hb.out)
  replace Hs := Lib.hid (Hs.out.on hb.out)
  replace Ht := Lib.hid (Ht.out.on hb.out)
  replace Ho := Lib.hid (Ho.out.on hb.out)
  replace Hf := Lib.hid (Hf.out.on hb.out)
  replace Hc := Lib.hid (Hc.out.on hb.out)
  clear C c0 c1 c2 c3 hb
  obtain ⟨⟨c0, c1, c2, c3⟩, -⟩ := obj4 Hc.out.box
  have C : Hid (Calls Tryd.prog 10 #[.agg #[.slice pc.A 2 pc.ca, .int .i64 3, .slice pc.T 2 pc.ct, .slice pc.S 0 pc.cs], .int .i64 0, .int .i64 1, .int .i64 0] w45 (RunY w45 Rn.r0 0 0 0 0 9)) := Lib.hid ((lease_p pc Rn.canK Rn.ican w45 _ Hc.out.run 0 1 0 (by unfold inI; decide) (by unfold inI; decide) (by decide) (by decide)).mono fun e w' h => h.of Rn.kover rfl rfl rfl rfl)
  go_wp2_with fail
  (with_reducible refine C.out.mono ?_); rintro e w46 ⟨q26, rfl, hr, hb⟩
  obtain ⟨r5, x5, b5, -⟩ := box_ok hr.out 0 0 0 0
  replace Hr := Lib.hid (Hr.out.on (hb.out.trans (b5.mono hb.out.size)))
  replace Hx := Lib.hid (Hx.out.on (hb.out.trans (b5.mono hb.out.size)))
  replace Hy := Lib.hid (Hy.out.on (hb.out.trans (b5.mono hb.out.size)))
  replace Hz := Lib.hid (Hz.out.on (hb.out.trans (b5.mono hb.out.size)))
  replace Hw := Lib.hid (Hw.out.on (hb.out.trans (b5.mono hb.out.size)))
  replace Hp := Lib.hid (Hp.out.on (hb.out.trans (b5.mono hb.out.size)))
  replace Hq := Lib.hid (Hq.out.on (hb.out.trans (b5.mono hb.out.size)))
  replace Hs := Lib.hid (Hs.out.on (hb.out.trans (b5.mono hb.out.size)))
  replace Ht := Lib.hid (Ht.out.on (hb.out.trans (b5.mono hb.out.size)))
  replace Ho := Lib.hid (Ho.out.on (hb.out.trans (b5.mono hb.out.size)))
  replace Hf := Lib.hid (Hf.out.on (hb.out.trans (b5.mono hb.out.size)))
  replace Hc := Lib.hid (Hc.out.on (hb.out.trans (b5.mono hb.out.size)))
  replace BW := Lib.hid (BW.out.trans ((hb.out.trans (b5.mono hb.out.size)).mono BW.out.size))
  clear C c0 c1 c2 c3 hb hr r5 x5 b5
  go_upto_region 27 with (fail)
  generalize w46.alloc (.cells #[.slice q26.A 0 q26.ca, .int .i64 0, .slice q26.T 0 q26.ct, .slice q26.S 0 q26.cs] 29) = w47 at *
  generalize hXq : w46.heap.size = XQ at *
  clear hXq
  clear HF
  have C : Hid (Calls Tryd.prog 17 #[.agg #[.slice px.A 2 px.ca, .int .i64 0, .slice px.T 2 px.ct, .slice px.S 0 px.cs]] w47 (StrG w47 { data := #[50, 48] })) := Lib.hid (phases_any px Rn.xK w47 _ Hx.out.run (Rn.Inv.ph Rn.ix) (by decide))
  obtain ⟨⟨c00, c01, c02, c03⟩, -⟩ := obj4 Hx.out.box
  go_wp2_with fail
  (with_reducible refine C.out.mono ?_); rintro e w48 ⟨rfl, hb⟩
  replace BW := Lib.hid (BW.out.trans (hb.out.mono BW.out.size))
  replace Hr := Lib.hid (Hr.out.on hb.out)
  replace Hx := Lib.hid (Hx.out.on hb.out)
  replace Hy := Lib.hid (Hy.out.on hb.out)
  replace Hz := Lib.hid (Hz.out.on hb.out)
  replace Hw := Lib.hid (Hw.out.on hb.out)
  replace Hp := Lib.hid (Hp.out.on hb.out)
  replace Hq := Lib.hid (Hq.out.on hb.out)
  replace Hs := Lib.hid (Hs.out.on hb.out)
  replace Ht := Lib.hid (Ht.out.on hb.out)
  replace Ho := Lib.hid (Ho.out.on hb.out)
  replace Hf := Lib.hid (Hf.out.on hb.out)
  replace Hc := Lib.hid (Hc.out.on hb.out)
  clear C hb c00 c01 c02 c03
  clear Hx
  have C : Hid (Calls Tryd.prog 17 #[.agg #[.slice pr.A 2 pr.ca, .int .i64 0, .slice pr.T 2 pr.ct, .slice pr.S 0 pr.cs]] w48 (StrG w48 { data := #[49, 48] })) := Lib.hid (phases_any pr Rn.rK w48 _ Hr.out.run (Rn.Inv.ph Rn.iK) (by decide))
  obtain ⟨⟨c00, c01, c02, c03⟩, -⟩ := obj4 Hr.out.box
  go_wp2_with fail
  (with_reducible refine C.out.mono ?_); rintro e w49 ⟨rfl, hb⟩
  replace BW := Lib.hid (BW.out.trans (hb.out.mono BW.out.size))
  replace Hr := Lib.hid (Hr.out.on hb.out)
  replace Hy := Lib.hid (Hy.out.on hb.out)
  replace Hz := Lib.hid (Hz.out.on hb.out)
  replace Hw := Lib.hid (Hw.out.on hb.out)
  replace Hp := Lib.hid (Hp.out.on hb.out)
  replace Hq := Lib.hid (Hq.out.on hb.out)
  replace Hs := Lib.hid (Hs.out.on hb.out)
  replace Ht := Lib.hid (Ht.out.on hb.out)
  replace Ho := Lib.hid (Ho.out.on hb.out)
  replace Hf := Lib.hid (Hf.out.on hb.out)
  replace Hc := Lib.hid (Hc.out.on hb.out)
  clear C hb c00 c01 c02 c03
  clear Hr
  have C : Hid (Calls Tryd.prog 17 #[.agg #[.slice py.A 2 py.ca, .int .i64 0, .slice py.T 2 py.ct, .slice py.S 0 py.cs]] w49 (StrG w49 { data := #[53, 48] })) := Lib.hid (phases_any py Rn.yK w49 _ Hy.out.run (Rn.Inv.ph Rn.iy) (by decide))
  obtain ⟨⟨c00, c01, c02, c03⟩, -⟩ := obj4 Hy.out.box
  go_wp2_with fail
  (with_reducible refine C.out.mono ?_); rintro e w50 ⟨rfl, hb⟩
  replace BW := Lib.hid (BW.out.trans (hb.out.mono BW.out.size))
  replace Hy := Lib.hid (Hy.out.on hb.out)
  replace Hz := Lib.hid (Hz.out.on hb.out)
  replace Hw := Lib.hid (Hw.out.on hb.out)
  replace Hp := Lib.hid (Hp.out.on hb.out)
  replace Hq := Lib.hid (Hq.out.on hb.out)
  replace Hs := Lib.hid (Hs.out.on hb.out)
  replace Ht := Lib.hid (Ht.out.on hb.out)
  replace Ho := Lib.hid (Ho.out.on hb.out)
  replace Hf := Lib.hid (Hf.out.on hb.out)
  replace Hc := Lib.hid (Hc.out.on hb.out)
  clear C hb c00 c01 c02 c03
  clear Hy
  have C : Hid (Calls Tryd.prog 17 #[.agg #[.slice pz.A 2 pz.ca, .int .i64 0, .slice pz.T 2 pz.ct, .slice pz.S 0 pz.cs]] w50 (StrG w50 { data := #[53, 48] })) := Lib.hid (phases_any pz Rn.yK w50 _ Hz.out.run (Rn.Inv.ph Rn.iy) (by decide))
  obtain ⟨⟨c00, c01, c02, c03⟩, -⟩ := obj4 Hz.out.box
  go_wp2_with fail
  (with_reducible refine C.out.mono ?_); rintro e w51 ⟨rfl, hb⟩
  replace BW := Lib.hid (BW.out.trans (hb.out.mono BW.out.size))
  replace Hz := Lib.hid (Hz.out.on hb.out)
  replace Hw := Lib.hid (Hw.out.on hb.out)
  replace Hp := Lib.hid (Hp.out.on hb.out)
  replace Hq := Lib.hid (Hq.out.on hb.out)
  replace Hs := Lib.hid (Hs.out.on hb.out)
  replace Ht := Lib.hid (Ht.out.on hb.out)
  replace Ho := Lib.hid (Ho.out.on hb.out)
  replace Hf := Lib.hid (Hf.out.on hb.out)
  replace Hc := Lib.hid (Hc.out.on hb.out)
  clear C hb c00 c01 c02 c03
  clear Hz
  have C : Hid (Calls Tryd.prog 17 #[.agg #[.slice pw.A 2 pw.ca, .int .i64 0, .slice pw.T 2 pw.ct, .slice pw.S 0 pw.cs]] w51 (StrG w51 { data := #[49, 48] })) := Lib.hid (phases_any pw Rn.wK w51 _ Hw.out.run (Rn.Inv.ph Rn.iw) (by decide))
  obtain ⟨⟨c00, c01, c02, c03⟩, -⟩ := obj4 Hw.out.box
  go_wp2_with fail
  (with_reducible refine C.out.mono ?_); rintro e w52 ⟨rfl, hb⟩
  replace BW := Lib.hid (BW.out.trans (hb.out.mono BW.out.size))
  replace Hw := Lib.hid (Hw.out.on hb.out)
  replace Hp := Lib.hid (Hp.out.on hb.out)
  replace Hq := Lib.hid (Hq.out.on hb.out)
  replace Hs := Lib.hid (Hs.out.on hb.out)
  replace Ht := Lib.hid (Ht.out.on hb.out)
  replace Ho := Lib.hid (Ho.out.on hb.out)
  replace Hf := Lib.hid (Hf.out.on hb.out)
  replace Hc := Lib.hid (Hc.out.on hb.out)
  clear C hb c00 c01 c02 c03
  clear Hw
  have C : Hid (Calls Tryd.prog 17 #[.agg #[.slice pq.A 2 pq.ca, .int .i64 2, .slice pq.T 2 pq.ct, .slice pq.S 0 pq.cs]] w52 (StrG w52 { data := #[52, 48] })) := Lib.hid (phases_any pq Rn.qK w52 _ Hq.out.run (Rn.Inv.ph Rn.iq) (by decide))
  obtain ⟨⟨c00, c01, c02, c03⟩, -⟩ := obj4 Hq.out.box
  go_wp2_with fail
  (with_reducible refine C.out.mono ?_); rintro e w53 ⟨rfl, hb⟩
  replace BW := Lib.hid (BW.out.trans (hb.out.mono BW.out.size))
  replace Hp := Lib.hid (Hp.out.on hb.out)
  replace Hq := Lib.hid (Hq.out.on hb.out)
  replace Hs := Lib.hid (Hs.out.on hb.out)
  replace Ht := Lib.hid (Ht.out.on hb.out)
  replace Ho := Lib.hid (Ho.out.on hb.out)
  replace Hf := Lib.hid (Hf.out.on hb.out)
  replace Hc := Lib.hid (Hc.out.on hb.out)
  clear C hb c00 c01 c02 c03
  have C : Hid (Calls Tryd.prog 17 #[.agg #[.slice ps.A 2 ps.ca, .int .i64 0, .slice ps.T 2 ps.ct, .slice ps.S 0 ps.cs]] w53 (StrG w53 { data := #[51, 48] })) := Lib.hid (phases_any ps Rn.sK w53 _ Hs.out.run (Rn.Inv.ph Rn.is_) (by decide))
  obtain ⟨⟨c00, c01, c02, c03⟩, -⟩ := obj4 Hs.out.box
  obtain ⟨⟨c10, c11, c12, c13⟩, -⟩ := obj4 Hq.out.box
  go_wp2_with fail
  (with_reducible refine C.out.mono ?_); rintro e w54 ⟨rfl, hb⟩
  replace BW := Lib.hid (BW.out.trans (hb.out.mono BW.out.size))
  replace Hp := Lib.hid (Hp.out.on hb.out)
  replace Hq := Lib.hid (Hq.out.on hb.out)
  replace Hs := Lib.hid (Hs.out.on hb.out)
  replace Ht := Lib.hid (Ht.out.on hb.out)
  replace Ho := Lib.hid (Ho.out.on hb.out)
  replace Hf := Lib.hid (Hf.out.on hb.out)
  replace Hc := Lib.hid (Hc.out.on hb.out)
  clear C hb c00 c01 c02 c03 c10 c11 c12 c13
  have C : Hid (Calls Tryd.prog 17 #[.agg #[.slice pt.A 2 pt.ca, .int .i64 0, .slice pt.T 2 pt.ct, .slice pt.S 1 pt.cs]] w54 (StrG w54 { data := #[51, 49] })) := Lib.hid (phases_any pt Rn.tK w54 _ Ht.out.run (Rn.Inv.ph Rn.it) (by decide))
  obtain ⟨⟨c00, c01, c02, c03⟩, -⟩ := obj4 Ht.out.box
  obtain ⟨⟨c10, c11, c12, c13⟩, -⟩ := obj4 Hs.out.box
  obtain ⟨bs, os, k, hTs, -, hk, -, e0, e1, e2, e3⟩ := TksO.at_ (i := 0) Hs.out.run.t (by decide)
  obtain rfl : k = ⟨3, 2, 0, [111, 107]⟩ := by have := hk.out; simpa [Rn.sK] using this.symm
  rw [hTs] at c12
  clear hTs hk
  replace e0 : w54.cell? ⟨bs, os, none⟩ = some (.int .i64 3) := by simpa using e0
  replace e1 : w54.cell? ⟨bs, os + 1, none⟩ = some (.int .i64 2) := by simpa using e1
  replace e2 : w54.cell? ⟨bs, os + 2, none⟩ = some (.int .i64 0) := by simpa using e2
  replace e3 : w54.cell? ⟨bs, os + 3, none⟩ = some (.string { data := #[111, 107] }) := by simpa [str] using e3
  have NQ := tk_eql ⟨3, 2, 0, [111, 107]⟩ ⟨3, 2, 0, [111, 107]⟩ (by unfold tkIn inI; decide) (by unfold tkIn inI; decide) (by decide) (by decide)
  rw [show decide ((⟨3, 2, 0, [111, 107]⟩ : Rn.Tk) = ⟨3, 2, 0, [111, 107]⟩) = true from decide_eq_true rfl] at NQ
  replace NQ : ∀ W, (binOp .eql 42 (.agg #[.int .i64 3, .int .i64 2, .int .i64 0, .string { data := #[111, 107] }]) (.agg #[.int .i64 3, .int .i64 2, .int .i64 0, .string { data := #[111, 107] }])).run Tryd.prog W = .ok (.bool true) W := NQ
  go_wp2_with fail
  (with_reducible refine C.out.mono ?_); rintro e w55 ⟨rfl, hb⟩
  replace BW := Lib.hid (BW.out.trans (hb.out.mono BW.out.size))
  replace Hp := Lib.hid (Hp.out.on hb.out)
  replace Hq := Lib.hid (Hq.out.on hb.out)
  replace Hs := Lib.hid (Hs.out.on hb.out)
  replace Ht := Lib.hid (Ht.out.on hb.out)
  replace Ho := Lib.hid (Ho.out.on hb.out)
  replace Hf := Lib.hid (Hf.out.on hb.out)
  replace Hc := Lib.hid (Hc.out.on hb.out)
  clear C hb c00 c01 c02 c03 c10 c11 c12 c13 e0 e1 e2 e3 NQ
  have C : Hid (Calls Tryd.prog 17 #[.agg #[.slice pf.A 2 pf.ca, .int .i64 1, .slice pf.T 2 pf.ct, .slice pf.S 1 pf.cs]] w55 (StrG w55 { data := #[51, 51] })) := Lib.hid (phases_any pf Rn.finK w55 _ Hf.out.run (Rn.Inv.ph Rn.ifin) (by decide))
  obtain ⟨⟨c00, c01, c02, c03⟩, -⟩ := obj4 Hf.out.box
  go_wp2_with fail
  (with_reducible refine C.out.mono ?_); rintro e w56 ⟨rfl, hb⟩
  replace BW := Lib.hid (BW.out.trans (hb.out.mono BW.out.size))
  replace Hp := Lib.hid (Hp.out.on hb.out)
  replace Hq := Lib.hid (Hq.out.on hb.out)
  replace Hs := Lib.hid (Hs.out.on hb.out)
  replace Ht := Lib.hid (Ht.out.on hb.out)
  replace Ho := Lib.hid (Ho.out.on hb.out)
  replace Hf := Lib.hid (Hf.out.on hb.out)
  replace Hc := Lib.hid (Hc.out.on hb.out)
  clear C hb c00 c01 c02 c03
  obtain ⟨⟨c0, c1, c2, c3⟩, -⟩ := obj4 Hc.out.box
  go_wp2
  go_ret
  exact ⟨rfl, BW⟩
end Go.Proofs.YtpaolgjgonghlaaDoor
/-
  RunKnown in the form that its frame takes.
-/
namespace Go.Proofs.YtpaolgjgonghlaaDoor
open Go.ChangeShapes Go.WideShapes Go.ChangeAt Go.RowKit Go.Deep
theorem known_end (w : World) (hF : FactsD w) : Calls Tryd.prog 3 #[] w fun e w' => e = .returned (.bool true) ∧ Below w.heap.size w w' :=
  (known_walk w hF).mono fun _ _ h => ⟨h.1, h.2.out⟩
end Go.Proofs.YtpaolgjgonghlaaDoor
/-
  RunEnds in the form that its frame takes.
-/
namespace Go.Proofs.YtpaolgjgonghlaaDoor
open Go.ChangeShapes Go.WideShapes Go.ChangeAt Go.RowKit Go.Deep
theorem ends_end (s : ByteArray) (hs : s.size ≤ 140737488355328) (w : World) (hF : FactsD w) : Calls Tryd.prog 5 #[.string s] w fun e w' => e = .returned (.bool true) ∧ Below w.heap.size w w' :=
  (ends_walk s hs w hF).mono fun _ _ h => ⟨h.1, h.2.out⟩
end Go.Proofs.YtpaolgjgonghlaaDoor
/-
  RunRetries in the form that its frame takes.
-/
namespace Go.Proofs.YtpaolgjgonghlaaDoor
open Go.ChangeShapes Go.WideShapes Go.ChangeAt Go.RowKit Go.Deep
theorem inI_ofR {z : Int} (h0 : -9223372036854775808 ≤ z) (h1 : z ≤ 9223372036854775807) : inI z := by unfold inI; omega
theorem ret_end (c b : Int) (c0 : -9223372036854775808 ≤ c) (c1 : c ≤ 9223372036854775807) (b0 : -9223372036854775808 ≤ b) (b1 : b ≤ 9223372036854775807) (w : World) (hF : FactsD w) : Calls Tryd.prog 6 #[.int .i64 c, .int .i64 b] w fun e w' => e = .returned (.bool true) ∧ Below w.heap.size w w' :=
  (ret_walk c b (inI_ofR c0 c1) (inI_ofR b0 b1) w hF).mono fun _ _ h => ⟨h.1, h.2.out⟩
end Go.Proofs.YtpaolgjgonghlaaDoor
