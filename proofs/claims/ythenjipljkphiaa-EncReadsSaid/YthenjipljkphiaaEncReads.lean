/-
  The law EncReads: any bytes, read by any steps: the program's methods and the reference's tell the same, and leave the same.
-/
import Derived.Test.YthenjipljkphiaaEncAwake
import Derived.Test.YthenjipljkphiaaEncRefS
import Derived.Test.YthenjipljkphiaaStepsKit
import Derived.Deep.QuietTactic
import Derived.BigQuiet
import Derived.Deep.RegionHeld3
namespace Go.Proofs.Ythenjipljkphiaa
open Go.RowKit
/-- Both readers in the same state; below block B the world is as it was. -/
structure Both (B : Nat) (w wr : World) (gi gj : Nat) (zs : List Int) (b : Bool) : Prop where
  i : InAt wr 33 gi zs b
  j : InAt wr 41 gj zs b
  below : Below B w wr
  bi : B ≤ gi
  bj : B ≤ gj
  ne : gi ≠ gj
theorem InAt.obj {w : World} {t g : Nat} {zs : List Int} {b : Bool} (h : InAt w t g zs b) : ∃ x, w.heap[g]? = some (.cells #[x, .bool b] t (0, 0)) ∧ ∀ n, x ≠ .int .u8 n := by
  obtain ⟨A, cap, ho, _⟩ := h; exact ⟨_, ho, fun n => by simp⟩
/-- One step: the program's reader goes on, then the reference's. -/
theorem Both.step {B gi gj : Nat} {w wr w1 w2 : World} {zs ys : List Int} {b c : Bool} (h : Both B w wr gi gj zs b) (h1 : InPost wr 33 gi ys c w1) (h2 : InPost w1 41 gj ys c w2) : Both B w w2 gi gj ys c := by
  have hB : B ≤ wr.heap.size := by have := h.i.lt; have := h.bi; omega
  have hB1 : B ≤ w1.heap.size := by have := h1.2.size; omega
  have j1 := h.j
  obtain ⟨y, hy, hyn⟩ := j1.obj
  have hy1 := (h1.2.block gj j1.lt (fun e => h.ne e.symm)).trans hy
  exact ⟨h1.1.keep h2.2 hy1 (no_u8 _ hyn b) h.ne, h2.1, (h.below.trans (h1.2.below hB h.bi)).trans (h2.2.below hB1 h.bj), h.bi, h.bj, h.ne⟩
theorem Both.mid {B gi gj : Nat} {w wr w1 : World} {zs ys : List Int} {b c : Bool} (h : Both B w wr gi gj zs b) (h1 : InPost wr 33 gi ys c w1) : InAt w1 41 gj zs b := by
  obtain ⟨x, hx, hxn⟩ := h.i.obj
  exact h.j.keep h1.2 hx (no_u8 _ hxn b) (fun e => h.ne e.symm)
theorem Both.drewN {B gi gj : Nat} {w wr : World} {zs : List Int} {b : Bool} (h : Both B w wr gi gj zs b) (n : Nat) : Both B w (wr.drewN n) gi gj zs b :=
  ⟨h.i, h.j, below_n h.below n, h.bi, h.bj, h.ne⟩
theorem Both.like {B gi gj : Nat} {w wr W : World} {zs : List Int} {b : Bool} (h : Both B w wr gi gj zs b) (h1 : W.heap = wr.heap) (h2 : W.os = wr.os) (h3 : W.tape = wr.tape) (h4 : W.output = wr.output) : Both B w W gi gj zs b := by
  have keep : Below wr.heap.size wr W := ⟨h2, h3, h4, by rw [h1]; exact Nat.le_refl _, fun k _ => by rw [h1]⟩
  exact ⟨h.i.below keep (Nat.le_refl _), h.j.below keep (Nat.le_refl _), h.below.trans (keep.mono (by have := h.i.lt; have := h.bi; omega)), h.bi, h.bj, h.ne⟩
theorem Both.cell {B gi gj : Nat} {w wr : World} {zs : List Int} {b : Bool} (h : Both B w wr gi gj zs b) {p o : Nat} (hp : p < B) {t : TypeId} {ys : List Int} {c : Bool} {w' : World} (h1 : InPost wr t gi ys c w') {v : Value} (hv : wr.cell? ⟨p, o, none⟩ = some v) : w'.cell? ⟨p, o, none⟩ = some v := by
  have hlt : p < wr.heap.size := block_lt hv
  exact (World.cell?_of_block (w := wr) (a := ⟨p, o, none⟩) (h1.2.block p hlt (by have := h.bi; show p ≠ gi; omega))).trans hv
theorem Both.cellj {B gi gj : Nat} {w wr : World} {zs : List Int} {b : Bool} (h : Both B w wr gi gj zs b) {p o : Nat} (hp : p < B) {w1 w' : World} {t : TypeId} {ys : List Int} {c : Bool} (h1 : InPost w1 t gj ys c w') {v : Value} (hv : w1.cell? ⟨p, o, none⟩ = some v) : w'.cell? ⟨p, o, none⟩ = some v := by
  have hlt : p < w1.heap.size := block_lt hv
  exact (World.cell?_of_block (w := w1) (a := ⟨p, o, none⟩) (h1.2.block p hlt (by have := h.bj; show p ≠ gj; omega))).trans hv
theorem end_quiet {t g : Nat} {zs : List Int} {b : Bool} {w : World} {n : Nat} (h : InAt w t g zs b) (r : Bool) (hr : En.isEnd zs b = r) :
    Calls Try.prog 16 #[.pointer (some ⟨g, 0, none⟩)] (w.drewN n) fun e w'' => e = .returned (.bool r) ∧ ∃ m, w'' = w.drewN m := by
  subst hr
  exact (inEnd_any t g zs b (w.drewN n) h).mono fun e w' ⟨he, hw⟩ => ⟨he, n, hw.symm⟩
set_option maxHeartbeats 1000000 in
theorem reads_long (A A1 : Option Addr) (n m cap cap1 : Nat) (h : 300 < n ∨ (n ≤ 300 ∧ 30 < m)) (w : World) :
    Calls Try.prog 4 #[.slice A n cap, .slice A1 m cap1] w fun e w' => e = .returned (.bool true) ∧ Below w.heap.size w w' := by
  rcases h with h | ⟨h1, h2⟩
  · have h' : (300 : Int) < (n : Int) := by omega
    go_enter Try.func4, Try.ntmps4
    go_wp2_with fail
    refine (awake_any _).mono ?_; rintro e w1 ⟨rfl, hb1⟩
    go_wp2
    go_ret
    exact ⟨rfl, hb1⟩
  · have h1' : (n : Int) ≤ 300 := by omega
    have h2' : (30 : Int) < (m : Int) := by omega
    go_enter Try.func4, Try.ntmps4
    go_wp2_with fail
    refine (awake_any _).mono ?_; rintro e w1 ⟨rfl, hb1⟩
    go_wp2
    go_ret
    exact ⟨rfl, hb1⟩
set_option maxHeartbeats 4000000 in
set_option maxRecDepth 100000 in
theorem reads_short (A A1 : Option Addr) (zs : List Int) (ps : List (Int × Int)) (cap cap1 : Nat) (h1 : zs.length ≤ 300) (h2 : ps.length ≤ 30) (w : World) (hb : Bytes w w.heap.size A zs) (hp : Pairs w w.heap.size A1 ps) :
    Calls Try.prog 4 #[.slice A zs.length cap, .slice A1 ps.length cap1] w fun e w' => e = .returned (.bool true) ∧ Below w.heap.size w w' := by
  have h1' : (zs.length : Int) ≤ 300 := by omega
  have h2' : (ps.length : Int) ≤ 30 := by omega
  have HB := Lib.hid hb
  have HP := Lib.hid hp
  clear hb hp
  go_enter Try.func4, Try.ntmps4
  go_wp2_with fail
  refine (awake_any _).mono ?_; rintro e w1 ⟨rfl, hb1⟩
  have HB1 := Lib.hid hb1
  have hs1 := hb1.size
  clear hb1
  go_wp2_with (first
    | (at_builtin; refine wp_app rfl (.tmp 19) (.tmp 20) rfl rfl rfl (OwnB.start w1 w1.heap.size (Nat.le_refl _)) (by simp) rfl rfl ((HB.out.below HB1.out).below ((Below.refl _ _).alloc hs1 _)) (by simp; omega) ?_; intro A2 cap2 w2 o2 d2; rw [List.nil_append] at o2; have O2 := Lib.hid o2; have D2 := Lib.hid (((Below.refl w1.heap.size w1).alloc (Nat.le_refl _) _).trans d2.below); have hs2 := D2.out.size; clear o2 d2)
    | (at_builtin; refine wp_app rfl (.tmp 24) (.tmp 25) rfl rfl rfl (OwnB.start_at _ (w2.heap.size + 1) (by simp)) (by simp) rfl rfl (((HB.out.below HB1.out).below (D2.out.mono hs1)).below (((Below.refl _ _).alloc (by omega) _).alloc (by simp; omega) _)) (by simp; omega) ?_; intro A3 cap3 w3 o3 d3; rw [List.nil_append] at o3; have O3 := Lib.hid o3; have D3 := Lib.hid (((Below.refl (w2.heap.size + 1) _).alloc (by simp) _).trans d3.below); have hs3 := D3.out.size; clear o3 d3)
    | fail)
  have B0 : Hid (Both w.heap.size w (w3.alloc (.cells #[.slice A3 zs.length cap3, .bool false] 41)) w2.heap.size w3.heap.size zs false) := by
    have i2 : InAt (w2.alloc (.cells #[.slice A2 zs.length cap2, .bool false] 33)) 33 w2.heap.size zs false := in_new 33 cap2 zs.length rfl O2.out.cap_ (by omega) O2.out.bytes (Nat.le_refl _) false
    have hs23 : w2.heap.size + 1 ≤ w3.heap.size := by have := D3.out.size; simp at this; omega
    refine ⟨(i2.below D3.out (by simp)).below ((Below.refl w3.heap.size w3).alloc (Nat.le_refl _) _) (Nat.le_refl _), in_new 41 cap3 zs.length rfl O3.out.cap_ (by omega) O3.out.bytes (Nat.le_refl _) false, ?_, by omega, by omega, by omega⟩
    have e1 := HB1.out.trans (D2.out.mono hs1)
    have e2 := (e1.alloc (by omega) (.cells #[.slice A2 zs.length cap2, .bool false] 33)).trans (D3.out.mono (by omega))
    exact e2.alloc (by omega) _
  clear HB HB1 D2 D3 O2 O3
  generalize hgi : w2.heap.size = gi at *
  generalize hgj : w3.heap.size = gj at *
  clear hgi hgj
  go_loopw [7, 8] (fun kv _ wr => ∃ (k : Nat) (ys : List Int) (b : Bool), k ≤ ps.length ∧ kv = .int .i64 k ∧ Both w.heap.size w wr gi gj ys b) (fun kv _ _ => ps.length - (intOf kv).toNat)
  case atStart => exact ⟨0, zs, false, Nat.zero_le _, rfl, B0.out⟩
  case round =>
    obtain ⟨k, ys, b, hk, rfl, hB⟩ := hrel
    have HBO := Lib.hid hB
    clear hB B0
    by_cases hlt : k < ps.length
    · have hlt' : (k : Int) < (ps.length : Int) := by omega
      obtain ⟨pb, off, x, y, rfl, hpb, q0, q1, rx, ry⟩ := (HP.out.below HBO.out.below).at_ hlt
      clear hlt
      have hx : x = 2 ∨ x = 0 ∨ x = 1 ∨ x < 0 ∨ 2 < x := by omega
      obtain ⟨ry0, ry1⟩ := ry
      have YW : Hid (0 ≤ IntKind.u64.wrap y ∧ IntKind.u64.wrap y < 18446744073709551616) := by rw [IntKind.wrap_u64]; show _ ∧ _; omega
      have HBD := Lib.hid (Both.like (W := wr.drew) HBO.out rfl rfl rfl rfl)
      have HQ : Hid (wr.drew.cell? ⟨pb, off + k * 2 + 1, none⟩ = some (.int .i64 y)) := q1
      rcases hx with rfl | rfl | rfl | hx | hx
      · go_wp2_with fail
        go_region_held3 (fun w' => w'.cell? ⟨pb, off + k * 2 + 1, none⟩ = some (.int .i64 y)) ((first | go_keep | exact qb | exact qa))
          (first
            | (go_at_call 14; refine (inS_any gi ys b y ry0 ry1 _ HBD.out.i).mono ?_; rintro e wa ⟨rfl, ha⟩; have HA := Lib.hid ha; have qa := HBD.out.cell hpb.out ha HQ.out; clear ha)
            | (go_at_call 20; refine (refS_any gj ys b y ry0 ry1 _ (HBD.out.mid HA.out)).mono ?_; rintro e wb ⟨rfl, hb⟩; have HC := Lib.hid (HBD.out.step HA.out hb); have qb := HBD.out.cellj hpb.out hb qa; clear hb))
        clear qa qb HA
        obtain ⟨zs', b', HC⟩ : ∃ zs' b', Hid (Both w.heap.size w wb gi gj zs' b') := ⟨_, _, HC⟩
        go_wp2_with fail
        obtain ⟨Ai, ci, oi, _, li, bi⟩ := HC.out.i
        obtain ⟨Aj, cj, oj, _, _, bj⟩ := HC.out.j
        obtain ⟨⟨xi0, xi1⟩, _, _⟩ := obj2 oi
        obtain ⟨⟨xj0, xj1⟩, _, _⟩ := obj2 oj
        have cvi := fun n => conv_str (w := wb.drewN n) (bi.keep fun _ _ _ => rfl) ci
        have cvj := fun n => conv_str (w := wb.drewN n) (bj.keep fun _ _ _ => rfl) cj
        clear oi oj bi bj
        generalize strOfNums zs' = st at *
        cases b'
        · by_cases hz : zs'.length = 0
          · have he := Lib.hid (show En.isEnd zs' false = true by simp [En.isEnd, hz])
            rw [hz] at xi0 xj0 cvi cvj
            clear hz li
            go_quiet ((go_at_call 16; exact end_quiet HC.out.i true he.out))
            go_wp2
            go_roundw
            case rel => exact ⟨k + 1, zs', false, by omega, by go_num, HC.out.drewN _⟩
            case measure => simp [intOf]; omega
          · have he := Lib.hid (show En.isEnd zs' false = false by simp [En.isEnd]; intro e; subst e; simp at hz)
            have hz' : ((zs'.length : Int) == 0) = false := by simp; intro e; subst e; simp at hz
            clear hz
            go_quiet ((go_at_call 16; exact end_quiet HC.out.i false he.out))
            go_wp2
            go_roundw
            case rel => exact ⟨k + 1, zs', false, by omega, by go_num, HC.out.drewN _⟩
            case measure => simp [intOf]; omega
        · go_quiet ((go_at_call 16; exact end_quiet HC.out.i false rfl))
          go_wp2
          go_roundw
          case rel => exact ⟨k + 1, zs', true, by omega, by go_num, HC.out.drewN _⟩
          case measure => simp [intOf]; omega
      · go_wp2_with fail
        refine (inU_any gi ys b _ HBO.out.i).mono ?_; rintro e wa ⟨rfl, ha⟩
        have HA := Lib.hid ha
        clear ha
        go_wp2_with fail
        refine (refU_all gj ys b _ (HBO.out.mid HA.out)).mono ?_; rintro e wb ⟨rfl, hb⟩
        have HC := Lib.hid (HBO.out.step HA.out hb)
        clear hb HA
        obtain ⟨zs', b', HC⟩ : ∃ zs' b', Hid (Both w.heap.size w wb gi gj zs' b') := ⟨_, _, HC⟩
        go_wp2_with fail
        obtain ⟨Ai, ci, oi, _, li, bi⟩ := HC.out.i
        obtain ⟨Aj, cj, oj, _, _, bj⟩ := HC.out.j
        obtain ⟨⟨xi0, xi1⟩, _, _⟩ := obj2 oi
        obtain ⟨⟨xj0, xj1⟩, _, _⟩ := obj2 oj
        have cvi := fun n => conv_str (w := wb.drewN n) (bi.keep fun _ _ _ => rfl) ci
        have cvj := fun n => conv_str (w := wb.drewN n) (bj.keep fun _ _ _ => rfl) cj
        clear oi oj bi bj
        generalize strOfNums zs' = st at *
        cases b'
        · by_cases hz : zs'.length = 0
          · have he := Lib.hid (show En.isEnd zs' false = true by simp [En.isEnd, hz])
            rw [hz] at xi0 xj0 cvi cvj
            clear hz li
            go_quiet ((go_at_call 16; exact end_quiet HC.out.i true he.out))
            go_wp2
            go_roundw
            case rel => exact ⟨k + 1, zs', false, by omega, by go_num, HC.out.drewN _⟩
            case measure => simp [intOf]; omega
          · have he := Lib.hid (show En.isEnd zs' false = false by simp [En.isEnd]; intro e; subst e; simp at hz)
            have hz' : ((zs'.length : Int) == 0) = false := by simp; intro e; subst e; simp at hz
            clear hz
            go_quiet ((go_at_call 16; exact end_quiet HC.out.i false he.out))
            go_wp2
            go_roundw
            case rel => exact ⟨k + 1, zs', false, by omega, by go_num, HC.out.drewN _⟩
            case measure => simp [intOf]; omega
        · go_quiet ((go_at_call 16; exact end_quiet HC.out.i false rfl))
          go_wp2
          go_roundw
          case rel => exact ⟨k + 1, zs', true, by omega, by go_num, HC.out.drewN _⟩
          case measure => simp [intOf]; omega
      · go_wp2_with fail
        refine (inI_any gi ys b _ HBO.out.i).mono ?_; rintro e wa ⟨rfl, ha⟩
        have HA := Lib.hid ha
        clear ha
        go_wp2_with fail
        refine (refI_any gj ys b _ (HBO.out.mid HA.out)).mono ?_; rintro e wb ⟨rfl, hb⟩
        have HC := Lib.hid (HBO.out.step HA.out hb)
        clear hb HA
        obtain ⟨zs', b', HC⟩ : ∃ zs' b', Hid (Both w.heap.size w wb gi gj zs' b') := ⟨_, _, HC⟩
        go_wp2_with fail
        obtain ⟨Ai, ci, oi, _, li, bi⟩ := HC.out.i
        obtain ⟨Aj, cj, oj, _, _, bj⟩ := HC.out.j
        obtain ⟨⟨xi0, xi1⟩, _, _⟩ := obj2 oi
        obtain ⟨⟨xj0, xj1⟩, _, _⟩ := obj2 oj
        have cvi := fun n => conv_str (w := wb.drewN n) (bi.keep fun _ _ _ => rfl) ci
        have cvj := fun n => conv_str (w := wb.drewN n) (bj.keep fun _ _ _ => rfl) cj
        clear oi oj bi bj
        generalize strOfNums zs' = st at *
        cases b'
        · by_cases hz : zs'.length = 0
          · have he := Lib.hid (show En.isEnd zs' false = true by simp [En.isEnd, hz])
            rw [hz] at xi0 xj0 cvi cvj
            clear hz li
            go_quiet ((go_at_call 16; exact end_quiet HC.out.i true he.out))
            go_wp2
            go_roundw
            case rel => exact ⟨k + 1, zs', false, by omega, by go_num, HC.out.drewN _⟩
            case measure => simp [intOf]; omega
          · have he := Lib.hid (show En.isEnd zs' false = false by simp [En.isEnd]; intro e; subst e; simp at hz)
            have hz' : ((zs'.length : Int) == 0) = false := by simp; intro e; subst e; simp at hz
            clear hz
            go_quiet ((go_at_call 16; exact end_quiet HC.out.i false he.out))
            go_wp2
            go_roundw
            case rel => exact ⟨k + 1, zs', false, by omega, by go_num, HC.out.drewN _⟩
            case measure => simp [intOf]; omega
        · go_quiet ((go_at_call 16; exact end_quiet HC.out.i false rfl))
          go_wp2
          go_roundw
          case rel => exact ⟨k + 1, zs', true, by omega, by go_num, HC.out.drewN _⟩
          case measure => simp [intOf]; omega
      all_goals
        go_wp2_with fail
        go_region_held3 (fun w' => w'.cell? ⟨pb, off + k * 2 + 1, none⟩ = some (.int .i64 y)) ((first | go_keep | exact qb | exact qa))
          (first
            | (go_at_call 15; (refine (inSmall_any gi ys b _ YW.out.1 YW.out.2 _ HBD.out.i).mono ?_; rintro e wa ⟨rfl, ha⟩; have HA := Lib.hid ha; have qa := HBD.out.cell hpb.out ha HQ.out; clear ha))
            | (go_at_call 21; (refine (refSmall_any gj ys b _ YW.out.1 YW.out.2 _ (HBD.out.mid HA.out)).mono ?_; rintro e wb ⟨rfl, hb⟩; have HC := Lib.hid (HBD.out.step HA.out hb); have qb := HBD.out.cellj hpb.out hb qa; clear hb)))
        clear qa qb HA
        obtain ⟨zs', b', HC⟩ : ∃ zs' b', Hid (Both w.heap.size w wb gi gj zs' b') := ⟨_, _, HC⟩
        go_wp2_with fail
        obtain ⟨Ai, ci, oi, _, li, bi⟩ := HC.out.i
        obtain ⟨Aj, cj, oj, _, _, bj⟩ := HC.out.j
        obtain ⟨⟨xi0, xi1⟩, _, _⟩ := obj2 oi
        obtain ⟨⟨xj0, xj1⟩, _, _⟩ := obj2 oj
        have cvi := fun n => conv_str (w := wb.drewN n) (bi.keep fun _ _ _ => rfl) ci
        have cvj := fun n => conv_str (w := wb.drewN n) (bj.keep fun _ _ _ => rfl) cj
        clear oi oj bi bj
        generalize strOfNums zs' = st at *
        cases b'
        · by_cases hz : zs'.length = 0
          · have he := Lib.hid (show En.isEnd zs' false = true by simp [En.isEnd, hz])
            rw [hz] at xi0 xj0 cvi cvj
            clear hz li
            go_quiet ((go_at_call 16; exact end_quiet HC.out.i true he.out))
            go_wp2
            go_roundw
            case rel => exact ⟨k + 1, zs', false, by omega, by go_num, HC.out.drewN _⟩
            case measure => simp [intOf]; omega
          · have he := Lib.hid (show En.isEnd zs' false = false by simp [En.isEnd]; intro e; subst e; simp at hz)
            have hz' : ((zs'.length : Int) == 0) = false := by simp; intro e; subst e; simp at hz
            clear hz
            go_quiet ((go_at_call 16; exact end_quiet HC.out.i false he.out))
            go_wp2
            go_roundw
            case rel => exact ⟨k + 1, zs', false, by omega, by go_num, HC.out.drewN _⟩
            case measure => simp [intOf]; omega
        · go_quiet ((go_at_call 16; exact end_quiet HC.out.i false rfl))
          go_wp2
          go_roundw
          case rel => exact ⟨k + 1, zs', true, by omega, by go_num, HC.out.drewN _⟩
          case measure => simp [intOf]; omega
    · have hlt' : (ps.length : Int) ≤ (k : Int) := by omega
      go_wp2
      go_ret
      exact ⟨rfl, HBO.out.below⟩
theorem reads_walk (A A1 : Option Addr) (zs : List Int) (ps : List (Int × Int)) (cap cap1 : Nat) (_m0 : zs.length ≤ 9223372036854775807) (_m1 : ps.length ≤ 9223372036854775807) (w : World) (hb : Bytes w w.heap.size A zs) (hp : Pairs w w.heap.size A1 ps) :
    Calls Try.prog 4 #[.slice A zs.length cap, .slice A1 ps.length cap1] w fun e w' => e = .returned (.bool true) ∧ Below w.heap.size w w' := by
  by_cases h : zs.length ≤ 300 ∧ ps.length ≤ 30
  · exact reads_short A A1 zs ps cap cap1 h.1 h.2 w hb hp
  · exact reads_long A A1 _ _ cap cap1 (by omega) w
end Go.Proofs.Ythenjipljkphiaa
