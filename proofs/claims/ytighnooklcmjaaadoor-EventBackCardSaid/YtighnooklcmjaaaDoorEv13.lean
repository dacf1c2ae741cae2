/-
  Part 13 of the texts behind the law: EncIn, EncInS, EncRef, EncRefS, FieldsIn, RowsIn, BytesIn.
-/
import Derived.Test.YtighnooklcmjaaaDoorEv12
import Derived.Test.YtighnooklcmjaaaDoorEv1
import Derived.ProofKit
import Derived.OpenShut
import Derived.Deep.Slices
import Derived.ChangeSame
import Derived.Lib.SmallJoins
/-
  The reading methods of package enc, at every reader: what each tells and what it leaves is the plain reading of the text En; nothing but the reader's own block changes.
-/
namespace Go.Proofs.YtighnooklcmjaaaDoor
open Go.RowKit

/-! ### An object of one or two cells -/
theorem obj2P {w : World} {g : Nat} {x y : Value} {t : TypeId} (h : w.heap[g]? = some (.cells #[x, y] t (0, 0))) :
    (w.cell? ⟨g, 0, none⟩ = some x ∧ w.cell? ⟨g, 1, none⟩ = some y) ∧ w.frozen? ⟨g, 0, none⟩ = false ∧ w.frozen? ⟨g, 1, none⟩ = false :=
  ⟨⟨by simp [World.cell?, h], by simp [World.cell?, h]⟩, by simp [World.frozen?, h], by simp [World.frozen?, h]⟩
theorem obj_set {w : World} {g o : Nat} {cs : Array Value} {t : TypeId} (h : w.heap[g]? = some (.cells cs t (0, 0))) (v : Value) :
    (w.setCell ⟨g, o, none⟩ v).heap[g]? = some (.cells (cs.setIfInBounds o v) t (0, 0)) := heap_setCell_same w g o cs t v h

/-- A reader at block g: what is left to read, and whether it is bad. -/
def InAt (w : World) (t g : Nat) (zs : List Int) (b : Bool) : Prop :=
  ∃ A cap, w.heap[g]? = some (.cells #[.slice A zs.length cap, .bool b] t (0, 0)) ∧ zs.length ≤ cap ∧ zs.length ≤ 4611686018427387904 ∧ Bytes w w.heap.size A zs
def InPost (w : World) (t g : Nat) (zs : List Int) (b : Bool) (w' : World) : Prop := InAt w' t g zs b ∧ But w.heap.size g w w'
theorem no_u8 (x : Value) (hx : ∀ n, x ≠ .int .u8 n) (b : Bool) : ∀ (i : Nat) (n : Int), (#[x, .bool b] : Array Value)[i]? ≠ some (.int .u8 n) := by
  intro i n
  rcases i with _ | _ | i
  · simpa using hx n
  · simp
  · simp
theorem InAt.byte {w : World} {t g : Nat} {zs : List Int} {b : Bool} (h : InAt w t g zs b) : En.Byte zs := by
  obtain ⟨A, cap, _, _, _, hb⟩ := h; exact hb.mem
theorem InAt.lt {w : World} {t g : Nat} {zs : List Int} {b : Bool} (h : InAt w t g zs b) : g < w.heap.size := by
  obtain ⟨A, cap, ho, _⟩ := h; exact lt_of_block ho
/-- A reader stays what it is where nothing but another object has changed. -/
theorem InAt.keep {w w' : World} {t g g' : Nat} {zs : List Int} {b : Bool} {cs : Array Value} {t' : TypeId} (h : InAt w t g zs b) (hB : But w.heap.size g' w w') (ho : w.heap[g']? = some (.cells cs t' (0, 0)))
    (hv : ∀ (i : Nat) (n : Int), cs[i]? ≠ some (.int .u8 n)) (hg : g ≠ g') : InAt w' t g zs b := by
  obtain ⟨A, cap, h1, h2, h3, h4⟩ := h
  exact ⟨A, cap, (hB.block g (lt_of_block h1) hg).trans h1, h2, h3, (h4.but hB ho hv).more hB.size⟩
theorem InAt.below {w w' : World} {t g B : Nat} {zs : List Int} {b : Bool} (h : InAt w t g zs b) (hB : Below B w w') (hw : w.heap.size ≤ B) : InAt w' t g zs b := by
  obtain ⟨A, cap, h1, h2, h3, h4⟩ := h
  exact ⟨A, cap, (hB.block g (by have := lt_of_block h1; omega)).trans h1, h2, h3, (h4.below (hB.mono hw)).more hB.size⟩
theorem InAt.spoilt {w : World} {t g : Nat} {zs : List Int} {b : Bool} (h : InAt w t g zs b) :
    InPost w t g [] true ((w.setCell ⟨g, 0, none⟩ (.slice none 0 0)).setCell ⟨g, 1, none⟩ (.bool true)) := by
  obtain ⟨A, cap, h1, h2, h3, h4⟩ := h
  exact ⟨⟨none, 0, obj_set (obj_set h1 _) _, by decide, by decide, Bytes.nil_⟩, (But.set _ g 0 w _).trans (But.set _ g 1 _ _)⟩
theorem InAt.spoilt' {w : World} {t g : Nat} {zs : List Int} {b : Bool} (h : InAt w t g zs b) :
    InPost w t g [] true ((w.setCell ⟨g, 1, none⟩ (.bool true)).setCell ⟨g, 0, none⟩ (.slice none 0 0)) := by
  obtain ⟨A, cap, h1, h2, h3, h4⟩ := h
  exact ⟨⟨none, 0, obj_set (obj_set h1 _) _, by decide, by decide, Bytes.nil_⟩, (But.set _ g 1 w _).trans (But.set _ g 0 _ _)⟩
theorem InAt.emptied {w : World} {t g : Nat} {zs : List Int} (h : InAt w t g zs true) : InPost w t g [] true (w.setCell ⟨g, 0, none⟩ (.slice none 0 0)) := by
  obtain ⟨A, cap, h1, h2, h3, h4⟩ := h
  exact ⟨⟨none, 0, obj_set h1 _, by decide, by decide, Bytes.nil_⟩, But.set _ g 0 w _⟩
/-- What it was before does not matter to how it ends. -/
theorem InPost.trans {w w1 w2 : World} {t g : Nat} {zs ys : List Int} {b c : Bool} (h : InPost w t g zs b w1) (k : InPost w1 t g ys c w2) : InPost w t g ys c w2 :=
  ⟨k.1, h.2.trans (k.2.mono h.2.size)⟩
theorem InAt.moved {w : World} {t g : Nat} {A : Option Addr} {cap : Nat} {zs : List Int} {b : Bool} (h1 : w.heap[g]? = some (.cells #[.slice A zs.length cap, .bool b] t (0, 0))) (h2 : zs.length ≤ cap) (h3 : zs.length ≤ 4611686018427387904)
    (h4 : Bytes w w.heap.size A zs) (k : Nat) : InPost w t g (zs.drop k) b (w.setCell ⟨g, 0, none⟩ (.slice (tailA A cap k) (zs.length - k) (cap - k))) := by
  refine ⟨⟨tailA A cap k, cap - k, ?_, ?_, ?_, ?_⟩, But.set _ g 0 w _⟩
  · rw [List.length_drop]; exact obj_set h1 _
  · rw [List.length_drop]; omega
  · rw [List.length_drop]; omega
  · have hs : (w.setCell ⟨g, 0, none⟩ (.slice (tailA A cap k) (zs.length - k) (cap - k))).heap.size = w.heap.size := by simp [World.setCell]
    rw [hs]
    exact (h4.tail k cap h2).but (But.set _ g 0 w _) h1 (no_u8 _ (fun n => by simp) b)

/-! ### spoil, U -/
set_option maxHeartbeats 400000 in
theorem spoil_any (g : Nat) (zs : List Int) (b : Bool) (w : World) (h : InAt w 59 g zs b) :
    Calls Tryd.prog 55 #[.pointer (some ⟨g, 0, none⟩)] w fun e w' => e = .returned (.tuple #[]) ∧ InPost w 59 g [] true w' := by
  have HP := Lib.hid h.spoilt
  obtain ⟨A, cap, h1, _, _, _⟩ := h
  obtain ⟨⟨c0, c1⟩, f0, f1⟩ := obj2P h1
  clear h1
  go_enter Tryd.func55, Tryd.ntmps55
  go_wp2
  go_end0
  exact ⟨rfl, HP.out⟩
theorem first_yes (B : Nat) (A : Option Addr) (zs : List Int) (cap : Nat) (hl : zs.length ≤ 9223372036854775807) (v : Int) (n : Nat) (hd : En.decU zs = (v, n)) (w : World) (hb : Bytes w B A zs) :
    Calls Tryd.prog 56 #[.slice A zs.length cap] w fun e w' => e = .returned (.tuple #[.int .u64 v, .int .i64 (n : Int)]) ∧ w = w' := by
  have h := first_any B A zs cap hl w hb
  rw [hd] at h
  exact h
set_option maxHeartbeats 1000000 in
theorem inU_any (g : Nat) (zs : List Int) (b : Bool) (w : World) (h : InAt w 59 g zs b) :
    Calls Tryd.prog 46 #[.pointer (some ⟨g, 0, none⟩)] w fun e w' => e = .returned (.int .u64 (En.valU zs b)) ∧ InPost w 59 g (En.restU zs b) (!En.okU zs b) w' := by
  have SP := Lib.hid (spoil_any g zs b w h)
  have hz := h.byte
  obtain ⟨A, cap, h1, h2, h3, h4⟩ := h
  obtain ⟨⟨c0, c1⟩, f0, f1⟩ := obj2P h1
  obtain ⟨v, n, hd⟩ : ∃ v n, En.decU zs = (v, n) := ⟨_, _, rfl⟩
  have FA := Lib.hid (first_yes _ A zs cap (by omega) v n hd w h4)
  by_cases hok : En.okU zs b = true
  · have hv : En.valU zs b = v := by unfold En.valU; rw [if_pos hok, hd]
    have hr : En.restU zs b = zs.drop n := by unfold En.restU; rw [if_pos hok, hd]
    have hbn : b = false ∧ 0 < n := by unfold En.okU at hok; rw [hd] at hok; simpa using hok
    have hn : n ≤ zs.length := by have := (En.decU_range zs hz).2; rw [hd] at this; exact this
    obtain ⟨rfl, hn0⟩ := hbn
    rw [hv, hr, hok]
    have HP := Lib.hid (InAt.moved h1 h2 h3 h4 n)
    have hn0' : 0 < (n : Int) := by omega
    have SL := slice_from A zs.length cap n hn .i64
    clear hv hr hok h1 h4 hd hz
    go_enter Tryd.func46, Tryd.ntmps46
    go_wp2_with fail
    refine FA.out.mono ?_; rintro e w' ⟨rfl, rfl⟩
    go_wp2
    go_ret
    exact ⟨rfl, HP.out⟩
  · have hok' : En.okU zs b = false := by simpa using hok
    have hv : En.valU zs b = 0 := by unfold En.valU; rw [if_neg hok]
    have hr : En.restU zs b = [] := by unfold En.restU; rw [if_neg hok]
    have hbn : b = true ∨ (b = false ∧ n = 0) := by
      unfold En.okU at hok'; rw [hd] at hok'
      cases b
      · right; refine ⟨rfl, ?_⟩; simpa using hok'
      · left; rfl
    rw [hv, hr, hok']
    clear hv hr hok hok' h1 h4 hd hz
    rcases hbn with rfl | ⟨rfl, rfl⟩
    all_goals
      go_enter Tryd.func46, Tryd.ntmps46
      go_wp2_with fail
      refine FA.out.mono ?_; rintro e w' ⟨rfl, rfl⟩
      go_wp2_with fail
      refine SP.out.mono ?_; rintro e w' ⟨rfl, hp⟩
      go_wp2
      go_ret
      exact ⟨rfl, hp⟩

/-! ### I, S, Small, End -/
set_option maxHeartbeats 1000000 in
theorem inEnd_any (t g : Nat) (zs : List Int) (b : Bool) (w : World) (h : InAt w t g zs b) :
    Calls Tryd.prog 28 #[.pointer (some ⟨g, 0, none⟩)] w fun e w' => e = .returned (.bool (En.isEnd zs b)) ∧ w = w' := by
  obtain ⟨A, cap, h1, h2, h3, h4⟩ := h
  obtain ⟨⟨c0, c1⟩, f0, f1⟩ := obj2P h1
  clear h1 h4
  cases b
  · by_cases hz : zs.length = 0
    · have he : En.isEnd zs false = true := by simp [En.isEnd, hz]
      rw [he]
      have hz' : (zs.length : Int) = 0 := by omega
      rw [hz] at c0
      clear he hz hz' h2 h3
      go_enter Tryd.func28, Tryd.ntmps28
      go_wp2
      go_ret
      exact ⟨rfl, rfl⟩
    · have he : En.isEnd zs false = false := by simp [En.isEnd]; intro e; subst e; simp at hz
      rw [he]
      have hz' : 0 < (zs.length : Int) := by omega
      clear he hz
      go_enter Tryd.func28, Tryd.ntmps28
      go_wp2
      go_ret
      exact ⟨ret_bool (by simp; intro e; subst e; simp at hz'), rfl⟩
  · have he : En.isEnd zs true = false := by simp [En.isEnd]
    rw [he]
    clear he
    go_enter Tryd.func28, Tryd.ntmps28
    go_wp2
    go_ret
    exact ⟨rfl, rfl⟩
theorem small_yes {v most : Int} {o : Bool} {zs : List Int} {b : Bool} (ho : En.okU zs b = o) (hv : En.valU zs b = v) : En.okM zs b most = (o && decide (v ≤ most) && decide (v ≤ 2147483647)) := by
  unfold En.okM; rw [ho, hv]
set_option maxHeartbeats 1000000 in
theorem inSmall_any (g : Nat) (zs : List Int) (b : Bool) (most : Int) (m0 : 0 ≤ most) (_m1 : most < 18446744073709551616) (w : World) (h : InAt w 59 g zs b) :
    Calls Tryd.prog 45 #[.pointer (some ⟨g, 0, none⟩), .int .u64 most] w fun e w' => e = .returned (.int .i64 (En.valM zs b most)) ∧ InPost w 59 g (En.restM zs b most) (!En.okM zs b most) w' := by
  have U := Lib.hid (inU_any g zs b w h)
  have hr := En.valU_range zs b h.byte
  by_cases ho : En.okU zs b = true
  · by_cases hs : En.valU zs b ≤ most ∧ En.valU zs b ≤ 2147483647
    · have hk : En.okM zs b most = true := by unfold En.okM; rw [ho]; simp [hs]
      have hv : En.valM zs b most = En.valU zs b := by unfold En.valM; rw [if_pos hk]
      have hrr : En.restM zs b most = En.restU zs b := by unfold En.restM; rw [if_pos hk]
      rw [hk, hv, hrr]
      rw [ho] at U
      clear hk hv hrr ho h
      obtain ⟨s1, s2⟩ := hs
      obtain ⟨r1, r2⟩ := hr
      generalize En.valU zs b = v at *
      go_enter Tryd.func45, Tryd.ntmps45
      go_wp2_with fail
      refine U.out.mono ?_; rintro e w' ⟨rfl, hp⟩
      go_wp2
      go_ret
      exact ⟨rfl, hp⟩
    · have hk : En.okM zs b most = false := by
        unfold En.okM; rw [ho]; simp; omega
      have hv : En.valM zs b most = 0 := by unfold En.valM; rw [hk]; rfl
      have hrr : En.restM zs b most = [] := by unfold En.restM; rw [hk]; rfl
      have hc : most < En.valU zs b ∨ (En.valU zs b ≤ most ∧ 2147483647 < En.valU zs b) := by omega
      rw [hk, hv, hrr]
      clear hk hv hrr h hs ho
      obtain ⟨r1, r2⟩ := hr
      generalize En.valU zs b = v at *
      generalize En.restU zs b = ys at *
      generalize En.okU zs b = o at *
      rcases hc with hc | ⟨hc, hc2⟩
      all_goals
        go_enter Tryd.func45, Tryd.ntmps45
        go_wp2_with fail
        refine U.out.mono ?_; rintro e w' ⟨rfl, hp⟩
        have HP := Lib.hid hp
        clear hp
        go_wp2_with fail
        refine (spoil_any g _ _ _ HP.out.1).mono ?_; rintro e w' ⟨rfl, hp2⟩
        go_wp2
        go_ret
        exact ⟨rfl, HP.out.trans hp2⟩
  · have ho' : En.okU zs b = false := by simpa using ho
    have hk : En.okM zs b most = false := by unfold En.okM; rw [ho']; rfl
    have hv : En.valM zs b most = 0 := by unfold En.valM; rw [hk]; rfl
    have hrr : En.restM zs b most = [] := by unfold En.restM; rw [hk]; rfl
    have hvu : En.valU zs b = 0 := by unfold En.valU; rw [if_neg ho]
    have hru : En.restU zs b = [] := by unfold En.restU; rw [if_neg ho]
    rw [hk, hv, hrr]
    rw [hvu, hru, ho'] at U
    clear hk hv hrr h ho ho' hvu hru hr
    go_enter Tryd.func45, Tryd.ntmps45
    go_wp2_with fail
    refine U.out.mono ?_; rintro e w' ⟨rfl, hp⟩
    go_wp2
    go_ret
    exact ⟨rfl, hp⟩
end Go.Proofs.YtighnooklcmjaaaDoor
/-
  The reading of a string: In.S, at every reader.
-/
namespace Go.Proofs.YtighnooklcmjaaaDoor
open Go.RowKit
theorem conv_head {w : World} {B : Nat} {A : Option Addr} {zs : List Int} (h : Bytes w B A zs) (k cap : Nat) (hk : k ≤ zs.length) : (convert 27 9 (.slice A k cap)).run Tryd.prog w = .ok (.string (strOfNums (zs.take k))) w := by
  have e : (zs.take k).length = k := by rw [List.length_take]; omega
  have h1 := conv_str (h.head k) cap
  rw [e] at h1
  exact h1
set_option maxRecDepth 20000 in
set_option maxHeartbeats 1000000 in
theorem inS_yes (g : Nat) (ys : List Int) (b : Bool) (most : Int) (k : Nat) (m0 : (k : Int) ≤ most) (m1 : most ≤ 9223372036854775807) (hk : k ≤ ys.length) (w : World)
    (U : Calls Tryd.prog 46 #[.pointer (some ⟨g, 0, none⟩)] w fun e w' => e = .returned (.int .u64 (k : Int)) ∧ InPost w 59 g ys b w') (hb : b = false) :
    Calls Tryd.prog 47 #[.pointer (some ⟨g, 0, none⟩), .int .i64 most] w fun e w' => e = .returned (.string (strOfNums (ys.take k))) ∧ InPost w 59 g (ys.drop k) false w' := by
  subst hb
  have HU := Lib.hid U
  clear U
  have m2 : 0 ≤ most := by omega
  go_enter Tryd.func47, Tryd.ntmps47
  go_wp2_with fail
  refine HU.out.mono ?_; rintro e w1 ⟨rfl, hp⟩
  have HP := Lib.hid hp
  obtain ⟨A, cap, h1, h2, h3, h4⟩ := hp.1
  clear hp
  obtain ⟨⟨c0, c1⟩, f0, f1⟩ := obj2P h1
  have HM := Lib.hid (InAt.moved h1 h2 h3 h4 k)
  have CS := conv_head h4 k cap hk
  have ST := slice_to A ys.length cap k (by omega) .u64
  have SF := slice_from A ys.length cap k hk .u64
  clear h1 h4
  go_wp2
  go_ret
  exact ⟨rfl, HP.out.trans HM.out⟩
set_option maxRecDepth 20000 in
set_option maxHeartbeats 1000000 in
theorem inS_no (g : Nat) (ys : List Int) (b : Bool) (most v : Int) (m0 : -9223372036854775808 ≤ most) (m1 : most ≤ 9223372036854775807) (_v0 : 0 ≤ v) (_v1 : v < 18446744073709551616) (w : World)
    (U : Calls Tryd.prog 46 #[.pointer (some ⟨g, 0, none⟩)] w fun e w' => e = .returned (.int .u64 v) ∧ InPost w 59 g ys b w')
    (hc : b = true ∨ (b = false ∧ most < 0) ∨ (b = false ∧ 0 ≤ most ∧ most < v) ∨ (b = false ∧ 0 ≤ most ∧ v ≤ most ∧ (ys.length : Int) < v)) :
    Calls Tryd.prog 47 #[.pointer (some ⟨g, 0, none⟩), .int .i64 most] w fun e w' => e = .returned (.string ByteArray.empty) ∧ InPost w 59 g [] true w' := by
  have HU := Lib.hid U
  clear U
  rcases hc with rfl | ⟨rfl, c⟩ | ⟨rfl, c, c2⟩ | ⟨rfl, c, c2, c3⟩
  all_goals
    go_enter Tryd.func47, Tryd.ntmps47
    go_wp2_with fail
    refine HU.out.mono ?_; rintro e w1 ⟨rfl, hp⟩
    have HP := Lib.hid hp
    have SP := Lib.hid (spoil_any g _ _ _ hp.1)
    obtain ⟨A, cap, h1, h2, h3, h4⟩ := hp.1
    clear hp
    obtain ⟨⟨c0, c1⟩, f0, f1⟩ := obj2P h1
    clear h1 h4
    go_wp2_with fail
    refine SP.out.mono ?_; rintro e w' ⟨rfl, hp2⟩
    go_wp2
    go_ret
    exact ⟨rfl, HP.out.trans hp2⟩
theorem inS_any (g : Nat) (zs : List Int) (b : Bool) (most : Int) (m0 : -9223372036854775808 ≤ most) (m1 : most ≤ 9223372036854775807) (w : World) (h : InAt w 59 g zs b) :
    Calls Tryd.prog 47 #[.pointer (some ⟨g, 0, none⟩), .int .i64 most] w fun e w' => e = .returned (.string (En.valS zs b most)) ∧ InPost w 59 g (En.restS zs b most) (!En.okS zs b most) w' := by
  have U := inU_any g zs b w h
  have hr := En.valU_range zs b h.byte
  by_cases hk : En.okS zs b most = true
  · have hv : En.valS zs b most = strOfNums ((En.restU zs b).take (En.valU zs b).toNat) := by unfold En.valS; rw [if_pos hk]
    have hrr : En.restS zs b most = (En.restU zs b).drop (En.valU zs b).toNat := by unfold En.restS; rw [if_pos hk]
    have hk' := hk
    unfold En.okS at hk'
    simp only [Bool.and_eq_true, decide_eq_true_eq] at hk'
    obtain ⟨⟨⟨k1, k2⟩, k3⟩, k4⟩ := hk'
    rw [hv, hrr, hk]
    have e : ((En.valU zs b).toNat : Int) = En.valU zs b := by omega
    rw [← e] at U
    rw [k1] at U
    exact inS_yes g (En.restU zs b) (!true) most (En.valU zs b).toNat (by omega) m1 (by omega) w U rfl
  · have hk' : En.okS zs b most = false := by simpa using hk
    have hv : En.valS zs b most = ByteArray.empty := by unfold En.valS; rw [if_neg hk]
    have hrr : En.restS zs b most = [] := by unfold En.restS; rw [if_neg hk]
    rw [hv, hrr, hk']
    refine inS_no g (En.restU zs b) (!En.okU zs b) most (En.valU zs b) m0 m1 hr.1 hr.2 w U ?_
    unfold En.okS at hk'
    cases ho : En.okU zs b
    · left; rfl
    · right
      rw [ho] at hk'
      simp at hk'
      simp
      omega
end Go.Proofs.YtighnooklcmjaaaDoor
/-
  The reading methods of the reference's chapter 3, at every reader: the same plain reading.
-/
namespace Go.Proofs.YtighnooklcmjaaaDoor
open Go.RowKit
set_option maxHeartbeats 400000 in
theorem refFail_any (g : Nat) (zs : List Int) (b : Bool) (w : World) (h : InAt w 63 g zs b) :
    Calls Tryd.prog 48 #[.pointer (some ⟨g, 0, none⟩)] w fun e w' => e = .returned (.tuple #[]) ∧ InPost w 63 g [] true w' := by
  have HP := Lib.hid h.spoilt'
  obtain ⟨A, cap, h1, _, _, _⟩ := h
  obtain ⟨⟨c0, c1⟩, f0, f1⟩ := obj2P h1
  clear h1
  go_enter Tryd.func48, Tryd.ntmps48
  go_wp2
  go_end0
  exact ⟨rfl, HP.out⟩
theorem okU_bad {zs : List Int} (hd : En.decU zs = (0, 0)) (b : Bool) : En.valU zs b = 0 ∧ En.restU zs b = [] ∧ En.okU zs b = false := by
  have ho : En.okU zs b = false := by unfold En.okU; rw [hd]; simp
  refine ⟨?_, ?_, ho⟩
  · unfold En.valU; rw [ho]; rfl
  · unfold En.restU; rw [ho]; rfl
theorem okU_good {zs : List Int} {v : Int} {n : Nat} (hd : En.decU zs = (v, n + 1)) : En.valU zs false = v ∧ En.restU zs false = zs.drop (n + 1) ∧ En.okU zs false = true := by
  have ho : En.okU zs false = true := by unfold En.okU; rw [hd]; simp
  refine ⟨?_, ?_, ho⟩
  · unfold En.valU; rw [ho, hd]; rfl
  · unfold En.restU; rw [ho, hd]; rfl
/-- What U is to end in. -/
def UPost (w : World) (t g : Nat) (zs : List Int) (b : Bool) (e : Ending) (w' : World) : Prop := e = .returned (.int .u64 (En.valU zs b)) ∧ InPost w t g (En.restU zs b) (!En.okU zs b) w'
theorem UPost.bad {w w' : World} {t g : Nat} {zs : List Int} {b : Bool} (hd : En.decU zs = (0, 0)) (h : InPost w t g [] true w') : UPost w t g zs b (.returned (.int .u64 0)) w' := by
  obtain ⟨h1, h2, h3⟩ := okU_bad hd b
  unfold UPost; rw [h1, h2, h3]; exact ⟨rfl, h⟩
theorem UPost.good {w w' : World} {t g : Nat} {zs : List Int} {v : Int} {n : Nat} (hd : En.decU zs = (v, n + 1)) (h : InPost w t g (zs.drop (n + 1)) false w') : UPost w t g zs false (.returned (.int .u64 v)) w' := by
  obtain ⟨h1, h2, h3⟩ := okU_good hd
  unfold UPost; rw [h1, h2, h3]; exact ⟨rfl, h⟩
set_option maxHeartbeats 2000000 in
theorem refU_any (g : Nat) (zs : List Int) (b : Bool) (w : World) (h : InAt w 63 g zs b) :
    Calls Tryd.prog 31 #[.pointer (some ⟨g, 0, none⟩)] w (UPost w 63 g zs b) := by
  have SP := Lib.hid (refFail_any g zs b w h)
  cases b
  · obtain ⟨A, cap, h1, h2, h3, h4⟩ := h
    obtain ⟨⟨c0, c1⟩, f0, f1⟩ := obj2P h1
    have HM := Lib.hid (fun k => InAt.moved h1 h2 h3 h4 k)
    have H := Lib.hid h4
    have SF := Lib.hid (fun k (hk : k ≤ zs.length) => slice_from A zs.length cap k hk .i64)
    have hl : zs.length ≤ 4611686018427387904 := h3
    clear h1 h4 h3 h2
    have S := Lib.hid (DecAt.start zs)
    go_enter Tryd.func31, Tryd.ntmps31
    go_wp2
    go_loop [3, 4, 5] (fun v p i => ∃ (k : Nat) (acc q : Int), DecAt zs k acc ∧ 128 ^ k = q ∧ i = .int .i64 k ∧ v = .int .u64 acc ∧ p = .int .u64 q) (fun _ _ i => zs.length - (intOf i).toNat)
    case atStart => exact ⟨0, 0, 1, S.out, rfl, rfl, rfl, rfl⟩
    case round =>
      obtain ⟨k, acc, q, hat, hq, rfl, rfl, rfl⟩ := hrel
      have HA := Lib.hid hat
      obtain ⟨hk, h9, a0, a1, _⟩ := hat
      have hp := En.p128 k h9
      have hp8 := En.p128_8 k
      rw [hq] at a1 hp hp8
      have HQ := Lib.hid hq
      clear hq
      obtain ⟨hp1, hp2⟩ := hp
      by_cases hlt : k < zs.length
      · obtain ⟨bb, off, z, rfl, hbb, hc, hz, z0, z1⟩ := H.out.at_ hlt
        by_cases hb9 : k = 9 ∧ 1 < z
        · have E0 := Lib.hid (HA.out.bad hlt hz.out (.inl hb9))
          obtain ⟨rfl, hz1⟩ := hb9
          clear hp8
          go_wp2_with fail
          refine SP.out.mono ?_; rintro e w' ⟨rfl, hp⟩
          go_wp2
          go_ret
          exact UPost.bad E0.out hp
        · have hg := En.group_bd k acc (z % 128) h9 a0 (by rw [HQ.out]; exact a1) (by omega) (by omega) (by omega)
          rw [HQ.out] at hg
          obtain ⟨g0, g1, _⟩ := hg
          by_cases hz128 : z < 128
          · by_cases hb0 : 0 < k ∧ z = 0
            · have E0 := Lib.hid (HA.out.bad hlt hz.out (.inr hb0))
              obtain ⟨hk0, rfl⟩ := hb0
              have hk0' : 0 < (k : Int) := by omega
              clear hp8 hz128 hk0
              by_cases hk9 : k = 9
              · subst hk9
                clear hb9
                go_wp2_with fail
                refine SP.out.mono ?_; rintro e w' ⟨rfl, hp⟩
                go_wp2
                go_ret
                exact UPost.bad E0.out hp
              · have hk9' : (k : Int) < 9 := by omega
                clear hb9 hk9
                go_wp2_with fail
                refine SP.out.mono ?_; rintro e w' ⟨rfl, hp⟩
                go_wp2
                go_ret
                exact UPost.bad E0.out hp
            · have e0 := HA.out.last hlt hz.out (by omega) hz128
              have em : z % 128 = z := by omega
              rw [HQ.out, ← em] at e0
              have E0 := Lib.hid e0
              have SL := SF.out (k + 1) (by omega)
              have ec : ((k + 1 : Nat) : Int) = (k : Int) + 1 := by omega
              rw [ec] at SL
              clear em e0 ec hp8
              by_cases hk9 : k = 9
              · subst hk9
                have hz1 : z ≤ 1 := by omega
                have hz2 : 0 < z := by omega
                have SL10 : ∀ W, (Instr.slice 27 (.slice (some ⟨bb, off, none⟩) zs.length cap) (some (.int .i64 10)) none none).run Tryd.prog W = .ok (.slice (tailA (some ⟨bb, off, none⟩) cap 10) (zs.length - 10) (cap - 10)) W := SF.out 10 (by omega)
                clear hb9 hb0 SL
                go_wp2
                go_ret
                exact UPost.good E0.out (HM.out 10)
              · have hk9' : (k : Int) < 9 := by omega
                by_cases hk0 : 0 < k
                · have hz2 : 0 < z := by omega
                  clear hb9 hb0 hk9
                  go_wp2
                  go_ret
                  exact UPost.good E0.out (HM.out _)
                · have hk0' : (k : Int) ≤ 0 := by omega
                  clear hb9 hb0 hk9 hk0
                  by_cases hz0 : z = 0
                  · subst hz0
                    have e1 : acc + 0 % 128 * q = acc := by simp
                    have e2 := E0.out
                    rw [e1] at e2
                    have E2 := Lib.hid e2
                    clear e1 e2
                    go_wp2
                    go_ret
                    exact UPost.good E2.out (HM.out _)
                  · have hz2 : 0 < z := by omega
                    clear hz0
                    go_wp2
                    go_ret
                    exact UPost.good E0.out (HM.out _)
          · have hn := HA.out.next hlt hz.out (by omega) (by omega) z1
            rw [HQ.out] at hn
            have HN := Lib.hid hn
            have hq2 : (128 : Int) ^ (k + 1) = q * 128 := by rw [Int.pow_succ, HQ.out]
            have HQ2 := Lib.hid hq2
            have k8 : (k : Int) < 9 := by omega
            have q8 : q ≤ 72057594037927936 := hp8 (by omega)
            have z128 : 128 ≤ z := by omega
            clear hn hq2 hb9 hp8
            go_wp2
            go_round
            case rel => exact ⟨k + 1, _, _, HN.out, HQ2.out, by go_num, rfl, rfl⟩
            case measure => simp [intOf]; omega
      · have E0 := Lib.hid (HA.out.out hlt)
        clear hp8
        go_wp2_with fail
        refine SP.out.mono ?_; rintro e w' ⟨rfl, hp⟩
        go_wp2
        go_ret
        exact UPost.bad E0.out hp
  · have HE := Lib.hid h.emptied
    have hb : En.okU zs true = false := by unfold En.okU; rfl
    have hv : En.valU zs true = 0 := by unfold En.valU; rw [hb]; rfl
    have hr : En.restU zs true = [] := by unfold En.restU; rw [hb]; rfl
    unfold UPost
    rw [hb, hv, hr]
    obtain ⟨A, cap, h1, h2, h3, h4⟩ := h
    obtain ⟨⟨c0, c1⟩, f0, f1⟩ := obj2P h1
    clear h1 h2 h3 h4 hb hv hr
    go_enter Tryd.func31, Tryd.ntmps31
    go_wp2
    go_ret
    exact ⟨rfl, HE.out⟩
theorem refU_all (g : Nat) (zs : List Int) (b : Bool) (w : World) (h : InAt w 63 g zs b) :
    Calls Tryd.prog 31 #[.pointer (some ⟨g, 0, none⟩)] w fun e w' => e = .returned (.int .u64 (En.valU zs b)) ∧ InPost w 63 g (En.restU zs b) (!En.okU zs b) w' :=
  refU_any g zs b w h
end Go.Proofs.YtighnooklcmjaaaDoor
/-
  The reading of a signed number, of a string and of a small number by the reference's chapter 3: the same plain reading.
-/
namespace Go.Proofs.YtighnooklcmjaaaDoor
open Go.RowKit
set_option maxRecDepth 20000 in
set_option maxHeartbeats 1000000 in
theorem refS_yes (g : Nat) (ys : List Int) (b : Bool) (most : Int) (k : Nat) (m0 : (k : Int) ≤ most) (m1 : most ≤ 9223372036854775807) (hk : k ≤ ys.length) (w : World)
    (U : Calls Tryd.prog 31 #[.pointer (some ⟨g, 0, none⟩)] w fun e w' => e = .returned (.int .u64 (k : Int)) ∧ InPost w 63 g ys b w') (hb : b = false) :
    Calls Tryd.prog 32 #[.pointer (some ⟨g, 0, none⟩), .int .i64 most] w fun e w' => e = .returned (.string (strOfNums (ys.take k))) ∧ InPost w 63 g (ys.drop k) false w' := by
  subst hb
  have HU := Lib.hid U
  clear U
  have m2 : 0 ≤ most := by omega
  go_enter Tryd.func32, Tryd.ntmps32
  go_wp2_with fail
  refine HU.out.mono ?_; rintro e w1 ⟨rfl, hp⟩
  have HP := Lib.hid hp
  obtain ⟨A, cap, h1, h2, h3, h4⟩ := hp.1
  clear hp
  obtain ⟨⟨c0, c1⟩, f0, f1⟩ := obj2P h1
  have HM := Lib.hid (InAt.moved h1 h2 h3 h4 k)
  have CS := conv_head h4 k cap hk
  have ST := slice_to A ys.length cap k (by omega) .u64
  have SF := slice_from A ys.length cap k hk .u64
  clear h1 h4
  go_wp2
  go_ret
  exact ⟨rfl, HP.out.trans HM.out⟩
set_option maxRecDepth 20000 in
set_option maxHeartbeats 1000000 in
theorem refS_no (g : Nat) (ys : List Int) (b : Bool) (most v : Int) (m0 : -9223372036854775808 ≤ most) (m1 : most ≤ 9223372036854775807) (_v0 : 0 ≤ v) (_v1 : v < 18446744073709551616) (w : World)
    (U : Calls Tryd.prog 31 #[.pointer (some ⟨g, 0, none⟩)] w fun e w' => e = .returned (.int .u64 v) ∧ InPost w 63 g ys b w')
    (hc : b = true ∨ (b = false ∧ most < 0) ∨ (b = false ∧ 0 ≤ most ∧ most < v) ∨ (b = false ∧ 0 ≤ most ∧ v ≤ most ∧ (ys.length : Int) < v)) :
    Calls Tryd.prog 32 #[.pointer (some ⟨g, 0, none⟩), .int .i64 most] w fun e w' => e = .returned (.string ByteArray.empty) ∧ InPost w 63 g [] true w' := by
  have HU := Lib.hid U
  clear U
  rcases hc with rfl | ⟨rfl, c⟩ | ⟨rfl, c, c2⟩ | ⟨rfl, c, c2, c3⟩
  all_goals
    go_enter Tryd.func32, Tryd.ntmps32
    go_wp2_with fail
    refine HU.out.mono ?_; rintro e w1 ⟨rfl, hp⟩
    have HP := Lib.hid hp
    have SP := Lib.hid (refFail_any g _ _ _ hp.1)
    obtain ⟨A, cap, h1, h2, h3, h4⟩ := hp.1
    clear hp
    obtain ⟨⟨c0, c1⟩, f0, f1⟩ := obj2P h1
    clear h1 h4
    go_wp2_with fail
    refine SP.out.mono ?_; rintro e w' ⟨rfl, hp2⟩
    go_wp2
    go_ret
    exact ⟨rfl, HP.out.trans hp2⟩
theorem refS_any (g : Nat) (zs : List Int) (b : Bool) (most : Int) (m0 : -9223372036854775808 ≤ most) (m1 : most ≤ 9223372036854775807) (w : World) (h : InAt w 63 g zs b) :
    Calls Tryd.prog 32 #[.pointer (some ⟨g, 0, none⟩), .int .i64 most] w fun e w' => e = .returned (.string (En.valS zs b most)) ∧ InPost w 63 g (En.restS zs b most) (!En.okS zs b most) w' := by
  have U := refU_all g zs b w h
  have hr := En.valU_range zs b h.byte
  by_cases hk : En.okS zs b most = true
  · have hv : En.valS zs b most = strOfNums ((En.restU zs b).take (En.valU zs b).toNat) := by unfold En.valS; rw [if_pos hk]
    have hrr : En.restS zs b most = (En.restU zs b).drop (En.valU zs b).toNat := by unfold En.restS; rw [if_pos hk]
    have hk' := hk
    unfold En.okS at hk'
    simp only [Bool.and_eq_true, decide_eq_true_eq] at hk'
    obtain ⟨⟨⟨k1, k2⟩, k3⟩, k4⟩ := hk'
    rw [hv, hrr, hk]
    have e : ((En.valU zs b).toNat : Int) = En.valU zs b := by omega
    rw [← e] at U
    rw [k1] at U
    exact refS_yes g (En.restU zs b) (!true) most (En.valU zs b).toNat (by omega) m1 (by omega) w U rfl
  · have hk' : En.okS zs b most = false := by simpa using hk
    have hv : En.valS zs b most = ByteArray.empty := by unfold En.valS; rw [if_neg hk]
    have hrr : En.restS zs b most = [] := by unfold En.restS; rw [if_neg hk]
    rw [hv, hrr, hk']
    refine refS_no g (En.restU zs b) (!En.okU zs b) most (En.valU zs b) m0 m1 hr.1 hr.2 w U ?_
    unfold En.okS at hk'
    cases ho : En.okU zs b
    · left; rfl
    · right
      rw [ho] at hk'
      simp at hk'
      simp
      omega
theorem small_no {zs : List Int} {b : Bool} {most : Int} (hk : En.okM zs b most = false) : En.valM zs b most = 0 ∧ En.restM zs b most = [] := by
  refine ⟨?_, ?_⟩
  · unfold En.valM; rw [hk]; rfl
  · unfold En.restM; rw [hk]; rfl
set_option maxRecDepth 20000 in
set_option maxHeartbeats 1000000 in
theorem refSmall_any (g : Nat) (zs : List Int) (b : Bool) (most : Int) (_m0 : 0 ≤ most) (_m1 : most < 18446744073709551616) (w : World) (h : InAt w 63 g zs b) :
    Calls Tryd.prog 29 #[.pointer (some ⟨g, 0, none⟩), .int .u64 most] w fun e w' => e = .returned (.int .i64 (En.valM zs b most)) ∧ InPost w 63 g (En.restM zs b most) (!En.okM zs b most) w' := by
  have U := Lib.hid (refU_all g zs b w h)
  have hr := En.valU_range zs b h.byte
  by_cases hk : En.okM zs b most = true
  · have hk' := hk
    unfold En.okM at hk'
    simp only [Bool.and_eq_true, decide_eq_true_eq] at hk'
    obtain ⟨⟨ho, s1⟩, s2⟩ := hk'
    have hv : En.valM zs b most = En.valU zs b := by unfold En.valM; rw [if_pos hk]
    have hrr : En.restM zs b most = En.restU zs b := by unfold En.restM; rw [if_pos hk]
    rw [hk, hv, hrr]
    rw [ho] at U
    clear hk hv hrr ho h
    obtain ⟨r1, r2⟩ := hr
    generalize En.valU zs b = v at *
    go_enter Tryd.func29, Tryd.ntmps29
    go_wp2_with fail
    refine U.out.mono ?_; rintro e w1 ⟨rfl, hp⟩
    have HP := Lib.hid hp
    obtain ⟨A, cap, h1, h2, h3, h4⟩ := hp.1
    clear hp
    obtain ⟨⟨c0, c1⟩, f0, f1⟩ := obj2P h1
    clear h1 h4
    go_wp2
    go_ret
    exact ⟨rfl, HP.out⟩
  · have hk' : En.okM zs b most = false := by simpa using hk
    obtain ⟨hv, hrr⟩ := small_no hk'
    rw [hv, hrr, hk']
    have hc : En.okU zs b = false ∨ (En.okU zs b = true ∧ most < En.valU zs b) ∨ (En.okU zs b = true ∧ En.valU zs b ≤ most ∧ 2147483647 < En.valU zs b) := by
      unfold En.okM at hk'
      cases ho : En.okU zs b
      · left; rfl
      · right
        rw [ho] at hk'
        simp at hk'
        simp
        omega
    clear hk hk' hv hrr h
    obtain ⟨r1, r2⟩ := hr
    generalize En.valU zs b = v at *
    generalize En.restU zs b = ys at *
    generalize En.okU zs b = o at *
    rcases hc with rfl | ⟨rfl, c⟩ | ⟨rfl, c, c2⟩
    all_goals
      go_enter Tryd.func29, Tryd.ntmps29
      go_wp2_with fail
      refine U.out.mono ?_; rintro e w1 ⟨rfl, hp⟩
      have HP := Lib.hid hp
      have SP := Lib.hid (refFail_any g _ _ _ hp.1)
      obtain ⟨A, cap, h1, h2, h3, h4⟩ := hp.1
      clear hp
      obtain ⟨⟨c0, c1⟩, f0, f1⟩ := obj2P h1
      clear h1 h4
      go_wp2_with fail
      refine SP.out.mono ?_; rintro e w' ⟨rfl, hp2⟩
      go_wp2
      go_ret
      exact ⟨rfl, HP.out.trans hp2⟩
end Go.Proofs.YtighnooklcmjaaaDoor
/-
  Structs of one-cell fields that came in, alone or in a slice: each field's cell and its reading.
-/
namespace Go.Proofs.YtighnooklcmjaaaDoor
open Go.ChangeShapes Go.WideShapes Go.ChangeAt Go.RowKit Go.Deep
theorem list_of {α : Type} (d : α) (R : Nat → α → Prop) : ∀ n : Nat, (∀ i, i < n → ∃ x, R i x) → ∃ xs : List α, xs.length = n ∧ ∀ i, i < n → R i (xs.getD i d)
  | 0, _ => ⟨[], rfl, fun i hi => by omega⟩
  | n + 1, h => by
    obtain ⟨xs, hl, hx⟩ := list_of d R n fun i hi => h i (by omega)
    obtain ⟨x, hn⟩ := h n (by omega)
    refine ⟨xs ++ [x], by simp [hl], fun i hi => ?_⟩
    rw [List.getD_eq_getElem?_getD]
    by_cases hi2 : i < n
    · rw [List.getElem?_append_left (by omega), ← List.getD_eq_getElem?_getD]; exact hx i hi2
    · have : i = n := by omega
      subst this
      rw [List.getElem?_append_right (by omega), hl]
      simpa using hn
theorem structs_in {H : Type} {enc : TypeId × Value → H} {P : Program} {w : World} {base : Nat} {spare : Nat → Bool} {held : Bool} {t e : TypeId} {fs : Array Field} {fuel : Nat} {cs : List Value} {x : DataW H × List MemPlace}
    (ht : P.underlying t = some (.slice e)) (he : P.underlying e = some (.struct fs)) (h1 : 0 < fs.size) (hC : P.cellsOf e = fs.size) (hone : ∀ (j : Nat) (f : Field), fs[j]? = some f → f.offset = j ∧ P.cellsOf f.type = 1)
    (h : DataW.trod enc P w base spare held fuel t cs = some x) :
    ∃ (A : Option Addr) (len cap : Nat), cs = [.slice A len cap] ∧ len ≤ cap ∧ cap ≤ 9223372036854775807 ∧
      (0 < len → ∃ b off, A = some ⟨b, off, none⟩ ∧ ∀ i, i < len → ∀ (j : Nat) (f : Field), fs[j]? = some f → ∃ v y n, w.cell? ⟨b, off + (i * fs.size + j), none⟩ = some v ∧ DataW.trod enc P w base spare held n f.type [v] = some y) := by
  rcases open_slice ht h with ⟨h0, _⟩ | ⟨a, len, cap, m, n, D, Pl, hcs, hb, hl, hm, hmm, _, hi⟩
  · exact ⟨none, 0, 0, h0, Nat.le_refl _, by decide, fun h => by omega⟩
  · have hlm : len ≤ m := by rw [hmm]; split <;> omega
    unfold maxLen at hm
    have key : ∀ i, i < len → ∀ (j : Nat) (f : Field), fs[j]? = some f → ∃ v y n, w.cell? (a.add (i * fs.size + j)) = some v ∧ DataW.trod enc P w base spare held n f.type [v] = some y := fun i hil j f hj => by
      obtain ⟨cs', h1, h2⟩ := hi i (by omega)
      obtain ⟨_, hlen, hat⟩ := World.cells?_some h1
      obtain ⟨ys, k, _, _, _, hyl, hf⟩ := DataW.trod_struct he h2
      obtain ⟨o1, o2⟩ := hone j f hj
      have hjl : j < fs.size := (Array.getElem?_eq_some_iff.1 hj).1
      have h3 := hf j f hj
      have hjc : j < cs'.length := by omega
      rw [o1, o2, List.drop_eq_getElem_cons hjc, List.getElem?_eq_getElem (by omega : j < ys.length)] at h3
      refine ⟨cs'[j], _, k, ?_, h3⟩
      have h4 := hat j (by omega)
      rw [hC, Go.Deep.add_add, List.getElem?_eq_getElem hjc] at h4
      exact h4
    refine ⟨some a, len, cap, hcs, hl, hm, fun h0 => ?_⟩
    obtain ⟨b, off, spot⟩ := a
    obtain ⟨f, hf⟩ : ∃ f, fs[0]? = some f := ⟨fs[0]'h1, Array.getElem?_eq_getElem h1⟩
    obtain ⟨v, _, _, hv, _⟩ := key 0 h0 0 f hf
    have hs : spot = none := by simpa [Addr.add] using World.cell?_spot hv
    subst hs
    refine ⟨b, off, rfl, fun i hil j f hj => ?_⟩
    obtain ⟨v, y, k, h1, h2⟩ := key i hil j f hj
    rw [add_off] at h1
    exact ⟨v, y, k, h1, h2⟩
theorem i64_of {H : Type} {enc : TypeId × Value → H} {P : Program} {w : World} {base : Nat} {spare : Nat → Bool} {held : Bool} {t : TypeId} {n : Nat} {v : Value} {y : DataW H × List MemPlace} (ht : P.underlying t = some (.int .i64)) (h : DataW.trod enc P w base spare held n t [v] = some y) :
    ∃ k, v = .int .i64 k ∧ -9223372036854775808 ≤ k ∧ k ≤ 9223372036854775807 := by
  obtain ⟨k, e, _, hw⟩ := DataW.trod_int ht h
  have hw' : -9223372036854775808 ≤ k ∧ k ≤ 9223372036854775807 := by simpa [Lit.wf, IntKind.min, IntKind.max, IntKind.bits, IntKind.signed] using hw
  exact ⟨k, by simpa using e, hw'⟩
theorem str_of {H : Type} {enc : TypeId × Value → H} {P : Program} {w : World} {base : Nat} {spare : Nat → Bool} {held : Bool} {t : TypeId} {n : Nat} {v : Value} {y : DataW H × List MemPlace} (ht : P.underlying t = some .string) (h : DataW.trod enc P w base spare held n t [v] = some y) :
    ∃ s : ByteArray, v = .string s ∧ s.size ≤ 9223372036854775807 := by
  obtain ⟨s, e, _, hw⟩ := DataW.trod_string ht h
  unfold maxLen at hw
  exact ⟨s, by simpa using e, hw⟩
theorem bool_of {H : Type} {enc : TypeId × Value → H} {P : Program} {w : World} {base : Nat} {spare : Nat → Bool} {held : Bool} {t : TypeId} {n : Nat} {v : Value} {y : DataW H × List MemPlace} (ht : P.underlying t = some .bool) (h : DataW.trod enc P w base spare held n t [v] = some y) :
    ∃ b : Bool, v = .bool b := by
  obtain ⟨b, e, _⟩ := DataW.trod_bool ht h
  exact ⟨b, by simpa using e⟩
end Go.Proofs.YtighnooklcmjaaaDoor
/-
  A slice of structs that came in, whatever their fields: each element's cells and their reading; a struct's fields out of its cells.
-/
namespace Go.Proofs.YtighnooklcmjaaaDoor
open Go.ChangeShapes Go.WideShapes Go.ChangeAt Go.RowKit Go.Deep
theorem rows_in {H : Type} {enc : TypeId × Value → H} {P : Program} {w : World} {base : Nat} {spare : Nat → Bool} {held : Bool} {t e : TypeId} {fs : Array Field} {k fuel : Nat} {cs : List Value} {x : DataW H × List MemPlace}
    (ht : P.underlying t = some (.slice e)) (he : P.underlying e = some (.struct fs)) (hC : P.cellsOf e = k) (hk : 0 < k) (h : DataW.trod enc P w base spare held fuel t cs = some x) :
    ∃ (A : Option Addr) (len cap : Nat), cs = [.slice A len cap] ∧ len ≤ cap ∧ cap ≤ 9223372036854775807 ∧
      (0 < len → ∃ b off, A = some ⟨b, off, none⟩ ∧ ∀ i, i < len → ∃ (zs : List Value) (n : Nat) (y : DataW H × List MemPlace), zs.length = k ∧ DataW.trod enc P w base spare held n e zs = some y ∧ ∀ (j : Nat) (hj : j < zs.length), w.cell? ⟨b, off + i * k + j, none⟩ = some zs[j]) := by
  rcases open_slice ht h with ⟨h0, _⟩ | ⟨a, len, cap, m, n, D, Pl, hcs, hb, hl, hm, hmm, _, hi⟩
  · exact ⟨none, 0, 0, h0, Nat.le_refl _, by decide, fun h => by omega⟩
  · have hlm : len ≤ m := by rw [hmm]; split <;> omega
    unfold maxLen at hm
    have key : ∀ i, i < len → ∃ (zs : List Value) (n : Nat) (y : DataW H × List MemPlace), zs.length = k ∧ DataW.trod enc P w base spare held n e zs = some y ∧ ∀ (j : Nat) (hj : j < zs.length), w.cell? (a.add (i * k + j)) = some zs[j] := fun i hil => by
      obtain ⟨zs, h1, h2⟩ := hi i (by omega)
      obtain ⟨_, hlen, hat⟩ := World.cells?_some h1
      obtain ⟨_, _, _, _, hzl, _, _⟩ := DataW.trod_struct he h2
      refine ⟨zs, _, _, by rw [hzl, hC], h2, fun j hj => ?_⟩
      have h4 := hat j (by omega)
      rw [hC, Go.Deep.add_add, List.getElem?_eq_getElem hj] at h4
      exact h4
    refine ⟨some a, len, cap, hcs, hl, hm, fun h0 => ?_⟩
    obtain ⟨b, off, spot⟩ := a
    obtain ⟨zs, _, _, hz, _, hv⟩ := key 0 h0
    have hs : spot = none := by simpa [Addr.add] using World.cell?_spot (hv 0 (by omega))
    subst hs
    refine ⟨b, off, rfl, fun i hil => ?_⟩
    obtain ⟨zs, n, y, h1, h2, h3⟩ := key i hil
    refine ⟨zs, n, y, h1, h2, fun j hj => ?_⟩
    have h4 := h3 j hj
    rw [add_off, ← Nat.add_assoc] at h4
    exact h4
/-- A field's cells, read. -/
theorem field_in {H : Type} {enc : TypeId × Value → H} {P : Program} {w : World} {base : Nat} {spare : Nat → Bool} {held : Bool} {e : TypeId} {fs : Array Field} {n : Nat} {zs : List Value} {y : DataW H × List MemPlace}
    (he : P.underlying e = some (.struct fs)) (h : DataW.trod enc P w base spare held n e zs = some y) (j : Nat) (f : Field) (hj : fs[j]? = some f) {o c : Nat} (ho : f.offset = o) (hc : P.cellsOf f.type = c) :
    ∃ m y', DataW.trod enc P w base spare held m f.type ((zs.drop o).take c) = some y' := by
  obtain ⟨ys, m, _, _, _, hyl, hf⟩ := DataW.trod_struct he h
  have h3 := hf j f hj
  have hjl : j < fs.size := (Array.getElem?_eq_some_iff.1 hj).1
  rw [ho, hc, List.getElem?_eq_getElem (by omega : j < ys.length)] at h3
  exact ⟨m, _, h3⟩
end Go.Proofs.YtighnooklcmjaaaDoor
/-
  A slice of bytes that came in, as the walks take it: what it holds, from its reading.
-/
namespace Go.Proofs.YtighnooklcmjaaaDoor
open Go.ChangeShapes Go.WideShapes Go.ChangeAt Go.RowKit
theorem bytes_of_ints {W : World} {x : Addr} {len : Nat} {zs : List Int} (hl : len ≤ zs.length) (hc : ∀ i, i < zs.length → W.cell? (x.add i) = some (.int .u8 (zs.getD i 0))) (hw : ∀ n ∈ zs, (Lit.int .u8 n).wf = true) :
    Bytes W W.heap.size (some x) (zs.take len) := by
  have hlen : (zs.take len).length = len := by simp; omega
  have hg : ∀ i, i < len → (zs.take len).getD i 0 = zs.getD i 0 := fun i hi => by
    rw [List.getD_eq_getElem?_getD, List.getD_eq_getElem?_getD, List.getElem?_take_of_lt hi]
  refine ⟨fun i hi => ?_, fun hn => ?_⟩
  · rw [hlen] at hi
    rw [hg i hi, List.getD_eq_getElem?_getD, List.getElem?_eq_getElem (by omega)]
    have h := hw _ (List.getElem_mem (show i < zs.length by omega))
    simpa [Lit.wf, IntKind.min, IntKind.max, IntKind.bits, IntKind.signed] using h
  · rw [hlen] at hn
    obtain ⟨b, off, spot⟩ := x
    have h0 := hc 0 (by omega)
    have hspot : spot = none := by simpa [Addr.add] using World.cell?_spot h0
    subst hspot
    have hadd : ∀ i, Addr.add ⟨b, off, none⟩ i = ⟨b, off + i, none⟩ := fun i => by
      unfold Addr.add
      split
      · next h => subst h; rfl
      · rfl
    refine ⟨b, off, rfl, ?_, fun i hi => ?_⟩
    · rw [hadd] at h0
      exact block_lt h0
    · rw [hlen] at hi
      rw [hg i hi, ← hadd]
      exact hc i (by omega)
end Go.Proofs.YtighnooklcmjaaaDoor
