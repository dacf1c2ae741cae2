/-
  The reading methods of package enc, at every reader: what each tells and what it leaves is the plain reading of the text En; nothing but the reader's own block changes.
-/
import Derived.Test.YthenjipljkphiaaEncFirst
namespace Go.Proofs.Ythenjipljkphiaa
open Go.RowKit

/-! ### An object of one or two cells -/
theorem obj2 {w : World} {g : Nat} {x y : Value} {t : TypeId} (h : w.heap[g]? = some (.cells #[x, y] t (0, 0))) :
    (w.cell? ⟨g, 0, none⟩ = some x ∧ w.cell? ⟨g, 1, none⟩ = some y) ∧ w.frozen? ⟨g, 0, none⟩ = false ∧ w.frozen? ⟨g, 1, none⟩ = false :=
  ⟨⟨by simp [World.cell?, h], by simp [World.cell?, h]⟩, by simp [World.frozen?, h], by simp [World.frozen?, h]⟩
theorem obj_set {w : World} {g o : Nat} {cs : Array Value} {t : TypeId} (h : w.heap[g]? = some (.cells cs t (0, 0))) (v : Value) :
    (w.setCell ⟨g, o, none⟩ v).heap[g]? = some (.cells (cs.setIfInBounds o v) t (0, 0)) := heap_setCell_same w g o cs t v h

/-- A reader at block g: what is left to read, and whether it is bad. -/
def InAt (w : World) (t g : Nat) (zs : List Int) (b : Bool) : Prop :=
  ∃ A cap, w.heap[g]? = some (.cells #[.slice A zs.length cap, .bool b] t (0, 0)) ∧ zs.length ≤ cap ∧ zs.length ≤ 4611686018427387904 ∧ Bytes w w.heap.size A zs
def InPost (w : World) (t g : Nat) (zs : List Int) (b : Bool) (w' : World) : Prop := InAt w' t g zs b ∧ But w.heap.size g w w'
theorem no_u8 (x : Value) (hx : ∀ n, x ≠ .int .u8 n) (b : Bool) : ∀ (i : Nat) (n : Int), (#[x, .bool b] : Array Value)[i]? ≠ some (.int .u8 n) := by
  intro i n
  rcases i with _ | _ | i
  · simpa using hx n
  · simp
  · simp
theorem InAt.byte {w : World} {t g : Nat} {zs : List Int} {b : Bool} (h : InAt w t g zs b) : En.Byte zs := by
  obtain ⟨A, cap, _, _, _, hb⟩ := h; exact hb.mem
theorem InAt.lt {w : World} {t g : Nat} {zs : List Int} {b : Bool} (h : InAt w t g zs b) : g < w.heap.size := by
  obtain ⟨A, cap, ho, _⟩ := h; exact lt_of_block ho
/-- A reader stays what it is where nothing but another object has changed. -/
theorem InAt.keep {w w' : World} {t g g' : Nat} {zs : List Int} {b : Bool} {cs : Array Value} {t' : TypeId} (h : InAt w t g zs b) (hB : But w.heap.size g' w w') (ho : w.heap[g']? = some (.cells cs t' (0, 0)))
    (hv : ∀ (i : Nat) (n : Int), cs[i]? ≠ some (.int .u8 n)) (hg : g ≠ g') : InAt w' t g zs b := by
  obtain ⟨A, cap, h1, h2, h3, h4⟩ := h
  exact ⟨A, cap, (hB.block g (lt_of_block h1) hg).trans h1, h2, h3, (h4.but hB ho hv).more hB.size⟩
theorem InAt.below {w w' : World} {t g B : Nat} {zs : List Int} {b : Bool} (h : InAt w t g zs b) (hB : Below B w w') (hw : w.heap.size ≤ B) : InAt w' t g zs b := by
  obtain ⟨A, cap, h1, h2, h3, h4⟩ := h
  exact ⟨A, cap, (hB.block g (by have := lt_of_block h1; omega)).trans h1, h2, h3, (h4.below (hB.mono hw)).more hB.size⟩
theorem InAt.spoilt {w : World} {t g : Nat} {zs : List Int} {b : Bool} (h : InAt w t g zs b) :
    InPost w t g [] true ((w.setCell ⟨g, 0, none⟩ (.slice none 0 0)).setCell ⟨g, 1, none⟩ (.bool true)) := by
  obtain ⟨A, cap, h1, h2, h3, h4⟩ := h
  exact ⟨⟨none, 0, obj_set (obj_set h1 _) _, by decide, by decide, Bytes.nil_⟩, (But.set _ g 0 w _).trans (But.set _ g 1 _ _)⟩
theorem InAt.spoilt' {w : World} {t g : Nat} {zs : List Int} {b : Bool} (h : InAt w t g zs b) :
    InPost w t g [] true ((w.setCell ⟨g, 1, none⟩ (.bool true)).setCell ⟨g, 0, none⟩ (.slice none 0 0)) := by
  obtain ⟨A, cap, h1, h2, h3, h4⟩ := h
  exact ⟨⟨none, 0, obj_set (obj_set h1 _) _, by decide, by decide, Bytes.nil_⟩, (But.set _ g 1 w _).trans (But.set _ g 0 _ _)⟩
theorem InAt.emptied {w : World} {t g : Nat} {zs : List Int} (h : InAt w t g zs true) : InPost w t g [] true (w.setCell ⟨g, 0, none⟩ (.slice none 0 0)) := by
  obtain ⟨A, cap, h1, h2, h3, h4⟩ := h
  exact ⟨⟨none, 0, obj_set h1 _, by decide, by decide, Bytes.nil_⟩, But.set _ g 0 w _⟩
/-- What it was before does not matter to how it ends. -/
theorem InPost.trans {w w1 w2 : World} {t g : Nat} {zs ys : List Int} {b c : Bool} (h : InPost w t g zs b w1) (k : InPost w1 t g ys c w2) : InPost w t g ys c w2 :=
  ⟨k.1, h.2.trans (k.2.mono h.2.size)⟩
theorem InAt.moved {w : World} {t g : Nat} {A : Option Addr} {cap : Nat} {zs : List Int} {b : Bool} (h1 : w.heap[g]? = some (.cells #[.slice A zs.length cap, .bool b] t (0, 0))) (h2 : zs.length ≤ cap) (h3 : zs.length ≤ 4611686018427387904)
    (h4 : Bytes w w.heap.size A zs) (k : Nat) : InPost w t g (zs.drop k) b (w.setCell ⟨g, 0, none⟩ (.slice (tailA A cap k) (zs.length - k) (cap - k))) := by
  refine ⟨⟨tailA A cap k, cap - k, ?_, ?_, ?_, ?_⟩, But.set _ g 0 w _⟩
  · rw [List.length_drop]; exact obj_set h1 _
  · rw [List.length_drop]; omega
  · rw [List.length_drop]; omega
  · have hs : (w.setCell ⟨g, 0, none⟩ (.slice (tailA A cap k) (zs.length - k) (cap - k))).heap.size = w.heap.size := by simp [World.setCell]
    rw [hs]
    exact (h4.tail k cap h2).but (But.set _ g 0 w _) h1 (no_u8 _ (fun n => by simp) b)

/-! ### spoil, U -/
set_option maxHeartbeats 400000 in
theorem spoil_any (g : Nat) (zs : List Int) (b : Bool) (w : World) (h : InAt w 33 g zs b) :
    Calls Try.prog 24 #[.pointer (some ⟨g, 0, none⟩)] w fun e w' => e = .returned (.tuple #[]) ∧ InPost w 33 g [] true w' := by
  have HP := Lib.hid h.spoilt
  obtain ⟨A, cap, h1, _, _, _⟩ := h
  obtain ⟨⟨c0, c1⟩, f0, f1⟩ := obj2 h1
  clear h1
  go_enter Try.func24, Try.ntmps24
  go_wp2
  go_end0
  exact ⟨rfl, HP.out⟩
theorem first_yes (B : Nat) (A : Option Addr) (zs : List Int) (cap : Nat) (hl : zs.length ≤ 9223372036854775807) (v : Int) (n : Nat) (hd : En.decU zs = (v, n)) (w : World) (hb : Bytes w B A zs) :
    Calls Try.prog 23 #[.slice A zs.length cap] w fun e w' => e = .returned (.tuple #[.int .u64 v, .int .i64 (n : Int)]) ∧ w = w' := by
  have h := first_any B A zs cap hl w hb
  rw [hd] at h
  exact h
set_option maxHeartbeats 1000000 in
theorem inU_any (g : Nat) (zs : List Int) (b : Bool) (w : World) (h : InAt w 33 g zs b) :
    Calls Try.prog 12 #[.pointer (some ⟨g, 0, none⟩)] w fun e w' => e = .returned (.int .u64 (En.valU zs b)) ∧ InPost w 33 g (En.restU zs b) (!En.okU zs b) w' := by
  have SP := Lib.hid (spoil_any g zs b w h)
  have hz := h.byte
  obtain ⟨A, cap, h1, h2, h3, h4⟩ := h
  obtain ⟨⟨c0, c1⟩, f0, f1⟩ := obj2 h1
  obtain ⟨v, n, hd⟩ : ∃ v n, En.decU zs = (v, n) := ⟨_, _, rfl⟩
  have FA := Lib.hid (first_yes _ A zs cap (by omega) v n hd w h4)
  by_cases hok : En.okU zs b = true
  · have hv : En.valU zs b = v := by unfold En.valU; rw [if_pos hok, hd]
    have hr : En.restU zs b = zs.drop n := by unfold En.restU; rw [if_pos hok, hd]
    have hbn : b = false ∧ 0 < n := by unfold En.okU at hok; rw [hd] at hok; simpa using hok
    have hn : n ≤ zs.length := by have := (En.decU_range zs hz).2; rw [hd] at this; exact this
    obtain ⟨rfl, hn0⟩ := hbn
    rw [hv, hr, hok]
    have HP := Lib.hid (InAt.moved h1 h2 h3 h4 n)
    have hn0' : 0 < (n : Int) := by omega
    have SL := slice_from A zs.length cap n hn .i64
    clear hv hr hok h1 h4 hd hz
    go_enter Try.func12, Try.ntmps12
    go_wp2_with fail
    refine FA.out.mono ?_; rintro e w' ⟨rfl, rfl⟩
    go_wp2
    go_ret
    exact ⟨rfl, HP.out⟩
  · have hok' : En.okU zs b = false := by simpa using hok
    have hv : En.valU zs b = 0 := by unfold En.valU; rw [if_neg hok]
    have hr : En.restU zs b = [] := by unfold En.restU; rw [if_neg hok]
    have hbn : b = true ∨ (b = false ∧ n = 0) := by
      unfold En.okU at hok'; rw [hd] at hok'
      cases b
      · right; refine ⟨rfl, ?_⟩; simpa using hok'
      · left; rfl
    rw [hv, hr, hok']
    clear hv hr hok hok' h1 h4 hd hz
    rcases hbn with rfl | ⟨rfl, rfl⟩
    all_goals
      go_enter Try.func12, Try.ntmps12
      go_wp2_with fail
      refine FA.out.mono ?_; rintro e w' ⟨rfl, rfl⟩
      go_wp2_with fail
      refine SP.out.mono ?_; rintro e w' ⟨rfl, hp⟩
      go_wp2
      go_ret
      exact ⟨rfl, hp⟩

/-! ### I, S, Small, End -/
set_option maxHeartbeats 1000000 in
theorem inI_any (g : Nat) (zs : List Int) (b : Bool) (w : World) (h : InAt w 33 g zs b) :
    Calls Try.prog 13 #[.pointer (some ⟨g, 0, none⟩)] w fun e w' => e = .returned (.int .i64 (Pl.unfoldV (En.valU zs b))) ∧ InPost w 33 g (En.restU zs b) (!En.okU zs b) w' := by
  have U := Lib.hid (inU_any g zs b w h)
  have hr := En.valU_range zs b h.byte
  have F := Lib.hid (fun w => unfold_any (En.valU zs b) hr.1 hr.2 w)
  clear h hr
  generalize En.valU zs b = v at *
  generalize En.restU zs b = ys at *
  generalize En.okU zs b = o at *
  go_enter Try.func13, Try.ntmps13
  go_wp2_with fail
  refine U.out.mono ?_; rintro e w' ⟨rfl, hp⟩
  go_wp2_with fail
  refine (F.out _).mono ?_; rintro e w' ⟨rfl, rfl⟩
  go_wp2
  go_ret
  exact ⟨rfl, hp⟩
set_option maxHeartbeats 1000000 in
theorem inEnd_any (t g : Nat) (zs : List Int) (b : Bool) (w : World) (h : InAt w t g zs b) :
    Calls Try.prog 16 #[.pointer (some ⟨g, 0, none⟩)] w fun e w' => e = .returned (.bool (En.isEnd zs b)) ∧ w = w' := by
  obtain ⟨A, cap, h1, h2, h3, h4⟩ := h
  obtain ⟨⟨c0, c1⟩, f0, f1⟩ := obj2 h1
  clear h1 h4
  cases b
  · by_cases hz : zs.length = 0
    · have he : En.isEnd zs false = true := by simp [En.isEnd, hz]
      rw [he]
      have hz' : (zs.length : Int) = 0 := by omega
      rw [hz] at c0
      clear he hz hz' h2 h3
      go_enter Try.func16, Try.ntmps16
      go_wp2
      go_ret
      exact ⟨rfl, rfl⟩
    · have he : En.isEnd zs false = false := by simp [En.isEnd]; intro e; subst e; simp at hz
      rw [he]
      have hz' : 0 < (zs.length : Int) := by omega
      clear he hz
      go_enter Try.func16, Try.ntmps16
      go_wp2
      go_ret
      exact ⟨ret_bool (by simp; intro e; subst e; simp at hz'), rfl⟩
  · have he : En.isEnd zs true = false := by simp [En.isEnd]
    rw [he]
    clear he
    go_enter Try.func16, Try.ntmps16
    go_wp2
    go_ret
    exact ⟨rfl, rfl⟩
theorem small_yes {v most : Int} {o : Bool} {zs : List Int} {b : Bool} (ho : En.okU zs b = o) (hv : En.valU zs b = v) : En.okM zs b most = (o && decide (v ≤ most) && decide (v ≤ 2147483647)) := by
  unfold En.okM; rw [ho, hv]
set_option maxHeartbeats 1000000 in
theorem inSmall_any (g : Nat) (zs : List Int) (b : Bool) (most : Int) (m0 : 0 ≤ most) (_m1 : most < 18446744073709551616) (w : World) (h : InAt w 33 g zs b) :
    Calls Try.prog 15 #[.pointer (some ⟨g, 0, none⟩), .int .u64 most] w fun e w' => e = .returned (.int .i64 (En.valM zs b most)) ∧ InPost w 33 g (En.restM zs b most) (!En.okM zs b most) w' := by
  have U := Lib.hid (inU_any g zs b w h)
  have hr := En.valU_range zs b h.byte
  by_cases ho : En.okU zs b = true
  · by_cases hs : En.valU zs b ≤ most ∧ En.valU zs b ≤ 2147483647
    · have hk : En.okM zs b most = true := by unfold En.okM; rw [ho]; simp [hs]
      have hv : En.valM zs b most = En.valU zs b := by unfold En.valM; rw [if_pos hk]
      have hrr : En.restM zs b most = En.restU zs b := by unfold En.restM; rw [if_pos hk]
      rw [hk, hv, hrr]
      rw [ho] at U
      clear hk hv hrr ho h
      obtain ⟨s1, s2⟩ := hs
      obtain ⟨r1, r2⟩ := hr
      generalize En.valU zs b = v at *
      go_enter Try.func15, Try.ntmps15
      go_wp2_with fail
      refine U.out.mono ?_; rintro e w' ⟨rfl, hp⟩
      go_wp2
      go_ret
      exact ⟨rfl, hp⟩
    · have hk : En.okM zs b most = false := by
        unfold En.okM; rw [ho]; simp; omega
      have hv : En.valM zs b most = 0 := by unfold En.valM; rw [hk]; rfl
      have hrr : En.restM zs b most = [] := by unfold En.restM; rw [hk]; rfl
      have hc : most < En.valU zs b ∨ (En.valU zs b ≤ most ∧ 2147483647 < En.valU zs b) := by omega
      rw [hk, hv, hrr]
      clear hk hv hrr h hs ho
      obtain ⟨r1, r2⟩ := hr
      generalize En.valU zs b = v at *
      generalize En.restU zs b = ys at *
      generalize En.okU zs b = o at *
      rcases hc with hc | ⟨hc, hc2⟩
      all_goals
        go_enter Try.func15, Try.ntmps15
        go_wp2_with fail
        refine U.out.mono ?_; rintro e w' ⟨rfl, hp⟩
        have HP := Lib.hid hp
        clear hp
        go_wp2_with fail
        refine (spoil_any g _ _ _ HP.out.1).mono ?_; rintro e w' ⟨rfl, hp2⟩
        go_wp2
        go_ret
        exact ⟨rfl, HP.out.trans hp2⟩
  · have ho' : En.okU zs b = false := by simpa using ho
    have hk : En.okM zs b most = false := by unfold En.okM; rw [ho']; rfl
    have hv : En.valM zs b most = 0 := by unfold En.valM; rw [hk]; rfl
    have hrr : En.restM zs b most = [] := by unfold En.restM; rw [hk]; rfl
    have hvu : En.valU zs b = 0 := by unfold En.valU; rw [if_neg ho]
    have hru : En.restU zs b = [] := by unfold En.restU; rw [if_neg ho]
    rw [hk, hv, hrr]
    rw [hvu, hru, ho'] at U
    clear hk hv hrr h ho ho' hvu hru hr
    go_enter Try.func15, Try.ntmps15
    go_wp2_with fail
    refine U.out.mono ?_; rintro e w' ⟨rfl, hp⟩
    go_wp2
    go_ret
    exact ⟨rfl, hp⟩
end Go.Proofs.Ythenjipljkphiaa
