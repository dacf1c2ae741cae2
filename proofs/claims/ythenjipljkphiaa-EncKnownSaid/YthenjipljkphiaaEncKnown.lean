/-
  The law EncKnown: the fixed examples of chapter 3 come out as they are written there.
-/
import Derived.Test.YthenjipljkphiaaEncAwake
import Derived.Test.YthenjipljkphiaaEncInS
namespace Go.Proofs.Ythenjipljkphiaa
open Go.RowKit
theorem lit_below {w w' : World} {t : TypeId} {zs : List Int} {b : Bool} {o p : Obj} (h : InPost ((w.alloc o).alloc p) t (w.heap.size + 1) zs b w') : Below w.heap.size w w' :=
  (((Below.refl _ _).alloc (Nat.le_refl _) _).alloc (by simp) _).trans (h.2.below (by simp; omega) (by omega))
theorem one_below {w w' : World} {t : TypeId} {zs : List Int} {b : Bool} {p : Obj} (h : InPost (w.alloc p) t w.heap.size zs b w') : Below w.heap.size w w' :=
  ((Below.refl _ _).alloc (Nat.le_refl _) _).trans (h.2.below (by simp) (Nat.le_refl _))
/-- A reader that has gone bad. -/
def IsBad (w : World) (g : Nat) : Prop := w.cell? ⟨g, 1, none⟩ = some (.bool true) ∧ g < w.heap.size
theorem IsBad.of {w : World} {t g : Nat} {zs : List Int} (h : InAt w t g zs true) : IsBad w g := by
  obtain ⟨A, cap, ho, _⟩ := h
  exact ⟨(obj2 ho).1.2, lt_of_block ho⟩
theorem IsBad.keep {w w' : World} {g B : Nat} (h : IsBad w g) (hb : Below B w w') (hB : w.heap.size ≤ B) : IsBad w' g :=
  ⟨(hb.cell (p := ⟨g, 1, none⟩) (by have := h.2; show g < B; omega)).trans h.1, by have := h.2; have := hb.size; omega⟩
set_option maxHeartbeats 1000000 in
theorem bad_any (A : Option Addr) (cap : Nat) (zs : List Int) (hd : En.decU zs = (0, 0)) (hl : zs.length ≤ 1000) (hc : zs.length ≤ cap) (w : World) (hb : Bytes w w.heap.size A zs) :
    Calls Try.prog 17 #[.slice A zs.length cap] w fun e w' => e = .returned (.bool true) ∧ Below w.heap.size w w' := by
  have IN := Lib.hid (in_new (w := w) 33 cap zs.length rfl hc (by omega) hb (Nat.le_refl _) false)
  have ho : En.okU zs false = false := by unfold En.okU; rw [hd]; rfl
  have hv : En.valU zs false = 0 := by unfold En.valU; rw [ho]; rfl
  have hr : En.restU zs false = [] := by unfold En.restU; rw [ho]; rfl
  have U := Lib.hid (inU_any w.heap.size zs false _ IN.out)
  rw [ho, hv, hr] at U
  clear ho hv hr hd hb
  go_enter Try.func17, Try.ntmps17
  go_wp2_with fail
  refine U.out.mono ?_; rintro e w1 ⟨rfl, h1⟩
  have H1 := Lib.hid h1
  obtain ⟨A1, cap1, ho1, _, _, _⟩ := h1.1
  obtain ⟨⟨c0, c1⟩, _, _⟩ := obj2 ho1
  clear h1 ho1
  go_wp2_with fail
  refine (inEnd_any _ _ _ _ _ H1.out.1).mono ?_; rintro e w' ⟨rfl, rfl⟩
  rw [show En.isEnd [] (!false) = false from rfl]
  go_wp2
  go_ret
  exact ⟨rfl, one_below H1.out⟩
theorem bad_nil (w : World) : Calls Try.prog 17 #[.slice none 0 0] w fun e w' => e = .returned (.bool true) ∧ Below w.heap.size w w' :=
  bad_any none 0 [] rfl (by decide) (Nat.le_refl _) w Bytes.nil_
theorem bad_lit (w : World) (zs : List Int) (hd : En.decU zs = (0, 0)) (hz : zs.all isByte = true) (hl : zs.length ≤ 1000) (n : Nat) (hn : n = zs.length) (fr : Nat × Nat) (cs : Array Value) (hc : cs = (zs.map (Value.int .u8)).toArray) :
    Calls Try.prog 17 #[.slice (some ⟨w.heap.size, 0, none⟩) n n] (w.alloc (.cells cs 5 fr)) fun e w' => e = .returned (.bool true) ∧ Below w.heap.size w w' := by
  subst hn
  refine (bad_any _ zs.length zs hd hl (Nat.le_refl _) _ ((Bytes.new w zs hz fr cs hc).more (by simp))).mono ?_
  rintro e w' ⟨rfl, hb⟩
  exact ⟨rfl, ((Below.refl _ _).alloc (Nat.le_refl _) _).trans (hb.mono (by simp))⟩
theorem leb0 : En.leb 0 = [0] := En.leb_small 0 (by decide) (by decide)
theorem leb1 : En.leb (Pl.foldV (-1)) = [1] := En.leb_small 1 (by decide) (by decide)
theorem lebMax : En.leb 18446744073709551615 = [255, 255, 255, 255, 255, 255, 255, 255, 255, 1] := by
  have h : ∀ v w : Int, 128 ≤ v → v / 128 = w → v % 128 = 127 → En.leb v = 255 :: En.leb w := by
    intro v w h1 h2 h3
    rw [En.leb_big v h1, h2, h3]; rfl
  rw [h 18446744073709551615 144115188075855871 (by decide) (by decide) (by decide), h 144115188075855871 1125899906842623 (by decide) (by decide) (by decide), h 1125899906842623 8796093022207 (by decide) (by decide) (by decide),
    h 8796093022207 68719476735 (by decide) (by decide) (by decide), h 68719476735 536870911 (by decide) (by decide) (by decide), h 536870911 4194303 (by decide) (by decide) (by decide), h 4194303 32767 (by decide) (by decide) (by decide),
    h 32767 255 (by decide) (by decide) (by decide), h 255 1 (by decide) (by decide) (by decide), En.leb_small 1 (by decide) (by decide)]
def hi : ByteArray := ⟨#[104, 105]⟩
theorem putHi : En.putS hi = [2, 104, 105] := by
  show En.leb ((hi.size : Nat) : Int) ++ En.strB hi = _
  rw [show ((hi.size : Nat) : Int) = 2 from rfl, En.leb_small 2 (by decide) (by decide)]
  rfl
def whole : List Int := [0, 1, 2, 104, 105, 255, 255, 255, 255, 255, 255, 255, 255, 255, 1]
theorem whole_of : [] ++ En.leb 0 ++ En.leb (Pl.foldV (-1)) ++ En.putS hi ++ En.leb 18446744073709551615 = whole := by
  rw [leb0, leb1, putHi, lebMax]; rfl
theorem whole_str : strOfNums whole = ⟨#[0, 1, 2, 104, 105, 255, 255, 255, 255, 255, 255, 255, 255, 255, 1]⟩ := rfl
end Go.Proofs.Ythenjipljkphiaa
