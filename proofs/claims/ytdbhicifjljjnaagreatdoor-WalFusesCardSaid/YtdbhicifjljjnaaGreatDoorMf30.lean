/-
  Part 30 of the texts behind the law: SegPick.
-/
import Derived.Test.YtdbhicifjljjnaaGreatDoorMf29
import Derived.Test.YtdbhicifjljjnaaGreatDoorMf23
import Derived.Test.YtdbhicifjljjnaaGreatDoorMf4
/-
  seg.Pick at every row of texts; what is told of the offsets picked.
-/
namespace Go.Proofs.YtdbhicifjljjnaaGreatDoor
open Go.RowKit Go.Lib
def pickV (ss : List ByteArray) : List Int := compactUpTo (sorted (ss.filterMap Sg.segP)).toArray (sorted (ss.filterMap Sg.segP)).length
def PickPost (w : World) (ss : List ByteArray) (e : Ending) (w' : World) : Prop :=
  ∃ A cap ps, Hid (ps = pickV ss) ∧ e = .returned (.slice A ps.length cap) ∧ Hid (OwnL w' w.heap.size A cap ps) ∧ Hid (Below w.heap.size w w')
theorem cell_lit (w : World) (v : Value) (t : TypeId) : (w.alloc (.cells #[v] t)).cell? ⟨w.heap.size, 0, none⟩ = some v := by
  rw [World.cell?_alloc_new]; rfl
set_option maxHeartbeats 2000000 in
theorem pick_any (A : Option Addr) (ss : List ByteArray) (cap : Nat) (hl : ss.length ≤ 1000000) (w : World) (h : Strs w w.heap.size A ss) (hs : ∀ k, k < ss.length → (ss.getD k ByteArray.empty).size ≤ 281474976710656) (hF : Facts w) :
    Calls Tryz.prog 37 #[.slice A ss.length cap] w (PickPost w ss) := by
  have HS := Lib.hid h
  have HZ := Lib.hid hs
  have HF := Lib.hid hF
  have hl' : (ss.length : Int) ≤ 1000000 := by omega
  clear h hs hF
  go_enter Tryz.func37, Tryz.ntmps37
  go_wp2
  go_loopw [3, 10] (fun lv iv wr => ∃ (k : Nat) (zs : List Int) (A' : Option Addr) (cap' : Nat), k ≤ ss.length ∧ Hid (zs = (ss.take k).filterMap Sg.segP) ∧ iv = .int .i64 k ∧ lv = .slice A' zs.length cap' ∧ Hid (OwnL wr w.heap.size A' cap' zs) ∧ Hid (Below w.heap.size w wr)) (fun _ iv _ => ss.length - (intOf iv).toNat)
  case atStart => exact ⟨0, [], none, 0, Nat.zero_le _, Lib.hid (by simp), rfl, rfl, Lib.hid (OwnL.none_ _ _), Lib.hid (Below.refl _ _)⟩
  case round =>
    obtain ⟨k, zs, A', cap', hk, hz, rfl, rfl, HO, HW⟩ := hrel
    have hzl : Hid (zs.length ≤ 1000000) := Lib.hid (by
      rw [hz.out]
      have := List.length_filterMap_le Sg.segP (ss.take k)
      rw [List.length_take] at this
      omega)
    by_cases hlt : k < ss.length
    · have hlt' : (k : Int) < (ss.length : Int) := by omega
      obtain ⟨b, off, s, rfl, hb, hc, hg, hsz⟩ := (HS.out.below HW.out).at_ hlt
      have hs2 : s.size ≤ 281474976710656 := by rw [← hg.out]; exact HZ.out k hlt
      have PA := Lib.hid (parse_any s hs2 wr (HF.out.below HW.out))
      have htk : (ss.take (k + 1)).filterMap Sg.segP = (ss.take k).filterMap Sg.segP ++ (Sg.segP s).toList := by
        rw [List.take_succ_eq_append_getElem hlt, List.filterMap_append]
        have : ss[k] = s := by
          rw [← hg.out, List.getD_eq_getElem?_getD, List.getElem?_eq_getElem hlt]; rfl
        rw [this]
        congr 1
      have HT := Lib.hid htk
      clear htk hs2 hsz
      cases hp : Sg.segP s with
      | none =>
        have HZ2 : Hid (zs = (ss.take (k + 1)).filterMap Sg.segP) := Lib.hid (by rw [HT.out, hp, hz.out]; simp)
        have PA2 : Hid (Calls Tryz.prog 52 #[.string s] wr fun e w' => e = .returned (.tuple #[.int .i64 0, .bool false]) ∧ Hid (Below wr.heap.size wr w')) := Lib.hid (PA.out.mono fun e w' ⟨h1, h2⟩ => by rw [hp] at h1; exact ⟨h1, h2⟩)
        clear hp PA HT hz
        go_wp2_with fail
        refine PA2.out.mono ?_; rintro e w1 ⟨rfl, b1⟩
        go_wp2
        go_roundw
        case rel => exact ⟨k + 1, zs, A', cap', by omega, HZ2, by go_num, rfl, Lib.hid (HO.out.grew b1.out (Nat.le_refl _)), Lib.hid (HW.out.trans (b1.out.mono HW.out.size))⟩
        case measure => simp [intOf]; omega
      | some v =>
        have HZ2 : Hid (zs ++ [v] = (ss.take (k + 1)).filterMap Sg.segP) := Lib.hid (by rw [HT.out, hp, hz.out]; rfl)
        have PA2 : Hid (Calls Tryz.prog 52 #[.string s] wr fun e w' => e = .returned (.tuple #[.int .i64 v, .bool true]) ∧ Hid (Below wr.heap.size wr w')) := Lib.hid (PA.out.mono fun e w' ⟨h1, h2⟩ => by rw [hp] at h1; exact ⟨h1, h2⟩)
        clear hp PA HT hz
        go_wp2_with fail
        refine PA2.out.mono ?_; rintro e w1 ⟨rfl, b1⟩
        have hs1 := HW.out.size
        have hs2 := b1.out.size
        have B2 : Hid (Below wr.heap.size wr (w1.alloc (.cells #[.int .i64 v] 2))) := Lib.hid (b1.out.alloc hs2 _)
        go_wp2_with (at_builtin; refine wp_appL rfl (.tmp 20) (.tmp 22) rfl rfl rfl (HO.out.grew B2.out (Nat.le_refl _)) (Nat.le_trans hs1 B2.out.size) rfl (cell_lit w1 _ _) (Nat.le_trans hzl.out (by decide)) ?_; intro A3 c3 w3 o3 d3; have O3 := Lib.hid o3; have D3 := Lib.hid d3; clear o3 d3)
        go_roundw
        case rel =>
          have OP2 := HO.out.grew B2.out (Nat.le_refl _)
          have BB := grownL_below OP2 (Nat.le_trans hs1 B2.out.size) D3.out
          exact ⟨k + 1, zs ++ [v], A3, c3, by omega, HZ2, by go_num, by simp, O3, Lib.hid ((HW.out.trans (B2.out.mono hs1)).trans BB)⟩
        case measure => simp [intOf]; omega
    · have hz2 : Hid (zs = ss.filterMap Sg.segP) := Lib.hid (by rw [hz.out, List.take_of_length_le (by omega)])
      have SO := Lib.hid (sort_any A' cap' zs w.heap.size wr HO.out HW.out.size (Nat.le_trans hzl.out (by decide)))
      have hlt' : (ss.length : Int) ≤ (k : Int) := by omega
      clear hz hlt
      go_wp2_with fail
      refine SO.out.mono ?_; rintro e w1 ⟨rfl, o1, b1⟩
      have CO0 := comp_any A' cap' (sorted zs) w.heap.size w1 o1.out (Nat.le_trans HW.out.size b1.out.size) (by rw [sorted_len]; exact Nat.le_trans hzl.out (by decide))
      rw [sorted_len] at CO0
      have CO := Lib.hid CO0
      clear CO0 SO
      go_wp2_with fail
      refine CO.out.mono ?_; rintro e w2 ⟨ys, hy, rfl, o2, b2⟩
      have hy2 : Hid (ys = pickV ss) := Lib.hid (by
        unfold pickV
        rw [← hz2.out]
        have := hy.out
        rw [sorted_len]
        rw [sorted_len] at this
        exact this)
      go_wp2
      go_ret
      exact ⟨A', cap', ys, hy2, rfl, o2, Lib.hid ((HW.out.trans (b1.out)).trans b2.out)⟩
end Go.Proofs.YtdbhicifjljjnaaGreatDoor
