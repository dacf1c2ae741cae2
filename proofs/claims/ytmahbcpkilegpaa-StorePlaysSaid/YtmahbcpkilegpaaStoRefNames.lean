/-
  Rows of strings of the call's own; the reference's Names.
-/
import Derived.Test.YtmahbcpkilegpaaStoRefRead
import Derived.Test.YtmahbcpkilegpaaStoGuest
import Derived.Test.YtmahbcpkilegpaaStrRows
namespace Go.Proofs.Ytmahbcpkilegpaa
open Go.RowKit St

set_option maxHeartbeats 2000000 in
theorem rnames_any {w : World} {R : Nat} {s : S} {rf : Int} {rk : List Int} {Ad : List UInt8 → Option Addr × Nat} {fa : Option Addr} {fc : Nat} {ka : Option Addr} {kc : Nat} (h : RS w R s rf rk Ad fa fc ka kc) :
    Calls Try.prog 33 #[.pointer (some ⟨R, 0, none⟩)] w fun e w' => ∃ A cap ns, Hid (ns = (s.fs.map F.nm).map mkB) ∧ e = .returned (.slice A ns.length cap) ∧ Strs w' w'.heap.size A ns ∧ Below w.heap.size w w' := by
  have HR := Lib.hid h
  have hn : (s.fs.length : Int) ≤ 64 := by have := h.inv.count; omega
  obtain ⟨⟨_, c1, _, _, _⟩, _⟩ := obj5 h.obj
  have hR := some_lt h.obj
  have HNL : Hid (∀ x ∈ (s.fs.map F.nm).map mkB, x.size ≤ 9223372036854775807) := Lib.hid fun x hx => by
    obtain ⟨y, hy, rfl⟩ := List.mem_map.1 hx
    obtain ⟨f, hf, rfl⟩ := List.mem_map.1 hy
    have := good_len (h.inv.names f hf)
    have e : (mkB f.nm).size = f.nm.length := by show f.nm.toArray.size = _; simp
    omega
  clear h
  obtain ⟨n, hN⟩ : ∃ n, n = s.fs.length := ⟨_, rfl⟩
  rw [← hN] at c1 hn
  obtain ⟨ns, hns⟩ : ∃ ns, ns = (s.fs.map F.nm).map mkB := ⟨_, rfl⟩
  have NS := Lib.hid hns
  have NL := Lib.hid (show ns.length = n by rw [hns, hN]; simp)
  rw [← hns] at HNL
  have HN := Lib.hid hN
  clear hN hns
  go_enter Try.func33, Try.ntmps33
  go_wp2
  go_loopw [3, 4] (fun lv iv wr => ∃ k A cap, k ≤ n ∧ lv = .slice A k cap ∧ iv = .int .i64 (k : Int) ∧ OwnT wr w.heap.size A cap (ns.take k) ∧ Below w.heap.size w wr) (fun _ iv _ => n - (intOf iv).toNat)
  case atStart => exact ⟨0, none, 0, Nat.zero_le _, rfl, rfl, OwnT.none_ _ _, Below.refl _ _⟩
  case round =>
    obtain ⟨k, A, cap, hk0, rfl, rfl, hown, hb⟩ := hrel
    have HO := Lib.hid hown
    have HB := Lib.hid hb
    have c1 := (hb.cell (p := ⟨R, 1, none⟩) hR).trans c1
    have TK := Lib.hid (show (ns.take k).length = k by rw [List.length_take, NL.out]; omega)
    clear hown hb
    by_cases hlt : k < n
    · have hl : k < s.fs.length := by rw [← HN.out]; exact hlt
      obtain ⟨g, hg, d1, d2, d3⟩ := HR.out.cell hl
      subst hg
      have d1 := (HB.out.cell (p := ⟨g, k * 3, none⟩) (World.ownsRow.lt HR.out.files g (by simp [Value.ownBlock])).2).trans d1
      obtain ⟨x, hx⟩ : ∃ x, mkB (s.fs[k]'hl).nm = x := ⟨_, rfl⟩
      rw [hx] at d1
      have TN := Lib.hid (show ns.take (k + 1) = ns.take k ++ [x] by
        rw [List.take_add_one, NS.out, List.getElem?_map, List.getElem?_map, List.getElem?_eq_getElem hl]
        show _ ++ [mkB (s.fs[k]'hl).nm] = _
        rw [hx])
      clear d2 d3 hx
      have hlt' : (k : Int) < (n : Int) := by omega
      have hsz := HB.out.size
      go_wp2_with (at_builtin; refine wp_appT (x := x) rfl (.tmp 14) (.tmp 23) rfl rfl TK.out.symm (HO.out.keep (one_alloc wr _)) (by simp; omega) rfl (by rw [World.cell?_alloc_mark]; simp) (by rw [TK.out]; omega) ?_; intro A7 c7 w7 o7 g7; have B7 := Lib.hid ((HB.out.alloc hsz _).trans (grownT_below (HO.out.keep (one_alloc wr _)) (by simp; omega) g7)); have O7 := Lib.hid o7; clear o7 g7)
      go_roundw
      case rel => exact ⟨k + 1, A7, c7, hlt, by rw [NL.out, Nat.min_eq_left hk0], by go_num, by rw [TN.out]; exact O7.out, B7.out⟩
      case measure => simp [intOf]; omega
    · have e : k = n := by omega
      subst e
      have hge : ¬ (k : Int) < (k : Int) := by omega
      go_wp2
      go_ret
      have h7 := HO.out
      rw [List.take_of_length_le (by rw [NL.out]; exact Nat.le_refl _)] at h7
      exact ⟨A, cap, ns, Lib.hid (by rw [NS.out]; simp), by simp [NL.out], h7.strs HNL.out, HB.out⟩
end Go.Proofs.Ytmahbcpkilegpaa
