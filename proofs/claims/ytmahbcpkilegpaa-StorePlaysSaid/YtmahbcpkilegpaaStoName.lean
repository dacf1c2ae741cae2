/-
  The names of the files: isName at every string, check at every row of names.
-/
import Derived.Test.YtmahbcpkilegpaaStoWorld
import Derived.Lib.ConvBytes
namespace Go.Proofs.Ytmahbcpkilegpaa
open Go.RowKit St

theorem conv_name (w : World) (s : ByteArray) : ∃ cap W, (convert 9 28 (.string s)).run Try.prog w = .ok (.slice (some ⟨w.heap.size, 0, none⟩) s.size cap) W ∧ Hid (Below w.heap.size w W) ∧
    Hid (∀ j, j < s.size → W.cell? ⟨w.heap.size, j, none⟩ = some (.int .u8 (((bs s).getD j 0).toNat : Int))) := by
  refine ⟨_, _, Lib.run_convert_string_bytes w 9 28 5 s Try.underlying9 Try.underlying28 Try.underlying5, Lib.hid ⟨rfl, rfl, rfl, ?_, fun k hk => Lib.bytesWorld_at_old w _ s k hk⟩, Lib.hid fun j hj => ?_⟩
  · rw [Lib.bytesWorld_size]; omega
  · exact Lib.bytesWorld_cell w _ s j hj
theorem getD_mem {l : List UInt8} {k : Nat} (h : k < l.length) : l.getD k 0 ∈ l := by
  rw [List.getD_eq_getElem?_getD, List.getElem?_eq_getElem h]; exact List.getElem_mem h
theorem good_no {nm : List UInt8} {k : Nat} (hk : k < nm.length) (h : okB ((nm.getD k 0).toNat : Int) = false) : good nm = false := by
  unfold good
  have : (nm.all fun c => okB (c.toNat : Int)) = false := by
    rw [List.all_eq_false]
    exact ⟨_, getD_mem hk, by simp only [h]; simp⟩
  rw [this]; simp
theorem good_yes {nm : List UInt8} (h0 : 0 < nm.length) (h1 : nm.length ≤ 16) (h : ∀ k, k < nm.length → okB ((nm.getD k 0).toNat : Int) = true) : good nm = true := by
  unfold good
  have : (nm.all fun c => okB (c.toNat : Int)) = true := by
    rw [List.all_eq_true]
    intro c hc
    obtain ⟨i, hi, e⟩ := List.getElem_of_mem hc
    have := h i hi
    rw [List.getD_eq_getElem?_getD, List.getElem?_eq_getElem hi] at this
    rw [← e]; exact this
  rw [this]
  simp [h0, h1]
theorem good_len_no {nm : List UInt8} (h : nm.length = 0 ∨ 16 < nm.length) : good nm = false := by
  cases e : good nm with
  | false => rfl
  | true => have := good_len e; omega
def OkTo (nm : List UInt8) (k : Nat) : Prop := k ≤ nm.length ∧ ∀ j, j < k → okB ((nm.getD j 0).toNat : Int) = true
theorem OkTo.next {nm : List UInt8} {k : Nat} (h : OkTo nm k) (hk : k < nm.length) (hc : okB ((nm.getD k 0).toNat : Int) = true) : OkTo nm (k + 1) :=
  ⟨hk, fun j hj => by by_cases e : j = k; subst e; exact hc; exact h.2 j (by omega)⟩
theorem okB_split (z : Int) : (z < 45 ∧ okB z = false) ∨ (z = 45 ∧ okB z = true) ∨ (45 < z ∧ z < 48 ∧ okB z = false) ∨ (48 ≤ z ∧ z ≤ 57 ∧ okB z = true) ∨ (57 < z ∧ z < 97 ∧ okB z = false) ∨ (97 ≤ z ∧ z ≤ 122 ∧ okB z = true) ∨ (122 < z ∧ okB z = false) := by
  unfold okB
  simp only [Bool.or_eq_true, Bool.or_eq_false_iff, Bool.and_eq_true, Bool.and_eq_false_imp, decide_eq_true_eq, decide_eq_false_iff_not]
  omega
set_option maxRecDepth 8000 in
set_option maxHeartbeats 1000000 in
theorem isName_any (s : ByteArray) (hs : s.size ≤ 9223372036854775807) (w : World) : Calls Try.prog 49 #[.string s] w fun e w' => e = .returned (.bool (good (bs s))) ∧ Below w.heap.size w w' := by
  by_cases h0 : s.size = 0
  · have e0 : s = ⟨#[]⟩ := by
      cases s with | mk d => exact congrArg _ (Array.eq_empty_of_size_eq_zero h0)
    subst e0
    go_enter Try.func49, Try.ntmps49
    go_wp2
    go_ret
    exact ⟨rfl, Below.refl _ _⟩
  · by_cases h1 : 16 < s.size
    · have hn : good (bs s) = false := good_len_no (.inr (by rw [bs_len]; exact h1))
      have h1' : 16 < (s.size : Int) := by omega
      have HN := Lib.hid hn
      clear hn
      go_enter Try.func49, Try.ntmps49
      go_wp2
      all_goals
        go_ret
        exact ⟨ret_bool HN.out.symm, Below.refl _ _⟩
    · obtain ⟨cap, W, hconv, HB, HC⟩ := conv_name w s
      have g0 := Lib.hid (show 0 < s.size by omega)
      have g1 := Lib.hid (show s.size ≤ 16 by omega)
      have g2 : (s.size : Int) ≤ 16 := by omega
      have hne : ¬ s.toList = [] := by
        rw [ByteArray.toList_eq]
        intro h
        have h2 := congrArg List.length h
        have h3 := g0.out
        rw [Array.length_toList] at h2
        have h4 : s.size = 0 := h2
        omega
      have hne2 : s.toList.isEmpty = false := by rw [List.isEmpty_eq_false_iff]; exact hne
      clear hs h0 h1
      have st : Hid (OkTo (bs s) 0) := Lib.hid ⟨Nat.zero_le _, fun j hj => by omega⟩
      go_enter Try.func49, Try.ntmps49
      go_wp2
      · go_loop [4, 15] (fun _ i => ∃ k : Nat, OkTo (bs s) k ∧ i = .int .i64 k) (fun _ i => s.size - (intOf i).toNat)
        case atStart => exact ⟨0, st.out, rfl⟩
        case round =>
          obtain ⟨k, hk, rfl⟩ := hrel
          have HK := Lib.hid hk
          clear hk
          by_cases hlt : k < s.size
          · have hc := HC.out k hlt
            have hl : k < (bs s).length := by rw [bs_len]; exact hlt
            have NO := good_no hl
            have YES := HK.out.next hl
            have hr : 0 ≤ (((bs s).getD k 0).toNat : Int) ∧ (((bs s).getD k 0).toNat : Int) ≤ 255 := by have := ((bs s).getD k 0).toNat_lt; omega
            generalize (((bs s).getD k 0).toNat : Int) = z at *
            obtain ⟨z0, z1⟩ := hr
            have hlt' : (k : Int) < (s.size : Int) := by omega
            rcases okB_split z with ⟨a1, a2⟩ | ⟨a1, a2⟩ | ⟨a1, a2, a3⟩ | ⟨a1, a2, a3⟩ | ⟨a1, a2, a3⟩ | ⟨a1, a2, a3⟩ | ⟨a1, a2⟩
            · have R := Lib.hid (NO a2)
              clear NO YES a2
              go_wp2
              all_goals
                go_ret
                exact ⟨ret_bool R.out.symm, HB.out⟩
            · have R := Lib.hid (YES a2)
              clear NO YES a2
              go_wp2
              all_goals
                go_round
                case rel => exact ⟨k + 1, R.out, by go_num⟩
                case measure => simp [intOf]; omega
            · have R := Lib.hid (NO a3)
              clear NO YES a3
              go_wp2
              all_goals
                go_ret
                exact ⟨ret_bool R.out.symm, HB.out⟩
            · have R := Lib.hid (YES a3)
              clear NO YES a3
              go_wp2
              all_goals
                go_round
                case rel => exact ⟨k + 1, R.out, by go_num⟩
                case measure => simp [intOf]; omega
            · have R := Lib.hid (NO a3)
              clear NO YES a3
              go_wp2
              all_goals
                go_ret
                exact ⟨ret_bool R.out.symm, HB.out⟩
            · have R := Lib.hid (YES a3)
              clear NO YES a3
              go_wp2
              all_goals
                go_round
                case rel => exact ⟨k + 1, R.out, by go_num⟩
                case measure => simp [intOf]; omega
            · have R := Lib.hid (NO a2)
              clear NO YES a2
              have q1 : 57 < z := by omega
              have q3 : (z != 45) = true := by simp; omega
              go_wp2
              all_goals
                go_ret
                exact ⟨ret_bool R.out.symm, HB.out⟩
          · have R : Hid (good (bs s) = true) := Lib.hid (good_yes (by rw [bs_len]; exact g0.out) (by rw [bs_len]; exact g1.out) fun j hj => HK.out.2 j (by rw [bs_len] at hj; omega))
            have hge : ¬ (k : Int) < (s.size : Int) := by omega
            go_wp2
            go_ret
            exact ⟨ret_bool R.out.symm, HB.out⟩

/-! ### check -/
def GoodTo (ns : List ByteArray) (k : Nat) : Prop := k ≤ ns.length ∧ ∀ j, j < k → good (bs (ns.getD j ByteArray.empty)) = true
theorem chk_off {s : S} (h : s.off = true) (ns : List (List UInt8)) : chk s ns = 11 := by unfold chk; rw [h]; rfl
theorem chk_no {s : S} (h : s.off = false) {ns : List ByteArray} {k : Nat} (hk : k < ns.length) (hg : good (bs (ns.getD k ByteArray.empty)) = false) : chk s (ns.map bs) = 1 := by
  unfold chk
  have : (ns.map bs).all good = false := by
    rw [List.all_eq_false]
    refine ⟨bs (ns.getD k ByteArray.empty), List.mem_map.2 ⟨_, ?_, rfl⟩, by rw [hg]; simp⟩
    rw [List.getD_eq_getElem?_getD, List.getElem?_eq_getElem hk]; exact List.getElem_mem hk
  rw [h, this]; rfl
theorem chk_yes {s : S} (h : s.off = false) {ns : List ByteArray} (hg : GoodTo ns ns.length) : chk s (ns.map bs) = 0 := by
  unfold chk
  have : (ns.map bs).all good = true := by
    rw [List.all_eq_true]
    intro x hx
    obtain ⟨y, hy, rfl⟩ := List.mem_map.1 hx
    obtain ⟨i, hi, e⟩ := List.getElem_of_mem hy
    have := hg.2 i hi
    rw [List.getD_eq_getElem?_getD, List.getElem?_eq_getElem hi] at this
    rw [← e]; exact this
  rw [h, this]; rfl
set_option maxHeartbeats 1000000 in
theorem check_any (T : Nat) (s : S) (A : Option Addr) (ns : List ByteArray) (cap : Nat) (hl : ns.length ≤ 100) (w : World) (h : w.cell? ⟨T, 2, none⟩ = some (.bool s.off)) (hn : Strs w w.heap.size A ns) :
    Calls Try.prog 36 #[.pointer (some ⟨T, 0, none⟩), .slice A ns.length cap] w fun e w' => e = .returned (.int .i64 (chk s (ns.map bs))) ∧ Below w.heap.size w w' := by
  cases ho : s.off with
  | true =>
    rw [ho] at h
    have E := Lib.hid (chk_off ho (ns.map bs))
    clear hn hl
    go_enter Try.func36, Try.ntmps36
    go_wp2
    go_ret
    exact ⟨ret_int E.out.symm, Below.refl _ _⟩
  | false =>
    rw [ho] at h
    have HN := Lib.hid hn
    have HL := Lib.hid hl
    have st : Hid (GoodTo ns 0) := Lib.hid ⟨Nat.zero_le _, fun j hj => by omega⟩
    clear hn hl
    go_enter Try.func36, Try.ntmps36
    go_wp2
    go_loopw [6, 13] (fun _ i wr => ∃ k : Nat, GoodTo ns k ∧ i = .int .i64 k ∧ Below w.heap.size w wr) (fun _ i _ => ns.length - (intOf i).toNat)
    case atStart => exact ⟨0, st.out, rfl, Below.refl _ _⟩
    case round =>
      obtain ⟨k, hk, rfl, hb⟩ := hrel
      have HK := Lib.hid hk
      have HB := Lib.hid hb
      have hlm := HL.out
      clear hk hb
      by_cases hlt : k < ns.length
      · obtain ⟨b, off, sn, rfl, hbb, hc, hsn, hsz⟩ := (HN.out.below HB.out).at_ hlt
        have IS := Lib.hid (isName_any sn hsz)
        have hlt' : (k : Int) < (ns.length : Int) := by omega
        cases hg : good (bs sn) with
        | true =>
          rw [hg] at IS
          have R : Hid (GoodTo ns (k + 1)) := Lib.hid ⟨hlt, fun j hj => by
            by_cases e : j = k
            · subst e; rw [hsn.out]; exact hg
            · exact HK.out.2 j (by omega)⟩
          clear hg hsz
          go_wp2_with fail
          refine (IS.out wr).mono ?_; rintro e w2 ⟨rfl, h2⟩
          have HB2 := Lib.hid (HB.out.trans (h2.mono HB.out.size))
          clear h2
          go_wp2
          go_roundw
          case rel => exact ⟨k + 1, R.out, by go_num, HB2.out⟩
          case measure => simp [intOf]; omega
        | false =>
          rw [hg] at IS
          have E := Lib.hid (chk_no ho hlt (by rw [hsn.out]; exact hg))
          clear hg hsz
          go_wp2_with fail
          refine (IS.out wr).mono ?_; rintro e w2 ⟨rfl, h2⟩
          have HB2 := Lib.hid (HB.out.trans (h2.mono HB.out.size))
          clear h2
          go_wp2
          go_ret
          exact ⟨ret_int E.out.symm, HB2.out⟩
      · have e : k = ns.length := by have := HK.out.1; omega
        subst e
        have E := Lib.hid (chk_yes ho HK.out)
        go_wp2
        go_ret
        exact ⟨ret_int E.out.symm, HB.out⟩
end Go.Proofs.Ytmahbcpkilegpaa
