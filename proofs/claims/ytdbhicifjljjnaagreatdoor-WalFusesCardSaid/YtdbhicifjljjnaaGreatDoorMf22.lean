/-
  Part 22 of the texts behind the law: SegUint.
-/
import Derived.Test.YtdbhicifjljjnaaGreatDoorMf19
import Derived.Test.YtdbhicifjljjnaaGreatDoorMf21
import Derived.Lib.Strings
import Derived.Lib.Walk
import Derived.Lib.ConvBytes
import Derived.Laws.Strings3
import Derived.Laws.Closers25
import Derived.Laws.Closers25b
import Derived.BigCall
import Derived.BigGuard
/-
  internal/strconv.ParseUint at base 16 and 64 bits, at every text: a number and an error; at a text of at most twelve hexadecimal digits in lower case: its value, and no error.
-/
namespace Go.Proofs.YtdbhicifjljjnaaGreatDoor
open Go.RowKit
/-- At most twelve hexadecimal digits in lower case. -/
def GoodT (l : List UInt8) : Prop := (1 ≤ l.length ∧ l.length ≤ 12) ∧ ∀ c ∈ l, Sg.isHex c
/-- What is told of a number and an error that were read off a text. -/
def PuR (l : List UInt8) (u : Int) (ev : Value) : Prop :=
  0 ≤ u ∧ u < 18446744073709551616 ∧ (ev = .nilIface ∨ ev = .iface 171 (.int .i64 1) ∨ ev = .iface 171 (.int .i64 2)) ∧ (GoodT l → u = (Sg.valH 0 l : Nat) ∧ ev = .nilIface)
def PuPost (w : World) (l : List UInt8) (e : Ending) (w' : World) : Prop :=
  ∃ u ev, e = .returned (.tuple #[.int .u64 u, ev]) ∧ Hid (PuR l u ev) ∧ Hid (Below w.heap.size w w')
theorem PuPost.syn {w w' : World} {l : List UInt8} (hb : Below w.heap.size w w') (h : ¬ GoodT l) : PuPost w l (.returned (.tuple #[.int .u64 0, .iface 171 (.int .i64 2)])) w' :=
  ⟨_, _, rfl, Lib.hid ⟨by decide, by decide, .inr (.inr rfl), fun g => absurd g h⟩, Lib.hid hb⟩
theorem PuPost.rng {w w' : World} {l : List UInt8} (hb : Below w.heap.size w w') (h : ¬ GoodT l) : PuPost w l (.returned (.tuple #[.int .u64 18446744073709551615, .iface 171 (.int .i64 1)])) w' :=
  ⟨_, _, rfl, Lib.hid ⟨by decide, by decide, .inr (.inl rfl), fun g => absurd g h⟩, Lib.hid hb⟩
theorem GoodT.lt {l : List UInt8} (h : GoodT l) (k : Nat) : (Sg.valH 0 (l.take k) : Int) < 1152921504606846976 := by
  have h1 := Sg.valH_lt (l.take k) fun c hc => h.2 c (List.mem_of_mem_take hc)
  have h2 : (16 : Nat) ^ (l.take k).length ≤ 16 ^ 12 := Nat.pow_le_pow_right (by decide) (by rw [List.length_take]; have := h.1.2; omega)
  have h3 : (16 : Nat) ^ 12 = 281474976710656 := by decide
  omega
theorem or32 (z : Int) (h0 : 97 ≤ z) (h1 : z ≤ 102) : bits .or .u8 z 32 = z := by
  have : z = 97 ∨ z = 98 ∨ z = 99 ∨ z = 100 ∨ z = 101 ∨ z = 102 := by omega
  rcases this with rfl | rfl | rfl | rfl | rfl | rfl <;> decide
/-- The number gathered of the first k bytes. -/
def UintAt (l : List UInt8) (k : Nat) (a : Int) : Prop := GoodT l → a = (Sg.valH 0 (l.take k) : Nat)
theorem UintAt.next {l : List UInt8} {k : Nat} {a d : Int} {c : UInt8} (h : UintAt l k a) (hk : k < l.length) (hc : l[k] = c) (hd : Sg.isHex c → d = (Sg.digV c : Nat)) : UintAt l (k + 1) (a * 16 + d) := fun g => by
  rw [List.take_succ_eq_append_getElem hk, Sg.valH_snoc, hc, h g, hd (g.2 c (by rw [← hc]; exact List.getElem_mem hk))]
  push_cast; rfl
set_option maxRecDepth 100000 in
theorem pu_empty (w : World) : Calls Tryz.prog 117 #[.string ⟨#[]⟩, .int .i64 16, .int .i64 64] w (PuPost w []) := by
  go_enter Tryz.func117, Tryz.ntmps117
  go_wp2
  go_ret2
  exact ⟨_, _, rfl, Lib.hid ⟨by decide, by decide, .inr (.inr rfl), fun g => absurd g.1.1 (by decide)⟩, Lib.hid (Below.refl _ _)⟩
set_option maxHeartbeats 8000000 in
set_option maxRecDepth 100000 in
theorem pu_16 (t : ByteArray) (hne : t.size ≠ 0) (hmax : t.size ≤ 9223372036854775806) (w : World) :
    Calls Tryz.prog 117 #[.string t, .int .i64 16, .int .i64 64] w (PuPost w t.data.toList) := by
  have hemp : t.toList.isEmpty = false := by
    rw [← decide_eq_emptyBytes]
    exact decide_eq_false (fun h => hne (by rw [h]; rfl))
  have hcv := Lib.run_convert_string_bytes (P := Tryz.prog) w 9 31 5 t (u := .string) Tryz.underlying9 Tryz.underlying31 Tryz.underlying5
  have hB : ∀ j, j < t.size → (Lib.bytesWorld w 5 t).cell? ⟨w.heap.size, j, none⟩ = some (.int .u8 (t.data.toList.getD j 0).toNat) := fun j hj => Lib.bytesWorld_cell w 5 t j hj
  have HW := Lib.hid (Lib.bytesWorld_below w 5 t)
  obtain ⟨W1, hW1⟩ : ∃ W1, W1 = Lib.bytesWorld w 5 t := ⟨_, rfl⟩
  rw [← hW1] at hcv hB HW
  clear hW1
  obtain ⟨bs, hL⟩ : ∃ bs, bs = t.data.toList := ⟨_, rfl⟩
  have hLn : bs.length = t.size := by rw [hL, Lib.size_eq]
  rw [← hL] at hB ⊢
  clear hL
  have hmv : IntKind.u64.wrap (IntKind.u64.wrap 18446744073709551616 - 1) = 18446744073709551615 := by
    rw [IntKind.wrap_u64, IntKind.wrap_u64]
    decide
  go_enter Tryz.func117, Tryz.ntmps117
  go_wp2
  go_loop [12, 13, 101] (fun vu vn vi => ∃ (k : Nat) (a : Int), vu = .bool false ∧ vn = .int .u64 a ∧ vi = .int .i64 k ∧ k ≤ t.size ∧ 0 ≤ a ∧ a < 18446744073709551616 ∧ Hid (UintAt bs k a))
    (fun _ _ vi => t.size - (intOf vi).toNat)
  case atStart => exact ⟨0, 0, rfl, rfl, rfl, by omega, by omega, by omega, Lib.hid fun _ => by simp [Sg.valH]⟩
  case round =>
    obtain ⟨k, a, rfl, rfl, rfl, hk, a0, a1, HU⟩ := hrel
    by_cases hkn : k < t.size
    · have hc := hB k hkn
      have hkl : k < bs.length := by omega
      have hget : bs.getD k 0 = bs[k] := by simp [List.getD, List.getElem?_eq_getElem hkl]
      rw [hget] at hc
      obtain ⟨c, hcc⟩ : ∃ c, bs[k] = c := ⟨_, rfl⟩
      have HC := Lib.hid hcc
      have HM : Hid (c ∈ bs) := Lib.hid (by rw [← hcc]; exact List.getElem_mem hkl)
      rw [hcc] at hc
      have hc256 : c.toNat < 256 := c.toNat_lt
      clear hB hget hcc
      by_cases hdig : 48 ≤ c.toNat ∧ c.toNat ≤ 57
      · obtain ⟨hd0, hd1⟩ := hdig
        by_cases hcut : 1152921504606846976 ≤ a
        · have HN : Hid (¬ GoodT bs) := Lib.hid fun g => by have h1 := HU.out g; have h2 := g.lt k; omega
          go_wp2
          go_ret2
          exact PuPost.rng HW.out HN.out
        · have icut : a < 1152921504606846976 := by omega
          clear hcut a1
          have HN := Lib.hid (UintAt.next (d := (c.toNat : Int) - 48) HU.out hkl HC.out (fun _ => by unfold Sg.digV; rw [if_pos (by omega)]; omega))
          go_wp2
          refine ⟨⟨k + 1, a * 16 + ((c.toNat : Int) - 48), rfl, (by first | rfl | (congr 1; omega)), (by first | rfl | (congr 1; omega)), by omega, by omega, by omega, HN⟩, by simp [intOf]; omega⟩
      · have HX : Hid (GoodT bs → 97 ≤ c.toNat ∧ c.toNat ≤ 102) := Lib.hid fun g => by
          rcases g.2 c HM.out with h | h
          · exact absurd h hdig
          · exact h
        by_cases h95 : c.toNat = 95
        · have HN : Hid (¬ GoodT bs) := Lib.hid fun g => by have := HX.out g; omega
          have hL : bits .or .u8 95 32 = 127 := by decide
          have hlow : ∀ W, Calls Tryz.prog 138 #[.int .u8 95] W fun e w' => e = .returned (.int .u8 127) ∧ w' = W := fun W => by have := Tryz.internal_strconv_lower 95 W; rw [hL] at this; exact this
          rw [h95] at hc
          clear hL hdig h95
          go_wp2_with (go_at_call 138; refine (hlow _).mono ?_; rintro e w' ⟨rfl, rfl⟩)
          all_goals go_ret2
          all_goals exact PuPost.syn HW.out HN.out
        · have hv0 := bits_lo_u8 .or (c.toNat : Int) 32
          have hv1 := bits_hi_u8 .or (c.toNat : Int) 32
          have hlow := fun W => Tryz.internal_strconv_lower (c.toNat : Int) W
          have HO : Hid (97 ≤ c.toNat ∧ c.toNat ≤ 102 → bits .or .u8 (c.toNat : Int) 32 = (c.toNat : Int)) := Lib.hid fun h => or32 _ (by omega) (by omega)
          generalize bits .or .u8 (c.toNat : Int) 32 = L at *
          by_cases hlet : 97 ≤ L ∧ L ≤ 102
          · obtain ⟨hd0, hd1⟩ := hlet
            clear hv0 hv1
            by_cases hcut : 1152921504606846976 ≤ a
            · have HN : Hid (¬ GoodT bs) := Lib.hid fun g => by have h1 := HU.out g; have h2 := g.lt k; omega
              go_wp2_with (go_at_call 138; refine (hlow _).mono ?_; rintro e w' ⟨rfl, rfl⟩)
              all_goals go_ret2
              all_goals exact PuPost.rng HW.out HN.out
            · have icut : a < 1152921504606846976 := by omega
              clear hcut a1
              have HN := Lib.hid (UintAt.next (d := L - 87) HU.out hkl HC.out (fun h => by
                have h2 : 97 ≤ c.toNat ∧ c.toNat ≤ 102 := by
                  rcases h with h | h
                  · exact absurd h hdig
                  · exact h
                have := HO.out h2
                unfold Sg.digV; rw [if_neg (by omega)]; omega))
              go_wp2_with (go_at_call 138; refine (hlow _).mono ?_; rintro e w' ⟨rfl, rfl⟩)
              all_goals exact ⟨⟨k + 1, a * 16 + (L - 87), rfl, (by congr 1; omega), (by congr 1), by omega, by omega, by omega, HN⟩, by simp [intOf]; omega⟩
          · have HN : Hid (¬ GoodT bs) := Lib.hid fun g => by have h1 := HX.out g; have h2 := HO.out h1; omega
            by_cases hz : 103 ≤ L ∧ L ≤ 122
            · obtain ⟨hz0, hz1⟩ := hz
              clear hv0 hv1 hlet
              go_wp2_with (go_at_call 138; refine (hlow _).mono ?_; rintro e w' ⟨rfl, rfl⟩)
              all_goals go_ret2
              all_goals exact PuPost.syn HW.out HN.out
            · by_cases hz2 : L < 97
              · clear hv1 hlet hz
                go_wp2_with (go_at_call 138; refine (hlow _).mono ?_; rintro e w' ⟨rfl, rfl⟩)
                all_goals go_ret2
                all_goals exact PuPost.syn HW.out HN.out
              · have hz3 : 122 < L := by omega
                clear hv0 hlet hz hz2
                go_wp2_with (go_at_call 138; refine (hlow _).mono ?_; rintro e w' ⟨rfl, rfl⟩)
                all_goals go_ret2
                all_goals exact PuPost.syn HW.out HN.out
    · have hkk : k = t.size := by omega
      subst hkk
      have HV : Hid (GoodT bs → a = (Sg.valH 0 bs : Nat)) := Lib.hid fun g => by have := HU.out g; rw [List.take_of_length_le (by omega)] at this; exact this
      clear hkn
      go_wp2
      go_ret2
      exact ⟨_, _, rfl, Lib.hid ⟨a0, a1, .inl rfl, fun g => ⟨HV.out g, rfl⟩⟩, HW⟩
end Go.Proofs.YtdbhicifjljjnaaGreatDoor
