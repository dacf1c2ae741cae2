/-
  The layer's example, which every law of it asks first: it comes out true. The law SegNames.
-/
import Derived.Test.YtlaomaefhanacaaDoorSegRead
namespace Go.Proofs.YtlaomaefhanacaaDoor
open Go.RowKit
theorem name18 : Sg.nameB 18 = ⟨#[119, 45, 48, 48, 48, 48, 48, 48, 48, 48, 48, 48, 49, 50]⟩ := by decide
def AwakePost (w : World) (e : Ending) (w' : World) : Prop := e = .returned (.bool true) ∧ Hid (Below w.heap.size w w')
set_option maxHeartbeats 1000000 in
theorem awake_any (w : World) (hF : Facts w) : Calls Tryd.prog 9 #[] w (AwakePost w) := by
  have N1 := name_any 18 w hF
  rw [show Sg.inO 18 = true by decide, if_pos rfl, name18] at N1
  have P1 : ∀ W, Facts W → Calls Tryd.prog 10 #[.string ⟨#[119, 45, 48, 48, 48, 48, 48, 48, 48, 48, 48, 48, 49, 50]⟩] W fun e w' => e = .returned (.tuple #[.int .i64 18, .bool true]) ∧ Hid (Below W.heap.size W w') := fun W hW => by
    have h := parse_any ⟨#[119, 45, 48, 48, 48, 48, 48, 48, 48, 48, 48, 48, 49, 50]⟩ (by decide) W hW
    have e : Sg.segP ⟨#[119, 45, 48, 48, 48, 48, 48, 48, 48, 48, 48, 48, 49, 50]⟩ = some 18 := by rw [← name18]; exact Sg.segP_name 18 (by decide)
    refine h.mono ?_
    rintro e2 w' ⟨h1, h2⟩
    rw [e] at h1
    exact ⟨h1, h2⟩
  have HN := Lib.hid N1
  have HP := Lib.hid P1
  have HF := Lib.hid hF
  clear N1 P1 hF
  go_enter Tryd.func9, Tryd.ntmps9
  go_wp2_with fail
  refine HN.out.mono ?_; rintro e w1 ⟨rfl, hb⟩
  go_wp2_with fail
  refine (HP.out _ (HF.out.below hb.out)).mono ?_; rintro e w2 ⟨rfl, hb2⟩
  go_wp2
  go_ret
  exact ⟨rfl, Lib.hid (hb.out.trans (hb2.out.mono hb.out.size))⟩
theorem name_kinds (a : Int) : ∃ (s : ByteArray) (o : Bool), Hid (∀ W, Facts W → Calls Tryd.prog 11 #[.int .i64 a] W (NamePost W s o)) ∧ ((o = true ∧ 0 ≤ a ∧ a ≤ 17592186044415) ∨ (o = false ∧ a < 0) ∨ (o = false ∧ 0 ≤ a ∧ 17592186044415 < a)) := by
  refine ⟨_, _, Lib.hid fun W hW => name_any a W hW, ?_⟩
  by_cases h : Sg.inO a = true
  · exact .inl ⟨h, (Sg.inO_iff a).1 h⟩
  · have hh : ¬ (0 ≤ a ∧ a ≤ 17592186044415) := fun k => h ((Sg.inO_iff a).2 k)
    have h2 : Sg.inO a = false := by simpa using h
    by_cases h0 : a < 0
    · exact .inr (.inl ⟨h2, h0⟩)
    · exact .inr (.inr ⟨h2, by omega, by omega⟩)
set_option maxHeartbeats 2000000 in
theorem names_on (a b : Int) (ha : Sg.inO a = true) (hb : Sg.inO b = true) (w : World) (HF : Hid (Facts w)) :
    Calls Tryd.prog 6 #[.int .i64 a, .int .i64 b] w fun e w' => e = .returned (.bool true) ∧ Below w.heap.size w w' := by
  have NA : Hid (∀ W, Facts W → Calls Tryd.prog 11 #[.int .i64 a] W (NamePost W (Sg.nameB a) true)) := Lib.hid fun W hW => by have := name_any a W hW; rw [ha, if_pos rfl] at this; exact this
  have NB : Hid (∀ W, Facts W → Calls Tryd.prog 11 #[.int .i64 b] W (NamePost W (Sg.nameB b) true)) := Lib.hid fun W hW => by have := name_any b W hW; rw [hb, if_pos rfl] at this; exact this
  have PA : Hid (∀ W, Facts W → Calls Tryd.prog 10 #[.string (Sg.nameB a)] W fun e w' => e = .returned (.tuple #[.int .i64 a, .bool true]) ∧ Hid (Below W.heap.size W w')) := Lib.hid fun W hW => by
    refine (parse_any (Sg.nameB a) (by rw [Sg.nameB_size]; decide) W hW).mono ?_
    rintro e w' ⟨h1, h2⟩
    rw [Sg.segP_name a ha] at h1
    exact ⟨h1, h2⟩
  have hs := Sg.nameB_size a
  have hlt := Sg.name_lt ha hb
  generalize Sg.nameB a = s at *
  generalize Sg.nameB b = t at *
  clear ha hb
  go_enter Tryd.func6, Tryd.ntmps6
  go_wp2_with fail
  refine (awake_any _ HF.out).mono ?_; rintro e w1 ⟨rfl, b1⟩
  have F1 := Lib.hid (HF.out.below b1.out)
  go_wp2_with fail
  refine (NA.out _ F1.out).mono ?_; rintro e w2 ⟨rfl, b2⟩
  have F2 := Lib.hid (F1.out.below b2.out)
  have B2 := Lib.hid (b1.out.trans (b2.out.mono b1.out.size))
  go_wp2_with fail
  refine (NB.out _ F2.out).mono ?_; rintro e w3 ⟨rfl, b3⟩
  have F3 := Lib.hid (F2.out.below b3.out)
  have B3 := Lib.hid (B2.out.trans (b3.out.mono B2.out.size))
  go_wp2_with fail
  refine (PA.out _ F3.out).mono ?_; rintro e w4 ⟨rfl, b4⟩
  have B4 := Lib.hid (B3.out.trans (b4.out.mono B3.out.size))
  go_wp2
  go_ret
  exact ⟨rfl, B4.out⟩
set_option maxHeartbeats 4000000 in
theorem names_off (a b : Int) (h : ¬ (Sg.inO a = true ∧ Sg.inO b = true)) (w : World) (HF : Hid (Facts w)) :
    Calls Tryd.prog 6 #[.int .i64 a, .int .i64 b] w fun e w' => e = .returned (.bool true) ∧ Below w.heap.size w w' := by
  obtain ⟨s, o, NA, ha⟩ := name_kinds a
  obtain ⟨t, p, NB, hb⟩ := name_kinds b
  have hx : ¬ ((0 ≤ a ∧ a ≤ 17592186044415) ∧ (0 ≤ b ∧ b ≤ 17592186044415)) := fun q => h ⟨(Sg.inO_iff a).2 q.1, (Sg.inO_iff b).2 q.2⟩
  clear h
  rcases ha with ⟨rfl, a0, a1⟩ | ⟨rfl, a1⟩ | ⟨rfl, a0, a1⟩ <;> rcases hb with ⟨rfl, b0, b1⟩ | ⟨rfl, b1⟩ | ⟨rfl, b0, b1⟩
  · exact absurd ⟨⟨a0, a1⟩, b0, b1⟩ hx
  all_goals
    clear hx
    go_enter Tryd.func6, Tryd.ntmps6
    go_wp2_with fail
    refine (awake_any _ HF.out).mono ?_; rintro e w1 ⟨rfl, c1⟩
    have F1 := Lib.hid (HF.out.below c1.out)
    go_wp2_with fail
    refine (NA.out _ F1.out).mono ?_; rintro e w2 ⟨rfl, c2⟩
    have F2 := Lib.hid (F1.out.below c2.out)
    have B2 := Lib.hid (c1.out.trans (c2.out.mono c1.out.size))
    go_wp2_with fail
    refine (NB.out _ F2.out).mono ?_; rintro e w3 ⟨rfl, c3⟩
    have B3 := Lib.hid (B2.out.trans (c3.out.mono B2.out.size))
    go_wp2
    go_ret
    first
      | exact ⟨rfl, B3.out⟩
      | (refine ⟨ret_bool ?_, B3.out⟩; simp; omega)
theorem names_walk (a b : Int) (w : World) (hF : Facts w) :
    Calls Tryd.prog 6 #[.int .i64 a, .int .i64 b] w fun e w' => e = .returned (.bool true) ∧ Below w.heap.size w w' := by
  by_cases h : Sg.inO a = true ∧ Sg.inO b = true
  · exact names_on a b h.1 h.2 w (Lib.hid hF)
  · exact names_off a b h w (Lib.hid hF)
end Go.Proofs.YtlaomaefhanacaaDoor
