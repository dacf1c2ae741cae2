/-
  seg.Parse at every text.
-/
import Derived.Test.YtlaomaefhanacaaDoorSegName
namespace Go.Proofs.YtlaomaefhanacaaDoor
open Go.RowKit
theorem toList_inj {a b : ByteArray} (h : a.toList = b.toList) : a = b := by
  rw [Lib.toList_data, Lib.toList_data] at h
  apply ByteArray.ext
  exact Array.toList_inj.1 h
theorem good_pad (f : Int) : GoodT (Sg.pad 12 f.toNat) := ⟨by rw [Sg.pad_len]; decide, Sg.pad_hex _ _⟩
theorem trim_name (f : Int) : Lib.trimPrefix (Sg.nameB f).data.toList [119, 45] = Sg.pad 12 f.toNat := by
  rw [Sg.nameB_data]
  unfold Sg.nameL
  simp [Lib.trimPrefix, Lib.hasPrefix]
def ParsePost (w : World) (s : ByteArray) (e : Ending) (w' : World) : Prop :=
  e = .returned (.tuple #[.int .i64 ((Sg.segP s).getD 0), .bool (Sg.segP s).isSome]) ∧ Hid (Below w.heap.size w w')
set_option maxHeartbeats 1000000 in
theorem parse_any (s : ByteArray) (hmax : s.size ≤ 281474976710656) (w : World) (hF : Facts w) :
    Calls Tryd.prog 10 #[.string s] w (ParsePost w s) := by
  obtain ⟨t, ht⟩ : ∃ t, t = (⟨(Lib.trimPrefix s.data.toList [119, 45]).toArray⟩ : ByteArray) := ⟨_, rfl⟩
  have CP : ∀ W, ∃ b, Calls Tryd.prog 23 #[.string s, .string ⟨#[119, 45]⟩] W fun e w' => e = .returned (.tuple #[.string t, .bool b]) ∧ w' = W := fun W => by
    have := Tryd.strings_CutPrefix s ⟨#[119, 45]⟩ W
    rw [ht]; exact ⟨_, this⟩
  have hts : t.size ≤ 281474976710656 := by
    have h1 : (Lib.trimPrefix s.data.toList [119, 45]).length ≤ s.data.toList.length := by
      unfold Lib.trimPrefix; split
      · rw [List.length_drop]; omega
      · exact Nat.le_refl _
    rw [ht, str_len]
    rw [Lib.size_eq] at hmax
    omega
  have HT := Lib.hid ht
  have PB := Lib.hid (pub_any t hts w hF)
  clear ht hts hmax
  obtain ⟨b, CPw⟩ := CP w
  clear CP
  go_enter Tryd.func10, Tryd.ntmps10
  go_wp2_with fail
  refine CPw.mono ?_; rintro e w' ⟨rfl, rfl⟩
  go_wp2_with fail
  refine PB.out.mono ?_; rintro e w1 ⟨v, ev, rfl, hv, hb⟩
  have NM := Lib.hid (name_any v w1 (hF.below hb.out))
  clear PB CPw
  cases hs : Sg.segP s with
  | some f =>
    obtain ⟨hf, hn⟩ := Sg.segP_some hs
    have hvf : v = f := by
      have h1 := hv.out.2.2
      rw [HT.out, ← hn, trim_name] at h1
      have h2 := h1 (good_pad f)
      have h3 := Sg.val_name f hf
      rw [Sg.nameB_data] at h3
      exact h2.trans h3
    subst hvf
    have N2 := Lib.hid NM.out
    rw [hf, if_pos rfl, hn] at N2
    have HS := Lib.hid hs
    clear hs NM hv HT hn hf
    go_wp2_with fail
    refine N2.out.mono ?_; rintro e w2 ⟨rfl, hb2⟩
    have B2 := Lib.hid (hb.out.trans (hb2.out.mono hb.out.size))
    clear hb2 hb
    go_wp2
    go_ret2
    exact ⟨by rw [HS.out]; rfl, B2⟩
  | none =>
    have HS := Lib.hid hs
    have hx : Hid (Sg.inO v = true → ((Sg.nameB v).toList == s.toList) = false) := Lib.hid fun ho => by
      rcases Bool.eq_false_or_eq_true ((Sg.nameB v).toList == s.toList) with h | h
      · have e := toList_inj (beq_iff_eq.1 h)
        have h2 := Sg.segP_name v ho
        rw [e, HS.out] at h2
        cases h2
      · exact h
    clear hs hv HT
    by_cases ho : Sg.inO v = true
    · have N2 := Lib.hid NM.out
      rw [ho, if_pos rfl] at N2
      have hq := hx.out ho
      clear NM hx ho
      go_wp2_with fail
      refine N2.out.mono ?_; rintro e w2 ⟨rfl, hb2⟩
      have B2 := Lib.hid (hb.out.trans (hb2.out.mono hb.out.size))
      clear hb2 hb
      go_wp2
      go_ret2
      exact ⟨by rw [HS.out]; rfl, B2⟩
    · have N2 := Lib.hid NM.out
      rw [if_neg ho, show Sg.inO v = false by simpa using ho] at N2
      clear NM hx ho
      go_wp2_with fail
      refine N2.out.mono ?_; rintro e w2 ⟨rfl, hb2⟩
      have B2 := Lib.hid (hb.out.trans (hb2.out.mono hb.out.size))
      clear hb2 hb
      go_wp2
      go_ret2
      exact ⟨by rw [HS.out]; rfl, B2⟩
end Go.Proofs.YtlaomaefhanacaaDoor
