/-
  seg.Name and seg.Parse at every argument.
-/
import Derived.Test.YtlaomaefhanacaaDoorSegInt
namespace Go.Proofs.YtlaomaefhanacaaDoor
open Go.RowKit
theorem str_cat (a b : List UInt8) : (⟨a.toArray⟩ : ByteArray) ++ ⟨b.toArray⟩ = ⟨(a ++ b).toArray⟩ := by
  apply ByteArray.ext
  rw [ByteArray.data_append]; simp
theorem str_len (a : List UInt8) : (⟨a.toArray⟩ : ByteArray).size = a.length := by
  show a.toArray.size = _
  rw [List.size_toArray]
def NamePost (w : World) (s : ByteArray) (ok : Bool) (e : Ending) (w' : World) : Prop :=
  e = .returned (.tuple #[.string s, .bool ok]) ∧ Hid (Below w.heap.size w w')
theorem name_off (f : Int) (h : f < 0 ∨ (0 ≤ f ∧ 17592186044415 < f)) (w : World) : Calls Tryd.prog 11 #[.int .i64 f] w (NamePost w ⟨#[]⟩ false) := by
  rcases h with h | ⟨h, h2⟩
  all_goals
    go_enter Tryd.func11, Tryd.ntmps11
    go_wp2
    go_ret2
    exact ⟨rfl, Lib.hid (Below.refl _ _)⟩
theorem zeros_name (n : Nat) (f : Int) (hn : n ≤ 12) (hf : f.toNat < 16 ^ n) :
    (⟨#[119, 45]⟩ : ByteArray) ++ ⟨(Lib.repeatL [48] (12 - n)).toArray⟩ ++ ⟨(Sg.pad n f.toNat).toArray⟩ = Sg.nameB f := by
  have e1 : (⟨#[119, 45]⟩ : ByteArray) = ⟨([119, 45] : List UInt8).toArray⟩ := rfl
  rw [e1, str_cat, str_cat]
  have e2 : Lib.repeatL [48] (12 - n) = List.replicate (12 - n) 48 := by
    have := Lib.repeatL_replicate 48 1 (12 - n)
    simpa using this
  have e3 := Sg.pad_more (12 - n) n f.toNat hf
  rw [show 12 - n + n = 12 by omega] at e3
  unfold Sg.nameB Sg.nameL
  rw [e3, e2]
  simp
set_option maxHeartbeats 1000000 in
set_option maxRecDepth 100000 in
theorem name_on (f : Int) (h0 : 0 ≤ f) (h1 : f ≤ 17592186044415) (w : World) (hF : Facts w) : Calls Tryd.prog 11 #[.int .i64 f] w (NamePost w (Sg.nameB f) true) := by
  have G := Lib.hid (fmt_16 f h0 h1 w hF)
  go_enter Tryd.func11, Tryd.ntmps11
  go_wp2_with fail
  refine G.out.mono ?_; rintro e w1 ⟨st, rfl, hst, hb⟩
  clear h0 h1 hF G
  obtain ⟨n, n0, n1, hn, hs⟩ := hst.out
  have hsz : st.size = n := by rw [hs, str_len, Sg.pad_len]
  have RP := Tryd.strings_Repeat ⟨#[48]⟩ (12 - n) w1 (by omega) (by show 1 * (12 - n) ≤ _; omega)
  rw [show ((12 - n : Nat) : Int) = 12 - (n : Int) by omega] at RP
  have EQ := Lib.hid (zeros_name n f n1 hn)
  rw [← hs] at EQ
  have hz : (⟨(Lib.repeatL (⟨#[48]⟩ : ByteArray).data.toList (12 - n)).toArray⟩ : ByteArray).size = 12 - n := by
    rw [str_len, Lib.repeatL_length]; simp
  generalize hzz : (⟨(Lib.repeatL (⟨#[48]⟩ : ByteArray).data.toList (12 - n)).toArray⟩ : ByteArray) = z at *
  clear hzz hs hn hst
  obtain ⟨x, hx⟩ : ∃ x, x = (⟨#[119, 45]⟩ : ByteArray) ++ z := ⟨_, rfl⟩
  have hxs : x.size = 2 + (12 - n) := by rw [hx, ByteArray.size_append, hz]; rfl
  have a1 : ∀ W, (Op.stringOp .add (⟨#[119, 45]⟩ : ByteArray) z).run Tryd.prog W = .ok (.string x) W := fun W => by
    rw [hx]; exact run_string_add_sum W _ _ (by rw [hz]; show 2 + (12 - n) ≤ _; omega)
  have a2 : ∀ W, (Op.stringOp .add x st).run Tryd.prog W = .ok (.string (Sg.nameB f)) W := fun W => by
    rw [← EQ.out, ← hx]; exact run_string_add_sum W _ _ (by omega)
  clear hx hxs hz
  have hsz' : (st.size : Int) = (n : Int) := by omega
  clear hsz
  have hn' : (n : Int) ≤ 12 := by omega
  have B1 := hb
  go_wp2_with fail
  refine RP.mono ?_; rintro e w2 ⟨rfl, hb2⟩
  have B2 := Lib.hid (B1.out.trans (hb2.mono B1.out.size))
  clear hb2 RP hb B1
  go_wp2
  go_ret2
  exact ⟨rfl, B2⟩
theorem name_any (f : Int) (w : World) (hF : Facts w) : Calls Tryd.prog 11 #[.int .i64 f] w (NamePost w (if Sg.inO f then Sg.nameB f else ⟨#[]⟩) (Sg.inO f)) := by
  by_cases h : Sg.inO f = true
  · rw [h, if_pos rfl]
    have hh := (Sg.inO_iff f).1 h
    exact name_on f hh.1 hh.2 w hF
  · have hh : ¬ (0 ≤ f ∧ f ≤ 17592186044415) := fun k => h ((Sg.inO_iff f).2 k)
    rw [if_neg h, show Sg.inO f = false by simpa using h]
    exact name_off f (by omega) w
/-- What a text that is read tells: a number, and of which offset's name. -/
def PubPost (w : World) (l : List UInt8) (e : Ending) (w' : World) : Prop :=
  ∃ v ev, e = .returned (.tuple #[.int .i64 v, ev]) ∧ Hid (-9223372036854775808 ≤ v ∧ v ≤ 9223372036854775807 ∧ (GoodT l → v = (Sg.valH 0 l : Nat))) ∧ Hid (Below w.heap.size w w')
theorem te_syn (s : ByteArray) (hmax : s.size ≤ 281474976710656) (w : World) (hF : Facts w) :
    Calls Tryd.prog 39 #[.string ⟨#[80, 97, 114, 115, 101, 73, 110, 116]⟩, .string s, .int .i64 16, .int .i64 64, .iface 99 (.int .i64 2)] w fun e w' => ∃ N, e = .returned (.iface 102 (.pointer (some ⟨N, 0, none⟩))) ∧ Hid (Below w.heap.size w w') := by
  obtain ⟨ev, h1, h2⟩ := hF.synCell
  refine (Any.strconv_toError_syntax Tryd.laysC245 ⟨#[80, 97, 114, 115, 101, 73, 110, 116]⟩ s 16 64 ev w hmax h1 h2).mono ?_
  rintro e w' ⟨N, h1, _, _, h2⟩
  exact ⟨N, h1, Lib.hid h2⟩
theorem te_rng (s : ByteArray) (hmax : s.size ≤ 281474976710656) (w : World) (hF : Facts w) :
    Calls Tryd.prog 39 #[.string ⟨#[80, 97, 114, 115, 101, 73, 110, 116]⟩, .string s, .int .i64 16, .int .i64 64, .iface 99 (.int .i64 1)] w fun e w' => ∃ N, e = .returned (.iface 102 (.pointer (some ⟨N, 0, none⟩))) ∧ Hid (Below w.heap.size w w') := by
  obtain ⟨ev, h1, h2⟩ := hF.rngCell
  refine (Tryd.strconv_toError_range ⟨#[80, 97, 114, 115, 101, 73, 110, 116]⟩ s 16 64 ev w hmax h1 h2).mono ?_
  rintro e w' ⟨N, h1, _, _, h2⟩
  exact ⟨N, h1, Lib.hid h2⟩
set_option maxHeartbeats 1000000 in
theorem pub_any (s : ByteArray) (hmax : s.size ≤ 281474976710656) (w : World) (hF : Facts w) :
    Calls Tryd.prog 24 #[.string s, .int .i64 16, .int .i64 64] w (PubPost w s.data.toList) := by
  have PI := Lib.hid (pi_any s (by omega) w)
  have TS := Lib.hid (fun (W : World) (h : Below w.heap.size w W) => te_syn s hmax W (hF.below h))
  have TR := Lib.hid (fun (W : World) (h : Below w.heap.size w W) => te_rng s hmax W (hF.below h))
  clear hF hmax
  go_enter Tryd.func24, Tryd.ntmps24
  go_wp2_with fail
  refine PI.out.mono ?_; rintro e w1 ⟨v, ev, rfl, hr, hb⟩
  obtain ⟨h0, h1, hev, hg⟩ := hr.out
  have HR : Hid (-9223372036854775808 ≤ v ∧ v ≤ 9223372036854775807 ∧ (GoodT s.data.toList → v = (Sg.valH 0 s.data.toList : Nat))) := Lib.hid ⟨h0, h1, hg⟩
  have B1 := hb
  clear h0 h1 hg hr hb PI
  rcases hev with rfl | rfl | rfl
  · go_wp2
    go_ret2
    exact ⟨v, _, rfl, HR, B1⟩
  · go_wp2_with fail
    refine (TR.out _ B1.out).mono ?_; rintro e w2 ⟨N, rfl, hb2⟩
    have B2 := Lib.hid (B1.out.trans (hb2.out.mono B1.out.size))
    clear hb2
    go_wp2
    go_ret2
    exact ⟨v, _, rfl, HR, B2⟩
  · go_wp2_with fail
    refine (TS.out _ B1.out).mono ?_; rintro e w2 ⟨N, rfl, hb2⟩
    have B2 := Lib.hid (B1.out.trans (hb2.out.mono B1.out.size))
    clear hb2
    go_wp2
    go_ret2
    exact ⟨v, _, rfl, HR, B2⟩
end Go.Proofs.YtlaomaefhanacaaDoor
