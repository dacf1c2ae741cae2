/-
  A record put and read again, in the forms that the laws use; the layer's example, which every law of it asks first: it comes out true.
-/
import Derived.Test.YtgjjpehelhdfdaaFrAll
namespace Go.Proofs.Ytgjjpehelhdfdaa
open Go.RowKit
def PutN (w : World) (ys : List Int) (n : Nat) (e : Ending) (w' : World) : Prop :=
  ∃ A cap, e = .returned (.tuple #[.slice A n cap, .int .i64 0]) ∧ Hid (OwnB w' w.heap.size A cap ys) ∧ Hid (Below w.heap.size w w')
/-- Put behind nothing. -/
theorem put_nil (Ap : Option Addr) (p : List Int) (m n capp : Nat) (at_ : Int) (hm : m = p.length) (hn : 16 + m = n) (a0 : 0 ≤ at_) (a1 : at_ < 18446744073709551616) (hp : p.length ≤ 1024) (w : World) (hq : Bytes w w.heap.size Ap p) :
    Calls Try.prog 10 #[.slice none 0 0, .agg #[.int .u64 at_, .slice Ap m capp]] w (PutN w (Fr.putV at_ p) n) := by
  subst hm hn
  refine (put_any none Ap [] p 0 capp at_ a0 a1 (by simp) hp w Bytes.nil_ hq).mono ?_
  rintro e w' ⟨zs, A, cap, hz, rfl, ho, hg⟩
  have e1 : zs = Fr.putV at_ p := hz.out
  subst e1
  exact ⟨A, cap, by rw [Fr.putV_len], Lib.hid ho, Lib.hid hg.below⟩
def GetN (w : World) (at_ : Int) (ps : List Int) (m n : Nat) (e : Ending) (w' : World) : Prop :=
  ∃ A cap, e = .returned (.tuple #[.agg #[.int .u64 at_, .slice A m cap], .int .i64 (n : Int), .int .i64 0]) ∧ Hid (OwnB w' w.heap.size A cap ps) ∧ Hid (Below w.heap.size w w')
/-- Get of a record and whatever follows. -/
theorem get_rec (A : Option Addr) (zs p rest : List Int) (n m k cap : Nat) (at_ : Int) (hn : n = zs.length) (hz : zs = Fr.putV at_ p ++ rest) (hm : p.length = m) (hk : 16 + m = k) (a0 : 0 ≤ at_) (a1 : at_ < 18446744073709551616) (hp : p.length ≤ 1024) (hl : zs.length ≤ 1000000000) (hc : zs.length ≤ cap) (w : World) (hb : Bytes w w.heap.size A zs) :
    Calls Try.prog 11 #[.slice A n cap] w (GetN w at_ p m k) := by
  subst hn hm hk
  have h := get_any A zs cap (by omega) hc w hb
  obtain ⟨g1, g2, g3, g4, g5⟩ := Fr.get_put at_ p rest a0 a1 hp
  rw [← hz] at g1 g2 g3 g4 g5
  rw [Fr.getA_ok g1, Fr.getP_ok g1, Fr.getN_ok g1, g1, g3, g4, g5] at h
  refine h.mono ?_
  rintro e w' ⟨ps, A, cap, hz, rfl, ho, hg⟩
  have e1 : ps = p := hz.out
  subst e1
  exact ⟨A, cap, rfl, Lib.hid ho, Lib.hid hg⟩
def GetBad (w : World) (er : Int) (e : Ending) (w' : World) : Prop :=
  ∃ A c, e = .returned (.tuple #[.agg #[.int .u64 0, .slice A 0 c], .int .i64 0, .int .i64 er]) ∧ Hid (Below w.heap.size w w')
/-- Get of what is no whole record. -/
theorem get_bad (A : Option Addr) (zs : List Int) (n cap : Nat) (er : Int) (hn : n = zs.length) (he : Fr.errG zs = er) (h0 : er ≠ 0) (hl : zs.length ≤ 1000000000) (hc : zs.length ≤ cap) (w : World) (hb : Bytes w w.heap.size A zs) :
    Calls Try.prog 11 #[.slice A n cap] w (GetBad w er) := by
  subst hn he
  have h := get_any A zs cap (by omega) hc w hb
  rw [Fr.getA_bad h0, Fr.getP_bad h0, Fr.getN_bad h0] at h
  refine h.mono ?_
  rintro e w' ⟨ps, A, cap, hz, rfl, ho, hg⟩
  have e1 : ps = [] := hz.out
  subst e1
  exact ⟨A, cap, rfl, Lib.hid hg⟩
theorem size2 (x : Value) (A : Option Addr) (n cap : Nat) (k : Int) (hk : 16 + (n : Int) = k) (hn : n ≤ 9000000000000000000) (w : World) :
    Calls Try.prog 17 #[.agg #[x, .slice A n cap]] w fun e w' => e = .returned (.int .i64 k) ∧ Below w.heap.size w w' := by
  subst hk
  exact (size_any x A n cap hn w).mono fun e w' ⟨h1, h2⟩ => ⟨h1, h2.below⟩
set_option maxHeartbeats 2000000 in
theorem awake_any (w : World) : Calls Try.prog 9 #[] w fun e w' => e = .returned (.bool true) ∧ Below w.heap.size w w' := by
  have hcv := conv_lit
  go_enter Try.func9, Try.ntmps9
  go_wp2_with fail
  refine (put_nil _ [97, 98] 2 18 2 1 rfl rfl (by decide) (by decide) (by decide) _ ((Bytes.new w [97, 98] (by decide) _ _ rfl).more (by simp))).mono ?_
  rintro e w1 ⟨A1, c1, rfl, o1, b1⟩
  go_wp2_with fail
  refine (get_rec _ (Fr.putV 1 [97, 98]) [97, 98] [] 18 2 18 c1 1 (by rw [Fr.putV_len]; rfl) (by simp) rfl rfl (by decide) (by decide) (by decide) (by rw [Fr.putV_len]; decide) o1.out.cap_ _ o1.out.bytes).mono ?_
  rintro e w2 ⟨A2, c2, rfl, o2, b2⟩
  have CV : Hid (∀ W, Below w2.heap.size w2 W → (convert 23 9 (.slice A2 2 c2)).run Try.prog W = .ok (.string ⟨#[97, 98]⟩) W) := fun W hW => conv_str (o2.out.bytes.below hW) c2
  have cv := CV.out _ ((Below.refl _ _).alloc (Nat.le_refl _) (.cells #[.int .u64 1, .slice A2 2 c2] 30))
  go_wp2_with fail
  refine (size2 _ _ 2 _ 18 rfl (by decide) _).mono ?_
  rintro e w3 ⟨rfl, b3⟩
  have B3 := Lib.hid b3
  clear b3 cv
  go_wp2
  go_ret
  have hs1 : w.heap.size ≤ w1.heap.size := Nat.le_trans (by simp) b1.out.size
  have c1 : Below w.heap.size w w1 := ((Below.refl _ _).alloc (Nat.le_refl _) _).trans (b1.out.mono (by simp))
  have c2 : Below w.heap.size w w2 := c1.trans (b2.out.mono hs1)
  exact ⟨rfl, (c2.alloc c2.size _).trans (B3.out.mono (by have := c2.size; simp; omega))⟩
end Go.Proofs.Ytgjjpehelhdfdaa
