/-
  The law FrameSays: Put, Get, All and Size tell what the reference tells.
-/
import Derived.Test.YtgjjpehelhdfdaaFrameAll
namespace Go.Proofs.Ytgjjpehelhdfdaa
open Go.RowKit
theorem OwnP.low {w : World} {base b : Nat} {T : TypeId} {A : Option Addr} {cap : Nat} {vs : List (Value × Value)} (h : OwnP w base T A cap vs) (hb : b ≤ base) : OwnP w b T A cap vs := Joins.ownsRow_le h hb
/-- What the two ways to put a record leave: the same bytes, in rows that the world holds. -/
def PutS (w : World) (xs : List Int) (n : Nat) (v : Value) (e : Ending) (w' : World) : Prop :=
  ∃ A c, e = .returned (.tuple #[.slice A n c, v]) ∧ Hid (Bytes w' w'.heap.size A xs) ∧ Hid (Below w.heap.size w w')
def GetS (w : World) (at_ : Int) (ps : List Int) (m n : Nat) (er : Int) (e : Ending) (w' : World) : Prop :=
  ∃ A c, e = .returned (.tuple #[.agg #[.int .u64 at_, .slice A m c], .int .i64 (n : Int), .int .i64 er]) ∧ Hid (Bytes w' w'.heap.size A ps) ∧ Hid (Below w.heap.size w w')
theorem get_s (A : Option Addr) (zs : List Int) (cap : Nat) (hl : zs.length ≤ 9223372036854775807) (hc : zs.length ≤ cap) (w : World) (hb : Bytes w w.heap.size A zs) :
    Calls Try.prog 11 #[.slice A zs.length cap] w (GetS w (Fr.getA zs) (Fr.getP zs) (Fr.getP zs).length (Fr.getN zs) (Fr.errG zs)) := by
  refine (get_any A zs cap hl hc w hb).mono ?_
  rintro e w' ⟨ps, A, cap, hz, rfl, ho, hg⟩
  have e1 : ps = Fr.getP zs := hz.out
  subst e1
  exact ⟨A, cap, rfl, Lib.hid ho.bytes, Lib.hid hg⟩
/-- What the law's calls return at one set of arguments, in every world that holds them. -/
structure Fs (w : World) (A1 A2 : Option Addr) (p : List Int) (pl bl cap1 cap2 : Nat) (at_ : Int) (xs : List Int) (nx : Nat) (er : Int) (ok : Bool) (ga : Int) (gp : List Int) (gm gn : Nat) (ge : Int) (l : List Fr.Rc) (ll ln : Nat) (le_ : Int) : Prop where
  pt : ∀ W, Below w.heap.size w W → Calls Try.prog 10 #[.slice none 0 0, .agg #[.int .u64 at_, .slice A1 pl cap1]] W (PutS W xs nx (.int .i64 er))
  cv : ∀ W, Below w.heap.size w W → (convert 23 9 (.slice A1 pl cap1)).run Try.prog W = .ok (.string (strOfNums p)) W
  rp : ∀ W, Calls Try.prog 13 #[.agg #[.int .u64 at_, .string (strOfNums p)]] W (PutS W xs nx (.bool ok))
  gt : ∀ W, Below w.heap.size w W → Calls Try.prog 11 #[.slice A2 bl cap2] W (GetS W ga gp gm gn ge)
  rg : ∀ W, Below w.heap.size w W → Calls Try.prog 14 #[.slice A2 bl cap2] W (GetRPost W ga gp gn ge)
  al : ∀ W, Below w.heap.size w W → Calls Try.prog 12 #[.slice A2 bl cap2] W (AllN W l ll ln le_)
  ra : ∀ W, Below w.heap.size w W → Calls Try.prog 15 #[.slice A2 bl cap2] W fun e w' => ∃ A c, e = .returned (.tuple #[.slice A ll c, .int .i64 (ln : Int), .int .i64 le_]) ∧ Hid (OwnP w' W.heap.size 39 A c (l.map valR)) ∧ Hid (Below W.heap.size W w')
  lx : xs.length = nx
  lg : gp.length = gm
  la : l.length = ll
  lb : ll ≤ 1000000000
set_option maxHeartbeats 4000000 in
set_option maxRecDepth 100000 in
theorem says_core (w : World) (A1 A2 : Option Addr) (p : List Int) (pl bl cap1 cap2 : Nat) (at_ : Int) (xs : List Int) (nx : Nat) (er : Int) (ok : Bool) (ga : Int) (gp : List Int) (gm gn : Nat) (ge : Int) (l : List Fr.Rc) (ll ln : Nat) (le_ : Int)
    (F : Fs w A1 A2 p pl bl cap1 cap2 at_ xs nx er ok ga gp gm gn ge l ll ln le_) (h1 : pl ≤ 1100) (h2 : bl ≤ 2000) (hok : (er = 0 ∧ ok = true) ∨ (er = 14 ∧ ok = false)) :
    Calls Try.prog 4 #[.int .u64 at_, .slice A1 pl cap1, .slice A2 bl cap2] w fun e w' => e = .returned (.bool true) ∧ Below w.heap.size w w' := by
  have h1' : (pl : Int) ≤ 1100 := by omega
  have h2' : (bl : Int) ≤ 2000 := by omega
  rcases hok with ⟨rfl, rfl⟩ | ⟨rfl, rfl⟩
  all_goals
    go_enter Try.func4, Try.ntmps4
    go_wp2_with fail
    refine (awake_any _).mono ?_; rintro e w1 ⟨rfl, hb1⟩
    have B1 := Lib.hid hb1
    clear hb1
    go_wp2_with fail
    refine (F.pt _ B1.out).mono ?_; rintro e w2 ⟨A3, c3, rfl, y3, b3⟩
    have B2 := Lib.hid (below_on B1.out b3.out)
    clear b3
    have cv := F.cv _ B2.out
    go_wp2_with fail
    refine (F.rp _).mono ?_; rintro e w3 ⟨A4, c4, rfl, y4, b4⟩
    have B3 := Lib.hid (below_on B2.out b4.out)
    have cva := conv_str (y3.out.below b4.out) c3
    have cvb := conv_str y4.out c4
    rw [F.lx] at cva cvb
    clear b4 cv y3 y4
    generalize strOfNums xs = sx at *
    go_wp2_with fail
    refine (F.gt _ B3.out).mono ?_; rintro e w4 ⟨A5, c5, rfl, y5, b5⟩
    have B4 := Lib.hid (below_on B3.out b5.out)
    clear b5 cva cvb
    have X4 : Hid ((w4.alloc (.cells #[.int .u64 ga, .slice A5 gm c5] 30)).heap[w4.heap.size]? = some (.cells #[.int .u64 ga, .slice A5 gm c5] 30 (0, 0))) := heap_alloc_new w4 _
    have L4 : Hid (Below w4.heap.size w4 (w4.alloc (.cells #[.int .u64 ga, .slice A5 gm c5] 30))) := (Below.refl _ _).alloc (Nat.le_refl _) _
    have Y5 := Lib.hid ((y5.out.below L4.out).more L4.out.size)
    have B4' := Lib.hid (below_on B4.out L4.out)
    go_wp2_with fail
    generalize w4.alloc (.cells #[.int .u64 ga, .slice A5 gm c5] 30) = w4' at *
    refine (F.rg _ B4'.out).mono ?_; rintro e w5 ⟨rfl, b6⟩
    have b6' := Lib.hid b6
    have B5 := Lib.hid (below_on B4'.out b6)
    have X5 := Lib.hid ((b6.block _ (lt_of_block X4.out)).trans X4.out)
    have Y6 := Lib.hid ((Y5.out.below b6).more b6.size)
    clear b6 L4 Y5 y5 X4 b6'
    have X6 : Hid ((w5.alloc (.cells #[.int .u64 ga, .string (strOfNums gp)] 39)).heap[w5.heap.size]? = some (.cells #[.int .u64 ga, .string (strOfNums gp)] 39 (0, 0))) := heap_alloc_new w5 _
    have L5 : Hid (Below w5.heap.size w5 (w5.alloc (.cells #[.int .u64 ga, .string (strOfNums gp)] 39))) := (Below.refl _ _).alloc (Nat.le_refl _) _
    have X5' := Lib.hid ((L5.out.block _ (lt_of_block X5.out)).trans X5.out)
    have Y7 := Lib.hid ((Y6.out.below L5.out).more L5.out.size)
    have B5' := Lib.hid (below_on B5.out L5.out)
    go_wp2_with fail
    generalize w5.alloc (.cells #[.int .u64 ga, .string (strOfNums gp)] 39) = w5' at *
    refine (F.al _ B5'.out).mono ?_; rintro e w6 ⟨A7, c7, rfl, o7, b7⟩
    have B6 := Lib.hid (below_on B5'.out b7.out)
    go_wp2_with fail
    refine (F.ra _ B6.out).mono ?_; rintro e w7 ⟨A8, c8, rfl, o8, b8⟩
    have B7 := Lib.hid (below_on B6.out b8.out)
    have b78 := Lib.hid (below_on b7.out b8.out)
    obtain ⟨x0, x1⟩ := obj2 ((b78.out.block _ (lt_of_block X5'.out)).trans X5'.out)
    obtain ⟨z0, z1⟩ := obj2 ((b78.out.block _ (lt_of_block X6.out)).trans X6.out)
    have cvg := conv_str (Y7.out.below b78.out) c5
    rw [F.lg] at cvg
    have o7' := Lib.hid (o7.out.grew b8.out (Nat.le_refl _))
    have hs56 := b7.out.size
    clear o7 b7 b78 X5' X6 X5 Y6 Y7 L5
    generalize strOfNums gp = sg at *
    have RS := Lib.hid (recs_same A7 A8 c7 c8 w5'.heap.size l (by rw [F.la]; exact F.lb) w7 o7'.out (OwnP.low o8.out hs56))
    rw [F.la] at RS
    go_wp2_with fail
    refine RS.out.mono ?_; rintro e w8 ⟨rfl, b9⟩
    have B8 := Lib.hid (below_on B7.out b9)
    clear b9 RS
    go_wp2_with fail
    refine (size_any _ A1 pl cap1 (by omega) _).mono ?_; rintro e w9 ⟨rfl, b10⟩
    have B9 := Lib.hid (below_on B8.out b10.below)
    clear b10
    go_wp2
    go_ret
    exact ⟨rfl, B9.out⟩
set_option maxHeartbeats 1000000 in
theorem says_off (A1 A2 : Option Addr) (n m cap1 cap2 : Nat) (at_ : Int) (h : 1100 < n ∨ (n ≤ 1100 ∧ 2000 < m)) (w : World) :
    Calls Try.prog 4 #[.int .u64 at_, .slice A1 n cap1, .slice A2 m cap2] w fun e w' => e = .returned (.bool true) ∧ Below w.heap.size w w' := by
  rcases h with h | ⟨h1, h2⟩
  · have h' : (1100 : Int) < (n : Int) := by omega
    go_enter Try.func4, Try.ntmps4
    go_wp2_with fail
    refine (awake_any _).mono ?_; rintro e w1 ⟨rfl, hb1⟩
    go_wp2
    go_ret
    exact ⟨rfl, hb1⟩
  · have h1' : (n : Int) ≤ 1100 := by omega
    have h2' : (2000 : Int) < (m : Int) := by omega
    go_enter Try.func4, Try.ntmps4
    go_wp2_with fail
    refine (awake_any _).mono ?_; rintro e w1 ⟨rfl, hb1⟩
    go_wp2
    go_ret
    exact ⟨rfl, hb1⟩
theorem says_walk (A1 A2 : Option Addr) (p b : List Int) (cap1 cap2 : Nat) (at_ : Int) (a0 : 0 ≤ at_) (a1 : at_ < 18446744073709551616) (hc2 : b.length ≤ cap2) (w : World) (hp : Bytes w w.heap.size A1 p) (hb : Bytes w w.heap.size A2 b) :
    Calls Try.prog 4 #[.int .u64 at_, .slice A1 p.length cap1, .slice A2 b.length cap2] w fun e w' => e = .returned (.bool true) ∧ Below w.heap.size w w' := by
  by_cases h : p.length ≤ 1100 ∧ b.length ≤ 2000
  · have hal := Fr.allV_len b hb.byte
    have HB : ∀ W, Below w.heap.size w W → Bytes W W.heap.size A2 b := fun W h => (hb.below h).more h.size
    have al : ∀ W, Below w.heap.size w W → Calls Try.prog 12 #[.slice A2 b.length cap2] W (AllN W (Fr.allV b).1 (Fr.allV b).1.length (Fr.allV b).2.1 (Fr.allV b).2.2) := fun W hW => all_at A2 b _ _ _ _ cap2 _ rfl rfl rfl (by omega) hc2 W (HB W hW)
    have ra : ∀ W, Below w.heap.size w W → Calls Try.prog 15 #[.slice A2 b.length cap2] W fun e w' => ∃ A c, e = .returned (.tuple #[.slice A (Fr.allV b).1.length c, .int .i64 ((Fr.allV b).2.1 : Int), .int .i64 (Fr.allV b).2.2]) ∧ Hid (OwnP w' W.heap.size 39 A c ((Fr.allV b).1.map valR)) ∧ Hid (Below W.heap.size W w') := fun W hW => by
      refine (rall_any A2 b cap2 (by omega) hc2 W (HB W hW)).mono ?_
      rintro e w' ⟨l', A, c, h1, rfl, ho, hg⟩
      have e1 : (Fr.allV b).1 = l' := h1.out
      subst e1
      exact ⟨A, c, rfl, Lib.hid ho, Lib.hid hg⟩
    by_cases hq : p.length ≤ 1024
    · refine says_core w A1 A2 p p.length b.length cap1 cap2 at_ (Fr.putV at_ p) (16 + p.length) 0 true (Fr.getA b) (Fr.getP b) (Fr.getP b).length (Fr.getN b) (Fr.errG b) (Fr.allV b).1 (Fr.allV b).1.length (Fr.allV b).2.1 (Fr.allV b).2.2 ?_ h.1 h.2 (.inl ⟨rfl, rfl⟩)
      exact {
        pt := fun W hW => (put_nil A1 p _ _ cap1 at_ rfl rfl a0 a1 hq W ((hp.below hW).more hW.size)).mono fun e w' ⟨A, c, h1, h2, h3⟩ => ⟨A, c, h1, Lib.hid h2.out.bytes, h3⟩
        cv := fun W hW => conv_str (hp.below hW) cap1
        rp := fun W => (putref_any p hp.byte at_ a0 a1 hq W).mono fun e w' ⟨zs, A, c, hz, h1, h2, h3⟩ => by
          have e1 : zs = Fr.putV at_ p := hz.out
          subst e1
          rw [Fr.putV_len] at h1
          exact ⟨A, c, h1, Lib.hid h2.bytes, Lib.hid h3⟩
        gt := fun W hW => get_s A2 b cap2 (by omega) hc2 W (HB W hW)
        rg := fun W hW => rget_any A2 b cap2 (by omega) hc2 W (HB W hW)
        al := al
        ra := ra
        lx := Fr.putV_len _ _
        lg := rfl
        la := rfl
        lb := by omega }
    · refine says_core w A1 A2 p p.length b.length cap1 cap2 at_ [] 0 14 false (Fr.getA b) (Fr.getP b) (Fr.getP b).length (Fr.getN b) (Fr.errG b) (Fr.allV b).1 (Fr.allV b).1.length (Fr.allV b).2.1 (Fr.allV b).2.2 ?_ h.1 h.2 (.inr ⟨rfl, rfl⟩)
      exact {
        pt := fun W hW => (put_large none A1 0 p.length 0 cap1 at_ (by omega) W).mono fun e w' ⟨h1, h3⟩ => ⟨none, 0, h1, Lib.hid Bytes.nil_, Lib.hid h3.below⟩
        cv := fun W hW => conv_str (hp.below hW) cap1
        rp := fun W => (putref_large p at_ (by omega) W).mono fun e w' ⟨h1, h3⟩ => ⟨none, 0, h1, Lib.hid Bytes.nil_, Lib.hid h3⟩
        gt := fun W hW => get_s A2 b cap2 (by omega) hc2 W (HB W hW)
        rg := fun W hW => rget_any A2 b cap2 (by omega) hc2 W (HB W hW)
        al := al
        ra := ra
        lx := rfl
        lg := rfl
        la := rfl
        lb := by omega }
  · exact says_off A1 A2 _ _ cap1 cap2 at_ (by omega) w
end Go.Proofs.Ytgjjpehelhdfdaa
