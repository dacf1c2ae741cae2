/-
  A store that was made since a world w0, as the laws use it: each method as a step from one plain state to the next; and the laws' first test.
-/
import Derived.Test.YtmahbcpkilegpaaStoApp
import Derived.Test.YtmahbcpkilegpaaStoFuse
namespace Go.Proofs.Ytmahbcpkilegpaa
open Go.RowKit St

/-- The store at block T, made since w0, whose plain state is s. -/
def Run (w0 w : World) (T : Nat) (s : S) : Prop := ∃ own, PState w T own s ∧ (∀ k, own k → w0.heap.size ≤ k) ∧ Below w0.heap.size w0 w
theorem Run.below {w0 w : World} {T : Nat} {s : S} (h : Run w0 w T s) : Below w0.heap.size w0 w := by obtain ⟨_, _, _, h⟩ := h; exact h
theorem Run.inv {w0 w : World} {T : Nat} {s : S} (h : Run w0 w T s) : Inv s := by obtain ⟨_, p, _⟩ := h; exact p.inv
theorem Run.size {w0 w : World} {T : Nat} {s : S} (h : Run w0 w T s) : w0.heap.size ≤ w.heap.size := h.below.size
theorem Run.grow {w0 w w' : World} {T : Nat} {s : S} (h : Run w0 w T s) (hb : Below w.heap.size w w') : Run w0 w' T s := by
  obtain ⟨own, p, ho, h0⟩ := h
  exact ⟨own, p.grow hb, ho, h0.trans (hb.mono h0.size)⟩
theorem Run.alloc {w0 w : World} {T : Nat} {s : S} (h : Run w0 w T s) (o : Obj) : Run w0 (w.alloc o) T s := h.grow (one_alloc w o)
theorem Run.draw {w0 w : World} {T : Nat} {s : S} (h : Run w0 w T s) (n : Nat) : Run w0 (w.drewN n) T s := h.grow (below_n (Below.refl _ _) n)
theorem Run.leaves {w0 w w' : World} {T : Nat} {s' : S} {own : Nat → Prop} (ho : ∀ k, own k → w0.heap.size ≤ k) (h0 : Below w0.heap.size w0 w) (hl : Leaves w T own s' w') : Run w0 w' T s' := by
  obtain ⟨own2, p, st⟩ := hl
  refine ⟨own2, p, fun k hk => ?_, h0.trans (st.only.below h0.size ho)⟩
  rcases st.sub k hk with h1 | h1
  · exact ho k h1
  · exact Nat.le_trans h0.size h1
theorem Run.ahead {w0 w1 w : World} {T : Nat} {s : S} (h : Run w1 w T s) (hb : Below w0.heap.size w0 w1) : Run w0 w T s := by
  obtain ⟨own, p, ho, h0⟩ := h
  exact ⟨own, p, fun k hk => Nat.le_trans hb.size (ho k hk), hb.trans (h0.mono hb.size)⟩
theorem Run.T_ge {w0 w : World} {T : Nat} {s : S} (h : Run w0 w T s) : w0.heap.size ≤ T := by obtain ⟨own, p, ho, _⟩ := h; exact ho _ p.ownT
def NewRun (w0 w : World) (room : Nat) (e : Ending) (w' : World) : Prop := ∃ T, e = .returned (.tuple #[.pointer (some ⟨T, 0, none⟩), .int .i64 0]) ∧ Hid (Run w0 w' T ⟨room, [], false, 0, []⟩)
theorem new_run (room : Nat) (r : Int) (hr : r = (room : Int)) (h0 : 1 ≤ room) (h1 : room ≤ 16777216) (w0 w : World) (hb : Below w0.heap.size w0 w) : Calls Try.prog 10 #[.int .i64 r] w (NewRun w0 w room) := by
  subst hr
  refine (new_good room h0 h1 w).mono ?_
  rintro e w' ⟨rfl, own, p, hb2, ho⟩
  exact ⟨_, rfl, Lib.hid ⟨own, p, fun k hk => Nat.le_trans hb.size (ho k hk), hb.trans (hb2.mono hb.size)⟩⟩
def OpRun (w0 : World) (T : Nat) (er : Int) (s : S) (e : Ending) (w' : World) : Prop := e = .returned (.int .i64 er) ∧ Hid (Run w0 w' T s)
theorem op_run {P : Program} {f : FuncId} {args : Array Value} {w0 w : World} {T : Nat} {own : Nat → Prop} {er er' : Int} {s s' : S} (ho : ∀ k, own k → w0.heap.size ≤ k) (h0 : Below w0.heap.size w0 w) (h : Calls P f args w (OpPost w T own er s)) (he : er = er') (hs : s = s') :
    Calls P f args w (OpRun w0 T er' s') := by
  subst he hs
  exact h.mono fun e w' ⟨h1, h2⟩ => ⟨h1, Lib.hid (Run.leaves ho h0 h2)⟩
section
variable {w0 w : World} {T : Nat} {s : S} (h : Run w0 w T s)
include h
theorem append_run (sn : ByteArray) (hsn : sn.size ≤ 9223372036854775807) (A0 : Option Addr) (n cap0 : Nat) (zs : List Int) (hn : n = zs.length) (hby : Bytes w w.heap.size A0 zs) (er : Int) (s' : S) (he : actE s (appE s (bs sn) zs.length) = er) (hs : actS s (appE s (bs sn) zs.length) (appL s (bs sn) zs) = s') :
    Calls Try.prog 11 #[.pointer (some ⟨T, 0, none⟩), .string sn, .slice A0 n cap0] w (OpRun w0 T er s') := by
  subst hn
  obtain ⟨own, p, ho, h0⟩ := h
  exact op_run ho h0 (append_any T own s w p sn hsn A0 cap0 zs hby) he hs
theorem sync_run (sn : ByteArray) (hsn : sn.size ≤ 9223372036854775807) (er : Int) (s' : S) (he : actE s (fnd s (bs sn) [bs sn, bs sn]) = er) (hs : actS s (fnd s (bs sn) [bs sn, bs sn]) (swapL s (bs sn) (bs sn)) = s') :
    Calls Try.prog 12 #[.pointer (some ⟨T, 0, none⟩), .string sn] w (OpRun w0 T er s') := by
  obtain ⟨own, p, ho, h0⟩ := h
  exact op_run ho h0 (sync_any T own s w p sn hsn) he hs
theorem cut_run (sn : ByteArray) (hsn : sn.size ≤ 9223372036854775807) (n : Int) (er : Int) (s' : S) (he : actE s (cutE s (bs sn) n) = er) (hs : actS s (cutE s (bs sn) n) (cutL s (bs sn) n.toNat) = s') :
    Calls Try.prog 13 #[.pointer (some ⟨T, 0, none⟩), .string sn, .int .i64 n] w (OpRun w0 T er s') := by
  obtain ⟨own, p, ho, h0⟩ := h
  exact op_run ho h0 (cut_any T own s w p sn hsn n) he hs
theorem drop_run (sn : ByteArray) (hsn : sn.size ≤ 9223372036854775807) (er : Int) (s' : S) (he : actE s (fnd s (bs sn) [bs sn]) = er) (hs : actS s (fnd s (bs sn) [bs sn]) (del (bs sn) s.fs) = s') :
    Calls Try.prog 15 #[.pointer (some ⟨T, 0, none⟩), .string sn] w (OpRun w0 T er s') := by
  obtain ⟨own, p, ho, h0⟩ := h
  exact op_run ho h0 (drop_any T own s w p sn hsn) he hs
theorem swap_run (sa sb : ByteArray) (hsa : sa.size ≤ 9223372036854775807) (hsb : sb.size ≤ 9223372036854775807) (er : Int) (s' : S) (he : actE s (fnd s (bs sa) [bs sb, bs sa]) = er) (hs : actS s (fnd s (bs sa) [bs sb, bs sa]) (swapL s (bs sa) (bs sb)) = s') :
    Calls Try.prog 14 #[.pointer (some ⟨T, 0, none⟩), .string sa, .string sb] w (OpRun w0 T er s') := by
  obtain ⟨own, p, ho, h0⟩ := h
  exact op_run ho h0 (swap_any T own s w p sa sb hsa hsb) he hs
theorem crash_run (A : Option Addr) (ks : List Int) (n cap : Nat) (hn : n = ks.length) (hkl : n ≤ cap) (hkb : n ≤ 4611686018427387904) (hk : Ints w A ks) (s' : S) (hs : crash s ks = s') :
    Calls Try.prog 17 #[.pointer (some ⟨T, 0, none⟩), .slice A n cap] w fun e w' => e = .returned (.tuple #[]) ∧ Hid (Run w0 w' T s') := by
  subst hn hs
  obtain ⟨own, p, ho, h0⟩ := h
  exact (crash_any T own s A ks cap hkl hkb w p hk).mono fun e w' ⟨h1, h2⟩ => ⟨h1, Lib.hid (Run.leaves ho h0 h2)⟩
theorem fuse_run (n : Int) (hn : n ≤ 9223372036854775807) (A : Option Addr) (ks : List Int) (len cap : Nat) (hl : len = ks.length) (hcap : len ≤ cap) (hi : Ints w A ks) (hT : 0 < ks.length → ∀ a, A = some a → a.block ≠ T) (s' : S) (hs : fuseS s n ks = s') :
    Calls Try.prog 21 #[.pointer (some ⟨T, 0, none⟩), .int .i64 n, .slice A len cap] w fun e w' => e = .returned (.tuple #[]) ∧ Hid (Run w0 w' T s') := by
  subst hl hs
  obtain ⟨own, p, ho, h0⟩ := h
  exact (fuse_any T own s n A ks cap hcap w p hn hi hT).mono fun e w' ⟨h1, h2⟩ => ⟨h1, Lib.hid (Run.leaves ho h0 h2)⟩
theorem on_run (s' : S) (hs : ({ s with off := false } : S) = s') :
    Calls Try.prog 20 #[.pointer (some ⟨T, 0, none⟩)] w fun e w' => e = .returned (.tuple #[]) ∧ Hid (Run w0 w' T s') := by
  subst hs
  obtain ⟨own, p, ho, h0⟩ := h
  exact (on_any T own s w p).mono fun e w' ⟨h1, h2⟩ => ⟨h1, Lib.hid (Run.leaves ho h0 h2)⟩
theorem read_run (sn : ByteArray) (hsn : sn.size ≤ 9223372036854775807) (ys : List Int) (er : Int) (he : readE s (bs sn) = er) (hy : readL s (bs sn) = ys) :
    Calls Try.prog 23 #[.pointer (some ⟨T, 0, none⟩), .string sn] w fun e w' => ∃ A cap, e = .returned (.tuple #[.slice A ys.length cap, .int .i64 er]) ∧ Hid (OwnB w' w.heap.size A cap ys) ∧ Hid (Run w0 w' T s) := by
  subst he hy
  obtain ⟨own, p, ho, h0⟩ := h
  refine (read_any T own s w p sn hsn).mono ?_
  rintro e w' ⟨zs, A, cap, hz, rfl, h1, h2⟩
  have hz' : zs = readL s (bs sn) := hz.out
  subst hz'
  exact ⟨A, cap, rfl, Lib.hid h1, Lib.hid (Run.grow (s := s) ⟨own, p, ho, h0⟩ h2)⟩
theorem sure_run (sn : ByteArray) (hsn : sn.size ≤ 9223372036854775807) (n : Int) (hn : ((file s (bs sn)).sure : Int) = n) :
    Calls Try.prog 18 #[.pointer (some ⟨T, 0, none⟩), .string sn] w fun e w' => e = .returned (.int .i64 n) ∧ w = w' := by
  subst hn
  obtain ⟨own, p, ho, h0⟩ := h
  exact sure_any T own s w p sn hsn
theorem free_run (n : Int) (hn : (s.room : Int) - (total s.fs : Nat) = n) :
    Calls Try.prog 19 #[.pointer (some ⟨T, 0, none⟩)] w fun e w' => e = .returned (.int .i64 n) ∧ Hid (Run w0 w' T s) ∧ Hid (Below w.heap.size w w') := by
  subst hn
  obtain ⟨own, p, ho, h0⟩ := h
  exact (free_any T own s w p).mono fun e w' ⟨h1, h2⟩ => ⟨h1, Lib.hid (Run.grow (s := s) ⟨own, p, ho, h0⟩ h2), Lib.hid h2⟩
theorem off_run : Calls Try.prog 22 #[.pointer (some ⟨T, 0, none⟩)] w fun e w' => e = .returned (.bool s.off) ∧ w = w' := by
  obtain ⟨own, p, ho, h0⟩ := h
  exact off_any T own s w p
theorem names_run (ns : List ByteArray) (hn : (s.fs.map F.nm).map mkB = ns) :
    Calls Try.prog 16 #[.pointer (some ⟨T, 0, none⟩)] w fun e w' => ∃ A cap, e = .returned (.slice A ns.length cap) ∧ Hid (Strs w' w'.heap.size A ns) ∧ Hid (Run w0 w' T s) ∧ Hid (Below w.heap.size w w') := by
  subst hn
  obtain ⟨own, p, ho, h0⟩ := h
  refine (names_any T own s w p).mono ?_
  rintro e w' ⟨A, cap, ns, hns, rfl, h1, h2⟩
  have hns' : ns = (s.fs.map F.nm).map mkB := hns.out
  subst hns'
  exact ⟨A, cap, rfl, Lib.hid h1, Lib.hid (Run.grow (s := s) ⟨own, p, ho, h0⟩ h2), Lib.hid h2⟩
end
theorem ints_lit (w : World) (n : Nat) (hn : n = w.heap.size) (z : Int) (fr : Nat × Nat) : Ints (w.alloc (.cells #[.int .i64 z] 3 fr)) (some ⟨n, 0, none⟩) [z] := fun _ => by
  subst hn
  refine ⟨w.heap.size, 0, rfl, fun i hi => ?_⟩
  simp at hi; subst hi
  rw [Nat.zero_add, World.cell?_alloc_mark]
  simp

/-! ### awake -/
def s0 (room : Nat) : S := ⟨room, [], false, 0, []⟩
set_option maxRecDepth 20000 in
set_option maxHeartbeats 4000000 in
theorem awake_any (w : World) : Calls Try.prog 9 #[] w fun e w' => e = .returned (.bool true) ∧ Below w.heap.size w w' := by
  have hcv := conv_lit
  go_enter Try.func9, Try.ntmps9
  go_wp2_with fail
  refine (new_run 100 100 rfl (by decide) (by decide) w w (Below.refl _ _)).mono ?_; rintro e w1 ⟨T, rfl, r1⟩
  go_wp2_with fail
  refine (append_run (r1.out.alloc _) ⟨#[102]⟩ (by decide) _ 2 2 [97, 98] rfl (Bytes.new w1 [97, 98] (by decide) _ _ rfl |>.more (by simp)) 0 ⟨100, [⟨[102], [97, 98], 0⟩], false, 0, []⟩ rfl rfl).mono ?_; rintro e w2 ⟨rfl, r2⟩
  go_wp2_with fail
  refine (sync_run r2.out ⟨#[102]⟩ (by decide) 0 ⟨100, [⟨[102], [97, 98], 2⟩], false, 0, []⟩ rfl rfl).mono ?_; rintro e w3 ⟨rfl, r3⟩
  go_wp2_with fail
  refine (append_run (r3.out.alloc _) ⟨#[102]⟩ (by decide) _ 2 2 [99, 100] rfl (Bytes.new w3 [99, 100] (by decide) _ _ rfl |>.more (by simp)) 0 ⟨100, [⟨[102], [97, 98, 99, 100], 2⟩], false, 0, []⟩ rfl rfl).mono ?_; rintro e w4 ⟨rfl, r4⟩
  go_wp2_with fail
  refine (crash_run (r4.out.alloc _) _ [1] 1 1 rfl (by decide) (by decide) (ints_lit w4 _ rfl 1 _) ⟨100, [⟨[102], [97, 98, 99], 3⟩], true, 0, []⟩ rfl).mono ?_; rintro e w5 ⟨rfl, r5⟩
  go_wp2_with fail
  refine (read_run r5.out ⟨#[102]⟩ (by decide) [] 11 rfl rfl).mono ?_; rintro e w6 ⟨A6, c6, rfl, o6, r6⟩
  go_wp2_with fail
  refine (on_run r6.out ⟨100, [⟨[102], [97, 98, 99], 3⟩], false, 0, []⟩ rfl).mono ?_; rintro e w7 ⟨rfl, r7⟩
  go_wp2_with fail
  refine (read_run r7.out ⟨#[102]⟩ (by decide) [97, 98, 99] 0 rfl rfl).mono ?_; rintro e w8 ⟨A8, c8, rfl, o8, r8⟩
  have cv : (convert 28 9 (.slice A8 3 c8)).run Try.prog w8 = .ok (.string ⟨#[97, 98, 99]⟩) w8 := conv_str o8.out.bytes c8
  go_wp2_with fail
  refine (sure_run r8.out ⟨#[102]⟩ (by decide) 3 rfl).mono ?_; rintro e w9 ⟨rfl, rfl⟩
  go_wp2
  go_ret
  exact ⟨rfl, r8.out.below⟩
end Go.Proofs.Ytmahbcpkilegpaa
