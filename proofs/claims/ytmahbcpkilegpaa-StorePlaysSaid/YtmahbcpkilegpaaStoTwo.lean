/-
  The program's store and the reference's beside each other: each call of one leaves the other, and the guests, as they were.
-/
import Derived.Test.YtmahbcpkilegpaaStoRefApp2
import Derived.Test.YtmahbcpkilegpaaStoRefSwap2
import Derived.Test.YtmahbcpkilegpaaStoGuest
namespace Go.Proofs.Ytmahbcpkilegpaa
open Go.RowKit St

theorem rcrash_any (R : Nat) (own : Nat → Prop) (s : S) (w : World) (h : RState w R own s) (A : Option Addr) (ks : List Int) (len cap : Nat) (hl : len = ks.length) (hk : ks.length ≤ 1000000) (hi : Ints w A ks) (hA : 0 < ks.length → ∀ a, A = some a → ¬ own a.block) :
    Calls Try.prog 30 #[.pointer (some ⟨R, 0, none⟩), .slice A len cap] w fun e w' => e = .returned (.tuple #[]) ∧ RLeaves w R own (crash s ks) w' := by
  cases ho : s.off with
  | false =>
    obtain ⟨rf, rk, Ad, fa, fc, ka, kc, p, b1, b2, b3⟩ := h
    exact rcrash_on p b3 ho A ks len cap hl hk hi fun hp a b ha hb e => hA hp a ha (e ▸ p.ownF b hb)
  | true =>
    have e : crash s ks = s := by unfold crash; rw [if_pos ho]
    rw [e]
    have H := Lib.hid h
    obtain ⟨rf, rk, Ad, fa, fc, ka, kc, p, _⟩ := h
    obtain ⟨⟨_, _, c2, _, _⟩, _⟩ := obj5 p.rs.obj
    rw [ho] at c2
    clear p hi hA
    go_enter Try.func30, Try.ntmps30
    go_wp2
    refine bodyPost_ret (results_none rfl _ _ _) rfl ?_
    exact ⟨rfl, RLeaves.same H.out (Below.refl _ _)⟩
/-! ### Both -/
def Two (w0 w : World) (T R : Nat) (s r : S) (G : List (Nat × Obj)) : Prop := ∃ o1 o2, PState w T o1 s ∧ RState w R o2 r ∧ (∀ k, o1 k → w0.heap.size ≤ k ∧ ¬ o2 k) ∧ (∀ k, o2 k → w0.heap.size ≤ k) ∧ Below w0.heap.size w0 w ∧ ∀ g ∈ G, w.heap[g.1]? = some g.2 ∧ ¬ o1 g.1 ∧ ¬ o2 g.1
theorem Two.below {w0 w : World} {T R : Nat} {s r : S} {G : List (Nat × Obj)} (h : Two w0 w T R s r G) : Below w0.heap.size w0 w := by obtain ⟨_, _, _, _, _, _, h, _⟩ := h; exact h
theorem Two.block {w0 w : World} {T R : Nat} {s r : S} {G : List (Nat × Obj)} (h : Two w0 w T R s r G) {g : Nat × Obj} (hg : g ∈ G) : w.heap[g.1]? = some g.2 := by obtain ⟨_, _, _, _, _, _, _, h⟩ := h; exact (h g hg).1
theorem Two.fewer {w0 w : World} {T R : Nat} {s r : S} {G G' : List (Nat × Obj)} (h : Two w0 w T R s r G) (hs : ∀ g ∈ G', g ∈ G) : Two w0 w T R s r G' := by
  obtain ⟨o1, o2, p, q, h1, h2, h3, h4⟩ := h; exact ⟨o1, o2, p, q, h1, h2, h3, fun g hg => h4 g (hs g hg)⟩
theorem Two.grow {w0 w w' : World} {T R : Nat} {s r : S} {G : List (Nat × Obj)} (h : Two w0 w T R s r G) (hb : Below w.heap.size w w') : Two w0 w' T R s r G := by
  obtain ⟨o1, o2, p, q, h1, h2, h3, h4⟩ := h
  exact ⟨o1, o2, p.grow hb, q.grow hb, h1, h2, h3.trans (hb.mono h3.size), fun g m => ⟨(hb.block g.1 (some_lt (h4 g m).1)).trans (h4 g m).1, (h4 g m).2⟩⟩
theorem Two.draw {w0 w : World} {T R : Nat} {s r : S} {G : List (Nat × Obj)} (h : Two w0 w T R s r G) (n : Nat) : Two w0 (w.drewN n) T R s r G := h.grow (below_n (Below.refl _ _) n)
theorem Two.drew {w0 w : World} {T R : Nat} {s r : S} {G : List (Nat × Obj)} (h : Two w0 w T R s r G) : Two w0 w.drew T R s r G := h.grow (Below.refl _ _).drew
theorem Two.join {w0 w w' : World} {T R : Nat} {s r : S} {G : List (Nat × Obj)} (h : Two w0 w T R s r G) (hb : Below w.heap.size w w') {b : Nat} {o : Obj} (hn : w.heap.size ≤ b) (ho : w'.heap[b]? = some o) : Two w0 w' T R s r ((b, o) :: G) := by
  have hg := h.grow hb
  obtain ⟨o1, o2, p, q, h1, h2, h3, h4⟩ := h
  refine ⟨o1, o2, p.grow hb, q.grow hb, h1, h2, h3.trans (hb.mono h3.size), fun g m => ?_⟩
  rcases List.mem_cons.1 m with rfl | m
  · exact ⟨ho, fun hk => by have := p.lt _ hk; omega, fun hk => by have := q.lt _ hk; omega⟩
  · exact ⟨(hb.block g.1 (some_lt (h4 g m).1)).trans (h4 g m).1, (h4 g m).2⟩
theorem two_prog {w0 w : World} {T R : Nat} {s r s' : S} {G : List (Nat × Obj)} (h : Two w0 w T R s r G) {f : FuncId} {args : Array Value} {E : Ending → Prop}
    (hc : ∀ own, (∀ k, own k → w0.heap.size ≤ k) → Below w0.heap.size w0 w → PState w T own s → Calls Try.prog f args w fun e w' => E e ∧ Leaves w T own s' w') : Calls Try.prog f args w fun e w' => E e ∧ Hid (Two w0 w' T R s' r G) := by
  obtain ⟨o1, o2, p, q, h1, h2, h3, h4⟩ := h
  refine (hc o1 (fun k hk => (h1 k hk).1) h3 p).mono ?_
  rintro e w' ⟨he, own, p', st⟩
  refine ⟨he, Lib.hid ⟨own, o2, p', q.same st.only.size fun k hk => st.only.block k (q.lt k hk) fun ho => (h1 k ho).2 hk, fun k hk => ?_, h2, h3.trans (st.only.below h3.size fun k hk => (h1 k hk).1), fun g m => ?_⟩⟩
  · rcases st.sub k hk with h5 | h5
    · exact h1 k h5
    · exact ⟨Nat.le_trans h3.size h5, fun ho => by have := q.lt k ho; omega⟩
  · have h5 := some_lt (h4 g m).1
    refine ⟨(st.only.block g.1 h5 (h4 g m).2.1).trans (h4 g m).1, fun hk => ?_, (h4 g m).2.2⟩
    rcases st.sub _ hk with h6 | h6
    · exact (h4 g m).2.1 h6
    · omega
theorem two_ref {w0 w : World} {T R : Nat} {s r r' : S} {G : List (Nat × Obj)} (h : Two w0 w T R s r G) {f : FuncId} {args : Array Value} {E : Ending → Prop}
    (hc : ∀ own, (∀ k, own k → w0.heap.size ≤ k) → Below w0.heap.size w0 w → RState w R own r → Calls Try.prog f args w fun e w' => E e ∧ RLeaves w R own r' w') : Calls Try.prog f args w fun e w' => E e ∧ Hid (Two w0 w' T R s r' G) := by
  obtain ⟨o1, o2, p, q, h1, h2, h3, h4⟩ := h
  refine (hc o2 h2 h3 q).mono ?_
  rintro e w' ⟨he, own, q', st⟩
  refine ⟨he, Lib.hid ⟨o1, own, p.same st.only.size fun k hk => st.only.block k (p.lt k hk) fun ho => (h1 k hk).2 ho, q', fun k hk => ⟨(h1 k hk).1, fun ho => ?_⟩, fun k hk => ?_, h3.trans (st.only.below h3.size h2), fun g m => ?_⟩⟩
  · rcases st.sub k ho with h5 | h5
    · exact (h1 k hk).2 h5
    · have := p.lt k hk; omega
  · rcases st.sub k hk with h5 | h5
    · exact h2 k h5
    · exact Nat.le_trans h3.size h5
  · have h5 := some_lt (h4 g m).1
    refine ⟨(st.only.block g.1 h5 (h4 g m).2.2).trans (h4 g m).1, (h4 g m).2.1, fun hk => ?_⟩
    rcases st.sub _ hk with h6 | h6
    · exact (h4 g m).2.2 h6
    · omega
theorem ints_lt {w : World} {A : Option Addr} {ks : List Int} (h : Ints w A ks) (hp : 0 < ks.length) {a : Addr} (ha : A = some a) : a.block < w.heap.size := by
  obtain ⟨b, off, e, hc⟩ := h hp
  rw [ha] at e
  injection e with e
  subst e
  have := hc 0 hp
  exact World.block_lt_of_cell? w _ this
theorem bytes_lt {w : World} {B : Nat} {A : Option Addr} {zs : List Int} (h : Bytes w B A zs) (hp : 0 < zs.length) {a : Addr} (ha : A = some a) : a.block < B := by
  obtain ⟨b, off, e, hlt, _⟩ := h.2 hp
  rw [ha] at e
  injection e with e
  subst e
  exact hlt
/-- Their keeping beside both. -/
def RetE (er : Int) (e : Ending) : Prop := e = .returned (.int .i64 er)
def RetU (e : Ending) : Prop := e = .returned (.tuple #[])
section
variable {w0 w : World} {T R : Nat} {s r : S} {G : List (Nat × Obj)} (h : Two w0 w T R s r G)
include h
theorem append_p (sn : ByteArray) (hsn : sn.size ≤ 9223372036854775807) (A0 : Option Addr) (cap0 : Nat) (zs : List Int) (hby : Bytes w0 w0.heap.size A0 zs) :
    Calls Try.prog 11 #[.pointer (some ⟨T, 0, none⟩), .string sn, .slice A0 zs.length cap0] w fun e w' => RetE (actE s (appE s (bs sn) zs.length)) e ∧ Hid (Two w0 w' T R (actS s (appE s (bs sn) zs.length) (appL s (bs sn) zs)) r G) :=
  two_prog h fun own ho hb p => append_any T own s w p sn hsn A0 cap0 zs ((hby.below hb).more hb.size)
theorem append_r (sn : ByteArray) (hsn : sn.size ≤ 9223372036854775807) (A0 : Option Addr) (cap0 : Nat) (zs : List Int) (hby : Bytes w0 w0.heap.size A0 zs) :
    Calls Try.prog 25 #[.pointer (some ⟨R, 0, none⟩), .string sn, .slice A0 zs.length cap0] w fun e w' => RetE (actE r (appE r (bs sn) zs.length)) e ∧ Hid (Two w0 w' T R s (actS r (appE r (bs sn) zs.length) (appL r (bs sn) zs)) G) :=
  two_ref h fun own ho hb p => rappend_any R own r w p sn hsn A0 cap0 zs ((hby.below hb).more hb.size) fun hp a ha hk => by have := ho _ hk; have := bytes_lt hby hp ha; omega
theorem sync_p (sn : ByteArray) (hsn : sn.size ≤ 9223372036854775807) :
    Calls Try.prog 12 #[.pointer (some ⟨T, 0, none⟩), .string sn] w fun e w' => RetE (actE s (fnd s (bs sn) [bs sn])) e ∧ Hid (Two w0 w' T R (actS s (fnd s (bs sn) [bs sn]) (swapL s (bs sn) (bs sn))) r G) := by
  rw [← fnd_two]
  exact two_prog h fun own ho hb p => sync_any T own s w p sn hsn
theorem sync_r (sn : ByteArray) (hsn : sn.size ≤ 9223372036854775807) :
    Calls Try.prog 26 #[.pointer (some ⟨R, 0, none⟩), .string sn] w fun e w' => RetE (actE r (fnd r (bs sn) [bs sn])) e ∧ Hid (Two w0 w' T R s (actS r (fnd r (bs sn) [bs sn]) (swapL r (bs sn) (bs sn))) G) :=
  two_ref h fun own ho hb p => rsync_any R own r w p sn hsn
theorem cut_p (sn : ByteArray) (hsn : sn.size ≤ 9223372036854775807) (n : Int) :
    Calls Try.prog 13 #[.pointer (some ⟨T, 0, none⟩), .string sn, .int .i64 n] w fun e w' => RetE (actE s (cutE s (bs sn) n)) e ∧ Hid (Two w0 w' T R (actS s (cutE s (bs sn) n) (cutL s (bs sn) n.toNat)) r G) :=
  two_prog h fun own ho hb p => cut_any T own s w p sn hsn n
theorem cut_r (sn : ByteArray) (hsn : sn.size ≤ 9223372036854775807) (n : Int) :
    Calls Try.prog 27 #[.pointer (some ⟨R, 0, none⟩), .string sn, .int .i64 n] w fun e w' => RetE (actE r (cutE r (bs sn) n)) e ∧ Hid (Two w0 w' T R s (actS r (cutE r (bs sn) n) (cutL r (bs sn) n.toNat)) G) :=
  two_ref h fun own ho hb p => rcut_any R own r w p sn hsn n
theorem drop_p (sn : ByteArray) (hsn : sn.size ≤ 9223372036854775807) :
    Calls Try.prog 15 #[.pointer (some ⟨T, 0, none⟩), .string sn] w fun e w' => RetE (actE s (fnd s (bs sn) [bs sn])) e ∧ Hid (Two w0 w' T R (actS s (fnd s (bs sn) [bs sn]) (del (bs sn) s.fs)) r G) :=
  two_prog h fun own ho hb p => drop_any T own s w p sn hsn
theorem drop_r (sn : ByteArray) (hsn : sn.size ≤ 9223372036854775807) :
    Calls Try.prog 28 #[.pointer (some ⟨R, 0, none⟩), .string sn] w fun e w' => RetE (actE r (fnd r (bs sn) [bs sn])) e ∧ Hid (Two w0 w' T R s (actS r (fnd r (bs sn) [bs sn]) (del (bs sn) r.fs)) G) :=
  two_ref h fun own ho hb p => rdrop_any R own r w p sn hsn
theorem swap_p (sa sb : ByteArray) (hsa : sa.size ≤ 9223372036854775807) (hsb : sb.size ≤ 9223372036854775807) :
    Calls Try.prog 14 #[.pointer (some ⟨T, 0, none⟩), .string sa, .string sb] w fun e w' => RetE (actE s (fnd s (bs sa) [bs sb, bs sa])) e ∧ Hid (Two w0 w' T R (actS s (fnd s (bs sa) [bs sb, bs sa]) (swapL s (bs sa) (bs sb))) r G) :=
  two_prog h fun own ho hb p => swap_any T own s w p sa sb hsa hsb
theorem swap_r (sa sb : ByteArray) (hsa : sa.size ≤ 9223372036854775807) (hsb : sb.size ≤ 9223372036854775807) :
    Calls Try.prog 29 #[.pointer (some ⟨R, 0, none⟩), .string sa, .string sb] w fun e w' => RetE (actE r (fnd r (bs sa) [bs sb, bs sa])) e ∧ Hid (Two w0 w' T R s (actS r (fnd r (bs sa) [bs sb, bs sa]) (swapL r (bs sa) (bs sb))) G) :=
  two_ref h fun own ho hb p => rswap_any R own r w p sa sb hsa hsb
theorem crash_p (A : Option Addr) (ks : List Int) (cap : Nat) (hkl : ks.length ≤ cap) (hkb : ks.length ≤ 1000000) (hk : Ints w0 A ks) :
    Calls Try.prog 17 #[.pointer (some ⟨T, 0, none⟩), .slice A ks.length cap] w fun e w' => RetU e ∧ Hid (Two w0 w' T R (crash s ks) r G) :=
  two_prog h fun own ho hb p => crash_any T own s A ks cap hkl (by omega) w p (ints_grow hk hb)
theorem crash_r (A : Option Addr) (ks : List Int) (cap : Nat) (hkb : ks.length ≤ 1000000) (hk : Ints w0 A ks) :
    Calls Try.prog 30 #[.pointer (some ⟨R, 0, none⟩), .slice A ks.length cap] w fun e w' => RetU e ∧ Hid (Two w0 w' T R s (crash r ks) G) :=
  two_ref h fun own ho hb p => rcrash_any R own r w p A ks _ cap rfl hkb (ints_grow hk hb) fun hp a ha ho' => by have := ho _ ho'; have := ints_lt hk hp ha; omega
theorem fuse_p (n : Int) (hn : n ≤ 9223372036854775807) (A : Option Addr) (ks : List Int) (cap : Nat) (hcap : ks.length ≤ cap) (hk : Ints w0 A ks) :
    Calls Try.prog 21 #[.pointer (some ⟨T, 0, none⟩), .int .i64 n, .slice A ks.length cap] w fun e w' => RetU e ∧ Hid (Two w0 w' T R (fuseS s n ks) r G) :=
  two_prog h fun own ho hb p => fuse_any T own s n A ks cap hcap w p hn (ints_grow hk hb) fun hp a ha e => by have := ho _ p.ownT; have := ints_lt hk hp ha; omega
theorem fuse_r (n : Int) (hn0 : -9223372036854775808 ≤ n) (hn : n ≤ 9223372036854775807) (A : Option Addr) (ks : List Int) (cap : Nat) (hkb : ks.length ≤ 1000000) (hk : Ints w0 A ks) :
    Calls Try.prog 31 #[.pointer (some ⟨R, 0, none⟩), .int .i64 n, .slice A ks.length cap] w fun e w' => RetU e ∧ Hid (Two w0 w' T R s (fuseS r n ks) G) :=
  two_ref h fun own ho hb p => rfuse_any R own r n hn0 hn A ks _ cap rfl hkb w (ints_grow hk hb) p
theorem on_p : Calls Try.prog 20 #[.pointer (some ⟨T, 0, none⟩)] w fun e w' => RetU e ∧ Hid (Two w0 w' T R { s with off := false } r G) :=
  two_prog h fun own ho hb p => on_any T own s w p
/-- The reference's flag, stored. -/
theorem on_r : ∃ v, w.cell? ⟨R, 2, none⟩ = some v ∧ w.frozen? ⟨R, 2, none⟩ = false ∧ Two w0 (w.setCell ⟨R, 2, none⟩ (.bool false)) T R s { r with off := false } G := by
  obtain ⟨o1, o2, p, ⟨rf, rk, Ad, fa, fc, ka, kc, q, b⟩, h1, h2, h3, h4⟩ := h
  obtain ⟨⟨_, _, c2, _, _⟩, _, _, f2, _⟩ := obj5 q.rs.obj
  refine ⟨_, c2, f2, o1, o2, ?_, ⟨rf, rk, Ad, fa, fc, ka, kc, ?_, b⟩, h1, h2, ?_, fun g m => ?_⟩
  · exact p.same (by simp [World.setCell]) fun k hk => Below.heap_setCell _ _ _ _ (by rintro rfl; exact (h1 _ hk).2 q.ownT)
  · have hkb : ∀ k, k ≠ R → (w.setCell ⟨R, 2, none⟩ (.bool false)).heap[k]? = w.heap[k]? := fun k hk => Below.heap_setCell _ _ _ _ hk
    have o3 := obj_set (o := 2) q.rs.obj (.bool false)
    refine q.flags (off := false) (fuse := r.fuse) (keep := r.keep) (fun k _ hne => hkb k hne) ?_ (q.keep.keep fun a ha => hkb _ (q.keep_ne ha)) (fun _ h => h) (fun k hk => by have := q.lt k hk; simpa [World.setCell] using this) q.ownK (inv_flags q.rs.inv q.rs.inv.fuse q.rs.inv.keepl) q.rs.link
    rw [o3]; simp
  · exact h3.trans ((Only.set o2 2 w (.bool false) q.ownT).below h3.size h2)
  · exact ⟨(Below.heap_setCell _ _ _ _ (by intro e; exact (h4 g m).2.2 (e ▸ q.ownT))).trans (h4 g m).1, (h4 g m).2⟩
theorem two_off : w.cell? ⟨R, 2, none⟩ = some (.bool r.off) := by
  obtain ⟨o1, o2, p, ⟨rf, rk, Ad, fa, fc, ka, kc, q, b⟩, h1, h2, h3, h4⟩ := h
  exact (obj5 q.rs.obj).1.2.2.1
theorem read_p (sn : ByteArray) (hsn : sn.size ≤ 9223372036854775807) : Calls Try.prog 23 #[.pointer (some ⟨T, 0, none⟩), .string sn] w fun e w' => ∃ A cap, e = .returned (.tuple #[.slice A (readL s (bs sn)).length cap, .int .i64 (readE s (bs sn))]) ∧ Hid (OwnB w' w.heap.size A cap (readL s (bs sn))) ∧ Hid (Below w.heap.size w w') := by
  obtain ⟨o1, o2, p, _⟩ := h
  refine (read_any T o1 s w p sn hsn).mono ?_
  rintro e w' ⟨zs, A, cap, hz, rfl, h1, h2⟩
  have hz' : zs = readL s (bs sn) := hz.out
  subst hz'
  exact ⟨A, cap, rfl, Lib.hid h1, Lib.hid h2⟩
theorem read_r (sn : ByteArray) (hsn : sn.size ≤ 9223372036854775807) : Calls Try.prog 32 #[.pointer (some ⟨R, 0, none⟩), .string sn] w fun e w' => e = .returned (.tuple #[.string (strOfNums (readL r (bs sn))), .int .i64 (readE r (bs sn))]) ∧ Hid (Below w.heap.size w w') := by
  obtain ⟨o1, o2, p, ⟨rf, rk, Ad, fa, fc, ka, kc, q, b⟩, _⟩ := h
  refine (rread_any q.rs sn hsn).mono ?_
  rintro e w' ⟨rfl, j, rfl⟩
  exact ⟨rfl, Lib.hid (below_n (Below.refl _ _) j)⟩
theorem names_p : Calls Try.prog 16 #[.pointer (some ⟨T, 0, none⟩)] w fun e w' => ∃ A cap, e = .returned (.slice A ((s.fs.map F.nm).map mkB).length cap) ∧ Hid (Strs w' w'.heap.size A ((s.fs.map F.nm).map mkB)) ∧ Hid (Below w.heap.size w w') := by
  obtain ⟨o1, o2, p, _⟩ := h
  refine (names_any T o1 s w p).mono ?_
  rintro e w' ⟨A, cap, ns, hns, rfl, h1, h2⟩
  have hns' : ns = (s.fs.map F.nm).map mkB := hns.out
  subst hns'
  exact ⟨A, cap, rfl, Lib.hid h1, Lib.hid h2⟩
theorem names_r : Calls Try.prog 33 #[.pointer (some ⟨R, 0, none⟩)] w fun e w' => ∃ A cap, e = .returned (.slice A ((r.fs.map F.nm).map mkB).length cap) ∧ Hid (Strs w' w'.heap.size A ((r.fs.map F.nm).map mkB)) ∧ Hid (Below w.heap.size w w') := by
  obtain ⟨o1, o2, p, ⟨rf, rk, Ad, fa, fc, ka, kc, q, b⟩, _⟩ := h
  refine (rnames_any q.rs).mono ?_
  rintro e w' ⟨A, cap, ns, hns, rfl, h1, h2⟩
  have hns' : ns = (r.fs.map F.nm).map mkB := hns.out
  subst hns'
  exact ⟨A, cap, rfl, Lib.hid h1, Lib.hid h2⟩
theorem sure_p (sn : ByteArray) (hsn : sn.size ≤ 9223372036854775807) : Calls Try.prog 18 #[.pointer (some ⟨T, 0, none⟩), .string sn] w fun e w' => e = .returned (.int .i64 ((file s (bs sn)).sure : Int)) ∧ w = w' := by
  obtain ⟨o1, o2, p, _⟩ := h
  exact sure_any T o1 s w p sn hsn
theorem sure_r (sn : ByteArray) : Calls Try.prog 34 #[.pointer (some ⟨R, 0, none⟩), .string sn] w fun e w' => e = .returned (.int .i64 ((file r (bs sn)).sure : Int)) ∧ w = w' := by
  obtain ⟨o1, o2, p, ⟨rf, rk, Ad, fa, fc, ka, kc, q, b⟩, _⟩ := h
  exact rsure_any q.rs sn
theorem free_p : Calls Try.prog 19 #[.pointer (some ⟨T, 0, none⟩)] w fun e w' => e = .returned (.int .i64 ((s.room : Int) - (total s.fs : Nat))) ∧ Hid (Below w.heap.size w w') := by
  obtain ⟨o1, o2, p, _⟩ := h
  exact (free_any T o1 s w p).mono fun e w' ⟨h1, h2⟩ => ⟨h1, Lib.hid h2⟩
theorem free_r : Calls Try.prog 35 #[.pointer (some ⟨R, 0, none⟩)] w fun e w' => e = .returned (.int .i64 ((r.room : Int) - (total r.fs : Nat))) ∧ w = w' := by
  obtain ⟨o1, o2, p, ⟨rf, rk, Ad, fa, fc, ka, kc, q, b⟩, _⟩ := h
  exact rfree_any q.rs
theorem off_p : Calls Try.prog 22 #[.pointer (some ⟨T, 0, none⟩)] w fun e w' => e = .returned (.bool s.off) ∧ w = w' := by
  obtain ⟨o1, o2, p, _⟩ := h
  exact off_any T o1 s w p
end
end Go.Proofs.Ytmahbcpkilegpaa
