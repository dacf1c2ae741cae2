/-
  A store beside blocks that are none of its own; the names in a new block; two rows of strings compared.
-/
import Derived.Test.YtmahbcpkilegpaaStoCuts
import Derived.BigQuiet
import Derived.Deep.QuietTactic
namespace Go.Proofs.Ytmahbcpkilegpaa
open Go.RowKit Go.Maps Go.Sort Go.Shelf St

/-- The store at block T, made since w0, in state s, and the blocks G, which are none of its own. -/
def RunB (w0 w : World) (T : Nat) (s : S) (G : List (Nat × Obj)) : Prop := ∃ own, PState w T own s ∧ (∀ k, own k → w0.heap.size ≤ k) ∧ Below w0.heap.size w0 w ∧ ∀ g ∈ G, w.heap[g.1]? = some g.2 ∧ ¬ own g.1
theorem some_lt {w : World} {k : Nat} {o : Obj} (h : w.heap[k]? = some o) : k < w.heap.size := by
  rcases Nat.lt_or_ge k w.heap.size with h1 | h1
  · exact h1
  · rw [Array.getElem?_eq_none h1] at h; cases h
theorem RunB.run {w0 w : World} {T : Nat} {s : S} {G : List (Nat × Obj)} (h : RunB w0 w T s G) : Run w0 w T s := by obtain ⟨own, p, ho, h0, _⟩ := h; exact ⟨own, p, ho, h0⟩
theorem RunB.block {w0 w : World} {T : Nat} {s : S} {G : List (Nat × Obj)} (h : RunB w0 w T s G) {g : Nat × Obj} (hg : g ∈ G) : w.heap[g.1]? = some g.2 := by obtain ⟨own, _, _, _, hb⟩ := h; exact (hb g hg).1
theorem RunB.grow {w0 w w' : World} {T : Nat} {s : S} {G : List (Nat × Obj)} (h : RunB w0 w T s G) (hb : Below w.heap.size w w') : RunB w0 w' T s G := by
  obtain ⟨own, p, ho, h0, hg⟩ := h
  exact ⟨own, p.grow hb, ho, h0.trans (hb.mono h0.size), fun g m => ⟨(hb.block g.1 (some_lt (hg g m).1)).trans (hg g m).1, (hg g m).2⟩⟩
theorem RunB.alloc {w0 w : World} {T : Nat} {s : S} {G : List (Nat × Obj)} (h : RunB w0 w T s G) (o : Obj) : RunB w0 (w.alloc o) T s G := h.grow (one_alloc w o)
theorem Run.guest {w0 w : World} {T : Nat} {s : S} (h : Run w0 w T s) : RunB w0 w T s [] := by obtain ⟨own, p, ho, h0⟩ := h; exact ⟨own, p, ho, h0, fun g m => by cases m⟩
theorem RunB.leaves {w0 w w' : World} {T : Nat} {s' : S} {own : Nat → Prop} {G : List (Nat × Obj)} (ho : ∀ k, own k → w0.heap.size ≤ k) (h0 : Below w0.heap.size w0 w) (hg : ∀ g ∈ G, w.heap[g.1]? = some g.2 ∧ ¬ own g.1) (hl : Leaves w T own s' w') : RunB w0 w' T s' G := by
  obtain ⟨own2, p, st⟩ := hl
  refine ⟨own2, p, fun k hk => ?_, h0.trans (st.only.below h0.size ho), fun g m => ⟨(st.only.block g.1 (some_lt (hg g m).1) (hg g m).2).trans (hg g m).1, fun hk => ?_⟩⟩
  · rcases st.sub k hk with h1 | h1
    · exact ho k h1
    · exact Nat.le_trans h0.size h1
  · have h2 := some_lt (hg g m).1
    rcases st.sub _ hk with h1 | h1
    · exact (hg g m).2 h1
    · omega
/-- A new block joins the guests. -/
theorem RunB.join {w0 w w' : World} {T : Nat} {s : S} {G : List (Nat × Obj)} (h : RunB w0 w T s G) (hb : Below w.heap.size w w') {b : Nat} {o : Obj} (hn : w.heap.size ≤ b) (ho : w'.heap[b]? = some o) : RunB w0 w' T s ((b, o) :: G) := by
  obtain ⟨own, p, hw, h0, hg⟩ := h
  refine ⟨own, p.grow hb, hw, h0.trans (hb.mono h0.size), fun g m => ?_⟩
  rcases List.mem_cons.1 m with rfl | m
  · exact ⟨ho, fun hk => by have := p.lt _ hk; omega⟩
  · exact ⟨(hb.block g.1 (some_lt (hg g m).1)).trans (hg g m).1, (hg g m).2⟩
def OpB (w0 : World) (T : Nat) (er : Int) (s : S) (G : List (Nat × Obj)) (e : Ending) (w' : World) : Prop := e = .returned (.int .i64 er) ∧ Hid (RunB w0 w' T s G)
section
variable {w0 w : World} {T : Nat} {s : S} {G : List (Nat × Obj)} (h : RunB w0 w T s G)
include h
theorem append_runB (sn : ByteArray) (hsn : sn.size ≤ 9223372036854775807) (A0 : Option Addr) (n cap0 : Nat) (zs : List Int) (hn : n = zs.length) (hby : Bytes w w.heap.size A0 zs) (er : Int) (s' : S) (he : actE s (appE s (bs sn) zs.length) = er) (hs : actS s (appE s (bs sn) zs.length) (appL s (bs sn) zs) = s') :
    Calls Try.prog 11 #[.pointer (some ⟨T, 0, none⟩), .string sn, .slice A0 n cap0] w (OpB w0 T er s' G) := by
  subst hn he hs
  obtain ⟨own, p, ho, h0, hg⟩ := h
  exact (append_any T own s w p sn hsn A0 cap0 zs hby).mono fun e w' ⟨h1, h2⟩ => ⟨h1, Lib.hid (RunB.leaves ho h0 hg h2)⟩
theorem sync_runB (sn : ByteArray) (hsn : sn.size ≤ 9223372036854775807) (er : Int) (s' : S) (he : actE s (fnd s (bs sn) [bs sn, bs sn]) = er) (hs : actS s (fnd s (bs sn) [bs sn, bs sn]) (swapL s (bs sn) (bs sn)) = s') :
    Calls Try.prog 12 #[.pointer (some ⟨T, 0, none⟩), .string sn] w (OpB w0 T er s' G) := by
  subst he hs
  obtain ⟨own, p, ho, h0, hg⟩ := h
  exact (sync_any T own s w p sn hsn).mono fun e w' ⟨h1, h2⟩ => ⟨h1, Lib.hid (RunB.leaves ho h0 hg h2)⟩
theorem swap_runB (sa sb : ByteArray) (hsa : sa.size ≤ 9223372036854775807) (hsb : sb.size ≤ 9223372036854775807) (er : Int) (s' : S) (he : actE s (fnd s (bs sa) [bs sb, bs sa]) = er) (hs : actS s (fnd s (bs sa) [bs sb, bs sa]) (swapL s (bs sa) (bs sb)) = s') :
    Calls Try.prog 14 #[.pointer (some ⟨T, 0, none⟩), .string sa, .string sb] w (OpB w0 T er s' G) := by
  subst he hs
  obtain ⟨own, p, ho, h0, hg⟩ := h
  exact (swap_any T own s w p sa sb hsa hsb).mono fun e w' ⟨h1, h2⟩ => ⟨h1, Lib.hid (RunB.leaves ho h0 hg h2)⟩
theorem crash_runB (A : Option Addr) (ks : List Int) (n cap : Nat) (hn : n = ks.length) (hkl : n ≤ cap) (hkb : n ≤ 4611686018427387904) (hk : Ints w A ks) (s' : S) (hs : crash s ks = s') :
    Calls Try.prog 17 #[.pointer (some ⟨T, 0, none⟩), .slice A n cap] w fun e w' => e = .returned (.tuple #[]) ∧ Hid (RunB w0 w' T s' G) := by
  subst hn hs
  obtain ⟨own, p, ho, h0, hg⟩ := h
  exact (crash_any T own s A ks cap hkl hkb w p hk).mono fun e w' ⟨h1, h2⟩ => ⟨h1, Lib.hid (RunB.leaves ho h0 hg h2)⟩
theorem fuse_runB (n : Int) (hn : n ≤ 9223372036854775807) (A : Option Addr) (ks : List Int) (len cap : Nat) (hl : len = ks.length) (hcap : len ≤ cap) (hi : Ints w A ks) (hT : 0 < ks.length → ∀ a, A = some a → a.block ≠ T) (s' : S) (hs : fuseS s n ks = s') :
    Calls Try.prog 21 #[.pointer (some ⟨T, 0, none⟩), .int .i64 n, .slice A len cap] w fun e w' => e = .returned (.tuple #[]) ∧ Hid (RunB w0 w' T s' G) := by
  subst hl hs
  obtain ⟨own, p, ho, h0, hg⟩ := h
  exact (fuse_any T own s n A ks cap hcap w p hn hi hT).mono fun e w' ⟨h1, h2⟩ => ⟨h1, Lib.hid (RunB.leaves ho h0 hg h2)⟩
theorem on_runB (s' : S) (hs : ({ s with off := false } : S) = s') :
    Calls Try.prog 20 #[.pointer (some ⟨T, 0, none⟩)] w fun e w' => e = .returned (.tuple #[]) ∧ Hid (RunB w0 w' T s' G) := by
  subst hs
  obtain ⟨own, p, ho, h0, hg⟩ := h
  exact (on_any T own s w p).mono fun e w' ⟨h1, h2⟩ => ⟨h1, Lib.hid (RunB.leaves ho h0 hg h2)⟩
theorem sure_runB (sn : ByteArray) (hsn : sn.size ≤ 9223372036854775807) (n : Int) (hn : ((file s (bs sn)).sure : Int) = n) :
    Calls Try.prog 18 #[.pointer (some ⟨T, 0, none⟩), .string sn] w fun e w' => e = .returned (.int .i64 n) ∧ w = w' := sure_run h.run sn hsn n hn
theorem off_runB (b : Bool) (hb : s.off = b) : Calls Try.prog 22 #[.pointer (some ⟨T, 0, none⟩)] w (fun e w' => e = .returned (.bool b) ∧ w = w') := by
  subst hb
  exact off_run h.run
theorem free_runB (n : Int) (hn : (s.room : Int) - (total s.fs : Nat) = n) :
    Calls Try.prog 19 #[.pointer (some ⟨T, 0, none⟩)] w fun e w' => e = .returned (.int .i64 n) ∧ Hid (RunB w0 w' T s G) :=
  (free_run h.run n hn).mono fun _ _ ⟨h1, _, h3⟩ => ⟨h1, Lib.hid (h.grow h3.out)⟩
theorem read_runB (sn : ByteArray) (hsn : sn.size ≤ 9223372036854775807) (ys : List Int) (er : Int) (he : readE s (bs sn) = er) (hy : readL s (bs sn) = ys) (hp : 0 < ys.length) :
    Calls Try.prog 23 #[.pointer (some ⟨T, 0, none⟩), .string sn] w fun e w' => ∃ b off cap o, e = .returned (.tuple #[.slice (some ⟨b, off, none⟩) ys.length cap, .int .i64 er]) ∧ Hid (RunB w0 w' T s ((b, o) :: G)) ∧ Hid (∀ W : World, W.heap[b]? = some o → Bytes W W.heap.size (some ⟨b, off, none⟩) ys) := by
  have H := h
  subst he hy
  obtain ⟨own, p, ho, h0, hg⟩ := h
  refine (read_any T own s w p sn hsn).mono ?_
  rintro e w' ⟨zs, A, cap, hz, rfl, h1, h2⟩
  have hz' : zs = readL s (bs sn) := hz.out
  subst hz'
  have hb := h1.bytes
  obtain ⟨b, off, rfl, hlt, hc⟩ := hb.2 hp
  have hbase := h1.lt.1
  obtain ⟨cur, hcur⟩ := h1.block
  refine ⟨b, off, cap, _, rfl, Lib.hid (H.join h2 hbase hcur), Lib.hid fun W hW => ⟨hb.1, fun _ => ⟨b, off, rfl, some_lt hW, fun i hi => ?_⟩⟩⟩
  exact (World.cell?_of_block (w := w') (a := ⟨b, off + i, none⟩) (hW.trans hcur.symm)).trans (hc i hi)
end
/-! ### The names, in a new block -/
theorem strs_new {w : World} {base : Nat} {v : Value} {nn : List (List UInt8)} (h : w.ownsRow base 9 1 v nn.length (nn.map Go.Proofs.encStr)) (hs : ∀ x ∈ nn, x.length ≤ 9223372036854775807) :
    ∃ A cap, v = .slice A (nn.map mkB).length cap ∧ Strs w w.heap.size A (nn.map mkB) ∧ ∀ a, A = some a → base ≤ a.block := by
  obtain ⟨A, cap, rfl, hstr⟩ := strs_own h hs
  refine ⟨A, cap, rfl, hstr, fun a ha => ?_⟩
  subst ha
  exact (h.lt a.block (by simp [Value.ownBlock])).1
def NamesNew (w : World) (l : List F) (e : Ending) (w' : World) : Prop :=
  ∃ A cap ns, Hid (ns = (l.map F.nm).map mkB) ∧ e = .returned (.slice A ns.length cap) ∧ Strs w' w'.heap.size A ns ∧ (∀ a, A = some a → w.heap.size ≤ a.block) ∧ Below w.heap.size w w'
set_option maxHeartbeats 2000000 in
theorem names_new (T : Nat) (own : Nat → Prop) (s : S) (w : World) (h : PState w T own s) :
    Calls Try.prog 16 #[.pointer (some ⟨T, 0, none⟩)] w (NamesNew w s.fs) := by
  obtain ⟨Ad, m, ka, kc, p⟩ := h
  obtain ⟨⟨_, c1, _, _, _⟩, _⟩ := obj5 p.obj
  have KC := Lib.hid (fun W => callsIn_wide.1 (Try.maps_Keys_41 (some m) W))
  have hc := p.inv.count
  have SC := Lib.hid (callsIn_wide.1 (Try.slices_Sorted_keys_40_41 m s.fs.length (dat (elt Ad) s.fs) hld w p.map (by rw [dat_size]; unfold maxLen; omega) (by rw [dat_size]; omega)))
  have SS : Hid (∀ ss : List (List UInt8), ss.Perm (strKeys (dat (elt Ad) s.fs)) → ss.mergeSort (fun x y => decide (x ≤ y)) = s.fs.map F.nm ∧ ss.length = (s.fs.map F.nm).length) := Lib.hid fun ss hp => by
    rw [dat_keys] at hp
    exact ⟨names_sorted p.inv.sorted hp, hp.length_eq⟩
  have HN : Hid (∀ x ∈ s.fs.map F.nm, x.length ≤ 9223372036854775807) := Lib.hid fun x hx => by
    obtain ⟨f, hf, rfl⟩ := List.mem_map.1 hx
    have := good_len (p.inv.names f hf)
    omega
  clear p hc
  go_enter Try.func16, Try.ntmps16
  go_wp2_with fail
  refine (KC.out _).mono ?_; rintro e w' ⟨rfl, rfl⟩
  go_wp2_with fail
  refine SC.out.mono ?_; rintro e w' ⟨v, ss, rfl, hS, hrow, _, hb⟩
  obtain ⟨e1, e2⟩ := SS.out ss hS
  rw [e1, e2] at hrow
  obtain ⟨A, cap, rfl, hstr, hnew⟩ := strs_new hrow HN.out
  have HB := Lib.hid (((Below.refl w.heap.size w).alloc (Nat.le_refl _) _).trans (hb.mono (by simp)))
  have HS := Lib.hid hstr
  have HW := Lib.hid (show ∀ a, A = some a → w.heap.size ≤ a.block from fun a ha => by have := hnew a ha; simp at this; omega)
  clear hrow hstr hb e1 e2 hS hnew
  go_wp2
  go_ret
  exact ⟨A, cap, _, Lib.hid rfl, by simp, HS.out, HW.out, HB.out⟩
theorem names_runB {w0 w : World} {T : Nat} {s : S} {G : List (Nat × Obj)} (h : RunB w0 w T s G) (ns : List ByteArray) (hn : (s.fs.map F.nm).map mkB = ns) (hp : 0 < ns.length) :
    Calls Try.prog 16 #[.pointer (some ⟨T, 0, none⟩)] w fun e w' => ∃ b off cap o, e = .returned (.slice (some ⟨b, off, none⟩) ns.length cap) ∧ Hid (RunB w0 w' T s ((b, o) :: G)) ∧ Hid (∀ W : World, W.heap[b]? = some o → Strs W W.heap.size (some ⟨b, off, none⟩) ns) := by
  have H := h
  subst hn
  obtain ⟨own, p, ho, h0, hg⟩ := h
  refine (names_new T own s w p).mono ?_
  rintro e w' ⟨A, cap, ns, hns, rfl, h1, hw, h2⟩
  have hns' : ns = (s.fs.map F.nm).map mkB := hns.out
  subst hns'
  obtain ⟨b, off, rfl, hlt, hc⟩ := h1.2 hp
  have hbase := hw _ rfl
  obtain ⟨o, ho'⟩ : ∃ o, w'.heap[b]? = some o := ⟨_, Array.getElem?_eq_getElem hlt⟩
  refine ⟨b, off, cap, o, rfl, Lib.hid (H.join h2 hbase ho'), Lib.hid fun W hW => ⟨h1.1, fun _ => ⟨b, off, rfl, some_lt hW, fun i hi => ?_⟩⟩⟩
  exact (World.cell?_of_block (w := w') (a := ⟨b, off + i, none⟩) (hW.trans ho'.symm)).trans (hc i hi)
/-! ### texts -/
set_option maxHeartbeats 2000000 in
theorem texts_same (A B : Option Addr) (ss : List ByteArray) (n m ca cb : Nat) (hn : n = ss.length) (hm : m = ss.length) (hs : ss.length ≤ 1000) (w : World) (ha : Strs w w.heap.size A ss) (hb : Strs w w.heap.size B ss) :
    Calls Try.prog 24 #[.slice A n ca, .slice B m cb] w fun e w' => e = .returned (.bool true) ∧ ∃ j, w' = w.drewN j := by
  subst hm
  subst hn
  have HA := Lib.hid ha
  have HB := Lib.hid hb
  clear ha hb
  have h0 : ((ss.length : Int) != (ss.length : Int)) = false := by simp
  go_enter Try.func24, Try.ntmps24
  go_wp2_with fail
  go_loopw [5] (fun iv wr => ∃ k : Nat, k ≤ ss.length ∧ iv = .int .i64 k ∧ ∃ j, wr = w.drewN j) (fun iv _ => ss.length - (intOf iv).toNat)
  case atStart => exact ⟨0, Nat.zero_le _, rfl, 0, rfl⟩
  case round =>
    obtain ⟨k, hk, rfl, j, rfl⟩ := hrel
    have HK := Lib.hid hk
    clear hk
    by_cases hlt : k < ss.length
    · obtain ⟨b1, o1, t1, rfl, _, x1, y1, _⟩ := HA.out.at_ hlt
      obtain ⟨b2, o2, t2, rfl, _, x2, y2, _⟩ := HB.out.at_ hlt
      have e12 : t1 = t2 := y1.out.symm.trans y2.out
      subst e12
      have hlt' : (k : Int) < (ss.length : Int) := by omega
      have i1 : k < ss.length := hlt
      go_wp2_with fail
      go_quiet (fail)
      go_wp2
      go_roundw
      case rel => exact ⟨k + 1, by omega, by go_num, _, rfl⟩
      case measure => simp [intOf]; omega
    · have e : k = ss.length := by have := HK.out; omega
      subst e
      go_wp2
      go_ret
      exact ⟨rfl, j, rfl⟩
end Go.Proofs.Ytmahbcpkilegpaa
