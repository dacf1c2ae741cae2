/-
  The small methods of a store: New, On, Off, Sure, Read, Drop.
-/
import Derived.Test.YtmahbcpkilegpaaStoBlow
import Derived.Test.YtmahbcpkilegpaaStoFind
namespace Go.Proofs.Ytmahbcpkilegpaa
open Go.RowKit St

theorem full_nil (w : World) : Full w none 0 [] := .inl ⟨rfl, rfl, rfl⟩
set_option maxHeartbeats 1000000 in
theorem on_any (T : Nat) (own : Nat → Prop) (s : S) (w : World) (h : PState w T own s) :
    Calls Try.prog 20 #[.pointer (some ⟨T, 0, none⟩)] w fun e w' => e = .returned (.tuple #[]) ∧ Leaves w T own { s with off := false } w' := by
  obtain ⟨Ad, m, ka, kc, p⟩ := h
  obtain ⟨⟨_, _, c2, _, _⟩, _, _, f2, _, _⟩ := obj5 p.obj
  have FS : Hid (Leaves w T own { s with off := false } (w.setCell ⟨T, 2, none⟩ (.bool false))) := Lib.hid ⟨own, ⟨Ad, m, ka, kc, p.flags (own2 := own) (off := false) (fuse := s.fuse) (keep := s.keep) (ka2 := ka) (kc2 := kc) (by simp [World.setCell]) (fun b _ hb => Below.heap_setCell _ _ _ _ hb) (obj_set (o := 2) p.obj _)
    (p.keep.keep fun a ha => Below.heap_setCell _ _ _ _ (p.keep_ne ha).1) (fun _ h => h) (fun b hb => by have := p.lt b hb; simp [World.setCell]; exact this) p.ownK p.inv.fuse p.inv.keepl⟩, Only.set own 2 w _ p.ownT, fun _ h => .inl h⟩
  clear p
  go_enter Try.func20, Try.ntmps20
  go_wp2
  go_end0
  exact ⟨rfl, FS.out⟩
theorem off_any (T : Nat) (own : Nat → Prop) (s : S) (w : World) (h : PState w T own s) :
    Calls Try.prog 22 #[.pointer (some ⟨T, 0, none⟩)] w fun e w' => e = .returned (.bool s.off) ∧ w = w' := by
  obtain ⟨Ad, m, ka, kc, p⟩ := h
  obtain ⟨⟨_, _, c2, _, _⟩, _⟩ := obj5 p.obj
  clear p
  go_enter Try.func22, Try.ntmps22
  go_wp2
  go_ret
  exact ⟨rfl, rfl⟩
theorem field_sure (x : Value) (v : Int) (W : World) : (Instr.field 64 (.agg #[x, .int .i64 v]) 1).run Try.prog W = .ok (.int .i64 v) W := by kernel_rfl
set_option maxRecDepth 20000 in
set_option maxHeartbeats 1000000 in
theorem sure_any (T : Nat) (own : Nat → Prop) (s : S) (w : World) (h : PState w T own s) (sn : ByteArray) (hsn : sn.size ≤ 9223372036854775807) :
    Calls Try.prog 18 #[.pointer (some ⟨T, 0, none⟩), .string sn] w fun e w' => e = .returned (.int .i64 ((file s (bs sn)).sure : Int)) ∧ w = w' := by
  obtain ⟨Ad, m, ka, kc, p⟩ := h
  obtain ⟨⟨_, c1, _, _, _⟩, _⟩ := obj5 p.obj
  have PM := Lib.hid p.map
  have HS := Lib.hid hsn
  have hfl := field_sure
  clear p hsn
  cases hfi : find (bs sn) s.fs with
  | none =>
    have HFI := Lib.hid hfi
    have E := Lib.hid (show ((file s (bs sn)).sure : Int) = 0 by rw [file_none hfi]; rfl)
    clear hfi
    go_enter Try.func18, Try.ntmps18
    go_wp2_with (first
      | (at_lookup; refine wp_look rfl _ _ rfl rfl PM.out rfl HS.out (.agg #[.slice none 0 0, .int .i64 0]) (by rw [HFI.out]; rfl) ?_)
      | go_in)
    go_ret
    exact ⟨ret_int E.out.symm, rfl⟩
  | some f =>
    have HFI := Lib.hid hfi
    have E := Lib.hid (show ((file s (bs sn)).sure : Int) = (f.sure : Int) by rw [(file_mem hfi).1])
    clear hfi
    go_enter Try.func18, Try.ntmps18
    go_wp2_with (first
      | (at_lookup; refine wp_look rfl _ _ rfl rfl PM.out rfl HS.out (.agg #[.slice (Ad f.nm).1 f.zs.length (Ad f.nm).2, .int .i64 (f.sure : Int)]) (by rw [HFI.out]; rfl) ?_)
      | go_in)
    go_ret
    exact ⟨ret_int E.out.symm, rfl⟩
theorem new_bad (room : Int) (h : room < 1 ∨ 16777216 < room) (w : World) : Calls Try.prog 10 #[.int .i64 room] w fun e w' => e = .returned (.tuple #[.pointer none, .int .i64 1]) ∧ w = w' := by
  rcases h with h | h
  · go_enter Try.func10, Try.ntmps10
    go_wp2
    go_ret2
    exact ⟨rfl, rfl⟩
  · have h1 : ¬ room < 1 := by omega
    go_enter Try.func10, Try.ntmps10
    go_wp2
    go_ret2
    exact ⟨rfl, rfl⟩
/-- The store that a call of New has made. -/
def NewPost (w : World) (room : Nat) (T : Nat) (w' : World) : Prop := ∃ own, PState w' T own ⟨room, [], false, 0, []⟩ ∧ Below w.heap.size w w' ∧ (∀ k, own k → w.heap.size ≤ k)
theorem made_store (w : World) (room : Nat) (hr : room ≤ 16777216) : NewPost w room (w.heap.size + 1) ((w.alloc (.map #[] 0)).alloc (.cells #[.int .i64 (room : Int), .map (some w.heap.size), .bool false, .int .i64 0, .slice none 0 0] 61)) := by
  have hb : Below w.heap.size w ((w.alloc (.map #[] 0)).alloc (.cells #[.int .i64 (room : Int), .map (some w.heap.size), .bool false, .int .i64 0, .slice none 0 0] 61)) := ((Below.refl _ _).alloc (Nat.le_refl _) _).alloc (by simp) _
  refine ⟨fun k => k = w.heap.size ∨ k = w.heap.size + 1, ⟨fun _ => (none, 0), w.heap.size, none, 0, ?_, ?_, fun f hf => by simp at hf, fun f hf => by simp at hf, OwnN.none_ _ _, .inr rfl, .inl rfl, fun f hf => by simp at hf, fun a ha => (by cases ha), fun k hk => ?_, Inv.start room hr⟩, hb, fun k hk => ?_⟩
  · have e : w.heap.size + 1 = (w.alloc (.map #[] 0)).heap.size := by simp
    rw [e]; exact heap_alloc_new _ _
  · exact (pmap_made w _).keep (Below.heap_alloc _ _ _ (by simp))
  · simp; rcases hk with rfl | rfl <;> omega
  · rcases hk with rfl | rfl <;> omega
set_option maxHeartbeats 1000000 in
theorem new_good (room : Nat) (h0 : 1 ≤ room) (hr : room ≤ 16777216) (w : World) :
    Calls Try.prog 10 #[.int .i64 (room : Int)] w fun e w' => e = .returned (.tuple #[.pointer (some ⟨w.heap.size + 1, 0, none⟩), .int .i64 0]) ∧ NewPost w room (w.heap.size + 1) w' := by
  have MS := Lib.hid (made_store w room hr)
  have hmm := @run_makeMap Try.prog
  have g0 : 1 ≤ (room : Int) := by omega
  have g1 : (room : Int) ≤ 16777216 := by omega
  clear h0 hr
  go_enter Try.func10, Try.ntmps10
  go_wp2
  go_ret2
  exact ⟨rfl, MS.out⟩

/-! ### Read -/
def ReadPost (w : World) (ys : List Int) (er : Int) (e : Ending) (w' : World) : Prop := ∃ zs A cap, Hid (zs = ys) ∧ e = .returned (.tuple #[.slice A zs.length cap, .int .i64 er]) ∧ OwnB w' w.heap.size A cap zs ∧ Below w.heap.size w w'
def readE (s : S) (nm : List UInt8) : Int := fnd s nm [nm]
def readL (s : S) (nm : List UInt8) : List Int := if readE s nm ≠ 0 then [] else (file s nm).zs
set_option maxHeartbeats 1000000 in
theorem read_any (T : Nat) (own : Nat → Prop) (s : S) (w : World) (h : PState w T own s) (sn : ByteArray) (hsn : sn.size ≤ 9223372036854775807) :
    Calls Try.prog 23 #[.pointer (some ⟨T, 0, none⟩), .string sn] w (ReadPost w (readL s (bs sn)) (readE s (bs sn))) := by
  obtain ⟨Ad, m, ka, kc, p⟩ := h
  by_cases hE : readE s (bs sn) = 0
  · obtain ⟨f, hfi, hc⟩ := find_ok T own s Ad m ka kc sn hsn none 0 0 [] rfl (by simp) w p (full_nil w) hE
    have FC := Lib.hid hc
    have hfm := (find_some hfi).1
    have e1 : readL s (bs sn) = f.zs := by unfold readL; rw [if_neg (by rw [hE]; simp), (file_mem hfi).1]
    rw [e1, hE]
    have HP := Lib.hid p
    have HFM := Lib.hid hfm
    have LB : Hid (f.zs.length ≤ 1000000000) := Lib.hid (by have h1 := total_mem hfm; have h2 := p.inv.tot; have h3 := p.inv.room; omega)
    clear p hc hfm hfi e1 hE hsn
    go_enter Try.func23, Try.ntmps23
    go_wp2_with fail
    refine FC.out.mono ?_; rintro e w2 ⟨rfl, hb⟩
    have B2 := Lib.hid hb
    have CL : Hid (∀ o, Calls Try.prog 43 #[.slice (Ad f.nm).1 f.zs.length (Ad f.nm).2] (w2.alloc o) (ClonePost (w2.alloc o) f.zs)) := Lib.hid fun o => clone_row _ _ _ LB.out _ (((HP.out.grow B2.out).rows f HFM.out).grew ((Below.refl _ _).alloc (Nat.le_refl _) o) (Nat.le_refl _))
    clear hb
    go_wp2_with fail
    refine (CL.out _).mono ?_; rintro e w3 ⟨zs, A, cap, hz, rfl, ho, h3⟩
    have HO := Lib.hid ho
    have B3 := Lib.hid ((B2.out.alloc B2.out.size _).trans (h3.mono (by have := B2.out.size; simp; omega)))
    clear ho h3
    go_wp2
    go_ret2
    exact ⟨zs, A, cap, hz, rfl, HO.out.low (by have := B2.out.size; simp; omega), B3.out⟩
  · have FC := Lib.hid (find_err T own s Ad m ka kc sn hsn none 0 0 [] rfl (by simp) w p (full_nil w) _ rfl hE)
    have e1 : readL s (bs sn) = [] := by unfold readL; rw [if_pos hE]
    rw [e1]
    have hne : (readE s (bs sn) == 0) = false := by rw [beq_eq_false_iff_ne]; exact hE
    have FC2 : Hid (Calls Try.prog 38 #[.pointer (some ⟨T, 0, none⟩), .string sn, .slice none 0 0] w (FindPost w (.agg #[.slice none 0 0, .int .i64 0]) (readE s (bs sn)))) := FC
    clear p hE hsn FC e1
    generalize readE s (bs sn) = er at *
    go_enter Try.func23, Try.ntmps23
    go_wp2_with fail
    refine FC2.out.mono ?_; rintro e w2 ⟨rfl, hb⟩
    have B2 := Lib.hid hb
    clear hb
    go_wp2
    go_ret2
    exact ⟨[], none, 0, Lib.hid rfl, rfl, OwnB.none_ _ _, B2.out.alloc B2.out.size _⟩
end Go.Proofs.Ytmahbcpkilegpaa
