/-
  Part 15 of the texts behind the law: StoApp.
-/
import Derived.Test.YtdbhicifjljjnaaGreatDoorMf14
/-
  Append at every store, every name and every row of bytes.
-/
namespace Go.Proofs.YtdbhicifjljjnaaGreatDoor
open Go.RowKit St

/-- The file of a name as the map tells it: the zero file where there is none. -/
structure Slot (w : World) (own : Nat → Prop) (s : S) (Ad : List UInt8 → Option Addr × Nat) (nm : List UInt8) (A1 : Option Addr) (c1 : Nat) : Prop where
  val : valO (elt Ad) (find nm s.fs) = .agg #[.slice A1 (file s nm).zs.length c1, .int .i64 ((file s nm).sure : Int)]
  row : OwnB w 0 A1 c1 (file s nm).zs
  own_ : ∀ a, A1 = some a → own a.block
  apart : ∀ a, A1 = some a → ∀ g ∈ s.fs, g.nm ≠ nm → ∀ b, (Ad g.nm).1 = some b → a.block ≠ b.block
theorem PS.slot {w : World} {T : Nat} {own : Nat → Prop} {s : S} {Ad : List UInt8 → Option Addr × Nat} {m : Nat} {ka : Option Addr} {kc : Nat} (p : PS w T own s Ad m ka kc) (nm : List UInt8) : ∃ A1 c1, Slot w own s Ad nm A1 c1 := by
  cases hf : find nm s.fs with
  | none =>
    refine ⟨none, 0, ?_, ?_, fun a ha => (by cases ha), fun a ha => (by cases ha)⟩
    · rw [hf, file_none hf]; rfl
    · rw [file_none hf]; exact OwnB.none_ _ _
  | some f =>
    obtain ⟨e1, e2, e3⟩ := file_mem hf
    refine ⟨(Ad f.nm).1, (Ad f.nm).2, ?_, ?_, fun a ha => p.ownR f e2 a ha, fun a ha g hg hn b hb => (p.apart g hg f e2 (by rw [e3]; exact hn) b a hb ha).symm⟩
    · rw [hf, e1]; rfl
    · rw [e1]; exact p.rows f e2
theorem Slot.keep {w w' : World} {own : Nat → Prop} {s : S} {Ad : List UInt8 → Option Addr × Nat} {nm : List UInt8} {A1 : Option Addr} {c1 : Nat} (h : Slot w own s Ad nm A1 c1) (hk : ∀ k, own k → w'.heap[k]? = w.heap[k]?) : Slot w' own s Ad nm A1 c1 :=
  ⟨h.val, h.row.keep fun a ha => hk _ (h.own_ a ha), h.own_, h.apart⟩
theorem grown_obj {w w' : World} {A1 : Option Addr} {c1 n : Nat} {xs : List Int} (h : OwnB w 0 A1 c1 xs) (hg : w.grownBy w' (Value.slice A1 n c1).ownBlock) {g : Nat} {cs : Array Value} {t : TypeId} {fz : Nat × Nat} (ho : w.heap[g]? = some (.cells cs t fz)) (ht : t ≠ 5) : w'.heap[g]? = some (.cells cs t fz) := by
  rw [hg.block g (lt_of_block ho) ?_]
  · exact ho
  · cases A1 with
    | none => simp [Value.ownBlock]
    | some a =>
      simp [Value.ownBlock]
      intro e
      obtain ⟨cur, hc⟩ := h.block
      exact type_ne ho hc ht e
theorem PMap.grown {w w' : World} {A1 : Option Addr} {c1 n : Nat} {xs : List Int} {m : Nat} {E : F → Value} {l : List F} (p : PMap w m E l) (h : OwnB w 0 A1 c1 xs) (hg : w.grownBy w' (Value.slice A1 n c1).ownBlock) : PMap w' m E l := by
  refine p.keep (hg.block m p.lt ?_)
  cases A1 with
  | none => simp [Value.ownBlock]
  | some a =>
    simp [Value.ownBlock]
    intro e
    obtain ⟨cur, hc⟩ := h.block
    exact p.ne hc e.symm
theorem grown_only {w w' : World} {A1 : Option Addr} {c1 n : Nat} {own : Nat → Prop} (hg : w.grownBy w' (Value.slice A1 n c1).ownBlock) (ho : ∀ a, A1 = some a → own a.block) : Only own w w' :=
  Only.grown hg fun k hk => by
    cases A1 with
    | none => cases hk
    | some a => simp [Value.ownBlock] at hk; subst hk; exact ho a rfl
theorem app_end {w w4 w5 w7 : World} {T : Nat} {own : Nat → Prop} {s s1 : S} {Ad : List UInt8 → Option Addr × Nat} {m : Nat} {ka : Option Addr} {kc : Nat} {nm : List UInt8} {A1 A2 : Option Addr} {c1 c2 n L : Nat} {xs zs : List Int} {f' : F} {v : Value} {cs : Array Value} {t : TypeId}
    (p : PS w4 T own s1 Ad m ka kc) (hfs : s1.fs = s.fs) (sl : Slot w4 own s Ad nm A1 c1) (hS : Step own own w w4) (hL : w.heap.size ≤ L) (hLO : ∀ k, own k → k ≠ L) (g5 : w4.grownBy w5 (Value.slice A1 n c1).ownBlock) (l5 : Lies w4 A1 A2) (o5 : OwnB w5 0 A2 c2 (xs ++ zs))
    (x5 : w5.heap[L]? = some (.cells cs t (0, 0))) (ht : t ≠ 5) (hz : f'.zs = xs ++ zs) (hnm : f'.nm = nm) (m7 : PMap w7 m (elt (upd Ad f'.nm (A2, c2))) (put f' s1.fs)) (t7 : (w5.setCell ⟨L, 0, none⟩ v).drew.mapTurned w7 m) (inv : Inv { s1 with fs := put f' s1.fs }) :
    Leaves w T own { s1 with fs := put f' s1.fs } w7 := by
  subst hnm
  have hsz : w4.heap.size ≤ (w5.setCell ⟨L, 0, none⟩ v).drew.heap.size := by
    have := g5.size
    simp [World.setCell]; exact this
  have set_ne : ∀ k, k ≠ L → (w5.setCell ⟨L, 0, none⟩ v).drew.heap[k]? = w5.heap[k]? := fun k hk => Below.heap_setCell _ _ _ _ hk
  have p7 := p.put (w1 := (w5.setCell ⟨L, 0, none⟩ v).drew) (w2 := w7) f' A2 c2 hsz
    ((set_ne T (hLO T p.ownT)).trans ((grown_obj sl.row g5 p.obj (by decide)).trans p.obj.symm))
    (fun a ha => by
      rw [set_ne _ (hLO _ (p.ownK a ha))]
      have hk := p.keep
      rw [ha] at hk
      obtain ⟨cur, hc⟩ := hk.block
      exact (grown_obj sl.row g5 hc (by decide)).trans hc.symm)
    (fun g hg hn a ha => by
      rw [set_ne _ (hLO _ (p.ownR g hg a ha))]
      refine g5.block _ (p.lt _ (p.ownR g hg a ha)) ?_
      cases A1 with
      | none => simp [Value.ownBlock]
      | some a1 => simp [Value.ownBlock]; exact (sl.apart a1 rfl g (by rw [← hfs]; exact hg) hn a ha).symm)
    (by rw [hz]; exact (o5.set x5 ht 0 v).keep fun _ _ => rfl)
    (fun a' ha' => by
      rcases l5 a' ha' with ⟨a, ha, e⟩ | h1
      · rw [e]
        exact ⟨.inl (sl.own_ a ha), fun g hg hn b hb => sl.apart a ha g (by rw [← hfs]; exact hg) hn b hb⟩
      · exact ⟨.inr h1, fun g hg _ b hb => by have := p.lt _ (p.ownR g hg b hb); omega⟩)
    m7 t7 inv
  have o5' : Only own w w5 := hS.only.trans (grown_only g5 sl.own_) (fun _ h => .inl h)
  have o7 : Only own w w7 := (o5'.setNew hL 0 v).trans (Only.turned t7 p.ownM).undrew (fun _ h => .inl h)
  exact Leaves.mk_ p7 ⟨o7, fun k hk => by
    rcases hk with h1 | h1
    · exact .inl h1
    · exact .inr (Nat.le_trans hS.only.size h1.1)⟩
theorem obj_no_u8 (a b : Int) (mm : Option Nat) (o : Bool) (ka : Option Addr) (n kc : Nat) : ∀ (i : Nat) (z : Int), (#[.int .i64 a, .map mm, .bool o, .int .i64 b, .slice ka n kc] : Array Value)[i]? ≠ some (.int .u8 z) := by
  intro i z
  rcases i with _ | _ | _ | _ | _ | i <;> simp
set_option maxRecDepth 20000 in
set_option maxHeartbeats 2000000 in
theorem app_bad (T : Nat) (own : Nat → Prop) (s : S) (w : World) (h : PState w T own s) (sn : ByteArray) (hsn : sn.size ≤ 9223372036854775807) (v : Value) (hE : chk s [bs sn] ≠ 0) :
    Calls Tryz.prog 41 #[.pointer (some ⟨T, 0, none⟩), .string sn, v] w (OpPost w T own (chk s [bs sn]) s) := by
  have HP := Lib.hid h
  obtain ⟨Ad, m, ka, kc, p⟩ := h
  have CK := Lib.hid (check_any T s (some ⟨w.heap.size, 0, none⟩) [sn] 1 (by simp) (w.alloc (.cells #[.string sn] 9)) (obj5 (p.grow (one_alloc w _)).obj).1.2.2.1 (by
    have := Strs.new1 w sn hsn (0, 0)
    have e : (w.alloc (.cells #[.string sn] 9 (0, 0))).heap.size = w.heap.size + 1 := by simp
    rw [e]; exact this))
  have CK2 : Hid (Calls Tryz.prog 57 #[.pointer (some ⟨T, 0, none⟩), .slice (some ⟨w.heap.size, 0, none⟩) 1 1] (w.alloc (.cells #[.string sn] 9)) fun e w' => e = .returned (.int .i64 (chk s [bs sn])) ∧ Below (w.alloc (.cells #[.string sn] 9)).heap.size (w.alloc (.cells #[.string sn] 9)) w') := CK
  have hne : (chk s [bs sn] == 0) = false := by rw [beq_eq_false_iff_ne]; exact hE
  clear p CK hE hsn
  generalize chk s [bs sn] = er at *
  go_enter Tryz.func41, Tryz.ntmps41
  go_wp2_with fail
  refine CK2.out.mono ?_; rintro e w2 ⟨rfl, hb⟩
  have B2 := Lib.hid ((one_alloc w (.cells #[.string sn] 9)).trans (hb.mono (by simp)))
  clear hb
  go_wp2
  go_ret
  exact ⟨rfl, Leaves.same HP.out B2.out⟩
/-- What the calls ahead of the fuse come to. -/
structure Ahead (T : Nat) (own : Nat → Prop) (s : S) (w : World) (sn : ByteArray) (Ad : List UInt8 → Option Addr × Nat) (m : Nat) (ka : Option Addr) (kc : Nat) (A1 : Option Addr) (c1 : Nat) : Prop where
  ps : PS w T own s Ad m ka kc
  slot : Slot w own s Ad (bs sn) A1 c1
  size : sn.size ≤ 9223372036854775807
  ck : Calls Tryz.prog 57 #[.pointer (some ⟨T, 0, none⟩), .slice (some ⟨w.heap.size, 0, none⟩) 1 1] (w.alloc (.cells #[.string sn] 9)) fun e w' => e = .returned (.int .i64 0) ∧ Below (w.alloc (.cells #[.string sn] 9)).heap.size (w.alloc (.cells #[.string sn] 9)) w'
theorem ahead {T : Nat} {own : Nat → Prop} {s : S} {w : World} (h : PState w T own s) (sn : ByteArray) (hsn : sn.size ≤ 9223372036854775807) (hE : chk s [bs sn] = 0) : ∃ Ad m ka kc A1 c1, Ahead T own s w sn Ad m ka kc A1 c1 := by
  obtain ⟨Ad, m, ka, kc, p⟩ := h
  obtain ⟨A1, c1, hs⟩ := p.slot (bs sn)
  have CK := check_any T s (some ⟨w.heap.size, 0, none⟩) [sn] 1 (by simp) (w.alloc (.cells #[.string sn] 9)) (obj5 (p.grow (one_alloc w _)).obj).1.2.2.1 (by
    have := Strs.new1 w sn hsn (0, 0)
    have e : (w.alloc (.cells #[.string sn] 9 (0, 0))).heap.size = w.heap.size + 1 := by simp
    rw [e]; exact this)
  have e : chk s ([sn].map bs) = 0 := hE
  rw [e] at CK
  exact ⟨Ad, m, ka, kc, A1, c1, p, hs, hsn, CK⟩
theorem free_at (T : Nat) (own : Nat → Prop) (s : S) (w : World) (h : PState w T own s) (fr : Int) (hfr : fr = (s.room : Int) - (total s.fs : Nat)) :
    Calls Tryz.prog 58 #[.pointer (some ⟨T, 0, none⟩)] w fun e w' => e = .returned (.int .i64 fr) ∧ Below w.heap.size w w' := by subst hfr; exact free_any T own s w h
set_option maxRecDepth 20000 in
set_option maxHeartbeats 4000000 in
theorem app_full (T : Nat) (own : Nat → Prop) (s : S) (w : World) (h : PState w T own s) (sn : ByteArray) (hsn : sn.size ≤ 9223372036854775807) (A0 : Option Addr) (n cap0 : Nat) (hE : chk s [bs sn] = 0)
    (hF : (s.room - total s.fs < n) ∨ (n ≤ s.room - total s.fs ∧ (find (bs sn) s.fs).isSome = false ∧ 64 ≤ s.fs.length)) :
    Calls Tryz.prog 41 #[.pointer (some ⟨T, 0, none⟩), .string sn, .slice A0 n cap0] w (OpPost w T own 6 s) := by
  have HP := Lib.hid h
  obtain ⟨Ad, m, ka, kc, A1, c1, ha⟩ := ahead h sn hsn hE
  have HA := Lib.hid ha
  obtain ⟨fr, hfr⟩ : ∃ fr : Int, fr = (s.room : Int) - (total s.fs : Nat) := ⟨_, rfl⟩
  have HFR := Lib.hid hfr
  have ht := ha.ps.inv.tot
  rcases hF with hF | ⟨hF, hex, hct⟩
  · have g1 : fr < (n : Int) := by omega
    obtain ⟨ex, hex⟩ : ∃ ex, (find (bs sn) s.fs).isSome = ex := ⟨_, rfl⟩
    have HEX := Lib.hid hex
    clear ha hfr ht hF hex hE hsn
    go_enter Tryz.func41, Tryz.ntmps41
    go_wp2_with fail
    refine HA.out.ck.mono ?_; rintro e w2 ⟨rfl, hb⟩
    have B2 := Lib.hid ((one_alloc w (.cells #[.string sn] 9)).trans (hb.mono (by simp)))
    have P2 := Lib.hid (HA.out.ps.grow B2.out)
    obtain ⟨⟨_, c1', _, _, _⟩, _⟩ := obj5 P2.out.obj
    clear hb
    go_wp2_with (first
      | (at_lookup; refine wp_look2 rfl _ _ rfl rfl P2.out.map rfl HA.out.size (.agg #[.slice A1 (file s (bs sn)).zs.length c1, .int .i64 ((file s (bs sn)).sure : Int)]) HA.out.slot.val ex HEX.out ?_)
      | fail)
    refine (free_at T own s _ ⟨Ad, m, ka, kc, P2.out.grow (one_alloc _ _)⟩ fr HFR.out).mono ?_; rintro e w3 ⟨rfl, h3⟩
    have B3 := Lib.hid ((B2.out.alloc B2.out.size _).trans (h3.mono (by have := B2.out.size; simp; omega)))
    clear h3
    go_wp2
    go_ret
    exact ⟨rfl, Leaves.same HP.out B3.out⟩
  · have g1 : ¬ fr < (n : Int) := by omega
    have HEX := Lib.hid hex
    have g3 : 64 ≤ (s.fs.length : Int) := by omega
    clear ha hfr ht hF hex hE hsn hct
    go_enter Tryz.func41, Tryz.ntmps41
    go_wp2_with fail
    refine HA.out.ck.mono ?_; rintro e w2 ⟨rfl, hb⟩
    have B2 := Lib.hid ((one_alloc w (.cells #[.string sn] 9)).trans (hb.mono (by simp)))
    have P2 := Lib.hid (HA.out.ps.grow B2.out)
    obtain ⟨⟨_, c1', _, _, _⟩, _⟩ := obj5 P2.out.obj
    clear hb
    go_wp2_with (first
      | (at_lookup; refine wp_look2 rfl _ _ rfl rfl P2.out.map rfl HA.out.size (.agg #[.slice A1 (file s (bs sn)).zs.length c1, .int .i64 ((file s (bs sn)).sure : Int)]) HA.out.slot.val false HEX.out ?_)
      | fail)
    refine (free_at T own s _ ⟨Ad, m, ka, kc, P2.out.grow (one_alloc _ _)⟩ fr HFR.out).mono ?_; rintro e w3 ⟨rfl, h3⟩
    have B3 := Lib.hid ((B2.out.alloc B2.out.size _).trans (h3.mono (by have := B2.out.size; simp; omega)))
    have P3 := Lib.hid (HA.out.ps.grow B3.out)
    obtain ⟨⟨_, c3', _, _, _⟩, _⟩ := obj5 P3.out.obj
    have ML := P3.out.map.len
    clear h3
    go_wp2
    go_ret
    exact ⟨rfl, Leaves.same HP.out B3.out⟩
set_option maxRecDepth 20000 in
set_option maxHeartbeats 4000000 in
theorem app_blow (T : Nat) (own : Nat → Prop) (s : S) (w : World) (h : PState w T own s) (sn : ByteArray) (hsn : sn.size ≤ 9223372036854775807) (A0 : Option Addr) (n cap0 : Nat) (hE : chk s [bs sn] = 0) (hn : n ≤ s.room - total s.fs)
    (hX : (find (bs sn) s.fs).isSome = true ∨ ((find (bs sn) s.fs).isSome = false ∧ s.fs.length < 64)) (hf : s.fuse = 1) :
    Calls Tryz.prog 41 #[.pointer (some ⟨T, 0, none⟩), .string sn, .slice A0 n cap0] w (OpPost w T own 11 (crash { s with fuse := 0 } s.keep)) := by
  obtain ⟨Ad, m, ka, kc, A1, c1, ha⟩ := ahead h sn hsn hE
  have HA := Lib.hid ha
  obtain ⟨fr, hfr⟩ : ∃ fr : Int, fr = (s.room : Int) - (total s.fs : Nat) := ⟨_, rfl⟩
  have HFR := Lib.hid hfr
  have HF := Lib.hid hf
  have ht := ha.ps.inv.tot
  have g1 : ¬ fr < (n : Int) := by omega
  rcases hX with hex | ⟨hex, hct⟩
  · have HEX := Lib.hid hex
    clear ha hfr ht hn hex hE hsn hf
    go_enter Tryz.func41, Tryz.ntmps41
    go_wp2_with fail
    refine HA.out.ck.mono ?_; rintro e w2 ⟨rfl, hb⟩
    have B2 := Lib.hid ((one_alloc w (.cells #[.string sn] 9)).trans (hb.mono (by simp)))
    have P2 := Lib.hid (HA.out.ps.grow B2.out)
    obtain ⟨⟨_, c1', _, _, _⟩, _⟩ := obj5 P2.out.obj
    clear hb
    go_wp2_with (first
      | (at_lookup; refine wp_look2 rfl _ _ rfl rfl P2.out.map rfl HA.out.size (.agg #[.slice A1 (file s (bs sn)).zs.length c1, .int .i64 ((file s (bs sn)).sure : Int)]) HA.out.slot.val true HEX.out ?_)
      | fail)
    have X2 : Hid ((w2.alloc (.cells #[.slice A1 (file s (bs sn)).zs.length c1, .int .i64 ((file s (bs sn)).sure : Int)] 80)).heap[w2.heap.size]? = some (.cells #[.slice A1 (file s (bs sn)).zs.length c1, .int .i64 ((file s (bs sn)).sure : Int)] 80 (0, 0))) := Lib.hid (heap_alloc_new w2 _)
    refine (free_at T own s _ ⟨Ad, m, ka, kc, P2.out.grow (one_alloc _ _)⟩ fr HFR.out).mono ?_; rintro e w3 ⟨rfl, h3⟩
    have B3 := Lib.hid ((B2.out.alloc B2.out.size _).trans (h3.mono (by have := B2.out.size; simp; omega)))
    have X3 := Lib.hid ((h3.block _ (lt_of_block X2.out)).trans X2.out)
    have P3 := Lib.hid (HA.out.ps.grow B3.out)
    obtain ⟨⟨_, c3', _, _, _⟩, _⟩ := obj5 P3.out.obj
    clear h3 c1'
    go_wp2_with fail
    refine (blows_one T own s _ ⟨Ad, m, ka, kc, P3.out⟩ HF.out).mono ?_; rintro e w4 ⟨rfl, hl⟩
    have HL := Lib.hid hl
    clear hl
    go_wp2
    go_ret
    exact ⟨rfl, Leaves.ahead B3.out HL.out⟩
  · have HEX := Lib.hid hex
    have g3 : ¬ 64 ≤ (s.fs.length : Int) := by omega
    clear ha hfr ht hn hex hE hsn hf hct
    go_enter Tryz.func41, Tryz.ntmps41
    go_wp2_with fail
    refine HA.out.ck.mono ?_; rintro e w2 ⟨rfl, hb⟩
    have B2 := Lib.hid ((one_alloc w (.cells #[.string sn] 9)).trans (hb.mono (by simp)))
    have P2 := Lib.hid (HA.out.ps.grow B2.out)
    obtain ⟨⟨_, c1', _, _, _⟩, _⟩ := obj5 P2.out.obj
    clear hb
    go_wp2_with (first
      | (at_lookup; refine wp_look2 rfl _ _ rfl rfl P2.out.map rfl HA.out.size (.agg #[.slice A1 (file s (bs sn)).zs.length c1, .int .i64 ((file s (bs sn)).sure : Int)]) HA.out.slot.val false HEX.out ?_)
      | fail)
    have X2 : Hid ((w2.alloc (.cells #[.slice A1 (file s (bs sn)).zs.length c1, .int .i64 ((file s (bs sn)).sure : Int)] 80)).heap[w2.heap.size]? = some (.cells #[.slice A1 (file s (bs sn)).zs.length c1, .int .i64 ((file s (bs sn)).sure : Int)] 80 (0, 0))) := Lib.hid (heap_alloc_new w2 _)
    refine (free_at T own s _ ⟨Ad, m, ka, kc, P2.out.grow (one_alloc _ _)⟩ fr HFR.out).mono ?_; rintro e w3 ⟨rfl, h3⟩
    have B3 := Lib.hid ((B2.out.alloc B2.out.size _).trans (h3.mono (by have := B2.out.size; simp; omega)))
    have X3 := Lib.hid ((h3.block _ (lt_of_block X2.out)).trans X2.out)
    have P3 := Lib.hid (HA.out.ps.grow B3.out)
    obtain ⟨⟨_, c3', _, _, _⟩, _⟩ := obj5 P3.out.obj
    have ML := P3.out.map.len
    clear h3 c1'
    go_wp2_with fail
    refine (blows_one T own s _ ⟨Ad, m, ka, kc, P3.out⟩ HF.out).mono ?_; rintro e w4 ⟨rfl, hl⟩
    have HL := Lib.hid hl
    clear hl
    go_wp2
    go_ret
    exact ⟨rfl, Leaves.ahead B3.out HL.out⟩
set_option maxRecDepth 20000 in
set_option maxHeartbeats 8000000 in
theorem app_good (T : Nat) (own : Nat → Prop) (s : S) (w : World) (h : PState w T own s) (sn : ByteArray) (hsn : sn.size ≤ 9223372036854775807) (A0 : Option Addr) (n cap0 : Nat) (zs : List Int) (hz : n = zs.length) (hby : Bytes w w.heap.size A0 zs) (hE : chk s [bs sn] = 0) (hn : n ≤ s.room - total s.fs)
    (hX : (find (bs sn) s.fs).isSome = true ∨ ((find (bs sn) s.fs).isSome = false ∧ s.fs.length < 64)) (hf : s.fuse ≠ 1) (HI0 : Inv { s with fs := appL s (bs sn) zs, fuse := s.fuse - 1 }) :
    Calls Tryz.prog 41 #[.pointer (some ⟨T, 0, none⟩), .string sn, .slice A0 n cap0] w (OpPost w T own 0 { s with fs := appL s (bs sn) zs, fuse := s.fuse - 1 }) := by
  obtain ⟨Ad, m, ka, kc, A1, c1, ha⟩ := ahead h sn hsn hE
  have HA := Lib.hid ha
  obtain ⟨fr, hfr⟩ : ∃ fr : Int, fr = (s.room : Int) - (total s.fs : Nat) := ⟨_, rfl⟩
  have HFR := Lib.hid hfr
  have HF := Lib.hid hf
  have HN := Lib.hid hz
  have BY := Lib.hid hby
  have HI := Lib.hid HI0
  have ht := ha.ps.inv.tot
  have g1 : ¬ fr < (n : Int) := by omega
  have LEN : Hid ((file s (bs sn)).zs.length + zs.length ≤ 1073741824) := Lib.hid (by
    have hr := ha.ps.inv.room
    have : (file s (bs sn)).zs.length ≤ total s.fs := by
      cases hfi : find (bs sn) s.fs with
      | none => rw [file_none hfi]; simp
      | some f => rw [(file_mem hfi).1]; exact total_mem (file_mem hfi).2.1
    omega)
  obtain ⟨f', hf'⟩ : ∃ f', f' = (⟨bs sn, (file s (bs sn)).zs ++ zs, (file s (bs sn)).sure⟩ : F) := ⟨_, rfl⟩
  have HF' := Lib.hid hf'
  rcases hX with hex | ⟨hex, hct⟩
  · have HEX := Lib.hid hex
    clear ha hfr ht hn hex hE hsn hf hz hby hf' HI0
    go_enter Tryz.func41, Tryz.ntmps41
    go_wp2_with fail
    refine HA.out.ck.mono ?_; rintro e w2 ⟨rfl, hb⟩
    have B2 := Lib.hid ((one_alloc w (.cells #[.string sn] 9)).trans (hb.mono (by simp)))
    have P2 := Lib.hid (HA.out.ps.grow B2.out)
    obtain ⟨⟨_, c1', _, _, _⟩, _⟩ := obj5 P2.out.obj
    clear hb
    go_wp2_with (first
      | (at_lookup; refine wp_look2 rfl _ _ rfl rfl P2.out.map rfl HA.out.size (.agg #[.slice A1 (file s (bs sn)).zs.length c1, .int .i64 ((file s (bs sn)).sure : Int)]) HA.out.slot.val true HEX.out ?_)
      | fail)
    have X2 : Hid ((w2.alloc (.cells #[.slice A1 (file s (bs sn)).zs.length c1, .int .i64 ((file s (bs sn)).sure : Int)] 80)).heap[w2.heap.size]? = some (.cells #[.slice A1 (file s (bs sn)).zs.length c1, .int .i64 ((file s (bs sn)).sure : Int)] 80 (0, 0))) := Lib.hid (heap_alloc_new w2 _)
    refine (free_at T own s _ ⟨Ad, m, ka, kc, P2.out.grow (one_alloc _ _)⟩ fr HFR.out).mono ?_; rintro e w3 ⟨rfl, h3⟩
    have B3 := Lib.hid ((B2.out.alloc B2.out.size _).trans (h3.mono (by have := B2.out.size; simp; omega)))
    have X3 := Lib.hid ((h3.block _ (lt_of_block X2.out)).trans X2.out)
    have P3 := Lib.hid (HA.out.ps.grow B3.out)
    obtain ⟨⟨_, c3', _, _, _⟩, _⟩ := obj5 P3.out.obj
    clear h3 c1'
    go_wp2_with fail
    refine (blows_quiet T own s Ad m ka kc _ P3.out HF.out).mono ?_; rintro e w4 ⟨rfl, hp4, hs4, hz4, hk4⟩
    have LO : Hid (∀ k, own k → k ≠ w2.heap.size) := Lib.hid fun k hk => by have := HA.out.ps.lt k hk; have := B2.out.size; omega
    have X4 := Lib.hid ((hk4 w2.heap.size (LO.out T HA.out.ps.ownT).symm).trans X3.out)
    have P4 := Lib.hid hp4
    have S4 := Lib.hid (hs4.ahead B3.out)
    have SL4 : Hid (Slot w4 own s Ad (bs sn) A1 c1) := Lib.hid ⟨HA.out.slot.val, ((HA.out.slot.row.grew B3.out (Nat.le_refl _)).keep fun a ha => hk4 _ (by
      have hr := (HA.out.slot.row.grew B3.out (Nat.le_refl _))
      rw [ha] at hr
      obtain ⟨cur, hc⟩ := hr.block
      exact type_ne hc P3.out.obj (by decide))), HA.out.slot.own_, HA.out.slot.apart⟩
    have BY4 : Hid (Bytes w4 w4.heap.size A0 zs) := Lib.hid ((BY.out.below B3.out).more B3.out.size |>.but (g := T) ⟨by exact hs4.only.os, hs4.only.tape, hs4.only.output, hs4.only.size, fun k _ hk => hk4 k hk⟩ P3.out.obj (obj_no_u8 _ _ _ _ _ _ _) |>.more hs4.only.size)
    clear hp4 hs4 hz4 hk4 c3'
    obtain ⟨⟨x0, x1⟩, g0, _⟩ := obj2 X4.out
    go_wp2_with (first
      | (at_builtin; refine wp_app2 rfl _ _ rfl rfl rfl SL4.out.row rfl HN.out BY4.out LEN.out ?_; intro A2 c2 w5 ho5 hg5 hl5; have X5 := Lib.hid (grown_obj SL4.out.row hg5 X4.out (by decide)); obtain ⟨⟨y0, y1⟩, k0, _⟩ := obj2 X5.out; have O5 := Lib.hid ho5; have G5 := Lib.hid hg5; have L5 := Lib.hid hl5; clear ho5 hg5 hl5)
      | fail)
    have X6 := Lib.hid (obj_set (o := 0) X5.out (.slice A2 ((file s (bs sn)).zs.length + zs.length) c2))
    have EL : Hid (f'.zs.length = (file s (bs sn)).zs.length + zs.length) := Lib.hid (by rw [HF'.out]; simp)
    have PM6 : Hid (PMap (w5.setCell ⟨w2.heap.size, 0, none⟩ (.slice A2 ((file s (bs sn)).zs.length + zs.length) c2)).drew m (elt Ad) s.fs) := Lib.hid ((P4.out.map.grown SL4.out.row G5.out).keep (Below.heap_setCell _ _ _ _ (Ne.symm ((P4.out.map.grown SL4.out.row G5.out).ne X5.out))))
    have TO6 : Hid ((w5.setCell ⟨w2.heap.size, 0, none⟩ (.slice A2 ((file s (bs sn)).zs.length + zs.length) c2)).drew.heap[T]? = _) := Lib.hid ((Below.heap_setCell _ _ _ _ (LO.out T HA.out.ps.ownT)).trans (grown_obj SL4.out.row G5.out P4.out.obj (by decide)))
    have HE2 : Hid (∀ v, ∀ g ∈ del f'.nm s.fs, elt (upd Ad f'.nm v) g = elt Ad g) := Lib.hid fun v => elt_other
    obtain ⟨w7, hrun, hmap, hturn⟩ := PM6.out.store (E' := elt (upd Ad f'.nm (A2, c2))) (by have := HA.out.ps.inv.count; omega) f' sn HA.out.size (by rw [HF'.out]) (.agg #[.slice A2 ((file s (bs sn)).zs.length + zs.length) c2, .int .i64 ((file s (bs sn)).sure : Int)]) (by rw [elt_same, EL.out, HF'.out]) (HE2.out (A2, c2))
    have M7 := Lib.hid hmap
    have T7 := Lib.hid hturn
    have NE := Lib.hid (show T ≠ m ∧ w2.heap.size ≠ m from ⟨P4.out.obj_ne, P4.out.map.ne X4.out⟩)
    have q7 := Lib.hid (show w7.cell? ⟨T, 1, none⟩ = some (.map (some m)) ∧ w7.cell? ⟨w2.heap.size, 0, none⟩ = some (.slice A2 ((file s (bs sn)).zs.length + zs.length) c2) ∧ w7.cell? ⟨w2.heap.size, 1, none⟩ = some (.int .i64 ((file s (bs sn)).sure : Int)) from ⟨(obj5 ((turn_at T7.out NE.out.1).trans TO6.out)).1.2.1, (obj2 ((turn_at T7.out NE.out.2).trans X6.out)).1⟩)
    clear x0 x1 g0 y0 y1 k0 hmap hturn
    obtain ⟨⟨_, d1, _, _, _⟩, _⟩ := obj5 TO6.out
    obtain ⟨⟨z0, z1⟩, _⟩ := obj2 X6.out
    go_region_held3 (fun w' => w'.cell? ⟨T, 1, none⟩ = some (.map (some m)) ∧ w'.cell? ⟨w2.heap.size, 0, none⟩ = some (.slice A2 ((file s (bs sn)).zs.length + zs.length) c2) ∧ w'.cell? ⟨w2.heap.size, 1, none⟩ = some (.int .i64 ((file s (bs sn)).sure : Int))) ((first | go_keep | exact ⟨d1, z0, z1⟩ | exact q7.out))
      (first | fail)
    clear d1 z0 z1 q7
    go_wp2
    go_ret
    have ECL : appL s (bs sn) zs = put f' s.fs := by unfold appL; rw [HF'.out]
    have e : ({ s with fs := appL s (bs sn) zs, fuse := s.fuse - 1 } : S) = { ({ s with fuse := s.fuse - 1 } : S) with fs := put f' s.fs } := by rw [ECL]
    rw [e]
    exact ⟨rfl, app_end (s := s) P4.out rfl SL4.out S4.out B2.out.size LO.out G5.out L5.out O5.out X5.out (by decide) (by rw [HF'.out]) (by rw [HF'.out]) M7.out T7.out (by have h := HI.out; rw [ECL] at h; exact h)⟩
  · have HEX := Lib.hid hex
    have g3 : ¬ 64 ≤ (s.fs.length : Int) := by omega
    clear ha hfr ht hn hex hct hE hsn hf hz hby hf' HI0
    go_enter Tryz.func41, Tryz.ntmps41
    go_wp2_with fail
    refine HA.out.ck.mono ?_; rintro e w2 ⟨rfl, hb⟩
    have B2 := Lib.hid ((one_alloc w (.cells #[.string sn] 9)).trans (hb.mono (by simp)))
    have P2 := Lib.hid (HA.out.ps.grow B2.out)
    obtain ⟨⟨_, c1', _, _, _⟩, _⟩ := obj5 P2.out.obj
    clear hb
    go_wp2_with (first
      | (at_lookup; refine wp_look2 rfl _ _ rfl rfl P2.out.map rfl HA.out.size (.agg #[.slice A1 (file s (bs sn)).zs.length c1, .int .i64 ((file s (bs sn)).sure : Int)]) HA.out.slot.val false HEX.out ?_)
      | fail)
    have X2 : Hid ((w2.alloc (.cells #[.slice A1 (file s (bs sn)).zs.length c1, .int .i64 ((file s (bs sn)).sure : Int)] 80)).heap[w2.heap.size]? = some (.cells #[.slice A1 (file s (bs sn)).zs.length c1, .int .i64 ((file s (bs sn)).sure : Int)] 80 (0, 0))) := Lib.hid (heap_alloc_new w2 _)
    refine (free_at T own s _ ⟨Ad, m, ka, kc, P2.out.grow (one_alloc _ _)⟩ fr HFR.out).mono ?_; rintro e w3 ⟨rfl, h3⟩
    have B3 := Lib.hid ((B2.out.alloc B2.out.size _).trans (h3.mono (by have := B2.out.size; simp; omega)))
    have X3 := Lib.hid ((h3.block _ (lt_of_block X2.out)).trans X2.out)
    have P3 := Lib.hid (HA.out.ps.grow B3.out)
    obtain ⟨⟨_, c3', _, _, _⟩, _⟩ := obj5 P3.out.obj
    have ML := P3.out.map.len
    clear h3 c1'
    go_wp2_with fail
    refine (blows_quiet T own s Ad m ka kc _ P3.out HF.out).mono ?_; rintro e w4 ⟨rfl, hp4, hs4, hz4, hk4⟩
    have LO : Hid (∀ k, own k → k ≠ w2.heap.size) := Lib.hid fun k hk => by have := HA.out.ps.lt k hk; have := B2.out.size; omega
    have X4 := Lib.hid ((hk4 w2.heap.size (LO.out T HA.out.ps.ownT).symm).trans X3.out)
    have P4 := Lib.hid hp4
    have S4 := Lib.hid (hs4.ahead B3.out)
    have SL4 : Hid (Slot w4 own s Ad (bs sn) A1 c1) := Lib.hid ⟨HA.out.slot.val, ((HA.out.slot.row.grew B3.out (Nat.le_refl _)).keep fun a ha => hk4 _ (by
      have hr := (HA.out.slot.row.grew B3.out (Nat.le_refl _))
      rw [ha] at hr
      obtain ⟨cur, hc⟩ := hr.block
      exact type_ne hc P3.out.obj (by decide))), HA.out.slot.own_, HA.out.slot.apart⟩
    have BY4 : Hid (Bytes w4 w4.heap.size A0 zs) := Lib.hid ((BY.out.below B3.out).more B3.out.size |>.but (g := T) ⟨by exact hs4.only.os, hs4.only.tape, hs4.only.output, hs4.only.size, fun k _ hk => hk4 k hk⟩ P3.out.obj (obj_no_u8 _ _ _ _ _ _ _) |>.more hs4.only.size)
    clear hp4 hs4 hz4 hk4 c3' ML
    obtain ⟨⟨x0, x1⟩, g0, _⟩ := obj2 X4.out
    go_wp2_with (first
      | (at_builtin; refine wp_app2 rfl _ _ rfl rfl rfl SL4.out.row rfl HN.out BY4.out LEN.out ?_; intro A2 c2 w5 ho5 hg5 hl5; have X5 := Lib.hid (grown_obj SL4.out.row hg5 X4.out (by decide)); obtain ⟨⟨y0, y1⟩, k0, _⟩ := obj2 X5.out; have O5 := Lib.hid ho5; have G5 := Lib.hid hg5; have L5 := Lib.hid hl5; clear ho5 hg5 hl5)
      | fail)
    have X6 := Lib.hid (obj_set (o := 0) X5.out (.slice A2 ((file s (bs sn)).zs.length + zs.length) c2))
    have EL : Hid (f'.zs.length = (file s (bs sn)).zs.length + zs.length) := Lib.hid (by rw [HF'.out]; simp)
    have PM6 : Hid (PMap (w5.setCell ⟨w2.heap.size, 0, none⟩ (.slice A2 ((file s (bs sn)).zs.length + zs.length) c2)).drew m (elt Ad) s.fs) := Lib.hid ((P4.out.map.grown SL4.out.row G5.out).keep (Below.heap_setCell _ _ _ _ (Ne.symm ((P4.out.map.grown SL4.out.row G5.out).ne X5.out))))
    have TO6 : Hid ((w5.setCell ⟨w2.heap.size, 0, none⟩ (.slice A2 ((file s (bs sn)).zs.length + zs.length) c2)).drew.heap[T]? = _) := Lib.hid ((Below.heap_setCell _ _ _ _ (LO.out T HA.out.ps.ownT)).trans (grown_obj SL4.out.row G5.out P4.out.obj (by decide)))
    have HE2 : Hid (∀ v, ∀ g ∈ del f'.nm s.fs, elt (upd Ad f'.nm v) g = elt Ad g) := Lib.hid fun v => elt_other
    obtain ⟨w7, hrun, hmap, hturn⟩ := PM6.out.store (E' := elt (upd Ad f'.nm (A2, c2))) (by have := HA.out.ps.inv.count; omega) f' sn HA.out.size (by rw [HF'.out]) (.agg #[.slice A2 ((file s (bs sn)).zs.length + zs.length) c2, .int .i64 ((file s (bs sn)).sure : Int)]) (by rw [elt_same, EL.out, HF'.out]) (HE2.out (A2, c2))
    have M7 := Lib.hid hmap
    have T7 := Lib.hid hturn
    have NE := Lib.hid (show T ≠ m ∧ w2.heap.size ≠ m from ⟨P4.out.obj_ne, P4.out.map.ne X4.out⟩)
    have q7 := Lib.hid (show w7.cell? ⟨T, 1, none⟩ = some (.map (some m)) ∧ w7.cell? ⟨w2.heap.size, 0, none⟩ = some (.slice A2 ((file s (bs sn)).zs.length + zs.length) c2) ∧ w7.cell? ⟨w2.heap.size, 1, none⟩ = some (.int .i64 ((file s (bs sn)).sure : Int)) from ⟨(obj5 ((turn_at T7.out NE.out.1).trans TO6.out)).1.2.1, (obj2 ((turn_at T7.out NE.out.2).trans X6.out)).1⟩)
    clear x0 x1 g0 y0 y1 k0 hmap hturn
    obtain ⟨⟨_, d1, _, _, _⟩, _⟩ := obj5 TO6.out
    obtain ⟨⟨z0, z1⟩, _⟩ := obj2 X6.out
    go_region_held3 (fun w' => w'.cell? ⟨T, 1, none⟩ = some (.map (some m)) ∧ w'.cell? ⟨w2.heap.size, 0, none⟩ = some (.slice A2 ((file s (bs sn)).zs.length + zs.length) c2) ∧ w'.cell? ⟨w2.heap.size, 1, none⟩ = some (.int .i64 ((file s (bs sn)).sure : Int))) ((first | go_keep | exact ⟨d1, z0, z1⟩ | exact q7.out))
      (first | fail)
    clear d1 z0 z1 q7
    go_wp2
    go_ret
    have ECL : appL s (bs sn) zs = put f' s.fs := by unfold appL; rw [HF'.out]
    have e : ({ s with fs := appL s (bs sn) zs, fuse := s.fuse - 1 } : S) = { ({ s with fuse := s.fuse - 1 } : S) with fs := put f' s.fs } := by rw [ECL]
    rw [e]
    exact ⟨rfl, app_end (s := s) P4.out rfl SL4.out S4.out B2.out.size LO.out G5.out L5.out O5.out X5.out (by decide) (by rw [HF'.out]) (by rw [HF'.out]) M7.out T7.out (by have h := HI.out; rw [ECL] at h; exact h)⟩
theorem append_any (T : Nat) (own : Nat → Prop) (s : S) (w : World) (h : PState w T own s) (sn : ByteArray) (hsn : sn.size ≤ 9223372036854775807) (A0 : Option Addr) (cap0 : Nat) (zs : List Int) (hby : Bytes w w.heap.size A0 zs) :
    Calls Tryz.prog 41 #[.pointer (some ⟨T, 0, none⟩), .string sn, .slice A0 zs.length cap0] w (OpPost w T own (actE s (appE s (bs sn) zs.length)) (actS s (appE s (bs sn) zs.length) (appL s (bs sn) zs))) := by
  by_cases hE : chk s [bs sn] = 0
  · by_cases hF : s.room - total s.fs < zs.length ∨ ((find (bs sn) s.fs).isSome = false ∧ 64 ≤ s.fs.length)
    · have e : appE s (bs sn) zs.length = 6 := by unfold appE; rw [if_neg (by simp [hE]), if_pos hF]
      rw [e, actE_bad (by decide), actS_bad (by decide)]
      refine app_full T own s w h sn hsn A0 _ cap0 hE ?_
      rcases hF with h1 | h1
      · exact .inl h1
      · by_cases h2 : s.room - total s.fs < zs.length
        · exact .inl h2
        · exact .inr ⟨by omega, h1⟩
    · have e : appE s (bs sn) zs.length = 0 := by unfold appE; rw [if_neg (by simp [hE]), if_neg hF]
      have hX : (find (bs sn) s.fs).isSome = true ∨ ((find (bs sn) s.fs).isSome = false ∧ s.fs.length < 64) := by
        cases hx : (find (bs sn) s.fs).isSome with
        | true => exact .inl rfl
        | false => exact .inr ⟨rfl, by rw [hx] at hF; simp at hF; omega⟩
      have hn : zs.length ≤ s.room - total s.fs := by
        rcases Nat.lt_or_ge (s.room - total s.fs) zs.length with h1 | h1
        · exact absurd (.inl h1) hF
        · exact h1
      have hi := h.inv.app (bs sn) zs
      rw [e] at hi ⊢
      by_cases hf : s.fuse = 1
      · rw [actE_blow rfl hf, actS_blow rfl hf]
        exact app_blow T own s w h sn hsn A0 _ cap0 hE hn hX hf
      · rw [actE_ok rfl hf, actS_ok rfl hf]
        rw [actS_ok rfl hf] at hi
        exact app_good T own s w h sn hsn A0 _ cap0 zs rfl hby hE hn hX hf hi
  · have e : appE s (bs sn) zs.length = chk s [bs sn] := by unfold appE; rw [if_pos hE]
    rw [e, actE_bad hE, actS_bad hE]
    exact app_bad T own s w h sn hsn _ hE
end Go.Proofs.YtdbhicifjljjnaaGreatDoor
