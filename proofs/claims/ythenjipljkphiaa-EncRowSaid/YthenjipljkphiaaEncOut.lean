/-
  The writing methods of package enc, at every writer: the bytes of the number or of the string behind what it held; below the writer's own rows nothing but its own block changes.
-/
import Derived.Test.YthenjipljkphiaaEncFirst
namespace Go.Proofs.Ythenjipljkphiaa
open Go.RowKit
theorem obj1 {w : World} {g : Nat} {x : Value} {t : TypeId} (h : w.heap[g]? = some (.cells #[x] t (0, 0))) : w.cell? ⟨g, 0, none⟩ = some x ∧ w.frozen? ⟨g, 0, none⟩ = false :=
  ⟨by simp [World.cell?, h], by simp [World.frozen?, h]⟩
/-- A writer at block g: what it holds; its row lies at 'base' or above, or is a full literal. -/
def OutAt (w : World) (base g : Nat) (xs : List Int) : Prop :=
  ∃ A cap, w.heap[g]? = some (.cells #[.slice A xs.length cap] 26 (0, 0)) ∧ base ≤ w.heap.size ∧ Row w base A cap xs
def OutOwn (w : World) (base g : Nat) (xs : List Int) : Prop :=
  ∃ A cap, w.heap[g]? = some (.cells #[.slice A xs.length cap] 26 (0, 0)) ∧ base ≤ w.heap.size ∧ OwnB w base A cap xs
theorem OutOwn.at_ {w : World} {base g : Nat} {xs : List Int} (h : OutOwn w base g xs) : OutAt w base g xs := by
  obtain ⟨A, cap, h1, h2, h3⟩ := h; exact ⟨A, cap, h1, h2, .inl h3⟩
def OutPost (w : World) (base g : Nat) (xs : List Int) (w' : World) : Prop := OutOwn w' base g xs ∧ But base g w w'
theorem OutPost.trans {w w1 w2 : World} {base g : Nat} {xs ys : List Int} (h : OutPost w base g xs w1) (k : OutPost w1 base g ys w2) : OutPost w base g ys w2 := ⟨k.1, h.2.trans k.2⟩
theorem OutOwn.start {w : World} {base g : Nat} (ho : w.heap[g]? = some (.cells #[.slice none 0 0] 26 (0, 0))) (hb : base ≤ w.heap.size) : OutOwn w base g [] :=
  ⟨none, 0, ho, hb, OwnB.none_ w base⟩
/-- A writer stays what it is where its own block and its row's stay. -/
theorem OutOwn.keep {w w' : World} {base B g g' : Nat} {xs : List Int} {cs : Array Value} {t : TypeId} (h : OutOwn w base g xs) (hb : But B g' w w') (hB : w.heap.size ≤ B) (ho : w.heap[g']? = some (.cells cs t (0, 0))) (ht : t ≠ 5) (hg : g ≠ g') : OutOwn w' base g xs := by
  obtain ⟨A, cap, h1, h2, h3⟩ := h
  refine ⟨A, cap, (hb.block g (by have := lt_of_block h1; omega) hg).trans h1, Nat.le_trans h2 hb.size, h3.keep fun a ha => ?_⟩
  subst ha
  exact hb.block _ (by have := (h3.1.lt a.block (by simp [Value.ownBlock])).2; omega) (h3.ne ho ht)
theorem OutOwn.below {w w' : World} {base B g : Nat} {xs : List Int} (h : OutOwn w base g xs) (hb : Below B w w') (hB : w.heap.size ≤ B) : OutOwn w' base g xs := by
  obtain ⟨A, cap, h1, h2, h3⟩ := h
  exact ⟨A, cap, (hb.block g (by have := lt_of_block h1; omega)).trans h1, Nat.le_trans h2 hb.size, h3.grew hb hB⟩
theorem Row.grew {w w' : World} {base B : Nat} {A : Option Addr} {cap : Nat} {xs : List Int} (h : Row w base A cap xs) (hb : Below B w w') (hB : w.heap.size ≤ B) : Row w' base A cap xs := by
  rcases h with h | ⟨h1, h2, h3⟩
  · exact .inl (h.grew hb hB)
  · exact .inr ⟨h1, h2, (h3.below (hb.mono hB)).more hb.size⟩
theorem out_stored {w : World} {base g cap : Nat} {A : Option Addr} {ys : List Int} {x : Value} (ho : w.heap[g]? = some (.cells #[x] 26 (0, 0))) (h : OwnB w base A cap ys) (hb : base ≤ w.heap.size) (n : Nat) (hn : n = ys.length) :
    OutOwn (w.setCell ⟨g, 0, none⟩ (.slice A n cap)) base g ys := by
  subst hn
  refine ⟨A, cap, heap_setCell_same w g 0 _ _ _ ho, by simpa [World.setCell] using hb, h.set ho (by decide) 0 _⟩
theorem alloc_obj {w : World} {g : Nat} {o : Obj} (h : w.heap[g]? = some o) (p : Obj) : (w.alloc p).heap[g]? = some o := (Below.heap_alloc _ _ _ (lt_of_block h)).trans h

set_option maxHeartbeats 1000000 in
theorem outU_any (v : Int) (v0 : 0 ≤ v) (v1 : v < 18446744073709551616) (base g : Nat) (xs : List Int) (hl : xs.length ≤ 1000000000) (w : World) (h : OutAt w base g xs) :
    Calls Try.prog 9 #[.pointer (some ⟨g, 0, none⟩), .int .u64 v] w fun e w' => e = .returned (.tuple #[]) ∧ OutPost w base g (xs ++ En.leb v) w' := by
  have HS := Lib.hid h
  clear h
  have HL := Lib.hid hl
  clear hl
  have lv := Lib.hid (En.leb_len v v0 v1)
  go_enter Try.func9, Try.ntmps9
  go_wp2
  go_loopw [1] (fun x wr => ∃ (u : Int) (zs : List Int), 0 ≤ u ∧ u < 18446744073709551616 ∧ x = .int .u64 u ∧ OutAt wr base g zs ∧ zs ++ En.leb u = xs ++ En.leb v ∧ But base g w wr) (fun x _ => (intOf x).toNat)
  case atStart => exact ⟨v, xs, v0, v1, rfl, HS.out, rfl, But.refl _ _ _⟩
  case round =>
    obtain ⟨u, zs, u0, u1, rfl, hat, heq, hbut⟩ := hrel
    obtain ⟨A, cap, ho, hbase, hrow⟩ := hat
    obtain ⟨c0, f0⟩ := obj1 ho
    have hlen : zs.length ≤ 1000000010 := by
      have h1 := congrArg List.length heq
      rw [List.length_append, List.length_append] at h1
      have := lv.out
      have := HL.out
      omega
    have HE := Lib.hid heq
    have HB := Lib.hid hbut
    have HO := Lib.hid ho
    have HR := Lib.hid hrow
    have HZ := Lib.hid hlen
    have HBS := Lib.hid hbase
    clear heq hbut ho hrow hlen hbase
    by_cases hu : u < 128
    · have e1 := En.leb_small u u0 hu
      have E1 := Lib.hid e1
      have eu : IntKind.u8.wrap u = u := by rw [IntKind.wrap_u8]; omega
      have EU := Lib.hid eu
      clear e1 eu
      go_wp2_with (at_builtin; refine wp_appR rfl (.tmp 24) (.tmp 27) rfl rfl rfl (HR.out.grew ((Below.refl _ _).alloc (Nat.le_refl _) _) (Nat.le_refl _)) (by have := HBS.out; simp; omega) rfl rfl (Bytes.new1 wr _ (by first | omega | (rw [EU.out]; omega)) (by first | omega | (rw [EU.out]; omega)) _) (Nat.succ_pos _) (by have := HZ.out; simp; omega) ?_; intro A2 cap2 w2 o2 d2; have HO2 := Lib.hid (d2.obj g _ _ _ (alloc_obj HO.out _) (by decide)); obtain ⟨c2, f2⟩ := obj1 HO2.out; have OW := Lib.hid o2; have DW := Lib.hid d2; clear o2 d2)
      go_end0
      have hb2 : base ≤ w2.heap.size := by have h1 := HBS.out; have h2 := DW.out.below.size; simp at h2; omega
      have hst := out_stored HO2.out OW.out hb2 (zs.length + 1) (by simp)
      have hfr : But base g w w2 := HB.out.trans ((But.of ((Below.refl _ _).alloc HBS.out _)).trans (But.of DW.out.below))
      have hfr2 := hfr.trans (But.set base g 0 w2 (.slice A2 (zs.length + 1) cap2))
      refine ⟨rfl, ?_, ?_⟩
      · rw [← HE.out, E1.out]; exact hst
      · exact hfr2
    · have hz : 0 ≤ u % 128 + 128 ∧ u % 128 + 128 ≤ 255 := by omega
      have OM := Lib.hid (En.or_more' u u0)
      have E1 := Lib.hid (En.leb_big u (by omega))
      have hu' : 128 ≤ u := by omega
      clear hu hz
      go_wp2_with (at_builtin; refine wp_appR rfl (.tmp 10) (.tmp 14) rfl rfl rfl (HR.out.grew ((Below.refl _ _).alloc (Nat.le_refl _) _) (Nat.le_refl _)) (by have := HBS.out; simp; omega) rfl rfl (Bytes.new1 wr _ (by rw [OM.out]; omega) (by rw [OM.out]; omega) _) (Nat.succ_pos _) (by have := HZ.out; simp; omega) ?_; intro A2 cap2 w2 o2 d2; have HO2 := Lib.hid (d2.obj g _ _ _ (alloc_obj HO.out _) (by decide)); obtain ⟨c2, f2⟩ := obj1 HO2.out; have OW := Lib.hid o2; have DW := Lib.hid d2; clear o2 d2)
      go_roundw
      case rel =>
        have hb2 : base ≤ w2.heap.size := by have h1 := HBS.out; have h2 := DW.out.below.size; simp at h2; omega
        have hst := out_stored HO2.out OW.out hb2 (zs.length + 1) (by simp)
        have hfr : But base g w w2 := HB.out.trans ((But.of ((Below.refl _ _).alloc HBS.out _)).trans (But.of DW.out.below))
        refine ⟨u / 128, _, by omega, by omega, rfl, hst.at_, ?_, hfr.trans (But.set base g 0 w2 _)⟩
        rw [← HE.out, E1.out, OM.out, List.append_assoc]; rfl
      case measure => simp [intOf]; omega
set_option maxHeartbeats 400000 in
theorem outI_any (v : Int) (v0 : -9223372036854775808 ≤ v) (v1 : v ≤ 9223372036854775807) (base g : Nat) (xs : List Int) (hl : xs.length ≤ 1000000000) (w : World) (h : OutAt w base g xs) :
    Calls Try.prog 10 #[.pointer (some ⟨g, 0, none⟩), .int .i64 v] w fun e w' => e = .returned (.tuple #[]) ∧ OutPost w base g (xs ++ En.leb (Pl.foldV v)) w' := by
  have hr := Pl.foldV_range v v0 v1
  have F := Lib.hid (fold_any v v0 v1 w)
  have U := Lib.hid (outU_any (Pl.foldV v) hr.1 hr.2 base g xs hl w h)
  clear h hr
  generalize Pl.foldV v = u at *
  go_enter Try.func10, Try.ntmps10
  go_wp2_with fail
  refine F.out.mono ?_; rintro e w' ⟨rfl, rfl⟩
  go_wp2_with fail
  refine U.out.mono ?_; rintro e w' ⟨rfl, hp⟩
  go_wp2
  go_end0
  exact ⟨rfl, hp⟩
theorem strB_eq (s : ByteArray) : strB_ s = En.strB s := rfl
set_option maxHeartbeats 1000000 in
theorem outS_any (s : ByteArray) (hs : s.size ≤ 1000000) (base g : Nat) (xs : List Int) (hl : xs.length ≤ 1000000000) (w : World) (h : OutAt w base g xs) :
    Calls Try.prog 11 #[.pointer (some ⟨g, 0, none⟩), .string s] w fun e w' => e = .returned (.tuple #[]) ∧ OutPost w base g (xs ++ En.putS s) w' := by
  have U := Lib.hid (outU_any (s.size : Int) (by omega) (by omega) base g xs hl w h)
  have LL := Lib.hid (En.leb_len (s.size : Int) (by omega) (by omega))
  clear h
  have hs' : (s.size : Int) ≤ 1000000 := by omega
  have HL := Lib.hid hl
  clear hl
  go_enter Try.func11, Try.ntmps11
  go_wp2_with fail
  refine U.out.mono ?_; rintro e w1 ⟨rfl, hp⟩
  have HP := Lib.hid hp
  obtain ⟨A, cap, ho, hbase, hrow⟩ := hp.1
  clear hp
  obtain ⟨c0, f0⟩ := obj1 ho
  have HO := Lib.hid ho
  have HB := Lib.hid hbase
  have HR := Lib.hid hrow
  clear ho hbase hrow
  have hlen : Hid ((xs ++ En.leb (s.size : Int)).length ≤ 1000000010) := by
    have h1 := HL.out; have h2 := LL.out; show _ ≤ _; rw [List.length_append]; omega
  have hp2 : Hid (En.putS s = En.leb (s.size : Int) ++ strB_ s) := rfl
  have hap : Hid (xs ++ En.putS s = (xs ++ En.leb (s.size : Int)) ++ strB_ s) := by show _ = _; rw [hp2.out, List.append_assoc]
  generalize xs ++ En.leb (s.size : Int) = ys at *
  go_wp2_with (at_builtin; refine wp_app_str rfl (.tmp 13) (.tmp 14) rfl rfl rfl HR.out HB.out rfl (by have := hlen.out; omega) ?_; intro A2 cap2 w2 o2 d2; have HO2 := Lib.hid (d2.obj g _ _ _ HO.out (by decide)); obtain ⟨c2, f2⟩ := obj1 HO2.out; have OW := Lib.hid o2; have DW := Lib.hid d2; clear o2 d2)
  go_end0
  have hb2 : base ≤ w2.heap.size := by have h1 := HB.out; have h2 := DW.out.below.size; omega
  refine ⟨rfl, ?_, ?_⟩
  · rw [hap.out]
    exact out_stored HO2.out OW.out hb2 _ (by simp)
  · exact HP.out.2.trans ((But.of DW.out.below).trans (But.set base g 0 w2 _))
end Go.Proofs.Ythenjipljkphiaa
