/-
  Part 13 of the texts behind the law: StoNames.
-/
import Derived.Test.YtdbhicifjljjnaaGreatDoorMf11
import Derived.Test.YtdbhicifjljjnaaGreatDoorMf12
/-
  Names: the names of the files, sorted, in a new slice.
-/
namespace Go.Proofs.YtdbhicifjljjnaaGreatDoor
open Go.RowKit Go.Maps Go.Sort Go.Shelf St

theorem before_lt : ∀ {a b : List UInt8}, bytesBefore a b = true → a < b
  | [], [], h => by simp [bytesBefore] at h
  | [], _ :: _, _ => by simp
  | _ :: _, [], h => by simp [bytesBefore] at h
  | a :: r, b :: t, h => by
    unfold bytesBefore at h
    rw [List.cons_lt_cons_iff]
    simp only [Bool.or_eq_true, decide_eq_true_eq, Bool.and_eq_true, beq_iff_eq] at h
    rcases h with h | ⟨h1, h2⟩
    · exact .inl h
    · exact .inr ⟨h1, before_lt h2⟩
def mkB (l : List UInt8) : ByteArray := ⟨l.toArray⟩
theorem names_sorted {l : List F} (h : Sorted l) {ss : List (List UInt8)} (hp : ss.Perm (l.map F.nm)) : ss.mergeSort (fun x y => decide (x ≤ y)) = l.map F.nm := by
  have e : ss.mergeSort leB = (l.map F.nm).mergeSort leB := mergeSort_of_perm hp
  refine Eq.trans e (List.mergeSort_of_pairwise (le := leB) ?_)
  refine List.pairwise_map.2 (h.imp fun {f g} hb => ?_)
  simp only [leB, decide_eq_true_eq]
  exact List.le_of_lt (before_lt hb)
def NamesPost (w : World) (l : List F) (e : Ending) (w' : World) : Prop :=
  ∃ A cap ns, Hid (ns = (l.map F.nm).map mkB) ∧ e = .returned (.slice A ns.length cap) ∧ Strs w' w'.heap.size A ns ∧ Below w.heap.size w w'
theorem strs_own {w : World} {base : Nat} {v : Value} {nn : List (List UInt8)} (h : w.ownsRow base 9 1 v nn.length (nn.map Go.Proofs.encStr)) (hs : ∀ x ∈ nn, x.length ≤ 9223372036854775807) :
    ∃ A cap, v = .slice A (nn.map mkB).length cap ∧ Strs w w.heap.size A (nn.map mkB) := by
  have hsz : ∀ i, i < (nn.map mkB).length → ((nn.map mkB).getD i ByteArray.empty).size ≤ 9223372036854775807 := fun i hi => by
    have hi' : i < nn.length := by simpa using hi
    rw [List.getD_eq_getElem?_getD, List.getElem?_map, List.getElem?_eq_getElem hi']
    exact hs _ (List.getElem_mem hi')
  rcases h.2 with ⟨e, e0⟩ | ⟨g, c', cur, e, hb, hg, h1, h2, h3, h4⟩
  · have e1 : nn = [] := List.eq_nil_of_length_eq_zero e0
    subst e1
    exact ⟨none, 0, e, Strs.nil_⟩
  · refine ⟨_, c', by rw [List.length_map]; exact e, hsz, fun hn => ⟨g, 0, rfl, lt_of_block hg, fun i hi => ?_⟩⟩
    have hi' : i < nn.length := by simpa using hi
    rw [cell_of_row w g _ cur _ _ hg, Nat.zero_add]
    have hc : cur.toList[i]? = (nn.map Go.Proofs.encStr)[i]? := by
      rw [← h4, List.getElem?_take_of_lt (by omega)]
    rw [← Array.getElem?_toList, hc, List.getElem?_map, List.getElem?_eq_getElem hi', List.getD_eq_getElem?_getD, List.getElem?_map, List.getElem?_eq_getElem hi']
    rfl
set_option maxHeartbeats 2000000 in
theorem names_any (T : Nat) (own : Nat → Prop) (s : S) (w : World) (h : PState w T own s) :
    Calls Tryz.prog 34 #[.pointer (some ⟨T, 0, none⟩)] w (NamesPost w s.fs) := by
  obtain ⟨Ad, m, ka, kc, p⟩ := h
  obtain ⟨⟨_, c1, _, _, _⟩, _⟩ := obj5 p.obj
  have KC := Lib.hid (fun W => callsIn_wide.1 (Tryz.maps_Keys_49 (some m) W))
  have hc := p.inv.count
  have SC := Lib.hid (callsIn_wide.1 (Tryz.slices_Sorted_keys_48_49 m s.fs.length (dat (elt Ad) s.fs) hld w p.map (by rw [dat_size]; unfold maxLen; omega) (by rw [dat_size]; omega)))
  have SS : Hid (∀ ss : List (List UInt8), ss.Perm (strKeys (dat (elt Ad) s.fs)) → ss.mergeSort (fun x y => decide (x ≤ y)) = s.fs.map F.nm ∧ ss.length = (s.fs.map F.nm).length) := Lib.hid fun ss hp => by
    rw [dat_keys] at hp
    exact ⟨names_sorted p.inv.sorted hp, hp.length_eq⟩
  have HN : Hid (∀ x ∈ s.fs.map F.nm, x.length ≤ 9223372036854775807) := Lib.hid fun x hx => by
    obtain ⟨f, hf, rfl⟩ := List.mem_map.1 hx
    have := good_len (p.inv.names f hf)
    omega
  clear p hc
  go_enter Tryz.func34, Tryz.ntmps34
  go_wp2_with fail
  refine (KC.out _).mono ?_; rintro e w' ⟨rfl, rfl⟩
  go_wp2_with fail
  refine SC.out.mono ?_; rintro e w' ⟨v, ss, rfl, hS, hrow, _, hb⟩
  obtain ⟨e1, e2⟩ := SS.out ss hS
  rw [e1, e2] at hrow
  obtain ⟨A, cap, rfl, hstr⟩ := strs_own hrow HN.out
  have HB := Lib.hid (((Below.refl w.heap.size w).alloc (Nat.le_refl _) _).trans (hb.mono (by simp)))
  have HS := Lib.hid hstr
  clear hrow hstr hb e1 e2 hS
  go_wp2
  go_ret
  exact ⟨A, cap, _, Lib.hid rfl, by simp, HS.out, HB.out⟩
end Go.Proofs.YtdbhicifjljjnaaGreatDoor
