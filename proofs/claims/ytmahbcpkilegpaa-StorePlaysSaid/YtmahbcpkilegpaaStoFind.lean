/-
  find at every store, every name and at most one further name.
-/
import Derived.Test.YtmahbcpkilegpaaStoPut
import Derived.Test.YtmahbcpkilegpaaStoName
namespace Go.Proofs.Ytmahbcpkilegpaa
open Go.RowKit St

/-! ### An append of one name -/
theorem str_info : (Try.prog.info? 9).map (fun i => (i.zero, i.size, i.bytes)) = some (some (.string ⟨#[]⟩), 1, 16) := by kernel_rfl
theorem strs_cells {w : World} {B : Nat} {ad : Addr} {ls : List ByteArray} (h : Strs w B (some ad) ls) : ∀ j u, (ls.map Value.string)[j]? = some u → w.cell? (ad.add j) = some u := fun j u hu => by
  rw [List.getElem?_map] at hu
  obtain ⟨z, hz1, rfl⟩ := Option.map_eq_some_iff.1 hu
  have hj : j < ls.length := (List.getElem?_eq_some_iff.1 hz1).1
  obtain ⟨b, off, e, _, hc⟩ := h.2 (by omega)
  injection e with e
  subst e
  rw [add_off, hc j hj, List.getD_eq_getElem?_getD, hz1]
  rfl
theorem strs_row {w : World} {base n : Nat} {v : Value} {ls : List ByteArray} (hn : n = ls.length) (h : w.ownsRow base 9 1 v n (ls.map Value.string)) (hs : ∀ x ∈ ls, x.size ≤ 9223372036854775807) : ∃ A cap, v = .slice A ls.length cap ∧ Strs w w.heap.size A ls := by
  subst hn
  have hsz : ∀ i, i < ls.length → (ls.getD i ByteArray.empty).size ≤ 9223372036854775807 := fun i hi => by
    rw [List.getD_eq_getElem?_getD, List.getElem?_eq_getElem hi]
    exact hs _ (List.getElem_mem hi)
  rcases h.2 with ⟨e, e0⟩ | ⟨g, c', cur, e, hb, hg, h1, h2, h3, h4⟩
  · have e1 : ls = [] := List.eq_nil_of_length_eq_zero e0
    subst e1
    exact ⟨none, 0, e, Strs.nil_⟩
  · refine ⟨_, c', e, hsz, fun hn => ⟨g, 0, rfl, lt_of_block hg, fun i hi => ?_⟩⟩
    rw [cell_of_row w g _ cur _ _ hg, Nat.zero_add]
    have hc : cur.toList[i]? = (ls.map Value.string)[i]? := by rw [← h4, List.getElem?_take_of_lt (by omega)]
    rw [← Array.getElem?_toList, hc, List.getElem?_map, List.getElem?_eq_getElem hi, List.getD_eq_getElem?_getD, List.getElem?_eq_getElem hi]
    rfl
/-- What a slice of names may be that a name is appended to: nil, or full. -/
def Full (w : World) (A : Option Addr) (cap : Nat) (ls : List ByteArray) : Prop := (A = none ∧ ls = [] ∧ cap = 0) ∨ (cap = ls.length ∧ 0 < ls.length ∧ Strs w w.heap.size A ls)
theorem strs_mem {w : World} {B : Nat} {A : Option Addr} {ls : List ByteArray} (h : Strs w B A ls) : ∀ x ∈ ls, x.size ≤ 9223372036854775807 := fun x hx => by
  obtain ⟨i, hi, e⟩ := List.getElem_of_mem hx
  have := h.1 i hi
  rw [List.getD_eq_getElem?_getD, List.getElem?_eq_getElem hi] at this
  rw [← e]; exact this
theorem run_appS {w : World} {A : Option Addr} {cap : Nat} {ls : List ByteArray} (h : Full w A cap ls) {B b2 : Nat} {sn : ByteArray} (hx : Strs w B (some ⟨b2, 0, none⟩) [sn]) (c : Nat) (hl : ls.length ≤ 100) (ty : TypeId) :
    ∃ A' cap' w', (Builtin.append_ #[32, 32] ty #[.slice A ls.length cap, .slice (some ⟨b2, 0, none⟩) 1 c]).run Try.prog w = .ok (.slice A' (ls ++ [sn]).length cap') w' ∧ Strs w' w'.heap.size A' (ls ++ [sn]) ∧ Below w.heap.size w w' := by
  obtain ⟨i, hi, hz, hs, hy⟩ := info_parts str_info
  have hsn := strs_mem hx sn (by simp)
  rcases h with ⟨rfl, rfl, rfl⟩ | ⟨hc, hp, hls⟩
  · obtain ⟨v', w', hrun, hown, hg, _, _⟩ := run_append_own_at (P := Try.prog) (w := w) w.heap.size 32 ty 9 i _ 1 16 Try.underlying32 hi hz hs hy rfl (by decide)
      _ 0 _ (World.ownsRow_nil w w.heap.size 9 1) ⟨b2, 0, none⟩ 1 c [.string sn] (by simp) (strs_cells hx) (fun u hu => by simp at hu; subst hu; rfl) (by unfold maxLen; omega) (by omega) (Nat.le_refl _)
    obtain ⟨A', cap', rfl, hst⟩ := strs_row (ls := [sn]) (by simp) hown (by simp; exact hsn)
    exact ⟨A', cap', w', hrun, hst, (Below.refl _ _).grown hg (Nat.le_refl _) (fun j hj => by cases hj)⟩
  · obtain ⟨g, off, rfl, _, _⟩ := hls.2 hp
    obtain ⟨v', w', hrun, hown, hg⟩ := run_append_arg_grows (P := Try.prog) w 32 ty 9 i _ 1 16 Try.underlying32 hi hz hs hy rfl (by decide)
      ⟨g, off, none⟩ ls.length cap (ls.map Value.string) (by simp) (strs_cells hls) ⟨b2, 0, none⟩ 1 c [.string sn] (by simp) (strs_cells hx) (by omega) (by unfold maxLen; omega) (by omega)
    have e : ls.map Value.string ++ [.string sn] = (ls ++ [sn]).map Value.string := by simp
    rw [e] at hown
    obtain ⟨A', cap', rfl, hst⟩ := strs_row (ls := ls ++ [sn]) (by simp) hown (fun x hx' => by
      rw [List.mem_append] at hx'
      rcases hx' with h1 | h1
      · exact strs_mem hls x h1
      · simp at h1; subst h1; exact hsn)
    exact ⟨A', cap', w', hrun, hst, (Below.refl _ _).grown hg (Nat.le_refl _) (fun j hj => by cases hj)⟩
theorem wp_appS {w : World} {ops : Array Oper} {rest : List Oper} {o : Oper} {a : Act} {Q : Exit → Act → World → Prop} (hgd : o.guard = none) (s x : Operand)
    (ho : o.op = .call { callee := .builtin .append, args := #[s, x], argTypes := #[32, 32] })
    {A : Option Addr} {n cap : Nat} {ls : List ByteArray} (hs : a.eval s = .slice A n cap) (hn : n = ls.length) (h : Full w A cap ls) {B b2 c : Nat} {sn : ByteArray} (hx : a.eval x = .slice (some ⟨b2, 0, none⟩) 1 c) (hb : Strs w B (some ⟨b2, 0, none⟩) [sn]) (hlen : ls.length ≤ 100)
    (K : ∀ A' cap' w', Strs w' w'.heap.size A' (ls ++ [sn]) → Below w.heap.size w w' → wpList Try.prog ops Q rest (a.put o.dst (.slice A' (ls ++ [sn]).length cap')) w') :
    wpList Try.prog ops Q (o :: rest) a w := by
  subst hn
  obtain ⟨A', cap', w', hrun, h1, h2⟩ := run_appS h hb c hlen o.type
  refine wpList_plain hgd fun K' hK => ?_
  unfold Oper.wp
  simp [execOp, ho, resolve, invoke, builtin, hs, hx, hrun, Result.andThen]
  have hk := K A' cap' w' h1 h2
  rw [List.length_append, List.length_singleton] at hk
  exact hK _ _ hk
theorem Strs.new1 (w : World) (sn : ByteArray) (h : sn.size ≤ 9223372036854775807) (fr : Nat × Nat) : Strs (w.alloc (.cells #[.string sn] 9 fr)) (w.heap.size + 1) (some ⟨w.heap.size, 0, none⟩) [sn] := by
  refine ⟨fun i hi => ?_, fun _ => ⟨w.heap.size, 0, rfl, by omega, fun i hi => ?_⟩⟩
  · simp at hi; subst hi; exact h
  · simp at hi; subst hi
    rw [Nat.zero_add, World.cell?_alloc_mark]
    simp
theorem Strs.new1_at (w : World) (n : Nat) (hn : n = w.heap.size) (sn : ByteArray) (h : sn.size ≤ 9223372036854775807) (fr : Nat × Nat) : Strs (w.alloc (.cells #[.string sn] 9 fr)) (n + 1) (some ⟨n, 0, none⟩) [sn] := by subst hn; exact Strs.new1 w sn h fr
theorem Full.grow {w w' : World} {A : Option Addr} {cap : Nat} {ls : List ByteArray} (h : Full w A cap ls) (hb : Below w.heap.size w w') : Full w' A cap ls := by
  rcases h with h | ⟨h1, h2, h3⟩
  · exact .inl h
  · refine .inr ⟨h1, h2, h3.1, fun hn => ?_⟩
    obtain ⟨b, off, e, hl, hc⟩ := h3.2 hn
    exact ⟨b, off, e, by have := hb.size; omega, fun i hi => (hb.cell (p := ⟨b, _, none⟩) hl).trans (hc i hi)⟩

/-! ### find -/
def FindPost (w : World) (v : Value) (er : Int) (e : Ending) (w' : World) : Prop := e = .returned (.tuple #[v, .int .i64 er]) ∧ Below w.heap.size w w'
set_option maxHeartbeats 4000000 in
theorem find_bad (T : Nat) (own : Nat → Prop) (s : S) (Ad : List UInt8 → Option Addr × Nat) (m : Nat) (ka : Option Addr) (kc : Nat) (sn : ByteArray) (hsn : sn.size ≤ 9223372036854775807) (A : Option Addr) (n cap : Nat) (ls : List ByteArray) (hn : n = ls.length) (hl : ls.length ≤ 50) (w : World) (p : PS w T own s Ad m ka kc) (hf : Full w A cap ls)
    (er : Int) (her : chk s ((ls ++ [sn]).map bs) = er) (hne : (er == 0) = false) :
    Calls Try.prog 38 #[.pointer (some ⟨T, 0, none⟩), .string sn, .slice A n cap] w (FindPost w zeroF er) := by
  have FW : Hid (∀ o o2, Full ((w.alloc o).alloc o2) A cap ls) := Lib.hid fun o o2 => hf.grow (((Below.refl _ _).alloc (Nat.le_refl _) _).alloc (by simp) _)
  have B2 : Hid (∀ o o2, Below w.heap.size w ((w.alloc o).alloc o2)) := Lib.hid fun o o2 => ((Below.refl _ _).alloc (Nat.le_refl _) _).alloc (by simp) _
  have TL := Lib.hid (p.lt T p.ownT)
  have HP := Lib.hid p
  have HS := Lib.hid hsn
  have HN := Lib.hid hn
  have HL := Lib.hid hl
  have HE := Lib.hid her
  clear p hf hsn hn hl her
  go_enter Try.func38, Try.ntmps38
  go_wp2_with (at_builtin; refine wp_appS rfl (.tmp 12) (.tmp 14) rfl rfl HN.out (FW.out _ _) (by rfl) (Strs.new1_at _ _ (by simp) sn HS.out _) (by have := HL.out; omega) ?_; intro A2 c2 w2 o2 d2; have O2 := Lib.hid o2; have D2 := Lib.hid ((B2.out _ _).trans (d2.mono (by simp; omega))); have R2 : Hid (w2.heap[w.heap.size]? = some (.cells #[.slice none 0 0, .int .i64 0] 64 (0, 0))) := Lib.hid ((d2.block _ (by simp; omega)).trans (by rw [Below.heap_alloc _ _ _ (by simp)]; exact heap_alloc_new w _)); clear o2 d2)
  have CK := Lib.hid (check_any T s A2 (ls ++ [sn]) c2 (by have := HL.out; simp; omega) w2 (obj5 (HP.out.grow D2.out).obj).1.2.2.1 O2.out)
  rw [List.length_append, List.length_singleton, HE.out] at CK
  refine CK.out.mono ?_; rintro e w3 ⟨rfl, h3⟩
  have D3 := Lib.hid (D2.out.trans (h3.mono D2.out.size))
  have R3 := Lib.hid ((h3.block _ (lt_of_block R2.out)).trans R2.out)
  clear h3
  obtain ⟨⟨y0, y1⟩, f0, f1⟩ := obj2 R3.out
  go_wp2
  have S1 := Lib.hid (obj_set (o := 0) R3.out (.slice none 0 0))
  have S2 := Lib.hid (obj_set (o := 1) S1.out (.int .i64 0))
  obtain ⟨q0, q1⟩ := (obj2 S2.out).1
  exact bodyPost_ret (v := .tuple #[.agg #[.slice none 0 0, .int .i64 0], .int .i64 er]) (by simp [results, Try.results38, go_sem, q0, q1]) rfl
    ⟨rfl, ((D3.out).setCell (p := ⟨w.heap.size, 0, none⟩) (Nat.le_refl _) _).setCell (p := ⟨w.heap.size, 1, none⟩) (Nat.le_refl _) _⟩
set_option maxHeartbeats 4000000 in
theorem find_none (T : Nat) (own : Nat → Prop) (s : S) (Ad : List UInt8 → Option Addr × Nat) (m : Nat) (ka : Option Addr) (kc : Nat) (sn : ByteArray) (hsn : sn.size ≤ 9223372036854775807) (A : Option Addr) (n cap : Nat) (ls : List ByteArray) (hn : n = ls.length) (hl : ls.length ≤ 50) (w : World) (p : PS w T own s Ad m ka kc) (hf : Full w A cap ls)
    (her : chk s ((ls ++ [sn]).map bs) = 0) (hfi : find (bs sn) s.fs = none) :
    Calls Try.prog 38 #[.pointer (some ⟨T, 0, none⟩), .string sn, .slice A n cap] w (FindPost w zeroF 4) := by
  have FW : Hid (∀ o o2, Full ((w.alloc o).alloc o2) A cap ls) := Lib.hid fun o o2 => hf.grow (((Below.refl _ _).alloc (Nat.le_refl _) _).alloc (by simp) _)
  have B2 : Hid (∀ o o2, Below w.heap.size w ((w.alloc o).alloc o2)) := Lib.hid fun o o2 => ((Below.refl _ _).alloc (Nat.le_refl _) _).alloc (by simp) _
  have TL := Lib.hid (p.lt T p.ownT)
  have HP := Lib.hid p
  have HS := Lib.hid hsn
  have HN := Lib.hid hn
  have HL := Lib.hid hl
  have HE := Lib.hid her
  have HFI := Lib.hid hfi
  clear hfi
  clear p hf hsn hn hl her
  go_enter Try.func38, Try.ntmps38
  go_wp2_with (at_builtin; refine wp_appS rfl (.tmp 12) (.tmp 14) rfl rfl HN.out (FW.out _ _) (by rfl) (Strs.new1_at _ _ (by simp) sn HS.out _) (by have := HL.out; omega) ?_; intro A2 c2 w2 o2 d2; have O2 := Lib.hid o2; have D2 := Lib.hid ((B2.out _ _).trans (d2.mono (by simp; omega))); have R2 : Hid (w2.heap[w.heap.size]? = some (.cells #[.slice none 0 0, .int .i64 0] 64 (0, 0))) := Lib.hid ((d2.block _ (by simp; omega)).trans (by rw [Below.heap_alloc _ _ _ (by simp)]; exact heap_alloc_new w _)); clear o2 d2)
  have CK := Lib.hid (check_any T s A2 (ls ++ [sn]) c2 (by have := HL.out; simp; omega) w2 (obj5 (HP.out.grow D2.out).obj).1.2.2.1 O2.out)
  rw [List.length_append, List.length_singleton, HE.out] at CK
  refine CK.out.mono ?_; rintro e w3 ⟨rfl, h3⟩
  have D3 := Lib.hid (D2.out.trans (h3.mono D2.out.size))
  have R3 := Lib.hid ((h3.block _ (lt_of_block R2.out)).trans R2.out)
  clear h3
  obtain ⟨⟨y0, y1⟩, f0, f1⟩ := obj2 R3.out
  have PM := Lib.hid ((HP.out.grow D3.out).map)
  have TO := Lib.hid (HP.out.grow D3.out).obj
  obtain ⟨⟨_, c1, _, _, _⟩, _⟩ := obj5 TO.out
  have LW : Hid (w3.heap.size ≠ w.heap.size) := Lib.hid (by have := lt_of_block R3.out; omega)
  have R4 : Hid ((w3.alloc (.cells #[.slice none 0 0, .int .i64 0] 64)).heap[w.heap.size]? = some (.cells #[.slice none 0 0, .int .i64 0] 64 (0, 0))) := Lib.hid (by rw [Below.heap_alloc _ _ _ (lt_of_block R3.out)]; exact R3.out)
  obtain ⟨⟨z0, z1⟩, g0, g1⟩ := obj2 R4.out
  go_wp2_with (first
    | (at_lookup; refine wp_look2 rfl _ _ rfl rfl PM.out rfl HS.out (.agg #[.slice none 0 0, .int .i64 0]) (by rw [HFI.out]; rfl) false (by rw [HFI.out]; rfl) ?_)
    | go_in)
  have S1 := Lib.hid (obj_set (o := 0) R4.out (.slice none 0 0))
  have S2 := Lib.hid (obj_set (o := 1) S1.out (.int .i64 0))
  obtain ⟨q0, q1⟩ := (obj2 S2.out).1
  exact bodyPost_ret (v := .tuple #[.agg #[.slice none 0 0, .int .i64 0], .int .i64 4]) (by simp [results, Try.results38, go_sem, q0, q1]) rfl
    ⟨rfl, ((D3.out.alloc D3.out.size _).setCell (p := ⟨w.heap.size, 0, none⟩) (Nat.le_refl _) _).setCell (p := ⟨w.heap.size, 1, none⟩) (Nat.le_refl _) _⟩
set_option maxHeartbeats 4000000 in
theorem find_some_any (T : Nat) (own : Nat → Prop) (s : S) (Ad : List UInt8 → Option Addr × Nat) (m : Nat) (ka : Option Addr) (kc : Nat) (sn : ByteArray) (hsn : sn.size ≤ 9223372036854775807) (A : Option Addr) (n cap : Nat) (ls : List ByteArray) (hn : n = ls.length) (hl : ls.length ≤ 50) (w : World) (p : PS w T own s Ad m ka kc) (hf : Full w A cap ls)
    (her : chk s ((ls ++ [sn]).map bs) = 0) (f : F) (hfi : find (bs sn) s.fs = some f) :
    Calls Try.prog 38 #[.pointer (some ⟨T, 0, none⟩), .string sn, .slice A n cap] w (FindPost w (elt Ad f) 0) := by
  have FW : Hid (∀ o o2, Full ((w.alloc o).alloc o2) A cap ls) := Lib.hid fun o o2 => hf.grow (((Below.refl _ _).alloc (Nat.le_refl _) _).alloc (by simp) _)
  have B2 : Hid (∀ o o2, Below w.heap.size w ((w.alloc o).alloc o2)) := Lib.hid fun o o2 => ((Below.refl _ _).alloc (Nat.le_refl _) _).alloc (by simp) _
  have TL := Lib.hid (p.lt T p.ownT)
  have HP := Lib.hid p
  have HS := Lib.hid hsn
  have HN := Lib.hid hn
  have HL := Lib.hid hl
  have HE := Lib.hid her
  have HFI := Lib.hid hfi
  clear hfi
  clear p hf hsn hn hl her
  go_enter Try.func38, Try.ntmps38
  go_wp2_with (at_builtin; refine wp_appS rfl (.tmp 12) (.tmp 14) rfl rfl HN.out (FW.out _ _) (by rfl) (Strs.new1_at _ _ (by simp) sn HS.out _) (by have := HL.out; omega) ?_; intro A2 c2 w2 o2 d2; have O2 := Lib.hid o2; have D2 := Lib.hid ((B2.out _ _).trans (d2.mono (by simp; omega))); have R2 : Hid (w2.heap[w.heap.size]? = some (.cells #[.slice none 0 0, .int .i64 0] 64 (0, 0))) := Lib.hid ((d2.block _ (by simp; omega)).trans (by rw [Below.heap_alloc _ _ _ (by simp)]; exact heap_alloc_new w _)); clear o2 d2)
  have CK := Lib.hid (check_any T s A2 (ls ++ [sn]) c2 (by have := HL.out; simp; omega) w2 (obj5 (HP.out.grow D2.out).obj).1.2.2.1 O2.out)
  rw [List.length_append, List.length_singleton, HE.out] at CK
  refine CK.out.mono ?_; rintro e w3 ⟨rfl, h3⟩
  have D3 := Lib.hid (D2.out.trans (h3.mono D2.out.size))
  have R3 := Lib.hid ((h3.block _ (lt_of_block R2.out)).trans R2.out)
  clear h3
  obtain ⟨⟨y0, y1⟩, f0, f1⟩ := obj2 R3.out
  have PM := Lib.hid ((HP.out.grow D3.out).map)
  have TO := Lib.hid (HP.out.grow D3.out).obj
  obtain ⟨⟨_, c1, _, _, _⟩, _⟩ := obj5 TO.out
  have LW : Hid (w3.heap.size ≠ w.heap.size) := Lib.hid (by have := lt_of_block R3.out; omega)
  have R4 : Hid ((w3.alloc (.cells #[.slice (Ad f.nm).1 f.zs.length (Ad f.nm).2, .int .i64 (f.sure : Int)] 64)).heap[w.heap.size]? = some (.cells #[.slice none 0 0, .int .i64 0] 64 (0, 0))) := Lib.hid (by rw [Below.heap_alloc _ _ _ (lt_of_block R3.out)]; exact R3.out)
  obtain ⟨⟨z0, z1⟩, g0, g1⟩ := obj2 R4.out
  go_wp2_with (first
    | (at_lookup; refine wp_look2 rfl _ _ rfl rfl PM.out rfl HS.out (.agg #[.slice (Ad f.nm).1 f.zs.length (Ad f.nm).2, .int .i64 (f.sure : Int)]) (by rw [HFI.out]; rfl) true (by rw [HFI.out]; rfl) ?_)
    | go_in)
  have S1 := Lib.hid (obj_set (o := 0) R4.out (.slice (Ad f.nm).1 f.zs.length (Ad f.nm).2))
  have S2 := Lib.hid (obj_set (o := 1) S1.out (.int .i64 (f.sure : Int)))
  obtain ⟨q0, q1⟩ := (obj2 S2.out).1
  exact bodyPost_ret (v := .tuple #[.agg #[.slice (Ad f.nm).1 f.zs.length (Ad f.nm).2, .int .i64 (f.sure : Int)], .int .i64 0]) (by simp [results, Try.results38, go_sem, q0, q1]) rfl
    ⟨rfl, ((D3.out.alloc D3.out.size _).setCell (p := ⟨w.heap.size, 0, none⟩) (Nat.le_refl _) _).setCell (p := ⟨w.heap.size, 1, none⟩) (Nat.le_refl _) _⟩
theorem find_err (T : Nat) (own : Nat → Prop) (s : S) (Ad : List UInt8 → Option Addr × Nat) (m : Nat) (ka : Option Addr) (kc : Nat) (sn : ByteArray) (hsn : sn.size ≤ 9223372036854775807) (A : Option Addr) (n cap : Nat) (ls : List ByteArray) (hn : n = ls.length) (hl : ls.length ≤ 50) (w : World) (p : PS w T own s Ad m ka kc) (hf : Full w A cap ls)
    (er : Int) (her : fnd s (bs sn) ((ls ++ [sn]).map bs) = er) (hne : er ≠ 0) :
    Calls Try.prog 38 #[.pointer (some ⟨T, 0, none⟩), .string sn, .slice A n cap] w (FindPost w (.agg #[.slice none 0 0, .int .i64 0]) er) := by
  unfold fnd at her
  split at her
  · next hc => exact find_bad T own s Ad m ka kc sn hsn A n cap ls hn hl w p hf er her (by rw [beq_eq_false_iff_ne]; exact hne)
  · next hc =>
    have hc : chk s ((ls ++ [sn]).map bs) = 0 := by simpa using hc
    cases hfi : find (bs sn) s.fs with
    | none =>
      rw [hfi] at her
      have : er = 4 := by simpa using her.symm
      subst this
      exact find_none T own s Ad m ka kc sn hsn A n cap ls hn hl w p hf hc hfi
    | some f =>
      rw [hfi] at her
      exact absurd (by simpa using her.symm) hne
theorem find_ok (T : Nat) (own : Nat → Prop) (s : S) (Ad : List UInt8 → Option Addr × Nat) (m : Nat) (ka : Option Addr) (kc : Nat) (sn : ByteArray) (hsn : sn.size ≤ 9223372036854775807) (A : Option Addr) (n cap : Nat) (ls : List ByteArray) (hn : n = ls.length) (hl : ls.length ≤ 50) (w : World) (p : PS w T own s Ad m ka kc) (hf : Full w A cap ls)
    (her : fnd s (bs sn) ((ls ++ [sn]).map bs) = 0) :
    ∃ f, find (bs sn) s.fs = some f ∧ Calls Try.prog 38 #[.pointer (some ⟨T, 0, none⟩), .string sn, .slice A n cap] w (FindPost w (.agg #[.slice (Ad f.nm).1 f.zs.length (Ad f.nm).2, .int .i64 (f.sure : Int)]) 0) := by
  unfold fnd at her
  split at her
  · next hc => exact absurd her hc
  · next hc =>
    have hc : chk s ((ls ++ [sn]).map bs) = 0 := by simpa using hc
    cases hfi : find (bs sn) s.fs with
    | none => rw [hfi] at her; simp at her
    | some f => exact ⟨f, rfl, find_some_any T own s Ad m ka kc sn hsn A n cap ls hn hl w p hf hc f hfi⟩
end Go.Proofs.Ytmahbcpkilegpaa
