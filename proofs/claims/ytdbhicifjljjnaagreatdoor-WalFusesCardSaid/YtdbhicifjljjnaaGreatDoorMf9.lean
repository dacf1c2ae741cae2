/-
  Part 9 of the texts behind the law: StoMap.
-/
import Derived.Test.YtdbhicifjljjnaaGreatDoorMf8
import Derived.Test.YtdbhicifjljjnaaGreatDoorMf4
import Derived.Maps.RangeWalk
import Derived.Sort.KeysCollected
/-
  The map of the files: a map from names to struct values, told by a list of files sorted by their names and by what each file's value is.
-/
namespace Go.Proofs.YtdbhicifjljjnaaGreatDoor
open Go.RowKit Go.Maps St

/-- How an element of the map reads: as itself. -/
def hld : Value → Option (DataW Value × List MemPlace) := fun v => some (.held v, [])
def ent (E : F → Value) (f : F) : Lit × DataW Value := (.string f.nm, .held (E f))
def dat (E : F → Value) (l : List F) : DataW Value := .map (l.map (ent E))
def bs (s : ByteArray) : List UInt8 := s.data.toList
theorem bs_len (s : ByteArray) : (bs s).length = s.size := Array.length_toList
theorem bs_mk (l : List UInt8) : bs ⟨l.toArray⟩ = l := by simp [bs]
theorem mk_bs (s : ByteArray) : (⟨(bs s).toArray⟩ : ByteArray) = s := by simp [bs]
def zeroF : Value := .agg #[.slice none 0 0, .int .i64 0]
def valO (E : F → Value) (o : Option F) : Value := match o with | some f => E f | none => zeroF

theorem same_str (a b : List UInt8) : (Lit.string a).sameKey (.string b) = (a == b) := rfl
theorem dat_has (E : F → Value) (l : List F) (nm : List UInt8) : Maps.has (dat E l) (.string nm) = (find nm l).isSome := by
  show (l.map (ent E)).any _ = _
  rw [List.any_map]
  unfold find
  induction l with
  | nil => rfl
  | cons a r ih =>
    rw [List.any_cons, List.find?_cons]
    show (((a.nm == nm) || _) : Bool) = _
    cases h : (a.nm == nm)
    · simpa using ih
    · simp
theorem dat_at (E : F → Value) (l : List F) (nm : List UInt8) (z : Value) : (dat E l).atKey (.string nm) (.held z) = .held (match find nm l with | some f => E f | none => z) := by
  unfold dat DataW.atKey find
  simp only
  induction l with
  | nil => rfl
  | cons a r ih =>
    rw [List.map_cons, List.find?_cons, List.find?_cons]
    have e : (ent E a).1.sameKey (Lit.string nm) = (a.nm == nm) := rfl
    rw [e]
    cases h : (a.nm == nm)
    · exact ih
    · rfl
theorem dat_size (E : F → Value) (l : List F) : Maps.size (dat E l) = l.length := by simp [dat, Maps.size]
theorem dat_keys (E : F → Value) (l : List F) : strKeys (dat E l) = l.map F.nm := by
  show (l.map (ent E)).map _ = _
  rw [List.map_map]; rfl
theorem dat_del (E : F → Value) (l : List F) (nm : List UInt8) : (dat E l).del (.string nm) = dat E (del nm l) := by
  unfold dat DataW.del del
  simp only
  rw [List.filter_map]
  rfl
theorem insert_ent (E : F → Value) (f : F) : ∀ l : List F, DataW.insert (ent E f) (l.map (ent E)) = (ins f l).map (ent E)
  | [] => rfl
  | a :: r => by
    rw [List.map_cons]
    unfold DataW.insert ins
    show (if bytesBefore f.nm a.nm = true then _ else _) = _
    split
    · rfl
    · rw [insert_ent E f r]; rfl
theorem dat_put (E E' : F → Value) (l : List F) (f : F) (hE : ∀ g ∈ del f.nm l, E' g = E g) : (dat E l).put (.string f.nm) (.held (E' f)) = dat E' (put f l) := by
  unfold dat DataW.put
  simp only
  have e : (l.map (ent E)).filter (fun p => !p.1.sameKey (.string f.nm)) = (del f.nm l).map (ent E') := by
    rw [List.filter_map]
    have : (List.filter ((fun p : Lit × DataW Value => !p.1.sameKey (.string f.nm)) ∘ ent E) l) = del f.nm l := rfl
    rw [this]
    exact List.map_congr_left fun g hg => by unfold ent; rw [hE g hg]
  rw [e]
  exact congrArg _ (insert_ent E' f (del f.nm l))
theorem dat_congr {E E' : F → Value} {l : List F} (h : ∀ f ∈ l, E' f = E f) : dat E' l = dat E l := by
  unfold dat
  exact congrArg _ (List.map_congr_left fun g hg => by unfold ent; rw [h g hg])

theorem key_law : Keyed Tryz.prog 9 := string_keyed Tryz.underlying9
theorem zero_file (w : World) : (zeroValue 80).run Tryz.prog w = .ok zeroF w := by kernel_rfl

/-- Block m is the map of the files l, each told by E. -/
def PMap (w : World) (m : Nat) (E : F → Value) (l : List F) : Prop := w.ownsMap Tryz.prog 9 hld m l.length (dat E l)
theorem PMap.of {w : World} {m n : Nat} {E : F → Value} {l : List F} (h : w.ownsMap Tryz.prog 9 hld m n (dat E l)) : PMap w m E l := by
  obtain ⟨es, clock, hb, hF, hs, hD⟩ := h
  refine ⟨es, clock, hb, hF, ?_, hD⟩
  have e := congrArg Maps.size hD
  rw [dat_size] at e
  simp [Maps.size, length_sorted] at e
  omega
theorem PMap.lt {w : World} {m : Nat} {E : F → Value} {l : List F} (h : PMap w m E l) : m < w.heap.size := World.ownsMap.lt h
theorem PMap.keep {w w' : World} {m : Nat} {E : F → Value} {l : List F} (h : PMap w m E l) (hk : w'.heap[m]? = w.heap[m]?) : PMap w' m E l := by
  obtain ⟨es, clock, hb, r⟩ := h
  exact ⟨es, clock, hk.trans hb, r⟩
theorem PMap.ne {w : World} {m : Nat} {E : F → Value} {l : List F} (h : PMap w m E l) {g : Nat} {cs : Array Value} {t : TypeId} {fz : Nat × Nat} (hg : w.heap[g]? = some (.cells cs t fz)) : g ≠ m := by
  rintro rfl
  obtain ⟨es, clock, hb, _⟩ := h
  rw [hg] at hb; cases hb
theorem PMap.congr {w : World} {m : Nat} {E E' : F → Value} {l : List F} (h : PMap w m E l) (he : ∀ f ∈ l, E' f = E f) : PMap w m E' l := by
  unfold PMap; rw [dat_congr he]; exact h
theorem pmap_made (w : World) (E : F → Value) : PMap (w.alloc (.map #[] 0)) w.heap.size E [] := World.ownsMap_made w _ _ _
theorem key_of (s : ByteArray) (h : s.size ≤ 9223372036854775807) : keyOf Tryz.prog 9 (.string s) = some (.string (bs s)) := WideMaps.keyOf_string_mk Tryz.underlying9 h
theorem PMap.look {w : World} {m : Nat} {E : F → Value} {l : List F} (h : PMap w m E l) (s : ByteArray) (hs : s.size ≤ 9223372036854775807) :
    (Instr.lookup 60 (.map (some m)) (.string s) false).run Tryz.prog w = .ok (valO E (find (bs s) l)) w := by
  obtain ⟨v, ps, hr, hv⟩ := World.ownsMap.lookup h key_law Tryz.underlying60 (zero_file w) (zd := .held zeroF) rfl (key_of s hs)
  rw [hr]
  rw [dat_at] at hv
  simp [hld] at hv
  rw [hv.1]
  cases find (bs s) l <;> rfl
theorem PMap.look2 {w : World} {m : Nat} {E : F → Value} {l : List F} (h : PMap w m E l) (s : ByteArray) (hs : s.size ≤ 9223372036854775807) :
    (Instr.lookup 60 (.map (some m)) (.string s) true).run Tryz.prog w = .ok (.tuple #[valO E (find (bs s) l), .bool (find (bs s) l).isSome]) w := by
  obtain ⟨v, ps, hr, hv⟩ := World.ownsMap.look_ok h key_law Tryz.underlying60 (zero_file w) (zd := .held zeroF) rfl (key_of s hs)
  rw [hr, dat_has]
  rw [dat_at] at hv
  simp [hld] at hv
  rw [hv.1]
  cases find (bs s) l <;> rfl
theorem PMap.len {w : World} {m : Nat} {E : F → Value} {l : List F} (h : PMap w m E l) (ty : TypeId) : (Builtin.len_ #[60] ty #[.map (some m)]).run Tryz.prog w = .ok (.int .i64 (l.length : Int)) w := by
  have := World.ownsMap.len h Tryz.underlying60 ty
  rw [dat_size] at this
  exact this
theorem PMap.store {w : World} {m : Nat} {E E' : F → Value} {l : List F} (h : PMap w m E l) (hn : l.length ≤ 1000000) (f : F) (s : ByteArray) (hs : s.size ≤ 9223372036854775807) (hf : bs s = f.nm) (v : Value) (hv : v = E' f) (hE : ∀ g ∈ del f.nm l, E' g = E g) :
    ∃ w', (Instr.mapUpdate 60 (.map (some m)) (.string s) v).run Tryz.prog w = .ok () w' ∧ PMap w' m E' (put f l) ∧ w.mapTurned w' m := by
  subst hv
  obtain ⟨w', hr, ho, ht⟩ := World.ownsMap.store h key_law Tryz.underlying60 (by unfold maxLen; omega) (key_of s hs) (d := .held (E' f)) (ps := []) rfl
  rw [hf, dat_put E E' l f hE] at ho
  exact ⟨w', hr, PMap.of ho, ht⟩
theorem PMap.drop {w : World} {m : Nat} {E : F → Value} {l : List F} (h : PMap w m E l) (s : ByteArray) (hs : s.size ≤ 9223372036854775807) (ty : TypeId) :
    ∃ w', (Builtin.delete_ #[60, 9] ty #[.map (some m), .string s]).run Tryz.prog w = .ok (.tuple #[]) w' ∧ PMap w' m E (del (bs s) l) ∧ w.mapTurned w' m := by
  obtain ⟨w', hr, ho, ht⟩ := World.ownsMap.drop h key_law Tryz.underlying60 (key_of s hs) ty
  rw [dat_del] at ho
  exact ⟨w', hr, PMap.of ho, ht⟩
theorem turned_frame {w w' : World} {m : Nat} (h : w.mapTurned w' m) : w'.os = w.os ∧ w'.tape = w.tape ∧ w'.output = w.output ∧ w'.heap.size = w.heap.size ∧ ∀ i, i ≠ m → w'.heap[i]? = w.heap[i]? := by
  obtain ⟨es, clock, es', clock', hb, rfl⟩ := h
  exact ⟨rfl, rfl, rfl, by simp [ChangeMaps.setBlock], fun i hi => ChangeMaps.heap_setBlock_other hb _ hi⟩

/-! At the operation, for a walk and for a region. -/
theorem wp_look {w : World} {ops : Array Oper} {rest : List Oper} {o : Oper} {a : Act} {Q : Exit → Act → World → Prop} (hgd : o.guard = none) (mo x : Operand) (hop : o.op = Op.lookup 60 mo x false)
    {m : Nat} {E : F → Value} {l : List F} (hm : a.eval mo = .map (some m)) (h : PMap w m E l) {s : ByteArray} (hx : a.eval x = .string s) (hs : s.size ≤ 9223372036854775807) (v : Value) (hv : valO E (find (bs s) l) = v)
    (K : wpList Tryz.prog ops Q rest (a.put o.dst v) w) : wpList Tryz.prog ops Q (o :: rest) a w := by
  subst hv
  refine wpList_plain hgd fun K' hK => ?_
  unfold Oper.wp
  simp [execOp, hop, hm, hx, h.look s hs, Result.andThen]
  exact hK _ _ K
theorem wp_look2 {w : World} {ops : Array Oper} {rest : List Oper} {o : Oper} {a : Act} {Q : Exit → Act → World → Prop} (hgd : o.guard = none) (mo x : Operand) (hop : o.op = Op.lookup 60 mo x true)
    {m : Nat} {E : F → Value} {l : List F} (hm : a.eval mo = .map (some m)) (h : PMap w m E l) {s : ByteArray} (hx : a.eval x = .string s) (hs : s.size ≤ 9223372036854775807) (v : Value) (hv : valO E (find (bs s) l) = v) (b : Bool) (hb : (find (bs s) l).isSome = b)
    (K : wpList Tryz.prog ops Q rest (a.put o.dst (.tuple #[v, .bool b])) w) : wpList Tryz.prog ops Q (o :: rest) a w := by
  subst hv hb
  refine wpList_plain hgd fun K' hK => ?_
  unfold Oper.wp
  simp [execOp, hop, hm, hx, h.look2 s hs, Result.andThen]
  exact hK _ _ K
theorem wp_mlen {w : World} {ops : Array Oper} {rest : List Oper} {o : Oper} {a : Act} {Q : Exit → Act → World → Prop} (hgd : o.guard = none) (mo : Operand) (hop : o.op = .call { callee := .builtin .len, args := #[mo], argTypes := #[60] })
    {m : Nat} {E : F → Value} {l : List F} (hm : a.eval mo = .map (some m)) (h : PMap w m E l)
    (K : wpList Tryz.prog ops Q rest (a.put o.dst (.int .i64 (l.length : Int))) w) : wpList Tryz.prog ops Q (o :: rest) a w := by
  refine wpList_plain hgd fun K' hK => ?_
  unfold Oper.wp
  simp [execOp, hop, resolve, invoke, builtin, hm, h.len, Result.andThen]
  exact hK _ _ K
theorem wp_store {w : World} {ops : Array Oper} {rest : List Oper} {o : Oper} {a : Act} {Q : Exit → Act → World → Prop} (hgd : o.guard = none) (mo x y : Operand) (hop : o.op = Op.mapUpdate 60 mo x y)
    {m : Nat} {E : F → Value} {l : List F} (hm : a.eval mo = .map (some m)) (h : PMap w m E l) (hn : l.length ≤ 1000000) (E' : F → Value) (f : F) {s : ByteArray} (hx : a.eval x = .string s) (hs : s.size ≤ 9223372036854775807) (hf : bs s = f.nm) {v : Value} (hy : a.eval y = v) (hv : v = E' f) (hE : ∀ g ∈ del f.nm l, E' g = E g)
    (K : ∀ w', PMap w' m E' (put f l) → w.mapTurned w' m → wpList Tryz.prog ops Q rest (a.put o.dst undef) w') : wpList Tryz.prog ops Q (o :: rest) a w := by
  obtain ⟨w', hr, h1, h2⟩ := h.store hn f s hs hf v hv hE
  refine wpList_plain hgd fun K' hK => ?_
  unfold Oper.wp
  simp [execOp, hop, hm, hx, hy, hr, Result.andThen]
  exact hK _ _ (K w' h1 h2)
theorem wp_drop {w : World} {ops : Array Oper} {rest : List Oper} {o : Oper} {a : Act} {Q : Exit → Act → World → Prop} (hgd : o.guard = none) (mo x : Operand) (hop : o.op = .call { callee := .builtin .delete, args := #[mo, x], argTypes := #[60, 9] })
    {m : Nat} {E : F → Value} {l : List F} (hm : a.eval mo = .map (some m)) (h : PMap w m E l) {s : ByteArray} (hx : a.eval x = .string s) (hs : s.size ≤ 9223372036854775807)
    (K : ∀ w', PMap w' m E (del (bs s) l) → w.mapTurned w' m → wpList Tryz.prog ops Q rest (a.put o.dst (.tuple #[])) w') : wpList Tryz.prog ops Q (o :: rest) a w := by
  obtain ⟨w', hr, h1, h2⟩ := h.drop s hs o.type
  refine wpList_plain hgd fun K' hK => ?_
  unfold Oper.wp
  simp [execOp, hop, resolve, invoke, builtin, hm, hx, hr, Result.andThen]
  exact hK _ _ (K w' h1 h2)
theorem step_store {w : World} {ops : Array Oper} {o : Oper} {a : Act} {K : Act → World → Prop} {Q : Exit → Act → World → Prop} {X : Prop} (hgd : o.guard = none) (mo x y : Operand) (hop : o.op = Op.mapUpdate 60 mo x y)
    {m : Nat} {E : F → Value} {l : List F} (hm : a.eval mo = .map (some m)) (h : PMap w m E l) (hn : l.length ≤ 1000000) (E' : F → Value) (f : F) {s : ByteArray} (hx : a.eval x = .string s) (hs : s.size ≤ 9223372036854775807) (hf : bs s = f.nm) {v : Value} (hy : a.eval y = v) (hv : v = E' f) (hE : ∀ g ∈ del f.nm l, E' g = E g)
    (H : ∀ w', PMap w' m E' (put f l) → w.mapTurned w' m → K (a.put o.dst undef) w') :
    if Region.wanted o (yielded ops a.tmps) = true then Oper.wp Tryz.prog o a w K Q else X := by
  have hw : Region.wanted o (yielded ops a.tmps) = true := by simp [Region.wanted, hgd]
  rw [if_pos hw]
  obtain ⟨w', hr, h1, h2⟩ := h.store hn f s hs hf v hv hE
  unfold Oper.wp
  simp [execOp, hop, hm, hx, hy, hr, Result.andThen]
  exact H w' h1 h2
end Go.Proofs.YtdbhicifjljjnaaGreatDoor
