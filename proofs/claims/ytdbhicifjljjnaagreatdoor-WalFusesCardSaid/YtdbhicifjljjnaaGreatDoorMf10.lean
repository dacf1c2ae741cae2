/-
  Part 10 of the texts behind the law: NumRows, Mats, FusActs.
-/
import Derived.Test.YtdbhicifjljjnaaGreatDoorMf4
import Derived.ProofKit
import Derived.OpenShut
import Derived.Deep.Matrix
/-
  Rows of whole numbers of the call's own; a slice of slices of bytes that came in.
-/
namespace Go.Proofs.YtdbhicifjljjnaaGreatDoor
open Go.ChangeShapes Go.WideShapes Go.ChangeAt Go.RowKit Go.Deep
def OwnN (w : World) (base : Nat) (A : Option Addr) (cap : Nat) (zs : List Int) : Prop :=
  w.ownsRow base 3 1 (.slice A zs.length cap) zs.length (zs.map (Value.int .i64))
theorem OwnN.none_ (w : World) (base : Nat) : OwnN w base none 0 [] := World.ownsRow_nil w base _ _
theorem OwnN.lt {w : World} {base : Nat} {a : Addr} {cap : Nat} {zs : List Int} (h : OwnN w base (some a) cap zs) : base ≤ a.block ∧ a.block < w.heap.size :=
  World.ownsRow.lt h a.block (by simp [Value.ownBlock])
theorem OwnN.keep {w w' : World} {base : Nat} {A : Option Addr} {cap : Nat} {zs : List Int} (h : OwnN w base A cap zs) (hk : ∀ a, A = some a → w'.heap[a.block]? = w.heap[a.block]?) : OwnN w' base A cap zs := by
  refine ⟨h.1, ?_⟩
  rcases h.2 with e | ⟨g, c', cur, e, hb, hg, r⟩
  · exact .inl e
  · injection e with e1 e2 e3
    subst e1 e3
    exact .inr ⟨g, _, cur, rfl, hb, by rw [hk _ rfl]; exact hg, r⟩
theorem OwnN.grew {w w' : World} {base B : Nat} {A : Option Addr} {cap : Nat} {zs : List Int} (h : OwnN w base A cap zs) (hb : Below B w w') (hB : w.heap.size ≤ B) : OwnN w' base A cap zs :=
  h.keep fun a ha => by
    subst ha
    exact hb.block _ (by have := h.lt.2; omega)
theorem OwnN.cell {w : World} {base : Nat} {A : Option Addr} {cap : Nat} {zs : List Int} (h : OwnN w base A cap zs) {i : Nat} (hi : i < zs.length) :
    ∃ g, A = some ⟨g, 0, none⟩ ∧ Hid (g < w.heap.size) ∧ w.cell? ⟨g, i, none⟩ = some (.int .i64 (zs.getD i 0)) := by
  obtain ⟨g, c, e⟩ := Joins.ownsRow_form h (by omega)
  injection e with e1 e2 e3
  subst e1 e3
  refine ⟨g, rfl, Lib.hid (OwnN.lt h).2, ?_⟩
  rw [World.ownsRow.cellAt h i (by omega), List.getElem?_map, List.getD_eq_getElem?_getD, List.getElem?_eq_getElem hi]
  rfl
/-- A row of bytes is no row of numbers. -/
theorem OwnN.apart {w : World} {base b2 : Nat} {a a2 : Addr} {cap cap2 : Nat} {ns zs : List Int} (h : OwnN w base (some a) cap ns) (k : OwnB w b2 (some a2) cap2 zs) : a2.block ≠ a.block := by
  intro e
  rcases h.2 with ⟨e1, _⟩ | ⟨g, c', cur, e1, _, hg, _⟩
  · cases e1
  · injection e1 with e1 _ _
    injection e1 with e1
    subst e1
    exact k.ne (g := g) hg (by decide) e
theorem OwnB.grownN {w w' : World} {base b2 : Nat} {A A2 : Option Addr} {cap cap2 n : Nat} {ns zs : List Int} (k : OwnB w b2 A2 cap2 zs) (h : OwnN w base A cap ns) (hg : w.grownBy w' (Value.slice A n cap).ownBlock) : OwnB w' b2 A2 cap2 zs :=
  k.keep fun a ha => by
    subst ha
    refine hg.block _ (k.1.lt a.block (by simp [Value.ownBlock])).2 ?_
    cases A with
    | none => simp [Value.ownBlock]
    | some a1 => simp [Value.ownBlock]; exact h.apart k
theorem grownN_below {w w' : World} {base : Nat} {A : Option Addr} {cap n : Nat} {zs : List Int} (h : OwnN w base A cap zs) (hbase : base ≤ w.heap.size) (hg : w.grownBy w' (Value.slice A n cap).ownBlock) : Below base w w' :=
  (Below.refl _ _).grown hg hbase fun k hk => by
    cases A with
    | none => cases hk
    | some a => simp [Value.ownBlock] at hk; subst hk; exact h.lt.1
theorem int_info : (Tryz.prog.info? 3).map (fun i => (i.zero, i.size, i.bytes)) = some (some (.int .i64 0), 1, 8) := by kernel_rfl
theorem form_ofN {w : World} {base n : Nat} {v : Value} {xs : List Value} (h : w.ownsRow base 3 1 v n xs) : ∃ A cap, v = .slice A n cap := by
  rcases h.2 with ⟨e, e0⟩ | ⟨g, c', _, e, _⟩
  · exact ⟨none, 0, by rw [e0]; exact e⟩
  · exact ⟨_, _, e⟩
theorem run_appN {w : World} {base : Nat} {A : Option Addr} {cap : Nat} {zs : List Int} {x : Int} (h : OwnN w base A cap zs) (hbase : base ≤ w.heap.size) {b2 : Nat} (hx : w.cell? ⟨b2, 0, none⟩ = some (.int .i64 x)) (c : Nat) (hlen : zs.length ≤ 1000000000) (ty : TypeId) :
    ∃ A' cap' w', (Builtin.append_ #[23, 23] ty #[.slice A zs.length cap, .slice (some ⟨b2, 0, none⟩) 1 c]).run Tryz.prog w = .ok (.slice A' (zs ++ [x]).length cap') w' ∧
      OwnN w' base A' cap' (zs ++ [x]) ∧ w.grownBy w' (Value.slice A zs.length cap).ownBlock := by
  obtain ⟨i, hi, hz0, hs, hyb⟩ := info_parts int_info
  obtain ⟨v', w', hrun, hown, hg, _, _⟩ := run_append_own_at (P := Tryz.prog) (w := w) base 23 ty 3 i _ 1 8 Tryz.underlying23 hi hz0 hs hyb rfl (by decide)
    _ zs.length _ h ⟨b2, 0, none⟩ 1 c [.int .i64 x] rfl (fun j u hu => by
      rw [add_off, Nat.zero_add]
      match j, hu with
      | 0, hu => simp at hu; rw [← hu]; exact hx
      | j + 1, hu => simp at hu) (fun u hu => by simp at hu; subst hu; rfl) (by unfold maxLen; omega) (by omega) hbase
  obtain ⟨A', cap', rfl⟩ := form_ofN hown
  have e : zs.length + 1 = (zs ++ [x]).length := by simp
  rw [e] at hrun hown
  refine ⟨A', cap', w', hrun, ?_, hg⟩
  unfold OwnN
  rw [List.map_append]
  exact hown
theorem wp_appN {w : World} {ops : Array Oper} {rest : List Oper} {o : Oper} {a : Act} {Q : Exit → Act → World → Prop} (hgd : o.guard = none) (s t : Operand)
    (ho : o.op = .call { callee := .builtin .append, args := #[s, t], argTypes := #[23, 23] })
    {base : Nat} {A : Option Addr} {n cap : Nat} {zs : List Int} {x : Int} (hs : a.eval s = .slice A n cap) (hn : n = zs.length) (h : OwnN w base A cap zs) (hbase : base ≤ w.heap.size)
    {b2 c : Nat} (ht : a.eval t = .slice (some ⟨b2, 0, none⟩) 1 c) (hx : w.cell? ⟨b2, 0, none⟩ = some (.int .i64 x)) (hlen : zs.length ≤ 1000000000)
    (K : ∀ A' cap' w', OwnN w' base A' cap' (zs ++ [x]) → w.grownBy w' (Value.slice A zs.length cap).ownBlock → wpList Tryz.prog ops Q rest (a.put o.dst (.slice A' (zs ++ [x]).length cap')) w') :
    wpList Tryz.prog ops Q (o :: rest) a w := by
  subst hn
  obtain ⟨A', cap', w', hrun, h1, h2⟩ := run_appN h hbase hx c hlen o.type
  refine wpList_plain hgd fun K' hK => ?_
  unfold Oper.wp
  simp [execOp, ho, resolve, invoke, builtin, hs, ht, hrun, Result.andThen]
  have hk := K A' cap' w' h1 h2
  rw [List.length_append, List.length_singleton] at hk
  exact hK _ _ hk

/-! ### A slice of slices of bytes that came in -/
def Mat (w : World) (B : Nat) (A : Option Addr) (ps : List (List Int)) : Prop :=
  0 < ps.length → ∃ b off, A = some ⟨b, off, none⟩ ∧ b < B ∧ ∀ i, i < ps.length → ∃ Ai ci, w.cell? ⟨b, off + i, none⟩ = some (.slice Ai (ps.getD i []).length ci) ∧ Bytes w B Ai (ps.getD i []) ∧ (ps.getD i []).length ≤ ci ∧ ci ≤ 9223372036854775807
theorem Mat.nil_ {w : World} {B : Nat} {A : Option Addr} : Mat w B A [] := fun h => by simp at h
theorem Mat.below {w w' : World} {B : Nat} {A : Option Addr} {ps : List (List Int)} (h : Mat w B A ps) (hb : Below B w w') : Mat w' B A ps := fun hn => by
  obtain ⟨b, off, e, hl, hc⟩ := h hn
  refine ⟨b, off, e, hl, fun i hi => ?_⟩
  obtain ⟨Ai, ci, h1, h2, h3, h4⟩ := hc i hi
  exact ⟨Ai, ci, (hb.cell (p := ⟨b, _, none⟩) hl).trans h1, h2.below hb, h3, h4⟩
theorem Mat.at_ {w : World} {B : Nat} {A : Option Addr} {ps : List (List Int)} {k : Nat} (h : Mat w B A ps) (hk : k < ps.length) :
    ∃ b off p Ai ci, A = some ⟨b, off, none⟩ ∧ Hid (b < B) ∧ w.cell? ⟨b, off + k, none⟩ = some (.slice Ai p.length ci) ∧ Hid (ps.getD k [] = p) ∧ Hid (Bytes w B Ai p) ∧ Hid (p.length ≤ 9223372036854775807) := by
  obtain ⟨b, off, e, hb, hc⟩ := h (by omega)
  obtain ⟨Ai, ci, h1, h2, h3, h4⟩ := hc k hk
  exact ⟨b, off, _, Ai, ci, e, Lib.hid hb, h1, Lib.hid rfl, Lib.hid h2, Lib.hid (by show _ ≤ _; omega)⟩
theorem mat_of {W : World} {x : Addr} {len cap : Nat} {A : Nat → Option Addr} {L C : Nat → Nat} {Z : Nat → List Int} (hl : len ≤ cap)
    (hc : ∀ r, r < cap → W.cell? (x.add r) = some (.slice (A r) (L r) (C r)) ∧ L r ≤ C r ∧ C r ≤ maxLen ∧ (Z r).length = C r ∧ (∀ n ∈ Z r, (Lit.int .u8 n).wf = true) ∧ (A r = none → C r = 0) ∧
        ∀ a', A r = some a' → ∀ c, c < C r → W.cell? (a'.add c) = some (.int .u8 ((Z r).getD c 0))) :
    Mat W W.heap.size (some x) ((List.range len).map fun r => (Z r).take (L r)) := by
  have hlen : ((List.range len).map fun r => (Z r).take (L r)).length = len := by simp
  have hg : ∀ i, i < len → ((List.range len).map fun r => (Z r).take (L r)).getD i [] = (Z i).take (L i) := fun i hi => by
    rw [List.getD_eq_getElem?_getD]; simp [hi]
  intro hn
  rw [hlen] at hn
  obtain ⟨b, off, spot⟩ := x
  have h0 := (hc 0 (by omega)).1
  have hspot : spot = none := by simpa [Addr.add] using World.cell?_spot h0
  subst hspot
  refine ⟨b, off, rfl, ?_, fun i hi => ?_⟩
  · rw [add_off] at h0
    exact block_lt h0
  · rw [hlen] at hi
    obtain ⟨h1, h2, h3, h4, h5, h6, h7⟩ := hc i (by omega)
    have ll : ((Z i).take (L i)).length = L i := by rw [List.length_take]; omega
    rw [hg i hi, ll]
    refine ⟨A i, C i, by rw [← add_off]; exact h1, ⟨fun j hj => ?_, fun hp => ?_⟩, h2, by unfold maxLen at h3; exact h3⟩
    · rw [ll] at hj
      rw [List.getD_eq_getElem?_getD, List.getElem?_take_of_lt hj, List.getElem?_eq_getElem (by omega)]
      have h := h5 _ (List.getElem_mem (show j < (Z i).length by omega))
      simpa [Lit.wf, IntKind.min, IntKind.max, IntKind.bits, IntKind.signed] using h
    · rw [ll] at hp
      cases ha : A i with
      | none => have := h6 ha; omega
      | some a' =>
        have hcell := h7 a' ha
        obtain ⟨b', off', spot'⟩ := a'
        have h00 := hcell 0 (by omega)
        have hs' : spot' = none := by simpa [Addr.add] using World.cell?_spot h00
        subst hs'
        refine ⟨b', off', rfl, ?_, fun j hj => ?_⟩
        · rw [add_off] at h00
          exact block_lt h00
        · rw [ll] at hj
          rw [← add_off, hcell j (by omega), List.getD_eq_getElem?_getD, List.getD_eq_getElem?_getD, List.getElem?_take_of_lt hj]
end Go.Proofs.YtdbhicifjljjnaaGreatDoor
/-
  A slice of slices of bytes that came in: where no array lies behind a slice, it has no room either.
-/
namespace Go.Proofs.YtdbhicifjljjnaaGreatDoor
open Go.ChangeShapes Go.WideShapes Go.ChangeAt Go.RowKit Go.Deep
def Mat2 (w : World) (B : Nat) (A : Option Addr) (ps : List (List Int)) : Prop :=
  0 < ps.length → ∃ b off, A = some ⟨b, off, none⟩ ∧ b < B ∧ ∀ i, i < ps.length → ∃ Ai ci, w.cell? ⟨b, off + i, none⟩ = some (.slice Ai (ps.getD i []).length ci) ∧ Bytes w B Ai (ps.getD i []) ∧ (ps.getD i []).length ≤ ci ∧ ci ≤ 9223372036854775807 ∧ (Ai = none → ci = 0)
theorem Mat2.nil_ {w : World} {B : Nat} {A : Option Addr} : Mat2 w B A [] := fun h => by simp at h
theorem Mat2.mat {w : World} {B : Nat} {A : Option Addr} {ps : List (List Int)} (h : Mat2 w B A ps) : Mat w B A ps := fun hn => by
  obtain ⟨b, off, e, hb, hc⟩ := h hn
  refine ⟨b, off, e, hb, fun i hi => ?_⟩
  obtain ⟨Ai, ci, h1, h2, h3, h4, _⟩ := hc i hi
  exact ⟨Ai, ci, h1, h2, h3, h4⟩
theorem Mat2.below {w w' : World} {B : Nat} {A : Option Addr} {ps : List (List Int)} (h : Mat2 w B A ps) (hb : Below B w w') : Mat2 w' B A ps := fun hn => by
  obtain ⟨b, off, e, hl, hc⟩ := h hn
  refine ⟨b, off, e, hl, fun i hi => ?_⟩
  obtain ⟨Ai, ci, h1, h2, h3, h4, h5⟩ := hc i hi
  exact ⟨Ai, ci, (hb.cell (p := ⟨b, _, none⟩) hl).trans h1, h2.below hb, h3, h4, h5⟩
theorem Mat2.at_ {w : World} {B : Nat} {A : Option Addr} {ps : List (List Int)} {k : Nat} (h : Mat2 w B A ps) (hk : k < ps.length) :
    ∃ b off Ai ci, A = some ⟨b, off, none⟩ ∧ Hid (b < B) ∧ w.cell? ⟨b, off + k, none⟩ = some (.slice Ai (ps.getD k []).length ci) ∧ Hid (Bytes w B Ai (ps.getD k [])) ∧ Hid (Ai = none → (ps.getD k []).length = 0 ∧ ci = 0) ∧ Hid ((ps.getD k []).length ≤ 9223372036854775807) := by
  obtain ⟨b, off, e, hb, hc⟩ := h (by omega)
  obtain ⟨Ai, ci, h1, h2, h3, h4, h5⟩ := hc k hk
  exact ⟨b, off, Ai, ci, e, Lib.hid hb, h1, Lib.hid h2, Lib.hid (fun hn => by have := h5 hn; omega), Lib.hid (by omega)⟩
theorem mat2_of {W : World} {x : Addr} {len cap : Nat} {A : Nat → Option Addr} {L C : Nat → Nat} {Z : Nat → List Int} (hl : len ≤ cap)
    (hc : ∀ r, r < cap → W.cell? (x.add r) = some (.slice (A r) (L r) (C r)) ∧ L r ≤ C r ∧ C r ≤ maxLen ∧ (Z r).length = C r ∧ (∀ n ∈ Z r, (Lit.int .u8 n).wf = true) ∧ (A r = none → C r = 0) ∧
        ∀ a', A r = some a' → ∀ c, c < C r → W.cell? (a'.add c) = some (.int .u8 ((Z r).getD c 0))) :
    Mat2 W W.heap.size (some x) ((List.range len).map fun r => (Z r).take (L r)) := by
  have hm := mat_of (A := A) (L := L) (C := C) (Z := Z) hl hc
  intro hn
  obtain ⟨b, off, e, hb, hcell⟩ := hm hn
  refine ⟨b, off, e, hb, fun i hi => ?_⟩
  obtain ⟨Ai, ci, h1, h2, h3, h4⟩ := hcell i hi
  refine ⟨Ai, ci, h1, h2, h3, h4, fun hA => ?_⟩
  have hil : i < len := by simpa using hi
  obtain ⟨c1, _, _, _, _, c6, _⟩ := hc i (by omega)
  have hx : x = ⟨b, off, none⟩ := by injection e
  rw [hx, add_off, h1] at c1
  injection c1 with c1
  injection c1 with c1 c2 c3
  rw [c3]
  exact c6 (by rw [← c1]; exact hA)
end Go.Proofs.YtdbhicifjljjnaaGreatDoor
/-
  A slice of acts that came in (WalFuses): each act's number and its bytes.
-/
namespace Go.Proofs.YtdbhicifjljjnaaGreatDoor
open Go.ChangeShapes Go.WideShapes Go.ChangeAt Go.RowKit Go.Deep
/-- An act: its kind, its bytes. -/
abbrev Fa := Int × List Int
def FaAt (w : World) (B b off : Nat) (m : Fa) : Prop :=
  w.cell? ⟨b, off, none⟩ = some (.int .i64 m.1) ∧ ∃ Ai ci, w.cell? ⟨b, off + 2, none⟩ = some (.slice Ai m.2.length ci) ∧ Bytes w B Ai m.2 ∧ m.2.length ≤ ci ∧ ci ≤ 9223372036854775807 ∧ (Ai = none → ci = 0)
def FActs (w : World) (B : Nat) (A : Option Addr) (ms : List Fa) : Prop :=
  0 < ms.length → ∃ b off, A = some ⟨b, off, none⟩ ∧ b < B ∧ ∀ i, i < ms.length → FaAt w B b (off + i * 4) (ms.getD i (0, []))
theorem FActs.nil_ {w : World} {B : Nat} {A : Option Addr} : FActs w B A [] := fun h => by simp at h
theorem FActs.at_ {w : World} {B : Nat} {A : Option Addr} {ms : List Fa} {k : Nat} (h : FActs w B A ms) (hk : k < ms.length) :
    ∃ b off Ai ci, A = some ⟨b, off, none⟩ ∧ Hid (b < B) ∧ w.cell? ⟨b, off + k * 4, none⟩ = some (.int .i64 (ms.getD k (0, [])).1) ∧ w.cell? ⟨b, off + k * 4 + 2, none⟩ = some (.slice Ai (ms.getD k (0, [])).2.length ci) ∧ Hid (Bytes w B Ai (ms.getD k (0, [])).2) ∧ Hid (Ai = none → (ms.getD k (0, [])).2.length = 0 ∧ ci = 0) ∧ Hid ((ms.getD k (0, [])).2.length ≤ 9223372036854775807) := by
  obtain ⟨b, off, e, hb, hc⟩ := h (by omega)
  obtain ⟨h0, Ai, ci, h1, h2, h3, h4, h5⟩ := hc k hk
  exact ⟨b, off, Ai, ci, e, Lib.hid hb, h0, h1, Lib.hid h2, Lib.hid (fun hn => by have := h5 hn; omega), Lib.hid (by omega)⟩
theorem bytes_of_in2 {H : Type} {enc : TypeId × Value → H} {P : Program} {w : World} {base : Nat} {spare : Nat → Bool} {held : Bool} {t e : TypeId} {n : Nat} {v : Value} {y : DataW H × List MemPlace} (ht : P.underlying t = some (.slice e)) (he : P.underlying e = some (.int .u8)) (hc : P.cellsOf e = 1)
    (h : DataW.trod enc P w base spare held n t [v] = some y) : ∃ A zs cap, v = .slice A zs.length cap ∧ Bytes w w.heap.size A zs ∧ zs.length ≤ cap ∧ cap ≤ 9223372036854775807 ∧ (A = none → cap = 0) := by
  rcases open_ints ht he hc h with ⟨hcs, _⟩ | ⟨x, l, c, zs, hcs, _, hl, hm, hz, _, hcell, hwz⟩
  · simp at hcs
    exact ⟨none, [], 0, hcs, Bytes.nil_, by simp, by decide, fun _ => rfl⟩
  · simp at hcs
    unfold maxLen at hm
    have hlz : l ≤ zs.length := by rw [hz]; split <;> omega
    refine ⟨some x, zs.take l, c, ?_, bytes_of_ints hlz hcell hwz, by rw [List.length_take]; omega, hm, fun e => by cases e⟩
    rw [hcs, List.length_take, Nat.min_eq_left hlz]
theorem facts_in {H : Type} {enc : TypeId × Value → H} {w : World} {base : Nat} {spare : Nat → Bool} {held : Bool} {fuel : Nat} {cs : List Value} {x : DataW H × List MemPlace}
    (h : DataW.trod enc Tryz.prog w base spare held fuel 22 cs = some x) : ∃ (A : Option Addr) (ms : List Fa) (cap : Nat), cs = [.slice A ms.length cap] ∧ ms.length ≤ cap ∧ cap ≤ 9223372036854775807 ∧ FActs w w.heap.size A ms := by
  obtain ⟨A, len, cap, hcs, hl, hm, hc⟩ := structs_in Tryz.underlying22 Tryz.underlying33 (by decide) (by kernel_rfl) (fun j f hj => by
    match j, hj with
    | 0, hj => simp at hj; subst hj; exact ⟨rfl, by kernel_rfl⟩
    | 1, hj => simp at hj; subst hj; exact ⟨rfl, by kernel_rfl⟩
    | 2, hj => simp at hj; subst hj; exact ⟨rfl, by kernel_rfl⟩
    | 3, hj => simp at hj; subst hj; exact ⟨rfl, by kernel_rfl⟩
    | j + 4, hj => simp at hj) h
  rcases Nat.eq_zero_or_pos len with h0 | h0
  · subst h0; exact ⟨A, [], cap, hcs, by simp, hm, FActs.nil_⟩
  · obtain ⟨b, off, rfl, he⟩ := hc h0
    have hb : b < w.heap.size := by
      obtain ⟨v0, y0, n0, c0, t0⟩ := he 0 h0 0 _ rfl
      exact block_lt c0
    obtain ⟨ms, hml, hms⟩ := list_of ((0, []) : Fa) (fun i m => FaAt w w.heap.size b (off + i * 4) m) len (fun i hi => by
        obtain ⟨v0, y0, n0, c0, t0⟩ := he i hi 0 _ rfl
        obtain ⟨v2, y2, n2, c2, t2⟩ := he i hi 2 _ rfl
        obtain ⟨op, rfl, _, _⟩ := i64_of Tryz.underlying3 t0
        obtain ⟨Ab, zs, cb, rfl, hby, hlb, hcb, hnb⟩ := bytes_of_in2 Tryz.underlying31 Tryz.underlying5 (by kernel_rfl) t2
        refine ⟨(op, zs), ?_, Ab, cb, ?_, hby, hlb, hcb, hnb⟩
        · exact c0
        · rw [Nat.add_assoc]; exact c2)
    exact ⟨some ⟨b, off, none⟩, ms, cap, by rw [hml]; exact hcs, by omega, hm, fun _ => ⟨b, off, rfl, hb, fun i hi => hms i (by omega)⟩⟩
end Go.Proofs.YtdbhicifjljjnaaGreatDoor
