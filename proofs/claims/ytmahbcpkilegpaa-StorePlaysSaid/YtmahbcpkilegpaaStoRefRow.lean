/-
  The reference's store in memory: its object, its row of files; its find.
-/
import Derived.Test.YtmahbcpkilegpaaStoRefName
import Derived.Test.YtmahbcpkilegpaaStoRun
namespace Go.Proofs.Ytmahbcpkilegpaa
open Go.RowKit St

def fileV (Ad : List UInt8 → Option Addr × Nat) (f : F) : List Value := [.string (mkB f.nm), .slice (Ad f.nm).1 f.zs.length (Ad f.nm).2, .int .i64 (f.sure : Int)]
def flat3 (Ad : List UInt8 → Option Addr × Nat) (l : List F) : List Value := l.flatMap (fileV Ad)
theorem flat3_cons (Ad : List UInt8 → Option Addr × Nat) (f : F) (l : List F) : flat3 Ad (f :: l) = .string (mkB f.nm) :: .slice (Ad f.nm).1 f.zs.length (Ad f.nm).2 :: .int .i64 (f.sure : Int) :: flat3 Ad l := rfl
theorem flat3_len (Ad : List UInt8 → Option Addr × Nat) (l : List F) : (flat3 Ad l).length = l.length * 3 := by
  induction l with
  | nil => rfl
  | cons f l ih => rw [flat3_cons, List.length_cons, List.length_cons, List.length_cons, List.length_cons, ih]; omega
theorem flat3_app (Ad : List UInt8 → Option Addr × Nat) (l m : List F) : flat3 Ad (l ++ m) = flat3 Ad l ++ flat3 Ad m := by unfold flat3; rw [List.flatMap_append]
theorem flat3_get (Ad : List UInt8 → Option Addr × Nat) : ∀ (l : List F) (i : Nat) (f : F), l[i]? = some f →
    (flat3 Ad l)[i * 3]? = some (.string (mkB f.nm)) ∧ (flat3 Ad l)[i * 3 + 1]? = some (.slice (Ad f.nm).1 f.zs.length (Ad f.nm).2) ∧ (flat3 Ad l)[i * 3 + 2]? = some (.int .i64 (f.sure : Int))
  | [], i, f, h => by simp at h
  | g :: l, 0, f, h => by
    simp only [List.getElem?_cons_zero, Option.some.injEq] at h
    subst h
    rw [flat3_cons]
    exact ⟨rfl, rfl, rfl⟩
  | g :: l, i + 1, f, h => by
    have := flat3_get Ad l i f (by simpa using h)
    rw [flat3_cons, show (i + 1) * 3 = i * 3 + 1 + 1 + 1 by omega]
    simp only [List.getElem?_cons_succ]
    exact this
/-- The reference's store at block R: its plain state is s; rf is its fuse, rk what it keeps for it; fa its row of files. -/
structure RS (w : World) (R : Nat) (s : S) (rf : Int) (rk : List Int) (Ad : List UInt8 → Option Addr × Nat) (fa : Option Addr) (fc : Nat) (ka : Option Addr) (kc : Nat) : Prop where
  obj : w.heap[R]? = some (.cells #[.int .i64 (s.room : Int), .slice fa s.fs.length fc, .bool s.off, .int .i64 rf, .slice ka rk.length kc] 46 (0, 0))
  files : w.ownsRow 0 76 3 (.slice fa s.fs.length fc) s.fs.length (flat3 Ad s.fs)
  rows : ∀ f ∈ s.fs, OwnB w 0 (Ad f.nm).1 (Ad f.nm).2 f.zs
  keep : Ints w ka rk
  inv : Inv s
  link : s.fuse = rf.toNat ∧ (0 < rf → s.keep = rk.take 64)
theorem RS.cell {w : World} {R : Nat} {s : S} {rf : Int} {rk : List Int} {Ad : List UInt8 → Option Addr × Nat} {fa : Option Addr} {fc : Nat} {ka : Option Addr} {kc : Nat} (h : RS w R s rf rk Ad fa fc ka kc) {i : Nat} (hi : i < s.fs.length) :
    ∃ g, fa = some ⟨g, 0, none⟩ ∧ w.cell? ⟨g, i * 3, none⟩ = some (.string (mkB (s.fs[i]'hi).nm)) ∧ w.cell? ⟨g, i * 3 + 1, none⟩ = some (.slice (Ad (s.fs[i]'hi).nm).1 (s.fs[i]'hi).zs.length (Ad (s.fs[i]'hi).nm).2) ∧ w.cell? ⟨g, i * 3 + 2, none⟩ = some (.int .i64 ((s.fs[i]'hi).sure : Int)) := by
  obtain ⟨g, c, e⟩ := Joins.ownsRow_form h.files (by omega)
  injection e with e1 e2 e3
  subst e1 e3
  obtain ⟨h1, h2, h3⟩ := flat3_get Ad s.fs i _ (List.getElem?_eq_getElem hi)
  refine ⟨g, rfl, ?_, ?_, ?_⟩
  · rw [← h1]; exact World.ownsRow.cellAt h.files (i * 3) (by omega)
  · rw [← h2]; exact World.ownsRow.cellAt h.files (i * 3 + 1) (by omega)
  · rw [← h3]; exact World.ownsRow.cellAt h.files (i * 3 + 2) (by omega)
/-- The place of a name in a row of files. -/
def place (nm : List UInt8) : List F → Option Nat
  | [] => none
  | f :: l => if f.nm = nm then some 0 else (place nm l).map (· + 1)
def placeV (nm : List UInt8) (l : List F) : Int := match place nm l with | some i => (i : Int) | none => -1
theorem place_at : ∀ (nm : List UInt8) (l : List F) (k : Nat) (hk : k < l.length), (∀ j (hj : j < k), (l[j]'(by omega)).nm ≠ nm) → (l[k]'hk).nm = nm → place nm l = some k
  | nm, [], k, hk, _, _ => by simp at hk
  | nm, f :: l, 0, hk, _, h => by unfold place; rw [if_pos (by simpa using h)]
  | nm, f :: l, k + 1, hk, hb, h => by
    have h0 := hb 0 (by omega)
    unfold place
    rw [if_neg (by simpa using h0), place_at nm l k (by simpa using hk) (fun j hj => hb (j + 1) (by omega)) (by simpa using h)]
    rfl
theorem place_none : ∀ (nm : List UInt8) (l : List F), (∀ j (hj : j < l.length), (l[j]'hj).nm ≠ nm) → place nm l = none
  | nm, [], _ => rfl
  | nm, f :: l, hb => by
    have h0 := hb 0 (by simp)
    unfold place
    rw [if_neg (by simpa using h0), place_none nm l fun j hj => hb (j + 1) (by simpa using hj)]
    rfl
theorem mkB_eq (nm : List UInt8) (sn : ByteArray) : ((mkB nm).toList == sn.toList) = decide (nm = bs sn) := by
  rw [ByteArray.toList_eq, ByteArray.toList_eq]
  show (nm.toArray.toList == bs sn) = _
  rw [List.toList_toArray]
  by_cases h : nm = bs sn
  · rw [decide_eq_true h, beq_iff_eq.2 h]
  · rw [decide_eq_false h, beq_eq_false_iff_ne.2 h]
set_option maxHeartbeats 2000000 in
theorem rfind_any {w : World} {R : Nat} {s : S} {rf : Int} {rk : List Int} {Ad : List UInt8 → Option Addr × Nat} {fa : Option Addr} {fc : Nat} {ka : Option Addr} {kc : Nat} (h : RS w R s rf rk Ad fa fc ka kc) (sn : ByteArray) :
    Calls Try.prog 45 #[.pointer (some ⟨R, 0, none⟩), .string sn] w fun e w' => e = .returned (.int .i64 (placeV (bs sn) s.fs)) ∧ w = w' := by
  have HR := Lib.hid h
  have hn : (s.fs.length : Int) ≤ 64 := by have := h.inv.count; omega
  obtain ⟨⟨_, c1, _, _, _⟩, _⟩ := obj5 h.obj
  clear h
  obtain ⟨n, hN⟩ : ∃ n, n = s.fs.length := ⟨_, rfl⟩
  rw [← hN] at c1 hn
  have HN := Lib.hid hN
  clear hN
  go_enter Try.func45, Try.ntmps45
  go_wp2
  go_loop [5] (fun i => ∃ k : Nat, k ≤ n ∧ (∀ j (hj : j < s.fs.length), j < k → (s.fs[j]'hj).nm ≠ bs sn) ∧ i = .int .i64 k) (fun i => n - (intOf i).toNat)
  case atStart => exact ⟨0, Nat.zero_le _, fun j _ hj => by omega, rfl⟩
  case round =>
    obtain ⟨k, hk0, hk, rfl⟩ := hrel
    have HK := Lib.hid hk
    clear hk
    by_cases hlt : k < n
    · have hl : k < s.fs.length := by rw [← HN.out]; exact hlt
      obtain ⟨g, hg, d1, d2, d3⟩ := HR.out.cell hl
      obtain ⟨nm, hnm⟩ : ∃ nm, (s.fs[k]'hl).nm = nm := ⟨_, rfl⟩
      rw [hnm] at d1
      subst hg
      clear d2 d3
      have hlt' : (k : Int) < (n : Int) := by omega
      by_cases he : nm = bs sn
      · have hb : ((mkB nm).toList == sn.toList) = true := by rw [mkB_eq, decide_eq_true he]
        have R := Lib.hid (show placeV (bs sn) s.fs = (k : Int) by unfold placeV; rw [place_at (bs sn) s.fs k hl (fun j hj => HK.out j _ hj) (hnm.trans he)])
        clear he
        go_wp2
        go_ret
        exact ⟨ret_int R.out.symm, rfl⟩
      · have hb : ((mkB nm).toList == sn.toList) = false := by rw [mkB_eq, decide_eq_false he]
        have R : Hid (∀ j (hj : j < s.fs.length), j < k + 1 → (s.fs[j]'hj).nm ≠ bs sn) := Lib.hid fun j hj hlt2 => by
          by_cases e : j = k
          · subst e; rw [hnm]; exact he
          · exact HK.out j hj (by omega)
        clear he
        go_wp2
        go_round
        case rel => exact ⟨k + 1, hlt, R.out, by go_num⟩
        case measure => simp [intOf]; omega
    · have e : k = s.fs.length := by rw [← HN.out]; omega
      have hge : ¬ (k : Int) < (n : Int) := by omega
      have R := Lib.hid (show placeV (bs sn) s.fs = -1 by unfold placeV; rw [place_none (bs sn) s.fs fun j hj => HK.out j hj (by omega)])
      go_wp2
      go_ret
      exact ⟨ret_int R.out.symm, rfl⟩
end Go.Proofs.Ytmahbcpkilegpaa
