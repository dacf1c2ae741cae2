/-
  A slice of acts that came in, as the walk of StorePlays takes it: what it holds, from its reading.
-/
import Derived.Test.YtmahbcpkilegpaaStructsIn
import Derived.Test.YtmahbcpkilegpaaStoPlays
namespace Go.Proofs.Ytmahbcpkilegpaa
open Go.ChangeShapes Go.WideShapes Go.ChangeAt Go.RowKit Go.Deep
theorem ints_of_in {H : Type} {enc : TypeId × Value → H} {P : Program} {w : World} {base : Nat} {spare : Nat → Bool} {held : Bool} {t e : TypeId} {n : Nat} {v : Value} {y : DataW H × List MemPlace} (ht : P.underlying t = some (.slice e)) (he : P.underlying e = some (.int .i64)) (hc : P.cellsOf e = 1)
    (h : DataW.trod enc P w base spare held n t [v] = some y) : ∃ A zs cap, v = .slice A zs.length cap ∧ Ints w A zs ∧ zs.length ≤ cap ∧ cap ≤ 9223372036854775807 := by
  rcases open_ints ht he hc h with ⟨hcs, _⟩ | ⟨x, l, c, zs, hcs, _, hl, hm, hz, _, hcell, hwz⟩
  · simp at hcs
    exact ⟨none, [], 0, hcs, fun hp => by simp at hp, by simp, by decide⟩
  · simp at hcs
    unfold maxLen at hm
    have hlz : l ≤ zs.length := by rw [hz]; split <;> omega
    refine ⟨some x, zs.take l, c, ?_, Ints.of (nums_of hlz hcell hwz), by rw [List.length_take]; omega, hm⟩
    rw [hcs, List.length_take, Nat.min_eq_left hlz]
theorem acts_in {H : Type} {enc : TypeId × Value → H} {w : World} {base : Nat} {spare : Nat → Bool} {held : Bool} {fuel : Nat} {cs : List Value} {x : DataW H × List MemPlace}
    (h : DataW.trod enc Try.prog w base spare held fuel 41 cs = some x) : ∃ (A : Option Addr) (ms : List Ac) (cap : Nat), cs = [.slice A ms.length cap] ∧ ms.length ≤ cap ∧ cap ≤ 9223372036854775807 ∧ Acts w w.heap.size A ms := by
  obtain ⟨A, len, cap, hcs, hl, hm, hc⟩ := structs_in Try.underlying41 Try.underlying48 (by decide) (by kernel_rfl) (fun j f hj => by
    match j, hj with
    | 0, hj => simp at hj; subst hj; exact ⟨rfl, by kernel_rfl⟩
    | 1, hj => simp at hj; subst hj; exact ⟨rfl, by kernel_rfl⟩
    | 2, hj => simp at hj; subst hj; exact ⟨rfl, by kernel_rfl⟩
    | 3, hj => simp at hj; subst hj; exact ⟨rfl, by kernel_rfl⟩
    | 4, hj => simp at hj; subst hj; exact ⟨rfl, by kernel_rfl⟩
    | 5, hj => simp at hj; subst hj; exact ⟨rfl, by kernel_rfl⟩
    | j + 6, hj => simp at hj) h
  rcases Nat.eq_zero_or_pos len with h0 | h0
  · subst h0; exact ⟨A, [], cap, hcs, by simp, hm, Acts.nil_⟩
  · obtain ⟨b, off, rfl, he⟩ := hc h0
    have hb : b < w.heap.size := by
      obtain ⟨v0, y0, n0, c0, t0⟩ := he 0 h0 0 _ rfl
      exact block_lt c0
    obtain ⟨ms, hml, hms⟩ := list_of ac0 (fun i m => AcAt w b (off + i * 6) m) len (fun i hi => by
        obtain ⟨v0, y0, n0, c0, t0⟩ := he i hi 0 _ rfl
        obtain ⟨v1, y1, n1, c1, t1⟩ := he i hi 1 _ rfl
        obtain ⟨v2, y2, n2, c2, t2⟩ := he i hi 2 _ rfl
        obtain ⟨v3, y3, n3, c3, t3⟩ := he i hi 3 _ rfl
        obtain ⟨v4, y4, n4, c4, t4⟩ := he i hi 4 _ rfl
        obtain ⟨v5, y5, n5, c5, t5⟩ := he i hi 5 _ rfl
        obtain ⟨op, rfl, _, _⟩ := i64_of Try.underlying3 t0
        obtain ⟨n, rfl, hn1, hn2⟩ := i64_of Try.underlying3 t1
        obtain ⟨nm, rfl, hs1⟩ := str_of Try.underlying9 t2
        obtain ⟨tn, rfl, hs2⟩ := str_of Try.underlying9 t3
        obtain ⟨Ab, zs, cb, rfl, hby, _, _⟩ := bytes_of_in Try.underlying28 Try.underlying5 (by kernel_rfl) t4
        obtain ⟨Ak, ks, ck, rfl, hki, hck, _⟩ := ints_of_in Try.underlying44 Try.underlying3 (by kernel_rfl) t5
        refine ⟨⟨op, n, nm, tn, zs, ks⟩, Ab, cb, Ak, ck, fun j v hv => ?_, hby, hki, hck, hs1, hs2, hn1, hn2⟩
        match j, hv with
        | 0, hv => simp [acV] at hv; subst hv; exact c0
        | 1, hv => simp [acV] at hv; subst hv; rw [Nat.add_assoc]; exact c1
        | 2, hv => simp [acV] at hv; subst hv; rw [Nat.add_assoc]; exact c2
        | 3, hv => simp [acV] at hv; subst hv; rw [Nat.add_assoc]; exact c3
        | 4, hv => simp [acV] at hv; subst hv; rw [Nat.add_assoc]; exact c4
        | 5, hv => simp [acV] at hv; subst hv; rw [Nat.add_assoc]; exact c5
        | j + 6, hv => simp [acV] at hv)
    exact ⟨some ⟨b, off, none⟩, ms, cap, by rw [hml]; exact hcs, by omega, hm, fun _ => ⟨b, off, rfl, hb, fun i hi => hms i (by omega)⟩⟩
end Go.Proofs.Ytmahbcpkilegpaa
