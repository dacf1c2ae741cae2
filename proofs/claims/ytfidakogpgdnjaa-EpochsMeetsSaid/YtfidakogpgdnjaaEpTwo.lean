/-
  Two rows of stamps of the call's own, each grown by append while the other stays.
-/
import Derived.Test.YtfidakogpgdnjaaEpRow
namespace Go.Proofs.Ytfidakogpgdnjaa
open Go.RowKit
def ApartS (A B : Option Addr) : Prop := ∀ a b, A = some a → B = some b → a.block ≠ b.block
theorem ApartS.swap {A B : Option Addr} (h : ApartS A B) : ApartS B A := fun a b ha hb e => h b a hb ha e.symm
theorem ApartS.none_ (B : Option Addr) : ApartS none B := fun a b ha _ => by cases ha
theorem run_appS2 {w : World} {base : Nat} {A : Option Addr} {cap : Nat} {xs : List Int} (h : OwnS w base A cap xs) (hbase : base ≤ w.heap.size)
    {B : Nat} {ad : Addr} {zs : List Int} (hb : Sts w B (some ad) zs) (c : Nat) (hlen : xs.length + zs.length ≤ 1073741824) (ty : TypeId) :
    ∃ A' cap' w', (Builtin.append_ #[23, 23] ty #[.slice A xs.length cap, .slice (some ad) zs.length c]).run Try.prog w = .ok (.slice A' (xs ++ zs).length cap') w' ∧
      OwnS w' base A' cap' (xs ++ zs) ∧ GrewS base w w' ∧ (∀ A2 c2 ys, OwnS w base A2 c2 ys → ApartS A A2 → OwnS w' base A2 c2 ys ∧ ApartS A' A2) := by
  have rng := rng_appS h.2 hb.1
  obtain ⟨i, hi, hz, hs, hy⟩ := info_parts stamp_info
  obtain ⟨v', w', hrun, hown, hg, _, hblk⟩ := run_append_own_at (P := Try.prog) (w := w) base 23 ty 29 i _ 1 8 Try.underlying23 hi hz hs hy rfl (by decide)
    _ xs.length _ h.1 ad zs.length c (zs.map (Value.int .u64)) (by simp) (cells_ofS hb) (fun u hu => by simp at hu; obtain ⟨z, _, rfl⟩ := hu; rfl) (by unfold maxLen; omega) (by omega) hbase
  obtain ⟨A', cap', rfl⟩ := form_ofS hown
  rw [← List.length_append] at hrun hown
  refine ⟨A', cap', w', hrun, ⟨?_, rng⟩, grew_ofS hg hbase (fun k hk => (row_blockS h.1 k hk).1) (fun k hk => (row_blockS h.1 k hk).2), fun A2 c2 ys ho hap => ⟨?_, ?_⟩⟩
  · rw [List.map_append]
    exact hown
  · refine ho.keep fun a2 ha2 => ?_
    subst ha2
    have hlt := (ho.1.lt a2.block (by simp [Value.ownBlock])).2
    refine hg.block _ hlt ?_
    cases A with
    | none => simp [Value.ownBlock]
    | some a => simp [Value.ownBlock]; exact (hap a a2 rfl rfl).symm
  · intro a' a2 ha' ha2 e
    subst ha' ha2
    have hlt := (ho.1.lt a2.block (by simp [Value.ownBlock])).2
    rcases hblk with hb1 | hb1
    · cases A with
      | none => simp [Value.ownBlock] at hb1
      | some a =>
        simp [Value.ownBlock] at hb1
        exact hap a a2 rfl rfl (hb1 ▸ e)
    · simp [Value.ownBlock] at hb1
      omega
theorem wp_appS2 {w : World} {ops : Array Oper} {rest : List Oper} {o : Oper} {a : Act} {Q : Exit → Act → World → Prop} (hgd : o.guard = none) (s x : Operand)
    (ho : o.op = .call { callee := .builtin .append, args := #[s, x], argTypes := #[23, 23] })
    {base : Nat} {A : Option Addr} {n cap : Nat} {xs : List Int} (hs : a.eval s = .slice A n cap) (hn : n = xs.length) (h : OwnS w base A cap xs) (hbase : base ≤ w.heap.size)
    {B : Nat} {ad : Addr} {m c : Nat} {zs : List Int} (hx : a.eval x = .slice (some ad) m c) (hm : m = zs.length) (hb : Sts w B (some ad) zs) (hlen : xs.length + zs.length ≤ 1073741824)
    (K : ∀ A' cap' w', OwnS w' base A' cap' (xs ++ zs) → GrewS base w w' → (∀ A2 c2 ys, OwnS w base A2 c2 ys → ApartS A A2 → OwnS w' base A2 c2 ys ∧ ApartS A' A2) → wpList Try.prog ops Q rest (a.put o.dst (.slice A' (xs ++ zs).length cap')) w') :
    wpList Try.prog ops Q (o :: rest) a w := by
  subst hn hm
  obtain ⟨A', cap', w', hrun, h1, h2, h3⟩ := run_appS2 h hbase hb c hlen o.type
  refine wpList_plain hgd fun K' hK => ?_
  unfold Oper.wp
  simp [execOp, ho, resolve, invoke, builtin, hs, hx, hrun, Result.andThen]
  have hk := K A' cap' w' h1 h2 h3
  rw [List.length_append] at hk
  exact hK _ _ hk
end Go.Proofs.Ytfidakogpgdnjaa
