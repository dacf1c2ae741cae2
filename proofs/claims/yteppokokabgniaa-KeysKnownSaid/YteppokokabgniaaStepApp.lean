/-
  An append of bytes, or of a string, onto a row of the call's own, as a step of a region that draws its order.
-/
import Derived.Test.YteppokokabgniaaBytesKit
import Derived.Deep.RegionHeld3
namespace Go.Proofs.Yteppokokabgniaa
open Go.RowKit
theorem step_app {w : World} {ops : Array Oper} {o : Oper} {a : Act} {K : Act → World → Prop} {Q : Exit → Act → World → Prop} {E : Prop} (hgd : o.guard = none) (s x : Operand)
    (ho : o.op = .call { callee := .builtin .append, args := #[s, x], argTypes := #[32, 32] })
    {base : Nat} {A : Option Addr} {n cap : Nat} {xs : List Int} (hs : a.eval s = .slice A n cap) (hn : n = xs.length) (h : OwnB w base A cap xs) (hbase : base ≤ w.heap.size)
    {B : Nat} {A2 : Option Addr} {m c : Nat} {zs : List Int} (hx : a.eval x = .slice A2 m c) (hm : m = zs.length) (hb : Bytes w B A2 zs) (hlen : xs.length + zs.length ≤ 1073741824)
    (H : ∀ A' cap' w', OwnB w' base A' cap' (xs ++ zs) → Grew base w w' → K (a.put o.dst (.slice A' (xs ++ zs).length cap')) w') :
    if Region.wanted o (yielded ops a.tmps) = true then Oper.wp Try.prog o a w K Q else E := by
  have hw : Region.wanted o (yielded ops a.tmps) = true := by simp [Region.wanted, hgd]
  rw [if_pos hw]
  subst hn hm
  obtain ⟨A', cap', w', hrun, h1, h2⟩ := run_app h hbase hb c hlen o.type
  unfold Oper.wp
  simp [execOp, ho, resolve, invoke, builtin, hs, hx, hrun, Result.andThen]
  have hk := H A' cap' w' h1 h2
  rw [List.length_append] at hk
  exact hk
theorem step_app_str {w : World} {ops : Array Oper} {o : Oper} {a : Act} {K : Act → World → Prop} {Q : Exit → Act → World → Prop} {E : Prop} (hgd : o.guard = none) (s x : Operand)
    (ho : o.op = .call { callee := .builtin .append, args := #[s, x], argTypes := #[32, 9] })
    {base : Nat} {A : Option Addr} {n cap : Nat} {xs : List Int} (hs : a.eval s = .slice A n cap) (hn : n = xs.length) (h : OwnB w base A cap xs) (hbase : base ≤ w.heap.size)
    {t : ByteArray} (hx : a.eval x = .string t) (hlen : xs.length + t.size ≤ 1073741824)
    (H : ∀ A' cap' w', OwnB w' base A' cap' (xs ++ strB_ t) → Grew base w w' → K (a.put o.dst (.slice A' (xs ++ strB_ t).length cap')) w') :
    if Region.wanted o (yielded ops a.tmps) = true then Oper.wp Try.prog o a w K Q else E := by
  have hw : Region.wanted o (yielded ops a.tmps) = true := by simp [Region.wanted, hgd]
  rw [if_pos hw]
  subst hn
  obtain ⟨A', cap', w', hrun, h1, h2⟩ := run_app_str h hbase t hlen o.type
  unfold Oper.wp
  simp [execOp, ho, resolve, invoke, builtin, hs, hx, hrun, Result.andThen]
  have hk := H A' cap' w' h1 h2
  rw [List.length_append] at hk
  exact hk
theorem strB_back {zs : List Int} (h : ∀ z ∈ zs, 0 ≤ z ∧ z ≤ 255) : strB_ (strOfNums zs) = zs := by
  unfold strB_
  rw [strOfNums_data, List.map_map]
  have : ∀ z ∈ zs, (((fun c : UInt8 => (c.toNat : Int)) ∘ fun n : Int => UInt8.ofNat n.toNat) z) = z := fun z hz => by
    have := h z hz
    show ((UInt8.ofNat z.toNat).toNat : Int) = z
    rw [UInt8.toNat_ofNat']
    omega
  rw [List.map_congr_left this]
  simp
end Go.Proofs.Yteppokokabgniaa
