/-
  What the form's own reach tells of the strings inside a slice that came in.
-/
import Derived.Test.YtlaomaefhanacaaDoorRowsKit
import Derived.SizedLaws
namespace Go.Proofs.YtlaomaefhanacaaDoor
open Go.ChangeShapes Go.WideShapes Go.ChangeAt Go.RowKit
theorem weigh_all {H : Type} {P : Program} {e : TypeId} {n : Nat} : ∀ {l : List (DataW H)} {d : DataW H}, d ∈ l → n ∈ d.weights P e → n ∈ DataW.weightsAll P e l := by
  intro l
  induction l with
  | nil => intro d hd _; cases hd
  | cons a r ih =>
    intro d hd hn
    simp only [DataW.weightsAll, List.mem_append]
    rcases List.mem_cons.1 hd with rfl | h
    · exact .inl hn
    · exact .inr (ih h hn)
theorem sized_strs {H : Type} {P : Program} {ts : List TypeId} {ds : List (DataW H)} (h : (DataW.weightsEach P ts ds).all (· ≤ reachBytes) = true) {j : Nat} {t e : TypeId} {ss : List ByteArray} {spare : List (DataW H)} (ht : ts[j]? = some t) (hd : ds[j]? = some (.slice (strs ss) spare)) (hu : P.underlying t = some (.slice e)) :
    ∀ s ∈ ss, s.size ≤ 140737488355328 := fun s hs => by
  have hm : (DataW.lit (.string s.data.toList) : DataW H) ∈ strs ss := List.mem_map.2 ⟨s, hs, rfl⟩
  have hw := List.all_eq_true.1 h _ (DataW.weights_mem_each ht hd s.data.toList.length (by
    simp only [DataW.weights, hu, List.mem_cons, List.mem_append]
    exact .inr (.inl (weigh_all hm (by simp [DataW.weights])))))
  have e1 : s.data.toList.length ≤ reachBytes := by simpa using hw
  have e2 := reachBytes_lt
  have e3 : s.data.toList.length = s.size := Array.length_toList
  omega
end Go.Proofs.YtlaomaefhanacaaDoor
