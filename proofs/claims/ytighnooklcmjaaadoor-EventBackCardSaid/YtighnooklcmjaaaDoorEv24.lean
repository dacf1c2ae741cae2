/-
  Part 24 of the texts behind the law: HeldMore.
-/
import Derived.Test.YtighnooklcmjaaaDoorEv1
import Derived.Deep.RegionHeld
/-
  A region that draws, walked under a condition on the world: from any point on the condition may be a stronger one.
-/
namespace Go.Proofs.YtighnooklcmjaaaDoor
open Go
theorem wpAnyH_strong {P : Program} {md : Region.Mode} {ops : Array Oper} {Q : Exit → Act → World → Prop} {S S' : World → Prop} (hs : ∀ w, S' w → S w) :
    ∀ {fuel : Nat} {listed : Array Bool} {a : Act} {w : World}, wpAnyH P md ops Q S' fuel listed a w → wpAnyH P md ops Q S fuel listed a w
  | 0, _, _, _, h => h
  | _ + 1, _, _, _, h => ⟨h.1, fun i hi => wpOp_mono (fun _ _ h' => ⟨hs _ h'.1, wpAnyH_strong hs h'.2⟩) (h.2 i hi)⟩
end Go.Proofs.YtighnooklcmjaaaDoor
