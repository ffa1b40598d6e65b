/- A region that draws its order, walked by hand: what is held may grow on the way. -/
import Derived.Deep.RegionHeld3
import Derived.Tactics
namespace Go.Proofs.YtcjjhblgejkkeaaGreat

section
variable {P : Program} {ops : Array Oper} {Q : Exit → Act → World → Prop} {md : Region.Mode} {S S' : World → Prop}
/-- What is held of the world may grow on the way. -/
theorem wpAnyH_strong (hss : ∀ w, S' w → S w) : ∀ (fuel : Nat) (listed : Array Bool) (a : Act) (w : World), wpAnyH P md ops Q S' fuel listed a w → wpAnyH P md ops Q S fuel listed a w
  | 0, _, _, _, h => h
  | fuel + 1, _, _, _, h => ⟨h.1, fun i hi => wpOp_mono (fun a' w' h' => ⟨hss w' h'.1, wpAnyH_strong hss fuel _ a' w' h'.2⟩) (h.2 i hi)⟩
end
end Go.Proofs.YtcjjhblgejkkeaaGreat
