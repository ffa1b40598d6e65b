/- A region that draws its order, walked by hand: what is held may grow on the way. -/
import Derived.Deep.RegionHeld3
import Derived.Tactics
namespace Go.Proofs.Ytgogafhpchfinaa

section
variable {P : Program} {ops : Array Oper} {Q : Exit → Act → World → Prop} {md : Region.Mode} {S S' : World → Prop}
end
end Go.Proofs.Ytgogafhpchfinaa
