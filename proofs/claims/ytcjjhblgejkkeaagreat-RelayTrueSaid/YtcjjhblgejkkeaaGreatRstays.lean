/- The walk of RelayStays. -/
import Derived.Test.YtcjjhblgejkkeaaGreatRturns
import Derived.Test.YtcjjhblgejkkeaaGreatRpl
import Derived.Test.YtcjjhblgejkkeaaGreatRtr
import Derived.Test.YtcjjhblgejkkeaaGreatRwk
import Derived.Test.YtcjjhblgejkkeaaGreatRs1
import Derived.Test.YtcjjhblgejkkeaaGreatRps
import Derived.Test.YtcjjhblgejkkeaaGreatArr
import Derived.Deep.DeepCutAuto
import Derived.Deep.CutBlock
namespace Go.Proofs.YtcjjhblgejkkeaaGreat
open Go.RowKit Lin
set_option linter.unusedVariables false
set_option linter.unusedSimpArgs false
theorem rks_mem {L : Nat → List (List Nat)} {l : List Nat} {x : Nat × Nat} (h : x ∈ rksOf L l) : x.1 ∈ l ∧ 0 < (L x.1).length ∧ x.2 = (L x.1).length := by
  obtain ⟨n, hn, rfl⟩ := List.mem_map.1 h
  obtain ⟨h1, h2⟩ := List.mem_filter.1 hn
  exact ⟨h1, of_decide_eq_true h2, rfl⟩
theorem rks_len (L : Nat → List (List Nat)) (l : List Nat) : (rksOf L l).length ≤ l.length := by
  rw [rksOf, List.length_map]; exact List.length_filter_le _ _
/-- Rows told by two relays, the same. -/
theorem told_same {w1 w2 w3 : World} {A5 A6 : Option Addr} {n5 c5 n6 c6 g s : Nat} {B : List (List Nat)} {ps qs : List PairV} (o5 : OwnedSt w1 w2 A5 n5 c5 g s B ps) (o6 : OwnedSt w2 w3 A6 n6 c6 g s B qs) (hB : B.length ≤ 1000) :
    Calls Tryz.prog 23 #[.slice A5 n5 c5, .slice A6 n6 c6] w3 fun e w' => e = .returned (.bool true) ∧ ∃ k, w' = w3.drewN k := by
  have hn5 : n5 ≤ 1000000 := by
    have h1 := o5.1.length
    have h2 := congrArg List.length o5.2.2.1
    rw [List.length_map] at h2
    omega
  have hsame : pairXs ps = pairXs qs := by
    refine pairs_told (g := g) (o5.2.2.1.trans o6.2.2.1.symm) (fun p hp => ?_) fun p hp => ?_
    · rw [(o5.2.1 p hp).1.length]; exact (o5.2.1 p hp).2.2.1
    · rw [(o6.2.1 p hp).1.length]; exact (o6.2.1 p hp).2.2.1
  have hsm := rpsame_any n5 n6 c5 c6 A5 A6 _ _ ps qs w3 (o5.stIn.keep o6.2.2.2) o6.stIn (fun b hb => Nat.lt_of_lt_of_le hb.2 o6.2.2.2.size) (fun b hb => hb.2) hn5
  rwa [decide_eq_true hsame] at hsm
end Go.Proofs.YtcjjhblgejkkeaaGreat
