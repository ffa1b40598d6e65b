/- The landed calls of layer 8 for matrices of known sizes; what their answers are to one another. -/
import Derived.Test.YtofhdaeeiienfaaSk
namespace Go.Proofs.Ytofhdaeeiienfaa
open Go.RowKit Lin
set_option linter.unusedVariables false
set_option linter.unusedSimpArgs false
section
variable {r r' m : Nat} {M N : List (List Nat)}
theorem two_sz (s : Sz r m M) (s' : Sz r' m N) : conV M N = conB M N ∧ sizeE (M ++ N) = 0 ∧ sizeC (M ++ N) ≤ m ∧ meetV M N = meetN M N := by
  have h := s.append s'
  exact ⟨by rw [conV, if_pos h.fits], h.sizeE, h.sizeC_le, by rw [meetV, if_pos h.fits]⟩
theorem sz_red (s : Sz r m M) : Sz (rk M) m (reduceN M) := red_sz s
theorem sz_meet (s : Sz r m M) (s' : Sz r' m N) : Sz (meetN M N).length m (meetN M N) ∧ (meetN M N).length ≤ m := ⟨⟨rfl, (meet_red s.2 s'.2).1.1⟩, redL_length (meet_red s.2 s'.2).1⟩
theorem sz_sum (s : Sz r m M) (s' : Sz r' m N) : Sz (rk (M ++ N)) m (reduceN (M ++ N)) ∧ rk (M ++ N) ≤ m := ⟨red_sz (s.append s'), (rk_le (s.append s')).2⟩
end
section
variable {w : World} {A A' : Option Addr} {n n' c c' r r' m : Nat} {M N : List (List Nat)}
theorem sum_szm (h : Mat w ⟨A, n, c, M⟩) (k : Mat w ⟨A', n', c', N⟩) (s : Sz r m M) (s' : Sz r' m N) (hr : r ≤ 400) (hr' : r' ≤ 400) (hm : m ≤ 400) :
    Calls Try.prog 21 #[.slice A n c, .slice A' n' c'] w (NewMat w (reduceN (M ++ N)) 0) := by
  have hh := sum_mat h k (by rw [h.cnt s]; exact hr) (by rw [k.cnt s']; exact hr') (Nat.le_trans (two_sz s s').2.2.1 hm)
  rwa [(two_sz s s').2.1] at hh
theorem meet_szm (h : Mat w ⟨A, n, c, M⟩) (k : Mat w ⟨A', n', c', N⟩) (s : Sz r m M) (s' : Sz r' m N) (hr : r ≤ 400) (hr' : r' ≤ 400) (hm : m ≤ 400) :
    Calls Try.prog 23 #[.slice A n c, .slice A' n' c'] w (NewMat w (meetN M N) 0) := by
  have hh := meet_mat h k (by rw [h.cnt s]; exact hr) (by rw [k.cnt s']; exact hr') (Nat.le_trans (two_sz s s').2.2.1 hm)
  rwa [(two_sz s s').2.1, (two_sz s s').2.2.2] at hh
theorem same_szs (h : Mat w ⟨A, n, c, M⟩) (k : Mat w ⟨A', n', c', N⟩) (s : Sz r m M) (s' : Sz r' m N) (hr : r ≤ 400) (hr' : r' ≤ 400) (hm : m ≤ 400) :
    Calls Try.prog 19 #[.slice A n c, .slice A' n' c'] w fun e w' => e = .returned (.tuple #[.bool (conB M N && conB N M), .int .i64 0]) ∧ Keep w w' := by
  have hh := same_span h k (by rw [h.cnt s]; exact hr) (by rw [k.cnt s']; exact hr') (Nat.le_trans (two_sz s s').2.2.1 hm) (Nat.le_trans (two_sz s' s).2.2.1 hm)
  rwa [(two_sz s s').2.1, (two_sz s s').1, (two_sz s' s).1] at hh
theorem has_szm {xs : List Nat} (h : Mat w ⟨A, n, c, M⟩) (k : LiesIn w (fun b => b < w.heap.size) ⟨A', n', c', xs⟩) (s : Sz r m M) (s' : Sz 1 m [xs]) (hr : r ≤ 400) (hm : m ≤ 400) :
    Calls Try.prog 15 #[.slice A n c, .slice A' n' c'] w fun e w' => e = .returned (.tuple #[.bool (conB M [xs]), .int .i64 0]) ∧ Keep w w' := by
  have hh := has_mat h k (by rw [h.cnt s]; exact hr) (Nat.le_trans (two_sz s s').2.2.1 hm)
  rwa [(two_sz s s').2.1, (two_sz s s').1] at hh
set_option maxRecDepth 100000 in
theorem contains_szm (h : Mat w ⟨A, n, c, M⟩) (k : Mat w ⟨A', n', c', N⟩) (s : Sz r m M) (s' : Sz r' m N) (hr : r ≤ 400) (hr' : r' ≤ 400) (hm : m ≤ 400) :
    Calls Try.prog 30 #[.slice A n c, .slice A' n' c'] w fun e w' => e = .returned (.bool (conB M N)) ∧ Keep w w' := by
  have hh := contains_mat h k (by rw [h.cnt s]; exact hr) (by rw [k.cnt s']; exact hr') (Nat.le_trans (two_sz s s').2.2.1 hm)
  rw [(two_sz s s').2.1, (two_sz s s').1] at hh
  generalize conB M N = z at *
  have HH := Lib.hid hh
  clear hh h k s s'
  cases z <;>
  · go_enter Try.func30, Try.ntmps30
    go_wp2_with fail
    refine HH.out.mono ?_
    rintro e w1 ⟨rfl, k1⟩
    have K1 := Lib.hid k1
    clear k1
    go_wp2_with fail
    go_ret
    exact ⟨rfl, K1.out⟩
end
section
variable {a b d m : Nat} {X Y Z : List (List Nat)}
theorem con_self (s : Sz a m X) : conB X X = true := (con_iff s.2 s.2).2 (Within.refl laws _ _)
theorem con_nil (s : Sz a m X) : conB X [] = true := (con_iff s.2 (fun r hr => by simp at hr)).2 fun i hi => by simp at hi
theorem same_red (s : Sz a m X) (s' : Sz b m Y) : decide (reduceN X = reduceN Y) = (conB X Y && conB Y X) := by
  rw [Bool.eq_iff_iff, decide_eq_true_iff, Bool.and_eq_true, con_iff s.2 s'.2, con_iff s'.2 s.2, same_iff (red_of s).1 (red_of s).2 (red_of s').1 (red_of s').2]
  exact ⟨fun h => ⟨h.2, h.1⟩, fun h => ⟨h.2, h.1⟩⟩
theorem con_trans (s : Sz a m X) (s' : Sz b m Y) (s2 : Sz d m Z) (h : conB X Y = true) (k : conB Y Z = true) : conB X Z = true :=
  (con_iff s.2 s2.2).2 (((con_iff s'.2 s2.2).1 k).trans laws ((con_iff s.2 s'.2).1 h))
theorem modular_n (s : Sz a m X) (s' : Sz b m Y) (s2 : Sz d m Z) : meetN (reduceN (X ++ Z)) (reduceN (Y ++ Z)) = reduceN (meetN (reduceN (X ++ Z)) Y ++ Z) := by
  have r1 := red_of (s.append s2)
  have r2 := red_of (s'.append s2)
  have m1 := meet_red r1.1.1 r2.1.1
  have m2 := meet_red r1.1.1 s'.2
  have r3 := red_of (m2.1.1.sz.append s2)
  exact modular (X := reduceN (X ++ Z)) (Y := Y) (Z := Z) (YZ := reduceN (Y ++ Z)) m1.1 r3.1 s'.2 m2.1.1 ((Lin.within_right X Z).trans laws r1.2.2) r2.2 m1.2 m2.2 r3.2
theorem span_facts (s : Sz a m X) (s' : Sz b m Y) (s2 : Sz d m Z) :
    rk (X ++ Y) + (meetN X Y).length = rk X + rk Y ∧ conB (reduceN (X ++ Y)) X = true ∧ conB (reduceN (X ++ Y)) Y = true ∧ conB X (meetN X Y) = true ∧ conB Y (meetN X Y) = true ∧
    conB Z (reduceN (X ++ Y)) = (conB Z X && conB Z Y) ∧ conB (meetN X Y) Z = (conB X Z && conB Y Z) ∧ reduceN (Y ++ X) = reduceN (X ++ Y) ∧ meetN Y X = meetN X Y ∧ (conB X Y = true → reduceN (X ++ Y) = reduceN X ∧ (meetN X Y).length = rk Y) := by
  have rs := red_of (s.append s')
  have mm := meet_red s.2 s'.2
  refine ⟨dims_list (red_of s).1 (red_of s).2 (red_of s').1 (red_of s').2 rs.1 rs.2 mm.1 mm.2, (con_iff rs.1.1 s.2).2 ((Lin.within_left X Y).trans laws rs.2.2), (con_iff rs.1.1 s'.2).2 ((Lin.within_right X Y).trans laws rs.2.2), ?_, ?_, ?_, ?_, ?_, ?_, fun h => ?_⟩
  · exact (con_iff s.2 mm.1.1).2 fun i hi => ((mm.2 _ (mm.1.1.wide i hi)).1 (InSpan.row laws _ hi)).1
  · exact (con_iff s'.2 mm.1.1).2 fun i hi => ((mm.2 _ (mm.1.1.wide i hi)).1 (InSpan.row laws _ hi)).2
  · rw [Bool.eq_iff_iff, Bool.and_eq_true, con_iff s2.2 rs.1.1, con_iff s2.2 s.2, con_iff s2.2 s'.2]
    exact sum_least rs.2
  · rw [Bool.eq_iff_iff, Bool.and_eq_true, con_iff mm.1.1 s2.2, con_iff s.2 s2.2, con_iff s'.2 s2.2]
    exact meet_most s2.2 mm.2
  · exact sum_turned (red_of (s'.append s)).1 (red_of (s'.append s)).2 rs.1 rs.2
  · have mt := meet_red s'.2 s.2
    exact meet_turned mt.1 mt.2 mm.1 mm.2
  · have hw := (con_iff s.2 s'.2).1 h
    refine ⟨sum_contained (red_of s).1 (red_of s).2 rs.1 rs.2 hw, ?_⟩
    rw [meet_contained mm.1 mm.2 (red_of s').1 (red_of s').2 hw]; rfl
end
end Go.Proofs.Ytofhdaeeiienfaa
