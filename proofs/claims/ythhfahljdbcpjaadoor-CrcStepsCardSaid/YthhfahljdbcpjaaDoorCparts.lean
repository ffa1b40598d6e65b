/- The walk of CrcParts. -/
import Derived.Test.YthhfahljdbcpjaaDoorCwakes
import Derived.Test.YthhfahljdbcpjaaDoorWide
namespace Go.Proofs.YthhfahljdbcpjaaDoor
open Go.RowKit Crc
theorem joinVal_in (a b n : Nat) (h : n ≤ 1048576) : joinVal a b (n : Int) = meetN a b n ∧ joinErr (n : Int) = 0 := by
  rw [joinVal, joinErr, if_neg (by omega), if_neg (by omega), Int.toNat_natCast]; exact ⟨rfl, rfl⟩
set_option maxRecDepth 100000 in
set_option maxHeartbeats 4000000 in
theorem parts_any (n1 n2 n3 d1 d2 d3 : Nat) (A1 A2 A3 : Option Addr) (xs ys zs : List Nat) (w : World) (hT : TabW w) (h1 : Bytes w w.heap.size A1 n1 xs) (h2 : Bytes w w.heap.size A2 n2 ys) (h3 : Bytes w w.heap.size A3 n3 zs)
    (m1 : n1 ≤ 140737488351232) (m2 : n2 ≤ 140737488351232) (m3 : n3 ≤ 140737488351232) :
    Calls Tryd.prog 7 #[.slice A1 n1 d1, .slice A2 n2 d2, .slice A3 n3 d3] w fun e w' => e = .returned (.bool true) ∧ Keep w w' := by
  have HT := Lib.hid hT
  have B1 := Lib.hid h1
  have B2 := Lib.hid h2
  have B3 := Lib.hid h3
  by_cases hbig : 1048576 < n2 + n3
  · have e1 : (1048576 : Int) < (n2 : Int) + (n3 : Int) := by omega
    clear hT h1 h2 h3 hbig
    go_enter Tryd.func7, Tryd.ntmps7
    go_wp2_with fail
    refine (wakes_any _ HT.out).mono ?_
    rintro e w1 ⟨rfl, k1⟩
    have K1 := Lib.hid k1
    clear k1
    go_wp2_with fail
    go_ret
    exact ⟨rfl, K1.out⟩
  · have e1 : ¬ (1048576 : Int) < (n2 : Int) + (n3 : Int) := by omega
    obtain ⟨n4, e4⟩ : ∃ n4, n2 + n3 = n4 := ⟨_, rfl⟩
    have e5 : (n2 : Int) + (n3 : Int) = (n4 : Int) := by omega
    have sa := sum_lt h1.all
    have sb := sum_lt h2.all
    have sc := sum_lt h3.all
    have q1 : sumN (xs ++ (ys ++ zs)) = meetN (meetN (sumN xs) (sumN ys) n2) (sumN zs) n3 := by rw [← List.append_assoc, sum_append, sum_append, h2.length, h3.length]
    have q2 : meetN (sumN xs) (meetN (sumN ys) (sumN zs) n3) n4 = meetN (meetN (sumN xs) (sumN ys) n2) (sumN zs) n3 := by rw [join_join, e4]
    have Q := Lib.hid (And.intro q1 q2)
    have ab := joinVal_in (sumN xs) (sumN ys) n2 (by omega)
    have bc := joinVal_in (sumN ys) (sumN zs) n3 (by omega)
    have jl := joinVal_in (meetN (sumN xs) (sumN ys) n2) (sumN zs) n3 (by omega)
    have jr := joinVal_in (sumN xs) (meetN (sumN ys) (sumN zs) n3) n4 (by omega)
    have jn := joinVal_in (sumN xs) 0 0 (by omega)
    have lab := join_lt n2 sa sb
    have lbc := join_lt n3 sb sc
    rw [join_none] at jn
    rw [q2] at jr
    have ll := join_lt n3 lab sc
    have J := Lib.hid (And.intro ab (And.intro bc (And.intro jl (And.intro jr jn))))
    clear hT h1 h2 h3 hbig e4 q1 q2 ab bc jl jr jn
    generalize meetN (meetN (sumN xs) (sumN ys) n2) (sumN zs) n3 = L at *
    generalize meetN (sumN xs) (sumN ys) n2 = AB at *
    generalize meetN (sumN ys) (sumN zs) n3 = BC at *
    go_enter Tryd.func7, Tryd.ntmps7
    go_wp2_with (at_builtin; refine wpList_append_wide rfl _ _ 22 rfl Tryd.underlying22 info5 rfl (Own.none_ w w.heap.size 5) rfl B1.out (by omega) (Nat.le_refl _) ?_)
    intro P1 c1 w1 o1 g1
    have O1 := Lib.hid o1
    have K1 := Lib.hid ((Keep.refl w).grown g1 (fun k hk => by cases hk))
    clear o1 g1
    go_wp2_with (at_builtin; refine wpList_append_wide rfl _ _ 22 rfl Tryd.underlying22 info5 rfl O1.out rfl (B2.out.keep (Nat.le_refl _) K1.out) (by omega) K1.out.size ?_)
    intro P2 c2 w2 o2 g2
    have O2 := Lib.hid o2
    have K2 := Lib.hid (K1.out.grown g2 O1.out.rowLe)
    clear o2 g2
    go_wp2_with (at_builtin; refine wpList_append_wide rfl _ _ 22 rfl Tryd.underlying22 info5 rfl O2.out rfl (B3.out.keep (Nat.le_refl _) K2.out) (by omega) K2.out.size ?_)
    intro P3 c3 w3 o3 g3
    have O3 := Lib.hid o3
    have K3 := Lib.hid (K2.out.grown g3 O2.out.rowLe)
    clear o3 g3
    have t3 := HT.out.keep K3.out
    have T3 := Lib.hid t3
    clear t3
    go_wp2_with fail
    refine (csum_any _ n1 d1 A1 xs _ T3.out (B1.out.keep (Nat.le_refl _) K3.out) (by omega)).mono ?_
    rintro e wx ⟨rfl, rfl⟩
    go_wp2_with fail
    refine (csum_any _ n2 d2 A2 ys _ T3.out (B2.out.keep (Nat.le_refl _) K3.out) (by omega)).mono ?_
    rintro e wx ⟨rfl, rfl⟩
    go_wp2_with fail
    refine (cjoin_any _ _ _ sa sb _ T3.out).mono ?_
    rw [J.out.1.1, J.out.1.2]
    rintro e wx ⟨rfl, rfl⟩
    go_wp2_with fail
    refine (csum_any _ n2 d2 A2 ys _ T3.out (B2.out.keep (Nat.le_refl _) K3.out) (by omega)).mono ?_
    rintro e wx ⟨rfl, rfl⟩
    go_wp2_with fail
    refine (csum_any _ n3 d3 A3 zs _ T3.out (B3.out.keep (Nat.le_refl _) K3.out) (by omega)).mono ?_
    rintro e wx ⟨rfl, rfl⟩
    go_wp2_with fail
    refine (cjoin_any _ _ _ sb sc _ T3.out).mono ?_
    rw [J.out.2.1.1, J.out.2.1.2]
    rintro e wx ⟨rfl, rfl⟩
    go_wp2_with fail
    refine (csum_any _ n3 d3 A3 zs _ T3.out (B3.out.keep (Nat.le_refl _) K3.out) (by omega)).mono ?_
    rintro e wx ⟨rfl, rfl⟩
    go_wp2_with fail
    refine (cjoin_any _ _ _ lab sc _ T3.out).mono ?_
    rw [J.out.2.2.1.1, J.out.2.2.1.2]
    rintro e wx ⟨rfl, rfl⟩
    go_wp2_with fail
    refine (csum_any _ n1 d1 A1 xs _ T3.out (B1.out.keep (Nat.le_refl _) K3.out) (by omega)).mono ?_
    rintro e wx ⟨rfl, rfl⟩
    go_wp2_with fail
    refine (cjoin_any _ _ _ sa lbc _ T3.out).mono ?_
    rw [J.out.2.2.2.1.1, J.out.2.2.2.1.2]
    rintro e wx ⟨rfl, rfl⟩
    go_wp2_with fail
    refine (csum_any _ n1 d1 A1 xs _ T3.out (B1.out.keep (Nat.le_refl _) K3.out) (by omega)).mono ?_
    rintro e wx ⟨rfl, rfl⟩
    go_wp2_with fail
    refine (cjoin_any _ 0 0 sa (by decide) _ T3.out).mono ?_
    rw [show (0 : Int) = ((0 : Nat) : Int) from rfl, J.out.2.2.2.2.1, J.out.2.2.2.2.2]
    rintro e wx ⟨rfl, rfl⟩
    have bL : ((L : Int) == (L : Int)) = true := beq_iff_eq.2 rfl
    have bA : ((sumN xs : Int) == (sumN xs : Int)) = true := beq_iff_eq.2 rfl
    go_wp2_with fail
    refine (csum_any _ _ c3 P3 (xs ++ (ys ++ zs)) _ T3.out O3.out.bytes (by omega)).mono ?_
    rw [Q.out.1]
    rintro e wx ⟨rfl, rfl⟩
    go_wp2_with fail
    refine (csum_any _ n1 d1 A1 xs _ T3.out (B1.out.keep (Nat.le_refl _) K3.out) (by omega)).mono ?_
    rintro e wx ⟨rfl, rfl⟩
    go_wp2_with fail
    refine (wakes_any _ T3.out).mono ?_
    rintro e w4 ⟨rfl, k4⟩
    have K4 := Lib.hid (K3.out.trans k4)
    clear k4
    go_wp2_with fail
    go_ret
    exact ⟨rfl, K4.out⟩
end Go.Proofs.YthhfahljdbcpjaaDoor
