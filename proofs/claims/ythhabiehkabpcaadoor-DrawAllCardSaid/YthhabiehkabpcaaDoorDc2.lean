/- The landed draw's contracts: Coefs. -/
import Derived.Test.YthhabiehkabpcaaDoorDc
namespace Go.Proofs.YthhabiehkabpcaaDoor
open Go.RowKit
set_option linter.unusedVariables false
set_option linter.unusedSimpArgs false
theorem Held.new {w : World} {b : Nat} (hb : w.heap.size = b) (v : Value) (t : TypeId) : Held (w.alloc (.cells #[v] t)) b v t := by
  subst hb; exact heap_alloc_new w _
set_option maxHeartbeats 2000000 in
theorem coefs_bad (m c : Nat) (A : Option Addr) (n k : Int) (h : n < 1 ∨ 255 < n ∨ k < 0 ∨ n ≤ k) (w : World) :
    Calls Tryd.prog 4 #[.slice A m c, .int .i64 n, .int .i64 k] w (NewPair w [] 1) := by
  by_cases h1 : 1 ≤ n ∧ n ≤ 255
  · have hs : ¬ (0 ≤ k ∧ k < n) := by omega
    have c1 := count_any n true (decide_eq_true h1).symm
    have c2 := sys_any k n false (decide_eq_false hs).symm
    have C1 := Lib.hid c1
    have C2 := Lib.hid c2
    clear c1 c2 h h1 hs
    go_enter Tryd.func4, Tryd.ntmps4
    go_wp2_with fail
    refine (C1.out _).mono ?_
    rintro e w1 ⟨rfl, rfl⟩
    go_wp2_with fail
    refine (C2.out _).mono ?_
    rintro e w1 ⟨rfl, rfl⟩
    go_wp2_with fail
    go_ret2
    exact ⟨none, 0, 0, rfl, Own.none_ _ _ _, ((Keep.refl w).alloc _ _).alloc _ _⟩
  · have c1 := count_any n false (decide_eq_false h1).symm
    have C1 := Lib.hid c1
    clear c1 h h1
    go_enter Tryd.func4, Tryd.ntmps4
    go_wp2_with fail
    refine (C1.out _).mono ?_
    rintro e w1 ⟨rfl, rfl⟩
    go_wp2_with fail
    go_ret2
    exact ⟨none, 0, 0, rfl, Own.none_ _ _ _, ((Keep.refl w).alloc _ _).alloc _ _⟩
set_option maxHeartbeats 2000000 in
theorem coefs_any (B n k m c : Nat) (A : Option Addr) (xs : List Nat) (w : World) (h : Bytes w B A m xs) (hB : B ≤ w.heap.size) (h1 : 1 ≤ n) (hn : n ≤ 255) (hk : k < n) :
    Calls Tryd.prog 4 #[.slice A m c, .int .i64 (n : Int), .int .i64 (k : Int)] w (NewPair w (coefN n k xs) 0) := by
  have C1 := Lib.hid (count_any (n : Int) true (decide_eq_true (by omega)).symm)
  have C2 := Lib.hid (sys_any (k : Int) (n : Int) true (decide_eq_true (by omega)).symm)
  obtain ⟨w2, hw2⟩ : ∃ w2, (w.alloc (.cells #[.int .i64 (n : Int)] 3)).alloc (.cells #[.int .i64 (k : Int)] 3) = w2 := ⟨_, rfl⟩
  have k2 : Keep w w2 := by rw [← hw2]; exact ((Keep.refl w).alloc _ _).alloc _ _
  have g1 : Held w2 w.heap.size (.int .i64 (n : Int)) 3 := by
    rw [← hw2]; exact (Held.new rfl _ _).keep ((Keep.refl _).alloc _ _)
  have g2 : Held w2 (w.heap.size + 1) (.int .i64 (k : Int)) 3 := by
    rw [← hw2]; exact Held.new (by simp) _ _
  have HB2 := Lib.hid (h.keep hB k2)
  have HB2' : Hid (B ≤ w2.heap.size) := Nat.le_trans hB k2.size
  have q1 := g1.cell
  have q2 := g2.cell
  have G1 := Lib.hid g1
  have G2 := Lib.hid g2
  have K2 := Lib.hid k2
  clear h g1 g2 k2
  go_enter Tryd.func4, Tryd.ntmps4
  go_wp2_with fail
  refine (C1.out _).mono ?_
  rintro e w1 ⟨rfl, rfl⟩
  go_wp2_with fail
  refine (C2.out _).mono ?_
  rintro e w1 ⟨rfl, rfl⟩
  go_wp2_with fail
  refine (lay_any B n m c A xs _ HB2.out HB2'.out hn).mono ?_
  rintro e w3 ⟨A3, n3, c3, rfl, ho, kp⟩
  obtain rfl : n = n3 := by have := ho.length; rw [fillN_len] at this; exact this
  have HO := Lib.hid ho
  have HK := Lib.hid kp
  have E3 := Lib.hid (orelse_any _ _ n k c3 A3 (fillN xs n) _ _ w3 (Or.inr ho.bytes) (G1.out.keep kp) (G2.out.keep kp) hk hn)
  clear ho kp
  go_wp2_with fail
  refine E3.out.mono ?_
  rintro e w4 ⟨p1, p2⟩
  by_cases hz : vLead n (fillN xs n) < 0
  · have hc : coefN n k xs = vUnit n k := if_pos hz
    obtain ⟨A4, n4, c4, rfl, o4, k4⟩ := p1 hz
    have H4 : Hid (NewPair w (coefN n k xs) 0 (.returned (.tuple #[.slice A4 n4 c4, .int .i64 0])) w4) := by
      rw [hc]
      exact ⟨_, _, _, rfl, o4.lower ((K2.out.trans HK.out).size), (K2.out.trans HK.out).trans k4⟩
    clear p1 p2 o4 k4 hc hz
    go_wp2_with fail
    go_ret2
    exact H4.out
  · have hc : coefN n k xs = fillN xs n := if_neg hz
    obtain ⟨rfl, rfl⟩ := p2 (by omega)
    have H4 : Hid (NewPair w (coefN n k xs) 0 (.returned (.tuple #[.slice A3 n c3, .int .i64 0])) w3) := by
      rw [hc]
      exact ⟨_, _, _, rfl, HO.out.lower K2.out.size, K2.out.trans HK.out⟩
    clear p1 p2 hc hz
    go_wp2_with fail
    go_ret2
    exact H4.out
end Go.Proofs.YthhabiehkabpcaaDoor
