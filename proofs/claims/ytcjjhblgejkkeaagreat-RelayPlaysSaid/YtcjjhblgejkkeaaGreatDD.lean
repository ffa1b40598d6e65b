/- Vector's landed contracts that stage 11 leans on: Lead, IsZero, Unit. -/
import Derived.Test.YtcjjhblgejkkeaaGreatVA
import Derived.Test.YtcjjhblgejkkeaaGreatNew
import Derived.Test.YtcjjhblgejkkeaaGreatVecB
import Derived.Test.YtcjjhblgejkkeaaGreatRegion
import Derived.OneCell
import Derived.Test.YtcjjhblgejkkeaaGreatFill
namespace Go.Proofs.YtcjjhblgejkkeaaGreat
open Go.RowKit
set_option linter.unusedVariables false
set_option linter.unusedSimpArgs false
theorem vzero_eq (B n ca : Nat) (A : Option Addr) (xs : List Nat) (w : World) (h : Bytes w B A n xs) (hn : n ≤ 140737488351232) :
    Calls Tryz.prog 39 #[.slice A n ca] w fun e w' => e = .returned (.bool (decide (vLead n xs < 0))) ∧ w = w' := by
  go_enter Tryz.func39, Tryz.ntmps39
  go_wp2_with fail
  refine (vlead_eq B n ca A xs w h hn).mono ?_
  rintro e w1 ⟨rfl, rfl⟩
  go_wp2_with fail
  go_ret
  exact ⟨rfl, rfl⟩
theorem vLead_unit (n k : Nat) (hk : k < n) : vLead n (vUnit n k) = k := by
  have h : vLeadTo (vUnit n k) n = some k := (vLeadTo_some _ n k).2 ⟨hk, by rw [vUnit, tab_getD, if_pos hk, if_pos rfl]; decide, fun i hi => by rw [vUnit, tab_getD, if_pos (by omega), if_neg (by omega)]⟩
  rw [vLead, h]
end Go.Proofs.YtcjjhblgejkkeaaGreat
/- The landed draw's contracts: isCount, Systematic, Turn, lay, orElse, Coefs. -/
namespace Go.Proofs.YtcjjhblgejkkeaaGreat
open Go.RowKit
set_option linter.unusedVariables false
set_option linter.unusedSimpArgs false
/-- What is drawn of n rows. -/
def coefN (n k : Nat) (xs : List Nat) : List Nat := if vLead n (fillN xs n) < 0 then vUnit n k else fillN xs n
theorem vUnit_len (n k : Nat) : (vUnit n k).length = n := tab_length _ _
theorem coefN_len (n k : Nat) (xs : List Nat) : (coefN n k xs).length = n := by
  unfold coefN; split
  · exact vUnit_len n k
  · exact fillN_len xs n
theorem count_any (n : Int) (b : Bool) (hb : b = decide (1 ≤ n ∧ n ≤ 255)) (w : World) :
    Calls Tryz.prog 99 #[.int .i64 n] w fun e w' => e = .returned (.bool b) ∧ w = w' := by
  by_cases h1 : 1 ≤ n
  · by_cases h2 : n ≤ 255
    · obtain rfl : b = true := by rw [hb]; exact decide_eq_true ⟨h1, h2⟩
      clear hb
      go_enter Tryz.func99, Tryz.ntmps99
      go_wp2_with fail
      go_ret
      exact ⟨rfl, rfl⟩
    · obtain rfl : b = false := by rw [hb]; exact decide_eq_false (fun h => h2 h.2)
      clear hb
      go_enter Tryz.func99, Tryz.ntmps99
      go_wp2_with fail
      go_ret
      exact ⟨rfl, rfl⟩
  · obtain rfl : b = false := by rw [hb]; exact decide_eq_false (fun h => h1 h.1)
    clear hb
    go_enter Tryz.func99, Tryz.ntmps99
    go_wp2_with fail
    go_ret
    exact ⟨rfl, rfl⟩
theorem sys_any (t n : Int) (b : Bool) (hb : b = decide (0 ≤ t ∧ t < n)) (w : World) :
    Calls Tryz.prog 100 #[.int .i64 t, .int .i64 n] w fun e w' => e = .returned (.bool b) ∧ w = w' := by
  by_cases h1 : 0 ≤ t
  · by_cases h2 : t < n
    · obtain rfl : b = true := by rw [hb]; exact decide_eq_true ⟨h1, h2⟩
      clear hb
      go_enter Tryz.func100, Tryz.ntmps100
      go_wp2_with fail
      go_ret
      exact ⟨rfl, rfl⟩
    · obtain rfl : b = false := by rw [hb]; exact decide_eq_false (fun h => h2 h.2)
      clear hb
      go_enter Tryz.func100, Tryz.ntmps100
      go_wp2_with fail
      go_ret
      exact ⟨rfl, rfl⟩
  · obtain rfl : b = false := by rw [hb]; exact decide_eq_false (fun h => h1 h.1)
    clear hb
    go_enter Tryz.func100, Tryz.ntmps100
    go_wp2_with fail
    go_ret
    exact ⟨rfl, rfl⟩
set_option maxHeartbeats 1000000 in
theorem lay_any (B n m c : Nat) (A : Option Addr) (xs : List Nat) (w : World) (h : Bytes w B A m xs) (hB : B ≤ w.heap.size) (hn : n ≤ 255) :
    Calls Tryz.prog 102 #[.slice A m c, .int .i64 (n : Int)] w (NewBytes w (fillN xs n)) := by
  have hmk := run_make_bytes (P := Tryz.prog) Tryz.underlying32 info5 n (by omega) w
  obtain ⟨w1, v1, hr, hg, hk⟩ := run_copy_fill (P := Tryz.prog) (n := n) (t := 32) (e := 5) (c := c) (ty := 3) Tryz.underlying32 (by kernel_rfl) h hB (by omega)
  have HG := Lib.hid hg
  have HK := Lib.hid hk
  clear h hg hk
  go_enter Tryz.func102, Tryz.ntmps102
  go_wp2_with fail
  go_ret
  exact ⟨_, n, n, rfl, HG.out, HK.out⟩
theorem instead_any (b1 b2 n k : Nat) (t1 t2 : TypeId) (w : World) (h1 : Held w b1 (.int .i64 (n : Int)) t1) (h2 : Held w b2 (.int .i64 (k : Int)) t2) (hk : k < n) (hn : n ≤ 255) :
    Calls Tryz.prog 103 #[.pointer (some ⟨b1, 0, none⟩), .pointer (some ⟨b2, 0, none⟩)] w (NewPair w (vUnit n k) 0) := by
  have c1 := h1.cell
  have c2 := h2.cell
  clear h1 h2
  go_enter Tryz.func103, Tryz.ntmps103
  go_wp2_with fail
  refine (vunit_in n k hk (by omega) _).mono ?_
  rintro e w1 ⟨A, m, c, rfl, ho, kp⟩
  have HO := Lib.hid ho
  have HK := Lib.hid kp
  clear ho kp
  go_wp2_with fail
  go_ret2
  exact ⟨_, _, _, rfl, HO.out, HK.out⟩
set_option maxHeartbeats 1000000 in
theorem orelse_any (b1 b2 n k c : Nat) (A : Option Addr) (xs : List Nat) (t1 t2 : TypeId) (w : World) (h : Own w w.heap.size 5 A n c xs ∨ Bytes w w.heap.size A n xs) (h1 : Held w b1 (.int .i64 (n : Int)) t1) (h2 : Held w b2 (.int .i64 (k : Int)) t2) (hk : k < n) (hn : n ≤ 255) :
    Calls Tryz.prog 101 #[.slice A n c, .func (.func 103) #[] #[.pointer (some ⟨b1, 0, none⟩), .pointer (some ⟨b2, 0, none⟩)]] w fun e w' =>
      (vLead n xs < 0 → NewPair w (vUnit n k) 0 e w') ∧ (¬ vLead n xs < 0 → e = .returned (.tuple #[.slice A n c, .int .i64 0]) ∧ w = w') := by
  have hb : Bytes w w.heap.size A n xs := by
    rcases h with h | h
    · exact h.bytes
    · exact h
  have H1 := Lib.hid h1
  have H2 := Lib.hid h2
  clear h h1 h2
  have HZ := Lib.hid (vzero_eq w.heap.size n c A xs w hb (by omega))
  clear hb
  by_cases hz : vLead n xs < 0
  · have HB : Hid (vLead n xs < 0) := hz
    have hd : decide (vLead n xs < 0) = true := decide_eq_true hz
    generalize decide (vLead n xs < 0) = q at *
    subst hd
    clear hz
    go_enter Tryz.func101, Tryz.ntmps101
    go_wp2_with fail
    refine HZ.out.mono ?_
    rintro e w1 ⟨rfl, rfl⟩
    go_wp2_with fail
    refine (instead_any b1 b2 n k t1 t2 _ H1.out H2.out hk hn).mono ?_
    rintro e w1 ⟨A', m, c', rfl, ho, kp⟩
    have HO := Lib.hid ho
    have HK := Lib.hid kp
    clear ho kp
    go_wp2_with fail
    go_ret2
    exact ⟨fun _ => ⟨_, _, _, rfl, HO.out, HK.out⟩, fun e => by have := HB.out; omega⟩
  · have HB : Hid (¬ vLead n xs < 0) := hz
    have hd : decide (vLead n xs < 0) = false := decide_eq_false hz
    generalize decide (vLead n xs < 0) = q at *
    subst hd
    clear hz
    go_enter Tryz.func101, Tryz.ntmps101
    go_wp2_with fail
    refine HZ.out.mono ?_
    rintro e w1 ⟨rfl, rfl⟩
    go_wp2_with fail
    go_ret2
    exact ⟨fun e => by have := HB.out; omega, fun _ => ⟨rfl, rfl⟩⟩
end Go.Proofs.YtcjjhblgejkkeaaGreat
/- The landed draw's contracts: Coefs. -/
namespace Go.Proofs.YtcjjhblgejkkeaaGreat
open Go.RowKit
set_option linter.unusedVariables false
set_option linter.unusedSimpArgs false
set_option maxHeartbeats 2000000 in
theorem coefs_bad (m c : Nat) (A : Option Addr) (n k : Int) (h : n < 1 ∨ 255 < n ∨ k < 0 ∨ n ≤ k) (w : World) :
    Calls Tryz.prog 56 #[.slice A m c, .int .i64 n, .int .i64 k] w (NewPair w [] 1) := by
  by_cases h1 : 1 ≤ n ∧ n ≤ 255
  · have hs : ¬ (0 ≤ k ∧ k < n) := by omega
    have c1 := count_any n true (decide_eq_true h1).symm
    have c2 := sys_any k n false (decide_eq_false hs).symm
    have C1 := Lib.hid c1
    have C2 := Lib.hid c2
    clear c1 c2 h h1 hs
    go_enter Tryz.func56, Tryz.ntmps56
    go_wp2_with fail
    refine (C1.out _).mono ?_
    rintro e w1 ⟨rfl, rfl⟩
    go_wp2_with fail
    refine (C2.out _).mono ?_
    rintro e w1 ⟨rfl, rfl⟩
    go_wp2_with fail
    go_ret2
    exact ⟨none, 0, 0, rfl, Own.none_ _ _ _, ((Keep.refl w).alloc _ _).alloc _ _⟩
  · have c1 := count_any n false (decide_eq_false h1).symm
    have C1 := Lib.hid c1
    clear c1 h h1
    go_enter Tryz.func56, Tryz.ntmps56
    go_wp2_with fail
    refine (C1.out _).mono ?_
    rintro e w1 ⟨rfl, rfl⟩
    go_wp2_with fail
    go_ret2
    exact ⟨none, 0, 0, rfl, Own.none_ _ _ _, ((Keep.refl w).alloc _ _).alloc _ _⟩
set_option maxHeartbeats 2000000 in
theorem coefs_any (B n k m c : Nat) (A : Option Addr) (xs : List Nat) (w : World) (h : Bytes w B A m xs) (hB : B ≤ w.heap.size) (h1 : 1 ≤ n) (hn : n ≤ 255) (hk : k < n) :
    Calls Tryz.prog 56 #[.slice A m c, .int .i64 (n : Int), .int .i64 (k : Int)] w (NewPair w (coefN n k xs) 0) := by
  have C1 := Lib.hid (count_any (n : Int) true (decide_eq_true (by omega)).symm)
  have C2 := Lib.hid (sys_any (k : Int) (n : Int) true (decide_eq_true (by omega)).symm)
  obtain ⟨w2, hw2⟩ : ∃ w2, (w.alloc (.cells #[.int .i64 (n : Int)] 3)).alloc (.cells #[.int .i64 (k : Int)] 3) = w2 := ⟨_, rfl⟩
  have k2 : Keep w w2 := by rw [← hw2]; exact ((Keep.refl w).alloc _ _).alloc _ _
  have g1 : Held w2 w.heap.size (.int .i64 (n : Int)) 3 := by
    rw [← hw2]; exact (Held.new rfl _ _).keep ((Keep.refl _).alloc _ _)
  have g2 : Held w2 (w.heap.size + 1) (.int .i64 (k : Int)) 3 := by
    rw [← hw2]; exact Held.new (by simp) _ _
  have HB2 := Lib.hid (h.keep hB k2)
  have HB2' : Hid (B ≤ w2.heap.size) := Nat.le_trans hB k2.size
  have q1 := g1.cell
  have q2 := g2.cell
  have G1 := Lib.hid g1
  have G2 := Lib.hid g2
  have K2 := Lib.hid k2
  clear h g1 g2 k2
  go_enter Tryz.func56, Tryz.ntmps56
  go_wp2_with fail
  refine (C1.out _).mono ?_
  rintro e w1 ⟨rfl, rfl⟩
  go_wp2_with fail
  refine (C2.out _).mono ?_
  rintro e w1 ⟨rfl, rfl⟩
  go_wp2_with fail
  refine (lay_any B n m c A xs _ HB2.out HB2'.out hn).mono ?_
  rintro e w3 ⟨A3, n3, c3, rfl, ho, kp⟩
  obtain rfl : n = n3 := by have := ho.length; rw [fillN_len] at this; exact this
  have HO := Lib.hid ho
  have HK := Lib.hid kp
  have E3 := Lib.hid (orelse_any _ _ n k c3 A3 (fillN xs n) _ _ w3 (Or.inr ho.bytes) (G1.out.keep kp) (G2.out.keep kp) hk hn)
  clear ho kp
  go_wp2_with fail
  refine E3.out.mono ?_
  rintro e w4 ⟨p1, p2⟩
  by_cases hz : vLead n (fillN xs n) < 0
  · have hc : coefN n k xs = vUnit n k := if_pos hz
    obtain ⟨A4, n4, c4, rfl, o4, k4⟩ := p1 hz
    have H4 : Hid (NewPair w (coefN n k xs) 0 (.returned (.tuple #[.slice A4 n4 c4, .int .i64 0])) w4) := by
      rw [hc]
      exact ⟨_, _, _, rfl, o4.lower ((K2.out.trans HK.out).size), (K2.out.trans HK.out).trans k4⟩
    clear p1 p2 o4 k4 hc hz
    go_wp2_with fail
    go_ret2
    exact H4.out
  · have hc : coefN n k xs = fillN xs n := if_neg hz
    obtain ⟨rfl, rfl⟩ := p2 (by omega)
    have H4 : Hid (NewPair w (coefN n k xs) 0 (.returned (.tuple #[.slice A3 n c3, .int .i64 0])) w3) := by
      rw [hc]
      exact ⟨_, _, _, rfl, HO.out.lower K2.out.size, K2.out.trans HK.out⟩
    clear p1 p2 hc hz
    go_wp2_with fail
    go_ret2
    exact H4.out
end Go.Proofs.YtcjjhblgejkkeaaGreat
/- The landed draw's contracts: Turn. -/
namespace Go.Proofs.YtcjjhblgejkkeaaGreat
open Go.RowKit
set_option linter.unusedVariables false
set_option linter.unusedSimpArgs false
theorem turn_bad (s : Nat) (n : Int) (h : n < 1 ∨ 255 < n) (w : World) :
    Calls Tryz.prog 55 #[.int .u64 (s : Int), .int .i64 n] w fun e w' => e = .returned (.tuple #[.int .i64 0, .int .i64 1]) ∧ w = w' := by
  have C1 := Lib.hid (count_any n false (decide_eq_false (by omega)).symm)
  clear h
  go_enter Tryz.func55, Tryz.ntmps55
  go_wp2_with fail
  refine (C1.out _).mono ?_
  rintro e w1 ⟨rfl, rfl⟩
  go_wp2_with fail
  go_ret2
  exact ⟨rfl, rfl⟩
/-- What a remainder is, as the walk writes it. -/
theorem rem_facts (s n : Nat) (hs : s < 18446744073709551616) (h1 : 1 ≤ n) (hn : n ≤ 255) : ∃ t : Nat, s % n = t ∧ t < n ∧ (s : Int).tmod (n : Int) = (t : Int) ∧ IntKind.u64.wrap (n : Int) = (n : Int) ∧ IntKind.u64.wrap (t : Int) = (t : Int) ∧ IntKind.i64.wrap (t : Int) = (t : Int) := by
  have ht : s % n < n := Nat.mod_lt _ (by omega)
  refine ⟨_, rfl, ht, ?_, ?_, ?_, ?_⟩
  · rw [Int.tmod_eq_emod_of_nonneg (by omega)]; omega
  · exact IntWalk.u64_in _ (by omega)
  · exact IntWalk.u64_in _ (by omega)
  · exact IntWalk.i64_in _ (by omega)
set_option maxHeartbeats 2000000 in
theorem turn_any (s n : Nat) (hs : s < 18446744073709551616) (h1 : 1 ≤ n) (hn : n ≤ 255) (w : World) :
    Calls Tryz.prog 55 #[.int .u64 (s : Int), .int .i64 (n : Int)] w fun e w' => e = .returned (.tuple #[.int .i64 (s % n : Nat), .int .i64 0]) ∧ w = w' := by
  obtain ⟨t, ht, hlt, e1, e2, e3, e4⟩ := rem_facts s n hs h1 hn
  have HT := Lib.hid ht
  have C1 := Lib.hid (count_any (n : Int) true (decide_eq_true (by omega)).symm)
  have n0 : ((n : Int) == 0) = false := beq_eq_false_iff_ne.2 (by omega)
  have n1 : (n : Int) ≠ 0 := by omega
  clear ht
  go_enter Tryz.func55, Tryz.ntmps55
  go_wp2_with fail
  refine (C1.out _).mono ?_
  rintro e w1 ⟨rfl, rfl⟩
  go_wp2_with fail
  go_ret2
  exact ⟨by rw [HT.out]; rfl, rfl⟩
end Go.Proofs.YtcjjhblgejkkeaaGreat
