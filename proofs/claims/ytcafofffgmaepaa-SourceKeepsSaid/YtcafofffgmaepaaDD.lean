/- The landed draw's contracts: isCount, Systematic, Turn, lay, orElse, Coefs. -/
import Derived.Test.YtcafofffgmaepaaDv
import Derived.Test.YtcafofffgmaepaaFill
namespace Go.Proofs.Ytcafofffgmaepaa
open Go.RowKit
set_option linter.unusedVariables false
set_option linter.unusedSimpArgs false
/-- What is drawn of n rows. -/
def coefN (n k : Nat) (xs : List Nat) : List Nat := if vLead n (fillN xs n) < 0 then vUnit n k else fillN xs n
theorem vUnit_len (n k : Nat) : (vUnit n k).length = n := tab_length _ _
theorem coefN_len (n k : Nat) (xs : List Nat) : (coefN n k xs).length = n := by
  unfold coefN; split
  · exact vUnit_len n k
  · exact fillN_len xs n
theorem count_any (n : Int) (b : Bool) (hb : b = decide (1 ≤ n ∧ n ≤ 255)) (w : World) :
    Calls Try.prog 116 #[.int .i64 n] w fun e w' => e = .returned (.bool b) ∧ w = w' := by
  by_cases h1 : 1 ≤ n
  · by_cases h2 : n ≤ 255
    · obtain rfl : b = true := by rw [hb]; exact decide_eq_true ⟨h1, h2⟩
      clear hb
      go_enter Try.func116, Try.ntmps116
      go_wp2_with fail
      go_ret
      exact ⟨rfl, rfl⟩
    · obtain rfl : b = false := by rw [hb]; exact decide_eq_false (fun h => h2 h.2)
      clear hb
      go_enter Try.func116, Try.ntmps116
      go_wp2_with fail
      go_ret
      exact ⟨rfl, rfl⟩
  · obtain rfl : b = false := by rw [hb]; exact decide_eq_false (fun h => h1 h.1)
    clear hb
    go_enter Try.func116, Try.ntmps116
    go_wp2_with fail
    go_ret
    exact ⟨rfl, rfl⟩
theorem sys_any (t n : Int) (b : Bool) (hb : b = decide (0 ≤ t ∧ t < n)) (w : World) :
    Calls Try.prog 99 #[.int .i64 t, .int .i64 n] w fun e w' => e = .returned (.bool b) ∧ w = w' := by
  by_cases h1 : 0 ≤ t
  · by_cases h2 : t < n
    · obtain rfl : b = true := by rw [hb]; exact decide_eq_true ⟨h1, h2⟩
      clear hb
      go_enter Try.func99, Try.ntmps99
      go_wp2_with fail
      go_ret
      exact ⟨rfl, rfl⟩
    · obtain rfl : b = false := by rw [hb]; exact decide_eq_false (fun h => h2 h.2)
      clear hb
      go_enter Try.func99, Try.ntmps99
      go_wp2_with fail
      go_ret
      exact ⟨rfl, rfl⟩
  · obtain rfl : b = false := by rw [hb]; exact decide_eq_false (fun h => h1 h.1)
    clear hb
    go_enter Try.func99, Try.ntmps99
    go_wp2_with fail
    go_ret
    exact ⟨rfl, rfl⟩
set_option maxHeartbeats 1000000 in
theorem lay_any (B n m c : Nat) (A : Option Addr) (xs : List Nat) (w : World) (h : Bytes w B A m xs) (hB : B ≤ w.heap.size) (hn : n ≤ 255) :
    Calls Try.prog 118 #[.slice A m c, .int .i64 (n : Int)] w (NewBytes w (fillN xs n)) := by
  have hmk := run_make_bytes (P := Try.prog) Try.underlying22 info5 n (by omega) w
  obtain ⟨w1, v1, hr, hg, hk⟩ := run_copy_fill (P := Try.prog) (n := n) (t := 22) (e := 5) (c := c) (ty := 3) Try.underlying22 (by kernel_rfl) h hB (by omega)
  have HG := Lib.hid hg
  have HK := Lib.hid hk
  clear h hg hk
  go_enter Try.func118, Try.ntmps118
  go_wp2_with fail
  go_ret
  exact ⟨_, n, n, rfl, HG.out, HK.out⟩
theorem instead_any (b1 b2 n k : Nat) (t1 t2 : TypeId) (w : World) (h1 : Held w b1 (.int .i64 (n : Int)) t1) (h2 : Held w b2 (.int .i64 (k : Int)) t2) (hk : k < n) (hn : n ≤ 255) :
    Calls Try.prog 119 #[.pointer (some ⟨b1, 0, none⟩), .pointer (some ⟨b2, 0, none⟩)] w (NewPair w (vUnit n k) 0) := by
  have c1 := h1.cell
  have c2 := h2.cell
  clear h1 h2
  go_enter Try.func119, Try.ntmps119
  go_wp2_with fail
  refine (vunit_in n k hk (by omega) _).mono ?_
  rintro e w1 ⟨A, m, c, rfl, ho, kp⟩
  have HO := Lib.hid ho
  have HK := Lib.hid kp
  clear ho kp
  go_wp2_with fail
  go_ret2
  exact ⟨_, _, _, rfl, HO.out, HK.out⟩
set_option maxHeartbeats 1000000 in
theorem orelse_any (b1 b2 n k c : Nat) (A : Option Addr) (xs : List Nat) (t1 t2 : TypeId) (w : World) (h : Own w w.heap.size 5 A n c xs ∨ Bytes w w.heap.size A n xs) (h1 : Held w b1 (.int .i64 (n : Int)) t1) (h2 : Held w b2 (.int .i64 (k : Int)) t2) (hk : k < n) (hn : n ≤ 255) :
    Calls Try.prog 117 #[.slice A n c, .func (.func 119) #[] #[.pointer (some ⟨b1, 0, none⟩), .pointer (some ⟨b2, 0, none⟩)]] w fun e w' =>
      (vLead n xs < 0 → NewPair w (vUnit n k) 0 e w') ∧ (¬ vLead n xs < 0 → e = .returned (.tuple #[.slice A n c, .int .i64 0]) ∧ w = w') := by
  have hb : Bytes w w.heap.size A n xs := by
    rcases h with h | h
    · exact h.bytes
    · exact h
  have H1 := Lib.hid h1
  have H2 := Lib.hid h2
  clear h h1 h2
  have HZ := Lib.hid (vzero_eq w.heap.size n c A xs w hb (by omega))
  clear hb
  by_cases hz : vLead n xs < 0
  · have HB : Hid (vLead n xs < 0) := hz
    have hd : decide (vLead n xs < 0) = true := decide_eq_true hz
    generalize decide (vLead n xs < 0) = q at *
    subst hd
    clear hz
    go_enter Try.func117, Try.ntmps117
    go_wp2_with fail
    refine HZ.out.mono ?_
    rintro e w1 ⟨rfl, rfl⟩
    go_wp2_with fail
    refine (instead_any b1 b2 n k t1 t2 _ H1.out H2.out hk hn).mono ?_
    rintro e w1 ⟨A', m, c', rfl, ho, kp⟩
    have HO := Lib.hid ho
    have HK := Lib.hid kp
    clear ho kp
    go_wp2_with fail
    go_ret2
    exact ⟨fun _ => ⟨_, _, _, rfl, HO.out, HK.out⟩, fun e => by have := HB.out; omega⟩
  · have HB : Hid (¬ vLead n xs < 0) := hz
    have hd : decide (vLead n xs < 0) = false := decide_eq_false hz
    generalize decide (vLead n xs < 0) = q at *
    subst hd
    clear hz
    go_enter Try.func117, Try.ntmps117
    go_wp2_with fail
    refine HZ.out.mono ?_
    rintro e w1 ⟨rfl, rfl⟩
    go_wp2_with fail
    go_ret2
    exact ⟨fun e => by have := HB.out; omega, fun _ => ⟨rfl, rfl⟩⟩
end Go.Proofs.Ytcafofffgmaepaa
/- The landed draw's contracts: Coefs. -/
namespace Go.Proofs.Ytcafofffgmaepaa
open Go.RowKit
set_option linter.unusedVariables false
set_option linter.unusedSimpArgs false
set_option maxHeartbeats 2000000 in
theorem coefs_bad (m c : Nat) (A : Option Addr) (n k : Int) (h : n < 1 ∨ 255 < n ∨ k < 0 ∨ n ≤ k) (w : World) :
    Calls Try.prog 101 #[.slice A m c, .int .i64 n, .int .i64 k] w (NewPair w [] 1) := by
  by_cases h1 : 1 ≤ n ∧ n ≤ 255
  · have hs : ¬ (0 ≤ k ∧ k < n) := by omega
    have c1 := count_any n true (decide_eq_true h1).symm
    have c2 := sys_any k n false (decide_eq_false hs).symm
    have C1 := Lib.hid c1
    have C2 := Lib.hid c2
    clear c1 c2 h h1 hs
    go_enter Try.func101, Try.ntmps101
    go_wp2_with fail
    refine (C1.out _).mono ?_
    rintro e w1 ⟨rfl, rfl⟩
    go_wp2_with fail
    refine (C2.out _).mono ?_
    rintro e w1 ⟨rfl, rfl⟩
    go_wp2_with fail
    go_ret2
    exact ⟨none, 0, 0, rfl, Own.none_ _ _ _, ((Keep.refl w).alloc _ _).alloc _ _⟩
  · have c1 := count_any n false (decide_eq_false h1).symm
    have C1 := Lib.hid c1
    clear c1 h h1
    go_enter Try.func101, Try.ntmps101
    go_wp2_with fail
    refine (C1.out _).mono ?_
    rintro e w1 ⟨rfl, rfl⟩
    go_wp2_with fail
    go_ret2
    exact ⟨none, 0, 0, rfl, Own.none_ _ _ _, ((Keep.refl w).alloc _ _).alloc _ _⟩
set_option maxHeartbeats 2000000 in
theorem coefs_any (B n k m c : Nat) (A : Option Addr) (xs : List Nat) (w : World) (h : Bytes w B A m xs) (hB : B ≤ w.heap.size) (h1 : 1 ≤ n) (hn : n ≤ 255) (hk : k < n) :
    Calls Try.prog 101 #[.slice A m c, .int .i64 (n : Int), .int .i64 (k : Int)] w (NewPair w (coefN n k xs) 0) := by
  have C1 := Lib.hid (count_any (n : Int) true (decide_eq_true (by omega)).symm)
  have C2 := Lib.hid (sys_any (k : Int) (n : Int) true (decide_eq_true (by omega)).symm)
  obtain ⟨w2, hw2⟩ : ∃ w2, (w.alloc (.cells #[.int .i64 (n : Int)] 3)).alloc (.cells #[.int .i64 (k : Int)] 3) = w2 := ⟨_, rfl⟩
  have k2 : Keep w w2 := by rw [← hw2]; exact ((Keep.refl w).alloc _ _).alloc _ _
  have g1 : Held w2 w.heap.size (.int .i64 (n : Int)) 3 := by
    rw [← hw2]; exact (Held.new rfl _ _).keep ((Keep.refl _).alloc _ _)
  have g2 : Held w2 (w.heap.size + 1) (.int .i64 (k : Int)) 3 := by
    rw [← hw2]; exact Held.new (by simp) _ _
  have HB2 := Lib.hid (h.keep hB k2)
  have HB2' : Hid (B ≤ w2.heap.size) := Nat.le_trans hB k2.size
  have q1 := g1.cell
  have q2 := g2.cell
  have G1 := Lib.hid g1
  have G2 := Lib.hid g2
  have K2 := Lib.hid k2
  clear h g1 g2 k2
  go_enter Try.func101, Try.ntmps101
  go_wp2_with fail
  refine (C1.out _).mono ?_
  rintro e w1 ⟨rfl, rfl⟩
  go_wp2_with fail
  refine (C2.out _).mono ?_
  rintro e w1 ⟨rfl, rfl⟩
  go_wp2_with fail
  refine (lay_any B n m c A xs _ HB2.out HB2'.out hn).mono ?_
  rintro e w3 ⟨A3, n3, c3, rfl, ho, kp⟩
  obtain rfl : n = n3 := by have := ho.length; rw [fillN_len] at this; exact this
  have HO := Lib.hid ho
  have HK := Lib.hid kp
  have E3 := Lib.hid (orelse_any _ _ n k c3 A3 (fillN xs n) _ _ w3 (Or.inr ho.bytes) (G1.out.keep kp) (G2.out.keep kp) hk hn)
  clear ho kp
  go_wp2_with fail
  refine E3.out.mono ?_
  rintro e w4 ⟨p1, p2⟩
  by_cases hz : vLead n (fillN xs n) < 0
  · have hc : coefN n k xs = vUnit n k := if_pos hz
    obtain ⟨A4, n4, c4, rfl, o4, k4⟩ := p1 hz
    have H4 : Hid (NewPair w (coefN n k xs) 0 (.returned (.tuple #[.slice A4 n4 c4, .int .i64 0])) w4) := by
      rw [hc]
      exact ⟨_, _, _, rfl, o4.lower ((K2.out.trans HK.out).size), (K2.out.trans HK.out).trans k4⟩
    clear p1 p2 o4 k4 hc hz
    go_wp2_with fail
    go_ret2
    exact H4.out
  · have hc : coefN n k xs = fillN xs n := if_neg hz
    obtain ⟨rfl, rfl⟩ := p2 (by omega)
    have H4 : Hid (NewPair w (coefN n k xs) 0 (.returned (.tuple #[.slice A3 n c3, .int .i64 0])) w3) := by
      rw [hc]
      exact ⟨_, _, _, rfl, HO.out.lower K2.out.size, K2.out.trans HK.out⟩
    clear p1 p2 hc hz
    go_wp2_with fail
    go_ret2
    exact H4.out
end Go.Proofs.Ytcafofffgmaepaa
/- The landed draw's contracts: Turn. -/
namespace Go.Proofs.Ytcafofffgmaepaa
open Go.RowKit
set_option linter.unusedVariables false
set_option linter.unusedSimpArgs false
theorem turn_bad (s : Nat) (n : Int) (h : n < 1 ∨ 255 < n) (w : World) :
    Calls Try.prog 100 #[.int .u64 (s : Int), .int .i64 n] w fun e w' => e = .returned (.tuple #[.int .i64 0, .int .i64 1]) ∧ w = w' := by
  have C1 := Lib.hid (count_any n false (decide_eq_false (by omega)).symm)
  clear h
  go_enter Try.func100, Try.ntmps100
  go_wp2_with fail
  refine (C1.out _).mono ?_
  rintro e w1 ⟨rfl, rfl⟩
  go_wp2_with fail
  go_ret2
  exact ⟨rfl, rfl⟩
/-- What a remainder is, as the walk writes it. -/
theorem rem_facts (s n : Nat) (hs : s < 18446744073709551616) (h1 : 1 ≤ n) (hn : n ≤ 255) : ∃ t : Nat, s % n = t ∧ t < n ∧ (s : Int).tmod (n : Int) = (t : Int) ∧ IntKind.u64.wrap (n : Int) = (n : Int) ∧ IntKind.u64.wrap (t : Int) = (t : Int) ∧ IntKind.i64.wrap (t : Int) = (t : Int) := by
  have ht : s % n < n := Nat.mod_lt _ (by omega)
  refine ⟨_, rfl, ht, ?_, ?_, ?_, ?_⟩
  · rw [Int.tmod_eq_emod_of_nonneg (by omega)]; omega
  · exact IntWalk.u64_in _ (by omega)
  · exact IntWalk.u64_in _ (by omega)
  · exact IntWalk.i64_in _ (by omega)
set_option maxHeartbeats 2000000 in
theorem turn_any (s n : Nat) (hs : s < 18446744073709551616) (h1 : 1 ≤ n) (hn : n ≤ 255) (w : World) :
    Calls Try.prog 100 #[.int .u64 (s : Int), .int .i64 (n : Int)] w fun e w' => e = .returned (.tuple #[.int .i64 (s % n : Nat), .int .i64 0]) ∧ w = w' := by
  obtain ⟨t, ht, hlt, e1, e2, e3, e4⟩ := rem_facts s n hs h1 hn
  have HT := Lib.hid ht
  have C1 := Lib.hid (count_any (n : Int) true (decide_eq_true (by omega)).symm)
  have n0 : ((n : Int) == 0) = false := beq_eq_false_iff_ne.2 (by omega)
  have n1 : (n : Int) ≠ 0 := by omega
  clear ht
  go_enter Try.func100, Try.ntmps100
  go_wp2_with fail
  refine (C1.out _).mono ?_
  rintro e w1 ⟨rfl, rfl⟩
  go_wp2_with fail
  go_ret2
  exact ⟨by rw [HT.out]; rfl, rfl⟩
end Go.Proofs.Ytcafofffgmaepaa
/- The document's own draw: ref11's Coefs and Turn. -/
namespace Go.Proofs.Ytcafofffgmaepaa
open Go.RowKit
set_option linter.unusedVariables false
set_option linter.unusedSimpArgs false
theorem rturn_bad (s : Nat) (n : Int) (h : n < 1 ∨ 255 < n) (w : World) :
    Calls Try.prog 65 #[.int .u64 (s : Int), .int .i64 n] w fun e w' => e = .returned (.tuple #[.int .i64 0, .int .i64 1]) ∧ w = w' := by
  by_cases h1 : n < 1
  · clear h
    go_enter Try.func65, Try.ntmps65
    go_wp2_with fail
    go_ret2
    exact ⟨rfl, rfl⟩
  · have h2 : 255 < n := by omega
    clear h
    go_enter Try.func65, Try.ntmps65
    go_wp2_with fail
    go_ret2
    exact ⟨rfl, rfl⟩
set_option maxHeartbeats 2000000 in
theorem rturn_any (s n : Nat) (hs : s < 18446744073709551616) (h1 : 1 ≤ n) (hn : n ≤ 255) (w : World) :
    Calls Try.prog 65 #[.int .u64 (s : Int), .int .i64 (n : Int)] w fun e w' => e = .returned (.tuple #[.int .i64 (s % n : Nat), .int .i64 0]) ∧ w = w' := by
  obtain ⟨t, ht, hlt, e1, e2, e3, e4⟩ := rem_facts s n hs h1 hn
  have HT := Lib.hid ht
  have b1 : ¬ (n : Int) < 1 := by omega
  have b2 : ¬ (255 : Int) < (n : Int) := by omega
  have n0 : ((n : Int) == 0) = false := beq_eq_false_iff_ne.2 (by omega)
  have n1 : (n : Int) ≠ 0 := by omega
  clear ht
  go_enter Try.func65, Try.ntmps65
  go_wp2_with fail
  go_ret2
  exact ⟨by rw [show (s : Int) % (n : Int) = (t : Int) by have := HT.out; omega]; rfl, rfl⟩
set_option maxHeartbeats 2000000 in
theorem rcoefs_bad (m c : Nat) (A : Option Addr) (n k : Int) (h : n < 1 ∨ 255 < n ∨ k < 0 ∨ n ≤ k) (w : World) :
    Calls Try.prog 66 #[.slice A m c, .int .i64 n, .int .i64 k] w (NewPair w [] 1) := by
  by_cases h1 : n < 1
  · clear h
    go_enter Try.func66, Try.ntmps66
    go_wp2_with fail
    go_ret2
    exact NewPair.nil w 1
  by_cases h2 : 255 < n
  · clear h
    go_enter Try.func66, Try.ntmps66
    go_wp2_with fail
    go_ret2
    exact NewPair.nil w 1
  by_cases h3 : k < 0
  · clear h
    go_enter Try.func66, Try.ntmps66
    go_wp2_with fail
    go_ret2
    exact NewPair.nil w 1
  have h4 : n ≤ k := by omega
  clear h
  go_enter Try.func66, Try.ntmps66
  go_wp2_with fail
  go_ret2
  exact NewPair.nil w 1
/-- The first j bytes of the draw stand in n noughts. -/
theorem fill_set (xs : List Nat) (n j : Nat) (hj : j < n) (hx : j < xs.length) : (fillN (xs.take j) n).set j (xs.getD j 0) = fillN (xs.take (j + 1)) n := by
  have e1 : (xs.take j).length = j := by rw [List.length_take]; omega
  have e2 : (xs.take (j + 1)).length = j + 1 := by rw [List.length_take]; omega
  unfold fillN
  rw [e1, e2, List.take_take, List.take_take, show min n j = j by omega, show min n (j + 1) = j + 1 by omega, show n - j = (n - (j + 1)) + 1 by omega, List.replicate_succ, List.set_append_right _ _ (by rw [e1]; exact Nat.le_refl _), e1, Nat.sub_self, List.set_cons_zero, List.take_add_one, List.getElem?_eq_getElem hx, Option.toList_some, List.append_assoc]
  simp [List.getD, hx]
theorem fill_full (xs : List Nat) (n j : Nat) (h : n ≤ j ∨ xs.length ≤ j) : fillN (xs.take j) n = fillN xs n := by
  unfold fillN
  rw [List.take_take, List.length_take]
  rcases h with h | h
  · rw [show min n j = n by omega]
    congr 2
    omega
  · rw [show min j xs.length = xs.length by omega]
    congr 1
    rcases Nat.le_total n j with e | e
    · rw [show min n j = n by omega]
    · rw [show min n j = j by omega, List.take_of_length_le h, List.take_of_length_le (by omega)]
theorem fill_get (xs : List Nat) (n i : Nat) : (fillN xs n).getD i 0 = if i < n then xs.getD i 0 else 0 := by
  unfold fillN
  rw [List.getD_eq_getElem?_getD, List.getD_eq_getElem?_getD]
  by_cases h : i < (xs.take n).length
  · rw [List.getElem?_append_left h, List.getElem?_take]
    rw [List.length_take] at h
    rw [if_pos (by omega), if_pos (by omega)]
  · rw [List.getElem?_append_right (by omega), List.getElem?_replicate]
    rw [List.length_take] at h
    by_cases h1 : i < n
    · rw [if_pos h1, List.getElem?_eq_none (show xs.length ≤ i by omega)]
      split <;> rfl
    · rw [if_neg h1]
      split <;> rfl
theorem fill_zero (xs : List Nat) (n : Nat) : fillN (xs.take 0) n = List.replicate n 0 := by simp [fillN]
theorem lead_neg (n : Nat) (xs : List Nat) : vLead n xs < 0 ↔ ∀ i, i < n → xs.getD i 0 = 0 := by
  rw [← vLeadTo_none, vLead]
  cases vLeadTo xs n with
  | none => simp
  | some k => simp
theorem all_zeros {xs : List Nat} {n : Nat} (hl : xs.length = n) (h : ∀ i, i < n → xs.getD i 0 = 0) : xs = List.replicate n 0 :=
  list_ext (by simp [hl]) fun i hi => by
    rw [h i (by omega), List.getD_eq_getElem?_getD, List.getElem?_replicate, if_pos (by omega)]; rfl
set_option maxRecDepth 100000 in
set_option maxHeartbeats 4000000 in
theorem rcoefs_any (B n k m c : Nat) (A : Option Addr) (xs : List Nat) (w : World) (h : Bytes w B A m xs) (hB : B ≤ w.heap.size) (h1 : 1 ≤ n) (hn : n ≤ 255) (hk : k < n) (hm : m ≤ 140737488351232) :
    Calls Try.prog 66 #[.slice A m c, .int .i64 (n : Int), .int .i64 (k : Int)] w (NewPair w (coefN n k xs) 0) := by
  have b1 : ¬ (n : Int) < 1 := by omega
  have b2 : ¬ (255 : Int) < (n : Int) := by omega
  have b3 : ¬ (k : Int) < 0 := by omega
  have b4 : ¬ (n : Int) ≤ (k : Int) := by omega
  have b5 : (k : Int) < (n : Int) := by omega
  have b6 : (0 : Int) ≤ (k : Int) := by omega
  have hmk := run_make_bytes (P := Try.prog) Try.underlying22 info5 n (by omega) w
  have hmade := Own.made w 5 n (by omega)
  rw [← fill_zero xs n] at hmade
  obtain ⟨w1, hw1⟩ : ∃ w1, w.alloc (.cells (madeCells #[.int .u8 0] n) 5) = w1 := ⟨_, rfl⟩
  have hk1 : Keep w w1 := by rw [← hw1]; exact (Keep.refl w).alloc _ _
  rw [hw1] at hmk hmade
  have HL := Lib.hid h.length
  obtain ⟨g, hg⟩ : ∃ g, w.heap.size = g := ⟨_, rfl⟩
  have HG := Lib.hid hg
  have HBw : Hid (∀ wr, Keep w wr → Bytes wr B A m xs) := fun wr kp => h.keep hB kp
  have HS : Hid (B ≤ g) := by rw [← hg]; exact hB
  rw [hg] at hmk hmade
  have HM := Lib.hid hmade
  have HK1 := Lib.hid hk1
  clear h hB hmade hk1 hg
  go_enter Try.func66, Try.ntmps66
  go_wp2_with fail
  go_loopw [9, 10] (fun z i wr => ∃ j : Nat, j ≤ n ∧ j ≤ m ∧ i = .int .i64 j ∧ z = .bool (decide (∀ i, i < j → xs.getD i 0 = 0)) ∧ Own wr g 5 (some ⟨g, 0, none⟩) n n (fillN (xs.take j) n) ∧ Keep w wr) (fun z i _ => n - (intOf i).toNat)
  case atStart => exact ⟨0, by omega, by omega, rfl, by simp, HM.out, HK1.out⟩
  case round =>
    obtain ⟨j, hj1, hj2, rfl, rfl, ho, kp⟩ := hrel
    obtain ⟨q, hq⟩ : ∃ q, decide (∀ i, i < j → xs.getD i 0 = 0) = q := ⟨_, rfl⟩
    have hc := ho.cell (i := j)
    have hf := ho.frozen j
    rw [hq]
    by_cases hlt : j < n ∧ j < m
    · obtain ⟨b, off, rfl, hb, hx⟩ := (HBw.out wr kp).at_ hlt.2
      have hv := (HBw.out wr kp).all.getD j
      have hS := ho.stored (i := j) hv
      rw [fill_set xs n j hlt.1 (by rw [HL.out]; exact hlt.2)] at hS
      have hne : g ≠ b := by have := HS.out; omega
      have hq' : Hid (decide (∀ i, i < j + 1 → xs.getD i 0 = 0) = (q && decide (xs.getD j 0 = 0))) := by
        show _ = _
        rw [← hq, ← Bool.decide_and]
        refine decide_eq_decide.2 ⟨fun a => ⟨fun i hi => a i (by omega), a j (by omega)⟩, fun a i hi => ?_⟩
        rcases Nat.lt_or_ge i j with h1 | h1
        · exact a.1 i h1
        · obtain rfl : i = j := by omega
          exact a.2
      have hKS := kp.setCell (a := ⟨g, j, none⟩) (by rw [HG.out]; exact Nat.le_refl _) (.int .u8 ((xs.getD j 0 : Nat) : Int))
      have hc := hc hlt.1
      have hx' : (wr.setCell ⟨g, j, none⟩ (.int .u8 ((xs.getD j 0 : Nat) : Int))).cell? ⟨b, off + j, none⟩ = some (.int .u8 ((xs.getD j 0 : Nat) : Int)) := by
        rw [World.cell?_setCell_far _ _ _ _ hne]; exact hx
      obtain ⟨w5, hw5⟩ : ∃ w5, wr.setCell ⟨g, j, none⟩ (.int .u8 ((xs.getD j 0 : Nat) : Int)) = w5 := ⟨_, rfl⟩
      rw [hw5] at hS hKS hx'
      have HSS := Lib.hid hS
      have HKS := Lib.hid hKS
      generalize (fillN (xs.take j) n).getD j 0 = z0 at *
      generalize xs.getD j 0 = x at *
      have e1 : (0 : Int) ≤ (j : Int) := Int.natCast_nonneg _
      have e2 : (j : Int) < (n : Int) := by omega
      have e3 : (j : Int) < (m : Int) := by omega
      clear hS hKS kp ho hq
      have HJ : Hid (j + 1 ≤ n ∧ j + 1 ≤ m) := ⟨by omega, by omega⟩
      cases q with
      | false =>
        rw [Bool.false_and] at hq'
        go_wp2_with fail
        go_round
        case rel => exact ⟨j + 1, HJ.out.1, HJ.out.2, by go_num, by rw [hq'.out], HSS.out, HKS.out⟩
        case measure => simp [intOf]; omega
      | true =>
        rw [Bool.true_and] at hq'
        by_cases hx0 : x = 0
        · rw [decide_eq_true hx0] at hq'
          have i1 : ((x : Int) == 0) = true := beq_iff_eq.2 (by omega)
          clear hx0
          go_wp2_with fail
          go_round
          case rel => exact ⟨j + 1, HJ.out.1, HJ.out.2, by go_num, by rw [hq'.out], HSS.out, HKS.out⟩
          case measure => simp [intOf]; omega
        · rw [decide_eq_false hx0] at hq'
          have i1 : ((x : Int) == 0) = false := beq_eq_false_iff_ne.2 (by omega)
          clear hx0
          go_wp2_with fail
          go_round
          case rel => exact ⟨j + 1, HJ.out.1, HJ.out.2, by go_num, by rw [hq'.out], HSS.out, HKS.out⟩
          case measure => simp [intOf]; omega
    · have hfull := fill_full xs n j (by rw [HL.out]; omega)
      have hq' : q = true ↔ vLead n (fillN xs n) < 0 := by
        rw [← hq, decide_eq_true_iff, lead_neg]
        refine ⟨fun a i hi => ?_, fun a i hi => ?_⟩
        · rw [fill_get, if_pos hi]
          rcases Nat.lt_or_ge i j with h1 | h1
          · exact a i h1
          · rw [List.getD_eq_getElem?_getD, List.getElem?_eq_none (by rw [HL.out]; omega)]; rfl
        · have := a i (by omega)
          rwa [fill_get, if_pos (by omega)] at this
      rw [hfull] at ho
      have e1 : (0 : Int) ≤ (j : Int) := Int.natCast_nonneg _
      have e4 : ¬ (j : Int) < (n : Int) ∨ ¬ (j : Int) < (m : Int) := by omega
      have hck := ho.cell hk
      have hfk := ho.frozen k
      have hS := ho.stored (i := k) (v := 1) (by decide)
      have hKS := kp.setCell (a := ⟨g, k, none⟩) (by rw [HG.out]; exact Nat.le_refl _) (.int .u8 1)
      obtain ⟨w5, hw5⟩ : ∃ w5, wr.setCell ⟨g, k, none⟩ (.int .u8 1) = w5 := ⟨_, rfl⟩
      rw [show (Value.int .u8 ((1 : Nat) : Int)) = .int .u8 1 from rfl, hw5] at hS
      rw [hw5] at hKS
      cases q with
      | false =>
        have hco : coefN n k xs = fillN xs n := if_neg fun e => by have := hq'.2 e; cases this
        have H4 : Hid (NewPair w (coefN n k xs) 0 (.returned (.tuple #[.slice (some ⟨g, 0, none⟩) n n, .int .i64 0])) wr) := by
          rw [hco]; exact ⟨_, _, _, rfl, by rw [HG.out]; exact ho, kp⟩
        clear hS hKS hw5 hck hfk ho hf hc hq hfull hq' hco kp
        rcases e4 with e4 | e4
        · go_wp2_with fail
          go_ret2
          exact H4.out
        · by_cases e5 : (j : Int) < (n : Int)
          · go_wp2_with fail
            go_ret2
            exact H4.out
          · go_wp2_with fail
            go_ret2
            exact H4.out
      | true =>
        have hz := hq'.1 rfl
        have hco : coefN n k xs = vUnit n k := if_pos hz
        have hzz : fillN xs n = List.replicate n 0 := all_zeros (fillN_len xs n) ((lead_neg _ _).1 hz)
        rw [hzz, vUnit_set n k] at hS
        have H4 : Hid (NewPair w (coefN n k xs) 0 (.returned (.tuple #[.slice (some ⟨g, 0, none⟩) n n, .int .i64 0])) w5) := by
          rw [hco]; exact ⟨_, _, _, rfl, by rw [HG.out]; exact hS, hKS⟩
        generalize (fillN xs n).getD k 0 = z0 at *
        clear hS hKS ho hf hc hq hfull hq' hco hz hzz kp
        rcases e4 with e4 | e4
        · go_wp2_with fail
          go_ret2
          exact H4.out
        · by_cases e5 : (j : Int) < (n : Int)
          · go_wp2_with fail
            go_ret2
            exact H4.out
          · go_wp2_with fail
            go_ret2
            exact H4.out
end Go.Proofs.Ytcafofffgmaepaa
