/- The law VectorSpace answers true. -/
import Derived.Test.YtkinhhplhkbljaaWakes
import Derived.Laws.Cover1
import Derived.Deep.RegionWith
import Derived.Deep.DeepCutAuto
import Derived.Test.YtkinhhplhkbljaaRegion
namespace Go.Proofs.Ytkinhhplhkbljaa
open Go.RowKit
theorem min3 (a b c n : Nat) (h : min (a : Int) (min (b : Int) (c : Int)) = (n : Int)) (w : World) :
    (Builtin.min_ #[3, 3, 3] 3 #[.int .i64 a, .int .i64 b, .int .i64 c]).run Try.prog w = .ok (.int .i64 n) w := by
  rw [run_min_int3]
  congr 2
  split <;> split <;> omega
theorem vAdd_comm (n : Nat) (xs ys : List Nat) : vAdd n ys xs = vAdd n xs ys := tab_congr fun _ _ => Nat.xor_comm _ _
theorem vAdd_assoc (n : Nat) (xs ys zs : List Nat) : vAdd n xs (vAdd n ys zs) = vAdd n (vAdd n xs ys) zs := tab_congr fun i hi => by
  rw [vAdd, tab_getD, if_pos hi, vAdd, tab_getD, if_pos hi, Nat.xor_assoc]
theorem vLead_zeros (n : Nat) (xs : List Nat) (h : ∀ i, i < n → xs.getD i 0 = 0) : vLead n xs = -1 := by
  rw [vLead, (vLeadTo_none xs n).2 h]
theorem vAddS_eq (n : Nat) (xs ys : List Nat) (c : Nat) : vAddS n xs ys c = vAdd n xs (vScale n ys c) := tab_congr fun i hi => by rw [vScale, tab_getD, if_pos hi]
theorem vScale_vAdd (n : Nat) (xs ys : List Nat) (c : Nat) (hx : AllB xs) (hy : AllB ys) : vScale n (vAdd n xs ys) c = vAdd n (vScale n xs c) (vScale n ys c) := tab_congr fun i hi => by
  rw [vAdd, tab_getD, if_pos hi, vScale, tab_getD, if_pos hi, vScale, tab_getD, if_pos hi, mul_xor_left _ _ _ (hx.getD i) (hy.getD i)]
theorem str_later {w : World} {B n c : Nat} {A : Option Addr} {xs : List Nat} (h : Bytes w B A n xs) (hB : B ≤ w.heap.size) : ∀ w', Keep w w' → (convert 22 9 (.slice A n c)).run Try.prog w' = .ok (.string (strN xs)) w' :=
  fun _ k => run_str (h.keep hB k) Try.underlying22 Try.underlying5 Try.underlying9 c
theorem vScale_xor (n : Nat) (xs : List Nat) (x y : Nat) (h : AllB xs) (hx : x < 256) (hy : y < 256) : vScale n xs (x ^^^ y) = vAdd n (vScale n xs x) (vScale n xs y) := tab_congr fun i hi => by
  rw [vScale, tab_getD, if_pos hi, vScale, tab_getD, if_pos hi, mul_xor_right _ _ _ (h.getD i) hx hy]
theorem vScale_twice (n : Nat) (xs : List Nat) (x y : Nat) (h : AllB xs) (hx : x < 256) (hy : y < 256) : vScale n (vScale n xs y) x = vScale n xs (mulN x y) := tab_congr fun i hi => by
  rw [vScale, tab_getD, if_pos hi, mul_assoc' _ _ _ (h.getD i) hy hx, mul_comm' y x hy hx]
theorem vScale_one (n : Nat) (xs : List Nat) (h : AllB xs) (hl : xs.length = n) : vScale n xs 1 = xs := by
  subst hl
  have h2 : vScale xs.length xs 1 = tab xs.length (fun i => xs.getD i 0) := tab_congr fun i _ => mul_one_right _ (h.getD i)
  rw [h2, tab_self]
theorem vLead_none (n : Nat) (xs : List Nat) : vLead n (vScale n xs 0) = -1 := vLead_zeros n _ fun i hi => by rw [vScale, tab_getD, if_pos hi, mul_zero_right]
theorem vLeadTo_scale (xs : List Nat) (x m : Nat) (h : AllB xs) (hx : x < 256) (h0 : x ≠ 0) : ∀ n, n ≤ m → vLeadTo (vScale m xs x) n = vLeadTo xs n := by
  intro n
  induction n with
  | zero => intro _; rfl
  | succ n ih =>
    intro hn
    rw [vLeadTo, vLeadTo, ih (by omega)]
    have e : (vScale m xs x).getD n 0 = mulN (xs.getD n 0) x := by rw [vScale, tab_getD, if_pos (by omega)]
    have e2 : mulN (xs.getD n 0) x = 0 ↔ xs.getD n 0 = 0 := by
      rw [mul_eq_zero _ _ (h.getD n) hx]
      omega
    rw [e]
    by_cases hz : xs.getD n 0 = 0
    · rw [if_pos hz, if_pos (e2.2 hz)]
    · rw [if_neg hz, if_neg (fun q => hz (e2.1 q))]
theorem vLead_scale (n : Nat) (xs : List Nat) (x : Nat) (h : AllB xs) (hx : x < 256) (h0 : x ≠ 0) : vLead n (vScale n xs x) = vLead n xs := by
  rw [vLead, vLead, vLeadTo_scale xs x n h hx h0 n (Nat.le_refl _)]
theorem vAdd_self (n : Nat) (xs : List Nat) : vLead n (vAdd n xs xs) = -1 := vLead_zeros n _ fun i hi => by rw [vAdd, tab_getD, if_pos hi, Nat.xor_self]
set_option maxRecDepth 100000 in
set_option linter.unusedSimpArgs false in
set_option linter.unusedVariables false in
set_option maxHeartbeats 4000000 in
theorem space_any (na ca nb cb nc cc x y : Nat) (A1 A2 A3 : Option Addr) (xs ys zs : List Nat) (w : World) (h1 : Bytes w w.heap.size A1 na xs) (h2 : Bytes w w.heap.size A2 nb ys) (h3 : Bytes w w.heap.size A3 nc zs)
    (m1 : na ≤ 140737488351232) (q1 : na ≤ ca) (q2 : nb ≤ cb) (q3 : nc ≤ cc) (hx : x < 256) (hy : y < 256) :
    Calls Try.prog 5 #[.slice A1 na ca, .slice A2 nb cb, .slice A3 nc cc, .int .u8 x, .int .u8 y] w fun e w' => e = .returned (.bool true) ∧ Keep w w' := by
  obtain ⟨n, hn, l1, l2, l3⟩ : ∃ n : Nat, min (na : Int) (min (nb : Int) (nc : Int)) = (n : Int) ∧ n ≤ na ∧ n ≤ nb ∧ n ≤ nc := ⟨min na (min nb nc), by omega, by omega, by omega, by omega⟩
  have hmin := min3 na nb nc n hn
  have hnm : n ≤ 140737488351232 := by omega
  obtain ⟨X, hX⟩ : ∃ X, X = xs.take n := ⟨_, rfl⟩
  obtain ⟨Y, hY⟩ : ∃ Y, Y = ys.take n := ⟨_, rfl⟩
  obtain ⟨Z, hZ⟩ : ∃ Z, Z = zs.take n := ⟨_, rfl⟩
  have a1 := h1.cut l1
  have a2 := h2.cut l2
  have a3 := h3.cut l3
  rw [← hX] at a1
  rw [← hY] at a2
  rw [← hZ] at a3
  obtain ⟨s, hs⟩ : ∃ s, x ^^^ y = s := ⟨_, rfl⟩
  obtain ⟨p, hp⟩ : ∃ p, mulN x y = p := ⟨_, rfl⟩
  have ls : s < 256 := by rw [← hs]; exact xor_lt hx hy
  have lp : p < 256 := by rw [← hp]; exact mulN_lt _ hx
  have HC := Lib.hid (vScale_vAdd n X Y x a1.all a2.all)
  have HX1 := vScale_xor n X x y a1.all hx hy
  have HX2 := vScale_twice n X x y a1.all hx hy
  rw [hs] at HX1
  rw [hp] at HX2
  have HD := Lib.hid HX1
  have HE := Lib.hid HX2
  have HO := Lib.hid (vScale_one n X a1.all a1.length)
  have HL := Lib.hid (fun h0 : x ≠ 0 => vLead_scale n X x a1.all hx h0)
  have HS := Lib.hid hs
  have HLX := Lib.hid a1.length
  have HP := Lib.hid hp
  clear hs hp HX1 HX2
  have B1 := Lib.hid a1
  have B2 := Lib.hid a2
  have B3 := Lib.hid a3
  clear hn hX hY hZ h1 h2 h3 a1 a2 a3
  go_enter Try.func5, Try.ntmps5
  go_wp2_with fail
  go_quiet (fail)
  clear hmin l1 l2 l3 q1 q2 q3
  go_wp2_with fail
  have K0 := Lib.hid (Keep.drewN (Keep.refl w) nq)
  refine (vadd_any _ _ n _ _ _ _ _ _ _ (B1.out.keep (Nat.le_refl _) K0.out) (B2.out.keep (Nat.le_refl _) K0.out) K0.out.size K0.out.size hnm).mono ?_
  rintro e w1 ⟨P1, n1, c1, rfl, o1, s1⟩
  obtain rfl : n = n1 := by have h := o1.length; rw [vAdd, tab_length] at h; exact h
  have O1 := Lib.hid o1
  have S1 := Lib.hid s1
  have K1 := Lib.hid (Keep.trans K0.out S1.out)
  clear o1 s1
  go_wp2_with fail
  refine (vadd_any _ _ n _ _ _ _ _ _ _ (B2.out.keep (Nat.le_refl _) K1.out) (B1.out.keep (Nat.le_refl _) K1.out) K1.out.size K1.out.size hnm).mono ?_
  rw [vAdd_comm]
  rintro e w2 ⟨P2, n2, c2, rfl, o2, s2⟩
  obtain rfl : n = n2 := by have h := o2.length; rw [vAdd, tab_length] at h; exact h
  have O2 := Lib.hid o2
  have S2 := Lib.hid s2
  have K2 := Lib.hid (Keep.trans K1.out S2.out)
  clear o2 s2
  go_wp2_with fail
  refine (vadd_any _ _ n _ _ _ _ _ _ _ (B2.out.keep (Nat.le_refl _) K2.out) (B3.out.keep (Nat.le_refl _) K2.out) K2.out.size K2.out.size hnm).mono ?_
  rintro e w3 ⟨P3, n3, c3, rfl, o3, s3⟩
  obtain rfl : n = n3 := by have h := o3.length; rw [vAdd, tab_length] at h; exact h
  have O3 := Lib.hid o3
  have S3 := Lib.hid s3
  have K3 := Lib.hid (Keep.trans K2.out S3.out)
  clear o3 s3
  go_wp2_with fail
  refine (vadd_any _ _ n _ _ _ _ _ _ _ (O1.out.bytes.keep (Nat.le_refl _) (Keep.trans S2.out (S3.out))) (B3.out.keep (Nat.le_refl _) K3.out) (Keep.trans S2.out (S3.out)).size K3.out.size hnm).mono ?_
  rintro e w4 ⟨P4, n4, c4, rfl, o4, s4⟩
  obtain rfl : n = n4 := by have h := o4.length; rw [vAdd, tab_length] at h; exact h
  have O4 := Lib.hid o4
  have S4 := Lib.hid s4
  have K4 := Lib.hid (Keep.trans K3.out S4.out)
  clear o4 s4
  go_wp2_with fail
  refine (vadd_any _ _ n _ _ _ _ _ _ _ (B1.out.keep (Nat.le_refl _) K4.out) (O3.out.bytes.keep (Nat.le_refl _) (S4.out)) K4.out.size (S4.out).size hnm).mono ?_
  rw [vAdd_assoc]
  rintro e w5 ⟨P5, n5, c5, rfl, o5, s5⟩
  obtain rfl : n = n5 := by have h := o5.length; rw [vAdd, tab_length] at h; exact h
  have O5 := Lib.hid o5
  have S5 := Lib.hid s5
  have K5 := Lib.hid (Keep.trans K4.out S5.out)
  clear o5 s5
  go_wp2_with fail
  refine (vadd_any _ _ n _ _ _ _ _ _ _ (B1.out.keep (Nat.le_refl _) K5.out) (B1.out.keep (Nat.le_refl _) K5.out) K5.out.size K5.out.size hnm).mono ?_
  rintro e w6 ⟨P6, n6, c6, rfl, o6, s6⟩
  obtain rfl : n = n6 := by have h := o6.length; rw [vAdd, tab_length] at h; exact h
  have O6 := Lib.hid o6
  have S6 := Lib.hid s6
  have K6 := Lib.hid (Keep.trans K5.out S6.out)
  clear o6 s6
  have t1 := run_str (O1.out.bytes.keep (Nat.le_refl _) (Keep.trans S2.out (Keep.trans S3.out (Keep.trans S4.out (Keep.trans S5.out (S6.out)))))) Try.underlying22 Try.underlying5 Try.underlying9 c1
  have t2 := run_str (O2.out.bytes.keep (Nat.le_refl _) (Keep.trans S3.out (Keep.trans S4.out (Keep.trans S5.out (S6.out))))) Try.underlying22 Try.underlying5 Try.underlying9 c2
  have t4 := run_str (O4.out.bytes.keep (Nat.le_refl _) (Keep.trans S5.out (S6.out))) Try.underlying22 Try.underlying5 Try.underlying9 c4
  have t5 := run_str (O5.out.bytes.keep (Nat.le_refl _) (S6.out)) Try.underlying22 Try.underlying5 Try.underlying9 c5
  go_wp2_with fail
  clear t1 t2 t4 t5
  refine (vzero_any _ n _ _ _ _ O6.out.bytes (Nat.le_refl _) hnm).mono ?_
  rw [vAdd_self]
  rintro e w7 ⟨rfl, s7⟩
  have S7 := Lib.hid s7
  have K7 := Lib.hid (Keep.trans K6.out s7)
  clear s7
  go_wp2_with fail
  refine (vscale_any _ n _ _ _ _ _ (B1.out.keep (Nat.le_refl _) K7.out) K7.out.size hnm hx).mono ?_
  rintro e w8 ⟨P8, n8, c8, rfl, o8, s8⟩
  obtain rfl : n = n8 := by have h := o8.length; rw [vScale, tab_length] at h; exact h
  have O8 := Lib.hid o8
  have S8 := Lib.hid s8
  have K8 := Lib.hid (Keep.trans K7.out S8.out)
  clear o8 s8
  go_wp2_with fail
  refine (vscale_any _ n _ _ _ _ _ (B2.out.keep (Nat.le_refl _) K8.out) K8.out.size hnm hx).mono ?_
  rintro e w9 ⟨P9, n9, c9, rfl, o9, s9⟩
  obtain rfl : n = n9 := by have h := o9.length; rw [vScale, tab_length] at h; exact h
  have O9 := Lib.hid o9
  have S9 := Lib.hid s9
  have K9 := Lib.hid (Keep.trans K8.out S9.out)
  clear o9 s9
  go_wp2_with fail
  refine (vadd_any _ _ n _ _ _ _ _ _ _ (O8.out.bytes.keep (Nat.le_refl _) (S9.out)) O9.out.bytes (S9.out).size (Nat.le_refl _) hnm).mono ?_
  rintro e w10 ⟨P10, n10, c10, rfl, o10, s10⟩
  obtain rfl : n = n10 := by have h := o10.length; rw [vAdd, tab_length] at h; exact h
  have O10 := Lib.hid o10
  have S10 := Lib.hid s10
  have K10 := Lib.hid (Keep.trans K9.out S10.out)
  clear o10 s10
  go_wp2_with fail
  refine (vaddS_any _ _ n _ _ _ _ _ _ _ _ (B1.out.keep (Nat.le_refl _) K10.out) (B2.out.keep (Nat.le_refl _) K10.out) K10.out.size K10.out.size hnm hx).mono ?_
  rw [vAddS_eq]
  rintro e w11 ⟨P11, n11, c11, rfl, o11, s11⟩
  obtain rfl : n = n11 := by have h := o11.length; rw [vAdd, tab_length] at h; exact h
  have O11 := Lib.hid o11
  have S11 := Lib.hid s11
  have K11 := Lib.hid (Keep.trans K10.out S11.out)
  clear o11 s11
  go_wp2_with fail
  refine (vadd_any _ _ n _ _ _ _ _ _ _ (B1.out.keep (Nat.le_refl _) K11.out) (O9.out.bytes.keep (Nat.le_refl _) (Keep.trans S10.out (S11.out))) K11.out.size (Keep.trans S10.out (S11.out)).size hnm).mono ?_
  rintro e w12 ⟨P12, n12, c12, rfl, o12, s12⟩
  obtain rfl : n = n12 := by have h := o12.length; rw [vAdd, tab_length] at h; exact h
  have O12 := Lib.hid o12
  have S12 := Lib.hid s12
  have K12 := Lib.hid (Keep.trans K11.out S12.out)
  clear o12 s12
  go_wp2_with fail
  have To10 := Lib.hid (str_later (c := c10) (O10.out.bytes.keep (Nat.le_refl _) (Keep.trans S11.out (S12.out))) (Keep.trans S11.out (S12.out)).size)
  have To11 := Lib.hid (str_later (c := c11) (O11.out.bytes.keep (Nat.le_refl _) (S12.out)) (S12.out).size)
  have To12 := Lib.hid (str_later (c := c12) O12.out.bytes (Nat.le_refl _))
  have z : Keep w12 w12.drew := Keep.drew (Keep.refl _)
  refine wp_region_noPanic ?_
  refine wp_region_held_drew (S := (fun w' => (convert 22 9 (.slice P10 n c10)).run Try.prog w' = .ok (.string (strN (vAdd n (vScale n X x) (vScale n Y x)))) w' ∧ (convert 22 9 (.slice P11 n c11)).run Try.prog w' = .ok (.string (strN (vAdd n X (vScale n Y x)))) w' ∧ (convert 22 9 (.slice P12 n c12)).run Try.prog w' = .ok (.string (strN (vAdd n X (vScale n Y x)))) w')) (by kernel_rfl) (⟨To10.out _ z, To11.out _ z, To12.out _ z⟩) (fun hHeld => ?_)
  refine wpAnyH_take (i := 0) (v := ?_) rfl (by kernel_rfl) (by kernel_rfl) (by kernel_rfl) (fun _ _ _ h => h) (Or.inl ⟨by rfl, ?_⟩) hHeld ?_
  rotate_left
  · intro wq hSw
    try dsimp only at hSw
    go_simp
    all_goals with_reducible rfl
  try simp only [Act.put, List.getElem_toArray, List.getElem_cons_succ, List.getElem_cons_zero, List.setIfInBounds_toArray, List.set_cons_zero, List.set_cons_succ]
  refine wpAnyH_take (i := 1) (v := ?_) rfl (by kernel_rfl) (by kernel_rfl) (by kernel_rfl) (fun _ _ _ h => h) (Or.inl ⟨by rfl, ?_⟩) hHeld ?_
  rotate_left
  · intro wq hSw
    try dsimp only at hSw
    go_simp
    all_goals with_reducible rfl
  try simp only [Act.put, List.getElem_toArray, List.getElem_cons_succ, List.getElem_cons_zero, List.setIfInBounds_toArray, List.set_cons_zero, List.set_cons_succ]
  refine wpAnyH_take (i := 4) (v := ?_) rfl (by kernel_rfl) (by kernel_rfl) (by kernel_rfl) (fun _ _ _ h => h) (Or.inl ⟨by rfl, ?_⟩) hHeld ?_
  rotate_left
  · intro wq hSw
    try dsimp only at hSw
    go_simp
    all_goals with_reducible rfl
  try simp only [Act.put, List.getElem_toArray, List.getElem_cons_succ, List.getElem_cons_zero, List.setIfInBounds_toArray, List.set_cons_zero, List.set_cons_succ]
  refine wpAnyH_take (i := 5) (v := ?_) rfl (by kernel_rfl) (by kernel_rfl) (by kernel_rfl) (fun _ _ _ h => h) (Or.inl ⟨by rfl, ?_⟩) hHeld ?_
  rotate_left
  · intro wq hSw
    try dsimp only at hSw
    go_simp
    all_goals with_reducible rfl
  try simp only [Act.put, List.getElem_toArray, List.getElem_cons_succ, List.getElem_cons_zero, List.setIfInBounds_toArray, List.set_cons_zero, List.set_cons_succ]
  refine wpAnyH_ready (rs := [2]) (by kernel_rfl) (by simp) ?_
  refine AllReadyH.cons rfl (fun K hK => ?_) AllReadyH.nil
  go_simp
  refine (vscale_any _ n _ _ _ _ w12.drew (Bytes.drew (O1.out.bytes.keep (Nat.le_refl _) (Keep.trans S2.out (Keep.trans S3.out (Keep.trans S4.out (Keep.trans S5.out (Keep.trans S6.out (Keep.trans S7.out (Keep.trans S8.out (Keep.trans S9.out (Keep.trans S10.out (Keep.trans S11.out (S12.out))))))))))))) (Keep.trans S2.out (Keep.trans S3.out (Keep.trans S4.out (Keep.trans S5.out (Keep.trans S6.out (Keep.trans S7.out (Keep.trans S8.out (Keep.trans S9.out (Keep.trans S10.out (Keep.trans S11.out (S12.out))))))))))).size hnm hx).mono ?_
  rw [HC.out]
  rintro e w13 ⟨P13, n13, c13, rfl, o13, s13⟩
  obtain rfl : n = n13 := by have h := o13.length; rw [vAdd, tab_length] at h; exact h
  have O13 := Lib.hid o13
  have S13 := Lib.hid (Keep.trans z s13)
  have K13 := Lib.hid (Keep.trans K12.out S13.out)
  clear o13 s13
  have To13 := Lib.hid (str_later (c := c13) O13.out.bytes (Nat.le_refl _))
  refine hK.out _ _ (⟨To10.out _ (S13.out), To11.out _ (S13.out), To12.out _ (S13.out)⟩) (fun _ => ?_)
  clear hK K hHeld
  refine wpAnyH_strong (S' := (fun w' => (convert 22 9 (.slice P13 n c13)).run Try.prog w' = .ok (.string (strN (vAdd n (vScale n X x) (vScale n Y x)))) w' ∧ (convert 22 9 (.slice P10 n c10)).run Try.prog w' = .ok (.string (strN (vAdd n (vScale n X x) (vScale n Y x)))) w' ∧ (convert 22 9 (.slice P11 n c11)).run Try.prog w' = .ok (.string (strN (vAdd n X (vScale n Y x)))) w' ∧ (convert 22 9 (.slice P12 n c12)).run Try.prog w' = .ok (.string (strN (vAdd n X (vScale n Y x)))) w')) (fun w h => h.2) _ _ _ _ ?_
  have hHeld : (fun w' => (convert 22 9 (.slice P13 n c13)).run Try.prog w' = .ok (.string (strN (vAdd n (vScale n X x) (vScale n Y x)))) w' ∧ (convert 22 9 (.slice P10 n c10)).run Try.prog w' = .ok (.string (strN (vAdd n (vScale n X x) (vScale n Y x)))) w' ∧ (convert 22 9 (.slice P11 n c11)).run Try.prog w' = .ok (.string (strN (vAdd n X (vScale n Y x)))) w' ∧ (convert 22 9 (.slice P12 n c12)).run Try.prog w' = .ok (.string (strN (vAdd n X (vScale n Y x)))) w') w13 := ⟨To13.out _ (Keep.refl _), To10.out _ (S13.out), To11.out _ (S13.out), To12.out _ (S13.out)⟩
  try simp only [Act.put, List.getElem_toArray, List.getElem_cons_succ, List.getElem_cons_zero, List.setIfInBounds_toArray, List.set_cons_zero, List.set_cons_succ]
  refine wpAnyH_take (i := 3) (v := ?_) rfl (by kernel_rfl) (by kernel_rfl) (by kernel_rfl) (fun _ _ _ h => h) (Or.inl ⟨by rfl, ?_⟩) hHeld ?_
  rotate_left
  · intro wq hSw
    try dsimp only at hSw
    go_simp
    all_goals with_reducible rfl
  try simp only [Act.put, List.getElem_toArray, List.getElem_cons_succ, List.getElem_cons_zero, List.setIfInBounds_toArray, List.set_cons_zero, List.set_cons_succ]
  refine wpAnyH_take (i := 6) (v := ?_) rfl (by kernel_rfl) (by kernel_rfl) (by kernel_rfl) (fun _ _ _ h => h) (Or.inl ⟨by rfl, ?_⟩) hHeld ?_
  rotate_left
  · intro wq hSw
    try dsimp only at hSw
    go_simp
    all_goals with_reducible rfl
  try simp only [Act.put, List.getElem_toArray, List.getElem_cons_succ, List.getElem_cons_zero, List.setIfInBounds_toArray, List.set_cons_zero, List.set_cons_succ]
  refine wpAnyH_take (i := 7) (v := ?_) rfl (by kernel_rfl) (by kernel_rfl) (by kernel_rfl) (fun _ _ _ h => h) (Or.inl ⟨by rfl, ?_⟩) hHeld ?_
  rotate_left
  · intro wq hSw
    try dsimp only at hSw
    go_simp
    all_goals with_reducible rfl
  try simp only [Act.put, List.getElem_toArray, List.getElem_cons_succ, List.getElem_cons_zero, List.setIfInBounds_toArray, List.set_cons_zero, List.set_cons_succ]
  refine wpAnyH_take (i := 8) (v := ?_) rfl (by kernel_rfl) (by kernel_rfl) (by kernel_rfl) (fun _ _ _ h => h) (Or.inl ⟨by rfl, ?_⟩) hHeld ?_
  rotate_left
  · intro wq hSw
    try dsimp only at hSw
    go_simp
    all_goals with_reducible rfl
  try simp only [Act.put, List.getElem_toArray, List.getElem_cons_succ, List.getElem_cons_zero, List.setIfInBounds_toArray, List.set_cons_zero, List.set_cons_succ]
  refine wpAnyH_take (i := 9) (v := ?_) rfl (by kernel_rfl) (by kernel_rfl) (by kernel_rfl) (fun _ _ _ h => h) (Or.inl ⟨by rfl, ?_⟩) hHeld ?_
  rotate_left
  · intro wq hSw
    try dsimp only at hSw
    go_simp
    all_goals with_reducible rfl
  try simp only [Act.put, List.getElem_toArray, List.getElem_cons_succ, List.getElem_cons_zero, List.setIfInBounds_toArray, List.set_cons_zero, List.set_cons_succ]
  refine wpAnyH_take (i := 10) (v := ?_) rfl (by kernel_rfl) (by kernel_rfl) (by kernel_rfl) (fun _ _ _ h => h) (Or.inl ⟨by rfl, ?_⟩) hHeld ?_
  rotate_left
  · intro wq hSw
    try dsimp only at hSw
    go_simp
    all_goals with_reducible rfl
  try simp only [Act.put, List.getElem_toArray, List.getElem_cons_succ, List.getElem_cons_zero, List.setIfInBounds_toArray, List.set_cons_zero, List.set_cons_succ]
  refine wpAnyH_take (i := 11) (v := ?_) rfl (by kernel_rfl) (by kernel_rfl) (by kernel_rfl) (fun _ _ _ h => h) (Or.inl ⟨by rfl, ?_⟩) hHeld ?_
  rotate_left
  · intro wq hSw
    try dsimp only at hSw
    go_simp
    all_goals with_reducible rfl
  try simp only [Act.put, List.getElem_toArray, List.getElem_cons_succ, List.getElem_cons_zero, List.setIfInBounds_toArray, List.set_cons_zero, List.set_cons_succ]
  refine wpAnyH_take (i := 12) (v := ?_) rfl (by kernel_rfl) (by kernel_rfl) (by kernel_rfl) (fun _ _ _ h => h) (Or.inl ⟨by rfl, ?_⟩) hHeld ?_
  rotate_left
  · intro wq hSw
    try dsimp only at hSw
    go_simp
    all_goals with_reducible rfl
  try simp only [Act.put, List.getElem_toArray, List.getElem_cons_succ, List.getElem_cons_zero, List.setIfInBounds_toArray, List.set_cons_zero, List.set_cons_succ]
  refine wpAnyH_take (i := 13) (v := ?_) rfl (by kernel_rfl) (by kernel_rfl) (by kernel_rfl) (fun _ _ _ h => h) (Or.inl ⟨by rfl, ?_⟩) hHeld ?_
  rotate_left
  · intro wq hSw
    try dsimp only at hSw
    go_simp
    all_goals with_reducible rfl
  try simp only [Act.put, List.getElem_toArray, List.getElem_cons_succ, List.getElem_cons_zero, List.setIfInBounds_toArray, List.set_cons_zero, List.set_cons_succ]
  refine wpAnyH_done (by kernel_rfl) ?_ _
  refine NoPanic.normal ?_
  clear hHeld z To13 To10 To11 To12
  go_wp2_with fail
  refine (vscale_any _ n _ _ _ _ _ (B1.out.keep (Nat.le_refl _) K13.out) K13.out.size hnm hy).mono ?_
  rintro e w14 ⟨P14, n14, c14, rfl, o14, s14⟩
  obtain rfl : n = n14 := by have h := o14.length; rw [vScale, tab_length] at h; exact h
  have O14 := Lib.hid o14
  have S14 := Lib.hid s14
  have K14 := Lib.hid (Keep.trans K13.out S14.out)
  clear o14 s14
  go_wp2_with fail
  refine (vadd_any _ _ n _ _ _ _ _ _ _ (O8.out.bytes.keep (Nat.le_refl _) (Keep.trans S9.out (Keep.trans S10.out (Keep.trans S11.out (Keep.trans S12.out (Keep.trans S13.out (S14.out))))))) O14.out.bytes (Keep.trans S9.out (Keep.trans S10.out (Keep.trans S11.out (Keep.trans S12.out (Keep.trans S13.out (S14.out)))))).size (Nat.le_refl _) hnm).mono ?_
  rintro e w15 ⟨P15, n15, c15, rfl, o15, s15⟩
  obtain rfl : n = n15 := by have h := o15.length; rw [vAdd, tab_length] at h; exact h
  have O15 := Lib.hid o15
  have S15 := Lib.hid s15
  have K15 := Lib.hid (Keep.trans K14.out S15.out)
  clear o15 s15
  go_wp2_with fail
  have To15 := Lib.hid (str_later (c := c15) O15.out.bytes (Nat.le_refl _))
  have Ta1 := Lib.hid (str_later (c := ca) (B1.out.keep (Nat.le_refl _) K15.out) K15.out.size)
  have z : Keep w15 w15.drew := Keep.drew (Keep.refl _)
  refine wp_region_noPanic ?_
  refine wp_region_held_drew (S := (fun w' => (convert 22 9 (.slice P15 n c15)).run Try.prog w' = .ok (.string (strN (vAdd n (vScale n X x) (vScale n X y)))) w' ∧ (convert 22 9 (.slice A1 n ca)).run Try.prog w' = .ok (.string (strN X)) w')) (by kernel_rfl) (⟨To15.out _ z, Ta1.out _ z⟩) (fun hHeld => ?_)
  refine wpAnyH_take (i := 0) (v := ?_) rfl (by kernel_rfl) (by kernel_rfl) (by kernel_rfl) (fun _ _ _ h => h) (Or.inl ⟨by rfl, ?_⟩) hHeld ?_
  rotate_left
  · intro wq hSw
    try dsimp only at hSw
    go_simp
    all_goals with_reducible rfl
  try simp only [Act.put, List.getElem_toArray, List.getElem_cons_succ, List.getElem_cons_zero, List.setIfInBounds_toArray, List.set_cons_zero, List.set_cons_succ]
  refine wpAnyH_take (i := 1) (v := ?_) rfl (by kernel_rfl) (by kernel_rfl) (by kernel_rfl) (fun _ _ _ h => h) (Or.inl ⟨by rfl, ?_⟩) hHeld ?_
  rotate_left
  · intro wq hSw
    try dsimp only at hSw
    go_simp
    all_goals with_reducible rfl
  try simp only [Act.put, List.getElem_toArray, List.getElem_cons_succ, List.getElem_cons_zero, List.setIfInBounds_toArray, List.set_cons_zero, List.set_cons_succ]
  refine wpAnyH_take (i := 2) (v := ?_) rfl (by kernel_rfl) (by kernel_rfl) (by kernel_rfl) (fun _ _ _ h => h) (Or.inl ⟨by rfl, ?_⟩) hHeld ?_
  rotate_left
  · intro wq hSw
    try dsimp only at hSw
    go_simp
    all_goals with_reducible rfl
  try simp only [Act.put, List.getElem_toArray, List.getElem_cons_succ, List.getElem_cons_zero, List.setIfInBounds_toArray, List.set_cons_zero, List.set_cons_succ]
  refine wpAnyH_take (i := 6) (v := ?_) rfl (by kernel_rfl) (by kernel_rfl) (by kernel_rfl) (fun _ _ _ h => h) (Or.inl ⟨by rfl, ?_⟩) hHeld ?_
  rotate_left
  · intro wq hSw
    try dsimp only at hSw
    go_simp
    all_goals with_reducible rfl
  try simp only [Act.put, List.getElem_toArray, List.getElem_cons_succ, List.getElem_cons_zero, List.setIfInBounds_toArray, List.set_cons_zero, List.set_cons_succ]
  refine wpAnyH_take (i := 7) (v := ?_) rfl (by kernel_rfl) (by kernel_rfl) (by kernel_rfl) (fun _ _ _ h => h) (Or.inl ⟨by rfl, ?_⟩) hHeld ?_
  rotate_left
  · intro wq hSw
    try dsimp only at hSw
    go_simp
    all_goals with_reducible rfl
  try simp only [Act.put, List.getElem_toArray, List.getElem_cons_succ, List.getElem_cons_zero, List.setIfInBounds_toArray, List.set_cons_zero, List.set_cons_succ]
  refine wpAnyH_ready (rs := [3]) (by kernel_rfl) (by simp) ?_
  refine AllReadyH.cons rfl (fun K hK => ?_) AllReadyH.nil
  go_simp
  refine (add_eq x y s hx hy HS.out _).mono ?_
  rintro e wx ⟨rfl, rfl⟩
  refine hK.out _ _ (⟨To15.out _ z, Ta1.out _ z⟩) (fun _ => ?_)
  clear hK K
  try simp only [Act.put, List.getElem_toArray, List.getElem_cons_succ, List.getElem_cons_zero, List.setIfInBounds_toArray, List.set_cons_zero, List.set_cons_succ]
  refine wpAnyH_ready (rs := [4]) (by kernel_rfl) (by simp) ?_
  refine AllReadyH.cons rfl (fun K hK => ?_) AllReadyH.nil
  go_simp
  refine (vscale_any _ n _ _ _ _ w15.drew (Bytes.drew (B1.out.keep (Nat.le_refl _) K15.out)) K15.out.size hnm ls).mono ?_
  rw [HD.out]
  rintro e w16 ⟨P16, n16, c16, rfl, o16, s16⟩
  obtain rfl : n = n16 := by have h := o16.length; rw [vAdd, tab_length] at h; exact h
  have O16 := Lib.hid o16
  have S16 := Lib.hid (Keep.trans z s16)
  have K16 := Lib.hid (Keep.trans K15.out S16.out)
  clear o16 s16
  have To16 := Lib.hid (str_later (c := c16) O16.out.bytes (Nat.le_refl _))
  refine hK.out _ _ (⟨To15.out _ (S16.out), Ta1.out _ (S16.out)⟩) (fun _ => ?_)
  clear hK K hHeld
  refine wpAnyH_strong (S' := (fun w' => (convert 22 9 (.slice P16 n c16)).run Try.prog w' = .ok (.string (strN (vAdd n (vScale n X x) (vScale n X y)))) w' ∧ (convert 22 9 (.slice P15 n c15)).run Try.prog w' = .ok (.string (strN (vAdd n (vScale n X x) (vScale n X y)))) w' ∧ (convert 22 9 (.slice A1 n ca)).run Try.prog w' = .ok (.string (strN X)) w')) (fun w h => h.2) _ _ _ _ ?_
  have hHeld : (fun w' => (convert 22 9 (.slice P16 n c16)).run Try.prog w' = .ok (.string (strN (vAdd n (vScale n X x) (vScale n X y)))) w' ∧ (convert 22 9 (.slice P15 n c15)).run Try.prog w' = .ok (.string (strN (vAdd n (vScale n X x) (vScale n X y)))) w' ∧ (convert 22 9 (.slice A1 n ca)).run Try.prog w' = .ok (.string (strN X)) w') w16 := ⟨To16.out _ (Keep.refl _), To15.out _ (S16.out), Ta1.out _ (S16.out)⟩
  try simp only [Act.put, List.getElem_toArray, List.getElem_cons_succ, List.getElem_cons_zero, List.setIfInBounds_toArray, List.set_cons_zero, List.set_cons_succ]
  refine wpAnyH_take (i := 5) (v := ?_) rfl (by kernel_rfl) (by kernel_rfl) (by kernel_rfl) (fun _ _ _ h => h) (Or.inl ⟨by rfl, ?_⟩) hHeld ?_
  rotate_left
  · intro wq hSw
    try dsimp only at hSw
    go_simp
    all_goals with_reducible rfl
  try simp only [Act.put, List.getElem_toArray, List.getElem_cons_succ, List.getElem_cons_zero, List.setIfInBounds_toArray, List.set_cons_zero, List.set_cons_succ]
  refine wpAnyH_take (i := 8) (v := ?_) rfl (by kernel_rfl) (by kernel_rfl) (by kernel_rfl) (fun _ _ _ h => h) (Or.inl ⟨by rfl, ?_⟩) hHeld ?_
  rotate_left
  · intro wq hSw
    try dsimp only at hSw
    go_simp
    all_goals with_reducible rfl
  try simp only [Act.put, List.getElem_toArray, List.getElem_cons_succ, List.getElem_cons_zero, List.setIfInBounds_toArray, List.set_cons_zero, List.set_cons_succ]
  refine wpAnyH_take (i := 9) (v := ?_) rfl (by kernel_rfl) (by kernel_rfl) (by kernel_rfl) (fun _ _ _ h => h) (Or.inl ⟨by rfl, ?_⟩) hHeld ?_
  rotate_left
  · intro wq hSw
    try dsimp only at hSw
    go_simp
    all_goals with_reducible rfl
  try simp only [Act.put, List.getElem_toArray, List.getElem_cons_succ, List.getElem_cons_zero, List.setIfInBounds_toArray, List.set_cons_zero, List.set_cons_succ]
  refine wpAnyH_take (i := 10) (v := ?_) rfl (by kernel_rfl) (by kernel_rfl) (by kernel_rfl) (fun _ _ _ h => h) (Or.inl ⟨by rfl, ?_⟩) hHeld ?_
  rotate_left
  · intro wq hSw
    try dsimp only at hSw
    go_simp
    all_goals with_reducible rfl
  try simp only [Act.put, List.getElem_toArray, List.getElem_cons_succ, List.getElem_cons_zero, List.setIfInBounds_toArray, List.set_cons_zero, List.set_cons_succ]
  refine wpAnyH_take (i := 11) (v := ?_) rfl (by kernel_rfl) (by kernel_rfl) (by kernel_rfl) (fun _ _ _ h => h) (Or.inl ⟨by rfl, ?_⟩) hHeld ?_
  rotate_left
  · intro wq hSw
    try dsimp only at hSw
    go_simp
    all_goals with_reducible rfl
  try simp only [Act.put, List.getElem_toArray, List.getElem_cons_succ, List.getElem_cons_zero, List.setIfInBounds_toArray, List.set_cons_zero, List.set_cons_succ]
  refine wpAnyH_take (i := 14) (v := ?_) rfl (by kernel_rfl) (by kernel_rfl) (by kernel_rfl) (fun _ _ _ h => h) (Or.inl ⟨by rfl, ?_⟩) hHeld ?_
  rotate_left
  · intro wq hSw
    try dsimp only at hSw
    go_simp
    all_goals with_reducible rfl
  try simp only [Act.put, List.getElem_toArray, List.getElem_cons_succ, List.getElem_cons_zero, List.setIfInBounds_toArray, List.set_cons_zero, List.set_cons_succ]
  refine wpAnyH_take (i := 15) (v := ?_) rfl (by kernel_rfl) (by kernel_rfl) (by kernel_rfl) (fun _ _ _ h => h) (Or.inl ⟨by rfl, ?_⟩) hHeld ?_
  rotate_left
  · intro wq hSw
    try dsimp only at hSw
    go_simp
    all_goals with_reducible rfl
  try simp only [Act.put, List.getElem_toArray, List.getElem_cons_succ, List.getElem_cons_zero, List.setIfInBounds_toArray, List.set_cons_zero, List.set_cons_succ]
  refine wpAnyH_take (i := 16) (v := ?_) rfl (by kernel_rfl) (by kernel_rfl) (by kernel_rfl) (fun _ _ _ h => h) (Or.inl ⟨by rfl, ?_⟩) hHeld ?_
  rotate_left
  · intro wq hSw
    try dsimp only at hSw
    go_simp
    all_goals with_reducible rfl
  try simp only [Act.put, List.getElem_toArray, List.getElem_cons_succ, List.getElem_cons_zero, List.setIfInBounds_toArray, List.set_cons_zero, List.set_cons_succ]
  refine wpAnyH_ready (rs := [12]) (by kernel_rfl) (by simp) ?_
  refine AllReadyH.cons rfl (fun K hK => ?_) AllReadyH.nil
  go_simp
  refine (vscale_any _ n _ _ _ _ w16 (O14.out.bytes.keep (Nat.le_refl _) (Keep.trans S15.out (S16.out))) (Keep.trans S15.out (S16.out)).size hnm hx).mono ?_
  rw [HE.out]
  rintro e w17 ⟨P17, n17, c17, rfl, o17, s17⟩
  obtain rfl : n = n17 := by have h := o17.length; rw [vScale, tab_length] at h; exact h
  have O17 := Lib.hid o17
  have S17 := Lib.hid s17
  have K17 := Lib.hid (Keep.trans K16.out S17.out)
  clear o17 s17
  have To17 := Lib.hid (str_later (c := c17) O17.out.bytes (Nat.le_refl _))
  refine hK.out _ _ (⟨To16.out _ (S17.out), To15.out _ (Keep.trans S16.out (S17.out)), Ta1.out _ (Keep.trans S16.out (S17.out))⟩) (fun _ => ?_)
  clear hK K hHeld
  refine wpAnyH_strong (S' := (fun w' => (convert 22 9 (.slice P17 n c17)).run Try.prog w' = .ok (.string (strN (vScale n X p))) w' ∧ (convert 22 9 (.slice P16 n c16)).run Try.prog w' = .ok (.string (strN (vAdd n (vScale n X x) (vScale n X y)))) w' ∧ (convert 22 9 (.slice P15 n c15)).run Try.prog w' = .ok (.string (strN (vAdd n (vScale n X x) (vScale n X y)))) w' ∧ (convert 22 9 (.slice A1 n ca)).run Try.prog w' = .ok (.string (strN X)) w')) (fun w h => h.2) _ _ _ _ ?_
  have hHeld : (fun w' => (convert 22 9 (.slice P17 n c17)).run Try.prog w' = .ok (.string (strN (vScale n X p))) w' ∧ (convert 22 9 (.slice P16 n c16)).run Try.prog w' = .ok (.string (strN (vAdd n (vScale n X x) (vScale n X y)))) w' ∧ (convert 22 9 (.slice P15 n c15)).run Try.prog w' = .ok (.string (strN (vAdd n (vScale n X x) (vScale n X y)))) w' ∧ (convert 22 9 (.slice A1 n ca)).run Try.prog w' = .ok (.string (strN X)) w') w17 := ⟨To17.out _ (Keep.refl _), To16.out _ (S17.out), To15.out _ (Keep.trans S16.out (S17.out)), Ta1.out _ (Keep.trans S16.out (S17.out))⟩
  try simp only [Act.put, List.getElem_toArray, List.getElem_cons_succ, List.getElem_cons_zero, List.setIfInBounds_toArray, List.set_cons_zero, List.set_cons_succ]
  refine wpAnyH_take (i := 13) (v := ?_) rfl (by kernel_rfl) (by kernel_rfl) (by kernel_rfl) (fun _ _ _ h => h) (Or.inl ⟨by rfl, ?_⟩) hHeld ?_
  rotate_left
  · intro wq hSw
    try dsimp only at hSw
    go_simp
    all_goals with_reducible rfl
  try simp only [Act.put, List.getElem_toArray, List.getElem_cons_succ, List.getElem_cons_zero, List.setIfInBounds_toArray, List.set_cons_zero, List.set_cons_succ]
  refine wpAnyH_ready (rs := [17]) (by kernel_rfl) (by simp) ?_
  refine AllReadyH.cons rfl (fun K hK => ?_) AllReadyH.nil
  go_simp
  refine (mul_eq x y p hx hy HP.out _).mono ?_
  rintro e wx ⟨rfl, rfl⟩
  refine hK.out _ _ (⟨To17.out _ (Keep.refl _), To16.out _ (S17.out), To15.out _ (Keep.trans S16.out (S17.out)), Ta1.out _ (Keep.trans S16.out (S17.out))⟩) (fun _ => ?_)
  clear hK K
  try simp only [Act.put, List.getElem_toArray, List.getElem_cons_succ, List.getElem_cons_zero, List.setIfInBounds_toArray, List.set_cons_zero, List.set_cons_succ]
  refine wpAnyH_ready (rs := [18]) (by kernel_rfl) (by simp) ?_
  refine AllReadyH.cons rfl (fun K hK => ?_) AllReadyH.nil
  go_simp
  refine (vscale_any _ n _ _ _ _ w17 (B1.out.keep (Nat.le_refl _) K17.out) K17.out.size hnm lp).mono ?_
  rintro e w18 ⟨P18, n18, c18, rfl, o18, s18⟩
  obtain rfl : n = n18 := by have h := o18.length; rw [vScale, tab_length] at h; exact h
  have O18 := Lib.hid o18
  have S18 := Lib.hid s18
  have K18 := Lib.hid (Keep.trans K17.out S18.out)
  clear o18 s18
  have To18 := Lib.hid (str_later (c := c18) O18.out.bytes (Nat.le_refl _))
  refine hK.out _ _ (⟨To17.out _ (S18.out), To16.out _ (Keep.trans S17.out (S18.out)), To15.out _ (Keep.trans S16.out (Keep.trans S17.out (S18.out))), Ta1.out _ (Keep.trans S16.out (Keep.trans S17.out (S18.out)))⟩) (fun _ => ?_)
  clear hK K hHeld
  refine wpAnyH_strong (S' := (fun w' => (convert 22 9 (.slice P18 n c18)).run Try.prog w' = .ok (.string (strN (vScale n X p))) w' ∧ (convert 22 9 (.slice P17 n c17)).run Try.prog w' = .ok (.string (strN (vScale n X p))) w' ∧ (convert 22 9 (.slice P16 n c16)).run Try.prog w' = .ok (.string (strN (vAdd n (vScale n X x) (vScale n X y)))) w' ∧ (convert 22 9 (.slice P15 n c15)).run Try.prog w' = .ok (.string (strN (vAdd n (vScale n X x) (vScale n X y)))) w' ∧ (convert 22 9 (.slice A1 n ca)).run Try.prog w' = .ok (.string (strN X)) w')) (fun w h => h.2) _ _ _ _ ?_
  have hHeld : (fun w' => (convert 22 9 (.slice P18 n c18)).run Try.prog w' = .ok (.string (strN (vScale n X p))) w' ∧ (convert 22 9 (.slice P17 n c17)).run Try.prog w' = .ok (.string (strN (vScale n X p))) w' ∧ (convert 22 9 (.slice P16 n c16)).run Try.prog w' = .ok (.string (strN (vAdd n (vScale n X x) (vScale n X y)))) w' ∧ (convert 22 9 (.slice P15 n c15)).run Try.prog w' = .ok (.string (strN (vAdd n (vScale n X x) (vScale n X y)))) w' ∧ (convert 22 9 (.slice A1 n ca)).run Try.prog w' = .ok (.string (strN X)) w') w18 := ⟨To18.out _ (Keep.refl _), To17.out _ (S18.out), To16.out _ (Keep.trans S17.out (S18.out)), To15.out _ (Keep.trans S16.out (Keep.trans S17.out (S18.out))), Ta1.out _ (Keep.trans S16.out (Keep.trans S17.out (S18.out)))⟩
  try simp only [Act.put, List.getElem_toArray, List.getElem_cons_succ, List.getElem_cons_zero, List.setIfInBounds_toArray, List.set_cons_zero, List.set_cons_succ]
  refine wpAnyH_take (i := 19) (v := ?_) rfl (by kernel_rfl) (by kernel_rfl) (by kernel_rfl) (fun _ _ _ h => h) (Or.inl ⟨by rfl, ?_⟩) hHeld ?_
  rotate_left
  · intro wq hSw
    try dsimp only at hSw
    go_simp
    all_goals with_reducible rfl
  try simp only [Act.put, List.getElem_toArray, List.getElem_cons_succ, List.getElem_cons_zero, List.setIfInBounds_toArray, List.set_cons_zero, List.set_cons_succ]
  refine wpAnyH_take (i := 20) (v := ?_) rfl (by kernel_rfl) (by kernel_rfl) (by kernel_rfl) (fun _ _ _ h => h) (Or.inl ⟨by rfl, ?_⟩) hHeld ?_
  rotate_left
  · intro wq hSw
    try dsimp only at hSw
    go_simp
    all_goals with_reducible rfl
  try simp only [Act.put, List.getElem_toArray, List.getElem_cons_succ, List.getElem_cons_zero, List.setIfInBounds_toArray, List.set_cons_zero, List.set_cons_succ]
  refine wpAnyH_take (i := 21) (v := ?_) rfl (by kernel_rfl) (by kernel_rfl) (by kernel_rfl) (fun _ _ _ h => h) (Or.inl ⟨by rfl, ?_⟩) hHeld ?_
  rotate_left
  · intro wq hSw
    try dsimp only at hSw
    go_simp
    all_goals with_reducible rfl
  try simp only [Act.put, List.getElem_toArray, List.getElem_cons_succ, List.getElem_cons_zero, List.setIfInBounds_toArray, List.set_cons_zero, List.set_cons_succ]
  refine wpAnyH_take (i := 22) (v := ?_) rfl (by kernel_rfl) (by kernel_rfl) (by kernel_rfl) (fun _ _ _ h => h) (Or.inl ⟨by rfl, ?_⟩) hHeld ?_
  rotate_left
  · intro wq hSw
    try dsimp only at hSw
    go_simp
    all_goals with_reducible rfl
  try simp only [Act.put, List.getElem_toArray, List.getElem_cons_succ, List.getElem_cons_zero, List.setIfInBounds_toArray, List.set_cons_zero, List.set_cons_succ]
  refine wpAnyH_take (i := 23) (v := ?_) rfl (by kernel_rfl) (by kernel_rfl) (by kernel_rfl) (fun _ _ _ h => h) (Or.inl ⟨by rfl, ?_⟩) hHeld ?_
  rotate_left
  · intro wq hSw
    try dsimp only at hSw
    go_simp
    all_goals with_reducible rfl
  try simp only [Act.put, List.getElem_toArray, List.getElem_cons_succ, List.getElem_cons_zero, List.setIfInBounds_toArray, List.set_cons_zero, List.set_cons_succ]
  refine wpAnyH_take (i := 26) (v := ?_) rfl (by kernel_rfl) (by kernel_rfl) (by kernel_rfl) (fun _ _ _ h => h) (Or.inl ⟨by rfl, ?_⟩) hHeld ?_
  rotate_left
  · intro wq hSw
    try dsimp only at hSw
    go_simp
    all_goals with_reducible rfl
  try simp only [Act.put, List.getElem_toArray, List.getElem_cons_succ, List.getElem_cons_zero, List.setIfInBounds_toArray, List.set_cons_zero, List.set_cons_succ]
  refine wpAnyH_take (i := 27) (v := ?_) rfl (by kernel_rfl) (by kernel_rfl) (by kernel_rfl) (fun _ _ _ h => h) (Or.inl ⟨by rfl, ?_⟩) hHeld ?_
  rotate_left
  · intro wq hSw
    try dsimp only at hSw
    go_simp
    all_goals with_reducible rfl
  try simp only [Act.put, List.getElem_toArray, List.getElem_cons_succ, List.getElem_cons_zero, List.setIfInBounds_toArray, List.set_cons_zero, List.set_cons_succ]
  refine wpAnyH_ready (rs := [24]) (by kernel_rfl) (by simp) ?_
  refine AllReadyH.cons rfl (fun K hK => ?_) AllReadyH.nil
  go_simp
  refine (vscale_any _ n _ _ _ _ w18 (B1.out.keep (Nat.le_refl _) K18.out) K18.out.size hnm (by decide)).mono ?_
  rw [HO.out]
  rintro e w19 ⟨P19, n19, c19, rfl, o19, s19⟩
  obtain rfl : n = n19 := by have h := o19.length; rw [HLX.out] at h; exact h
  have O19 := Lib.hid o19
  have S19 := Lib.hid s19
  have K19 := Lib.hid (Keep.trans K18.out S19.out)
  clear o19 s19
  have To19 := Lib.hid (str_later (c := c19) O19.out.bytes (Nat.le_refl _))
  refine hK.out _ _ (⟨To18.out _ (S19.out), To17.out _ (Keep.trans S18.out (S19.out)), To16.out _ (Keep.trans S17.out (Keep.trans S18.out (S19.out))), To15.out _ (Keep.trans S16.out (Keep.trans S17.out (Keep.trans S18.out (S19.out)))), Ta1.out _ (Keep.trans S16.out (Keep.trans S17.out (Keep.trans S18.out (S19.out))))⟩) (fun _ => ?_)
  clear hK K hHeld
  refine wpAnyH_strong (S' := (fun w' => (convert 22 9 (.slice P19 n c19)).run Try.prog w' = .ok (.string (strN X)) w' ∧ (convert 22 9 (.slice P18 n c18)).run Try.prog w' = .ok (.string (strN (vScale n X p))) w' ∧ (convert 22 9 (.slice P17 n c17)).run Try.prog w' = .ok (.string (strN (vScale n X p))) w' ∧ (convert 22 9 (.slice P16 n c16)).run Try.prog w' = .ok (.string (strN (vAdd n (vScale n X x) (vScale n X y)))) w' ∧ (convert 22 9 (.slice P15 n c15)).run Try.prog w' = .ok (.string (strN (vAdd n (vScale n X x) (vScale n X y)))) w' ∧ (convert 22 9 (.slice A1 n ca)).run Try.prog w' = .ok (.string (strN X)) w')) (fun w h => h.2) _ _ _ _ ?_
  have hHeld : (fun w' => (convert 22 9 (.slice P19 n c19)).run Try.prog w' = .ok (.string (strN X)) w' ∧ (convert 22 9 (.slice P18 n c18)).run Try.prog w' = .ok (.string (strN (vScale n X p))) w' ∧ (convert 22 9 (.slice P17 n c17)).run Try.prog w' = .ok (.string (strN (vScale n X p))) w' ∧ (convert 22 9 (.slice P16 n c16)).run Try.prog w' = .ok (.string (strN (vAdd n (vScale n X x) (vScale n X y)))) w' ∧ (convert 22 9 (.slice P15 n c15)).run Try.prog w' = .ok (.string (strN (vAdd n (vScale n X x) (vScale n X y)))) w' ∧ (convert 22 9 (.slice A1 n ca)).run Try.prog w' = .ok (.string (strN X)) w') w19 := ⟨To19.out _ (Keep.refl _), To18.out _ (S19.out), To17.out _ (Keep.trans S18.out (S19.out)), To16.out _ (Keep.trans S17.out (Keep.trans S18.out (S19.out))), To15.out _ (Keep.trans S16.out (Keep.trans S17.out (Keep.trans S18.out (S19.out)))), Ta1.out _ (Keep.trans S16.out (Keep.trans S17.out (Keep.trans S18.out (S19.out))))⟩
  try simp only [Act.put, List.getElem_toArray, List.getElem_cons_succ, List.getElem_cons_zero, List.setIfInBounds_toArray, List.set_cons_zero, List.set_cons_succ]
  refine wpAnyH_take (i := 25) (v := ?_) rfl (by kernel_rfl) (by kernel_rfl) (by kernel_rfl) (fun _ _ _ h => h) (Or.inl ⟨by rfl, ?_⟩) hHeld ?_
  rotate_left
  · intro wq hSw
    try dsimp only at hSw
    go_simp
    all_goals with_reducible rfl
  try simp only [Act.put, List.getElem_toArray, List.getElem_cons_succ, List.getElem_cons_zero, List.setIfInBounds_toArray, List.set_cons_zero, List.set_cons_succ]
  refine wpAnyH_take (i := 28) (v := ?_) rfl (by kernel_rfl) (by kernel_rfl) (by kernel_rfl) (fun _ _ _ h => h) (Or.inl ⟨by rfl, ?_⟩) hHeld ?_
  rotate_left
  · intro wq hSw
    try dsimp only at hSw
    go_simp
    all_goals with_reducible rfl
  try simp only [Act.put, List.getElem_toArray, List.getElem_cons_succ, List.getElem_cons_zero, List.setIfInBounds_toArray, List.set_cons_zero, List.set_cons_succ]
  refine wpAnyH_take (i := 29) (v := ?_) rfl (by kernel_rfl) (by kernel_rfl) (by kernel_rfl) (fun _ _ _ h => h) (Or.inl ⟨by rfl, ?_⟩) hHeld ?_
  rotate_left
  · intro wq hSw
    try dsimp only at hSw
    go_simp
    all_goals with_reducible rfl
  try simp only [Act.put, List.getElem_toArray, List.getElem_cons_succ, List.getElem_cons_zero, List.setIfInBounds_toArray, List.set_cons_zero, List.set_cons_succ]
  refine wpAnyH_take (i := 30) (v := ?_) rfl (by kernel_rfl) (by kernel_rfl) (by kernel_rfl) (fun _ _ _ h => h) (Or.inl ⟨by rfl, ?_⟩) hHeld ?_
  rotate_left
  · intro wq hSw
    try dsimp only at hSw
    go_simp
    all_goals with_reducible rfl
  try simp only [Act.put, List.getElem_toArray, List.getElem_cons_succ, List.getElem_cons_zero, List.setIfInBounds_toArray, List.set_cons_zero, List.set_cons_succ]
  refine wpAnyH_take (i := 31) (v := ?_) rfl (by kernel_rfl) (by kernel_rfl) (by kernel_rfl) (fun _ _ _ h => h) (Or.inl ⟨by rfl, ?_⟩) hHeld ?_
  rotate_left
  · intro wq hSw
    try dsimp only at hSw
    go_simp
    all_goals with_reducible rfl
  try simp only [Act.put, List.getElem_toArray, List.getElem_cons_succ, List.getElem_cons_zero, List.setIfInBounds_toArray, List.set_cons_zero, List.set_cons_succ]
  refine wpAnyH_ready (rs := [32]) (by kernel_rfl) (by simp) ?_
  refine AllReadyH.cons rfl (fun K hK => ?_) AllReadyH.nil
  go_simp
  refine (vscale_any _ n _ _ _ _ w19 (B1.out.keep (Nat.le_refl _) K19.out) K19.out.size hnm (by decide)).mono ?_
  rintro e w20 ⟨P20, n20, c20, rfl, o20, s20⟩
  obtain rfl : n = n20 := by have h := o20.length; rw [vScale, tab_length] at h; exact h
  have O20 := Lib.hid o20
  have S20 := Lib.hid s20
  have K20 := Lib.hid (Keep.trans K19.out S20.out)
  clear o20 s20
  have To20 := Lib.hid (str_later (c := c20) O20.out.bytes (Nat.le_refl _))
  refine hK.out _ _ (⟨To19.out _ (S20.out), To18.out _ (Keep.trans S19.out (S20.out)), To17.out _ (Keep.trans S18.out (Keep.trans S19.out (S20.out))), To16.out _ (Keep.trans S17.out (Keep.trans S18.out (Keep.trans S19.out (S20.out)))), To15.out _ (Keep.trans S16.out (Keep.trans S17.out (Keep.trans S18.out (Keep.trans S19.out (S20.out))))), Ta1.out _ (Keep.trans S16.out (Keep.trans S17.out (Keep.trans S18.out (Keep.trans S19.out (S20.out)))))⟩) (fun _ => ?_)
  clear hK K hHeld
  refine wpAnyH_strong (S' := (fun w' => (convert 22 9 (.slice P20 n c20)).run Try.prog w' = .ok (.string (strN (vScale n X 0))) w' ∧ (convert 22 9 (.slice P19 n c19)).run Try.prog w' = .ok (.string (strN X)) w' ∧ (convert 22 9 (.slice P18 n c18)).run Try.prog w' = .ok (.string (strN (vScale n X p))) w' ∧ (convert 22 9 (.slice P17 n c17)).run Try.prog w' = .ok (.string (strN (vScale n X p))) w' ∧ (convert 22 9 (.slice P16 n c16)).run Try.prog w' = .ok (.string (strN (vAdd n (vScale n X x) (vScale n X y)))) w' ∧ (convert 22 9 (.slice P15 n c15)).run Try.prog w' = .ok (.string (strN (vAdd n (vScale n X x) (vScale n X y)))) w' ∧ (convert 22 9 (.slice A1 n ca)).run Try.prog w' = .ok (.string (strN X)) w')) (fun w h => h.2) _ _ _ _ ?_
  have hHeld : (fun w' => (convert 22 9 (.slice P20 n c20)).run Try.prog w' = .ok (.string (strN (vScale n X 0))) w' ∧ (convert 22 9 (.slice P19 n c19)).run Try.prog w' = .ok (.string (strN X)) w' ∧ (convert 22 9 (.slice P18 n c18)).run Try.prog w' = .ok (.string (strN (vScale n X p))) w' ∧ (convert 22 9 (.slice P17 n c17)).run Try.prog w' = .ok (.string (strN (vScale n X p))) w' ∧ (convert 22 9 (.slice P16 n c16)).run Try.prog w' = .ok (.string (strN (vAdd n (vScale n X x) (vScale n X y)))) w' ∧ (convert 22 9 (.slice P15 n c15)).run Try.prog w' = .ok (.string (strN (vAdd n (vScale n X x) (vScale n X y)))) w' ∧ (convert 22 9 (.slice A1 n ca)).run Try.prog w' = .ok (.string (strN X)) w') w20 := ⟨To20.out _ (Keep.refl _), To19.out _ (S20.out), To18.out _ (Keep.trans S19.out (S20.out)), To17.out _ (Keep.trans S18.out (Keep.trans S19.out (S20.out))), To16.out _ (Keep.trans S17.out (Keep.trans S18.out (Keep.trans S19.out (S20.out)))), To15.out _ (Keep.trans S16.out (Keep.trans S17.out (Keep.trans S18.out (Keep.trans S19.out (S20.out))))), Ta1.out _ (Keep.trans S16.out (Keep.trans S17.out (Keep.trans S18.out (Keep.trans S19.out (S20.out)))))⟩
  try simp only [Act.put, List.getElem_toArray, List.getElem_cons_succ, List.getElem_cons_zero, List.setIfInBounds_toArray, List.set_cons_zero, List.set_cons_succ]
  refine wpAnyH_ready (rs := [33]) (by kernel_rfl) (by simp) ?_
  refine AllReadyH.cons rfl (fun K hK => ?_) AllReadyH.nil
  go_simp
  refine (vzero_any _ n _ _ _ w20 O20.out.bytes (Nat.le_refl _) hnm).mono ?_
  rw [vLead_none]
  rintro e w21 ⟨rfl, s21⟩
  have S21 := Lib.hid s21
  have K21 := Lib.hid (Keep.trans K20.out S21.out)
  clear s21
  refine hK.out _ _ (⟨To20.out _ (S21.out), To19.out _ (Keep.trans S20.out (S21.out)), To18.out _ (Keep.trans S19.out (Keep.trans S20.out (S21.out))), To17.out _ (Keep.trans S18.out (Keep.trans S19.out (Keep.trans S20.out (S21.out)))), To16.out _ (Keep.trans S17.out (Keep.trans S18.out (Keep.trans S19.out (Keep.trans S20.out (S21.out))))), To15.out _ (Keep.trans S16.out (Keep.trans S17.out (Keep.trans S18.out (Keep.trans S19.out (Keep.trans S20.out (S21.out)))))), Ta1.out _ (Keep.trans S16.out (Keep.trans S17.out (Keep.trans S18.out (Keep.trans S19.out (Keep.trans S20.out (S21.out))))))⟩) (fun hHeld => ?_)
  clear hK K
  try simp only [Act.put, List.getElem_toArray, List.getElem_cons_succ, List.getElem_cons_zero, List.setIfInBounds_toArray, List.set_cons_zero, List.set_cons_succ]
  refine wpAnyH_take (i := 34) (v := ?_) rfl (by kernel_rfl) (by kernel_rfl) (by kernel_rfl) (fun _ _ _ h => h) (Or.inl ⟨by rfl, ?_⟩) hHeld ?_
  rotate_left
  · intro wq hSw
    try dsimp only at hSw
    go_simp
    all_goals with_reducible rfl
  try simp only [Act.put, List.getElem_toArray, List.getElem_cons_succ, List.getElem_cons_zero, List.setIfInBounds_toArray, List.set_cons_zero, List.set_cons_succ]
  refine wpAnyH_take (i := 35) (v := ?_) rfl (by kernel_rfl) (by kernel_rfl) (by kernel_rfl) (fun _ _ _ h => h) (Or.inl ⟨by rfl, ?_⟩) hHeld ?_
  rotate_left
  · intro wq hSw
    try dsimp only at hSw
    go_simp
    all_goals with_reducible rfl
  try simp only [Act.put, List.getElem_toArray, List.getElem_cons_succ, List.getElem_cons_zero, List.setIfInBounds_toArray, List.set_cons_zero, List.set_cons_succ]
  refine wpAnyH_done (by kernel_rfl) ?_ _
  refine NoPanic.normal ?_
  clear hHeld z To20 To19 To18 To17 To16 To15 Ta1
  by_cases h0 : x = 0
  · have b0 : ((x : Int) == 0) = true := beq_iff_eq.2 (by omega)
    clear h0 HL
    go_wp2_with fail
    refine (wakes_any _).mono ?_
    rintro e wz ⟨rfl, sz⟩
    go_wp2_with fail
    go_ret
    exact ⟨rfl, Keep.trans K21.out sz⟩
  · have b0 : ((x : Int) == 0) = false := beq_eq_false_iff_ne.2 (by omega)
    have HL2 := Lib.hid (HL.out h0)
    clear h0 HL
    go_wp2_with fail
    refine (vlead_any _ n _ _ _ _ (O8.out.bytes.keep (Nat.le_refl _) (Keep.trans S9.out (Keep.trans S10.out (Keep.trans S11.out (Keep.trans S12.out (Keep.trans S13.out (Keep.trans S14.out (Keep.trans S15.out (Keep.trans S16.out (Keep.trans S17.out (Keep.trans S18.out (Keep.trans S19.out (Keep.trans S20.out (S21.out)))))))))))))) (Keep.trans S9.out (Keep.trans S10.out (Keep.trans S11.out (Keep.trans S12.out (Keep.trans S13.out (Keep.trans S14.out (Keep.trans S15.out (Keep.trans S16.out (Keep.trans S17.out (Keep.trans S18.out (Keep.trans S19.out (Keep.trans S20.out (S21.out))))))))))))).size hnm).mono ?_
    rw [HL2.out]
    rintro e wy ⟨rfl, sy⟩
    have SY := Lib.hid sy
    have KY := Lib.hid (Keep.trans K21.out sy)
    clear sy
    go_wp2_with fail
    refine (vlead_any _ n _ _ _ _ (B1.out.keep (Nat.le_refl _) KY.out) KY.out.size hnm).mono ?_
    rintro e wx ⟨rfl, sx⟩
    have KX := Lib.hid (Keep.trans KY.out sx)
    clear sx
    go_wp2_with fail
    refine (wakes_any _).mono ?_
    rintro e wz ⟨rfl, sz⟩
    go_wp2_with fail
    go_ret
    exact ⟨rfl, Keep.trans KX.out sz⟩
end Go.Proofs.Ytkinhhplhkbljaa

