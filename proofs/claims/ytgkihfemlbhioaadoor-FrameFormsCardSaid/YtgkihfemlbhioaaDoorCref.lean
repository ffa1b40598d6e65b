/- Contracts of the document's own answers of layer 4. -/
import Derived.Test.YtgkihfemlbhioaaDoorNew
import Derived.Test.YtgkihfemlbhioaaDoorCrcPlain
import Derived.Test.YtgkihfemlbhioaaDoorRegion
import Derived.Test.YtgkihfemlbhioaaDoorOpen
namespace Go.Proofs.YtgkihfemlbhioaaDoor
set_option linter.unusedVariables false
set_option linter.unusedSimpArgs false
open Go.RowKit Crc
/-- u32's xor, in numbers. -/
theorem xor32 (x y : Nat) (hx : x < 4294967296) (hy : y < 4294967296) : bits .xor .u32 (x : Int) (y : Int) = ((x ^^^ y : Nat) : Int) := u32_xor_nat x y hx hy
set_option maxHeartbeats 1000000 in
theorem rtakeb_any (x c : Nat) (hx : x < 4294967296) (hc : c < 256) (w : World) :
    Calls Tryd.prog 63 #[.int .u32 x, .int .u8 c] w fun e w' => e = .returned (.int .u32 (takeN x c : Nat)) ∧ w = w' := by
  have h0 := xor32 x c hx (by omega)
  have hlt : x ^^^ c < 4294967296 := Nat.xor_lt_two_pow (n := 32) hx (by omega)
  obtain ⟨y, hy⟩ : ∃ y, x ^^^ c = y := ⟨_, rfl⟩
  have HY : Hid (takeN x c = stepsN 8 y) := by show _ = _; rw [takeN, hy]
  rw [hy] at h0 hlt
  clear hy
  go_enter Tryd.func63, Tryd.ntmps63
  go_wp2_with fail
  go_loop [0, 5] (fun t i => ∃ j : Nat, j ≤ 8 ∧ i = .int .i64 j ∧ t = .int .u32 (stepsN j y : Nat)) (fun _ i => 8 - (intOf i).toNat)
  case atStart => exact ⟨0, by omega, rfl, rfl⟩
  case round =>
    obtain ⟨j, hj, rfl, rfl⟩ := hrel
    by_cases h8 : j < 8
    · have HS := Lib.hid (steps_succ j y)
      have hz : stepsN j y < 4294967296 := steps_lt j hlt
      generalize stepsN j y = z at *
      obtain ⟨q, hq⟩ : ∃ q, z / 2 = q := ⟨_, rfl⟩
      have e1 : (z : Int) / 2 = (q : Int) := by omega
      by_cases hp : z % 2 = 1
      · have e2 : (z : Int) % 2 = 1 := by omega
        obtain ⟨v, hv⟩ : ∃ v, q ^^^ poly = v := ⟨_, rfl⟩
        have e3 : bits .xor .u32 (q : Int) 3988292384 = (v : Int) := by rw [← hv]; exact xor32 q 3988292384 (by omega) (by decide)
        have HV : Hid (stepN z = v) := by show _ = _; rw [stepN, if_pos hp, hq, hv]
        clear hp hq hv h0
        go_wp2_with fail
        go_round
        case rel => exact ⟨j + 1, by omega, by go_num, by rw [HS.out, HV.out]⟩
        case measure => simp [intOf]; omega
      · have e2 : (z : Int) % 2 = 0 := by omega
        have HV : Hid (stepN z = q) := by show _ = _; rw [stepN, if_neg hp, hq]
        clear hp hq h0
        go_wp2_with fail
        go_round
        case rel => exact ⟨j + 1, by omega, by go_num, by rw [HS.out, HV.out]⟩
        case measure => simp [intOf]; omega
    · obtain rfl : j = 8 := by omega
      go_wp2_with fail
      go_ret
      exact ⟨by rw [HY.out]; rfl, rfl⟩
set_option maxHeartbeats 1000000 in
theorem rsum_any (B n c : Nat) (A : Option Addr) (xs : List Nat) (w : World) (h : Bytes w B A n xs) (hn : n ≤ 140737488355328) :
    Calls Tryd.prog 48 #[.slice A n c] w fun e w' => e = .returned (.int .u32 (sumN xs : Nat)) ∧ w = w' := by
  have HB := Lib.hid h
  have HL := Lib.hid h.length
  clear h
  go_enter Tryd.func48, Tryd.ntmps48
  go_wp2_with fail
  go_loop [3, 4] (fun t i => ∃ j : Nat, j ≤ n ∧ i = .int .i64 j ∧ t = .int .u32 (regN ones (xs.take j) : Nat)) (fun _ i => n - (intOf i).toNat)
  case atStart => exact ⟨0, by omega, rfl, rfl⟩
  case round =>
    obtain ⟨j, hj, rfl, rfl⟩ := hrel
    have hz : regN ones (xs.take j) < 4294967296 := reg_lt (x := ones) (by decide) (fun c hc => HB.out.all c (List.mem_of_mem_take hc))
    by_cases hlt : j < n
    · obtain ⟨b, off, rfl, hb, hc⟩ := HB.out.at_ hlt
      have hx := HB.out.all.getD j
      have hr : regN ones (xs.take (j + 1)) = takeN (regN ones (xs.take j)) (xs.getD j 0) := by
        have hl : j < xs.length := by rw [HL.out]; exact hlt
        rw [List.take_add_one, List.getElem?_eq_getElem hl, Option.toList_some, reg_append, List.getD_eq_getElem?_getD, List.getElem?_eq_getElem hl]
        rfl
      have HR := Lib.hid hr
      have e1 : (0 : Int) ≤ (j : Int) := Int.natCast_nonneg _
      have e2 : (j : Int) < (n : Int) := by omega
      generalize regN ones (xs.take j) = z at *
      generalize xs.getD j 0 = v at *
      clear hr
      go_wp2_with fail
      refine (rtakeb_any z v hz hx _).mono ?_
      rintro e w1 ⟨rfl, rfl⟩
      go_wp2_with fail
      go_round
      case rel => exact ⟨j + 1, by omega, by go_num, by rw [HR.out]⟩
      case measure => simp [intOf]; omega
    · obtain rfl : j = n := by omega
      have HS : Hid (sumN xs = regN ones (xs.take j) ^^^ 4294967295) := by show _ = _; rw [List.take_of_length_le (by rw [HL.out]; exact Nat.le_refl _)]; rfl
      generalize regN ones (xs.take j) = z at *
      obtain ⟨v, hv⟩ : ∃ v, z ^^^ 4294967295 = v := ⟨_, rfl⟩
      have e3 : bits .xor .u32 (z : Int) 4294967295 = (v : Int) := by rw [← hv]; exact xor32 z 4294967295 hz (by decide)
      have HV := Lib.hid hv
      clear hv
      go_wp2_with fail
      go_ret
      exact ⟨by rw [HS.out, HV.out]; rfl, rfl⟩
def joinVal (a b : Nat) (n : Int) : Nat := if n < 0 ∨ 1048576 < n then 0 else meetN a b n.toNat
def joinErr (n : Int) : Int := if n < 0 ∨ 1048576 < n then 1 else 0
theorem str_later {w : World} {B n c : Nat} {A : Option Addr} {xs : List Nat} (h : Bytes w B A n xs) (hB : B ≤ w.heap.size) : ∀ w', Keep w w' → (convert 23 9 (.slice A n c)).run Tryd.prog w' = .ok (.string (strN xs)) w' :=
  fun _ k => run_str (h.keep hB k) Tryd.underlying23 Tryd.underlying5 Tryd.underlying9 c
/-- The sealed form while it is laid. -/
theorem le4_take (v j : Nat) (hj : j < 4) : (le4 v).take (j + 1) = (le4 v).take j ++ [v / 256 ^ j % 256] := by
  match j, hj with
  | 0, _ => simp [le4]
  | 1, _ => simp [le4]
  | 2, _ => simp [le4]
  | 3, _ => simp [le4]
set_option maxRecDepth 100000 in
set_option maxHeartbeats 1000000 in
theorem rseal_any (B n c : Nat) (A : Option Addr) (xs : List Nat) (w : World) (h : Bytes w B A n xs) (hB : B ≤ w.heap.size) (hn : n ≤ 140737488351232) :
    Calls Tryd.prog 22 #[.slice A n c] w (NewBytes w (sealN xs)) := by
  have HB := Lib.hid h
  have HL := Lib.hid h.length
  have hs := sum_lt h.all
  clear h
  go_enter Tryd.func22, Tryd.ntmps22
  go_wp2_with fail
  refine (rsum_any B n c A xs w HB.out (by omega)).mono ?_
  rintro e w1 ⟨rfl, rfl⟩
  have HS : Hid (sealN xs = xs ++ le4 (sumN xs)) := by show _ = _; rfl
  generalize sumN xs = v at *
  go_wp2_with (at_builtin; refine wpList_append_bytes rfl _ _ 23 rfl Tryd.underlying23 info5 rfl (Own.none_ w w.heap.size 5) rfl HB.out (by omega) (Nat.le_refl _) ?_)
  intro A1 c1 w1 o1 g1 _
  have O1 := Lib.hid o1
  have K1 := Lib.hid ((Keep.refl w).grown g1 (fun k hk => by cases hk))
  clear o1 g1
  go_wp2_with fail
  go_loopw [3, 4, 5] (fun t o i wr => ∃ (j : Nat) (Ao : Option Addr) (no co : Nat), j ≤ 4 ∧ i = .int .i64 j ∧ t = .int .u32 (v / 256 ^ j : Nat) ∧ o = .slice Ao no co ∧ Own wr w.heap.size 5 Ao no co (xs ++ (le4 v).take j) ∧ Keep w wr) (fun _ _ i _ => 4 - (intOf i).toNat)
  case atStart => exact ⟨0, A1, _, c1, by omega, rfl, by simp, rfl, by simpa using O1.out, K1.out⟩
  case round =>
    obtain ⟨j, Ao, no, co, hj, rfl, rfl, rfl, hown, hkeep⟩ := hrel
    have HO := Lib.hid hown
    have HK := Lib.hid hkeep
    have hno : no ≤ 140737488351232 + 4 := by
      have e := hown.length
      rw [List.length_append, HL.out, List.length_take] at e
      omega
    clear hown hkeep
    by_cases hlt : j < 4
    · have e2 : (j : Int) < 4 := by omega
      have HT := Lib.hid (le4_take v j hlt)
      obtain ⟨q, hq⟩ : ∃ q, v / 256 ^ j = q := ⟨_, rfl⟩
      obtain ⟨q', hq'⟩ : ∃ q', v / 256 ^ (j + 1) = q' := ⟨_, rfl⟩
      have q32 : q < 4294967296 := Nat.lt_of_le_of_lt (by rw [← hq]; exact Nat.div_le_self _ _) hs
      obtain ⟨d, hd⟩ : ∃ d, q % 256 = d := ⟨_, rfl⟩
      have d2 : d < 256 := by omega
      have e3 : (q : Int) % 256 = (d : Int) := by omega
      have e4 : (d : Int) % 256 = (d : Int) := by omega
      have e5 : (q : Int) / 256 = (q' : Int) := by
        have : q' = q / 256 := by rw [← hq', ← hq, Nat.pow_succ, Nat.div_div_eq_div_mul]
        omega
      rw [hq, hd] at HT
      have HQ := Lib.hid hq'
      rw [hq]
      clear hq hq' hd
      go_wp2_with (at_builtin; refine wpList_append_bytes rfl _ _ 23 rfl Tryd.underlying23 info5 rfl (HO.out.alloc _) rfl (Bytes.one wr d d2 5) (by omega) (by have := HK.out.size; simp; omega) ?_)
      intro A2 c2 w2 h2 hgr2 _
      have HO2 := Lib.hid h2
      have HK2 := Lib.hid ((HK.out.alloc _ _).grown hgr2 HO.out.rowLe)
      clear h2 hgr2
      go_wp2_with fail
      go_roundw
      case rel => exact ⟨j + 1, A2, _, c2, by omega, by go_num, by rw [HQ.out], rfl, by rw [HT.out]; exact HO2.out, HK2.out⟩
      case measure => simp [intOf]; omega
    · obtain rfl : j = 4 := by omega
      go_wp2_with fail
      go_ret
      exact ⟨Ao, no, co, rfl, by rw [HS.out]; exact HO.out, HK.out⟩
theorem ropen_short (n c : Nat) (A : Option Addr) (hn : n < 4) (w : World) : Calls Tryd.prog 25 #[.slice A n c] w (NewPair w [] 4) := by
  have b1 : (n : Int) < 4 := by omega
  go_enter Tryd.func25, Tryd.ntmps25
  go_wp2_with fail
  go_ret2
  exact NewPair.nil w 4
set_option maxRecDepth 100000 in
set_option maxHeartbeats 1000000 in
theorem ropen_in (B n c : Nat) (A : Option Addr) (xs : List Nat) (w : World) (h : Bytes w B A n xs) (hB : B ≤ w.heap.size) (h4 : 4 ≤ n) (hn : n ≤ 140737488351232) (hc : n ≤ c) :
    Calls Tryd.prog 25 #[.slice A n c] w (NewPair w (openVal xs) (openErr xs : Nat)) := by
  have HB := Lib.hid h
  have b1 : ¬ (n : Int) < 4 := by omega
  obtain ⟨m, hm⟩ : ∃ m, n - 4 = m := ⟨_, rfl⟩
  have b2 : (n : Int) - 4 = (m : Int) := by omega
  have b3 : (0 : Int) ≤ (m : Int) := Int.natCast_nonneg _
  have b4 : (m : Int) ≤ (n : Int) := by omega
  have b5 : (m : Int) ≤ (c : Int) := by omega
  have TB := Lib.hid (str_later (c := c) h hB)
  have HL := Lib.hid h.length
  have HF : Hid (frontN xs = xs.take m) := by show _ = _; rw [frontN, h.length, hm]
  have hall : AllB (sealN (xs.take m)) := (h.all.take m).append (le4_all _)
  obtain ⟨t, ht⟩ : ∃ t, decide (sealN (xs.take m) = xs) = t := ⟨_, rfl⟩
  have hq : ((strN (sealN (xs.take m))).toList == (strN xs).toList) = t := by
    rw [← ht]
    by_cases e : sealN (xs.take m) = xs
    · rw [decide_eq_true e, strN_eq e]
    · rw [decide_eq_false e, strN_ne hall h.all e]
  have hq2 : ((strN (sealN (xs.take m))).toList != (strN xs).toList) = !t := by rw [bne, hq]
  have HTT := Lib.hid ht
  clear h hall ht
  go_enter Tryd.func25, Tryd.ntmps25
  go_wp2_with fail
  refine wp_region_noPanic ?_
  refine wp_region_held_drew (S := fun wz => Keep w wz) (by kernel_rfl) (Keep.drew (Keep.refl _)) (fun hHeld => ?_)
  refine wpAnyH_take (i := 0) (v := ?_) rfl (by kernel_rfl) (by kernel_rfl) (by kernel_rfl) (fun _ _ _ h => h) (Or.inl ⟨by rfl, ?_⟩) hHeld ?_
  rotate_left
  · intro wq hSw
    go_simp
    all_goals with_reducible rfl
  try simp only [Act.put, List.getElem_toArray, List.getElem_cons_succ, List.getElem_cons_zero, List.setIfInBounds_toArray, List.set_cons_zero, List.set_cons_succ]
  refine wpAnyH_take (i := 3) (v := ?_) rfl (by kernel_rfl) (by kernel_rfl) (by kernel_rfl) (fun _ _ _ h => h) (Or.inl ⟨by rfl, ?_⟩) hHeld ?_
  rotate_left
  · intro wq hSw
    go_simp
    all_goals with_reducible rfl
  try simp only [Act.put, List.getElem_toArray, List.getElem_cons_succ, List.getElem_cons_zero, List.setIfInBounds_toArray, List.set_cons_zero, List.set_cons_succ]
  refine wpAnyH_take (i := 4) (v := ?_) rfl (by kernel_rfl) (by kernel_rfl) (by kernel_rfl) (fun _ _ _ h => h) (Or.inl ⟨by rfl, ?_⟩) hHeld ?_
  rotate_left
  · intro wq hSw
    have q0 := TB.out wq hSw
    go_simp
    all_goals with_reducible rfl
  try simp only [Act.put, List.getElem_toArray, List.getElem_cons_succ, List.getElem_cons_zero, List.setIfInBounds_toArray, List.set_cons_zero, List.set_cons_succ]
  refine wpAnyH_ready (rs := [1]) (by kernel_rfl) (by simp) ?_
  refine AllReadyH.cons rfl (fun K hK => ?_) AllReadyH.nil
  go_simp
  refine (rseal_any _ m _ _ _ _ ((HB.out.cut (by omega)).keep hB hHeld) (by have := hHeld.size; omega) (by omega)).mono ?_
  rintro e w1 ⟨A1, n1, c1, rfl, o1, k1⟩
  have T1 := Lib.hid (str_later (c := c1) o1.bytes (Nat.le_refl _))
  have hKp : Keep w w1 := Keep.trans hHeld k1
  refine hK.out _ _ hKp (fun _ => ?_)
  clear hK K hHeld
  refine wpAnyH_strong (S' := fun wz => Keep w1 wz) (fun wz h => Keep.trans hKp h) _ _ _ _ ?_
  have hHeld : Keep w1 w1 := Keep.refl _
  try simp only [Act.put, List.getElem_toArray, List.getElem_cons_succ, List.getElem_cons_zero, List.setIfInBounds_toArray, List.set_cons_zero, List.set_cons_succ]
  refine wpAnyH_take (i := 2) (v := ?_) rfl (by kernel_rfl) (by kernel_rfl) (by kernel_rfl) (fun _ _ _ h => h) (Or.inl ⟨by rfl, ?_⟩) hHeld ?_
  rotate_left
  · intro wq hSw
    have q0 := T1.out wq hSw
    go_simp
    all_goals with_reducible rfl
  try simp only [Act.put, List.getElem_toArray, List.getElem_cons_succ, List.getElem_cons_zero, List.setIfInBounds_toArray, List.set_cons_zero, List.set_cons_succ]
  refine wpAnyH_take (i := 5) (v := ?_) rfl (by kernel_rfl) (by kernel_rfl) (by kernel_rfl) (fun _ _ _ h => h) (Or.inl ⟨by rfl, ?_⟩) hHeld ?_
  rotate_left
  · intro wq hSw
    go_simp
    all_goals with_reducible rfl
  try simp only [Act.put, List.getElem_toArray, List.getElem_cons_succ, List.getElem_cons_zero, List.setIfInBounds_toArray, List.set_cons_zero, List.set_cons_succ]
  refine wpAnyH_done (by kernel_rfl) ?_ _
  refine NoPanic.normal ?_
  clear hHeld
  have HK := Lib.hid hKp
  clear hKp k1 hq hq2
  cases t with
  | true =>
    have he : sealN (frontN xs) = xs := by rw [HF.out]; exact of_decide_eq_true HTT.out
    have E1 : Hid (openErr xs = 0) := by show _ = _; rw [openErr, if_neg (by rw [HL.out]; omega), if_pos he]
    have E2 : Hid (openVal xs = xs.take m) := by show _ = _; rw [openVal, if_pos E1.out, HF.out]
    clear he
    go_wp2_with (at_builtin; refine wpList_append_bytes rfl _ _ 23 rfl Tryd.underlying23 info5 rfl (Own.none_ w1 w.heap.size 5) rfl ((HB.out.cut (m := m) (by omega)).keep hB HK.out) (by omega) HK.out.size ?_)
    intro A2 c2 w2 h2 hgr2 _
    have HO2 := Lib.hid h2
    have HK2 := Lib.hid (HK.out.grown hgr2 (fun k hk => by cases hk))
    clear h2 hgr2
    go_wp2_with fail
    go_ret2
    rw [E1.out, E2.out]
    exact ⟨A2, _, c2, rfl, by simpa using HO2.out, HK2.out⟩
  | false =>
    have he : ¬ sealN (frontN xs) = xs := by rw [HF.out]; exact of_decide_eq_false HTT.out
    have E1 : Hid (openErr xs = 20) := by show _ = _; rw [openErr, if_neg (by rw [HL.out]; omega), if_neg he]
    have E2 : Hid (openVal xs = []) := by show _ = _; rw [openVal, if_neg (by rw [E1.out]; decide)]
    clear he
    go_wp2_with fail
    go_ret2
    rw [E1.out, E2.out]
    exact ⟨none, 0, 0, rfl, Own.none_ _ _ _, HK.out⟩
theorem ropen_any (B n c : Nat) (A : Option Addr) (xs : List Nat) (w : World) (h : Bytes w B A n xs) (hB : B ≤ w.heap.size) (hn : n ≤ 140737488351232) (hc : n ≤ c) :
    Calls Tryd.prog 25 #[.slice A n c] w (NewPair w (openVal xs) (openErr xs : Nat)) := by
  by_cases h4 : n < 4
  · have E1 : openErr xs = 4 := by rw [openErr, if_pos (by rw [h.length]; exact h4)]
    have E2 : openVal xs = [] := by rw [openVal, if_neg (by rw [E1]; decide)]
    rw [E1, E2]
    exact ropen_short n c A h4 w
  · exact ropen_in B n c A xs w h hB (by omega) hn hc
end Go.Proofs.YtgkihfemlbhioaaDoor
