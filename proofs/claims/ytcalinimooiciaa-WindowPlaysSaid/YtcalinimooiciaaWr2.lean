/- The document's own window: In, End, Slot, Move; lists held side by side. -/
import Derived.Test.YtcalinimooiciaaWr1
import Derived.Test.YtcalinimooiciaaRegion
import Derived.BigQuiet
namespace Go.Proofs.Ytcalinimooiciaa
open Go.RowKit
set_option linter.unusedVariables false
set_option linter.unusedSimpArgs false
section
variable {g k b : Nat} {w : World}
set_option maxRecDepth 100000 in
set_option maxHeartbeats 1000000 in
/-- Its In. -/
theorem rin_any (n : Nat) (h : RefW w g k b) :
    Calls Try.prog 14 #[.pointer (some ⟨g, 0, none⟩), .int .u64 (n : Int)] w fun e w' => e = .returned (.bool (winIn b k n)) ∧ Keep w w' := by
  have hk := h.high
  go_enter Try.func14, Try.ntmps14
  go_wp2_with fail
  refine (rall_any h).mono ?_
  rintro e w1 ⟨A, m, c, rfl, ho, hkw⟩
  have HI := Lib.hid ho.ins
  have HK := Lib.hid hkw
  have hm : m ≤ 16 := by
    have := winL_le b k
    rw [ho.length] at this
    omega
  have HL := Lib.hid ho.length
  clear ho hkw
  go_wp2_with fail
  go_loopw [6] (fun i wr => ∃ j : Nat, j ≤ m ∧ i = .int .i64 j ∧ wr = w1 ∧ ∀ x ∈ (winL b k).take j, x ≠ n) (fun i _ => m - (intOf i).toNat)
  case atStart => exact ⟨0, Nat.zero_le _, rfl, rfl, fun x hx => by simp at hx⟩
  case round =>
    obtain ⟨j, hj, rfl, rfl, hx⟩ := hrel
    have HX := Lib.hid hx
    clear hx
    by_cases hlt : j < m
    · obtain ⟨q, off, x, rfl, _, _, hx, hc⟩ := HI.out.at_ hlt
      have HG := Lib.hid hx
      clear hx
      have e1 : (0 : Int) ≤ (j : Int) := Int.natCast_nonneg _
      have e2 : (j : Int) < (m : Int) := by omega
      by_cases hxn : x = n
      · have d : decide ((x : Int) = (n : Int)) = true := decide_eq_true (by omega)
        go_wp2_with fail
        go_ret
        exact ⟨by rw [winIn_mem, decide_eq_true (by rw [← hxn]; exact List.mem_of_getElem? HG.out)]; rfl, HK.out⟩
      · have d : ¬ (x : Int) = (n : Int) := by omega
        go_wp2_with fail
        go_roundw
        case rel =>
          refine ⟨j + 1, by omega, by go_num, trivial, fun y hy => ?_⟩
          rw [List.take_add_one, HG.out] at hy
          rcases List.mem_append.1 hy with hy | hy
          · exact HX.out y hy
          · simp at hy; subst hy; exact hxn
        case measure => simp [intOf]; omega
    · have d1 : ¬ (j : Int) < (m : Int) := by omega
      obtain rfl : j = m := by omega
      go_wp2_with fail
      go_ret
      refine ⟨?_, HK.out⟩
      rw [winIn_mem, decide_eq_false (fun hmem => HX.out n (by rw [List.take_of_length_le (by rw [HL.out]; omega)]; exact hmem) rfl)]; rfl
/-- Its Slot. -/
theorem rslot_any (n : Nat) (hn : n < 18446744073709551616) (h : RefW w g k b) : Calls Try.prog 12 #[.pointer (some ⟨g, 0, none⟩), .int .u64 (n : Int)] w fun e w' => e = .returned (.tuple #[.int .i64 ((if winIn b k n then n % k else 0 : Nat) : Int), .int .i64 (if winIn b k n then 0 else 1)]) ∧ Keep w w' := by
  have hk := h.high
  have hl := h.low
  cases hi : winIn b k n with
  | true =>
    have hm : n % k < k := Nat.mod_lt _ (by omega)
    have e1 : IntKind.u64.wrap (k : Int) = (k : Int) := IntWalk.u64_in _ (by omega)
    have e2 : (n : Int).tmod (k : Int) = ((n % k : Nat) : Int) := by rw [Int.tmod_eq_emod_of_nonneg (by omega)]; rfl
    have e3 : IntKind.u64.wrap ((n % k : Nat) : Int) = ((n % k : Nat) : Int) := IntWalk.u64_in _ (by omega)
    have e4 : IntKind.i64.wrap ((n % k : Nat) : Int) = ((n % k : Nat) : Int) := IntWalk.i64_in _ (by omega)
    have e5 : (k : Int) ≠ 0 := by omega
    go_enter Try.func12, Try.ntmps12
    go_wp2_with fail
    refine (rin_any n h).mono ?_
    rw [hi]
    rintro e w1 ⟨rfl, hkw⟩
    have c1 := (h.keep hkw).c1
    go_wp2_with fail
    go_ret2
    exact ⟨rfl, hkw⟩
  | false =>
    go_enter Try.func12, Try.ntmps12
    go_wp2_with fail
    refine (rin_any n h).mono ?_
    rw [hi]
    rintro e w1 ⟨rfl, hkw⟩
    go_wp2_with fail
    go_ret2
    exact ⟨rfl, hkw⟩
/-- Its Move. -/
theorem rmove_out (c : Nat) (hc : topN < c) (w : World) :
    Calls Try.prog 10 #[.pointer (some ⟨g, 0, none⟩), .int .u64 (c : Int)] w fun e w' => e = .returned (.tuple #[.slice none 0 0, .int .i64 1]) ∧ w' = w := by
  unfold topN at hc
  have d : (1099511627776 : Int) < (c : Int) := by omega
  go_enter Try.func10, Try.ntmps10
  go_wp2_with fail
  go_ret2
  exact ⟨rfl, rfl⟩
theorem u64_gone' (b k c i : Nat) (h : winIn c k (b + i) = false) : (goneN b k c (i + 1)).map u64 = (goneN b k c i).map u64 ++ [Value.int .u64 ((b + i : Nat) : Int)] := by
  rw [goneN_out _ _ _ _ h, List.map_append]; rfl
set_option maxRecDepth 100000 in
set_option maxHeartbeats 1000000 in
theorem rmove_in (c : Nat) (hc : c ≤ topN) (h : RefW w g k b) :
    Calls Try.prog 10 #[.pointer (some ⟨g, 0, none⟩), .int .u64 (c : Int)] w fun e w' => ∃ A n q, e = .returned (.tuple #[.slice A n q, .int .i64 0]) ∧ OwnU w' w.heap.size A n q (winGone b k c) ∧ RefW w' g k c ∧ Turned (fun x => x = g) w w' := by
  have hc2 := hc
  unfold topN at hc2
  have d : ¬ (1099511627776 : Int) < (c : Int) := by omega
  have hk := h.high
  have hlt := h.lt
  go_enter Try.func10, Try.ntmps10
  go_wp2_with fail
  refine (rall_any h).mono ?_
  rintro e w1 ⟨A, m, q, rfl, ho, hkw⟩
  have hw1 := h.keep hkw
  have hm : m ≤ 16 := by
    have := winL_le b k
    rw [ho.length] at this
    omega
  have HL := Lib.hid ho.length
  have ht : Turned (fun x => x = g) w1 (w1.setCell ⟨g, 0, none⟩ (.int .u64 (c : Int))) := Turned.set (F := fun x => x = g) _ _ _ rfl
  have hm2 := hw1.moved hc
  have hu := ho.ins.turned ht (fun x hx e => by have e : x = g := e; omega)
  have HU := Lib.hid (hu.any)
  have HT := Lib.hid ((Turned.of_keep (F := fun x => x = g) hkw).trans ht fun i e => Or.inl e)
  have HM := Lib.hid hm2
  have cf := hw1.free
  have cg := hw1.c0
  clear ho hkw hw1 ht hm2 hu
  go_wp2_with fail
  obtain ⟨V, hV⟩ : ∃ V, w1.setCell ⟨g, 0, none⟩ (.int .u64 (c : Int)) = V := ⟨_, rfl⟩
  rw [hV] at HU HT HM ⊢
  clear hV cf cg
  have hsz := HT.out.size
  go_loopw [7, 8] (fun v i wr => ∃ (j n q2 : Nat) (A2 : Option Addr), j ≤ m ∧ i = .int .i64 j ∧ v = .slice A2 n q2 ∧ OwnU wr V.heap.size A2 n q2 (goneN b k c j) ∧ Keep V wr) (fun v i _ => m - (intOf i).toNat)
  case atStart => exact ⟨0, 0, 0, none, Nat.zero_le _, rfl, rfl, OwnU.none_ _ _, Keep.refl V⟩
  case round =>
    obtain ⟨j, n, q2, A2, hj, rfl, rfl, hg, hkv⟩ := hrel
    have hn : n ≤ 16 := by
      have := goneN_le b k c j
      rw [hg.length] at this
      omega
    have hM := HM.out.keep hkv
    have hs := hkv.size
    by_cases hlt2 : j < m
    · obtain ⟨p, off, x, rfl, _, hpl, hx, hc3⟩ := HU.out.at_ hlt2
      have hxe : x = b + j := by
        rw [winL_get _ _ _ (by rw [← winL_length, HL.out]; omega)] at hx
        injection hx with hx
        exact hx.symm
      have hc4 : wr.cell? ⟨p, off + j, none⟩ = some (.int .u64 (x : Int)) := (World.cell?_of_block (hkv.block p hpl)).trans hc3
      have e1 : (0 : Int) ≤ (j : Int) := Int.natCast_nonneg _
      have e2 : (j : Int) < (m : Int) := by omega
      have hin := rin_any x hM
      subst hxe
      cases hi : winIn c k (b + j) with
      | true =>
        rw [hi] at hin
        clear hx hc3
        go_wp2_with fail
        refine hin.mono ?_
        rintro e w2 ⟨rfl, k2⟩
        go_wp2_with fail
        go_roundw
        case rel => exact ⟨j + 1, n, q2, A2, by omega, by go_num, rfl, by rw [goneN_in _ _ _ _ hi]; exact hg.keep k2, hkv.trans k2⟩
        case measure => simp [intOf]; omega
      | false =>
        rw [hi] at hin
        clear hx hc3
        go_wp2_with fail
        refine hin.mono ?_
        rintro e w2 ⟨rfl, k2⟩
        have hc5 : w2.cell? ⟨p, off + j, none⟩ = some (.int .u64 ((b + j : Nat) : Int)) := (World.cell?_of_block (k2.block p (by omega))).trans hc4
        have hg2 := hg.keep k2
        have hs2 := k2.size
        clear hc4
        go_wp2_with (at_builtin; refine wpList_append_u rfl _ _ 22 rfl Try.underlying22 infoU rfl (hg2.alloc _) rfl (by rw [World.cell?_alloc_new]; rfl) (by omega) (by simp; omega) ?_)
        intro A3 q3 w3 h3 hg3
        have k3 : Keep V w3 := ((hkv.trans k2).alloc _ _).grown hg3 hg2.rowLe
        go_wp2_with fail
        go_roundw
        case rel => exact ⟨j + 1, n + 1, q3, A3, by omega, by go_num, rfl, by unfold OwnU; rw [u64_gone' _ _ _ _ hi]; exact h3, k3⟩
        case measure => simp [intOf]; omega
    · have d1 : ¬ (j : Int) < (m : Int) := by omega
      obtain rfl : j = m := by omega
      go_wp2_with fail
      go_ret2
      refine ⟨A2, n, q2, rfl, ?_, hM, HT.out.then_keep hkv⟩
      rw [← goneN_all, ← winL_length, HL.out]; exact hg.lower hsz
set_option maxRecDepth 100000 in
set_option maxHeartbeats 1000000 in
/-- Its End. -/
theorem rend_any (h : RefW w g k b) :
    Calls Try.prog 18 #[.pointer (some ⟨g, 0, none⟩)] w fun e w' => e = .returned (.int .u64 (endN b k : Int)) ∧ Keep w w' := by
  have hk := h.high
  have hb := h.top
  have hle : endN b k ≤ topN := Nat.min_le_right _ _
  have hlen := winL_le b k
  have hec := end_count b k hb
  unfold topN at hb hle
  have c0 := fun w' (k : Keep w w') => (h.keep k).c0
  have H := Lib.hid h
  clear h
  go_enter Try.func18, Try.ntmps18
  go_wp2_with fail
  refine wp_region_noPanic ?_
  refine wp_region_held_drew (S := fun wz => Keep w wz) (by kernel_rfl) (Keep.drew (Keep.refl _)) (fun hHeld => ?_)
  refine wpAnyH_take (i := 0) (v := ?_) rfl (by kernel_rfl) (by kernel_rfl) (by kernel_rfl) (fun _ _ _ h => h) (Or.inl ⟨by rfl, ?_⟩) hHeld ?_
  rotate_left
  · intro wq hSw
    go_simp
    all_goals with_reducible rfl
  try simp only [Act.put, List.getElem_toArray, List.getElem_cons_succ, List.getElem_cons_zero, List.setIfInBounds_toArray, List.set_cons_zero, List.set_cons_succ]
  refine wpAnyH_take (i := 1) (v := ?_) rfl (by kernel_rfl) (by kernel_rfl) (by kernel_rfl) (fun _ _ _ h => h) (Or.inl ⟨by rfl, ?_⟩) hHeld ?_
  rotate_left
  · intro wq hSw
    go_simp
    all_goals with_reducible rfl
  try simp only [Act.put, List.getElem_toArray, List.getElem_cons_succ, List.getElem_cons_zero, List.setIfInBounds_toArray, List.set_cons_zero, List.set_cons_succ]
  refine wpAnyH_take (i := 2) (v := ?_) rfl (by kernel_rfl) (by kernel_rfl) (by kernel_rfl) (fun _ _ _ h => h) (Or.inl ⟨by rfl, ?_⟩) hHeld ?_
  rotate_left
  · intro wq hSw
    go_simp
    all_goals with_reducible rfl
  try simp only [Act.put, List.getElem_toArray, List.getElem_cons_succ, List.getElem_cons_zero, List.setIfInBounds_toArray, List.set_cons_zero, List.set_cons_succ]
  refine wpAnyH_take (i := 3) (v := ?_) rfl (by kernel_rfl) (by kernel_rfl) (by kernel_rfl) (fun _ _ _ h => h) (Or.inl ⟨by rfl, ?_⟩) hHeld ?_
  rotate_left
  · intro wq hSw
    have q0 := c0 wq hSw
    go_simp
    all_goals with_reducible rfl
  try simp only [Act.put, List.getElem_toArray, List.getElem_cons_succ, List.getElem_cons_zero, List.setIfInBounds_toArray, List.set_cons_zero, List.set_cons_succ]
  refine wpAnyH_take (i := 4) (v := ?_) rfl (by kernel_rfl) (by kernel_rfl) (by kernel_rfl) (fun _ _ _ h => h) (Or.inl ⟨by rfl, ?_⟩) hHeld ?_
  rotate_left
  · intro wq hSw
    go_simp
    all_goals with_reducible rfl
  try simp only [Act.put, List.getElem_toArray, List.getElem_cons_succ, List.getElem_cons_zero, List.setIfInBounds_toArray, List.set_cons_zero, List.set_cons_succ]
  refine wpAnyH_ready (rs := [5]) (by kernel_rfl) (by simp) ?_
  refine AllReadyH.cons rfl (fun K hK => ?_) AllReadyH.nil
  go_simp
  refine (rall_any (H.out.keep hHeld)).mono ?_
  rintro e w1 ⟨A, n, q, rfl, ho, hk1⟩
  obtain rfl : n = (winL b k).length := ho.length.symm
  clear ho
  have hKp : Keep w w1 := Keep.trans hHeld hk1
  refine hK.out _ _ hKp (fun _ => ?_)
  clear hK K hHeld
  refine wpAnyH_strong (S' := fun wz => Keep w1 wz) (fun wz h => Keep.trans hKp h) _ _ _ _ ?_
  have hHeld : Keep w1 w1 := Keep.refl _
  try simp only [Act.put, List.getElem_toArray, List.getElem_cons_succ, List.getElem_cons_zero, List.setIfInBounds_toArray, List.set_cons_zero, List.set_cons_succ]
  refine wpAnyH_take (i := 6) (v := ?_) rfl (by kernel_rfl) (by kernel_rfl) (by kernel_rfl) (fun _ _ _ h => h) (Or.inl ⟨by rfl, ?_⟩) hHeld ?_
  rotate_left
  · intro wq hSw
    go_simp
    all_goals with_reducible rfl
  try simp only [Act.put, List.getElem_toArray, List.getElem_cons_succ, List.getElem_cons_zero, List.setIfInBounds_toArray, List.set_cons_zero, List.set_cons_succ]
  refine wpAnyH_take (i := 7) (v := ?_) rfl (by kernel_rfl) (by kernel_rfl) (by kernel_rfl) (fun _ _ _ h => h) (Or.inl ⟨by rfl, ?_⟩) hHeld ?_
  rotate_left
  · intro wq hSw
    go_simp
    all_goals with_reducible rfl
  try simp only [Act.put, List.getElem_toArray, List.getElem_cons_succ, List.getElem_cons_zero, List.setIfInBounds_toArray, List.set_cons_zero, List.set_cons_succ]
  refine wpAnyH_take (i := 8) (v := ?_) rfl (by kernel_rfl) (by kernel_rfl) (by kernel_rfl) (fun _ _ _ h => h) (Or.inl ⟨by rfl, ?_⟩) hHeld ?_
  rotate_left
  · intro wq hSw
    go_simp
    all_goals with_reducible rfl
  try simp only [Act.put, List.getElem_toArray, List.getElem_cons_succ, List.getElem_cons_zero, List.setIfInBounds_toArray, List.set_cons_zero, List.set_cons_succ]
  refine wpAnyH_take (i := 9) (v := ?_) rfl (by kernel_rfl) (by kernel_rfl) (by kernel_rfl) (fun _ _ _ h => h) (Or.inl ⟨by rfl, ?_⟩) hHeld ?_
  rotate_left
  · intro wq hSw
    go_simp
    all_goals with_reducible rfl
  try simp only [Act.put, List.getElem_toArray, List.getElem_cons_succ, List.getElem_cons_zero, List.setIfInBounds_toArray, List.set_cons_zero, List.set_cons_succ]
  refine wpAnyH_done (by kernel_rfl) ?_ _
  refine NoPanic.normal ?_
  clear hHeld
  rw [IntWalk.u64_in ((winL b k).length : Int) (by omega), IntWalk.u64_in ((b : Int) + ((winL b k).length : Int)) (by omega), show (b : Int) + ((winL b k).length : Int) = ((endN b k : Nat) : Int) by omega]
  go_wp2_with fail
  go_ret
  exact ⟨rfl, hKp⟩
end
set_option maxRecDepth 100000 in
set_option maxHeartbeats 1000000 in
/-- Same. -/
theorem rsame_u (n m ca cb : Nat) (A A' : Option Addr) (F F' : Nat → Prop) (l l' : List Nat) (w : World) (h : UsIn w F A n l) (h' : UsIn w F' A' m l') (hn : n ≤ 1000000) :
    Calls Try.prog 15 #[.slice A n ca, .slice A' m cb] w fun e w' => e = .returned (.bool (decide (l = l'))) ∧ ∃ q, w' = w.drewN q := by
  have H := Lib.hid h
  have H' := Lib.hid h'
  have hl := h.1
  have hl' := h'.1
  clear h h'
  by_cases hnm : n = m
  · subst hnm
    have d0 : ¬ n ≠ n := fun e => e rfl
    go_enter Try.func15, Try.ntmps15
    go_wp2_with fail
    go_loopw [5] (fun i wr => ∃ (j q : Nat), j ≤ n ∧ i = .int .i64 j ∧ wr = w.drewN q ∧ l.take j = l'.take j) (fun i _ => n - (intOf i).toNat)
    case atStart => exact ⟨0, 0, by omega, rfl, rfl, rfl⟩
    case round =>
      obtain ⟨j, q, hj, rfl, rfl, he⟩ := hrel
      have HE := Lib.hid he
      clear he
      by_cases hlt : j < n
      · obtain ⟨p, off, x, rfl, _, _, hx, hc⟩ := H.out.at_ hlt
        obtain ⟨p', off', x', rfl, _, _, hx', hc'⟩ := H'.out.at_ hlt
        have HX := Lib.hid hx
        have HX' := Lib.hid hx'
        have d1 : ∀ q, (w.drewN q).cell? ⟨p, off + j, none⟩ = some (.int .u64 (x : Int)) := fun _ => hc
        have d2 : ∀ q, (w.drewN q).cell? ⟨p', off' + j, none⟩ = some (.int .u64 (x' : Int)) := fun _ => hc'
        have e1 : (0 : Int) ≤ (j : Int) := Int.natCast_nonneg _
        have e2 : (j : Int) < (n : Int) := by omega
        clear hx hx' hc hc'
        by_cases hxx : x = x'
        · have d3 : decide ((x : Int) = (x' : Int)) = true := decide_eq_true (by omega)
          go_wp2_with fail
          go_quiet (fail)
          go_wp2_with fail
          go_roundw
          case rel => exact ⟨j + 1, q + nq, by omega, by go_num, rfl, by rw [List.take_add_one, List.take_add_one, HE.out, HX.out, HX'.out, hxx]⟩
          case measure => simp [intOf]; omega
        · have d3 : decide ((x : Int) = (x' : Int)) = false := decide_eq_false (by omega)
          have HC : Hid (decide (l = l') = false) := by
            show _ = _
            refine decide_eq_false fun e => hxx ?_
            have h1 := HX.out
            rw [e, HX'.out] at h1
            injection h1 with h1
            exact h1.symm
          go_wp2_with fail
          go_quiet (fail)
          go_wp2_with fail
          go_ret
          exact ⟨by rw [HC.out]; rfl, _, World.drewN_drewN ..⟩
      · have d1 : ¬ (j : Int) < (n : Int) := by omega
        obtain rfl : j = n := by omega
        go_wp2_with fail
        go_ret
        refine ⟨?_, _, rfl⟩
        have he := HE.out
        rw [List.take_of_length_le (by omega), List.take_of_length_le (by omega)] at he
        rw [decide_eq_true he]; rfl
  · have d0 : ¬ (n : Int) = (m : Int) := by omega
    go_enter Try.func15, Try.ntmps15
    go_wp2_with fail
    go_ret
    exact ⟨by rw [decide_eq_false (fun e => hnm (by rw [← hl, ← hl', e]))]; rfl, 0, rfl⟩
end Go.Proofs.Ytcalinimooiciaa
