/- Arguments of layer 8's statements: cut. -/
import Derived.Test.YtofhdaeeiienfaaRef
import Derived.Test.YtofhdaeeiienfaaRegion
import Derived.Deep.DeepCutAuto
namespace Go.Proofs.Ytofhdaeeiienfaa
open Go.RowKit
set_option linter.unusedSimpArgs false
set_option linter.unusedVariables false
/-- The first rows, the first numbers of each. -/
def cutN (M : List (List Nat)) : List (List Nat) := (M.take 10).map fun r => r.take 10
theorem run_min12 (a m : Nat) (h : min a 10 = m) (w : World) : (Builtin.min_ #[3, 3] 3 #[.int .i64 (a : Int), .int .i64 10]).run Try.prog w = .ok (.int .i64 (m : Int)) w := by
  rw [run_min_int2]; congr 2; split <;> omega
set_option maxRecDepth 100000 in
set_option maxHeartbeats 2000000 in
theorem cut_any (n c : Nat) (A : Option Addr) (F : Nat → Prop) (rs : List RowV) (w : World) (h : RowsIn w F A n rs) (hF : ∀ b, F b → b < w.heap.size) (hn : n ≤ 140737488355328) :
    Calls Try.prog 10 #[.slice A n c] w fun e w' => ∃ A' n' c', e = .returned (.slice A' n' c') ∧ ∃ rs', OwnRows w' w.heap.size 23 A' n' c' rs' ∧ (∀ r ∈ rs', Own w' w.heap.size 5 r.A r.n r.c r.xs) ∧ rowsXs rs' = cutN (rowsXs rs) ∧ Keep w w' := by
  have H := Lib.hid h
  have HF := Lib.hid hF
  clear h hF
  go_enter Try.func10, Try.ntmps10
  go_wp2_with fail
  go_loopw [3, 4] (fun out i wr => ∃ (j : Nat) (A7 : Option Addr) (c7 : Nat) (rs7 : List RowV), j ≤ n ∧ j ≤ 10 ∧ i = .int .i64 j ∧ out = .slice A7 j c7 ∧ OwnRows wr w.heap.size 23 A7 j c7 rs7 ∧ (∀ r ∈ rs7, Own wr w.heap.size 5 r.A r.n r.c r.xs) ∧ rowsXs rs7 = ((rowsXs rs).take j).map (fun r => r.take 10) ∧ Keep w wr) (fun _ i _ => 10 - (intOf i).toNat)
  case atStart => exact ⟨0, none, 0, [], by omega, by omega, rfl, rfl, OwnRows.none_ _ _ _, fun r hr => by simp at hr, rfl, Keep.refl _⟩
  case round =>
    obtain ⟨j, A7, c7, rs7, hj, hj12, rfl, rfl, ho, hr7, hx7, hk⟩ := hrel
    have HO := Lib.hid ho
    have HR7 := Lib.hid hr7
    have HX7 := Lib.hid hx7
    have HK := Lib.hid hk
    by_cases hlt : j < n ∧ j < 10
    · have e1 : (0 : Int) ≤ (j : Int) := Int.natCast_nonneg _
      have e2 : (j : Int) < (n : Int) := by omega
      have e3 : (j : Int) < 10 := by omega
      have e3' : decide ((j : Int) < 10) = true := decide_eq_true e3
      have e3'' : decide (j < 10) = true := decide_eq_true hlt.2
      obtain ⟨b, off, r, rfl, hb, hr, hcell, hri⟩ := (H.out.turned (Turned.of_keep (F := fun _ => False) hk) fun _ _ e => e).at_ hlt.1
      obtain ⟨m, hm⟩ : ∃ m, min r.n 10 = m := ⟨_, rfl⟩
      have hmin := run_min12 r.n m hm
      have hm12 : m ≤ 10 := by omega
      have hrc := hri.2.2.1
      have d2 : (m : Int) ≤ (r.n : Int) := by omega
      have d3 : (0 : Int) ≤ (m : Int) := Int.natCast_nonneg _
      have d4 : (m : Int) ≤ (r.c : Int) := by omega
      have HB : Hid (Bytes wr wr.heap.size r.A m (r.xs.take 10)) := by
        have z := (hri.bytes (B := wr.heap.size) fun b hb => Nat.lt_of_lt_of_le (HF.out b hb) hk.size).cut (m := m) (by omega)
        have e : r.xs.take m = r.xs.take 10 := by
          rw [← hm, Nat.min_def]
          split
          · rename_i h; rw [List.take_of_length_le (by rw [hri.1]; exact Nat.le_refl _), List.take_of_length_le (by rw [hri.1]; exact h)]
          · rfl
        rw [e] at z; exact z
      have HST : Hid (((rowsXs rs).take (j + 1)).map (fun r => r.take 10) = ((rowsXs rs).take j).map (fun r => r.take 10) ++ [r.xs.take 10]) := by
        show _ = _
        rw [List.take_add_one, show (rowsXs rs)[j]? = some r.xs by simp [rowsXs, hr]]; simp
      have HBW : Hid (b < w.heap.size) := HF.out b hb
      clear ho hr7 hx7 hk hri hr hb hm
      go_wp2_with fail
      refine wp_region_noPanic ?_
      refine wp_region_held_drew (S := fun wy => wy.cell? ⟨b, off + j, none⟩ = some (.slice r.A r.n r.c)) (by kernel_rfl) hcell (fun hHeld => ?_)
      refine wpAnyH_take (i := 0) (v := ?_) rfl (by kernel_rfl) (by kernel_rfl) (by kernel_rfl) (fun _ _ _ h => h) (Or.inl ⟨by rfl, ?_⟩) hHeld ?_
      rotate_left
      · intro wq hSw
        go_simp
        all_goals with_reducible rfl
      try simp only [Act.put, List.getElem_toArray, List.getElem_cons_succ, List.getElem_cons_zero, List.setIfInBounds_toArray, List.set_cons_zero, List.set_cons_succ]
      refine wpAnyH_take (i := 1) (v := ?_) rfl (by kernel_rfl) (by kernel_rfl) (by kernel_rfl) (fun _ _ _ h => h) (Or.inl ⟨by rfl, ?_⟩) hHeld ?_
      rotate_left
      · intro wq hSw
        go_simp
        all_goals with_reducible rfl
      try simp only [Act.put, List.getElem_toArray, List.getElem_cons_succ, List.getElem_cons_zero, List.setIfInBounds_toArray, List.set_cons_zero, List.set_cons_succ]
      refine wpAnyH_take (i := 2) (v := ?_) rfl (by kernel_rfl) (by kernel_rfl) (by kernel_rfl) (fun _ _ _ h => h) (Or.inl ⟨by rfl, ?_⟩) hHeld ?_
      rotate_left
      · intro wq hSw
        go_simp
        all_goals with_reducible rfl
      try simp only [Act.put, List.getElem_toArray, List.getElem_cons_succ, List.getElem_cons_zero, List.setIfInBounds_toArray, List.set_cons_zero, List.set_cons_succ]
      refine wpAnyH_take (i := 3) (v := ?_) rfl (by kernel_rfl) (by kernel_rfl) (by kernel_rfl) (fun _ _ _ h => h) (Or.inl ⟨by rfl, ?_⟩) hHeld ?_
      rotate_left
      · intro wq hSw
        go_simp
        all_goals with_reducible rfl
      try simp only [Act.put, List.getElem_toArray, List.getElem_cons_succ, List.getElem_cons_zero, List.setIfInBounds_toArray, List.set_cons_zero, List.set_cons_succ]
      refine wpAnyH_take (i := 4) (v := ?_) rfl (by kernel_rfl) (by kernel_rfl) (by kernel_rfl) (fun _ _ _ h => h) (Or.inl ⟨by rfl, ?_⟩) hHeld ?_
      rotate_left
      · intro wq hSw
        have q0 := hSw
        go_simp
        all_goals with_reducible rfl
      try simp only [Act.put, List.getElem_toArray, List.getElem_cons_succ, List.getElem_cons_zero, List.setIfInBounds_toArray, List.set_cons_zero, List.set_cons_succ]
      refine wpAnyH_take (i := 5) (v := ?_) rfl (by kernel_rfl) (by kernel_rfl) (by kernel_rfl) (fun _ _ _ h => h) (Or.inl ⟨by rfl, ?_⟩) hHeld ?_
      rotate_left
      · intro wq hSw
        go_simp
        all_goals with_reducible rfl
      try simp only [Act.put, List.getElem_toArray, List.getElem_cons_succ, List.getElem_cons_zero, List.setIfInBounds_toArray, List.set_cons_zero, List.set_cons_succ]
      refine wpAnyH_take (i := 6) (v := ?_) rfl (by kernel_rfl) (by kernel_rfl) (by kernel_rfl) (fun _ _ _ h => h) (Or.inl ⟨by rfl, ?_⟩) hHeld ?_
      rotate_left
      · intro wq hSw
        go_simp
        all_goals with_reducible rfl
      try simp only [Act.put, List.getElem_toArray, List.getElem_cons_succ, List.getElem_cons_zero, List.setIfInBounds_toArray, List.set_cons_zero, List.set_cons_succ]
      refine wpAnyH_take (i := 7) (v := ?_) rfl (by kernel_rfl) (by kernel_rfl) (by kernel_rfl) (fun _ _ _ h => h) (Or.inl ⟨by rfl, ?_⟩) hHeld ?_
      rotate_left
      · intro wq hSw
        go_simp
        all_goals with_reducible rfl
      try simp only [Act.put, List.getElem_toArray, List.getElem_cons_succ, List.getElem_cons_zero, List.setIfInBounds_toArray, List.set_cons_zero, List.set_cons_succ]
      refine wpAnyH_take (i := 8) (v := ?_) rfl (by kernel_rfl) (by kernel_rfl) (by kernel_rfl) (fun _ _ _ h => h) (Or.inl ⟨by rfl, ?_⟩) hHeld ?_
      rotate_left
      · intro wq hSw
        have q0 := hSw
        go_simp
        all_goals with_reducible rfl
      try simp only [Act.put, List.getElem_toArray, List.getElem_cons_succ, List.getElem_cons_zero, List.setIfInBounds_toArray, List.set_cons_zero, List.set_cons_succ]
      refine wpAnyH_take (i := 9) (v := ?_) rfl (by kernel_rfl) (by kernel_rfl) (by kernel_rfl) (fun _ _ _ h => h) (Or.inl ⟨by rfl, ?_⟩) hHeld ?_
      rotate_left
      · intro wq hSw
        go_simp
        all_goals with_reducible rfl
      try simp only [Act.put, List.getElem_toArray, List.getElem_cons_succ, List.getElem_cons_zero, List.setIfInBounds_toArray, List.set_cons_zero, List.set_cons_succ]
      refine wpAnyH_take (i := 10) (v := ?_) rfl (by kernel_rfl) (by kernel_rfl) (by kernel_rfl) (fun _ _ _ h => h) (Or.inl ⟨by rfl, ?_⟩) hHeld ?_
      rotate_left
      · intro wq hSw
        go_simp
        all_goals with_reducible rfl
      try simp only [Act.put, List.getElem_toArray, List.getElem_cons_succ, List.getElem_cons_zero, List.setIfInBounds_toArray, List.set_cons_zero, List.set_cons_succ]
      refine wpAnyH_take (i := 11) (v := ?_) rfl (by kernel_rfl) (by kernel_rfl) (by kernel_rfl) (fun _ _ _ h => h) (Or.inl ⟨by rfl, ?_⟩) hHeld ?_
      rotate_left
      · intro wq hSw
        go_simp
        all_goals with_reducible rfl
      try simp only [Act.put, List.getElem_toArray, List.getElem_cons_succ, List.getElem_cons_zero, List.setIfInBounds_toArray, List.set_cons_zero, List.set_cons_succ]
      refine wpAnyH_ready (rs := [12]) (by kernel_rfl) (by simp) ?_
      refine AllReadyH.cons rfl (fun K hK => ?_) AllReadyH.nil
      refine wp_append_bytes (base := wr.drew.heap.size) (n := 0) (c := 0) (m := m) (cx := r.c) (xs := []) (ys := r.xs.take 10) _ _ 23 rfl Try.underlying23 info5 rfl (Own.none_ wr.drew wr.drew.heap.size 5) rfl (HB.out.keep (Nat.le_refl _) (Keep.drew (Keep.refl _))) (by omega) (Nat.le_refl _) ?_
      intro A2 c2 w2 h2 hgr2 _
      have h2 : Own w2 wr.drew.heap.size 5 A2 (0 + m) c2 (r.xs.take 10) := by simpa using h2
      have k2 : Keep wr.drew w2 := Keep.grown (Keep.refl _) hgr2 (fun b hb => by simp [Value.ownBlock] at hb)
      have hc2 : w2.cell? ⟨b, off + j, none⟩ = some (.slice r.A r.n r.c) := (Below.cell (p := ⟨b, off + j, none⟩) k2 (World.block_lt_of_cell? wr.drew _ hcell)).trans hcell
      have H2 := Lib.hid h2
      have K2 := Lib.hid (Keep.trans (Keep.drew (Keep.refl wr)) k2)
      refine hK.out _ _ hc2 (fun hHeld => ?_)
      clear hK K
      try simp only [Act.put, List.getElem_toArray, List.getElem_cons_succ, List.getElem_cons_zero, List.setIfInBounds_toArray, List.set_cons_zero, List.set_cons_succ]
      refine wpAnyH_ready (rs := [13]) (by kernel_rfl) (by simp) ?_
      refine AllReadyH.cons rfl (fun K hK => ?_) AllReadyH.nil
      go_simp
      have hc3 : (w2.alloc (.cells #[.slice A2 m c2] 23)).cell? ⟨b, off + j, none⟩ = some (.slice r.A r.n r.c) := (Below.cell (p := ⟨b, off + j, none⟩) ((Keep.refl w2).alloc _ _) (World.block_lt_of_cell? w2 _ hc2)).trans hc2
      refine hK.out _ _ hc3 (fun hHeld => ?_)
      clear hK K
      try simp only [Act.put, List.getElem_toArray, List.getElem_cons_succ, List.getElem_cons_zero, List.setIfInBounds_toArray, List.set_cons_zero, List.set_cons_succ]
      have h2' : Own w2 wr.heap.size 5 A2 m c2 (r.xs.take 10) := by simpa using H2.out
      have H2' := Lib.hid h2'
      have HO2 := Lib.hid (HO.out.keep K2.out)
      refine wpAnyH_ready (rs := [14]) (by kernel_rfl) (by simp) ?_
      refine AllReadyH.cons rfl (fun K hK => ?_) AllReadyH.nil
      refine wp_append_row (cx := 1) _ _ 22 rfl ⟨A2, m, c2, r.xs.take 10⟩ Try.underlying22 infoRow rfl (HO2.out.alloc (.cells #[.slice A2 m c2] 23)) rfl (by rw [World.cell?_alloc_new]; rfl) (by omega) (by have := HK.out.size; have := K2.out.size; simp; omega) ?_
      intro A9 c9 w9 h9 hgr9 hb9
      have ka : Keep w2 (w2.alloc (.cells #[.slice A2 m c2] 23)) := (Keep.refl w2).alloc _ _
      have kT : Turned (fun b => (Value.slice A7 j c7).ownBlock = some b) w2 w9 := (Turned.of_keep ka).trans (Turned.of_grown (F := fun b => (Value.slice A7 j c7).ownBlock = some b) hgr9 fun i e => e) fun i e => Or.inl e
      have kT7 : Turned (fun b => (Value.slice A7 j c7).ownBlock = some b) wr w9 := (Turned.of_keep K2.out).trans kT fun i e => Or.inl e
      have hnb : b < w.heap.size := HBW.out
      have hc4 : w9.cell? ⟨b, off + j, none⟩ = some (.slice r.A r.n r.c) := kT.cell hc2 fun e => by have := HO.out.rowLe b e; omega
      have H9 := Lib.hid h9
      have HR9 : Hid (∀ r' ∈ rs7 ++ [⟨A2, m, c2, r.xs.take 10⟩], Own w9 w.heap.size 5 r'.A r'.n r'.c r'.xs) := fun r' hr' => by
        rw [List.mem_append, List.mem_singleton] at hr'
        rcases hr' with hr' | rfl
        · refine (HR7.out r' hr').turned kT7 fun b hb e => ?_
          rcases blocks_apart (HR7.out r' hr') HO.out (by decide) with h | h
          · rw [h] at hb; cases hb
          · exact h (hb.trans e.symm)
        · refine (H2'.out.turned kT fun b hb e => ?_).lower HK.out.size
          have z := H2'.out.1.lt b hb
          have := (HO.out.lt b e).2; omega
      have HK9 := Lib.hid (kT7.keep HK.out fun b e => HO.out.rowLe b e)
      refine hK.out _ _ hc4 (fun hHeld => ?_)
      clear hK K
      try simp only [Act.put, List.getElem_toArray, List.getElem_cons_succ, List.getElem_cons_zero, List.setIfInBounds_toArray, List.set_cons_zero, List.set_cons_succ]
      refine wpAnyH_take (i := 15) (v := ?_) rfl (by kernel_rfl) (by kernel_rfl) (by kernel_rfl) (fun _ _ _ h => h) (Or.inl ⟨by rfl, ?_⟩) hHeld ?_
      rotate_left
      · intro wq hSw
        go_simp
        all_goals with_reducible rfl
      try simp only [Act.put, List.getElem_toArray, List.getElem_cons_succ, List.getElem_cons_zero, List.setIfInBounds_toArray, List.set_cons_zero, List.set_cons_succ]
      refine wpAnyH_done (by kernel_rfl) ?_ _
      refine NoPanic.normal ?_
      clear hHeld
      go_wp2_with fail
      go_roundw
      case rel => exact ⟨j + 1, A9, c9, _, by omega, by omega, by go_num, rfl, H9.out, HR9.out, by rw [HST.out, ← HX7.out]; simp [rowsXs], HK9.out⟩
      case measure => simp [intOf]; omega
    · have HE : Hid (((rowsXs rs).take j).map (fun r => r.take 10) = cutN (rowsXs rs)) := by
        show _ = _
        rw [cutN]
        have hl : (rowsXs rs).length = n := by rw [rowsXs_len, H.out.1]
        by_cases e : j = 10
        · rw [e]
        · rw [List.take_of_length_le (by omega), List.take_of_length_le (by omega)]
      clear ho hr7 hx7 hk
      by_cases hjn : j < n
      · have e2 : (j : Int) < (n : Int) := by omega
        have e3 : ¬ (j : Int) < 10 := by omega
        have e3' : decide ((j : Int) < 10) = false := decide_eq_false e3
        have e3'' : decide (j < 10) = false := decide_eq_false (by omega)
        clear hlt
        go_wp2_with fail
        go_ret
        exact ⟨_, _, _, rfl, rs7, HO.out, HR7.out, by rw [HX7.out, HE.out], HK.out⟩
      · have e2 : ¬ (j : Int) < (n : Int) := by omega
        clear hlt
        go_wp2_with fail
        go_ret
        exact ⟨_, _, _, rfl, rs7, HO.out, HR7.out, by rw [HX7.out, HE.out], HK.out⟩
end Go.Proofs.Ytofhdaeeiienfaa
