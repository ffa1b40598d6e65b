/- The landed queue's calls. -/
import Derived.Test.YthgplballiibnaaQc1
import Derived.Test.YthgplballiibnaaRegion
namespace Go.Proofs.Ythgplballiibnaa
open Go.RowKit
set_option linter.unusedVariables false
set_option linter.unusedSimpArgs false
theorem qset {w : World} {g i : Nat} {cs : Array Value} {t : TypeId} (h : w.heap[g]? = some (.cells cs t (0, 0))) (v : Value) : (w.setCell ⟨g, i, none⟩ v).heap[g]? = some (.cells (cs.setIfInBounds i v) t (0, 0)) := by
  simp [World.setCell, Array.getElem?_modify, h]
theorem qcells_one (pl f n f' : Nat) (rg : List RowV) : (qcells pl f n rg).setIfInBounds 1 (.int .i64 (f' : Int)) = qcells pl f' n rg := by simp [qcells]
theorem qcells_two (pl f n n' : Nat) (rg : List RowV) : (qcells pl f n rg).setIfInBounds 2 (.int .i64 (n' : Int)) = qcells pl f n' rg := by simp [qcells]
theorem qcells_ring (pl f n i : Nat) (rg : List RowV) (r : RowV) : (qcells pl f n rg).setIfInBounds (3 + i) (.slice r.A r.n r.c) = qcells pl f n (rg.set i r) := by
  simp only [qcells, List.setIfInBounds_toArray, List.map_set, RowV.val]
  rw [Nat.add_comm, List.set_append_right _ _ (by simp)]
  simp
theorem ringOk.keep {w w' : World} {F : Nat → Prop} {fst : Nat} {rg : List RowV} {L : List (List Nat)} (h : ringOk w F fst rg L) (k : Keep w w') : ringOk w' F fst rg L := fun j xs hj => by
  obtain ⟨r, a, b, c⟩ := h j xs hj
  exact ⟨r, a, b, c.turned (Turned.of_keep (F := fun _ => False) k) fun _ _ e => e⟩
set_option maxRecDepth 100000 in
set_option maxHeartbeats 1000000 in
theorem qpeek_any (pl g : Nat) (F : Nat → Prop) (L : List (List Nat)) (w : World) (hq : QueR w F g pl L) :
    Calls Try.prog 16 #[.pointer (some ⟨g, 0, none⟩)] w fun e w' => ∃ A n c, e = .returned (.tuple #[.slice A n c, .bool (!L.isEmpty)]) ∧ Own w' w.heap.size 5 A n c (L.headD []) ∧ Keep w w' := by
  have HQ := Lib.hid hq
  cases L with
  | nil =>
    clear hq
    go_enter Try.func16, Try.ntmps16
    go_wp2_with fail
    refine (qlen_any pl g F _ _ HQ.out).mono ?_
    rintro e w' ⟨rfl, rfl⟩
    go_wp2_with fail
    go_ret2
    exact ⟨none, 0, 0, rfl, Own.none_ _ _ _, Keep.refl _⟩
  | cons x L =>
    obtain ⟨fst, rg, hf, hrl, hb, hring⟩ := hq.ring
    obtain ⟨r, hr, hx, hl⟩ := hring 0 x rfl
    rw [Nat.add_zero, Nat.mod_eq_of_lt hf] at hr
    obtain ⟨_, c1, _, _, cr⟩ := qcells_at hb
    have c3 := cr fst r hr
    have hn : r.n ≤ 70000 := by have := hq.short.2.2.2 x (by simp); rw [← hx, hl.1] at this; exact this
    have HB := Lib.hid (hl.bytes (B := w.heap.size) fun b hb => hq.lt b hb.1)
    have HX := Lib.hid hx
    have d1 : (0 : Int) ≤ (fst : Int) := Int.natCast_nonneg _
    have d2 : (fst : Int) < 64 := by omega
    have e1 : (((x :: L).length : Nat) : Int) ≠ 0 := by simp; omega
    obtain ⟨k, hk⟩ : ∃ k, (x :: L).length = k := ⟨_, rfl⟩
    have HK : Hid (k = L.length + 1) := hk.symm
    rw [hk] at e1
    clear hq hb hring hr hx hl cr hrl
    go_enter Try.func16, Try.ntmps16
    go_wp2_with fail
    refine (qlen_any pl g F _ _ HQ.out).mono ?_
    rw [hk]
    rintro e w' ⟨rfl, rfl⟩
    clear hk
    go_wp2_with fail
    refine wp_region_noPanic ?_
    refine wp_region_held_drew (S := fun wz => wz.cell? ⟨g, 1, none⟩ = some (.int .i64 (fst : Int)) ∧ wz.cell? ⟨g, 3 + fst, none⟩ = some (.slice r.A r.n r.c)) (by kernel_rfl) ⟨c1, c3⟩ (fun hHeld => ?_)
    refine wpAnyH_take (i := 0) (v := ?_) rfl (by kernel_rfl) (by kernel_rfl) (by kernel_rfl) (fun _ _ _ h => h) (Or.inl ⟨by rfl, ?_⟩) hHeld ?_
    rotate_left
    · intro wq hSw
      go_simp
      all_goals with_reducible rfl
    try simp only [Act.put, List.getElem_toArray, List.getElem_cons_succ, List.getElem_cons_zero, List.setIfInBounds_toArray, List.set_cons_zero, List.set_cons_succ]
    refine wpAnyH_take (i := 1) (v := ?_) rfl (by kernel_rfl) (by kernel_rfl) (by kernel_rfl) (fun _ _ _ h => h) (Or.inl ⟨by rfl, ?_⟩) hHeld ?_
    rotate_left
    · intro wq hSw
      go_simp
      all_goals with_reducible rfl
    try simp only [Act.put, List.getElem_toArray, List.getElem_cons_succ, List.getElem_cons_zero, List.setIfInBounds_toArray, List.set_cons_zero, List.set_cons_succ]
    refine wpAnyH_take (i := 2) (v := ?_) rfl (by kernel_rfl) (by kernel_rfl) (by kernel_rfl) (fun _ _ _ h => h) (Or.inl ⟨by rfl, ?_⟩) hHeld ?_
    rotate_left
    · intro wq hSw
      go_simp
      all_goals with_reducible rfl
    try simp only [Act.put, List.getElem_toArray, List.getElem_cons_succ, List.getElem_cons_zero, List.setIfInBounds_toArray, List.set_cons_zero, List.set_cons_succ]
    refine wpAnyH_take (i := 3) (v := ?_) rfl (by kernel_rfl) (by kernel_rfl) (by kernel_rfl) (fun _ _ _ h => h) (Or.inl ⟨by rfl, ?_⟩) hHeld ?_
    rotate_left
    · intro wq hSw
      go_simp
      all_goals with_reducible rfl
    try simp only [Act.put, List.getElem_toArray, List.getElem_cons_succ, List.getElem_cons_zero, List.setIfInBounds_toArray, List.set_cons_zero, List.set_cons_succ]
    refine wpAnyH_take (i := 4) (v := ?_) rfl (by kernel_rfl) (by kernel_rfl) (by kernel_rfl) (fun _ _ _ h => h) (Or.inl ⟨by rfl, ?_⟩) hHeld ?_
    rotate_left
    · intro wq hSw
      have q0 := hSw.1
      go_simp
      all_goals with_reducible rfl
    try simp only [Act.put, List.getElem_toArray, List.getElem_cons_succ, List.getElem_cons_zero, List.setIfInBounds_toArray, List.set_cons_zero, List.set_cons_succ]
    refine wpAnyH_take (i := 5) (v := ?_) rfl (by kernel_rfl) (by kernel_rfl) (by kernel_rfl) (fun _ _ _ h => h) (Or.inl ⟨by rfl, ?_⟩) hHeld ?_
    rotate_left
    · intro wq hSw
      go_simp
      all_goals with_reducible rfl
    try simp only [Act.put, List.getElem_toArray, List.getElem_cons_succ, List.getElem_cons_zero, List.setIfInBounds_toArray, List.set_cons_zero, List.set_cons_succ]
    refine wpAnyH_take (i := 6) (v := ?_) rfl (by kernel_rfl) (by kernel_rfl) (by kernel_rfl) (fun _ _ _ h => h) (Or.inl ⟨by rfl, ?_⟩) hHeld ?_
    rotate_left
    · intro wq hSw
      go_simp
      all_goals with_reducible rfl
    try simp only [Act.put, List.getElem_toArray, List.getElem_cons_succ, List.getElem_cons_zero, List.setIfInBounds_toArray, List.set_cons_zero, List.set_cons_succ]
    refine wpAnyH_take (i := 7) (v := ?_) rfl (by kernel_rfl) (by kernel_rfl) (by kernel_rfl) (fun _ _ _ h => h) (Or.inl ⟨by rfl, ?_⟩) hHeld ?_
    rotate_left
    · intro wq hSw
      have q0 := hSw.1
      go_simp
      all_goals with_reducible rfl
    try simp only [Act.put, List.getElem_toArray, List.getElem_cons_succ, List.getElem_cons_zero, List.setIfInBounds_toArray, List.set_cons_zero, List.set_cons_succ]
    refine wpAnyH_take (i := 8) (v := ?_) rfl (by kernel_rfl) (by kernel_rfl) (by kernel_rfl) (fun _ _ _ h => h) (Or.inl ⟨by rfl, ?_⟩) hHeld ?_
    rotate_left
    · intro wq hSw
      have q0 := hSw.2
      go_simp
      all_goals with_reducible rfl
    try simp only [Act.put, List.getElem_toArray, List.getElem_cons_succ, List.getElem_cons_zero, List.setIfInBounds_toArray, List.set_cons_zero, List.set_cons_succ]
    refine wpAnyH_ready (rs := [9]) (by kernel_rfl) (by simp) ?_
    refine AllReadyH.cons rfl (fun K hK => ?_) AllReadyH.nil
    go_simp
    refine (copy_any _ r.n _ _ _ _ (HB.out.keep (Nat.le_refl _) (Keep.drew (Keep.refl _))) (Nat.le_refl _) (by omega)).mono ?_
    rintro e w1 ⟨A1, n1, q1, rfl, o1, k1⟩
    have K1 := Lib.hid (Keep.trans (Keep.drew (Keep.refl w)) k1)
    refine hK.out _ _ ⟨Below.cell k1 (World.block_lt_of_cell? _ _ hHeld.1) |>.trans hHeld.1, Below.cell k1 (World.block_lt_of_cell? _ _ hHeld.2) |>.trans hHeld.2⟩ (fun hHeld => ?_)
    clear hK K
    try simp only [Act.put, List.getElem_toArray, List.getElem_cons_succ, List.getElem_cons_zero, List.setIfInBounds_toArray, List.set_cons_zero, List.set_cons_succ]
    refine wpAnyH_take (i := 10) (v := ?_) rfl (by kernel_rfl) (by kernel_rfl) (by kernel_rfl) (fun _ _ _ h => h) (Or.inl ⟨by rfl, ?_⟩) hHeld ?_
    rotate_left
    · intro wq hSw
      go_simp
      all_goals with_reducible rfl
    try simp only [Act.put, List.getElem_toArray, List.getElem_cons_succ, List.getElem_cons_zero, List.setIfInBounds_toArray, List.set_cons_zero, List.set_cons_succ]
    refine wpAnyH_take (i := 11) (v := ?_) rfl (by kernel_rfl) (by kernel_rfl) (by kernel_rfl) (fun _ _ _ h => h) (Or.inl ⟨by rfl, ?_⟩) hHeld ?_
    rotate_left
    · intro wq hSw
      go_simp
      all_goals with_reducible rfl
    try simp only [Act.put, List.getElem_toArray, List.getElem_cons_succ, List.getElem_cons_zero, List.setIfInBounds_toArray, List.set_cons_zero, List.set_cons_succ]
    refine wpAnyH_done (by kernel_rfl) ?_ _
    refine NoPanic.normal ?_
    clear hHeld
    go_wp2_with fail
    go_ret2
    exact ⟨A1, n1, q1, rfl, by rw [List.headD_cons, ← HX.out]; exact o1, K1.out⟩
end Go.Proofs.Ythgplballiibnaa
