/- The landed queue's calls: all, cleared; of none. -/
import Derived.Test.YthgplballiibnaaQc3
import Derived.Test.YthgplballiibnaaRowsMk
namespace Go.Proofs.Ythgplballiibnaa
open Go.RowKit
set_option linter.unusedVariables false
set_option linter.unusedSimpArgs false
theorem take_set (L : List (List Nat)) (n j : Nat) (x : List Nat) (hn : L.length = n) (hx : L[j]? = some x) : (L.take j ++ List.replicate (n - j) []).set j x = L.take (j + 1) ++ List.replicate (n - (j + 1)) [] := by
  have hj : j < L.length := by
    rcases Nat.lt_or_ge j L.length with h | h
    · exact h
    · rw [List.getElem?_eq_none h] at hx; cases hx
  rw [List.set_append_right _ _ (by rw [List.length_take]; omega), List.take_add_one, hx, List.length_take, Nat.min_eq_left (by omega), Nat.sub_self]
  have e : n - j = (n - (j + 1)) + 1 := by omega
  rw [e, List.replicate_succ]
  simp
set_option maxRecDepth 100000 in
set_option maxHeartbeats 1000000 in
theorem qall_any (pl g : Nat) (F : Nat → Prop) (L : List (List Nat)) (w : World) (hq : QueR w F g pl L) :
    Calls Try.prog 18 #[.pointer (some ⟨g, 0, none⟩)] w fun e w' => ∃ A n c, e = .returned (.slice A n c) ∧ ∃ rs, OwnRows w' w.heap.size 31 A n c rs ∧ rowsXs rs = L ∧ (∀ r ∈ rs, Own w' w.heap.size 5 r.A r.n r.c r.xs) ∧ Keep w w' := by
  obtain ⟨fst, rg, hf, hrl, hb, hring⟩ := hq.ring
  have hpl := hq.short
  obtain ⟨n, hn⟩ : ∃ n, L.length = n := ⟨_, rfl⟩
  have hn64 : n ≤ 64 := by omega
  have hm := fun w => run_make_rows (P := Try.prog) (t := 40) (e := 31) Try.underlying40 infoRow n (by omega) w
  have O0 := Lib.hid (OwnRows.made w 31 n (by omega))
  have HQ := Lib.hid hq
  have HH := Lib.hid hb
  have HR := Lib.hid hring
  have HF := Lib.hid (And.intro hf hrl)
  have HN := Lib.hid hn
  have HP := Lib.hid hpl
  have hgl := hq.lt g hq.at_
  have d64 : (n : Int) ≤ 64 := by omega
  clear hq hb hring hrl hf hpl
  go_enter Try.func18, Try.ntmps18
  go_wp2_with fail
  refine (qlen_any pl g F _ _ HQ.out).mono ?_
  rw [hn]
  rintro e w' ⟨rfl, rfl⟩
  clear hn
  have K0 := Lib.hid ((Keep.refl w).alloc (madeCells #[.slice none 0 0] n) 31)
  go_wp2_with fail
  clear hm
  generalize w.alloc (.cells (madeCells #[.slice none 0 0] n) 31) = wa at *
  obtain ⟨ga, hga⟩ : ∃ ga, w.heap.size = ga := ⟨_, rfl⟩
  have HGA := Lib.hid hga
  simp only [hga]
  clear hga
  go_loopw [10] (fun i wr => ∃ (j : Nat) (rs : List RowV), j ≤ n ∧ i = .int .i64 j ∧ OwnRows wr w.heap.size 31 (some ⟨ga, 0, none⟩) n n rs ∧ rowsXs rs = L.take j ++ List.replicate (n - j) [] ∧ (∀ r ∈ rs, Own wr w.heap.size 5 r.A r.n r.c r.xs) ∧ Keep w wr) (fun i _ => n - (intOf i).toNat)
  case atStart =>
    refine ⟨0, List.replicate n ⟨none, 0, 0, []⟩, by omega, rfl, by rw [← HGA.out]; exact O0.out, by simp [rowsXs], fun r hr => ?_, K0.out⟩
    rw [(List.mem_replicate.1 hr).2]
    exact Own.none_ _ _ _
  case round =>
    clear O0 K0
    obtain ⟨j, rs, hj, rfl, ho, hxs, hrs, hk⟩ := hrel
    by_cases hlt : j < n
    · obtain ⟨x, hx⟩ : ∃ x, L[j]? = some x := ⟨_, List.getElem?_eq_getElem (by rw [HN.out]; exact hlt)⟩
      obtain ⟨s, hs⟩ : ∃ s, (fst + j) % 64 = s := ⟨_, rfl⟩
      obtain ⟨r, hr, hrx, hl⟩ := HR.out j x hx
      rw [hs] at hr
      have h0 : wr.heap[g]? = some (.cells (qcells pl fst L.length rg) 52 (0, 0)) := (hk.block g hgl).trans HH.out
      obtain ⟨_, _, _, _, er⟩ := qcells_at h0
      have er := er s r hr
      have hrn : r.n ≤ 70000 := by have := HP.out.2.2.2 x (List.mem_of_getElem? hx); rw [← hrx, hl.1] at this; exact this
      have HB := Lib.hid ((hl.bytes (B := w.heap.size) fun b hb => HQ.out.lt b hb.1).keep (Nat.le_refl _) hk)
      have HX := Lib.hid hx
      have HRX := Lib.hid hrx
      have HS := Lib.hid hs
      have H0 := Lib.hid h0
      have HO := Lib.hid ho
      have HXS := Lib.hid hxs
      have HRS := Lib.hid hrs
      have HK := Lib.hid hk
      have e1 : (0 : Int) ≤ (j : Int) := Int.natCast_nonneg _
      have e2 : (j : Int) < (n : Int) := by omega
      have d1 : (0 : Int) ≤ (s : Int) := Int.natCast_nonneg _
      have d2 : (s : Int) < 64 := by omega
      clear hr hl h0 hx hrx hs ho hxs hrs hk
      go_wp2_with fail
      refine wp_region_noPanic ?_
      refine wp_region_held_drew (S := fun wz => wz.cell? ⟨g, 3 + s, none⟩ = some (.slice r.A r.n r.c)) (by kernel_rfl) er (fun hHeld => ?_)
      refine wpAnyH_take (i := 0) (v := ?_) rfl (by kernel_rfl) (by kernel_rfl) (by kernel_rfl) (fun _ _ _ h => h) (Or.inl ⟨by rfl, ?_⟩) hHeld ?_
      rotate_left
      · intro wq hSw
        go_simp
        all_goals with_reducible rfl
      try simp only [Act.put, List.getElem_toArray, List.getElem_cons_succ, List.getElem_cons_zero, List.setIfInBounds_toArray, List.set_cons_zero, List.set_cons_succ]
      refine wpAnyH_take (i := 1) (v := ?_) rfl (by kernel_rfl) (by kernel_rfl) (by kernel_rfl) (fun _ _ _ h => h) (Or.inl ⟨by rfl, ?_⟩) hHeld ?_
      rotate_left
      · intro wq hSw
        go_simp
        all_goals with_reducible rfl
      try simp only [Act.put, List.getElem_toArray, List.getElem_cons_succ, List.getElem_cons_zero, List.setIfInBounds_toArray, List.set_cons_zero, List.set_cons_succ]
      refine wpAnyH_take (i := 2) (v := ?_) rfl (by kernel_rfl) (by kernel_rfl) (by kernel_rfl) (fun _ _ _ h => h) (Or.inl ⟨by rfl, ?_⟩) hHeld ?_
      rotate_left
      · intro wq hSw
        go_simp
        all_goals with_reducible rfl
      try simp only [Act.put, List.getElem_toArray, List.getElem_cons_succ, List.getElem_cons_zero, List.setIfInBounds_toArray, List.set_cons_zero, List.set_cons_succ]
      refine wpAnyH_take (i := 3) (v := ?_) rfl (by kernel_rfl) (by kernel_rfl) (by kernel_rfl) (fun _ _ _ h => h) (Or.inl ⟨by rfl, ?_⟩) hHeld ?_
      rotate_left
      · intro wq hSw
        go_simp
        all_goals with_reducible rfl
      try simp only [Act.put, List.getElem_toArray, List.getElem_cons_succ, List.getElem_cons_zero, List.setIfInBounds_toArray, List.set_cons_zero, List.set_cons_succ]
      refine wpAnyH_take (i := 4) (v := ?_) rfl (by kernel_rfl) (by kernel_rfl) (by kernel_rfl) (fun _ _ _ h => h) (Or.inl ⟨by rfl, ?_⟩) hHeld ?_
      rotate_left
      · intro wq hSw
        go_simp
        all_goals with_reducible rfl
      try simp only [Act.put, List.getElem_toArray, List.getElem_cons_succ, List.getElem_cons_zero, List.setIfInBounds_toArray, List.set_cons_zero, List.set_cons_succ]
      refine wpAnyH_take (i := 6) (v := ?_) rfl (by kernel_rfl) (by kernel_rfl) (by kernel_rfl) (fun _ _ _ h => h) (Or.inl ⟨by rfl, ?_⟩) hHeld ?_
      rotate_left
      · intro wq hSw
        go_simp
        all_goals with_reducible rfl
      try simp only [Act.put, List.getElem_toArray, List.getElem_cons_succ, List.getElem_cons_zero, List.setIfInBounds_toArray, List.set_cons_zero, List.set_cons_succ]
      refine wpAnyH_take (i := 7) (v := ?_) rfl (by kernel_rfl) (by kernel_rfl) (by kernel_rfl) (fun _ _ _ h => h) (Or.inl ⟨by rfl, ?_⟩) hHeld ?_
      rotate_left
      · intro wq hSw
        go_simp
        all_goals with_reducible rfl
      try simp only [Act.put, List.getElem_toArray, List.getElem_cons_succ, List.getElem_cons_zero, List.setIfInBounds_toArray, List.set_cons_zero, List.set_cons_succ]
      refine wpAnyH_ready (rs := [5]) (by kernel_rfl) (by simp) ?_
      refine AllReadyH.cons rfl (fun K hK => ?_) AllReadyH.nil
      go_simp
      refine (stand_any pl g fst L.length rg j wr.drew H0.out HF.out.1 (by omega)).mono ?_
      rintro e w1 ⟨rfl, rfl⟩
      rw [HS.out]
      refine hK.out _ _ hHeld (fun hHeld => ?_)
      clear hK K
      try simp only [Act.put, List.getElem_toArray, List.getElem_cons_succ, List.getElem_cons_zero, List.setIfInBounds_toArray, List.set_cons_zero, List.set_cons_succ]
      refine wpAnyH_take (i := 8) (v := ?_) rfl (by kernel_rfl) (by kernel_rfl) (by kernel_rfl) (fun _ _ _ h => h) (Or.inl ⟨by rfl, ?_⟩) hHeld ?_
      rotate_left
      · intro wq hSw
        go_simp
        all_goals with_reducible rfl
      try simp only [Act.put, List.getElem_toArray, List.getElem_cons_succ, List.getElem_cons_zero, List.setIfInBounds_toArray, List.set_cons_zero, List.set_cons_succ]
      refine wpAnyH_take (i := 9) (v := ?_) rfl (by kernel_rfl) (by kernel_rfl) (by kernel_rfl) (fun _ _ _ h => h) (Or.inl ⟨by rfl, ?_⟩) hHeld ?_
      rotate_left
      · intro wq hSw
        have q0 := hSw
        go_simp
        all_goals with_reducible rfl
      try simp only [Act.put, List.getElem_toArray, List.getElem_cons_succ, List.getElem_cons_zero, List.setIfInBounds_toArray, List.set_cons_zero, List.set_cons_succ]
      refine wpAnyH_ready (rs := [10]) (by kernel_rfl) (by simp) ?_
      refine AllReadyH.cons rfl (fun K hK => ?_) AllReadyH.nil
      go_simp
      refine (copy_any _ r.n _ _ _ wr.drew (HB.out.keep HK.out.size (Keep.drew (Keep.refl _))) (by have := HK.out.size; exact this) (by omega)).mono ?_
      rintro e w1 ⟨A1, n1, q1, rfl, o1, k1⟩
      have kr : Keep wr w1 := (Keep.drew (Keep.refl wr)).trans k1
      have KR1 := Lib.hid kr
      have k01 : Keep w w1 := HK.out.trans kr
      have K1 := Lib.hid k01
      have O1 : Hid (Own w1 w.heap.size 5 A1 n1 q1 x) := by show Own _ _ _ _ _ _ _; rw [← HRX.out]; exact o1.lower HK.out.size
      have or1 := HO.out.keep kr
      have OR1 := Lib.hid or1
      obtain ⟨r9, hr9⟩ : ∃ r9, rs[j]? = some r9 := ⟨_, List.getElem?_eq_getElem (by rw [or1.length]; exact hlt)⟩
      have ec : w1.cell? ⟨ga, j, none⟩ = some (.slice r9.A r9.n r9.c) := by rw [World.ownsRow.cellAt OR1.out j (by omega), List.getElem?_map, hr9]; rfl
      have ef : w1.frozen? ⟨ga, j, none⟩ = false := World.ownsRow.frozenAt OR1.out j
      clear hr9
      have e3 : w1.cell? ⟨g, 3 + s, none⟩ = some (.slice r.A r.n r.c) := Below.cell k1 (World.block_lt_of_cell? _ _ hHeld) |>.trans hHeld
      clear o1 k1 k01 kr or1
      refine hK.out _ _ e3 (fun hHeld => ?_)
      clear hK K
      try simp only [Act.put, List.getElem_toArray, List.getElem_cons_succ, List.getElem_cons_zero, List.setIfInBounds_toArray, List.set_cons_zero, List.set_cons_succ]
      refine wpAnyH_take (i := 11) (v := ?_) rfl (by kernel_rfl) (by kernel_rfl) (by kernel_rfl) (fun _ _ _ h => h) (Or.inl ⟨by rfl, ?_⟩) hHeld ?_
      rotate_left
      · intro wq hSw
        go_simp
        all_goals with_reducible rfl
      try simp only [Act.put, List.getElem_toArray, List.getElem_cons_succ, List.getElem_cons_zero, List.setIfInBounds_toArray, List.set_cons_zero, List.set_cons_succ]
      refine wpAnyH_ready (rs := [12]) (by kernel_rfl) (by simp) ?_
      refine AllReadyH.cons rfl (fun K hK => ?_) AllReadyH.nil
      go_simp
      refine hK.out _ _ ?_ (fun hHeld => ?_)
      · rw [World.cell?_setCell_far _ _ _ _ (show ga ≠ g by have := HGA.out; omega)]; exact hHeld
      clear hK K ec ef e3
      try simp only [Act.put, List.getElem_toArray, List.getElem_cons_succ, List.getElem_cons_zero, List.setIfInBounds_toArray, List.set_cons_zero, List.set_cons_succ]
      refine wpAnyH_done (by kernel_rfl) ?_ _
      refine NoPanic.normal ?_
      clear hHeld
      have hno : (Value.slice A1 n1 q1).ownBlock ≠ some ga := by
        rcases blocks_apart O1.out OR1.out (by decide) with h | h
        · rw [h]; simp
        · exact fun e => h (e.trans rfl)
      have hset : rowsXs (rs.set j ⟨A1, n1, q1, x⟩) = L.take (j + 1) ++ List.replicate (n - (j + 1)) [] := by
        rw [rowsXs, List.map_set, ← rowsXs, HXS.out]; exact take_set L n j x HN.out HX.out
      have K2 : Keep w (w1.setCell ⟨ga, j, none⟩ (.slice A1 n1 q1)) := Keep.setCell K1.out (by rw [HGA.out]; exact Nat.le_refl _) _
      have hrs2 : ∀ r' ∈ rs.set j ⟨A1, n1, q1, x⟩, Own (w1.setCell ⟨ga, j, none⟩ (.slice A1 n1 q1)) w.heap.size 5 r'.A r'.n r'.c r'.xs := fun r' hr' => by
        rcases List.mem_or_eq_of_mem_set hr' with h | rfl
        · have o := (HRS.out r' h).keep KR1.out
          refine o.far ?_ _
          rcases blocks_apart o OR1.out (by decide) with h | h
          · rw [h]; simp
          · exact fun e => h (e.trans rfl)
        · exact O1.out.far hno _
      have HF2 := Lib.hid (And.intro (OwnRows.stored (i := j) OR1.out ⟨A1, n1, q1, x⟩) (And.intro hset (And.intro hrs2 K2)))
      clear hno hset K2 hrs2
      go_wp2_with fail
      go_roundw
      case rel => exact ⟨j + 1, _, by omega, by go_num, HF2.out.1, HF2.out.2.1, HF2.out.2.2.1, HF2.out.2.2.2⟩
      case measure => simp [intOf]; omega
    · obtain rfl : n = j := by omega
      have HO := Lib.hid ho
      have HXS := Lib.hid hxs
      have HRS := Lib.hid hrs
      have HK := Lib.hid hk
      clear ho hxs hrs hk
      go_wp2_with fail
      go_ret
      refine ⟨_, n, n, rfl, rs, HO.out, ?_, HRS.out, HK.out⟩
      rw [HXS.out, Nat.sub_self, List.replicate_zero, List.append_nil, List.take_of_length_le (by rw [HN.out]; exact Nat.le_refl _)]
end Go.Proofs.Ythgplballiibnaa
