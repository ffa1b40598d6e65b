/- Arguments of layer 6's statements: shaped. -/
import Derived.Test.YtcmjglmagkjdoaaMmul
import Derived.Test.YtcmjglmagkjdoaaMcode
import Derived.Test.YtcmjglmagkjdoaaRowsMk
namespace Go.Proofs.Ytcmjglmagkjdoaa
open Go.RowKit
set_option linter.unusedSimpArgs false
set_option linter.unusedVariables false
/-- A row of so many numbers, out of a list, and the rows. -/
def shapeR (xs : List Nat) (cols i : Nat) : List Nat := tab cols fun k => xs.getD (i * cols + k) 0
def shapeTo (xs : List Nat) (rows cols i : Nat) : List (List Nat) := (List.range rows).map fun k => if k < i then shapeR xs cols k else []
def shapeN (xs : List Nat) (rows cols : Nat) : List (List Nat) := (List.range rows).map fun k => shapeR xs cols k
theorem shapeTo_zero (xs : List Nat) (rows cols : Nat) : rowsXs (List.replicate rows ⟨none, 0, 0, []⟩) = shapeTo xs rows cols 0 := by
  rw [rowsXs, shapeTo, List.map_replicate]
  refine List.ext_getElem (by simp) fun i h1 h2 => by simp
theorem shapeTo_all (xs : List Nat) (rows cols : Nat) : shapeTo xs rows cols rows = shapeN xs rows cols := by
  rw [shapeTo, shapeN]; exact List.map_congr_left fun k hk => by rw [if_pos (List.mem_range.1 hk)]
theorem shapeTo_set (xs : List Nat) (rows cols i : Nat) (hi : i < rows) : (shapeTo xs rows cols i).set i (shapeR xs cols i) = shapeTo xs rows cols (i + 1) := by
  refine List.ext_getElem (by simp [shapeTo]) fun k h1 h2 => ?_
  simp only [List.getElem_set, shapeTo, List.getElem_map, List.getElem_range]
  by_cases e : i = k
  · subst e; simp
  · rw [if_neg e]
    by_cases h : k < i
    · rw [if_pos h, if_pos (by omega)]
    · rw [if_neg h, if_neg (by omega)]
def partS (xs : List Nat) (cols i k : Nat) : List Nat := tab cols fun x => if x < k then xs.getD (i * cols + x) 0 else 0
theorem partS_step (xs : List Nat) (cols i k : Nat) : (partS xs cols i k).set k (xs.getD (i * cols + k) 0) = partS xs cols i (k + 1) := by
  rw [partS, tab_set]
  exact tab_congr fun x _ => by
    by_cases h : x = k
    · subst h; rw [if_pos rfl, if_pos (by omega)]
    · rw [if_neg h]
      by_cases h2 : x < k
      · rw [if_pos h2, if_pos (by omega)]
      · rw [if_neg h2, if_neg (by omega)]
theorem partS_done (xs : List Nat) (cols i k : Nat) (h : k = cols ∨ xs.length ≤ i * cols + k) : partS xs cols i k = shapeR xs cols i := tab_congr fun x hx => by
  by_cases h2 : x < k
  · rw [if_pos h2]
  · rw [if_neg h2]
    rcases h with h | h
    · omega
    · rw [List.getD_eq_getElem?_getD, List.getElem?_eq_none (by omega)]; rfl
set_option maxRecDepth 100000 in
set_option maxHeartbeats 4000000 in
theorem shaped_any (B n c rows cols : Nat) (A : Option Addr) (xs : List Nat) (w : World) (h : Bytes w B A n xs) (hB : B ≤ w.heap.size) (hn : n ≤ 140737488355328) (h1 : rows ≤ 1000) (h2 : cols ≤ 1000) :
    Calls Try.prog 29 #[.slice A n c, .int .i64 (rows : Int), .int .i64 (cols : Int)] w fun e w' => ∃ A' n' c', e = .returned (.slice A' n' c') ∧ ∃ rs, OwnedRows w w' A' n' c' (shapeN xs rows cols) rs := by
  have H := Lib.hid h
  have HXL : Hid (xs.length = n) := h.length
  have mk1 := fun w => run_make_rows (P := Try.prog) Try.underlying22 infoRow rows (by omega) w
  have mk2 := fun w => run_make_bytes (P := Try.prog) Try.underlying26 info5 cols (by omega) w
  have O0 := Lib.hid (OwnRows.made w 26 rows (by omega))
  have K0 := Lib.hid ((Keep.refl w).alloc (madeCells #[.slice none 0 0] rows) 26)
  obtain ⟨g, hg⟩ : ∃ g, w.heap.size = g := ⟨_, rfl⟩
  rw [hg] at O0
  have HG := Lib.hid hg
  clear h
  generalize madeCells #[.slice none 0 0] rows = MR at *
  go_enter Try.func29, Try.ntmps29
  go_wp2_with fail
  go_loopw [8] (fun iv wr => ∃ (i : Nat) (rsI : List RowV), i ≤ rows ∧ iv = .int .i64 i ∧ OwnRows wr w.heap.size 26 (some ⟨g, 0, none⟩) rows rows rsI ∧ (∀ r ∈ rsI, Own wr w.heap.size 5 r.A r.n r.c r.xs) ∧ rowsXs rsI = shapeTo xs rows cols i ∧ Keep w wr) (fun iv _ => rows - (intOf iv).toNat)
  case atStart => exact ⟨0, _, by omega, rfl, by rw [HG.out]; exact O0.out, fun r hr => by rw [(List.mem_replicate.1 hr).2]; exact Own.none_ _ _ _, shapeTo_zero xs rows cols, K0.out⟩
  case round =>
    obtain ⟨i, rsI, hi, rfl, ho, hr, hx, hk⟩ := hrel
    have HO := Lib.hid ho
    have HR := Lib.hid hr
    have HX := Lib.hid hx
    have HK := Lib.hid hk
    clear O0 K0
    by_cases hlt : i < rows
    · have e1 : (0 : Int) ≤ (i : Int) := Int.natCast_nonneg _
      have e2 : (i : Int) < (rows : Int) := by omega
      obtain ⟨gr, hgr⟩ : ∃ gr, wr.heap.size = gr := ⟨_, rfl⟩
      have hil : i < rsI.length := by rw [ho.length]; exact hlt
      have hci := World.ownsRow.cells ho (g := g) rfl i (rsI[i]).val (by rw [List.getElem?_map, List.getElem?_eq_getElem hil]; rfl)
      have haa : (⟨g, 0, none⟩ : Addr).add i = ⟨g, i, none⟩ := by unfold Addr.add; split <;> simp_all
      rw [haa, RowV.val] at hci
      have hfi : wr.frozen? ⟨g, i, none⟩ = false := World.ownsRow.frozenAt ho i
      have hglt : g < gr := by rw [← hgr]; exact (ho.lt g rfl).2
      have hgne : (⟨g, i, none⟩ : Addr).block ≠ gr := Nat.ne_of_lt hglt
      have oR := Own.made wr 5 cols (by omega)
      rw [hgr, show List.replicate cols 0 = partS xs cols i 0 by rw [replicate_tab, partS]; exact tab_congr fun x _ => by rw [if_neg (by omega)]] at oR
      generalize madeCells #[.int .u8 0] cols = MC at *
      obtain ⟨wS, hwS⟩ : ∃ wS, (wr.alloc (.cells MC 5)).setCell ⟨g, i, none⟩ (.slice (some ⟨gr, 0, none⟩) cols cols) = wS := ⟨_, rfl⟩
      have hwg : w.heap.size ≤ gr := by rw [← hgr]; exact hk.size
      have ka : Keep wr (wr.alloc (.cells MC 5)) := (Keep.refl wr).alloc _ _
      have OS : Hid (Own wS gr 5 (some ⟨gr, 0, none⟩) cols cols (partS xs cols i 0)) := by
        show Own _ _ _ _ _ _ _
        rw [← hwS]
        exact oR.far (p := ⟨g, i, none⟩) (fun e => by
          have e : gr = g := by simpa [Value.ownBlock] using e
          omega) _
      have RS : Hid (OwnRows wS w.heap.size 26 (some ⟨g, 0, none⟩) rows rows (rsI.set i ⟨some ⟨gr, 0, none⟩, cols, cols, shapeR xs cols i⟩)) := by
        show OwnRows _ _ _ _ _ _ _
        rw [← hwS]
        exact (ho.alloc _).stored (i := i) ⟨some ⟨gr, 0, none⟩, cols, cols, shapeR xs cols i⟩
      have kS : Turned (fun b => b = g) wr wS := by rw [← hwS]; exact (Turned.of_keep ka).trans (Turned.set (F := fun b => b = g) _ ⟨g, i, none⟩ _ rfl) fun i e => Or.inl e
      have ES : Hid (∀ r ∈ rsI, Own wS w.heap.size 5 r.A r.n r.c r.xs ∧ ∀ b, (Value.slice r.A r.n r.c).ownBlock = some b → b ≠ gr) := fun r hr' => ⟨(hr r hr').turned kS fun b hb e => by
        rcases blocks_apart (hr r hr') ho (by decide) with z | z
        · rw [z] at hb; cases hb
        · exact z (hb.trans (by rw [e]; rfl)), fun b hb => by have := ((hr r hr').1.lt b hb).2; omega⟩
      have KS : Hid (Keep w wS) := kS.keep hk fun b e => by rw [e, ← hg]; exact Nat.le_refl _
      have HCS : Hid (wS.cell? ⟨g, i, none⟩ = some (.slice (some ⟨gr, 0, none⟩) cols cols)) := by
        show _ = _
        have z := World.ownsRow.cells RS.out (g := g) rfl i (.slice (some ⟨gr, 0, none⟩) cols cols) (by rw [List.getElem?_map, List.getElem?_set_self hil]; rfl)
        rwa [haa] at z
      have HWS := Lib.hid (And.intro hwS (And.intro hglt hwg))
      clear ho hr hx hk haa oR ka kS
      go_wp2_with fail
      try rw [HWS.out.1]
      clear hwS hgr hci hfi
      go_loopw [9] (fun kv wz => ∃ k : Nat, k ≤ cols ∧ kv = .int .i64 k ∧ Own wz gr 5 (some ⟨gr, 0, none⟩) cols cols (partS xs cols i k) ∧ Turned (fun b => b = gr) wS wz) (fun kv _ => cols - (intOf kv).toNat)
      case atStart => exact ⟨0, by omega, rfl, OS.out, Turned.refl _ _⟩
      case round =>
        clear OS
        obtain ⟨k, hkc, rfl, hoz, hkz⟩ := hrel
        have hkw := hkz.keep KS.out fun b e => by rw [e]; exact HWS.out.2.2
        obtain ⟨p, hp⟩ : ∃ p, i * cols = p := ⟨_, rfl⟩
        have hpb : p ≤ 1000000 := by rw [← hp]; exact Nat.le_trans (Nat.mul_le_mul (show i ≤ 1000 by omega) h2) (by decide)
        have d1 : (i : Int) * (cols : Int) = (p : Int) := by rw [← hp]; simp
        obtain ⟨s, hs⟩ : ∃ s, p + k = s := ⟨_, rfl⟩
        have d2 : (p : Int) + (k : Int) = (s : Int) := by omega
        have w1 : IntKind.i64.wrap (p : Int) = (p : Int) := IntWalk.i64_in _ (by omega)
        have w2 : IntKind.i64.wrap (s : Int) = (s : Int) := IntWalk.i64_in _ (by omega)
        have hips : i * cols + k = s := by rw [hp, hs]
        have f1 : (0 : Int) ≤ (k : Int) := Int.natCast_nonneg _
        by_cases hin : k < cols ∧ s < n
        · have f2 : (k : Int) < (cols : Int) := by omega
          have f3 : (s : Int) < (n : Int) := by omega
          have f4 : decide ((s : Int) < (n : Int)) = true := decide_eq_true f3
          have f4' : decide (s < n) = true := decide_eq_true hin.2
          have f5 : (0 : Int) ≤ (s : Int) := Int.natCast_nonneg _
          obtain ⟨b1, o1, rfl, hb1, c2⟩ := (H.out.keep hB hkw).at_ hin.2
          have hb1g : b1 < gr := Nat.lt_of_lt_of_le (Nat.lt_of_lt_of_le hb1 hB) HWS.out.2.2
          have c1 : wr.cell? ⟨g, i, none⟩ = some (.slice (some ⟨gr, 0, none⟩) cols cols) := hkz.cell HCS.out (Nat.ne_of_lt HWS.out.2.1)
          have c3 := hoz.frozen k
          have c4 := hoz.cell hin.1
          have hx : xs.getD s 0 < 256 := H.out.2.1.getD s
          have HN : Hid ((⟨gr, k, none⟩ : Addr).block ≠ (⟨g, i, none⟩ : Addr).block ∧ (⟨gr, k, none⟩ : Addr).block ≠ (⟨b1, o1 + s, none⟩ : Addr).block) := ⟨Nat.ne_of_gt HWS.out.2.1, Nat.ne_of_gt hb1g⟩
          have o2 := (show Own wr.drew gr 5 (some ⟨gr, 0, none⟩) cols cols _ from hoz).stored (i := k) (v := xs.getD s 0) hx
          have hps := partS_step xs cols i k
          rw [hips] at hps
          rw [hps] at o2
          have HO2 := Lib.hid o2
          have HK2 := Lib.hid (hkz.trans (Turned.trans (F := fun b => b = gr) (F' := fun b => b = gr) (Turned.of_keep (Keep.drew (Keep.refl wr))) (Turned.set (F := fun b => b = gr) wr.drew ⟨gr, k, none⟩ (.int .u8 ((xs.getD s 0 : Nat) : Int)) rfl) fun i e => Or.inl e) fun i e => Or.inl e)
          generalize xs.getD s 0 = x at *
          clear hoz hkz hkw o2 hps hips hp hs hb1g hb1
          go_wp2_with fail
          refine wp_region_noPanic ?_
          refine wp_region_held_drew (S := fun wy => wy.cell? ⟨g, i, none⟩ = some (.slice (some ⟨gr, 0, none⟩) cols cols) ∧ wy.cell? ⟨b1, o1 + s, none⟩ = some (.int .u8 (x : Int)) ∧ wy.frozen? ⟨gr, k, none⟩ = false) (by kernel_rfl) ⟨c1, c2, c3⟩ (fun hHeld => ?_)
          refine wpAnyH_take (i := 0) (v := ?_) rfl (by kernel_rfl) (by kernel_rfl) (by kernel_rfl) (fun _ _ _ h => h) (Or.inl ⟨by rfl, ?_⟩) hHeld ?_
          rotate_left
          · intro wq hSw
            go_simp
            all_goals with_reducible rfl
          try simp only [Act.put, List.getElem_toArray, List.getElem_cons_succ, List.getElem_cons_zero, List.setIfInBounds_toArray, List.set_cons_zero, List.set_cons_succ]
          refine wpAnyH_take (i := 1) (v := ?_) rfl (by kernel_rfl) (by kernel_rfl) (by kernel_rfl) (fun _ _ _ h => h) (Or.inl ⟨by rfl, ?_⟩) hHeld ?_
          rotate_left
          · intro wq hSw
            go_simp
            all_goals with_reducible rfl
          try simp only [Act.put, List.getElem_toArray, List.getElem_cons_succ, List.getElem_cons_zero, List.setIfInBounds_toArray, List.set_cons_zero, List.set_cons_succ]
          refine wpAnyH_take (i := 2) (v := ?_) rfl (by kernel_rfl) (by kernel_rfl) (by kernel_rfl) (fun _ _ _ h => h) (Or.inl ⟨by rfl, ?_⟩) hHeld ?_
          rotate_left
          · intro wq hSw
            go_simp
            all_goals with_reducible rfl
          try simp only [Act.put, List.getElem_toArray, List.getElem_cons_succ, List.getElem_cons_zero, List.setIfInBounds_toArray, List.set_cons_zero, List.set_cons_succ]
          refine wpAnyH_take (i := 3) (v := ?_) rfl (by kernel_rfl) (by kernel_rfl) (by kernel_rfl) (fun _ _ _ h => h) (Or.inl ⟨by rfl, ?_⟩) hHeld ?_
          rotate_left
          · intro wq hSw
            have q0 := hSw.1
            go_simp
            all_goals with_reducible rfl
          try simp only [Act.put, List.getElem_toArray, List.getElem_cons_succ, List.getElem_cons_zero, List.setIfInBounds_toArray, List.set_cons_zero, List.set_cons_succ]
          refine wpAnyH_take (i := 4) (v := ?_) rfl (by kernel_rfl) (by kernel_rfl) (by kernel_rfl) (fun _ _ _ h => h) (Or.inl ⟨by rfl, ?_⟩) hHeld ?_
          rotate_left
          · intro wq hSw
            go_simp
            all_goals with_reducible rfl
          try simp only [Act.put, List.getElem_toArray, List.getElem_cons_succ, List.getElem_cons_zero, List.setIfInBounds_toArray, List.set_cons_zero, List.set_cons_succ]
          refine wpAnyH_take (i := 5) (v := ?_) rfl (by kernel_rfl) (by kernel_rfl) (by kernel_rfl) (fun _ _ _ h => h) (Or.inl ⟨by rfl, ?_⟩) hHeld ?_
          rotate_left
          · intro wq hSw
            go_simp
            all_goals with_reducible rfl
          try simp only [Act.put, List.getElem_toArray, List.getElem_cons_succ, List.getElem_cons_zero, List.setIfInBounds_toArray, List.set_cons_zero, List.set_cons_succ]
          refine wpAnyH_take (i := 6) (v := ?_) rfl (by kernel_rfl) (by kernel_rfl) (by kernel_rfl) (fun _ _ _ h => h) (Or.inl ⟨by rfl, ?_⟩) hHeld ?_
          rotate_left
          · intro wq hSw
            go_simp
            all_goals with_reducible rfl
          try simp only [Act.put, List.getElem_toArray, List.getElem_cons_succ, List.getElem_cons_zero, List.setIfInBounds_toArray, List.set_cons_zero, List.set_cons_succ]
          refine wpAnyH_take (i := 7) (v := ?_) rfl (by kernel_rfl) (by kernel_rfl) (by kernel_rfl) (fun _ _ _ h => h) (Or.inl ⟨by rfl, ?_⟩) hHeld ?_
          rotate_left
          · intro wq hSw
            go_simp
            all_goals with_reducible rfl
          try simp only [Act.put, List.getElem_toArray, List.getElem_cons_succ, List.getElem_cons_zero, List.setIfInBounds_toArray, List.set_cons_zero, List.set_cons_succ]
          refine wpAnyH_take (i := 8) (v := ?_) rfl (by kernel_rfl) (by kernel_rfl) (by kernel_rfl) (fun _ _ _ h => h) (Or.inl ⟨by rfl, ?_⟩) hHeld ?_
          rotate_left
          · intro wq hSw
            go_simp
            all_goals with_reducible rfl
          try simp only [Act.put, List.getElem_toArray, List.getElem_cons_succ, List.getElem_cons_zero, List.setIfInBounds_toArray, List.set_cons_zero, List.set_cons_succ]
          refine wpAnyH_take (i := 9) (v := ?_) rfl (by kernel_rfl) (by kernel_rfl) (by kernel_rfl) (fun _ _ _ h => h) (Or.inl ⟨by rfl, ?_⟩) hHeld ?_
          rotate_left
          · intro wq hSw
            go_simp
            all_goals with_reducible rfl
          try simp only [Act.put, List.getElem_toArray, List.getElem_cons_succ, List.getElem_cons_zero, List.setIfInBounds_toArray, List.set_cons_zero, List.set_cons_succ]
          refine wpAnyH_take (i := 10) (v := ?_) rfl (by kernel_rfl) (by kernel_rfl) (by kernel_rfl) (fun _ _ _ h => h) (Or.inl ⟨by rfl, ?_⟩) hHeld ?_
          rotate_left
          · intro wq hSw
            go_simp
            all_goals with_reducible rfl
          try simp only [Act.put, List.getElem_toArray, List.getElem_cons_succ, List.getElem_cons_zero, List.setIfInBounds_toArray, List.set_cons_zero, List.set_cons_succ]
          refine wpAnyH_take (i := 11) (v := ?_) rfl (by kernel_rfl) (by kernel_rfl) (by kernel_rfl) (fun _ _ _ h => h) (Or.inl ⟨by rfl, ?_⟩) hHeld ?_
          rotate_left
          · intro wq hSw
            go_simp
            all_goals with_reducible rfl
          try simp only [Act.put, List.getElem_toArray, List.getElem_cons_succ, List.getElem_cons_zero, List.setIfInBounds_toArray, List.set_cons_zero, List.set_cons_succ]
          refine wpAnyH_take (i := 12) (v := ?_) rfl (by kernel_rfl) (by kernel_rfl) (by kernel_rfl) (fun _ _ _ h => h) (Or.inl ⟨by rfl, ?_⟩) hHeld ?_
          rotate_left
          · intro wq hSw
            have q0 := hSw.2.1
            go_simp
            all_goals with_reducible rfl
          try simp only [Act.put, List.getElem_toArray, List.getElem_cons_succ, List.getElem_cons_zero, List.setIfInBounds_toArray, List.set_cons_zero, List.set_cons_succ]
          refine wpAnyH_take (i := 13) (v := ?_) rfl (by kernel_rfl) (by kernel_rfl) (by kernel_rfl) (fun _ _ _ h => h) (Or.inl ⟨by rfl, ?_⟩) hHeld ?_
          rotate_left
          · intro wq hSw
            go_simp
            all_goals with_reducible rfl
          try simp only [Act.put, List.getElem_toArray, List.getElem_cons_succ, List.getElem_cons_zero, List.setIfInBounds_toArray, List.set_cons_zero, List.set_cons_succ]
          refine wpAnyH_ready (rs := [14]) (by kernel_rfl) (by simp) ?_
          refine AllReadyH.cons rfl (fun K hK => ?_) AllReadyH.nil
          go_simp
          refine hK.out _ _ ⟨(World.cell?_setCell_far _ _ _ _ HN.out.1).trans c1, (World.cell?_setCell_far _ _ _ _ HN.out.2).trans c2, (World.frozen?_setCell _ _ _ _).trans c3⟩ (fun hHeld => ?_)
          clear hK K
          try simp only [Act.put, List.getElem_toArray, List.getElem_cons_succ, List.getElem_cons_zero, List.setIfInBounds_toArray, List.set_cons_zero, List.set_cons_succ]
          refine wpAnyH_done (by kernel_rfl) ?_ _
          refine NoPanic.normal ?_
          clear hHeld
          go_wp2_with fail
          go_roundw
          case rel => exact ⟨k + 1, by omega, by go_num, HO2.out, HK2.out⟩
          case measure => simp [intOf]; omega
        · have hdone := partS_done xs cols i k (by rw [HXL.out, hips]; omega)
          rw [hdone] at hoz
          have HOz := Lib.hid (hoz.lower HWS.out.2.2)
          have HRz := Lib.hid (RS.out.turned hkz fun b hb e => by
            have hb : g = b := by simpa [Value.ownBlock] using hb
            have := HWS.out.2.1; omega)
          have HEz : Hid (∀ r ∈ rsI.set i ⟨some ⟨gr, 0, none⟩, cols, cols, shapeR xs cols i⟩, Own wr w.heap.size 5 r.A r.n r.c r.xs) := fun r hr => by
            rcases List.mem_or_eq_of_mem_set hr with hr | rfl
            · exact (ES.out r hr).1.turned hkz fun b hb e => (ES.out r hr).2 b hb e
            · exact HOz.out
          have HXz : Hid (rowsXs (rsI.set i ⟨some ⟨gr, 0, none⟩, cols, cols, shapeR xs cols i⟩) = shapeTo xs rows cols (i + 1)) := by
            show _ = _
            rw [← shapeTo_set xs rows cols i hlt, ← HX.out, rowsXs, rowsXs, List.map_set]
          have HKz := Lib.hid hkw
          clear hoz hkz hkw hdone hips hp hs
          by_cases hkk : k < cols
          · have f2 : (k : Int) < (cols : Int) := by omega
            have f3 : ¬ (s : Int) < (n : Int) := by omega
            have f4 : decide ((s : Int) < (n : Int)) = false := decide_eq_false f3
            have f4' : decide (s < n) = false := decide_eq_false (by omega)
            clear hin
            go_wp2_with fail
            go_roundw
            case rel => exact ⟨i + 1, _, by omega, by go_num, HRz.out, HEz.out, HXz.out, HKz.out⟩
            case measure => simp [intOf]; omega
          · have f2 : ¬ (k : Int) < (cols : Int) := by omega
            clear hin
            go_wp2_with fail
            go_roundw
            case rel => exact ⟨i + 1, _, by omega, by go_num, HRz.out, HEz.out, HXz.out, HKz.out⟩
            case measure => simp [intOf]; omega
    · obtain rfl : i = rows := by omega
      clear ho hr hx hk
      go_wp2_with fail
      go_ret
      exact ⟨_, _, _, rfl, rsI, HO.out, HR.out, by rw [HX.out, shapeTo_all], HK.out⟩
end Go.Proofs.Ytcmjglmagkjdoaa
