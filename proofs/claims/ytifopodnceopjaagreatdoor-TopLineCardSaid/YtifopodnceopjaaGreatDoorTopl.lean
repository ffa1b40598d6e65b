/- The walk of TopLine. -/
import Derived.Test.YtifopodnceopjaaGreatDoorTo5
import Derived.Test.YtifopodnceopjaaGreatDoorQab
import Derived.Test.YtifopodnceopjaaGreatDoorQah
import Derived.Test.YtifopodnceopjaaGreatDoorQar
import Derived.Test.YtifopodnceopjaaGreatDoorGm2
import Derived.Test.YtifopodnceopjaaGreatDoorQad
import Derived.Test.YtifopodnceopjaaGreatDoorQae
import Derived.Deep.DeepCutAuto
import Derived.Deep.CutBlock
import Derived.StillTailTactics
namespace Go.Proofs.YtifopodnceopjaaGreatDoor
open Go.RowKit Lin Fr
set_option linter.unusedVariables false
set_option linter.unusedSimpArgs false
set_option maxRecDepth 100000 in
theorem load_relT {wq : World} {ev : Operand → Value} {x : Operand} {b i : Nat} {v : Value} {o : Oper} (ho : o.op = .load 27 x) (hx : ev x = .pointer (some ⟨b, i, none⟩)) (q0 : wq.cell? ⟨b, i, none⟩ = some v) : Sem.run Tryz.prog (execOp ev o) wq = .ok (.value v) wq := by
  unfold execOp
  rw [ho]
  go_simp
set_option maxRecDepth 100000 in
set_option maxHeartbeats 400000000 in
theorem topline_any (n1 c1 s0 s1 n3 c3 : Nat) (A1 A3 : Option Addr) (xs : List Nat) (l : List CarV) (w : World) (hT : TabW w) (h1 : Bytes w w.heap.size A1 n1 xs) (h3 : CarsAt w w.heap.size A3 n3 l) (m1 : n1 ≤ 140737488355328) (m3 : n3 ≤ 140737488351232) (b0 : s0 < 256) (b1 : s1 < 256) :
    Calls Tryz.prog 3 #[.slice A1 n1 c1, .agg #[.int .u8 (s0 : Int), .int .u8 (s1 : Int)], .slice A3 n3 c3] w fun e w' => e = .returned (.bool true) ∧ Keep w w' := by
  have HT := Lib.hid hT
  have H1 := Lib.hid h1
  have H3 := Lib.hid h3
  obtain ⟨q0, hq0⟩ : ∃ q, s0 % 5 = q := ⟨_, rfl⟩
  obtain ⟨g, hk0⟩ : ∃ k, 1 + q0 = k := ⟨_, rfl⟩
  obtain ⟨q1, hq1⟩ : ∃ q, s1 % 5 = q := ⟨_, rfl⟩
  obtain ⟨s, hk1⟩ : ∃ k, 1 + q1 = k := ⟨_, rfl⟩
  have d1 : (s0 : Int) % 5 = (q0 : Int) := by omega
  have d2 : 1 + (q0 : Int) = (g : Int) := by omega
  have d3 : (s1 : Int) % 5 = (q1 : Int) := by omega
  have d4 : 1 + (q1 : Int) = (s : Int) := by omega
  have p0 : 1 ≤ g := by omega
  have r0 : g ≤ 5 := by omega
  have p1 : 1 ≤ s := by omega
  have r1 : s ≤ 5 := by omega
  obtain ⟨M, hM⟩ : ∃ M, shapeN xs g s = M := ⟨_, rfl⟩
  have sM : Hid (Sz g s M) := hM ▸ shape_sz xs g s h1.all
  have EM := Lib.hid hM
  clear hT h1 h3 hM hq0 hq1 hk0 hk1
  go_enter Tryz.func3, Tryz.ntmps3
  go_upto_region 1 with fail
  have hbk := heap_alloc_new w (.cells #[.int .u8 (s0 : Int), .int .u8 (s1 : Int)] 23)
  have kb : Keep w (w.alloc (.cells #[.int .u8 (s0 : Int), .int .u8 (s1 : Int)] 23)) := (Keep.refl w).alloc _ _
  obtain ⟨gs, hgs⟩ : ∃ g, w.heap.size = g := ⟨_, rfl⟩
  rw [hgs] at hbk
  simp only [hgs]
  have cs0 : (w.alloc (.cells #[.int .u8 (s0 : Int), .int .u8 (s1 : Int)] 23)).cell? ⟨gs, 0, none⟩ = some (.int .u8 (s0 : Int)) := by simp [World.cell?, hbk]
  have cs1 : (w.alloc (.cells #[.int .u8 (s0 : Int), .int .u8 (s1 : Int)] 23)).cell? ⟨gs, 1, none⟩ = some (.int .u8 (s1 : Int)) := by simp [World.cell?, hbk]
  clear hbk hgs
  have KB0 := Lib.hid kb
  generalize w.alloc (.cells #[.int .u8 (s0 : Int), .int .u8 (s1 : Int)] 23) = wb at *
  clear kb
  go_wp2_with fail
  go_quiet (fail)
  have KB := Lib.hid (KB0.out.drewN nq)
  generalize wb.drewN nq = w0 at *
  clear cs0 cs1 KB0 d1 d2 d3 d4
  go_wp2_with fail
  refine (symbols_mat _ n1 c1 g s A1 xs _ (H1.out.keep (Nat.le_refl _) KB.out) KB.out.size m1 (by omega) (by omega)).mono ?_
  rw [EM.out]
  rintro e w1 ⟨As, na, cs, rfl, mm, kk1⟩
  obtain rfl : g = na := (mm.cnt sM.out).symm
  have MM := Lib.hid mm
  have K1 := Lib.hid (KB.out.trans kk1)
  clear mm kk1 KB
  go_wp2_with fail
  have hkw := (Keep.refl w1).alloc #[.pointer none, .pointer none, .pointer none] 28
  have hpt := Ptrs3.start w1 (fun _ => ⟨0, fun _ => False, 0, fun _ => []⟩)
  have hszA : (w1.alloc (.cells #[.pointer none, .pointer none, .pointer none] 28)).heap.size = w1.heap.size + 1 := by simp
  obtain ⟨gr, hgr⟩ : ∃ q, w1.heap.size = q := ⟨_, rfl⟩
  obtain ⟨wa, hwa⟩ : ∃ x, w1.alloc (.cells #[.pointer none, .pointer none, .pointer none] 28) = x := ⟨_, rfl⟩
  rw [hgr] at hpt hszA
  rw [hwa] at hkw hpt hszA
  have HN0 : Hid (RlN w1 wa 0 g s 4 (fun _ => ⟨0, fun _ => False, 0, fun _ => []⟩) (fun x => x = gr)) := ((RlN.start w1 _).widen hkw).narrow fun x hx => Or.inr (by omega)
  have HP0 := Lib.hid hpt
  have HGR : Hid (w1.heap.size ≤ gr) := Nat.le_of_eq hgr
  clear hkw hpt hszA
  try simp only [hgr]
  try rw [hwa]
  try rw [hgr]
  clear hwa hgr
  go_loopw [11] (fun iv wr => ∃ (i : Nat) (R : Nat → RelS), i ≤ 3 ∧ iv = .int .i64 (i : Int) ∧ RlN w1 wr i g s 4 R (fun x => x = gr) ∧ Ptrs3 wr gr i R ∧ ∀ j, j < i → (R j).b = 0 ∧ (R j).L = fun _ => []) (fun iv _ => 3 - (intOf iv).toNat)
  case atStart => exact ⟨0, _, by omega, rfl, HN0.out, HP0.out, fun j hj => by omega⟩
  case round =>
    clear HN0 HP0
    obtain ⟨i, R, hi, rfl, hN, hP, hR⟩ := hrel
    have HN := Lib.hid hN
    have HP := Lib.hid hP
    have HRR := Lib.hid hR
    clear hN hP hR
    by_cases hlt : i < 3
    · have e0 : (0 : Int) ≤ (i : Int) := Int.natCast_nonneg _
      have e1 : (i : Int) < 3 := by omega
      go_wp2_with fail
      refine (relnew_in (g := g) (s := s) (k := 4) p0 (by omega) p1 (by omega) (by decide) (by decide) _).mono ?_
      rintro e w5 ⟨px, Fx, rfl, rx, fx, k5⟩
      have hn := HN.out.set (i := i) (m' := i + 1) rx fx k5 (fun j hj => by omega)
      have hp5 := HP.out.keep k5
      have hcl := hp5.cell (j := i) hlt
      rw [if_neg (Nat.lt_irrefl _)] at hcl
      have hfr := hp5.free i
      have hn2 := hn.other (w2 := w5.setCell ⟨gr, i, none⟩ (.pointer (some ⟨px, 0, none⟩))) (Turned.set (F := fun x => x = gr) w5 ⟨gr, i, none⟩ _ rfl) fun x hx => ⟨by rw [hx]; exact HGR.out, fun l hl => (hn.d x hx).2 l hl⟩
      have HN2 := Lib.hid hn2
      have HP2 := Lib.hid (hp5.set hlt ⟨px, Fx, 0, fun _ => []⟩)
      have HR2 : Hid (∀ j, j < i + 1 → (updR R i ⟨px, Fx, 0, fun _ => []⟩ j).b = 0 ∧ (updR R i ⟨px, Fx, 0, fun _ => []⟩ j).L = fun _ => []) := fun j hj => by
        by_cases e : j = i
        · subst e; rw [updR_at]; exact ⟨rfl, rfl⟩
        · rw [updR_ne _ _ e]; exact HRR.out j (by omega)
      clear hn hp5 hn2 rx fx k5
      go_wp2_with fail
      go_roundw
      case rel => exact ⟨i + 1, _, by omega, by go_num, HN2.out, HP2.out, HR2.out⟩
      case measure => simp [intOf]; omega
    · have hi4 : i = 3 := by omega
      have HI : Hid (HopI3 w1 wr gr g s M R) := ⟨hi4 ▸ HN.out, hi4 ▸ HP.out, Hop3.start (hi4 ▸ HRR.out)⟩
      have HZ0 : Hid (((R 0).L 2).length = 0 ∧ ZeroFrom g 0 ((R 0).L 2)) := by
        have h := (HRR.out 0 (by omega)).2
        show _ ∧ _
        rw [h]; exact ⟨rfl, ZeroFrom.nil g 0⟩
      have e1 : ¬ (i : Int) < 3 := by omega
      have e2 : decide ((i : Int) < 3) = false := decide_eq_false e1
      clear HN HP HRR hi4 hi hlt
      go_wp2_with fail
      clear e1 e2
      go_loopw [14] (fun iv wr => ∃ (i : Nat) (R : Nat → RelS), i ≤ g ∧ iv = .int .i64 (i : Int) ∧ HopI3 w1 wr gr g s M R ∧ ((R 0).L 2).length = i ∧ ZeroFrom g i ((R 0).L 2)) (fun iv _ => g - (intOf iv).toNat)
      case atStart => exact ⟨0, R, by omega, rfl, HI.out, HZ0.out.1, HZ0.out.2⟩
      case round =>
        clear HI HZ0
        obtain ⟨i, R, hi, rfl, hI, hz1, hz2⟩ := hrel
        have HI := Lib.hid hI
        have HZ := Lib.hid (And.intro hz1 hz2)
        clear hI hz1 hz2
        have e0 : (0 : Int) ≤ (i : Int) := Int.natCast_nonneg _
        by_cases hlt : i < g
        · have e1 : (i : Int) < (g : Int) := by omega
          as_aux_lemma =>
            have hun := vunit_in g i hlt (by omega) wr
            have HUN := Lib.hid hun
            clear hun
            go_wp2_with fail
            refine HUN.out.mono ?_
            rintro e w5 ⟨A5, n5, c5, rfl, o5, k5⟩
            obtain rfl : g = n5 := by rw [← o5.length]; exact (tab_length _ _).symm
            have HI5 := Lib.hid (HI.out.later k5)
            have HM5 := Lib.hid (MM.out.keep HI5.out.n.keep)
            obtain ⟨b, off, Ay, cy, rfl, hbl, hcy, hby, hcc, -⟩ := HM5.out.row_at sM.out hlt
            obtain ⟨b', off', Ay', cy', e1', hbl', -, -, -, -⟩ := MM.out.row_at sM.out hlt
            have HBW : Hid (b < w1.heap.size) := by
              have e2 : b' = b := by injection e1' with e2; injection e2 with e3; exact e3.symm
              show b < _
              omega
            have HO5 := Lib.hid (And.intro o5 hby)
            have HCC : Hid (g ≤ c5 ∧ s ≤ cy) := ⟨own_le' o5, hcc⟩
            have htr := true_row3 sM.out (x := vUnit g i) (tab_length _ _) o5.2
            rw [unit_row sM.out hlt] at htr
            have HTT := Lib.hid htr
            obtain ⟨B, hB⟩ : ∃ B, (R 0).L 2 = B := ⟨_, rfl⟩
            have hbas := And.intro (HI.out.h.bas 0 (by omega)) (HI.out.h.w 0 (by omega))
            rw [hB] at hbas
            have HBA := Lib.hid hbas
            have hnew : ¬ inB g s B (vUnit g i ++ M.getD i []) := unit_new hbas.1 (hB ▸ HZ.out.2) htr.1 htr.2.1 hlt (by
              have e1 : (vUnit g i ++ M.getD i []).getD i 0 = (vUnit g i).getD i 0 := by simp [List.getD, List.getElem?_append_left (show i < (vUnit g i).length by rw [vUnit, tab_length]; exact hlt)]
              rw [e1, unit_getD g i i hlt, if_pos rfl]; decide)
            have hstep : ZeroFrom g (i + 1) (insB g s B (vUnit g i ++ M.getD i [])) := zero_step hbas.1 hbas.2 (hB ▸ HZ.out.2) htr.1 htr.2.1 htr.2.2 fun j h1 h2 => by
              have e1 : (vUnit g i ++ M.getD i []).getD j 0 = (vUnit g i).getD j 0 := by simp [List.getD, List.getElem?_append_left (show j < (vUnit g i).length by rw [vUnit, tab_length]; exact h2)]
              rw [e1, unit_getD g i j h2, if_neg (by omega)]
            have hlen : (insB g s B (vUnit g i ++ M.getD i [])).length = i + 1 := by
              rw [insB_len, if_neg hnew]
              have := HZ.out.1
              rw [hB] at this
              omega
            have HST := Lib.hid (And.intro hlen hstep)
            obtain ⟨px, hpx0⟩ : ∃ p, (R 0).p = p := ⟨_, rfl⟩
            have hpx := HI5.out.at_ (i := 0) (by omega)
            rw [hpx0] at hpx
            have HPX := Lib.hid hpx0
            have HB := Lib.hid hB
            have htk := fun (w' : World) (kw : Keep w5 w') => rl_take_in (HPX.out ▸ (HI5.out.later kw).rel (i := 0) (by omega)) 2 (by decide) (by decide) _ _ c5 cy A5 Ay _ _ HCC.out.1 HCC.out.2 (HO5.out.1.bytes.keep (Nat.le_refl _) kw) (HO5.out.2.keep (Nat.le_refl _) kw) kw.size kw.size
            rw [HB.out, decide_eq_false hnew, ← HB.out] at htk
            simp only [Bool.not_false] at htk
            have HTK := Lib.hid htk
            clear o5 k5 hbl hby hcc e1' hbl' htr hB hbas hnew hstep hlen hpx0 htk HUN
            go_upto_region 15 with fail
            refine wp_region_noPanic ?_
            refine wp_region_held_drew (S := fun wz => wz.cell? ⟨gr, 0, none⟩ = some (.pointer (some ⟨px, 0, none⟩)) ∧ wz.cell? ⟨b, off + i, none⟩ = some (.slice Ay s cy)) (by kernel_rfl) ⟨hpx, hcy⟩ (fun hHeld => ?_)
            refine wpAnyH_take (i := 0) (v := ?_) rfl (by kernel_rfl) (by kernel_rfl) (by kernel_rfl) (fun _ _ _ h => h) (Or.inl ⟨by kernel_rfl, ?_⟩) hHeld ?_
            rotate_left
            · intro wq hSw
              go_simp
              all_goals with_reducible rfl
            try simp only [Act.put, List.getElem_toArray, List.getElem_cons_succ, List.getElem_cons_zero, List.setIfInBounds_toArray, List.set_cons_zero, List.set_cons_succ]
            refine wpAnyH_take (i := 1) (v := ?_) rfl (by kernel_rfl) (by kernel_rfl) (by kernel_rfl) (fun _ _ _ h => h) (Or.inl ⟨by kernel_rfl, ?_⟩) hHeld ?_
            rotate_left
            · intro wq hSw
              have q0 := hSw.1
              go_simp
              all_goals with_reducible rfl
            try simp only [Act.put, List.getElem_toArray, List.getElem_cons_succ, List.getElem_cons_zero, List.setIfInBounds_toArray, List.set_cons_zero, List.set_cons_succ]
            refine wpAnyH_take (i := 2) (v := ?_) rfl (by kernel_rfl) (by kernel_rfl) (by kernel_rfl) (fun _ _ _ h => h) (Or.inl ⟨by kernel_rfl, ?_⟩) hHeld ?_
            rotate_left
            · intro wq hSw
              go_simp
              all_goals with_reducible rfl
            try simp only [Act.put, List.getElem_toArray, List.getElem_cons_succ, List.getElem_cons_zero, List.setIfInBounds_toArray, List.set_cons_zero, List.set_cons_succ]
            refine wpAnyH_take (i := 3) (v := ?_) rfl (by kernel_rfl) (by kernel_rfl) (by kernel_rfl) (fun _ _ _ h => h) (Or.inl ⟨by kernel_rfl, ?_⟩) hHeld ?_
            rotate_left
            · intro wq hSw
              go_simp
              all_goals with_reducible rfl
            try simp only [Act.put, List.getElem_toArray, List.getElem_cons_succ, List.getElem_cons_zero, List.setIfInBounds_toArray, List.set_cons_zero, List.set_cons_succ]
            refine wpAnyH_take (i := 4) (v := ?_) rfl (by kernel_rfl) (by kernel_rfl) (by kernel_rfl) (fun _ _ _ h => h) (Or.inl ⟨by kernel_rfl, ?_⟩) hHeld ?_
            rotate_left
            · intro wq hSw
              go_simp
              all_goals with_reducible rfl
            try simp only [Act.put, List.getElem_toArray, List.getElem_cons_succ, List.getElem_cons_zero, List.setIfInBounds_toArray, List.set_cons_zero, List.set_cons_succ]
            refine wpAnyH_take (i := 5) (v := ?_) rfl (by kernel_rfl) (by kernel_rfl) (by kernel_rfl) (fun _ _ _ h => h) (Or.inl ⟨by kernel_rfl, ?_⟩) hHeld ?_
            rotate_left
            · intro wq hSw
              go_simp
              all_goals with_reducible rfl
            try simp only [Act.put, List.getElem_toArray, List.getElem_cons_succ, List.getElem_cons_zero, List.setIfInBounds_toArray, List.set_cons_zero, List.set_cons_succ]
            refine wpAnyH_take (i := 6) (v := ?_) rfl (by kernel_rfl) (by kernel_rfl) (by kernel_rfl) (fun _ _ _ h => h) (Or.inl ⟨by kernel_rfl, ?_⟩) hHeld ?_
            rotate_left
            · intro wq hSw
              have q0 := hSw.2
              go_simp
              all_goals with_reducible rfl
            try simp only [Act.put, List.getElem_toArray, List.getElem_cons_succ, List.getElem_cons_zero, List.setIfInBounds_toArray, List.set_cons_zero, List.set_cons_succ]
            refine wpAnyH_take (i := 7) (v := ?_) rfl (by kernel_rfl) (by kernel_rfl) (by kernel_rfl) (fun _ _ _ h => h) (Or.inl ⟨by kernel_rfl, ?_⟩) hHeld ?_
            rotate_left
            · intro wq hSw
              go_simp
              all_goals with_reducible rfl
            try simp only [Act.put, List.getElem_toArray, List.getElem_cons_succ, List.getElem_cons_zero, List.setIfInBounds_toArray, List.set_cons_zero, List.set_cons_succ]
            refine wpAnyH_ready (rs := [8]) (by kernel_rfl) (by simp) ?_
            refine AllReadyH.cons rfl (fun K hK => ?_) AllReadyH.nil
            go_simp
            refine (HTK.out _ (Keep.drew (Keep.refl _))).mono ?_
            rintro e w8 ⟨rfl, F8, r8, f8, t8⟩
            have h8 := (HI5.out.later (Keep.drew (Keep.refl _))).put (i := 0) (by omega) (by rw [HPX.out]; exact r8) f8 t8 HTT.out.1 HTT.out.2.1 HTT.out.2.2 (fun j e => by omega)
            obtain ⟨R8, hI8, hP8, hL8, -⟩ := h8
            have HI8 := Lib.hid hI8
            have HL8 := Lib.hid hL8
            have hq8 : w8.cell? ⟨gr, 0, none⟩ = some (.pointer (some ⟨px, 0, none⟩)) ∧ w8.cell? ⟨b, off + i, none⟩ = some (.slice Ay s cy) := ⟨by rw [hI8.at_ (i := 0) (by omega), hP8, HPX.out], t8.cell (w := w5.drew) hcy fun e => by have : w1.heap.size ≤ b := HI5.out.n.lo 0 (by omega) _ e; have := HBW.out; omega⟩
            clear r8 f8 t8 hI8 hP8 hL8 HTK
            refine hK.out _ _ hq8 (fun hHeld => ?_)
            clear hK K
            try simp only [Act.put, List.getElem_toArray, List.getElem_cons_succ, List.getElem_cons_zero, List.setIfInBounds_toArray, List.set_cons_zero, List.set_cons_succ]
            refine wpAnyH_take (i := 9) (v := ?_) rfl (by kernel_rfl) (by kernel_rfl) (by kernel_rfl) (fun _ _ _ h => h) (Or.inl ⟨by kernel_rfl, ?_⟩) hHeld ?_
            rotate_left
            · intro wq hSw
              go_simp
              all_goals with_reducible rfl
            try simp only [Act.put, List.getElem_toArray, List.getElem_cons_succ, List.getElem_cons_zero, List.setIfInBounds_toArray, List.set_cons_zero, List.set_cons_succ]
            refine wpAnyH_take (i := 10) (v := ?_) rfl (by kernel_rfl) (by kernel_rfl) (by kernel_rfl) (fun _ _ _ h => h) (Or.inl ⟨by kernel_rfl, ?_⟩) hHeld ?_
            rotate_left
            · intro wq hSw
              go_simp
              all_goals with_reducible rfl
            try simp only [Act.put, List.getElem_toArray, List.getElem_cons_succ, List.getElem_cons_zero, List.setIfInBounds_toArray, List.set_cons_zero, List.set_cons_succ]
            refine wpAnyH_take (i := 11) (v := ?_) rfl (by kernel_rfl) (by kernel_rfl) (by kernel_rfl) (fun _ _ _ h => h) (Or.inl ⟨by kernel_rfl, ?_⟩) hHeld ?_
            rotate_left
            · intro wq hSw
              go_simp
              all_goals with_reducible rfl
            try simp only [Act.put, List.getElem_toArray, List.getElem_cons_succ, List.getElem_cons_zero, List.setIfInBounds_toArray, List.set_cons_zero, List.set_cons_succ]
            refine wpAnyH_take (i := 12) (v := ?_) rfl (by kernel_rfl) (by kernel_rfl) (by kernel_rfl) (fun _ _ _ h => h) (Or.inl ⟨by kernel_rfl, ?_⟩) hHeld ?_
            rotate_left
            · intro wq hSw
              go_simp
              all_goals with_reducible rfl
            try simp only [Act.put, List.getElem_toArray, List.getElem_cons_succ, List.getElem_cons_zero, List.setIfInBounds_toArray, List.set_cons_zero, List.set_cons_succ]
            refine wpAnyH_take (i := 13) (v := ?_) rfl (by kernel_rfl) (by kernel_rfl) (by kernel_rfl) (fun _ _ _ h => h) (Or.inl ⟨by kernel_rfl, ?_⟩) hHeld ?_
            rotate_left
            · intro wq hSw
              go_simp
              all_goals with_reducible rfl
            try simp only [Act.put, List.getElem_toArray, List.getElem_cons_succ, List.getElem_cons_zero, List.setIfInBounds_toArray, List.set_cons_zero, List.set_cons_succ]
            refine wpAnyH_done (by kernel_rfl) ?_ _
            refine NoPanic.normal ?_
            clear hHeld
            clear hq8 hpx hcy
            go_wp2_with fail
            go_roundw
            case rel => exact ⟨i + 1, R8, by omega, by go_num, HI8.out, by rw [HL8.out, HB.out]; exact HST.out.1, by rw [HL8.out, HB.out]; exact HST.out.2⟩
            case measure => simp [intOf]; omega
        · have hig : i = g := by omega
          have e1 : ¬ (i : Int) < (g : Int) := by omega
          have HG : Hid (((R 0).L 2).length = g) := HZ.out.1.trans hig
          clear HZ hig hi hlt
          go_wp2_with fail
          clear e1
          go_loopw [19, 20] (fun sv iv wr => ∃ (i sq : Nat) (R : Nat → RelS), i ≤ n3 ∧ i ≤ 60 ∧ sv = .int .u64 (sq : Int) ∧ sq ≤ i ∧ iv = .int .i64 (i : Int) ∧ HopI3 w1 wr gr g s M R ∧ ((R 0).L 2).length = g) (fun _ iv _ => n3 - (intOf iv).toNat)
          case atStart => exact ⟨0, 0, R, by omega, by omega, rfl, by omega, rfl, HI.out, HG.out⟩
          case round =>
            clear HI HG
            obtain ⟨i, sq, R, hi, hi60, rfl, hsq, rfl, hI, hL⟩ := hrel
            have HI := Lib.hid hI
            have HL := Lib.hid hL
            clear hI hL
            have e0 : (0 : Int) ≤ (i : Int) := Int.natCast_nonneg _
            go_upto_region 20 with fail
            go_cut [106] from 99 to 268 (fun v wx => ∃ q : Bool, v = .bool q ∧ wx = wr ∧ (q = true → i < n3 ∧ i < 60))
            case first =>
              by_cases f1 : i < n3
              · have f1' : decide ((i : Int) < (n3 : Int)) = true := decide_eq_true (by omega)
                have f1'' : (i : Int) < (n3 : Int) := by omega
                by_cases f3 : i < 60
                · have f3' : decide ((i : Int) < 60) = true := decide_eq_true (by omega)
                  have f3'' : decide (i < 60) = true := decide_eq_true f3
                  go_wp2_with fail
                  go_meet
                  case rel => exact ⟨true, rfl, rfl, fun _ => ⟨f1, f3⟩⟩
                · have f3' : decide ((i : Int) < 60) = false := decide_eq_false (by omega)
                  have f3'' : decide (i < 60) = false := decide_eq_false f3
                  go_wp2_with fail
                  go_meet
                  case rel => exact ⟨false, rfl, rfl, fun e => by cases e⟩
              · have f1' : decide ((i : Int) < (n3 : Int)) = false := decide_eq_false (by omega)
                have f1'' : ¬ (i : Int) < (n3 : Int) := by omega
                go_wp2_with fail
                go_meet
                case rel => exact ⟨false, rfl, rfl, fun e => by cases e⟩
            case rest =>
              obtain ⟨qz, rfl, rfl, hqz⟩ := hcut
              cases qz with
              | true =>
                obtain ⟨f1, f3⟩ := hqz rfl
                clear hqz
                obtain ⟨wo, rfl⟩ : ∃ wo, wo = wc := ⟨_, rfl⟩
                have f1'' : (i : Int) < (n3 : Int) := by omega
                have HKW := Lib.hid (K1.out.trans HI.out.n.keep)
                obtain ⟨b3, off3, a, rfl, hb3, hc, hby, hsrc, hat, htn⟩ := H3.out.one HKW.out f1
                obtain ⟨src, ⟨Ay, ny, cy, xy⟩, at7, turn⟩ := a
                simp only at hby hsrc hat htn
                have HC : Hid (∀ wx, Keep w wx → wx.cell? ⟨b3, off3 + i * 4, none⟩ = some (.int .u8 (src : Int)) ∧ wx.cell? ⟨b3, off3 + i * 4 + 1, none⟩ = some (.slice Ay ny cy) ∧ wx.cell? ⟨b3, off3 + i * 4 + 2, none⟩ = some (.int .u16 (at7 : Int)) ∧ wx.cell? ⟨b3, off3 + i * 4 + 3, none⟩ = some (.int .u32 (turn : Int))) := hc
                have HBY := Lib.hid hby
                have HB3 : Hid (b3 < w.heap.size) := hb3
                have HAT : Hid (at7 < 65536 ∧ turn < 4294967296) := ⟨hat, htn⟩
                obtain ⟨q, hq⟩ : ∃ q, src % 2 = q := ⟨_, rfl⟩
                obtain ⟨m, hm⟩ : ∃ m, q + 1 = m := ⟨_, rfl⟩
                have u1 : bits .and .u8 (src : Int) 1 = (q : Int) := by rw [show (1 : Int) = ((1 : Nat) : Int) from rfl, u8_and_nat _ 1 hsrc (by decide), Nat.and_one_is_mod, hq]
                have hq2 : q < 2 := by omega
                have u2 : IntKind.i64.wrap (q : Int) = (q : Int) := IntWalk.i64_in _ (by omega)
                have x0 : (0 : Int) ≤ (q : Int) := Int.natCast_nonneg _
                have x1 : (q : Int) < 3 := by omega
                have y0 : (0 : Int) ≤ (m : Int) := Int.natCast_nonneg _
                have y1 : (m : Int) < 3 := by omega
                have y2 : (q : Int) + 1 = (m : Int) := by omega
                have y3 : IntKind.i64.wrap (m : Int) = (m : Int) := IntWalk.i64_in _ (by omega)
                have y4 : IntKind.i64.wrap ((q : Int) + 1) = (m : Int) := by rw [y2]; exact y3
                have c0 := (hc wo HKW.out).1
                have hcy := (hc wo HKW.out).2.1
                simp only at c0 hcy
                obtain ⟨pq, hpq0⟩ : ∃ p, (R q).p = p := ⟨_, rfl⟩
                obtain ⟨B, hB⟩ : ∃ B, (R q).L 2 = B := ⟨_, rfl⟩
                have hpq := HI.out.at_ (i := q) (by omega)
                have hbas := And.intro (HI.out.h.bas q (by omega)) (HI.out.h.w q (by omega))
                have hrel := HI.out.rel (i := q) (by omega)
                rw [hpq0] at hpq hrel
                rw [hB] at hbas
                obtain ⟨z, hz⟩ : ∃ z, B.length = z := ⟨_, rfl⟩
                have HPQ := Lib.hid hpq0
                have HB := Lib.hid hB
                have HBA := Lib.hid hbas
                have HREL := Lib.hid hrel
                have HZ := Lib.hid hz
                have HQM : Hid (q + 1 = m) := hm
                have HQ0 : Hid (z = 0 → q = 1) := fun h => by
                  by_cases e : q = 0
                  · subst e
                    have := HL.out
                    rw [hB, hz] at this
                    omega
                  · omega
                have hsend : ∃ (cs ps : List Nat) (er : Int), (∀ wx, Keep wo wx → Calls Tryz.prog 8 #[.pointer (some ⟨pq, 0, none⟩), .int .u64 2, .int .u64 (sq : Int), .slice Ay ny cy] wx (NewRow wx cs ps er)) ∧ ((er = 6 ∧ z = 0) ∨ (er = 0 ∧ z ≠ 0 ∧ ∃ snd, cs = snd.take g ∧ ps = snd.drop g ∧ (snd.length = g + s ∧ AllB snd ∧ InSpan B.length (fn B) (vec snd)) ∧ InSpan g (symR g M) (vec snd))) := by
                  by_cases hz0 : z = 0
                  · exact ⟨[], [], 6, fun wx kx => rl_send_none (m := ny) (cb := cy) (Ab := Ay) (HREL.out.keep kx) 2 sq (by decide) (by decide) (by rw [HB.out, HZ.out]; exact hz0), Or.inl ⟨rfl, hz0⟩⟩
                  · refine ⟨_, _, 0, fun wx kx => ?_, Or.inr ⟨rfl, hz0, sendN g s B sq xy, rfl, rfl, send_in HBA.out.1 HBY.out.1.2.1, (send_sym sM.out HBA.out.1 HBA.out.2 HBY.out.1.2.1).1⟩⟩
                    have h := rl_send_in (cb := cy) (HREL.out.keep kx) 2 sq (by decide) (by omega) (by decide) (by rw [HB.out, HZ.out]; exact hz0) (HBY.out.1.keep HKW.out.size kx) (Nat.le_trans HKW.out.size kx.size)
                    rw [HB.out] at h
                    exact h
                obtain ⟨cs, ps, er, hsd, her⟩ := hsend
                have HSD := Lib.hid hsd
                have HER := Lib.hid her
                have HGL : Hid (gr < wo.heap.size) := HI.out.pt.lt
                clear hc hby hb3 hsrc hat htn hq hm hpq0 hB hbas hrel hz hsd her
                go_upto_region 23 with fail
                clear c0 u1 u2
                go_cut [22, 23] from 99 to 268 (fun v22 v23 wx => ∃ (gB : Nat) (A8 : Option Addr) (n8 c8 : Nat) (A9 : Option Addr) (n9 c9 : Nat), v22 = .pointer (some ⟨gB, 0, none⟩) ∧ v23 = .int .i64 er ∧ wx.heap[gB]? = some (.cells #[.slice A8 n8 c8, .slice A9 n9 c9] 38 (0, 0)) ∧ Own wx wo.heap.size 5 A8 n8 c8 cs ∧ Own wx wo.heap.size 5 A9 n9 c9 ps ∧ wo.heap.size ≤ gB ∧ Keep wo wx)
                case first =>
                  as_aux_lemma =>
                    go_wp2_with fail
                    refine wp_region_noPanic ?_
                    refine wp_region_held_drew (S := fun wz => wz.cell? ⟨gr, q, none⟩ = some (.pointer (some ⟨pq, 0, none⟩)) ∧ wz.cell? ⟨b3, off3 + i * 4 + 1, none⟩ = some (.slice Ay ny cy)) (by kernel_rfl) ⟨hpq, hcy⟩ (fun hHeld => ?_)
                    refine wpAnyH_take (i := 0) (v := ?_) rfl (by kernel_rfl) (by kernel_rfl) (by kernel_rfl) (fun _ _ _ h => h) (Or.inl ⟨by kernel_rfl, ?_⟩) hHeld ?_
                    rotate_left
                    · intro wq hSw
                      go_simp
                      all_goals with_reducible rfl
                    try simp only [Act.put, List.getElem_toArray, List.getElem_cons_succ, List.getElem_cons_zero, List.setIfInBounds_toArray, List.set_cons_zero, List.set_cons_succ]
                    refine wpAnyH_take (i := 1) (v := ?_) rfl (by kernel_rfl) (by kernel_rfl) (by kernel_rfl) (fun _ _ _ h => h) (Or.inl ⟨by kernel_rfl, ?_⟩) hHeld ?_
                    rotate_left
                    · intro wq hSw
                      go_simp
                      all_goals with_reducible rfl
                    try simp only [Act.put, List.getElem_toArray, List.getElem_cons_succ, List.getElem_cons_zero, List.setIfInBounds_toArray, List.set_cons_zero, List.set_cons_succ]
                    refine wpAnyH_take (i := 2) (v := ?_) rfl (by kernel_rfl) (by kernel_rfl) (by kernel_rfl) (fun _ _ _ h => h) (Or.inl ⟨by kernel_rfl, ?_⟩) hHeld ?_
                    rotate_left
                    · intro wq hSw
                      have q0 := hSw.1
                      go_simp
                      all_goals with_reducible rfl
                    try simp only [Act.put, List.getElem_toArray, List.getElem_cons_succ, List.getElem_cons_zero, List.setIfInBounds_toArray, List.set_cons_zero, List.set_cons_succ]
                    refine wpAnyH_take (i := 3) (v := ?_) rfl (by kernel_rfl) (by kernel_rfl) (by kernel_rfl) (fun _ _ _ h => h) (Or.inl ⟨by kernel_rfl, ?_⟩) hHeld ?_
                    rotate_left
                    · intro wq hSw
                      go_simp
                      all_goals with_reducible rfl
                    try simp only [Act.put, List.getElem_toArray, List.getElem_cons_succ, List.getElem_cons_zero, List.setIfInBounds_toArray, List.set_cons_zero, List.set_cons_succ]
                    refine wpAnyH_take (i := 4) (v := ?_) rfl (by kernel_rfl) (by kernel_rfl) (by kernel_rfl) (fun _ _ _ h => h) (Or.inl ⟨by kernel_rfl, ?_⟩) hHeld ?_
                    rotate_left
                    · intro wq hSw
                      go_simp
                      all_goals with_reducible rfl
                    try simp only [Act.put, List.getElem_toArray, List.getElem_cons_succ, List.getElem_cons_zero, List.setIfInBounds_toArray, List.set_cons_zero, List.set_cons_succ]
                    refine wpAnyH_take (i := 5) (v := ?_) rfl (by kernel_rfl) (by kernel_rfl) (by kernel_rfl) (fun _ _ _ h => h) (Or.inl ⟨by kernel_rfl, ?_⟩) hHeld ?_
                    rotate_left
                    · intro wq hSw
                      go_simp
                      all_goals with_reducible rfl
                    try simp only [Act.put, List.getElem_toArray, List.getElem_cons_succ, List.getElem_cons_zero, List.setIfInBounds_toArray, List.set_cons_zero, List.set_cons_succ]
                    refine wpAnyH_take (i := 6) (v := ?_) rfl (by kernel_rfl) (by kernel_rfl) (by kernel_rfl) (fun _ _ _ h => h) (Or.inl ⟨by kernel_rfl, ?_⟩) hHeld ?_
                    rotate_left
                    · intro wq hSw
                      go_simp
                      all_goals with_reducible rfl
                    try simp only [Act.put, List.getElem_toArray, List.getElem_cons_succ, List.getElem_cons_zero, List.setIfInBounds_toArray, List.set_cons_zero, List.set_cons_succ]
                    refine wpAnyH_take (i := 7) (v := ?_) rfl (by kernel_rfl) (by kernel_rfl) (by kernel_rfl) (fun _ _ _ h => h) (Or.inl ⟨by kernel_rfl, ?_⟩) hHeld ?_
                    rotate_left
                    · intro wq hSw
                      go_simp
                      all_goals with_reducible rfl
                    try simp only [Act.put, List.getElem_toArray, List.getElem_cons_succ, List.getElem_cons_zero, List.setIfInBounds_toArray, List.set_cons_zero, List.set_cons_succ]
                    refine wpAnyH_take (i := 8) (v := ?_) rfl (by kernel_rfl) (by kernel_rfl) (by kernel_rfl) (fun _ _ _ h => h) (Or.inl ⟨by kernel_rfl, ?_⟩) hHeld ?_
                    rotate_left
                    · intro wq hSw
                      have q0 := hSw.2
                      go_simp
                      all_goals with_reducible rfl
                    try simp only [Act.put, List.getElem_toArray, List.getElem_cons_succ, List.getElem_cons_zero, List.setIfInBounds_toArray, List.set_cons_zero, List.set_cons_succ]
                    refine wpAnyH_ready (rs := [9, 13]) (by kernel_rfl) (by simp) ?_
                    refine AllReadyH.cons rfl (fun K hK => ?_) (AllReadyH.cons rfl (fun K hK => ?_) AllReadyH.nil)
                    · go_simp
                      refine (HSD.out _ (Keep.drew (Keep.refl _))).mono ?_
                      rintro e w9 ⟨A8, n8, c8, A9, n9, c9, rfl, o8, o9, k9⟩
                      have K9 : Hid (Keep wo w9) := (Keep.drew (Keep.refl wo)).trans k9
                      have HO9 := Lib.hid (And.intro (o8.lower (base' := wo.heap.size) (Nat.le_refl _)) (o9.lower (base' := wo.heap.size) (Nat.le_refl _)))
                      have hq9 : w9.cell? ⟨gr, q, none⟩ = some (.pointer (some ⟨pq, 0, none⟩)) ∧ w9.cell? ⟨b3, off3 + i * 4 + 1, none⟩ = some (.slice Ay ny cy) := ⟨(World.cell?_of_block (K9.out.block _ HGL.out)).trans hpq, (HC.out w9 (HKW.out.trans K9.out)).2.1⟩
                      clear o8 o9 k9
                      refine hK.out _ _ hq9 (fun hHeld => ?_)
                      clear hK K
                      try simp only [Act.put, List.getElem_toArray, List.getElem_cons_succ, List.getElem_cons_zero, List.setIfInBounds_toArray, List.set_cons_zero, List.set_cons_succ]
                      refine wpAnyH_take (i := 10) (v := ?_) rfl (by kernel_rfl) (by kernel_rfl) (by kernel_rfl) (fun _ _ _ h => h) (Or.inl ⟨by kernel_rfl, ?_⟩) hHeld ?_
                      rotate_left
                      · intro wq hSw
                        go_simp
                        all_goals with_reducible rfl
                      try simp only [Act.put, List.getElem_toArray, List.getElem_cons_succ, List.getElem_cons_zero, List.setIfInBounds_toArray, List.set_cons_zero, List.set_cons_succ]
                      refine wpAnyH_take (i := 11) (v := ?_) rfl (by kernel_rfl) (by kernel_rfl) (by kernel_rfl) (fun _ _ _ h => h) (Or.inl ⟨by kernel_rfl, ?_⟩) hHeld ?_
                      rotate_left
                      · intro wq hSw
                        go_simp
                        all_goals with_reducible rfl
                      try simp only [Act.put, List.getElem_toArray, List.getElem_cons_succ, List.getElem_cons_zero, List.setIfInBounds_toArray, List.set_cons_zero, List.set_cons_succ]
                      refine wpAnyH_take (i := 12) (v := ?_) rfl (by kernel_rfl) (by kernel_rfl) (by kernel_rfl) (fun _ _ _ h => h) (Or.inl ⟨by kernel_rfl, ?_⟩) hHeld ?_
                      rotate_left
                      · intro wq hSw
                        go_simp
                        all_goals with_reducible rfl
                      try simp only [Act.put, List.getElem_toArray, List.getElem_cons_succ, List.getElem_cons_zero, List.setIfInBounds_toArray, List.set_cons_zero, List.set_cons_succ]
                      refine wpAnyH_ready (rs := [13]) (by kernel_rfl) (by simp) ?_
                      refine AllReadyH.cons rfl (fun K hK => ?_) AllReadyH.nil
                      go_simp
                      have hqa : (w9.alloc (.cells #[.slice none 0 0, .slice none 0 0] 38)).cell? ⟨gr, q, none⟩ = some (.pointer (some ⟨pq, 0, none⟩)) ∧ (w9.alloc (.cells #[.slice none 0 0, .slice none 0 0] 38)).cell? ⟨b3, off3 + i * 4 + 1, none⟩ = some (.slice Ay ny cy) := ⟨(World.cell?_of_block (((Keep.refl w9).alloc _ _).block _ (Nat.lt_of_lt_of_le HGL.out K9.out.size))).trans hq9.1, (HC.out _ (HKW.out.trans (K9.out.trans ((Keep.refl w9).alloc _ _)))).2.1⟩
                      refine hK.out _ _ hqa (fun hHeld => ?_)
                      clear hK K
                      try simp only [Act.put, List.getElem_toArray, List.getElem_cons_succ, List.getElem_cons_zero, List.setIfInBounds_toArray, List.set_cons_zero, List.set_cons_succ]
                      obtain ⟨wa, hwa⟩ : ∃ v, w9.alloc (.cells #[.slice none 0 0, .slice none 0 0] 38) = v := ⟨_, rfl⟩
                      obtain ⟨gB, hgB⟩ : ∃ v, w9.heap.size = v := ⟨_, rfl⟩
                      have hbB : wa.heap[gB]? = some (.cells #[.slice none 0 0, .slice none 0 0] 38 (0, 0)) := by rw [← hwa, ← hgB]; exact heap_alloc_new _ _
                      have kka : Keep w9 wa := by rw [← hwa]; exact (Keep.refl w9).alloc _ _
                      have HGB : Hid (wo.heap.size ≤ gB) := by show _ ≤ _; rw [← hgB]; exact K9.out.size
                      have HFAR : Hid ((∀ x, (Value.slice A8 n8 c8).ownBlock = some x → x ≠ gB) ∧ ∀ x, (Value.slice A9 n9 c9).ownBlock = some x → x ≠ gB) := ⟨fun x e => by have := (HO9.out.1.1.lt x e).2; omega, fun x e => by have := (HO9.out.2.1.lt x e).2; omega⟩
                      rw [hwa] at hHeld hqa ⊢
                      rw [hgB] at *
                      have y0 : wa.cell? ⟨gB, 0, none⟩ = some (.slice none 0 0) := cell_of_row _ _ _ _ _ _ hbB
                      have y1 : wa.cell? ⟨gB, 1, none⟩ = some (.slice none 0 0) := cell_of_row _ _ _ _ _ _ hbB
                      have z0 : wa.frozen? ⟨gB, 0, none⟩ = false := by simp [World.frozen?, hbB]
                      have z1 : wa.frozen? ⟨gB, 1, none⟩ = false := by simp [World.frozen?, hbB]
                      have ts : Turned (fun a => a = gB) wa ((wa.setCell ⟨gB, 0, none⟩ (.slice A8 n8 c8)).setCell ⟨gB, 1, none⟩ (.slice A9 n9 c9)) := (Turned.set (F := fun a => a = gB) wa ⟨gB, 0, none⟩ _ rfl).trans (Turned.set (F := fun a => a = gB) _ ⟨gB, 1, none⟩ _ rfl) fun j e => Or.inl e
                      have HTS := Lib.hid ts
                      have HBX := Lib.hid (bset (i := 1) (bset (i := 0) hbB (.slice A8 n8 c8)) (.slice A9 n9 c9))
                      have HS7 := Lib.hid (And.intro (ts.cell hqa.1 (by have h1 := HGL.out; have h2 := HGB.out; show ¬ gr = _; omega)) (ts.cell hqa.2 (by have h1 := HB3.out; have h2 := HGB.out; have h3 := HKW.out.size; show ¬ b3 = _; omega)))
                      have HOF : Hid (Own ((wa.setCell ⟨gB, 0, none⟩ (.slice A8 n8 c8)).setCell ⟨gB, 1, none⟩ (.slice A9 n9 c9)) wo.heap.size 5 A8 n8 c8 cs ∧ Own ((wa.setCell ⟨gB, 0, none⟩ (.slice A8 n8 c8)).setCell ⟨gB, 1, none⟩ (.slice A9 n9 c9)) wo.heap.size 5 A9 n9 c9 ps) := ⟨(HO9.out.1.keep kka).turned ts fun x e h => HFAR.out.1 x e h, (HO9.out.2.keep kka).turned ts fun x e h => HFAR.out.2 x e h⟩
                      have HKF : Hid (Keep wo ((wa.setCell ⟨gB, 0, none⟩ (.slice A8 n8 c8)).setCell ⟨gB, 1, none⟩ (.slice A9 n9 c9))) := ts.keep (K9.out.trans kka) fun x e => by rw [e]; exact HGB.out
                      clear ts hbB
                      refine wpAnyH_ready (rs := [14]) (by kernel_rfl) (by simp) ?_
                      refine AllReadyH.cons rfl (fun K hK => ?_) AllReadyH.nil
                      go_simp
                      refine hK.out _ _ HS7.out (fun hHeld => ?_)
                      clear hK K
                      try simp only [Act.put, List.getElem_toArray, List.getElem_cons_succ, List.getElem_cons_zero, List.setIfInBounds_toArray, List.set_cons_zero, List.set_cons_succ]
                      refine wpAnyH_take (i := 15) (v := ?_) rfl (by kernel_rfl) (by kernel_rfl) (by kernel_rfl) (fun _ _ _ h => h) (Or.inl ⟨by kernel_rfl, ?_⟩) hHeld ?_
                      rotate_left
                      · intro wq hSw
                        go_simp
                        all_goals with_reducible rfl
                      try simp only [Act.put, List.getElem_toArray, List.getElem_cons_succ, List.getElem_cons_zero, List.setIfInBounds_toArray, List.set_cons_zero, List.set_cons_succ]
                      refine wpAnyH_done (by kernel_rfl) ?_ _
                      refine NoPanic.normal ?_
                      clear hHeld
                      go_wp2_with fail
                      go_meet
                      case rel => exact ⟨gB, A8, n8, c8, A9, n9, c9, rfl, rfl, HBX.out, HOF.out.1, HOF.out.2, HGB.out, HKF.out⟩
                    · go_simp
                      have hqa : ((wo.alloc (.cells #[.slice none 0 0, .slice none 0 0] 38)).drew).cell? ⟨gr, q, none⟩ = some (.pointer (some ⟨pq, 0, none⟩)) ∧ ((wo.alloc (.cells #[.slice none 0 0, .slice none 0 0] 38)).drew).cell? ⟨b3, off3 + i * 4 + 1, none⟩ = some (.slice Ay ny cy) := ⟨(World.cell?_of_block ((Keep.drew ((Keep.refl wo).alloc _ _)).block _ HGL.out)).trans hpq, (HC.out _ (HKW.out.trans (Keep.drew ((Keep.refl wo).alloc _ _)))).2.1⟩
                      refine hK.out _ _ hqa (fun hHeld => ?_)
                      clear hK K
                      try simp only [Act.put, List.getElem_toArray, List.getElem_cons_succ, List.getElem_cons_zero, List.setIfInBounds_toArray, List.set_cons_zero, List.set_cons_succ]
                      obtain ⟨wx, hwx⟩ : ∃ v, (wo.alloc (.cells #[.slice none 0 0, .slice none 0 0] 38)).drew = v := ⟨_, rfl⟩
                      obtain ⟨gB, hgB⟩ : ∃ v, wo.heap.size = v := ⟨_, rfl⟩
                      have hbx : wx.heap[gB]? = some (.cells #[.slice none 0 0, .slice none 0 0] 38 (0, 0)) := by rw [← hwx, ← hgB]; exact heap_alloc_new wo _
                      have kkx : Keep wo wx := by rw [← hwx]; exact Keep.drew ((Keep.refl wo).alloc _ _)
                      have hsx : wx.heap.size = gB + 1 := by rw [← hwx, ← hgB]; simp
                      rw [hwx] at hHeld hqa ⊢
                      have HKX := Lib.hid kkx
                      refine wpAnyH_ready (rs := [9]) (by kernel_rfl) (by simp) ?_
                      refine AllReadyH.cons rfl (fun K hK => ?_) AllReadyH.nil
                      go_simp
                      refine (HSD.out wx HKX.out).mono ?_
                      rintro e wa ⟨A8, n8, c8, A9, n9, c9, rfl, o8, o9, kka⟩
                      have K9 : Hid (Keep wo wa) := HKX.out.trans kka
                      have hbB : wa.heap[gB]? = some (.cells #[.slice none 0 0, .slice none 0 0] 38 (0, 0)) := (kka.block gB (by omega)).trans hbx
                      have HGB : Hid (wo.heap.size ≤ gB) := Nat.le_of_eq hgB
                      have HFAR : Hid ((∀ x, (Value.slice A8 n8 c8).ownBlock = some x → x ≠ gB) ∧ ∀ x, (Value.slice A9 n9 c9).ownBlock = some x → x ≠ gB) := ⟨fun x e => by have := (o8.1.lt x e).1; omega, fun x e => by have := (o9.1.lt x e).1; omega⟩
                      have HO9 := Lib.hid (And.intro (o8.lower (base' := wo.heap.size) HKX.out.size) (o9.lower (base' := wo.heap.size) HKX.out.size))
                      have hq9 : wa.cell? ⟨gr, q, none⟩ = some (.pointer (some ⟨pq, 0, none⟩)) ∧ wa.cell? ⟨b3, off3 + i * 4 + 1, none⟩ = some (.slice Ay ny cy) := ⟨(World.cell?_of_block (K9.out.block _ HGL.out)).trans hpq, (HC.out wa (HKW.out.trans K9.out)).2.1⟩
                      clear o8 o9 hbx hsx
                      refine hK.out _ _ hq9 (fun hHeld => ?_)
                      clear hK K
                      try simp only [Act.put, List.getElem_toArray, List.getElem_cons_succ, List.getElem_cons_zero, List.setIfInBounds_toArray, List.set_cons_zero, List.set_cons_succ]
                      refine wpAnyH_take (i := 10) (v := ?_) rfl (by kernel_rfl) (by kernel_rfl) (by kernel_rfl) (fun _ _ _ h => h) (Or.inl ⟨by kernel_rfl, ?_⟩) hHeld ?_
                      rotate_left
                      · intro wq hSw
                        go_simp
                        all_goals with_reducible rfl
                      try simp only [Act.put, List.getElem_toArray, List.getElem_cons_succ, List.getElem_cons_zero, List.setIfInBounds_toArray, List.set_cons_zero, List.set_cons_succ]
                      refine wpAnyH_take (i := 11) (v := ?_) rfl (by kernel_rfl) (by kernel_rfl) (by kernel_rfl) (fun _ _ _ h => h) (Or.inl ⟨by kernel_rfl, ?_⟩) hHeld ?_
                      rotate_left
                      · intro wq hSw
                        go_simp
                        all_goals with_reducible rfl
                      try simp only [Act.put, List.getElem_toArray, List.getElem_cons_succ, List.getElem_cons_zero, List.setIfInBounds_toArray, List.set_cons_zero, List.set_cons_succ]
                      refine wpAnyH_take (i := 12) (v := ?_) rfl (by kernel_rfl) (by kernel_rfl) (by kernel_rfl) (fun _ _ _ h => h) (Or.inl ⟨by kernel_rfl, ?_⟩) hHeld ?_
                      rotate_left
                      · intro wq hSw
                        go_simp
                        all_goals with_reducible rfl
                      try simp only [Act.put, List.getElem_toArray, List.getElem_cons_succ, List.getElem_cons_zero, List.setIfInBounds_toArray, List.set_cons_zero, List.set_cons_succ]
                      have y0 : wa.cell? ⟨gB, 0, none⟩ = some (.slice none 0 0) := cell_of_row _ _ _ _ _ _ hbB
                      have y1 : wa.cell? ⟨gB, 1, none⟩ = some (.slice none 0 0) := cell_of_row _ _ _ _ _ _ hbB
                      have z0 : wa.frozen? ⟨gB, 0, none⟩ = false := by simp [World.frozen?, hbB]
                      have z1 : wa.frozen? ⟨gB, 1, none⟩ = false := by simp [World.frozen?, hbB]
                      have ts : Turned (fun a => a = gB) wa ((wa.setCell ⟨gB, 0, none⟩ (.slice A8 n8 c8)).setCell ⟨gB, 1, none⟩ (.slice A9 n9 c9)) := (Turned.set (F := fun a => a = gB) wa ⟨gB, 0, none⟩ _ rfl).trans (Turned.set (F := fun a => a = gB) _ ⟨gB, 1, none⟩ _ rfl) fun j e => Or.inl e
                      have HTS := Lib.hid ts
                      have HBX := Lib.hid (bset (i := 1) (bset (i := 0) hbB (.slice A8 n8 c8)) (.slice A9 n9 c9))
                      have HS7 := Lib.hid (And.intro (ts.cell hq9.1 (by have h1 := HGL.out; have h2 := HGB.out; show ¬ gr = _; omega)) (ts.cell hq9.2 (by have h1 := HB3.out; have h2 := HGB.out; have h3 := HKW.out.size; show ¬ b3 = _; omega)))
                      have HOF : Hid (Own ((wa.setCell ⟨gB, 0, none⟩ (.slice A8 n8 c8)).setCell ⟨gB, 1, none⟩ (.slice A9 n9 c9)) wo.heap.size 5 A8 n8 c8 cs ∧ Own ((wa.setCell ⟨gB, 0, none⟩ (.slice A8 n8 c8)).setCell ⟨gB, 1, none⟩ (.slice A9 n9 c9)) wo.heap.size 5 A9 n9 c9 ps) := ⟨(HO9.out.1).turned ts fun x e h => HFAR.out.1 x e h, (HO9.out.2).turned ts fun x e h => HFAR.out.2 x e h⟩
                      have HKF : Hid (Keep wo ((wa.setCell ⟨gB, 0, none⟩ (.slice A8 n8 c8)).setCell ⟨gB, 1, none⟩ (.slice A9 n9 c9))) := ts.keep K9.out fun x e => by rw [e]; exact HGB.out
                      clear ts hbB
                      refine wpAnyH_ready (rs := [14]) (by kernel_rfl) (by simp) ?_
                      refine AllReadyH.cons rfl (fun K hK => ?_) AllReadyH.nil
                      go_simp
                      refine hK.out _ _ HS7.out (fun hHeld => ?_)
                      clear hK K
                      try simp only [Act.put, List.getElem_toArray, List.getElem_cons_succ, List.getElem_cons_zero, List.setIfInBounds_toArray, List.set_cons_zero, List.set_cons_succ]
                      refine wpAnyH_take (i := 15) (v := ?_) rfl (by kernel_rfl) (by kernel_rfl) (by kernel_rfl) (fun _ _ _ h => h) (Or.inl ⟨by kernel_rfl, ?_⟩) hHeld ?_
                      rotate_left
                      · intro wq hSw
                        go_simp
                        all_goals with_reducible rfl
                      try simp only [Act.put, List.getElem_toArray, List.getElem_cons_succ, List.getElem_cons_zero, List.setIfInBounds_toArray, List.set_cons_zero, List.set_cons_succ]
                      refine wpAnyH_done (by kernel_rfl) ?_ _
                      refine NoPanic.normal ?_
                      clear hHeld
                      go_wp2_with fail
                      go_meet
                      case rel => exact ⟨gB, A8, n8, c8, A9, n9, c9, rfl, rfl, HBX.out, HOF.out.1, HOF.out.2, HGB.out, HKF.out⟩
                case rest =>
                  obtain ⟨gB, A8, n8, c8, A9, n9, c9, rfl, rfl, hbx, o8, o9, hgb, kc⟩ := hcut
                  obtain ⟨wq, rfl⟩ : ∃ wq, wq = wc := ⟨_, rfl⟩
                  have HBX := Lib.hid hbx
                  have HO8 := Lib.hid (And.intro o8 o9)
                  have HGB := Lib.hid hgb
                  have HKQ := Lib.hid kc
                  have HIQ := Lib.hid (HI.out.later kc)
                  clear hbx o8 o9 hgb kc hpq hcy
                  rcases HER.out with ⟨rfl, hz0⟩ | ⟨rfl, hz0, snd, rfl, rfl, hin, hsy⟩
                  · skip
                    as_aux_lemma =>
                      have hq1 := HQ0.out hz0
                      have w0 : ((q : Int) == 0) = false := by rw [beq_eq_false_iff_ne]; omega
                      have w0' : decide ((q : Int) = 0) = false := decide_eq_false (by omega)
                      have w1' : ((z : Int) != 0) = false := by rw [hz0]; rfl
                      have w2' : decide ((z : Int) = 0) = true := decide_eq_true (by omega)
                      have hpq := HIQ.out.at_ (i := q) (by omega)
                      rw [HPQ.out] at hpq
                      have hrk := rl_rank (HIQ.out.rel (i := q) (by omega)) 2 (by decide)
                      rw [HPQ.out, HB.out, HZ.out] at hrk
                      have HRK := Lib.hid hrk
                      clear hz0 hq1 hrk
                      go_wp2_with fail
                      refine HRK.out.mono ?_
                      rintro e w10 ⟨rfl, hw10⟩
                      rw [hw10]
                      clear hw10 hpq
                      go_wp2_with fail
                      go_roundw
                      case rel => exact ⟨i + 1, sq, R, by omega, by omega, rfl, by omega, by go_num, HIQ.out, HL.out⟩
                      case measure => simp [intOf]; omega
                  · skip
                    have hl8 := HO8.out.1.length
                    have hl9 := HO8.out.2.length
                    rw [List.length_take, hin.1] at hl8
                    rw [List.length_drop, hin.1] at hl9
                    obtain rfl : g = n8 := by omega
                    obtain rfl : s = n9 := by omega
                    obtain ⟨sn, hsn⟩ : ∃ v, sq + 1 = v := ⟨_, rfl⟩
                    have v1 : (sq : Int) + 1 = (sn : Int) := by omega
                    have v2 : IntKind.u64.wrap (sn : Int) = (sn : Int) := IntWalk.u64_in _ (by omega)
                    have v3 : IntKind.u64.wrap ((sq : Int) + 1) = (sn : Int) := by rw [v1]; exact v2
                    have hsn1 : 1 ≤ sn ∧ sn ≤ i + 1 := by omega
                    have hz1 : 0 < z := by omega
                    obtain ⟨CO, hCO⟩ : ∃ v, snd.take g = v := ⟨_, rfl⟩
                    obtain ⟨PA, hPA⟩ : ∃ v, snd.drop g = v := ⟨_, rfl⟩
                    have hjoin : CO ++ PA = snd := by rw [← hCO, ← hPA]; exact List.take_append_drop _ _
                    have hlc : CO.length = g := by rw [← hCO, List.length_take, hin.1]; omega
                    have hlp : PA.length = s := by rw [← hPA, List.length_drop, hin.1]; omega
                    rw [hCO, hPA] at HO8
                    have HSN := Lib.hid (And.intro hjoin (And.intro hin hsy))
                    have hmay : MayF (rowF q m sn CO PA) := may_row (by omega) HQM.out.symm (by omega) (by omega) (by omega) (by omega) (by omega) (by omega)
                    have HMAY := Lib.hid hmay
                    have HLC : Hid (CO.length = g ∧ PA.length = s) := ⟨hlc, hlp⟩
                    have z8 : wq.cell? ⟨gB, 0, none⟩ = some (.slice A8 g c8) := cell_of_row _ _ _ _ _ _ HBX.out
                    have z9 : wq.cell? ⟨gB, 1, none⟩ = some (.slice A9 s c9) := cell_of_row _ _ _ _ _ _ HBX.out
                    have HSQ : Hid (sn ≤ i + 1) := hsn1.2
                    clear hz0 hl8 hl9 hsn hCO hPA hjoin hlc hlp hin hsy hmay
                    go_upto_region 29 with fail
                    clear z8 z9
                    obtain ⟨w5, hw5⟩ : ∃ wx, wq.alloc (.cells #[.int .i64 1, .int .i64 (q : Int), .int .i64 (m : Int), .int .u64 0, .int .u64 1, .int .i64 0, .int .u64 2, .int .u64 (sn : Int), .int .u64 0, .slice A8 g c8, .slice A9 s c9, .slice none 0 0, .int .u64 0, .slice none 0 0, .slice none 0 0] 52) = wx := ⟨_, rfl⟩
                    obtain ⟨k5, hb5⟩ := fr_box wq 52 (rowM A8 A9 g s c8 c9) (rowF q m sn CO PA) (w2 := w5) hw5
                    obtain ⟨g5, hg5⟩ : ∃ v, wq.heap.size = v := ⟨_, rfl⟩
                    rw [hg5] at hb5
                    rw [hw5]
                    try simp only [hg5]
                    have HB5 := Lib.hid hb5
                    have HFI : Hid (FrIn w5 w5.heap.size (rowM A8 A9 g s c8 c9) (rowF q m sn CO PA)) := fr_row (by omega) HQM.out.symm (by omega) (HO8.out.1.keep k5).bytes (HO8.out.2.keep k5).bytes (own_le' HO8.out.1) (own_le' HO8.out.2) (by omega) (by omega)
                    have HI5 := Lib.hid (HIQ.out.later k5)
                    have HKO := Lib.hid (HKQ.out.trans k5)
                    have hp := gput_any _ _ w5 (HT.out.keep (HKW.out.trans HKO.out)) HFI.out
                    rw [put_ok HMAY.out] at hp
                    have HGE : Hid (23 ≤ (putV (rowF q m sn CO PA)).length ∧ (putV (rowF q m sn CO PA)).length ≤ 70000) := ⟨by rw [put_len HMAY.out]; unfold sizeF; omega, by rw [put_len HMAY.out]; have := size_le HMAY.out; omega⟩
                    have HTU : Hid (∀ bit, bit + 32 ≤ 8 * (putV (rowF q m sn CO PA)).length → tkE (Crc.flipN (putV (rowF q m sn CO PA)) bit turn 32) = if turn = 0 then 0 else 20) := fun bit h => take_turned HMAY.out HFI.out.bytes bit turn HAT.out.2 h
                    have HTF := Lib.hid (take_put HMAY.out)
                    obtain ⟨PV, hPV⟩ : ∃ x, putV (rowF q m sn CO PA) = x := ⟨_, rfl⟩
                    rw [hPV] at hp HGE HTU HTF
                    simp only [frCells, rowM, rowF, show ((0 : Nat) : Int) = 0 from rfl, show ((1 : Nat) : Int) = 1 from rfl, show ((2 : Nat) : Int) = 2 from rfl] at hp
                    have HP := Lib.hid hp
                    clear k5 hb5 hp hPV hw5 hg5
                    obtain ⟨⟨x0, x1, x2, x3, x4⟩, ⟨x5, x6, x7, x8⟩, ⟨x9, x10, x11⟩, x12, x13, x14⟩ := (HB5.out w5 (Keep.refl _)).cells
                    dsimp only [rowF, rowM] at x0 x1 x2 x3 x4 x5 x6 x7 x8 x9 x10 x11 x12 x13 x14
                    go_wp2_with fail
                    refine HP.out.mono ?_
                    rintro e w6 ⟨A6, n6, c6, rfl, o6, k6⟩
                    clear x0 x1 x2 x3 x4 x5 x6 x7 x8 x9 x10 x11 x12 x13 x14
                    have hge := HGE.out
                    rw [o6.length] at hge
                    obtain ⟨g6, rfl, hg6, hglt⟩ := o6.block (by omega)
                    have hcap := own_le' o6
                    have O6 := Lib.hid o6
                    have K6 := Lib.hid k6
                    have hca := (HC.out w6 (HKW.out.trans (HKO.out.trans k6))).2.2.1
                    obtain ⟨q8, hq8⟩ : ∃ q8, 8 * n6 - 31 = q8 := ⟨_, rfl⟩
                    have e3 : 8 * (n6 : Int) - 31 = (q8 : Int) := by omega
                    have e4 : (q8 : Int) ≠ 0 := by omega
                    obtain ⟨bit, hbit⟩ : ∃ bit, at7 % q8 = bit := ⟨_, rfl⟩
                    have hbl : bit < q8 := by rw [← hbit]; exact Nat.mod_lt _ (by omega)
                    have e5 : (at7 : Int) % (q8 : Int) = (bit : Int) := by rw [← hbit]; simp
                    have e6 : (0 : Int) ≤ (q8 : Int) := Int.natCast_nonneg _
                    have e8 : ((at7 : Int)).tmod (q8 : Int) = (bit : Int) := by rw [Int.tmod_eq_emod_of_nonneg (by omega)]; exact e5
                    have e9 : IntKind.i64.wrap (bit : Int) = (bit : Int) := IntWalk.i64_in _ (by omega)
                    have e10 : IntKind.i64.wrap (at7 : Int) = (at7 : Int) := IntWalk.i64_in _ (by have := HAT.out.1; omega)
                    have n7 : ¬ (n6 : Int) < 4 := by omega
                    have n8' : decide ((n6 : Int) < 4) = false := decide_eq_false n7
                    have HM := Lib.hid hq8
                    clear o6 k6 hq8 hbit HP
                    go_wp2_with fail
                    clear e3 e4 e5 e6 e8 e9 e10 n7 n8' hca
                    go_loopw [28] (fun jv wz => ∃ j : Nat, j ≤ 32 ∧ jv = .int .i64 (j : Int) ∧ Own wz w5.heap.size 5 (some ⟨g6, 0, none⟩) n6 c6 (Crc.flipN PV bit turn j) ∧ Keep w5 wz) (fun jv _ => 32 - (intOf jv).toNat)
                    case atStart => exact ⟨0, by omega, rfl, O6.out, K6.out⟩
                    case round =>
                      clear O6 K6
                      obtain ⟨j, hj, rfl, hown, hkeep⟩ := hrel
                      by_cases hlt : j < 32
                      · skip
                        as_aux_lemma =>
                          obtain ⟨kk, hk⟩ : ∃ kk, bit + j = kk := ⟨_, rfl⟩
                          have x2 : (bit : Int) + (j : Int) = (kk : Int) := by omega
                          have hk8 : kk < 8 * n6 := by have := HM.out; omega
                          obtain ⟨qq, hqq⟩ : ∃ q, kk / 8 = q := ⟨_, rfl⟩
                          obtain ⟨r, hr⟩ : ∃ r, kk % 8 = r := ⟨_, rfl⟩
                          have x3 : (kk : Int) / 8 = (qq : Int) := by omega
                          have x4 : (kk : Int) % 8 = (r : Int) := by omega
                          have hqlt : qq < n6 := by omega
                          have hr8 : r < 8 := by omega
                          have hc2 := hown.cell hqlt
                          have hf := hown.frozen qq
                          have hv := hown.2.getD qq
                          have hfl : Crc.flipN PV bit turn (j + 1) = (Crc.flipN PV bit turn j).set qq ((Crc.flipN PV bit turn j).getD qq 0 ^^^ turn / 2 ^ j % 2 * 2 ^ r) := by rw [Crc.flipN, hk, hqq, hr]
                          obtain ⟨t, htv⟩ : ∃ t, turn / 2 ^ j % 2 = t := ⟨_, rfl⟩
                          obtain ⟨s1', hs⟩ : ∃ s, t * 2 ^ r = s := ⟨_, rfl⟩
                          have hs2 : s1' < 256 := by rw [← hs, ← htv]; exact Crc.bit_lt _ _ hr8
                          generalize (Crc.flipN PV bit turn j).getD qq 0 = v at *
                          rw [htv, hs] at hfl
                          obtain ⟨u, hu⟩ : ∃ u, v ^^^ s1' = u := ⟨_, rfl⟩
                          have hu2 : u < 256 := by rw [← hu]; exact Nat.xor_lt_two_pow (n := 8) hv hs2
                          have bx : bits .xor .u8 (v : Int) (s1' : Int) = (u : Int) := by rw [← hu]; exact u8_xor_nat v s1' hv hs2
                          have HO : Hid (Own (wr.setCell ⟨g6, qq, none⟩ (.int .u8 (u : Int))) w5.heap.size 5 (some ⟨g6, 0, none⟩) n6 c6 (Crc.flipN PV bit turn (j + 1))) := by
                            show Own _ _ _ _ _ _ _
                            rw [hfl, hu]; exact hown.stored hu2
                          have HK := Lib.hid (hkeep.setCell (a := ⟨g6, qq, none⟩) hg6 (.int .u8 (u : Int)))
                          have a1 : (0 : Int) ≤ (j : Int) := Int.natCast_nonneg _
                          have a2 : (j : Int) < 32 := by omega
                          have a3 : (0 : Int) ≤ (qq : Int) := Int.natCast_nonneg _
                          have a4 : (qq : Int) < (n6 : Int) := by omega
                          have a5 : (0 : Int) ≤ (r : Int) := Int.natCast_nonneg _
                          have a6 : (r : Int) < 8 := by omega
                          have w1' : IntKind.i64.wrap (qq : Int) = (qq : Int) := IntWalk.i64_in _ (by omega)
                          have w2' : IntKind.i64.wrap (r : Int) = (r : Int) := IntWalk.i64_in _ (by omega)
                          have w3' : IntKind.i64.wrap (kk : Int) = (kk : Int) := IntWalk.i64_in _ (by omega)
                          have tm : ((kk : Int)).tmod 8 = (r : Int) := by rw [Int.tmod_eq_emod_of_nonneg (by omega)]; exact x4
                          have t2 : t < 2 := by rw [← htv]; exact Nat.mod_lt _ (by decide)
                          have htn := HAT.out.2
                          have ba : bits .and .u32 ((turn : Int) / 2 ^ j) 1 = (t : Int) := by
                            have e : (turn : Int) / 2 ^ j = ((turn / 2 ^ j : Nat) : Int) := by simp
                            rw [e, show (1 : Int) = ((1 : Nat) : Int) from rfl, u32_and_nat _ _ (Nat.lt_of_le_of_lt (Nat.div_le_self _ _) htn) (by decide), nat_mask1, htv]
                          have bs : IntKind.u8.wrap ((t : Int) * 2 ^ r) = (s1' : Int) := by
                            have e : (t : Int) * 2 ^ r = (s1' : Int) := by rw [← hs]; simp
                            rw [e, IntKind.wrap_u8']; omega
                          have bw : IntKind.u8.wrap (t : Int) = (t : Int) := by rw [IntKind.wrap_u8']; omega
                          have ct := (HC.out wr (HKW.out.trans (HKO.out.trans hkeep))).2.2.2
                          clear hown hkeep hfl hu hk hqq hr htv hs
                          go_wp2_with fail
                          refine wp_region_still_tail (w := wr) 22 (by kernel_rfl) (by kernel_rfl) ?_
                          simp only [List.take_succ_cons, List.take_zero, List.drop_succ_cons, List.drop_zero]
                          change wpStill _ _ (World.drew wr) _ _ _
                          iterate 22 still_step
                          refine wpStill_nil ?_
                          change wpList _ _ _ _ _ (World.drew wr)
                          go_wp2_with fail
                          go_roundw
                          case rel => exact ⟨j + 1, by omega, by go_num, HO.out.drew, HK.out.drew⟩
                          case measure => simp [intOf]; omega
                      · obtain rfl : j = 32 := by omega
                        have hcap2 := own_le' hown
                        have HKR := Lib.hid hkeep
                        have HKT : Hid (Keep w wr) := HKW.out.trans (HKO.out.trans hkeep)
                        have HTL := Lib.hid (gtake_any wr.heap.size n6 c6 _ _ wr (HT.out.keep HKT.out) hown.bytes (Nat.le_refl _) (by omega) hcap2)
                        have HEE := HTU.out bit (by have h1 := HM.out; have h2 := hown.length; rw [Crc.flip_length] at h2; omega)
                        have a2 : ¬ (32 : Int) < 32 := by omega
                        clear hown hkeep hcap2
                        go_wp2_with fail
                        refine HTL.out.mono ?_
                        rintro e w8 ⟨m8, rfl, hf8, k8⟩
                        have K8 : Hid (Keep w5 w8) := HKR.out.trans k8
                        have ct := (HC.out w8 (HKT.out.trans k8)).2.2.2
                        by_cases h0 : turn = 0
                        · skip
                          as_aux_lemma =>
                            have b0 : ((turn : Int) == 0) = true := by rw [beq_iff_eq]; omega
                            have b1 : decide ((turn : Int) = 0) = true := decide_eq_true (by omega)
                            have hV : tkV (Crc.flipN PV bit turn 32) = rowF q m sn CO PA := by rw [h0, Crc.flip_none]; exact HTF.out.2
                            rw [HEE, if_pos h0, show (((0 : Nat) : Int)) = 0 from rfl, hV]
                            rw [hV] at hf8
                            obtain ⟨⟨Yc, yc, dc⟩, ⟨Yp, yp, dp⟩, ⟨Yr, yr, dr⟩, ⟨Yu, yu, du⟩, ⟨Yh, yh, dh⟩⟩ := m8
                            have hyc : yc = CO.length := hf8.co.length.symm
                            have hyp : yp = PA.length := hf8.pay.length.symm
                            obtain rfl : g = yc := (hyc.trans HLC.out.1).symm
                            obtain rfl : s = yp := (hyp.trans HLC.out.2).symm
                            have HF8 := Lib.hid hf8
                            have HK8 := Lib.hid k8
                            simp only [frCells, rowF, show ((0 : Nat) : Int) = 0 from rfl, show ((1 : Nat) : Int) = 1 from rfl, show ((2 : Nat) : Int) = 2 from rfl]
                            clear hV hyc hyp hf8 HEE h0 ct a2
                            go_upto_region 40 with fail
                            obtain ⟨w9, hw9⟩ : ∃ wx, w8.alloc (.cells #[.int .i64 1, .int .i64 (q : Int), .int .i64 (m : Int), .int .u64 0, .int .u64 1, .int .i64 0, .int .u64 2, .int .u64 (sn : Int), .int .u64 0, .slice Yc g dc, .slice Yp s dp, .slice Yr yr dr, .int .u64 0, .slice Yu yu du, .slice Yh yh dh] 52) = wx := ⟨_, rfl⟩
                            obtain ⟨k9, hb9⟩ := fr_box w8 52 ⟨⟨Yc, g, dc⟩, ⟨Yp, s, dp⟩, ⟨Yr, yr, dr⟩, ⟨Yu, yu, du⟩, ⟨Yh, yh, dh⟩⟩ (rowF q m sn CO PA) (w2 := w9) hw9
                            obtain ⟨g9, hg9⟩ : ∃ v, w8.heap.size = v := ⟨_, rfl⟩
                            rw [hg9] at hb9
                            rw [hw9]
                            try simp only [hg9]
                            have HB9 := Lib.hid hb9
                            have K9 : Hid (Keep w5 w9) := K8.out.trans k9
                            have hsm := gsame_any _ _ _ _ w9 (HF8.out.later k9) (HFI.out.later K9.out)
                            rw [decide_eq_true (rfl : rowF q m sn CO PA = rowF q m sn CO PA)] at hsm
                            simp only [frCells, rowM, rowF, show ((0 : Nat) : Int) = 0 from rfl, show ((1 : Nat) : Int) = 1 from rfl, show ((2 : Nat) : Int) = 2 from rfl] at hsm
                            have HSM := Lib.hid hsm
                            have HF9 := Lib.hid (HF8.out.later k9)
                            have ct := (HC.out w9 (HKT.out.trans (HK8.out.trans k9))).2.2.2
                            clear hb9 hw9 hsm k9
                            obtain ⟨⟨v0, v1, v2, v3, v4⟩, ⟨v5, v6, v7, v8⟩, ⟨v9, v10, v11⟩, v12, v13, v14⟩ := (HB9.out w9 (Keep.refl _)).cells
                            dsimp only [rowF, rowM] at v0 v1 v2 v3 v4 v5 v6 v7 v8 v9 v10 v11 v12 v13 v14
                            obtain ⟨⟨x0, x1, x2, x3, x4⟩, ⟨x5, x6, x7, x8⟩, ⟨x9, x10, x11⟩, x12, x13, x14⟩ := (HB5.out w9 K9.out).cells
                            dsimp only [rowF, rowM] at x0 x1 x2 x3 x4 x5 x6 x7 x8 x9 x10 x11 x12 x13 x14
                            go_wp2_with fail
                            refine HSM.out.mono ?_
                            rintro e wb ⟨rfl, kb⟩
                            have KB : Hid (Keep w5 wb) := K9.out.trans kb
                            have HKB := Lib.hid kb
                            have HIB := Lib.hid (HI5.out.later KB.out)
                            obtain ⟨pm, hpm0⟩ : ∃ p, (R m).p = p := ⟨_, rfl⟩
                            obtain ⟨C, hC⟩ : ∃ C, (R m).L 2 = C := ⟨_, rfl⟩
                            obtain ⟨zc, hzc⟩ : ∃ z, C.length = z := ⟨_, rfl⟩
                            have hpm := HIB.out.at_ (i := m) (by omega)
                            have hbc := And.intro (HIB.out.h.bas m (by omega)) (HIB.out.h.w m (by omega))
                            rw [hpm0] at hpm
                            rw [hC] at hbc
                            have HPM := Lib.hid hpm0
                            have HCC := Lib.hid hC
                            have HZC := Lib.hid hzc
                            have hz5 : zc ≤ 5 := by rw [← hzc]; have := hbc.1.length_le; omega
                            have HRKM : Hid (Calls Tryz.prog 9 #[.pointer (some ⟨pm, 0, none⟩), .int .u64 2] wb fun e w' => e = .returned (.int .i64 (zc : Int)) ∧ w' = wb) := by
                              have h := rl_rank (HIB.out.rel (i := m) (by omega)) 2 (by decide)
                              rw [HPM.out, HCC.out, HZC.out] at h
                              exact h
                            clear ct kb hpm0 hC hzc hbc v0 v1 v2 v3 v4 v5 v6 v7 v8 v9 v10 v11 v12 v13 v14 x0 x1 x2 x3 x4 x5 x6 x7 x8 x9 x10 x11 x12 x13 x14
                            go_wp2_with fail
                            refine HRKM.out.mono ?_
                            rintro e w12 ⟨rfl, hw12⟩
                            rw [hw12]
                            clear hw12 HRKM HSM
                            obtain ⟨-, ⟨-, v6, -, -⟩, ⟨v9, v10, -⟩, -, -, -⟩ := (HB9.out wb HKB.out).cells
                            dsimp only [rowF, rowM] at v6 v9 v10
                            have HNF : Hid (¬ (R m).F g9) := fun e => by
                              have h1 := HI5.out.n.lt (i := m) (by omega) _ e
                              have h2 := K8.out.size
                              omega
                            have htk := fun (w' : World) (kw : Keep wb w') => rl_take_in (HPM.out ▸ (HIB.out.later kw).rel (i := m) (by omega)) 2 (by decide) (by decide) _ _ dc dp Yc Yp _ _ HF9.out.oks.1.2 HF9.out.oks.2.1.2 ((HF9.out.later (HKB.out.trans kw)).co) ((HF9.out.later (HKB.out.trans kw)).pay) (Nat.le_refl _) (Nat.le_refl _)
                            rw [show (rowF q m sn CO PA).co ++ (rowF q m sn CO PA).pay = snd from HSN.out.1, HCC.out] at htk
                            obtain ⟨tn, htn⟩ : ∃ b : Bool, (!decide (inB g s C snd)) = b := ⟨_, rfl⟩
                            obtain ⟨N, hN⟩ : ∃ N, insB g s C snd = N := ⟨_, rfl⟩
                            obtain ⟨zn, hzn⟩ : ∃ z, N.length = z := ⟨_, rfl⟩
                            have hstep : zn = zc + (if tn then 1 else 0) := by
                              rw [← hzn, ← hN, insB_len, HZC.out, ← htn]
                              by_cases hh : inB g s C snd
                              · rw [if_pos hh, decide_eq_true hh]; rfl
                              · rw [if_neg hh, decide_eq_false hh]; rfl
                            rw [htn] at htk
                            rw [← HCC.out] at htk
                            have HTK := Lib.hid htk
                            have HTT : Hid (snd.length = g + s ∧ AllB snd ∧ InSpan g (symR g M) (vec snd) ∧ ∀ j, j + 1 = m → InSpan ((R j).L 2).length (fn ((R j).L 2)) (vec snd)) := ⟨HSN.out.2.1.1, HSN.out.2.1.2.1, HSN.out.2.2, fun j e => by
                              obtain rfl : q = j := by have := HQM.out; omega
                              rw [HB.out]; exact HSN.out.2.1.2.2⟩
                            have HNN := Lib.hid (And.intro hN hzn)
                            have HSTP := Lib.hid hstep
                            clear htk htn hN hzn hstep
                            go_upto_region 44 with fail
                            refine wp_region_noPanic ?_
                            refine wp_region_held_drew (S := fun wz => wz.cell? ⟨gr, m, none⟩ = some (.pointer (some ⟨pm, 0, none⟩)) ∧ wz.cell? ⟨g9, 6, none⟩ = some (.int .u64 2) ∧ wz.cell? ⟨g9, 9, none⟩ = some (.slice Yc g dc) ∧ wz.cell? ⟨g9, 10, none⟩ = some (.slice Yp s dp)) (by kernel_rfl) ⟨hpm, v6, v9, v10⟩ (fun hHeld => ?_)
                            refine wpAnyH_take (i := 0) (v := ?_) rfl (by kernel_rfl) (by kernel_rfl) (by kernel_rfl) (fun _ _ _ h => h) (Or.inl ⟨by kernel_rfl, ?_⟩) hHeld ?_
                            rotate_left
                            · intro wq hSw
                              go_simp
                              all_goals with_reducible rfl
                            try simp only [Act.put, List.getElem_toArray, List.getElem_cons_succ, List.getElem_cons_zero, List.setIfInBounds_toArray, List.set_cons_zero, List.set_cons_succ]
                            refine wpAnyH_take (i := 1) (v := ?_) rfl (by kernel_rfl) (by kernel_rfl) (by kernel_rfl) (fun _ _ _ h => h) (Or.inl ⟨by kernel_rfl, ?_⟩) hHeld ?_
                            rotate_left
                            · intro wq hSw
                              go_simp
                              all_goals with_reducible rfl
                            try simp only [Act.put, List.getElem_toArray, List.getElem_cons_succ, List.getElem_cons_zero, List.setIfInBounds_toArray, List.set_cons_zero, List.set_cons_succ]
                            refine wpAnyH_take (i := 2) (v := ?_) rfl (by kernel_rfl) (by kernel_rfl) (by kernel_rfl) (fun _ _ _ h => h) (Or.inl ⟨by kernel_rfl, ?_⟩) hHeld ?_
                            rotate_left
                            · intro wq hSw
                              go_simp
                              all_goals with_reducible rfl
                            try simp only [Act.put, List.getElem_toArray, List.getElem_cons_succ, List.getElem_cons_zero, List.setIfInBounds_toArray, List.set_cons_zero, List.set_cons_succ]
                            refine wpAnyH_take (i := 3) (v := ?_) rfl (by kernel_rfl) (by kernel_rfl) (by kernel_rfl) (fun _ _ _ h => h) (Or.inl ⟨by kernel_rfl, ?_⟩) hHeld ?_
                            rotate_left
                            · intro wq hSw
                              have q0 := hSw.1
                              go_simp
                              all_goals with_reducible rfl
                            try simp only [Act.put, List.getElem_toArray, List.getElem_cons_succ, List.getElem_cons_zero, List.setIfInBounds_toArray, List.set_cons_zero, List.set_cons_succ]
                            refine wpAnyH_take (i := 4) (v := ?_) rfl (by kernel_rfl) (by kernel_rfl) (by kernel_rfl) (fun _ _ _ h => h) (Or.inl ⟨by kernel_rfl, ?_⟩) hHeld ?_
                            rotate_left
                            · intro wq hSw
                              go_simp
                              all_goals with_reducible rfl
                            try simp only [Act.put, List.getElem_toArray, List.getElem_cons_succ, List.getElem_cons_zero, List.setIfInBounds_toArray, List.set_cons_zero, List.set_cons_succ]
                            refine wpAnyH_take (i := 5) (v := ?_) rfl (by kernel_rfl) (by kernel_rfl) (by kernel_rfl) (fun _ _ _ h => h) (Or.inl ⟨by kernel_rfl, ?_⟩) hHeld ?_
                            rotate_left
                            · intro wq hSw
                              have q0 := hSw.2.1
                              go_simp
                              all_goals with_reducible rfl
                            try simp only [Act.put, List.getElem_toArray, List.getElem_cons_succ, List.getElem_cons_zero, List.setIfInBounds_toArray, List.set_cons_zero, List.set_cons_succ]
                            refine wpAnyH_take (i := 6) (v := ?_) rfl (by kernel_rfl) (by kernel_rfl) (by kernel_rfl) (fun _ _ _ h => h) (Or.inl ⟨by kernel_rfl, ?_⟩) hHeld ?_
                            rotate_left
                            · intro wq hSw
                              go_simp
                              all_goals with_reducible rfl
                            try simp only [Act.put, List.getElem_toArray, List.getElem_cons_succ, List.getElem_cons_zero, List.setIfInBounds_toArray, List.set_cons_zero, List.set_cons_succ]
                            refine wpAnyH_take (i := 7) (v := ?_) rfl (by kernel_rfl) (by kernel_rfl) (by kernel_rfl) (fun _ _ _ h => h) (Or.inl ⟨by kernel_rfl, ?_⟩) hHeld ?_
                            rotate_left
                            · intro wq hSw
                              have q0 := hSw.2.2.1
                              have q1 := hSw.2.2.2
                              go_simp
                              all_goals with_reducible rfl
                            try simp only [Act.put, List.getElem_toArray, List.getElem_cons_succ, List.getElem_cons_zero, List.setIfInBounds_toArray, List.set_cons_zero, List.set_cons_succ]
                            refine wpAnyH_ready (rs := [8]) (by kernel_rfl) (by simp) ?_
                            refine AllReadyH.cons rfl (fun K hK => ?_) AllReadyH.nil
                            go_simp
                            refine (HTK.out _ (Keep.drew (Keep.refl _))).mono ?_
                            rintro e w13 ⟨rfl, F8, r8, f8, t8⟩
                            have hput := (HIB.out.later (Keep.drew (Keep.refl _))).put (i := m) (by omega) (by rw [HPM.out]; exact r8) f8 t8 HTT.out.1 HTT.out.2.1 HTT.out.2.2.1 HTT.out.2.2.2
                            obtain ⟨R8, hI8, hP8, hL8, hO8⟩ := hput
                            have HI8 := Lib.hid hI8
                            have HR8 := Lib.hid (And.intro hP8 (And.intro hL8 hO8))
                            have hq13 : w13.cell? ⟨gr, m, none⟩ = some (.pointer (some ⟨pm, 0, none⟩)) ∧ w13.cell? ⟨g9, 6, none⟩ = some (.int .u64 2) ∧ w13.cell? ⟨g9, 9, none⟩ = some (.slice Yc g dc) ∧ w13.cell? ⟨g9, 10, none⟩ = some (.slice Yp s dp) := ⟨by rw [hI8.at_ (i := m) (by omega), hP8, HPM.out], t8.cell (w := wb.drew) hHeld.2.1 (fun e => HNF.out e), t8.cell (w := wb.drew) hHeld.2.2.1 (fun e => HNF.out e), t8.cell (w := wb.drew) hHeld.2.2.2 (fun e => HNF.out e)⟩
                            clear r8 f8 t8 hI8 hP8 hL8 hO8 HTK
                            refine hK.out _ _ hq13 (fun hHeld => ?_)
                            clear hK K
                            try simp only [Act.put, List.getElem_toArray, List.getElem_cons_succ, List.getElem_cons_zero, List.setIfInBounds_toArray, List.set_cons_zero, List.set_cons_succ]
                            refine wpAnyH_take (i := 9) (v := ?_) rfl (by kernel_rfl) (by kernel_rfl) (by kernel_rfl) (fun _ _ _ h => h) (Or.inl ⟨by kernel_rfl, ?_⟩) hHeld ?_
                            rotate_left
                            · intro wq hSw
                              go_simp
                              all_goals with_reducible rfl
                            try simp only [Act.put, List.getElem_toArray, List.getElem_cons_succ, List.getElem_cons_zero, List.setIfInBounds_toArray, List.set_cons_zero, List.set_cons_succ]
                            refine wpAnyH_take (i := 10) (v := ?_) rfl (by kernel_rfl) (by kernel_rfl) (by kernel_rfl) (fun _ _ _ h => h) (Or.inl ⟨by kernel_rfl, ?_⟩) hHeld ?_
                            rotate_left
                            · intro wq hSw
                              go_simp
                              all_goals with_reducible rfl
                            try simp only [Act.put, List.getElem_toArray, List.getElem_cons_succ, List.getElem_cons_zero, List.setIfInBounds_toArray, List.set_cons_zero, List.set_cons_succ]
                            refine wpAnyH_take (i := 11) (v := ?_) rfl (by kernel_rfl) (by kernel_rfl) (by kernel_rfl) (fun _ _ _ h => h) (Or.inl ⟨by kernel_rfl, ?_⟩) hHeld ?_
                            rotate_left
                            · intro wq hSw
                              go_simp
                              all_goals with_reducible rfl
                            try simp only [Act.put, List.getElem_toArray, List.getElem_cons_succ, List.getElem_cons_zero, List.setIfInBounds_toArray, List.set_cons_zero, List.set_cons_succ]
                            refine wpAnyH_take (i := 12) (v := ?_) rfl (by kernel_rfl) (by kernel_rfl) (by kernel_rfl) (fun _ _ _ h => h) (Or.inl ⟨by kernel_rfl, ?_⟩) hHeld ?_
                            rotate_left
                            · intro wq hSw
                              go_simp
                              all_goals with_reducible rfl
                            try simp only [Act.put, List.getElem_toArray, List.getElem_cons_succ, List.getElem_cons_zero, List.setIfInBounds_toArray, List.set_cons_zero, List.set_cons_succ]
                            refine wpAnyH_take (i := 13) (v := ?_) rfl (by kernel_rfl) (by kernel_rfl) (by kernel_rfl) (fun _ _ _ h => h) (Or.inl ⟨by kernel_rfl, ?_⟩) hHeld ?_
                            rotate_left
                            · intro wq hSw
                              go_simp
                              all_goals with_reducible rfl
                            try simp only [Act.put, List.getElem_toArray, List.getElem_cons_succ, List.getElem_cons_zero, List.setIfInBounds_toArray, List.set_cons_zero, List.set_cons_succ]
                            refine wpAnyH_done (by kernel_rfl) ?_ _
                            refine NoPanic.normal ?_
                            clear hHeld
                            clear hq13 hpm v6 v9 v10
                            have hL8 : (R8 m).L 2 = N := by rw [HR8.out.2.1, HCC.out]; exact HNN.out.1
                            have hq8 : R8 q = R q := HR8.out.2.2 q (by have := HQM.out; omega)
                            have hle : zn ≤ z := by
                              have h1 := bas_len_le (HI8.out.h.bas m (by omega)) (by have h2 := HI8.out.h.ch q (by omega); rw [HQM.out] at h2; exact h2)
                              rw [hL8, hq8, HB.out, HZ.out, HNN.out.2] at h1
                              exact h1
                            have hpm := HI8.out.at_ (i := m) (by omega)
                            rw [HR8.out.1, HPM.out] at hpm
                            have hpq := HI8.out.at_ (i := q) (by omega)
                            rw [HR8.out.1, HPQ.out] at hpq
                            have hrm : ∀ wx, Keep w13 wx → Calls Tryz.prog 9 #[.pointer (some ⟨pm, 0, none⟩), .int .u64 2] wx fun e w' => e = .returned (.int .i64 (zn : Int)) ∧ w' = wx := fun wx kx => by
                              have h := rl_rank ((HI8.out.later kx).rel (i := m) (by omega)) 2 (by decide)
                              rw [HR8.out.1, HPM.out, hL8, HNN.out.2] at h
                              exact h
                            have hrq : ∀ wx, Keep w13 wx → Calls Tryz.prog 9 #[.pointer (some ⟨pq, 0, none⟩), .int .u64 2] wx fun e w' => e = .returned (.int .i64 (z : Int)) ∧ w' = wx := fun wx kx => by
                              have h := rl_rank ((HI8.out.later kx).rel (i := q) (by omega)) 2 (by decide)
                              rw [HR8.out.1, HPQ.out, hq8, HB.out, HZ.out] at h
                              exact h
                            have HRM := Lib.hid hrm
                            have HRQ := Lib.hid hrq
                            have hL0 : ((R8 0).L 2).length = g := by
                              rw [HR8.out.2.2 0 (by have := HQM.out; omega)]; exact HL.out
                            have HL8 := Lib.hid hL0
                            have t2 : IntKind.i64.wrap ((zc : Int) + 1) = (zc : Int) + 1 := IntWalk.i64_in _ (by omega)
                            have t3 : decide ((z : Int) < (zn : Int)) = false := decide_eq_false (by omega)
                            have t4 : ¬ (z : Int) < (zn : Int) := by omega
                            have t5 : (tn != ((zn : Int) == (zc : Int) + 1)) = false := by
                              have h := HSTP.out
                              cases tn with
                              | true =>
                                have e : ((zn : Int) == (zc : Int) + 1) = true := by rw [beq_iff_eq]; simp at h; omega
                                rw [e]; rfl
                              | false =>
                                have e : ((zn : Int) == (zc : Int) + 1) = false := by rw [beq_eq_false_iff_ne]; simp at h; omega
                                rw [e]; rfl
                            have t7 : tn = ((zn : Int) == (zc : Int) + 1) := by
                              have h := t5
                              rw [bne_eq_false_iff_eq] at h
                              exact h
                            subst t7
                            clear t5
                            clear hL8 hq8 hle hrm hrq hL0
                            go_wp2_with fail
                            refine wp_region_noPanic ?_
                            refine wp_region_held_drew (S := fun wz => wz.cell? ⟨gr, m, none⟩ = some (.pointer (some ⟨pm, 0, none⟩)) ∧ wz.cell? ⟨gr, q, none⟩ = some (.pointer (some ⟨pq, 0, none⟩))) (by kernel_rfl) ⟨hpm, hpq⟩ (fun hHeld => ?_)
                            refine wpAnyH_take (i := 0) (v := ?_) rfl (by kernel_rfl) (by kernel_rfl) (by kernel_rfl) (fun _ _ _ h => h) (Or.inl ⟨by kernel_rfl, ?_⟩) hHeld ?_
                            rotate_left
                            · intro wq hSw
                              go_simp
                              all_goals with_reducible rfl
                            try simp only [Act.put, List.getElem_toArray, List.getElem_cons_succ, List.getElem_cons_zero, List.setIfInBounds_toArray, List.set_cons_zero, List.set_cons_succ]
                            refine wpAnyH_take (i := 1) (v := ?_) rfl (by kernel_rfl) (by kernel_rfl) (by kernel_rfl) (fun _ _ _ h => h) (Or.inl ⟨by kernel_rfl, ?_⟩) hHeld ?_
                            rotate_left
                            · intro wq hSw
                              go_simp
                              all_goals with_reducible rfl
                            try simp only [Act.put, List.getElem_toArray, List.getElem_cons_succ, List.getElem_cons_zero, List.setIfInBounds_toArray, List.set_cons_zero, List.set_cons_succ]
                            refine wpAnyH_take (i := 2) (v := ?_) rfl (by kernel_rfl) (by kernel_rfl) (by kernel_rfl) (fun _ _ _ h => h) (Or.inl ⟨by kernel_rfl, ?_⟩) hHeld ?_
                            rotate_left
                            · intro wq hSw
                              go_simp
                              all_goals with_reducible rfl
                            try simp only [Act.put, List.getElem_toArray, List.getElem_cons_succ, List.getElem_cons_zero, List.setIfInBounds_toArray, List.set_cons_zero, List.set_cons_succ]
                            refine wpAnyH_take (i := 3) (v := ?_) rfl (by kernel_rfl) (by kernel_rfl) (by kernel_rfl) (fun _ _ _ h => h) (Or.inl ⟨by kernel_rfl, ?_⟩) hHeld ?_
                            rotate_left
                            · intro wq hSw
                              go_simp
                              all_goals with_reducible rfl
                            try simp only [Act.put, List.getElem_toArray, List.getElem_cons_succ, List.getElem_cons_zero, List.setIfInBounds_toArray, List.set_cons_zero, List.set_cons_succ]
                            refine wpAnyH_take (i := 4) (v := ?_) rfl (by kernel_rfl) (by kernel_rfl) (by kernel_rfl) (fun _ _ _ h => h) (Or.inl ⟨by kernel_rfl, ?_⟩) hHeld ?_
                            rotate_left
                            · intro wq hSw
                              go_simp
                              all_goals with_reducible rfl
                            try simp only [Act.put, List.getElem_toArray, List.getElem_cons_succ, List.getElem_cons_zero, List.setIfInBounds_toArray, List.set_cons_zero, List.set_cons_succ]
                            refine wpAnyH_take (i := 5) (v := ?_) rfl (by kernel_rfl) (by kernel_rfl) (by kernel_rfl) (fun _ _ _ h => h) (Or.inl ⟨by kernel_rfl, ?_⟩) hHeld ?_
                            rotate_left
                            · intro wq hSw
                              go_simp
                              all_goals with_reducible rfl
                            try simp only [Act.put, List.getElem_toArray, List.getElem_cons_succ, List.getElem_cons_zero, List.setIfInBounds_toArray, List.set_cons_zero, List.set_cons_succ]
                            refine wpAnyH_take (i := 6) (v := ?_) rfl (by kernel_rfl) (by kernel_rfl) (by kernel_rfl) (fun _ _ _ h => h) (Or.inl ⟨by kernel_rfl, ?_⟩) hHeld ?_
                            rotate_left
                            · intro wq hSw
                              go_simp
                              all_goals with_reducible rfl
                            try simp only [Act.put, List.getElem_toArray, List.getElem_cons_succ, List.getElem_cons_zero, List.setIfInBounds_toArray, List.set_cons_zero, List.set_cons_succ]
                            refine wpAnyH_take (i := 9) (v := ?_) rfl (by kernel_rfl) (by kernel_rfl) (by kernel_rfl) (fun _ _ _ h => h) (Or.inl ⟨by kernel_rfl, ?_⟩) hHeld ?_
                            rotate_left
                            · intro wq hSw
                              go_simp
                              all_goals with_reducible rfl
                            try simp only [Act.put, List.getElem_toArray, List.getElem_cons_succ, List.getElem_cons_zero, List.setIfInBounds_toArray, List.set_cons_zero, List.set_cons_succ]
                            refine wpAnyH_take (i := 10) (v := ?_) rfl (by kernel_rfl) (by kernel_rfl) (by kernel_rfl) (fun _ _ _ h => h) (Or.inl ⟨by kernel_rfl, ?_⟩) hHeld ?_
                            rotate_left
                            · intro wq hSw
                              go_simp
                              all_goals with_reducible rfl
                            try simp only [Act.put, List.getElem_toArray, List.getElem_cons_succ, List.getElem_cons_zero, List.setIfInBounds_toArray, List.set_cons_zero, List.set_cons_succ]
                            refine wpAnyH_take (i := 7) (v := .pointer (some ⟨pm, 0, none⟩)) rfl (by kernel_rfl) (by kernel_rfl) (by kernel_rfl) (fun _ _ _ h => h) (Or.inl ⟨by kernel_rfl, fun wq hSw => load_relT (x := .tmp 249) (by kernel_rfl) (by kernel_rfl) (hSw.1)⟩) hHeld ?_
                            try simp only [Act.put, List.getElem_toArray, List.getElem_cons_succ, List.getElem_cons_zero, List.setIfInBounds_toArray, List.set_cons_zero, List.set_cons_succ]
                            refine wpAnyH_ready (rs := [8]) (by kernel_rfl) (by simp) ?_
                            refine AllReadyH.cons rfl (fun K hK => ?_) AllReadyH.nil
                            go_simp
                            refine (HRM.out _ (Keep.drew (Keep.refl _))).mono ?_
                            rintro e w14 ⟨rfl, rfl⟩
                            refine hK.out _ _ hHeld (fun hHeld => ?_)
                            clear hK K
                            try simp only [Act.put, List.getElem_toArray, List.getElem_cons_succ, List.getElem_cons_zero, List.setIfInBounds_toArray, List.set_cons_zero, List.set_cons_succ]
                            refine wpAnyH_take (i := 11) (v := ?_) rfl (by kernel_rfl) (by kernel_rfl) (by kernel_rfl) (fun _ _ _ h => h) (Or.inl ⟨by kernel_rfl, ?_⟩) hHeld ?_
                            rotate_left
                            · intro wq hSw
                              go_simp
                              all_goals with_reducible rfl
                            try simp only [Act.put, List.getElem_toArray, List.getElem_cons_succ, List.getElem_cons_zero, List.setIfInBounds_toArray, List.set_cons_zero, List.set_cons_succ]
                            refine wpAnyH_take (i := 12) (v := ?_) rfl (by kernel_rfl) (by kernel_rfl) (by kernel_rfl) (fun _ _ _ h => h) (Or.inl ⟨by kernel_rfl, ?_⟩) hHeld ?_
                            rotate_left
                            · intro wq hSw
                              go_simp
                              all_goals with_reducible rfl
                            try simp only [Act.put, List.getElem_toArray, List.getElem_cons_succ, List.getElem_cons_zero, List.setIfInBounds_toArray, List.set_cons_zero, List.set_cons_succ]
                            refine wpAnyH_take (i := 13) (v := ?_) rfl (by kernel_rfl) (by kernel_rfl) (by kernel_rfl) (fun _ _ _ h => h) (Or.inl ⟨by kernel_rfl, ?_⟩) hHeld ?_
                            rotate_left
                            · intro wq hSw
                              go_simp
                              all_goals with_reducible rfl
                            try simp only [Act.put, List.getElem_toArray, List.getElem_cons_succ, List.getElem_cons_zero, List.setIfInBounds_toArray, List.set_cons_zero, List.set_cons_succ]
                            refine wpAnyH_take (i := 14) (v := ?_) rfl (by kernel_rfl) (by kernel_rfl) (by kernel_rfl) (fun _ _ _ h => h) (Or.inl ⟨by kernel_rfl, ?_⟩) hHeld ?_
                            rotate_left
                            · intro wq hSw
                              go_simp
                              all_goals with_reducible rfl
                            try simp only [Act.put, List.getElem_toArray, List.getElem_cons_succ, List.getElem_cons_zero, List.setIfInBounds_toArray, List.set_cons_zero, List.set_cons_succ]
                            refine wpAnyH_take (i := 15) (v := ?_) rfl (by kernel_rfl) (by kernel_rfl) (by kernel_rfl) (fun _ _ _ h => h) (Or.inl ⟨by kernel_rfl, ?_⟩) hHeld ?_
                            rotate_left
                            · intro wq hSw
                              go_simp
                              all_goals with_reducible rfl
                            try simp only [Act.put, List.getElem_toArray, List.getElem_cons_succ, List.getElem_cons_zero, List.setIfInBounds_toArray, List.set_cons_zero, List.set_cons_succ]
                            refine wpAnyH_take (i := 16) (v := ?_) rfl (by kernel_rfl) (by kernel_rfl) (by kernel_rfl) (fun _ _ _ h => h) (Or.inl ⟨by kernel_rfl, ?_⟩) hHeld ?_
                            rotate_left
                            · intro wq hSw
                              go_simp
                              all_goals with_reducible rfl
                            try simp only [Act.put, List.getElem_toArray, List.getElem_cons_succ, List.getElem_cons_zero, List.setIfInBounds_toArray, List.set_cons_zero, List.set_cons_succ]
                            refine wpAnyH_take (i := 17) (v := ?_) rfl (by kernel_rfl) (by kernel_rfl) (by kernel_rfl) (fun _ _ _ h => h) (Or.inl ⟨by kernel_rfl, ?_⟩) hHeld ?_
                            rotate_left
                            · intro wq hSw
                              go_simp
                              all_goals with_reducible rfl
                            try simp only [Act.put, List.getElem_toArray, List.getElem_cons_succ, List.getElem_cons_zero, List.setIfInBounds_toArray, List.set_cons_zero, List.set_cons_succ]
                            refine wpAnyH_take (i := 20) (v := ?_) rfl (by kernel_rfl) (by kernel_rfl) (by kernel_rfl) (fun _ _ _ h => h) (Or.inl ⟨by kernel_rfl, ?_⟩) hHeld ?_
                            rotate_left
                            · intro wq hSw
                              go_simp
                              all_goals with_reducible rfl
                            try simp only [Act.put, List.getElem_toArray, List.getElem_cons_succ, List.getElem_cons_zero, List.setIfInBounds_toArray, List.set_cons_zero, List.set_cons_succ]
                            refine wpAnyH_take (i := 21) (v := ?_) rfl (by kernel_rfl) (by kernel_rfl) (by kernel_rfl) (fun _ _ _ h => h) (Or.inl ⟨by kernel_rfl, ?_⟩) hHeld ?_
                            rotate_left
                            · intro wq hSw
                              go_simp
                              all_goals with_reducible rfl
                            try simp only [Act.put, List.getElem_toArray, List.getElem_cons_succ, List.getElem_cons_zero, List.setIfInBounds_toArray, List.set_cons_zero, List.set_cons_succ]
                            refine wpAnyH_take (i := 18) (v := .pointer (some ⟨pm, 0, none⟩)) rfl (by kernel_rfl) (by kernel_rfl) (by kernel_rfl) (fun _ _ _ h => h) (Or.inl ⟨by kernel_rfl, fun wq hSw => load_relT (x := .tmp 260) (by kernel_rfl) (by kernel_rfl) (hSw.1)⟩) hHeld ?_
                            try simp only [Act.put, List.getElem_toArray, List.getElem_cons_succ, List.getElem_cons_zero, List.setIfInBounds_toArray, List.set_cons_zero, List.set_cons_succ]
                            refine wpAnyH_take (i := 22) (v := .pointer (some ⟨pq, 0, none⟩)) rfl (by kernel_rfl) (by kernel_rfl) (by kernel_rfl) (fun _ _ _ h => h) (Or.inl ⟨by kernel_rfl, fun wq hSw => load_relT (x := .tmp 264) (by kernel_rfl) (by kernel_rfl) (hSw.2)⟩) hHeld ?_
                            try simp only [Act.put, List.getElem_toArray, List.getElem_cons_succ, List.getElem_cons_zero, List.setIfInBounds_toArray, List.set_cons_zero, List.set_cons_succ]
                            refine wpAnyH_ready (rs := [19]) (by kernel_rfl) (by simp) ?_
                            refine AllReadyH.cons rfl (fun K hK => ?_) AllReadyH.nil
                            go_simp
                            refine (HRM.out _ (Keep.drew (Keep.refl _))).mono ?_
                            rintro e w15 ⟨rfl, rfl⟩
                            refine hK.out _ _ hHeld (fun hHeld => ?_)
                            clear hK K
                            try simp only [Act.put, List.getElem_toArray, List.getElem_cons_succ, List.getElem_cons_zero, List.setIfInBounds_toArray, List.set_cons_zero, List.set_cons_succ]
                            refine wpAnyH_ready (rs := [23]) (by kernel_rfl) (by simp) ?_
                            refine AllReadyH.cons rfl (fun K hK => ?_) AllReadyH.nil
                            go_simp
                            refine (HRQ.out _ (Keep.drew (Keep.refl _))).mono ?_
                            rintro e w16 ⟨rfl, rfl⟩
                            refine hK.out _ _ hHeld (fun hHeld => ?_)
                            clear hK K
                            try simp only [Act.put, List.getElem_toArray, List.getElem_cons_succ, List.getElem_cons_zero, List.setIfInBounds_toArray, List.set_cons_zero, List.set_cons_succ]
                            refine wpAnyH_take (i := 24) (v := ?_) rfl (by kernel_rfl) (by kernel_rfl) (by kernel_rfl) (fun _ _ _ h => h) (Or.inl ⟨by kernel_rfl, ?_⟩) hHeld ?_
                            rotate_left
                            · intro wq hSw
                              go_simp
                              all_goals with_reducible rfl
                            try simp only [Act.put, List.getElem_toArray, List.getElem_cons_succ, List.getElem_cons_zero, List.setIfInBounds_toArray, List.set_cons_zero, List.set_cons_succ]
                            refine wpAnyH_take (i := 25) (v := ?_) rfl (by kernel_rfl) (by kernel_rfl) (by kernel_rfl) (fun _ _ _ h => h) (Or.inl ⟨by kernel_rfl, ?_⟩) hHeld ?_
                            rotate_left
                            · intro wq hSw
                              go_simp
                              all_goals with_reducible rfl
                            try simp only [Act.put, List.getElem_toArray, List.getElem_cons_succ, List.getElem_cons_zero, List.setIfInBounds_toArray, List.set_cons_zero, List.set_cons_succ]
                            refine wpAnyH_done (by kernel_rfl) ?_ _
                            refine NoPanic.normal ?_
                            clear hHeld
                            clear hpm hpq
                            go_wp2_with fail
                            go_roundw
                            case rel => exact ⟨i + 1, sn, R8, by omega, by omega, rfl, by have := HSQ.out; omega, by go_num, HI8.out.later (Keep.drew (Keep.refl _)), HL8.out⟩
                            case measure => simp [intOf]; omega
                        · skip
                          as_aux_lemma =>
                            have b0 : ((turn : Int) == 0) = false := by rw [beq_eq_false_iff_ne]; omega
                            have b1 : decide ((turn : Int) = 0) = false := decide_eq_false (by omega)
                            rw [HEE, if_neg h0, show (((20 : Nat) : Int)) = 20 from rfl]
                            obtain ⟨V8, hV8⟩ : ∃ x, tkV (Crc.flipN PV bit turn 32) = x := ⟨_, rfl⟩
                            rw [hV8]
                            obtain ⟨k', s', d', ep', lf', fl', gn', sq', fo', co', pay', rk', te', up', hp'⟩ := V8
                            obtain ⟨⟨Yc, yc, dc⟩, ⟨Yp, yp, dp⟩, ⟨Yr, yr, dr⟩, ⟨Yu, yu, du⟩, ⟨Yh, yh, dh⟩⟩ := m8
                            simp only [frCells]
                            have HI8 : Hid (∀ wx, Keep w8 wx → HopI3 w1 wx gr g s M R) := fun wx kx => HI5.out.later (K8.out.trans kx)
                            have HCT : Hid (∀ wx, Keep w8 wx → wx.cell? ⟨b3, off3 + i * 4 + 3, none⟩ = some (.int .u32 (turn : Int))) := fun wx kx => (HC.out wx (HKT.out.trans (k8.trans kx))).2.2.2
                            clear hf8 k8 hV8 HEE h0 ct a2
                            go_upto_region 40 with fail
                            obtain ⟨w9, hw9⟩ : ∃ wx, w8.alloc (.cells #[.int .i64 k', .int .i64 s', .int .i64 d', .int .u64 (ep' : Int), .int .u64 (lf' : Int), .int .i64 fl', .int .u64 (gn' : Int), .int .u64 (sq' : Int), .int .u64 (fo' : Int), .slice Yc yc dc, .slice Yp yp dp, .slice Yr yr dr, .int .u64 (te' : Int), .slice Yu yu du, .slice Yh yh dh] 52) = wx := ⟨_, rfl⟩
                            have k9 : Keep w8 w9 := by rw [← hw9]; exact (Keep.refl w8).alloc _ _
                            rw [hw9]
                            have ct := HCT.out w9 k9
                            have HI9 := Lib.hid (HI8.out w9 k9)
                            clear hw9 k9
                            go_wp2_with fail
                            go_roundw
                            case rel => exact ⟨i + 1, sn, R, by omega, by omega, rfl, by have := HSQ.out; omega, by go_num, HI9.out, HL.out⟩
                            case measure => simp [intOf]; omega
              | false =>
                clear hqz
                go_upto_region 47 with fail
                exact top_last w w1 _ gr g s cs As M R p0 r0 p1 r1 sM MM K1 HI HL _ _ _ _ _ _ _ _ _ _ _ _ _ _ _ _ _ _ _ _ _ _ _ _ _ _ _ _ _ _ _ _ _ _ _ _ _ _ _ _ _ _ _ _ _ _ _ _ _ _ _ _ _ _ _ _ _ _ _ _ _ _ _ _ _ _ _ _ _ _ _ _ _ _ _ _ _ _ _ _ _ _ _ _ _ _ _ _ _ _ _ _ _ _ _ _ _ _ _ _ _ _ _ _ _ _ _ _ _ _ _ _ _ _ _ _ _ _ _ _ _ _ _ _ _ _ _ _ _ _ _ _ _ _ _ _ _ _ _ _ _ _ _ _ _ _ _ _ _ _ _ _ _ _ _ _ _ _ _ _ _ _ _ _ _ _ _ _ _ _ _ _ _ _ _ _ _ _ _ _ _ _ _ _ _ _ _ _ _ _ _ _ _ _ _ _ _ _ _ _ _ _ _ _ _ _ _ _ _ _ _ _ _ _ _ _ _ _ _ _ _ _ _ _ _ _ _ _ _ _ _ _ _ _ _ _ _ _ _ _ _ _ _ _ _ _ _ _ _ _ _ _ _ _ _ _ _ _ _ _ _ _ _ _ _ _ _ _ _ _ _ _ _ _ _ _ _ _ _ _ _ _ _ _ _ _ _ _ _ _ _ _ _ _ _ _ _ _ _ _ _ _ _ _ _ _ _ _ _ _ _ _ _ _ _ _ _ _ _ _ _ _ _ _ _ _ _ _ _ _ _ _ _ _ _ _ _ _ _ _ (by assumption) (by assumption)
end Go.Proofs.YtifopodnceopjaaGreatDoor
