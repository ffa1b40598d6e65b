/- The walk of RelayHops. -/
import Derived.Test.YtcjjhblgejkkeaaGreatRhp
import Derived.Test.YtcjjhblgejkkeaaGreatRps
import Derived.Test.YtcjjhblgejkkeaaGreatRpl
import Derived.Test.YtcjjhblgejkkeaaGreatRtr
import Derived.Test.YtcjjhblgejkkeaaGreatRwk
import Derived.Test.YtcjjhblgejkkeaaGreatRs1
import Derived.Test.YtcjjhblgejkkeaaGreatArr
import Derived.Deep.DeepCutAuto
import Derived.Deep.CutBlock
namespace Go.Proofs.YtcjjhblgejkkeaaGreat
open Go.RowKit Lin
set_option linter.unusedVariables false
set_option linter.unusedSimpArgs false
/-- Four relays, the array of them, and true rows in them. -/
structure HopI (w1 w : World) (gr g s : Nat) (M : List (List Nat)) (R : Nat → RelS) : Prop where
  n : RlN w1 w 4 g s 2 R (fun x => x = gr)
  pt : Ptrs w gr 4 R
  h : Hop g s M R
theorem HopI.later {w1 w w2 : World} {gr g s : Nat} {M : List (List Nat)} {R : Nat → RelS} (h : HopI w1 w gr g s M R) (k : Keep w w2) : HopI w1 w2 gr g s M R := ⟨h.n.later k, h.pt.keep k, h.h⟩
theorem HopI.rel {w1 w : World} {gr g s : Nat} {M : List (List Nat)} {R : Nat → RelS} (h : HopI w1 w gr g s M R) {i : Nat} (hi : i < 4) : RelR w (R i).F (R i).p g s 2 0 (R i).L := by
  have h1 := h.n.rel i hi
  rwa [h.h.b i hi] at h1
theorem HopI.at_ {w1 w : World} {gr g s : Nat} {M : List (List Nat)} {R : Nat → RelS} (h : HopI w1 w gr g s M R) {i : Nat} (hi : i < 4) : w.cell? ⟨gr, i, none⟩ = some (.pointer (some ⟨(R i).p, 0, none⟩)) := h.pt.at_ hi (Nat.le_refl _)
/-- One of them took a row. -/
theorem HopI.put {w1 w w2 : World} {gr g s : Nat} {M : List (List Nat)} {R : Nat → RelS} (h : HopI w1 w gr g s M R) {i : Nat} {F' : Nat → Prop} {row : List Nat} (hi : i < 4) (r : RelR w2 F' (R i).p g s 2 0 (upd (R i).L 1 (insB g s ((R i).L 1) row))) (f : ∀ x, F' x → (R i).F x ∨ w.heap.size ≤ x) (t : Turned (R i).F w w2)
    (hl : row.length = g + s) (ha : AllB row) (hr : InSpan g (symR g M) (vec row)) (hp : ∀ j, j + 1 = i → InSpan ((R j).L 1).length (fn ((R j).L 1)) (vec row)) : ∃ R', HopI w1 w2 gr g s M R' ∧ ∀ j, (R' j).p = (R j).p := by
  have e : ∀ j, (updR R i ⟨(R i).p, F', 0, upd (R i).L 1 (insB g s ((R i).L 1) row)⟩ j).p = (R j).p := fun j => by
    by_cases e : j = i
    · subst e; rw [updR_at]
    · rw [updR_ne _ _ e]
  exact ⟨_, ⟨h.n.put hi r f t, (h.pt.turned t fun e => (h.n.d gr rfl).2 i hi e).congr fun j _ => e j, h.h.took hi hl ha hr hp⟩, e⟩
set_option maxRecDepth 100000 in
set_option maxHeartbeats 8000000 in
theorem rhops_any (n1 n2 n3 n4 c1 c2 c3 c4 s0 s1 : Nat) (A1 A2 A3 A4 : Option Addr) (xs ys : List Nat) (rs2 rs4 : List RowV) (w : World) (h1 : Bytes w w.heap.size A1 n1 xs) (h2 : RowsAt w w.heap.size A2 n2 rs2) (h3 : Bytes w w.heap.size A3 n3 ys) (h4 : RowsAt w w.heap.size A4 n4 rs4) (m1 : n1 ≤ 140737488355328) (m2 : n2 ≤ 140737488351232) (m3 : n3 ≤ 140737488355328) (m4 : n4 ≤ 140737488351232) (b0 : s0 < 256) (b1 : s1 < 256) :
    Calls Tryz.prog 5 #[.slice A1 n1 c1, .agg #[.int .u8 (s0 : Int), .int .u8 (s1 : Int)], .slice A2 n2 c2, .slice A3 n3 c3, .slice A4 n4 c4] w fun e w' => e = .returned (.bool true) ∧ Keep w w' := by
  have H1 := Lib.hid h1
  have H2 := Lib.hid h2
  have H3 := Lib.hid h3
  have H4 := Lib.hid h4
  obtain ⟨q0, hq0⟩ : ∃ q, s0 % 4 = q := ⟨_, rfl⟩
  obtain ⟨g, hk0⟩ : ∃ k, 1 + q0 = k := ⟨_, rfl⟩
  obtain ⟨q1, hq1⟩ : ∃ q, s1 % 4 = q := ⟨_, rfl⟩
  obtain ⟨s, hk1⟩ : ∃ k, 1 + q1 = k := ⟨_, rfl⟩
  have d1 : (s0 : Int) % 4 = (q0 : Int) := by omega
  have d2 : 1 + (q0 : Int) = (g : Int) := by omega
  have d3 : (s1 : Int) % 4 = (q1 : Int) := by omega
  have d4 : 1 + (q1 : Int) = (s : Int) := by omega
  have p0 : 1 ≤ g := by omega
  have r0 : g ≤ 4 := by omega
  have p1 : 1 ≤ s := by omega
  have r1 : s ≤ 4 := by omega
  obtain ⟨M, hM⟩ : ∃ M, shapeN xs g s = M := ⟨_, rfl⟩
  have sM : Hid (Sz g s M) := hM ▸ shape_sz xs g s h1.all
  have EM := Lib.hid hM
  clear h1 h2 h3 h4 hM hq0 hq1 hk0 hk1
  go_enter Tryz.func5, Tryz.ntmps5
  go_upto_region 1 with fail
  have hbk := heap_alloc_new w (.cells #[.int .u8 (s0 : Int), .int .u8 (s1 : Int)] 70)
  have kb : Keep w (w.alloc (.cells #[.int .u8 (s0 : Int), .int .u8 (s1 : Int)] 70)) := (Keep.refl w).alloc _ _
  obtain ⟨gs, hgs⟩ : ∃ g, w.heap.size = g := ⟨_, rfl⟩
  rw [hgs] at hbk
  simp only [hgs]
  have cs0 : (w.alloc (.cells #[.int .u8 (s0 : Int), .int .u8 (s1 : Int)] 70)).cell? ⟨gs, 0, none⟩ = some (.int .u8 (s0 : Int)) := by simp [World.cell?, hbk]
  have cs1 : (w.alloc (.cells #[.int .u8 (s0 : Int), .int .u8 (s1 : Int)] 70)).cell? ⟨gs, 1, none⟩ = some (.int .u8 (s1 : Int)) := by simp [World.cell?, hbk]
  clear hbk hgs
  have KB0 := Lib.hid kb
  generalize w.alloc (.cells #[.int .u8 (s0 : Int), .int .u8 (s1 : Int)] 70) = wb at *
  clear kb
  go_wp2_with fail
  go_quiet (fail)
  have KB := Lib.hid (KB0.out.drewN nq)
  generalize wb.drewN nq = w0 at *
  clear cs0 cs1 KB0 d1 d2 d3 d4
  go_wp2_with fail
  refine (symbols_mat _ n1 c1 g s A1 xs _ (H1.out.keep (Nat.le_refl _) KB.out) KB.out.size m1 (by omega) (by omega)).mono ?_
  rw [EM.out]
  rintro e w1 ⟨As, na, cs, rfl, mm, kk1⟩
  obtain rfl : g = na := (mm.cnt sM.out).symm
  have MM := Lib.hid mm
  have K1 := Lib.hid (KB.out.trans kk1)
  clear mm kk1 KB
  go_wp2_with fail
  have hkw := (Keep.refl w1).alloc #[.pointer none, .pointer none, .pointer none, .pointer none] 79
  have hpt := Ptrs.start w1 (fun _ => ⟨0, fun _ => False, 0, fun _ => []⟩)
  have hszA : (w1.alloc (.cells #[.pointer none, .pointer none, .pointer none, .pointer none] 79)).heap.size = w1.heap.size + 1 := by simp
  obtain ⟨gr, hgr⟩ : ∃ q, w1.heap.size = q := ⟨_, rfl⟩
  obtain ⟨wa, hwa⟩ : ∃ x, w1.alloc (.cells #[.pointer none, .pointer none, .pointer none, .pointer none] 79) = x := ⟨_, rfl⟩
  rw [hgr] at hpt hszA
  rw [hwa] at hkw hpt hszA
  have HN0 : Hid (RlN w1 wa 0 g s 2 (fun _ => ⟨0, fun _ => False, 0, fun _ => []⟩) (fun x => x = gr)) := ((RlN.start w1 _).widen hkw).narrow fun x hx => Or.inr (by omega)
  have HP0 := Lib.hid hpt
  have HGR : Hid (w1.heap.size ≤ gr) := Nat.le_of_eq hgr
  clear hkw hpt hszA
  try simp only [hgr]
  try rw [hwa]
  try rw [hgr]
  clear hwa hgr
  go_loopw [15] (fun iv wr => ∃ (i : Nat) (R : Nat → RelS), i ≤ 4 ∧ iv = .int .i64 (i : Int) ∧ RlN w1 wr i g s 2 R (fun x => x = gr) ∧ Ptrs wr gr i R ∧ ∀ j, j < i → (R j).b = 0 ∧ (R j).L = fun _ => []) (fun iv _ => 4 - (intOf iv).toNat)
  case atStart => exact ⟨0, _, by omega, rfl, HN0.out, HP0.out, fun j hj => by omega⟩
  case round =>
    clear HN0 HP0
    obtain ⟨i, R, hi, rfl, hN, hP, hR⟩ := hrel
    have HN := Lib.hid hN
    have HP := Lib.hid hP
    have HRR := Lib.hid hR
    clear hN hP hR
    by_cases hlt : i < 4
    · have e0 : (0 : Int) ≤ (i : Int) := Int.natCast_nonneg _
      have e1 : (i : Int) < 4 := by omega
      as_aux_lemma =>
        go_wp2_with fail
        refine (relnew_in (g := g) (s := s) (k := 2) p0 (by omega) p1 (by omega) (by decide) (by decide) _).mono ?_
        rintro e w5 ⟨px, Fx, rfl, rx, fx, k5⟩
        have hn := HN.out.set (i := i) (m' := i + 1) rx fx k5 (fun j hj => by omega)
        have hp5 := HP.out.keep k5
        have hcl := hp5.cell (j := i) hlt
        rw [if_neg (Nat.lt_irrefl _)] at hcl
        have hfr := hp5.free i
        have hn2 := hn.other (w2 := w5.setCell ⟨gr, i, none⟩ (.pointer (some ⟨px, 0, none⟩))) (Turned.set (F := fun x => x = gr) w5 ⟨gr, i, none⟩ _ rfl) fun x hx => ⟨by rw [hx]; exact HGR.out, fun l hl => (hn.d x hx).2 l hl⟩
        have HN2 := Lib.hid hn2
        have HP2 := Lib.hid (hp5.set hlt ⟨px, Fx, 0, fun _ => []⟩)
        have HR2 : Hid (∀ j, j < i + 1 → (updR R i ⟨px, Fx, 0, fun _ => []⟩ j).b = 0 ∧ (updR R i ⟨px, Fx, 0, fun _ => []⟩ j).L = fun _ => []) := fun j hj => by
          by_cases e : j = i
          · subst e; rw [updR_at]; exact ⟨rfl, rfl⟩
          · rw [updR_ne _ _ e]; exact HRR.out j (by omega)
        clear hn hp5 hn2 rx fx k5
        go_wp2_with fail
        go_roundw
        case rel => exact ⟨i + 1, _, by omega, by go_num, HN2.out, HP2.out, HR2.out⟩
        case measure => simp [intOf]; omega
    · have hi4 : i = 4 := by omega
      have HI : Hid (HopI w1 wr gr g s M R) := ⟨hi4 ▸ HN.out, hi4 ▸ HP.out, Hop.start (hi4 ▸ HRR.out)⟩
      have e1 : ¬ (i : Int) < 4 := by omega
      have e2 : decide ((i : Int) < 4) = false := decide_eq_false e1
      clear HN HP HRR hi4 hi hlt
      go_wp2_with fail
      clear e1 e2
      go_loopw [16] (fun iv wr => ∃ (i : Nat) (R : Nat → RelS), i ≤ n2 ∧ i ≤ 8 ∧ iv = .int .i64 (i : Int) ∧ HopI w1 wr gr g s M R) (fun iv _ => n2 - (intOf iv).toNat)
      case atStart => exact ⟨0, R, by omega, by omega, rfl, HI.out⟩
      case round =>
        clear HI
        obtain ⟨i, R, hi, hi8, rfl, hI⟩ := hrel
        have HI := Lib.hid hI
        clear hI
        have e0 : (0 : Int) ≤ (i : Int) := Int.natCast_nonneg _
        go_upto_region 9 with fail
        go_cut [63] from 56 to 74 (fun v wx => ∃ q : Bool, v = .bool q ∧ wx = wr ∧ (q = true → i < n2 ∧ i < 8))
        case first =>
          as_aux_lemma =>
            by_cases f1 : i < n2
            · have f1' : decide ((i : Int) < (n2 : Int)) = true := decide_eq_true (by omega)
              have f1'' : (i : Int) < (n2 : Int) := by omega
              by_cases f3 : i < 8
              · have f3' : decide ((i : Int) < 8) = true := decide_eq_true (by omega)
                have f3'' : decide (i < 8) = true := decide_eq_true f3
                go_wp2_with fail
                go_meet
                case rel => exact ⟨true, rfl, rfl, fun _ => ⟨f1, f3⟩⟩
              · have f3' : decide ((i : Int) < 8) = false := decide_eq_false (by omega)
                have f3'' : decide (i < 8) = false := decide_eq_false f3
                go_wp2_with fail
                go_meet
                case rel => exact ⟨false, rfl, rfl, fun e => by cases e⟩
            · have f1' : decide ((i : Int) < (n2 : Int)) = false := decide_eq_false (by omega)
              have f1'' : ¬ (i : Int) < (n2 : Int) := by omega
              go_wp2_with fail
              go_meet
              case rel => exact ⟨false, rfl, rfl, fun e => by cases e⟩
        case rest =>
          obtain ⟨q, rfl, rfl, hq⟩ := hcut
          cases q with
          | true =>
            as_aux_lemma =>
              obtain ⟨f1, f3⟩ := hq rfl
              clear hq
              have f1'' : (i : Int) < (n2 : Int) := by omega
              obtain ⟨b, off, r, rfl, hb, hr, hck, hby, hrn, hrc⟩ := (H2.out.keep (Nat.le_refl _) (K1.out.trans HI.out.n.keep)).at_ f1
              have HX : Hid (AllB r.xs) := hby.2.1
              have HKW := Lib.hid (K1.out.trans HI.out.n.keep)
              have HBB := Lib.hid (H2.out.2.1 r (List.mem_of_getElem? hr)).1
              have HTT := Lib.hid (true_row sM.out (x := fillN r.xs g) (fillN_len r.xs g) (fillN_all HX.out g))
              have htr := fun (w' : World) (kw : Keep wc w') => truth_any _ r.n r.c g s cs r.A As r.xs M w' (HBB.out.keep (Nat.le_refl _) (HKW.out.trans kw)) (HKW.out.trans kw).size (MM.out.keep (HI.out.n.keep.trans kw)) sM.out p0 (by omega) (by omega)
              have HTR := Lib.hid htr
              have HGL : Hid (gr < wc.heap.size) := HI.out.pt.lt
              have HBL : Hid (b < wc.heap.size) := Nat.lt_of_lt_of_le hb (HKW.out).size
              have HBW : Hid (b < w1.heap.size) := Nat.lt_of_lt_of_le hb K1.out.size
              obtain ⟨px, hpx0⟩ : ∃ p, (R 0).p = p := ⟨_, rfl⟩
              have hpx := HI.out.at_ (i := 0) (by omega)
              rw [hpx0] at hpx
              have HPX := Lib.hid hpx0
              clear hb hr hby hrn hrc htr hpx0
              go_upto_region 11 with fail
              refine wp_region_noPanic ?_
              refine wp_region_held_drew (S := fun wz => wz.cell? ⟨gr, 0, none⟩ = some (.pointer (some ⟨px, 0, none⟩)) ∧ wz.cell? ⟨b, off + i, none⟩ = some (.slice r.A r.n r.c)) (by kernel_rfl) ⟨hpx, hck⟩ (fun hHeld => ?_)
              refine wpAnyH_take (i := 0) (v := ?_) rfl (by kernel_rfl) (by kernel_rfl) (by kernel_rfl) (fun _ _ _ h => h) (Or.inl ⟨by rfl, ?_⟩) hHeld ?_
              rotate_left
              · intro wq hSw
                go_simp
                all_goals with_reducible rfl
              try simp only [Act.put, List.getElem_toArray, List.getElem_cons_succ, List.getElem_cons_zero, List.setIfInBounds_toArray, List.set_cons_zero, List.set_cons_succ]
              refine wpAnyH_take (i := 1) (v := ?_) rfl (by kernel_rfl) (by kernel_rfl) (by kernel_rfl) (fun _ _ _ h => h) (Or.inl ⟨by rfl, ?_⟩) hHeld ?_
              rotate_left
              · intro wq hSw
                have q0 := hSw.1
                go_simp
                all_goals with_reducible rfl
              try simp only [Act.put, List.getElem_toArray, List.getElem_cons_succ, List.getElem_cons_zero, List.setIfInBounds_toArray, List.set_cons_zero, List.set_cons_succ]
              refine wpAnyH_take (i := 2) (v := ?_) rfl (by kernel_rfl) (by kernel_rfl) (by kernel_rfl) (fun _ _ _ h => h) (Or.inl ⟨by rfl, ?_⟩) hHeld ?_
              rotate_left
              · intro wq hSw
                go_simp
                all_goals with_reducible rfl
              try simp only [Act.put, List.getElem_toArray, List.getElem_cons_succ, List.getElem_cons_zero, List.setIfInBounds_toArray, List.set_cons_zero, List.set_cons_succ]
              refine wpAnyH_take (i := 3) (v := ?_) rfl (by kernel_rfl) (by kernel_rfl) (by kernel_rfl) (fun _ _ _ h => h) (Or.inl ⟨by rfl, ?_⟩) hHeld ?_
              rotate_left
              · intro wq hSw
                go_simp
                all_goals with_reducible rfl
              try simp only [Act.put, List.getElem_toArray, List.getElem_cons_succ, List.getElem_cons_zero, List.setIfInBounds_toArray, List.set_cons_zero, List.set_cons_succ]
              refine wpAnyH_take (i := 4) (v := ?_) rfl (by kernel_rfl) (by kernel_rfl) (by kernel_rfl) (fun _ _ _ h => h) (Or.inl ⟨by rfl, ?_⟩) hHeld ?_
              rotate_left
              · intro wq hSw
                go_simp
                all_goals with_reducible rfl
              try simp only [Act.put, List.getElem_toArray, List.getElem_cons_succ, List.getElem_cons_zero, List.setIfInBounds_toArray, List.set_cons_zero, List.set_cons_succ]
              refine wpAnyH_take (i := 5) (v := ?_) rfl (by kernel_rfl) (by kernel_rfl) (by kernel_rfl) (fun _ _ _ h => h) (Or.inl ⟨by rfl, ?_⟩) hHeld ?_
              rotate_left
              · intro wq hSw
                have q0 := hSw.2
                go_simp
                all_goals with_reducible rfl
              try simp only [Act.put, List.getElem_toArray, List.getElem_cons_succ, List.getElem_cons_zero, List.setIfInBounds_toArray, List.set_cons_zero, List.set_cons_succ]
              refine wpAnyH_take (i := 6) (v := ?_) rfl (by kernel_rfl) (by kernel_rfl) (by kernel_rfl) (fun _ _ _ h => h) (Or.inl ⟨by rfl, ?_⟩) hHeld ?_
              rotate_left
              · intro wq hSw
                go_simp
                all_goals with_reducible rfl
              try simp only [Act.put, List.getElem_toArray, List.getElem_cons_succ, List.getElem_cons_zero, List.setIfInBounds_toArray, List.set_cons_zero, List.set_cons_succ]
              refine wpAnyH_ready (rs := [7]) (by kernel_rfl) (by simp) ?_
              refine AllReadyH.cons rfl (fun K hK => ?_) AllReadyH.nil
              go_simp
              refine (HTR.out _ (Keep.drew (Keep.refl _))).mono ?_
              rintro e w5 ⟨A5, c5, A6, c6, rfl, o5, o6, l5, l6, k5⟩
              have k5' : Keep wc w5 := (Keep.drew (Keep.refl wc)).trans k5
              have hq : w5.cell? ⟨gr, 0, none⟩ = some (.pointer (some ⟨px, 0, none⟩)) ∧ w5.cell? ⟨b, off + i, none⟩ = some (.slice r.A r.n r.c) := ⟨(World.cell?_of_block (k5'.block _ HGL.out)).trans hpx, (World.cell?_of_block (k5'.block _ HBL.out)).trans hck⟩
              have hrel := (HI.out.later k5').rel (i := 0) (by omega)
              rw [HPX.out] at hrel
              have HTK := Lib.hid (rl_take_in hrel 1 (by decide) (by decide) _ _ c5 c6 A5 A6 _ _ l5 l6 o5.bytes o6.bytes (Nat.le_refl _) (Nat.le_refl _))
              have HI5 := Lib.hid (HI.out.later k5')
              have HK5 := Lib.hid k5'
              clear o5 o6 l5 l6 k5 k5' hrel
              refine hK.out _ _ hq (fun hHeld => ?_)
              clear hK K
              try simp only [Act.put, List.getElem_toArray, List.getElem_cons_succ, List.getElem_cons_zero, List.setIfInBounds_toArray, List.set_cons_zero, List.set_cons_succ]
              refine wpAnyH_ready (rs := [8]) (by kernel_rfl) (by simp) ?_
              refine AllReadyH.cons rfl (fun K hK => ?_) AllReadyH.nil
              go_simp
              refine (HTK.out).mono ?_
              rintro e w8 ⟨rfl, F8, r8, f8, t8⟩
              have h8 := HI5.out.put (i := 0) (by omega) (by rw [HPX.out]; exact r8) f8 t8 HTT.out.1 HTT.out.2.1 HTT.out.2.2 (fun j e => by omega)
              obtain ⟨R8, hI8, hP8⟩ := h8
              have HI8 := Lib.hid hI8
              have hq8 : w8.cell? ⟨gr, 0, none⟩ = some (.pointer (some ⟨px, 0, none⟩)) ∧ w8.cell? ⟨b, off + i, none⟩ = some (.slice r.A r.n r.c) := ⟨by rw [hI8.at_ (i := 0) (by omega), hP8, HPX.out], t8.cell hq.2 fun e => by have : w1.heap.size ≤ b := HI.out.n.lo 0 (by omega) _ e; have := HBW.out; omega⟩
              clear r8 f8 t8 hI8 hP8 HTK
              refine hK.out _ _ hq8 (fun hHeld => ?_)
              clear hK K
              try simp only [Act.put, List.getElem_toArray, List.getElem_cons_succ, List.getElem_cons_zero, List.setIfInBounds_toArray, List.set_cons_zero, List.set_cons_succ]
              refine wpAnyH_done (by kernel_rfl) ?_ _
              refine NoPanic.normal ?_
              clear hHeld
              clear hq hq8
              go_wp2_with fail
              go_roundw
              case rel => exact ⟨i + 1, R8, by omega, by omega, by go_num, HI8.out⟩
              case measure => simp [intOf]; omega
          | false =>
            clear hq
            go_wp2_with fail
            as_aux_lemma =>
              go_loopw [17] (fun iv wr => ∃ (i : Nat) (R : Nat → RelS), i ≤ n3 ∧ i ≤ 60 ∧ iv = .int .i64 (i : Int) ∧ HopI w1 wr gr g s M R) (fun iv _ => n3 - (intOf iv).toNat)
              case atStart => exact ⟨0, R, by omega, by omega, rfl, HI.out⟩
              case round =>
                clear HI
                obtain ⟨i, R, hi, hi60, rfl, hI⟩ := hrel
                have HI := Lib.hid hI
                clear hI
                have e0 : (0 : Int) ≤ (i : Int) := Int.natCast_nonneg _
                go_upto_region 13 with fail
                go_cut [82] from 75 to 124 (fun v wx => ∃ q : Bool, v = .bool q ∧ wx = wr ∧ (q = true → i < n3 ∧ i < 60))
                case first =>
                  as_aux_lemma =>
                    by_cases f1 : i < n3
                    · have f1' : decide ((i : Int) < (n3 : Int)) = true := decide_eq_true (by omega)
                      have f1'' : (i : Int) < (n3 : Int) := by omega
                      by_cases f3 : i < 60
                      · have f3' : decide ((i : Int) < 60) = true := decide_eq_true (by omega)
                        have f3'' : decide (i < 60) = true := decide_eq_true f3
                        go_wp2_with fail
                        go_meet
                        case rel => exact ⟨true, rfl, rfl, fun _ => ⟨f1, f3⟩⟩
                      · have f3' : decide ((i : Int) < 60) = false := decide_eq_false (by omega)
                        have f3'' : decide (i < 60) = false := decide_eq_false f3
                        go_wp2_with fail
                        go_meet
                        case rel => exact ⟨false, rfl, rfl, fun e => by cases e⟩
                    · have f1' : decide ((i : Int) < (n3 : Int)) = false := decide_eq_false (by omega)
                      have f1'' : ¬ (i : Int) < (n3 : Int) := by omega
                      go_wp2_with fail
                      go_meet
                      case rel => exact ⟨false, rfl, rfl, fun e => by cases e⟩
                case rest =>
                  obtain ⟨q, rfl, rfl, hq⟩ := hcut
                  cases q with
                  | true =>
                    obtain ⟨f1, f3⟩ := hq rfl
                    clear hq
                    obtain ⟨wo, rfl⟩ : ∃ wo, wo = wc := ⟨_, rfl⟩
                    obtain ⟨y, hy⟩ : ∃ y, ys.getD i 0 = y := ⟨_, rfl⟩
                    obtain ⟨q, hq⟩ : ∃ q, y % 3 = q := ⟨_, rfl⟩
                    obtain ⟨m, hm⟩ : ∃ m, q + 1 = m := ⟨_, rfl⟩
                    have d1 : (y : Int) % 3 = (q : Int) := by omega
                    have hq3 : q < 3 := by omega
                    obtain ⟨b3, off3, rfl, hb, hck⟩ := (H3.out.keep (Nat.le_refl _) (K1.out.trans HI.out.n.keep)).at_ f1
                    rw [hy] at hck
                    have f1'' : (i : Int) < (n3 : Int) := by omega
                    clear hy hq hb
                    go_upto_region 17 with fail
                    clear hck
                    go_cut [94] from 75 to 124 (fun v wx => ∃ q2 : Bool, v = .bool q2 ∧ wx = wo ∧ (q2 = true → i < n4))
                    case first =>
                      by_cases f4 : i < n4
                      · have f4' : (i : Int) < (n4 : Int) := by omega
                        go_wp2_with fail
                        go_meet
                        case rel => exact ⟨true, rfl, rfl, fun _ => f4⟩
                      · have f4' : ¬ (i : Int) < (n4 : Int) := by omega
                        go_wp2_with fail
                        go_meet
                        case rel => exact ⟨false, rfl, rfl, fun e => by cases e⟩
                    case rest =>
                      obtain ⟨q2, rfl, hw2, hq2⟩ := hcut
                      obtain rfl : wo = wc := hw2.symm
                      have HQ2 := Lib.hid hq2
                      clear hq2
                      go_upto_if 94 with fail
                      go_cut [19] from 75 to 124 (fun v wx => ∃ (Ad : Option Addr) (nd cd : Nat) (zs : List Nat), v = .slice Ad nd cd ∧ wx = wo ∧ Bytes wo wo.heap.size Ad nd zs)
                      case first =>
                        as_aux_lemma =>
                          cases q2 with
                          | false =>
                            go_wp2_with fail
                            go_meet
                            case rel => exact ⟨none, 0, 0, [], rfl, rfl, Bytes.nil _ _ _⟩
                          | true =>
                            have f4 := HQ2.out rfl
                            have f4'' : (i : Int) < (n4 : Int) := by omega
                            obtain ⟨b4, off4, r4, rfl, hb, hr, hck, hby, hrn, hrc⟩ := (H4.out.keep (Nat.le_refl _) (K1.out.trans HI.out.n.keep)).at_ f4
                            have HBY := Lib.hid ((H4.out.2.1 r4 (List.mem_of_getElem? hr)).1.keep (Nat.le_refl _) (K1.out.trans HI.out.n.keep))
                            have HKW := Lib.hid (K1.out.trans HI.out.n.keep)
                            clear hb hr hby hrn hrc
                            go_wp2_with fail
                            go_meet
                            case rel => exact ⟨_, _, _, _, rfl, rfl, HBY.out.mono HKW.out.size⟩
                      case rest =>
                        obtain ⟨Ad, nd, cd, zs, rfl, hw3, hbd⟩ := hcut
                        obtain rfl : wo = wc := hw3.symm
                        have HBD := Lib.hid hbd
                        clear hbd HQ2
                        as_aux_lemma =>
                          have u1 : IntKind.u64.wrap (i : Int) = (i : Int) := IntWalk.u64_in _ (by omega)
                          have x0 : (0 : Int) ≤ (m : Int) := Int.natCast_nonneg _
                          have x1 : (m : Int) < 4 := by omega
                          have y0 : (0 : Int) ≤ (q : Int) := Int.natCast_nonneg _
                          have y1 : (q : Int) < 4 := by omega
                          have y2 : (q : Int) + 1 = (m : Int) := by omega
                          have y3 : IntKind.i64.wrap (m : Int) = (m : Int) := IntWalk.i64_in _ (by omega)
                          have y4 : IntKind.i64.wrap ((q : Int) + 1) = (m : Int) := by rw [y2]; exact y3
                          obtain ⟨pq, hpq0⟩ : ∃ p, (R q).p = p := ⟨_, rfl⟩
                          obtain ⟨B, hB⟩ : ∃ B, (R q).L 1 = B := ⟨_, rfl⟩
                          have hpq := HI.out.at_ (i := q) (by omega)
                          have hbas := And.intro (HI.out.h.bas q (by omega)) (HI.out.h.w q (by omega))
                          have hrel := HI.out.rel (i := q) (by omega)
                          rw [hpq0] at hpq hrel
                          rw [hB] at hbas
                          obtain ⟨z, hz⟩ : ∃ z, B.length = z := ⟨_, rfl⟩
                          have HPQ := Lib.hid hpq0
                          have HB := Lib.hid hB
                          have HBA := Lib.hid hbas
                          have HREL := Lib.hid hrel
                          have HZ := Lib.hid hz
                          clear hpq0 hB hbas hrel hz
                          by_cases hz0 : z = 0
                          · have hz1 : decide ((0 : Int) < (z : Int)) = false := decide_eq_false (by omega)
                            have hz2 : decide (0 < z) = false := decide_eq_false (by omega)
                            have hz3 : ¬ (0 : Int) < (z : Int) := by omega
                            have HSD := Lib.hid (rl_send_none (m := nd) (cb := cd) (Ab := Ad) HREL.out 1 i (by decide) (by decide) (by rw [HB.out]; exact HZ.out.trans hz0))
                            clear hz0
                            go_wp2_with fail
                            refine HSD.out.mono ?_
                            rintro e w9 ⟨A8, n8, c8, A9, n9, c9, rfl, -, -, k9⟩
                            have k9q : Keep wo (w9.alloc (.cells #[.slice A8 n8 c8, .slice A9 n9 c9] 34)) := k9.trans ((Keep.refl w9).alloc _ _)
                            have hpq9 := (HI.out.later k9q).at_ (i := q) (by omega)
                            rw [HPQ.out] at hpq9
                            have hrk := rl_rank ((HI.out.later k9q).rel (i := q) (by omega)) 1 (by decide)
                            rw [HPQ.out, HB.out, HZ.out] at hrk
                            have HRK := Lib.hid hrk
                            have HI9 := Lib.hid (HI.out.later k9q)
                            clear k9 k9q hrk HSD
                            go_wp2_with fail
                            refine HRK.out.mono ?_
                            rintro e w10 ⟨rfl, hw10⟩
                            rw [hw10]
                            clear hw10
                            go_wp2_with fail
                            go_roundw
                            case rel => exact ⟨i + 1, R, by omega, by omega, by go_num, HI9.out⟩
                            case measure => simp [intOf]; omega
                          · have hz1 : decide ((0 : Int) < (z : Int)) = true := decide_eq_true (by omega)
                            have hz2 : decide (0 < z) = true := decide_eq_true (by omega)
                            have hz3 : (0 : Int) < (z : Int) := by omega
                            have hsd := rl_send_in (cb := cd) HREL.out 1 i (by decide) (by omega) (by decide) (by rw [HB.out, HZ.out]; exact hz0) HBD.out (Nat.le_refl _)
                            rw [HB.out] at hsd
                            obtain ⟨snd, hsn⟩ : ∃ x, sendN g s B i zs = x := ⟨_, rfl⟩
                            have hin := send_in HBA.out.1 (t := i) HBD.out.2.1
                            have hsy := send_sym sM.out HBA.out.1 HBA.out.2 (t := i) HBD.out.2.1
                            rw [hsn] at hsd hin hsy
                            have HSD := Lib.hid hsd
                            have HSN := Lib.hid (And.intro hin hsy)
                            clear hsd hsn hin hsy
                            go_wp2_with fail
                            refine HSD.out.mono ?_
                            rintro e w9 ⟨A8, n8, c8, A9, n9, c9, rfl, o8, o9, k9⟩
                            have hl8 := o8.length
                            have hl9 := o9.length
                            rw [List.length_take, HSN.out.1.1] at hl8
                            rw [List.length_drop, HSN.out.1.1] at hl9
                            obtain rfl : g = n8 := by omega
                            obtain rfl : s = n9 := by omega
                            have r0 := row_block w9 (.slice A8 g c8) (.slice A9 s c9)
                            obtain ⟨wq, hwq⟩ : ∃ wq, w9.alloc (.cells #[.slice A8 g c8, .slice A9 s c9] 34) = wq := ⟨_, rfl⟩
                            have hlq : w9.heap.size < wq.heap.size := by rw [← hwq]; simp
                            rw [hwq] at r0
                            have HIQ := Lib.hid (HI.out.later (k9.trans r0.2.2))
                            have HO8 := Lib.hid (And.intro (o8.keep r0.2.2) (o9.keep r0.2.2))
                            have HC8 : Hid (g ≤ c8 ∧ s ≤ c9) := ⟨o8.cap, o9.cap⟩
                            have HSZ : Hid (wo.heap.size ≤ w9.heap.size) := k9.size
                            have HIC := Lib.hid HI.out
                            have hpq9 := HIQ.out.at_ (i := q) (by omega)
                            rw [HPQ.out] at hpq9
                            have hrk := rl_rank (HIQ.out.rel (i := q) (by omega)) 1 (by decide)
                            rw [HPQ.out, HB.out, HZ.out] at hrk
                            have HRK := Lib.hid hrk
                            have hq8 := And.intro r0.1 r0.2.1
                            obtain ⟨pm, hpm0⟩ : ∃ p, (R m).p = p := ⟨_, rfl⟩
                            have hpm := HIQ.out.at_ (i := m) (by omega)
                            rw [hpm0] at hpm
                            have HPM := Lib.hid hpm0
                            have htk := fun (w' : World) (kw : Keep wq w') => rl_take_in (HPM.out ▸ (HIQ.out.later kw).rel (i := m) (by omega)) 1 (by decide) (by decide) _ _ c8 c9 A8 A9 _ _ HC8.out.1 HC8.out.2 (HO8.out.1.bytes.keep (Nat.le_refl _) kw) (HO8.out.2.bytes.keep (Nat.le_refl _) kw) kw.size kw.size
                            rw [List.take_append_drop] at htk
                            have HTK := Lib.hid htk
                            have HTT : Hid (snd.length = g + s ∧ AllB snd ∧ InSpan g (symR g M) (vec snd) ∧ ∀ j, j + 1 = m → InSpan ((R j).L 1).length (fn ((R j).L 1)) (vec snd)) := ⟨HSN.out.1.1, HSN.out.1.2.1, HSN.out.2.1, fun j e => by
                              obtain rfl : q = j := by omega
                              rw [HB.out]; exact HSN.out.1.2.2⟩
                            clear o8 o9 k9 hl8 hl9 r0 hlq hrk hpm0 htk HSD
                            go_wp2_with fail
                            refine HRK.out.mono ?_
                            rintro e w10 ⟨rfl, hw10⟩
                            rw [hw10]
                            clear hw10 hpq9
                            go_upto_region 23 with fail
                            refine wp_region_noPanic ?_
                            refine wp_region_held_drew (S := fun wz => wz.cell? ⟨gr, m, none⟩ = some (.pointer (some ⟨pm, 0, none⟩)) ∧ wz.cell? ⟨w9.heap.size, 0, none⟩ = some (.slice A8 g c8) ∧ wz.cell? ⟨w9.heap.size, 1, none⟩ = some (.slice A9 s c9)) (by kernel_rfl) ⟨hpm, hq8⟩ (fun hHeld => ?_)
                            refine wpAnyH_take (i := 0) (v := ?_) rfl (by kernel_rfl) (by kernel_rfl) (by kernel_rfl) (fun _ _ _ h => h) (Or.inl ⟨by rfl, ?_⟩) hHeld ?_
                            rotate_left
                            · intro wq hSw
                              go_simp
                              all_goals with_reducible rfl
                            try simp only [Act.put, List.getElem_toArray, List.getElem_cons_succ, List.getElem_cons_zero, List.setIfInBounds_toArray, List.set_cons_zero, List.set_cons_succ]
                            refine wpAnyH_take (i := 1) (v := ?_) rfl (by kernel_rfl) (by kernel_rfl) (by kernel_rfl) (fun _ _ _ h => h) (Or.inl ⟨by rfl, ?_⟩) hHeld ?_
                            rotate_left
                            · intro wq hSw
                              have q0 := y2
                              have q1 := y3
                              go_simp
                              all_goals with_reducible rfl
                            try simp only [Act.put, List.getElem_toArray, List.getElem_cons_succ, List.getElem_cons_zero, List.setIfInBounds_toArray, List.set_cons_zero, List.set_cons_succ]
                            refine wpAnyH_take (i := 2) (v := ?_) rfl (by kernel_rfl) (by kernel_rfl) (by kernel_rfl) (fun _ _ _ h => h) (Or.inl ⟨by rfl, ?_⟩) hHeld ?_
                            rotate_left
                            · intro wq hSw
                              have q0 := x0
                              have q1 := x1
                              go_simp
                              all_goals with_reducible rfl
                            try simp only [Act.put, List.getElem_toArray, List.getElem_cons_succ, List.getElem_cons_zero, List.setIfInBounds_toArray, List.set_cons_zero, List.set_cons_succ]
                            refine wpAnyH_take (i := 3) (v := ?_) rfl (by kernel_rfl) (by kernel_rfl) (by kernel_rfl) (fun _ _ _ h => h) (Or.inl ⟨by rfl, ?_⟩) hHeld ?_
                            rotate_left
                            · intro wq hSw
                              have q0 := hSw.1
                              go_simp
                              all_goals with_reducible rfl
                            try simp only [Act.put, List.getElem_toArray, List.getElem_cons_succ, List.getElem_cons_zero, List.setIfInBounds_toArray, List.set_cons_zero, List.set_cons_succ]
                            refine wpAnyH_take (i := 4) (v := ?_) rfl (by kernel_rfl) (by kernel_rfl) (by kernel_rfl) (fun _ _ _ h => h) (Or.inl ⟨by rfl, ?_⟩) hHeld ?_
                            rotate_left
                            · intro wq hSw
                              have q0 := hSw.2.1
                              have q1 := hSw.2.2
                              go_simp
                              all_goals with_reducible rfl
                            try simp only [Act.put, List.getElem_toArray, List.getElem_cons_succ, List.getElem_cons_zero, List.setIfInBounds_toArray, List.set_cons_zero, List.set_cons_succ]
                            refine wpAnyH_ready (rs := [5]) (by kernel_rfl) (by simp) ?_
                            refine AllReadyH.cons rfl (fun K hK => ?_) AllReadyH.nil
                            go_simp
                            refine (HTK.out _ (Keep.drew (Keep.refl _))).mono ?_
                            rintro e w12 ⟨rfl, F8, r8, f8, t8⟩
                            have h8 := (HIQ.out.later (Keep.drew (Keep.refl _))).put (i := m) (by omega) (by rw [HPM.out]; exact r8) f8 t8 HTT.out.1 HTT.out.2.1 HTT.out.2.2.1 HTT.out.2.2.2
                            obtain ⟨R8, hI8, hP8⟩ := h8
                            have HI8 := Lib.hid hI8
                            have hq12 : w12.cell? ⟨gr, m, none⟩ = some (.pointer (some ⟨pm, 0, none⟩)) ∧ w12.cell? ⟨w9.heap.size, 0, none⟩ = some (.slice A8 g c8) ∧ w12.cell? ⟨w9.heap.size, 1, none⟩ = some (.slice A9 s c9) := ⟨by rw [hI8.at_ (i := m) (by omega), hP8, HPM.out], t8.cell (w := wq.drew) hq8.1 (fun e => by have : w9.heap.size < wo.heap.size := HIC.out.n.lt (i := m) (by omega) _ e; have := HSZ.out; omega), t8.cell (w := wq.drew) hq8.2 (fun e => by have : w9.heap.size < wo.heap.size := HIC.out.n.lt (i := m) (by omega) _ e; have := HSZ.out; omega)⟩
                            clear r8 f8 t8 hI8 hP8 HTK
                            refine hK.out _ _ hq12 (fun hHeld => ?_)
                            clear hK K
                            try simp only [Act.put, List.getElem_toArray, List.getElem_cons_succ, List.getElem_cons_zero, List.setIfInBounds_toArray, List.set_cons_zero, List.set_cons_succ]
                            refine wpAnyH_done (by kernel_rfl) ?_ _
                            refine NoPanic.normal ?_
                            clear hHeld
                            clear hq8 hq12
                            go_wp2_with fail
                            go_roundw
                            case rel => exact ⟨i + 1, R8, by omega, by omega, by go_num, HI8.out⟩
                            case measure => simp [intOf]; omega
                  | false =>
                    clear hq
                    as_aux_lemma =>
                      obtain ⟨wl, rfl⟩ : ∃ wl, wl = wc := ⟨_, rfl⟩
                      have HIL := Lib.hid HI.out
                      clear HI
                      go_wp2_with fail
                      go_loopw [22] (fun iv wz => ∃ i : Nat, i ≤ 4 ∧ iv = .int .i64 (i : Int) ∧ Keep wl wz) (fun iv _ => 4 - (intOf iv).toNat)
                      case atStart => exact ⟨0, by omega, rfl, Keep.refl _⟩
                      case round =>
                        obtain ⟨i, hi, rfl, hkl⟩ := hrel
                        have KL := Lib.hid hkl
                        clear hkl
                        by_cases hlt : i < 4
                        · have e0 : (0 : Int) ≤ (i : Int) := Int.natCast_nonneg _
                          have e1 : (i : Int) < 4 := by omega
                          obtain ⟨wo, rfl⟩ : ∃ wo, wo = wr := ⟨_, rfl⟩
                          obtain ⟨pi, hpi0⟩ : ∃ p, (R i).p = p := ⟨_, rfl⟩
                          obtain ⟨B, hB⟩ : ∃ B, (R i).L 1 = B := ⟨_, rfl⟩
                          have hI := HIL.out.later KL.out
                          have hpi := hI.at_ (i := i) (by omega)
                          have hrw := rl_rows (hI.rel (i := i) (by omega)) 1 (by decide)
                          have hba := And.intro (hI.h.bas i (by omega)) (hI.h.w i (by omega))
                          rw [hpi0] at hpi hrw
                          rw [hB] at hrw hba
                          obtain ⟨z, hz⟩ : ∃ z, B.length = z := ⟨_, rfl⟩
                          have hz5 : z ≤ g := by rw [← hz]; exact hba.1.length_le
                          have HZ := Lib.hid hz
                          have HBA := Lib.hid hba
                          have HB := Lib.hid hB
                          have HPI := Lib.hid hpi0
                          have HRW := Lib.hid hrw
                          have HI0 := Lib.hid hI
                          clear hpi0 hB hI hrw hba hz
                          go_wp2_with fail
                          refine HRW.out.mono ?_
                          rintro e w5 ⟨A5, n5, c5, psR, rfl, o5⟩
                          have hn5 : n5 = z := by
                            have h1 := o5.1.length
                            have h2 := congrArg List.length o5.2.2.1
                            rw [List.length_map, HZ.out] at h2
                            omega
                          obtain rfl : z = n5 := hn5.symm
                          have HO5 := Lib.hid o5
                          have HK5 := Lib.hid o5.2.2.2
                          have HI := Lib.hid (HI0.out.later o5.2.2.2)
                          have HSR : Hid (StIn w5 (fun b => wo.heap.size ≤ b ∧ b < w5.heap.size) A5 z psR) := o5.stIn
                          have HCA : Hid (psR.map (fun p => p.a.xs) = B.map (List.take g)) := by
                            show _ = _
                            rw [← o5.2.2.1, List.map_map]
                            refine List.map_congr_left fun p hp => ?_
                            show p.a.xs = (p.a.xs ++ p.b.xs).take g
                            rw [List.take_left' (by rw [(o5.2.1 p hp).1.length]; exact (o5.2.1 p hp).2.2.1)]
                          have HYS : Hid (∀ r ∈ B, r = rowV g s M (r.take g)) := bas_rows sM.out HBA.out.1 HBA.out.2
                          clear o5 hn5 HRW hpi
                          go_wp2_with fail
                          go_loopw [24] (fun kv wz => ∃ k : Nat, k ≤ z ∧ kv = .int .i64 (k : Int) ∧ Keep w5 wz) (fun kv _ => z - (intOf kv).toNat)
                          case atStart => exact ⟨0, by omega, rfl, Keep.refl _⟩
                          case round =>
                            obtain ⟨k, hk, rfl, hkk⟩ := hrel
                            have HKK := Lib.hid hkk
                            clear hkk
                            by_cases hlt2 : k < z
                            · have g0 : (0 : Int) ≤ (k : Int) := Int.natCast_nonneg _
                              have g1 : (k : Int) < (z : Int) := by omega
                              obtain ⟨b, off, ⟨⟨Aa, na, ca, xa⟩, ⟨Ab, nb, cb, xb⟩⟩, rfl, hb, hp, hca, hcb, la, lb⟩ := (HSR.out.turned (Turned.of_keep (F := fun _ => False) HKK.out) fun _ _ e => e).at_ hlt2
                              have hpm := List.mem_of_getElem? hp
                              have hl := HO5.out.2.1 _ hpm
                              obtain rfl : g = na := hl.2.2.1.symm
                              obtain rfl : s = nb := hl.2.2.2.symm
                              have hxa : xa.length = g := la.1
                              have hrow := HYS.out (xa ++ xb) (by rw [← HO5.out.2.2.1]; exact List.mem_map.2 ⟨_, hpm, rfl⟩)
                              rw [List.take_left' hxa] at hrow
                              have hxb : xb = payV g s M xa := List.append_cancel_left hrow
                              have hlt5 : ∀ b, (wo.heap.size ≤ b ∧ b < w5.heap.size) → b < wr.heap.size := fun b hb => Nat.lt_of_lt_of_le hb.2 HKK.out.size
                              have HIT := Lib.hid (istrue_any g s cs ca cb As Aa Ab M xa xb wr (la.bytes hlt5) (lb.bytes hlt5) (MM.out.keep (HI.out.n.keep.trans HKK.out)) sM.out p0 (by omega) (by omega) hxb)
                              clear hb hp la lb hpm hl hxa hrow hxb hlt5
                              go_wp2_with fail
                              refine HIT.out.mono ?_
                              rintro e w9 ⟨rfl, k9⟩
                              have HK9 := Lib.hid (HKK.out.trans k9)
                              clear k9 HIT
                              go_wp2_with fail
                              go_roundw
                              case rel => exact ⟨k + 1, by omega, by go_num, HK9.out⟩
                              case measure => simp [intOf]; omega
                            · obtain rfl : z = k := by omega
                              have HKR := Lib.hid HKK.out
                              clear HKK
                              go_upto_region 33 with fail
                              go_upto_if 147 with fail
                              go_cut [22] from 125 to 192 (fun v wx => v = .int .i64 (i : Int) ∧ Keep w5 wx)
                              case first =>
                                as_aux_lemma =>
                                  by_cases hi0 : i = 0
                                  · subst hi0
                                    go_wp2_with fail
                                    go_meet
                                    case rel => first | exact ⟨rfl, HKR.out⟩ | exact HKR.out
                                  · obtain ⟨m, hm⟩ : ∃ m, m + 1 = i := ⟨i - 1, by omega⟩
                                    have c1 : (0 : Int) < (i : Int) := by omega
                                    have c2 : decide ((0 : Int) < (i : Int)) = true := decide_eq_true c1
                                    have c3 : (i : Int) - 1 = (m : Int) := by omega
                                    have c4 : (0 : Int) ≤ (m : Int) := Int.natCast_nonneg _
                                    have c5' : (m : Int) < 4 := by omega
                                    obtain ⟨pm, hpm0⟩ : ∃ p, (R m).p = p := ⟨_, rfl⟩
                                    have HIR := Lib.hid (HI.out.later HKR.out)
                                    have hpm := HIR.out.at_ (i := m) (by omega)
                                    obtain ⟨C, hC⟩ : ∃ C, (R m).L 1 = C := ⟨_, rfl⟩
                                    have hch := HI.out.h.ch m (by omega)
                                    have hbc := HI.out.h.bas m (by omega)
                                    have hrw := rl_rows (HIR.out.rel (i := m) (by omega)) 1 (by decide)
                                    rw [hm, HB.out, hC] at hch
                                    rw [hC] at hbc hrw
                                    rw [hpm0] at hpm hrw
                                    have okB : RowsOk g (B.map (List.take g)) := cut_ok HBA.out.1.ok
                                    have okC : RowsOk g (C.map (List.take g)) := cut_ok hbc.ok
                                    have HOK := Lib.hid (And.intro okB (And.intro okC (within_cut (g := g) hch)))
                                    have HRW2 := Lib.hid hrw
                                    have hcl := hbc.length_le
                                    obtain ⟨zc, hzc⟩ : ∃ z, C.length = z := ⟨_, rfl⟩
                                    have HZC := Lib.hid hzc
                                    have hzc5 : zc ≤ g := by rw [← hzc]; exact hcl
                                    clear hm hi0 hpm0 hch hbc hrw okB okC hcl hC hzc
                                    go_wp2_with fail
                                    refine HRW2.out.mono ?_
                                    rintro e w6 ⟨A6, n6, c6, psC, rfl, o6⟩
                                    have hn6 : n6 = zc := by
                                      have h1 := o6.1.length
                                      have h2 := congrArg List.length o6.2.2.1
                                      rw [List.length_map, HZC.out] at h2
                                      omega
                                    obtain rfl : zc = n6 := hn6.symm
                                    have HCC : Hid (psC.map (fun p => p.a.xs) = C.map (List.take g)) := by
                                      show _ = _
                                      rw [← o6.2.2.1, List.map_map]
                                      refine List.map_congr_left fun p hp => ?_
                                      show p.a.xs = (p.a.xs ++ p.b.xs).take g
                                      rw [List.take_left' (by rw [(o6.2.1 p hp).1.length]; exact (o6.2.1 p hp).2.2.1)]
                                    have hc1 := coefs_list zc c6 A6 _ psC w6 o6.stIn (fun b hb => hb.2) (by omega)
                                    rw [HCC.out] at hc1
                                    have HC1 := Lib.hid hc1
                                    have HK6 := Lib.hid (HKR.out.trans o6.2.2.2)
                                    have HSR6 := Lib.hid (HSR.out.turned (Turned.of_keep (F := fun _ => False) HK6.out) fun _ _ e => e)
                                    clear o6 hn6 hc1 HRW2
                                    go_wp2_with fail
                                    refine HC1.out.mono ?_
                                    rintro e w7 ⟨A7, c7, rfl, m7, k7⟩
                                    have hc2 := coefs_list z c5 A5 _ psR w7 (HSR6.out.turned (Turned.of_keep (F := fun _ => False) k7) fun _ _ e => e) (fun b hb => Nat.lt_of_lt_of_le hb.2 (HK6.out.trans k7).size) (by omega)
                                    rw [HCA.out] at hc2
                                    have HC2 := Lib.hid hc2
                                    have HM7 := Lib.hid m7
                                    have HK7 := Lib.hid (HK6.out.trans k7)
                                    clear hc2 m7 k7 HC1
                                    go_wp2_with fail
                                    refine HC2.out.mono ?_
                                    rintro e w8 ⟨A8, c8, rfl, m8, k8⟩
                                    have hct := contains_mat (HM7.out.keep k8) m8 (by omega) (by omega) (Nat.le_trans (sizeC_ok2 HOK.out.2.1 HOK.out.1) (by omega))
                                    rw [conV_true HOK.out.2.1 HOK.out.1 HOK.out.2.2, sizeE_ok HOK.out.2.1 HOK.out.1] at hct
                                    have HCT := Lib.hid hct
                                    have HK8 := Lib.hid (HK7.out.trans k8)
                                    clear m8 k8 hct HC2
                                    go_wp2_with fail
                                    refine HCT.out.mono ?_
                                    rintro e w10 ⟨rfl, k10⟩
                                    have HK10 := Lib.hid (HK8.out.trans k10)
                                    clear k10 HCT
                                    go_wp2_with fail
                                    go_meet
                                    case rel => first | exact ⟨rfl, HK10.out⟩ | exact HK10.out
                              case rest =>
                                obtain ⟨rfl, hkr⟩ := hcut
                                clear HKR
                                have HKR := Lib.hid hkr
                                clear hkr
                                go_upto_region 37 with fail
                                as_aux_lemma =>
                                  have HIS := Lib.hid (HI.out.later HKR.out)
                                  have hpi := HIS.out.at_ (i := i) (by omega)
                                  have hrel := HIS.out.rel (i := i) (by omega)
                                  rw [HPI.out] at hpi hrel
                                  have HREL := Lib.hid hrel
                                  clear hrel
                                  by_cases hzg : z = g
                                  · have hz1 : ((z : Int) == (g : Int)) = true := by rw [beq_iff_eq]; omega
                                    have hz2 : decide ((z : Int) = (g : Int)) = true := decide_eq_true (by omega)
                                    have hsv := rl_solve_in HREL.out 1 (by decide) (by decide) (by rw [HB.out, HZ.out]; exact hzg)
                                    rw [HB.out] at hsv
                                    have HSV := Lib.hid hsv
                                    have HSO := Lib.hid (solved sM.out HBA.out.1 HBA.out.2 (HZ.out.trans hzg))
                                    clear hsv hzg
                                    go_wp2_with fail
                                    refine HSV.out.mono ?_
                                    rintro e w9 ⟨A8, c8, rs, rfl, h9⟩
                                    have hxs : rowsXs rs = M := h9.2.2.1.trans HSO.out
                                    have HO9 := Lib.hid (Mat.of_owned (show OwnedRows _ _ A8 g c8 M rs from ⟨h9.1, h9.2.1, hxs, h9.2.2.2.1⟩))
                                    have HK9 := Lib.hid (HKR.out.trans h9.2.2.2.1)
                                    have HM9 := Lib.hid (MM.out.keep (HI.out.n.keep.trans HK9.out))
                                    clear h9 hxs HSV hpi
                                    go_wp2_with fail
                                    go_loopw [29] (fun jv wz => ∃ j : Nat, j ≤ g ∧ jv = .int .i64 (j : Int) ∧ Keep w9 wz) (fun jv _ => g - (intOf jv).toNat)
                                    case atStart => exact ⟨0, by omega, rfl, Keep.refl _⟩
                                    case round =>
                                      obtain ⟨j, hj, rfl, hkk⟩ := hrel
                                      have HKK := Lib.hid hkk
                                      clear hkk
                                      by_cases hlt : j < g
                                      · have e0 : (0 : Int) ≤ (j : Int) := Int.natCast_nonneg _
                                        have e1 : (j : Int) < (g : Int) := by omega
                                        obtain ⟨b, off, Ay, cy, rfl, hb, hc, -, -, hby⟩ := (HO9.out.keep HKK.out).row_at sM.out hlt
                                        obtain ⟨b', off', Az, cz, rfl, hb', hc', -, -, hbz⟩ := (HM9.out.keep HKK.out).row_at sM.out hlt
                                        have t1 : ∀ k, (convert 32 9 (.slice Ay s cy)).run Tryz.prog (wr.drewN k) = .ok (.string (strN (M.getD j []))) (wr.drewN k) := fun k => hby.strP (fun _ e => e) k
                                        have t2 : ∀ k, (convert 32 9 (.slice Az s cz)).run Tryz.prog (wr.drewN k) = .ok (.string (strN (M.getD j []))) (wr.drewN k) := fun k => hbz.strP (fun _ e => e) k
                                        have d1 : ∀ q, (wr.drewN q).cell? ⟨b, off + j, none⟩ = some (.slice Ay s cy) := fun _ => hc
                                        have d2 : ∀ q, (wr.drewN q).cell? ⟨b', off' + j, none⟩ = some (.slice Az s cz) := fun _ => hc'
                                        have q0 := strN_eq (rfl : M.getD j [] = M.getD j [])
                                        clear hc hc' hby hbz
                                        go_wp2_with fail
                                        go_quiet (fail)
                                        go_wp2_with fail
                                        go_roundw
                                        case rel => exact ⟨j + 1, by omega, by go_num, Keep.drewN HKK.out _⟩
                                        case measure => simp [intOf]; omega
                                      · obtain rfl : j = g := by omega
                                        go_wp2_with fail
                                        go_roundw
                                        case rel => exact ⟨i + 1, by omega, by go_num, (KL.out.trans HK5.out).trans (HK9.out.trans HKK.out)⟩
                                        case measure => simp [intOf]; omega
                                  · have hz1 : ((z : Int) == (g : Int)) = false := by rw [beq_eq_false_iff_ne]; omega
                                    have hz2 : decide ((z : Int) = (g : Int)) = false := decide_eq_false (by omega)
                                    have HSV := Lib.hid (rl_solve_low HREL.out 1 (by decide) (by decide) (by rw [HB.out, HZ.out]; exact hzg))
                                    go_wp2_with fail
                                    refine HSV.out.mono ?_
                                    rintro e w9 ⟨rfl, k9⟩
                                    have HK9 := Lib.hid (HKR.out.trans k9)
                                    clear k9 HSV hpi
                                    go_wp2_with fail
                                    go_loopw [29] (fun jv wz => jv = .int .i64 ((0 : Nat) : Int) ∧ wz = w9) (fun jv _ => 0)
                                    case atStart => exact ⟨rfl, rfl⟩
                                    case round =>
                                      obtain ⟨rfl, hw9⟩ := hrel
                                      obtain rfl : wr = w9 := hw9
                                      go_wp2_with fail
                                      go_roundw
                                      case rel => exact ⟨i + 1, by omega, by go_num, (KL.out.trans HK5.out).trans HK9.out⟩
                                      case measure => simp [intOf]; omega
                        · obtain rfl : i = 4 := by omega
                          go_wp2_with fail
                          refine (wakes_any wr).mono ?_
                          rintro e w10 ⟨rfl, k10⟩
                          go_wp2_with fail
                          go_ret
                          exact ⟨rfl, (K1.out.trans HIL.out.n.keep).trans (KL.out.trans k10)⟩
end Go.Proofs.YtcjjhblgejkkeaaGreat
