/- The walk of RelayOrder. -/
import Derived.Test.YtcjjhblgejkkeaaRturns
import Derived.Test.YtcjjhblgejkkeaaRpl
import Derived.Test.YtcjjhblgejkkeaaRtr
import Derived.Test.YtcjjhblgejkkeaaRwk
import Derived.Test.YtcjjhblgejkkeaaRs1
import Derived.Test.YtcjjhblgejkkeaaRps
import Derived.Test.YtcjjhblgejkkeaaArr
import Derived.Deep.DeepCutAuto
import Derived.Deep.CutBlock
namespace Go.Proofs.Ytcjjhblgejkkeaa
open Go.RowKit Lin
set_option linter.unusedVariables false
set_option linter.unusedSimpArgs false
/-- Rows of an argument, laid behind one another in a list of one's own. -/
def LayF (D0 : Nat → Prop) (W w : World) (A : Option Addr) (n c : Nat) (rs : List RowV) : Prop :=
  OwnRows w W.heap.size 22 A n c rs ∧ (∀ r ∈ rs, LiesIn w D0 r) ∧ Keep W w
theorem LayF.nothing (D0 : Nat → Prop) (W : World) : LayF D0 W W none 0 0 [] := ⟨OwnRows.none_ _ _ _, fun r hr => by simp at hr, Keep.refl W⟩
theorem wp_append_layF {o : Oper} {a : Act} {w : World} {K : Act → World → Prop} {Q : Exit → Act → World → Prop} (s x : Operand) (t : TypeId)
    (ho : o.op = .call { callee := .builtin .append, args := #[s, x], argTypes := #[t, t] }) {D0 : Nat → Prop} {W : World} {A B : Option Addr} {n c m cx : Nat} {rs rt : List RowV} (ht : Try.prog.underlying t = some (.slice 22))
    (hs : a.eval s = .slice A n c) (hL : LayF D0 W w A n c rs) (hx0 : a.eval x = .slice B m cx) (hM : RowsIn W D0 B m rt) (hD : ∀ b, D0 b → b < W.heap.size) (k : Nat) (hk : n + m = k) (hlen : k ≤ 1000000)
    (h : ∀ A2 c2 w', LayF D0 W w' A2 k c2 (rs ++ rt) → K (a.put o.dst (.slice A2 k c2)) w') : o.wp Try.prog a w K Q := by
  subst hk
  refine wp_append_rows s x t ho ht infoRow hs hL.1 hx0 hM.1 (fun hp => ?_) hlen hL.2.2.size fun A2 c2 w' h2 h3 h4 => h A2 c2 w' ?_
  · obtain ⟨b, off, e, hb, hc⟩ := hM.2.2 hp
    exact ⟨b, off, e, fun i r hi => (Below.cell (p := ⟨b, off + i, none⟩) hL.2.2 (hD b hb)).trans (hc i r hi)⟩
  · have kT : Turned (fun b => (Value.slice A n c).ownBlock = some b) w w' := Turned.of_grown h3 fun i e => e
    have ap : ∀ b, D0 b → ¬ (Value.slice A n c).ownBlock = some b := fun b hb e => by have := hL.1.rowLe b e; have := hD b hb; omega
    refine ⟨h2, fun r hr => ?_, hL.2.2.grown h3 fun k hk => hL.1.rowLe k hk⟩
    rcases List.mem_append.1 hr with hr | hr
    · exact (hL.2.1 r hr).turned kT ap
    · exact ((hM.2.1 r hr).turned (Turned.of_keep (F := fun _ => False) hL.2.2) fun _ _ e => e).turned kT ap
/-- A row of a list of rows. -/
theorem Mat.any_row {w : World} {A : Option Addr} {n c i : Nat} {L : List (List Nat)} (h : Mat w ⟨A, n, c, L⟩) (hi : i < n) : ∃ (b off : Nat) (r : RowV), A = some ⟨b, off, none⟩ ∧ b < w.heap.size ∧ L[i]? = some r.xs ∧ w.cell? ⟨b, off + i, none⟩ = some (.slice r.A r.n r.c) ∧ Bytes w w.heap.size r.A r.n r.xs := by
  obtain ⟨rs, e1, rfl, e3⟩ := h
  obtain ⟨b, off, y, e, hb, hy, hc, hl⟩ := e1.at_ (k := i) (by show i < n; exact hi)
  exact ⟨b, off, y, e, hb, by show (rowsXs rs)[i]? = _; rw [rowsXs, List.getElem?_map, hy]; rfl, hc, hl.bytes fun _ e => e⟩
theorem RowsIn.of_at {W : World} {A : Option Addr} {n : Nat} {rs : List RowV} (h : RowsAt W W.heap.size A n rs) : RowsIn W (fun x => x < W.heap.size) A n rs :=
  ⟨h.1, fun r hr => LiesIn.of_bytes (h.2.1 r hr).1 (h.2.1 r hr).2.2, fun hp => by
    obtain ⟨b, off, e, hb, hc⟩ := h.2.2 hp
    exact ⟨b, off, e, hb, hc⟩⟩
theorem mem_turned {α : Type} (l : List α) (k : Nat) (x : α) : x ∈ (l.drop k ++ l ++ l.take k).reverse ↔ x ∈ l := by
  simp only [List.mem_reverse, List.mem_append]
  constructor
  · rintro ((h | h) | h)
    · exact List.mem_of_mem_drop h
    · exact h
    · exact List.mem_of_mem_take h
  · exact fun h => Or.inl (Or.inr h)
theorem getD_rev {α : Type} (l : List α) {j : Nat} (hj : j < l.length) {x : α} (h : l[l.length - 1 - j]? = some x) : l.reverse[j]? = some x := by
  rw [List.getElem?_reverse hj]; exact h
theorem run_min12 (a m : Nat) (h : min a 12 = m) (w : World) : (Builtin.min_ #[3, 3] 3 #[.int .i64 (a : Int), .int .i64 12]).run Try.prog w = .ok (.int .i64 (m : Int)) w := by
  rw [run_min_int2]; congr 2; split <;> omega
set_option maxRecDepth 100000 in
set_option maxHeartbeats 8000000 in
theorem rorder_any (n1 n2 c1 c2 s0 s1 x3 : Nat) (A1 A2 : Option Addr) (xs : List Nat) (rs0 : List RowV) (w : World) (h1 : Bytes w w.heap.size A1 n1 xs) (h2 : RowsIn w (fun x => x < w.heap.size) A2 n2 rs0) (hcc : n2 ≤ c2) (m1 : n1 ≤ 140737488355328) (m2 : n2 ≤ 140737488351232) (b0 : s0 < 256) (b1 : s1 < 256) (b3 : x3 < 256) :
    Calls Try.prog 5 #[.slice A1 n1 c1, .agg #[.int .u8 (s0 : Int), .int .u8 (s1 : Int)], .slice A2 n2 c2, .int .u8 (x3 : Int)] w fun e w' => e = .returned (.bool true) ∧ Keep w w' := by
  have H1 := Lib.hid h1
  obtain ⟨L0, hL0⟩ : ∃ L, rowsXs rs0 = L := ⟨_, rfl⟩
  have hmt : Mat w ⟨A2, n2, c2, L0⟩ := ⟨rs0, h2, hL0, hcc⟩
  have HRS := Lib.hid (And.intro h2 hL0)
  have H2 := Lib.hid hmt
  have HA2 : Hid (∀ x ∈ L0, AllB x) := fun x hx => by
    rw [← hL0] at hx
    obtain ⟨r, hr, rfl⟩ := List.mem_map.1 hx
    exact (h2.2.1 r hr).2.1
  obtain ⟨q0, hq0⟩ : ∃ q, s0 % 5 = q := ⟨_, rfl⟩
  obtain ⟨g, hk0⟩ : ∃ k, 1 + q0 = k := ⟨_, rfl⟩
  obtain ⟨q1, hq1⟩ : ∃ q, s1 % 5 = q := ⟨_, rfl⟩
  obtain ⟨s, hk1⟩ : ∃ k, 1 + q1 = k := ⟨_, rfl⟩
  have d1 : (s0 : Int) % 5 = (q0 : Int) := by omega
  have d2 : 1 + (q0 : Int) = (g : Int) := by omega
  have d3 : (s1 : Int) % 5 = (q1 : Int) := by omega
  have d4 : 1 + (q1 : Int) = (s : Int) := by omega
  have p0 : 1 ≤ g := by omega
  have r0 : g ≤ 5 := by omega
  have p1 : 1 ≤ s := by omega
  have r1 : s ≤ 5 := by omega
  obtain ⟨M, hM⟩ : ∃ M, shapeN xs g s = M := ⟨_, rfl⟩
  have sM : Hid (Sz g s M) := hM ▸ shape_sz xs g s h1.all
  have EM := Lib.hid hM
  obtain ⟨m, hmm⟩ : ∃ m, min n2 12 = m := ⟨_, rfl⟩
  have hm12 : m ≤ 12 := by omega
  have hmn : m ≤ n2 := by omega
  have hmin := run_min12 n2 m hmm
  have hsl := fun (w : World) => run_slice_h (P := Try.prog) (w := w) 24 A2 n2 c2 Try.underlying24 .i64 (m : Int) (by omega) (by omega)
  clear h1 h2 hL0 hmt hM hq0 hq1 hk0 hk1 hmm
  go_enter Try.func5, Try.ntmps5
  go_upto_region 1 with fail
  have hbk := heap_alloc_new w (.cells #[.int .u8 (s0 : Int), .int .u8 (s1 : Int)] 23)
  have kb : Keep w (w.alloc (.cells #[.int .u8 (s0 : Int), .int .u8 (s1 : Int)] 23)) := (Keep.refl w).alloc _ _
  obtain ⟨gs, hgs⟩ : ∃ g, w.heap.size = g := ⟨_, rfl⟩
  rw [hgs] at hbk
  simp only [hgs]
  have cs0 : (w.alloc (.cells #[.int .u8 (s0 : Int), .int .u8 (s1 : Int)] 23)).cell? ⟨gs, 0, none⟩ = some (.int .u8 (s0 : Int)) := by simp [World.cell?, hbk]
  have cs1 : (w.alloc (.cells #[.int .u8 (s0 : Int), .int .u8 (s1 : Int)] 23)).cell? ⟨gs, 1, none⟩ = some (.int .u8 (s1 : Int)) := by simp [World.cell?, hbk]
  clear hbk hgs
  have KB0 := Lib.hid kb
  generalize w.alloc (.cells #[.int .u8 (s0 : Int), .int .u8 (s1 : Int)] 23) = wb at *
  clear kb
  go_wp2_with fail
  go_quiet (fail)
  have KB := Lib.hid (KB0.out.drewN nq)
  generalize wb.drewN nq = w0 at *
  clear cs0 cs1 KB0 d1 d2 d3 d4
  go_wp2_with fail
  refine (symbols_mat _ n1 c1 g s A1 xs _ (H1.out.keep (Nat.le_refl _) KB.out) KB.out.size m1 (by omega) (by omega)).mono ?_
  rw [EM.out]
  rintro e w1 ⟨As, na, cs, rfl, mm, kk1⟩
  obtain rfl : g = na := (mm.cnt sM.out).symm
  have MM := Lib.hid mm
  have K1 := Lib.hid (KB.out.trans kk1)
  clear mm kk1 KB
  go_wp2_with fail
  refine (relnew_in (g := g) (s := s) (k := 1) p0 (by omega) p1 (by omega) (by decide) (by decide) _).mono ?_
  rintro e w2 ⟨px, Fx, rfl, rx, fx, k2⟩
  have RX := Lib.hid ((RlN.start w1 (fun _ => ⟨px, Fx, 0, fun _ => []⟩) (g := g) (s := s) (k := 1)).set (i := 0) (m' := 1) rx fx k2 (fun j hj => Or.inl (by omega)))
  clear rx fx k2 hmin hsl
  go_wp2_with fail
  refine (relnew_in (g := g) (s := s) (k := 1) p0 (by omega) p1 (by omega) (by decide) (by decide) _).mono ?_
  rintro e w3 ⟨py, Fy, rfl, ry, fy, k3⟩
  have RY := Lib.hid (RX.out.set (i := 1) (m' := 2) ry fy k3 (fun j hj => by omega))
  clear ry fy k3 RX
  go_wp2_with fail
  obtain ⟨T, hT⟩ : ∃ T, L0.take m = T := ⟨_, rfl⟩
  have HTL : Hid (T.length = m) := by
    show _ = _
    rw [← hT, List.length_take, H2.out.len]; exact Nat.min_eq_left hmn
  have HAT : Hid (∀ x ∈ T, AllB x) := fun x hx => HA2.out x (List.mem_of_mem_take (hT ▸ hx))
  have HM2 : Hid (Mat w ⟨A2, m, c2, T⟩) := hT ▸ H2.out.take (k := m) hmn
  obtain ⟨W, hW⟩ : ∃ W, trueT g s M T = W := ⟨_, rfl⟩
  have HW := Lib.hid hW
  have HS : Hid (SymRows g s M W) := hW ▸ trueT_sym sM.out HAT.out
  have HTT := Lib.hid hT
  clear hW hT
  go_loopw [16] (fun iv wr => ∃ (i : Nat) (R : Nat → RelS), i ≤ m ∧ iv = .int .i64 (i : Int) ∧ RlN w1 wr 2 g s 1 R (fun _ => False) ∧ (R 0).p = px ∧ (R 0).b = 0 ∧ (R 1).p = py ∧ (R 1).b = 0 ∧ (R 0).L 0 = basK g s W i ∧ (R 1).L 0 = []) (fun iv _ => m - (intOf iv).toNat)
  case atStart => exact ⟨0, _, by omega, rfl, RY.out, rfl, rfl, rfl, rfl, rfl, rfl⟩
  case round =>
    obtain ⟨i, R, hi, rfl, hR, e1, e2, e3, e4, e5, e6⟩ := hrel
    have HR := Lib.hid hR
    have HE := Lib.hid (And.intro e1 (And.intro e2 (And.intro e3 (And.intro e4 (And.intro e5 e6)))))
    clear hR e1 e2 e3 e4 e5 e6 RY
    have e0 : (0 : Int) ≤ (i : Int) := Int.natCast_nonneg _
    by_cases hc : i < m
    · have e1 : (i : Int) < (m : Int) := by omega
      have HKW := Lib.hid (K1.out.trans HR.out.keep)
      obtain ⟨b, off, r, rfl, hb, hr, hck, hby⟩ := (HM2.out.keep HKW.out).any_row hc
      have HBY := Lib.hid hby
      have HX := Lib.hid hr
      clear hb hr hby
      go_wp2_with fail
      refine (truth_any _ r.n r.c g s cs r.A As r.xs M wr HBY.out (Nat.le_refl _) (MM.out.keep HR.out.keep) sM.out p0 (by omega) (by omega)).mono ?_
      rintro e w5 ⟨A5, c5, A6, c6, rfl, o5, o6, l5, l6, k5⟩
      have HR5 := Lib.hid (HR.out.later k5)
      have hrel := HR5.out.rel 0 (by omega)
      rw [HE.out.1, HE.out.2.1] at hrel
      have HT := Lib.hid (rl_take_in hrel 0 (by decide) (by decide) _ _ c5 c6 A5 A6 _ _ l5 l6 o5.bytes o6.bytes (Nat.le_refl _) (Nat.le_refl _))
      clear o5 o6 l5 l6 k5 hrel
      go_wp2_with fail
      refine HT.out.mono ?_
      rintro e w7 ⟨rfl, F7, r7, f7, t7⟩
      have hput := HR5.out.put (i := 0) (by omega) (F' := F7) (b' := 0) (by rw [HE.out.1]; exact r7) f7 t7
      have HP := Lib.hid hput
      have HB : Hid (upd (R 0).L 0 (insB g s ((R 0).L 0) (fillN r.xs g ++ payV g s M (fillN r.xs g))) 0 = basK g s W (i + 1)) := by
        show _ = _
        obtain ⟨t1, t2⟩ := trueT_at (g := g) (s := s) (M := M) HX.out
        rw [HW.out] at t1 t2
        rw [upd_at, HE.out.2.2.2.2.1, basK_succ t2, t1]; rfl
      clear r7 f7 t7 hput HT HR HR5
      go_wp2_with fail
      go_roundw
      case rel => exact ⟨i + 1, _, by omega, by go_num, HP.out, HE.out.1, rfl, HE.out.2.2.1, HE.out.2.2.2.1, HB.out, HE.out.2.2.2.2.2⟩
      case measure => simp [intOf]; omega
    · obtain rfl : m = i := by omega
      have e1 : ¬ (m : Int) < (m : Int) := by omega
      obtain ⟨mp, hmp⟩ : ∃ mp, m + 1 = mp := ⟨_, rfl⟩
      obtain ⟨kk, hkk⟩ : ∃ kk, x3 % mp = kk := ⟨_, rfl⟩
      have hkm : kk ≤ m := by have := Nat.mod_lt x3 (show 0 < mp by omega); omega
      have v1 : (m : Int) + 1 = (mp : Int) := by omega
      have v2 : (x3 : Int).tmod (mp : Int) = (kk : Int) := by rw [← hkk, Int.tmod_eq_emod_of_nonneg (by omega)]; omega
      have v3 : IntKind.i64.wrap (mp : Int) = (mp : Int) := IntWalk.i64_in _ (by omega)
      have v4 : IntKind.i64.wrap (x3 : Int) = (x3 : Int) := IntWalk.i64_in _ (by omega)
      have v5 : IntKind.i64.wrap (kk : Int) = (kk : Int) := IntWalk.i64_in _ (by omega)
      have v6 : ¬ (mp : Int) = 0 := by omega
      have v7 : ¬ mp = 0 := by omega
      clear hmp
      clear hkk
      obtain ⟨N, hN⟩ : ∃ N, m + m = N := ⟨_, rfl⟩
      have HN := Lib.hid hN
      have hN24 : N ≤ 24 := by omega
      clear hN
      have hcm : m ≤ c2 := by omega
      have hdrop : ∀ w, (Instr.slice 24 (.slice A2 m c2) (some (.int .i64 (kk : Int))) none none).run Try.prog w = .ok (.slice (dropA A2 c2 kk) (m - kk) (c2 - kk)) w := fun w => run_drop (t := 24) (by kernel_rfl) infoRow m c2 kk _ (by omega) w
      have htake := fun (w : World) => run_slice_h (P := Try.prog) (w := w) 24 A2 m c2 Try.underlying24 .i64 (kk : Int) (by omega) (by omega)
      have hm0 : RowsIn wr.drew (fun x => x < w.heap.size) A2 m (rs0.take m) := (HRS.out.1.turned (Turned.of_keep (F := fun _ => False) (K1.out.trans HR.out.keep).drew) fun _ _ e => e).take hmn
      have HM := Lib.hid hm0
      have HD0 : Hid (∀ b : Nat, b < w.heap.size → b < wr.drew.heap.size) := fun b hb => Nat.lt_of_lt_of_le hb (K1.out.trans HR.out.keep).size
      clear hm0
      go_upto_region 13 with fail
      refine wp_region_noPanic ?_
      refine wp_region_held_drew (S := fun wz => True) (by kernel_rfl) trivial (fun hHeld => ?_)
      refine wpAnyH_take (i := 0) (v := ?_) rfl (by kernel_rfl) (by kernel_rfl) (by kernel_rfl) (fun _ _ _ h => h) (Or.inl ⟨by rfl, ?_⟩) hHeld ?_
      rotate_left
      · intro wq hSw
        go_simp
        all_goals with_reducible rfl
      try simp only [Act.put, List.getElem_toArray, List.getElem_cons_succ, List.getElem_cons_zero, List.setIfInBounds_toArray, List.set_cons_zero, List.set_cons_succ]
      refine wpAnyH_take (i := 1) (v := ?_) rfl (by kernel_rfl) (by kernel_rfl) (by kernel_rfl) (fun _ _ _ h => h) (Or.inl ⟨by rfl, ?_⟩) hHeld ?_
      rotate_left
      · intro wq hSw
        go_simp
        all_goals with_reducible rfl
      try simp only [Act.put, List.getElem_toArray, List.getElem_cons_succ, List.getElem_cons_zero, List.setIfInBounds_toArray, List.set_cons_zero, List.set_cons_succ]
      refine wpAnyH_take (i := 2) (v := ?_) rfl (by kernel_rfl) (by kernel_rfl) (by kernel_rfl) (fun _ _ _ h => h) (Or.inl ⟨by rfl, ?_⟩) hHeld ?_
      rotate_left
      · intro wq hSw
        have q0 := hdrop
        go_simp
        all_goals with_reducible rfl
      try simp only [Act.put, List.getElem_toArray, List.getElem_cons_succ, List.getElem_cons_zero, List.setIfInBounds_toArray, List.set_cons_zero, List.set_cons_succ]
      refine wpAnyH_take (i := 4) (v := ?_) rfl (by kernel_rfl) (by kernel_rfl) (by kernel_rfl) (fun _ _ _ h => h) (Or.inl ⟨by rfl, ?_⟩) hHeld ?_
      rotate_left
      · intro wq hSw
        go_simp
        all_goals with_reducible rfl
      try simp only [Act.put, List.getElem_toArray, List.getElem_cons_succ, List.getElem_cons_zero, List.setIfInBounds_toArray, List.set_cons_zero, List.set_cons_succ]
      refine wpAnyH_take (i := 6) (v := ?_) rfl (by kernel_rfl) (by kernel_rfl) (by kernel_rfl) (fun _ _ _ h => h) (Or.inl ⟨by rfl, ?_⟩) hHeld ?_
      rotate_left
      · intro wq hSw
        go_simp
        all_goals with_reducible rfl
      try simp only [Act.put, List.getElem_toArray, List.getElem_cons_succ, List.getElem_cons_zero, List.setIfInBounds_toArray, List.set_cons_zero, List.set_cons_succ]
      refine wpAnyH_take (i := 7) (v := ?_) rfl (by kernel_rfl) (by kernel_rfl) (by kernel_rfl) (fun _ _ _ h => h) (Or.inl ⟨by rfl, ?_⟩) hHeld ?_
      rotate_left
      · intro wq hSw
        go_simp
        all_goals with_reducible rfl
      try simp only [Act.put, List.getElem_toArray, List.getElem_cons_succ, List.getElem_cons_zero, List.setIfInBounds_toArray, List.set_cons_zero, List.set_cons_succ]
      refine wpAnyH_take (i := 8) (v := ?_) rfl (by kernel_rfl) (by kernel_rfl) (by kernel_rfl) (fun _ _ _ h => h) (Or.inl ⟨by rfl, ?_⟩) hHeld ?_
      rotate_left
      · intro wq hSw
        have q0 := htake
        go_simp
        all_goals with_reducible rfl
      try simp only [Act.put, List.getElem_toArray, List.getElem_cons_succ, List.getElem_cons_zero, List.setIfInBounds_toArray, List.set_cons_zero, List.set_cons_succ]
      refine wpAnyH_ready (rs := [3]) (by kernel_rfl) (by simp) ?_
      refine AllReadyH.cons rfl (fun K hK => ?_) AllReadyH.nil
      refine wp_append_layF (W := wr.drew) _ _ 24 rfl Try.underlying24 rfl (LayF.nothing _ wr.drew) rfl (HM.out.drop hcm) HD0.out (m - kk) (Nat.zero_add _) (by have := HN.out; omega) ?_
      intro A6 c6 w6 h6
      have H6 := Lib.hid h6
      clear h6
      refine hK.out _ _ trivial (fun hHeld => ?_)
      clear hK K
      try simp only [Act.put, List.getElem_toArray, List.getElem_cons_succ, List.getElem_cons_zero, List.setIfInBounds_toArray, List.set_cons_zero, List.set_cons_succ]
      refine wpAnyH_ready (rs := [5]) (by kernel_rfl) (by simp) ?_
      refine AllReadyH.cons rfl (fun K hK => ?_) AllReadyH.nil
      refine wp_append_layF (W := wr.drew) _ _ 24 rfl Try.underlying24 rfl H6.out rfl HM.out HD0.out (m - kk + m) rfl (by have := HN.out; omega) ?_
      intro A7 c7 w7 h7
      have H7 := Lib.hid h7
      clear h7
      refine hK.out _ _ trivial (fun hHeld => ?_)
      clear hK K
      try simp only [Act.put, List.getElem_toArray, List.getElem_cons_succ, List.getElem_cons_zero, List.setIfInBounds_toArray, List.set_cons_zero, List.set_cons_succ]
      refine wpAnyH_ready (rs := [9]) (by kernel_rfl) (by simp) ?_
      refine AllReadyH.cons rfl (fun K hK => ?_) AllReadyH.nil
      refine wp_append_layF (W := wr.drew) _ _ 24 rfl Try.underlying24 rfl H7.out rfl (HM.out.take hkm) HD0.out N (by have := HN.out; omega) (by have := HN.out; omega) ?_
      intro A8 c8 w8 h8
      have H8 := Lib.hid h8
      clear h8
      refine hK.out _ _ trivial (fun hHeld => ?_)
      clear hK K
      try simp only [Act.put, List.getElem_toArray, List.getElem_cons_succ, List.getElem_cons_zero, List.setIfInBounds_toArray, List.set_cons_zero, List.set_cons_succ]
      refine wpAnyH_take (i := 10) (v := ?_) rfl (by kernel_rfl) (by kernel_rfl) (by kernel_rfl) (fun _ _ _ h => h) (Or.inl ⟨by rfl, ?_⟩) hHeld ?_
      rotate_left
      · intro wq hSw
        go_simp
        all_goals with_reducible rfl
      try simp only [Act.put, List.getElem_toArray, List.getElem_cons_succ, List.getElem_cons_zero, List.setIfInBounds_toArray, List.set_cons_zero, List.set_cons_succ]
      refine wpAnyH_done (by kernel_rfl) ?_ _
      refine NoPanic.normal ?_
      clear hHeld
      clear hdrop htake HM HD0 H6 H7
      obtain ⟨wo, rfl⟩ : ∃ wo, wo = wr := ⟨_, rfl⟩
      obtain ⟨RS, hRS⟩ : ∃ RS, [] ++ (rs0.take m).drop kk ++ rs0.take m ++ (rs0.take m).take kk = RS := ⟨_, rfl⟩
      have hTX : rowsXs (rs0.take m) = T := by rw [← HTT.out, ← HRS.out.2, rowsXs, rowsXs, List.map_take]
      have hRX : rowsXs RS = T.drop kk ++ T ++ T.take kk := by
        rw [← hRS, ← hTX]
        simp only [rowsXs, List.nil_append, List.map_append, List.map_take, List.map_drop]
      have h8 := H8.out
      rw [hRS] at h8
      have HL8 : Hid (OwnRows w8 wo.heap.size 22 A8 N c8 RS ∧ ∀ r ∈ RS, LiesIn w8 (fun x => x < w.heap.size) r) := And.intro h8.1 h8.2.1
      have k8 : Keep wo w8 := (Keep.drew (Keep.refl wo)).trans h8.2.2
      have HR8 := Lib.hid (HR.out.widen k8)
      have HN8 : Hid (∀ x, (Value.slice A8 N c8).ownBlock = some x → wo.heap.size ≤ x ∧ x < w8.heap.size) := fun x hx => h8.1.lt x hx
      obtain ⟨U, hU⟩ : ∃ U, trueT g s M (rowsXs RS).reverse = U := ⟨_, rfl⟩
      have hlen : (rowsXs RS).length = N := by rw [rowsXs, List.length_map]; exact h8.1.length
      have hall : ∀ x ∈ rowsXs RS, AllB x := fun x hx => by
        obtain ⟨r, hr, rfl⟩ := List.mem_map.1 hx
        exact (h8.2.1 r hr).2.1
      have HU : Hid (SymRows g s M U) := hU ▸ trueT_sym sM.out fun x hx => hall x (List.mem_reverse.1 hx)
      have HUM : Hid (basK g s W m = basK g s U N) := by
        show _ = _
        have e1 : W.length = m := by rw [← HW.out, trueT, List.length_map, HTL.out]
        have e2 : U.length = N := by rw [← hU, trueT, List.length_map, List.length_reverse, hlen]
        rw [← e1, ← e2]
        refine order_same HS.out HU.out fun x => ?_
        rw [← hU, ← HW.out, trueT, trueT]
        simp only [List.mem_map]
        exact exists_congr fun y => and_congr_left fun _ => by rw [hRX]; exact (mem_turned T kk y).symm
      have HUE := Lib.hid (And.intro hU hlen)
      have HRX := Lib.hid hRX
      clear hRS hTX hRX h8 k8 hU hlen hall H8 HR
      have z1 : IntKind.i64.wrap ((N : Int) - 1) = (N : Int) - 1 := IntWalk.i64_in _ (by omega)
      go_wp2_with fail
      go_loopw [19] (fun iv wz => ∃ (j : Nat) (z : Int) (R : Nat → RelS), j ≤ N ∧ z = (j : Int) - 1 ∧ iv = .int .i64 z ∧ RlN w1 wz 2 g s 1 R (fun x => False ∨ (wo.heap.size ≤ x ∧ x < w8.heap.size)) ∧ ((R 0).p = px ∧ (R 0).b = 0 ∧ (R 1).p = py ∧ (R 1).b = 0 ∧ (R 0).L 0 = basK g s W m ∧ (R 1).L 0 = basK g s U (N - j)) ∧ OwnRows wz wo.heap.size 22 A8 N c8 RS ∧ ∀ r ∈ RS, LiesIn wz (fun x => x < w.heap.size) r) (fun iv _ => (intOf iv + 1).toNat)
      case atStart => exact ⟨N, _, R, Nat.le_refl _, rfl, rfl, HR8.out, by rw [Nat.sub_self]; exact HE.out, HL8.out.1, HL8.out.2⟩
      case round =>
        clear HE HR8 HL8
        obtain ⟨j, z, R, hj, hz, rfl, hR, hE, hL1, hL2⟩ := hrel
        have HR := Lib.hid hR
        have HE := Lib.hid hE
        have HL := Lib.hid (And.intro hL1 hL2)
        clear hR hE hL1 hL2
        rcases Nat.eq_zero_or_pos j with hj0 | hj0
        · obtain rfl : j = 0 := hj0
          obtain rfl : z = -1 := by omega
          clear hz z1 v1 v2 v3 v4 v5 v6 v7
          have hk1 := HE.out.2.2.2.2.2
          rw [Nat.sub_zero, ← HUM.out] at hk1
          have hk0 := HE.out.2.2.2.2.1
          obtain ⟨B, hB⟩ : ∃ B, basK g s W m = B := ⟨_, rfl⟩
          rw [hB] at hk0 hk1
          have hbl : B.length ≤ g := by
            rw [← hB]
            exact (basK_sym HS.out m (by rw [← HW.out, trueT, List.length_map, HTL.out]; exact Nat.le_refl _)).1.length_le
          have hrw := rl_rows (HR.out.rel 0 (by omega)) 0 (by decide)
          rw [HE.out.1, hk0] at hrw
          have HRW := Lib.hid hrw
          have HB1 := Lib.hid hk1
          clear hk0 hk1 hrw hB
          go_wp2_with fail
          refine HRW.out.mono ?_
          rintro e w5 ⟨A5, n5, c5, ps, rfl, o5⟩
          have HR5 := Lib.hid (HR.out.later o5.2.2.2)
          have hrw := rl_rows (HR5.out.rel 1 (by omega)) 0 (by decide)
          rw [HE.out.2.2.1, HB1.out] at hrw
          have HRW2 := Lib.hid hrw
          have HO5 := Lib.hid o5
          clear o5 hrw HRW
          go_wp2_with fail
          refine HRW2.out.mono ?_
          rintro e w6 ⟨A6, n6, c6, qs, rfl, o6⟩
          have hn5 : n5 ≤ 1000000 := by
            have h1 := HO5.out.1.length
            have h2 := congrArg List.length HO5.out.2.2.1
            rw [List.length_map] at h2
            omega
          have hsame : pairXs ps = pairXs qs := by
            refine pairs_told (g := g) (HO5.out.2.2.1.trans o6.2.2.1.symm) (fun p hp => ?_) fun p hp => ?_
            · rw [(HO5.out.2.1 p hp).1.length]; exact (HO5.out.2.1 p hp).2.2.1
            · rw [(o6.2.1 p hp).1.length]; exact (o6.2.1 p hp).2.2.1
          have hsm := rpsame_any n5 n6 c5 c6 A5 A6 _ _ ps qs w6 (HO5.out.stIn.keep o6.2.2.2) o6.stIn (fun b hb => Nat.lt_of_lt_of_le hb.2 o6.2.2.2.size) (fun b hb => hb.2) hn5
          rw [decide_eq_true hsame] at hsm
          have HSM := Lib.hid hsm
          have HK6 := Lib.hid ((K1.out.trans HR5.out.keep).trans o6.2.2.2)
          clear o6 hn5 hsame hsm
          go_wp2_with fail
          refine HSM.out.mono ?_
          rintro e w7 ⟨rfl, q7, rfl⟩
          go_wp2_with fail
          refine (wakes_any _).mono ?_
          rintro e w8 ⟨rfl, k8⟩
          have HK8 := Lib.hid ((HK6.out.drewN q7).trans k8)
          clear k8
          go_wp2_with fail
          go_ret
          exact ⟨rfl, HK8.out⟩
        · obtain ⟨i, rfl⟩ : ∃ i, j = i + 1 := ⟨j - 1, by omega⟩
          obtain rfl : z = (i : Int) := by omega
          clear hz hj0 z1 v1 v2 v3 v4 v5 v6 v7
          have f0 : (0 : Int) ≤ (i : Int) := Int.natCast_nonneg _
          have f1 : (i : Int) < (N : Int) := by omega
          have f2 : IntKind.i64.wrap ((i : Int) - 1) = (i : Int) - 1 := IntWalk.i64_in _ (by omega)
          have hil : i < RS.length := by rw [HL.out.1.length]; omega
          obtain ⟨gb, rfl, hg1, hg2⟩ := HL.out.1.block (by omega)
          have hr := List.getElem?_eq_getElem hil
          obtain ⟨r, hrr⟩ : ∃ r, RS[i] = r := ⟨_, rfl⟩
          rw [hrr] at hr
          have hck : wr.cell? ⟨gb, i, none⟩ = some (.slice r.A r.n r.c) := by
            have hc := World.ownsRow.cells HL.out.1 (g := gb) rfl i r.val (by rw [List.getElem?_map, hr]; rfl)
            have ha : ∀ j, (⟨gb, 0, none⟩ : Addr).add j = ⟨gb, 0 + j, none⟩ := fun j => by unfold Addr.add; split <;> simp_all
            rw [ha, Nat.zero_add] at hc
            exact hc
          have HLR := Lib.hid (HL.out.2 r (List.mem_of_getElem? hr))
          have HX : Hid ((rowsXs RS).reverse[N - (i + 1)]? = some r.xs) := by
            show _ = _
            refine getD_rev _ (by rw [HUE.out.2]; omega) ?_
            rw [HUE.out.2, show N - 1 - (N - (i + 1)) = i by omega, rowsXs, List.getElem?_map, hr]; rfl
          clear hg1 hg2 hr hrr hil
          go_wp2_with fail
          refine (truth_any _ r.n r.c g s cs r.A As r.xs M wr (HLR.out.bytes (B := wr.heap.size) fun b hb => Nat.lt_of_lt_of_le hb (K1.out.trans HR.out.keep).size) (Nat.le_refl _) (MM.out.keep HR.out.keep) sM.out p0 (by omega) (by omega)).mono ?_
          rintro e w5 ⟨A5, c5, A6, c6, rfl, o5, o6, l5, l6, k5⟩
          have HR5 := Lib.hid (HR.out.later k5)
          have hrel := HR5.out.rel 1 (by omega)
          rw [HE.out.2.2.1, HE.out.2.2.2.1] at hrel
          have HT := Lib.hid (rl_take_in hrel 0 (by decide) (by decide) _ _ c5 c6 A5 A6 _ _ l5 l6 o5.bytes o6.bytes (Nat.le_refl _) (Nat.le_refl _))
          have HK5 := Lib.hid k5
          clear o5 o6 l5 l6 k5 hrel
          go_wp2_with fail
          refine HT.out.mono ?_
          rintro e w7 ⟨rfl, F7, r7, f7, t7⟩
          have hput := HR5.out.put (i := 1) (by omega) (F' := F7) (b' := 0) (by rw [HE.out.2.2.1]; exact r7) f7 t7
          have HP := Lib.hid hput
          have HB : Hid (upd (R 1).L 0 (insB g s ((R 1).L 0) (fillN r.xs g ++ payV g s M (fillN r.xs g))) 0 = basK g s U (N - i)) := by
            show _ = _
            obtain ⟨t1, t2⟩ := trueT_at (g := g) (s := s) (M := M) HX.out
            rw [HUE.out.1] at t1 t2
            rw [upd_at, HE.out.2.2.2.2.2, show N - i = N - (i + 1) + 1 by omega, basK_succ t2, t1]; rfl
          have HLN : Hid (OwnRows w7 wo.heap.size 22 (some ⟨gb, 0, none⟩) N c8 RS ∧ ∀ r ∈ RS, LiesIn w7 (fun x => x < w.heap.size) r) := by
            refine ⟨(HL.out.1.keep HK5.out).turned t7 fun b hb e => (HR5.out.d b (Or.inr (HN8.out b hb))).2 1 (by omega) e, fun r hr => ((HL.out.2 r hr).turned (Turned.of_keep (F := fun _ => False) HK5.out) fun _ _ e => e).turned t7 fun b hb e => ?_⟩
            have h3 := HR5.out.lo 1 (by omega) b e
            have h4 := K1.out.size
            have hb : b < w.heap.size := hb
            omega
          clear r7 f7 t7 hput HT HR HR5 HK5 HL
          go_wp2_with fail
          go_roundw
          case rel => exact ⟨i, (i : Int) - 1, _, by omega, rfl, by go_num, HP.out, ⟨HE.out.1, HE.out.2.1, HE.out.2.2.1, rfl, HE.out.2.2.2.2.1, HB.out⟩, HLN.out.1, HLN.out.2⟩
          case measure => simp [intOf]
end Go.Proofs.Ytcjjhblgejkkeaa
