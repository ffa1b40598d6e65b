/- The walk of SpanWitness. -/
import Derived.Test.YtofhdaeeiienfaaSlaw
import Derived.Test.YtofhdaeeiienfaaArr
namespace Go.Proofs.Ytofhdaeeiienfaa
open Go.RowKit Lin
set_option linter.unusedVariables false
set_option linter.unusedSimpArgs false
/-- What a witness tells. -/
theorem wit_facts {a b m : Nat} {X Y : List (List Nat)} (s : Sz a m X) (s' : Sz b m Y) :
    witB X Y = !conB Y X ∧ (conB Y X = true → witN X Y = []) ∧ (conB Y X = false → ∃ i, i < a ∧ witN X Y = vUnit a i ∧ conB Y [X.getD i []] = false ∧ rk (Y ++ [X.getD i []]) = rk Y + 1 ∧ vComb m X (vUnit a i) a = X.getD i []) := by
  have hf := (s.append s').fits
  have e1 : witB X Y = !conB Y X := by rw [witB, if_pos hf]
  refine ⟨e1, fun h => by rw [witN, e1, h]; rfl, fun h => ?_⟩
  have hany : (X.any fun v => !conB Y [v]) = true := by
    rw [con_all s'.2 s.2] at h
    rw [List.all_eq_not_any_not] at h
    simpa using h
  have hlt : X.findIdx (fun v => !conB Y [v]) < X.length := List.findIdx_lt_length.2 (by
    obtain ⟨x, hx, hp⟩ := List.any_eq_true.1 hany
    exact ⟨x, hx, hp⟩)
  have hlt2 : X.findIdx (fun v => !conB Y [v]) < a := by rw [← s.1]; exact hlt
  have hp : (!conB Y [X[X.findIdx (fun v => !conB Y [v])]]) = true := List.findIdx_getElem (w := hlt)
  have hget : X.getD (X.findIdx fun v => !conB Y [v]) [] = X[X.findIdx (fun v => !conB Y [v])] := by rw [List.getD, List.getElem?_eq_getElem hlt]; rfl
  refine ⟨_, hlt2, by rw [witN, e1, h, s.1]; rfl, ?_, ?_, ?_⟩
  · rw [hget]; simpa using hp
  · have hno : ¬ Makes Y (vec (X.getD (X.findIdx fun v => !conB Y [v]) [])) := fun hm => by
      have := (con_one s'.2 (fun r hr => by rw [List.mem_singleton.1 hr, hget]; exact s.2 _ (List.getElem_mem hlt))).2 hm
      rw [hget] at this
      rw [this] at hp
      exact absurd hp (by simp)
    have hv : Sz 1 m [X.getD (X.findIdx fun v => !conB Y [v]) []] := ⟨rfl, fun r hr => by rw [List.mem_singleton.1 hr, hget]; exact s.2 _ (List.getElem_mem hlt)⟩
    exact rank_outside (red_of s').1 (red_of s').2 (red_of (s'.append hv)).1 (red_of (s'.append hv)).2 hno
  · have hu : AllB (vUnit a (X.findIdx fun v => !conB Y [v])) := vUnit_all _ _
    rw [comb_list s hu]
    refine vec_inj ?_ (rowN_all hu) ?_ ?_
    · rw [rowN, tab_length, hget]; exact (s.2 _ (List.getElem_mem hlt)).1.symm
    · rw [hget]; exact (s.2 _ (List.getElem_mem hlt)).2
    · rw [vec_rowN hu s, vec_unit hlt2, unit_mul laws hlt2]; rfl
theorem vcomb_sz {a m : Nat} {X : List (List Nat)} (s : Sz a m X) (F : List Nat) (k : Nat) : Sz 1 m [vComb m X F k] := ⟨rfl, fun r hr => by
  rw [List.mem_singleton.1 hr]
  refine ⟨tab_length _ _, fun y hy => ?_⟩
  obtain ⟨j, _, rfl⟩ := List.mem_map.1 hy
  exact sumX_lt _ _ fun i _ => mulN_lt _ (by
    rcases Nat.lt_or_ge i X.length with h | h
    · exact (s.2.at_ h).2.getD j
    · have e : X.getD i [] = [] := by rw [List.getD, List.getElem?_eq_none h]; rfl
      rw [e]; simp)⟩
theorem fill_span {a b m : Nat} {X Y : List (List Nat)} (s : Sz a m X) (s' : Sz b m Y) (zs : List Nat) (hz : AllB zs) :
    conB X [vComb m X (fillN zs a) a] = true ∧ (conB Y X = true → conB Y [vComb m X (fillN zs a) a] = true) := by
  have hu : AllB (fillN zs a) := fillN_all hz a
  have hv := vcomb_sz s (fillN zs a) a
  have hm : Makes X (vec (vComb m X (fillN zs a) a)) := by
    rw [comb_list s hu, vec_rowN hu s]
    rw [← s.1]
    exact ⟨_, rfl⟩
  exact ⟨(con_one s.2 hv.2).2 hm, fun h => (con_one s'.2 hv.2).2 (none_outside ((con_iff s'.2 s.2).1 h) hm)⟩
set_option maxRecDepth 100000 in
set_option maxHeartbeats 8000000 in
theorem switness_any (n1 n2 n3 c1 c2 c3 s0 s1 s2 : Nat) (A1 A2 A3 : Option Addr) (xs ys zs : List Nat) (w : World) (h1 : Bytes w w.heap.size A1 n1 xs) (h2 : Bytes w w.heap.size A2 n2 ys) (h3 : Bytes w w.heap.size A3 n3 zs) (m1 : n1 ≤ 140737488355328) (m2 : n2 ≤ 140737488355328) (m3 : n3 ≤ 140737488355328) (b0 : s0 < 256) (b1 : s1 < 256) (b2 : s2 < 256) :
    Calls Try.prog 6 #[.slice A1 n1 c1, .slice A2 n2 c2, .slice A3 n3 c3, .agg #[.int .u8 (s0 : Int), .int .u8 (s1 : Int), .int .u8 (s2 : Int)]] w fun e w' => e = .returned (.bool true) ∧ Keep w w' := by
  have H1 := Lib.hid h1
  have H2 := Lib.hid h2
  have H3 := Lib.hid h3
  obtain ⟨q0, hq0⟩ : ∃ q, s0 % 6 = q := ⟨_, rfl⟩
  have d0 : (s0 : Int) % 6 = (q0 : Int) := by omega
  have r0 : q0 ≤ 5 := by omega
  have dt0 : Hid ((s0 : Int).tmod 6 = (q0 : Int)) := by
    show _ = _
    rw [Int.tmod_eq_emod_of_nonneg (by omega)]; exact d0
  have dw0 : Hid (IntKind.i64.wrap (q0 : Int) = (q0 : Int)) := IntWalk.i64_in _ (by omega)
  obtain ⟨q1, hq1⟩ : ∃ q, s1 % 6 = q := ⟨_, rfl⟩
  have d1 : (s1 : Int) % 6 = (q1 : Int) := by omega
  have r1 : q1 ≤ 5 := by omega
  have dt1 : Hid ((s1 : Int).tmod 6 = (q1 : Int)) := by
    show _ = _
    rw [Int.tmod_eq_emod_of_nonneg (by omega)]; exact d1
  have dw1 : Hid (IntKind.i64.wrap (q1 : Int) = (q1 : Int)) := IntWalk.i64_in _ (by omega)
  obtain ⟨q2, hq2⟩ : ∃ q, s2 % 6 = q := ⟨_, rfl⟩
  have d2 : (s2 : Int) % 6 = (q2 : Int) := by omega
  have r2 : q2 ≤ 5 := by omega
  have dt2 : Hid ((s2 : Int).tmod 6 = (q2 : Int)) := by
    show _ = _
    rw [Int.tmod_eq_emod_of_nonneg (by omega)]; exact d2
  have dw2 : Hid (IntKind.i64.wrap (q2 : Int) = (q2 : Int)) := IntWalk.i64_in _ (by omega)
  obtain ⟨m, hm⟩ : ∃ m, 1 + q2 = m := ⟨_, rfl⟩
  have dm : 1 + (q2 : Int) = (m : Int) := by omega
  have rm : m ≤ 6 := by omega
  have rm1 : 1 ≤ m := by omega
  obtain ⟨X, hX⟩ : ∃ M, shapeN xs q0 m = M := ⟨_, rfl⟩
  have sX : Hid (Sz q0 m X) := hX ▸ shape_sz xs q0 m h1.all
  have EX := Lib.hid hX
  obtain ⟨Y, hY⟩ : ∃ M, shapeN ys q1 m = M := ⟨_, rfl⟩
  have sY : Hid (Sz q1 m Y) := hY ▸ shape_sz ys q1 m h2.all
  have EY := Lib.hid hY
  have SZ0 : Hid (Sz 0 m []) := ⟨rfl, fun r hr => by simp at hr⟩
  have hall : AllB zs := h3.all
  have ww := wit_facts sX.out sY.out
  obtain ⟨b, hb⟩ : ∃ b, conB Y X = b := ⟨_, rfl⟩
  rw [hb] at ww
  have fa := fill_span sX.out sY.out zs hall
  obtain ⟨F, hF⟩ : ∃ F, fillN zs q0 = F := ⟨_, rfl⟩
  obtain ⟨V, hV⟩ : ∃ V, vComb m X F q0 = V := ⟨_, rfl⟩
  rw [hF, hV, hb] at fa
  obtain ⟨zr, hzr⟩ : ∃ z, conB Y [V] = z := ⟨_, rfl⟩
  rw [hzr] at fa
  obtain ⟨wb0, hwb⟩ : ∃ z, witB X Y = z := ⟨_, rfl⟩
  obtain ⟨wn, hwn⟩ : ∃ z, witN X Y = z := ⟨_, rfl⟩
  obtain ⟨er, her⟩ : ∃ z, sizeE (X ++ Y) = z := ⟨_, rfl⟩
  have ht := two_sz sX.out sY.out
  rw [her] at ht
  rw [hwb, hwn] at ww
  obtain ⟨ky, hky⟩ : ∃ z, rk Y = z := ⟨_, rfl⟩
  rw [hky] at ww
  have tky := (rk_le sY.out).2
  rw [hky] at tky
  have TW := Lib.hid ht
  have WW := Lib.hid ww
  have FA := Lib.hid fa
  have EF := Lib.hid (And.intro hF hV)
  have CB := Lib.hid (And.intro hb hzr)
  have EW := Lib.hid (And.intro hwb (And.intro hwn (And.intro her hky)))
  have sV : Hid (Sz 1 m [V]) := by rw [← EF.out.2]; exact vcomb_sz sX.out F q0
  have sN0 : Hid (q0 = 0 → b = true) := fun e => by
    rw [← CB.out.1]
    obtain rfl : X = [] := List.eq_nil_of_length_eq_zero (sX.out.1.trans e)
    exact con_nil sY.out
  clear hb fa hF hV hzr hwb hwn her hky ww ht hall
  clear h1 h2 h3 hX hY hq0 hq1 hq2 hm
  go_enter Try.func6, Try.ntmps6
  go_upto_region 1 with fail
  have hbk := heap_alloc_new w (.cells #[.int .u8 (s0 : Int), .int .u8 (s1 : Int), .int .u8 (s2 : Int)] 52)
  have kb : Keep w (w.alloc (.cells #[.int .u8 (s0 : Int), .int .u8 (s1 : Int), .int .u8 (s2 : Int)] 52)) := (Keep.refl w).obj _
  obtain ⟨gs, hgs⟩ : ∃ g, w.heap.size = g := ⟨_, rfl⟩
  rw [hgs] at hbk
  simp only [hgs]
  have cs0 : (w.alloc (.cells #[.int .u8 (s0 : Int), .int .u8 (s1 : Int), .int .u8 (s2 : Int)] 52)).cell? ⟨gs, 0, none⟩ = some (.int .u8 (s0 : Int)) := by simp [World.cell?, hbk]
  have cs1 : (w.alloc (.cells #[.int .u8 (s0 : Int), .int .u8 (s1 : Int), .int .u8 (s2 : Int)] 52)).cell? ⟨gs, 1, none⟩ = some (.int .u8 (s1 : Int)) := by simp [World.cell?, hbk]
  have cs2 : (w.alloc (.cells #[.int .u8 (s0 : Int), .int .u8 (s1 : Int), .int .u8 (s2 : Int)] 52)).cell? ⟨gs, 2, none⟩ = some (.int .u8 (s2 : Int)) := by simp [World.cell?, hbk]
  have hgl : gs < (w.alloc (.cells #[.int .u8 (s0 : Int), .int .u8 (s1 : Int), .int .u8 (s2 : Int)] 52)).heap.size := by rw [size_obj, hgs]; omega
  clear hbk hgs
  have KB := Lib.hid kb
  generalize w.alloc (.cells #[.int .u8 (s0 : Int), .int .u8 (s1 : Int), .int .u8 (s2 : Int)] 52) = wb at *
  clear kb
  go_wp2_with fail
  refine wp_region_noPanic ?_
  refine wp_region_held_drew (S := fun wz => Keep wb wz) (by kernel_rfl) (Keep.drew (Keep.refl wb)) (fun hHeld => ?_)
  refine wpAnyH_take (i := 0) (v := ?_) rfl (by kernel_rfl) (by kernel_rfl) (by kernel_rfl) (fun _ _ _ h => h) (Or.inl ⟨by rfl, ?_⟩) hHeld ?_
  rotate_left
  · intro wq hSw
    go_simp
    all_goals with_reducible rfl
  try simp only [Act.put, List.getElem_toArray, List.getElem_cons_succ, List.getElem_cons_zero, List.setIfInBounds_toArray, List.set_cons_zero, List.set_cons_succ]
  refine wpAnyH_take (i := 1) (v := ?_) rfl (by kernel_rfl) (by kernel_rfl) (by kernel_rfl) (fun _ _ _ h => h) (Or.inl ⟨by rfl, ?_⟩) hHeld ?_
  rotate_left
  · intro wq hSw
    go_simp
    all_goals with_reducible rfl
  try simp only [Act.put, List.getElem_toArray, List.getElem_cons_succ, List.getElem_cons_zero, List.setIfInBounds_toArray, List.set_cons_zero, List.set_cons_succ]
  refine wpAnyH_take (i := 2) (v := ?_) rfl (by kernel_rfl) (by kernel_rfl) (by kernel_rfl) (fun _ _ _ h => h) (Or.inl ⟨by rfl, ?_⟩) hHeld ?_
  rotate_left
  · intro wq hSw
    have q0 := (hSw.cell (p := ⟨gs, 0, none⟩) hgl).trans cs0
    go_simp
    all_goals with_reducible rfl
  try simp only [Act.put, List.getElem_toArray, List.getElem_cons_succ, List.getElem_cons_zero, List.setIfInBounds_toArray, List.set_cons_zero, List.set_cons_succ]
  refine wpAnyH_take (i := 3) (v := ?_) rfl (by kernel_rfl) (by kernel_rfl) (by kernel_rfl) (fun _ _ _ h => h) (Or.inl ⟨by rfl, ?_⟩) hHeld ?_
  rotate_left
  · intro wq hSw
    have q0 := dt0.out
    go_simp
    all_goals with_reducible rfl
  try simp only [Act.put, List.getElem_toArray, List.getElem_cons_succ, List.getElem_cons_zero, List.setIfInBounds_toArray, List.set_cons_zero, List.set_cons_succ]
  refine wpAnyH_take (i := 4) (v := ?_) rfl (by kernel_rfl) (by kernel_rfl) (by kernel_rfl) (fun _ _ _ h => h) (Or.inl ⟨by rfl, ?_⟩) hHeld ?_
  rotate_left
  · intro wq hSw
    have q0 := dw0.out
    go_simp
    all_goals with_reducible rfl
  try simp only [Act.put, List.getElem_toArray, List.getElem_cons_succ, List.getElem_cons_zero, List.setIfInBounds_toArray, List.set_cons_zero, List.set_cons_succ]
  refine wpAnyH_take (i := 5) (v := ?_) rfl (by kernel_rfl) (by kernel_rfl) (by kernel_rfl) (fun _ _ _ h => h) (Or.inl ⟨by rfl, ?_⟩) hHeld ?_
  rotate_left
  · intro wq hSw
    go_simp
    all_goals with_reducible rfl
  try simp only [Act.put, List.getElem_toArray, List.getElem_cons_succ, List.getElem_cons_zero, List.setIfInBounds_toArray, List.set_cons_zero, List.set_cons_succ]
  refine wpAnyH_take (i := 7) (v := ?_) rfl (by kernel_rfl) (by kernel_rfl) (by kernel_rfl) (fun _ _ _ h => h) (Or.inl ⟨by rfl, ?_⟩) hHeld ?_
  rotate_left
  · intro wq hSw
    go_simp
    all_goals with_reducible rfl
  try simp only [Act.put, List.getElem_toArray, List.getElem_cons_succ, List.getElem_cons_zero, List.setIfInBounds_toArray, List.set_cons_zero, List.set_cons_succ]
  refine wpAnyH_take (i := 8) (v := ?_) rfl (by kernel_rfl) (by kernel_rfl) (by kernel_rfl) (fun _ _ _ h => h) (Or.inl ⟨by rfl, ?_⟩) hHeld ?_
  rotate_left
  · intro wq hSw
    go_simp
    all_goals with_reducible rfl
  try simp only [Act.put, List.getElem_toArray, List.getElem_cons_succ, List.getElem_cons_zero, List.setIfInBounds_toArray, List.set_cons_zero, List.set_cons_succ]
  refine wpAnyH_take (i := 9) (v := ?_) rfl (by kernel_rfl) (by kernel_rfl) (by kernel_rfl) (fun _ _ _ h => h) (Or.inl ⟨by rfl, ?_⟩) hHeld ?_
  rotate_left
  · intro wq hSw
    have q0 := (hSw.cell (p := ⟨gs, 1, none⟩) hgl).trans cs1
    go_simp
    all_goals with_reducible rfl
  try simp only [Act.put, List.getElem_toArray, List.getElem_cons_succ, List.getElem_cons_zero, List.setIfInBounds_toArray, List.set_cons_zero, List.set_cons_succ]
  refine wpAnyH_take (i := 10) (v := ?_) rfl (by kernel_rfl) (by kernel_rfl) (by kernel_rfl) (fun _ _ _ h => h) (Or.inl ⟨by rfl, ?_⟩) hHeld ?_
  rotate_left
  · intro wq hSw
    have q0 := dt1.out
    go_simp
    all_goals with_reducible rfl
  try simp only [Act.put, List.getElem_toArray, List.getElem_cons_succ, List.getElem_cons_zero, List.setIfInBounds_toArray, List.set_cons_zero, List.set_cons_succ]
  refine wpAnyH_take (i := 11) (v := ?_) rfl (by kernel_rfl) (by kernel_rfl) (by kernel_rfl) (fun _ _ _ h => h) (Or.inl ⟨by rfl, ?_⟩) hHeld ?_
  rotate_left
  · intro wq hSw
    have q0 := dw1.out
    go_simp
    all_goals with_reducible rfl
  try simp only [Act.put, List.getElem_toArray, List.getElem_cons_succ, List.getElem_cons_zero, List.setIfInBounds_toArray, List.set_cons_zero, List.set_cons_succ]
  refine wpAnyH_take (i := 12) (v := ?_) rfl (by kernel_rfl) (by kernel_rfl) (by kernel_rfl) (fun _ _ _ h => h) (Or.inl ⟨by rfl, ?_⟩) hHeld ?_
  rotate_left
  · intro wq hSw
    go_simp
    all_goals with_reducible rfl
  try simp only [Act.put, List.getElem_toArray, List.getElem_cons_succ, List.getElem_cons_zero, List.setIfInBounds_toArray, List.set_cons_zero, List.set_cons_succ]
  refine wpAnyH_ready (rs := [6]) (by kernel_rfl) (by simp) ?_
  refine AllReadyH.cons rfl (fun K hK => ?_) AllReadyH.nil
  go_simp
  refine (shaped_mat w.heap.size n1 c1 q0 m A1 xs wb.drew (H1.out.keep (Nat.le_refl _) (KB.out.trans (Keep.drew (Keep.refl wb)))) (KB.out.trans (Keep.drew (Keep.refl wb))).size m1 (by omega) (by omega)).mono ?_
  rintro e wX ⟨AX, nX, cX, rfl, mm, kk⟩
  have mm : Mat wX ⟨AX, nX, cX, X⟩ := by rw [← EX.out]; exact mm
  have SX : Hid (St wb wX [⟨AX, nX, cX, X⟩]) := (St.start wb |>.later (Keep.drew (Keep.refl wb))).more mm kk
  clear mm kk
  refine hK.out _ _ SX.out.keep (fun hHeld => ?_)
  clear hK K
  try simp only [Act.put, List.getElem_toArray, List.getElem_cons_succ, List.getElem_cons_zero, List.setIfInBounds_toArray, List.set_cons_zero, List.set_cons_succ]
  refine wpAnyH_ready (rs := [13]) (by kernel_rfl) (by simp) ?_
  refine AllReadyH.cons rfl (fun K hK => ?_) AllReadyH.nil
  go_simp
  refine (shaped_mat w.heap.size n2 c2 q1 m A2 ys wX (H2.out.keep (Nat.le_refl _) (KB.out.trans SX.out.keep)) (KB.out.trans SX.out.keep).size m2 (by omega) (by omega)).mono ?_
  rintro e wY ⟨AY, nY, cY, rfl, mm, kk⟩
  have mm : Mat wY ⟨AY, nY, cY, Y⟩ := by rw [← EY.out]; exact mm
  have SY : Hid (St wb wY [⟨AX, nX, cX, X⟩, ⟨AY, nY, cY, Y⟩]) := SX.out.more mm kk
  clear mm kk SX
  refine hK.out _ _ SY.out.keep (fun hHeld => ?_)
  clear hK K
  try simp only [Act.put, List.getElem_toArray, List.getElem_cons_succ, List.getElem_cons_zero, List.setIfInBounds_toArray, List.set_cons_zero, List.set_cons_succ]
  refine wpAnyH_take (i := 14) (v := ?_) rfl (by kernel_rfl) (by kernel_rfl) (by kernel_rfl) (fun _ _ _ h => h) (Or.inl ⟨by rfl, ?_⟩) hHeld ?_
  rotate_left
  · intro wq hSw
    go_simp
    all_goals with_reducible rfl
  try simp only [Act.put, List.getElem_toArray, List.getElem_cons_succ, List.getElem_cons_zero, List.setIfInBounds_toArray, List.set_cons_zero, List.set_cons_succ]
  refine wpAnyH_take (i := 15) (v := ?_) rfl (by kernel_rfl) (by kernel_rfl) (by kernel_rfl) (fun _ _ _ h => h) (Or.inl ⟨by rfl, ?_⟩) hHeld ?_
  rotate_left
  · intro wq hSw
    go_simp
    all_goals with_reducible rfl
  try simp only [Act.put, List.getElem_toArray, List.getElem_cons_succ, List.getElem_cons_zero, List.setIfInBounds_toArray, List.set_cons_zero, List.set_cons_succ]
  refine wpAnyH_done (by kernel_rfl) ?_ _
  refine NoPanic.normal ?_
  clear hHeld
  clear cs0 cs1 cs2 hgl
  go_wp2_with fail
  have hlo : Hid (q0 ≤ 400 ∧ q1 ≤ 400 ∧ m ≤ 400) := ⟨by omega, by omega, by omega⟩
  have hwi := witness_mat (SY.out.get 0 rfl) (SY.out.get 1 rfl) (by rw [(SY.out.get 0 rfl).cnt sX.out]; omega) (by rw [(SY.out.get 1 rfl).cnt sY.out]; omega) (Nat.le_trans TW.out.2.2.1 (by omega))
  unfold NewWit at hwi
  rw [EW.out.1, EW.out.2.1, EW.out.2.2.1, TW.out.2.1] at hwi
  have HWI := Lib.hid hwi
  clear hwi
  cases b with
  | true =>
    have z1 : wb0 = false := WW.out.1
    have z2 : wn = [] := WW.out.2.1 rfl
    subst z1
    subst z2
    refine HWI.out.mono ?_
    rintro e w5 ⟨A5, n5, c5, rfl, o5, k5⟩
    have S4 : Sr wb wY [⟨AX, nX, cX, X⟩, ⟨AY, nY, cY, Y⟩] [] := ⟨SY.out, fun r hr => by simp at hr⟩
    have S5 : Hid (Sr wb w5 [⟨AX, nX, cX, X⟩, ⟨AY, nY, cY, Y⟩] [⟨A5, n5, c5, []⟩]) := S4.moreRow (r := ⟨A5, n5, c5, []⟩) o5.bytes k5
    have N5 : Hid ([].length = n5 ∧ n5 ≤ c5) := ⟨o5.length, own_le' o5⟩
    clear o5 k5 HWI S4
    obtain rfl : 0 = n5 := N5.out.1
    have zr1 : zr = true := FA.out.2 rfl
    subst zr1
    go_wp2_with fail
    refine (contains_szm (S5.out.get 1 rfl) (S5.out.get 0 rfl) sY.out sX.out (by omega) (by omega) (by omega)).mono ?_
    rw [CB.out.1]
    rintro e w6 ⟨rfl, kk⟩
    have S6 := Lib.hid (S5.out.later kk)
    clear kk S5
    obtain rfl : nX = q0 := (S6.out.get 0 rfl).cnt sX.out
    by_cases h0 : nX = 0
    · have b0 : ((nX : Int) == 0) = true := by rw [h0]; rfl
      clear h0
      go_wp2_with fail
      refine (wakes_any _).mono ?_
      rintro e wz ⟨rfl, kk⟩
      have SZ := Lib.hid (S6.out.later kk)
      clear kk S6
      go_wp2_with fail
      go_ret
      exact ⟨rfl, KB.out.trans SZ.out.keep⟩
    · have b0 : ((nX : Int) == 0) = false := beq_eq_false_iff_ne.2 (by omega)
      have p0 : 1 ≤ nX := by omega
      obtain ⟨w7, vv, hcp, ho7, hk7⟩ := run_copy_fill (P := Try.prog) (w := w6) (t := 23) (e := 5) (c := c3) (ty := 3) (n := nX) Try.underlying23 (by kernel_rfl) (H3.out.keep (Nat.le_refl _) (KB.out.trans S6.out.keep)) (KB.out.trans S6.out.keep).size (by omega)
      have mk1 := run_make_bytes (P := Try.prog) Try.underlying23 info5 nX (by omega) w6
      rw [EF.out.1] at ho7
      obtain ⟨gd, hgd⟩ : ∃ g, w6.heap.size = g := ⟨_, rfl⟩
      have HSA : Hid (Sr wb w7 [⟨AX, nX, cX, X⟩, ⟨AY, nY, cY, Y⟩] [⟨A5, 0, c5, []⟩, ⟨some ⟨gd, 0, none⟩, nX, nX, F⟩]) := by
        rw [← hgd]; exact S6.out.moreRow (r := ⟨some ⟨w6.heap.size, 0, none⟩, nX, nX, F⟩) ho7.bytes hk7
      simp only [hgd] at hcp mk1
      clear ho7 hk7 S6 hgd
      go_wp2_with fail
      clear hcp
      have SA : Hid (Sr wb w7 [⟨AX, nX, cX, X⟩, ⟨AY, nY, cY, Y⟩] [⟨A5, 0, c5, []⟩, ⟨some ⟨gd, 0, none⟩, nX, nX, F⟩]) := HSA.out
      clear HSA
      refine (comb_mat (SA.out.get 0 rfl) sX.out (by omega) (by omega) (by omega) (SA.out.row 1 rfl) (Nat.le_refl _) rfl).mono ?_
      rw [EF.out.2]
      rintro e w8 ⟨A8, n8, c8, rfl, o8, k8⟩
      obtain rfl : m = n8 := by rw [← o8.length]; exact (sV.out.2 V (by simp)).1.symm
      have S8 : Hid (Sr wb w8 [⟨AX, nX, cX, X⟩, ⟨AY, nY, cY, Y⟩] [⟨A5, 0, c5, []⟩, ⟨some ⟨gd, 0, none⟩, nX, nX, F⟩, ⟨A8, m, c8, V⟩]) := SA.out.moreRow (r := ⟨A8, m, c8, V⟩) o8.bytes k8
      have N8 : Hid (m ≤ c8) := own_le' o8
      clear o8 k8 SA
      go_wp2_with fail
      refine (has_szm (S8.out.get 0 rfl) (LiesIn.of_bytes (r := ⟨A8, m, c8, V⟩) (S8.out.row 2 rfl) N8.out) sX.out sV.out (by omega) (by omega)).mono ?_
      rw [FA.out.1]
      rintro e w9 ⟨rfl, kk⟩
      have S9 := Lib.hid (S8.out.later kk)
      clear kk S8
      go_wp2_with fail
      refine (has_szm (S9.out.get 1 rfl) (LiesIn.of_bytes (r := ⟨A8, m, c8, V⟩) (S9.out.row 2 rfl) N8.out) sY.out sV.out (by omega) (by omega)).mono ?_
      rw [CB.out.2]
      rintro e wa ⟨rfl, kk⟩
      have SAA := Lib.hid (S9.out.later kk)
      clear kk S9
      go_wp2_with fail
      refine (wakes_any _).mono ?_
      rintro e wz ⟨rfl, kk⟩
      have SZ := Lib.hid (SAA.out.later kk)
      clear kk SAA
      go_wp2_with fail
      go_ret
      exact ⟨rfl, KB.out.trans SZ.out.keep⟩
  | false =>
    have z1 : wb0 = true := WW.out.1
    obtain ⟨ii, hii, z2, z3, z4, z5⟩ := WW.out.2.2 rfl
    subst z1
    obtain ⟨v0, hv0⟩ : ∃ v, X.getD ii [] = v := ⟨_, rfl⟩
    rw [hv0] at z3 z4 z5
    rw [← z2] at z5
    have p0 : 1 ≤ q0 := by omega
    have sv0 : Hid (Sz 1 m [v0]) := ⟨rfl, fun r hr => by rw [List.mem_singleton.1 hr, ← hv0]; exact sX.out.at_ hii⟩
    have ZZ := Lib.hid (And.intro z3 (And.intro z4 z5))
    have ZL : Hid (wn.length = q0) := by show _ = _; rw [z2, vUnit, tab_length]
    have ZA : Hid (AllB wn) := by show AllB _; rw [z2]; exact vUnit_all _ _
    clear z2 z3 z4 z5 hv0 hii
    refine HWI.out.mono ?_
    rintro e w5 ⟨A5, n5, c5, rfl, o5, k5⟩
    have S4 : Sr wb wY [⟨AX, nX, cX, X⟩, ⟨AY, nY, cY, Y⟩] [] := ⟨SY.out, fun r hr => by simp at hr⟩
    have S5 : Hid (Sr wb w5 [⟨AX, nX, cX, X⟩, ⟨AY, nY, cY, Y⟩] [⟨A5, n5, c5, wn⟩]) := S4.moreRow (r := ⟨A5, n5, c5, wn⟩) o5.bytes k5
    have N5 : Hid (wn.length = n5 ∧ n5 ≤ c5) := ⟨o5.length, own_le' o5⟩
    clear o5 k5 HWI S4
    go_wp2_with fail
    refine (contains_szm (S5.out.get 1 rfl) (S5.out.get 0 rfl) sY.out sX.out (by omega) (by omega) (by omega)).mono ?_
    rw [CB.out.1]
    rintro e w6 ⟨rfl, kk⟩
    have S6 := Lib.hid (S5.out.later kk)
    clear kk S5
    obtain rfl : nX = q0 := (S6.out.get 0 rfl).cnt sX.out
    obtain rfl : nX = n5 := ZL.out.symm.trans N5.out.1
    have b0 : ((nX : Int) == 0) = false := beq_eq_false_iff_ne.2 (by omega)
    obtain ⟨w7, vv, hcp, ho7, hk7⟩ := run_copy_fill (P := Try.prog) (w := w6) (t := 23) (e := 5) (c := c3) (ty := 3) (n := nX) Try.underlying23 (by kernel_rfl) (H3.out.keep (Nat.le_refl _) (KB.out.trans S6.out.keep)) (KB.out.trans S6.out.keep).size (by omega)
    have mk1 := run_make_bytes (P := Try.prog) Try.underlying23 info5 nX (by omega) w6
    rw [EF.out.1] at ho7
    obtain ⟨gd, hgd⟩ : ∃ g, w6.heap.size = g := ⟨_, rfl⟩
    have HSA : Hid (Sr wb w7 [⟨AX, nX, cX, X⟩, ⟨AY, nY, cY, Y⟩] [⟨A5, nX, c5, wn⟩, ⟨some ⟨gd, 0, none⟩, nX, nX, F⟩]) := by
      rw [← hgd]; exact S6.out.moreRow (r := ⟨some ⟨w6.heap.size, 0, none⟩, nX, nX, F⟩) ho7.bytes hk7
    simp only [hgd] at hcp mk1
    clear ho7 hk7 S6 hgd
    go_wp2_with fail
    clear hcp
    have SA : Hid (Sr wb w7 [⟨AX, nX, cX, X⟩, ⟨AY, nY, cY, Y⟩] [⟨A5, nX, c5, wn⟩, ⟨some ⟨gd, 0, none⟩, nX, nX, F⟩]) := HSA.out
    clear HSA
    refine (comb_mat (SA.out.get 0 rfl) sX.out (by omega) (by omega) (by omega) (SA.out.row 1 rfl) (Nat.le_refl _) rfl).mono ?_
    rw [EF.out.2]
    rintro e w8 ⟨A8, n8, c8, rfl, o8, k8⟩
    obtain rfl : m = n8 := by rw [← o8.length]; exact (sV.out.2 V (by simp)).1.symm
    have S8 : Hid (Sr wb w8 [⟨AX, nX, cX, X⟩, ⟨AY, nY, cY, Y⟩] [⟨A5, nX, c5, wn⟩, ⟨some ⟨gd, 0, none⟩, nX, nX, F⟩, ⟨A8, m, c8, V⟩]) := SA.out.moreRow (r := ⟨A8, m, c8, V⟩) o8.bytes k8
    have N8 : Hid (m ≤ c8) := own_le' o8
    clear o8 k8 SA
    go_wp2_with fail
    refine (has_szm (S8.out.get 0 rfl) (LiesIn.of_bytes (r := ⟨A8, m, c8, V⟩) (S8.out.row 2 rfl) N8.out) sX.out sV.out (by omega) (by omega)).mono ?_
    rw [FA.out.1]
    rintro e w9 ⟨rfl, kk⟩
    have S9 := Lib.hid (S8.out.later kk)
    clear kk S8
    go_wp2_with fail
    refine (has_szm (S9.out.get 1 rfl) (LiesIn.of_bytes (r := ⟨A8, m, c8, V⟩) (S9.out.row 2 rfl) N8.out) sY.out sV.out (by omega) (by omega)).mono ?_
    rw [CB.out.2]
    rintro e wa ⟨rfl, kk⟩
    have SAA := Lib.hid (S9.out.later kk)
    clear kk S9
    go_wp2_with fail
    refine (comb_mat (SAA.out.get 0 rfl) sX.out (by omega) (by omega) (by omega) (SAA.out.row 0 rfl) (Nat.le_refl _) rfl).mono ?_
    rw [ZZ.out.2.2]
    rintro e wc ⟨Ac, nc, cc, rfl, oc, kc⟩
    obtain rfl : m = nc := by rw [← oc.length]; exact (sv0.out.2 v0 (by simp)).1.symm
    have SC : Hid (Sr wb wc [⟨AX, nX, cX, X⟩, ⟨AY, nY, cY, Y⟩] [⟨A5, nX, c5, wn⟩, ⟨some ⟨gd, 0, none⟩, nX, nX, F⟩, ⟨A8, m, c8, V⟩, ⟨Ac, m, cc, v0⟩]) := SAA.out.moreRow (r := ⟨Ac, m, cc, v0⟩) oc.bytes kc
    have NC : Hid (m ≤ cc) := own_le' oc
    clear oc kc SAA
    go_wp2_with fail
    refine (has_szm (SC.out.get 1 rfl) (LiesIn.of_bytes (r := ⟨Ac, m, cc, v0⟩) (SC.out.row 3 rfl) NC.out) sY.out sv0.out (by omega) (by omega)).mono ?_
    rw [ZZ.out.1]
    rintro e wd ⟨rfl, kk⟩
    have SD := Lib.hid (SC.out.later kk)
    clear kk SC
    go_wp2_with fail
    refine (rank_sz0 (SD.out.get 1 rfl) sY.out (by omega) (by omega)).mono ?_
    rw [EW.out.2.2.2]
    rintro e we ⟨rfl, kk⟩
    have SE := Lib.hid (SD.out.later kk)
    have NY := Lib.hid ((SE.out.get 1 rfl).cnt sY.out)
    clear kk SD
    go_wp2_with (at_builtin; refine wpList_append_lay rfl _ _ 22 rfl Try.underlying22 rfl (Lay.nothing we) rfl (SE.out.get 1 rfl) nY (Nat.zero_add nY) (by have := NY.out; omega) ?_)
    intro Af cf wf rsf hf xf
    have Hf := Lib.hid hf
    have Xf := Lib.hid xf
    clear hf xf
    go_wp2_with (at_builtin; refine wpList_append_layrow rfl _ _ 22 rfl ⟨Ac, m, cc, v0⟩ 23 Try.underlying22 rfl Hf.out (Hf.out.old (LiesIn.of_bytes (r := ⟨Ac, m, cc, v0⟩) (SE.out.row 3 rfl) NC.out)) rfl (by have := NY.out; omega) ?_)
    intro Ag cg wg hg
    have hmg := hg.mat
    have hmg : Mat wg ⟨Ag, nY + 1, cg, Y ++ [v0]⟩ := by
      have e : rowsXs (rsf ++ [⟨Ac, m, cc, v0⟩]) = Y ++ [v0] := by rw [rowsXs, List.map_append, ← rowsXs, Xf.out]; rfl
      rw [e] at hmg; exact hmg
    have SG := Lib.hid ((SE.out.later hg.keep).more hmg (Keep.refl _))
    clear hg hmg Hf Xf SE
    go_wp2_with fail
    refine (rank_sz0 (SG.out.get 2 rfl) (sY.out.append sv0.out) (by omega) (by omega)).mono ?_
    rw [ZZ.out.2.1]
    rintro e wh ⟨rfl, kk⟩
    have SH := Lib.hid (SG.out.later kk)
    clear kk SG
    go_wp2_with fail
    refine (wakes_any _).mono ?_
    rintro e wz ⟨rfl, kk⟩
    have SZ := Lib.hid (SH.out.later kk)
    clear kk SH
    go_wp2_with fail
    go_ret
    exact ⟨rfl, KB.out.trans SZ.out.keep⟩
end Go.Proofs.Ytofhdaeeiienfaa
