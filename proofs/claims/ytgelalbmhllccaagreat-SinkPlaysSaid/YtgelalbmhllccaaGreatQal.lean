/- The document's own basis in memory: New, sums of rows, leads. -/
import Derived.Test.YtgelalbmhllccaaGreatQac
import Derived.Test.YtgelalbmhllccaaGreatQag
import Derived.Test.YtgelalbmhllccaaGreatQak
namespace Go.Proofs.YtgelalbmhllccaaGreat
open Go.RowKit Lin
set_option linter.unusedVariables false
set_option linter.unusedSimpArgs false
/-- The document's own basis at block b: its places, and the rows there. -/
structure RefR (w : World) (F : Nat → Prop) (b g s bi br : Nat) (iv : List Bool) (R : List PairV) : Prop where
  lt : ∀ k, F k → k < w.heap.size
  fb : F b
  fi : F bi
  fr : F br
  ne : b ≠ bi ∧ b ≠ br ∧ bi ≠ br
  block : w.heap[b]? = some (.cells #[.int .i64 (g : Int), .int .i64 (s : Int), .slice (some ⟨bi, 0, none⟩) g g, .slice (some ⟨br, 0, none⟩) g g] 143 (0, 0))
  bools : w.heap[bi]? = some (.cells (iv.map Value.bool).toArray 4 (0, 0))
  st : StB w br R
  li : iv.length = g
  lr : R.length = g
  rows : ∀ (i : Nat) (p : PairV), iv[i]? = some true → R[i]? = some p → (LiesIn w (fun k => F k ∧ k ≠ b ∧ k ≠ bi ∧ k ≠ br) p.a ∧ LiesIn w (fun k => F k ∧ k ≠ b ∧ k ≠ bi ∧ k ≠ br) p.b) ∧ p.a.n = g ∧ p.b.n = s
section
variable {w w' : World} {F G : Nat → Prop} {b g s bi br : Nat} {iv : List Bool} {R : List PairV}
theorem RefR.turned (h : RefR w F b g s bi br iv R) (k : Turned G w w') (hd : ∀ b, F b → ¬ G b) : RefR w' F b g s bi br iv R :=
  ⟨fun x hx => Nat.lt_of_lt_of_le (h.lt x hx) k.size, h.fb, h.fi, h.fr, h.ne, (k.block b (h.lt b h.fb) (hd b h.fb)).trans h.block, (k.block bi (h.lt bi h.fi) (hd bi h.fi)).trans h.bools, h.st.turned k (hd br h.fr), h.li, h.lr, fun i p hx hp => by
    obtain ⟨⟨a, c⟩, z⟩ := h.rows i p hx hp
    exact ⟨⟨a.turned k fun x hx => hd x hx.1, c.turned k fun x hx => hd x hx.1⟩, z⟩⟩
theorem RefR.keep (h : RefR w F b g s bi br iv R) (k : Keep w w') : RefR w' F b g s bi br iv R := h.turned (Turned.of_keep (F := fun _ => False) k) fun _ _ e => e
theorem RefR.c0 (h : RefR w F b g s bi br iv R) : w.cell? ⟨b, 0, none⟩ = some (.int .i64 (g : Int)) := cell_of_row _ _ _ _ _ _ h.block
theorem RefR.c1 (h : RefR w F b g s bi br iv R) : w.cell? ⟨b, 1, none⟩ = some (.int .i64 (s : Int)) := cell_of_row _ _ _ _ _ _ h.block
theorem RefR.c2 (h : RefR w F b g s bi br iv R) : w.cell? ⟨b, 2, none⟩ = some (.slice (some ⟨bi, 0, none⟩) g g) := cell_of_row _ _ _ _ _ _ h.block
theorem RefR.c3 (h : RefR w F b g s bi br iv R) : w.cell? ⟨b, 3, none⟩ = some (.slice (some ⟨br, 0, none⟩) g g) := cell_of_row _ _ _ _ _ _ h.block
theorem RefR.cb (h : RefR w F b g s bi br iv R) {i : Nat} {x : Bool} (hx : iv[i]? = some x) : w.cell? ⟨bi, i, none⟩ = some (.bool x) := by
  rw [World.cell?, h.bools]
  simp [List.getElem?_map, hx]
end
theorem infoBool : (Tryz.prog.info? 4).map (fun i => (i.zero, i.size, i.bytes)) = some (some (.bool false), 1, 1) := by kernel_rfl
theorem run_make_bools (n : Nat) (hn : n ≤ 1000000) (w : World) : (Instr.makeSlice 63 (.int .i64 (n : Int)) (.int .i64 (n : Int))).run Tryz.prog w = .ok (.slice (some ⟨w.heap.size, 0, none⟩) n n) (w.alloc (.cells (Array.replicate n (Value.bool false)) 4)) := by
  obtain ⟨i0, hi0, hz0, hz1, hz2⟩ := info_parts infoBool
  have h := run_make (P := Tryz.prog) w 63 4 i0 (.bool false) Tryz.underlying63 hi0 hz0 .i64 .i64 n n (by omega) (by omega) (by rw [hz2]; omega) (by omega)
  rw [hz1, Int.toNat_natCast, Nat.mul_one] at h
  have e : madeCells (Value.cells (.bool false)) n = Array.replicate n (Value.bool false) := by
    refine Array.ext' ?_
    rw [Array.toList_replicate]
    exact toList_madeCells_one _ _
  rw [h, e]
theorem refR_new {w w' : World} {b bi br g s : Nat} (hk : Keep w w') (h1 : w.heap.size ≤ b) (h2 : w.heap.size ≤ bi) (h3 : w.heap.size ≤ br) (hne : b ≠ bi ∧ b ≠ br ∧ bi ≠ br)
    (hb : w'.heap[b]? = some (.cells #[.int .i64 (g : Int), .int .i64 (s : Int), .slice (some ⟨bi, 0, none⟩) g g, .slice (some ⟨br, 0, none⟩) g g] 143 (0, 0)))
    (hbi : w'.heap[bi]? = some (.cells (Array.replicate g (Value.bool false)) 4 (0, 0))) (hbr : StB w' br (List.replicate g PairV.zero)) : ∃ F, RefR w' F b g s bi br (List.replicate g false) (List.replicate g PairV.zero) ∧ ∀ k, F k → w.heap.size ≤ k := by
  refine ⟨fun k => k = b ∨ k = bi ∨ k = br, ⟨fun k hk => ?_, Or.inl rfl, Or.inr (Or.inl rfl), Or.inr (Or.inr rfl), hne, hb, (by rw [show ((List.replicate g false).map Value.bool).toArray = Array.replicate g (Value.bool false) by simp]; exact hbi), hbr, List.length_replicate, List.length_replicate, fun i p hx _ => ?_⟩, fun k hk => ?_⟩
  · rcases hk with e | e | e <;> subst e
    · exact (Array.getElem?_eq_some_iff.1 hb).1
    · exact (Array.getElem?_eq_some_iff.1 hbi).1
    · exact hbr.lt
  · rw [List.getElem?_replicate] at hx; split at hx <;> cases hx
  · rcases hk with e | e | e <;> subst e <;> assumption
set_option maxRecDepth 100000 in
theorem rpnew_out (g s : Int) (h : g < 1 ∨ 255 < g ∨ s < 1 ∨ 65535 < s) (w : World) :
    Calls Tryz.prog 37 #[.int .i64 g, .int .i64 s] w fun e w' => e = .returned (.tuple #[.pointer none, .int .i64 1]) ∧ Keep w w' := by
  have hb : (decide (g < 1) || decide (255 < g) || decide (s < 1) || decide (65535 < s)) = true := by
    simp only [Bool.or_eq_true, decide_eq_true_eq]
    omega
  clear h
  cases e1 : decide (g < 1) <;> cases e2 : decide (255 < g) <;> cases e3 : decide (s < 1) <;> cases e4 : decide (65535 < s) <;> rw [e1, e2, e3, e4] at hb
  case false.false.false.false => exact absurd hb (by decide)
  all_goals
    clear hb
    go_enter Tryz.func37, Tryz.ntmps37
    go_wp2_with fail
    go_ret2
    exact ⟨rfl, Keep.refl w⟩
set_option maxRecDepth 100000 in
set_option maxHeartbeats 1000000 in
theorem rpnew_in (g s : Nat) (h1 : 1 ≤ g) (h2 : g ≤ 255) (h3 : 1 ≤ s) (h4 : s ≤ 65535) (w : World) :
    Calls Tryz.prog 37 #[.int .i64 (g : Int), .int .i64 (s : Int)] w fun e w' => ∃ b bi br F, e = .returned (.tuple #[.pointer (some ⟨b, 0, none⟩), .int .i64 0]) ∧ RefR w' F b g s bi br (List.replicate g false) (List.replicate g PairV.zero) ∧ (∀ k, F k → w.heap.size ≤ k) ∧ Keep w w' := by
  have b1 : decide ((g : Int) < 1) = false := decide_eq_false (by omega)
  have b2 : decide ((255 : Int) < (g : Int)) = false := decide_eq_false (by omega)
  have b3 : decide ((s : Int) < 1) = false := decide_eq_false (by omega)
  have b4 : decide ((65535 : Int) < (s : Int)) = false := decide_eq_false (by omega)
  have mkb := fun w => run_make_bools g (by omega) w
  have mks := fun w => run_make_st g g (Nat.le_refl _) (by omega) w
  clear h1 h2 h3 h4
  go_enter Tryz.func37, Tryz.ntmps37
  go_wp2_with fail
  refine wp_region_noPanic ?_
  refine wp_region_held_drew (S := fun wz => True) (by kernel_rfl) trivial (fun hHeld => ?_)
  refine wpAnyH_take (i := 0) (v := ?_) rfl (by kernel_rfl) (by kernel_rfl) (by kernel_rfl) (fun _ _ _ h => h) (Or.inl ⟨by rfl, ?_⟩) hHeld ?_
  rotate_left
  · intro wq hSw
    go_simp
    all_goals with_reducible rfl
  try simp only [Act.put, List.getElem_toArray, List.getElem_cons_succ, List.getElem_cons_zero, List.setIfInBounds_toArray, List.set_cons_zero, List.set_cons_succ]
  refine wpAnyH_take (i := 1) (v := ?_) rfl (by kernel_rfl) (by kernel_rfl) (by kernel_rfl) (fun _ _ _ h => h) (Or.inl ⟨by rfl, ?_⟩) hHeld ?_
  rotate_left
  · intro wq hSw
    go_simp
    all_goals with_reducible rfl
  try simp only [Act.put, List.getElem_toArray, List.getElem_cons_succ, List.getElem_cons_zero, List.setIfInBounds_toArray, List.set_cons_zero, List.set_cons_succ]
  refine wpAnyH_take (i := 2) (v := ?_) rfl (by kernel_rfl) (by kernel_rfl) (by kernel_rfl) (fun _ _ _ h => h) (Or.inl ⟨by rfl, ?_⟩) hHeld ?_
  rotate_left
  · intro wq hSw
    go_simp
    all_goals with_reducible rfl
  try simp only [Act.put, List.getElem_toArray, List.getElem_cons_succ, List.getElem_cons_zero, List.setIfInBounds_toArray, List.set_cons_zero, List.set_cons_succ]
  refine wpAnyH_take (i := 4) (v := ?_) rfl (by kernel_rfl) (by kernel_rfl) (by kernel_rfl) (fun _ _ _ h => h) (Or.inl ⟨by rfl, ?_⟩) hHeld ?_
  rotate_left
  · intro wq hSw
    go_simp
    all_goals with_reducible rfl
  try simp only [Act.put, List.getElem_toArray, List.getElem_cons_succ, List.getElem_cons_zero, List.setIfInBounds_toArray, List.set_cons_zero, List.set_cons_succ]
  refine wpAnyH_ready (rs := [3, 5]) (by kernel_rfl) (by simp) ?_
  refine AllReadyH.cons rfl (fun K hK => ?_) (AllReadyH.cons rfl (fun K hK => ?_) AllReadyH.nil)
  · go_simp
    refine hK.out _ _ trivial (fun hHeld => ?_)
    clear hK K
    try simp only [Act.put, List.getElem_toArray, List.getElem_cons_succ, List.getElem_cons_zero, List.setIfInBounds_toArray, List.set_cons_zero, List.set_cons_succ]
    refine wpAnyH_ready (rs := [5]) (by kernel_rfl) (by simp) ?_
    refine AllReadyH.cons rfl (fun K hK => ?_) AllReadyH.nil
    go_simp
    refine hK.out _ _ trivial (fun hHeld => ?_)
    clear hK K
    try simp only [Act.put, List.getElem_toArray, List.getElem_cons_succ, List.getElem_cons_zero, List.setIfInBounds_toArray, List.set_cons_zero, List.set_cons_succ]
    refine wpAnyH_take (i := 6) (v := ?_) rfl (by kernel_rfl) (by kernel_rfl) (by kernel_rfl) (fun _ _ _ h => h) (Or.inl ⟨by rfl, ?_⟩) hHeld ?_
    rotate_left
    · intro wq hSw
      go_simp
      all_goals with_reducible rfl
    try simp only [Act.put, List.getElem_toArray, List.getElem_cons_succ, List.getElem_cons_zero, List.setIfInBounds_toArray, List.set_cons_zero, List.set_cons_succ]
    refine wpAnyH_ready (rs := [7]) (by kernel_rfl) (by simp) ?_
    refine AllReadyH.cons rfl (fun K hK => ?_) AllReadyH.nil
    go_simp
    refine hK.out _ _ trivial (fun hHeld => ?_)
    clear hK K
    try simp only [Act.put, List.getElem_toArray, List.getElem_cons_succ, List.getElem_cons_zero, List.setIfInBounds_toArray, List.set_cons_zero, List.set_cons_succ]
    refine wpAnyH_take (i := 8) (v := ?_) rfl (by kernel_rfl) (by kernel_rfl) (by kernel_rfl) (fun _ _ _ h => h) (Or.inl ⟨by rfl, ?_⟩) hHeld ?_
    rotate_left
    · intro wq hSw
      go_simp
      all_goals with_reducible rfl
    try simp only [Act.put, List.getElem_toArray, List.getElem_cons_succ, List.getElem_cons_zero, List.setIfInBounds_toArray, List.set_cons_zero, List.set_cons_succ]
    refine wpAnyH_take (i := 9) (v := ?_) rfl (by kernel_rfl) (by kernel_rfl) (by kernel_rfl) (fun _ _ _ h => h) (Or.inl ⟨by rfl, ?_⟩) hHeld ?_
    rotate_left
    · intro wq hSw
      go_simp
      all_goals with_reducible rfl
    try simp only [Act.put, List.getElem_toArray, List.getElem_cons_succ, List.getElem_cons_zero, List.setIfInBounds_toArray, List.set_cons_zero, List.set_cons_succ]
    refine wpAnyH_done (by kernel_rfl) ?_ _
    refine NoPanic.normal ?_
    clear hHeld mkb mks
    go_wp2_with fail
    go_ret2
    have T := three_allocs w (Array.replicate g (Value.bool false)) ((List.replicate g PairV.zero).flatMap PairV.vals).toArray #[.int .i64 (g : Int), .int .i64 (s : Int), .slice (some ⟨w.heap.size, 0, none⟩) g g, .slice (some ⟨w.heap.size + 1, 0, none⟩) g g] 4 45 143
    obtain ⟨F, hR, hF⟩ := refR_new (w := w) (b := w.heap.size + 1 + 1) (bi := w.heap.size) (br := w.heap.size + 1) (g := g) (s := s) T.2.2.2 (by omega) (by omega) (by omega) (by omega) T.2.2.1 T.1 T.2.1
    exact ⟨_, _, _, F, rfl, hR, hF, T.2.2.2⟩
  · go_simp
    refine hK.out _ _ trivial (fun hHeld => ?_)
    clear hK K
    try simp only [Act.put, List.getElem_toArray, List.getElem_cons_succ, List.getElem_cons_zero, List.setIfInBounds_toArray, List.set_cons_zero, List.set_cons_succ]
    refine wpAnyH_ready (rs := [3]) (by kernel_rfl) (by simp) ?_
    refine AllReadyH.cons rfl (fun K hK => ?_) AllReadyH.nil
    go_simp
    refine hK.out _ _ trivial (fun hHeld => ?_)
    clear hK K
    try simp only [Act.put, List.getElem_toArray, List.getElem_cons_succ, List.getElem_cons_zero, List.setIfInBounds_toArray, List.set_cons_zero, List.set_cons_succ]
    refine wpAnyH_take (i := 6) (v := ?_) rfl (by kernel_rfl) (by kernel_rfl) (by kernel_rfl) (fun _ _ _ h => h) (Or.inl ⟨by rfl, ?_⟩) hHeld ?_
    rotate_left
    · intro wq hSw
      go_simp
      all_goals with_reducible rfl
    try simp only [Act.put, List.getElem_toArray, List.getElem_cons_succ, List.getElem_cons_zero, List.setIfInBounds_toArray, List.set_cons_zero, List.set_cons_succ]
    refine wpAnyH_ready (rs := [7]) (by kernel_rfl) (by simp) ?_
    refine AllReadyH.cons rfl (fun K hK => ?_) AllReadyH.nil
    go_simp
    refine hK.out _ _ trivial (fun hHeld => ?_)
    clear hK K
    try simp only [Act.put, List.getElem_toArray, List.getElem_cons_succ, List.getElem_cons_zero, List.setIfInBounds_toArray, List.set_cons_zero, List.set_cons_succ]
    refine wpAnyH_take (i := 8) (v := ?_) rfl (by kernel_rfl) (by kernel_rfl) (by kernel_rfl) (fun _ _ _ h => h) (Or.inl ⟨by rfl, ?_⟩) hHeld ?_
    rotate_left
    · intro wq hSw
      go_simp
      all_goals with_reducible rfl
    try simp only [Act.put, List.getElem_toArray, List.getElem_cons_succ, List.getElem_cons_zero, List.setIfInBounds_toArray, List.set_cons_zero, List.set_cons_succ]
    refine wpAnyH_take (i := 9) (v := ?_) rfl (by kernel_rfl) (by kernel_rfl) (by kernel_rfl) (fun _ _ _ h => h) (Or.inl ⟨by rfl, ?_⟩) hHeld ?_
    rotate_left
    · intro wq hSw
      go_simp
      all_goals with_reducible rfl
    try simp only [Act.put, List.getElem_toArray, List.getElem_cons_succ, List.getElem_cons_zero, List.setIfInBounds_toArray, List.set_cons_zero, List.set_cons_succ]
    refine wpAnyH_done (by kernel_rfl) ?_ _
    refine NoPanic.normal ?_
    clear hHeld mkb mks
    go_wp2_with fail
    go_ret2
    have T := three_allocs w ((List.replicate g PairV.zero).flatMap PairV.vals).toArray (Array.replicate g (Value.bool false)) #[.int .i64 (g : Int), .int .i64 (s : Int), .slice (some ⟨w.heap.size + 1, 0, none⟩) g g, .slice (some ⟨w.heap.size, 0, none⟩) g g] 45 4 143
    obtain ⟨F, hR, hF⟩ := refR_new (w := w) (b := w.heap.size + 1 + 1) (bi := w.heap.size + 1) (br := w.heap.size) (g := g) (s := s) T.2.2.2 (by omega) (by omega) (by omega) (by omega) T.2.2.1 T.2.1 T.1
    exact ⟨_, _, _, F, rfl, hR, hF, T.2.2.2⟩
/-- A sum of rows: new memory. -/
structure SumR (w w' : World) (g s : Nat) (xs ys : List Nat) (p : PairV) : Prop where
  an : p.a.n = g
  bn : p.b.n = s
  a : Own w' w.heap.size 5 p.a.A p.a.n p.a.c p.a.xs
  b : Own w' w.heap.size 5 p.b.A p.b.n p.b.c p.b.xs
  ax : p.a.xs = xs
  bx : p.b.xs = ys
  keep : Keep w w'
set_option maxRecDepth 100000 in
set_option maxHeartbeats 2000000 in
theorem rpplus_any (g s c : Nat) (p q : PairV) (w : World) (hp : Bytes w w.heap.size p.a.A g p.a.xs ∧ Bytes w w.heap.size p.b.A s p.b.xs ∧ p.a.n = g ∧ p.b.n = s) (hq : Bytes w w.heap.size q.a.A g q.a.xs ∧ Bytes w w.heap.size q.b.A s q.b.xs ∧ q.a.n = g ∧ q.b.n = s) (hg : g ≤ 255) (hs : s ≤ 65535) (hc : c < 256) :
    Calls Tryz.prog 84 #[p.agg, q.agg, .int .u8 (c : Int)] w fun e w' => ∃ p', e = .returned p'.agg ∧ SumR w w' g s (vAddS g p.a.xs q.a.xs c) (vAddS s p.b.xs q.b.xs c) p' := by
  obtain ⟨⟨A1, n1, c1, x1⟩, ⟨A2, n2, c2, x2⟩⟩ := p
  obtain ⟨⟨A3, n3, c3, x3⟩, ⟨A4, n4, c4, x4⟩⟩ := q
  obtain ⟨p1, p2, rfl, rfl⟩ := hp
  obtain ⟨q1, q2, q3, q4⟩ := hq
  simp only at p1 p2 q1 q2 q3 q4 hg hs
  obtain rfl : n3 = n1 := q3
  obtain rfl : n4 = n2 := q4
  show Calls _ _ #[.agg #[.slice A1 n3 c1, .slice A2 n4 c2], .agg #[.slice A3 n3 c3, .slice A4 n4 c4], _] _ fun e w' => ∃ p', e = .returned p'.agg ∧ SumR w w' n3 n4 (vAddS n3 x1 x3 c) (vAddS n4 x2 x4 c) p'
  obtain ⟨⟨q0, hq0⟩⟩ : Nonempty (∃ q0, w.heap.size = q0) := ⟨_, rfl⟩
  have T := three_allocs' w #[.slice A1 n3 c1, .slice A2 n4 c2] #[.slice A3 n3 c3, .slice A4 n4 c4] #[.slice none 0 0, .slice none 0 0] 45 45 45
  rw [hq0] at T
  have HT := Lib.hid T
  have HB := Lib.hid (And.intro p1 (And.intro p2 (And.intro q1 q2)))
  have HQ0 := Lib.hid hq0
  clear T p1 p2 q1 q2
  go_enter Tryz.func84, Tryz.ntmps84
  go_wp2_with fail
  clear hq0
  generalize (((w.alloc (.cells #[.slice A1 n3 c1, .slice A2 n4 c2] 45)).alloc (.cells #[.slice A3 n3 c3, .slice A4 n4 c4] 45)).alloc (.cells #[.slice none 0 0, .slice none 0 0] 45)) = w3 at *
  have k0 : w3.cell? ⟨q0, 0, none⟩ = some (.slice A1 n3 c1) := cell_of_row _ _ _ _ _ _ HT.out.1
  have k1 : w3.cell? ⟨q0, 1, none⟩ = some (.slice A2 n4 c2) := cell_of_row _ _ _ _ _ _ HT.out.1
  have k2 : w3.cell? ⟨q0 + 1, 0, none⟩ = some (.slice A3 n3 c3) := cell_of_row _ _ _ _ _ _ HT.out.2.1
  have k3 : w3.cell? ⟨q0 + 1, 1, none⟩ = some (.slice A4 n4 c4) := cell_of_row _ _ _ _ _ _ HT.out.2.1
  have HL : Hid (q0 < w3.heap.size ∧ q0 + 1 < w3.heap.size ∧ q0 + 1 + 1 < w3.heap.size) := ⟨(Array.getElem?_eq_some_iff.1 HT.out.1).1, (Array.getElem?_eq_some_iff.1 HT.out.2.1).1, (Array.getElem?_eq_some_iff.1 HT.out.2.2.1).1⟩
  refine wp_region_noPanic ?_
  refine wp_region_held_drew (S := fun wz => wz.cell? ⟨q0, 0, none⟩ = some (.slice A1 n3 c1) ∧ wz.cell? ⟨q0, 1, none⟩ = some (.slice A2 n4 c2) ∧ wz.cell? ⟨q0 + 1, 0, none⟩ = some (.slice A3 n3 c3) ∧ wz.cell? ⟨q0 + 1, 1, none⟩ = some (.slice A4 n4 c4)) (by kernel_rfl) ⟨k0, k1, k2, k3⟩ (fun hHeld => ?_)
  refine wpAnyH_take (i := 0) (v := ?_) rfl (by kernel_rfl) (by kernel_rfl) (by kernel_rfl) (fun _ _ _ h => h) (Or.inl ⟨by rfl, ?_⟩) hHeld ?_
  rotate_left
  · intro wq hSw
    go_simp
    all_goals with_reducible rfl
  try simp only [Act.put, List.getElem_toArray, List.getElem_cons_succ, List.getElem_cons_zero, List.setIfInBounds_toArray, List.set_cons_zero, List.set_cons_succ]
  refine wpAnyH_take (i := 1) (v := ?_) rfl (by kernel_rfl) (by kernel_rfl) (by kernel_rfl) (fun _ _ _ h => h) (Or.inl ⟨by rfl, ?_⟩) hHeld ?_
  rotate_left
  · intro wq hSw
    have q0 := hSw.1
    have q1 := hSw.2.1
    have q2 := hSw.2.2.1
    have q3 := hSw.2.2.2
    go_simp
    all_goals with_reducible rfl
  try simp only [Act.put, List.getElem_toArray, List.getElem_cons_succ, List.getElem_cons_zero, List.setIfInBounds_toArray, List.set_cons_zero, List.set_cons_succ]
  refine wpAnyH_take (i := 2) (v := ?_) rfl (by kernel_rfl) (by kernel_rfl) (by kernel_rfl) (fun _ _ _ h => h) (Or.inl ⟨by rfl, ?_⟩) hHeld ?_
  rotate_left
  · intro wq hSw
    go_simp
    all_goals with_reducible rfl
  try simp only [Act.put, List.getElem_toArray, List.getElem_cons_succ, List.getElem_cons_zero, List.setIfInBounds_toArray, List.set_cons_zero, List.set_cons_succ]
  refine wpAnyH_take (i := 3) (v := ?_) rfl (by kernel_rfl) (by kernel_rfl) (by kernel_rfl) (fun _ _ _ h => h) (Or.inl ⟨by rfl, ?_⟩) hHeld ?_
  rotate_left
  · intro wq hSw
    have q0 := hSw.1
    have q1 := hSw.2.1
    have q2 := hSw.2.2.1
    have q3 := hSw.2.2.2
    go_simp
    all_goals with_reducible rfl
  try simp only [Act.put, List.getElem_toArray, List.getElem_cons_succ, List.getElem_cons_zero, List.setIfInBounds_toArray, List.set_cons_zero, List.set_cons_succ]
  refine wpAnyH_take (i := 4) (v := ?_) rfl (by kernel_rfl) (by kernel_rfl) (by kernel_rfl) (fun _ _ _ h => h) (Or.inl ⟨by rfl, ?_⟩) hHeld ?_
  rotate_left
  · intro wq hSw
    go_simp
    all_goals with_reducible rfl
  try simp only [Act.put, List.getElem_toArray, List.getElem_cons_succ, List.getElem_cons_zero, List.setIfInBounds_toArray, List.set_cons_zero, List.set_cons_succ]
  refine wpAnyH_take (i := 6) (v := ?_) rfl (by kernel_rfl) (by kernel_rfl) (by kernel_rfl) (fun _ _ _ h => h) (Or.inl ⟨by rfl, ?_⟩) hHeld ?_
  rotate_left
  · intro wq hSw
    go_simp
    all_goals with_reducible rfl
  try simp only [Act.put, List.getElem_toArray, List.getElem_cons_succ, List.getElem_cons_zero, List.setIfInBounds_toArray, List.set_cons_zero, List.set_cons_succ]
  refine wpAnyH_take (i := 7) (v := ?_) rfl (by kernel_rfl) (by kernel_rfl) (by kernel_rfl) (fun _ _ _ h => h) (Or.inl ⟨by rfl, ?_⟩) hHeld ?_
  rotate_left
  · intro wq hSw
    have q0 := hSw.1
    have q1 := hSw.2.1
    have q2 := hSw.2.2.1
    have q3 := hSw.2.2.2
    go_simp
    all_goals with_reducible rfl
  try simp only [Act.put, List.getElem_toArray, List.getElem_cons_succ, List.getElem_cons_zero, List.setIfInBounds_toArray, List.set_cons_zero, List.set_cons_succ]
  refine wpAnyH_take (i := 8) (v := ?_) rfl (by kernel_rfl) (by kernel_rfl) (by kernel_rfl) (fun _ _ _ h => h) (Or.inl ⟨by rfl, ?_⟩) hHeld ?_
  rotate_left
  · intro wq hSw
    go_simp
    all_goals with_reducible rfl
  try simp only [Act.put, List.getElem_toArray, List.getElem_cons_succ, List.getElem_cons_zero, List.setIfInBounds_toArray, List.set_cons_zero, List.set_cons_succ]
  refine wpAnyH_take (i := 9) (v := ?_) rfl (by kernel_rfl) (by kernel_rfl) (by kernel_rfl) (fun _ _ _ h => h) (Or.inl ⟨by rfl, ?_⟩) hHeld ?_
  rotate_left
  · intro wq hSw
    have q0 := hSw.1
    have q1 := hSw.2.1
    have q2 := hSw.2.2.1
    have q3 := hSw.2.2.2
    go_simp
    all_goals with_reducible rfl
  try simp only [Act.put, List.getElem_toArray, List.getElem_cons_succ, List.getElem_cons_zero, List.setIfInBounds_toArray, List.set_cons_zero, List.set_cons_succ]
  refine wpAnyH_take (i := 10) (v := ?_) rfl (by kernel_rfl) (by kernel_rfl) (by kernel_rfl) (fun _ _ _ h => h) (Or.inl ⟨by rfl, ?_⟩) hHeld ?_
  rotate_left
  · intro wq hSw
    go_simp
    all_goals with_reducible rfl
  try simp only [Act.put, List.getElem_toArray, List.getElem_cons_succ, List.getElem_cons_zero, List.setIfInBounds_toArray, List.set_cons_zero, List.set_cons_succ]
  refine wpAnyH_ready (rs := [5]) (by kernel_rfl) (by simp) ?_
  refine AllReadyH.cons rfl (fun K hK => ?_) AllReadyH.nil
  go_simp
  refine (rplus_any _ _ n3 n3 c1 c3 c A1 A3 x1 x3 _ (HB.out.1.keep (Nat.le_refl _) HT.out.2.2.2.drew) (HB.out.2.2.1.keep (Nat.le_refl _) HT.out.2.2.2.drew) HT.out.2.2.2.size HT.out.2.2.2.size (by omega) (Nat.le_refl _) hc).mono ?_
  rintro e w4 ⟨A5, n5, c5, rfl, o5, k5⟩
  obtain rfl : n5 = n3 := by rw [← o5.length]; exact tab_length _ _
  have K4 : Hid (Keep w3 w4) := (Keep.drew (Keep.refl w3)).trans k5
  have O5 : Hid (Own w4 w3.heap.size 5 A5 n5 c5 _) := o5
  have k0' := (K4.out.cell (p := ⟨q0, 0, none⟩) HL.out.1).trans k0
  have k1' := (K4.out.cell (p := ⟨q0, 1, none⟩) HL.out.1).trans k1
  have k2' := (K4.out.cell (p := ⟨q0 + 1, 0, none⟩) HL.out.2.1).trans k2
  have k3' := (K4.out.cell (p := ⟨q0 + 1, 1, none⟩) HL.out.2.1).trans k3
  clear o5 k5
  refine hK.out _ _ ⟨k0', k1', k2', k3'⟩ (fun hHeld => ?_)
  clear hK K
  try simp only [Act.put, List.getElem_toArray, List.getElem_cons_succ, List.getElem_cons_zero, List.setIfInBounds_toArray, List.set_cons_zero, List.set_cons_succ]
  refine wpAnyH_ready (rs := [11]) (by kernel_rfl) (by simp) ?_
  refine AllReadyH.cons rfl (fun K hK => ?_) AllReadyH.nil
  go_simp
  refine (rplus_any _ _ n4 n4 c2 c4 c A2 A4 x2 x4 _ (HB.out.2.1.keep (Nat.le_refl _) (HT.out.2.2.2.trans K4.out)) (HB.out.2.2.2.keep (Nat.le_refl _) (HT.out.2.2.2.trans K4.out)) (HT.out.2.2.2.trans K4.out).size (HT.out.2.2.2.trans K4.out).size (by omega) (Nat.le_refl _) hc).mono ?_
  rintro e w5 ⟨A6, n6, c6, rfl, o6, k6⟩
  obtain rfl : n6 = n4 := by rw [← o6.length]; exact tab_length _ _
  have K5 : Hid (Keep w3 w5) := K4.out.trans k6
  have O6 : Hid (Own w5 w4.heap.size 5 A6 n6 c6 _) := o6
  have O5' := Lib.hid (O5.out.keep k6)
  have k0'' := (K5.out.cell (p := ⟨q0, 0, none⟩) HL.out.1).trans k0
  have k1'' := (K5.out.cell (p := ⟨q0, 1, none⟩) HL.out.1).trans k1
  have k2'' := (K5.out.cell (p := ⟨q0 + 1, 0, none⟩) HL.out.2.1).trans k2
  have k3'' := (K5.out.cell (p := ⟨q0 + 1, 1, none⟩) HL.out.2.1).trans k3
  clear o6 k6 k0' k1' k2' k3' O5
  refine hK.out _ _ ⟨k0'', k1'', k2'', k3''⟩ (fun hHeld => ?_)
  clear hK K
  try simp only [Act.put, List.getElem_toArray, List.getElem_cons_succ, List.getElem_cons_zero, List.setIfInBounds_toArray, List.set_cons_zero, List.set_cons_succ]
  refine wpAnyH_take (i := 12) (v := ?_) rfl (by kernel_rfl) (by kernel_rfl) (by kernel_rfl) (fun _ _ _ h => h) (Or.inl ⟨by rfl, ?_⟩) hHeld ?_
  rotate_left
  · intro wq hSw
    go_simp
    all_goals with_reducible rfl
  try simp only [Act.put, List.getElem_toArray, List.getElem_cons_succ, List.getElem_cons_zero, List.setIfInBounds_toArray, List.set_cons_zero, List.set_cons_succ]
  have HT5 : Hid (w5.heap[q0 + 1 + 1]? = some (.cells #[.slice none 0 0, .slice none 0 0] 45 (0, 0))) := (K5.out.block _ HL.out.2.2).trans HT.out.2.2.1
  have z0 : w5.cell? ⟨q0 + 1 + 1, 0, none⟩ = some (.slice none 0 0) := cell_of_row _ _ _ _ _ _ HT5.out
  have z1 : w5.cell? ⟨q0 + 1 + 1, 1, none⟩ = some (.slice none 0 0) := cell_of_row _ _ _ _ _ _ HT5.out
  have f0 : w5.frozen? ⟨q0 + 1 + 1, 0, none⟩ = false := by simp [World.frozen?, HT5.out]
  have f1 : w5.frozen? ⟨q0 + 1 + 1, 1, none⟩ = false := by simp [World.frozen?, HT5.out]
  refine wpAnyH_ready (rs := [13]) (by kernel_rfl) (by simp) ?_
  refine AllReadyH.cons rfl (fun K hK => ?_) AllReadyH.nil
  go_simp
  have T6 : Turned (fun b => b = q0 + 1 + 1) w5 ((w5.setCell ⟨q0 + 1 + 1, 0, none⟩ (.slice A5 n5 c5)).setCell ⟨q0 + 1 + 1, 1, none⟩ (.slice A6 n6 c6)) :=
    (Turned.set (F := fun b => b = q0 + 1 + 1) w5 ⟨q0 + 1 + 1, 0, none⟩ (.slice A5 n5 c5) rfl).trans (Turned.set (F := fun b => b = q0 + 1 + 1) _ ⟨q0 + 1 + 1, 1, none⟩ (.slice A6 n6 c6) rfl) fun _ e => Or.inl e
  have j0 := T6.cell k0'' (by show ¬ q0 = q0 + 1 + 1; omega)
  have j1 := T6.cell k1'' (by show ¬ q0 = q0 + 1 + 1; omega)
  have j2 := T6.cell k2'' (by show ¬ q0 + 1 = q0 + 1 + 1; omega)
  have j3 := T6.cell k3'' (by show ¬ q0 + 1 = q0 + 1 + 1; omega)
  refine hK.out _ _ ⟨j0, j1, j2, j3⟩ (fun hHeld => ?_)
  clear hK K
  try simp only [Act.put, List.getElem_toArray, List.getElem_cons_succ, List.getElem_cons_zero, List.setIfInBounds_toArray, List.set_cons_zero, List.set_cons_succ]
  refine wpAnyH_done (by kernel_rfl) ?_ _
  refine NoPanic.normal ?_
  clear hHeld
  have hb := bset (i := 1) (bset (i := 0) HT5.out (.slice A5 n5 c5)) (.slice A6 n6 c6)
  have HBK := Lib.hid hb
  have HT6 := Lib.hid T6
  clear j0 j1 j2 j3 k0'' k1'' k2'' k3'' z0 z1 f0 f1 T6 hb
  go_wp2_with fail
  have K : Keep w ((w5.setCell ⟨q0 + 1 + 1, 0, none⟩ (.slice A5 n5 c5)).setCell ⟨q0 + 1 + 1, 1, none⟩ (.slice A6 n6 c6)) := HT6.out.keep (HT.out.2.2.2.trans K5.out) fun i e => by rw [e, HQ0.out]; omega
  refine bodyPost_ret (v := .agg #[.slice A5 n5 c5, .slice A6 n6 c6]) ?_ rfl ⟨⟨⟨A5, n5, c5, _⟩, ⟨A6, n6, c6, _⟩⟩, rfl, rfl, rfl, (O5'.out.turned HT6.out fun x hx e => ?_).lower ?_, (O6.out.turned HT6.out fun x hx e => ?_).lower ?_, rfl, rfl, K⟩
  · exact results_cell_row (p := 6) (ty := 45) rfl _ _ (q0 + 1 + 1) 45 _ (0, 0) _ rfl HBK.out Tryz.underlying45 rfl infoRowSize
  · have h1 := (O5'.out.1.lt x hx).1
    have h2 := HL.out
    omega
  · exact HT.out.2.2.2.size
  · have h1 := (O6.out.1.lt x hx).1
    have h2 := HL.out
    have h3 := K4.out.size
    omega
  · exact (HT.out.2.2.2.trans K4.out).size
set_option maxRecDepth 100000 in
/-- The first place that is not 0. -/
theorem rplead_any (B n ca : Nat) (A : Option Addr) (xs : List Nat) (w : World) (h : Bytes w B A n xs) (hn : n ≤ 1000000) (v : Nat) (hv : (vLead n xs < 0 → v = n) ∧ (¬ vLead n xs < 0 → vLead n xs = (v : Int))) :
    Calls Tryz.prog 82 #[.slice A n ca] w fun e w' => e = .returned (.int .i64 (v : Int)) ∧ w = w' := by
  have HH := Lib.hid h
  have HV := Lib.hid hv
  clear h hv
  go_enter Tryz.func82, Tryz.ntmps82
  go_wp2_with fail
  go_loop [3] (fun i => ∃ k : Nat, k ≤ n ∧ i = .int .i64 k ∧ ∀ j, j < k → xs.getD j 0 = 0) (fun i => n - (intOf i).toNat)
  case atStart => exact ⟨0, by omega, rfl, fun j hj => by omega⟩
  case round =>
    obtain ⟨k, hk, rfl, hz⟩ := hrel
    have HZ := Lib.hid hz
    clear hz
    by_cases hlt : k < n
    · obtain ⟨b, off, rfl, hb, cx⟩ := HH.out.at_ hlt
      have e1 : (0 : Int) ≤ (k : Int) := Int.natCast_nonneg _
      have e2 : (k : Int) < (n : Int) := by omega
      by_cases hx : xs.getD k 0 = 0
      · rw [hx] at cx
        have HX := Lib.hid hx
        clear hx
        go_wp2_with fail
        go_round
        case rel => exact ⟨k + 1, by omega, by go_num, fun j hj => by
          by_cases e : j = k
          · rw [e]; exact HX.out
          · exact HZ.out j (by omega)⟩
        case measure => simp [intOf]; omega
      · have hle := vLead_at hlt hx HZ.out
        have hvk : v = k := by
          have := HV.out.2 (by rw [hle]; omega)
          rw [hle] at this; omega
        obtain ⟨x, hxe⟩ : ∃ x, xs.getD k 0 = x := ⟨_, rfl⟩
        rw [hxe] at cx hx
        have b1 : ((x : Int) != 0) = true := by rw [bne_iff_ne]; omega
        clear hle hx hxe
        go_wp2_with fail
        go_ret
        exact ⟨rfl, rfl⟩
    · obtain rfl : k = n := by omega
      have hvk : v = k := HV.out.1 (vLead_neg HZ.out)
      go_wp2_with fail
      go_ret
      exact ⟨rfl, rfl⟩
end Go.Proofs.YtgelalbmhllccaaGreat
/- The document's own basis: what its rows leave of one. -/
namespace Go.Proofs.YtgelalbmhllccaaGreat
open Go.RowKit Lin
set_option linter.unusedVariables false
set_option linter.unusedSimpArgs false
/-- A row at work, in a box at q. -/
structure RedW (w wr : World) (G : Nat → Prop) (q g s : Nat) (v : List Nat) (p : PairV) : Prop where
  base : w.heap.size = q
  row : wr.heap[q]? = some (.cells #[p.a.val, p.b.val] 45 (0, 0))
  res : wr.heap[q + 1]? = some (.cells #[.slice none 0 0, .slice none 0 0] 45 (0, 0))
  an : p.a.n = g
  bn : p.b.n = s
  a : LiesIn wr (fun b => G b ∨ (q + 2 ≤ b ∧ b < wr.heap.size)) p.a
  b : LiesIn wr (fun b => G b ∨ (q + 2 ≤ b ∧ b < wr.heap.size)) p.b
  xs : p.a.xs ++ p.b.xs = v
  keep : Keep w wr
theorem RedW.later {w wr w2 : World} {G : Nat → Prop} {q g s : Nat} {v : List Nat} {p : PairV} (h : RedW w wr G q g s v p) (k : Keep wr w2) : RedW w w2 G q g s v p :=
  ⟨h.base, (k.block _ (Array.getElem?_eq_some_iff.1 h.row).1).trans h.row, (k.block _ (Array.getElem?_eq_some_iff.1 h.res).1).trans h.res, h.an, h.bn,
    (h.a.turned (Turned.of_keep (F := fun _ => False) k) fun _ _ e => e).mono fun b hb => hb.imp id fun e => ⟨e.1, Nat.lt_of_lt_of_le e.2 k.size⟩,
    (h.b.turned (Turned.of_keep (F := fun _ => False) k) fun _ _ e => e).mono fun b hb => hb.imp id fun e => ⟨e.1, Nat.lt_of_lt_of_le e.2 k.size⟩, h.xs, h.keep.trans k⟩
theorem RedW.put {w wr w4 w5 : World} {G : Nat → Prop} {q g s : Nat} {v v' xs ys : List Nat} {p p' : PairV} (h : RedW w w4 G q g s v p) (hG : ∀ k, G k → k < q) (hb : w5.heap[q]? = some (.cells #[p'.a.val, p'.b.val] 45 (0, 0))) (t : Turned (fun b => b = q) w4 w5) (hC : SumR wr w4 g s xs ys p') (hqw : q + 1 < wr.heap.size) (hx : p'.a.xs ++ p'.b.xs = v') : RedW w w5 G q g s v' p' := by
  have hd : ∀ b, (wr.heap.size ≤ b ∧ b < w4.heap.size) → ¬ b = q := fun b hb => by omega
  have hm : ∀ b, (wr.heap.size ≤ b ∧ b < w4.heap.size) → (G b ∨ (q + 2 ≤ b ∧ b < w5.heap.size)) := fun b hb => Or.inr ⟨by omega, Nat.lt_of_lt_of_le hb.2 t.size⟩
  exact ⟨h.base, hb, (t.block _ (Array.getElem?_eq_some_iff.1 h.res).1 (by omega)).trans h.res, hC.an, hC.bn,
    ((hC.a.lies.mono fun b hb => hC.a.1.lt b hb).turned t hd).mono hm, ((hC.b.lies.mono fun b hb => hC.b.1.lt b hb).turned t hd).mono hm, hx, t.keep h.keep fun i e => by rw [e, h.base]; exact Nat.le_refl _⟩
theorem pair_cut {g s : Nat} {v v' x y : List Nat} (hx : x.length = g) (hv : x ++ y = v) {c : Nat} {p : PairV} (hp : p.a.xs.length = g) (he : v' = vAddS (g + s) v p.xs c) : vAddS g x p.a.xs c ++ vAddS s y p.b.xs c = v' := by
  have t := vAddS_take g s v p.xs c
  have d := vAddS_drop g s v p.xs c
  rw [← hv, List.take_left' hx, PairV.xs, List.take_left' hp] at t
  rw [← hv, List.drop_left' hx, PairV.xs, List.drop_left' hp] at d
  rw [he, ← List.take_append_drop g (vAddS (g + s) v p.xs c), ← hv, PairV.xs, t, d]
set_option maxRecDepth 100000 in
set_option maxHeartbeats 4000000 in
theorem rpreduce_any {w : World} {F G : Nat → Prop} {b g s bi br : Nat} {iv : List Bool} {R : List PairV} {B : List (List Nat)} (h : RefR w F b g s bi br iv R) (hS : Slots g s iv R B) (p : PairV) (hp : LiesIn w G p.a ∧ LiesIn w G p.b ∧ p.a.n = g ∧ p.b.n = s) (hG : ∀ k, G k → k < w.heap.size) (hg : g ≤ 255) (hs : s ≤ 65535) :
    Calls Tryz.prog 81 #[.pointer (some ⟨b, 0, none⟩), p.agg] w fun e w' => ∃ p' : PairV, e = .returned p'.agg ∧ p'.a.n = g ∧ p'.b.n = s ∧ (LiesIn w' (fun b => G b ∨ (w.heap.size ≤ b ∧ b < w'.heap.size)) p'.a ∧ LiesIn w' (fun b => G b ∨ (w.heap.size ≤ b ∧ b < w'.heap.size)) p'.b) ∧ p'.xs = leftB (g + s) B p.xs ∧ Keep w w' := by
  obtain ⟨⟨A1, n1, c1, x1⟩, ⟨A2, n2, c2, x2⟩⟩ := p
  obtain ⟨p1, p2, p3, p4⟩ := hp
  simp only at p3 p4
  obtain rfl : n1 = g := p3
  obtain rfl : n2 = s := p4
  show Calls _ _ #[_, .agg #[.slice A1 n1 c1, .slice A2 n2 c2]] _ _
  obtain ⟨⟨q, hq⟩⟩ : Nonempty (∃ q, w.heap.size = q) := ⟨_, rfl⟩
  have h0 : RedW w ((w.alloc (.cells #[.slice A1 n1 c1, .slice A2 n2 c2] 45)).alloc (.cells #[.slice none 0 0, .slice none 0 0] 45)) G q n1 n2 (clearTo (n1 + n2) B (x1 ++ x2) (cnt iv R 0)) ⟨⟨A1, n1, c1, x1⟩, ⟨A2, n2, c2, x2⟩⟩ := by
    subst hq
    have k : Keep w ((w.alloc (.cells #[.slice A1 n1 c1, .slice A2 n2 c2] 45)).alloc (.cells #[.slice none 0 0, .slice none 0 0] 45)) := ((Keep.refl w).alloc _ _).alloc _ _
    have k1 : Keep (w.alloc (.cells #[.slice A1 n1 c1, .slice A2 n2 c2] 45)) ((w.alloc (.cells #[.slice A1 n1 c1, .slice A2 n2 c2] 45)).alloc (.cells #[.slice none 0 0, .slice none 0 0] 45)) := (Keep.refl _).alloc _ _
    have e2 := heap_alloc_new (w.alloc (.cells #[.slice A1 n1 c1, .slice A2 n2 c2] 45)) (.cells #[.slice none 0 0, .slice none 0 0] 45)
    rw [show (w.alloc (.cells #[.slice A1 n1 c1, .slice A2 n2 c2] 45)).heap.size = w.heap.size + 1 by simp] at e2
    exact ⟨rfl, (k1.block _ (by simp)).trans (heap_alloc_new _ _), e2, rfl, rfl, (p1.turned (Turned.of_keep (F := fun _ => False) k) fun _ _ e => e).mono fun b hb => Or.inl hb, (p2.turned (Turned.of_keep (F := fun _ => False) k) fun _ _ e => e).mono fun b hb => Or.inl hb, rfl, k⟩
  have H := Lib.hid h
  have HS := Lib.hid hS
  have H0 := Lib.hid h0
  have HQ := Lib.hid hq
  have HG : Hid (∀ k, G k → k < q) := fun k hk => by rw [← hq]; exact hG k hk
  have HB := Lib.hid (And.intro (h.lt b h.fb) (And.intro h.c0 (And.intro h.c2 h.c3)))
  clear h hS h0 p1 p2 hG
  go_enter Tryz.func81, Tryz.ntmps81
  go_wp2_with fail
  clear hq
  generalize ((w.alloc (.cells #[.slice A1 n1 c1, .slice A2 n2 c2] 45)).alloc (.cells #[.slice none 0 0, .slice none 0 0] 45)) = w2 at *
  go_loopw [5] (fun i wr => ∃ (k : Nat) (p : PairV), k ≤ n1 ∧ i = .int .i64 k ∧ RedW w wr G q n1 n2 (clearTo (n1 + n2) B (x1 ++ x2) (cnt iv R k)) p) (fun i _ => n1 - (intOf i).toNat)
  case atStart => exact ⟨0, _, by omega, rfl, H0.out⟩
  case round =>
    obtain ⟨k, p, hk, rfl, hI⟩ := hrel
    have HI := Lib.hid hI
    clear hI H0
    have c0 := (HI.out.keep.cell (p := ⟨b, 0, none⟩) HB.out.1).trans HB.out.2.1
    by_cases hlt : k < n1
    · have c2' := (HI.out.keep.cell (p := ⟨b, 2, none⟩) HB.out.1).trans HB.out.2.2.1
      have hx := List.getElem?_eq_getElem (l := iv) (i := k) (by rw [H.out.li]; exact hlt)
      have hp := List.getElem?_eq_getElem (l := R) (i := k) (by rw [H.out.lr]; exact hlt)
      obtain ⟨x, hxe⟩ : ∃ x, iv[k]'(by rw [H.out.li]; exact hlt) = x := ⟨_, rfl⟩
      obtain ⟨r, hre⟩ : ∃ r, R[k]'(by rw [H.out.lr]; exact hlt) = r := ⟨_, rfl⟩
      rw [hxe] at hx
      rw [hre] at hp
      have cb := (HI.out.keep.cell (p := ⟨bi, k, none⟩) (H.out.lt bi H.out.fi)).trans (H.out.cb hx)
      have e1 : (0 : Int) ≤ (k : Int) := Int.natCast_nonneg _
      have e2 : (k : Int) < (n1 : Int) := by omega
      have HXP := Lib.hid (And.intro hx hp)
      have HLT : Hid (k < n1) := hlt
      clear hxe hre hx hp hlt
      cases x with
      | false =>
        have hc := cnt_no HXP.out.1 HXP.out.2
        go_wp2_with fail
        go_roundw
        case rel => exact ⟨k + 1, p, by have := HLT.out; omega, by go_num, by rw [hc]; exact HI.out⟩
        case measure => have := HLT.out; simp [intOf]; omega
      | true =>
        have hrow := H.out.rows k r HXP.out.1 HXP.out.2
        have hz := HS.out.size k r HXP.out.1 HXP.out.2
        have hst := HS.out.clear (x1 ++ x2) HXP.out.1 HXP.out.2
        have HST := Lib.hid (And.intro hst hz)
        have hcl := (H.out.st.keep HI.out.keep).cells HXP.out.2
        have hra := hrow.1.1.bytes (B := w.heap.size) fun x hx => H.out.lt x hx.1
        have hrb := hrow.1.2.bytes (B := w.heap.size) fun x hx => H.out.lt x hx.1
        rw [hrow.2.1] at hra
        rw [hrow.2.2] at hrb
        obtain ⟨⟨rA, rn, rc, rx⟩, ⟨sA, sn, sc, sx⟩⟩ := r
        obtain ⟨z1, z2⟩ := hrow.2
        simp only at z1 z2
        obtain rfl : rn = n1 := z1
        obtain rfl : sn = n2 := z2
        obtain ⟨⟨pA, pn, pc, px⟩, ⟨tA, tn, tc, tx⟩⟩ := p
        obtain rfl : pn = rn := HI.out.an
        obtain rfl : tn = sn := HI.out.bn
        have HGS : Hid (∀ b, (G b ∨ (q + 2 ≤ b ∧ b < wr.heap.size)) → b < wr.heap.size) := fun b hb => by
          rcases hb with e | e
          · have h1 := HG.out b e
            have h2 := HI.out.keep.size
            have h3 := HQ.out
            omega
          · exact e.2
        have hpa := HI.out.a.bytes (B := wr.heap.size) fun b hb => HGS.out b hb
        have hpb := HI.out.b.bytes (B := wr.heap.size) fun b hb => HGS.out b hb
        obtain ⟨bx, ox, hA, hbx, cx⟩ := hpa.at_ HLT.out
        simp only at hA
        subst hA
        obtain ⟨v, hv⟩ : ∃ v, px.getD k 0 = v := ⟨_, rfl⟩
        have hvb : v < 256 := by rw [← hv]; exact hpa.all.getD k
        have hv2 : (clearTo (pn + tn) B (x1 ++ x2) (cnt iv R k)).getD k 0 = v := by
          rw [← HI.out.xs, List.getD_eq_getElem?_getD, List.getElem?_append_left (by have := hpa.length; rw [this]; exact HLT.out), ← List.getD_eq_getElem?_getD]; exact hv
        simp only at cx
        rw [hv] at cx
        have HP := Lib.hid (And.intro hpa (And.intro hpb (And.intro (hra.keep (Nat.le_refl _) HI.out.keep) (hrb.keep (Nat.le_refl _) HI.out.keep))))
        have HV := Lib.hid (And.intro hvb hv2)
        have y0 : wr.cell? ⟨q, 0, none⟩ = some (.slice (some ⟨bx, ox, none⟩) pn pc) := cell_of_row _ _ _ _ _ _ HI.out.row
        have y1 : wr.cell? ⟨q, 1, none⟩ = some (.slice tA tn tc) := cell_of_row _ _ _ _ _ _ HI.out.row
        have y2 := (HI.out.keep.cell (p := ⟨b, 3, none⟩) HB.out.1).trans HB.out.2.2.2
        have y3 : wr.cell? ⟨br, k * 2, none⟩ = some (.slice rA pn rc) := hcl.1
        have y4 : wr.cell? ⟨br, k * 2 + 1, none⟩ = some (.slice sA tn sc) := hcl.2
        have HLL : Hid (q < wr.heap.size ∧ b < wr.heap.size ∧ br < wr.heap.size ∧ bx < wr.heap.size ∧ br < q ∧ b < q) := ⟨(Array.getElem?_eq_some_iff.1 HI.out.row).1, Nat.lt_of_lt_of_le HB.out.1 HI.out.keep.size, Nat.lt_of_lt_of_le (H.out.lt br H.out.fr) HI.out.keep.size, hbx, by rw [← HQ.out]; exact H.out.lt br H.out.fr, by rw [← HQ.out]; exact HB.out.1⟩
        have HBXQ : Hid (bx ≠ q) := by
          show bx ≠ q
          obtain ⟨b', o', e, hF, _⟩ := HI.out.a.2.2.2 (by have := HLT.out; show 0 < pn; omega)
          cases e
          rcases hF with e | e
          · have := HG.out bx e; omega
          · omega
        clear hrow hst hz hcl hra hrb hpa hpb hv hvb hv2 hbx
        go_wp2_with fail
        clear c2' cb c0
        refine wp_region_noPanic ?_
        refine wp_region_held_drew (S := fun wz => wz.cell? ⟨b, 3, none⟩ = some (.slice (some ⟨br, 0, none⟩) pn pn) ∧ wz.cell? ⟨br, k * 2, none⟩ = some (.slice rA pn rc) ∧ wz.cell? ⟨br, k * 2 + 1, none⟩ = some (.slice sA tn sc) ∧ wz.cell? ⟨bx, ox + k, none⟩ = some (.int .u8 (v : Int))) (by kernel_rfl) ⟨y2, y3, y4, cx⟩ (fun hHeld => ?_)
        refine wpAnyH_take (i := 1) (v := ?_) rfl (by kernel_rfl) (by kernel_rfl) (by kernel_rfl) (fun _ _ _ h => h) (Or.inl ⟨by rfl, ?_⟩) hHeld ?_
        rotate_left
        · intro wq hSw
          go_simp
          all_goals with_reducible rfl
        try simp only [Act.put, List.getElem_toArray, List.getElem_cons_succ, List.getElem_cons_zero, List.setIfInBounds_toArray, List.set_cons_zero, List.set_cons_succ]
        refine wpAnyH_take (i := 2) (v := ?_) rfl (by kernel_rfl) (by kernel_rfl) (by kernel_rfl) (fun _ _ _ h => h) (Or.inl ⟨by rfl, ?_⟩) hHeld ?_
        rotate_left
        · intro wq hSw
          go_simp
          all_goals with_reducible rfl
        try simp only [Act.put, List.getElem_toArray, List.getElem_cons_succ, List.getElem_cons_zero, List.setIfInBounds_toArray, List.set_cons_zero, List.set_cons_succ]
        refine wpAnyH_take (i := 3) (v := ?_) rfl (by kernel_rfl) (by kernel_rfl) (by kernel_rfl) (fun _ _ _ h => h) (Or.inl ⟨by rfl, ?_⟩) hHeld ?_
        rotate_left
        · intro wq hSw
          go_simp
          all_goals with_reducible rfl
        try simp only [Act.put, List.getElem_toArray, List.getElem_cons_succ, List.getElem_cons_zero, List.setIfInBounds_toArray, List.set_cons_zero, List.set_cons_succ]
        refine wpAnyH_take (i := 4) (v := ?_) rfl (by kernel_rfl) (by kernel_rfl) (by kernel_rfl) (fun _ _ _ h => h) (Or.inl ⟨by rfl, ?_⟩) hHeld ?_
        rotate_left
        · intro wq hSw
          have q0 := hSw.1
          have q1 := hSw.2.1
          have q2 := hSw.2.2.1
          have q3 := hSw.2.2.2
          go_simp
          all_goals with_reducible rfl
        try simp only [Act.put, List.getElem_toArray, List.getElem_cons_succ, List.getElem_cons_zero, List.setIfInBounds_toArray, List.set_cons_zero, List.set_cons_succ]
        refine wpAnyH_take (i := 5) (v := ?_) rfl (by kernel_rfl) (by kernel_rfl) (by kernel_rfl) (fun _ _ _ h => h) (Or.inl ⟨by rfl, ?_⟩) hHeld ?_
        rotate_left
        · intro wq hSw
          go_simp
          all_goals with_reducible rfl
        try simp only [Act.put, List.getElem_toArray, List.getElem_cons_succ, List.getElem_cons_zero, List.setIfInBounds_toArray, List.set_cons_zero, List.set_cons_succ]
        refine wpAnyH_take (i := 6) (v := ?_) rfl (by kernel_rfl) (by kernel_rfl) (by kernel_rfl) (fun _ _ _ h => h) (Or.inl ⟨by rfl, ?_⟩) hHeld ?_
        rotate_left
        · intro wq hSw
          go_simp
          all_goals with_reducible rfl
        try simp only [Act.put, List.getElem_toArray, List.getElem_cons_succ, List.getElem_cons_zero, List.setIfInBounds_toArray, List.set_cons_zero, List.set_cons_succ]
        refine wpAnyH_take (i := 7) (v := ?_) rfl (by kernel_rfl) (by kernel_rfl) (by kernel_rfl) (fun _ _ _ h => h) (Or.inl ⟨by rfl, ?_⟩) hHeld ?_
        rotate_left
        · intro wq hSw
          have q0 := hSw.1
          have q1 := hSw.2.1
          have q2 := hSw.2.2.1
          have q3 := hSw.2.2.2
          go_simp
          all_goals with_reducible rfl
        try simp only [Act.put, List.getElem_toArray, List.getElem_cons_succ, List.getElem_cons_zero, List.setIfInBounds_toArray, List.set_cons_zero, List.set_cons_succ]
        refine wpAnyH_take (i := 8) (v := ?_) rfl (by kernel_rfl) (by kernel_rfl) (by kernel_rfl) (fun _ _ _ h => h) (Or.inl ⟨by rfl, ?_⟩) hHeld ?_
        rotate_left
        · intro wq hSw
          go_simp
          all_goals with_reducible rfl
        try simp only [Act.put, List.getElem_toArray, List.getElem_cons_succ, List.getElem_cons_zero, List.setIfInBounds_toArray, List.set_cons_zero, List.set_cons_succ]
        refine wpAnyH_take (i := 10) (v := ?_) rfl (by kernel_rfl) (by kernel_rfl) (by kernel_rfl) (fun _ _ _ h => h) (Or.inl ⟨by rfl, ?_⟩) hHeld ?_
        rotate_left
        · intro wq hSw
          go_simp
          all_goals with_reducible rfl
        try simp only [Act.put, List.getElem_toArray, List.getElem_cons_succ, List.getElem_cons_zero, List.setIfInBounds_toArray, List.set_cons_zero, List.set_cons_succ]
        refine wpAnyH_ready (rs := [0, 9]) (by kernel_rfl) (by simp) ?_
        refine AllReadyH.cons rfl (fun K hK => ?_) (AllReadyH.cons rfl (fun K hK => ?_) AllReadyH.nil)
        · go_simp
          refine hK.out _ _ ⟨y2, y3, y4, cx⟩ (fun hHeld => ?_)
          clear hK K
          try simp only [Act.put, List.getElem_toArray, List.getElem_cons_succ, List.getElem_cons_zero, List.setIfInBounds_toArray, List.set_cons_zero, List.set_cons_succ]
          refine wpAnyH_ready (rs := [9]) (by kernel_rfl) (by simp) ?_
          refine AllReadyH.cons rfl (fun K hK => ?_) AllReadyH.nil
          go_simp
          refine hK.out _ _ ⟨y2, y3, y4, cx⟩ (fun hHeld => ?_)
          clear hK K
          try simp only [Act.put, List.getElem_toArray, List.getElem_cons_succ, List.getElem_cons_zero, List.setIfInBounds_toArray, List.set_cons_zero, List.set_cons_succ]
          refine wpAnyH_take (i := 11) (v := ?_) rfl (by kernel_rfl) (by kernel_rfl) (by kernel_rfl) (fun _ _ _ h => h) (Or.inl ⟨by rfl, ?_⟩) hHeld ?_
          rotate_left
          · intro wq hSw
            go_simp
            all_goals with_reducible rfl
          try simp only [Act.put, List.getElem_toArray, List.getElem_cons_succ, List.getElem_cons_zero, List.setIfInBounds_toArray, List.set_cons_zero, List.set_cons_succ]
          refine wpAnyH_take (i := 12) (v := ?_) rfl (by kernel_rfl) (by kernel_rfl) (by kernel_rfl) (fun _ _ _ h => h) (Or.inl ⟨by rfl, ?_⟩) hHeld ?_
          rotate_left
          · intro wq hSw
            have q0 := hSw.1
            have q1 := hSw.2.1
            have q2 := hSw.2.2.1
            have q3 := hSw.2.2.2
            go_simp
            all_goals with_reducible rfl
          try simp only [Act.put, List.getElem_toArray, List.getElem_cons_succ, List.getElem_cons_zero, List.setIfInBounds_toArray, List.set_cons_zero, List.set_cons_succ]
          refine wpAnyH_ready (rs := [13]) (by kernel_rfl) (by simp) ?_
          refine AllReadyH.cons rfl (fun K hK => ?_) AllReadyH.nil
          go_simp
          refine (rpplus_any pn tn v ⟨⟨some ⟨bx, ox, none⟩, pn, pc, px⟩, ⟨tA, tn, tc, tx⟩⟩ ⟨⟨rA, pn, rc, rx⟩, ⟨sA, tn, sc, sx⟩⟩ wr.drew ⟨HP.out.1.keep (Nat.le_refl _) (Keep.refl wr).drew, HP.out.2.1.keep (Nat.le_refl _) (Keep.refl wr).drew, rfl, rfl⟩ ⟨(HP.out.2.2.1.keep HI.out.keep.size (Keep.refl wr).drew).mono HI.out.keep.size, (HP.out.2.2.2.keep HI.out.keep.size (Keep.refl wr).drew).mono HI.out.keep.size, rfl, rfl⟩ hg hs HV.out.1).mono ?_
          rintro e w4 ⟨⟨⟨A5, n5, c5, x5⟩, ⟨A6, n6, c6, x6⟩⟩, he, hC⟩
          replace he : e = .returned (.agg #[.slice A5 n5 c5, .slice A6 n6 c6]) := he
          subst he
          have HC := Lib.hid hC
          have K4 : Hid (Keep wr w4) := (Keep.drew (Keep.refl wr)).trans hC.keep
          have y2' := (K4.out.cell (p := ⟨b, 3, none⟩) HLL.out.2.1).trans y2
          have y3' := (K4.out.cell (p := ⟨br, k * 2, none⟩) HLL.out.2.2.1).trans y3
          have y4' := (K4.out.cell (p := ⟨br, k * 2 + 1, none⟩) HLL.out.2.2.1).trans y4
          have cx' := (K4.out.cell (p := ⟨bx, ox + k, none⟩) HLL.out.2.2.2.1).trans cx
          clear hC
          refine hK.out _ _ ⟨y2', y3', y4', cx'⟩ (fun hHeld => ?_)
          clear hK K
          try simp only [Act.put, List.getElem_toArray, List.getElem_cons_succ, List.getElem_cons_zero, List.setIfInBounds_toArray, List.set_cons_zero, List.set_cons_succ]
          have H4 := Lib.hid (HI.out.later K4.out)
          have z0 : w4.cell? ⟨q, 0, none⟩ = some (.slice (some ⟨bx, ox, none⟩) pn pc) := cell_of_row _ _ _ _ _ _ H4.out.row
          have z1 : w4.cell? ⟨q, 1, none⟩ = some (.slice tA tn tc) := cell_of_row _ _ _ _ _ _ H4.out.row
          have f0 : w4.frozen? ⟨q, 0, none⟩ = false := by simp [World.frozen?, H4.out.row]
          have f1 : w4.frozen? ⟨q, 1, none⟩ = false := by simp [World.frozen?, H4.out.row]
          refine wpAnyH_ready (rs := [14]) (by kernel_rfl) (by simp) ?_
          refine AllReadyH.cons rfl (fun K hK => ?_) AllReadyH.nil
          go_simp
          have T6 : Turned (fun b => b = q) w4 ((w4.setCell ⟨q, 0, none⟩ (.slice A5 n5 c5)).setCell ⟨q, 1, none⟩ (.slice A6 n6 c6)) :=
            (Turned.set (F := fun b => b = q) w4 ⟨q, 0, none⟩ (.slice A5 n5 c5) rfl).trans (Turned.set (F := fun b => b = q) _ ⟨q, 1, none⟩ (.slice A6 n6 c6) rfl) fun _ e => Or.inl e
          have HBK := Lib.hid (bset (i := 1) (bset (i := 0) H4.out.row (.slice A5 n5 c5)) (.slice A6 n6 c6))
          have HT6 := Lib.hid T6
          have y2'' := T6.cell y2' (by have := HLL.out.2.2.2.2.2; show ¬ b = q; omega)
          have y3'' := T6.cell y3' (by have := HLL.out.2.2.2.2.1; show ¬ br = q; omega)
          have y4'' := T6.cell y4' (by have := HLL.out.2.2.2.2.1; show ¬ br = q; omega)
          have cx'' := T6.cell cx' HBXQ.out
          clear T6
          refine hK.out _ _ ⟨y2'', y3'', y4'', cx''⟩ (fun hHeld => ?_)
          clear hK K
          try simp only [Act.put, List.getElem_toArray, List.getElem_cons_succ, List.getElem_cons_zero, List.setIfInBounds_toArray, List.set_cons_zero, List.set_cons_succ]
          refine wpAnyH_done (by kernel_rfl) ?_ _
          refine NoPanic.normal ?_
          clear hHeld
          clear y2'' y3'' y4'' cx'' y2' y3' y4' cx' z0 z1 f0 f1 y0 y1 y2 y3 y4 cx
          go_wp2_with fail
          go_roundw
          case rel => exact ⟨k + 1, ⟨⟨A5, n5, c5, x5⟩, ⟨A6, n6, c6, x6⟩⟩, by have := HLT.out; omega, by go_num, H4.out.put (p' := ⟨⟨A5, n5, c5, x5⟩, ⟨A6, n6, c6, x6⟩⟩) (fun k hk => HG.out k hk) HBK.out HT6.out HC.out (by have := HI.out.res; exact (Array.getElem?_eq_some_iff.1 this).1) (by
            rw [show x5 = _ from HC.out.ax, show x6 = _ from HC.out.bx]
            exact pair_cut (p := ⟨⟨rA, pn, rc, rx⟩, ⟨sA, tn, sc, sx⟩⟩) HP.out.1.length HI.out.xs HST.out.2.1 (by rw [HST.out.1, HV.out.2]))⟩
          case measure => have := HLT.out; simp [intOf]; omega
        · go_simp
          refine hK.out _ _ ⟨y2, y3, y4, cx⟩ (fun hHeld => ?_)
          clear hK K
          try simp only [Act.put, List.getElem_toArray, List.getElem_cons_succ, List.getElem_cons_zero, List.setIfInBounds_toArray, List.set_cons_zero, List.set_cons_succ]
          refine wpAnyH_take (i := 11) (v := ?_) rfl (by kernel_rfl) (by kernel_rfl) (by kernel_rfl) (fun _ _ _ h => h) (Or.inl ⟨by rfl, ?_⟩) hHeld ?_
          rotate_left
          · intro wq hSw
            go_simp
            all_goals with_reducible rfl
          try simp only [Act.put, List.getElem_toArray, List.getElem_cons_succ, List.getElem_cons_zero, List.setIfInBounds_toArray, List.set_cons_zero, List.set_cons_succ]
          refine wpAnyH_take (i := 12) (v := ?_) rfl (by kernel_rfl) (by kernel_rfl) (by kernel_rfl) (fun _ _ _ h => h) (Or.inl ⟨by rfl, ?_⟩) hHeld ?_
          rotate_left
          · intro wq hSw
            have q0 := hSw.1
            have q1 := hSw.2.1
            have q2 := hSw.2.2.1
            have q3 := hSw.2.2.2
            go_simp
            all_goals with_reducible rfl
          try simp only [Act.put, List.getElem_toArray, List.getElem_cons_succ, List.getElem_cons_zero, List.setIfInBounds_toArray, List.set_cons_zero, List.set_cons_succ]
          refine wpAnyH_ready (rs := [0]) (by kernel_rfl) (by simp) ?_
          refine AllReadyH.cons rfl (fun K hK => ?_) AllReadyH.nil
          go_simp
          refine hK.out _ _ ⟨y2, y3, y4, cx⟩ (fun hHeld => ?_)
          clear hK K
          try simp only [Act.put, List.getElem_toArray, List.getElem_cons_succ, List.getElem_cons_zero, List.setIfInBounds_toArray, List.set_cons_zero, List.set_cons_succ]
          refine wpAnyH_ready (rs := [13]) (by kernel_rfl) (by simp) ?_
          refine AllReadyH.cons rfl (fun K hK => ?_) AllReadyH.nil
          go_simp
          refine (rpplus_any pn tn v ⟨⟨some ⟨bx, ox, none⟩, pn, pc, px⟩, ⟨tA, tn, tc, tx⟩⟩ ⟨⟨rA, pn, rc, rx⟩, ⟨sA, tn, sc, sx⟩⟩ wr.drew ⟨HP.out.1.keep (Nat.le_refl _) (Keep.refl wr).drew, HP.out.2.1.keep (Nat.le_refl _) (Keep.refl wr).drew, rfl, rfl⟩ ⟨(HP.out.2.2.1.keep HI.out.keep.size (Keep.refl wr).drew).mono HI.out.keep.size, (HP.out.2.2.2.keep HI.out.keep.size (Keep.refl wr).drew).mono HI.out.keep.size, rfl, rfl⟩ hg hs HV.out.1).mono ?_
          rintro e w4 ⟨⟨⟨A5, n5, c5, x5⟩, ⟨A6, n6, c6, x6⟩⟩, he, hC⟩
          replace he : e = .returned (.agg #[.slice A5 n5 c5, .slice A6 n6 c6]) := he
          subst he
          have HC := Lib.hid hC
          have K4 : Hid (Keep wr w4) := (Keep.drew (Keep.refl wr)).trans hC.keep
          have y2' := (K4.out.cell (p := ⟨b, 3, none⟩) HLL.out.2.1).trans y2
          have y3' := (K4.out.cell (p := ⟨br, k * 2, none⟩) HLL.out.2.2.1).trans y3
          have y4' := (K4.out.cell (p := ⟨br, k * 2 + 1, none⟩) HLL.out.2.2.1).trans y4
          have cx' := (K4.out.cell (p := ⟨bx, ox + k, none⟩) HLL.out.2.2.2.1).trans cx
          clear hC
          refine hK.out _ _ ⟨y2', y3', y4', cx'⟩ (fun hHeld => ?_)
          clear hK K
          try simp only [Act.put, List.getElem_toArray, List.getElem_cons_succ, List.getElem_cons_zero, List.setIfInBounds_toArray, List.set_cons_zero, List.set_cons_succ]
          have H4 := Lib.hid (HI.out.later K4.out)
          have z0 : w4.cell? ⟨q, 0, none⟩ = some (.slice (some ⟨bx, ox, none⟩) pn pc) := cell_of_row _ _ _ _ _ _ H4.out.row
          have z1 : w4.cell? ⟨q, 1, none⟩ = some (.slice tA tn tc) := cell_of_row _ _ _ _ _ _ H4.out.row
          have f0 : w4.frozen? ⟨q, 0, none⟩ = false := by simp [World.frozen?, H4.out.row]
          have f1 : w4.frozen? ⟨q, 1, none⟩ = false := by simp [World.frozen?, H4.out.row]
          refine wpAnyH_ready (rs := [14]) (by kernel_rfl) (by simp) ?_
          refine AllReadyH.cons rfl (fun K hK => ?_) AllReadyH.nil
          go_simp
          have T6 : Turned (fun b => b = q) w4 ((w4.setCell ⟨q, 0, none⟩ (.slice A5 n5 c5)).setCell ⟨q, 1, none⟩ (.slice A6 n6 c6)) :=
            (Turned.set (F := fun b => b = q) w4 ⟨q, 0, none⟩ (.slice A5 n5 c5) rfl).trans (Turned.set (F := fun b => b = q) _ ⟨q, 1, none⟩ (.slice A6 n6 c6) rfl) fun _ e => Or.inl e
          have HBK := Lib.hid (bset (i := 1) (bset (i := 0) H4.out.row (.slice A5 n5 c5)) (.slice A6 n6 c6))
          have HT6 := Lib.hid T6
          have y2'' := T6.cell y2' (by have := HLL.out.2.2.2.2.2; show ¬ b = q; omega)
          have y3'' := T6.cell y3' (by have := HLL.out.2.2.2.2.1; show ¬ br = q; omega)
          have y4'' := T6.cell y4' (by have := HLL.out.2.2.2.2.1; show ¬ br = q; omega)
          have cx'' := T6.cell cx' HBXQ.out
          clear T6
          refine hK.out _ _ ⟨y2'', y3'', y4'', cx''⟩ (fun hHeld => ?_)
          clear hK K
          try simp only [Act.put, List.getElem_toArray, List.getElem_cons_succ, List.getElem_cons_zero, List.setIfInBounds_toArray, List.set_cons_zero, List.set_cons_succ]
          refine wpAnyH_done (by kernel_rfl) ?_ _
          refine NoPanic.normal ?_
          clear hHeld
          clear y2'' y3'' y4'' cx'' y2' y3' y4' cx' z0 z1 f0 f1 y0 y1 y2 y3 y4 cx
          go_wp2_with fail
          go_roundw
          case rel => exact ⟨k + 1, ⟨⟨A5, n5, c5, x5⟩, ⟨A6, n6, c6, x6⟩⟩, by have := HLT.out; omega, by go_num, H4.out.put (p' := ⟨⟨A5, n5, c5, x5⟩, ⟨A6, n6, c6, x6⟩⟩) (fun k hk => HG.out k hk) HBK.out HT6.out HC.out (by have := HI.out.res; exact (Array.getElem?_eq_some_iff.1 this).1) (by
            rw [show x5 = _ from HC.out.ax, show x6 = _ from HC.out.bx]
            exact pair_cut (p := ⟨⟨rA, pn, rc, rx⟩, ⟨sA, tn, sc, sx⟩⟩) HP.out.1.length HI.out.xs HST.out.2.1 (by rw [HST.out.1, HV.out.2]))⟩
          case measure => have := HLT.out; simp [intOf]; omega
    · obtain rfl : k = n1 := by omega
      obtain ⟨⟨pA, pn, pc, px⟩, ⟨tA, tn, tc, tx⟩⟩ := p
      obtain rfl : pn = k := HI.out.an
      obtain rfl : tn = n2 := HI.out.bn
      have y0 : wr.cell? ⟨q, 0, none⟩ = some (.slice pA pn pc) := cell_of_row _ _ _ _ _ _ HI.out.row
      have y1 : wr.cell? ⟨q, 1, none⟩ = some (.slice tA tn tc) := cell_of_row _ _ _ _ _ _ HI.out.row
      have z0 : wr.cell? ⟨q + 1, 0, none⟩ = some (.slice none 0 0) := cell_of_row _ _ _ _ _ _ HI.out.res
      have z1 : wr.cell? ⟨q + 1, 1, none⟩ = some (.slice none 0 0) := cell_of_row _ _ _ _ _ _ HI.out.res
      have f0 : wr.frozen? ⟨q + 1, 0, none⟩ = false := by simp [World.frozen?, HI.out.res]
      have f1 : wr.frozen? ⟨q + 1, 1, none⟩ = false := by simp [World.frozen?, HI.out.res]
      go_wp2_with fail
      have T6 : Turned (fun b => b = q + 1) wr ((wr.setCell ⟨q + 1, 0, none⟩ (.slice pA pn pc)).setCell ⟨q + 1, 1, none⟩ (.slice tA tn tc)) :=
        (Turned.set (F := fun b => b = q + 1) wr ⟨q + 1, 0, none⟩ (.slice pA pn pc) rfl).trans (Turned.set (F := fun b => b = q + 1) _ ⟨q + 1, 1, none⟩ (.slice tA tn tc) rfl) fun _ e => Or.inl e
      have hb := bset (i := 1) (bset (i := 0) HI.out.res (.slice pA pn pc)) (.slice tA tn tc)
      have hd : ∀ b, (G b ∨ (q + 2 ≤ b ∧ b < wr.heap.size)) → ¬ b = q + 1 := fun b hb => by
        rcases hb with e | e
        · have := HG.out b e; omega
        · omega
      have hm : ∀ b, (G b ∨ (q + 2 ≤ b ∧ b < wr.heap.size)) → (G b ∨ (w.heap.size ≤ b ∧ b < ((wr.setCell ⟨q + 1, 0, none⟩ (.slice pA pn pc)).setCell ⟨q + 1, 1, none⟩ (.slice tA tn tc)).heap.size)) := fun b hb => hb.imp id fun e => ⟨by rw [HQ.out]; omega, Nat.lt_of_lt_of_le e.2 T6.size⟩
      refine bodyPost_ret (v := .agg #[.slice pA pn pc, .slice tA tn tc]) ?_ rfl ⟨⟨⟨pA, pn, pc, px⟩, ⟨tA, tn, tc, tx⟩⟩, rfl, rfl, rfl, ⟨(HI.out.a.turned T6 hd).mono hm, (HI.out.b.turned T6 hd).mono hm⟩, ?_, T6.keep HI.out.keep fun i e => by rw [e, HQ.out]; omega⟩
      · exact results_cell_row (p := 4) (ty := 45) rfl _ _ (q + 1) 45 _ (0, 0) _ rfl hb Tryz.underlying45 rfl infoRowSize
      · have e := HI.out.xs
        rw [HS.out.cnt_all] at e
        exact e
end Go.Proofs.YtgelalbmhllccaaGreat
