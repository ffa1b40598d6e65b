/- The landed code of layer 7: a new row is laid. -/
import Derived.Test.YtgelalbmhllccaaGreatQag
import Derived.Test.YtgelalbmhllccaaGreatQae
import Derived.Deep.QuietTactic
import Derived.Test.YtgelalbmhllccaaGreatQab
namespace Go.Proofs.YtgelalbmhllccaaGreat
open Go.RowKit Lin
set_option linter.unusedVariables false
set_option linter.unusedSimpArgs false
/-- A row, cleared by another one at L (both sides). -/
def clr (g s L : Nat) (rx ry : List Nat) (p : PairV) : List Nat × List Nat := (vAddS g p.a.xs rx (p.a.xs.getD L 0), vAddS s p.b.xs ry (p.a.xs.getD L 0))
/-- Rows being laid anew. -/
structure LayI (w wr : World) (F : Nat → Prop) (q g s L n k : Nat) (r : PairV) (ps qs : List PairV) : Prop where
  base : w.heap.size = q
  row : wr.heap[q]? = some (.cells #[r.a.val, r.b.val] 45 (0, 0))
  st : StB wr (q + 1) (qs ++ List.replicate (n + 1 - k) PairV.zero)
  len : qs.length = k
  lies : ∀ p ∈ qs, (LiesIn wr (fun b => F b ∨ (q + 2 ≤ b ∧ b < wr.heap.size)) p.a ∧ LiesIn wr (fun b => F b ∨ (q + 2 ≤ b ∧ b < wr.heap.size)) p.b) ∧ p.a.n = g ∧ p.b.n = s
  xs : qs.map (fun p => (p.a.xs, p.b.xs)) = (ps.take k).map (clr g s L r.a.xs r.b.xs)
  keep : Keep w wr
section
variable {w wr w1 w2 : World} {F : Nat → Prop} {q g s L n k : Nat} {r p : PairV} {ps qs : List PairV}
theorem LayI.later (h : LayI w wr F q g s L n k r ps qs) (kp : Keep wr w2) : LayI w w2 F q g s L n k r ps qs :=
  ⟨h.base, (kp.block _ (Array.getElem?_eq_some_iff.1 h.row).1).trans h.row, h.st.keep kp, h.len, fun p hp => by
    obtain ⟨⟨a, b⟩, c⟩ := h.lies p hp
    have hm : ∀ b, (F b ∨ (q + 2 ≤ b ∧ b < wr.heap.size)) → (F b ∨ (q + 2 ≤ b ∧ b < w2.heap.size)) := fun b hb => hb.imp id fun e => ⟨e.1, Nat.lt_of_lt_of_le e.2 kp.size⟩
    exact ⟨⟨(a.turned (Turned.of_keep (F := fun _ => False) kp) fun _ _ e => e).mono hm, (b.turned (Turned.of_keep (F := fun _ => False) kp) fun _ _ e => e).mono hm⟩, c⟩, h.xs, h.keep.trans kp⟩
theorem LayI.set (h : LayI w wr F q g s L n k r ps qs) (hF : ∀ b, F b → b < q) (hk : k < n) {p' : PairV} (hp : ps[k]? = some p)
    (hl : (LiesIn wr (fun b => F b ∨ (q + 2 ≤ b ∧ b < wr.heap.size)) p'.a ∧ LiesIn wr (fun b => F b ∨ (q + 2 ≤ b ∧ b < wr.heap.size)) p'.b) ∧ p'.a.n = g ∧ p'.b.n = s)
    (hx : (p'.a.xs, p'.b.xs) = clr g s L r.a.xs r.b.xs p) : LayI w ((wr.setCell ⟨q + 1, k * 2, none⟩ p'.a.val).setCell ⟨q + 1, k * 2 + 1, none⟩ p'.b.val) F q g s L n (k + 1) r ps (qs ++ [p']) := by
  have T : Turned (fun b => b = q + 1) wr ((wr.setCell ⟨q + 1, k * 2, none⟩ p'.a.val).setCell ⟨q + 1, k * 2 + 1, none⟩ p'.b.val) :=
    (Turned.set (F := fun b => b = q + 1) wr ⟨q + 1, k * 2, none⟩ p'.a.val rfl).trans (Turned.set (F := fun b => b = q + 1) _ ⟨q + 1, k * 2 + 1, none⟩ p'.b.val rfl) fun _ e => Or.inl e
  have hm : ∀ b, (F b ∨ (q + 2 ≤ b ∧ b < wr.heap.size)) → (F b ∨ (q + 2 ≤ b ∧ b < ((wr.setCell ⟨q + 1, k * 2, none⟩ p'.a.val).setCell ⟨q + 1, k * 2 + 1, none⟩ p'.b.val).heap.size)) := fun b hb => hb.imp id fun e => ⟨e.1, Nat.lt_of_lt_of_le e.2 T.size⟩
  have hd : ∀ b, (F b ∨ (q + 2 ≤ b ∧ b < wr.heap.size)) → ¬ b = q + 1 := fun b hb => by
    rcases hb with e | e
    · have := hF b e; omega
    · omega
  refine ⟨h.base, (T.block q (by have := (Array.getElem?_eq_some_iff.1 h.row).1; exact this) (by omega)).trans h.row, ?_, by rw [List.length_append, h.len]; rfl, fun x hxm => ?_, ?_, T.keep h.keep fun i e => by rw [e, h.base]; omega⟩
  · have e := h.st.set k p'
    rw [List.set_append_right _ _ (by rw [h.len]; exact Nat.le_refl _), h.len, Nat.sub_self, show n + 1 - k = (n + 1 - (k + 1)) + 1 by omega, List.replicate_succ, List.set_cons_zero] at e
    rwa [List.append_assoc]
  · have key : ((LiesIn wr (fun b => F b ∨ (q + 2 ≤ b ∧ b < wr.heap.size)) x.a ∧ LiesIn wr (fun b => F b ∨ (q + 2 ≤ b ∧ b < wr.heap.size)) x.b) ∧ x.a.n = g ∧ x.b.n = s) := by
      rcases List.mem_append.1 hxm with e | e
      · exact h.lies x e
      · rw [List.mem_singleton.1 e]; exact hl
    exact ⟨⟨(key.1.1.turned T hd).mono hm, (key.1.2.turned T hd).mono hm⟩, key.2⟩
  · rw [List.map_append, h.xs, List.take_add_one, hp, Option.toList_some, List.map_append]
    congr 1
    show [(p'.a.xs, p'.b.xs)] = [_]
    rw [hx]
end
set_option maxRecDepth 100000 in
set_option maxHeartbeats 4000000 in
theorem blay_any {w : World} {F R : Nat → Prop} {b g s n c : Nat} {B : List (List Nat)} {A : Option Addr} {ps : List PairV} (h : BasA w F b g s B A n c ps) (r : PairV) (L : Nat) (hL : L < g) (hr : LiesIn w R r.a ∧ LiesIn w R r.b ∧ r.a.n = g ∧ r.b.n = s) (hR : ∀ k, R k → k < w.heap.size) :
    Calls Tryz.prog 78 #[.pointer (some ⟨b, 0, none⟩), r.agg, .int .i64 (L : Int)] w fun e w' => ∃ (i : Nat) (A' : Option Addr) (c' : Nat) (qs : List PairV) (w6 : World), e = .returned (.tuple #[]) ∧ i ≤ n ∧ (∀ k, k < i → ∃ j, j < L ∧ (B.getD k []).getD j 0 ≠ 0) ∧ (i < n → ∀ j, j < L → (B.getD i []).getD j 0 = 0) ∧
      qs.map (fun p => (p.a.xs, p.b.xs)) = ps.map (clr g s L r.a.xs r.b.xs) ∧ (∀ p ∈ qs, (LiesIn w6 (fun b => F b ∨ (w.heap.size ≤ b ∧ b < w6.heap.size)) p.a ∧ LiesIn w6 (fun b => F b ∨ (w.heap.size ≤ b ∧ b < w6.heap.size)) p.b) ∧ p.a.n = g ∧ p.b.n = s) ∧
      OwnSt w6 w.heap.size A' (n + 1) c' (qs.take i ++ [r] ++ qs.drop i) ∧ Keep w w6 ∧ w' = w6.setCell ⟨b, 2, none⟩ (.slice A' (n + 1) c') := by
  obtain ⟨⟨A1, n1, c1, x1⟩, ⟨A2, n2, c2, x2⟩⟩ := r
  obtain ⟨r1, r2, r3, r4⟩ := hr
  simp only at r3 r4
  obtain rfl : n1 = g := r3
  obtain rfl : n2 = s := r4
  show Calls _ _ #[_, .agg #[.slice A1 n1 c1, .slice A2 n2 c2], _] _ _
  obtain ⟨⟨q, hq⟩⟩ : Nonempty (∃ q, w.heap.size = q) := ⟨_, rfl⟩
  have hb := h.lt b h.at_
  have hbq : b < q := by omega
  have hn : n ≤ 255 := by have := h.n_le; have := h.g2; omega
  have hw1 : IntKind.i64.wrap ((n : Int) + 1) = (n : Int) + 1 := by rw [IntKind.wrap_i64]; omega
  have mks := fun w => run_make_st n (n + 1) (by omega) (by omega) w
  rw [show ((n + 1 : Nat) : Int) = (n : Int) + 1 by omega] at mks
  have hc2' : (w.alloc (.cells #[.slice A1 n1 c1, .slice A2 n2 c2] 45)).cell? ⟨b, 2, none⟩ = some (.slice A n c) := (World.cell?_alloc_past _ _ _ hb).trans h.c2
  have hF : ∀ k, F k → k < q := fun k hk => by have := h.lt k hk; omega
  have HF := Lib.hid hF
  have H := Lib.hid h
  have HR := Lib.hid (And.intro r1 (And.intro r2 hR))
  have HB := Lib.hid (And.intro hb (And.intro hbq h.c2))
  have h0 : LayI w (((w.alloc (.cells #[.slice A1 n1 c1, .slice A2 n2 c2] 45)).alloc (.cells ((List.replicate (n + 1) PairV.zero).flatMap PairV.vals).toArray 45)).drew) F q n1 n2 L n 0 ⟨⟨A1, n1, c1, x1⟩, ⟨A2, n2, c2, x2⟩⟩ ps [] := by
    subst hq
    have k1 : Keep (w.alloc (.cells #[.slice A1 n1 c1, .slice A2 n2 c2] 45)) (((w.alloc (.cells #[.slice A1 n1 c1, .slice A2 n2 c2] 45)).alloc (.cells ((List.replicate (n + 1) PairV.zero).flatMap PairV.vals).toArray 45)).drew) := ((Keep.refl _).alloc _ _).drew
    refine ⟨rfl, (k1.block _ (by simp)).trans (heap_alloc_new _ _), ?_, rfl, fun p hp => by simp at hp, by simp, ((Keep.refl w).alloc _ _).trans k1⟩
    have e := StB.made (w.alloc (.cells #[.slice A1 n1 c1, .slice A2 n2 c2] 45)) (n + 1)
    rw [show (w.alloc (.cells #[.slice A1 n1 c1, .slice A2 n2 c2] 45)).heap.size = w.heap.size + 1 by simp] at e
    exact e
  have H0 := Lib.hid h0
  have HQ := Lib.hid hq
  clear h h0 r1 r2 hR hF hb
  go_enter Tryz.func78, Tryz.ntmps78
  go_wp2_with fail
  go_region
  clear hc2' mks
  change Hid (LayI w (((w.alloc (.cells #[.slice A1 n1 c1, .slice A2 n2 c2] 45)).alloc (.cells ((List.replicate (n + 1) PairV.zero).flatMap PairV.vals).toArray 45)).drew) F q n1 n2 L n 0 _ ps []) at H0
  generalize (((w.alloc (.cells #[.slice A1 n1 c1, .slice A2 n2 c2] 45)).alloc (.cells ((List.replicate (n + 1) PairV.zero).flatMap PairV.vals).toArray 45)).drew) = w4 at *
  have c2' := (H0.out.keep.cell (p := ⟨b, 2, none⟩) HB.out.1).trans HB.out.2.2
  go_wp2_with fail
  clear c2' hq
  go_loopw [26] (fun i wr => ∃ (k : Nat) (qs : List PairV), k ≤ n ∧ i = .int .i64 k ∧ LayI w wr F q n1 n2 L n k ⟨⟨A1, n1, c1, x1⟩, ⟨A2, n2, c2, x2⟩⟩ ps qs) (fun i _ => n - (intOf i).toNat)
  case atStart => exact ⟨0, [], by omega, rfl, H0.out⟩
  case round =>
    obtain ⟨k, qs, hk, rfl, hI⟩ := hrel
    have HI := Lib.hid hI
    clear hI H0
    by_cases hlt : k < n
    · obtain ⟨b2, o2, p, rfl, hb2, hp, hc1, hc3, hl2, hl3⟩ := (H.out.st.keep HI.out.keep).at_ hlt
      have hsz := H.out.size p (List.mem_of_getElem? hp)
      obtain ⟨⟨pA, pn, pc, px⟩, ⟨sA, sn, sc, sx⟩⟩ := p
      obtain ⟨z1, z2⟩ := hsz
      simp only at z1 z2
      obtain rfl : pn = n1 := z1
      obtain rfl : sn = n2 := z2
      have e1 : (0 : Int) ≤ (k : Int) := Int.natCast_nonneg _
      have e2 : (k : Int) < (n : Int) := by omega
      have e3 : (k : Int) < (n : Int) + 1 := by omega
      have HP := Lib.hid (And.intro hp (And.intro hl2 hl3))
      clear hp hl2 hl3 hb2
      go_upto_region 5 with fail
      clear hc1 hc3
      have hkw : Keep wr (wr.alloc (.cells #[.slice pA pn pc, .slice sA sn sc] 45)) := (Keep.refl wr).alloc _ _
      have hnew := heap_alloc_new wr (.cells #[.slice pA pn pc, .slice sA sn sc] 45)
      have hW : Hid (wr.heap.size < (wr.alloc (.cells #[.slice pA pn pc, .slice sA sn sc] 45)).heap.size) := by show _ < _; simp
      obtain ⟨q5, hq5⟩ : ∃ q5, wr.heap.size = q5 := ⟨_, rfl⟩
      have HQ5 := Lib.hid hq5
      rw [hq5] at hnew
      simp only [hq5]
      generalize (wr.alloc (.cells #[.slice pA pn pc, .slice sA sn sc] 45)) = w5 at *
      have H5 := Lib.hid (HI.out.later hkw)
      have HKW := Lib.hid hkw
      have d0 : w5.cell? ⟨q5, 0, none⟩ = some (.slice pA pn pc) := cell_of_row _ _ _ _ _ _ hnew
      have d1 : w5.cell? ⟨q5, 1, none⟩ = some (.slice sA sn sc) := cell_of_row _ _ _ _ _ _ hnew
      have d2 : w5.cell? ⟨q, 0, none⟩ = some (.slice A1 pn c1) := cell_of_row _ _ _ _ _ _ H5.out.row
      have d3 : w5.cell? ⟨q, 1, none⟩ = some (.slice A2 sn c2) := cell_of_row _ _ _ _ _ _ H5.out.row
      clear hnew hkw hq5
      go_wp2_with fail
      refine (bcleared_any pn sn L ⟨⟨pA, pn, pc, px⟩, ⟨sA, sn, sc, sx⟩⟩ ⟨⟨A1, pn, c1, x1⟩, ⟨A2, sn, c2, x2⟩⟩ F _ ⟨HP.out.2.1.turned (Turned.of_keep (F := fun _ => False) HKW.out) fun _ _ e => e, HP.out.2.2.turned (Turned.of_keep (F := fun _ => False) HKW.out) fun _ _ e => e, rfl, rfl⟩
        ⟨((HR.out.1.bytes HR.out.2.2).below (Below.mono H5.out.keep (Nat.le_refl _))).mono H5.out.keep.size, ((HR.out.2.1.bytes HR.out.2.2).below (Below.mono H5.out.keep (Nat.le_refl _))).mono H5.out.keep.size, rfl, rfl⟩
        (fun k hk => Nat.lt_of_lt_of_le (H.out.lt k hk) H5.out.keep.size) hL H.out.g2 H.out.s2).mono ?_
      rintro e w6 ⟨⟨⟨A5, n5, c5, x5⟩, ⟨A6, n6, c6, x6⟩⟩, he, hC⟩
      replace he : e = .returned (.agg #[.slice A5 n5 c5, .slice A6 n6 c6]) := he
      subst he
      have HC := Lib.hid hC
      have H6 := Lib.hid (H5.out.later hC.keep)
      have z0 := H6.out.st.cells (k := k) (p := PairV.zero) (by rw [List.getElem?_append_right (by rw [H6.out.len]; exact Nat.le_refl _), H6.out.len, Nat.sub_self, show n + 1 - k = (n - k) + 1 by omega]; rfl)
      have f0 := H6.out.st.frozen (k * 2)
      have f1 := H6.out.st.frozen (k * 2 + 1)
      obtain ⟨z1, z2⟩ := z0
      change _ = some (Value.slice none 0 0) at z1
      change _ = some (Value.slice none 0 0) at z2
      clear hC d0 d1 d2 d3
      go_wp2_with fail
      go_roundw
      case rel =>
        refine ⟨k + 1, _, by omega, by go_num, H6.out.set HF.out hlt HP.out.1 (p' := ⟨⟨A5, n5, c5, x5⟩, ⟨A6, n6, c6, x6⟩⟩) ⟨⟨HC.out.a.mono ?_, HC.out.b.mono ?_⟩, HC.out.an, HC.out.bn⟩ ?_⟩
        · rintro k (hk | hk)
          · exact Or.inl hk
          · refine Or.inr ⟨?_, hk.2⟩
            have h1 := hk.1
            have h2 := hW.out
            have h3 := HI.out.st.lt
            omega
        · rintro k (hk | hk)
          · exact Or.inl hk
          · refine Or.inr ⟨?_, hk.2⟩
            have h1 := hk.1
            have h2 := hW.out
            have h3 := HI.out.st.lt
            omega
        · show (_, _) = (_, _)
          rw [show x5 = _ from HC.out.ax, show x6 = _ from HC.out.bx]
      case measure => simp [intOf]; omega
    · obtain rfl : k = n := by omega
      have HC2 : Hid (wr.cell? ⟨b, 2, none⟩ = some (.slice A k c)) := (HI.out.keep.cell (p := ⟨b, 2, none⟩) HB.out.1).trans HB.out.2.2
      go_wp2_with fail
      have u0 : wr.cell? ⟨q, 0, none⟩ = some (.slice A1 n1 c1) := cell_of_row _ _ _ _ _ _ HI.out.row
      have u1 : wr.cell? ⟨q, 1, none⟩ = some (.slice A2 n2 c2) := cell_of_row _ _ _ _ _ _ HI.out.row
      have HQL : Hid (q < wr.heap.size ∧ q + 1 < wr.heap.size) := ⟨(Array.getElem?_eq_some_iff.1 HI.out.row).1, HI.out.st.lt⟩
      refine wp_region_noPanic ?_
      refine wp_region_held_drew (S := fun wz => wz.cell? ⟨q, 0, none⟩ = some (.slice A1 n1 c1) ∧ wz.cell? ⟨q, 1, none⟩ = some (.slice A2 n2 c2)) (by kernel_rfl) ⟨u0, u1⟩ (fun hHeld => ?_)
      refine wpAnyH_take (i := 0) (v := ?_) rfl (by kernel_rfl) (by kernel_rfl) (by kernel_rfl) (fun _ _ _ h => h) (Or.inl ⟨by rfl, ?_⟩) hHeld ?_
      rotate_left
      · intro wq hSw
        go_simp
        all_goals with_reducible rfl
      try simp only [Act.put, List.getElem_toArray, List.getElem_cons_succ, List.getElem_cons_zero, List.setIfInBounds_toArray, List.set_cons_zero, List.set_cons_succ]
      refine wpAnyH_take (i := 1) (v := ?_) rfl (by kernel_rfl) (by kernel_rfl) (by kernel_rfl) (fun _ _ _ h => h) (Or.inl ⟨by rfl, ?_⟩) hHeld ?_
      rotate_left
      · intro wq hSw
        go_simp
        all_goals with_reducible rfl
      try simp only [Act.put, List.getElem_toArray, List.getElem_cons_succ, List.getElem_cons_zero, List.setIfInBounds_toArray, List.set_cons_zero, List.set_cons_succ]
      refine wpAnyH_take (i := 2) (v := ?_) rfl (by kernel_rfl) (by kernel_rfl) (by kernel_rfl) (fun _ _ _ h => h) (Or.inl ⟨by rfl, ?_⟩) hHeld ?_
      rotate_left
      · intro wq hSw
        go_simp
        all_goals with_reducible rfl
      try simp only [Act.put, List.getElem_toArray, List.getElem_cons_succ, List.getElem_cons_zero, List.setIfInBounds_toArray, List.set_cons_zero, List.set_cons_succ]
      refine wpAnyH_take (i := 3) (v := ?_) rfl (by kernel_rfl) (by kernel_rfl) (by kernel_rfl) (fun _ _ _ h => h) (Or.inl ⟨by rfl, ?_⟩) hHeld ?_
      rotate_left
      · intro wq hSw
        go_simp
        all_goals with_reducible rfl
      try simp only [Act.put, List.getElem_toArray, List.getElem_cons_succ, List.getElem_cons_zero, List.setIfInBounds_toArray, List.set_cons_zero, List.set_cons_succ]
      refine wpAnyH_take (i := 5) (v := ?_) rfl (by kernel_rfl) (by kernel_rfl) (by kernel_rfl) (fun _ _ _ h => h) (Or.inl ⟨by rfl, ?_⟩) hHeld ?_
      rotate_left
      · intro wq hSw
        have q0 := hSw.1
        have q1 := hSw.2
        go_simp
        all_goals with_reducible rfl
      try simp only [Act.put, List.getElem_toArray, List.getElem_cons_succ, List.getElem_cons_zero, List.setIfInBounds_toArray, List.set_cons_zero, List.set_cons_succ]
      refine wpAnyH_ready (rs := [4, 6]) (by kernel_rfl) (by simp) ?_
      refine AllReadyH.cons rfl (fun K hK => ?_) (AllReadyH.cons rfl (fun K hK => ?_) AllReadyH.nil)
      · go_simp
        refine (bplace_any (H.out.keep (HI.out.keep.trans (Keep.refl wr).drew)) L hL).mono ?_
        rintro e w7 ⟨i, rfl, hi1, hi2, hi3, k7⟩
        have K7 : Hid (Keep wr w7) := ((Keep.refl wr).drew).trans k7
        have u0' := (K7.out.cell (p := ⟨q, 0, none⟩) HQL.out.1).trans u0
        have u1' := (K7.out.cell (p := ⟨q, 1, none⟩) HQL.out.1).trans u1
        have HI2 := Lib.hid (And.intro hi1 (And.intro hi2 hi3))
        refine hK.out _ _ ⟨u0', u1'⟩ (fun hHeld => ?_)
        clear hK K
        try simp only [Act.put, List.getElem_toArray, List.getElem_cons_succ, List.getElem_cons_zero, List.setIfInBounds_toArray, List.set_cons_zero, List.set_cons_succ]
        refine wpAnyH_ready (rs := [6]) (by kernel_rfl) (by simp) ?_
        refine AllReadyH.cons rfl (fun K hK => ?_) AllReadyH.nil
        go_simp
        obtain ⟨q2, hq2⟩ : ∃ q2, w7.heap.size = q2 := ⟨_, rfl⟩
        have K8 : Hid (Keep wr (w7.alloc (.cells #[.slice A1 n1 c1, .slice A2 n2 c2] 45))) := (K7.out).alloc _ _
        have V8 : Hid (StB (w7.alloc (.cells #[.slice A1 n1 c1, .slice A2 n2 c2] 45)) q2 [⟨⟨A1, n1, c1, x1⟩, ⟨A2, n2, c2, x2⟩⟩]) := by
          show StB _ _ _
          rw [← hq2]; exact heap_alloc_new _ _
        have HQ2 : Hid (q2 ≠ q + 1) := by
          show q2 ≠ q + 1
          have h1 := K7.out.size
          have h2 := HQL.out.2
          omega
        simp only [hq2]
        clear hq2
        generalize (w7.alloc (.cells #[.slice A1 n1 c1, .slice A2 n2 c2] 45)) = w8 at *
        have u0'' := (K8.out.cell (p := ⟨q, 0, none⟩) HQL.out.1).trans u0
        have u1'' := (K8.out.cell (p := ⟨q, 1, none⟩) HQL.out.1).trans u1
        refine hK.out _ _ ⟨u0'', u1''⟩ (fun hHeld => ?_)
        clear hK K
        try simp only [Act.put, List.getElem_toArray, List.getElem_cons_succ, List.getElem_cons_zero, List.setIfInBounds_toArray, List.set_cons_zero, List.set_cons_succ]
        refine wpAnyH_ready (rs := [7]) (by kernel_rfl) (by simp) ?_
        refine AllReadyH.cons rfl (fun K hK => ?_) AllReadyH.nil
        go_simp
        refine (binsert_rows (q + 1) k i q2 q (qs ++ List.replicate (k + 1 - k) PairV.zero) ⟨⟨A1, n1, c1, x1⟩, ⟨A2, n2, c2, x2⟩⟩ _ (HI.out.st.keep K8.out) (by rw [List.length_append, List.length_replicate, HI.out.len]; omega) (by omega) V8.out HQ2.out HI2.out.1 hn).mono ?_
        rintro e w9 ⟨A9, c9, rfl, o9, t9⟩
        have e9 : (qs ++ List.replicate (k + 1 - k) PairV.zero).take i ++ [⟨⟨A1, n1, c1, x1⟩, ⟨A2, n2, c2, x2⟩⟩] ++ ((qs ++ List.replicate (k + 1 - k) PairV.zero).take k).drop i = qs.take i ++ [⟨⟨A1, n1, c1, x1⟩, ⟨A2, n2, c2, x2⟩⟩] ++ qs.drop i := by
          have ea : (qs ++ List.replicate (k + 1 - k) PairV.zero).take i = qs.take i := List.take_append_of_le_length (by rw [HI.out.len]; exact HI2.out.1)
          have eb : (qs ++ List.replicate (k + 1 - k) PairV.zero).take k = qs := by rw [List.take_append_of_le_length (by rw [HI.out.len]; exact Nat.le_refl _), List.take_of_length_le (by rw [HI.out.len]; exact Nat.le_refl _)]
          rw [ea, eb]
        rw [e9] at o9
        have O9 := Lib.hid o9
        have T9 := Lib.hid t9
        have y0 := (t9.cell u0'' (by show ¬ q = q + 1; omega))
        have y1 := (t9.cell u1'' (by show ¬ q = q + 1; omega))
        have c9' : w9.cell? ⟨b, 2, none⟩ = some (.slice A k c) := T9.out.cell ((K8.out.cell (p := ⟨b, 2, none⟩) (Nat.lt_of_lt_of_le HB.out.1 HI.out.keep.size)).trans HC2.out) (by show ¬ b = q + 1; omega)
        have f9 : w9.frozen? ⟨b, 2, none⟩ = false := by
          have e := (T9.out.block b (Nat.lt_of_lt_of_le HB.out.1 (HI.out.keep.trans K8.out).size) (by omega)).trans (((HI.out.keep.trans K8.out).block b HB.out.1).trans H.out.block)
          simp [World.frozen?, e]
        clear o9 t9 e9
        refine hK.out _ _ ⟨y0, y1⟩ (fun hHeld => ?_)
        clear hK K
        try simp only [Act.put, List.getElem_toArray, List.getElem_cons_succ, List.getElem_cons_zero, List.setIfInBounds_toArray, List.set_cons_zero, List.set_cons_succ]
        refine wpAnyH_take (i := 8) (v := ?_) rfl (by kernel_rfl) (by kernel_rfl) (by kernel_rfl) (fun _ _ _ h => h) (Or.inl ⟨by rfl, ?_⟩) hHeld ?_
        rotate_left
        · intro wq hSw
          go_simp
          all_goals with_reducible rfl
        try simp only [Act.put, List.getElem_toArray, List.getElem_cons_succ, List.getElem_cons_zero, List.setIfInBounds_toArray, List.set_cons_zero, List.set_cons_succ]
        refine wpAnyH_take (i := 9) (v := ?_) rfl (by kernel_rfl) (by kernel_rfl) (by kernel_rfl) (fun _ _ _ h => h) (Or.inl ⟨by rfl, ?_⟩) hHeld ?_
        rotate_left
        · intro wq hSw
          go_simp
          all_goals with_reducible rfl
        try simp only [Act.put, List.getElem_toArray, List.getElem_cons_succ, List.getElem_cons_zero, List.setIfInBounds_toArray, List.set_cons_zero, List.set_cons_succ]
        refine wpAnyH_ready (rs := [10]) (by kernel_rfl) (by simp) ?_
        refine AllReadyH.cons rfl (fun K hK => ?_) AllReadyH.nil
        go_simp
        have y0b : (w9.setCell ⟨b, 2, none⟩ (.slice A9 (k + 1) c9)).cell? ⟨q, 0, none⟩ = some (.slice A1 n1 c1) := by rw [World.cell?_setCell_far _ _ _ _ (by show b ≠ q; omega)]; exact y0
        have y1b : (w9.setCell ⟨b, 2, none⟩ (.slice A9 (k + 1) c9)).cell? ⟨q, 1, none⟩ = some (.slice A2 n2 c2) := by rw [World.cell?_setCell_far _ _ _ _ (by show b ≠ q; omega)]; exact y1
        refine hK.out _ _ ⟨y0b, y1b⟩ (fun hHeld => ?_)
        clear hK K
        try simp only [Act.put, List.getElem_toArray, List.getElem_cons_succ, List.getElem_cons_zero, List.setIfInBounds_toArray, List.set_cons_zero, List.set_cons_succ]
        refine wpAnyH_done (by kernel_rfl) ?_ _
        refine NoPanic.normal ?_
        clear hHeld y0 y1 y0b y1b c9' f9
        go_wp2_with fail
        go_end0
        have KT : Keep w w9 := T9.out.keep (HI.out.keep.trans K8.out) (fun i e => by rw [e, HQ.out]; omega)
        have hm : ∀ p ∈ qs, (LiesIn w9 (fun b => F b ∨ (w.heap.size ≤ b ∧ b < w9.heap.size)) p.a ∧ LiesIn w9 (fun b => F b ∨ (w.heap.size ≤ b ∧ b < w9.heap.size)) p.b) ∧ p.a.n = n1 ∧ p.b.n = n2 := fun p hp => by
          obtain ⟨⟨a, d⟩, z⟩ := (HI.out.later K8.out).lies p hp
          have hd : ∀ b, (F b ∨ (q + 2 ≤ b ∧ b < w8.heap.size)) → ¬ b = q + 1 := fun b hb => by
            rcases hb with e | e
            · have := HF.out b e; omega
            · omega
          have hm : ∀ b, (F b ∨ (q + 2 ≤ b ∧ b < w8.heap.size)) → (F b ∨ (w.heap.size ≤ b ∧ b < w9.heap.size)) := fun b hb => hb.imp id fun e => ⟨by rw [HQ.out]; omega, Nat.lt_of_lt_of_le e.2 T9.out.size⟩
          exact ⟨⟨(a.turned T9.out hd).mono hm, (d.turned T9.out hd).mono hm⟩, z⟩
        have hx := HI.out.xs
        rw [List.take_of_length_le (l := ps) (by rw [H.out.st.1]; exact Nat.le_refl _)] at hx
        exact ⟨i, A9, c9, qs, w9, rfl, HI2.out.1, HI2.out.2.1, HI2.out.2.2, hx, hm, by rw [HQ.out]; exact O9.out, KT, rfl⟩
      · go_simp
        obtain ⟨q2, hq2⟩ : ∃ q2, wr.heap.size = q2 := ⟨_, rfl⟩
        have K8 : Hid (Keep wr ((wr.alloc (.cells #[.slice A1 n1 c1, .slice A2 n2 c2] 45)).drew)) := ((Keep.refl wr).alloc _ _).drew
        have V8 : Hid (StB ((wr.alloc (.cells #[.slice A1 n1 c1, .slice A2 n2 c2] 45)).drew) q2 [⟨⟨A1, n1, c1, x1⟩, ⟨A2, n2, c2, x2⟩⟩]) := by
          show StB _ _ _
          rw [← hq2]; exact heap_alloc_new _ _
        have HQ2 : Hid (q2 ≠ q + 1) := by
          show q2 ≠ q + 1
          have h1 := (Keep.refl wr).size
          have h2 := HQL.out.2
          omega
        simp only [hq2]
        clear hq2
        generalize ((wr.alloc (.cells #[.slice A1 n1 c1, .slice A2 n2 c2] 45)).drew) = w8 at *
        have u0'' := (K8.out.cell (p := ⟨q, 0, none⟩) HQL.out.1).trans u0
        have u1'' := (K8.out.cell (p := ⟨q, 1, none⟩) HQL.out.1).trans u1
        refine hK.out _ _ ⟨u0'', u1''⟩ (fun hHeld => ?_)
        clear hK K
        try simp only [Act.put, List.getElem_toArray, List.getElem_cons_succ, List.getElem_cons_zero, List.setIfInBounds_toArray, List.set_cons_zero, List.set_cons_succ]
        refine wpAnyH_ready (rs := [4]) (by kernel_rfl) (by simp) ?_
        refine AllReadyH.cons rfl (fun K hK => ?_) AllReadyH.nil
        go_simp
        refine (bplace_any (H.out.keep (HI.out.keep.trans K8.out)) L hL).mono ?_
        rintro e w7 ⟨i, rfl, hi1, hi2, hi3, k7⟩
        have K7 : Hid (Keep wr w7) := (K8.out).trans k7
        have u0' := (K7.out.cell (p := ⟨q, 0, none⟩) HQL.out.1).trans u0
        have u1' := (K7.out.cell (p := ⟨q, 1, none⟩) HQL.out.1).trans u1
        have HI2 := Lib.hid (And.intro hi1 (And.intro hi2 hi3))
        have V7 := Lib.hid (V8.out.keep k7)
        clear u0'' u1''
        have u0'' := u0'
        have u1'' := u1'
        refine hK.out _ _ ⟨u0', u1'⟩ (fun hHeld => ?_)
        clear hK K
        try simp only [Act.put, List.getElem_toArray, List.getElem_cons_succ, List.getElem_cons_zero, List.setIfInBounds_toArray, List.set_cons_zero, List.set_cons_succ]
        refine wpAnyH_ready (rs := [7]) (by kernel_rfl) (by simp) ?_
        refine AllReadyH.cons rfl (fun K hK => ?_) AllReadyH.nil
        go_simp
        refine (binsert_rows (q + 1) k i q2 q (qs ++ List.replicate (k + 1 - k) PairV.zero) ⟨⟨A1, n1, c1, x1⟩, ⟨A2, n2, c2, x2⟩⟩ _ (HI.out.st.keep K7.out) (by rw [List.length_append, List.length_replicate, HI.out.len]; omega) (by omega) V7.out HQ2.out HI2.out.1 hn).mono ?_
        rintro e w9 ⟨A9, c9, rfl, o9, t9⟩
        have e9 : (qs ++ List.replicate (k + 1 - k) PairV.zero).take i ++ [⟨⟨A1, n1, c1, x1⟩, ⟨A2, n2, c2, x2⟩⟩] ++ ((qs ++ List.replicate (k + 1 - k) PairV.zero).take k).drop i = qs.take i ++ [⟨⟨A1, n1, c1, x1⟩, ⟨A2, n2, c2, x2⟩⟩] ++ qs.drop i := by
          have ea : (qs ++ List.replicate (k + 1 - k) PairV.zero).take i = qs.take i := List.take_append_of_le_length (by rw [HI.out.len]; exact HI2.out.1)
          have eb : (qs ++ List.replicate (k + 1 - k) PairV.zero).take k = qs := by rw [List.take_append_of_le_length (by rw [HI.out.len]; exact Nat.le_refl _), List.take_of_length_le (by rw [HI.out.len]; exact Nat.le_refl _)]
          rw [ea, eb]
        rw [e9] at o9
        have O9 := Lib.hid o9
        have T9 := Lib.hid t9
        have y0 := (t9.cell u0'' (by show ¬ q = q + 1; omega))
        have y1 := (t9.cell u1'' (by show ¬ q = q + 1; omega))
        have c9' : w9.cell? ⟨b, 2, none⟩ = some (.slice A k c) := T9.out.cell ((K7.out.cell (p := ⟨b, 2, none⟩) (Nat.lt_of_lt_of_le HB.out.1 HI.out.keep.size)).trans HC2.out) (by show ¬ b = q + 1; omega)
        have f9 : w9.frozen? ⟨b, 2, none⟩ = false := by
          have e := (T9.out.block b (Nat.lt_of_lt_of_le HB.out.1 (HI.out.keep.trans K7.out).size) (by omega)).trans (((HI.out.keep.trans K7.out).block b HB.out.1).trans H.out.block)
          simp [World.frozen?, e]
        clear o9 t9 e9
        refine hK.out _ _ ⟨y0, y1⟩ (fun hHeld => ?_)
        clear hK K
        try simp only [Act.put, List.getElem_toArray, List.getElem_cons_succ, List.getElem_cons_zero, List.setIfInBounds_toArray, List.set_cons_zero, List.set_cons_succ]
        refine wpAnyH_take (i := 8) (v := ?_) rfl (by kernel_rfl) (by kernel_rfl) (by kernel_rfl) (fun _ _ _ h => h) (Or.inl ⟨by rfl, ?_⟩) hHeld ?_
        rotate_left
        · intro wq hSw
          go_simp
          all_goals with_reducible rfl
        try simp only [Act.put, List.getElem_toArray, List.getElem_cons_succ, List.getElem_cons_zero, List.setIfInBounds_toArray, List.set_cons_zero, List.set_cons_succ]
        refine wpAnyH_take (i := 9) (v := ?_) rfl (by kernel_rfl) (by kernel_rfl) (by kernel_rfl) (fun _ _ _ h => h) (Or.inl ⟨by rfl, ?_⟩) hHeld ?_
        rotate_left
        · intro wq hSw
          go_simp
          all_goals with_reducible rfl
        try simp only [Act.put, List.getElem_toArray, List.getElem_cons_succ, List.getElem_cons_zero, List.setIfInBounds_toArray, List.set_cons_zero, List.set_cons_succ]
        refine wpAnyH_ready (rs := [10]) (by kernel_rfl) (by simp) ?_
        refine AllReadyH.cons rfl (fun K hK => ?_) AllReadyH.nil
        go_simp
        have y0b : (w9.setCell ⟨b, 2, none⟩ (.slice A9 (k + 1) c9)).cell? ⟨q, 0, none⟩ = some (.slice A1 n1 c1) := by rw [World.cell?_setCell_far _ _ _ _ (by show b ≠ q; omega)]; exact y0
        have y1b : (w9.setCell ⟨b, 2, none⟩ (.slice A9 (k + 1) c9)).cell? ⟨q, 1, none⟩ = some (.slice A2 n2 c2) := by rw [World.cell?_setCell_far _ _ _ _ (by show b ≠ q; omega)]; exact y1
        refine hK.out _ _ ⟨y0b, y1b⟩ (fun hHeld => ?_)
        clear hK K
        try simp only [Act.put, List.getElem_toArray, List.getElem_cons_succ, List.getElem_cons_zero, List.setIfInBounds_toArray, List.set_cons_zero, List.set_cons_succ]
        refine wpAnyH_done (by kernel_rfl) ?_ _
        refine NoPanic.normal ?_
        clear hHeld y0 y1 y0b y1b c9' f9
        go_wp2_with fail
        go_end0
        have KT : Keep w w9 := T9.out.keep (HI.out.keep.trans K7.out) (fun i e => by rw [e, HQ.out]; omega)
        have hm : ∀ p ∈ qs, (LiesIn w9 (fun b => F b ∨ (w.heap.size ≤ b ∧ b < w9.heap.size)) p.a ∧ LiesIn w9 (fun b => F b ∨ (w.heap.size ≤ b ∧ b < w9.heap.size)) p.b) ∧ p.a.n = n1 ∧ p.b.n = n2 := fun p hp => by
          obtain ⟨⟨a, d⟩, z⟩ := (HI.out.later K7.out).lies p hp
          have hd : ∀ b, (F b ∨ (q + 2 ≤ b ∧ b < w7.heap.size)) → ¬ b = q + 1 := fun b hb => by
            rcases hb with e | e
            · have := HF.out b e; omega
            · omega
          have hm : ∀ b, (F b ∨ (q + 2 ≤ b ∧ b < w7.heap.size)) → (F b ∨ (w.heap.size ≤ b ∧ b < w9.heap.size)) := fun b hb => hb.imp id fun e => ⟨by rw [HQ.out]; omega, Nat.lt_of_lt_of_le e.2 T9.out.size⟩
          exact ⟨⟨(a.turned T9.out hd).mono hm, (d.turned T9.out hd).mono hm⟩, z⟩
        have hx := HI.out.xs
        rw [List.take_of_length_le (l := ps) (by rw [H.out.st.1]; exact Nat.le_refl _)] at hx
        exact ⟨i, A9, c9, qs, w9, rfl, HI2.out.1, HI2.out.2.1, HI2.out.2.2, hx, hm, by rw [HQ.out]; exact O9.out, KT, rfl⟩
end Go.Proofs.YtgelalbmhllccaaGreat
/- The landed code of layer 7: a row put in. -/
namespace Go.Proofs.YtgelalbmhllccaaGreat
open Go.RowKit Lin
set_option linter.unusedVariables false
set_option linter.unusedSimpArgs false
theorem clr_xs {g s L : Nat} {rx ry : List Nat} {p : PairV} (hL : L < g) (h1 : p.a.xs.length = g) (h2 : p.b.xs.length = s) (h3 : rx.length = g) :
    (clr g s L rx ry p).1 ++ (clr g s L rx ry p).2 = vAddS (g + s) p.xs (rx ++ ry) (p.xs.getD L 0) := by
  have e : p.xs.getD L 0 = p.a.xs.getD L 0 := by rw [PairV.xs, List.getD_eq_getElem?_getD, List.getElem?_append_left (by omega), ← List.getD_eq_getElem?_getD]
  have t := vAddS_take g s p.xs (rx ++ ry) (p.a.xs.getD L 0)
  have d := vAddS_drop g s p.xs (rx ++ ry) (p.a.xs.getD L 0)
  rw [PairV.xs, List.take_left' h1, List.take_left' h3] at t
  rw [PairV.xs, List.drop_left' h1, List.drop_left' h3] at d
  rw [e, ← List.take_append_drop g (vAddS (g + s) p.xs (rx ++ ry) (p.a.xs.getD L 0)), PairV.xs, t, d]; rfl
theorem pair_ne_b {w : World} {F : Nat → Prop} {b : Nat} {x : RowV} {i j : Int} {v : Value} {t : TypeId} (h : LiesIn w F x) (hb : w.heap[b]? = some (.cells #[.int .i64 i, .int .i64 j, v] t (0, 0))) (hv : ∀ k : Int, v ≠ .int .u8 k) : LiesIn w (fun k => F k ∧ k ≠ b) x := by
  refine ⟨h.1, h.2.1, h.2.2.1, fun hp => ?_⟩
  obtain ⟨b', off, e, hF, hc⟩ := h.2.2.2 hp
  refine ⟨b', off, e, ⟨hF, fun e2 => ?_⟩, hc⟩
  subst e2
  have h0 := hc 0 hp
  rw [World.cell?, hb] at h0
  simp only at h0
  match off, h0 with
  | 0, h0 => simp at h0
  | 1, h0 => simp at h0
  | 2, h0 => simp at h0; exact hv _ h0
  | k + 3, h0 => simp at h0
section
variable {w w6 : World} {F R : Nat → Prop} {b g s n c : Nat} {B : List (List Nat)} {A : Option Addr} {ps qs : List PairV}
/-- What was laid is a basis again. -/
theorem laid_basis (h : BasA w F b g s B A n c ps) (hw : Keep w w6) {r : PairV} {xs ys : List Nat} {L i c' : Nat} {A' : Option Addr} (hx : xs.length = g) (hy : ys.length = s) (hxa : AllB xs) (hya : AllB ys)
    (hL : vLead g (leftB (g + s) B (xs ++ ys)) = (L : Int)) (hLg : L < g)
    (ha : r.a.xs = vScale g ((leftB (g + s) B (xs ++ ys)).take g) (invN ((leftB (g + s) B (xs ++ ys)).getD L 0))) (hbx : r.b.xs = vScale s ((leftB (g + s) B (xs ++ ys)).drop g) (invN ((leftB (g + s) B (xs ++ ys)).getD L 0)))
    (hr : LiesIn w6 R r.a ∧ LiesIn w6 R r.b ∧ r.a.n = g ∧ r.b.n = s) (hi : i ≤ n) (hlo : ∀ k, k < i → ∃ j, j < L ∧ (B.getD k []).getD j 0 ≠ 0) (hhi : i < n → ∀ j, j < L → (B.getD i []).getD j 0 = 0)
    (hqx : qs.map (fun p => (p.a.xs, p.b.xs)) = ps.map (clr g s L r.a.xs r.b.xs)) (hql : ∀ p ∈ qs, (LiesIn w6 (fun b => F b ∨ (w.heap.size ≤ b ∧ b < w6.heap.size)) p.a ∧ LiesIn w6 (fun b => F b ∨ (w.heap.size ≤ b ∧ b < w6.heap.size)) p.b) ∧ p.a.n = g ∧ p.b.n = s)
    (ho : OwnSt w6 w.heap.size A' (n + 1) c' (qs.take i ++ [r] ++ qs.drop i)) (hR : ∀ k, R k → w.heap.size ≤ k ∧ k < w6.heap.size) (hF : ∀ k, F k → k < w.heap.size) :
    BasR (w6.setCell ⟨b, 2, none⟩ (.slice A' (n + 1) c')) (fun k => F k ∨ (w.heap.size ≤ k ∧ k < w6.heap.size)) b g s (insB g s B (xs ++ ys)) := by
  have hlen : (xs ++ ys).length = g + s := by rw [List.length_append, hx, hy]
  have hall := hxa.append hya
  have hb6 : w6.heap[b]? = some (.cells #[.int .i64 (g : Int), .int .i64 (s : Int), .slice A n c] 139 (0, 0)) := (hw.block b (h.lt b h.at_)).trans h.block
  have hbl : b < w.heap.size := h.lt b h.at_
  have T : Turned (fun k => k = b) w6 (w6.setCell ⟨b, 2, none⟩ (.slice A' (n + 1) c')) := Turned.set (F := fun k => k = b) w6 ⟨b, 2, none⟩ _ rfl
  have hsz : (w6.setCell ⟨b, 2, none⟩ (.slice A' (n + 1) c')).heap.size = w6.heap.size := by simp [World.setCell]
  have hfar : ∀ x : RowV, LiesIn w6 (fun b => F b ∨ (w.heap.size ≤ b ∧ b < w6.heap.size)) x → LiesIn (w6.setCell ⟨b, 2, none⟩ (.slice A' (n + 1) c')) (fun b => F b ∨ (w.heap.size ≤ b ∧ b < w6.heap.size)) x := fun x hx =>
    ((pair_ne_b hx hb6 (fun k => by simp)).turned T (fun k hk => hk.2)).mono fun k hk => hk.1
  have hmem : ∀ p ∈ qs.take i ++ [r] ++ qs.drop i, (LiesIn w6 (fun b => F b ∨ (w.heap.size ≤ b ∧ b < w6.heap.size)) p.a ∧ LiesIn w6 (fun b => F b ∨ (w.heap.size ≤ b ∧ b < w6.heap.size)) p.b) ∧ p.a.n = g ∧ p.b.n = s := fun p hp => by
    rcases List.mem_append.1 hp with hp | hp
    · rcases List.mem_append.1 hp with hp | hp
      · exact hql p (List.mem_of_mem_take hp)
      · rw [List.mem_singleton.1 hp]
        exact ⟨⟨hr.1.mono fun k hk => Or.inr (hR k hk), hr.2.1.mono fun k hk => Or.inr (hR k hk)⟩, hr.2.2⟩
    · exact hql p (List.mem_of_mem_drop hp)
  have hrx : r.a.xs ++ r.b.xs = vScale (g + s) (leftB (g + s) B (xs ++ ys)) (invN ((leftB (g + s) B (xs ++ ys)).getD L 0)) := by
    rw [ha, hbx, ← vScale_take, ← vScale_drop, List.take_append_drop]
  have hral : r.a.xs.length = g := by rw [ha]; exact tab_length _ _
  have hq : qs.map PairV.xs = clearedL (g + s) B (r.a.xs ++ r.b.xs) L := by
    have e1 : qs.map PairV.xs = (qs.map (fun p => (p.a.xs, p.b.xs))).map (fun z => z.1 ++ z.2) := by rw [List.map_map]; rfl
    rw [e1, hqx, List.map_map, clearedL, ← h.xs, List.map_map]
    refine List.map_congr_left fun p hp => ?_
    obtain ⟨l1, l2⟩ := h.lens hp
    exact clr_xs hLg l1 l2 hral
  refine ⟨⟨insB_bas h.bas hlen hall, h.g1, h.g2, h.s1, h.s2, fun k hk => ?_⟩, Or.inl h.at_, A', n + 1, c', qs.take i ++ [r] ++ qs.drop i, ?_, ?_, fun p hp => (hmem p hp).2, ?_⟩
  · rw [hsz]
    rcases hk with e | e
    · exact Nat.lt_of_lt_of_le (hF k e) hw.size
    · exact e.2
  · have e := heap_setCell_same w6 b 2 _ _ (.slice A' (n + 1) c') hb6
    exact e
  · have o := OwnSt.turned ho T (fun k hk => by
      intro e
      have h2 := ho.1
      rcases ho.2 with ⟨hv, h0⟩ | ⟨g', cap, cur, hv, hg, _⟩
      · rw [hv] at hk; cases hk
      · rw [hv] at hk
        have : g' = k := by simpa [Value.ownBlock] using hk
        omega)
    refine o.stIn (fun p hp => ⟨hfar _ (hmem p hp).1.1, hfar _ (hmem p hp).1.2⟩) fun k hk => Or.inr ?_
    have := World.ownsRow.lt o k hk
    rw [hsz] at this
    exact this
  · rw [insB_at h.bas hlen hall hL (by rw [h.len]; exact hi) hlo (by rw [h.len]; exact hhi), List.map_append, List.map_append, List.map_take, List.map_drop, hq, ← hrx]; rfl
end
end Go.Proofs.YtgelalbmhllccaaGreat
/- The landed code of layer 7: Insert. -/
namespace Go.Proofs.YtgelalbmhllccaaGreat
open Go.RowKit Lin
set_option linter.unusedVariables false
set_option linter.unusedSimpArgs false
section
variable {w : World} {F : Nat → Prop} {b g s : Nat} {B : List (List Nat)}
set_option maxRecDepth 100000 in
set_option maxHeartbeats 4000000 in
theorem binsert_in (h : BasR w F b g s B) (B1 B2 c1 c2 : Nat) (A1 A2 : Option Addr) (xs ys : List Nat) (hc1 : g ≤ c1) (hc2 : s ≤ c2) (h1 : Bytes w B1 A1 g xs) (h2 : Bytes w B2 A2 s ys) (hB1 : B1 ≤ w.heap.size) (hB2 : B2 ≤ w.heap.size) :
    Calls Tryz.prog 42 #[.pointer (some ⟨b, 0, none⟩), .agg #[.slice A1 g c1, .slice A2 s c2]] w fun e w' => e = .returned (.tuple #[.bool (!decide (inB g s B (xs ++ ys))), .int .i64 0]) ∧ ∃ F', BasR w' F' b g s (insB g s B (xs ++ ys)) ∧ (∀ k, F' k → F k ∨ w.heap.size ≤ k) ∧ Turned F w w' := by
  obtain ⟨A, n, c, ps, h⟩ := h.open_
  obtain ⟨⟨q, hq⟩⟩ : Nonempty (∃ q, w.heap.size = q) := ⟨_, rfl⟩
  have hb := h.lt b h.at_
  have hg := h.g1
  have K0 : Hid (Keep w (w.alloc (.cells #[.slice A1 g c1, .slice A2 s c2] 45))) := (Keep.refl w).alloc _ _
  have HW : Hid ((w.alloc (.cells #[.slice A1 g c1, .slice A2 s c2] 45)).heap[q]? = some (.cells #[.slice A1 g c1, .slice A2 s c2] 45 (0, 0))) := by
    show _ = _
    rw [← hq]; exact heap_alloc_new _ _
  have H := Lib.hid h
  have HX := Lib.hid (And.intro (h1.mono hB1) (h2.mono hB2))
  have HQ := Lib.hid hq
  have HG := Lib.hid (And.intro hb (And.intro h.g2 h.s2))
  have hlen : xs.length = g := h1.length
  have hlen2 : ys.length = s := h2.length
  have HIN := Lib.hid (h.left hlen hlen2 h1.all h2.all)
  have HIB : Hid (inB g s B (xs ++ ys) ↔ vLead g (plusN g xs (ps.map fun p => p.a.xs) (byOf g xs ps) n) < 0) := h.inB_iff hlen hlen2 h1.all h2.all
  have HLL := Lib.hid (And.intro hlen (And.intro hlen2 (And.intro h1.all h2.all)))
  have b0 : ((g : Int) != (g : Int)) = false := by simp
  have b1 : ((s : Int) != (s : Int)) = false := by simp
  clear h h1 h2 hb hlen hlen2
  go_enter Tryz.func42, Tryz.ntmps42
  go_upto_region 1 with fail
  try simp only [hq]
  clear hq
  generalize (w.alloc (.cells #[.slice A1 g c1, .slice A2 s c2] 45)) = w1 at *
  have d0 := (H.out.keep K0.out).c0
  have d1 := (H.out.keep K0.out).c1
  have u0 : w1.cell? ⟨q, 0, none⟩ = some (.slice A1 g c1) := cell_of_row _ _ _ _ _ _ HW.out
  have u1 : w1.cell? ⟨q, 1, none⟩ = some (.slice A2 s c2) := cell_of_row _ _ _ _ _ _ HW.out
  go_wp2_with fail
  refine (bmade_eq b g _ d0 hg).mono ?_
  rintro e w' ⟨rfl, rfl⟩
  go_wp2_with fail
  go_region
  go_wp2_with fail
  have K1 := Lib.hid K0.out.drew
  clear d0 d1 u0 u1
  refine (breducer_bas (H.out.keep K1.out) c1 A1 xs ⟨A2, s, c2, ys⟩ ((HX.out.1.keep (Nat.le_refl _) K1.out).mono K1.out.size)).mono ?_
  rintro e w2 ⟨v1, v2, v3, AD, cD, rfl, hC⟩
  have HC := Lib.hid hC
  have K2 := Lib.hid (K1.out.trans hC.keep)
  clear hC
  go_wp2_with fail
  refine (bleft_a (H.out.keep K2.out) HC.out ((HX.out.1.keep (Nat.le_refl _) K2.out).mono K2.out.size) rfl hc1).mono ?_
  rintro e w3 ⟨A3, c3, rfl, o3, k3⟩
  have O3 : Hid (Own w3 w2.heap.size 5 A3 g c3 (plusN g xs (ps.map fun p => p.a.xs) (byOf g xs ps) n)) := o3
  have K3 := Lib.hid (K2.out.trans k3)
  have HC3 := Lib.hid (HC.out.later k3)
  clear o3 k3
  go_wp2_with fail
  refine (vlead_eq _ g c3 A3 _ _ O3.out.bytes (by have := HG.out; omega)).mono ?_
  obtain ⟨x3, hx3⟩ : ∃ x3, plusN g xs (ps.map fun p => p.a.xs) (byOf g xs ps) n = x3 := ⟨_, rfl⟩
  rw [hx3] at O3 HIB HIN ⊢
  clear hx3
  by_cases hneg : vLead g x3 < 0
  · have HN := Lib.hid hneg
    obtain ⟨vl, hvl⟩ : ∃ vl, vLead g x3 = vl := ⟨_, rfl⟩
    rw [hvl] at hneg
    have e1 : decide (vl < 0) = true := decide_eq_true hneg
    rw [hvl]
    rintro e w4 ⟨rfl, rfl⟩
    clear hvl hneg
    go_wp2_with fail
    go_ret2
    have hin : inB g s B (xs ++ ys) := HIB.out.2 HN.out
    exact ⟨by rw [decide_eq_true hin]; rfl, F, by rw [insB_in hin]; exact (H.out.keep K3.out).r, fun k hk => Or.inl hk, Turned.of_keep K3.out⟩
  · obtain ⟨L, hL1, hL2⟩ := vLead_some hneg
    obtain ⟨hLg, hL0, _⟩ := (vLeadTo_some _ g L).1 hL1
    have HN := Lib.hid (And.intro hneg hL2)
    rw [hL2]
    rintro e w4 ⟨rfl, rfl⟩
    obtain ⟨g3, rfl, hg3, hg3l⟩ := O3.out.block (by omega)
    have cx := O3.out.cell hLg
    obtain ⟨cl, hcl⟩ : ∃ cl, x3.getD L 0 = cl := ⟨_, rfl⟩
    have hclb : cl < 256 := by rw [← hcl]; exact O3.out.2.getD L
    rw [hcl] at cx hL0
    have HCL := Lib.hid (And.intro hcl (And.intro hclb hL0))
    have e1 : decide ((L : Int) < 0) = false := decide_eq_false (by omega)
    have e2 : (0 : Int) ≤ (L : Int) := Int.natCast_nonneg _
    have e3 : (L : Int) < (g : Int) := by omega
    clear hneg hL1 hL2 hcl hclb hL0 hg3 hg3l
    go_wp2_with fail
    refine (inv_pos cl HCL.out.2.1 (by have := HCL.out.2.2; omega) _).mono ?_
    rintro e w5 ⟨rfl, k5⟩
    have K5 := Lib.hid (K3.out.trans k5)
    have O5 := Lib.hid (O3.out.keep k5)
    have HC5 := Lib.hid (HC3.out.later k5)
    clear k5 cx
    go_wp2_with fail
    refine (vscale_any _ g c3 (invN cl) _ x3 _ O5.out.bytes (Nat.le_refl _) (by have := HG.out; omega) (invN_lt _)).mono ?_
    rintro e w6 ⟨A6, n6, c6, rfl, o6, k6⟩
    obtain rfl : n6 = g := by rw [← o6.length]; exact tab_length _ _
    have K6 := Lib.hid (K5.out.trans k6)
    have O6 := Lib.hid o6
    have HC6 := Lib.hid (HC5.out.later k6)
    have S5 := Lib.hid K5.out.size
    clear o6 k6
    go_wp2_with fail
    refine (bleft_b (H.out.keep K6.out) HC6.out ((HX.out.2.keep (Nat.le_refl _) K6.out).mono K6.out.size) rfl hc2).mono ?_
    rintro e w7 ⟨A7, c7, rfl, o7, k7⟩
    have O7 : Hid (Own w7 w6.heap.size 5 A7 s c7 (plusN s ys (ps.map fun p => p.b.xs) (byOf n6 xs ps) n)) := o7
    have K7 := Lib.hid (K6.out.trans k7)
    have O67 := Lib.hid (O6.out.keep k7)
    clear o7 k7
    go_wp2_with fail
    refine (vscale_any _ s c7 (invN cl) _ _ _ O7.out.bytes (Nat.le_refl _) (by have := HG.out; omega) (invN_lt _)).mono ?_
    rintro e w8 ⟨A8, n8, c8, rfl, o8, k8⟩
    obtain rfl : n8 = s := by rw [← o8.length]; exact tab_length _ _
    have K8 := Lib.hid (K7.out.trans k8)
    have O8 := Lib.hid o8
    have O68 := Lib.hid (O67.out.keep k8)
    have S7 := Lib.hid K7.out.size
    clear o8 k8
    go_wp2_with fail
    obtain ⟨x8, hx8⟩ : ∃ x8, plusN n8 ys (ps.map fun p => p.b.xs) (byOf n6 xs ps) n = x8 := ⟨_, rfl⟩
    rw [hx8] at O8 HIN
    have L6 : LiesIn w8 (fun k => w.heap.size ≤ k ∧ k < w8.heap.size) ⟨A6, n6, c6, vScale n6 x3 (invN cl)⟩ := by
      refine LiesIn.mono (Own.lies O68.out) fun k hk => ?_
      have h1 := O68.out.1.lt k hk
      have h2 := S5.out
      exact ⟨by omega, h1.2⟩
    have L8 : LiesIn w8 (fun k => w.heap.size ≤ k ∧ k < w8.heap.size) ⟨A8, n8, c8, vScale n8 x8 (invN cl)⟩ := by
      refine LiesIn.mono (Own.lies O8.out) fun k hk => ?_
      have h1 := O8.out.1.lt k hk
      have h2 := S7.out
      exact ⟨by omega, h1.2⟩
    have HL6 := Lib.hid L6
    have HL8 := Lib.hid L8
    clear hx8 L6 L8
    refine (blay_any (H.out.keep K8.out) ⟨⟨A6, n6, c6, vScale n6 x3 (invN cl)⟩, ⟨A8, n8, c8, vScale n8 x8 (invN cl)⟩⟩ L hLg ⟨HL6.out, HL8.out, rfl, rfl⟩ (fun k hk => hk.2)).mono ?_
    rintro e w9 ⟨i, A9, c9, qs, w10, rfl, hi, hlo, hhi, hqx, hql, ho, hk, rfl⟩
    have hnin : ¬ inB n6 n8 B (xs ++ ys) := fun hin => by have h1 := HN.out.1; have h2 := HIB.out.1 hin; omega
    have hld : vLead n6 (leftB (n6 + n8) B (xs ++ ys)) = (L : Int) := by
      have e := HN.out.2
      rw [HIN.out.1, vLead_take] at e; exact e
    have hcl : (leftB (n6 + n8) B (xs ++ ys)).getD L 0 = cl := by
      have e := HCL.out.1
      rw [HIN.out.1, getD_take hLg] at e; exact e
    have KK : Keep w w10 := K8.out.trans hk
    have hS : w.heap.size ≤ w8.heap.size := K8.out.size
    have L6 : LiesIn w10 (fun k => w.heap.size ≤ k ∧ k < w10.heap.size) ⟨A6, n6, c6, vScale n6 x3 (invN cl)⟩ := (HL6.out.turned (Turned.of_keep (F := fun _ => False) hk) fun _ _ e => e).mono fun k hk2 => ⟨hk2.1, Nat.lt_of_lt_of_le hk2.2 hk.size⟩
    have L8 : LiesIn w10 (fun k => w.heap.size ≤ k ∧ k < w10.heap.size) ⟨A8, n8, c8, vScale n8 x8 (invN cl)⟩ := (HL8.out.turned (Turned.of_keep (F := fun _ => False) hk) fun _ _ e => e).mono fun k hk2 => ⟨hk2.1, Nat.lt_of_lt_of_le hk2.2 hk.size⟩
    have FIN := Lib.hid (laid_basis (R := fun k => w.heap.size ≤ k ∧ k < w10.heap.size) (w6 := w10) (r := ⟨⟨A6, n6, c6, vScale n6 x3 (invN cl)⟩, ⟨A8, n8, c8, vScale n8 x8 (invN cl)⟩⟩) (A' := A9) (c' := c9) (i := i) (qs := qs) H.out KK HLL.out.1 HLL.out.2.1 HLL.out.2.2.1 HLL.out.2.2.2 hld hLg (by rw [hcl, ← HIN.out.1]) (by rw [hcl, ← HIN.out.2])
      ⟨L6, L8, rfl, rfl⟩ hi hlo hhi hqx
      (fun p hp => ⟨⟨(hql p hp).1.1.mono fun k hk2 => hk2.imp id fun e => ⟨Nat.le_trans hS e.1, e.2⟩, (hql p hp).1.2.mono fun k hk2 => hk2.imp id fun e => ⟨Nat.le_trans hS e.1, e.2⟩⟩, (hql p hp).2⟩) (ho.lower hS) (fun k hk2 => hk2) (fun k hk2 => H.out.lt k hk2))
    clear L6 L8
    have HKK := Lib.hid KK
    have HNI := Lib.hid hnin
    clear ho hk hqx hql hlo hhi hld hcl KK hnin hS
    go_wp2_with fail
    go_ret2
    refine ⟨by rw [decide_eq_false HNI.out]; rfl, _, FIN.out, fun k hk => hk.imp id fun e => e.1, (Turned.of_keep HKK.out).trans (Turned.set (F := F) w10 ⟨b, 2, none⟩ _ H.out.at_) fun _ e => Or.inl e⟩
end
end Go.Proofs.YtgelalbmhllccaaGreat
/- The landed code of layer 7: the rows told. -/
namespace Go.Proofs.YtgelalbmhllccaaGreat
open Go.RowKit Lin
set_option linter.unusedVariables false
set_option linter.unusedSimpArgs false
/-- Rows told: new memory, each of them a slice of its own. -/
def OwnedSt (w w' : World) (A : Option Addr) (n c g s : Nat) (B : List (List Nat)) (ps : List PairV) : Prop :=
  OwnSt w' w.heap.size A n c ps ∧ (∀ p ∈ ps, Own w' w.heap.size 5 p.a.A p.a.n p.a.c p.a.xs ∧ Own w' w.heap.size 5 p.b.A p.b.n p.b.c p.b.xs ∧ p.a.n = g ∧ p.b.n = s) ∧ ps.map PairV.xs = B ∧ Keep w w'
theorem OwnedSt.stIn {w w' : World} {A : Option Addr} {n c g s : Nat} {B : List (List Nat)} {ps : List PairV} (h : OwnedSt w w' A n c g s B ps) : StIn w' (fun b => w.heap.size ≤ b ∧ b < w'.heap.size) A n ps :=
  h.1.stIn (fun p hp => ⟨(h.2.1 p hp).1.lies.mono fun b hb => (h.2.1 p hp).1.1.lt b hb, (h.2.1 p hp).2.1.lies.mono fun b hb => (h.2.1 p hp).2.1.1.lt b hb⟩) (fun b hb => h.1.lt b hb)
/-- Rows being told. -/
structure TellI (w wr : World) (q g s n k : Nat) (B : List (List Nat)) (qs : List PairV) : Prop where
  base : w.heap.size = q
  st : StB wr q (qs ++ List.replicate (n - k) PairV.zero)
  len : qs.length = k
  own : ∀ p ∈ qs, Own wr (q + 1) 5 p.a.A p.a.n p.a.c p.a.xs ∧ Own wr (q + 1) 5 p.b.A p.b.n p.b.c p.b.xs ∧ p.a.n = g ∧ p.b.n = s
  xs : qs.map PairV.xs = B.take k
  keep : Keep w wr
section
variable {w wr w2 : World} {q g s n k : Nat} {B : List (List Nat)} {qs : List PairV}
theorem TellI.later (h : TellI w wr q g s n k B qs) (kp : Keep wr w2) : TellI w w2 q g s n k B qs :=
  ⟨h.base, h.st.keep kp, h.len, fun p hp => ⟨(h.own p hp).1.keep kp, (h.own p hp).2.1.keep kp, (h.own p hp).2.2⟩, h.xs, h.keep.trans kp⟩
theorem TellI.set (h : TellI w wr q g s n k B qs) (hk : k < n) {p : PairV} (hp : Own wr (q + 1) 5 p.a.A p.a.n p.a.c p.a.xs ∧ Own wr (q + 1) 5 p.b.A p.b.n p.b.c p.b.xs ∧ p.a.n = g ∧ p.b.n = s) (hB : B[k]? = some p.xs) :
    TellI w ((wr.setCell ⟨q, k * 2, none⟩ p.a.val).setCell ⟨q, k * 2 + 1, none⟩ p.b.val) q g s n (k + 1) B (qs ++ [p]) := by
  have T : Turned (fun b => b = q) wr ((wr.setCell ⟨q, k * 2, none⟩ p.a.val).setCell ⟨q, k * 2 + 1, none⟩ p.b.val) :=
    (Turned.set (F := fun b => b = q) wr ⟨q, k * 2, none⟩ p.a.val rfl).trans (Turned.set (F := fun b => b = q) _ ⟨q, k * 2 + 1, none⟩ p.b.val rfl) fun _ e => Or.inl e
  refine ⟨h.base, ?_, by rw [List.length_append, h.len]; rfl, fun x hx => ?_, by rw [List.map_append, h.xs, List.take_add_one, hB]; rfl, T.keep h.keep fun i e => by rw [e, h.base]; exact Nat.le_refl _⟩
  · have e := h.st.set k p
    rw [List.set_append_right _ _ (by rw [h.len]; exact Nat.le_refl _), h.len, Nat.sub_self, show n - k = (n - (k + 1)) + 1 by omega, List.replicate_succ, List.set_cons_zero] at e
    rwa [List.append_assoc]
  · have key : Own wr (q + 1) 5 x.a.A x.a.n x.a.c x.a.xs ∧ Own wr (q + 1) 5 x.b.A x.b.n x.b.c x.b.xs ∧ x.a.n = g ∧ x.b.n = s := by
      rcases List.mem_append.1 hx with e | e
      · exact h.own x e
      · rw [List.mem_singleton.1 e]; exact hp
    exact ⟨key.1.turned T fun b hb e => by have := (key.1.1.lt b hb).1; omega, key.2.1.turned T fun b hb e => by have := (key.2.1.1.lt b hb).1; omega, key.2.2⟩
end
section
variable {w : World} {F : Nat → Prop} {b g s : Nat} {B : List (List Nat)}
end
end Go.Proofs.YtgelalbmhllccaaGreat
/- The landed code of layer 7: Insert where it does not fit; Rows, Solve, Copy of none. -/
namespace Go.Proofs.YtgelalbmhllccaaGreat
open Go.RowKit Lin
set_option linter.unusedVariables false
set_option linter.unusedSimpArgs false
section
variable {w : World} {F : Nat → Prop} {b g s : Nat} {B : List (List Nat)}
set_option maxRecDepth 100000 in
set_option maxHeartbeats 1000000 in
theorem binsert_dim (h : BasR w F b g s B) (n1 n2 c1 c2 : Nat) (A1 A2 : Option Addr) (hd : n1 ≠ g ∨ n2 ≠ s) :
    Calls Tryz.prog 42 #[.pointer (some ⟨b, 0, none⟩), .agg #[.slice A1 n1 c1, .slice A2 n2 c2]] w fun e w' => e = .returned (.tuple #[.bool false, .int .i64 21]) ∧ Keep w w' := by
  obtain ⟨A, n, c, ps, h⟩ := h.open_
  obtain ⟨⟨q, hq⟩⟩ : Nonempty (∃ q, w.heap.size = q) := ⟨_, rfl⟩
  have hg := h.g1
  have K0 : Hid (Keep w (w.alloc (.cells #[.slice A1 n1 c1, .slice A2 n2 c2] 45))) := (Keep.refl w).alloc _ _
  have HW : Hid ((w.alloc (.cells #[.slice A1 n1 c1, .slice A2 n2 c2] 45)).heap[q]? = some (.cells #[.slice A1 n1 c1, .slice A2 n2 c2] 45 (0, 0))) := by
    show _ = _
    rw [← hq]; exact heap_alloc_new _ _
  have H := Lib.hid h
  have hbb : ((n1 : Int) != (g : Int)) = true ∨ (((n1 : Int) != (g : Int)) = false ∧ ((n2 : Int) != (s : Int)) = true) := by
    by_cases e : n1 = g
    · refine Or.inr ⟨by simp [e], ?_⟩
      rw [bne_iff_ne]; omega
    · exact Or.inl (by rw [bne_iff_ne]; omega)
  clear h hd
  rcases hbb with b0 | ⟨b0, b1⟩
  all_goals
    go_enter Tryz.func42, Tryz.ntmps42
    go_upto_region 1 with fail
    try simp only [hq]
    clear hq
    generalize (w.alloc (.cells #[.slice A1 n1 c1, .slice A2 n2 c2] 45)) = w1 at *
    have d0 := (H.out.keep K0.out).c0
    have d1 := (H.out.keep K0.out).c1
    have u0 : w1.cell? ⟨q, 0, none⟩ = some (.slice A1 n1 c1) := cell_of_row _ _ _ _ _ _ HW.out
    have u1 : w1.cell? ⟨q, 1, none⟩ = some (.slice A2 n2 c2) := cell_of_row _ _ _ _ _ _ HW.out
    go_wp2_with fail
    refine (bmade_eq b g _ d0 hg).mono ?_
    rintro e w' ⟨rfl, rfl⟩
    go_wp2_with fail
    go_region
    go_wp2_with fail
    go_ret2
    exact ⟨rfl, K0.out.drew⟩
set_option maxRecDepth 100000 in
theorem bsolve_low (h : BasR w F b g s B) (hg : B.length ≠ g) : Calls Tryz.prog 109 #[.pointer (some ⟨b, 0, none⟩)] w fun e w' => e = .returned (.tuple #[.slice none 0 0, .int .i64 24]) ∧ Keep w w' := by
  obtain ⟨A, n, c, ps, h⟩ := h.open_
  have hl := h.len
  have hn := h.n_le
  have c0 := h.c0
  have c2 := h.c2
  have h1 := h.g1
  have e1 : decide ((n : Int) < (g : Int)) = true := decide_eq_true (by omega)
  have e2 : decide (n < g) = true := decide_eq_true (by omega)
  have e3 : n < g := by omega
  clear h hl hn hg
  go_enter Tryz.func109, Tryz.ntmps109
  go_wp2_with fail
  refine (bmade_eq b g _ c0 h1).mono ?_
  rintro e w' ⟨rfl, rfl⟩
  go_wp2_with fail
  go_region
  go_wp2_with fail
  go_ret2
  exact ⟨rfl, (Keep.refl _).drew⟩
end
end Go.Proofs.YtgelalbmhllccaaGreat
/- The landed code of layer 7: Solve. -/
namespace Go.Proofs.YtgelalbmhllccaaGreat
open Go.RowKit Lin
set_option linter.unusedVariables false
set_option linter.unusedSimpArgs false
/-- Symbols being told. -/
structure SolI (w wr : World) (q g k : Nat) (B : List (List Nat)) (rs : List RowV) : Prop where
  base : w.heap.size = q
  st : OwnRows wr q 43 (some ⟨q, 0, none⟩) g g (rs ++ List.replicate (g - k) ⟨none, 0, 0, []⟩)
  len : rs.length = k
  own : ∀ r ∈ rs, Own wr (q + 1) 5 r.A r.n r.c r.xs
  xs : rowsXs rs = (B.take k).map (List.drop g)
  keep : Keep w wr
section
variable {w wr w2 : World} {q g k : Nat} {B : List (List Nat)} {rs : List RowV}
theorem SolI.later (h : SolI w wr q g k B rs) (kp : Keep wr w2) : SolI w w2 q g k B rs :=
  ⟨h.base, h.st.keep kp, h.len, fun p hp => (h.own p hp).keep kp, h.xs, h.keep.trans kp⟩
theorem SolI.set (h : SolI w wr q g k B rs) (hk : k < g) {r : RowV} {x : List Nat} (hr : Own wr (q + 1) 5 r.A r.n r.c r.xs) (hB : B[k]? = some x) (hx : r.xs = x.drop g) :
    SolI w (wr.setCell ⟨q, k, none⟩ (.slice r.A r.n r.c)) q g (k + 1) B (rs ++ [r]) := by
  have T : Turned (fun b => b = q) wr (wr.setCell ⟨q, k, none⟩ (.slice r.A r.n r.c)) := Turned.set (F := fun b => b = q) wr ⟨q, k, none⟩ _ rfl
  refine ⟨h.base, ?_, by rw [List.length_append, h.len]; rfl, fun x hx => ?_, ?_, T.keep h.keep fun i e => by rw [e, h.base]; exact Nat.le_refl _⟩
  · have e := h.st.stored (i := k) r
    rw [List.set_append_right _ _ (by rw [h.len]; exact Nat.le_refl _), h.len, Nat.sub_self, show g - k = (g - (k + 1)) + 1 by omega, List.replicate_succ, List.set_cons_zero] at e
    rwa [List.append_assoc]
  · have key : Own wr (q + 1) 5 x.A x.n x.c x.xs := by
      rcases List.mem_append.1 hx with e | e
      · exact h.own x e
      · rw [List.mem_singleton.1 e]; exact hr
    exact key.turned T fun b hb e => by have := (key.1.lt b hb).1; omega
  · have e := h.xs
    rw [rowsXs] at e ⊢
    rw [List.map_append, e, List.take_add_one, hB, Option.toList_some, List.map_append, List.map_singleton, List.map_singleton, hx]
end
section
variable {w : World} {F : Nat → Prop} {b g s : Nat} {B : List (List Nat)}
end
end Go.Proofs.YtgelalbmhllccaaGreat
/- Slices of numbers of 64 bits in memory: what they hold, of one's own, as arguments, appended to, written out. -/
namespace Go.Proofs.YtgelalbmhllccaaGreat
open Go.RowKit Go.ChangeShapes Go.WideShapes Go.Deep
set_option linter.unusedVariables false
set_option linter.unusedSimpArgs false
/-- A number of 64 bits. -/
def u64 (x : Nat) : Value := Value.int .u64 (x : Int)
/-- A slice of n numbers of 64 bits at A, in blocks of F: they are l. -/
def UsIn (w : World) (F : Nat → Prop) (A : Option Addr) (n : Nat) (l : List Nat) : Prop :=
  l.length = n ∧ (0 < n → ∃ b off, A = some ⟨b, off, none⟩ ∧ F b ∧ b < w.heap.size ∧ ∀ (i x : Nat), l[i]? = some x → w.cell? ⟨b, off + i, none⟩ = some (.int .u64 (x : Int)))
namespace UsIn
variable {w w' : World} {F G : Nat → Prop} {A : Option Addr} {n : Nat} {l : List Nat}
theorem turned (h : UsIn w F A n l) (k : Turned G w w') (hd : ∀ b, F b → ¬ G b) : UsIn w' F A n l := ⟨h.1, fun hn => by
  obtain ⟨b, off, e, hb, hl, hc⟩ := h.2 hn
  exact ⟨b, off, e, hb, Nat.lt_of_lt_of_le hl k.size, fun i x hi => k.cell (hc i x hi) (hd b hb)⟩⟩
theorem keep (h : UsIn w F A n l) (k : Keep w w') : UsIn w' F A n l := h.turned (Turned.of_keep (F := fun _ => False) k) fun _ _ e => e
theorem mono (h : UsIn w F A n l) (hF : ∀ b, F b → b < w.heap.size → G b) : UsIn w G A n l := ⟨h.1, fun hn => by
  obtain ⟨b, off, e, hb, hl, hc⟩ := h.2 hn
  exact ⟨b, off, e, hF b hb hl, hl, hc⟩⟩
theorem any (h : UsIn w F A n l) : UsIn w (fun _ => True) A n l := h.mono fun _ _ _ => trivial
theorem at_ (h : UsIn w F A n l) {i : Nat} (hi : i < n) : ∃ b off x, A = some ⟨b, off, none⟩ ∧ F b ∧ b < w.heap.size ∧ l[i]? = some x ∧ w.cell? ⟨b, off + i, none⟩ = some (.int .u64 (x : Int)) := by
  obtain ⟨b, off, e, hb, hl, hc⟩ := h.2 (by omega)
  have hi' : i < l.length := by rw [h.1]; exact hi
  exact ⟨b, off, l[i], e, hb, hl, List.getElem?_eq_getElem hi', hc i _ (List.getElem?_eq_getElem hi')⟩
theorem nil (w : World) (F : Nat → Prop) (A : Option Addr) : UsIn w F A 0 [] := ⟨rfl, fun h => absurd h (by omega)⟩
end UsIn
/-- Numbers of 64 bits of one's own. -/
def OwnU (w : World) (base : Nat) (A : Option Addr) (n c : Nat) (l : List Nat) : Prop := w.ownsRow base 22 1 (.slice A n c) n (l.map u64)
namespace OwnU
variable {w w' : World} {base n c : Nat} {A : Option Addr} {l : List Nat}
theorem none_ (w : World) (base : Nat) : OwnU w base none 0 0 [] := World.ownsRow_nil w base 22 1
theorem length (h : OwnU w base A n c l) : l.length = n := by have := h.1; simpa using this
theorem rowLe (h : OwnU w base A n c l) : ∀ k, (Value.slice A n c).ownBlock = some k → base ≤ k := fun k hk => (World.ownsRow.lt h k hk).1
theorem keep (h : OwnU w base A n c l) (k : Keep w w') : OwnU w' base A n c l :=
  World.ownsRow.kept h (row := none) ⟨k.os, k.tape, k.output, k.size, fun i hi _ => k.block i hi⟩ (by
    cases hb : (Value.slice A n c).ownBlock with
    | none => exact Or.inl rfl
    | some g => exact Or.inr (by simp))
theorem alloc (h : OwnU w base A n c l) (o : Obj) : OwnU (w.alloc o) base A n c l := World.ownsRow.alloc h o
theorem lower {base' : Nat} (h : OwnU w base A n c l) (hb : base' ≤ base) : OwnU w base' A n c l := by
  refine ⟨h.1, ?_⟩
  rcases h.2 with h1 | ⟨g, cap, cur, hv, hg, r⟩
  · exact Or.inl h1
  · exact Or.inr ⟨g, cap, cur, hv, by omega, r⟩
theorem ins (h : OwnU w base A n c l) : UsIn w (fun b => base ≤ b) A n l := by
  refine ⟨h.length, fun hn => ?_⟩
  rcases h.2 with ⟨hv, h0⟩ | ⟨g, cap, cur, hv, hg, hh, _⟩
  · omega
  · injection hv with h1 _ _
    subst h1
    refine ⟨g, 0, rfl, hg, (Array.getElem?_eq_some_iff.1 hh).1, fun i x hx => ?_⟩
    have hil : i < l.length := by
      rcases Nat.lt_or_ge i l.length with h1 | h1
      · exact h1
      · rw [List.getElem?_eq_none h1] at hx; cases hx
    have := World.ownsRow.cellAt h i (by have := h.length; omega)
    rw [Nat.zero_add, this, List.getElem?_map, hx]; rfl
end OwnU
theorem infoU : (Tryz.prog.info? 22).map (fun i => (i.zero, i.size, i.bytes)) = some (some (.int .u64 0), 1, 8) := by kernel_rfl
section
variable {P : Program}
end
section
variable {H : Type} {enc : TypeId × Value → H} {P : Program} {W : World}
end
end Go.Proofs.YtgelalbmhllccaaGreat
