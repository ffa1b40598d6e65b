/- The landed code of layer 7: the rows told. -/
import Derived.Test.YtifopodnceopjaaGreatDoorQae
import Derived.Test.YtifopodnceopjaaGreatDoorQaf
import Derived.Test.YtifopodnceopjaaGreatDoorQaa
import Derived.Test.YtifopodnceopjaaGreatDoorQac
import Derived.Test.YtifopodnceopjaaGreatDoorQab
import Derived.RangeFuncNested
import Derived.RangeFuncBound
import Derived.RangeFuncCalls
import Derived.RangeFuncLeaves
import Derived.Shelf.Abstract
import Derived.Shelf.RegionOpen
import Derived.OwnWalkIn
import Derived.TacticsInMore
import Derived.LoopNIn
import Derived.LoopIn
import Derived.Test.YtifopodnceopjaaGreatDoorQad
import Derived.OneCell
namespace Go.Proofs.YtifopodnceopjaaGreatDoor
open Go.RowKit Lin
set_option linter.unusedVariables false
set_option linter.unusedSimpArgs false
/-- Rows told: new memory, each of them a slice of its own. -/
def OwnedSt (w w' : World) (A : Option Addr) (n c g s : Nat) (B : List (List Nat)) (ps : List PairV) : Prop :=
  OwnSt w' w.heap.size A n c ps ∧ (∀ p ∈ ps, Own w' w.heap.size 5 p.a.A p.a.n p.a.c p.a.xs ∧ Own w' w.heap.size 5 p.b.A p.b.n p.b.c p.b.xs ∧ p.a.n = g ∧ p.b.n = s) ∧ ps.map PairV.xs = B ∧ Keep w w'
theorem OwnedSt.stIn {w w' : World} {A : Option Addr} {n c g s : Nat} {B : List (List Nat)} {ps : List PairV} (h : OwnedSt w w' A n c g s B ps) : StIn w' (fun b => w.heap.size ≤ b ∧ b < w'.heap.size) A n ps :=
  h.1.stIn (fun p hp => ⟨(h.2.1 p hp).1.lies.mono fun b hb => (h.2.1 p hp).1.1.lt b hb, (h.2.1 p hp).2.1.lies.mono fun b hb => (h.2.1 p hp).2.1.1.lt b hb⟩) (fun b hb => h.1.lt b hb)
/-- Rows being told. -/
structure TellI (w wr : World) (q g s n k : Nat) (B : List (List Nat)) (qs : List PairV) : Prop where
  base : w.heap.size = q
  st : StB wr q (qs ++ List.replicate (n - k) PairV.zero)
  len : qs.length = k
  own : ∀ p ∈ qs, Own wr (q + 1) 5 p.a.A p.a.n p.a.c p.a.xs ∧ Own wr (q + 1) 5 p.b.A p.b.n p.b.c p.b.xs ∧ p.a.n = g ∧ p.b.n = s
  xs : qs.map PairV.xs = B.take k
  keep : Keep w wr
section
variable {w wr w2 : World} {q g s n k : Nat} {B : List (List Nat)} {qs : List PairV}
theorem TellI.later (h : TellI w wr q g s n k B qs) (kp : Keep wr w2) : TellI w w2 q g s n k B qs :=
  ⟨h.base, h.st.keep kp, h.len, fun p hp => ⟨(h.own p hp).1.keep kp, (h.own p hp).2.1.keep kp, (h.own p hp).2.2⟩, h.xs, h.keep.trans kp⟩
theorem TellI.set (h : TellI w wr q g s n k B qs) (hk : k < n) {p : PairV} (hp : Own wr (q + 1) 5 p.a.A p.a.n p.a.c p.a.xs ∧ Own wr (q + 1) 5 p.b.A p.b.n p.b.c p.b.xs ∧ p.a.n = g ∧ p.b.n = s) (hB : B[k]? = some p.xs) :
    TellI w ((wr.setCell ⟨q, k * 2, none⟩ p.a.val).setCell ⟨q, k * 2 + 1, none⟩ p.b.val) q g s n (k + 1) B (qs ++ [p]) := by
  have T : Turned (fun b => b = q) wr ((wr.setCell ⟨q, k * 2, none⟩ p.a.val).setCell ⟨q, k * 2 + 1, none⟩ p.b.val) :=
    (Turned.set (F := fun b => b = q) wr ⟨q, k * 2, none⟩ p.a.val rfl).trans (Turned.set (F := fun b => b = q) _ ⟨q, k * 2 + 1, none⟩ p.b.val rfl) fun _ e => Or.inl e
  refine ⟨h.base, ?_, by rw [List.length_append, h.len]; rfl, fun x hx => ?_, by rw [List.map_append, h.xs, List.take_add_one, hB]; rfl, T.keep h.keep fun i e => by rw [e, h.base]; exact Nat.le_refl _⟩
  · have e := h.st.set k p
    rw [List.set_append_right _ _ (by rw [h.len]; exact Nat.le_refl _), h.len, Nat.sub_self, show n - k = (n - (k + 1)) + 1 by omega, List.replicate_succ, List.set_cons_zero] at e
    rwa [List.append_assoc]
  · have key : Own wr (q + 1) 5 x.a.A x.a.n x.a.c x.a.xs ∧ Own wr (q + 1) 5 x.b.A x.b.n x.b.c x.b.xs ∧ x.a.n = g ∧ x.b.n = s := by
      rcases List.mem_append.1 hx with e | e
      · exact h.own x e
      · rw [List.mem_singleton.1 e]; exact hp
    exact ⟨key.1.turned T fun b hb e => by have := (key.1.1.lt b hb).1; omega, key.2.1.turned T fun b hb e => by have := (key.2.1.1.lt b hb).1; omega, key.2.2⟩
end
section
variable {w : World} {F : Nat → Prop} {b g s : Nat} {B : List (List Nat)}
set_option maxRecDepth 100000 in
set_option maxHeartbeats 4000000 in
theorem brows_any (h : BasR w F b g s B) : Calls Tryz.prog 43 #[.pointer (some ⟨b, 0, none⟩)] w fun e w' => ∃ A n c ps, e = .returned (.slice A n c) ∧ OwnedSt w w' A n c g s B ps := by
  have HR := Lib.hid h
  obtain ⟨A, n, c, ps, h⟩ := h.open_
  have H := Lib.hid h
  have hn : n ≤ 255 := by have := h.n_le; have := h.g2; omega
  have hlen : B.length = n := h.len
  have hlt := h.lt b h.at_
  have HB := Lib.hid (And.intro hlt h.c2)
  have mks := fun w => run_make_st n n (Nat.le_refl _) (by omega) w
  obtain ⟨⟨q, hq⟩⟩ : Nonempty (∃ q, w.heap.size = q) := ⟨_, rfl⟩
  have h0 : TellI w (w.alloc (.cells ((List.replicate n PairV.zero).flatMap PairV.vals).toArray 38)) q g s n 0 B [] := by
    subst hq
    exact ⟨rfl, StB.made w n, rfl, fun p hp => by simp at hp, by simp, (Keep.refl w).alloc _ _⟩
  have H0 := Lib.hid h0
  have HQ := Lib.hid hq
  have HL := Lib.hid hlen
  have hrank : Calls Tryz.prog 24 #[.pointer (some ⟨b, 0, none⟩)] w fun e w' => e = .returned (.int .i64 (n : Int)) ∧ w = w' := by rw [← hlen]; exact brank_eq HR.out
  have HRK := Lib.hid hrank
  clear h h0 hlt hlen hrank
  go_enter Tryz.func43, Tryz.ntmps43
  go_wp2_with fail
  refine HRK.out.mono ?_
  rintro e w' ⟨rfl, rfl⟩
  go_wp2_with fail
  clear mks
  generalize (w.alloc (.cells ((List.replicate n PairV.zero).flatMap PairV.vals).toArray 38)) = w4 at *
  clear hq
  go_loopw [10] (fun i wr => ∃ (k : Nat) (qs : List PairV), k ≤ n ∧ i = .int .i64 k ∧ TellI w wr q g s n k B qs) (fun i _ => n - (intOf i).toNat)
  case atStart => exact ⟨0, [], by omega, rfl, H0.out⟩
  case round =>
    obtain ⟨k, qs, hk, rfl, hI⟩ := hrel
    have HI := Lib.hid hI
    clear hI H0
    by_cases hlt : k < n
    · obtain ⟨b2, o2, p, rfl, hb2, hp, hc1, hc3, hl2, hl3⟩ := (H.out.st.keep HI.out.keep).at_ hlt
      have hsz := H.out.size p (List.mem_of_getElem? hp)
      obtain ⟨⟨pA, pn, pc, px⟩, ⟨sA, sn, sc, sx⟩⟩ := p
      obtain ⟨z1, z2⟩ := hsz
      simp only at z1 z2
      obtain rfl : pn = g := z1
      obtain rfl : sn = s := z2
      have e1 : (0 : Int) ≤ (k : Int) := Int.natCast_nonneg _
      have e2 : (k : Int) < (n : Int) := by omega
      have HLT : Hid (k < n) := hlt
      have hBk : B[k]? = some (px ++ sx) := by rw [← H.out.xs, List.getElem?_map, hp]; rfl
      have HP := Lib.hid (And.intro hBk (And.intro (hl2.bytes (B := wr.heap.size) fun x hx => Nat.lt_of_lt_of_le (H.out.lt x hx) HI.out.keep.size) (hl3.bytes (B := wr.heap.size) fun x hx => Nat.lt_of_lt_of_le (H.out.lt x hx) HI.out.keep.size)))
      have HBS := Lib.hid (And.intro H.out.g2 H.out.s2)
      have c2' := (HI.out.keep.cell (p := ⟨b, 2, none⟩) HB.out.1).trans HB.out.2
      have HBW : Hid (b < wr.heap.size ∧ b2 < wr.heap.size) := ⟨Nat.lt_of_lt_of_le HB.out.1 HI.out.keep.size, Nat.lt_of_lt_of_le (H.out.lt b2 hb2) HI.out.keep.size⟩
      clear hp hl2 hl3 hb2 hBk hlt
      go_wp2_with fail
      refine wp_region_noPanic ?_
      refine wp_region_held_drew (S := fun wz => wz.cell? ⟨b, 2, none⟩ = some (.slice (some ⟨b2, o2, none⟩) n c) ∧ wz.cell? ⟨b2, o2 + k * 2, none⟩ = some (.slice pA pn pc) ∧ wz.cell? ⟨b2, o2 + k * 2 + 1, none⟩ = some (.slice sA sn sc)) (by kernel_rfl) ⟨c2', hc1, hc3⟩ (fun hHeld => ?_)
      refine wpAnyH_take (i := 0) (v := ?_) rfl (by kernel_rfl) (by kernel_rfl) (by kernel_rfl) (fun _ _ _ h => h) (Or.inl ⟨by rfl, ?_⟩) hHeld ?_
      rotate_left
      · intro wq hSw
        go_simp
        all_goals with_reducible rfl
      try simp only [Act.put, List.getElem_toArray, List.getElem_cons_succ, List.getElem_cons_zero, List.setIfInBounds_toArray, List.set_cons_zero, List.set_cons_succ]
      refine wpAnyH_take (i := 1) (v := ?_) rfl (by kernel_rfl) (by kernel_rfl) (by kernel_rfl) (fun _ _ _ h => h) (Or.inl ⟨by rfl, ?_⟩) hHeld ?_
      rotate_left
      · intro wq hSw
        go_simp
        all_goals with_reducible rfl
      try simp only [Act.put, List.getElem_toArray, List.getElem_cons_succ, List.getElem_cons_zero, List.setIfInBounds_toArray, List.set_cons_zero, List.set_cons_succ]
      refine wpAnyH_take (i := 2) (v := ?_) rfl (by kernel_rfl) (by kernel_rfl) (by kernel_rfl) (fun _ _ _ h => h) (Or.inl ⟨by rfl, ?_⟩) hHeld ?_
      rotate_left
      · intro wq hSw
        go_simp
        all_goals with_reducible rfl
      try simp only [Act.put, List.getElem_toArray, List.getElem_cons_succ, List.getElem_cons_zero, List.setIfInBounds_toArray, List.set_cons_zero, List.set_cons_succ]
      refine wpAnyH_take (i := 3) (v := ?_) rfl (by kernel_rfl) (by kernel_rfl) (by kernel_rfl) (fun _ _ _ h => h) (Or.inl ⟨by rfl, ?_⟩) hHeld ?_
      rotate_left
      · intro wq hSw
        go_simp
        all_goals with_reducible rfl
      try simp only [Act.put, List.getElem_toArray, List.getElem_cons_succ, List.getElem_cons_zero, List.setIfInBounds_toArray, List.set_cons_zero, List.set_cons_succ]
      refine wpAnyH_take (i := 4) (v := ?_) rfl (by kernel_rfl) (by kernel_rfl) (by kernel_rfl) (fun _ _ _ h => h) (Or.inl ⟨by rfl, ?_⟩) hHeld ?_
      rotate_left
      · intro wq hSw
        go_simp
        all_goals with_reducible rfl
      try simp only [Act.put, List.getElem_toArray, List.getElem_cons_succ, List.getElem_cons_zero, List.setIfInBounds_toArray, List.set_cons_zero, List.set_cons_succ]
      refine wpAnyH_take (i := 5) (v := ?_) rfl (by kernel_rfl) (by kernel_rfl) (by kernel_rfl) (fun _ _ _ h => h) (Or.inl ⟨by rfl, ?_⟩) hHeld ?_
      rotate_left
      · intro wq hSw
        have q0 := hSw.1
        have q1 := hSw.2.1
        have q2 := hSw.2.2
        go_simp
        all_goals with_reducible rfl
      try simp only [Act.put, List.getElem_toArray, List.getElem_cons_succ, List.getElem_cons_zero, List.setIfInBounds_toArray, List.set_cons_zero, List.set_cons_succ]
      refine wpAnyH_take (i := 6) (v := ?_) rfl (by kernel_rfl) (by kernel_rfl) (by kernel_rfl) (fun _ _ _ h => h) (Or.inl ⟨by rfl, ?_⟩) hHeld ?_
      rotate_left
      · intro wq hSw
        go_simp
        all_goals with_reducible rfl
      try simp only [Act.put, List.getElem_toArray, List.getElem_cons_succ, List.getElem_cons_zero, List.setIfInBounds_toArray, List.set_cons_zero, List.set_cons_succ]
      refine wpAnyH_take (i := 7) (v := ?_) rfl (by kernel_rfl) (by kernel_rfl) (by kernel_rfl) (fun _ _ _ h => h) (Or.inl ⟨by rfl, ?_⟩) hHeld ?_
      rotate_left
      · intro wq hSw
        go_simp
        all_goals with_reducible rfl
      try simp only [Act.put, List.getElem_toArray, List.getElem_cons_succ, List.getElem_cons_zero, List.setIfInBounds_toArray, List.set_cons_zero, List.set_cons_succ]
      refine wpAnyH_take (i := 8) (v := ?_) rfl (by kernel_rfl) (by kernel_rfl) (by kernel_rfl) (fun _ _ _ h => h) (Or.inl ⟨by rfl, ?_⟩) hHeld ?_
      rotate_left
      · intro wq hSw
        go_simp
        all_goals with_reducible rfl
      try simp only [Act.put, List.getElem_toArray, List.getElem_cons_succ, List.getElem_cons_zero, List.setIfInBounds_toArray, List.set_cons_zero, List.set_cons_succ]
      refine wpAnyH_take (i := 9) (v := ?_) rfl (by kernel_rfl) (by kernel_rfl) (by kernel_rfl) (fun _ _ _ h => h) (Or.inl ⟨by rfl, ?_⟩) hHeld ?_
      rotate_left
      · intro wq hSw
        have q0 := hSw.1
        have q1 := hSw.2.1
        have q2 := hSw.2.2
        go_simp
        all_goals with_reducible rfl
      try simp only [Act.put, List.getElem_toArray, List.getElem_cons_succ, List.getElem_cons_zero, List.setIfInBounds_toArray, List.set_cons_zero, List.set_cons_succ]
      refine wpAnyH_take (i := 11) (v := ?_) rfl (by kernel_rfl) (by kernel_rfl) (by kernel_rfl) (fun _ _ _ h => h) (Or.inl ⟨by rfl, ?_⟩) hHeld ?_
      rotate_left
      · intro wq hSw
        go_simp
        all_goals with_reducible rfl
      try simp only [Act.put, List.getElem_toArray, List.getElem_cons_succ, List.getElem_cons_zero, List.setIfInBounds_toArray, List.set_cons_zero, List.set_cons_succ]
      refine wpAnyH_take (i := 12) (v := ?_) rfl (by kernel_rfl) (by kernel_rfl) (by kernel_rfl) (fun _ _ _ h => h) (Or.inl ⟨by rfl, ?_⟩) hHeld ?_
      rotate_left
      · intro wq hSw
        go_simp
        all_goals with_reducible rfl
      try simp only [Act.put, List.getElem_toArray, List.getElem_cons_succ, List.getElem_cons_zero, List.setIfInBounds_toArray, List.set_cons_zero, List.set_cons_succ]
      refine wpAnyH_take (i := 13) (v := ?_) rfl (by kernel_rfl) (by kernel_rfl) (by kernel_rfl) (fun _ _ _ h => h) (Or.inl ⟨by rfl, ?_⟩) hHeld ?_
      rotate_left
      · intro wq hSw
        go_simp
        all_goals with_reducible rfl
      try simp only [Act.put, List.getElem_toArray, List.getElem_cons_succ, List.getElem_cons_zero, List.setIfInBounds_toArray, List.set_cons_zero, List.set_cons_succ]
      refine wpAnyH_take (i := 14) (v := ?_) rfl (by kernel_rfl) (by kernel_rfl) (by kernel_rfl) (fun _ _ _ h => h) (Or.inl ⟨by rfl, ?_⟩) hHeld ?_
      rotate_left
      · intro wq hSw
        have q0 := hSw.1
        have q1 := hSw.2.1
        have q2 := hSw.2.2
        go_simp
        all_goals with_reducible rfl
      try simp only [Act.put, List.getElem_toArray, List.getElem_cons_succ, List.getElem_cons_zero, List.setIfInBounds_toArray, List.set_cons_zero, List.set_cons_succ]
      refine wpAnyH_take (i := 15) (v := ?_) rfl (by kernel_rfl) (by kernel_rfl) (by kernel_rfl) (fun _ _ _ h => h) (Or.inl ⟨by rfl, ?_⟩) hHeld ?_
      rotate_left
      · intro wq hSw
        go_simp
        all_goals with_reducible rfl
      try simp only [Act.put, List.getElem_toArray, List.getElem_cons_succ, List.getElem_cons_zero, List.setIfInBounds_toArray, List.set_cons_zero, List.set_cons_succ]
      refine wpAnyH_take (i := 16) (v := ?_) rfl (by kernel_rfl) (by kernel_rfl) (by kernel_rfl) (fun _ _ _ h => h) (Or.inl ⟨by rfl, ?_⟩) hHeld ?_
      rotate_left
      · intro wq hSw
        go_simp
        all_goals with_reducible rfl
      try simp only [Act.put, List.getElem_toArray, List.getElem_cons_succ, List.getElem_cons_zero, List.setIfInBounds_toArray, List.set_cons_zero, List.set_cons_succ]
      refine wpAnyH_take (i := 17) (v := ?_) rfl (by kernel_rfl) (by kernel_rfl) (by kernel_rfl) (fun _ _ _ h => h) (Or.inl ⟨by rfl, ?_⟩) hHeld ?_
      rotate_left
      · intro wq hSw
        go_simp
        all_goals with_reducible rfl
      try simp only [Act.put, List.getElem_toArray, List.getElem_cons_succ, List.getElem_cons_zero, List.setIfInBounds_toArray, List.set_cons_zero, List.set_cons_succ]
      refine wpAnyH_take (i := 18) (v := ?_) rfl (by kernel_rfl) (by kernel_rfl) (by kernel_rfl) (fun _ _ _ h => h) (Or.inl ⟨by rfl, ?_⟩) hHeld ?_
      rotate_left
      · intro wq hSw
        have q0 := hSw.1
        have q1 := hSw.2.1
        have q2 := hSw.2.2
        go_simp
        all_goals with_reducible rfl
      try simp only [Act.put, List.getElem_toArray, List.getElem_cons_succ, List.getElem_cons_zero, List.setIfInBounds_toArray, List.set_cons_zero, List.set_cons_succ]
      refine wpAnyH_ready (rs := [10]) (by kernel_rfl) (by simp) ?_
      refine AllReadyH.cons rfl (fun K hK => ?_) AllReadyH.nil
      go_simp
      refine (clone_any _ _ _ _ px _ (HP.out.2.1.keep (Nat.le_refl _) (Keep.refl wr).drew) (Nat.le_refl _) (by have := HBS.out; omega)).mono ?_
      rintro e w5 ⟨A5, n5, c5, rfl, o5, k5⟩
      obtain rfl : n5 = pn := by rw [← o5.length]; exact HP.out.2.1.length
      have K5 : Hid (Keep wr w5) := (Keep.drew (Keep.refl wr)).trans k5
      have x0' := (K5.out.cell (p := ⟨b, 2, none⟩) HBW.out.1).trans c2'
      have x1' := (K5.out.cell (p := ⟨b2, o2 + k * 2, none⟩) HBW.out.2).trans hc1
      have x2' := (K5.out.cell (p := ⟨b2, o2 + k * 2 + 1, none⟩) HBW.out.2).trans hc3
      have O5 := Lib.hid o5
      clear o5 k5
      refine hK.out _ _ ⟨x0', x1', x2'⟩ (fun hHeld => ?_)
      clear hK K
      try simp only [Act.put, List.getElem_toArray, List.getElem_cons_succ, List.getElem_cons_zero, List.setIfInBounds_toArray, List.set_cons_zero, List.set_cons_succ]
      refine wpAnyH_ready (rs := [19]) (by kernel_rfl) (by simp) ?_
      refine AllReadyH.cons rfl (fun K hK => ?_) AllReadyH.nil
      go_simp
      refine (clone_any _ _ _ _ sx _ (HP.out.2.2.keep (Nat.le_refl _) K5.out) K5.out.size (by have := HBS.out; omega)).mono ?_
      rintro e w6 ⟨A6, n6, c6, rfl, o6, k6⟩
      obtain rfl : n6 = sn := by rw [← o6.length]; exact HP.out.2.2.length
      have K6 : Hid (Keep wr w6) := K5.out.trans k6
      have x0'' := (K6.out.cell (p := ⟨b, 2, none⟩) HBW.out.1).trans c2'
      have x1'' := (K6.out.cell (p := ⟨b2, o2 + k * 2, none⟩) HBW.out.2).trans hc1
      have x2'' := (K6.out.cell (p := ⟨b2, o2 + k * 2 + 1, none⟩) HBW.out.2).trans hc3
      have O6 := Lib.hid o6
      have O5' := Lib.hid (O5.out.keep k6)
      have S5 := Lib.hid K5.out.size
      clear o6 k6 x0' x1' x2' O5
      refine hK.out _ _ ⟨x0'', x1'', x2''⟩ (fun hHeld => ?_)
      clear hK K
      try simp only [Act.put, List.getElem_toArray, List.getElem_cons_succ, List.getElem_cons_zero, List.setIfInBounds_toArray, List.set_cons_zero, List.set_cons_succ]
      refine wpAnyH_take (i := 20) (v := ?_) rfl (by kernel_rfl) (by kernel_rfl) (by kernel_rfl) (fun _ _ _ h => h) (Or.inl ⟨by rfl, ?_⟩) hHeld ?_
      rotate_left
      · intro wq hSw
        go_simp
        all_goals with_reducible rfl
      try simp only [Act.put, List.getElem_toArray, List.getElem_cons_succ, List.getElem_cons_zero, List.setIfInBounds_toArray, List.set_cons_zero, List.set_cons_succ]
      refine wpAnyH_take (i := 21) (v := ?_) rfl (by kernel_rfl) (by kernel_rfl) (by kernel_rfl) (fun _ _ _ h => h) (Or.inl ⟨by rfl, ?_⟩) hHeld ?_
      rotate_left
      · intro wq hSw
        go_simp
        all_goals with_reducible rfl
      try simp only [Act.put, List.getElem_toArray, List.getElem_cons_succ, List.getElem_cons_zero, List.setIfInBounds_toArray, List.set_cons_zero, List.set_cons_succ]
      have H6 := Lib.hid (HI.out.later K6.out)
      obtain ⟨z1, z2⟩ := H6.out.st.cells (k := k) (p := PairV.zero) (by rw [List.getElem?_append_right (by rw [H6.out.len]; exact Nat.le_refl _), H6.out.len, Nat.sub_self, show n - k = (n - (k + 1)) + 1 by have := HLT.out; omega]; rfl)
      change _ = some (Value.slice none 0 0) at z1
      change _ = some (Value.slice none 0 0) at z2
      have f0 := H6.out.st.frozen (k * 2)
      have f1 := H6.out.st.frozen (k * 2 + 1)
      refine wpAnyH_ready (rs := [22]) (by kernel_rfl) (by simp) ?_
      refine AllReadyH.cons rfl (fun K hK => ?_) AllReadyH.nil
      go_simp
      have T7 : Hid (Turned (fun b => b = q) w6 ((w6.setCell ⟨q, k * 2, none⟩ (.slice A5 n5 c5)).setCell ⟨q, k * 2 + 1, none⟩ (.slice A6 n6 c6))) :=
        (Turned.set (F := fun b => b = q) w6 ⟨q, k * 2, none⟩ (.slice A5 n5 c5) rfl).trans (Turned.set (F := fun b => b = q) _ ⟨q, k * 2 + 1, none⟩ (.slice A6 n6 c6) rfl) fun _ e => Or.inl e
      have hbq : ¬ b = q := by have h1 := HB.out.1; have h2 := HQ.out; omega
      have hbq2 : ¬ b2 = q := by
        intro e
        have h1 := H.out.st.2.2 (by have := HLT.out; omega)
        obtain ⟨b', o', e', hF, _⟩ := h1
        cases e'
        have h3 := H.out.lt b2 hF
        have h2 := HQ.out
        omega
      have x0 := T7.out.cell x0'' (by exact hbq)
      have x1 := T7.out.cell x1'' (by exact hbq2)
      have x2 := T7.out.cell x2'' (by exact hbq2)
      refine hK.out _ _ ⟨x0, x1, x2⟩ (fun hHeld => ?_)
      clear hK K
      try simp only [Act.put, List.getElem_toArray, List.getElem_cons_succ, List.getElem_cons_zero, List.setIfInBounds_toArray, List.set_cons_zero, List.set_cons_succ]
      refine wpAnyH_done (by kernel_rfl) ?_ _
      refine NoPanic.normal ?_
      clear hHeld
      clear x0 x1 x2 x0'' x1'' x2'' z1 z2 f0 f1 T7
      go_wp2_with fail
      go_roundw
      case rel => exact ⟨k + 1, _, by have := HLT.out; omega, by go_num, H6.out.set HLT.out (p := ⟨⟨A5, n5, c5, px⟩, ⟨A6, n6, c6, sx⟩⟩) ⟨O5'.out.lower (by have := HI.out.st.lt; show q + 1 ≤ wr.heap.size; omega), O6.out.lower (by have h1 := HI.out.st.lt; have h2 := S5.out; omega), rfl, rfl⟩ HP.out.1⟩
      case measure => have := HLT.out; simp [intOf]; omega
    · obtain rfl : k = n := by omega
      go_wp2_with fail
      go_ret
      have o := HI.out.st.own (base := w.heap.size) (n := k) (c := k) (by rw [HQ.out]; exact Nat.le_refl _) (Nat.le_refl _) (by rw [List.length_append, HI.out.len, List.length_replicate]; omega) (by omega)
      rw [Nat.sub_self, List.replicate_zero, List.append_nil, List.take_of_length_le (by rw [HI.out.len]; exact Nat.le_refl _)] at o
      refine ⟨_, _, _, qs, rfl, o, fun p hp => ?_, ?_, HI.out.keep⟩
      · obtain ⟨a1, a2, a3⟩ := HI.out.own p hp
        exact ⟨a1.lower (by rw [HQ.out]; omega), a2.lower (by rw [HQ.out]; omega), a3⟩
      · rw [HI.out.xs, List.take_of_length_le (by rw [HL.out]; exact Nat.le_refl _)]
end
end Go.Proofs.YtifopodnceopjaaGreatDoor
/- The landed code of layer 7: Insert where it does not fit; Rows, Solve, Copy of none. -/
namespace Go.Proofs.YtifopodnceopjaaGreatDoor
open Go.RowKit Lin
set_option linter.unusedVariables false
set_option linter.unusedSimpArgs false
section
variable {w : World} {F : Nat → Prop} {b g s : Nat} {B : List (List Nat)}
set_option maxRecDepth 100000 in
theorem bsolve_low (h : BasR w F b g s B) (hg : B.length ≠ g) : Calls Tryz.prog 51 #[.pointer (some ⟨b, 0, none⟩)] w fun e w' => e = .returned (.tuple #[.slice none 0 0, .int .i64 24]) ∧ Keep w w' := by
  obtain ⟨A, n, c, ps, h⟩ := h.open_
  have hl := h.len
  have hn := h.n_le
  have c0 := h.c0
  have c2 := h.c2
  have h1 := h.g1
  have e1 : decide ((n : Int) < (g : Int)) = true := decide_eq_true (by omega)
  have e2 : decide (n < g) = true := decide_eq_true (by omega)
  have e3 : n < g := by omega
  clear h hl hn hg
  go_enter Tryz.func51, Tryz.ntmps51
  go_wp2_with fail
  refine (bmade_eq b g _ c0 h1).mono ?_
  rintro e w' ⟨rfl, rfl⟩
  go_wp2_with fail
  go_region
  go_wp2_with fail
  go_ret2
  exact ⟨rfl, (Keep.refl _).drew⟩
end
end Go.Proofs.YtifopodnceopjaaGreatDoor
/- The landed code of layer 7: Solve. -/
namespace Go.Proofs.YtifopodnceopjaaGreatDoor
open Go.RowKit Lin
set_option linter.unusedVariables false
set_option linter.unusedSimpArgs false
/-- Symbols being told. -/
structure SolI (w wr : World) (q g k : Nat) (B : List (List Nat)) (rs : List RowV) : Prop where
  base : w.heap.size = q
  st : OwnRows wr q 22 (some ⟨q, 0, none⟩) g g (rs ++ List.replicate (g - k) ⟨none, 0, 0, []⟩)
  len : rs.length = k
  own : ∀ r ∈ rs, Own wr (q + 1) 5 r.A r.n r.c r.xs
  xs : rowsXs rs = (B.take k).map (List.drop g)
  keep : Keep w wr
section
variable {w wr w2 : World} {q g k : Nat} {B : List (List Nat)} {rs : List RowV}
theorem SolI.later (h : SolI w wr q g k B rs) (kp : Keep wr w2) : SolI w w2 q g k B rs :=
  ⟨h.base, h.st.keep kp, h.len, fun p hp => (h.own p hp).keep kp, h.xs, h.keep.trans kp⟩
theorem SolI.set (h : SolI w wr q g k B rs) (hk : k < g) {r : RowV} {x : List Nat} (hr : Own wr (q + 1) 5 r.A r.n r.c r.xs) (hB : B[k]? = some x) (hx : r.xs = x.drop g) :
    SolI w (wr.setCell ⟨q, k, none⟩ (.slice r.A r.n r.c)) q g (k + 1) B (rs ++ [r]) := by
  have T : Turned (fun b => b = q) wr (wr.setCell ⟨q, k, none⟩ (.slice r.A r.n r.c)) := Turned.set (F := fun b => b = q) wr ⟨q, k, none⟩ _ rfl
  refine ⟨h.base, ?_, by rw [List.length_append, h.len]; rfl, fun x hx => ?_, ?_, T.keep h.keep fun i e => by rw [e, h.base]; exact Nat.le_refl _⟩
  · have e := h.st.stored (i := k) r
    rw [List.set_append_right _ _ (by rw [h.len]; exact Nat.le_refl _), h.len, Nat.sub_self, show g - k = (g - (k + 1)) + 1 by omega, List.replicate_succ, List.set_cons_zero] at e
    rwa [List.append_assoc]
  · have key : Own wr (q + 1) 5 x.A x.n x.c x.xs := by
      rcases List.mem_append.1 hx with e | e
      · exact h.own x e
      · rw [List.mem_singleton.1 e]; exact hr
    exact key.turned T fun b hb e => by have := (key.1.lt b hb).1; omega
  · have e := h.xs
    rw [rowsXs] at e ⊢
    rw [List.map_append, e, List.take_add_one, hB, Option.toList_some, List.map_append, List.map_singleton, List.map_singleton, hx]
end
section
variable {w : World} {F : Nat → Prop} {b g s : Nat} {B : List (List Nat)}
end
end Go.Proofs.YtifopodnceopjaaGreatDoor
/- A window's numbers, plainly: what is in it, what goes, slots. -/
namespace Go.Proofs.YtifopodnceopjaaGreatDoor
set_option linter.unusedVariables false
/-- All numbers end here. -/
def topN : Nat := 1099511627776
/-- Where a window of base b and width k ends. -/
def endN (b k : Nat) : Nat := min (b + k) topN
def winIn (b k n : Nat) : Bool := decide (b ≤ n) && decide (n < endN b k)
theorem winIn_iff (b k n : Nat) : winIn b k n = true ↔ b ≤ n ∧ n < endN b k := by simp [winIn]
end Go.Proofs.YtifopodnceopjaaGreatDoor
/- Slices of numbers of 64 bits in memory: what they hold, of one's own, as arguments, appended to, written out. -/
namespace Go.Proofs.YtifopodnceopjaaGreatDoor
open Go.RowKit Go.ChangeShapes Go.WideShapes Go.Deep
set_option linter.unusedVariables false
set_option linter.unusedSimpArgs false
/-- A number of 64 bits. -/
def u64 (x : Nat) : Value := Value.int .u64 (x : Int)
/-- A slice of n numbers of 64 bits at A, in blocks of F: they are l. -/
def UsIn (w : World) (F : Nat → Prop) (A : Option Addr) (n : Nat) (l : List Nat) : Prop :=
  l.length = n ∧ (0 < n → ∃ b off, A = some ⟨b, off, none⟩ ∧ F b ∧ b < w.heap.size ∧ ∀ (i x : Nat), l[i]? = some x → w.cell? ⟨b, off + i, none⟩ = some (.int .u64 (x : Int)))
namespace UsIn
variable {w w' : World} {F G : Nat → Prop} {A : Option Addr} {n : Nat} {l : List Nat}
theorem turned (h : UsIn w F A n l) (k : Turned G w w') (hd : ∀ b, F b → ¬ G b) : UsIn w' F A n l := ⟨h.1, fun hn => by
  obtain ⟨b, off, e, hb, hl, hc⟩ := h.2 hn
  exact ⟨b, off, e, hb, Nat.lt_of_lt_of_le hl k.size, fun i x hi => k.cell (hc i x hi) (hd b hb)⟩⟩
theorem keep (h : UsIn w F A n l) (k : Keep w w') : UsIn w' F A n l := h.turned (Turned.of_keep (F := fun _ => False) k) fun _ _ e => e
theorem mono (h : UsIn w F A n l) (hF : ∀ b, F b → b < w.heap.size → G b) : UsIn w G A n l := ⟨h.1, fun hn => by
  obtain ⟨b, off, e, hb, hl, hc⟩ := h.2 hn
  exact ⟨b, off, e, hF b hb hl, hl, hc⟩⟩
theorem any (h : UsIn w F A n l) : UsIn w (fun _ => True) A n l := h.mono fun _ _ _ => trivial
theorem at_ (h : UsIn w F A n l) {i : Nat} (hi : i < n) : ∃ b off x, A = some ⟨b, off, none⟩ ∧ F b ∧ b < w.heap.size ∧ l[i]? = some x ∧ w.cell? ⟨b, off + i, none⟩ = some (.int .u64 (x : Int)) := by
  obtain ⟨b, off, e, hb, hl, hc⟩ := h.2 (by omega)
  have hi' : i < l.length := by rw [h.1]; exact hi
  exact ⟨b, off, l[i], e, hb, hl, List.getElem?_eq_getElem hi', hc i _ (List.getElem?_eq_getElem hi')⟩
theorem nil (w : World) (F : Nat → Prop) (A : Option Addr) : UsIn w F A 0 [] := ⟨rfl, fun h => absurd h (by omega)⟩
end UsIn
/-- Numbers of 64 bits of one's own. -/
def OwnU (w : World) (base : Nat) (A : Option Addr) (n c : Nat) (l : List Nat) : Prop := w.ownsRow base 36 1 (.slice A n c) n (l.map u64)
namespace OwnU
variable {w w' : World} {base n c : Nat} {A : Option Addr} {l : List Nat}
theorem none_ (w : World) (base : Nat) : OwnU w base none 0 0 [] := World.ownsRow_nil w base 36 1
theorem length (h : OwnU w base A n c l) : l.length = n := by have := h.1; simpa using this
theorem rowLe (h : OwnU w base A n c l) : ∀ k, (Value.slice A n c).ownBlock = some k → base ≤ k := fun k hk => (World.ownsRow.lt h k hk).1
theorem keep (h : OwnU w base A n c l) (k : Keep w w') : OwnU w' base A n c l :=
  World.ownsRow.kept h (row := none) ⟨k.os, k.tape, k.output, k.size, fun i hi _ => k.block i hi⟩ (by
    cases hb : (Value.slice A n c).ownBlock with
    | none => exact Or.inl rfl
    | some g => exact Or.inr (by simp))
theorem alloc (h : OwnU w base A n c l) (o : Obj) : OwnU (w.alloc o) base A n c l := World.ownsRow.alloc h o
theorem lower {base' : Nat} (h : OwnU w base A n c l) (hb : base' ≤ base) : OwnU w base' A n c l := by
  refine ⟨h.1, ?_⟩
  rcases h.2 with h1 | ⟨g, cap, cur, hv, hg, r⟩
  · exact Or.inl h1
  · exact Or.inr ⟨g, cap, cur, hv, by omega, r⟩
end OwnU
section
variable {P : Program}
end
section
variable {H : Type} {enc : TypeId × Value → H} {P : Program} {W : World}
end
end Go.Proofs.YtifopodnceopjaaGreatDoor
/- A slice of one's own, whatever it holds: written to. -/
namespace Go.Proofs.YtifopodnceopjaaGreatDoor
open Go.RowKit
/-- A slice of one's own, whatever it holds. -/
def Mine (w wr : World) (A : Option Addr) (n c : Nat) : Prop := ∃ xs, Own wr w.heap.size 5 A n c xs
theorem Mine.at_ {w wr : World} {A : Option Addr} {n c k : Nat} (h : Mine w wr A n c) (hk : k < n) :
    ∃ g v : Nat, A = some ⟨g, 0, none⟩ ∧ w.heap.size ≤ g ∧ v < 256 ∧ wr.cell? ⟨g, k, none⟩ = some (.int .u8 (v : Int)) ∧ wr.frozen? ⟨g, k, none⟩ = false := by
  obtain ⟨xs, h⟩ := h
  obtain ⟨g, rfl, hg, _⟩ := h.block (by omega)
  exact ⟨g, xs.getD k 0, rfl, hg, h.2.getD k, h.cell hk, h.frozen k⟩
theorem Mine.set {w wr : World} {A : Option Addr} {n c : Nat} (h : Mine w wr A n c) (g k v : Nat) (hv : v < 256) : Mine w (wr.setCell ⟨g, k, none⟩ (.int .u8 (v : Int))) A n c := by
  obtain ⟨xs, h⟩ := h
  by_cases e : (Value.slice A n c).ownBlock = some g
  · rcases h.1.2 with ⟨hv', _⟩ | ⟨g', cap, cur, hv', _⟩
    · rw [hv'] at e; cases e
    · rw [hv'] at e
      obtain rfl : g' = g := by simpa [Value.ownBlock] using e
      injection hv' with e1 e2 e3
      subst e1
      exact ⟨_, h.stored (i := k) hv⟩
  · exact ⟨xs, h.far e _⟩
theorem Mine.keep {w wr w' : World} {A : Option Addr} {n c : Nat} (h : Mine w wr A n c) (k : Keep wr w') : Mine w w' A n c := by
  obtain ⟨xs, h⟩ := h; exact ⟨xs, h.keep k⟩
end Go.Proofs.YtifopodnceopjaaGreatDoor
/- The landed window: how it lies, and its functions that make no list. -/
namespace Go.Proofs.YtifopodnceopjaaGreatDoor
open Go.RowKit
set_option linter.unusedVariables false
set_option linter.unusedSimpArgs false
/-- A window of width k and base b in block g. -/
structure WinR (w : World) (g k b : Nat) : Prop where
  block : w.heap[g]? = some (.cells #[.int .i64 (k : Int), .int .u64 (b : Int)] 114 (0, 0))
  low : 1 ≤ k
  high : k ≤ 16
  top : b ≤ topN
namespace WinR
variable {w w' : World} {g k b : Nat}
theorem lt (h : WinR w g k b) : g < w.heap.size := (Array.getElem?_eq_some_iff.1 h.block).1
theorem c0 (h : WinR w g k b) : w.cell? ⟨g, 0, none⟩ = some (.int .i64 (k : Int)) := by simp [World.cell?, h.block]
theorem c1 (h : WinR w g k b) : w.cell? ⟨g, 1, none⟩ = some (.int .u64 (b : Int)) := by simp [World.cell?, h.block]
theorem free (h : WinR w g k b) : w.frozen? ⟨g, 1, none⟩ = false := by simp [World.frozen?, h.block]
theorem turned {G : Nat → Prop} (h : WinR w g k b) (t : Turned G w w') (hn : ¬ G g) : WinR w' g k b := ⟨(t.block g h.lt hn).trans h.block, h.low, h.high, h.top⟩
theorem keep (h : WinR w g k b) (t : Keep w w') : WinR w' g k b := ⟨(t.block g h.lt).trans h.block, h.low, h.high, h.top⟩
end WinR
section
variable {g k b : Nat} {w : World}
theorem made_any (h : WinR w g k b) : Calls Tryz.prog 88 #[.pointer (some ⟨g, 0, none⟩)] w fun e w' => e = .returned (.bool true) ∧ w' = w := by
  have c0 := h.c0
  have hk := h.low
  have d : decide (0 < k) = true := decide_eq_true (by omega)
  clear h hk
  go_enter Tryz.func88, Tryz.ntmps88
  go_wp2_with fail
  go_ret
  exact ⟨rfl, rfl⟩
theorem base_any (h : WinR w g k b) : Calls Tryz.prog 117 #[.pointer (some ⟨g, 0, none⟩)] w fun e w' => e = .returned (.int .u64 (b : Int)) ∧ w' = w := by
  have c1 := h.c1
  go_enter Tryz.func117, Tryz.ntmps117
  go_wp2_with fail
  refine (made_any h).mono ?_
  rintro e w1 ⟨rfl, rfl⟩
  go_wp2_with fail
  go_ret
  exact ⟨rfl, rfl⟩
theorem width_any (h : WinR w g k b) : Calls Tryz.prog 53 #[.pointer (some ⟨g, 0, none⟩)] w fun e w' => e = .returned (.int .i64 (k : Int)) ∧ w' = w := by
  have c0 := h.c0
  go_enter Tryz.func53, Tryz.ntmps53
  go_wp2_with fail
  refine (made_any h).mono ?_
  rintro e w1 ⟨rfl, rfl⟩
  go_wp2_with fail
  go_ret
  exact ⟨rfl, rfl⟩
theorem end_any (h : WinR w g k b) : Calls Tryz.prog 118 #[.pointer (some ⟨g, 0, none⟩)] w fun e w' => e = .returned (.int .u64 (endN b k : Int)) ∧ w' = w := by
  have hk := h.high
  have hb := h.top
  unfold topN at hb
  have e1 : IntKind.u64.wrap (k : Int) = (k : Int) := IntWalk.u64_in _ (by omega)
  have e2 : IntKind.u64.wrap ((b : Int) + (k : Int)) = ((b + k : Nat) : Int) := by rw [IntWalk.u64_in _ (by omega)]; omega
  go_enter Tryz.func118, Tryz.ntmps118
  go_wp2_with fail
  refine (base_any h).mono ?_
  rintro e w1 ⟨rfl, rfl⟩
  go_wp2_with fail
  refine (width_any h).mono ?_
  rintro e w1 ⟨rfl, rfl⟩
  go_wp2_with fail
  all_goals go_ret
  · rename_i h1
    exact ⟨by rw [show endN b k = topN by unfold endN topN; omega]; rfl, rfl⟩
  · rename_i h1
    exact ⟨by rw [show endN b k = b + k by unfold endN topN; omega]; rfl, rfl⟩
/-- In. -/
theorem in_any (n : Nat) (hn : n < 18446744073709551616) (h : WinR w g k b) : Calls Tryz.prog 89 #[.pointer (some ⟨g, 0, none⟩), .int .u64 (n : Int)] w fun e w' => e = .returned (.bool (winIn b k n)) ∧ w' = w := by
  by_cases h1 : b ≤ n
  · have d1 : decide ((b : Int) ≤ (n : Int)) = true := decide_eq_true (by omega)
    go_enter Tryz.func89, Tryz.ntmps89
    go_wp2_with fail
    refine (base_any h).mono ?_
    rintro e w1 ⟨rfl, rfl⟩
    go_wp2_with fail
    refine (end_any h).mono ?_
    rintro e w1 ⟨rfl, rfl⟩
    go_wp2_with fail
    go_ret
    exact ⟨by rw [winIn, decide_eq_true h1, Bool.true_and]; rfl, rfl⟩
  · have d1 : decide ((b : Int) ≤ (n : Int)) = false := decide_eq_false (by omega)
    go_enter Tryz.func89, Tryz.ntmps89
    go_wp2_with fail
    refine (base_any h).mono ?_
    rintro e w1 ⟨rfl, rfl⟩
    go_wp2_with fail
    go_ret
    exact ⟨by rw [winIn, decide_eq_false h1, Bool.false_and]; rfl, rfl⟩
/-- Slot. -/
def slotV (b k n : Nat) : Nat := if winIn b k n then n % k else 0
def slotE (b k n : Nat) : Int := if winIn b k n then 0 else 1
theorem slot_any (n : Nat) (hn : n < 18446744073709551616) (h : WinR w g k b) : Calls Tryz.prog 55 #[.pointer (some ⟨g, 0, none⟩), .int .u64 (n : Int)] w fun e w' => e = .returned (.tuple #[.int .i64 (slotV b k n : Int), .int .i64 (slotE b k n)]) ∧ w' = w := by
  have hk := h.high
  have hl := h.low
  have c0 := h.c0
  cases hi : winIn b k n with
  | true =>
    have hm : n % k < k := Nat.mod_lt _ (by omega)
    have e1 : IntKind.u64.wrap (k : Int) = (k : Int) := IntWalk.u64_in _ (by omega)
    have e2 : (n : Int).tmod (k : Int) = ((n % k : Nat) : Int) := by rw [Int.tmod_eq_emod_of_nonneg (by omega)]; rfl
    have e3 : IntKind.u64.wrap ((n % k : Nat) : Int) = ((n % k : Nat) : Int) := IntWalk.u64_in _ (by omega)
    have e4 : IntKind.i64.wrap ((n % k : Nat) : Int) = ((n % k : Nat) : Int) := IntWalk.i64_in _ (by omega)
    have e5 : (k : Int) ≠ 0 := by omega
    go_enter Tryz.func55, Tryz.ntmps55
    go_wp2_with fail
    refine (made_any h).mono ?_
    rintro e w1 ⟨rfl, rfl⟩
    go_wp2_with fail
    refine (in_any n hn h).mono ?_
    rw [hi]
    rintro e w1 ⟨rfl, rfl⟩
    go_wp2_with fail
    go_ret2
    exact ⟨by rw [slotV, slotE, hi]; rfl, rfl⟩
  | false =>
    go_enter Tryz.func55, Tryz.ntmps55
    go_wp2_with fail
    refine (made_any h).mono ?_
    rintro e w1 ⟨rfl, rfl⟩
    go_wp2_with fail
    refine (in_any n hn h).mono ?_
    rw [hi]
    rintro e w1 ⟨rfl, rfl⟩
    go_wp2_with fail
    go_ret2
    exact ⟨by rw [slotV, slotE, hi]; rfl, rfl⟩
theorem new_in (k : Nat) (h1 : 1 ≤ k) (h2 : k ≤ 16) (w : World) : Calls Tryz.prog 16 #[.int .i64 (k : Int)] w fun e w' => e = .returned (.tuple #[.pointer (some ⟨w.heap.size, 0, none⟩), .int .i64 0]) ∧ WinR w' w.heap.size k 0 ∧ Keep w w' := by
  have b1 : decide ((k : Int) < 1) = false := decide_eq_false (by omega)
  have b2 : ¬ (16 : Int) < (k : Int) := by omega
  go_enter Tryz.func16, Tryz.ntmps16
  go_wp2_with fail
  go_ret2
  exact ⟨rfl, ⟨heap_alloc_new _ _, h1, h2, Nat.zero_le _⟩, (Keep.refl w).alloc _ _⟩
end
end Go.Proofs.YtifopodnceopjaaGreatDoor
/- A range over a method value, whose body goes on to its end: what the walk owes. -/
namespace Go.Proofs.YtifopodnceopjaaGreatDoor
open Go.RowKit
set_option linter.unusedVariables false
section
variable {F : Fence} {n : Nat} {P : Program}
end
end Go.Proofs.YtifopodnceopjaaGreatDoor
/- The landed window: its numbers handed out, listed, moved. -/
namespace Go.Proofs.YtifopodnceopjaaGreatDoor
open Go.RowKit Go.Shelf
set_option linter.unusedVariables false
set_option linter.unusedSimpArgs false
attribute [local go_sem] Oper.semAt_some
end Go.Proofs.YtifopodnceopjaaGreatDoor
/- The landed window: Move. -/
namespace Go.Proofs.YtifopodnceopjaaGreatDoor
open Go.RowKit Go.Shelf
set_option linter.unusedVariables false
set_option linter.unusedSimpArgs false
attribute [local go_sem] Oper.semAt_some
section
variable {g k b : Nat} {w : World}
end
end Go.Proofs.YtifopodnceopjaaGreatDoor
/- The landed relay: how it lies in memory. -/
namespace Go.Proofs.YtifopodnceopjaaGreatDoor
open Go.RowKit Lin
set_option linter.unusedVariables false
set_option linter.unusedSimpArgs false
/-- A place of the array: the block of its basis (none: no basis), the blocks that it owns, its rows. -/
structure Slot where
  p : Option Nat
  F : Nat → Prop
  B : List (List Nat)
namespace Slot
def val (x : Slot) : Value := .pointer (x.p.map fun b => ⟨b, 0, none⟩)
def none_ : Slot := ⟨none, fun _ => False, []⟩
def Ok (w : World) (g s : Nat) (x : Slot) : Prop := match x.p with
  | none => (∀ k, ¬ x.F k) ∧ x.B = []
  | some b => BasR w x.F b g s x.B
variable {w w' : World} {g s : Nat} {x : Slot} {G : Nat → Prop}
theorem none_ok (w : World) (g s : Nat) : none_.Ok w g s := ⟨fun _ e => e, rfl⟩
theorem Ok.bas (h : x.Ok w g s) {b : Nat} (hp : x.p = some b) : BasR w x.F b g s x.B := by
  unfold Ok at h; rw [hp] at h; exact h
theorem ok_of {F : Nat → Prop} {b : Nat} {B : List (List Nat)} (h : BasR w F b g s B) : Ok w g s ⟨some b, F, B⟩ := h
theorem Ok.lt (h : x.Ok w g s) : ∀ k, x.F k → k < w.heap.size := by
  unfold Ok at h
  split at h
  · exact fun k hk => (h.1 k hk).elim
  · exact h.fine.2.2.2.2.2
theorem Ok.turned (h : x.Ok w g s) (t : Turned G w w') (hd : ∀ b, x.F b → ¬ G b) : x.Ok w' g s := by
  unfold Ok at h ⊢
  split at h
  · exact h
  · exact h.turned t hd
theorem Ok.keep (h : x.Ok w g s) (k : Keep w w') : x.Ok w' g s := h.turned (Turned.of_keep (F := fun _ => False) k) fun _ _ e => e
theorem Ok.none (h : x.Ok w g s) (hp : x.p = Option.none) : x.B = [] ∧ ∀ k, ¬ x.F k := by
  unfold Ok at h; rw [hp] at h; exact ⟨h.2, h.1⟩
end Slot
theorem set_get {α : Type} {S : List α} {i j : Nat} {x y : α} (h : (S.set i x)[j]? = some y) : (j = i ∧ y = x) ∨ (j ≠ i ∧ S[j]? = some y) := by
  rw [List.getElem?_set] at h
  by_cases e : i = j
  · rw [if_pos e] at h
    split at h
    · exact Or.inl ⟨e.symm, (Option.some.inj h).symm⟩
    · cases h
  · rw [if_neg e] at h; exact Or.inr ⟨fun e2 => e e2.symm, h⟩
/-- A relay's block, and what stands in its places. -/
structure RelC (w : World) (p wb g s : Nat) (S : List Slot) : Prop where
  block : w.heap[p]? = some (.cells (Value.pointer (some ⟨wb, 0, none⟩) :: Value.int .i64 (g : Int) :: Value.int .i64 (s : Int) :: S.map Slot.val).toArray 71 (0, 0))
  len : S.length = 16
  ok : ∀ x ∈ S, x.Ok w g s
  apart : ∀ (i j : Nat) (x y : Slot), i ≠ j → S[i]? = some x → S[j]? = some y → ∀ b, x.F b → ¬ y.F b
  off : ∀ x ∈ S, ∀ b, x.F b → b ≠ p ∧ b ≠ wb
  ne : p ≠ wb
  g1 : 1 ≤ g
  g2 : g ≤ 255
  s1 : 1 ≤ s
  s2 : s ≤ 65535
namespace RelC
variable {w w' w1 : World} {p wb g s : Nat} {S : List Slot} {G : Nat → Prop}
theorem lt (h : RelC w p wb g s S) : p < w.heap.size := (Array.getElem?_eq_some_iff.1 h.block).1
theorem c0 (h : RelC w p wb g s S) : w.cell? ⟨p, 0, none⟩ = some (.pointer (some ⟨wb, 0, none⟩)) := by simp [World.cell?, h.block]
theorem c1 (h : RelC w p wb g s S) : w.cell? ⟨p, 1, none⟩ = some (.int .i64 (g : Int)) := by simp [World.cell?, h.block]
theorem c2 (h : RelC w p wb g s S) : w.cell? ⟨p, 2, none⟩ = some (.int .i64 (s : Int)) := by simp [World.cell?, h.block]
theorem cs (h : RelC w p wb g s S) {i : Nat} {x : Slot} (hx : S[i]? = some x) : w.cell? ⟨p, 3 + i, none⟩ = some x.val := by
  simp only [World.cell?, h.block]
  rw [List.getElem?_toArray, show 3 + i = i + 1 + 1 + 1 by omega, List.getElem?_cons_succ, List.getElem?_cons_succ, List.getElem?_cons_succ, List.getElem?_map, hx]; rfl
theorem free (h : RelC w p wb g s S) (i : Nat) : w.frozen? ⟨p, i, none⟩ = false := by simp [World.frozen?, h.block]
theorem turned (h : RelC w p wb g s S) (t : Turned G w w') (hp : ¬ G p) (hd : ∀ x ∈ S, ∀ b, x.F b → ¬ G b) : RelC w' p wb g s S :=
  ⟨(t.block p h.lt hp).trans h.block, h.len, fun x hx => (h.ok x hx).turned t (hd x hx), h.apart, h.off, h.ne, h.g1, h.g2, h.s1, h.s2⟩
theorem keep (h : RelC w p wb g s S) (k : Keep w w') : RelC w' p wb g s S := h.turned (Turned.of_keep (F := fun _ => False) k) (fun e => e) fun _ _ _ _ e => e
/-- What stands in a place has turned. -/
theorem put (h : RelC w p wb g s S) {i : Nat} {x x' : Slot} (hx : S[i]? = some x) (ok' : x'.Ok w' g s) (hp : x'.p = x.p) (hf : ∀ b, x'.F b → x.F b ∨ w.heap.size ≤ b) (t : Turned x.F w w') (hwb : wb < w.heap.size) : RelC w' p wb g s (S.set i x') := by
  have hi : i < S.length := (List.getElem?_eq_some_iff.1 hx).1
  have hm := List.mem_of_getElem? hx
  have hnp : ¬ x.F p := fun e => (h.off x hm p e).1 rfl
  have get : ∀ j y, (S.set i x')[j]? = some y → (j = i ∧ y = x') ∨ (j ≠ i ∧ S[j]? = some y) := fun j y hy => set_get hy
  have mem : ∀ y ∈ S.set i x', y = x' ∨ ∃ j, j ≠ i ∧ S[j]? = some y := fun y hy => by
    obtain ⟨j, hj⟩ := List.getElem?_of_mem hy
    rcases get j y hj with ⟨_, e⟩ | e
    · exact Or.inl e
    · exact Or.inr ⟨j, e⟩
  refine ⟨?_, by rw [List.length_set]; exact h.len, fun y hy => ?_, fun j k y z hjk hy hz b hb hc => ?_, fun y hy b hb => ?_, h.ne, h.g1, h.g2, h.s1, h.s2⟩
  · rw [t.block p h.lt hnp, h.block, List.map_set]
    have e1 : x'.val = x.val := by unfold Slot.val; rw [hp]
    have e2 : (S.map Slot.val).set i x'.val = S.map Slot.val := by
      rw [e1]
      refine List.ext_getElem? fun j => ?_
      rw [List.getElem?_set]
      by_cases e : i = j
      · subst e; rw [if_pos rfl, if_pos (by rw [List.length_map]; exact hi), List.getElem?_map, hx]; rfl
      · rw [if_neg e]
    rw [e2]
  · rcases mem y hy with rfl | ⟨j, hj, hy2⟩
    · exact ok'
    · exact (h.ok y (List.mem_of_getElem? hy2)).turned t fun b hb e => h.apart i j x y (fun e => hj e.symm) hx hy2 b e hb
  · rcases get j y hy with ⟨rfl, rfl⟩ | ⟨hj, hy2⟩
    · rcases get k z hz with ⟨rfl, rfl⟩ | ⟨hk, hz2⟩
      · exact hjk rfl
      · rcases hf b hb with e | e
        · exact h.apart j k x z hjk hx hz2 b e hc
        · have := (h.ok z (List.mem_of_getElem? hz2)).lt b hc; omega
    · rcases get k z hz with ⟨rfl, rfl⟩ | ⟨hk, hz2⟩
      · rcases hf b hc with e | e
        · exact h.apart j k y x hjk hy2 hx b hb e
        · have := (h.ok y (List.mem_of_getElem? hy2)).lt b hb; omega
      · exact h.apart j k y z hjk hy2 hz2 b hb hc
  · rcases mem y hy with rfl | ⟨j, hj, hy2⟩
    · rcases hf b hb with e | e
      · exact h.off x hm b e
      · have := h.lt; exact ⟨by omega, by omega⟩
    · exact h.off y (List.mem_of_getElem? hy2) b hb
/-- Another basis is laid into a place. -/
theorem set (h : RelC w p wb g s S) {i : Nat} {x' : Slot} (hi : i < 16) (k : Keep w w1) (ok' : x'.Ok w1 g s) (hf : ∀ b, x'.F b → w.heap.size ≤ b) (hwb : wb < w.heap.size) : RelC (w1.setCell ⟨p, 3 + i, none⟩ x'.val) p wb g s (S.set i x') := by
  have hl := h.lt
  have hn : i < S.length := by rw [h.len]; exact hi
  have get : ∀ j y, (S.set i x')[j]? = some y → (j = i ∧ y = x') ∨ (j ≠ i ∧ S[j]? = some y) := fun j y hy => set_get hy
  have mem : ∀ y ∈ S.set i x', y = x' ∨ ∃ j, j ≠ i ∧ S[j]? = some y := fun y hy => by
    obtain ⟨j, hj⟩ := List.getElem?_of_mem hy
    rcases get j y hj with ⟨_, e⟩ | e
    · exact Or.inl e
    · exact Or.inr ⟨j, e⟩
  have t : Turned (fun b => b = p) w1 (w1.setCell ⟨p, 3 + i, none⟩ x'.val) := Turned.set (F := fun b => b = p) w1 ⟨p, 3 + i, none⟩ x'.val rfl
  refine ⟨?_, by rw [List.length_set]; exact h.len, fun y hy => ?_, fun j q y z hjk hy hz b hb hc => ?_, fun y hy b hb => ?_, h.ne, h.g1, h.g2, h.s1, h.s2⟩
  · rw [bset ((k.block p hl).trans h.block), List.map_set]
    congr 2
    refine Array.ext' ?_
    rw [Array.toList_setIfInBounds]
    show List.set (_ :: _ :: _ :: _) (3 + i) _ = _
    rw [show 3 + i = i + 1 + 1 + 1 by omega, List.set_cons_succ, List.set_cons_succ, List.set_cons_succ]
  · rcases mem y hy with rfl | ⟨j, hj, hy2⟩
    · exact ok'.turned t fun b hb e => by have := hf b hb; omega
    · exact ((h.ok y (List.mem_of_getElem? hy2)).keep k).turned t fun b hb e => (h.off y (List.mem_of_getElem? hy2) b hb).1 e
  · rcases get j y hy with ⟨rfl, rfl⟩ | ⟨hj, hy2⟩
    · rcases get q z hz with ⟨rfl, rfl⟩ | ⟨hk, hz2⟩
      · exact hjk rfl
      · have := hf b hb
        have := (h.ok z (List.mem_of_getElem? hz2)).lt b hc; omega
    · rcases get q z hz with ⟨rfl, rfl⟩ | ⟨hk, hz2⟩
      · have := hf b hc
        have := (h.ok y (List.mem_of_getElem? hy2)).lt b hb; omega
      · exact h.apart j q y z hjk hy2 hz2 b hb hc
  · rcases mem y hy with rfl | ⟨j, hj, hy2⟩
    · have := hf b hb; exact ⟨by omega, by omega⟩
    · exact h.off y (List.mem_of_getElem? hy2) b hb
end RelC
/-- A relay of g and s, of width k and base b: generation n has the rows L n; all that it holds lies in blocks of F. -/
structure RelA (w : World) (F : Nat → Prop) (p g s k b : Nat) (L : Nat → List (List Nat)) (wb : Nat) (S : List Slot) : Prop where
  c : RelC w p wb g s S
  win : WinR w wb k b
  made : ∀ i x, S[i]? = some x → (x.p = none ↔ k ≤ i)
  fp : F p
  fw : F wb
  fs : ∀ x ∈ S, ∀ q, x.F q → F q
  lt : ∀ q, F q → q < w.heap.size
  in_ : ∀ n, winIn b k n = true → ∀ x, S[n % k]? = some x → x.B = L n
  out : ∀ n, winIn b k n = false → L n = []
  free : ∀ i x, i < k → S[i]? = some x → (∀ n, winIn b k n = true → n % k ≠ i) → x.B = []
def RelR (w : World) (F : Nat → Prop) (p g s k b : Nat) (L : Nat → List (List Nat)) : Prop := ∃ wb S, RelA w F p g s k b L wb S
/-- One generation has other rows. -/
def upd (L : Nat → List (List Nat)) (n : Nat) (B : List (List Nat)) : Nat → List (List Nat) := fun m => if m = n then B else L m
theorem upd_at (L : Nat → List (List Nat)) (n : Nat) (B : List (List Nat)) : upd L n B n = B := if_pos rfl
theorem upd_ne (L : Nat → List (List Nat)) {n m : Nat} (B : List (List Nat)) (h : m ≠ n) : upd L n B m = L m := if_neg h
/-- Two of a window do not meet in a slot. -/
theorem slot_inj {b k n m : Nat} (hk : 1 ≤ k) (hn : winIn b k n = true) (hm : winIn b k m = true) (h : n % k = m % k) : n = m := by
  rw [winIn_iff, endN] at hn hm
  rcases Nat.lt_or_ge n m with e | e
  · have h1 := Nat.sub_mod_eq_zero_of_mod_eq h.symm
    rw [Nat.mod_eq_of_lt (by omega)] at h1
    omega
  · have h1 := Nat.sub_mod_eq_zero_of_mod_eq h
    rw [Nat.mod_eq_of_lt (by omega)] at h1
    omega
section
variable {w w' : World} {F G : Nat → Prop} {p g s k b wb : Nat} {L : Nat → List (List Nat)} {S : List Slot}
theorem RelA.r (h : RelA w F p g s k b L wb S) : RelR w F p g s k b L := ⟨wb, S, h⟩
theorem RelA.turned (h : RelA w F p g s k b L wb S) (t : Turned G w w') (hd : ∀ q, F q → ¬ G q) : RelA w' F p g s k b L wb S :=
  ⟨h.c.turned t (hd p h.fp) fun x hx q hq => hd q (h.fs x hx q hq), h.win.turned t (hd wb h.fw), h.made, h.fp, h.fw, h.fs, fun q hq => Nat.lt_of_lt_of_le (h.lt q hq) t.size, h.in_, h.out, h.free⟩
theorem RelA.keep (h : RelA w F p g s k b L wb S) (t : Keep w w') : RelA w' F p g s k b L wb S := h.turned (Turned.of_keep (F := fun _ => False) t) fun _ _ e => e
theorem RelR.turned (h : RelR w F p g s k b L) (t : Turned G w w') (hd : ∀ q, F q → ¬ G q) : RelR w' F p g s k b L := by
  obtain ⟨wb, S, h⟩ := h; exact (h.turned t hd).r
theorem RelR.keep (h : RelR w F p g s k b L) (t : Keep w w') : RelR w' F p g s k b L := by
  obtain ⟨wb, S, h⟩ := h; exact (h.keep t).r
theorem RelR.lt (h : RelR w F p g s k b L) : ∀ q, F q → q < w.heap.size := by
  obtain ⟨wb, S, h⟩ := h; exact h.lt
theorem RelR.out (h : RelR w F p g s k b L) : ∀ n, winIn b k n = false → L n = [] := by
  obtain ⟨wb, S, h⟩ := h; exact h.out
/-- The place of a generation that is in the window. -/
theorem RelA.at_ (h : RelA w F p g s k b L wb S) {n : Nat} (hn : winIn b k n = true) : ∃ x q, S[n % k]? = some x ∧ x.p = some q ∧ x.B = L n ∧ BasR w x.F q g s (L n) := by
  have h1 := h.win.low
  have h2 := h.win.high
  have hm : n % k < k := Nat.mod_lt _ (by omega)
  obtain ⟨x, hx⟩ : ∃ x, S[n % k]? = some x := ⟨_, List.getElem?_eq_getElem (by rw [h.c.len]; omega)⟩
  obtain ⟨q, hq⟩ : ∃ q, x.p = some q := by
    cases e : x.p with
    | none => have := (h.made _ x hx).1 e; omega
    | some q => exact ⟨q, rfl⟩
  have hB := h.in_ n hn x hx
  exact ⟨x, q, hx, hq, hB, hB ▸ (h.c.ok x (List.mem_of_getElem? hx)).bas hq⟩
/-- Every generation's rows are a basis. -/
theorem RelR.bas (h : RelR w F p g s k b L) (n : Nat) : Bas g s (L n) := by
  obtain ⟨wb, S, h⟩ := h
  cases e : winIn b k n with
  | true => obtain ⟨x, q, _, _, _, hb⟩ := h.at_ e; exact hb.fine.1
  | false => rw [h.out n e]; exact Bas.nil g s
theorem RelR.fine (h : RelR w F p g s k b L) : 1 ≤ g ∧ g ≤ 255 ∧ 1 ≤ s ∧ s ≤ 65535 ∧ 1 ≤ k ∧ k ≤ 16 ∧ b ≤ topN := by
  obtain ⟨wb, S, h⟩ := h
  exact ⟨h.c.g1, h.c.g2, h.c.s1, h.c.s2, h.win.low, h.win.high, h.win.top⟩
/-- One generation's basis has turned. -/
theorem RelA.put (h : RelA w F p g s k b L wb S) {n q : Nat} (hn : winIn b k n = true) {x : Slot} (hx : S[n % k]? = some x) (hq : x.p = some q) {F' : Nat → Prop} {B' : List (List Nat)} (r : BasR w' F' q g s B') (hf : ∀ j, F' j → x.F j ∨ w.heap.size ≤ j) (t : Turned x.F w w') :
    RelA w' (fun j => F j ∨ w.heap.size ≤ j ∧ j < w'.heap.size) p g s k b (upd L n B') wb (S.set (n % k) ⟨some q, F', B'⟩) := by
  have h1 := h.win.low
  have hm := List.mem_of_getElem? hx
  have hi : n % k < S.length := (List.getElem?_eq_some_iff.1 hx).1
  have get : ∀ j y, (S.set (n % k) ⟨some q, F', B'⟩)[j]? = some y → (j = n % k ∧ y = ⟨some q, F', B'⟩) ∨ (j ≠ n % k ∧ S[j]? = some y) := fun j y hy => set_get hy
  refine ⟨h.c.put hx (Slot.ok_of r) hq.symm hf t h.win.lt, h.win.turned t fun e => (h.c.off x hm wb e).2 rfl, fun i y hy => ?_, Or.inl h.fp, Or.inl h.fw, fun y hy j hj => ?_, fun j hj => ?_, fun m hmm y hy => ?_, fun m hmm => ?_, fun i y hi2 hy hno => ?_⟩
  · rcases get i y hy with ⟨rfl, rfl⟩ | ⟨_, hy2⟩
    · have := h.made _ x hx
      rw [hq] at this
      exact ⟨(fun e => by cases e), (fun e => by have := this.2 e; cases this)⟩
    · exact h.made i y hy2
  · obtain ⟨i, hi2⟩ := List.getElem?_of_mem hy
    rcases get i y hi2 with ⟨rfl, rfl⟩ | ⟨_, hy2⟩
    · rcases hf j hj with e | e
      · exact Or.inl (h.fs x hm j e)
      · exact Or.inr ⟨e, r.fine.2.2.2.2.2 j hj⟩
    · exact Or.inl (h.fs y (List.mem_of_getElem? hy2) j hj)
  · rcases hj with e | e
    · exact Nat.lt_of_lt_of_le (h.lt j e) t.size
    · exact e.2
  · rcases get _ y hy with ⟨e, rfl⟩ | ⟨e, hy2⟩
    · rw [slot_inj h1 hmm hn e, upd_at]
    · rw [upd_ne _ _ fun e2 => e (by rw [e2])]; exact h.in_ m hmm y hy2
  · rw [upd_ne _ _ fun e2 => by rw [e2, hn] at hmm; cases hmm]; exact h.out m hmm
  · rcases get i y hy with ⟨rfl, rfl⟩ | ⟨_, hy2⟩
    · exact (hno n hn rfl).elim
    · exact h.free i y hi2 hy2 hno
end
end Go.Proofs.YtifopodnceopjaaGreatDoor
/- The landed relay: what is asked of one generation. -/
namespace Go.Proofs.YtifopodnceopjaaGreatDoor
open Go.RowKit Lin
set_option linter.unusedVariables false
set_option linter.unusedSimpArgs false
section
variable {w : World} {p wb : Nat}
theorem rmade_any (c0 : w.cell? ⟨p, 0, none⟩ = some (.pointer (some ⟨wb, 0, none⟩))) : Calls Tryz.prog 52 #[.pointer (some ⟨p, 0, none⟩)] w fun e w' => e = .returned (.bool true) ∧ w' = w := by
  go_enter Tryz.func52, Tryz.ntmps52
  go_wp2_with fail
  go_ret
  exact ⟨rfl, rfl⟩
end
section
variable {w : World} {F : Nat → Prop} {p g s k b wb : Nat} {L : Nat → List (List Nat)} {S : List Slot}
theorem slot_in (h : WinR w wb k b) {n m : Nat} (hn : n < 18446744073709551616) (hin : winIn b k n = true) (hm : n % k = m) : Calls Tryz.prog 55 #[.pointer (some ⟨wb, 0, none⟩), .int .u64 (n : Int)] w fun e w' => e = .returned (.tuple #[.int .i64 (m : Int), .int .i64 0]) ∧ w' = w :=
  (slot_any n hn h).mono fun e w' hh => ⟨by rw [hh.1, slotV, slotE, if_pos hin, if_pos hin, hm], hh.2⟩
theorem slot_no (h : WinR w wb k b) {n : Nat} (hn : n < 18446744073709551616) (hin : winIn b k n = false) : Calls Tryz.prog 55 #[.pointer (some ⟨wb, 0, none⟩), .int .u64 (n : Int)] w fun e w' => e = .returned (.tuple #[.int .i64 0, .int .i64 1]) ∧ w' = w :=
  (slot_any n hn h).mono fun e w' hh => ⟨by rw [hh.1, slotV, slotE, if_neg (by rw [hin]; decide), if_neg (by rw [hin]; decide)]; rfl, hh.2⟩
theorem ask_bool_in (h : RelA w F p g s k b L wb S) (n q5 : Nat) (hn : n < 18446744073709551616) (hin : winIn b k n = true) {x : Slot} {q : Nat} (hx : S[n % k]? = some x) (hq : x.p = some q) {Q : Value → Value → World → Prop}
    (hf : Calls Tryz.prog 20 #[.pointer (some ⟨q, 0, none⟩), .pointer (some ⟨q5, 0, none⟩)] w fun e w' => ∃ a c, e = .returned (.tuple #[a, c]) ∧ Q a c w') :
    Calls Tryz.prog 19 #[.pointer (some ⟨p, 0, none⟩), .int .u64 (n : Int), .func (.func 20) #[] #[.pointer (some ⟨q5, 0, none⟩)]] w fun e w' => ∃ a c, e = .returned (.tuple #[a, c]) ∧ Q a c w' := by
  have h1 := h.win.low
  have h2 := h.win.high
  obtain ⟨m, hm⟩ : ∃ m, n % k = m := ⟨_, rfl⟩
  have hmk : m < 16 := by have := Nat.mod_lt n (show 0 < k by omega); omega
  rw [hm] at hx
  have c0 := h.c.c0
  have cs := h.c.cs hx
  rw [Slot.val, hq] at cs
  replace cs : w.cell? ⟨p, 3 + m, none⟩ = some (.pointer (some ⟨q, 0, none⟩)) := cs
  have HS := Lib.hid (slot_in h.win hn hin hm)
  have HM := Lib.hid (rmade_any c0)
  have HF := Lib.hid hf
  clear hf h h1 h2 hx hin hn hm hq
  go_enter Tryz.func19, Tryz.ntmps19
  go_wp2_with fail
  refine HM.out.mono ?_
  rintro e w1 ⟨rfl, rfl⟩
  go_wp2_with fail
  refine HS.out.mono ?_
  rintro e w1 ⟨rfl, rfl⟩
  go_wp2_with fail
  refine HF.out.mono ?_
  rintro e w1 ⟨a, c, rfl, hQ⟩
  have HQ := Lib.hid hQ
  clear hQ
  go_wp2_with fail
  go_ret2
  exact ⟨a, c, rfl, HQ.out⟩
theorem ask_int_in (h : RelA w F p g s k b L wb S) (n : Nat) (hn : n < 18446744073709551616) (hin : winIn b k n = true) {x : Slot} {q : Nat} (hx : S[n % k]? = some x) (hq : x.p = some q) {Q : Value → Value → World → Prop}
    (hf : Calls Tryz.prog 29 #[.pointer (some ⟨q, 0, none⟩)] w fun e w' => ∃ a c, e = .returned (.tuple #[a, c]) ∧ Q a c w') :
    Calls Tryz.prog 28 #[.pointer (some ⟨p, 0, none⟩), .int .u64 (n : Int), .func (.func 29) #[] #[]] w fun e w' => ∃ a c, e = .returned (.tuple #[a, c]) ∧ Q a c w' := by
  have h1 := h.win.low
  have h2 := h.win.high
  obtain ⟨m, hm⟩ : ∃ m, n % k = m := ⟨_, rfl⟩
  have hmk : m < 16 := by have := Nat.mod_lt n (show 0 < k by omega); omega
  rw [hm] at hx
  have c0 := h.c.c0
  have cs := h.c.cs hx
  rw [Slot.val, hq] at cs
  replace cs : w.cell? ⟨p, 3 + m, none⟩ = some (.pointer (some ⟨q, 0, none⟩)) := cs
  have HS := Lib.hid (slot_in h.win hn hin hm)
  have HM := Lib.hid (rmade_any c0)
  have HF := Lib.hid hf
  clear hf h h1 h2 hx hin hn hm hq
  go_enter Tryz.func28, Tryz.ntmps28
  go_wp2_with fail
  refine HM.out.mono ?_
  rintro e w1 ⟨rfl, rfl⟩
  go_wp2_with fail
  refine HS.out.mono ?_
  rintro e w1 ⟨rfl, rfl⟩
  go_wp2_with fail
  refine HF.out.mono ?_
  rintro e w1 ⟨a, c, rfl, hQ⟩
  have HQ := Lib.hid hQ
  clear hQ
  go_wp2_with fail
  go_ret2
  exact ⟨a, c, rfl, HQ.out⟩
theorem ask_int_out (h : RelA w F p g s k b L wb S) (n : Nat) (hn : n < 18446744073709551616) (hin : winIn b k n = false) :
    Calls Tryz.prog 28 #[.pointer (some ⟨p, 0, none⟩), .int .u64 (n : Int), .func (.func 29) #[] #[]] w fun e w' => e = .returned (.tuple #[.int .i64 0, .int .i64 23]) ∧ w' = w := by
  have c0 := h.c.c0
  have HS := Lib.hid (slot_no h.win hn hin)
  have HM := Lib.hid (rmade_any c0)
  clear h hin hn
  go_enter Tryz.func28, Tryz.ntmps28
  go_wp2_with fail
  refine HM.out.mono ?_
  rintro e w1 ⟨rfl, rfl⟩
  go_wp2_with fail
  refine HS.out.mono ?_
  rintro e w1 ⟨rfl, rfl⟩
  go_wp2_with fail
  go_ret2
  exact ⟨rfl, rfl⟩
theorem ask_rows_in (h : RelA w F p g s k b L wb S) (n : Nat) (hn : n < 18446744073709551616) (hin : winIn b k n = true) {x : Slot} {q : Nat} (hx : S[n % k]? = some x) (hq : x.p = some q) {Q : Value → Value → World → Prop}
    (hf : Calls Tryz.prog 42 #[.pointer (some ⟨q, 0, none⟩)] w fun e w' => ∃ a c, e = .returned (.tuple #[a, c]) ∧ Q a c w') :
    Calls Tryz.prog 41 #[.pointer (some ⟨p, 0, none⟩), .int .u64 (n : Int), .func (.func 42) #[] #[]] w fun e w' => ∃ a c, e = .returned (.tuple #[a, c]) ∧ Q a c w' := by
  have h1 := h.win.low
  have h2 := h.win.high
  obtain ⟨m, hm⟩ : ∃ m, n % k = m := ⟨_, rfl⟩
  have hmk : m < 16 := by have := Nat.mod_lt n (show 0 < k by omega); omega
  rw [hm] at hx
  have c0 := h.c.c0
  have cs := h.c.cs hx
  rw [Slot.val, hq] at cs
  replace cs : w.cell? ⟨p, 3 + m, none⟩ = some (.pointer (some ⟨q, 0, none⟩)) := cs
  have HS := Lib.hid (slot_in h.win hn hin hm)
  have HM := Lib.hid (rmade_any c0)
  have HF := Lib.hid hf
  clear hf h h1 h2 hx hin hn hm hq
  go_enter Tryz.func41, Tryz.ntmps41
  go_wp2_with fail
  refine HM.out.mono ?_
  rintro e w1 ⟨rfl, rfl⟩
  go_wp2_with fail
  refine HS.out.mono ?_
  rintro e w1 ⟨rfl, rfl⟩
  go_wp2_with fail
  refine HF.out.mono ?_
  rintro e w1 ⟨a, c, rfl, hQ⟩
  have HQ := Lib.hid hQ
  clear hQ
  go_wp2_with fail
  go_ret2
  exact ⟨a, c, rfl, HQ.out⟩
theorem ask_rows_out (h : RelA w F p g s k b L wb S) (n : Nat) (hn : n < 18446744073709551616) (hin : winIn b k n = false) :
    Calls Tryz.prog 41 #[.pointer (some ⟨p, 0, none⟩), .int .u64 (n : Int), .func (.func 42) #[] #[]] w fun e w' => e = .returned (.tuple #[.slice none 0 0, .int .i64 23]) ∧ w' = w := by
  have c0 := h.c.c0
  have HS := Lib.hid (slot_no h.win hn hin)
  have HM := Lib.hid (rmade_any c0)
  clear h hin hn
  go_enter Tryz.func41, Tryz.ntmps41
  go_wp2_with fail
  refine HM.out.mono ?_
  rintro e w1 ⟨rfl, rfl⟩
  go_wp2_with fail
  refine HS.out.mono ?_
  rintro e w1 ⟨rfl, rfl⟩
  go_wp2_with fail
  go_ret2
  exact ⟨rfl, rfl⟩
theorem ask_syms_in (h : RelA w F p g s k b L wb S) (n : Nat) (hn : n < 18446744073709551616) (hin : winIn b k n = true) {x : Slot} {q : Nat} (hx : S[n % k]? = some x) (hq : x.p = some q) {Q : Value → Value → World → Prop}
    (hf : Calls Tryz.prog 50 #[.pointer (some ⟨q, 0, none⟩)] w fun e w' => ∃ a c, e = .returned (.tuple #[a, c]) ∧ Q a c w') :
    Calls Tryz.prog 49 #[.pointer (some ⟨p, 0, none⟩), .int .u64 (n : Int), .func (.func 50) #[] #[]] w fun e w' => ∃ a c, e = .returned (.tuple #[a, c]) ∧ Q a c w' := by
  have h1 := h.win.low
  have h2 := h.win.high
  obtain ⟨m, hm⟩ : ∃ m, n % k = m := ⟨_, rfl⟩
  have hmk : m < 16 := by have := Nat.mod_lt n (show 0 < k by omega); omega
  rw [hm] at hx
  have c0 := h.c.c0
  have cs := h.c.cs hx
  rw [Slot.val, hq] at cs
  replace cs : w.cell? ⟨p, 3 + m, none⟩ = some (.pointer (some ⟨q, 0, none⟩)) := cs
  have HS := Lib.hid (slot_in h.win hn hin hm)
  have HM := Lib.hid (rmade_any c0)
  have HF := Lib.hid hf
  clear hf h h1 h2 hx hin hn hm hq
  go_enter Tryz.func49, Tryz.ntmps49
  go_wp2_with fail
  refine HM.out.mono ?_
  rintro e w1 ⟨rfl, rfl⟩
  go_wp2_with fail
  refine HS.out.mono ?_
  rintro e w1 ⟨rfl, rfl⟩
  go_wp2_with fail
  refine HF.out.mono ?_
  rintro e w1 ⟨a, c, rfl, hQ⟩
  have HQ := Lib.hid hQ
  clear hQ
  go_wp2_with fail
  go_ret2
  exact ⟨a, c, rfl, HQ.out⟩
/-- A row told: both of its sides new. -/
def NewRow (w : World) (cs ps : List Nat) (er : Int) (e : Ending) (w' : World) : Prop :=
  ∃ A2 n2 c2 A3 n3 c3, e = .returned (.tuple #[.agg #[.slice A2 n2 c2, .slice A3 n3 c3], .int .i64 er]) ∧ Own w' w.heap.size 5 A2 n2 c2 cs ∧ Own w' w.heap.size 5 A3 n3 c3 ps ∧ Keep w w'
theorem NewRow.lower {w w0 w' : World} {cs ps : List Nat} {er : Int} {e : Ending} (h : NewRow w cs ps er e w') (k : Keep w0 w) : NewRow w0 cs ps er e w' := by
  obtain ⟨A2, n2, c2, A3, n3, c3, e1, e2, e3, e4⟩ := h
  exact ⟨A2, n2, c2, A3, n3, c3, e1, e2.lower k.size, e3.lower k.size, k.trans e4⟩
theorem two_blocks (w : World) : ((w.alloc (.cells #[.slice none 0 0, .slice none 0 0] 38)).alloc (.cells #[.slice none 0 0, .slice none 0 0] 38)).heap[w.heap.size]? = some (.cells #[.slice none 0 0, .slice none 0 0] 38 (0, 0)) ∧ ((w.alloc (.cells #[.slice none 0 0, .slice none 0 0] 38)).alloc (.cells #[.slice none 0 0, .slice none 0 0] 38)).heap[w.heap.size + 1]? = some (.cells #[.slice none 0 0, .slice none 0 0] 38 (0, 0)) ∧ Keep w ((w.alloc (.cells #[.slice none 0 0, .slice none 0 0] 38)).alloc (.cells #[.slice none 0 0, .slice none 0 0] 38)) := by
  have k1 : Keep (w.alloc (.cells #[.slice none 0 0, .slice none 0 0] 38)) ((w.alloc (.cells #[.slice none 0 0, .slice none 0 0] 38)).alloc (.cells #[.slice none 0 0, .slice none 0 0] 38)) := (Keep.refl _).alloc _ _
  have h1 := heap_alloc_new w (.cells #[.slice none 0 0, .slice none 0 0] 38)
  have h2 := heap_alloc_new (w.alloc (.cells #[.slice none 0 0, .slice none 0 0] 38)) (.cells #[.slice none 0 0, .slice none 0 0] 38)
  rw [show (w.alloc (.cells #[.slice none 0 0, .slice none 0 0] 38)).heap.size = w.heap.size + 1 by simp] at h2
  exact ⟨(k1.block _ (by simp)).trans h1, h2, ((Keep.refl w).alloc _ _).alloc _ _⟩
theorem ask_row_in (h : RelA w F p g s k b L wb S) (n q5 q6 : Nat) (hn : n < 18446744073709551616) (hin : winIn b k n = true) {x : Slot} {q : Nat} (hx : S[n % k]? = some x) (hq : x.p = some q) (cs ps : List Nat) (er : Int)
    (hf : ∀ w1, Keep w w1 → Calls Tryz.prog 23 #[.pointer (some ⟨q, 0, none⟩), .pointer (some ⟨q5, 0, none⟩), .pointer (some ⟨q6, 0, none⟩)] w1 (NewRow w1 cs ps er)) :
    Calls Tryz.prog 22 #[.pointer (some ⟨p, 0, none⟩), .int .u64 (n : Int), .func (.func 23) #[] #[.pointer (some ⟨q5, 0, none⟩), .pointer (some ⟨q6, 0, none⟩)]] w (NewRow w cs ps er) := by
  have hw0 := two_blocks w
  obtain ⟨w2, hw2⟩ : ∃ w2, ((w.alloc (.cells #[.slice none 0 0, .slice none 0 0] 38)).alloc (.cells #[.slice none 0 0, .slice none 0 0] 38)) = w2 := ⟨_, rfl⟩
  rw [hw2] at hw0
  have H0 := Lib.hid hw0
  have hsz : w2.heap.size = w.heap.size + 2 := by rw [← hw2]; simp
  have HSZ := Lib.hid hsz
  have HF := Lib.hid (hf w2 hw0.2.2)
  have h := h.keep hw0.2.2
  clear hsz hf hw0
  have h1 := h.win.low
  have h2 := h.win.high
  obtain ⟨m, hm⟩ : ∃ m, n % k = m := ⟨_, rfl⟩
  have hmk : m < 16 := by have := Nat.mod_lt n (show 0 < k by omega); omega
  rw [hm] at hx
  have c0 := h.c.c0
  have cs0 := h.c.cs hx
  rw [Slot.val, hq] at cs0
  have cs1 : w2.cell? ⟨p, 3 + m, none⟩ = some (.pointer (some ⟨q, 0, none⟩)) := cs0
  have HS := Lib.hid (slot_in h.win hn hin hm)
  have HM := Lib.hid (rmade_any c0)
  clear h h1 h2 hx hin hn hm hq cs0
  go_enter Tryz.func22, Tryz.ntmps22
  go_wp2_with fail
  refine HM.out.mono ?_
  rintro e w1 ⟨rfl, rfl⟩
  go_wp2_with fail
  refine HS.out.mono ?_
  rintro e w1 ⟨rfl, rfl⟩
  go_wp2_with fail
  refine HF.out.mono ?_
  rintro e w3 ⟨A2, n2, c2, A3, n3, c3, rfl, o1, o2, k1⟩
  have hb0 := (k1.block _ (by have := HSZ.out; omega)).trans H0.out.1
  have y0 : w3.cell? ⟨w.heap.size, 0, none⟩ = some (.slice none 0 0) := cell_of_row _ _ _ _ _ _ hb0
  have y1 : w3.cell? ⟨w.heap.size, 1, none⟩ = some (.slice none 0 0) := cell_of_row _ _ _ _ _ _ hb0
  have z0 : w3.frozen? ⟨w.heap.size, 0, none⟩ = false := by simp [World.frozen?, hb0]
  have z1 : w3.frozen? ⟨w.heap.size, 1, none⟩ = false := by simp [World.frozen?, hb0]
  have hb := bset (i := 1) (bset (i := 0) hb0 (.slice A2 n2 c2)) (.slice A3 n3 c3)
  have hk : Keep w ((w3.setCell ⟨w.heap.size, 0, none⟩ (.slice A2 n2 c2)).setCell ⟨w.heap.size, 1, none⟩ (.slice A3 n3 c3)) := ((H0.out.2.2.trans k1).setCell (a := ⟨w.heap.size, 0, none⟩) (Nat.le_refl _) _).setCell (a := ⟨w.heap.size, 1, none⟩) (Nat.le_refl _) _
  have O1 := Lib.hid ((((o1.lower (base' := w.heap.size + 1) (by have := HSZ.out; omega)).far (fun e => by have := (o1.1.lt _ e).1; have := HSZ.out; simp at *; omega) (.slice A2 n2 c2) (p := ⟨w.heap.size, 0, none⟩)).far (fun e => by have := (o1.1.lt _ e).1; have := HSZ.out; simp at *; omega) (.slice A3 n3 c3) (p := ⟨w.heap.size, 1, none⟩)).lower (base' := w.heap.size) (by omega))
  have O2 := Lib.hid ((((o2.lower (base' := w.heap.size + 1) (by have := HSZ.out; omega)).far (fun e => by have := (o2.1.lt _ e).1; have := HSZ.out; simp at *; omega) (.slice A2 n2 c2) (p := ⟨w.heap.size, 0, none⟩)).far (fun e => by have := (o2.1.lt _ e).1; have := HSZ.out; simp at *; omega) (.slice A3 n3 c3) (p := ⟨w.heap.size, 1, none⟩)).lower (base' := w.heap.size) (by omega))
  have HK := Lib.hid hk
  have HB := Lib.hid hb
  clear o1 o2 k1 hk hb hb0
  go_wp2_with fail
  refine bodyPost_ret (v := .tuple #[.agg #[.slice A2 n2 c2, .slice A3 n3 c3], .int .i64 er]) ?_ rfl ⟨A2, n2, c2, A3, n3, c3, rfl, O1.out, O2.out, HK.out⟩
  exact results_cell_tmp (p := 6) (u := 7) (ty := 38) rfl _ _ w.heap.size 38 _ (0, 0) _ rfl HB.out Tryz.underlying38 rfl infoRowSize
end
end Go.Proofs.YtifopodnceopjaaGreatDoor
/- The landed code of layer 7: Solve tells rows that stand apart. -/
namespace Go.Proofs.YtifopodnceopjaaGreatDoor
open Go.RowKit Lin
set_option linter.unusedVariables false
set_option linter.unusedSimpArgs false
/-- Symbols being told. -/
structure SolJ (w wr : World) (q g k : Nat) (B : List (List Nat)) (rs : List RowV) : Prop where
  base : w.heap.size = q
  st : OwnRows wr q 22 (some ⟨q, 0, none⟩) g g (rs ++ List.replicate (g - k) ⟨none, 0, 0, []⟩)
  len : rs.length = k
  own : ∀ r ∈ rs, Own wr (q + 1) 5 r.A r.n r.c r.xs
  xs : rowsXs rs = (B.take k).map (List.drop g)
  keep : Keep w wr
  inc : ∀ (i j : Nat) (r r' : RowV), i < j → rs[i]? = some r → rs[j]? = some r' → ∀ x y, (Value.slice r.A r.n r.c).ownBlock = some x → (Value.slice r'.A r'.n r'.c).ownBlock = some y → x < y
section
variable {w wr w2 : World} {q g k : Nat} {B : List (List Nat)} {rs : List RowV}
theorem SolJ.later (h : SolJ w wr q g k B rs) (kp : Keep wr w2) : SolJ w w2 q g k B rs :=
  ⟨h.base, h.st.keep kp, h.len, fun p hp => (h.own p hp).keep kp, h.xs, h.keep.trans kp, h.inc⟩
theorem SolJ.set (h : SolJ w wr q g k B rs) (hk : k < g) {r : RowV} {x : List Nat} (hr : Own wr (q + 1) 5 r.A r.n r.c r.xs) (hB : B[k]? = some x) (hx : r.xs = x.drop g) (hn : ∀ r0 ∈ rs, ∀ x y, (Value.slice r0.A r0.n r0.c).ownBlock = some x → (Value.slice r.A r.n r.c).ownBlock = some y → x < y) :
    SolJ w (wr.setCell ⟨q, k, none⟩ (.slice r.A r.n r.c)) q g (k + 1) B (rs ++ [r]) := by
  have T : Turned (fun b => b = q) wr (wr.setCell ⟨q, k, none⟩ (.slice r.A r.n r.c)) := Turned.set (F := fun b => b = q) wr ⟨q, k, none⟩ _ rfl
  refine ⟨h.base, ?_, by rw [List.length_append, h.len]; rfl, fun x hx => ?_, ?_, T.keep h.keep fun i e => by rw [e, h.base]; exact Nat.le_refl _, fun i j a b hij ha hb x y hx hy => ?_⟩
  · have e := h.st.stored (i := k) r
    rw [List.set_append_right _ _ (by rw [h.len]; exact Nat.le_refl _), h.len, Nat.sub_self, show g - k = (g - (k + 1)) + 1 by omega, List.replicate_succ, List.set_cons_zero] at e
    rwa [List.append_assoc]
  · have key : Own wr (q + 1) 5 x.A x.n x.c x.xs := by
      rcases List.mem_append.1 hx with e | e
      · exact h.own x e
      · rw [List.mem_singleton.1 e]; exact hr
    exact key.turned T fun b hb e => by have := (key.1.lt b hb).1; omega
  · have e := h.xs
    rw [rowsXs] at e ⊢
    rw [List.map_append, e, List.take_add_one, hB, Option.toList_some, List.map_append, List.map_singleton, List.map_singleton, hx]
  · rcases Nat.lt_or_ge j rs.length with hj | hj
    · rw [List.getElem?_append_left hj] at hb
      rw [List.getElem?_append_left (by omega)] at ha
      exact h.inc i j a b hij ha hb x y hx hy
    · rw [List.getElem?_append_right hj] at hb
      have hj0 : j - rs.length = 0 := by
        have := (List.getElem?_eq_some_iff.1 hb).1
        simpa using this
      rw [hj0] at hb
      obtain rfl : r = b := by simpa using hb
      rw [List.getElem?_append_left (by omega)] at ha
      exact hn a (List.mem_of_getElem? ha) x y hx hy
end
section
variable {w : World} {F : Nat → Prop} {b g s : Nat} {B : List (List Nat)}
set_option maxRecDepth 100000 in
set_option maxHeartbeats 2000000 in
theorem bsolve_ap (h : BasR w F b g s B) (hg : B.length = g) : Calls Tryz.prog 51 #[.pointer (some ⟨b, 0, none⟩)] w fun e w' => ∃ A c rs, e = .returned (.tuple #[.slice A g c, .int .i64 0]) ∧ OwnRows w' w.heap.size 22 A g c rs ∧ (∀ r ∈ rs, Own w' w.heap.size 5 r.A r.n r.c r.xs) ∧ rowsXs rs = B.map (List.drop g) ∧ Keep w w' ∧ (∀ (i j : Nat) (r r' : RowV), i < j → rs[i]? = some r → rs[j]? = some r' → ∀ x y, (Value.slice r.A r.n r.c).ownBlock = some x → (Value.slice r'.A r'.n r'.c).ownBlock = some y → x < y) := by
  obtain ⟨A, n, c, ps, h⟩ := h.open_
  have hl := h.len
  obtain rfl : n = g := by omega
  have c0 := h.c0
  have c2 := h.c2
  have h1 := h.g1
  have hg2 := h.g2
  have H := Lib.hid h
  have HB := Lib.hid (And.intro (h.lt b h.at_) (And.intro c2 hl))
  have e1 : decide ((n : Int) < (n : Int)) = false := decide_eq_false (by omega)
  have e2 : decide (n < n) = false := decide_eq_false (by omega)
  have mks := fun w => run_make_rows (P := Tryz.prog) Tryz.underlying25 infoRow n (by omega) w
  have h0 : SolJ w ((w.alloc (.cells (madeCells #[.slice none 0 0] n) 22)).drew) w.heap.size n 0 B [] := by
    exact ⟨rfl, by simpa using (OwnRows.made w 22 n (by omega)).drew, rfl, fun p hp => by simp at hp, by simp [rowsXs], ((Keep.refl w).alloc _ _).drew, fun i j r r' _ h => by simp at h⟩
  obtain ⟨⟨q, hq⟩⟩ : Nonempty (∃ q, w.heap.size = q) := ⟨_, rfl⟩
  rw [hq] at h0
  have H0 := Lib.hid h0
  have HQ := Lib.hid hq
  clear h hl hg h0
  go_enter Tryz.func51, Tryz.ntmps51
  go_wp2_with fail
  refine (bmade_eq b n _ c0 h1).mono ?_
  rintro e w' ⟨rfl, rfl⟩
  go_wp2_with fail
  go_region
  go_upto_region 6 with fail
  try simp only [hq]
  clear hq
  generalize (w.alloc (.cells (madeCells #[.slice none 0 0] n) 22)).drew = w4 at *
  have c2' := (H0.out.keep.cell (p := ⟨b, 2, none⟩) HB.out.1).trans HB.out.2.1
  clear mks c0 c2
  go_wp2_with fail
  clear c2'
  go_loopw [30] (fun i wr => ∃ (k : Nat) (rs : List RowV), k ≤ n ∧ i = .int .i64 k ∧ SolJ w wr q n k B rs) (fun i _ => n - (intOf i).toNat)
  case atStart => exact ⟨0, [], by omega, rfl, H0.out⟩
  case round =>
    obtain ⟨k, rs, hk, rfl, hI⟩ := hrel
    have HI := Lib.hid hI
    clear hI H0
    by_cases hlt : k < n
    · obtain ⟨b2, o2, p, rfl, hb2, hp, hc1, hc3, hl2, hl3⟩ := (H.out.st.keep HI.out.keep).at_ hlt
      have hsz := H.out.size p (List.mem_of_getElem? hp)
      have hrow := (H.out.sides).2
      have hBk : B[k]? = some (p.a.xs ++ p.b.xs) := by rw [← H.out.xs, List.getElem?_map, hp]; rfl
      have hdr : p.b.xs = (p.a.xs ++ p.b.xs).drop n := by rw [List.drop_left' (H.out.lens (List.mem_of_getElem? hp)).1]
      obtain ⟨⟨pA, pn, pc, px⟩, ⟨sA, sn, sc, sx⟩⟩ := p
      obtain ⟨z1, z2⟩ := hsz
      simp only at z1 z2 hBk hdr
      obtain rfl : sn = s := z2
      have e3 : (0 : Int) ≤ (k : Int) := Int.natCast_nonneg _
      have e4 : (k : Int) < (n : Int) := by omega
      have HP := Lib.hid (And.intro hBk (And.intro hdr (And.intro (hl3.bytes (B := wr.heap.size) fun x hx => Nat.lt_of_lt_of_le (H.out.lt x hx) HI.out.keep.size) H.out.s2)))
      have HLT : Hid (k < n) := hlt
      clear hp hl2 hl3 hb2 hBk hdr hrow z1
      go_upto_region 9 with fail
      have hkw : Keep wr (wr.alloc (.cells #[.slice pA pn pc, .slice sA sn sc] 38)) := (Keep.refl wr).alloc _ _
      have hnew := heap_alloc_new wr (.cells #[.slice pA pn pc, .slice sA sn sc] 38)
      obtain ⟨q5, hq5⟩ : ∃ q5, wr.heap.size = q5 := ⟨_, rfl⟩
      have HQ5 := Lib.hid hq5
      rw [hq5] at hnew
      simp only [hq5]
      clear hc1 hc3
      generalize (wr.alloc (.cells #[.slice pA pn pc, .slice sA sn sc] 38)) = w5 at *
      have H5 := Lib.hid (HI.out.later hkw)
      have HKW := Lib.hid hkw
      have d1 : w5.cell? ⟨q5, 1, none⟩ = some (.slice sA sn sc) := cell_of_row _ _ _ _ _ _ hnew
      clear hnew hkw hq5
      go_wp2_with fail
      refine (clone_any _ _ _ _ sx _ (HP.out.2.2.1.keep (Nat.le_refl _) HKW.out) HKW.out.size (by have := HP.out.2.2.2; omega)).mono ?_
      rintro e w6 ⟨A6, n6, c6, rfl, o6, k6⟩
      have H6 := Lib.hid (H5.out.later k6)
      have O6 := Lib.hid o6
      have S5 := Lib.hid HKW.out.size
      have z0 := World.ownsRow.cellAt H6.out.st k (by omega)
      have f0 := World.ownsRow.frozenAt H6.out.st k
      rw [List.getElem?_map, List.getElem?_append_right (by rw [H6.out.len]; exact Nat.le_refl _), H6.out.len, Nat.sub_self, show n - k = (n - (k + 1)) + 1 by omega, List.replicate_succ, List.getElem?_cons_zero] at z0
      change _ = some (Value.slice none 0 0) at z0
      clear d1 o6 k6
      go_wp2_with fail
      go_roundw
      case rel => exact ⟨k + 1, _, by omega, by go_num, H6.out.set hlt (r := ⟨A6, n6, c6, sx⟩) (O6.out.lower (by have h1 := S5.out; have h2 := HI.out.st.block (by omega); obtain ⟨g, e, _, hgl⟩ := h2; cases e; omega)) HP.out.1 HP.out.2.1 (fun r0 hr0 x y hx hy => by have h1 := (HI.out.own r0 hr0).1.lt x hx; have h2 := O6.out.1.lt y hy; have h3 := S5.out; omega)⟩
      case measure => simp [intOf]; omega
    · obtain rfl : k = n := by omega
      go_wp2_with fail
      go_ret2
      have o := HI.out.st
      rw [Nat.sub_self, List.replicate_zero, List.append_nil] at o
      refine ⟨_, _, rs, rfl, by rw [HQ.out]; exact o, fun r hr => (HI.out.own r hr).lower (by rw [HQ.out]; omega), ?_, HI.out.keep, HI.out.inc⟩
      rw [HI.out.xs, List.take_of_length_le (by rw [HB.out.2.2]; exact Nat.le_refl _)]
end
end Go.Proofs.YtifopodnceopjaaGreatDoor
/- Vector's landed contracts that stage 11 leans on: Lead, IsZero, Unit. -/
namespace Go.Proofs.YtifopodnceopjaaGreatDoor
open Go.RowKit
set_option linter.unusedVariables false
set_option linter.unusedSimpArgs false
theorem vzero_eq (B n ca : Nat) (A : Option Addr) (xs : List Nat) (w : World) (h : Bytes w B A n xs) (hn : n ≤ 140737488351232) :
    Calls Tryz.prog 98 #[.slice A n ca] w fun e w' => e = .returned (.bool (decide (vLead n xs < 0))) ∧ w = w' := by
  go_enter Tryz.func98, Tryz.ntmps98
  go_wp2_with fail
  refine (vlead_eq B n ca A xs w h hn).mono ?_
  rintro e w1 ⟨rfl, rfl⟩
  go_wp2_with fail
  go_ret
  exact ⟨rfl, rfl⟩
end Go.Proofs.YtifopodnceopjaaGreatDoor
/- The landed draw's contracts: isCount, Systematic, Turn, lay, orElse, Coefs. -/
namespace Go.Proofs.YtifopodnceopjaaGreatDoor
open Go.RowKit
set_option linter.unusedVariables false
set_option linter.unusedSimpArgs false
/-- What is drawn of n rows. -/
def coefN (n k : Nat) (xs : List Nat) : List Nat := if vLead n (fillN xs n) < 0 then vUnit n k else fillN xs n
theorem vUnit_len (n k : Nat) : (vUnit n k).length = n := tab_length _ _
theorem coefN_len (n k : Nat) (xs : List Nat) : (coefN n k xs).length = n := by
  unfold coefN; split
  · exact vUnit_len n k
  · exact fillN_len xs n
theorem count_any (n : Int) (b : Bool) (hb : b = decide (1 ≤ n ∧ n ≤ 255)) (w : World) :
    Calls Tryz.prog 64 #[.int .i64 n] w fun e w' => e = .returned (.bool b) ∧ w = w' := by
  by_cases h1 : 1 ≤ n
  · by_cases h2 : n ≤ 255
    · obtain rfl : b = true := by rw [hb]; exact decide_eq_true ⟨h1, h2⟩
      clear hb
      go_enter Tryz.func64, Tryz.ntmps64
      go_wp2_with fail
      go_ret
      exact ⟨rfl, rfl⟩
    · obtain rfl : b = false := by rw [hb]; exact decide_eq_false (fun h => h2 h.2)
      clear hb
      go_enter Tryz.func64, Tryz.ntmps64
      go_wp2_with fail
      go_ret
      exact ⟨rfl, rfl⟩
  · obtain rfl : b = false := by rw [hb]; exact decide_eq_false (fun h => h1 h.1)
    clear hb
    go_enter Tryz.func64, Tryz.ntmps64
    go_wp2_with fail
    go_ret
    exact ⟨rfl, rfl⟩
theorem sys_any (t n : Int) (b : Bool) (hb : b = decide (0 ≤ t ∧ t < n)) (w : World) :
    Calls Tryz.prog 65 #[.int .i64 t, .int .i64 n] w fun e w' => e = .returned (.bool b) ∧ w = w' := by
  by_cases h1 : 0 ≤ t
  · by_cases h2 : t < n
    · obtain rfl : b = true := by rw [hb]; exact decide_eq_true ⟨h1, h2⟩
      clear hb
      go_enter Tryz.func65, Tryz.ntmps65
      go_wp2_with fail
      go_ret
      exact ⟨rfl, rfl⟩
    · obtain rfl : b = false := by rw [hb]; exact decide_eq_false (fun h => h2 h.2)
      clear hb
      go_enter Tryz.func65, Tryz.ntmps65
      go_wp2_with fail
      go_ret
      exact ⟨rfl, rfl⟩
  · obtain rfl : b = false := by rw [hb]; exact decide_eq_false (fun h => h1 h.1)
    clear hb
    go_enter Tryz.func65, Tryz.ntmps65
    go_wp2_with fail
    go_ret
    exact ⟨rfl, rfl⟩
set_option maxHeartbeats 1000000 in
theorem lay_any (B n m c : Nat) (A : Option Addr) (xs : List Nat) (w : World) (h : Bytes w B A m xs) (hB : B ≤ w.heap.size) (hn : n ≤ 255) :
    Calls Tryz.prog 67 #[.slice A m c, .int .i64 (n : Int)] w (NewBytes w (fillN xs n)) := by
  have hmk := run_make_bytes (P := Tryz.prog) Tryz.underlying22 info5 n (by omega) w
  obtain ⟨w1, v1, hr, hg, hk⟩ := run_copy_fill (P := Tryz.prog) (n := n) (t := 22) (e := 5) (c := c) (ty := 3) Tryz.underlying22 (by kernel_rfl) h hB (by omega)
  have HG := Lib.hid hg
  have HK := Lib.hid hk
  clear h hg hk
  go_enter Tryz.func67, Tryz.ntmps67
  go_wp2_with fail
  go_ret
  exact ⟨_, n, n, rfl, HG.out, HK.out⟩
theorem instead_any (b1 b2 n k : Nat) (t1 t2 : TypeId) (w : World) (h1 : Held w b1 (.int .i64 (n : Int)) t1) (h2 : Held w b2 (.int .i64 (k : Int)) t2) (hk : k < n) (hn : n ≤ 255) :
    Calls Tryz.prog 68 #[.pointer (some ⟨b1, 0, none⟩), .pointer (some ⟨b2, 0, none⟩)] w (NewPair w (vUnit n k) 0) := by
  have c1 := h1.cell
  have c2 := h2.cell
  clear h1 h2
  go_enter Tryz.func68, Tryz.ntmps68
  go_wp2_with fail
  refine (vunit_in n k hk (by omega) _).mono ?_
  rintro e w1 ⟨A, m, c, rfl, ho, kp⟩
  have HO := Lib.hid ho
  have HK := Lib.hid kp
  clear ho kp
  go_wp2_with fail
  go_ret2
  exact ⟨_, _, _, rfl, HO.out, HK.out⟩
set_option maxHeartbeats 1000000 in
theorem orelse_any (b1 b2 n k c : Nat) (A : Option Addr) (xs : List Nat) (t1 t2 : TypeId) (w : World) (h : Own w w.heap.size 5 A n c xs ∨ Bytes w w.heap.size A n xs) (h1 : Held w b1 (.int .i64 (n : Int)) t1) (h2 : Held w b2 (.int .i64 (k : Int)) t2) (hk : k < n) (hn : n ≤ 255) :
    Calls Tryz.prog 66 #[.slice A n c, .func (.func 68) #[] #[.pointer (some ⟨b1, 0, none⟩), .pointer (some ⟨b2, 0, none⟩)]] w fun e w' =>
      (vLead n xs < 0 → NewPair w (vUnit n k) 0 e w') ∧ (¬ vLead n xs < 0 → e = .returned (.tuple #[.slice A n c, .int .i64 0]) ∧ w = w') := by
  have hb : Bytes w w.heap.size A n xs := by
    rcases h with h | h
    · exact h.bytes
    · exact h
  have H1 := Lib.hid h1
  have H2 := Lib.hid h2
  clear h h1 h2
  have HZ := Lib.hid (vzero_eq w.heap.size n c A xs w hb (by omega))
  clear hb
  by_cases hz : vLead n xs < 0
  · have HB : Hid (vLead n xs < 0) := hz
    have hd : decide (vLead n xs < 0) = true := decide_eq_true hz
    generalize decide (vLead n xs < 0) = q at *
    subst hd
    clear hz
    go_enter Tryz.func66, Tryz.ntmps66
    go_wp2_with fail
    refine HZ.out.mono ?_
    rintro e w1 ⟨rfl, rfl⟩
    go_wp2_with fail
    refine (instead_any b1 b2 n k t1 t2 _ H1.out H2.out hk hn).mono ?_
    rintro e w1 ⟨A', m, c', rfl, ho, kp⟩
    have HO := Lib.hid ho
    have HK := Lib.hid kp
    clear ho kp
    go_wp2_with fail
    go_ret2
    exact ⟨fun _ => ⟨_, _, _, rfl, HO.out, HK.out⟩, fun e => by have := HB.out; omega⟩
  · have HB : Hid (¬ vLead n xs < 0) := hz
    have hd : decide (vLead n xs < 0) = false := decide_eq_false hz
    generalize decide (vLead n xs < 0) = q at *
    subst hd
    clear hz
    go_enter Tryz.func66, Tryz.ntmps66
    go_wp2_with fail
    refine HZ.out.mono ?_
    rintro e w1 ⟨rfl, rfl⟩
    go_wp2_with fail
    go_ret2
    exact ⟨fun e => by have := HB.out; omega, fun _ => ⟨rfl, rfl⟩⟩
end Go.Proofs.YtifopodnceopjaaGreatDoor
/- The landed draw's contracts: Coefs. -/
namespace Go.Proofs.YtifopodnceopjaaGreatDoor
open Go.RowKit
set_option linter.unusedVariables false
set_option linter.unusedSimpArgs false
set_option maxHeartbeats 2000000 in
theorem coefs_any (B n k m c : Nat) (A : Option Addr) (xs : List Nat) (w : World) (h : Bytes w B A m xs) (hB : B ≤ w.heap.size) (h1 : 1 ≤ n) (hn : n ≤ 255) (hk : k < n) :
    Calls Tryz.prog 26 #[.slice A m c, .int .i64 (n : Int), .int .i64 (k : Int)] w (NewPair w (coefN n k xs) 0) := by
  have C1 := Lib.hid (count_any (n : Int) true (decide_eq_true (by omega)).symm)
  have C2 := Lib.hid (sys_any (k : Int) (n : Int) true (decide_eq_true (by omega)).symm)
  obtain ⟨w2, hw2⟩ : ∃ w2, (w.alloc (.cells #[.int .i64 (n : Int)] 3)).alloc (.cells #[.int .i64 (k : Int)] 3) = w2 := ⟨_, rfl⟩
  have k2 : Keep w w2 := by rw [← hw2]; exact ((Keep.refl w).alloc _ _).alloc _ _
  have g1 : Held w2 w.heap.size (.int .i64 (n : Int)) 3 := by
    rw [← hw2]; exact (Held.new rfl _ _).keep ((Keep.refl _).alloc _ _)
  have g2 : Held w2 (w.heap.size + 1) (.int .i64 (k : Int)) 3 := by
    rw [← hw2]; exact Held.new (by simp) _ _
  have HB2 := Lib.hid (h.keep hB k2)
  have HB2' : Hid (B ≤ w2.heap.size) := Nat.le_trans hB k2.size
  have q1 := g1.cell
  have q2 := g2.cell
  have G1 := Lib.hid g1
  have G2 := Lib.hid g2
  have K2 := Lib.hid k2
  clear h g1 g2 k2
  go_enter Tryz.func26, Tryz.ntmps26
  go_wp2_with fail
  refine (C1.out _).mono ?_
  rintro e w1 ⟨rfl, rfl⟩
  go_wp2_with fail
  refine (C2.out _).mono ?_
  rintro e w1 ⟨rfl, rfl⟩
  go_wp2_with fail
  refine (lay_any B n m c A xs _ HB2.out HB2'.out hn).mono ?_
  rintro e w3 ⟨A3, n3, c3, rfl, ho, kp⟩
  obtain rfl : n = n3 := by have := ho.length; rw [fillN_len] at this; exact this
  have HO := Lib.hid ho
  have HK := Lib.hid kp
  have E3 := Lib.hid (orelse_any _ _ n k c3 A3 (fillN xs n) _ _ w3 (Or.inr ho.bytes) (G1.out.keep kp) (G2.out.keep kp) hk hn)
  clear ho kp
  go_wp2_with fail
  refine E3.out.mono ?_
  rintro e w4 ⟨p1, p2⟩
  by_cases hz : vLead n (fillN xs n) < 0
  · have hc : coefN n k xs = vUnit n k := if_pos hz
    obtain ⟨A4, n4, c4, rfl, o4, k4⟩ := p1 hz
    have H4 : Hid (NewPair w (coefN n k xs) 0 (.returned (.tuple #[.slice A4 n4 c4, .int .i64 0])) w4) := by
      rw [hc]
      exact ⟨_, _, _, rfl, o4.lower ((K2.out.trans HK.out).size), (K2.out.trans HK.out).trans k4⟩
    clear p1 p2 o4 k4 hc hz
    go_wp2_with fail
    go_ret2
    exact H4.out
  · have hc : coefN n k xs = fillN xs n := if_neg hz
    obtain ⟨rfl, rfl⟩ := p2 (by omega)
    have H4 : Hid (NewPair w (coefN n k xs) 0 (.returned (.tuple #[.slice A3 n c3, .int .i64 0])) w3) := by
      rw [hc]
      exact ⟨_, _, _, rfl, HO.out.lower K2.out.size, K2.out.trans HK.out⟩
    clear p1 p2 hc hz
    go_wp2_with fail
    go_ret2
    exact H4.out
end Go.Proofs.YtifopodnceopjaaGreatDoor
/- The landed draw's contracts: Turn. -/
namespace Go.Proofs.YtifopodnceopjaaGreatDoor
open Go.RowKit
set_option linter.unusedVariables false
set_option linter.unusedSimpArgs false
/-- What a remainder is, as the walk writes it. -/
theorem rem_facts (s n : Nat) (hs : s < 18446744073709551616) (h1 : 1 ≤ n) (hn : n ≤ 255) : ∃ t : Nat, s % n = t ∧ t < n ∧ (s : Int).tmod (n : Int) = (t : Int) ∧ IntKind.u64.wrap (n : Int) = (n : Int) ∧ IntKind.u64.wrap (t : Int) = (t : Int) ∧ IntKind.i64.wrap (t : Int) = (t : Int) := by
  have ht : s % n < n := Nat.mod_lt _ (by omega)
  refine ⟨_, rfl, ht, ?_, ?_, ?_, ?_⟩
  · rw [Int.tmod_eq_emod_of_nonneg (by omega)]; omega
  · exact IntWalk.u64_in _ (by omega)
  · exact IntWalk.u64_in _ (by omega)
  · exact IntWalk.i64_in _ (by omega)
set_option maxHeartbeats 2000000 in
theorem turn_any (s n : Nat) (hs : s < 18446744073709551616) (h1 : 1 ≤ n) (hn : n ≤ 255) (w : World) :
    Calls Tryz.prog 25 #[.int .u64 (s : Int), .int .i64 (n : Int)] w fun e w' => e = .returned (.tuple #[.int .i64 (s % n : Nat), .int .i64 0]) ∧ w = w' := by
  obtain ⟨t, ht, hlt, e1, e2, e3, e4⟩ := rem_facts s n hs h1 hn
  have HT := Lib.hid ht
  have C1 := Lib.hid (count_any (n : Int) true (decide_eq_true (by omega)).symm)
  have n0 : ((n : Int) == 0) = false := beq_eq_false_iff_ne.2 (by omega)
  have n1 : (n : Int) ≠ 0 := by omega
  clear ht
  go_enter Tryz.func25, Tryz.ntmps25
  go_wp2_with fail
  refine (C1.out _).mono ?_
  rintro e w1 ⟨rfl, rfl⟩
  go_wp2_with fail
  go_ret2
  exact ⟨by rw [HT.out]; rfl, rfl⟩
end Go.Proofs.YtifopodnceopjaaGreatDoor
