/- The document's own relay: Move. -/
import Derived.Test.YtgelalbmhllccaaGreatQao
import Derived.Test.YtgelalbmhllccaaGreatQaj
import Derived.Deep.DeepCutAuto
import Derived.Deep.CutBlock
namespace Go.Proofs.YtgelalbmhllccaaGreat
open Go.RowKit Lin
set_option linter.unusedVariables false
set_option linter.unusedSimpArgs false
theorem pw_of {α : Type} {G : List α} {R : α → α → Prop} (h : ∀ (i j : Nat) (x y : α), i < j → G[i]? = some x → G[j]? = some y → R x y) : G.Pairwise R :=
  List.pairwise_iff_getElem.2 fun i j hi hj hij => h i j _ _ hij (List.getElem?_eq_getElem hi) (List.getElem?_eq_getElem hj)
theorem of_pw {α : Type} {G : List α} {R : α → α → Prop} (h : G.Pairwise R) : ∀ (i j : Nat) (x y : α), i < j → G[i]? = some x → G[j]? = some y → R x y := fun i j x y hij hx hy => by
  obtain ⟨hi, rfl⟩ := List.getElem?_eq_some_iff.1 hx
  obtain ⟨hj, rfl⟩ := List.getElem?_eq_some_iff.1 hy
  exact List.pairwise_iff_getElem.1 h i j hi hj hij
section
variable {w w' w0 w1 w2 : World} {F H F2 F3 : Nat → Prop} {p g s k b wb n c : Nat} {L L' : Nat → List (List Nat)} {A : Option Addr} {G : List GenS}
/-- Those that are still in the window stay. -/
theorem RefYA.sift {c' base r d : Nat} {V : Option Addr} (h : RefYA w F p g s k b L wb A n c G) (t : Turned (fun a => a = wb) w w1) (hw : RefW w1 wb k c') (kp : Keep w1 w2) (ho : OwnGn w2 base V r d (gnL (G.filter fun x => winIn c' k x.n))) (hb : w.heap.size ≤ base) :
    YNext w (w2.setCell ⟨p, 3, none⟩ (.slice V r d)) F (fun a => F a ∨ (Value.slice V r d).ownBlock = some a) p g s k c' (moveL c' k L) := by
  have ts : Turned (fun a => a = p) w2 (w2.setCell ⟨p, 3, none⟩ (.slice V r d)) := Turned.set (F := fun a => a = p) w2 ⟨p, 3, none⟩ _ rfl
  have own : ∀ a, (Value.slice V r d).ownBlock = some a → base ≤ a := ho.rowLe
  have hpl := h.lt p h.fp
  have hwl := h.lt wb h.fw
  have hp2 : w2.heap[p]? = w.heap[p]? := (kp.block p (Nat.lt_of_lt_of_le hpl t.size)).trans (t.block p hpl h.ne.1)
  have mem : ∀ x ∈ G.filter fun x => winIn c' k x.n, x ∈ G ∧ winIn c' k x.n = true := fun x hx => by
    have := List.mem_filter.1 hx; exact ⟨this.1, by simpa using this.2⟩
  have tt : Turned F w (w2.setCell ⟨p, 3, none⟩ (.slice V r d)) := (((Turned.refl F w).trans t fun j e => Or.inl (e ▸ h.fw)).trans (Turned.of_keep (F := F) kp) fun j e => Or.inl e).trans (Turned.set (F := F) w2 ⟨p, 3, none⟩ _ h.fp) fun j e => Or.inl e
  refine ⟨RefYA.r (wb := wb) (A := V) (n := r) (c := d) (G := G.filter fun x => winIn c' k x.n) ⟨?_, (hw.keep kp).turned ts fun e => h.ne.1 e.symm, (ho.turned ts fun a ha e => by have := own a ha; omega).lower (Nat.zero_le _), fun x hx => ?_, of_pw ((pw_of h.up).filter _), fun x hx => (mem x hx).2, fun i j x y hij hx hy => ?_, fun x hx a ha => ?_, ⟨h.ne.1, fun a ha => by have := own a ha; exact ⟨by omega, by omega⟩⟩, Or.inl h.fp, Or.inl h.fw, fun a ha => Or.inr ha, fun x hx a ha => Or.inl (h.fx x (mem x hx).1 a ha), fun a ha => ?_, h.g1, h.g2, h.s1, h.s2, fun x hx => ?_, fun m hm => ?_⟩, fun j e => e.imp id fun e => Nat.le_trans hb (own j e), tt⟩
  · rw [bset (hp2.trans h.block)]; rfl
  · have h1 := mem x hx
    exact (((h.ok x h1.1).turned t fun a ha e => (h.off x h1.1 a ha).2.1 e).turned (Turned.of_keep (F := fun _ => False) kp) fun _ _ e => e).turned ts fun a ha e => (h.off x h1.1 a ha).1 e
  · have hpw : (G.filter fun x => winIn c' k x.n).Pairwise fun x y => ∀ a, x.F a → ¬ y.F a := (pw_of fun i j x y hij hx hy => h.ap i j x y (by omega) hx hy).filter _
    rcases Nat.lt_or_ge i j with e | e
    · exact of_pw hpw i j x y e hx hy
    · exact fun a ha hb2 => of_pw hpw j i y x (by omega) hy hx a hb2 ha
  · have h1 := mem x hx
    have h2 := h.off x h1.1 a ha
    have h3 := h.lt a (h.fx x h1.1 a ha)
    exact ⟨h2.1, h2.2.1, fun e => by have := own a e; omega⟩
  · rcases ha with ha | ha
    · exact Nat.lt_of_lt_of_le (h.lt a ha) tt.size
    · exact Nat.lt_of_lt_of_le (World.ownsRow.lt ho a ha).2 ts.size
  · have h1 := mem x hx
    rw [moveL, if_pos h1.2]; exact h.l x h1.1
  · unfold moveL
    split
    · next hi => exact h.no m fun x hx e => hm x (List.mem_filter.2 ⟨hx, by rw [e]; simpa using hi⟩) e
    · rfl
theorem sift_more (c' k : Nat) {G : List GenS} {i : Nat} {x : GenS} (hx : G[i]? = some x) (h : winIn c' k x.n = true) : gnL ((G.take (i + 1)).filter fun x => winIn c' k x.n) = gnL ((G.take i).filter fun x => winIn c' k x.n) ++ [(x.n, x.q)] := by
  rw [List.take_add_one, hx, List.filter_append]
  simp [gnL, h]
theorem sift_same (c' k : Nat) {G : List GenS} {i : Nat} {x : GenS} (hx : G[i]? = some x) (h : winIn c' k x.n = false) : gnL ((G.take (i + 1)).filter fun x => winIn c' k x.n) = gnL ((G.take i).filter fun x => winIn c' k x.n) := by
  rw [List.take_add_one, hx, List.filter_append]
  simp [gnL, h]
theorem moveL_self (h : RefY w F p g s k b L) : moveL b k L = L := funext fun m => by
  unfold moveL
  split
  · rfl
  · next hi => exact (h.out (by simpa using hi)).symm
end
section
variable {w : World} {F : Nat → Prop} {p g s k b : Nat} {L : Nat → List (List Nat)}
set_option maxRecDepth 100000 in
set_option maxHeartbeats 2000000 in
theorem ymove_in (h : RefY w F p g s k b L) (c' : Nat) (hc : c' ≤ topN) :
    Calls Tryz.prog 18 #[.pointer (some ⟨p, 0, none⟩), .int .u64 (c' : Int)] w fun e w' => e = .returned (.int .i64 0) ∧ ∃ F', YNext w w' F F' p g s k c' (moveL c' k L) := by
  obtain ⟨wb, A, n, c, G, h⟩ := h
  have c2 := h.c2
  have HMV := Lib.hid (rmove_in c' hc h.win)
  have H := Lib.hid h
  have hn16 : n ≤ 16 := Nat.le_trans h.short h.win.high
  clear h
  go_enter Tryz.func18, Tryz.ntmps18
  go_wp2_with fail
  refine HMV.out.mono ?_
  rintro e w1 ⟨A1, n1, q1, rfl, -, hwx, tx⟩
  have hw1 : RefW w1 wb k c' := hwx
  have t1 : Turned (fun a => a = wb) w w1 := tx
  skip
  have hpb : w1.heap[p]? = _ := (t1.block p (H.out.lt p H.out.fp) H.out.ne.1).trans H.out.block
  have c21 : w1.cell? ⟨p, 2, none⟩ = some (.pointer (some ⟨wb, 0, none⟩)) := cell_of_row _ _ _ _ _ _ hpb
  have c31 : w1.cell? ⟨p, 3, none⟩ = some (.slice A n c) := cell_of_row _ _ _ _ _ _ hpb
  have HPB := Lib.hid hpb
  have HPL1 : Hid (p < w1.heap.size) := Nat.lt_of_lt_of_le (H.out.lt p H.out.fp) t1.size
  have HGN := Lib.hid (H.out.own.turned t1 fun a ha e => (H.out.ne.2 a ha).2 e).insO
  have HW1 := Lib.hid hw1
  have HT1 := Lib.hid t1
  have HC := Lib.hid (And.intro c21 c31)
  clear hpb hw1 t1 HMV c2
  go_wp2_with fail
  go_loopw [7, 8] (fun v iv wr => ∃ (i r d : Nat) (V : Option Addr), i ≤ n ∧ r ≤ i ∧ iv = .int .i64 (i : Int) ∧ v = .slice V r d ∧ Keep w1 wr ∧ OwnGn wr w1.heap.size V r d (gnL ((G.take i).filter fun x => winIn c' k x.n))) (fun _ iv _ => n - (intOf iv).toNat)
  case atStart => exact ⟨0, 0, 0, none, by omega, by omega, rfl, rfl, Keep.refl _, OwnGn.none_ _ _⟩
  case round =>
    clear c21 c31
    obtain ⟨i, r, d, V, hi, hr, rfl, rfl, hk, hO⟩ := hrel
    have HK := Lib.hid hk
    have HO := Lib.hid hO
    have HPL : Hid (p < wr.heap.size) := Nat.lt_of_lt_of_le HPL1.out hk.size
    have c2r := (World.cell?_of_block (a := ⟨p, 2, none⟩) (hk.block p HPL1.out)).trans HC.out.1
    have c3r := (World.cell?_of_block (a := ⟨p, 3, none⟩) (hk.block p HPL1.out)).trans HC.out.2
    clear hk hO
    have e0 : (0 : Int) ≤ (i : Int) := Int.natCast_nonneg _
    by_cases hlt : i < n
    · have e1 : (i : Int) < (n : Int) := by omega
      obtain ⟨bb, off, y, rfl, hb1, hb2, hy, hc1, hc2⟩ := (HGN.out.keep HK.out).at_ hlt
      obtain ⟨x, hx, rfl⟩ : ∃ x, G[i]? = some x ∧ y = (x.n, x.q) := by
        unfold gnL at hy
        rw [List.getElem?_map] at hy
        cases hg : G[i]? with
        | none => rw [hg] at hy; cases hy
        | some x => rw [hg] at hy; injection hy with hy; exact ⟨x, rfl, hy.symm⟩
      have HX := Lib.hid hx
      obtain ⟨xn, hxn⟩ : ∃ v, x.n = v := ⟨_, rfl⟩
      obtain ⟨xq, hxq⟩ : ∃ v, x.q = v := ⟨_, rfl⟩
      replace hc1 : wr.cell? ⟨bb, off + i * 2, none⟩ = some (.int .u64 (xn : Int)) := by rw [← hxn]; exact hc1
      replace hc2 : wr.cell? ⟨bb, off + i * 2 + 1, none⟩ = some (.pointer (some ⟨xq, 0, none⟩)) := by rw [← hxq]; exact hc2
      have HXN := Lib.hid (And.intro hxn hxq)
      have HBB := Lib.hid hb2
      have hin := fun (w' : World) (kw : Keep wr w') => rin_any xn (HW1.out.keep (HK.out.trans kw))
      have HIN := Lib.hid hin
      clear hb1 hb2 hy hx hxn hxq hin
      cases hwi : winIn c' k xn with
      | true =>
        rw [hwi] at HIN
        have HWI := Lib.hid hwi
        clear hwi
        go_upto_region 6 with fail
        refine wp_region_noPanic ?_
        refine wp_region_held_drew (S := fun wz => wz.cell? ⟨p, 2, none⟩ = some (.pointer (some ⟨wb, 0, none⟩)) ∧ wz.cell? ⟨p, 3, none⟩ = some (.slice (some ⟨bb, off, none⟩) n c) ∧ wz.cell? ⟨bb, off + i * 2, none⟩ = some (.int .u64 (xn : Int))) (by kernel_rfl) ⟨c2r, c3r, hc1⟩ (fun hHeld => ?_)
        refine wpAnyH_take (i := 0) (v := ?_) rfl (by kernel_rfl) (by kernel_rfl) (by kernel_rfl) (fun _ _ _ h => h) (Or.inl ⟨by rfl, ?_⟩) hHeld ?_
        rotate_left
        · intro wq hSw
          go_simp
          all_goals with_reducible rfl
        try simp only [Act.put, List.getElem_toArray, List.getElem_cons_succ, List.getElem_cons_zero, List.setIfInBounds_toArray, List.set_cons_zero, List.set_cons_succ]
        refine wpAnyH_take (i := 1) (v := ?_) rfl (by kernel_rfl) (by kernel_rfl) (by kernel_rfl) (fun _ _ _ h => h) (Or.inl ⟨by rfl, ?_⟩) hHeld ?_
        rotate_left
        · intro wq hSw
          go_simp
          all_goals with_reducible rfl
        try simp only [Act.put, List.getElem_toArray, List.getElem_cons_succ, List.getElem_cons_zero, List.setIfInBounds_toArray, List.set_cons_zero, List.set_cons_succ]
        refine wpAnyH_take (i := 2) (v := ?_) rfl (by kernel_rfl) (by kernel_rfl) (by kernel_rfl) (fun _ _ _ h => h) (Or.inl ⟨by rfl, ?_⟩) hHeld ?_
        rotate_left
        · intro wq hSw
          go_simp
          all_goals with_reducible rfl
        try simp only [Act.put, List.getElem_toArray, List.getElem_cons_succ, List.getElem_cons_zero, List.setIfInBounds_toArray, List.set_cons_zero, List.set_cons_succ]
        refine wpAnyH_take (i := 3) (v := ?_) rfl (by kernel_rfl) (by kernel_rfl) (by kernel_rfl) (fun _ _ _ h => h) (Or.inl ⟨by rfl, ?_⟩) hHeld ?_
        rotate_left
        · intro wq hSw
          have q0 := hSw.1
          go_simp
          all_goals with_reducible rfl
        try simp only [Act.put, List.getElem_toArray, List.getElem_cons_succ, List.getElem_cons_zero, List.setIfInBounds_toArray, List.set_cons_zero, List.set_cons_succ]
        refine wpAnyH_take (i := 4) (v := ?_) rfl (by kernel_rfl) (by kernel_rfl) (by kernel_rfl) (fun _ _ _ h => h) (Or.inl ⟨by rfl, ?_⟩) hHeld ?_
        rotate_left
        · intro wq hSw
          go_simp
          all_goals with_reducible rfl
        try simp only [Act.put, List.getElem_toArray, List.getElem_cons_succ, List.getElem_cons_zero, List.setIfInBounds_toArray, List.set_cons_zero, List.set_cons_succ]
        refine wpAnyH_take (i := 5) (v := ?_) rfl (by kernel_rfl) (by kernel_rfl) (by kernel_rfl) (fun _ _ _ h => h) (Or.inl ⟨by rfl, ?_⟩) hHeld ?_
        rotate_left
        · intro wq hSw
          go_simp
          all_goals with_reducible rfl
        try simp only [Act.put, List.getElem_toArray, List.getElem_cons_succ, List.getElem_cons_zero, List.setIfInBounds_toArray, List.set_cons_zero, List.set_cons_succ]
        refine wpAnyH_take (i := 6) (v := ?_) rfl (by kernel_rfl) (by kernel_rfl) (by kernel_rfl) (fun _ _ _ h => h) (Or.inl ⟨by rfl, ?_⟩) hHeld ?_
        rotate_left
        · intro wq hSw
          go_simp
          all_goals with_reducible rfl
        try simp only [Act.put, List.getElem_toArray, List.getElem_cons_succ, List.getElem_cons_zero, List.setIfInBounds_toArray, List.set_cons_zero, List.set_cons_succ]
        refine wpAnyH_take (i := 7) (v := ?_) rfl (by kernel_rfl) (by kernel_rfl) (by kernel_rfl) (fun _ _ _ h => h) (Or.inl ⟨by rfl, ?_⟩) hHeld ?_
        rotate_left
        · intro wq hSw
          have q0 := hSw.2.1
          go_simp
          all_goals with_reducible rfl
        try simp only [Act.put, List.getElem_toArray, List.getElem_cons_succ, List.getElem_cons_zero, List.setIfInBounds_toArray, List.set_cons_zero, List.set_cons_succ]
        refine wpAnyH_take (i := 8) (v := ?_) rfl (by kernel_rfl) (by kernel_rfl) (by kernel_rfl) (fun _ _ _ h => h) (Or.inl ⟨by rfl, ?_⟩) hHeld ?_
        rotate_left
        · intro wq hSw
          go_simp
          all_goals with_reducible rfl
        try simp only [Act.put, List.getElem_toArray, List.getElem_cons_succ, List.getElem_cons_zero, List.setIfInBounds_toArray, List.set_cons_zero, List.set_cons_succ]
        refine wpAnyH_take (i := 9) (v := ?_) rfl (by kernel_rfl) (by kernel_rfl) (by kernel_rfl) (fun _ _ _ h => h) (Or.inl ⟨by rfl, ?_⟩) hHeld ?_
        rotate_left
        · intro wq hSw
          have q0 := e0
          have q1 := e1
          go_simp
          all_goals with_reducible rfl
        try simp only [Act.put, List.getElem_toArray, List.getElem_cons_succ, List.getElem_cons_zero, List.setIfInBounds_toArray, List.set_cons_zero, List.set_cons_succ]
        refine wpAnyH_take (i := 10) (v := ?_) rfl (by kernel_rfl) (by kernel_rfl) (by kernel_rfl) (fun _ _ _ h => h) (Or.inl ⟨by rfl, ?_⟩) hHeld ?_
        rotate_left
        · intro wq hSw
          go_simp
          all_goals with_reducible rfl
        try simp only [Act.put, List.getElem_toArray, List.getElem_cons_succ, List.getElem_cons_zero, List.setIfInBounds_toArray, List.set_cons_zero, List.set_cons_succ]
        refine wpAnyH_take (i := 11) (v := ?_) rfl (by kernel_rfl) (by kernel_rfl) (by kernel_rfl) (fun _ _ _ h => h) (Or.inl ⟨by rfl, ?_⟩) hHeld ?_
        rotate_left
        · intro wq hSw
          have q0 := hSw.2.2
          go_simp
          all_goals with_reducible rfl
        try simp only [Act.put, List.getElem_toArray, List.getElem_cons_succ, List.getElem_cons_zero, List.setIfInBounds_toArray, List.set_cons_zero, List.set_cons_succ]
        refine wpAnyH_ready (rs := [12]) (by kernel_rfl) (by simp) ?_
        refine AllReadyH.cons rfl (fun K hK => ?_) AllReadyH.nil
        go_simp
        refine (HIN.out _ (Keep.drew (Keep.refl _))).mono ?_
        rintro e w5 ⟨rfl, k5⟩
        have k5' : Keep wr w5 := (Keep.drew (Keep.refl wr)).trans k5
        have hq5 : w5.cell? ⟨p, 2, none⟩ = some (.pointer (some ⟨wb, 0, none⟩)) ∧ w5.cell? ⟨p, 3, none⟩ = some (.slice (some ⟨bb, off, none⟩) n c) ∧ w5.cell? ⟨bb, off + i * 2, none⟩ = some (.int .u64 (xn : Int)) := ⟨(World.cell?_of_block (k5'.block _ HPL.out)).trans c2r, (World.cell?_of_block (k5'.block _ HPL.out)).trans c3r, (World.cell?_of_block (k5'.block _ HBB.out)).trans hc1⟩
        have hc25 : w5.cell? ⟨bb, off + i * 2 + 1, none⟩ = some (.pointer (some ⟨xq, 0, none⟩)) := (World.cell?_of_block (k5'.block _ HBB.out)).trans hc2
        have HK5 := Lib.hid k5'
        clear k5 k5'
        refine hK.out _ _ hq5 (fun hHeld => ?_)
        clear hK K
        try simp only [Act.put, List.getElem_toArray, List.getElem_cons_succ, List.getElem_cons_zero, List.setIfInBounds_toArray, List.set_cons_zero, List.set_cons_succ]
        refine wpAnyH_done (by kernel_rfl) ?_ _
        refine NoPanic.normal ?_
        clear hHeld
        obtain ⟨q1, q2, q3⟩ := hq5
        have HO5 := Lib.hid (HO.out.keep HK5.out)
        have HS5 := Lib.hid (HK.out.trans HK5.out)
        clear hc1 hc2 c2r c3r
        go_wp2_with (at_builtin; refine wpList_append_gns rfl _ _ 96 rfl (m := 1) (news := [(xn, xq)]) (Eq.refl (r + 1)) Tryz.underlying96 rfl (HO5.out.alloc _) rfl rfl (fun _ => ⟨w5.heap.size, 0, rfl, fun j p hj => by
            have hj0 : j = 0 := by
              rcases j with _ | j
              · rfl
              · simp at hj
            subst hj0
            injection hj with hj
            subst hj
            exact ⟨cell_of_row _ _ _ _ _ _ (heap_alloc_new _ _), cell_of_row _ _ _ _ _ _ (heap_alloc_new _ _)⟩⟩) (by omega) (by have := HS5.out.size; simp; omega) ?_)
        intro A8 c8 w8 o8 g8 b8
        have HK8 : Hid (Keep w1 w8) := (HS5.out.trans ((Keep.refl w5).alloc _ _)).grown g8 fun k hk => HO5.out.rowLe k hk
        have HO8 : Hid (OwnGn w8 w1.heap.size A8 (r + 1) c8 (gnL ((G.take (i + 1)).filter fun x => winIn c' k x.n))) := by
          show OwnGn _ _ _ _ _ _
          rw [sift_more c' k HX.out (by rw [HXN.out.1]; exact HWI.out), HXN.out.1, HXN.out.2]; exact o8
        clear o8 g8 b8 q1 q2 q3 hc25
        go_wp2_with fail
        go_roundw
        case rel => exact ⟨i + 1, r + 1, c8, A8, by omega, by omega, by go_num, rfl, HK8.out, HO8.out⟩
        case measure => simp [intOf]; omega
      | false =>
        rw [hwi] at HIN
        have HWI := Lib.hid hwi
        clear hwi
        go_upto_region 6 with fail
        refine wp_region_noPanic ?_
        refine wp_region_held_drew (S := fun wz => wz.cell? ⟨p, 2, none⟩ = some (.pointer (some ⟨wb, 0, none⟩)) ∧ wz.cell? ⟨p, 3, none⟩ = some (.slice (some ⟨bb, off, none⟩) n c) ∧ wz.cell? ⟨bb, off + i * 2, none⟩ = some (.int .u64 (xn : Int))) (by kernel_rfl) ⟨c2r, c3r, hc1⟩ (fun hHeld => ?_)
        refine wpAnyH_take (i := 0) (v := ?_) rfl (by kernel_rfl) (by kernel_rfl) (by kernel_rfl) (fun _ _ _ h => h) (Or.inl ⟨by rfl, ?_⟩) hHeld ?_
        rotate_left
        · intro wq hSw
          go_simp
          all_goals with_reducible rfl
        try simp only [Act.put, List.getElem_toArray, List.getElem_cons_succ, List.getElem_cons_zero, List.setIfInBounds_toArray, List.set_cons_zero, List.set_cons_succ]
        refine wpAnyH_take (i := 1) (v := ?_) rfl (by kernel_rfl) (by kernel_rfl) (by kernel_rfl) (fun _ _ _ h => h) (Or.inl ⟨by rfl, ?_⟩) hHeld ?_
        rotate_left
        · intro wq hSw
          go_simp
          all_goals with_reducible rfl
        try simp only [Act.put, List.getElem_toArray, List.getElem_cons_succ, List.getElem_cons_zero, List.setIfInBounds_toArray, List.set_cons_zero, List.set_cons_succ]
        refine wpAnyH_take (i := 2) (v := ?_) rfl (by kernel_rfl) (by kernel_rfl) (by kernel_rfl) (fun _ _ _ h => h) (Or.inl ⟨by rfl, ?_⟩) hHeld ?_
        rotate_left
        · intro wq hSw
          go_simp
          all_goals with_reducible rfl
        try simp only [Act.put, List.getElem_toArray, List.getElem_cons_succ, List.getElem_cons_zero, List.setIfInBounds_toArray, List.set_cons_zero, List.set_cons_succ]
        refine wpAnyH_take (i := 3) (v := ?_) rfl (by kernel_rfl) (by kernel_rfl) (by kernel_rfl) (fun _ _ _ h => h) (Or.inl ⟨by rfl, ?_⟩) hHeld ?_
        rotate_left
        · intro wq hSw
          have q0 := hSw.1
          go_simp
          all_goals with_reducible rfl
        try simp only [Act.put, List.getElem_toArray, List.getElem_cons_succ, List.getElem_cons_zero, List.setIfInBounds_toArray, List.set_cons_zero, List.set_cons_succ]
        refine wpAnyH_take (i := 4) (v := ?_) rfl (by kernel_rfl) (by kernel_rfl) (by kernel_rfl) (fun _ _ _ h => h) (Or.inl ⟨by rfl, ?_⟩) hHeld ?_
        rotate_left
        · intro wq hSw
          go_simp
          all_goals with_reducible rfl
        try simp only [Act.put, List.getElem_toArray, List.getElem_cons_succ, List.getElem_cons_zero, List.setIfInBounds_toArray, List.set_cons_zero, List.set_cons_succ]
        refine wpAnyH_take (i := 5) (v := ?_) rfl (by kernel_rfl) (by kernel_rfl) (by kernel_rfl) (fun _ _ _ h => h) (Or.inl ⟨by rfl, ?_⟩) hHeld ?_
        rotate_left
        · intro wq hSw
          go_simp
          all_goals with_reducible rfl
        try simp only [Act.put, List.getElem_toArray, List.getElem_cons_succ, List.getElem_cons_zero, List.setIfInBounds_toArray, List.set_cons_zero, List.set_cons_succ]
        refine wpAnyH_take (i := 6) (v := ?_) rfl (by kernel_rfl) (by kernel_rfl) (by kernel_rfl) (fun _ _ _ h => h) (Or.inl ⟨by rfl, ?_⟩) hHeld ?_
        rotate_left
        · intro wq hSw
          go_simp
          all_goals with_reducible rfl
        try simp only [Act.put, List.getElem_toArray, List.getElem_cons_succ, List.getElem_cons_zero, List.setIfInBounds_toArray, List.set_cons_zero, List.set_cons_succ]
        refine wpAnyH_take (i := 7) (v := ?_) rfl (by kernel_rfl) (by kernel_rfl) (by kernel_rfl) (fun _ _ _ h => h) (Or.inl ⟨by rfl, ?_⟩) hHeld ?_
        rotate_left
        · intro wq hSw
          have q0 := hSw.2.1
          go_simp
          all_goals with_reducible rfl
        try simp only [Act.put, List.getElem_toArray, List.getElem_cons_succ, List.getElem_cons_zero, List.setIfInBounds_toArray, List.set_cons_zero, List.set_cons_succ]
        refine wpAnyH_take (i := 8) (v := ?_) rfl (by kernel_rfl) (by kernel_rfl) (by kernel_rfl) (fun _ _ _ h => h) (Or.inl ⟨by rfl, ?_⟩) hHeld ?_
        rotate_left
        · intro wq hSw
          go_simp
          all_goals with_reducible rfl
        try simp only [Act.put, List.getElem_toArray, List.getElem_cons_succ, List.getElem_cons_zero, List.setIfInBounds_toArray, List.set_cons_zero, List.set_cons_succ]
        refine wpAnyH_take (i := 9) (v := ?_) rfl (by kernel_rfl) (by kernel_rfl) (by kernel_rfl) (fun _ _ _ h => h) (Or.inl ⟨by rfl, ?_⟩) hHeld ?_
        rotate_left
        · intro wq hSw
          have q0 := e0
          have q1 := e1
          go_simp
          all_goals with_reducible rfl
        try simp only [Act.put, List.getElem_toArray, List.getElem_cons_succ, List.getElem_cons_zero, List.setIfInBounds_toArray, List.set_cons_zero, List.set_cons_succ]
        refine wpAnyH_take (i := 10) (v := ?_) rfl (by kernel_rfl) (by kernel_rfl) (by kernel_rfl) (fun _ _ _ h => h) (Or.inl ⟨by rfl, ?_⟩) hHeld ?_
        rotate_left
        · intro wq hSw
          go_simp
          all_goals with_reducible rfl
        try simp only [Act.put, List.getElem_toArray, List.getElem_cons_succ, List.getElem_cons_zero, List.setIfInBounds_toArray, List.set_cons_zero, List.set_cons_succ]
        refine wpAnyH_take (i := 11) (v := ?_) rfl (by kernel_rfl) (by kernel_rfl) (by kernel_rfl) (fun _ _ _ h => h) (Or.inl ⟨by rfl, ?_⟩) hHeld ?_
        rotate_left
        · intro wq hSw
          have q0 := hSw.2.2
          go_simp
          all_goals with_reducible rfl
        try simp only [Act.put, List.getElem_toArray, List.getElem_cons_succ, List.getElem_cons_zero, List.setIfInBounds_toArray, List.set_cons_zero, List.set_cons_succ]
        refine wpAnyH_ready (rs := [12]) (by kernel_rfl) (by simp) ?_
        refine AllReadyH.cons rfl (fun K hK => ?_) AllReadyH.nil
        go_simp
        refine (HIN.out _ (Keep.drew (Keep.refl _))).mono ?_
        rintro e w5 ⟨rfl, k5⟩
        have k5' : Keep wr w5 := (Keep.drew (Keep.refl wr)).trans k5
        have hq5 : w5.cell? ⟨p, 2, none⟩ = some (.pointer (some ⟨wb, 0, none⟩)) ∧ w5.cell? ⟨p, 3, none⟩ = some (.slice (some ⟨bb, off, none⟩) n c) ∧ w5.cell? ⟨bb, off + i * 2, none⟩ = some (.int .u64 (xn : Int)) := ⟨(World.cell?_of_block (k5'.block _ HPL.out)).trans c2r, (World.cell?_of_block (k5'.block _ HPL.out)).trans c3r, (World.cell?_of_block (k5'.block _ HBB.out)).trans hc1⟩
        have hc25 : w5.cell? ⟨bb, off + i * 2 + 1, none⟩ = some (.pointer (some ⟨xq, 0, none⟩)) := (World.cell?_of_block (k5'.block _ HBB.out)).trans hc2
        have HK5 := Lib.hid k5'
        clear k5 k5'
        refine hK.out _ _ hq5 (fun hHeld => ?_)
        clear hK K
        try simp only [Act.put, List.getElem_toArray, List.getElem_cons_succ, List.getElem_cons_zero, List.setIfInBounds_toArray, List.set_cons_zero, List.set_cons_succ]
        refine wpAnyH_done (by kernel_rfl) ?_ _
        refine NoPanic.normal ?_
        clear hHeld
        clear hc1 hc2 c2r c3r hq5 hc25
        have HS5 := Lib.hid (HK.out.trans HK5.out)
        have HO5 : Hid (OwnGn w5 w1.heap.size V r d (gnL ((G.take (i + 1)).filter fun x => winIn c' k x.n))) := by
          show OwnGn _ _ _ _ _ _
          rw [sift_same c' k HX.out (by rw [HXN.out.1]; exact HWI.out)]; exact HO.out.keep HK5.out
        go_wp2_with fail
        go_roundw
        case rel => exact ⟨i + 1, r, d, V, by omega, by omega, by go_num, rfl, HS5.out, HO5.out⟩
        case measure => simp [intOf]; omega
    · have e1 : ¬ (i : Int) < (n : Int) := by omega
      have e1' : decide ((i : Int) < (n : Int)) = false := decide_eq_false e1
      have hfr : wr.frozen? ⟨p, 3, none⟩ = false := by
        have hb : wr.heap[p]? = _ := (HK.out.block p HPL1.out).trans HPB.out
        simp [World.frozen?, hb]
      have HLEN : Hid (G.take i = G) := List.take_of_length_le (by have := H.out.len; omega)
      go_wp2_with fail
      go_ret
      have ho := HO.out
      rw [HLEN.out] at ho
      have hs := H.out.sift HT1.out HW1.out HK.out ho (HT1.out.size)
      exact ⟨rfl, _, hs⟩
set_option maxRecDepth 100000 in
set_option maxHeartbeats 2000000 in
theorem ymove_out (h : RefY w F p g s k b L) (c' : Nat) (hc : topN < c') :
    Calls Tryz.prog 18 #[.pointer (some ⟨p, 0, none⟩), .int .u64 (c' : Int)] w fun e w' => e = .returned (.int .i64 1) ∧ ∃ F', YNext w w' F F' p g s k b L := by
  obtain ⟨wb, A, n, c, G, h⟩ := h
  have c2 := h.c2
  have HMV := Lib.hid (rmove_out (g := wb) c' hc w)
  have H := Lib.hid h
  have hn16 : n ≤ 16 := Nat.le_trans h.short h.win.high
  clear h
  go_enter Tryz.func18, Tryz.ntmps18
  go_wp2_with fail
  refine HMV.out.mono ?_
  rintro e w1 ⟨rfl, hww⟩
  have hw1 : RefW w1 wb k b := hww ▸ H.out.win
  have t1 : Turned (fun a => a = wb) w w1 := hww ▸ Turned.refl _ _
  clear hww
  have hpb : w1.heap[p]? = _ := (t1.block p (H.out.lt p H.out.fp) H.out.ne.1).trans H.out.block
  have c21 : w1.cell? ⟨p, 2, none⟩ = some (.pointer (some ⟨wb, 0, none⟩)) := cell_of_row _ _ _ _ _ _ hpb
  have c31 : w1.cell? ⟨p, 3, none⟩ = some (.slice A n c) := cell_of_row _ _ _ _ _ _ hpb
  have HPB := Lib.hid hpb
  have HPL1 : Hid (p < w1.heap.size) := Nat.lt_of_lt_of_le (H.out.lt p H.out.fp) t1.size
  have HGN := Lib.hid (H.out.own.turned t1 fun a ha e => (H.out.ne.2 a ha).2 e).insO
  have HW1 := Lib.hid hw1
  have HT1 := Lib.hid t1
  have HC := Lib.hid (And.intro c21 c31)
  clear hpb hw1 t1 HMV c2
  go_wp2_with fail
  go_loopw [7, 8] (fun v iv wr => ∃ (i r d : Nat) (V : Option Addr), i ≤ n ∧ r ≤ i ∧ iv = .int .i64 (i : Int) ∧ v = .slice V r d ∧ Keep w1 wr ∧ OwnGn wr w1.heap.size V r d (gnL ((G.take i).filter fun x => winIn b k x.n))) (fun _ iv _ => n - (intOf iv).toNat)
  case atStart => exact ⟨0, 0, 0, none, by omega, by omega, rfl, rfl, Keep.refl _, OwnGn.none_ _ _⟩
  case round =>
    clear c21 c31
    obtain ⟨i, r, d, V, hi, hr, rfl, rfl, hk, hO⟩ := hrel
    have HK := Lib.hid hk
    have HO := Lib.hid hO
    have HPL : Hid (p < wr.heap.size) := Nat.lt_of_lt_of_le HPL1.out hk.size
    have c2r := (World.cell?_of_block (a := ⟨p, 2, none⟩) (hk.block p HPL1.out)).trans HC.out.1
    have c3r := (World.cell?_of_block (a := ⟨p, 3, none⟩) (hk.block p HPL1.out)).trans HC.out.2
    clear hk hO
    have e0 : (0 : Int) ≤ (i : Int) := Int.natCast_nonneg _
    by_cases hlt : i < n
    · have e1 : (i : Int) < (n : Int) := by omega
      obtain ⟨bb, off, y, rfl, hb1, hb2, hy, hc1, hc2⟩ := (HGN.out.keep HK.out).at_ hlt
      obtain ⟨x, hx, rfl⟩ : ∃ x, G[i]? = some x ∧ y = (x.n, x.q) := by
        unfold gnL at hy
        rw [List.getElem?_map] at hy
        cases hg : G[i]? with
        | none => rw [hg] at hy; cases hy
        | some x => rw [hg] at hy; injection hy with hy; exact ⟨x, rfl, hy.symm⟩
      have HX := Lib.hid hx
      obtain ⟨xn, hxn⟩ : ∃ v, x.n = v := ⟨_, rfl⟩
      obtain ⟨xq, hxq⟩ : ∃ v, x.q = v := ⟨_, rfl⟩
      replace hc1 : wr.cell? ⟨bb, off + i * 2, none⟩ = some (.int .u64 (xn : Int)) := by rw [← hxn]; exact hc1
      replace hc2 : wr.cell? ⟨bb, off + i * 2 + 1, none⟩ = some (.pointer (some ⟨xq, 0, none⟩)) := by rw [← hxq]; exact hc2
      have HXN := Lib.hid (And.intro hxn hxq)
      have HBB := Lib.hid hb2
      have hin := fun (w' : World) (kw : Keep wr w') => rin_any xn (HW1.out.keep (HK.out.trans kw))
      have HIN := Lib.hid hin
      clear hb1 hb2 hy hx hxn hxq hin
      cases hwi : winIn b k xn with
      | true =>
        rw [hwi] at HIN
        have HWI := Lib.hid hwi
        clear hwi
        go_upto_region 6 with fail
        refine wp_region_noPanic ?_
        refine wp_region_held_drew (S := fun wz => wz.cell? ⟨p, 2, none⟩ = some (.pointer (some ⟨wb, 0, none⟩)) ∧ wz.cell? ⟨p, 3, none⟩ = some (.slice (some ⟨bb, off, none⟩) n c) ∧ wz.cell? ⟨bb, off + i * 2, none⟩ = some (.int .u64 (xn : Int))) (by kernel_rfl) ⟨c2r, c3r, hc1⟩ (fun hHeld => ?_)
        refine wpAnyH_take (i := 0) (v := ?_) rfl (by kernel_rfl) (by kernel_rfl) (by kernel_rfl) (fun _ _ _ h => h) (Or.inl ⟨by rfl, ?_⟩) hHeld ?_
        rotate_left
        · intro wq hSw
          go_simp
          all_goals with_reducible rfl
        try simp only [Act.put, List.getElem_toArray, List.getElem_cons_succ, List.getElem_cons_zero, List.setIfInBounds_toArray, List.set_cons_zero, List.set_cons_succ]
        refine wpAnyH_take (i := 1) (v := ?_) rfl (by kernel_rfl) (by kernel_rfl) (by kernel_rfl) (fun _ _ _ h => h) (Or.inl ⟨by rfl, ?_⟩) hHeld ?_
        rotate_left
        · intro wq hSw
          go_simp
          all_goals with_reducible rfl
        try simp only [Act.put, List.getElem_toArray, List.getElem_cons_succ, List.getElem_cons_zero, List.setIfInBounds_toArray, List.set_cons_zero, List.set_cons_succ]
        refine wpAnyH_take (i := 2) (v := ?_) rfl (by kernel_rfl) (by kernel_rfl) (by kernel_rfl) (fun _ _ _ h => h) (Or.inl ⟨by rfl, ?_⟩) hHeld ?_
        rotate_left
        · intro wq hSw
          go_simp
          all_goals with_reducible rfl
        try simp only [Act.put, List.getElem_toArray, List.getElem_cons_succ, List.getElem_cons_zero, List.setIfInBounds_toArray, List.set_cons_zero, List.set_cons_succ]
        refine wpAnyH_take (i := 3) (v := ?_) rfl (by kernel_rfl) (by kernel_rfl) (by kernel_rfl) (fun _ _ _ h => h) (Or.inl ⟨by rfl, ?_⟩) hHeld ?_
        rotate_left
        · intro wq hSw
          have q0 := hSw.1
          go_simp
          all_goals with_reducible rfl
        try simp only [Act.put, List.getElem_toArray, List.getElem_cons_succ, List.getElem_cons_zero, List.setIfInBounds_toArray, List.set_cons_zero, List.set_cons_succ]
        refine wpAnyH_take (i := 4) (v := ?_) rfl (by kernel_rfl) (by kernel_rfl) (by kernel_rfl) (fun _ _ _ h => h) (Or.inl ⟨by rfl, ?_⟩) hHeld ?_
        rotate_left
        · intro wq hSw
          go_simp
          all_goals with_reducible rfl
        try simp only [Act.put, List.getElem_toArray, List.getElem_cons_succ, List.getElem_cons_zero, List.setIfInBounds_toArray, List.set_cons_zero, List.set_cons_succ]
        refine wpAnyH_take (i := 5) (v := ?_) rfl (by kernel_rfl) (by kernel_rfl) (by kernel_rfl) (fun _ _ _ h => h) (Or.inl ⟨by rfl, ?_⟩) hHeld ?_
        rotate_left
        · intro wq hSw
          go_simp
          all_goals with_reducible rfl
        try simp only [Act.put, List.getElem_toArray, List.getElem_cons_succ, List.getElem_cons_zero, List.setIfInBounds_toArray, List.set_cons_zero, List.set_cons_succ]
        refine wpAnyH_take (i := 6) (v := ?_) rfl (by kernel_rfl) (by kernel_rfl) (by kernel_rfl) (fun _ _ _ h => h) (Or.inl ⟨by rfl, ?_⟩) hHeld ?_
        rotate_left
        · intro wq hSw
          go_simp
          all_goals with_reducible rfl
        try simp only [Act.put, List.getElem_toArray, List.getElem_cons_succ, List.getElem_cons_zero, List.setIfInBounds_toArray, List.set_cons_zero, List.set_cons_succ]
        refine wpAnyH_take (i := 7) (v := ?_) rfl (by kernel_rfl) (by kernel_rfl) (by kernel_rfl) (fun _ _ _ h => h) (Or.inl ⟨by rfl, ?_⟩) hHeld ?_
        rotate_left
        · intro wq hSw
          have q0 := hSw.2.1
          go_simp
          all_goals with_reducible rfl
        try simp only [Act.put, List.getElem_toArray, List.getElem_cons_succ, List.getElem_cons_zero, List.setIfInBounds_toArray, List.set_cons_zero, List.set_cons_succ]
        refine wpAnyH_take (i := 8) (v := ?_) rfl (by kernel_rfl) (by kernel_rfl) (by kernel_rfl) (fun _ _ _ h => h) (Or.inl ⟨by rfl, ?_⟩) hHeld ?_
        rotate_left
        · intro wq hSw
          go_simp
          all_goals with_reducible rfl
        try simp only [Act.put, List.getElem_toArray, List.getElem_cons_succ, List.getElem_cons_zero, List.setIfInBounds_toArray, List.set_cons_zero, List.set_cons_succ]
        refine wpAnyH_take (i := 9) (v := ?_) rfl (by kernel_rfl) (by kernel_rfl) (by kernel_rfl) (fun _ _ _ h => h) (Or.inl ⟨by rfl, ?_⟩) hHeld ?_
        rotate_left
        · intro wq hSw
          have q0 := e0
          have q1 := e1
          go_simp
          all_goals with_reducible rfl
        try simp only [Act.put, List.getElem_toArray, List.getElem_cons_succ, List.getElem_cons_zero, List.setIfInBounds_toArray, List.set_cons_zero, List.set_cons_succ]
        refine wpAnyH_take (i := 10) (v := ?_) rfl (by kernel_rfl) (by kernel_rfl) (by kernel_rfl) (fun _ _ _ h => h) (Or.inl ⟨by rfl, ?_⟩) hHeld ?_
        rotate_left
        · intro wq hSw
          go_simp
          all_goals with_reducible rfl
        try simp only [Act.put, List.getElem_toArray, List.getElem_cons_succ, List.getElem_cons_zero, List.setIfInBounds_toArray, List.set_cons_zero, List.set_cons_succ]
        refine wpAnyH_take (i := 11) (v := ?_) rfl (by kernel_rfl) (by kernel_rfl) (by kernel_rfl) (fun _ _ _ h => h) (Or.inl ⟨by rfl, ?_⟩) hHeld ?_
        rotate_left
        · intro wq hSw
          have q0 := hSw.2.2
          go_simp
          all_goals with_reducible rfl
        try simp only [Act.put, List.getElem_toArray, List.getElem_cons_succ, List.getElem_cons_zero, List.setIfInBounds_toArray, List.set_cons_zero, List.set_cons_succ]
        refine wpAnyH_ready (rs := [12]) (by kernel_rfl) (by simp) ?_
        refine AllReadyH.cons rfl (fun K hK => ?_) AllReadyH.nil
        go_simp
        refine (HIN.out _ (Keep.drew (Keep.refl _))).mono ?_
        rintro e w5 ⟨rfl, k5⟩
        have k5' : Keep wr w5 := (Keep.drew (Keep.refl wr)).trans k5
        have hq5 : w5.cell? ⟨p, 2, none⟩ = some (.pointer (some ⟨wb, 0, none⟩)) ∧ w5.cell? ⟨p, 3, none⟩ = some (.slice (some ⟨bb, off, none⟩) n c) ∧ w5.cell? ⟨bb, off + i * 2, none⟩ = some (.int .u64 (xn : Int)) := ⟨(World.cell?_of_block (k5'.block _ HPL.out)).trans c2r, (World.cell?_of_block (k5'.block _ HPL.out)).trans c3r, (World.cell?_of_block (k5'.block _ HBB.out)).trans hc1⟩
        have hc25 : w5.cell? ⟨bb, off + i * 2 + 1, none⟩ = some (.pointer (some ⟨xq, 0, none⟩)) := (World.cell?_of_block (k5'.block _ HBB.out)).trans hc2
        have HK5 := Lib.hid k5'
        clear k5 k5'
        refine hK.out _ _ hq5 (fun hHeld => ?_)
        clear hK K
        try simp only [Act.put, List.getElem_toArray, List.getElem_cons_succ, List.getElem_cons_zero, List.setIfInBounds_toArray, List.set_cons_zero, List.set_cons_succ]
        refine wpAnyH_done (by kernel_rfl) ?_ _
        refine NoPanic.normal ?_
        clear hHeld
        obtain ⟨q1, q2, q3⟩ := hq5
        have HO5 := Lib.hid (HO.out.keep HK5.out)
        have HS5 := Lib.hid (HK.out.trans HK5.out)
        clear hc1 hc2 c2r c3r
        go_wp2_with (at_builtin; refine wpList_append_gns rfl _ _ 96 rfl (m := 1) (news := [(xn, xq)]) (Eq.refl (r + 1)) Tryz.underlying96 rfl (HO5.out.alloc _) rfl rfl (fun _ => ⟨w5.heap.size, 0, rfl, fun j p hj => by
            have hj0 : j = 0 := by
              rcases j with _ | j
              · rfl
              · simp at hj
            subst hj0
            injection hj with hj
            subst hj
            exact ⟨cell_of_row _ _ _ _ _ _ (heap_alloc_new _ _), cell_of_row _ _ _ _ _ _ (heap_alloc_new _ _)⟩⟩) (by omega) (by have := HS5.out.size; simp; omega) ?_)
        intro A8 c8 w8 o8 g8 b8
        have HK8 : Hid (Keep w1 w8) := (HS5.out.trans ((Keep.refl w5).alloc _ _)).grown g8 fun k hk => HO5.out.rowLe k hk
        have HO8 : Hid (OwnGn w8 w1.heap.size A8 (r + 1) c8 (gnL ((G.take (i + 1)).filter fun x => winIn b k x.n))) := by
          show OwnGn _ _ _ _ _ _
          rw [sift_more b k HX.out (by rw [HXN.out.1]; exact HWI.out), HXN.out.1, HXN.out.2]; exact o8
        clear o8 g8 b8 q1 q2 q3 hc25
        go_wp2_with fail
        go_roundw
        case rel => exact ⟨i + 1, r + 1, c8, A8, by omega, by omega, by go_num, rfl, HK8.out, HO8.out⟩
        case measure => simp [intOf]; omega
      | false =>
        rw [hwi] at HIN
        have HWI := Lib.hid hwi
        clear hwi
        go_upto_region 6 with fail
        refine wp_region_noPanic ?_
        refine wp_region_held_drew (S := fun wz => wz.cell? ⟨p, 2, none⟩ = some (.pointer (some ⟨wb, 0, none⟩)) ∧ wz.cell? ⟨p, 3, none⟩ = some (.slice (some ⟨bb, off, none⟩) n c) ∧ wz.cell? ⟨bb, off + i * 2, none⟩ = some (.int .u64 (xn : Int))) (by kernel_rfl) ⟨c2r, c3r, hc1⟩ (fun hHeld => ?_)
        refine wpAnyH_take (i := 0) (v := ?_) rfl (by kernel_rfl) (by kernel_rfl) (by kernel_rfl) (fun _ _ _ h => h) (Or.inl ⟨by rfl, ?_⟩) hHeld ?_
        rotate_left
        · intro wq hSw
          go_simp
          all_goals with_reducible rfl
        try simp only [Act.put, List.getElem_toArray, List.getElem_cons_succ, List.getElem_cons_zero, List.setIfInBounds_toArray, List.set_cons_zero, List.set_cons_succ]
        refine wpAnyH_take (i := 1) (v := ?_) rfl (by kernel_rfl) (by kernel_rfl) (by kernel_rfl) (fun _ _ _ h => h) (Or.inl ⟨by rfl, ?_⟩) hHeld ?_
        rotate_left
        · intro wq hSw
          go_simp
          all_goals with_reducible rfl
        try simp only [Act.put, List.getElem_toArray, List.getElem_cons_succ, List.getElem_cons_zero, List.setIfInBounds_toArray, List.set_cons_zero, List.set_cons_succ]
        refine wpAnyH_take (i := 2) (v := ?_) rfl (by kernel_rfl) (by kernel_rfl) (by kernel_rfl) (fun _ _ _ h => h) (Or.inl ⟨by rfl, ?_⟩) hHeld ?_
        rotate_left
        · intro wq hSw
          go_simp
          all_goals with_reducible rfl
        try simp only [Act.put, List.getElem_toArray, List.getElem_cons_succ, List.getElem_cons_zero, List.setIfInBounds_toArray, List.set_cons_zero, List.set_cons_succ]
        refine wpAnyH_take (i := 3) (v := ?_) rfl (by kernel_rfl) (by kernel_rfl) (by kernel_rfl) (fun _ _ _ h => h) (Or.inl ⟨by rfl, ?_⟩) hHeld ?_
        rotate_left
        · intro wq hSw
          have q0 := hSw.1
          go_simp
          all_goals with_reducible rfl
        try simp only [Act.put, List.getElem_toArray, List.getElem_cons_succ, List.getElem_cons_zero, List.setIfInBounds_toArray, List.set_cons_zero, List.set_cons_succ]
        refine wpAnyH_take (i := 4) (v := ?_) rfl (by kernel_rfl) (by kernel_rfl) (by kernel_rfl) (fun _ _ _ h => h) (Or.inl ⟨by rfl, ?_⟩) hHeld ?_
        rotate_left
        · intro wq hSw
          go_simp
          all_goals with_reducible rfl
        try simp only [Act.put, List.getElem_toArray, List.getElem_cons_succ, List.getElem_cons_zero, List.setIfInBounds_toArray, List.set_cons_zero, List.set_cons_succ]
        refine wpAnyH_take (i := 5) (v := ?_) rfl (by kernel_rfl) (by kernel_rfl) (by kernel_rfl) (fun _ _ _ h => h) (Or.inl ⟨by rfl, ?_⟩) hHeld ?_
        rotate_left
        · intro wq hSw
          go_simp
          all_goals with_reducible rfl
        try simp only [Act.put, List.getElem_toArray, List.getElem_cons_succ, List.getElem_cons_zero, List.setIfInBounds_toArray, List.set_cons_zero, List.set_cons_succ]
        refine wpAnyH_take (i := 6) (v := ?_) rfl (by kernel_rfl) (by kernel_rfl) (by kernel_rfl) (fun _ _ _ h => h) (Or.inl ⟨by rfl, ?_⟩) hHeld ?_
        rotate_left
        · intro wq hSw
          go_simp
          all_goals with_reducible rfl
        try simp only [Act.put, List.getElem_toArray, List.getElem_cons_succ, List.getElem_cons_zero, List.setIfInBounds_toArray, List.set_cons_zero, List.set_cons_succ]
        refine wpAnyH_take (i := 7) (v := ?_) rfl (by kernel_rfl) (by kernel_rfl) (by kernel_rfl) (fun _ _ _ h => h) (Or.inl ⟨by rfl, ?_⟩) hHeld ?_
        rotate_left
        · intro wq hSw
          have q0 := hSw.2.1
          go_simp
          all_goals with_reducible rfl
        try simp only [Act.put, List.getElem_toArray, List.getElem_cons_succ, List.getElem_cons_zero, List.setIfInBounds_toArray, List.set_cons_zero, List.set_cons_succ]
        refine wpAnyH_take (i := 8) (v := ?_) rfl (by kernel_rfl) (by kernel_rfl) (by kernel_rfl) (fun _ _ _ h => h) (Or.inl ⟨by rfl, ?_⟩) hHeld ?_
        rotate_left
        · intro wq hSw
          go_simp
          all_goals with_reducible rfl
        try simp only [Act.put, List.getElem_toArray, List.getElem_cons_succ, List.getElem_cons_zero, List.setIfInBounds_toArray, List.set_cons_zero, List.set_cons_succ]
        refine wpAnyH_take (i := 9) (v := ?_) rfl (by kernel_rfl) (by kernel_rfl) (by kernel_rfl) (fun _ _ _ h => h) (Or.inl ⟨by rfl, ?_⟩) hHeld ?_
        rotate_left
        · intro wq hSw
          have q0 := e0
          have q1 := e1
          go_simp
          all_goals with_reducible rfl
        try simp only [Act.put, List.getElem_toArray, List.getElem_cons_succ, List.getElem_cons_zero, List.setIfInBounds_toArray, List.set_cons_zero, List.set_cons_succ]
        refine wpAnyH_take (i := 10) (v := ?_) rfl (by kernel_rfl) (by kernel_rfl) (by kernel_rfl) (fun _ _ _ h => h) (Or.inl ⟨by rfl, ?_⟩) hHeld ?_
        rotate_left
        · intro wq hSw
          go_simp
          all_goals with_reducible rfl
        try simp only [Act.put, List.getElem_toArray, List.getElem_cons_succ, List.getElem_cons_zero, List.setIfInBounds_toArray, List.set_cons_zero, List.set_cons_succ]
        refine wpAnyH_take (i := 11) (v := ?_) rfl (by kernel_rfl) (by kernel_rfl) (by kernel_rfl) (fun _ _ _ h => h) (Or.inl ⟨by rfl, ?_⟩) hHeld ?_
        rotate_left
        · intro wq hSw
          have q0 := hSw.2.2
          go_simp
          all_goals with_reducible rfl
        try simp only [Act.put, List.getElem_toArray, List.getElem_cons_succ, List.getElem_cons_zero, List.setIfInBounds_toArray, List.set_cons_zero, List.set_cons_succ]
        refine wpAnyH_ready (rs := [12]) (by kernel_rfl) (by simp) ?_
        refine AllReadyH.cons rfl (fun K hK => ?_) AllReadyH.nil
        go_simp
        refine (HIN.out _ (Keep.drew (Keep.refl _))).mono ?_
        rintro e w5 ⟨rfl, k5⟩
        have k5' : Keep wr w5 := (Keep.drew (Keep.refl wr)).trans k5
        have hq5 : w5.cell? ⟨p, 2, none⟩ = some (.pointer (some ⟨wb, 0, none⟩)) ∧ w5.cell? ⟨p, 3, none⟩ = some (.slice (some ⟨bb, off, none⟩) n c) ∧ w5.cell? ⟨bb, off + i * 2, none⟩ = some (.int .u64 (xn : Int)) := ⟨(World.cell?_of_block (k5'.block _ HPL.out)).trans c2r, (World.cell?_of_block (k5'.block _ HPL.out)).trans c3r, (World.cell?_of_block (k5'.block _ HBB.out)).trans hc1⟩
        have hc25 : w5.cell? ⟨bb, off + i * 2 + 1, none⟩ = some (.pointer (some ⟨xq, 0, none⟩)) := (World.cell?_of_block (k5'.block _ HBB.out)).trans hc2
        have HK5 := Lib.hid k5'
        clear k5 k5'
        refine hK.out _ _ hq5 (fun hHeld => ?_)
        clear hK K
        try simp only [Act.put, List.getElem_toArray, List.getElem_cons_succ, List.getElem_cons_zero, List.setIfInBounds_toArray, List.set_cons_zero, List.set_cons_succ]
        refine wpAnyH_done (by kernel_rfl) ?_ _
        refine NoPanic.normal ?_
        clear hHeld
        clear hc1 hc2 c2r c3r hq5 hc25
        have HS5 := Lib.hid (HK.out.trans HK5.out)
        have HO5 : Hid (OwnGn w5 w1.heap.size V r d (gnL ((G.take (i + 1)).filter fun x => winIn b k x.n))) := by
          show OwnGn _ _ _ _ _ _
          rw [sift_same b k HX.out (by rw [HXN.out.1]; exact HWI.out)]; exact HO.out.keep HK5.out
        go_wp2_with fail
        go_roundw
        case rel => exact ⟨i + 1, r, d, V, by omega, by omega, by go_num, rfl, HS5.out, HO5.out⟩
        case measure => simp [intOf]; omega
    · have e1 : ¬ (i : Int) < (n : Int) := by omega
      have e1' : decide ((i : Int) < (n : Int)) = false := decide_eq_false e1
      have hfr : wr.frozen? ⟨p, 3, none⟩ = false := by
        have hb : wr.heap[p]? = _ := (HK.out.block p HPL1.out).trans HPB.out
        simp [World.frozen?, hb]
      have HLEN : Hid (G.take i = G) := List.take_of_length_le (by have := H.out.len; omega)
      go_wp2_with fail
      go_ret
      have ho := HO.out
      rw [HLEN.out] at ho
      have hs := H.out.sift HT1.out HW1.out HK.out ho (HT1.out.size)
      rw [moveL_self H.out.r] at hs
      exact ⟨rfl, _, hs⟩
end
end Go.Proofs.YtgelalbmhllccaaGreat
/- The landed relay: Copy. -/
namespace Go.Proofs.YtgelalbmhllccaaGreat
open Go.RowKit Lin
set_option linter.unusedVariables false
set_option linter.unusedSimpArgs false
section
variable {w : World} {F : Nat → Prop} {p g s k b wb : Nat} {L : Nat → List (List Nat)} {S : List Slot}
/-- The first i places are copied. -/
def Copied (w wr : World) (p wb g s : Nat) (S S' : List Slot) (i : Nat) : Prop :=
  RelC wr p wb g s S' ∧ (∀ j x, S'[j]? = some x → (j < i → ∃ y, S[j]? = some y ∧ (x.p = none ↔ y.p = none) ∧ x.B = y.B ∧ ∀ b, x.F b → w.heap.size ≤ b) ∧ (i ≤ j → x = Slot.none_)) ∧ Turned (fun j => j = p) w wr
theorem Copied.start (h : RelC w p wb g s slots0) : Copied w w p wb g s S slots0 0 := ⟨h, fun j x hx => ⟨fun e => by omega, fun _ => slots0_get hx⟩, Turned.refl _ _⟩
theorem Copied.step {w1 w2 : World} {S1 : List Slot} {i : Nat} {x y : Slot} (h : Copied w w1 p wb g s S S1 i) (k : Keep w1 w2) (hi : i < 16) (ok : x.Ok w2 g s) (hf : ∀ j, x.F j → w1.heap.size ≤ j) (hwb : wb < w1.heap.size) (hy : S[i]? = some y) (hp : x.p = none ↔ y.p = none) (hB : x.B = y.B) : Copied w (w2.setCell ⟨p, 3 + i, none⟩ x.val) p wb g s S (S1.set i x) (i + 1) := by
  refine ⟨h.1.set hi k ok hf hwb, fun j z hz => ?_, (h.2.2.then_keep k).trans (Turned.set (F := fun j => j = p) w2 ⟨p, 3 + i, none⟩ _ rfl) fun j e => Or.inl e⟩
  rcases set_get hz with ⟨rfl, rfl⟩ | ⟨hj, hz2⟩
  · exact ⟨fun _ => ⟨y, hy, hp, hB, fun b hb => Nat.le_trans h.2.2.size (hf b hb)⟩, fun e => by omega⟩
  · exact ⟨fun e => (h.2.1 j z hz2).1 (by omega), fun e => (h.2.1 j z hz2).2 (by omega)⟩
end
end Go.Proofs.YtgelalbmhllccaaGreat
/- Both relays side by side: the landed one and the document's own. -/
namespace Go.Proofs.YtgelalbmhllccaaGreat
open Go.RowKit Lin
set_option linter.unusedVariables false
/-- The landed relay at p, the document's own at q: their footprints lie apart, and both in memory made since W. -/
structure BothR (W w : World) (p q g s k b : Nat) (L : Nat → List (List Nat)) (b' : Nat) (L' : Nat → List (List Nat)) (F F' : Nat → Prop) : Prop where
  y : RelR w F p g s k b L
  z : RefY w F' q g s k b' L'
  ap : ∀ a, F a → ¬ F' a
  lo : ∀ a, F a → W.heap.size ≤ a
  lo' : ∀ a, F' a → W.heap.size ≤ a
  keep : Keep W w
namespace BothR
variable {W w w2 : World} {p p2 q g s k b b' b2 : Nat} {L L' L2 : Nat → List (List Nat)} {F F' F2 D : Nat → Prop}
theorem later (h : BothR W w p q g s k b L b' L' F F') (kp : Keep w w2) : BothR W w2 p q g s k b L b' L' F F' := ⟨h.y.keep kp, h.z.keep kp, h.ap, h.lo, h.lo', h.keep.trans kp⟩
/-- The landed one goes on (or another stands in its place). -/
theorem left (h : BothR W w p q g s k b L b' L' F F') (r : RelR w2 F2 p2 g s k b2 L2) (f : ∀ x, F2 x → F x ∨ w.heap.size ≤ x) (t : Turned F w w2) : BothR W w2 p2 q g s k b2 L2 b' L' F2 F' := by
  have hz := h.keep.size
  refine ⟨r, h.z.turned t fun a ha e => h.ap a e ha, fun a ha hb => ?_, fun a ha => ?_, h.lo', t.keep h.keep fun x e => h.lo x e⟩
  · rcases f a ha with e | e
    · exact h.ap a e hb
    · have := h.z.lt a hb; omega
  · rcases f a ha with e | e
    · exact h.lo a e
    · omega
/-- The document's own goes on. -/
theorem right (h : BothR W w p q g s k b L b' L' F F') (y : YNext w w2 F' F2 q g s k b2 L2) : BothR W w2 p q g s k b L b2 L2 F F2 := by
  have hz := h.keep.size
  refine ⟨h.y.turned y.2.2 fun a ha e => h.ap a ha e, y.1, fun a ha hb => ?_, h.lo, fun a ha => ?_, y.2.2.keep h.keep fun x e => h.lo' x e⟩
  · rcases y.2.1 a hb with e | e
    · exact h.ap a ha e
    · have := h.y.lt a ha; omega
  · rcases y.2.1 a ha with e | e
    · exact h.lo' a e
    · omega
/-- Something else turns. -/
theorem other (h : BothR W w p q g s k b L b' L' F F') (t : Turned D w w2) (hD : ∀ a, D a → W.heap.size ≤ a ∧ ¬ F a ∧ ¬ F' a) : BothR W w2 p q g s k b L b' L' F F' :=
  ⟨h.y.turned t fun a ha e => (hD a e).2.1 ha, h.z.turned t fun a ha e => (hD a e).2.2 ha, h.ap, h.lo, h.lo', t.keep h.keep fun x e => (hD x e).1⟩
/-- What was new between two worlds is apart from both, as long as neither took it. -/
theorem new_apart (h : BothR W w p q g s k b L b' L' F F') {a : Nat} (ha : w.heap.size ≤ a) : W.heap.size ≤ a ∧ ¬ F a ∧ ¬ F' a :=
  ⟨Nat.le_trans h.keep.size ha, fun e => by have := h.y.lt a e; omega, fun e => by have := h.z.lt a e; omega⟩
end BothR
end Go.Proofs.YtgelalbmhllccaaGreat
/- The landed relay: Clear, of what may be asked. -/
namespace Go.Proofs.YtgelalbmhllccaaGreat
open Go.RowKit Lin
set_option linter.unusedVariables false
section
variable {w : World} {F : Nat → Prop} {p g s k b : Nat} {L : Nat → List (List Nat)}
end
end Go.Proofs.YtgelalbmhllccaaGreat
/- Each call of both relays in one contract, whatever it tells. -/
namespace Go.Proofs.YtgelalbmhllccaaGreat
open Go.RowKit Lin
set_option linter.unusedVariables false
set_option linter.unusedSimpArgs false
section
variable {w w' : World} {F H : Nat → Prop} {p g s k b : Nat} {L : Nat → List (List Nat)}
def yTakeT (g s k b : Nat) (L : Nat → List (List Nat)) (n na nb : Nat) (v : List Nat) : Bool := if winIn b k n = true ∧ na = g ∧ nb = s then !decide (inB g s (L n) v) else false
def yTakeE (g s k b n na nb : Nat) : Int := if winIn b k n = true then (if na = g ∧ nb = s then 0 else 21) else 23
def yTakeL (g s k b : Nat) (L : Nat → List (List Nat)) (n na nb : Nat) (v : List Nat) : Nat → List (List Nat) := if winIn b k n = true ∧ na = g ∧ nb = s then upd L n (insB g s (L n) v) else L
theorem rl_take_all (h : RelR w F p g s k b L) (n : Nat) (hn : n < 18446744073709551616) (B1 B2 na nb c1 c2 : Nat) (A1 A2 : Option Addr) (xs ys : List Nat) (hc1 : na ≤ c1) (hc2 : nb ≤ c2) (h1 : Bytes w B1 A1 na xs) (h2 : Bytes w B2 A2 nb ys) (hB1 : B1 ≤ w.heap.size) (hB2 : B2 ≤ w.heap.size) :
    Calls Tryz.prog 11 #[.pointer (some ⟨p, 0, none⟩), .int .u64 (n : Int), .agg #[.slice A1 na c1, .slice A2 nb c2]] w fun e w' => e = .returned (.tuple #[.bool (yTakeT g s k b L n na nb (xs ++ ys)), .int .i64 (yTakeE g s k b n na nb)]) ∧ ∃ F', RelR w' F' p g s k b (yTakeL g s k b L n na nb (xs ++ ys)) ∧ (∀ j, F' j → F j ∨ w.heap.size ≤ j) ∧ Turned F w w' := by
  cases hin : winIn b k n with
  | false =>
    refine (rl_take_out h n hn hin na nb c1 c2 A1 A2).mono ?_
    rintro e w1 ⟨rfl, k1⟩
    refine ⟨by simp [yTakeT, yTakeE, hin], F, ?_, fun j hj => Or.inl hj, Turned.of_keep k1⟩
    simp only [yTakeL, hin, Bool.false_eq_true, false_and, if_false]
    exact h.keep k1
  | true =>
    by_cases hd : na = g ∧ nb = s
    · obtain ⟨rfl, rfl⟩ := hd
      refine (rl_take_in h n hn hin B1 B2 c1 c2 A1 A2 xs ys hc1 hc2 h1 h2 hB1 hB2).mono ?_
      rintro e w1 ⟨rfl, F', r, f, t⟩
      refine ⟨by simp [yTakeT, yTakeE, hin], F', ?_, f, t⟩
      simp only [yTakeL, hin, and_self, if_true]
      exact r
    · refine (rl_take_dim h n hn hin na nb c1 c2 A1 A2 (by omega)).mono ?_
      rintro e w1 ⟨rfl, k1⟩
      refine ⟨by simp [yTakeT, yTakeE, hin, hd], F, ?_, fun j hj => Or.inl hj, Turned.of_keep k1⟩
      simp only [yTakeL, hin, true_and, hd, if_false]
      exact h.keep k1
theorem ytake_all (h : RefY w F p g s k b L) (m : Nat) (q : PairV) (hq : LiesIn w H q.a ∧ LiesIn w H q.b) (hH : ∀ a, H a → a < w.heap.size ∧ ¬ F a) :
    Calls Tryz.prog 12 #[.pointer (some ⟨p, 0, none⟩), .int .u64 (m : Int), q.agg] w fun e w' => e = .returned (.tuple #[.bool (yTakeT g s k b L m q.a.n q.b.n q.xs), .int .i64 (yTakeE g s k b m q.a.n q.b.n)]) ∧ ∃ F', YNext w w' F F' p g s k b (yTakeL g s k b L m q.a.n q.b.n q.xs) := by
  cases hin : winIn b k m with
  | false =>
    refine (ytake_out h m hin q.a.n q.b.n q.a.c q.b.c q.a.A q.b.A).mono ?_
    rintro e w1 ⟨rfl, k1⟩
    refine ⟨by simp [yTakeT, yTakeE, hin], F, ?_⟩
    simp only [yTakeL, hin, Bool.false_eq_true, false_and, if_false]
    exact YNext.stay h k1
  | true =>
    by_cases hd : q.a.n = g ∧ q.b.n = s
    · refine (ytake_in h m hin q ⟨hq.1, hq.2, hd.1, hd.2⟩ hH).mono ?_
      rintro e w1 ⟨rfl, F', y⟩
      refine ⟨by simp [yTakeT, yTakeE, hin, hd], F', ?_⟩
      simp only [yTakeL, hin, hd, and_self, if_true]
      exact y
    · refine (ytake_dim h m hin q.a.n q.b.n q.a.c q.b.c q.a.A q.b.A (by omega)).mono ?_
      rintro e w1 ⟨rfl, F', y⟩
      refine ⟨by simp [yTakeT, yTakeE, hin, hd], F', ?_⟩
      simp only [yTakeL, hin, true_and, hd, if_false]
      exact y
def ySolveE (g k b : Nat) (L : Nat → List (List Nat)) (n : Nat) : Int := if winIn b k n = true then (if (L n).length = g then 0 else 24) else 23
def ySolveV (g k b : Nat) (L : Nat → List (List Nat)) (n : Nat) : List (List Nat) := if winIn b k n = true ∧ (L n).length = g then (L n).map (List.drop g) else []
theorem OwnRows.nilR (w : World) (base : Nat) : OwnRows w base 43 none 0 0 [] := World.ownsRow_nil w base _ 1
theorem rl_solve_all (h : RelR w F p g s k b L) (n : Nat) (hn : n < 18446744073709551616) :
    Calls Tryz.prog 71 #[.pointer (some ⟨p, 0, none⟩), .int .u64 (n : Int)] w fun e w' => ∃ A r c rs, e = .returned (.tuple #[.slice A r c, .int .i64 (ySolveE g k b L n)]) ∧ OwnRows w' w.heap.size 43 A r c rs ∧ (∀ x ∈ rs, Own w' w.heap.size 5 x.A x.n x.c x.xs) ∧ rowsXs rs = ySolveV g k b L n ∧ Keep w w' := by
  cases hin : winIn b k n with
  | false =>
    refine (rl_solve_out h n hn hin).mono ?_
    rintro e w1 ⟨rfl, rfl⟩
    exact ⟨none, 0, 0, [], by simp [ySolveE, hin], OwnRows.nilR _ _, fun x hx => by simp at hx, by simp [ySolveV, hin, rowsXs], Keep.refl _⟩
  | true =>
    by_cases h0 : (L n).length = g
    · refine (rl_solve_in h n hn hin h0).mono ?_
      rintro e w1 ⟨A, c, rs, rfl, o1, o2, o3, k1, -⟩
      exact ⟨A, g, c, rs, by simp [ySolveE, hin, h0], o1, o2, by rw [o3, ySolveV, if_pos ⟨hin, h0⟩], k1⟩
    · refine (rl_solve_low h n hn hin h0).mono ?_
      rintro e w1 ⟨rfl, k1⟩
      exact ⟨none, 0, 0, [], by simp [ySolveE, hin, h0], OwnRows.nilR _ _, fun x hx => by simp at hx, by simp [ySolveV, h0, rowsXs], k1⟩
theorem ysolve_all (h : RefY w F p g s k b L) (m : Nat) (hl : (L m).length ≤ g) :
    Calls Tryz.prog 45 #[.pointer (some ⟨p, 0, none⟩), .int .u64 (m : Int)] w fun e w' => ∃ A r c rs F', e = .returned (.tuple #[.slice A r c, .int .i64 (ySolveE g k b L m)]) ∧ OwnRows w' w.heap.size 43 A r c rs ∧ (∀ x ∈ rs, LiesIn w' F' x) ∧ rowsXs rs = ySolveV g k b L m ∧ YNext w w' F F' p g s k b L := by
  cases hin : winIn b k m with
  | false =>
    refine (ysolve_out h m hin).mono ?_
    rintro e w1 ⟨rfl, k1⟩
    exact ⟨none, 0, 0, [], F, by simp [ySolveE, hin], OwnRows.nilR _ _, fun x hx => by simp at hx, by simp [ySolveV, hin, rowsXs], YNext.stay h k1⟩
  | true =>
    by_cases h0 : (L m).length = g
    · refine (ysolve_in h m hin h0).mono ?_
      rintro e w1 ⟨A, c, rs, F', rfl, o1, o2, o3, y⟩
      exact ⟨A, g, c, rs, F', by simp [ySolveE, hin, h0], o1, o2, by rw [o3, ySolveV, if_pos ⟨hin, h0⟩], y⟩
    · refine (ysolve_low h m hin (by omega)).mono ?_
      rintro e w1 ⟨rfl, F', y⟩
      exact ⟨none, 0, 0, [], F', by simp [ySolveE, hin, h0], OwnRows.nilR _ _, fun x hx => by simp at hx, by simp [ySolveV, h0, rowsXs], y⟩
def yMoveE (c : Nat) : Int := if c ≤ topN then 0 else 1
def yMoveB (b c : Nat) : Nat := if c ≤ topN then c else b
def yMoveM (k c : Nat) (L : Nat → List (List Nat)) : Nat → List (List Nat) := if c ≤ topN then moveL c k L else L
theorem rl_move_all (h : RelR w F p g s k b L) (c : Nat) :
    Calls Tryz.prog 17 #[.pointer (some ⟨p, 0, none⟩), .int .u64 (c : Int)] w fun e w' => e = .returned (.int .i64 (yMoveE c)) ∧ ∃ F', RelR w' F' p g s k (yMoveB b c) (yMoveM k c L) ∧ (∀ q, F' q → F q ∨ w.heap.size ≤ q) ∧ Turned F w w' := by
  by_cases hc : c ≤ topN
  · rw [yMoveE, yMoveB, yMoveM, if_pos hc, if_pos hc, if_pos hc]
    exact rl_move_in h c hc
  · rw [yMoveE, yMoveB, yMoveM, if_neg hc, if_neg hc, if_neg hc]
    refine (rl_move_out h c (by omega)).mono ?_
    rintro e w1 ⟨rfl, k1⟩
    exact ⟨rfl, F, h.keep k1, fun j hj => Or.inl hj, Turned.of_keep k1⟩
theorem ymove_all (h : RefY w F p g s k b L) (c : Nat) :
    Calls Tryz.prog 18 #[.pointer (some ⟨p, 0, none⟩), .int .u64 (c : Int)] w fun e w' => e = .returned (.int .i64 (yMoveE c)) ∧ ∃ F', YNext w w' F F' p g s k (yMoveB b c) (yMoveM k c L) := by
  by_cases hc : c ≤ topN
  · rw [yMoveE, yMoveB, yMoveM, if_pos hc, if_pos hc, if_pos hc]
    exact ymove_in h c hc
  · rw [yMoveE, yMoveB, yMoveM, if_neg hc, if_neg hc, if_neg hc]
    exact ymove_out h c (by omega)
end
end Go.Proofs.YtgelalbmhllccaaGreat
