/- The document's own relay: New, the basis of a generation. -/
import Derived.Test.YtgelalbmhllccaaGreatQan
import Derived.Deep.DeepCutAuto
import Derived.Deep.CutBlock
import Derived.Test.YtgelalbmhllccaaGreatQad
import Derived.Test.YtgelalbmhllccaaGreatQaj
import Derived.Test.YtgelalbmhllccaaGreatQai
namespace Go.Proofs.YtgelalbmhllccaaGreat
open Go.RowKit Lin
set_option linter.unusedVariables false
set_option linter.unusedSimpArgs false
set_option maxRecDepth 100000 in
theorem rynew_in (g s k : Nat) (h1 : 1 ≤ g) (h2 : g ≤ 255) (h3 : 1 ≤ s) (h4 : s ≤ 65535) (h5 : 1 ≤ k) (h6 : k ≤ 16) (w : World) :
    Calls Tryz.prog 9 #[.int .i64 (g : Int), .int .i64 (s : Int), .int .i64 (k : Int)] w fun e w' => ∃ p F, e = .returned (.tuple #[.pointer (some ⟨p, 0, none⟩), .int .i64 0]) ∧ RefY w' F p g s k 0 (fun _ => []) ∧ (∀ a, F a → w.heap.size ≤ a) ∧ Keep w w' := by
  go_enter Tryz.func9, Tryz.ntmps9
  go_wp2_with fail
  refine (rnew_in k h5 h6 _).mono ?_
  rintro e w1 ⟨rfl, hW, k1⟩
  have HW := Lib.hid hW
  have HK1 := Lib.hid k1
  clear hW k1
  go_wp2_with fail
  refine (rpnew_in g s h1 h2 h3 h4 _).mono ?_
  rintro e w2 ⟨b1, bi, br, Fb, rfl, -, -, k2⟩
  have HK2 := Lib.hid (HK1.out.trans k2)
  have HW2 := Lib.hid (HW.out.keep k2)
  have HLT : Hid (w.heap.size < w2.heap.size) := Nat.lt_of_lt_of_le HW.out.lt k2.size
  clear k2
  go_wp2_with fail
  go_ret2
  have ka : Keep w2 (w2.alloc (.cells #[.int .i64 (g : Int), .int .i64 (s : Int), .pointer (some ⟨w.heap.size, 0, none⟩), .slice none 0 0] 98)) := (Keep.refl w2).alloc _ _
  have hs : (w2.alloc (.cells #[.int .i64 (g : Int), .int .i64 (s : Int), .pointer (some ⟨w.heap.size, 0, none⟩), .slice none 0 0] 98)).heap.size = w2.heap.size + 1 := by simp
  refine ⟨w2.heap.size, fun a => a = w2.heap.size ∨ a = w.heap.size, rfl, RefYA.r (wb := w.heap.size) (A := none) (n := 0) (c := 0) (G := []) ⟨heap_alloc_new w2 _, HW2.out.keep ka, OwnGn.none_ _ _, fun x hx => by simp at hx, fun i j x y _ hx => by simp at hx, fun x hx => by simp at hx, fun i j x y _ hx => by simp at hx, fun x hx => by simp at hx, ⟨by have := HLT.out; omega, fun a ha => by simp [Value.ownBlock] at ha⟩, Or.inl rfl, Or.inr rfl, fun a ha => by simp [Value.ownBlock] at ha, fun x hx => by simp at hx, fun a ha => ?_, h1, h2, h3, h4, fun x hx => by simp at hx, fun m hm => rfl⟩, fun a ha => ?_, HK2.out.trans ka⟩
  · have := HLT.out
    rw [hs]
    rcases ha with ha | ha <;> omega
  · have := HLT.out
    rcases ha with ha | ha <;> omega
set_option maxRecDepth 100000 in
theorem rynew_out (g s k : Int) (h : ¬ (1 ≤ g ∧ g ≤ 255 ∧ 1 ≤ s ∧ s ≤ 65535 ∧ 1 ≤ k ∧ k ≤ 16)) (w : World) :
    Calls Tryz.prog 9 #[.int .i64 g, .int .i64 s, .int .i64 k] w fun e w' => e = .returned (.tuple #[.pointer none, .int .i64 1]) ∧ Keep w w' := by
  by_cases hk : 1 ≤ k ∧ k ≤ 16
  · obtain ⟨k', rfl⟩ := Int.eq_ofNat_of_zero_le (show 0 ≤ k by omega)
    have hh := fun w => rpnew_out g s (by omega) w
    have HN := Lib.hid (rnew_in k' (by omega) (by omega) w)
    have HH := Lib.hid hh
    clear hh
    go_enter Tryz.func9, Tryz.ntmps9
    go_wp2_with fail
    refine HN.out.mono ?_
    rintro e w1 ⟨rfl, hW, k1⟩
    have HK1 := Lib.hid k1
    clear hW k1
    go_wp2_with fail
    refine (HH.out w1).mono ?_
    rintro e w2 ⟨rfl, k2⟩
    have HK2 := Lib.hid (HK1.out.trans k2)
    clear k2
    go_wp2_with fail
    go_ret2
    exact ⟨rfl, HK2.out⟩
  · have HN := Lib.hid (rnew_out k (by omega) w)
    by_cases hb : g < 1 ∨ 255 < g ∨ s < 1 ∨ 65535 < s
    · have HB := Lib.hid (rpnew_out g s hb w)
      go_enter Tryz.func9, Tryz.ntmps9
      go_wp2_with fail
      refine HN.out.mono ?_
      rintro e w1 ⟨rfl, rfl⟩
      go_wp2_with fail
      refine HB.out.mono ?_
      rintro e w2 ⟨rfl, k2⟩
      have HK2 := Lib.hid k2
      clear k2
      go_wp2_with fail
      go_ret2
      exact ⟨rfl, HK2.out⟩
    · obtain ⟨g', rfl⟩ := Int.eq_ofNat_of_zero_le (show 0 ≤ g by omega)
      obtain ⟨s', rfl⟩ := Int.eq_ofNat_of_zero_le (show 0 ≤ s by omega)
      have HB := Lib.hid (rpnew_in g' s' (by omega) (by omega) (by omega) (by omega) w)
      go_enter Tryz.func9, Tryz.ntmps9
      go_wp2_with fail
      refine HN.out.mono ?_
      rintro e w1 ⟨rfl, rfl⟩
      go_wp2_with fail
      refine HB.out.mono ?_
      rintro e w2 ⟨b1, bi, br, Fb, rfl, -, -, k2⟩
      have HK2 := Lib.hid k2
      clear k2
      go_wp2_with fail
      go_ret2
      exact ⟨rfl, HK2.out⟩
section
variable {w : World} {F : Nat → Prop} {p g s k b wb n c : Nat} {L : Nat → List (List Nat)} {A : Option Addr} {G : List GenS}
theorem yat_out (h : RefYA w F p g s k b L wb A n c G) (m : Nat) (hin : winIn b k m = false) :
    Calls Tryz.prog 43 #[.pointer (some ⟨p, 0, none⟩), .int .u64 (m : Int)] w fun e w' => e = .returned (.pointer none) ∧ Keep w w' := by
  have c2 := h.c2
  have hi := rin_any m h.win
  rw [hin] at hi
  have HI := Lib.hid hi
  clear hi
  go_enter Tryz.func43, Tryz.ntmps43
  go_wp2_with fail
  refine HI.out.mono ?_
  rintro e w1 ⟨rfl, k1⟩
  have HK := Lib.hid k1
  clear k1
  go_wp2_with fail
  go_ret
  exact ⟨rfl, HK.out⟩
set_option maxRecDepth 100000 in
set_option maxHeartbeats 4000000 in
/-- The basis of a generation in the window: that which there is, or a new one. -/
theorem yat_in (h : RefYA w F p g s k b L wb A n c G) (m : Nat) (hin : winIn b k m = true) :
    Calls Tryz.prog 43 #[.pointer (some ⟨p, 0, none⟩), .int .u64 (m : Int)] w fun e w' => ∃ (F' : Nat → Prop) (A' : Option Addr) (n' c' : Nat) (G' : List GenS) (i : Nat) (x : GenS), e = .returned (.pointer (some ⟨x.q, 0, none⟩)) ∧ RefYA w' F' p g s k b L wb A' n' c' G' ∧ G'[i]? = some x ∧ x.n = m ∧ (∀ a, F' a → F a ∨ w.heap.size ≤ a) ∧ Turned F w w' := by
  have c2 := h.c2
  have hi := rin_any m h.win
  rw [hin] at hi
  have HI := Lib.hid hi
  have H := Lib.hid h
  have HG := Lib.hid (And.intro h.g1 (And.intro h.g2 (And.intro h.s1 h.s2)))
  have hn16 : n ≤ 16 := Nat.le_trans h.short h.win.high
  have HIN := Lib.hid hin
  clear hi h
  go_enter Tryz.func43, Tryz.ntmps43
  go_wp2_with fail
  refine HI.out.mono ?_
  rintro e w1 ⟨rfl, k1⟩
  have HY := Lib.hid (H.out.keep k1)
  have HKO := Lib.hid k1
  have c3 := HY.out.c3
  clear k1 HI c2
  obtain ⟨wo, rfl⟩ : ∃ wo, wo = w1 := ⟨_, rfl⟩
  go_wp2_with fail
  go_loopw [5] (fun iv wz => ∃ i : Nat, i ≤ n ∧ iv = .int .i64 (i : Int) ∧ wz = wo ∧ ∀ (j : Nat) (x : GenS), j < i → G[j]? = some x → x.n < m) (fun iv _ => n - (intOf iv).toNat)
  case atStart => exact ⟨0, by omega, rfl, rfl, fun j x hj => by omega⟩
  case round =>
    obtain ⟨i, hi, rfl, hwo, hlo⟩ := hrel
    obtain rfl : wr = wo := hwo
    have HLO := Lib.hid hlo
    clear hlo
    have c3 := HY.out.c3
    have e0 : (0 : Int) ≤ (i : Int) := Int.natCast_nonneg _
    by_cases hlt : i < n
    · have e1 : (i : Int) < (n : Int) := by omega
      have e1' : decide ((i : Int) < (n : Int)) = true := decide_eq_true e1
      obtain ⟨bb, off, y, rfl, hb1, hb2, hy, hc1, hc2⟩ := (HY.out.own.insO).at_ hlt
      obtain ⟨x, hx, rfl⟩ : ∃ x, G[i]? = some x ∧ y = (x.n, x.q) := by
        unfold gnL at hy
        rw [List.getElem?_map] at hy
        cases hg : G[i]? with
        | none => rw [hg] at hy; cases hy
        | some x => rw [hg] at hy; injection hy with hy; exact ⟨x, rfl, hy.symm⟩
      have HX := Lib.hid hx
      obtain ⟨xn, hxn⟩ : ∃ v, x.n = v := ⟨_, rfl⟩
      obtain ⟨xq, hxq⟩ : ∃ v, x.q = v := ⟨_, rfl⟩
      replace hc1 : wr.cell? ⟨bb, off + i * 2, none⟩ = some (.int .u64 (xn : Int)) := by rw [← hxn]; exact hc1
      replace hc2 : wr.cell? ⟨bb, off + i * 2 + 1, none⟩ = some (.pointer (some ⟨xq, 0, none⟩)) := by rw [← hxq]; exact hc2
      have HXN := Lib.hid hxn
      have HXQ := Lib.hid hxq
      clear hb1 hb2 hy hx hxn hxq
      by_cases hl : xn < m
      · have g1 : (xn : Int) < (m : Int) := by omega
        have g2 : decide ((xn : Int) < (m : Int)) = true := decide_eq_true g1
        go_wp2_with fail
        go_roundw
        case rel => exact ⟨i + 1, by omega, by go_num, by first | rfl | trivial, fun j y hj hy => by
          by_cases e : j = i
          · subst e
            rw [HX.out] at hy
            injection hy with hy
            subst hy
            have := HXN.out; omega
          · exact HLO.out j y (by omega) hy⟩
        case measure => simp [intOf]; omega
      · have g1 : ¬ (xn : Int) < (m : Int) := by omega
        have g2 : decide ((xn : Int) < (m : Int)) = false := decide_eq_false g1
        by_cases he : xn = m
        · obtain rfl : xn = m := he
          have g3 : ((xn : Int) == (xn : Int)) = true := by simp
          go_wp2_with fail
          go_ret
          exact ⟨F, _, n, c, G, i, x, by rw [HXQ.out]; rfl, HY.out, HX.out, HXN.out, fun a ha => Or.inl ha, Turned.of_keep HKO.out⟩
        · have g3 : ((xn : Int) == (m : Int)) = false := by rw [beq_eq_false_iff_ne]; omega
          have g4 : decide ((xn : Int) = (m : Int)) = false := decide_eq_false (by omega)
          have HHI : Hid (∀ (j : Nat) (y : GenS), i ≤ j → G[j]? = some y → m < y.n) := fun j y hj hy => by
            have h0 := HXN.out
            rcases Nat.lt_or_ge i j with e | e
            · have := HY.out.up i j x y e HX.out hy; omega
            · obtain rfl : j = i := by omega
              rw [HX.out] at hy
              injection hy with hy
              subst hy
              omega
          clear HX HXN HXQ
          go_upto_region 8 with fail
          clear g1 g2 g3 g4 hl he hc1 hc2
          refine wp_region_noPanic ?_
          refine wp_region_held_drew (S := fun wz => wz.cell? ⟨p, 0, none⟩ = some (.int .i64 (g : Int)) ∧ wz.cell? ⟨p, 1, none⟩ = some (.int .i64 (s : Int))) (by kernel_rfl) ⟨HY.out.c0, HY.out.c1⟩ (fun hHeld => ?_)
          refine wpAnyH_take (i := 0) (v := ?_) rfl (by kernel_rfl) (by kernel_rfl) (by kernel_rfl) (fun _ _ _ h => h) (Or.inl ⟨by rfl, ?_⟩) hHeld ?_
          rotate_left
          · intro wq hSw
            go_simp
            all_goals with_reducible rfl
          try simp only [Act.put, List.getElem_toArray, List.getElem_cons_succ, List.getElem_cons_zero, List.setIfInBounds_toArray, List.set_cons_zero, List.set_cons_succ]
          refine wpAnyH_take (i := 1) (v := ?_) rfl (by kernel_rfl) (by kernel_rfl) (by kernel_rfl) (fun _ _ _ h => h) (Or.inl ⟨by rfl, ?_⟩) hHeld ?_
          rotate_left
          · intro wq hSw
            go_simp
            all_goals with_reducible rfl
          try simp only [Act.put, List.getElem_toArray, List.getElem_cons_succ, List.getElem_cons_zero, List.setIfInBounds_toArray, List.set_cons_zero, List.set_cons_succ]
          refine wpAnyH_take (i := 2) (v := ?_) rfl (by kernel_rfl) (by kernel_rfl) (by kernel_rfl) (fun _ _ _ h => h) (Or.inl ⟨by rfl, ?_⟩) hHeld ?_
          rotate_left
          · intro wq hSw
            go_simp
            all_goals with_reducible rfl
          try simp only [Act.put, List.getElem_toArray, List.getElem_cons_succ, List.getElem_cons_zero, List.setIfInBounds_toArray, List.set_cons_zero, List.set_cons_succ]
          refine wpAnyH_take (i := 3) (v := ?_) rfl (by kernel_rfl) (by kernel_rfl) (by kernel_rfl) (fun _ _ _ h => h) (Or.inl ⟨by rfl, ?_⟩) hHeld ?_
          rotate_left
          · intro wq hSw
            have q0 := hSw.1
            go_simp
            all_goals with_reducible rfl
          try simp only [Act.put, List.getElem_toArray, List.getElem_cons_succ, List.getElem_cons_zero, List.setIfInBounds_toArray, List.set_cons_zero, List.set_cons_succ]
          refine wpAnyH_take (i := 4) (v := ?_) rfl (by kernel_rfl) (by kernel_rfl) (by kernel_rfl) (fun _ _ _ h => h) (Or.inl ⟨by rfl, ?_⟩) hHeld ?_
          rotate_left
          · intro wq hSw
            go_simp
            all_goals with_reducible rfl
          try simp only [Act.put, List.getElem_toArray, List.getElem_cons_succ, List.getElem_cons_zero, List.setIfInBounds_toArray, List.set_cons_zero, List.set_cons_succ]
          refine wpAnyH_take (i := 5) (v := ?_) rfl (by kernel_rfl) (by kernel_rfl) (by kernel_rfl) (fun _ _ _ h => h) (Or.inl ⟨by rfl, ?_⟩) hHeld ?_
          rotate_left
          · intro wq hSw
            go_simp
            all_goals with_reducible rfl
          try simp only [Act.put, List.getElem_toArray, List.getElem_cons_succ, List.getElem_cons_zero, List.setIfInBounds_toArray, List.set_cons_zero, List.set_cons_succ]
          refine wpAnyH_take (i := 6) (v := ?_) rfl (by kernel_rfl) (by kernel_rfl) (by kernel_rfl) (fun _ _ _ h => h) (Or.inl ⟨by rfl, ?_⟩) hHeld ?_
          rotate_left
          · intro wq hSw
            go_simp
            all_goals with_reducible rfl
          try simp only [Act.put, List.getElem_toArray, List.getElem_cons_succ, List.getElem_cons_zero, List.setIfInBounds_toArray, List.set_cons_zero, List.set_cons_succ]
          refine wpAnyH_take (i := 7) (v := ?_) rfl (by kernel_rfl) (by kernel_rfl) (by kernel_rfl) (fun _ _ _ h => h) (Or.inl ⟨by rfl, ?_⟩) hHeld ?_
          rotate_left
          · intro wq hSw
            have q0 := hSw.2
            go_simp
            all_goals with_reducible rfl
          try simp only [Act.put, List.getElem_toArray, List.getElem_cons_succ, List.getElem_cons_zero, List.setIfInBounds_toArray, List.set_cons_zero, List.set_cons_succ]
          refine wpAnyH_ready (rs := [8]) (by kernel_rfl) (by simp) ?_
          refine AllReadyH.cons rfl (fun K hK => ?_) AllReadyH.nil
          go_simp
          refine (rpnew_in g s HG.out.1 HG.out.2.1 HG.out.2.2.1 HG.out.2.2.2 _).mono ?_
          rintro e w5 ⟨q5, bi, br, F5, rfl, r5, f5, k5⟩
          have k5' : Keep wr w5 := (Keep.drew (Keep.refl wr)).trans k5
          have HY5 := Lib.hid (HY.out.keep k5')
          have HR5 := Lib.hid r5
          have HF5 : Hid (∀ a, F5 a → wr.heap.size ≤ a) := f5
          have HK5 := Lib.hid k5'
          clear r5 f5 k5 k5'
          refine hK.out _ _ ⟨HY5.out.c0, HY5.out.c1⟩ (fun hHeld => ?_)
          clear hK K
          try simp only [Act.put, List.getElem_toArray, List.getElem_cons_succ, List.getElem_cons_zero, List.setIfInBounds_toArray, List.set_cons_zero, List.set_cons_succ]
          refine wpAnyH_take (i := 9) (v := ?_) rfl (by kernel_rfl) (by kernel_rfl) (by kernel_rfl) (fun _ _ _ h => h) (Or.inl ⟨by rfl, ?_⟩) hHeld ?_
          rotate_left
          · intro wq hSw
            go_simp
            all_goals with_reducible rfl
          try simp only [Act.put, List.getElem_toArray, List.getElem_cons_succ, List.getElem_cons_zero, List.setIfInBounds_toArray, List.set_cons_zero, List.set_cons_succ]
          refine wpAnyH_take (i := 10) (v := ?_) rfl (by kernel_rfl) (by kernel_rfl) (by kernel_rfl) (fun _ _ _ h => h) (Or.inl ⟨by rfl, ?_⟩) hHeld ?_
          rotate_left
          · intro wq hSw
            go_simp
            all_goals with_reducible rfl
          try simp only [Act.put, List.getElem_toArray, List.getElem_cons_succ, List.getElem_cons_zero, List.setIfInBounds_toArray, List.set_cons_zero, List.set_cons_succ]
          refine wpAnyH_take (i := 11) (v := ?_) rfl (by kernel_rfl) (by kernel_rfl) (by kernel_rfl) (fun _ _ _ h => h) (Or.inl ⟨by rfl, ?_⟩) hHeld ?_
          rotate_left
          · intro wq hSw
            go_simp
            all_goals with_reducible rfl
          try simp only [Act.put, List.getElem_toArray, List.getElem_cons_succ, List.getElem_cons_zero, List.setIfInBounds_toArray, List.set_cons_zero, List.set_cons_succ]
          refine wpAnyH_take (i := 12) (v := ?_) rfl (by kernel_rfl) (by kernel_rfl) (by kernel_rfl) (fun _ _ _ h => h) (Or.inl ⟨by rfl, ?_⟩) hHeld ?_
          rotate_left
          · intro wq hSw
            go_simp
            all_goals with_reducible rfl
          try simp only [Act.put, List.getElem_toArray, List.getElem_cons_succ, List.getElem_cons_zero, List.setIfInBounds_toArray, List.set_cons_zero, List.set_cons_succ]
          refine wpAnyH_take (i := 13) (v := ?_) rfl (by kernel_rfl) (by kernel_rfl) (by kernel_rfl) (fun _ _ _ h => h) (Or.inl ⟨by rfl, ?_⟩) hHeld ?_
          rotate_left
          · intro wq hSw
            go_simp
            all_goals with_reducible rfl
          try simp only [Act.put, List.getElem_toArray, List.getElem_cons_succ, List.getElem_cons_zero, List.setIfInBounds_toArray, List.set_cons_zero, List.set_cons_succ]
          refine wpAnyH_done (by kernel_rfl) ?_ _
          refine NoPanic.normal ?_
          clear hHeld
          obtain ⟨w6, rfl⟩ : ∃ x, x = w5 := ⟨_, rfl⟩
          have c36 := HY5.out.c3
          have hcap := HY5.out.own.cap
          have htake := fun (w : World) => run_slice_h (P := Tryz.prog) (w := w) 96 (some ⟨bb, off, none⟩) n c Tryz.underlying96 .i64 (i : Int) (by omega) (by omega)
          have hdrop : ∀ w, (Instr.slice 96 (.slice (some ⟨bb, off, none⟩) n c) (some (.int .i64 (i : Int))) none none).run Tryz.prog w = .ok (.slice (dropG (some ⟨bb, off, none⟩) c i) (n - i) (c - i)) w := fun w => run_drop_gn (t := 96) (by kernel_rfl) (by kernel_rfl) n c i _ (by omega) w
          rw [Int.toNat_natCast] at htake
          have HGN := Lib.hid HY5.out.own.insO
          have HCAP := Lib.hid hcap
          clear hcap
          go_wp2_with (at_builtin; refine wpList_append_gns rfl _ _ 96 rfl (Nat.zero_add i) Tryz.underlying96 rfl (OwnGn.none_ w6 w6.heap.size) rfl (HGN.out.take (k := i) (by omega)).1 (HGN.out.take (k := i) (by omega)).cells (by omega) (Nat.le_refl _) ?_)
          intro A7 c7 w7 o7 g7 b7
          have HK7 : Hid (Keep w6 w7) := (Keep.refl w6).grown g7 fun k hk => by simp [Value.ownBlock] at hk
          have HO7 := Lib.hid o7
          clear o7 g7 b7 c36 htake
          go_wp2_with (at_builtin; refine wpList_append_gns rfl _ _ 96 rfl (m := 1) (news := [(m, q5)]) (Eq.refl (i + 1)) Tryz.underlying96 rfl (HO7.out.alloc _) rfl rfl (fun _ => ⟨w7.heap.size, 0, rfl, fun j p hj => by
              have hj0 : j = 0 := by
                rcases j with _ | j
                · rfl
                · simp at hj
              subst hj0
              injection hj with hj
              subst hj
              exact ⟨cell_of_row _ _ _ _ _ _ (heap_alloc_new _ _), cell_of_row _ _ _ _ _ _ (heap_alloc_new _ _)⟩⟩) (by omega) (by have := HK7.out.size; simp; omega) ?_)
          intro A8 c8 w8 o8 g8 b8
          have HK8 : Hid (Keep w6 w8) := (HK7.out.trans ((Keep.refl w7).alloc _ _)).grown g8 fun k hk => HO7.out.rowLe k hk
          have HO8 := Lib.hid o8
          have c38 := (HY5.out.keep HK8.out).c3
          have hdr := (HGN.out.keep HK8.out).drop (k := i) HCAP.out
          have HDR := Lib.hid hdr
          clear o8 g8 b8 hdr
          go_wp2_with (at_builtin; refine wpList_append_gns rfl _ _ 96 rfl (nm := n + 1) (show i + 1 + (n - i) = n + 1 by omega) Tryz.underlying96 rfl HO8.out rfl HDR.out.1 HDR.out.cells (by omega) (HK8.out.size) ?_)
          intro A9 c9 w9 o9 g9 b9
          have HK9 : Hid (Keep w6 w9) := HK8.out.grown g9 fun k hk => HO8.out.rowLe k hk
          have HO9 := Lib.hid o9
          have c39 := (HY5.out.keep HK9.out).c3
          have hfr := (HY5.out.keep HK9.out).free 3
          clear o9 g9 b9 c38 hdrop
          go_wp2_with fail
          go_ret
          have h9 : OwnGn w9 w6.heap.size A9 (n + 1) c9 (gnL (G.take i ++ [⟨m, q5, F5, []⟩] ++ G.drop i)) := by
            rw [gnL_ins]
            simpa using HO9.out
          have kall := HK5.out.trans HK9.out
          have hins := HY.out.insert (x := ⟨m, q5, F5, []⟩) kall (by omega) h9 HK5.out.size ⟨Bas.nil g s, bi, br, _, _, HR5.out.keep HK9.out, Slots.none g s _⟩ rfl HIN.out (fun a ha => ⟨HF5.out a ha, HR5.out.lt a ha⟩) HLO.out HHI.out
          exact ⟨_, _, _, _, _, i, ⟨m, q5, F5, []⟩, rfl, hins, ins_at (by rw [HY.out.len]; omega), rfl, fun a ha => by
            have h1 := HKO.out.size
            have h2 := HK5.out.size
            rcases ha with ha | ha | ha
            · exact Or.inl ha
            · exact Or.inr (Nat.le_trans h1 (HF5.out a ha))
            · exact Or.inr (Nat.le_trans h1 (Nat.le_trans h2 (h9.rowLe a ha))), (Turned.of_keep (F := F) (HKO.out.trans kall)).trans (Turned.set (F := F) w9 ⟨p, 3, none⟩ _ HY.out.fp) fun j e => Or.inl e⟩
    · have HHI : Hid (∀ (j : Nat) (y : GenS), i ≤ j → G[j]? = some y → m < y.n) := fun j y hj hy => by
        have h1 := (List.getElem?_eq_some_iff.1 hy).1
        have h2 := HY.out.len
        omega
      have e1 : ¬ (i : Int) < (n : Int) := by omega
      have e1' : decide ((i : Int) < (n : Int)) = false := decide_eq_false e1
      go_upto_region 8 with fail
      clear e1 e1' hlt
      refine wp_region_noPanic ?_
      refine wp_region_held_drew (S := fun wz => wz.cell? ⟨p, 0, none⟩ = some (.int .i64 (g : Int)) ∧ wz.cell? ⟨p, 1, none⟩ = some (.int .i64 (s : Int))) (by kernel_rfl) ⟨HY.out.c0, HY.out.c1⟩ (fun hHeld => ?_)
      refine wpAnyH_take (i := 0) (v := ?_) rfl (by kernel_rfl) (by kernel_rfl) (by kernel_rfl) (fun _ _ _ h => h) (Or.inl ⟨by rfl, ?_⟩) hHeld ?_
      rotate_left
      · intro wq hSw
        go_simp
        all_goals with_reducible rfl
      try simp only [Act.put, List.getElem_toArray, List.getElem_cons_succ, List.getElem_cons_zero, List.setIfInBounds_toArray, List.set_cons_zero, List.set_cons_succ]
      refine wpAnyH_take (i := 1) (v := ?_) rfl (by kernel_rfl) (by kernel_rfl) (by kernel_rfl) (fun _ _ _ h => h) (Or.inl ⟨by rfl, ?_⟩) hHeld ?_
      rotate_left
      · intro wq hSw
        go_simp
        all_goals with_reducible rfl
      try simp only [Act.put, List.getElem_toArray, List.getElem_cons_succ, List.getElem_cons_zero, List.setIfInBounds_toArray, List.set_cons_zero, List.set_cons_succ]
      refine wpAnyH_take (i := 2) (v := ?_) rfl (by kernel_rfl) (by kernel_rfl) (by kernel_rfl) (fun _ _ _ h => h) (Or.inl ⟨by rfl, ?_⟩) hHeld ?_
      rotate_left
      · intro wq hSw
        go_simp
        all_goals with_reducible rfl
      try simp only [Act.put, List.getElem_toArray, List.getElem_cons_succ, List.getElem_cons_zero, List.setIfInBounds_toArray, List.set_cons_zero, List.set_cons_succ]
      refine wpAnyH_take (i := 3) (v := ?_) rfl (by kernel_rfl) (by kernel_rfl) (by kernel_rfl) (fun _ _ _ h => h) (Or.inl ⟨by rfl, ?_⟩) hHeld ?_
      rotate_left
      · intro wq hSw
        have q0 := hSw.1
        go_simp
        all_goals with_reducible rfl
      try simp only [Act.put, List.getElem_toArray, List.getElem_cons_succ, List.getElem_cons_zero, List.setIfInBounds_toArray, List.set_cons_zero, List.set_cons_succ]
      refine wpAnyH_take (i := 4) (v := ?_) rfl (by kernel_rfl) (by kernel_rfl) (by kernel_rfl) (fun _ _ _ h => h) (Or.inl ⟨by rfl, ?_⟩) hHeld ?_
      rotate_left
      · intro wq hSw
        go_simp
        all_goals with_reducible rfl
      try simp only [Act.put, List.getElem_toArray, List.getElem_cons_succ, List.getElem_cons_zero, List.setIfInBounds_toArray, List.set_cons_zero, List.set_cons_succ]
      refine wpAnyH_take (i := 5) (v := ?_) rfl (by kernel_rfl) (by kernel_rfl) (by kernel_rfl) (fun _ _ _ h => h) (Or.inl ⟨by rfl, ?_⟩) hHeld ?_
      rotate_left
      · intro wq hSw
        go_simp
        all_goals with_reducible rfl
      try simp only [Act.put, List.getElem_toArray, List.getElem_cons_succ, List.getElem_cons_zero, List.setIfInBounds_toArray, List.set_cons_zero, List.set_cons_succ]
      refine wpAnyH_take (i := 6) (v := ?_) rfl (by kernel_rfl) (by kernel_rfl) (by kernel_rfl) (fun _ _ _ h => h) (Or.inl ⟨by rfl, ?_⟩) hHeld ?_
      rotate_left
      · intro wq hSw
        go_simp
        all_goals with_reducible rfl
      try simp only [Act.put, List.getElem_toArray, List.getElem_cons_succ, List.getElem_cons_zero, List.setIfInBounds_toArray, List.set_cons_zero, List.set_cons_succ]
      refine wpAnyH_take (i := 7) (v := ?_) rfl (by kernel_rfl) (by kernel_rfl) (by kernel_rfl) (fun _ _ _ h => h) (Or.inl ⟨by rfl, ?_⟩) hHeld ?_
      rotate_left
      · intro wq hSw
        have q0 := hSw.2
        go_simp
        all_goals with_reducible rfl
      try simp only [Act.put, List.getElem_toArray, List.getElem_cons_succ, List.getElem_cons_zero, List.setIfInBounds_toArray, List.set_cons_zero, List.set_cons_succ]
      refine wpAnyH_ready (rs := [8]) (by kernel_rfl) (by simp) ?_
      refine AllReadyH.cons rfl (fun K hK => ?_) AllReadyH.nil
      go_simp
      refine (rpnew_in g s HG.out.1 HG.out.2.1 HG.out.2.2.1 HG.out.2.2.2 _).mono ?_
      rintro e w5 ⟨q5, bi, br, F5, rfl, r5, f5, k5⟩
      have k5' : Keep wr w5 := (Keep.drew (Keep.refl wr)).trans k5
      have HY5 := Lib.hid (HY.out.keep k5')
      have HR5 := Lib.hid r5
      have HF5 : Hid (∀ a, F5 a → wr.heap.size ≤ a) := f5
      have HK5 := Lib.hid k5'
      clear r5 f5 k5 k5'
      refine hK.out _ _ ⟨HY5.out.c0, HY5.out.c1⟩ (fun hHeld => ?_)
      clear hK K
      try simp only [Act.put, List.getElem_toArray, List.getElem_cons_succ, List.getElem_cons_zero, List.setIfInBounds_toArray, List.set_cons_zero, List.set_cons_succ]
      refine wpAnyH_take (i := 9) (v := ?_) rfl (by kernel_rfl) (by kernel_rfl) (by kernel_rfl) (fun _ _ _ h => h) (Or.inl ⟨by rfl, ?_⟩) hHeld ?_
      rotate_left
      · intro wq hSw
        go_simp
        all_goals with_reducible rfl
      try simp only [Act.put, List.getElem_toArray, List.getElem_cons_succ, List.getElem_cons_zero, List.setIfInBounds_toArray, List.set_cons_zero, List.set_cons_succ]
      refine wpAnyH_take (i := 10) (v := ?_) rfl (by kernel_rfl) (by kernel_rfl) (by kernel_rfl) (fun _ _ _ h => h) (Or.inl ⟨by rfl, ?_⟩) hHeld ?_
      rotate_left
      · intro wq hSw
        go_simp
        all_goals with_reducible rfl
      try simp only [Act.put, List.getElem_toArray, List.getElem_cons_succ, List.getElem_cons_zero, List.setIfInBounds_toArray, List.set_cons_zero, List.set_cons_succ]
      refine wpAnyH_take (i := 11) (v := ?_) rfl (by kernel_rfl) (by kernel_rfl) (by kernel_rfl) (fun _ _ _ h => h) (Or.inl ⟨by rfl, ?_⟩) hHeld ?_
      rotate_left
      · intro wq hSw
        go_simp
        all_goals with_reducible rfl
      try simp only [Act.put, List.getElem_toArray, List.getElem_cons_succ, List.getElem_cons_zero, List.setIfInBounds_toArray, List.set_cons_zero, List.set_cons_succ]
      refine wpAnyH_take (i := 12) (v := ?_) rfl (by kernel_rfl) (by kernel_rfl) (by kernel_rfl) (fun _ _ _ h => h) (Or.inl ⟨by rfl, ?_⟩) hHeld ?_
      rotate_left
      · intro wq hSw
        go_simp
        all_goals with_reducible rfl
      try simp only [Act.put, List.getElem_toArray, List.getElem_cons_succ, List.getElem_cons_zero, List.setIfInBounds_toArray, List.set_cons_zero, List.set_cons_succ]
      refine wpAnyH_take (i := 13) (v := ?_) rfl (by kernel_rfl) (by kernel_rfl) (by kernel_rfl) (fun _ _ _ h => h) (Or.inl ⟨by rfl, ?_⟩) hHeld ?_
      rotate_left
      · intro wq hSw
        go_simp
        all_goals with_reducible rfl
      try simp only [Act.put, List.getElem_toArray, List.getElem_cons_succ, List.getElem_cons_zero, List.setIfInBounds_toArray, List.set_cons_zero, List.set_cons_succ]
      refine wpAnyH_done (by kernel_rfl) ?_ _
      refine NoPanic.normal ?_
      clear hHeld
      obtain ⟨w6, rfl⟩ : ∃ x, x = w5 := ⟨_, rfl⟩
      have c36 := HY5.out.c3
      have hcap := HY5.out.own.cap
      have htake := fun (w : World) => run_slice_h (P := Tryz.prog) (w := w) 96 A n c Tryz.underlying96 .i64 (i : Int) (by omega) (by omega)
      have hdrop : ∀ w, (Instr.slice 96 (.slice A n c) (some (.int .i64 (i : Int))) none none).run Tryz.prog w = .ok (.slice (dropG A c i) (n - i) (c - i)) w := fun w => run_drop_gn (t := 96) (by kernel_rfl) (by kernel_rfl) n c i _ (by omega) w
      rw [Int.toNat_natCast] at htake
      have HGN := Lib.hid HY5.out.own.insO
      have HCAP := Lib.hid hcap
      clear hcap
      go_wp2_with (at_builtin; refine wpList_append_gns rfl _ _ 96 rfl (Nat.zero_add i) Tryz.underlying96 rfl (OwnGn.none_ w6 w6.heap.size) rfl (HGN.out.take (k := i) (by omega)).1 (HGN.out.take (k := i) (by omega)).cells (by omega) (Nat.le_refl _) ?_)
      intro A7 c7 w7 o7 g7 b7
      have HK7 : Hid (Keep w6 w7) := (Keep.refl w6).grown g7 fun k hk => by simp [Value.ownBlock] at hk
      have HO7 := Lib.hid o7
      clear o7 g7 b7 c36 htake
      go_wp2_with (at_builtin; refine wpList_append_gns rfl _ _ 96 rfl (m := 1) (news := [(m, q5)]) (Eq.refl (i + 1)) Tryz.underlying96 rfl (HO7.out.alloc _) rfl rfl (fun _ => ⟨w7.heap.size, 0, rfl, fun j p hj => by
          have hj0 : j = 0 := by
            rcases j with _ | j
            · rfl
            · simp at hj
          subst hj0
          injection hj with hj
          subst hj
          exact ⟨cell_of_row _ _ _ _ _ _ (heap_alloc_new _ _), cell_of_row _ _ _ _ _ _ (heap_alloc_new _ _)⟩⟩) (by omega) (by have := HK7.out.size; simp; omega) ?_)
      intro A8 c8 w8 o8 g8 b8
      have HK8 : Hid (Keep w6 w8) := (HK7.out.trans ((Keep.refl w7).alloc _ _)).grown g8 fun k hk => HO7.out.rowLe k hk
      have HO8 := Lib.hid o8
      have c38 := (HY5.out.keep HK8.out).c3
      have hdr := (HGN.out.keep HK8.out).drop (k := i) HCAP.out
      have HDR := Lib.hid hdr
      clear o8 g8 b8 hdr
      go_wp2_with (at_builtin; refine wpList_append_gns rfl _ _ 96 rfl (nm := n + 1) (show i + 1 + (n - i) = n + 1 by omega) Tryz.underlying96 rfl HO8.out rfl HDR.out.1 HDR.out.cells (by omega) (HK8.out.size) ?_)
      intro A9 c9 w9 o9 g9 b9
      have HK9 : Hid (Keep w6 w9) := HK8.out.grown g9 fun k hk => HO8.out.rowLe k hk
      have HO9 := Lib.hid o9
      have c39 := (HY5.out.keep HK9.out).c3
      have hfr := (HY5.out.keep HK9.out).free 3
      clear o9 g9 b9 c38 hdrop
      go_wp2_with fail
      go_ret
      have h9 : OwnGn w9 w6.heap.size A9 (n + 1) c9 (gnL (G.take i ++ [⟨m, q5, F5, []⟩] ++ G.drop i)) := by
        rw [gnL_ins]
        simpa using HO9.out
      have kall := HK5.out.trans HK9.out
      have hins := HY.out.insert (x := ⟨m, q5, F5, []⟩) kall (by omega) h9 HK5.out.size ⟨Bas.nil g s, bi, br, _, _, HR5.out.keep HK9.out, Slots.none g s _⟩ rfl HIN.out (fun a ha => ⟨HF5.out a ha, HR5.out.lt a ha⟩) HLO.out HHI.out
      exact ⟨_, _, _, _, _, i, ⟨m, q5, F5, []⟩, rfl, hins, ins_at (by rw [HY.out.len]; omega), rfl, fun a ha => by
        have h1 := HKO.out.size
        have h2 := HK5.out.size
        rcases ha with ha | ha | ha
        · exact Or.inl ha
        · exact Or.inr (Nat.le_trans h1 (HF5.out a ha))
        · exact Or.inr (Nat.le_trans h1 (Nat.le_trans h2 (h9.rowLe a ha))), (Turned.of_keep (F := F) (HKO.out.trans kall)).trans (Turned.set (F := F) w9 ⟨p, 3, none⟩ _ HY.out.fp) fun j e => Or.inl e⟩
end
end Go.Proofs.YtgelalbmhllccaaGreat
/- The document's own basis: Combine; a row of one's own. -/
namespace Go.Proofs.YtgelalbmhllccaaGreat
open Go.RowKit Lin
set_option linter.unusedVariables false
set_option linter.unusedSimpArgs false
/-- Rows being summed, in a box at qz. -/
structure CombI (w wr : World) (qz lo g s : Nat) (v : List Nat) (p : PairV) : Prop where
  row : wr.heap[qz]? = some (.cells #[p.a.val, p.b.val] 45 (0, 0))
  an : p.a.n = g
  bn : p.b.n = s
  a : LiesIn wr (fun b => lo ≤ b ∧ b < wr.heap.size) p.a
  b : LiesIn wr (fun b => lo ≤ b ∧ b < wr.heap.size) p.b
  xs : p.a.xs ++ p.b.xs = v
  keep : Keep w wr
theorem CombI.put {w wr w4 w5 : World} {qz lo g s : Nat} {v v' xs ys : List Nat} {p p' : PairV} (h : CombI w wr qz lo g s v p) (hb : w5.heap[qz]? = some (.cells #[p'.a.val, p'.b.val] 45 (0, 0))) (t : Turned (fun b => b = qz) w4 w5) (k4 : Keep wr w4) (hC : SumR wr.drew w4 g s xs ys p') (hlo : lo ≤ wr.heap.size) (hw : w.heap.size ≤ qz) (hx : p'.a.xs ++ p'.b.xs = v') : CombI w w5 qz lo g s v' p' := by
  have hq := (Array.getElem?_eq_some_iff.1 h.row).1
  have hd : ∀ b, (wr.heap.size ≤ b ∧ b < w4.heap.size) → ¬ b = qz := fun b hb => by omega
  have hm : ∀ b, (wr.heap.size ≤ b ∧ b < w4.heap.size) → (lo ≤ b ∧ b < w5.heap.size) := fun b hb => ⟨by omega, Nat.lt_of_lt_of_le hb.2 t.size⟩
  exact ⟨hb, hC.an, hC.bn, ((hC.a.lies.mono fun b hb => hC.a.1.lt b hb).turned t hd).mono hm, ((hC.b.lies.mono fun b hb => hC.b.1.lt b hb).turned t hd).mono hm, hx, t.keep (h.keep.trans k4) fun i e => by rw [e]; exact hw⟩
section
variable {w : World} {F G : Nat → Prop} {b g s bi br : Nat} {iv : List Bool} {R : List PairV} {B : List (List Nat)}
end
end Go.Proofs.YtgelalbmhllccaaGreat
/- The document's own basis: Solve, Same; a row in new memory. -/
namespace Go.Proofs.YtgelalbmhllccaaGreat
open Go.RowKit Lin
set_option linter.unusedVariables false
set_option linter.unusedSimpArgs false
section
variable {w : World} {F G : Nat → Prop} {b g s bi br : Nat} {iv : List Bool} {R : List PairV} {B : List (List Nat)}
set_option maxRecDepth 100000 in
theorem rpsolve_low (h : RefR w F b g s bi br iv R) (hS : Slots g s iv R B) (hg : g ≤ 255) (hlt : B.length < g) :
    Calls Tryz.prog 85 #[.pointer (some ⟨b, 0, none⟩)] w fun e w' => e = .returned (.tuple #[.slice none 0 0, .int .i64 24]) ∧ Keep w w' := by
  have hl : (selP iv R).length = B.length := by rw [← hS.sel, List.length_map]
  have HL := Lib.hid (And.intro hl hlt)
  have H := Lib.hid h
  clear h hS hl hlt
  go_enter Tryz.func85, Tryz.ntmps85
  go_wp2_with fail
  refine (rprows_any H.out hg).mono ?_
  rintro e w1 ⟨A, m, c, rfl, hr⟩
  have hm : m = B.length := by rw [← HL.out.1]; exact hr.1.length.symm
  have c0 := (H.out.keep hr.2.2).c0
  have K1 := Lib.hid hr.2.2
  have e1 : (m : Int) < (g : Int) := by have := HL.out.2; omega
  clear hr hm
  go_wp2_with fail
  go_ret2
  exact ⟨rfl, K1.out⟩
set_option maxRecDepth 100000 in
set_option maxHeartbeats 2000000 in
theorem rpsolve_in (h : RefR w F b g s bi br iv R) (hS : Slots g s iv R B) (hg : g ≤ 255) (hge : B.length = g) :
    Calls Tryz.prog 85 #[.pointer (some ⟨b, 0, none⟩)] w fun e w' => ∃ A c rs, e = .returned (.tuple #[.slice A g c, .int .i64 0]) ∧ OwnRows w' w.heap.size 43 A g c rs ∧ (∀ r ∈ rs, LiesIn w' F r) ∧ rowsXs rs = B.map (List.drop g) ∧ Keep w w' := by
  have hl : (selP iv R).length = B.length := by rw [← hS.sel, List.length_map]
  have hlen : ∀ p ∈ selP iv R, p.a.xs.length = g := fun p hp => by
    obtain ⟨k, hk⟩ := List.getElem?_of_mem hp
    obtain ⟨i, h1, h2⟩ := selP_mem iv R k p hk
    exact (hS.size i p h1 h2).1
  have HL := Lib.hid (And.intro hl (And.intro hS.sel hlen))
  have H := Lib.hid h
  have HGE := Lib.hid hge
  clear h hS hl hge hlen
  go_enter Tryz.func85, Tryz.ntmps85
  go_wp2_with fail
  refine (rprows_any H.out hg).mono ?_
  rintro e w1 ⟨A, m, c, rfl, hr⟩
  obtain rfl : m = g := by rw [← HGE.out, ← HL.out.1]; exact hr.1.length.symm
  have c0 := (H.out.keep hr.2.2).c0
  have K1 := Lib.hid hr.2.2
  have HRR := Lib.hid hr
  have e1 : ¬ (m : Int) < (m : Int) := by omega
  clear hr
  go_wp2_with fail
  clear c0
  go_loopw [5, 6] (fun l i wr => ∃ (k c : Nat) (A : Option Addr) (rs : List RowV), k ≤ m ∧ i = .int .i64 k ∧ l = .slice A k c ∧ OwnRows wr w1.heap.size 43 A k c rs ∧ (∀ r ∈ rs, LiesIn w1 F r) ∧ rowsXs rs = (B.take k).map (List.drop m) ∧ Keep w1 wr) (fun _ i _ => m - (intOf i).toNat)
  case atStart => exact ⟨0, 0, none, [], by omega, rfl, rfl, OwnRows.none_ _ _ _, fun r hr => by simp at hr, by simp [rowsXs], Keep.refl _⟩
  case round =>
    obtain ⟨k, cl, Al, rs, hk, rfl, rfl, ho, hrs, hxs, hK⟩ := hrel
    have HO := Lib.hid ho
    have HK := Lib.hid hK
    have HRS := Lib.hid (And.intro hrs hxs)
    clear ho hK hrs hxs
    by_cases hlt : k < m
    · obtain ⟨b2, o2, r, rfl, hb2, hr, hc1, hc3, hl2, hl3⟩ := (HRR.out.stIn.keep HK.out).at_ hlt
      have hrm := List.mem_of_getElem? hr
      have hBk : B[k]? = some r.xs := by rw [← HL.out.2.1, List.getElem?_map, hr]; rfl
      have hdr : r.b.xs = r.xs.drop m := by rw [PairV.xs, List.drop_left' (HL.out.2.2 r hrm)]
      have hlb := (HRR.out.2.1 r hrm).1.2
      obtain ⟨⟨rA, rn, rc, rx⟩, ⟨sA, sn, sc, sx⟩⟩ := r
      have HR2 := Lib.hid (And.intro hBk (And.intro hdr hlb))
      have HO2 := Lib.hid (HO.out.keep ((Keep.refl wr).alloc #[.slice sA sn sc] 43))
      have KA : Hid (Keep wr (wr.alloc (.cells #[.slice sA sn sc] 43))) := (Keep.refl wr).alloc _ _
      have HN0 : Hid ((wr.alloc (.cells #[.slice sA sn sc] 43)).cell? ⟨wr.heap.size, 0, none⟩ = some (.slice sA sn sc)) := cell_of_row _ _ _ _ _ _ (heap_alloc_new wr _)
      have e2 : (0 : Int) ≤ (k : Int) := Int.natCast_nonneg _
      have e3 : (k : Int) < (m : Int) := by omega
      have HLT : Hid (k < m) := hlt
      clear hr hrm hBk hdr hlb hb2 hl2 hl3 hlt
      go_wp2_with (at_builtin; refine wpList_append_row rfl _ _ 40 rfl ⟨sA, sn, sc, sx⟩ Tryz.underlying40 infoRow rfl HO2.out rfl HN0.out (by have := HLT.out; omega) (by have h1 := HK.out.size; have h2 := KA.out.size; omega) ?_)
      intro A2 c2 w2 h2 g2 _
      have HOO := Lib.hid h2
      have K2 : Hid (Keep w1 w2) := (HK.out.trans KA.out).grown g2 (fun i e => (HO.out.lt i e).1)
      clear h2 g2
      go_wp2_with fail
      go_roundw
      case rel => exact ⟨k + 1, c2, A2, _, by have := HLT.out; omega, by go_num, rfl, HOO.out, fun r hr => by
        rcases List.mem_append.1 hr with e | e
        · exact HRS.out.1 r e
        · rw [List.mem_singleton.1 e]; exact HR2.out.2.2, by
        have e := HRS.out.2
        rw [rowsXs] at e ⊢
        rw [List.map_append, e, List.take_add_one, HR2.out.1, Option.toList_some, List.map_append, List.map_singleton, List.map_singleton, ← HR2.out.2.1], K2.out⟩
      case measure => have := HLT.out; simp [intOf]; omega
    · obtain rfl : k = m := by omega
      go_wp2_with fail
      go_ret2
      refine ⟨Al, cl, rs, rfl, HO.out.lowerB K1.out.size, fun r hr => (HRS.out.1 r hr).turned (Turned.of_keep (F := fun _ => False) HK.out) fun _ _ e => e, ?_, K1.out.trans HK.out⟩
      rw [HRS.out.2, List.take_of_length_le (by rw [HGE.out]; exact Nat.le_refl _)]
end
end Go.Proofs.YtgelalbmhllccaaGreat
/- The document's own relay: Take, Solve, Rows, Rank, Clear. -/
namespace Go.Proofs.YtgelalbmhllccaaGreat
open Go.RowKit Lin
set_option linter.unusedVariables false
set_option linter.unusedSimpArgs false
theorem OwnedRows.lowerY {w : World} {base base' n c : Nat} {e : TypeId} {A : Option Addr} {rs : List RowV} (h : OwnRows w base e A n c rs) (hb : base' ≤ base) : OwnRows w base' e A n c rs := by
  refine ⟨h.1, ?_⟩
  rcases h.2 with h1 | ⟨g, cap, cur, hv, hg, r⟩
  · exact Or.inl h1
  · exact Or.inr ⟨g, cap, cur, hv, Nat.le_trans hb hg, r⟩
theorem OwnSt.lowerY {w : World} {base base' n c : Nat} {A : Option Addr} {ps : List PairV} (h : OwnSt w base A n c ps) (hb : base' ≤ base) : OwnSt w base' A n c ps := by
  refine ⟨h.1, ?_⟩
  rcases h.2 with h1 | ⟨g, cap, cur, hv, hg, r⟩
  · exact Or.inl h1
  · exact Or.inr ⟨g, cap, cur, hv, Nat.le_trans hb hg, r⟩
/-- The relay goes on; what it holds is what it held, or new. -/
def YNext (w w' : World) (F F' : Nat → Prop) (p g s k b : Nat) (L : Nat → List (List Nat)) : Prop := RefY w' F' p g s k b L ∧ (∀ j, F' j → F j ∨ w.heap.size ≤ j) ∧ Turned F w w'
section
variable {w w' w0 : World} {F H F2 : Nat → Prop} {p g s k b wb n c : Nat} {L : Nat → List (List Nat)} {A : Option Addr} {G : List GenS}
theorem YNext.later (h : YNext w w' F F2 p g s k b L) (kp : Keep w' w0) : YNext w w0 F F2 p g s k b L := ⟨h.1.keep kp, h.2.1, h.2.2.trans (Turned.of_keep (F := F) kp) fun j e => Or.inl e⟩
theorem YNext.behind (kp : Keep w0 w) (h : YNext w w' F F2 p g s k b L) : YNext w0 w' F F2 p g s k b L := ⟨h.1, fun j e => (h.2.1 j e).imp id fun e => Nat.le_trans kp.size e, (Turned.of_keep (F := F) kp).trans h.2.2 fun j e => Or.inl e⟩
theorem YNext.stay (h : RefY w F p g s k b L) (kp : Keep w w') : YNext w w' F F p g s k b L := ⟨h.keep kp, fun j e => Or.inl e, Turned.of_keep kp⟩
set_option maxRecDepth 100000 in
theorem ytake_out (h : RefY w F p g s k b L) (m : Nat) (hin : winIn b k m = false) (n1 n2 c1 c2 : Nat) (A1 A2 : Option Addr) :
    Calls Tryz.prog 12 #[.pointer (some ⟨p, 0, none⟩), .int .u64 (m : Int), .agg #[.slice A1 n1 c1, .slice A2 n2 c2]] w fun e w' => e = .returned (.tuple #[.bool false, .int .i64 23]) ∧ Keep w w' := by
  obtain ⟨wb, A, n, c, G, h⟩ := h
  have hat := fun (w0 : World) (kp : Keep w w0) => yat_out (h.keep kp) m hin
  have HAT := Lib.hid hat
  clear hat h
  have HKB : Hid (Keep w (w.alloc (.cells #[.slice A1 n1 c1, .slice A2 n2 c2] 45))) := (Keep.refl w).alloc _ _
  go_enter Tryz.func12, Tryz.ntmps12
  go_wp2_with fail
  refine (HAT.out _ HKB.out).mono ?_
  rintro e w2 ⟨rfl, k2⟩
  have HK2 := Lib.hid (HKB.out.trans k2)
  clear k2 HAT
  go_wp2_with fail
  go_ret2
  exact ⟨rfl, HK2.out⟩
set_option maxRecDepth 100000 in
theorem ysolve_out (h : RefY w F p g s k b L) (m : Nat) (hin : winIn b k m = false) :
    Calls Tryz.prog 45 #[.pointer (some ⟨p, 0, none⟩), .int .u64 (m : Int)] w fun e w' => e = .returned (.tuple #[.slice none 0 0, .int .i64 23]) ∧ Keep w w' := by
  obtain ⟨wb, A, n, c, G, h⟩ := h
  have hat := fun (w0 : World) (kp : Keep w w0) => yat_out (h.keep kp) m hin
  have HAT := Lib.hid hat
  clear hat h
  have HKB : Hid (Keep w w) := Keep.refl w
  go_enter Tryz.func45, Tryz.ntmps45
  go_wp2_with fail
  refine (HAT.out _ HKB.out).mono ?_
  rintro e w2 ⟨rfl, k2⟩
  have HK2 := Lib.hid (HKB.out.trans k2)
  clear k2 HAT
  go_wp2_with fail
  go_ret2
  exact ⟨rfl, HK2.out⟩
set_option maxRecDepth 100000 in
theorem ytake_in (h : RefY w F p g s k b L) (m : Nat) (hin : winIn b k m = true) (q : PairV) (hq : LiesIn w H q.a ∧ LiesIn w H q.b ∧ q.a.n = g ∧ q.b.n = s) (hH : ∀ a, H a → a < w.heap.size ∧ ¬ F a) :
    Calls Tryz.prog 12 #[.pointer (some ⟨p, 0, none⟩), .int .u64 (m : Int), q.agg] w fun e w' => e = .returned (.tuple #[.bool (!decide (inB g s (L m) q.xs)), .int .i64 0]) ∧ ∃ F', YNext w w' F F' p g s k b (upd L m (insB g s (L m) q.xs)) := by
  obtain ⟨⟨A1, n1, c1, z1⟩, ⟨A2, n2, c2, z2⟩⟩ := q
  obtain ⟨wb, A, n, c, G, h⟩ := h
  obtain ⟨r0, r1, rk⟩ := row_block w (.slice A1 n1 c1) (.slice A2 n2 c2)
  obtain ⟨w1, hw1⟩ : ∃ w1, w.alloc (.cells #[.slice A1 n1 c1, .slice A2 n2 c2] 45) = w1 := ⟨_, rfl⟩
  rw [hw1] at r0 r1 rk
  have HAT := Lib.hid (yat_in (h.keep rk) m hin)
  have hnF : ¬ F w.heap.size := fun e => by have := h.lt _ e; omega
  have HC := Lib.hid (And.intro r0 (And.intro r1 (And.intro rk hnF)))
  have HQ := Lib.hid hq
  have HH := Lib.hid hH
  clear h r0 r1 rk hq hH hnF
  show Calls _ _ #[_, _, .agg #[.slice A1 n1 c1, .slice A2 n2 c2]] _ _
  go_enter Tryz.func12, Tryz.ntmps12
  go_wp2_with fail
  refine HAT.out.mono ?_
  rintro e w2 ⟨F2, A2', n2', c2', G2, i2, x2, rfl, y2, hx2, hn2, f2, t2⟩
  have hm2 := List.mem_of_getElem? hx2
  obtain ⟨hb, bi, br, iv, R, h1, h2⟩ := y2.ok x2 hm2
  have hl2 := y2.l x2 hm2
  rw [hn2] at hl2
  rw [hl2] at hb h2
  have q0 := t2.cell HC.out.1 HC.out.2.2.2
  have q1 := t2.cell HC.out.2.1 HC.out.2.2.2
  have lies : ∀ r : RowV, LiesIn w H r → LiesIn w2 H r := fun r hr => (hr.turned (Turned.of_keep (F := fun _ => False) HC.out.2.2.1) fun _ _ e => e).turned t2 fun a ha => (HH.out a ha).2
  have hsz := Nat.le_trans HC.out.2.2.1.size t2.size
  have HI := Lib.hid (rpinsert_in h1 h2 hb ⟨⟨A1, n1, c1, z1⟩, ⟨A2, n2, c2, z2⟩⟩ ⟨lies _ HQ.out.1, lies _ HQ.out.2.1, HQ.out.2.2.1, HQ.out.2.2.2⟩ (fun a ha => Nat.lt_of_lt_of_le (HH.out a ha).1 hsz) y2.g1 y2.g2 y2.s2)
  have HY := Lib.hid (And.intro y2 (And.intro hx2 (And.intro hn2 (And.intro f2 t2))))
  have HB := Lib.hid (And.intro hb h1)
  clear y2 hx2 hn2 f2 t2 hb h1 h2 hl2 hm2 lies hsz HAT
  go_wp2_with fail
  refine HI.out.mono ?_
  rintro e w3 ⟨rfl, F3, iv3, R3, h3, s3, f3, t3⟩
  have hB := insB_bas (row := z1 ++ z2) HB.out.1 (by rw [List.length_append, HQ.out.1.1, HQ.out.2.1.1, HQ.out.2.2.1, HQ.out.2.2.2]) (AllB.append HQ.out.1.2.1 HQ.out.2.1.2.1)
  have hput := HY.out.1.put HY.out.2.1 (F' := F3) (B' := insB g s (L m) (z1 ++ z2)) ⟨hB, bi, br, iv3, R3, h3, s3⟩ f3 t3
  rw [HY.out.2.2.1] at hput
  have HP := Lib.hid hput
  have ft := HY.out.2.2.2.1
  have h12 := HC.out.2.2.1.size
  have fb : ∀ j, F3 j → F j ∨ w.heap.size ≤ j := fun j e => by
    rcases f3 j e with e | e
    · exact (ft j (HY.out.1.fx _ (List.mem_of_getElem? HY.out.2.1) j e)).imp id fun e => Nat.le_trans h12 e
    · exact Or.inr (Nat.le_trans (Nat.le_trans h12 HY.out.2.2.2.2.size) e)
  have tt : Turned F w w3 := ((Turned.of_keep (F := F) HC.out.2.2.1).trans HY.out.2.2.2.2 fun j e => Or.inl e).trans t3 fun j e => (ft j (HY.out.1.fx _ (List.mem_of_getElem? HY.out.2.1) j e)).imp id fun e => Nat.le_trans h12 e
  have HZ : Hid ((∀ j, (F2 j ∨ F3 j) → F j ∨ w.heap.size ≤ j) ∧ Turned F w w3) := ⟨fun j e => by
    rcases e with e | e
    · exact (ft j e).imp id fun e => Nat.le_trans h12 e
    · exact fb j e, tt⟩
  clear hput h3 s3 f3 t3 hB ft h12 fb tt
  go_wp2_with fail
  go_ret2
  exact ⟨rfl, _, HP.out.r, HZ.out.1, HZ.out.2⟩
set_option maxRecDepth 100000 in
theorem ytake_dim (h : RefY w F p g s k b L) (m : Nat) (hin : winIn b k m = true) (n1 n2 c1 c2 : Nat) (A1 A2 : Option Addr) (hd : n1 ≠ g ∨ n2 ≠ s) :
    Calls Tryz.prog 12 #[.pointer (some ⟨p, 0, none⟩), .int .u64 (m : Int), .agg #[.slice A1 n1 c1, .slice A2 n2 c2]] w fun e w' => e = .returned (.tuple #[.bool false, .int .i64 21]) ∧ ∃ F', YNext w w' F F' p g s k b L := by
  obtain ⟨wb, A, n, c, G, h⟩ := h
  obtain ⟨r0, r1, rk⟩ := row_block w (.slice A1 n1 c1) (.slice A2 n2 c2)
  obtain ⟨w1, hw1⟩ : ∃ w1, w.alloc (.cells #[.slice A1 n1 c1, .slice A2 n2 c2] 45) = w1 := ⟨_, rfl⟩
  rw [hw1] at r0 r1 rk
  have HAT := Lib.hid (yat_in (h.keep rk) m hin)
  have hnF : ¬ F w.heap.size := fun e => by have := h.lt _ e; omega
  have HC := Lib.hid (And.intro r0 (And.intro r1 (And.intro rk hnF)))
  clear h r0 r1 rk hnF
  go_enter Tryz.func12, Tryz.ntmps12
  go_wp2_with fail
  refine HAT.out.mono ?_
  rintro e w2 ⟨F2, A2', n2', c2', G2, i2, x2, rfl, y2, hx2, hn2, f2, t2⟩
  have hm2 := List.mem_of_getElem? hx2
  obtain ⟨hb, bi, br, iv, R, h1, h2⟩ := y2.ok x2 hm2
  have hl2 := y2.l x2 hm2
  rw [hn2] at hl2
  rw [hl2] at hb h2
  have q0 := t2.cell HC.out.1 HC.out.2.2.2
  have q1 := t2.cell HC.out.2.1 HC.out.2.2.2
  have HI := Lib.hid (rpinsert_dim h1 n1 n2 c1 c2 A1 A2 hd)
  have HY := Lib.hid (show YNext w1 w2 F F2 p g s k b L from ⟨y2.r, f2, t2⟩)
  clear y2 hx2 hn2 f2 t2 hb h1 h2 hl2 hm2 HAT
  go_wp2_with fail
  refine HI.out.mono ?_
  rintro e w3 ⟨rfl, k3⟩
  have HP := Lib.hid ((HY.out.later k3).behind HC.out.2.2.1)
  clear k3
  go_wp2_with fail
  go_ret2
  exact ⟨rfl, _, HP.out⟩
set_option maxRecDepth 100000 in
theorem ysolve_low (h : RefY w F p g s k b L) (m : Nat) (hin : winIn b k m = true) (hg : (L m).length < g) :
    Calls Tryz.prog 45 #[.pointer (some ⟨p, 0, none⟩), .int .u64 (m : Int)] w fun e w' => e = .returned (.tuple #[.slice none 0 0, .int .i64 24]) ∧ ∃ F', YNext w w' F F' p g s k b L := by
  obtain ⟨wb, A, n, c, G, h⟩ := h
  have HAT := Lib.hid (yat_in h m hin)
  clear h
  go_enter Tryz.func45, Tryz.ntmps45
  go_wp2_with fail
  refine HAT.out.mono ?_
  rintro e w2 ⟨F2, A2', n2', c2', G2, i2, x2, rfl, y2, hx2, hn2, f2, t2⟩
  have hm2 := List.mem_of_getElem? hx2
  obtain ⟨hb, bi, br, iv, R, h1, h2⟩ := y2.ok x2 hm2
  have hl2 := y2.l x2 hm2
  rw [hn2] at hl2
  rw [hl2] at hb h2
  have HI := Lib.hid (rpsolve_low h1 h2 y2.g2 hg)
  have HY := Lib.hid (show YNext w w2 F F2 p g s k b L from ⟨y2.r, f2, t2⟩)
  have HX := Lib.hid (fun a (e : x2.F a) => y2.fx x2 hm2 a e)
  have HS : Hid ((selP iv R).map PairV.xs = L m) := h2.sel
  clear y2 hx2 hn2 f2 t2 hb h1 h2 hl2 hm2 HAT
  go_wp2_with fail
  refine HI.out.mono ?_
  rintro e w3 ⟨rfl, k3⟩
  have HP := Lib.hid (HY.out.later k3)
  clear k3
  go_wp2_with fail
  go_ret2
  exact ⟨rfl, _, HP.out⟩
set_option maxRecDepth 100000 in
theorem ysolve_in (h : RefY w F p g s k b L) (m : Nat) (hin : winIn b k m = true) (hg : (L m).length = g) :
    Calls Tryz.prog 45 #[.pointer (some ⟨p, 0, none⟩), .int .u64 (m : Int)] w fun e w' => ∃ A c rs F', e = .returned (.tuple #[.slice A g c, .int .i64 0]) ∧ OwnRows w' w.heap.size 43 A g c rs ∧ (∀ r ∈ rs, LiesIn w' F' r) ∧ rowsXs rs = (L m).map (List.drop g) ∧ YNext w w' F F' p g s k b L := by
  obtain ⟨wb, A, n, c, G, h⟩ := h
  have HAT := Lib.hid (yat_in h m hin)
  clear h
  go_enter Tryz.func45, Tryz.ntmps45
  go_wp2_with fail
  refine HAT.out.mono ?_
  rintro e w2 ⟨F2, A2', n2', c2', G2, i2, x2, rfl, y2, hx2, hn2, f2, t2⟩
  have hm2 := List.mem_of_getElem? hx2
  obtain ⟨hb, bi, br, iv, R, h1, h2⟩ := y2.ok x2 hm2
  have hl2 := y2.l x2 hm2
  rw [hn2] at hl2
  rw [hl2] at hb h2
  have HI := Lib.hid (rpsolve_in h1 h2 y2.g2 hg)
  have HY := Lib.hid (show YNext w w2 F F2 p g s k b L from ⟨y2.r, f2, t2⟩)
  have HX := Lib.hid (fun a (e : x2.F a) => y2.fx x2 hm2 a e)
  have HS : Hid ((selP iv R).map PairV.xs = L m) := h2.sel
  clear y2 hx2 hn2 f2 t2 hb h1 h2 hl2 hm2 HAT
  go_wp2_with fail
  refine HI.out.mono ?_
  rintro e w3 ⟨A3, c3, rs, rfl, o3, l3, x3, k3⟩
  have HP := Lib.hid (And.intro (HY.out.later k3) (And.intro o3 (And.intro l3 x3)))
  clear k3 o3 l3 x3
  go_wp2_with fail
  go_ret2
  exact ⟨A3, c3, rs, F2, rfl, (OwnedRows.lowerY HP.out.2.1 HY.out.2.2.size), fun r hr => (HP.out.2.2.1 r hr).mono fun a ha => HX.out a ha, HP.out.2.2.2, HP.out.1⟩
end
end Go.Proofs.YtgelalbmhllccaaGreat
/- The document's own draw: ref11's Coefs and Turn. -/
namespace Go.Proofs.YtgelalbmhllccaaGreat
open Go.RowKit
set_option linter.unusedVariables false
set_option linter.unusedSimpArgs false
end Go.Proofs.YtgelalbmhllccaaGreat
/- The document's own relay: Send, Rank, Clear. -/
namespace Go.Proofs.YtgelalbmhllccaaGreat
open Go.RowKit Lin
set_option linter.unusedVariables false
set_option linter.unusedSimpArgs false
section
variable {w w' w0 : World} {F H F2 : Nat → Prop} {p g s k b wb n c : Nat} {L : Nat → List (List Nat)} {A : Option Addr} {G : List GenS}
theorem RefY.out (h : RefY w F p g s k b L) {m : Nat} (hin : winIn b k m = false) : L m = [] := by
  obtain ⟨wb, A, n, c, G, h⟩ := h
  exact h.no m fun x hx e => by have := h.inw x hx; rw [e, hin] at this; cases this
theorem YNext.own {w1 w3 w4 : World} (h : YNext w1 w3 F F2 p g s k b L) (kp : Keep w w1) (hF : ¬ F w.heap.size) (hs : w1.heap.size = w.heap.size + 1) (t : Turned (fun a => a = w.heap.size) w3 w4) : YNext w w4 F F2 p g s k b L := by
  refine ⟨h.1.turned t fun a ha e => ?_, fun j e => (h.2.1 j e).imp id fun e => Nat.le_trans kp.size e, ((Turned.of_keep (F := F) kp).trans h.2.2 fun j e => Or.inl e).trans t fun j e => Or.inr (by omega)⟩
  rcases h.2.1 a ha with e2 | e2
  · exact hF (e ▸ e2)
  · omega
end
end Go.Proofs.YtgelalbmhllccaaGreat
/- The document's own relay: Ranks. -/
namespace Go.Proofs.YtgelalbmhllccaaGreat
open Go.RowKit Lin
set_option linter.unusedVariables false
set_option linter.unusedSimpArgs false
theorem OwnU.insO {w : World} {base n c : Nat} {A : Option Addr} {l : List Nat} (h : OwnU w base A n c l) : UsIn w (fun b => (Value.slice A n c).ownBlock = some b) A n l := by
  obtain ⟨h1, h2⟩ := h.ins
  refine ⟨h1, fun hn => ?_⟩
  obtain ⟨b, off, e, hb, hl, hc⟩ := h2 hn
  subst e
  exact ⟨b, off, rfl, rfl, hl, hc⟩
section
variable {w w' w0 : World} {F H F2 F3 : Nat → Prop} {p g s k b wb n c : Nat} {L L' : Nat → List (List Nat)} {A : Option Addr} {G : List GenS}
theorem YNext.trans {b' : Nat} (h : YNext w w' F F2 p g s k b L) (h2 : YNext w' w0 F2 F3 p g s k b' L') : YNext w w0 F F3 p g s k b' L' := by
  have e : ∀ j, F2 j → F j ∨ w.heap.size ≤ j := h.2.1
  refine ⟨h2.1, fun j hj => ?_, h.2.2.trans h2.2.2 e⟩
  rcases h2.2.1 j hj with h3 | h3
  · exact e j h3
  · exact Or.inr (Nat.le_trans h.2.2.size h3)
theorem RefY.win (h : RefY w F p g s k b L) : ∃ wb, RefW w wb k b ∧ F wb ∧ w.cell? ⟨p, 2, none⟩ = some (.pointer (some ⟨wb, 0, none⟩)) := by
  obtain ⟨wb, A, n, c, G, h⟩ := h
  exact ⟨wb, h.win, h.fw, h.c2⟩
theorem RefY.len (h : RefY w F p g s k b L) (m : Nat) : (L m).length ≤ g ∧ g ≤ 255 := by
  obtain ⟨wb, A, n, c, G, h⟩ := h
  refine ⟨?_, h.g2⟩
  by_cases e : ∃ x ∈ G, x.n = m
  · obtain ⟨x, hx, rfl⟩ := e
    rw [← h.l x hx]
    exact (h.ok x hx).1.length_le
  · rw [h.no m fun x hx e2 => e ⟨x, hx, e2⟩]; exact Nat.zero_le _
end
end Go.Proofs.YtgelalbmhllccaaGreat
