/- The walk of QueuePlays. -/
import Derived.Test.YthgplballiibnaaQawake
import Derived.Test.YthgplballiibnaaStructs
import Derived.Deep.DeepCutAuto
import Derived.Deep.CutBlock
namespace Go.Proofs.Ythgplballiibnaa
open Go.RowKit
set_option linter.unusedVariables false
/-- Acts: what, and a row. -/
def ActsAt (w : World) (A : Option Addr) (m : Nat) (l : List (List Value)) : Prop :=
  FieldsAt w w.heap.size A m 2 l ∧ ∀ r ∈ l, ∃ (a : Int) (v : RowV), r = [.int .i64 a, v.val] ∧ Bytes w w.heap.size v.A v.n v.xs ∧ v.n ≤ 140737488351232
theorem ActsAt.at_ {w wr : World} {A : Option Addr} {m j : Nat} {l : List (List Value)} (h : ActsAt w A m l) (k : Keep w wr) (hj : j < m) :
    ∃ b off a v, A = some ⟨b, off, none⟩ ∧ b < w.heap.size ∧ wr.cell? ⟨b, off + j * 2, none⟩ = some (.int .i64 a) ∧ wr.cell? ⟨b, off + j * 2 + 1, none⟩ = some (RowV.val v) ∧ Bytes wr w.heap.size v.A v.n v.xs ∧ v.n ≤ 140737488351232 := by
  obtain ⟨b, off, rfl, hb, hc⟩ := h.1.2.2 (by omega)
  have hl : j < l.length := by rw [h.1.1]; exact hj
  have hr := List.getElem?_eq_getElem hl
  obtain ⟨a, v, e, h1, h2⟩ := h.2 _ (List.getElem_mem hl)
  rw [e] at hr
  exact ⟨b, off, a, v, rfl, hb, (k.cell (p := ⟨b, off + j * 2, none⟩) hb).trans (hc j _ 0 _ hr rfl), by rw [Nat.add_assoc]; exact (k.cell (p := ⟨b, off + (j * 2 + 1), none⟩) hb).trans (hc j _ 1 _ hr rfl), h1.keep (Nat.le_refl _) k, h2⟩
theorem Bytes.turned_low {w w' : World} {G : Nat → Prop} {B n : Nat} {A : Option Addr} {xs : List Nat} (h : Bytes w B A n xs) (k : Turned G w w') (hG : ∀ b, b < B → ¬ G b) : Bytes w' B A n xs := ⟨h.1, h.2.1, fun hp => by
  obtain ⟨b, off, e, hb, hc⟩ := h.2.2 hp
  exact ⟨b, off, e, hb, fun i hi => k.cell (hc i hi) (hG b hb)⟩⟩
set_option maxRecDepth 100000 in
set_option maxHeartbeats 8000000 in
theorem plays_in (pl m cb : Nat) (A2 : Option Addr) (l : List (List Value)) (w : World) (h : ActsAt w A2 m l) (m2 : m ≤ 140737488351232) (p1 : 1 ≤ pl) (p2 : pl ≤ 64) :
    Calls Try.prog 3 #[.int .i64 (pl : Int), .slice A2 m cb] w fun e w' => e = .returned (.bool true) ∧ Keep w w' := by
  have H := Lib.hid h
  clear h
  go_enter Try.func3, Try.ntmps3
  go_wp2_with fail
  refine (awake_any _).mono ?_
  rintro e w1 ⟨rfl, s1⟩
  have K1 := Lib.hid s1
  clear s1
  go_wp2_with fail
  refine (qnew_in pl p1 p2 _).mono ?_
  rintro e w2 ⟨g, rfl, F, q2, f2, k2⟩
  have Q2 := Lib.hid q2
  have F2 := Lib.hid f2
  have K2 := Lib.hid k2
  clear q2 f2 k2
  go_wp2_with fail
  refine (rqnew_in pl p1 p2 _).mono ?_
  rintro e w3 ⟨gq, rfl, R, q3, f3, k3⟩
  have hB0 : Both w w3 F g R gq pl [] := ⟨Q2.out.keep k3, q3, fun b hb e => by have := f3 b e; have := Q2.out.lt b hb; omega, fun b hb => by
    have z1 := K1.out.size
    have z2 := K2.out.size
    rcases hb with hb | hb
    · have := F2.out b hb; omega
    · have := f3 b hb; omega, (K1.out.trans K2.out).trans k3⟩
  have HB0 := Lib.hid hB0
  clear q3 f3 k3 hB0
  go_wp2_with fail
  go_loopw [50] (fun i wr => ∃ (j : Nat) (F R : Nat → Prop) (L : List (List Nat)), j ≤ m ∧ i = .int .i64 j ∧ Both w wr F g R gq pl L) (fun i _ => m - (intOf i).toNat)
  case atStart => exact ⟨0, F, R, [], by omega, rfl, HB0.out⟩
  case round =>
    clear HB0 F2 K2 Q2
    obtain ⟨j, F, R, L, hj, rfl, hb⟩ := hrel
    by_cases hlt : j < m
    · obtain ⟨b, off, x, v, rfl, hb0, hc0, hc1, hv, hvn⟩ := H.out.at_ hb.keep hlt
      have e1 : (0 : Int) ≤ (j : Int) := Int.natCast_nonneg _
      have e2 : (j : Int) < (m : Int) := by omega
      by_cases h200 : j = 200
      · have b0 : ((j : Int) == 200) = true := beq_iff_eq.2 (by omega)
        have HK := Lib.hid hb.keep
        rw [RowV.val] at hc1
        clear hb h200 hv
        go_wp2_with fail
        go_ret
        exact ⟨rfl, HK.out.obj _⟩
      · have b0 : ((j : Int) == 200) = false := beq_eq_false_iff_ne.2 (by omega)
        have ka : Keep wr (wr.alloc (.cells #[.int .i64 x, .slice v.A v.n v.c] 33)) := (Keep.refl wr).obj _
        have HA := Lib.hid (hb.later ka)
        have HV := Lib.hid (hv.keep (by exact hb.keep.size) ka)
        rw [RowV.val] at hc1
        have HS : Hid (w.heap.size ≤ (wr.alloc (.cells #[.int .i64 x, .slice v.A v.n v.c] 33)).heap.size) := Nat.le_trans hb.keep.size ka.size
        have HF : Hid (∀ b, F b ∨ R b → b < wr.heap.size) := fun b e => by
          rcases e with e | e
          · exact hb.q.lt b e
          · exact hb.r.lt b e
        have HD : Hid (¬ F wr.heap.size ∧ ¬ wr.heap.size = gq) := ⟨fun e => by have := hb.q.lt _ e; omega, fun e => by have := hb.r.lt _ hb.r.at_; omega⟩
        clear hb h200 hv ka
        go_upto_block 2 with fail
        go_cut [] (fun wx => ∃ (F R : Nat → Prop) (L : List (List Nat)), Both w wx F g R gq pl L)
        case first =>
          by_cases x0 : x = 0
          · subst x0
            go_wp2_with fail
            refine (rown_any _ v.n v.c v.A v.xs _ HV.out (by omega)).mono ?_
            rintro e w5 ⟨A5, n5, c5, rfl, o5, k5⟩
            obtain rfl : v.n = n5 := (o5.length.symm.trans HV.out.length).symm
            have O5 := Lib.hid o5
            have HB5 := Lib.hid (HA.out.later k5)
            have HV5 := Lib.hid (HV.out.keep HS.out k5)
            have HS5 : Hid (w.heap.size ≤ w5.heap.size) := Nat.le_trans HS.out k5.size
            have hc5 : w5.cell? ⟨wr.heap.size, 1, none⟩ = some (.slice v.A v.n v.c) := (Below.cell (p := ⟨wr.heap.size, 1, none⟩) k5 (by simp)).trans (by rw [World.cell?_alloc_at _ _ _ _ rfl]; rfl)
            have HC5 := Lib.hid hc5
            have hlt5 : wr.heap.size < w5.heap.size := by have := k5.size; simp at this; omega
            have hnew : ∀ b, (Value.slice A5 v.n c5).ownBlock = some b → wr.heap.size < b ∧ b < w5.heap.size := fun b hb => by
              have z := O5.out.1.lt b hb
              simp at z; omega
            have HN := Lib.hid hnew
            clear o5 hc5 hnew
            go_wp2_with fail
            refine wp_region_noPanic ?_
            refine wp_region_held_drew (S := fun wz => wz.cell? ⟨wr.heap.size, 1, none⟩ = some (.slice v.A v.n v.c)) (by kernel_rfl) HC5.out (fun hHeld => ?_)
            refine wpAnyH_take (i := 0) (v := ?_) rfl (by kernel_rfl) (by kernel_rfl) (by kernel_rfl) (fun _ _ _ h => h) (Or.inl ⟨by rfl, ?_⟩) hHeld ?_
            rotate_left
            · intro wq hSw
              go_simp
              all_goals with_reducible rfl
            try simp only [Act.put, List.getElem_toArray, List.getElem_cons_succ, List.getElem_cons_zero, List.setIfInBounds_toArray, List.set_cons_zero, List.set_cons_succ]
            refine wpAnyH_take (i := 1) (v := ?_) rfl (by kernel_rfl) (by kernel_rfl) (by kernel_rfl) (fun _ _ _ h => h) (Or.inl ⟨by rfl, ?_⟩) hHeld ?_
            rotate_left
            · intro wq hSw
              go_simp
              all_goals with_reducible rfl
            try simp only [Act.put, List.getElem_toArray, List.getElem_cons_succ, List.getElem_cons_zero, List.setIfInBounds_toArray, List.set_cons_zero, List.set_cons_succ]
            refine wpAnyH_take (i := 3) (v := ?_) rfl (by kernel_rfl) (by kernel_rfl) (by kernel_rfl) (fun _ _ _ h => h) (Or.inl ⟨by rfl, ?_⟩) hHeld ?_
            rotate_left
            · intro wq hSw
              go_simp
              all_goals with_reducible rfl
            try simp only [Act.put, List.getElem_toArray, List.getElem_cons_succ, List.getElem_cons_zero, List.setIfInBounds_toArray, List.set_cons_zero, List.set_cons_succ]
            refine wpAnyH_take (i := 4) (v := ?_) rfl (by kernel_rfl) (by kernel_rfl) (by kernel_rfl) (fun _ _ _ h => h) (Or.inl ⟨by rfl, ?_⟩) hHeld ?_
            rotate_left
            · intro wq hSw
              go_simp
              all_goals with_reducible rfl
            try simp only [Act.put, List.getElem_toArray, List.getElem_cons_succ, List.getElem_cons_zero, List.setIfInBounds_toArray, List.set_cons_zero, List.set_cons_succ]
            refine wpAnyH_take (i := 5) (v := ?_) rfl (by kernel_rfl) (by kernel_rfl) (by kernel_rfl) (fun _ _ _ h => h) (Or.inl ⟨by rfl, ?_⟩) hHeld ?_
            rotate_left
            · intro wq hSw
              have q0 := hSw
              go_simp
              all_goals with_reducible rfl
            try simp only [Act.put, List.getElem_toArray, List.getElem_cons_succ, List.getElem_cons_zero, List.setIfInBounds_toArray, List.set_cons_zero, List.set_cons_succ]
            refine wpAnyH_ready (rs := [2]) (by kernel_rfl) (by simp) ?_
            refine AllReadyH.cons rfl (fun K hK => ?_) AllReadyH.nil
            go_simp
            refine (qpush_any _ v.n c5 pl g A5 F v.xs L _ (HB5.out.q.keep (Keep.drew (Keep.refl _))) (O5.out.bytes.keep (Nat.le_refl _) (Keep.drew (Keep.refl _))) (Nat.le_refl _)).mono ?_
            rintro e w6 ⟨rfl, F', q6, f6, k6⟩
            have hHeld6 : w6.cell? ⟨wr.heap.size, 1, none⟩ = some (.slice v.A v.n v.c) := k6.cell HC5.out (fun e => HD.out.1 e)
            have HQ6 := Lib.hid (And.intro q6 (And.intro f6 k6))
            clear q6 f6 k6
            refine hK.out _ _ hHeld6 (fun hHeld => ?_)
            clear hK K
            try simp only [Act.put, List.getElem_toArray, List.getElem_cons_succ, List.getElem_cons_zero, List.setIfInBounds_toArray, List.set_cons_zero, List.set_cons_succ]
            refine wpAnyH_ready (rs := [6]) (by kernel_rfl) (by simp) ?_
            refine AllReadyH.cons rfl (fun K hK => ?_) AllReadyH.nil
            go_simp
            refine (rqpush_any _ v.n v.c pl gq v.A R v.xs L _ ((HB5.out.later (Keep.drew (Keep.refl _))).mid HQ6.out.2.2) ((HV5.out.keep HS5.out (Keep.drew (Keep.refl _))).turned_low HQ6.out.2.2 fun b hb e => ?_) (Nat.le_trans HS5.out HQ6.out.2.2.size)).mono ?_
            · have := HB5.out.low b (Or.inl e); omega
            rintro e w7 ⟨rfl, R', r7, s7, k7⟩
            have hHeld7 : w7.cell? ⟨wr.heap.size, 1, none⟩ = some (.slice v.A v.n v.c) := k7.cell hHeld6 (fun e => HD.out.2 e)
            have HB7 := Lib.hid ((HB5.out.later (Keep.drew (Keep.refl _))).step HQ6.out.1 HQ6.out.2.1 HQ6.out.2.2 r7 s7 k7)
            have hX : ∀ b, (Value.slice A5 v.n c5).ownBlock = some b → ¬ F' b ∧ ¬ R' b ∧ w.heap.size ≤ b := fun b hb => by
              have z := HN.out b hb
              have z2 := HS.out
              have y1 : ¬ F' b := fun e => by
                rcases HQ6.out.2.1 b e with e | e
                · have := HF.out b (Or.inl e); omega
                · have : w5.heap.size ≤ b := e
                  omega
              refine ⟨y1, fun e => ?_, by simp at z2; omega⟩
              rcases s7 b e with e | e
              · have := HF.out b (Or.inr e); omega
              · have := HQ6.out.2.2.size
                have : w5.heap.size ≤ w6.heap.size := this
                omega
            have m7 : Mine w w7 A5 v.n c5 := ⟨_, ((O5.out.keep (Keep.drew (Keep.refl _))).turned HQ6.out.2.2 fun b hb e => by
                have := HN.out b hb
                have := HF.out b (Or.inl e); omega).turned k7 (fun b hb e => by
                have := HN.out b hb
                have := HF.out b (Or.inr (e ▸ HB5.out.r.at_)); omega) |>.lower HS.out⟩
            have M7 := Lib.hid m7
            have HX := Lib.hid hX
            clear r7 s7 k7 m7 hX
            refine hK.out _ _ hHeld7 (fun hHeld => ?_)
            clear hK K
            try simp only [Act.put, List.getElem_toArray, List.getElem_cons_succ, List.getElem_cons_zero, List.setIfInBounds_toArray, List.set_cons_zero, List.set_cons_succ]
            refine wpAnyH_take (i := 7) (v := ?_) rfl (by kernel_rfl) (by kernel_rfl) (by kernel_rfl) (fun _ _ _ h => h) (Or.inl ⟨by rfl, ?_⟩) hHeld ?_
            rotate_left
            · intro wq hSw
              go_simp
              all_goals with_reducible rfl
            try simp only [Act.put, List.getElem_toArray, List.getElem_cons_succ, List.getElem_cons_zero, List.setIfInBounds_toArray, List.set_cons_zero, List.set_cons_succ]
            refine wpAnyH_done (by kernel_rfl) ?_ _
            refine NoPanic.normal ?_
            clear hHeld hHeld6 hHeld7
            go_wp2_with fail
            go_loopw [74] (fun i wz => ∃ r : Nat, r ≤ v.n ∧ i = .int .i64 r ∧ Mine w wz A5 v.n c5 ∧ Both w wz F' g R' gq pl (pushL pl L v.xs)) (fun i _ => v.n - (intOf i).toNat)
            case atStart => exact ⟨0, by omega, rfl, M7.out, HB7.out⟩
            case round =>
              clear M7 HB7
              obtain ⟨r, hr, rfl, h3, hb⟩ := hrel
              by_cases hlt2 : r < v.n
              · obtain ⟨g2, q, rfl, hg, hq, hc, hf⟩ := h3.at_ hlt2
                obtain ⟨u, hu⟩ : ∃ u, q ^^^ 255 = u := ⟨_, rfl⟩
                obtain ⟨hxor, hu2⟩ := flip_int q u hq hu
                have H3 := Lib.hid (h3.set g2 r u hu2)
                have H4 := Lib.hid (hb.other (G := fun b => b = g2) (Turned.set (F := fun b => b = g2) _ ⟨g2, r, none⟩ (.int .u8 (u : Int)) rfl) (fun b e => HX.out b (by rw [e]; rfl)))
                have e3 : (0 : Int) ≤ (r : Int) := Int.natCast_nonneg _
                have e4 : (r : Int) < (v.n : Int) := by omega
                clear h3 hb hu
                go_wp2_with fail
                go_round
                case rel => exact ⟨r + 1, by omega, by go_num, H3.out, H4.out⟩
                case measure => simp [intOf]; omega
              · have e4 : ¬ (r : Int) < (v.n : Int) := by omega
                have H4 := Lib.hid hb
                clear h3 hb hr
                go_wp2_with fail
                go_meet
                case rel => exact ⟨F', R', _, H4.out⟩
          · by_cases x1 : x = 1
            · subst x1
              go_wp2_with fail
              refine (qpop_any pl g F L _ HA.out.q).mono ?_
              rintro e w5 ⟨r5, rfl, hr5, F', q5, f5, l5, k5⟩
              have HQ5 := Lib.hid (And.intro q5 (And.intro f5 k5))
              have L5 := Lib.hid l5
              have HR5 := Lib.hid hr5
              clear q5 f5 l5 k5 hr5
              go_wp2_with fail
              refine (rqpop_any pl gq R L _ (HA.out.mid HQ5.out.2.2)).mono ?_
              rintro e w6 ⟨r6, rfl, hr6, l6, q6, k6⟩
              have HB6 := Lib.hid (HA.out.step HQ5.out.1 HQ5.out.2.1 HQ5.out.2.2 q6 (fun b hb => Or.inl hb) k6)
              have b5 := (L5.out.turned k6 fun b hb e => by
                  rcases hb.1 with h1 | h1
                  · exact HA.out.apart b h1 (e ▸ HA.out.r.at_)
                  · have := HA.out.r.lt _ HA.out.r.at_; omega).bytes (B := w6.heap.size) fun b hb => Nat.lt_of_lt_of_le hb.2.2 k6.size
              have b6 := l6.bytes (B := w6.heap.size) fun b hb => Nat.lt_of_lt_of_le (HA.out.r.lt b hb) (Nat.le_trans HQ5.out.2.2.size k6.size)
              have B5 := Lib.hid b5
              have B6 := Lib.hid b6
              have HE : Hid (r5.xs = r6.xs) := by show _ = _; rw [HR5.out, hr6]
              clear l6 q6 k6 hr6 b5 b6
              go_wp2_with fail
              refine (equal_any _ _ r5.n r6.n _ _ _ _ _ _ _ B5.out B6.out).mono ?_
              rw [decide_eq_true HE.out]
              rintro e w7 ⟨rfl, rfl⟩
              go_wp2_with fail
              go_meet
              case rel => exact ⟨F', R, _, HB6.out⟩
            · by_cases x2 : x = 2
              · subst x2
                obtain ⟨Aq, mq, cq, rs, hcell, hxs, hcap, hrows⟩ := HA.out.r.rows
                obtain rfl : mq = L.length := by rw [← hxs, ← hrows.1, rowsXs, List.length_map]
                obtain ⟨d0, d1, d2, d3⟩ := cellsTwo hcell
                have D1 := Lib.hid d1
                have HRW := Lib.hid hrows
                have HXS := Lib.hid hxs
                clear d0 d1 d2 d3 hcell hxs hcap hrows
                go_wp2_with fail
                refine (qpeek_any pl g F L _ HA.out.q).mono ?_
                rintro e w5 ⟨A5, n5, c5, rfl, o5, k5⟩
                have O5 := Lib.hid o5
                have HB5 := Lib.hid (HA.out.later k5)
                have gqlt := HA.out.r.lt _ HA.out.r.at_
                have hd1 : w5.cell? ⟨gq, 1, none⟩ = some (.slice Aq L.length cq) := (Below.cell (p := ⟨gq, 1, none⟩) k5 gqlt).trans D1.out
                have R5 := Lib.hid (HRW.out.turned (Turned.of_keep (F := fun _ => False) k5) fun _ _ e => e)
                have HX : Hid (∀ b, (Value.slice A5 n5 c5).ownBlock = some b → ¬ F b ∧ ¬ R b ∧ w.heap.size ≤ b) := fun b hb => by
                  have z := O5.out.rowLe b hb
                  exact ⟨fun e => by have := HA.out.q.lt b e; omega, fun e => by have := HA.out.r.lt b e; omega, Nat.le_trans HA.out.keep.size z⟩
                have M5 : Hid (Mine w w5 A5 n5 c5) := ⟨_, O5.out.lower HA.out.keep.size⟩
                have hn5 : n5 ≤ 140737488355328 := by
                  have e1 := O5.out.length
                  have e2 := HA.out.q.short.2.2.2
                  cases L with
                  | nil => simp at e1; omega
                  | cons y L => have := e2 y (by simp); simp at e1; omega
                clear o5 k5
                cases L with
                | nil =>
                  have d1 : w5.cell? ⟨gq, 1, none⟩ = some (.slice Aq 0 cq) := hd1
                  clear hd1
                  go_wp2_with fail
                  go_loopw [136] (fun i wz => ∃ r : Nat, r ≤ n5 ∧ i = .int .i64 r ∧ Mine w wz A5 n5 c5 ∧ Both w wz F g R gq pl []) (fun i _ => n5 - (intOf i).toNat)
                  case atStart => exact ⟨0, by omega, rfl, M5.out, HB5.out⟩
                  case round =>
                    clear M5 HB5
                    obtain ⟨r, hr, rfl, h3, hb⟩ := hrel
                    by_cases hlt2 : r < n5
                    · obtain ⟨g2, q, rfl, hg, hq, hc, hf⟩ := h3.at_ hlt2
                      obtain ⟨u, hu⟩ : ∃ u, q ^^^ 255 = u := ⟨_, rfl⟩
                      obtain ⟨hxor, hu2⟩ := flip_int q u hq hu
                      have H3 := Lib.hid (h3.set g2 r u hu2)
                      have H4 := Lib.hid (hb.other (G := fun b => b = g2) (Turned.set (F := fun b => b = g2) _ ⟨g2, r, none⟩ (.int .u8 (u : Int)) rfl) (fun b e => HX.out b (by rw [e]; rfl)))
                      have e3 : (0 : Int) ≤ (r : Int) := Int.natCast_nonneg _
                      have e4 : (r : Int) < (n5 : Int) := by omega
                      clear h3 hb hu
                      go_wp2_with fail
                      go_round
                      case rel => exact ⟨r + 1, by omega, by go_num, H3.out, H4.out⟩
                      case measure => simp [intOf]; omega
                    · have e4 : ¬ (r : Int) < (n5 : Int) := by omega
                      have H4 := Lib.hid hb
                      clear h3 hb hr
                      go_wp2_with fail
                      go_meet
                      case rel => exact ⟨F, R, _, H4.out⟩
                | cons y L =>
                  obtain ⟨b6, off6, r6, rfl, hRb, hr0, hcell, hlies⟩ := R5.out.at_ (k := 0) (by simp)
                  have hrx : r6.xs = y := by
                    have e := congrArg (fun l => l[0]?) HXS.out
                    simp [rowsXs, hr0] at e
                    exact e
                  rw [Nat.add_zero] at hcell
                  have b6 := hlies.bytes (B := w5.heap.size) fun b hb => HB5.out.r.lt b hb.1
                  have B6 := Lib.hid b6
                  have HE : Hid ((y :: L).headD [] = r6.xs) := hrx.symm
                  obtain ⟨k, hk⟩ : ∃ k, (y :: L).length = k := ⟨_, rfl⟩
                  have hkp : (0 : Int) < (k : Int) := by rw [← hk]; simp
                  rw [hk] at hd1
                  clear hrx hr0 hlies hRb b6 hk
                  go_wp2_with fail
                  refine (equal_any _ _ n5 r6.n _ _ _ _ _ _ _ O5.out.bytes B6.out).mono ?_
                  rw [decide_eq_true HE.out]
                  rintro e w7 ⟨rfl, rfl⟩
                  clear hcell hd1
                  go_wp2_with fail
                  go_loopw [136] (fun i wz => ∃ r : Nat, r ≤ n5 ∧ i = .int .i64 r ∧ Mine w wz A5 n5 c5 ∧ Both w wz F g R gq pl (y :: L)) (fun i _ => n5 - (intOf i).toNat)
                  case atStart => exact ⟨0, by omega, rfl, M5.out, HB5.out⟩
                  case round =>
                    clear M5 HB5
                    obtain ⟨r, hr, rfl, h3, hb⟩ := hrel
                    by_cases hlt2 : r < n5
                    · obtain ⟨g2, q, rfl, hg, hq, hc, hf⟩ := h3.at_ hlt2
                      obtain ⟨u, hu⟩ : ∃ u, q ^^^ 255 = u := ⟨_, rfl⟩
                      obtain ⟨hxor, hu2⟩ := flip_int q u hq hu
                      have H3 := Lib.hid (h3.set g2 r u hu2)
                      have H4 := Lib.hid (hb.other (G := fun b => b = g2) (Turned.set (F := fun b => b = g2) _ ⟨g2, r, none⟩ (.int .u8 (u : Int)) rfl) (fun b e => HX.out b (by rw [e]; rfl)))
                      have e3 : (0 : Int) ≤ (r : Int) := Int.natCast_nonneg _
                      have e4 : (r : Int) < (n5 : Int) := by omega
                      clear h3 hb hu
                      go_wp2_with fail
                      go_round
                      case rel => exact ⟨r + 1, by omega, by go_num, H3.out, H4.out⟩
                      case measure => simp [intOf]; omega
                    · have e4 : ¬ (r : Int) < (n5 : Int) := by omega
                      have H4 := Lib.hid hb
                      clear h3 hb hr
                      go_wp2_with fail
                      go_meet
                      case rel => exact ⟨F, R, _, H4.out⟩
              · by_cases x3 : x = 3
                · subst x3
                  go_wp2_with fail
                  refine (qclear_any pl g F L _ HA.out.q).mono ?_
                  rintro e w5 ⟨rfl, F', q5, f5, k5⟩
                  have hr5 := HA.out.mid k5
                  obtain ⟨Aq, mq, cq, rs, hcell, hxs, hcap, hrows⟩ := hr5.rows
                  obtain ⟨d0, d1, d2, d3⟩ := cellsTwo hcell
                  have HR5 := Lib.hid hr5
                  have HCL := Lib.hid hcell
                  have HQ5 := Lib.hid (And.intro q5 (And.intro f5 k5))
                  clear q5 f5 k5 hr5 hcell hxs hcap hrows
                  go_wp2_with fail
                  go_meet
                  have r6 : RefQ (w5.setCell ⟨gq, 1, none⟩ (.slice none 0 0)) R gq pl [] := ⟨HR5.out.at_, fun b hb => by simpa [World.setCell] using HR5.out.lt b hb, ⟨none, 0, 0, [], set_one HCL.out, rfl, Nat.le_refl _, RowsIn.nothing _ _ _⟩, ⟨Nat.zero_le _, p1, p2⟩⟩
                  case rel => exact ⟨F', R, [], HA.out.step HQ5.out.1 HQ5.out.2.1 HQ5.out.2.2 r6 (fun b hb => Or.inl hb) (Turned.set (F := fun b => b = gq) _ _ _ rfl)⟩
                · have y0 : (x == 0) = false := beq_eq_false_iff_ne.2 x0
                  have y1 : (x == 1) = false := beq_eq_false_iff_ne.2 x1
                  have y2 : (x == 2) = false := beq_eq_false_iff_ne.2 x2
                  have y3 : (x == 3) = false := beq_eq_false_iff_ne.2 x3
                  clear x0 x1 x2 x3
                  go_wp2_with fail
                  go_meet
                  case rel => exact ⟨F, R, L, HA.out⟩
        case rest =>
          obtain ⟨F, R, L, hb⟩ := hcut
          have HB := Lib.hid hb
          clear hb HA HV
          go_wp2_with fail
          refine (qall_any pl g F L _ HB.out.q).mono ?_
          rintro e w4 ⟨Al, nl, cl, rfl, rs, o4, hx4, hr4, k4⟩
          have hb4 := HB.out.later k4
          obtain ⟨Aq, mq, cq, rs', hcell, hxs, hcap, hrows⟩ := hb4.r.rows
          obtain rfl : mq = L.length := by rw [← hxs, ← hrows.1, rowsXs, List.length_map]
          obtain rfl : nl = L.length := by rw [← hx4, ← o4.length, rowsXs, List.length_map]
          obtain ⟨d0, d1, d2, d3⟩ := cellsTwo hcell
          have hI1 : RowsIn w4 (· < w4.heap.size) Al L.length rs := RowsIn.of_own o4 (fun r hr => (hr4 r hr).lies.mono fun b hb => ((hr4 r hr).1.lt b hb).2) (fun b hb => (o4.lt b hb).2)
          have hI2 : RowsIn w4 (· < w4.heap.size) Aq L.length rs' := hrows.mono fun b hb => hb4.r.lt b hb.1
          have hS : rowsXs rs = rowsXs rs' := by rw [hx4, hxs]
          have hL : L.length ≤ pl := hb4.q.short.1
          have HB4 := Lib.hid hb4
          have HS4 := Lib.hid hS
          have HI := Lib.hid (And.intro hI1 hI2)
          have O4 := Lib.hid o4
          have HR4 := Lib.hid hr4
          have HK4 := Lib.hid k4
          have HX4 := Lib.hid hx4
          have dd : w4.drew.cell? ⟨gq, 1, none⟩ = some (.slice Aq L.length cq) := d1
          generalize hLL : L.length = k at *
          have HLL := Lib.hid hLL
          have z0 : ((k : Int) != (k : Int)) = false := by simp
          have z1 : (((pl : Int) - (k : Int)) != ((pl : Int) - (k : Int))) = false := by simp
          have z2 : 0 ≤ (pl : Int) - (k : Int) := by omega
          have z3 : wrap64 ((pl : Int) - (k : Int)) = (pl : Int) - (k : Int) := IntWalk.wrap64_in _ (by omega)
          have z4 : IntKind.i64.wrap ((pl : Int) - (k : Int)) = (pl : Int) - (k : Int) := IntWalk.i64_in _ (by omega)
          clear hb4 hcell hxs hcap hrows o4 hx4 hr4 k4 hI1 hI2 hS d0 d2 d3 hLL
          go_wp2_with fail
          go_region_held3 (fun w' => w'.cell? ⟨gq, 1, none⟩ = some (.slice Aq k cq))
            (go_keep)
            (first | (go_at_call 19; refine (qlen_any pl g F L _ (HB4.out.q.keep (Keep.drew (Keep.refl _)))).mono ?_; rw [HLL.out]; rintro e w' ⟨rfl, rfl⟩) | (go_at_call 20; refine (qfree_any pl g F L _ (HB4.out.q.keep (Keep.drew (Keep.refl _)))).mono ?_; rw [HLL.out]; rintro e w' ⟨rfl, q6, rfl⟩) | (go_at_call 21; refine (rsame_any k k cl cq Al Aq _ _ rs rs' (w4.drewN (1 + q6)) (HI.out.1.turned (Turned.of_keep (F := fun _ => False) (Keep.drewN (Keep.refl w4) (1 + q6))) fun _ _ e => e) (HI.out.2.turned (Turned.of_keep (F := fun _ => False) (Keep.drewN (Keep.refl w4) (1 + q6))) fun _ _ e => e) (fun _ h => h) (fun _ h => h) (by omega)).mono ?_; rw [decide_eq_true HS4.out]; rintro e w' ⟨rfl, q7, rfl⟩))
          have kd : Keep w4 (w4.drewN (1 + q6 + q7)) := (Keep.refl w4).drewN _
          have HB8 := Lib.hid (HB4.out.later kd)
          have O8 := Lib.hid (O4.out.keep kd)
          have M8 : Hid (∀ r ∈ rs, Mine wc (w4.drewN (1 + q6 + q7)) r.A r.n r.c ∧ r.n ≤ 140737488355328) := fun r hr => ⟨⟨_, (HR4.out r hr).keep kd⟩, by
            have e := (HR4.out r hr).length
            have e2 : r.xs ∈ L := HX4.out ▸ List.mem_map.2 ⟨r, hr, rfl⟩
            have := HB4.out.q.short.2.2.2 _ e2; omega⟩
          have HW8 := Lib.hid HK4.out.size
          clear kd dd
          generalize w4.drewN (1 + q6 + q7) = w8 at *
          go_wp2_with fail
          go_loopw [186] (fun i wz => ∃ a : Nat, a ≤ k ∧ i = .int .i64 a ∧ Both w wz F g R gq pl L ∧ OwnRows wz wc.heap.size 31 Al k cl rs ∧ ∀ r ∈ rs, Mine wc wz r.A r.n r.c ∧ r.n ≤ 140737488355328) (fun i _ => k - (intOf i).toNat)
          case atStart => exact ⟨0, by omega, rfl, HB8.out, O8.out, M8.out⟩
          case round =>
            clear HB8 O8 M8
            obtain ⟨a, ha, rfl, hb, ho, hm⟩ := hrel
            by_cases hlt2 : a < k
            · have hal : a < rs.length := by rw [ho.length]; exact hlt2
              obtain ⟨r, hra⟩ : ∃ r, rs[a] = r := ⟨_, rfl⟩
              have hrm : r ∈ rs := hra ▸ List.getElem_mem hal
              obtain ⟨ga, rfl, hga, hgl⟩ := ho.block (by omega)
              have hcell := World.ownsRow.cells ho (g := ga) rfl a r.val (by rw [List.getElem?_map, List.getElem?_eq_getElem hal, hra]; rfl)
              have haa : (⟨ga, 0, none⟩ : Addr).add a = ⟨ga, a, none⟩ := by unfold Addr.add; split <;> simp_all
              rw [haa, RowV.val] at hcell
              have HB9 := Lib.hid hb
              have O9 := Lib.hid ho
              have M9 := Lib.hid hm
              have HRM := Lib.hid hrm
              have hrn := (hm r hrm).2
              have e3 : (0 : Int) ≤ (a : Int) := Int.natCast_nonneg _
              have e4 : (a : Int) < (k : Int) := by omega
              clear hb ho hm hra hrm haa
              go_wp2_with fail
              go_loopw [192] (fun i wz => ∃ s : Nat, s ≤ r.n ∧ i = .int .i64 s ∧ Both w wz F g R gq pl L ∧ OwnRows wz wc.heap.size 31 (some ⟨ga, 0, none⟩) k cl rs ∧ ∀ r ∈ rs, Mine wc wz r.A r.n r.c ∧ r.n ≤ 140737488355328) (fun i _ => r.n - (intOf i).toNat)
              case atStart => exact ⟨0, by omega, rfl, HB9.out, O9.out, M9.out⟩
              case round =>
                clear HB9 O9 M9
                obtain ⟨s, hs, rfl, hb, ho, hm⟩ := hrel
                have h3 := (hm r HRM.out).1
                by_cases hlt3 : s < r.n
                · obtain ⟨g2, q, e2, hg, hq, hc, hf⟩ := h3.at_ hlt3
                  rw [e2]
                  obtain ⟨u, hu⟩ : ∃ u, q ^^^ 255 = u := ⟨_, rfl⟩
                  obtain ⟨hxor, hu2⟩ := flip_int q u hq hu
                  have hne : g2 ≠ ga := fun e => by
                    obtain ⟨ys, h4⟩ := h3
                    have z := blocks_apart h4 ho (by decide)
                    rw [e2] at z
                    rcases z with z | z
                    · cases z
                    · exact z (by rw [e]; rfl)
                  have H4 := Lib.hid (hb.other (G := fun b => b = g2) (Turned.set (F := fun b => b = g2) _ ⟨g2, s, none⟩ (.int .u8 (u : Int)) rfl) (fun b e => by
                    subst e
                    exact ⟨fun e => by have := HB.out.q.lt _ e; omega, fun e => by have := HB.out.r.lt _ e; omega, Nat.le_trans HB.out.keep.size hg⟩))
                  have H5 := Lib.hid (ho.turned (Turned.set (F := fun b => b = g2) _ ⟨g2, s, none⟩ (.int .u8 (u : Int)) rfl) (fun b hb e => by
                    have hb : ga = b := by simpa [Value.ownBlock] using hb
                    exact hne (e.symm.trans hb.symm)))
                  have H6 : Hid (∀ r ∈ rs, Mine wc (World.setCell _ ⟨g2, s, none⟩ (.int .u8 (u : Int))) r.A r.n r.c ∧ r.n ≤ 140737488355328) := fun r hr => ⟨(hm r hr).1.set g2 s u hu2, (hm r hr).2⟩
                  have e5 : (0 : Int) ≤ (s : Int) := Int.natCast_nonneg _
                  have e6 : (s : Int) < (r.n : Int) := by omega
                  clear h3 hb ho hm hu hne
                  go_wp2_with fail
                  go_round
                  case rel => exact ⟨s + 1, by omega, by go_num, H4.out, H5.out, H6.out⟩
                  case measure => simp [intOf]; omega
                · have e6 : ¬ (s : Int) < (r.n : Int) := by omega
                  have H4 := Lib.hid hb
                  have H5 := Lib.hid ho
                  have H6 := Lib.hid hm
                  clear h3 hb ho hm hs
                  go_wp2_with fail
                  go_round
                  case rel => exact ⟨a + 1, by omega, by go_num, H4.out, H5.out, H6.out⟩
                  case measure => simp [intOf]; omega
            · have e4 : ¬ (a : Int) < (k : Int) := by omega
              have H4 := Lib.hid hb
              clear hb ho hm ha
              go_wp2_with fail
              go_roundw
              case rel => exact ⟨j + 1, F, R, L, by omega, by go_num, H4.out⟩
              case measure => simp [intOf]; omega
    · obtain rfl : m = j := by omega
      have HK := Lib.hid hb.keep
      clear hb
      go_wp2_with fail
      go_ret
      exact ⟨rfl, HK.out⟩
set_option maxRecDepth 100000 in
set_option maxHeartbeats 2000000 in
theorem plays_any (pl : Int) (m cb : Nat) (A2 : Option Addr) (l : List (List Value)) (w : World) (h : ActsAt w A2 m l) (m2 : m ≤ 140737488351232) :
    Calls Try.prog 3 #[.int .i64 pl, .slice A2 m cb] w fun e w' => e = .returned (.bool true) ∧ Keep w w' := by
  by_cases hp : pl < 1 ∨ 64 < pl
  · have HP := Lib.hid hp
    clear hp h
    go_enter Try.func3, Try.ntmps3
    go_wp2_with fail
    refine (awake_any _).mono ?_
    rintro e w1 ⟨rfl, s1⟩
    have K1 := Lib.hid s1
    clear s1
    go_wp2_with fail
    refine (qnew_out pl HP.out _).mono ?_
    rintro e w2 ⟨rfl, rfl⟩
    go_wp2_with fail
    refine (rqnew_out pl HP.out _).mono ?_
    rintro e w2 ⟨rfl, rfl⟩
    go_wp2_with fail
    go_ret
    exact ⟨rfl, K1.out⟩
  · obtain ⟨k, rfl⟩ := Int.eq_ofNat_of_zero_le (show 0 ≤ pl by omega)
    exact plays_in k m cb A2 l w h m2 (by omega) (by omega)
end Go.Proofs.Ythgplballiibnaa
