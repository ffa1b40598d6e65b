/- A row's bytes are changed; a row in new memory. -/
import Derived.Test.YtcjjhblgejkkeaaGreatMine
import Derived.Test.YtcjjhblgejkkeaaGreatRl
import Derived.Test.YtcjjhblgejkkeaaGreatRh1
import Derived.Deep.DeepCutAuto
import Derived.Deep.CutBlock
namespace Go.Proofs.YtcjjhblgejkkeaaGreat
open Go.RowKit Lin
set_option linter.unusedVariables false
set_option linter.unusedSimpArgs false
/-- A row told by a function that tells nothing else: both of its sides new. -/
def NewAgg (w : World) (g s : Nat) (cs ps : List Nat) (e : Ending) (w' : World) : Prop :=
  ∃ A2 c2 A3 c3, e = .returned (.agg #[.slice A2 g c2, .slice A3 s c3]) ∧ Own w' w.heap.size 5 A2 g c2 cs ∧ Own w' w.heap.size 5 A3 s c3 ps ∧ g ≤ c2 ∧ s ≤ c3 ∧ Keep w w'
theorem Own.cap {w : World} {base e n c : Nat} {A : Option Addr} {xs : List Nat} (h : Own w base e A n c xs) : n ≤ c := by
  rcases h.1.2 with ⟨hv, h0⟩ | ⟨g, cap, cur, hv, _, _, hle, _⟩
  · omega
  · injection hv with _ _ h3; omega
/-- Bytes have turned in F's blocks; whatever was a slice of one's own still is. -/
def FlipT (F : Nat → Prop) (w wz : World) : Prop := Turned F w wz ∧ ∀ (v : World) (A : Option Addr) (n c : Nat), Mine v w A n c → Mine v wz A n c
theorem FlipT.of_keep {F : Nat → Prop} {w wz : World} (k : Keep w wz) : FlipT F w wz := ⟨Turned.of_keep k, fun _ _ _ _ h => h.keep k⟩
theorem FlipT.set {F : Nat → Prop} {w wz : World} (h : FlipT F w wz) (g s u : Nat) (hu : u < 256) (hF : F g) : FlipT F w (wz.setCell ⟨g, s, none⟩ (.int .u8 (u : Int))) :=
  ⟨h.1.trans (Turned.set (F := F) _ ⟨g, s, none⟩ (.int .u8 (u : Int)) hF) fun i e => Or.inl e, fun v A n c hm => (h.2 v A n c hm).set g s u hu⟩
set_option maxRecDepth 100000 in
set_option maxHeartbeats 2000000 in
theorem rowflip_any (w0 w : World) (n1 n2 c1 c2 : Nat) (A1 A2 : Option Addr) (h1 : Mine w0 w A1 n1 c1) (h2 : Mine w0 w A2 n2 c2) (hn1 : n1 ≤ 140737488351232) (hn2 : n2 ≤ 140737488351232) :
    Calls Tryz.prog 12 #[.agg #[.slice A1 n1 c1, .slice A2 n2 c2]] w fun e w' => e = .returned (.tuple #[]) ∧ FlipT (fun b => (Value.slice A1 n1 c1).ownBlock = some b ∨ (Value.slice A2 n2 c2).ownBlock = some b) w w' := by
  obtain ⟨r0, r1, rk⟩ := row_block w (.slice A1 n1 c1) (.slice A2 n2 c2)
  obtain ⟨w1, hw1⟩ : ∃ w1, w.alloc (.cells #[.slice A1 n1 c1, .slice A2 n2 c2] 34) = w1 := ⟨_, rfl⟩
  rw [hw1] at r0 r1 rk
  have M1 := Lib.hid (h1.keep rk)
  have M2 := Lib.hid (h2.keep rk)
  have HT : Hid (FlipT (fun b => (Value.slice A1 n1 c1).ownBlock = some b ∨ (Value.slice A2 n2 c2).ownBlock = some b) w w1) := FlipT.of_keep rk
  clear h1 h2 rk
  go_enter Tryz.func12, Tryz.ntmps12
  go_wp2_with fail
  go_loopw [10] (fun jv wz => ∃ j : Nat, j ≤ 2 ∧ jv = .int .i64 (j : Int) ∧ Mine w0 wz A1 n1 c1 ∧ Mine w0 wz A2 n2 c2 ∧ FlipT (fun b => (Value.slice A1 n1 c1).ownBlock = some b ∨ (Value.slice A2 n2 c2).ownBlock = some b) w wz) (fun jv _ => 2 - (intOf jv).toNat)
  case atStart => exact ⟨0, by omega, rfl, M1.out, M2.out, HT.out⟩
  case round =>
    clear M1 M2 HT
    obtain ⟨j, hj2, rfl, m1, m2, hT⟩ := hrel
    have M1 := Lib.hid m1
    have M2 := Lib.hid m2
    have HT := Lib.hid hT
    clear m1 m2 hT
    by_cases hlt : j < 2
    · by_cases hj0 : j = 0
      · have e7 : (j : Int) < 2 := by omega
        have e8 : (0 : Int) ≤ (j : Int) := Int.natCast_nonneg _
        have hix : ∀ w, (Instr.index 104 (.agg #[.slice A1 n1 c1, .slice A2 n2 c2]) (.int .i64 (j : Int))).run Tryz.prog w = .ok (.slice A1 n1 c1) w := fun w => by
          obtain rfl : j = 0 := by omega
          kernel_rfl
        have HJ : Hid (j + 1 ≤ 2) := by show _ ≤ _; omega
        clear hlt hj0
        go_wp2_with fail
        go_loopw [4] (fun kv wz => ∃ s : Nat, s ≤ n1 ∧ kv = .int .i64 (s : Int) ∧ Mine w0 wz A1 n1 c1 ∧ Mine w0 wz A2 n2 c2 ∧ FlipT (fun b => (Value.slice A1 n1 c1).ownBlock = some b ∨ (Value.slice A2 n2 c2).ownBlock = some b) w wz) (fun kv _ => n1 - (intOf kv).toNat)
        case atStart => exact ⟨0, by omega, rfl, M1.out, M2.out, HT.out⟩
        case round =>
          clear M1 M2 HT
          obtain ⟨s, hs, rfl, m1, m2, hT⟩ := hrel
          have e0 : (0 : Int) ≤ (s : Int) := Int.natCast_nonneg _
          by_cases hlt3 : s < n1
          · obtain ⟨g2, q, e2, hg, hq, hc, hf⟩ := m1.at_ hlt3
            obtain ⟨u, hu⟩ : ∃ u, q ^^^ 255 = u := ⟨_, rfl⟩
            obtain ⟨hxor, hu2⟩ := flip_int q u hq hu
            have H4 := Lib.hid (hT.set g2 s u hu2 (Or.inl (by rw [e2]; rfl)))
            have H5 := Lib.hid (And.intro (m1.set g2 s u hu2) (m2.set g2 s u hu2))
            have e6 : (s : Int) < (n1 : Int) := by omega
            rw [e2]
            clear hT m1 m2 hu
            go_wp2_with fail
            go_roundw
            case rel => exact ⟨s + 1, by omega, by go_num, by first | exact H5.out.1 | (rw [← e2]; exact H5.out.1), by first | exact H5.out.2 | (rw [← e2]; exact H5.out.2), by first | exact H4.out | (rw [← e2]; exact H4.out)⟩
            case measure => simp [intOf]; omega
          · have e6 : ¬ (s : Int) < (n1 : Int) := by omega
            have H4 := Lib.hid hT
            have H5 := Lib.hid (And.intro m1 m2)
            clear hT m1 m2
            go_wp2_with fail
            go_roundw
            case rel => exact ⟨j + 1, HJ.out, by go_num, H5.out.1, H5.out.2, H4.out⟩
            case measure => have := HJ.out; simp [intOf]; omega
      · have hj1 : j = 1 := by omega
        have e7 : (j : Int) < 2 := by omega
        have e8 : (0 : Int) ≤ (j : Int) := Int.natCast_nonneg _
        have hix : ∀ w, (Instr.index 104 (.agg #[.slice A1 n1 c1, .slice A2 n2 c2]) (.int .i64 (j : Int))).run Tryz.prog w = .ok (.slice A2 n2 c2) w := fun w => by
          obtain rfl : j = 1 := by omega
          kernel_rfl
        have HJ : Hid (j + 1 ≤ 2) := by show _ ≤ _; omega
        clear hlt hj0 hj1
        go_wp2_with fail
        go_loopw [4] (fun kv wz => ∃ s : Nat, s ≤ n2 ∧ kv = .int .i64 (s : Int) ∧ Mine w0 wz A1 n1 c1 ∧ Mine w0 wz A2 n2 c2 ∧ FlipT (fun b => (Value.slice A1 n1 c1).ownBlock = some b ∨ (Value.slice A2 n2 c2).ownBlock = some b) w wz) (fun kv _ => n2 - (intOf kv).toNat)
        case atStart => exact ⟨0, by omega, rfl, M1.out, M2.out, HT.out⟩
        case round =>
          clear M1 M2 HT
          obtain ⟨s, hs, rfl, m1, m2, hT⟩ := hrel
          have e0 : (0 : Int) ≤ (s : Int) := Int.natCast_nonneg _
          by_cases hlt3 : s < n2
          · obtain ⟨g2, q, e2, hg, hq, hc, hf⟩ := m2.at_ hlt3
            obtain ⟨u, hu⟩ : ∃ u, q ^^^ 255 = u := ⟨_, rfl⟩
            obtain ⟨hxor, hu2⟩ := flip_int q u hq hu
            have H4 := Lib.hid (hT.set g2 s u hu2 (Or.inr (by rw [e2]; rfl)))
            have H5 := Lib.hid (And.intro (m1.set g2 s u hu2) (m2.set g2 s u hu2))
            have e6 : (s : Int) < (n2 : Int) := by omega
            rw [e2]
            clear hT m1 m2 hu
            go_wp2_with fail
            go_roundw
            case rel => exact ⟨s + 1, by omega, by go_num, by first | exact H5.out.1 | (rw [← e2]; exact H5.out.1), by first | exact H5.out.2 | (rw [← e2]; exact H5.out.2), by first | exact H4.out | (rw [← e2]; exact H4.out)⟩
            case measure => simp [intOf]; omega
          · have e6 : ¬ (s : Int) < (n2 : Int) := by omega
            have H4 := Lib.hid hT
            have H5 := Lib.hid (And.intro m1 m2)
            clear hT m1 m2
            go_wp2_with fail
            go_roundw
            case rel => exact ⟨j + 1, HJ.out, by go_num, H5.out.1, H5.out.2, H4.out⟩
            case measure => have := HJ.out; simp [intOf]; omega
    · obtain rfl : j = 2 := by omega
      go_wp2_with fail
      go_end0
      exact ⟨rfl, HT.out⟩
set_option maxRecDepth 100000 in
set_option maxHeartbeats 2000000 in
theorem rowown_any (n1 n2 c1 c2 B1 B2 : Nat) (A1 A2 : Option Addr) (x1 x2 : List Nat) (w : World) (h1 : Bytes w B1 A1 n1 x1) (h2 : Bytes w B2 A2 n2 x2) (hB1 : B1 ≤ w.heap.size) (hB2 : B2 ≤ w.heap.size) (hn1 : n1 ≤ 140737488351232) (hn2 : n2 ≤ 140737488351232) :
    Calls Tryz.prog 9 #[.agg #[.slice A1 n1 c1, .slice A2 n2 c2]] w (NewAgg w n1 n2 x1 x2) := by
  obtain ⟨r0, r1, rk⟩ := row_block w (.slice A1 n1 c1) (.slice A2 n2 c2)
  obtain ⟨w1, hw1⟩ : ∃ w1, w.alloc (.cells #[.slice A1 n1 c1, .slice A2 n2 c2] 34) = w1 := ⟨_, rfl⟩
  have hs1 : w1.heap.size = w.heap.size + 1 := by rw [← hw1]; simp
  rw [hw1] at r0 r1 rk
  have hq2 := heap_alloc_new w1 (.cells #[.slice none 0 0, .slice none 0 0] 34)
  have k2 : Keep w1 (w1.alloc (.cells #[.slice none 0 0, .slice none 0 0] 34)) := (Keep.refl w1).alloc _ _
  obtain ⟨w2, hw2⟩ : ∃ w2, w1.alloc (.cells #[.slice none 0 0, .slice none 0 0] 34) = w2 := ⟨_, rfl⟩
  have hs2 : w2.heap.size = w1.heap.size + 1 := by rw [← hw2]; simp
  rw [hw2] at hq2 k2
  have HR : Hid (w2.cell? ⟨w.heap.size, 0, none⟩ = some (.slice A1 n1 c1) ∧ w2.cell? ⟨w.heap.size, 1, none⟩ = some (.slice A2 n2 c2)) := ⟨(World.cell?_of_block (k2.block _ (by show w.heap.size < _; omega))).trans r0, (World.cell?_of_block (k2.block _ (by show w.heap.size < _; omega))).trans r1⟩
  have HLT : Hid (w.heap.size < w2.heap.size) := by show _ < _; omega
  have HS := Lib.hid (And.intro hs1 hs2)
  have HB1 := Lib.hid (h1.keep hB1 (rk.trans k2))
  have HB2 := Lib.hid (h2.keep hB2 (rk.trans k2))
  have HB2L : Hid (B2 ≤ w2.heap.size) := by show _ ≤ _; omega
  have HQ := Lib.hid hq2
  have HK := Lib.hid (rk.trans k2)
  clear h1 h2 r0 r1 rk hq2 k2 hs2 hs1
  go_enter Tryz.func9, Tryz.ntmps9
  go_upto_region 1 with fail
  refine wp_region_noPanic ?_
  refine wp_region_held_drew (S := fun wz => wz.cell? ⟨w.heap.size, 0, none⟩ = some (.slice A1 n1 c1) ∧ wz.cell? ⟨w.heap.size, 1, none⟩ = some (.slice A2 n2 c2)) (by kernel_rfl) HR.out (fun hHeld => ?_)
  refine wpAnyH_take (i := 0) (v := ?_) rfl (by kernel_rfl) (by kernel_rfl) (by kernel_rfl) (fun _ _ _ h => h) (Or.inl ⟨by rfl, ?_⟩) hHeld ?_
  rotate_left
  · intro wq hSw
    go_simp
    all_goals with_reducible rfl
  try simp only [Act.put, List.getElem_toArray, List.getElem_cons_succ, List.getElem_cons_zero, List.setIfInBounds_toArray, List.set_cons_zero, List.set_cons_succ]
  refine wpAnyH_take (i := 1) (v := ?_) rfl (by kernel_rfl) (by kernel_rfl) (by kernel_rfl) (fun _ _ _ h => h) (Or.inl ⟨by rfl, ?_⟩) hHeld ?_
  rotate_left
  · intro wq hSw
    have q0 := hSw.1
    go_simp
    all_goals with_reducible rfl
  try simp only [Act.put, List.getElem_toArray, List.getElem_cons_succ, List.getElem_cons_zero, List.setIfInBounds_toArray, List.set_cons_zero, List.set_cons_succ]
  refine wpAnyH_take (i := 3) (v := ?_) rfl (by kernel_rfl) (by kernel_rfl) (by kernel_rfl) (fun _ _ _ h => h) (Or.inl ⟨by rfl, ?_⟩) hHeld ?_
  rotate_left
  · intro wq hSw
    go_simp
    all_goals with_reducible rfl
  try simp only [Act.put, List.getElem_toArray, List.getElem_cons_succ, List.getElem_cons_zero, List.setIfInBounds_toArray, List.set_cons_zero, List.set_cons_succ]
  refine wpAnyH_take (i := 4) (v := ?_) rfl (by kernel_rfl) (by kernel_rfl) (by kernel_rfl) (fun _ _ _ h => h) (Or.inl ⟨by rfl, ?_⟩) hHeld ?_
  rotate_left
  · intro wq hSw
    have q0 := hSw.2
    go_simp
    all_goals with_reducible rfl
  try simp only [Act.put, List.getElem_toArray, List.getElem_cons_succ, List.getElem_cons_zero, List.setIfInBounds_toArray, List.set_cons_zero, List.set_cons_succ]
  refine wpAnyH_ready (rs := [2]) (by kernel_rfl) (by simp) ?_
  refine AllReadyH.cons rfl (fun K hK => ?_) AllReadyH.nil
  refine wp_append_bytes _ _ 32 rfl Tryz.underlying32 info5 rfl (Own.none_ _ w2.heap.size 5) rfl (HB1.out.drew) (by omega) (Nat.le_refl _) ?_
  intro A5 c5 w5 o5 g5 b5
  have hk5 : Keep w2 w5 := ((Keep.refl w2).drew).grown g5 fun k hk => by simp [Value.ownBlock] at hk
  have hS5 : w5.cell? ⟨w.heap.size, 0, none⟩ = some (.slice A1 n1 c1) ∧ w5.cell? ⟨w.heap.size, 1, none⟩ = some (.slice A2 n2 c2) := ⟨(World.cell?_of_block (hk5.block _ HLT.out)).trans HR.out.1, (World.cell?_of_block (hk5.block _ HLT.out)).trans HR.out.2⟩
  have HO5 := Lib.hid o5
  have HK5 := Lib.hid hk5
  clear o5 g5 b5 hk5
  refine hK.out _ _ hS5 (fun hHeld => ?_)
  clear hK K
  try simp only [Act.put, List.getElem_toArray, List.getElem_cons_succ, List.getElem_cons_zero, List.setIfInBounds_toArray, List.set_cons_zero, List.set_cons_succ]
  refine wpAnyH_ready (rs := [5]) (by kernel_rfl) (by simp) ?_
  refine AllReadyH.cons rfl (fun K hK => ?_) AllReadyH.nil
  refine wp_append_bytes _ _ 32 rfl Tryz.underlying32 info5 rfl (Own.none_ _ w2.heap.size 5) rfl (HB2.out.keep HB2L.out HK5.out) (by omega) HK5.out.size ?_
  intro A6 c6 w6 o6 g6 b6
  have hk6 : Keep w5 w6 := (Keep.refl w5).grown g6 fun k hk => by simp [Value.ownBlock] at hk
  have hS6 : w6.cell? ⟨w.heap.size, 0, none⟩ = some (.slice A1 n1 c1) ∧ w6.cell? ⟨w.heap.size, 1, none⟩ = some (.slice A2 n2 c2) := ⟨(World.cell?_of_block ((HK5.out.trans hk6).block _ HLT.out)).trans HR.out.1, (World.cell?_of_block ((HK5.out.trans hk6).block _ HLT.out)).trans HR.out.2⟩
  have HO6 := Lib.hid o6
  have HK6 := Lib.hid hk6
  clear o6 g6 b6 hk6
  refine hK.out _ _ hS6 (fun hHeld => ?_)
  clear hK K
  try simp only [Act.put, List.getElem_toArray, List.getElem_cons_succ, List.getElem_cons_zero, List.setIfInBounds_toArray, List.set_cons_zero, List.set_cons_succ]
  refine wpAnyH_take (i := 6) (v := ?_) rfl (by kernel_rfl) (by kernel_rfl) (by kernel_rfl) (fun _ _ _ h => h) (Or.inl ⟨by rfl, ?_⟩) hHeld ?_
  rotate_left
  · intro wq hSw
    go_simp
    all_goals with_reducible rfl
  try simp only [Act.put, List.getElem_toArray, List.getElem_cons_succ, List.getElem_cons_zero, List.setIfInBounds_toArray, List.set_cons_zero, List.set_cons_succ]
  have hb0 := ((HK5.out.trans HK6.out).block _ (by have := HS.out; omega)).trans HQ.out
  have y0 : w6.cell? ⟨w1.heap.size, 0, none⟩ = some (.slice none 0 0) := cell_of_row _ _ _ _ _ _ hb0
  have y1 : w6.cell? ⟨w1.heap.size, 1, none⟩ = some (.slice none 0 0) := cell_of_row _ _ _ _ _ _ hb0
  have z0 : w6.frozen? ⟨w1.heap.size, 0, none⟩ = false := by simp [World.frozen?, hb0]
  have z1 : w6.frozen? ⟨w1.heap.size, 1, none⟩ = false := by simp [World.frozen?, hb0]
  have ts : Turned (fun a => a = w1.heap.size) w6 ((w6.setCell ⟨w1.heap.size, 0, none⟩ (.slice A5 n1 c5)).setCell ⟨w1.heap.size, 1, none⟩ (.slice A6 n2 c6)) := (Turned.set (F := fun a => a = w1.heap.size) w6 ⟨w1.heap.size, 0, none⟩ _ rfl).trans (Turned.set (F := fun a => a = w1.heap.size) _ ⟨w1.heap.size, 1, none⟩ _ rfl) fun j e => Or.inl e
  have HTS := Lib.hid ts
  have HB := Lib.hid (bset (i := 1) (bset (i := 0) hb0 (.slice A5 n1 c5)) (.slice A6 n2 c6))
  have HS7 := Lib.hid (And.intro (ts.cell hHeld.1 (by have := HS.out; show ¬ w.heap.size = _; omega)) (ts.cell hHeld.2 (by have := HS.out; show ¬ w.heap.size = _; omega)))
  clear ts hb0
  refine wpAnyH_ready (rs := [7]) (by kernel_rfl) (by simp) ?_
  refine AllReadyH.cons rfl (fun K hK => ?_) AllReadyH.nil
  go_simp
  refine hK.out _ _ HS7.out (fun hHeld => ?_)
  clear hK K
  try simp only [Act.put, List.getElem_toArray, List.getElem_cons_succ, List.getElem_cons_zero, List.setIfInBounds_toArray, List.set_cons_zero, List.set_cons_succ]
  refine wpAnyH_done (by kernel_rfl) ?_ _
  refine NoPanic.normal ?_
  clear hHeld
  have e5 : (0 : Nat) + n1 = n1 := Nat.zero_add n1
  have e6 : (0 : Nat) + n2 = n2 := Nat.zero_add n2
  have ho5 := HO5.out
  have ho6 := HO6.out
  rw [List.nil_append, Nat.zero_add] at ho5 ho6
  have kk := (HK.out.trans (HK5.out.trans HK6.out))
  have hsz := HS.out
  have HN5 := Lib.hid ((((ho5.keep HK6.out).far (fun e => by have := (ho5.1.lt _ e).1; simp at *; omega) (.slice A5 n1 c5) (p := ⟨w1.heap.size, 0, none⟩)).far (fun e => by have := (ho5.1.lt _ e).1; simp at *; omega) (.slice A6 n2 c6) (p := ⟨w1.heap.size, 1, none⟩)).lower (base' := w.heap.size) (by omega))
  have HN6 := Lib.hid (((ho6.far (fun e => by have := (ho6.1.lt _ e).1; simp at *; omega) (.slice A5 n1 c5) (p := ⟨w1.heap.size, 0, none⟩)).far (fun e => by have := (ho6.1.lt _ e).1; simp at *; omega) (.slice A6 n2 c6) (p := ⟨w1.heap.size, 1, none⟩)).lower (base' := w.heap.size) (by omega))
  have HKF := Lib.hid ((kk.setCell (a := ⟨w1.heap.size, 0, none⟩) (by show w.heap.size ≤ w1.heap.size; omega) (.slice A5 n1 c5)).setCell (a := ⟨w1.heap.size, 1, none⟩) (by show w.heap.size ≤ w1.heap.size; omega) (.slice A6 n2 c6))
  have HCP := Lib.hid (And.intro ho5.cap ho6.cap)
  clear ho5 ho6 kk hsz
  go_wp2_with fail
  refine bodyPost_ret (v := .agg #[.slice A5 n1 c5, .slice A6 n2 c6]) ?_ rfl ⟨_, _, _, _, rfl, HN5.out, HN6.out, HCP.out.1, HCP.out.2, HKF.out⟩
  exact results_cell1 (p := 2) (ty := 34) rfl _ _ w1.heap.size 34 _ (0, 0) _ rfl HB.out Tryz.underlying34 rfl infoRowSize

end Go.Proofs.YtcjjhblgejkkeaaGreat
