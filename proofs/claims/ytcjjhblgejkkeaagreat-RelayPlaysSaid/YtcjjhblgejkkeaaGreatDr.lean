/- The document's own draw: ref11's Coefs and Turn. -/
import Derived.Test.YtcjjhblgejkkeaaGreatDD
namespace Go.Proofs.YtcjjhblgejkkeaaGreat
open Go.RowKit
set_option linter.unusedVariables false
set_option linter.unusedSimpArgs false
set_option maxHeartbeats 2000000 in
theorem rcoefs_bad (m c : Nat) (A : Option Addr) (n k : Int) (h : n < 1 ∨ 255 < n ∨ k < 0 ∨ n ≤ k) (w : World) :
    Calls Tryz.prog 59 #[.slice A m c, .int .i64 n, .int .i64 k] w (NewPair w [] 1) := by
  by_cases h1 : n < 1
  · clear h
    go_enter Tryz.func59, Tryz.ntmps59
    go_wp2_with fail
    go_ret2
    exact NewPair.nil w 1
  by_cases h2 : 255 < n
  · clear h
    go_enter Tryz.func59, Tryz.ntmps59
    go_wp2_with fail
    go_ret2
    exact NewPair.nil w 1
  by_cases h3 : k < 0
  · clear h
    go_enter Tryz.func59, Tryz.ntmps59
    go_wp2_with fail
    go_ret2
    exact NewPair.nil w 1
  have h4 : n ≤ k := by omega
  clear h
  go_enter Tryz.func59, Tryz.ntmps59
  go_wp2_with fail
  go_ret2
  exact NewPair.nil w 1
/-- The first j bytes of the draw stand in n noughts. -/
theorem fill_set (xs : List Nat) (n j : Nat) (hj : j < n) (hx : j < xs.length) : (fillN (xs.take j) n).set j (xs.getD j 0) = fillN (xs.take (j + 1)) n := by
  have e1 : (xs.take j).length = j := by rw [List.length_take]; omega
  have e2 : (xs.take (j + 1)).length = j + 1 := by rw [List.length_take]; omega
  unfold fillN
  rw [e1, e2, List.take_take, List.take_take, show min n j = j by omega, show min n (j + 1) = j + 1 by omega, show n - j = (n - (j + 1)) + 1 by omega, List.replicate_succ, List.set_append_right _ _ (by rw [e1]; exact Nat.le_refl _), e1, Nat.sub_self, List.set_cons_zero, List.take_add_one, List.getElem?_eq_getElem hx, Option.toList_some, List.append_assoc]
  simp [List.getD, hx]
theorem fill_full (xs : List Nat) (n j : Nat) (h : n ≤ j ∨ xs.length ≤ j) : fillN (xs.take j) n = fillN xs n := by
  unfold fillN
  rw [List.take_take, List.length_take]
  rcases h with h | h
  · rw [show min n j = n by omega]
    congr 2
    omega
  · rw [show min j xs.length = xs.length by omega]
    congr 1
    rcases Nat.le_total n j with e | e
    · rw [show min n j = n by omega]
    · rw [show min n j = j by omega, List.take_of_length_le h, List.take_of_length_le (by omega)]
theorem fill_get (xs : List Nat) (n i : Nat) : (fillN xs n).getD i 0 = if i < n then xs.getD i 0 else 0 := by
  unfold fillN
  rw [List.getD_eq_getElem?_getD, List.getD_eq_getElem?_getD]
  by_cases h : i < (xs.take n).length
  · rw [List.getElem?_append_left h, List.getElem?_take]
    rw [List.length_take] at h
    rw [if_pos (by omega), if_pos (by omega)]
  · rw [List.getElem?_append_right (by omega), List.getElem?_replicate]
    rw [List.length_take] at h
    by_cases h1 : i < n
    · rw [if_pos h1, List.getElem?_eq_none (show xs.length ≤ i by omega)]
      split <;> rfl
    · rw [if_neg h1]
      split <;> rfl
theorem fill_zero (xs : List Nat) (n : Nat) : fillN (xs.take 0) n = List.replicate n 0 := by simp [fillN]
theorem lead_neg (n : Nat) (xs : List Nat) : vLead n xs < 0 ↔ ∀ i, i < n → xs.getD i 0 = 0 := by
  rw [← vLeadTo_none, vLead]
  cases vLeadTo xs n with
  | none => simp
  | some k => simp
theorem all_zeros {xs : List Nat} {n : Nat} (hl : xs.length = n) (h : ∀ i, i < n → xs.getD i 0 = 0) : xs = List.replicate n 0 :=
  list_ext (by simp [hl]) fun i hi => by
    rw [h i (by omega), List.getD_eq_getElem?_getD, List.getElem?_replicate, if_pos (by omega)]; rfl
set_option maxRecDepth 100000 in
set_option maxHeartbeats 4000000 in
theorem rcoefs_any (B n k m c : Nat) (A : Option Addr) (xs : List Nat) (w : World) (h : Bytes w B A m xs) (hB : B ≤ w.heap.size) (h1 : 1 ≤ n) (hn : n ≤ 255) (hk : k < n) (hm : m ≤ 140737488351232) :
    Calls Tryz.prog 59 #[.slice A m c, .int .i64 (n : Int), .int .i64 (k : Int)] w (NewPair w (coefN n k xs) 0) := by
  have b1 : ¬ (n : Int) < 1 := by omega
  have b2 : ¬ (255 : Int) < (n : Int) := by omega
  have b3 : ¬ (k : Int) < 0 := by omega
  have b4 : ¬ (n : Int) ≤ (k : Int) := by omega
  have b5 : (k : Int) < (n : Int) := by omega
  have b6 : (0 : Int) ≤ (k : Int) := by omega
  have hmk := run_make_bytes (P := Tryz.prog) Tryz.underlying32 info5 n (by omega) w
  have hmade := Own.made w 5 n (by omega)
  rw [← fill_zero xs n] at hmade
  obtain ⟨w1, hw1⟩ : ∃ w1, w.alloc (.cells (madeCells #[.int .u8 0] n) 5) = w1 := ⟨_, rfl⟩
  have hk1 : Keep w w1 := by rw [← hw1]; exact (Keep.refl w).alloc _ _
  rw [hw1] at hmk hmade
  have HL := Lib.hid h.length
  obtain ⟨g, hg⟩ : ∃ g, w.heap.size = g := ⟨_, rfl⟩
  have HG := Lib.hid hg
  have HBw : Hid (∀ wr, Keep w wr → Bytes wr B A m xs) := fun wr kp => h.keep hB kp
  have HS : Hid (B ≤ g) := by rw [← hg]; exact hB
  rw [hg] at hmk hmade
  have HM := Lib.hid hmade
  have HK1 := Lib.hid hk1
  clear h hB hmade hk1 hg
  go_enter Tryz.func59, Tryz.ntmps59
  go_wp2_with fail
  go_loopw [9, 10] (fun z i wr => ∃ j : Nat, j ≤ n ∧ j ≤ m ∧ i = .int .i64 j ∧ z = .bool (decide (∀ i, i < j → xs.getD i 0 = 0)) ∧ Own wr g 5 (some ⟨g, 0, none⟩) n n (fillN (xs.take j) n) ∧ Keep w wr) (fun z i _ => n - (intOf i).toNat)
  case atStart => exact ⟨0, by omega, by omega, rfl, by simp, HM.out, HK1.out⟩
  case round =>
    obtain ⟨j, hj1, hj2, rfl, rfl, ho, kp⟩ := hrel
    obtain ⟨q, hq⟩ : ∃ q, decide (∀ i, i < j → xs.getD i 0 = 0) = q := ⟨_, rfl⟩
    have hc := ho.cell (i := j)
    have hf := ho.frozen j
    rw [hq]
    by_cases hlt : j < n ∧ j < m
    · obtain ⟨b, off, rfl, hb, hx⟩ := (HBw.out wr kp).at_ hlt.2
      have hv := (HBw.out wr kp).all.getD j
      have hS := ho.stored (i := j) hv
      rw [fill_set xs n j hlt.1 (by rw [HL.out]; exact hlt.2)] at hS
      have hne : g ≠ b := by have := HS.out; omega
      have hq' : Hid (decide (∀ i, i < j + 1 → xs.getD i 0 = 0) = (q && decide (xs.getD j 0 = 0))) := by
        show _ = _
        rw [← hq, ← Bool.decide_and]
        refine decide_eq_decide.2 ⟨fun a => ⟨fun i hi => a i (by omega), a j (by omega)⟩, fun a i hi => ?_⟩
        rcases Nat.lt_or_ge i j with h1 | h1
        · exact a.1 i h1
        · obtain rfl : i = j := by omega
          exact a.2
      have hKS := kp.setCell (a := ⟨g, j, none⟩) (by rw [HG.out]; exact Nat.le_refl _) (.int .u8 ((xs.getD j 0 : Nat) : Int))
      have hc := hc hlt.1
      have hx' : (wr.setCell ⟨g, j, none⟩ (.int .u8 ((xs.getD j 0 : Nat) : Int))).cell? ⟨b, off + j, none⟩ = some (.int .u8 ((xs.getD j 0 : Nat) : Int)) := by
        rw [World.cell?_setCell_far _ _ _ _ hne]; exact hx
      obtain ⟨w5, hw5⟩ : ∃ w5, wr.setCell ⟨g, j, none⟩ (.int .u8 ((xs.getD j 0 : Nat) : Int)) = w5 := ⟨_, rfl⟩
      rw [hw5] at hS hKS hx'
      have HSS := Lib.hid hS
      have HKS := Lib.hid hKS
      generalize (fillN (xs.take j) n).getD j 0 = z0 at *
      generalize xs.getD j 0 = x at *
      have e1 : (0 : Int) ≤ (j : Int) := Int.natCast_nonneg _
      have e2 : (j : Int) < (n : Int) := by omega
      have e3 : (j : Int) < (m : Int) := by omega
      clear hS hKS kp ho hq
      have HJ : Hid (j + 1 ≤ n ∧ j + 1 ≤ m) := ⟨by omega, by omega⟩
      cases q with
      | false =>
        rw [Bool.false_and] at hq'
        go_wp2_with fail
        go_round
        case rel => exact ⟨j + 1, HJ.out.1, HJ.out.2, by go_num, by rw [hq'.out], HSS.out, HKS.out⟩
        case measure => simp [intOf]; omega
      | true =>
        rw [Bool.true_and] at hq'
        by_cases hx0 : x = 0
        · rw [decide_eq_true hx0] at hq'
          have i1 : ((x : Int) == 0) = true := beq_iff_eq.2 (by omega)
          clear hx0
          go_wp2_with fail
          go_round
          case rel => exact ⟨j + 1, HJ.out.1, HJ.out.2, by go_num, by rw [hq'.out], HSS.out, HKS.out⟩
          case measure => simp [intOf]; omega
        · rw [decide_eq_false hx0] at hq'
          have i1 : ((x : Int) == 0) = false := beq_eq_false_iff_ne.2 (by omega)
          clear hx0
          go_wp2_with fail
          go_round
          case rel => exact ⟨j + 1, HJ.out.1, HJ.out.2, by go_num, by rw [hq'.out], HSS.out, HKS.out⟩
          case measure => simp [intOf]; omega
    · have hfull := fill_full xs n j (by rw [HL.out]; omega)
      have hq' : q = true ↔ vLead n (fillN xs n) < 0 := by
        rw [← hq, decide_eq_true_iff, lead_neg]
        refine ⟨fun a i hi => ?_, fun a i hi => ?_⟩
        · rw [fill_get, if_pos hi]
          rcases Nat.lt_or_ge i j with h1 | h1
          · exact a i h1
          · rw [List.getD_eq_getElem?_getD, List.getElem?_eq_none (by rw [HL.out]; omega)]; rfl
        · have := a i (by omega)
          rwa [fill_get, if_pos (by omega)] at this
      rw [hfull] at ho
      have e1 : (0 : Int) ≤ (j : Int) := Int.natCast_nonneg _
      have e4 : ¬ (j : Int) < (n : Int) ∨ ¬ (j : Int) < (m : Int) := by omega
      have hck := ho.cell hk
      have hfk := ho.frozen k
      have hS := ho.stored (i := k) (v := 1) (by decide)
      have hKS := kp.setCell (a := ⟨g, k, none⟩) (by rw [HG.out]; exact Nat.le_refl _) (.int .u8 1)
      obtain ⟨w5, hw5⟩ : ∃ w5, wr.setCell ⟨g, k, none⟩ (.int .u8 1) = w5 := ⟨_, rfl⟩
      rw [show (Value.int .u8 ((1 : Nat) : Int)) = .int .u8 1 from rfl, hw5] at hS
      rw [hw5] at hKS
      cases q with
      | false =>
        have hco : coefN n k xs = fillN xs n := if_neg fun e => by have := hq'.2 e; cases this
        have H4 : Hid (NewPair w (coefN n k xs) 0 (.returned (.tuple #[.slice (some ⟨g, 0, none⟩) n n, .int .i64 0])) wr) := by
          rw [hco]; exact ⟨_, _, _, rfl, by rw [HG.out]; exact ho, kp⟩
        clear hS hKS hw5 hck hfk ho hf hc hq hfull hq' hco kp
        rcases e4 with e4 | e4
        · go_wp2_with fail
          go_ret2
          exact H4.out
        · by_cases e5 : (j : Int) < (n : Int)
          · go_wp2_with fail
            go_ret2
            exact H4.out
          · go_wp2_with fail
            go_ret2
            exact H4.out
      | true =>
        have hz := hq'.1 rfl
        have hco : coefN n k xs = vUnit n k := if_pos hz
        have hzz : fillN xs n = List.replicate n 0 := all_zeros (fillN_len xs n) ((lead_neg _ _).1 hz)
        rw [hzz, vUnit_set n k] at hS
        have H4 : Hid (NewPair w (coefN n k xs) 0 (.returned (.tuple #[.slice (some ⟨g, 0, none⟩) n n, .int .i64 0])) w5) := by
          rw [hco]; exact ⟨_, _, _, rfl, by rw [HG.out]; exact hS, hKS⟩
        generalize (fillN xs n).getD k 0 = z0 at *
        clear hS hKS ho hf hc hq hfull hq' hco hz hzz kp
        rcases e4 with e4 | e4
        · go_wp2_with fail
          go_ret2
          exact H4.out
        · by_cases e5 : (j : Int) < (n : Int)
          · go_wp2_with fail
            go_ret2
            exact H4.out
          · go_wp2_with fail
            go_ret2
            exact H4.out
end Go.Proofs.YtcjjhblgejkkeaaGreat
