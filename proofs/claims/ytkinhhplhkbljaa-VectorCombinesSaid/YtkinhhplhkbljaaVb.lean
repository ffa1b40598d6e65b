/- The table of products that the landed code makes. -/
import Derived.Test.YtkinhhplhkbljaaVa
namespace Go.Proofs.Ytkinhhplhkbljaa
open Go.RowKit

/-- Both tables, filled below m. -/
structure Filled (w wr : World) (b c m : Nat) : Prop where
  low : ∀ j, j < 16 → wr.cell? ⟨b, j, none⟩ = some (.int .u8 ((if j < m then mulN c j else 0 : Nat) : Int)) ∧ wr.frozen? ⟨b, j, none⟩ = false
  up : ∀ j, j < 16 → wr.cell? ⟨b + 1, j, none⟩ = some (.int .u8 ((if j < m then mulN c (16 * j) else 0 : Nat) : Int)) ∧ wr.frozen? ⟨b + 1, j, none⟩ = false
  keep : Keep w wr
  new : w.heap.size ≤ b
  lt : b + 1 < wr.heap.size
theorem Filled.setLow {w wr : World} {b c m : Nat} (h : Filled w wr b c m) (v : Nat) (hm : m < 16) (hv : mulN c m = v) :
    (∀ j, j < 16 → (wr.setCell ⟨b, m, none⟩ (.int .u8 (v : Int))).cell? ⟨b, j, none⟩ = some (.int .u8 ((if j < m + 1 then mulN c j else 0 : Nat) : Int)) ∧ (wr.setCell ⟨b, m, none⟩ (.int .u8 (v : Int))).frozen? ⟨b, j, none⟩ = false) ∧
    (∀ j, j < 16 → (wr.setCell ⟨b, m, none⟩ (.int .u8 (v : Int))).cell? ⟨b + 1, j, none⟩ = some (.int .u8 ((if j < m then mulN c (16 * j) else 0 : Nat) : Int)) ∧ (wr.setCell ⟨b, m, none⟩ (.int .u8 (v : Int))).frozen? ⟨b + 1, j, none⟩ = false) := by
  refine ⟨fun j hj => ⟨?_, (World.frozen?_setCell _ _ _ _).trans (h.low j hj).2⟩, fun j hj => ⟨(World.cell?_setCell_far _ _ _ _ (by simp)).trans (h.up j hj).1, (World.frozen?_setCell _ _ _ _).trans (h.up j hj).2⟩⟩
  by_cases e : j = m
  · subst e
    rw [World.cell?_setCell_same _ _ _ (h.low j hj).1, if_pos (by omega), hv]
  · rw [World.cell?_setCell_other _ _ _ _ (fun h => e (by injection h with _ h2; exact h2.symm)), (h.low j hj).1]
    by_cases h1 : j < m
    · rw [if_pos h1, if_pos (by omega)]
    · rw [if_neg h1, if_neg (by omega)]
theorem Filled.setUp {w wr : World} {b c m : Nat} (h1 : ∀ j, j < 16 → wr.cell? ⟨b, j, none⟩ = some (.int .u8 ((if j < m + 1 then mulN c j else 0 : Nat) : Int)) ∧ wr.frozen? ⟨b, j, none⟩ = false)
    (h2 : ∀ j, j < 16 → wr.cell? ⟨b + 1, j, none⟩ = some (.int .u8 ((if j < m then mulN c (16 * j) else 0 : Nat) : Int)) ∧ wr.frozen? ⟨b + 1, j, none⟩ = false) (hk : Keep w wr) (hb : w.heap.size ≤ b) (hl : b + 1 < wr.heap.size)
    (v : Nat) (hm : m < 16) (hv : mulN c (16 * m) = v) : Filled w (wr.setCell ⟨b + 1, m, none⟩ (.int .u8 (v : Int))) b c (m + 1) := by
  refine ⟨fun j hj => ⟨(World.cell?_setCell_far _ _ _ _ (by simp)).trans (h1 j hj).1, (World.frozen?_setCell _ _ _ _).trans (h1 j hj).2⟩, fun j hj => ⟨?_, (World.frozen?_setCell _ _ _ _).trans (h2 j hj).2⟩, hk.setCell (by show _ ≤ b + 1; omega) _, hb, by simpa [World.setCell] using hl⟩
  by_cases e : j = m
  · subst e
    rw [World.cell?_setCell_same _ _ _ (h2 j hj).1, if_pos (by omega), hv]
  · rw [World.cell?_setCell_other _ _ _ _ (fun h => e (by injection h with _ h2; exact h2.symm)), (h2 j hj).1]
    by_cases h1 : j < m
    · rw [if_pos h1, if_pos (by omega)]
    · rw [if_neg h1, if_neg (by omega)]
theorem zero_cells (j : Nat) (hj : j < 16) : (#[Value.int .u8 0, .int .u8 0, .int .u8 0, .int .u8 0, .int .u8 0, .int .u8 0, .int .u8 0, .int .u8 0, .int .u8 0, .int .u8 0, .int .u8 0, .int .u8 0, .int .u8 0, .int .u8 0, .int .u8 0, .int .u8 0] : Array Value)[j]? = some (.int .u8 0) := by
  rcases j with _ | _ | _ | _ | _ | _ | _ | _ | _ | _ | _ | _ | _ | _ | _ | _ | j <;> first | rfl | omega
theorem Filled.start (w : World) (c : Nat) : Filled w ((w.alloc (.cells #[.int .u8 0, .int .u8 0, .int .u8 0, .int .u8 0, .int .u8 0, .int .u8 0, .int .u8 0, .int .u8 0, .int .u8 0, .int .u8 0, .int .u8 0, .int .u8 0, .int .u8 0, .int .u8 0, .int .u8 0, .int .u8 0] 58)).alloc
    (.cells #[.int .u8 0, .int .u8 0, .int .u8 0, .int .u8 0, .int .u8 0, .int .u8 0, .int .u8 0, .int .u8 0, .int .u8 0, .int .u8 0, .int .u8 0, .int .u8 0, .int .u8 0, .int .u8 0, .int .u8 0, .int .u8 0] 58)) w.heap.size c 1 := by
  have z : ∀ (a j : Nat), mulN c (a * j) * 0 = 0 := fun _ _ => Nat.mul_zero _
  refine ⟨fun j hj => ⟨?_, ?_⟩, fun j hj => ⟨?_, ?_⟩, ((Keep.refl w).alloc _ _).alloc _ _, Nat.le_refl _, by simp⟩
  · rw [World.cell?_alloc_past _ _ _ (by simp), World.cell?_alloc_at _ _ _ _ rfl, zero_cells j hj]
    by_cases e : j < 1
    · obtain rfl : j = 0 := by omega
      rw [if_pos e, mul_zero_right]; rfl
    · rw [if_neg e]; rfl
  · rw [World.frozen?_alloc_past _ _ _ (by simp)]; exact World.frozen?_alloc_at _ _ _ _ rfl
  · rw [World.cell?_alloc_at _ _ _ _ (by simp), zero_cells j hj]
    by_cases e : j < 1
    · obtain rfl : j = 0 := by omega
      rw [if_pos e, mul_zero_right]; rfl
    · rw [if_neg e]; rfl
  · exact World.frozen?_alloc_at _ _ _ _ (by simp)
theorem Filled.timing {w wr : World} {b c m : Nat} (h : Filled w wr b c m) (hm : 16 ≤ m) : Timing wr b c :=
  ⟨h.lt, fun i hi => ⟨by rw [(h.low i hi).1, if_pos (by omega)], by rw [(h.up i hi).1, if_pos (by omega)]⟩⟩
set_option maxRecDepth 100000 in
set_option maxHeartbeats 2000000 in
theorem times_at (c B : Nat) (w : World) (hc : c < 256) (hB : w.heap.size = B) :
    Calls Try.prog 31 #[.int .u8 c] w fun e w' => e = .returned (.func (.func 41) #[] #[.pointer (some ⟨B, 0, none⟩), .pointer (some ⟨B + 1, 0, none⟩)]) ∧ Timing w' B c ∧ Keep w w' := by
  have f0 := Filled.start w c
  rw [hB] at f0
  go_enter Try.func31, Try.ntmps31
  go_wp2_with fail
  clear hB
  go_loopw [10] (fun i wr => ∃ k : Nat, k ≤ 4 ∧ i = .int .i64 k ∧ Filled w wr B c (2 ^ k)) (fun i _ => 4 - (intOf i).toNat)
  case atStart => exact ⟨0, by omega, rfl, f0⟩
  case round =>
    clear f0
    obtain ⟨k, hk, rfl, hf⟩ := hrel
    by_cases hlt : k < 4
    · have hm2 : 2 ^ (k + 1) = 2 ^ k + 2 ^ k := by rw [Nat.pow_succ]; omega
      have hm8 : 1 ≤ 2 ^ k ∧ 2 ^ k ≤ 8 := by
        rcases k with _ | _ | _ | _ | k <;> first | decide | omega
      have hxor : ∀ j, j < 2 ^ k → j ^^^ 2 ^ k = j + 2 ^ k ∧ (16 * j) ^^^ (16 * 2 ^ k) = 16 * (j + 2 ^ k) := by
        rcases k with _ | _ | _ | _ | k <;> first | decide | omega
      have ew : wrap64 ((2 : Int) ^ k) = ((2 ^ k : Nat) : Int) := by
        have e : (2 : Int) ^ k = ((2 ^ k : Nat) : Int) := by simp
        rw [e, IntWalk.wrap64_in _ (by omega)]
      generalize 2 ^ k = m at *
      have em : (m : Int) % 256 = (m : Int) := by omega
      have HF := Lib.hid hf
      have HX := Lib.hid hxor
      obtain ⟨p, hp⟩ : ∃ p, mulN c m = p := ⟨_, rfl⟩
      obtain ⟨q, hq⟩ : ∃ q, mulN c (16 * m) = q := ⟨_, rfl⟩
      have hp2 : p < 256 := by rw [← hp]; exact mulN_lt _ hc
      have hq2 : q < 256 := by rw [← hq]; exact mulN_lt _ hc
      have HP := Lib.hid hp
      have HQ := Lib.hid hq
      clear hf hxor hp hq
      go_wp2_with fail
      refine (mul_eq c m p hc (by omega) HP.out _).mono ?_
      rintro e w1 ⟨rfl, rfl⟩
      go_wp2_with fail
      rw [show (m : Int) * 16 = ((16 * m : Nat) : Int) by omega]
      refine (mul_eq c (16 * m) q hc (by omega) HQ.out _).mono ?_
      rintro e w1 ⟨rfl, rfl⟩
      go_wp2_with fail
      go_loopw [25] (fun i w2 => ∃ r : Nat, r ≤ m ∧ i = .int .i64 r ∧ Filled w w2 B c (m + r)) (fun i _ => m - (intOf i).toNat)
      case atStart => exact ⟨0, by omega, rfl, HF.out⟩
      case round =>
        obtain ⟨r, hr, rfl, hf⟩ := hrel
        by_cases hrt : r < m
        · obtain ⟨l1, l2⟩ := hf.low r (by omega)
          obtain ⟨l3, l4⟩ := hf.low (m + r) (by omega)
          obtain ⟨x1, x2⟩ := HX.out r hrt
          rw [if_pos (show r < m + r by omega)] at l1
          rw [if_neg (show ¬ m + r < m + r by omega)] at l3
          obtain ⟨a, ha⟩ : ∃ a, mulN c r = a := ⟨_, rfl⟩
          obtain ⟨v, hv⟩ : ∃ v, a ^^^ p = v := ⟨_, rfl⟩
          obtain ⟨a', ha'⟩ : ∃ a, mulN c (16 * r) = a := ⟨_, rfl⟩
          obtain ⟨v', hv'⟩ : ∃ v, a' ^^^ q = v := ⟨_, rfl⟩
          have a1 : a < 256 := by rw [← ha]; exact mulN_lt _ hc
          have a2 : a' < 256 := by rw [← ha']; exact mulN_lt _ hc
          have s1 : mulN c (m + r) = v := by rw [← hv, ← ha, ← HP.out, ← mul_xor_right c r m hc (by omega) (by omega), x1, Nat.add_comm]
          have s2 : mulN c (16 * (m + r)) = v' := by rw [← hv', ← ha', ← HQ.out, ← mul_xor_right c (16 * r) (16 * m) hc (by omega) (by omega), x2, Nat.add_comm m r]
          rw [ha] at l1
          have HV := Lib.hid hv
          have HV' := Lib.hid hv'
          obtain ⟨g1, g2⟩ := hf.setLow v (by omega) s1
          obtain ⟨u1, u2⟩ := hf.up r (by omega)
          obtain ⟨u3, u4⟩ := hf.up (m + r) (by omega)
          rw [if_pos (show r < m + r by omega), ha'] at u1
          rw [if_neg (show ¬ m + r < m + r by omega)] at u3
          have HL := Lib.hid (And.intro hp2 hq2)
          have HN := Lib.hid (Filled.setUp (w := w) g1 g2 (hf.keep.setCell hf.new _) hf.new (by simpa [World.setCell] using hf.lt) v' (by omega) s2)
          clear g1 g2 hf s1 s2 hv hv' ha ha' x1 x2
          obtain ⟨t, ht⟩ : ∃ t, m + r = t := ⟨_, rfl⟩
          rw [ht] at l3 l4 u3 u4 HN
          have i1 : (0 : Int) ≤ (r : Int) := Int.natCast_nonneg _
          have i2 : (r : Int) < 16 := by omega
          have i3 : (m : Int) + (r : Int) = (t : Int) := by omega
          have i4 : (0 : Int) ≤ (t : Int) := Int.natCast_nonneg _
          have i5 : (t : Int) < 16 := by omega
          have HT := Lib.hid ht
          clear hm2 hp2 hq2 ht
          go_wp2_with fail
          refine (add_eq a p v a1 HL.out.1 HV.out _).mono ?_
          rintro e w1 ⟨rfl, rfl⟩
          go_wp2_with fail
          refine (add_eq a' q v' a2 HL.out.2 HV'.out _).mono ?_
          rintro e w1 ⟨rfl, rfl⟩
          go_wp2_with fail
          go_round
          case rel => exact ⟨r + 1, by omega, by go_num, by rw [← Nat.add_assoc, HT.out]; exact HN.out⟩
          case measure => simp [intOf]; omega
        · obtain rfl : r = m := by omega
          have HN : Hid (Filled w wr B c (2 ^ (k + 1))) := by show Filled _ _ _ _ _; rw [hm2]; exact hf
          clear hf
          go_wp2_with fail
          go_round
          case rel => exact ⟨k + 1, by omega, by go_num, HN.out⟩
          case measure => simp [intOf]; omega
    · obtain rfl : k = 4 := by omega
      have ht := hf.timing (by decide)
      have hk := hf.keep
      go_wp2_with fail
      go_ret
      exact ⟨rfl, ht, hk⟩
end Go.Proofs.Ytkinhhplhkbljaa
