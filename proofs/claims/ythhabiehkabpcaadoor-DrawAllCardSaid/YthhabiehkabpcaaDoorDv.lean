/- Vector's landed contracts that stage 11 leans on: Lead, IsZero, Unit. -/
import Derived.Test.YthhabiehkabpcaaDoorNew
import Derived.Test.YthhabiehkabpcaaDoorVecB
import Derived.Test.YthhabiehkabpcaaDoorRegion
import Derived.OneCell
namespace Go.Proofs.YthhabiehkabpcaaDoor
open Go.RowKit
set_option linter.unusedVariables false
set_option linter.unusedSimpArgs false
theorem nonzero_any (x : Nat) (b : Bool) (hb : ((x : Int) != 0) = b) (w : World) :
    Calls Tryd.prog 21 #[.int .u8 x] w fun e w' => e = .returned (.bool b) ∧ w = w' := by
  go_enter Tryd.func21, Tryd.ntmps21
  go_wp2_with fail
  go_ret
  exact ⟨rfl, rfl⟩
set_option maxRecDepth 100000 in
theorem index_any (B n ca : Nat) (A : Option Addr) (xs : List Nat) (w : World) (h : Bytes w B A n xs) (_hn : n ≤ 140737488351232) :
    Calls Tryd.prog 20 #[.slice A n ca, .func (.func 21) #[] #[]] w fun e w' => e = .returned (.int .i64 (vLead n xs)) ∧ w = w' := by
  go_enter Tryd.func20, Tryd.ntmps20
  go_wp2_with fail
  go_loop [8] (fun i => ∃ k : Nat, k ≤ n ∧ i = .int .i64 k ∧ ∀ j, j < k → xs.getD j 0 = 0) (fun i => n - (intOf i).toNat)
  case atStart => exact ⟨0, by omega, rfl, fun j hj => by omega⟩
  case round =>
    obtain ⟨k, hk, rfl, hz⟩ := hrel
    have HZ := Lib.hid hz
    clear hz
    by_cases hlt : k < n
    · obtain ⟨b1, o1, rfl, hb1, hc1⟩ := h.at_ hlt
      have hx := h.all.getD k
      by_cases h0 : xs.getD k 0 = 0
      · have hs : Hid (∀ j, j < k + 1 → xs.getD j 0 = 0) := fun j hj => by
          by_cases e : j = k
          · subst e; exact h0
          · exact HZ.out j (by omega)
        have b1' : (((xs.getD k 0 : Nat) : Int) != 0) = false := by rw [h0]; rfl
        generalize xs.getD k 0 = x at *
        have HB1 := Lib.hid b1'
        clear h0 b1'
        go_wp2_with fail
        refine (nonzero_any x false HB1.out _).mono ?_
        rintro e w1 ⟨rfl, rfl⟩
        go_wp2_with fail
        go_round
        case rel => exact ⟨k + 1, by omega, by go_num, hs.out⟩
        case measure => simp [intOf]; omega
      · have hv : Hid (vLead n xs = (k : Int)) := by
          show _ = _
          have h1 := (vLeadTo_some xs n k).2 ⟨hlt, h0, HZ.out⟩
          rw [vLead, h1]
        have b1' : (((xs.getD k 0 : Nat) : Int) != 0) = true := by rw [bne_iff_ne]; omega
        generalize xs.getD k 0 = x at *
        have HB1 := Lib.hid b1'
        clear h0 b1'
        go_wp2_with fail
        refine (nonzero_any x true HB1.out _).mono ?_
        rintro e w1 ⟨rfl, rfl⟩
        go_wp2_with fail
        go_ret
        exact ⟨by rw [hv.out]; rfl, rfl⟩
    · have hv : Hid (vLead n xs = -1) := by
        show _ = _
        have h1 := (vLeadTo_none xs n).2 fun i hi => HZ.out i (by omega)
        rw [vLead, h1]
      go_wp2_with fail
      go_ret
      exact ⟨by rw [hv.out]; rfl, rfl⟩
theorem vlead_eq (B n ca : Nat) (A : Option Addr) (xs : List Nat) (w : World) (h : Bytes w B A n xs) (hn : n ≤ 140737488351232) :
    Calls Tryd.prog 15 #[.slice A n ca] w fun e w' => e = .returned (.int .i64 (vLead n xs)) ∧ w = w' := by
  go_enter Tryd.func15, Tryd.ntmps15
  go_wp2_with fail
  refine (index_any B n ca A xs w h hn).mono ?_
  rintro e w1 ⟨rfl, rfl⟩
  go_wp2_with fail
  go_ret
  exact ⟨rfl, rfl⟩
theorem vzero_eq (B n ca : Nat) (A : Option Addr) (xs : List Nat) (w : World) (h : Bytes w B A n xs) (hn : n ≤ 140737488351232) :
    Calls Tryd.prog 6 #[.slice A n ca] w fun e w' => e = .returned (.bool (decide (vLead n xs < 0))) ∧ w = w' := by
  go_enter Tryd.func6, Tryd.ntmps6
  go_wp2_with fail
  refine (vlead_eq B n ca A xs w h hn).mono ?_
  rintro e w1 ⟨rfl, rfl⟩
  go_wp2_with fail
  go_ret
  exact ⟨rfl, rfl⟩
theorem vunit_out (n i : Int) (h : n < 0 ∨ 70000 < n ∨ i < 0 ∨ n ≤ i) (w : World) :
    Calls Tryd.prog 14 #[.int .i64 n, .int .i64 i] w (NewPair w [] 1) := by
  by_cases h1 : n < 0
  · go_enter Tryd.func14, Tryd.ntmps14
    go_wp2
    go_ret2
    exact NewPair.nil w 1
  by_cases h2 : 70000 < n
  · go_enter Tryd.func14, Tryd.ntmps14
    go_wp2
    go_ret2
    exact NewPair.nil w 1
  by_cases h3 : i < 0
  · go_enter Tryd.func14, Tryd.ntmps14
    go_wp2
    go_ret2
    exact NewPair.nil w 1
  have h4 : n ≤ i := by omega
  clear h
  go_enter Tryd.func14, Tryd.ntmps14
  go_wp2
  go_ret2
  exact NewPair.nil w 1
theorem vLead_unit (n k : Nat) (hk : k < n) : vLead n (vUnit n k) = k := by
  have h : vLeadTo (vUnit n k) n = some k := (vLeadTo_some _ n k).2 ⟨hk, by rw [vUnit, tab_getD, if_pos hk, if_pos rfl]; decide, fun i hi => by rw [vUnit, tab_getD, if_pos (by omega), if_neg (by omega)]⟩
  rw [vLead, h]
set_option maxRecDepth 100000 in
theorem vunit_in (n i : Nat) (hi : i < n) (hn : n ≤ 70000) (w : World) :
    Calls Tryd.prog 14 #[.int .i64 n, .int .i64 i] w (NewPair w (vUnit n i) 0) := by
  have hmk := run_make_bytes (P := Tryd.prog) Tryd.underlying22 info5 n (by omega)
  have e1 : (0 : Int) ≤ (i : Int) := Int.natCast_nonneg _
  have e2 : (i : Int) < (n : Int) := by omega
  have e3 : (n : Int) ≤ 70000 := by omega
  have hm := Own.made w 5 n (by omega)
  have hc := hm.cell hi
  have hf := hm.frozen i
  have hs := hm.stored (i := i) (v := 1) (by decide)
  rw [World.setCell_alloc_new, vUnit_set n i] at hs
  have HS := Lib.hid hs
  clear hs
  generalize (List.replicate n 0).getD i 0 = z at hc
  clear hm
  go_enter Tryd.func14, Tryd.ntmps14
  go_wp2_with fail
  go_ret2
  exact ⟨_, n, n, rfl, HS.out, (Keep.refl w).alloc _ _⟩

end Go.Proofs.YthhabiehkabpcaaDoor
