/- The walk of CrcFinds. -/
import Derived.Test.YthhfahljdbcpjaaDoorCwakes
import Derived.StillTailTactics
namespace Go.Proofs.YthhfahljdbcpjaaDoor
open Go.RowKit Crc
theorem own_cap {w : World} {base n c : Nat} {e : TypeId} {A : Option Addr} {xs : List Nat} (h : Own w base e A n c xs) : n ≤ c := by
  rcases h.1.2 with ⟨hv, h0⟩ | ⟨g, cap, cur, hv, _, _, hle, _⟩
  · omega
  · injection hv with _ _ h3; omega
set_option maxRecDepth 100000 in
set_option maxHeartbeats 4000000 in
theorem finds_any (n c y turn : Nat) (A : Option Addr) (xs : List Nat) (w : World) (hT : TabW w) (h : Bytes w w.heap.size A n xs) (hn : n ≤ 140737488351232) (hy : y < 65536) (ht : turn < 4294967296) :
    Calls Tryd.prog 5 #[.slice A n c, .int .u16 (y : Int), .int .u32 (turn : Int)] w fun e w' => e = .returned (.bool true) ∧ Keep w w' := by
  have HT := Lib.hid hT
  have HB := Lib.hid h
  have HL := Lib.hid h.length
  have hall := h.all
  have HA := Lib.hid hall
  have hop := open_seal xs
  have HOP := Lib.hid hop
  clear hT h hall hop
  go_enter Tryd.func5, Tryd.ntmps5
  go_wp2_with fail
  refine (cseal_any _ n c A xs _ HT.out HB.out (Nat.le_refl _) hn).mono ?_
  rintro e w1 ⟨P1, n1, c1, rfl, o1, k1⟩
  obtain rfl : n1 = n + 4 := by have e := o1.length; rw [seal_length, HL.out] at e; exact e.symm
  have hcap := own_cap o1
  obtain ⟨g, rfl, hg, hglt⟩ := o1.block (by omega)
  have O1 := Lib.hid o1
  have K1 := Lib.hid k1
  clear o1 k1
  go_wp2_with fail
  refine (copen_any _ (n + 4) c1 _ _ _ (HT.out.keep K1.out) O1.out.bytes (Nat.le_refl _) (by omega) hcap).mono ?_
  rw [HOP.out.1, HOP.out.2]
  rintro e w2 ⟨P2, n2, c2, rfl, o2, k2⟩
  obtain rfl : n2 = n := by have e := o2.length; rw [HL.out] at e; exact e.symm
  have O2 := Lib.hid o2
  have K2 := Lib.hid k2
  have hq1 := run_str o2.bytes Tryd.underlying22 Tryd.underlying5 Tryd.underlying9 c2
  have hq2 := run_str (HB.out.keep (Nat.le_refl _) (K1.out.trans k2)) Tryd.underlying22 Tryd.underlying5 Tryd.underlying9 c
  have hq3 : ((strN xs).toList == (strN xs).toList) = true := strN_eq rfl
  have hq4 : ((strN xs).toList != (strN xs).toList) = false := by rw [bne, hq3]; rfl
  have e1 : ((n2 + 4 : Nat) : Int) = (n2 : Int) + 4 := by omega
  have e2 : (((n2 : Int) + 4) != ((n2 : Int) + 4)) = false := by simp
  obtain ⟨m, hm⟩ : ∃ m, 8 * (n2 + 4) - 31 = m := ⟨_, rfl⟩
  have e3 : 8 * ((n2 : Int) + 4) - 31 = (m : Int) := by omega
  have e4 : (m : Int) ≠ 0 := by omega
  obtain ⟨bit, hbit⟩ : ∃ bit, y % m = bit := ⟨_, rfl⟩
  have hbl : bit < m := by rw [← hbit]; exact Nat.mod_lt _ (by omega)
  have e5 : (y : Int) % (m : Int) = (bit : Int) := by rw [← hbit]; simp
  have e6 : (0 : Int) ≤ (m : Int) := Int.natCast_nonneg _
  have HM := Lib.hid hm
  clear o2 k2 hm hbit
  go_wp2_with fail
  rw [e5]
  have HK2 := Lib.hid (K1.out.trans K2.out)
  have HO2 := Lib.hid (O1.out.keep K2.out)
  clear hq1 hq2 hq3 hq4 e2 e5 K2 O2
  go_loopw [11] (fun i wr => ∃ j : Nat, j ≤ 32 ∧ i = .int .i64 j ∧ Own wr w.heap.size 5 (some ⟨g, 0, none⟩) (n2 + 4) c1 (flipN (sealN xs) bit turn j) ∧ Keep w wr) (fun i _ => 32 - (intOf i).toNat)
  case atStart => exact ⟨0, by omega, rfl, HO2.out, HK2.out⟩
  case round =>
    clear HO2 HK2
    obtain ⟨j, hj, rfl, hown, hkeep⟩ := hrel
    by_cases hlt : j < 32
    · obtain ⟨k, hk⟩ : ∃ k, bit + j = k := ⟨_, rfl⟩
      have x1 : (bit : Int) + (j : Int) = (k : Int) := by omega
      have hk8 : k < 8 * (n2 + 4) := by have := HM.out; omega
      obtain ⟨q, hq⟩ : ∃ q, k / 8 = q := ⟨_, rfl⟩
      obtain ⟨r, hr⟩ : ∃ r, k % 8 = r := ⟨_, rfl⟩
      have x2 : (k : Int) / 8 = (q : Int) := by omega
      have x3 : (k : Int) % 8 = (r : Int) := by omega
      have hqlt : q < n2 + 4 := by omega
      have hr8 : r < 8 := by omega
      have hc := hown.cell hqlt
      have hf := hown.frozen q
      have hv := hown.2.getD q
      have hfl : flipN (sealN xs) bit turn (j + 1) = (flipN (sealN xs) bit turn j).set q ((flipN (sealN xs) bit turn j).getD q 0 ^^^ turn / 2 ^ j % 2 * 2 ^ r) := by rw [flipN, hk, hq, hr]
      obtain ⟨t, htv⟩ : ∃ t, turn / 2 ^ j % 2 = t := ⟨_, rfl⟩
      obtain ⟨s, hs⟩ : ∃ s, t * 2 ^ r = s := ⟨_, rfl⟩
      have hs2 : s < 256 := by rw [← hs, ← htv]; exact bit_lt _ _ hr8
      generalize (flipN (sealN xs) bit turn j).getD q 0 = v at *
      rw [htv, hs] at hfl
      obtain ⟨u, hu⟩ : ∃ u, v ^^^ s = u := ⟨_, rfl⟩
      have hu2 : u < 256 := by rw [← hu]; exact Nat.xor_lt_two_pow (n := 8) hv hs2
      have bx : bits .xor .u8 (v : Int) (s : Int) = (u : Int) := by rw [← hu]; exact u8_xor_nat v s hv hs2
      have HO : Hid (Own (wr.setCell ⟨g, q, none⟩ (.int .u8 (u : Int))) w.heap.size 5 (some ⟨g, 0, none⟩) (n2 + 4) c1 (flipN (sealN xs) bit turn (j + 1))) := by
        show Own _ _ _ _ _ _ _
        rw [hfl, hu]; exact hown.stored hu2
      have HK := Lib.hid (hkeep.setCell (a := ⟨g, q, none⟩) hg (.int .u8 (u : Int)))
      have y1 : (0 : Int) ≤ (j : Int) := Int.natCast_nonneg _
      have y2 : (j : Int) < 32 := by omega
      have y3 : (0 : Int) ≤ (q : Int) := Int.natCast_nonneg _
      have y4 : (q : Int) < (n2 : Int) + 4 := by omega
      have y5 : (0 : Int) ≤ (r : Int) := Int.natCast_nonneg _
      have y6 : (r : Int) < 8 := by omega
      have HTV := Lib.hid htv
      have HSV := Lib.hid hs
      have w1 : IntKind.i64.wrap (q : Int) = (q : Int) := IntWalk.i64_in _ (by omega)
      have w2 : IntKind.i64.wrap (r : Int) = (r : Int) := IntWalk.i64_in _ (by omega)
      have y7 : ((q : Int)).toNat = q := Int.toNat_natCast q
      have tm : ((k : Int)).tmod 8 = (r : Int) := by rw [Int.tmod_eq_emod_of_nonneg (by omega)]; exact x3
      have t2 : t < 2 := by rw [← htv]; exact Nat.mod_lt _ (by decide)
      have ba : bits .and .u32 ((turn : Int) / 2 ^ j) 1 = (t : Int) := by
        have e : (turn : Int) / 2 ^ j = ((turn / 2 ^ j : Nat) : Int) := by simp
        rw [e, show (1 : Int) = ((1 : Nat) : Int) from rfl, u32_and_nat _ _ (Nat.lt_of_le_of_lt (Nat.div_le_self _ _) ht) (by decide), nat_mask1, htv]
      have bs : IntKind.u8.wrap ((t : Int) * 2 ^ r) = (s : Int) := by
        have e : (t : Int) * 2 ^ r = (s : Int) := by rw [← hs]; simp
        rw [e, IntKind.wrap_u8']; omega
      have bw : IntKind.u8.wrap (t : Int) = (t : Int) := by rw [IntKind.wrap_u8']; omega
      clear hown hkeep hfl hu hk hq hr htv hs
      go_wp2_with fail
      refine wp_region_still_tail (w := wr) 15 (by kernel_rfl) (by kernel_rfl) ?_
      simp only [List.take_succ_cons, List.take_zero, List.drop_succ_cons, List.drop_zero]
      change wpStill _ _ (World.drew wr) _ _ _
      iterate 15 still_step
      refine wpStill_nil ?_
      change wpList _ _ _ _ _ (World.drew wr)
      go_wp2_with fail
      go_roundw
      case rel => exact ⟨j + 1, by omega, by go_num, HO.out.drew, HK.out.drew⟩
      case measure => simp [intOf]; omega
    · obtain rfl : j = 32 := by omega
      have hcap2 := own_cap hown
      have HO := Lib.hid hown
      have HK := Lib.hid hkeep
      clear hown hkeep
      go_wp2_with fail
      refine (copen_any _ (n2 + 4) c1 _ _ _ (HT.out.keep HK.out) HO.out.bytes (Nat.le_refl _) (by omega) hcap2).mono ?_
      by_cases h0 : turn = 0
      · subst h0
        rw [flip_none, HOP.out.1, HOP.out.2]
        rintro e w3 ⟨P3, n3, c3, rfl, o3, k3⟩
        have K3 := Lib.hid (HK.out.trans k3)
        have hq1 := run_str o3.bytes Tryd.underlying22 Tryd.underlying5 Tryd.underlying9 c3
        have hq2 := run_str (HB.out.keep (Nat.le_refl _) K3.out) Tryd.underlying22 Tryd.underlying5 Tryd.underlying9 c
        have hq3 : ((strN xs).toList == (strN xs).toList) = true := strN_eq rfl
        clear o3 k3
        go_wp2_with fail
        refine (wakes_any _ (HT.out.keep K3.out)).mono ?_
        rintro e w4 ⟨rfl, k4⟩
        have K4 := Lib.hid (K3.out.trans k4)
        clear k4
        go_wp2_with fail
        go_ret
        exact ⟨rfl, K4.out⟩
      · have hf : openErr (flipN (sealN xs) bit turn 32) = 20 := finds xs bit turn HA.out ht h0 (by have := HM.out; rw [HL.out]; omega)
        have hv : openVal (flipN (sealN xs) bit turn 32) = [] := by rw [openVal, hf]; rfl
        have b0 : ((turn : Int) == 0) = false := by rw [beq_eq_false_iff_ne]; omega
        rw [hf, hv]
        clear hf hv h0
        rintro e w3 ⟨P3, n3, c3, rfl, o3, k3⟩
        obtain rfl : n3 = 0 := o3.length.symm
        have K3 := Lib.hid (HK.out.trans k3)
        clear o3 k3
        go_wp2_with fail
        refine (wakes_any _ (HT.out.keep K3.out)).mono ?_
        rintro e w4 ⟨rfl, k4⟩
        have K4 := Lib.hid (K3.out.trans k4)
        clear k4
        go_wp2_with fail
        go_ret
        exact ⟨rfl, K4.out⟩
end Go.Proofs.YthhfahljdbcpjaaDoor
