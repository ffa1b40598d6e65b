/- Contracts of the code of layer 4. -/
import Derived.Test.YtgkihfemlbhioaaDoorCref
import Derived.Test.YtgkihfemlbhioaaDoorFcut
import Derived.Test.YtgkihfemlbhioaaDoorLibc
import Derived.Test.YtgkihfemlbhioaaDoorFrameT
import Derived.Test.YtgkihfemlbhioaaDoorLibe
namespace Go.Proofs.YtgkihfemlbhioaaDoor
open Go.RowKit Crc
/-- The table's numbers: four steps of each. -/
def tabI : List Int := [0, 498536548, 997073096, 651767980, 1994146192, 1802195444, 1303535960, 1342533948, 3988292384, 4027552580, 3604390888, 3412177804, 2607071920, 2262029012, 2685067896, 3183342108]
/-- What the package's tables hold. -/
def TabW (w : World) : Prop := Lib.TabIs Tryd.prog w "braidwork/crc.steps" .u32 tabI
theorem TabW.keep {w w' : World} (h : TabW w) (k : Keep w w') : TabW w' := tab_keep h k
theorem tab_at : ∀ i : Nat, i < 16 → tabI.getD i 0 = ((stepsN 4 i : Nat) : Int) := by decide +kernel
theorem gSteps : Tryd.prog.globalNamed "braidwork/crc.steps" = some 0 := by kernel_rfl
theorem TabW.cell {w : World} (h : TabW w) (i : Nat) (hi : i < 16) : w.cell? ⟨0, i, none⟩ = some (.int .u32 ((stepsN 4 i : Nat) : Int)) := by
  rw [← tab_at i hi]; exact Lib.TabIs.cell h gSteps i hi
theorem half (y : Nat) (hy : y < 4294967296) : ∃ d t z : Nat, y % 16 = d ∧ d < 16 ∧ y / 16 = t ∧ stepsN 4 y = z ∧ z < 4294967296 ∧ bits .xor .u32 (t : Int) ((stepsN 4 d : Nat) : Int) = (z : Int) ∧ bits .and .u32 (y : Int) 15 = (d : Int) ∧ (y : Int) / 16 = (t : Int) := by
  have h1 : stepsN 4 (y % 16) < 4294967296 := steps_lt 4 (by omega)
  have h2 := steps_low 4 y
  refine ⟨_, _, _, rfl, Nat.mod_lt _ (by decide), rfl, rfl, steps_lt 4 hy, ?_, ?_, by omega⟩
  · rw [h2]; exact xor32 _ _ (by omega) h1
  · rw [show (15 : Int) = ((15 : Nat) : Int) from rfl, u32_and_nat y 15 hy (by decide), nat_mask4]
set_option maxHeartbeats 1000000 in
theorem down_any (y : Nat) (hy : y < 4294967296) (w : World) (hT : TabW w) :
    Calls Tryd.prog 75 #[.int .u32 y] w fun e w' => e = .returned (.int .u32 (stepsN 4 y : Nat)) ∧ w = w' := by
  obtain ⟨d1, t1, z1, a1, a2, a3, a4, a5, a6, a7, a8⟩ := half y hy
  have c1 := hT.cell d1 a2
  generalize stepsN 4 d1 = s1 at *
  have i1 : (0 : Int) ≤ (d1 : Int) := Int.natCast_nonneg _
  have i2 : (d1 : Int) < 16 := by omega
  have HZ : Hid (stepsN 4 y = z1) := a4
  clear hT a1 a3 a4
  go_enter Tryd.func75, Tryd.ntmps75
  go_wp2_with fail
  go_ret
  exact ⟨by rw [HZ.out]; rfl, rfl⟩
set_option maxHeartbeats 1000000 in
theorem take_any (x c : Nat) (hx : x < 4294967296) (hc : c < 256) (w : World) (hT : TabW w) :
    Calls Tryd.prog 61 #[.int .u32 x, .int .u8 c] w fun e w' => e = .returned (.int .u32 (takeN x c : Nat)) ∧ w = w' := by
  have HT := Lib.hid hT
  have h0 := xor32 x c hx (by omega)
  have hlt : x ^^^ c < 4294967296 := Nat.xor_lt_two_pow (n := 32) hx (by omega)
  obtain ⟨y, hy⟩ : ∃ y, x ^^^ c = y := ⟨_, rfl⟩
  rw [hy] at h0 hlt
  have h5 : stepsN 4 y < 4294967296 := steps_lt 4 hlt
  have HZ : Hid (takeN x c = stepsN 4 (stepsN 4 y)) := by show _ = _; rw [takeN, hy, show (8 : Nat) = 4 + 4 from rfl, steps_add]
  clear hT hy
  go_enter Tryd.func61, Tryd.ntmps61
  go_wp2_with fail
  refine (down_any y hlt _ HT.out).mono ?_
  rintro e w1 ⟨rfl, rfl⟩
  go_wp2_with fail
  refine (down_any _ h5 _ HT.out).mono ?_
  rintro e w1 ⟨rfl, rfl⟩
  go_wp2_with fail
  go_ret
  exact ⟨by rw [HZ.out]; rfl, rfl⟩
set_option maxHeartbeats 1000000 in
theorem csum_any (B n c : Nat) (A : Option Addr) (xs : List Nat) (w : World) (hT : TabW w) (h : Bytes w B A n xs) (hn : n ≤ 150000000000000) :
    Calls Tryd.prog 42 #[.slice A n c] w fun e w' => e = .returned (.int .u32 (sumN xs : Nat)) ∧ w = w' := by
  have HT := Lib.hid hT
  have HB := Lib.hid h
  have HL := Lib.hid h.length
  clear h hT
  go_enter Tryd.func42, Tryd.ntmps42
  go_wp2_with fail
  go_loop [3, 8] (fun t i => ∃ j : Nat, j ≤ n ∧ i = .int .i64 j ∧ t = .int .u32 (regN ones (xs.take j) : Nat)) (fun _ i => n - (intOf i).toNat)
  case atStart => exact ⟨0, by omega, rfl, rfl⟩
  case round =>
    obtain ⟨j, hj, rfl, rfl⟩ := hrel
    have hz : regN ones (xs.take j) < 4294967296 := reg_lt (x := ones) (by decide) (fun c hc => HB.out.all c (List.mem_of_mem_take hc))
    by_cases hlt : j < n
    · obtain ⟨b, off, rfl, hb, hc⟩ := HB.out.at_ hlt
      have hx := HB.out.all.getD j
      have hr : regN ones (xs.take (j + 1)) = takeN (regN ones (xs.take j)) (xs.getD j 0) := by
        have hl : j < xs.length := by rw [HL.out]; exact hlt
        rw [List.take_add_one, List.getElem?_eq_getElem hl, Option.toList_some, reg_append, List.getD_eq_getElem?_getD, List.getElem?_eq_getElem hl]
        rfl
      have HR := Lib.hid hr
      have e1 : (0 : Int) ≤ (j : Int) := Int.natCast_nonneg _
      have e2 : (j : Int) < (n : Int) := by omega
      generalize regN ones (xs.take j) = z at *
      generalize xs.getD j 0 = v at *
      clear hr
      go_wp2_with fail
      refine (take_any z v hz hx _ HT.out).mono ?_
      rintro e w1 ⟨rfl, rfl⟩
      go_wp2_with fail
      go_round
      case rel => exact ⟨j + 1, by omega, by go_num, by rw [HR.out]⟩
      case measure => simp [intOf]; omega
    · obtain rfl : j = n := by omega
      have HS : Hid (sumN xs = regN ones (xs.take j) ^^^ 4294967295) := by show _ = _; rw [List.take_of_length_le (by rw [HL.out]; exact Nat.le_refl _)]; rfl
      generalize regN ones (xs.take j) = z at *
      obtain ⟨v, hv⟩ : ∃ v, z ^^^ 4294967295 = v := ⟨_, rfl⟩
      have e3 : bits .xor .u32 IntKind.u32.max (z : Int) = (v : Int) := by rw [← hv, Nat.xor_comm]; exact xor32 4294967295 z (by decide) hz
      have HV := Lib.hid hv
      clear hv
      go_wp2_with fail
      go_ret
      exact ⟨by rw [HS.out, HV.out]; rfl, rfl⟩
/-- The form of a sum: a new row of four bytes. -/
theorem form_any (v : Nat) (hv : v < 4294967296) (w : World) :
    Calls Tryd.prog 41 #[.int .u32 v] w (NewBytes w (le4 v)) := by
  have hall := le4_all v
  obtain ⟨a1, h1⟩ : ∃ a, v % 256 = a := ⟨_, rfl⟩
  obtain ⟨a2, h2⟩ : ∃ a, v / 256 % 256 = a := ⟨_, rfl⟩
  obtain ⟨a3, h3⟩ : ∃ a, v / 65536 % 256 = a := ⟨_, rfl⟩
  obtain ⟨a4, h4⟩ : ∃ a, v / 16777216 % 256 = a := ⟨_, rfl⟩
  have f1 : (v : Int) % 256 = (a1 : Int) := by omega
  have f2 : (v : Int) / 256 % 256 = (a2 : Int) := by omega
  have f3 : (v : Int) / 65536 % 256 = (a3 : Int) := by omega
  have f4 : (v : Int) / 16777216 = (a4 : Int) := by omega
  have hle : le4 v = [a1, a2, a3, a4] := by rw [le4, h1, h2, h3, h4]
  rw [hle] at hall ⊢
  have HO := Lib.hid (Own.lit w 5 4 [a1, a2, a3, a4] #[.int .u8 (a1 : Int), .int .u8 (a2 : Int), .int .u8 (a3 : Int), .int .u8 (a4 : Int)] rfl rfl (by omega) hall)
  have HK := Lib.hid ((Keep.refl w).alloc #[.int .u8 (a1 : Int), .int .u8 (a2 : Int), .int .u8 (a3 : Int), .int .u8 (a4 : Int)] 5)
  clear h1 h2 h3 h4 hle hall
  go_enter Tryd.func41, Tryd.ntmps41
  go_wp2_with fail
  go_ret
  exact ⟨_, _, _, rfl, HO.out, HK.out⟩
set_option maxRecDepth 100000 in
set_option maxHeartbeats 1000000 in
theorem cseal_any (B n c : Nat) (A : Option Addr) (xs : List Nat) (w : World) (hT : TabW w) (h : Bytes w B A n xs) (hB : B ≤ w.heap.size) (hn : n ≤ 140737488351232) :
    Calls Tryd.prog 18 #[.slice A n c] w (NewBytes w (sealN xs)) := by
  have HB := Lib.hid h
  have HL := Lib.hid h.length
  have hs := sum_lt h.all
  have C := Lib.hid (csum_any B n c A xs w hT h (by omega))
  have hse : sealN xs = xs ++ le4 (sumN xs) := rfl
  have hll : (le4 (sumN xs)).length = 4 := rfl
  generalize sumN xs = v at *
  have HS := Lib.hid hse
  have HLL := Lib.hid hll
  clear h hT hse hll
  go_enter Tryd.func18, Tryd.ntmps18
  go_wp2_with fail
  refine C.out.mono ?_
  rintro e w1 ⟨rfl, rfl⟩
  go_wp2_with fail
  refine (form_any v hs _).mono ?_
  rintro e w2 ⟨A2, n2, c2, rfl, o2, k2⟩
  have l2 : n2 = 4 := by rw [← o2.length, HLL.out]
  subst l2
  have HR := Lib.hid (RowsUp.lit (w := w2) (h := w2.heap.size) rfl 23 2 [⟨A, n, c, xs⟩, ⟨A2, 4, c2, le4 v⟩] #[.slice A n c, .slice A2 4 c2] rfl rfl (fun r hr => by
    simp only [List.mem_cons, List.not_mem_nil, or_false] at hr
    rcases hr with rfl | rfl
    · exact (HB.out.keep hB k2).mono (Nat.le_trans hB k2.size)
    · exact o2.bytes))
  have HK := Lib.hid (k2.alloc #[.slice A n c, .slice A2 4 c2] 23)
  clear o2 k2
  go_wp2_with fail
  refine (concat_any _ 2 _ _ _ _ HR.out (by simp) (by omega) (by simp [sizesN]; omega)).mono ?_
  rintro e w3 ⟨A3, n3, c3, rfl, o3, k3⟩
  have HO := Lib.hid (o3.lower (base' := w.heap.size) HK.out.size)
  have HK2 := Lib.hid (HK.out.trans k3)
  clear o3 k3
  go_wp2_with fail
  go_ret
  rw [HS.out]
  exact ⟨_, _, _, rfl, by simpa [joinN] using HO.out, HK2.out⟩
theorem copen_short (n c : Nat) (A : Option Addr) (hn : n < 4) (w : World) : Calls Tryd.prog 23 #[.slice A n c] w (NewPair w [] 4) := by
  have b1 : (n : Int) < 4 := by omega
  go_enter Tryd.func23, Tryd.ntmps23
  go_wp2_with fail
  go_ret2
  exact NewPair.nil w 4
set_option maxRecDepth 100000 in
set_option maxHeartbeats 1000000 in
theorem copen_in (B n c : Nat) (A : Option Addr) (xs : List Nat) (w : World) (hT : TabW w) (h : Bytes w B A n xs) (hB : B ≤ w.heap.size) (h4 : 4 ≤ n) (hn : n ≤ 140737488351236) (hc : n ≤ c) :
    Calls Tryd.prog 23 #[.slice A n c] w (NewPair w (openVal xs) (openErr xs : Nat)) := by
  have HT := Lib.hid hT
  have HB := Lib.hid h
  obtain ⟨m, hm⟩ : ∃ m, n - 4 = m := ⟨_, rfl⟩
  have b0 : ¬ (n : Int) < 4 := by omega
  have b2 : (n : Int) - 4 = (m : Int) := by omega
  have b3 : (0 : Int) ≤ (m : Int) := Int.natCast_nonneg _
  have b4 : (m : Int) ≤ (n : Int) := by omega
  have b5 : (m : Int) ≤ (c : Int) := by omega
  have HL := Lib.hid h.length
  have HF : Hid (frontN xs = xs.take m) := by show _ = _; rw [frontN, h.length, hm]
  have HC := Lib.hid (fun w => run_cut n c m A (by omega) w)
  obtain ⟨t, ht⟩ : ∃ t, decide (xs.drop m = le4 (sumN (xs.take m))) = t := ⟨_, rfl⟩
  have hiff : (sealN (xs.take m) = xs) ↔ (xs.drop m = le4 (sumN (xs.take m))) := by
    rw [sealN]
    constructor
    · intro e
      have e2 : xs.take m ++ le4 (sumN (xs.take m)) = xs.take m ++ xs.drop m := e.trans (List.take_append_drop m xs).symm
      exact (List.append_cancel_left e2).symm
    · intro e
      rw [← e, List.take_append_drop]
  have HI := Lib.hid hiff
  have HTT := Lib.hid ht
  have hsl : sumN (xs.take m) < 4294967296 := sum_lt (h.all.take m)
  clear h hT ht hiff
  go_enter Tryd.func23, Tryd.ntmps23
  go_wp2_with fail
  have hcut := HC.out
  go_quiet (fail)
  clear hcut
  have k0 : Keep w (w.drewN nq) := (Keep.refl w).drewN nq
  have HW := Lib.hid k0
  have HT0 := Lib.hid (HT.out.keep k0)
  have HB0 := Lib.hid (HB.out.keep hB k0)
  have hB0 : B ≤ (w.drewN nq).heap.size := Nat.le_trans hB k0.size
  generalize w.drewN nq = w0 at *
  clear k0
  go_wp2_with fail
  refine (csum_any B m c A (xs.take m) _ HT0.out (HB0.out.cut (by omega)) (by omega)).mono ?_
  rintro e w1 ⟨rfl, rfl⟩
  go_wp2_with fail
  refine (form_any _ hsl _).mono ?_
  rintro e w1 ⟨A1, n1, c1, rfl, o1, k1⟩
  have O1 := Lib.hid o1
  have K1 := Lib.hid (HW.out.trans k1)
  have HB1 := Lib.hid ((HB0.out.keep hB0 k1).drop (s := m) hc)
  clear o1 k1
  go_wp2_with fail
  refine (sequal_any _ _ (n - m) n1 (c - m) c1 (cutA A c m) A1 _ _ _ HB1.out O1.out.bytes (by omega)).mono ?_
  rw [HTT.out]
  rintro e wx ⟨rfl, q, rfl⟩
  have HK := Lib.hid (K1.out.drewN q)
  cases t with
  | true =>
    have he : sealN (frontN xs) = xs := by rw [HF.out]; exact HI.out.2 (of_decide_eq_true HTT.out)
    have E1 : Hid (openErr xs = 0) := by show _ = _; rw [openErr, if_neg (by rw [HL.out]; omega), if_pos he]
    have E2 : Hid (openVal xs = xs.take m) := by show _ = _; rw [openVal, if_pos E1.out, HF.out]
    clear he
    go_wp2_with fail
    refine (clone_any B m c A (xs.take m) _ ((HB.out.cut (m := m) (by omega)).keep hB HK.out) (Nat.le_trans hB HK.out.size) (by omega)).mono ?_
    rintro e w2 ⟨A2, n2, c2, rfl, o2, k2⟩
    have HO2 := Lib.hid (o2.lower HK.out.size)
    have HK2 := Lib.hid (HK.out.trans k2)
    clear o2 k2
    go_wp2_with fail
    go_ret2
    rw [E1.out, E2.out]
    exact ⟨A2, _, c2, rfl, HO2.out, HK2.out⟩
  | false =>
    have he : ¬ sealN (frontN xs) = xs := by rw [HF.out]; exact fun e => of_decide_eq_false HTT.out (HI.out.1 e)
    have E1 : Hid (openErr xs = 20) := by show _ = _; rw [openErr, if_neg (by rw [HL.out]; omega), if_neg he]
    have E2 : Hid (openVal xs = []) := by show _ = _; rw [openVal, if_neg (by rw [E1.out]; decide)]
    clear he
    go_wp2_with fail
    go_ret2
    rw [E1.out, E2.out]
    exact ⟨none, 0, 0, rfl, Own.none_ _ _ _, HK.out⟩
theorem copen_any (B n c : Nat) (A : Option Addr) (xs : List Nat) (w : World) (hT : TabW w) (h : Bytes w B A n xs) (hB : B ≤ w.heap.size) (hn : n ≤ 140737488351236) (hc : n ≤ c) :
    Calls Tryd.prog 23 #[.slice A n c] w (NewPair w (openVal xs) (openErr xs : Nat)) := by
  by_cases h4 : n < 4
  · have E1 : openErr xs = 4 := by rw [openErr, if_pos (by rw [h.length]; exact h4)]
    have E2 : openVal xs = [] := by rw [openVal, if_neg (by rw [E1]; decide)]
    rw [E1, E2]
    exact copen_short n c A h4 w
  · exact copen_in B n c A xs w hT h hB (by omega) hn hc
end Go.Proofs.YtgkihfemlbhioaaDoor
