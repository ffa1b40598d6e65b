/- Contracts of the code of layer 4. -/
import Derived.Test.YtifopodnceopjaaGreatDoorQaa
import Derived.Test.YtifopodnceopjaaGreatDoorRows
import Derived.ProofKit
import Derived.Laws.IdiomArrays
import Derived.Deep.Slices
import Derived.Deep.Fields
import Derived.SizedLaws
import Derived.Laws.Slices
import Derived.Maps.AppendAt
import GoSem.Claim
import Derived.Laws.BitsAllLaws
namespace Go.Proofs.YtifopodnceopjaaGreatDoor
open Go.RowKit Crc
/-- The table's numbers: four steps of each. -/
def tabI : List Int := [0, 498536548, 997073096, 651767980, 1994146192, 1802195444, 1303535960, 1342533948, 3988292384, 4027552580, 3604390888, 3412177804, 2607071920, 2262029012, 2685067896, 3183342108]
/-- What the package's tables hold. -/
def TabW (w : World) : Prop := Lib.TabIs Tryz.prog w "braidwork/crc.steps" .u32 tabI
theorem TabW.keep {w w' : World} (h : TabW w) (k : Keep w w') : TabW w' := tab_keep h k
theorem tab_at : ∀ i : Nat, i < 16 → tabI.getD i 0 = ((stepsN 4 i : Nat) : Int) := by decide +kernel
theorem gSteps : Tryz.prog.globalNamed "braidwork/crc.steps" = some 0 := by kernel_rfl
theorem TabW.cell {w : World} (h : TabW w) (i : Nat) (hi : i < 16) : w.cell? ⟨0, i, none⟩ = some (.int .u32 ((stepsN 4 i : Nat) : Int)) := by
  rw [← tab_at i hi]; exact Lib.TabIs.cell h gSteps i hi
theorem half (y : Nat) (hy : y < 4294967296) : ∃ d t z : Nat, y % 16 = d ∧ d < 16 ∧ y / 16 = t ∧ stepsN 4 y = z ∧ z < 4294967296 ∧ bits .xor .u32 (t : Int) ((stepsN 4 d : Nat) : Int) = (z : Int) ∧ bits .and .u32 (y : Int) 15 = (d : Int) ∧ (y : Int) / 16 = (t : Int) := by
  have h1 : stepsN 4 (y % 16) < 4294967296 := steps_lt 4 (by omega)
  have h2 := steps_low 4 y
  refine ⟨_, _, _, rfl, Nat.mod_lt _ (by decide), rfl, rfl, steps_lt 4 hy, ?_, ?_, by omega⟩
  · rw [h2]; exact xor32 _ _ (by omega) h1
  · rw [show (15 : Int) = ((15 : Nat) : Int) from rfl, u32_and_nat y 15 hy (by decide), nat_mask4]
set_option maxHeartbeats 1000000 in
theorem down_any (y : Nat) (hy : y < 4294967296) (w : World) (hT : TabW w) :
    Calls Tryz.prog 125 #[.int .u32 y] w fun e w' => e = .returned (.int .u32 (stepsN 4 y : Nat)) ∧ w = w' := by
  obtain ⟨d1, t1, z1, a1, a2, a3, a4, a5, a6, a7, a8⟩ := half y hy
  have c1 := hT.cell d1 a2
  generalize stepsN 4 d1 = s1 at *
  have i1 : (0 : Int) ≤ (d1 : Int) := Int.natCast_nonneg _
  have i2 : (d1 : Int) < 16 := by omega
  have HZ : Hid (stepsN 4 y = z1) := a4
  clear hT a1 a3 a4
  go_enter Tryz.func125, Tryz.ntmps125
  go_wp2_with fail
  go_ret
  exact ⟨by rw [HZ.out]; rfl, rfl⟩
set_option maxHeartbeats 1000000 in
theorem take_any (x c : Nat) (hx : x < 4294967296) (hc : c < 256) (w : World) (hT : TabW w) :
    Calls Tryz.prog 106 #[.int .u32 x, .int .u8 c] w fun e w' => e = .returned (.int .u32 (takeN x c : Nat)) ∧ w = w' := by
  have HT := Lib.hid hT
  have h0 := xor32 x c hx (by omega)
  have hlt : x ^^^ c < 4294967296 := Nat.xor_lt_two_pow (n := 32) hx (by omega)
  obtain ⟨y, hy⟩ : ∃ y, x ^^^ c = y := ⟨_, rfl⟩
  rw [hy] at h0 hlt
  have h5 : stepsN 4 y < 4294967296 := steps_lt 4 hlt
  have HZ : Hid (takeN x c = stepsN 4 (stepsN 4 y)) := by show _ = _; rw [takeN, hy, show (8 : Nat) = 4 + 4 from rfl, steps_add]
  clear hT hy
  go_enter Tryz.func106, Tryz.ntmps106
  go_wp2_with fail
  refine (down_any y hlt _ HT.out).mono ?_
  rintro e w1 ⟨rfl, rfl⟩
  go_wp2_with fail
  refine (down_any _ h5 _ HT.out).mono ?_
  rintro e w1 ⟨rfl, rfl⟩
  go_wp2_with fail
  go_ret
  exact ⟨by rw [HZ.out]; rfl, rfl⟩
set_option maxHeartbeats 1000000 in
theorem csum_any (B n c : Nat) (A : Option Addr) (xs : List Nat) (w : World) (hT : TabW w) (h : Bytes w B A n xs) (hn : n ≤ 150000000000000) :
    Calls Tryz.prog 75 #[.slice A n c] w fun e w' => e = .returned (.int .u32 (sumN xs : Nat)) ∧ w = w' := by
  have HT := Lib.hid hT
  have HB := Lib.hid h
  have HL := Lib.hid h.length
  clear h hT
  go_enter Tryz.func75, Tryz.ntmps75
  go_wp2_with fail
  go_loop [3, 8] (fun t i => ∃ j : Nat, j ≤ n ∧ i = .int .i64 j ∧ t = .int .u32 (regN ones (xs.take j) : Nat)) (fun _ i => n - (intOf i).toNat)
  case atStart => exact ⟨0, by omega, rfl, rfl⟩
  case round =>
    obtain ⟨j, hj, rfl, rfl⟩ := hrel
    have hz : regN ones (xs.take j) < 4294967296 := reg_lt (x := ones) (by decide) (fun c hc => HB.out.all c (List.mem_of_mem_take hc))
    by_cases hlt : j < n
    · obtain ⟨b, off, rfl, hb, hc⟩ := HB.out.at_ hlt
      have hx := HB.out.all.getD j
      have hr : regN ones (xs.take (j + 1)) = takeN (regN ones (xs.take j)) (xs.getD j 0) := by
        have hl : j < xs.length := by rw [HL.out]; exact hlt
        rw [List.take_add_one, List.getElem?_eq_getElem hl, Option.toList_some, reg_append, List.getD_eq_getElem?_getD, List.getElem?_eq_getElem hl]
        rfl
      have HR := Lib.hid hr
      have e1 : (0 : Int) ≤ (j : Int) := Int.natCast_nonneg _
      have e2 : (j : Int) < (n : Int) := by omega
      generalize regN ones (xs.take j) = z at *
      generalize xs.getD j 0 = v at *
      clear hr
      go_wp2_with fail
      refine (take_any z v hz hx _ HT.out).mono ?_
      rintro e w1 ⟨rfl, rfl⟩
      go_wp2_with fail
      go_round
      case rel => exact ⟨j + 1, by omega, by go_num, by rw [HR.out]⟩
      case measure => simp [intOf]; omega
    · obtain rfl : j = n := by omega
      have HS : Hid (sumN xs = regN ones (xs.take j) ^^^ 4294967295) := by show _ = _; rw [List.take_of_length_le (by rw [HL.out]; exact Nat.le_refl _)]; rfl
      generalize regN ones (xs.take j) = z at *
      obtain ⟨v, hv⟩ : ∃ v, z ^^^ 4294967295 = v := ⟨_, rfl⟩
      have e3 : bits .xor .u32 IntKind.u32.max (z : Int) = (v : Int) := by rw [← hv, Nat.xor_comm]; exact xor32 4294967295 z (by decide) hz
      have HV := Lib.hid hv
      clear hv
      go_wp2_with fail
      go_ret
      exact ⟨by rw [HS.out, HV.out]; rfl, rfl⟩
/-- The form of a sum: a new row of four bytes. -/
theorem form_any (v : Nat) (hv : v < 4294967296) (w : World) :
    Calls Tryz.prog 74 #[.int .u32 v] w (NewBytes w (le4 v)) := by
  have hall := le4_all v
  obtain ⟨a1, h1⟩ : ∃ a, v % 256 = a := ⟨_, rfl⟩
  obtain ⟨a2, h2⟩ : ∃ a, v / 256 % 256 = a := ⟨_, rfl⟩
  obtain ⟨a3, h3⟩ : ∃ a, v / 65536 % 256 = a := ⟨_, rfl⟩
  obtain ⟨a4, h4⟩ : ∃ a, v / 16777216 % 256 = a := ⟨_, rfl⟩
  have f1 : (v : Int) % 256 = (a1 : Int) := by omega
  have f2 : (v : Int) / 256 % 256 = (a2 : Int) := by omega
  have f3 : (v : Int) / 65536 % 256 = (a3 : Int) := by omega
  have f4 : (v : Int) / 16777216 = (a4 : Int) := by omega
  have hle : le4 v = [a1, a2, a3, a4] := by rw [le4, h1, h2, h3, h4]
  rw [hle] at hall ⊢
  have HO := Lib.hid (Own.lit w 5 4 [a1, a2, a3, a4] #[.int .u8 (a1 : Int), .int .u8 (a2 : Int), .int .u8 (a3 : Int), .int .u8 (a4 : Int)] rfl rfl (by omega) hall)
  have HK := Lib.hid ((Keep.refl w).alloc #[.int .u8 (a1 : Int), .int .u8 (a2 : Int), .int .u8 (a3 : Int), .int .u8 (a4 : Int)] 5)
  clear h1 h2 h3 h4 hle hall
  go_enter Tryz.func74, Tryz.ntmps74
  go_wp2_with fail
  go_ret
  exact ⟨_, _, _, rfl, HO.out, HK.out⟩
set_option maxRecDepth 100000 in
set_option maxHeartbeats 1000000 in
theorem cseal_any (B n c : Nat) (A : Option Addr) (xs : List Nat) (w : World) (hT : TabW w) (h : Bytes w B A n xs) (hB : B ≤ w.heap.size) (hn : n ≤ 140737488351232) :
    Calls Tryz.prog 31 #[.slice A n c] w (NewBytes w (sealN xs)) := by
  have HB := Lib.hid h
  have HL := Lib.hid h.length
  have hs := sum_lt h.all
  have C := Lib.hid (csum_any B n c A xs w hT h (by omega))
  have hse : sealN xs = xs ++ le4 (sumN xs) := rfl
  have hll : (le4 (sumN xs)).length = 4 := rfl
  generalize sumN xs = v at *
  have HS := Lib.hid hse
  have HLL := Lib.hid hll
  clear h hT hse hll
  go_enter Tryz.func31, Tryz.ntmps31
  go_wp2_with fail
  refine C.out.mono ?_
  rintro e w1 ⟨rfl, rfl⟩
  go_wp2_with fail
  refine (form_any v hs _).mono ?_
  rintro e w2 ⟨A2, n2, c2, rfl, o2, k2⟩
  have l2 : n2 = 4 := by rw [← o2.length, HLL.out]
  subst l2
  have HR := Lib.hid (RowsUp.lit (w := w2) (h := w2.heap.size) rfl 22 2 [⟨A, n, c, xs⟩, ⟨A2, 4, c2, le4 v⟩] #[.slice A n c, .slice A2 4 c2] rfl rfl (fun r hr => by
    simp only [List.mem_cons, List.not_mem_nil, or_false] at hr
    rcases hr with rfl | rfl
    · exact (HB.out.keep hB k2).mono (Nat.le_trans hB k2.size)
    · exact o2.bytes))
  have HK := Lib.hid (k2.alloc #[.slice A n c, .slice A2 4 c2] 22)
  clear o2 k2
  go_wp2_with fail
  refine (concat_any _ 2 _ _ _ _ HR.out (by simp) (by omega) (by simp [sizesN]; omega)).mono ?_
  rintro e w3 ⟨A3, n3, c3, rfl, o3, k3⟩
  have HO := Lib.hid (o3.lower (base' := w.heap.size) HK.out.size)
  have HK2 := Lib.hid (HK.out.trans k3)
  clear o3 k3
  go_wp2_with fail
  go_ret
  rw [HS.out]
  exact ⟨_, _, _, rfl, by simpa [joinN] using HO.out, HK2.out⟩
theorem copen_short (n c : Nat) (A : Option Addr) (hn : n < 4) (w : World) : Calls Tryz.prog 33 #[.slice A n c] w (NewPair w [] 4) := by
  have b1 : (n : Int) < 4 := by omega
  go_enter Tryz.func33, Tryz.ntmps33
  go_wp2_with fail
  go_ret2
  exact NewPair.nil w 4
set_option maxRecDepth 100000 in
set_option maxHeartbeats 1000000 in
theorem copen_in (B n c : Nat) (A : Option Addr) (xs : List Nat) (w : World) (hT : TabW w) (h : Bytes w B A n xs) (hB : B ≤ w.heap.size) (h4 : 4 ≤ n) (hn : n ≤ 140737488351236) (hc : n ≤ c) :
    Calls Tryz.prog 33 #[.slice A n c] w (NewPair w (openVal xs) (openErr xs : Nat)) := by
  have HT := Lib.hid hT
  have HB := Lib.hid h
  obtain ⟨m, hm⟩ : ∃ m, n - 4 = m := ⟨_, rfl⟩
  have b0 : ¬ (n : Int) < 4 := by omega
  have b2 : (n : Int) - 4 = (m : Int) := by omega
  have b3 : (0 : Int) ≤ (m : Int) := Int.natCast_nonneg _
  have b4 : (m : Int) ≤ (n : Int) := by omega
  have b5 : (m : Int) ≤ (c : Int) := by omega
  have HL := Lib.hid h.length
  have HF : Hid (frontN xs = xs.take m) := by show _ = _; rw [frontN, h.length, hm]
  have HC := Lib.hid (fun w => run_cut n c m A (by omega) w)
  obtain ⟨t, ht⟩ : ∃ t, decide (xs.drop m = le4 (sumN (xs.take m))) = t := ⟨_, rfl⟩
  have hiff : (sealN (xs.take m) = xs) ↔ (xs.drop m = le4 (sumN (xs.take m))) := by
    rw [sealN]
    constructor
    · intro e
      have e2 : xs.take m ++ le4 (sumN (xs.take m)) = xs.take m ++ xs.drop m := e.trans (List.take_append_drop m xs).symm
      exact (List.append_cancel_left e2).symm
    · intro e
      rw [← e, List.take_append_drop]
  have HI := Lib.hid hiff
  have HTT := Lib.hid ht
  have hsl : sumN (xs.take m) < 4294967296 := sum_lt (h.all.take m)
  clear h hT ht hiff
  go_enter Tryz.func33, Tryz.ntmps33
  go_wp2_with fail
  have hcut := HC.out
  go_quiet (fail)
  clear hcut
  have k0 : Keep w (w.drewN nq) := (Keep.refl w).drewN nq
  have HW := Lib.hid k0
  have HT0 := Lib.hid (HT.out.keep k0)
  have HB0 := Lib.hid (HB.out.keep hB k0)
  have hB0 : B ≤ (w.drewN nq).heap.size := Nat.le_trans hB k0.size
  generalize w.drewN nq = w0 at *
  clear k0
  go_wp2_with fail
  refine (csum_any B m c A (xs.take m) _ HT0.out (HB0.out.cut (by omega)) (by omega)).mono ?_
  rintro e w1 ⟨rfl, rfl⟩
  go_wp2_with fail
  refine (form_any _ hsl _).mono ?_
  rintro e w1 ⟨A1, n1, c1, rfl, o1, k1⟩
  have O1 := Lib.hid o1
  have K1 := Lib.hid (HW.out.trans k1)
  have HB1 := Lib.hid ((HB0.out.keep hB0 k1).drop (s := m) hc)
  clear o1 k1
  go_wp2_with fail
  refine (sequal_any _ _ (n - m) n1 (c - m) c1 (cutA A c m) A1 _ _ _ HB1.out O1.out.bytes (by omega)).mono ?_
  rw [HTT.out]
  rintro e wx ⟨rfl, q, rfl⟩
  have HK := Lib.hid (K1.out.drewN q)
  cases t with
  | true =>
    have he : sealN (frontN xs) = xs := by rw [HF.out]; exact HI.out.2 (of_decide_eq_true HTT.out)
    have E1 : Hid (openErr xs = 0) := by show _ = _; rw [openErr, if_neg (by rw [HL.out]; omega), if_pos he]
    have E2 : Hid (openVal xs = xs.take m) := by show _ = _; rw [openVal, if_pos E1.out, HF.out]
    clear he
    go_wp2_with fail
    refine (clone_any B m c A (xs.take m) _ ((HB.out.cut (m := m) (by omega)).keep hB HK.out) (Nat.le_trans hB HK.out.size) (by omega)).mono ?_
    rintro e w2 ⟨A2, n2, c2, rfl, o2, k2⟩
    have HO2 := Lib.hid (o2.lower HK.out.size)
    have HK2 := Lib.hid (HK.out.trans k2)
    clear o2 k2
    go_wp2_with fail
    go_ret2
    rw [E1.out, E2.out]
    exact ⟨A2, _, c2, rfl, HO2.out, HK2.out⟩
  | false =>
    have he : ¬ sealN (frontN xs) = xs := by rw [HF.out]; exact fun e => of_decide_eq_false HTT.out (HI.out.1 e)
    have E1 : Hid (openErr xs = 20) := by show _ = _; rw [openErr, if_neg (by rw [HL.out]; omega), if_neg he]
    have E2 : Hid (openVal xs = []) := by show _ = _; rw [openVal, if_neg (by rw [E1.out]; decide)]
    clear he
    go_wp2_with fail
    go_ret2
    rw [E1.out, E2.out]
    exact ⟨none, 0, 0, rfl, Own.none_ _ _ _, HK.out⟩
theorem copen_any (B n c : Nat) (A : Option Addr) (xs : List Nat) (w : World) (hT : TabW w) (h : Bytes w B A n xs) (hB : B ≤ w.heap.size) (hn : n ≤ 140737488351236) (hc : n ≤ c) :
    Calls Tryz.prog 33 #[.slice A n c] w (NewPair w (openVal xs) (openErr xs : Nat)) := by
  by_cases h4 : n < 4
  · have E1 : openErr xs = 4 := by rw [openErr, if_pos (by rw [h.length]; exact h4)]
    have E2 : openVal xs = [] := by rw [openVal, if_neg (by rw [E1]; decide)]
    rw [E1, E2]
    exact copen_short n c A h4 w
  · exact copen_in B n c A xs w hT h hB (by omega) hn hc
end Go.Proofs.YtifopodnceopjaaGreatDoor
/- What the rows list of the package's table, and a world that holds it. -/
namespace Go.Proofs.YtifopodnceopjaaGreatDoor
open Go.ChangeShapes Go.WideShapes Go.ChangeAt Go.RowKit
theorem gTab : Tryz.prog.globalNamed "braidwork/crc.steps" = some 0 := by kernel_rfl
theorem gTabType : (Tryz.prog.globals[0]?).map (·.type) = some 188 := by kernel_rfl
theorem cells48 : Tryz.prog.cellsOf 188 = 16 := by kernel_rfl
theorem cells24 : Tryz.prog.cellsOf 40 = 1 := by kernel_rfl
theorem tabW_laid {W : World} (h : laidMetH Tryz.prog [("braidwork/crc.steps", Rows.laid_braidwork_crc_steps)] W) : TabW W :=
  Lib.tabIs_of_head (rest := []) gTab gTabType Tryz.underlying188 Tryz.underlying40 cells24 cells48 h
/-- A world for the witness: the settled one, the table holding what its initialiser lays. -/
noncomputable def laidWorld (os : Os) : World :=
  { World.holding Tryz.prog os ⟨#[], #[], []⟩ with heap := (World.holding Tryz.prog os ⟨#[], #[], []⟩).heap.modify 0 fun
      | .cells _ t frozen => .cells #[.int .u32 0, .int .u32 498536548, .int .u32 997073096, .int .u32 651767980, .int .u32 1994146192, .int .u32 1802195444, .int .u32 1303535960, .int .u32 1342533948, .int .u32 3988292384, .int .u32 4027552580, .int .u32 3604390888, .int .u32 3412177804, .int .u32 2607071920, .int .u32 2262029012, .int .u32 2685067896, .int .u32 3183342108] t frozen
      | o => o }
end Go.Proofs.YtifopodnceopjaaGreatDoor
/- Arguments that are arrays of bytes, by value: of two, of four. -/
namespace Go.Proofs.YtifopodnceopjaaGreatDoor
open Go.RowKit Go.ChangeShapes Go.WideShapes
set_option linter.unusedVariables false
section
variable {H : Type} {enc : TypeId × Value → H} {P : Program} {W : World} {base : Nat} {sp : Nat → Bool} {held : Bool}
theorem u8_lit (a : Int) (h : (Lit.int .u8 a).wf = true) : ∃ n : Nat, a = n ∧ n < 256 := by
  have h2 : 0 ≤ a ∧ a ≤ 255 := by simpa [Lit.wf, IntKind.min, IntKind.max, IntKind.signed, IntKind.bits] using h
  obtain ⟨n, rfl⟩ := Int.eq_ofNat_of_zero_le h2.1
  exact ⟨n, rfl, by omega⟩
theorem byte_cell {e : TypeId} {fuel : Nat} {c : Value} {y : DataW H × List MemPlace} (he : P.underlying e = some (.int .u8)) (h : DataW.trod enc P W base sp held fuel e [c] = some y) : ∃ n : Nat, c = .int .u8 (n : Int) ∧ n < 256 := by
  obtain ⟨a, ea, _, wa⟩ := DataW.trod_int he h
  obtain ⟨n, rfl, hn⟩ := u8_lit a wa
  simp at ea
  exact ⟨n, ea, hn⟩
theorem trod_array2 {t e : TypeId} {fuel : Nat} {c0 c1 : Value} {x : DataW H × List MemPlace} (ht : P.underlying t = some (.array 2 e)) (hce : P.cellsOf e = 1)
    (h : DataW.trod enc P W base sp held fuel t [c0, c1] = some x) :
    ∃ y0 y1 n, DataW.trod enc P W base sp held n e [c0] = some y0 ∧ DataW.trod enc P W base sp held n e [c1] = some y1 := by
  cases fuel with
  | zero => simp [DataW.trod] at h
  | succ n =>
    unfold DataW.trod at h
    rw [ht] at h
    have r2 : List.range 2 = [0, 1] := rfl
    simp [r2, hce] at h
    obtain ⟨_, h⟩ := h
    cases h0 : DataW.trod enc P W base sp held n e [c0] with
    | none => simp [h0] at h
    | some y0 =>
      cases h1 : DataW.trod enc P W base sp held n e [c1] with
      | none => simp [h0, h1] at h
      | some y1 => exact ⟨y0, y1, n, h0, h1⟩
theorem agg_of {r : Reach} {b0 m : Nat} {t e : TypeId} {v : Value} (ht : P.underlying t = some (.array m e)) (hs : P.cellsOf t = m) (h : Value.okWide P W r b0 t v) : ∃ xs : Array Value, v = .agg xs ∧ xs.toList.length = m := by
  simp only [Value.okWide, ht] at h
  obtain ⟨cs, h1, h2, _⟩ := h
  exact ⟨cs, h1, by rw [Array.length_toList, h2, hs]⟩
theorem arg_arr2 {r : Reach} {b0 : Nat} {t e : TypeId} {v : Value} {d : DataW H} {p : List MemPlace} (ht : P.underlying t = some (.array 2 e)) (he : P.underlying e = some (.int .u8)) (hce : P.cellsOf e = 1) (hs : P.cellsOf t = 2) (hv : Value.okWide P W r b0 t v) (h : DataW.Trod enc P W base sp held t v d p) :
    ∃ a b : Nat, v = .agg #[.int .u8 (a : Int), .int .u8 (b : Int)] ∧ a < 256 ∧ b < 256 := by
  obtain ⟨⟨xs⟩, rfl, hl⟩ := agg_of ht hs hv
  obtain ⟨fuel, hf⟩ := h
  match xs, hl with
  | [c0, c1], _ =>
    obtain ⟨y0, y1, n, h0, h1⟩ := trod_array2 ht hce (by simpa [Value.cells] using hf)
    obtain ⟨a, rfl, ha⟩ := byte_cell he h0
    obtain ⟨b, rfl, hb⟩ := byte_cell he h1
    exact ⟨a, b, rfl, ha, hb⟩
end
end Go.Proofs.YtifopodnceopjaaGreatDoor
/- Arguments opened: slices of structs whose fields are one cell each. -/
namespace Go.Proofs.YtifopodnceopjaaGreatDoor
open Go.RowKit Go.ChangeShapes Go.WideShapes Go.Deep

/-- A slice of n structs of k fields at A, below block B: field j of struct i is l i j. -/
def FieldsAt (w : World) (B : Nat) (A : Option Addr) (n k : Nat) (l : List (List Value)) : Prop :=
  l.length = n ∧ (∀ r ∈ l, r.length = k) ∧ (0 < n → ∃ b off, A = some ⟨b, off, none⟩ ∧ b < B ∧ ∀ (i : Nat) (r : List Value) (j : Nat) (v : Value), l[i]? = some r → r[j]? = some v → w.cell? ⟨b, off + (i * k + j), none⟩ = some v)
theorem FieldsAt.below {w w' : World} {B n k : Nat} {A : Option Addr} {l : List (List Value)} (h : FieldsAt w B A n k l) (kp : Below B w w') : FieldsAt w' B A n k l :=
  ⟨h.1, h.2.1, fun hn => by
    obtain ⟨b, off, e, hb, hc⟩ := h.2.2 hn
    exact ⟨b, off, e, hb, fun i r j v hi hj => (kp.cell (p := ⟨b, off + (i * k + j), none⟩) hb).trans (hc i r j v hi hj)⟩⟩
theorem FieldsAt.keep {w w' : World} {B n k : Nat} {A : Option Addr} {l : List (List Value)} (h : FieldsAt w B A n k l) (hB : B ≤ w.heap.size) (kp : Keep w w') : FieldsAt w' B A n k l := h.below (Below.mono kp hB)
section
variable {H : Type} {enc : TypeId × Value → H} {P : Program} {W : World}
theorem weights_each {ts : List TypeId} : ∀ {ds : List (DataW H)} {j : Nat} {t : TypeId} {d : DataW H}, ts[j]? = some t → ds[j]? = some d → ∀ n ∈ d.weights P t, n ∈ DataW.weightsEach P ts ds := fun h1 h2 => DataW.weights_mem_each h1 h2
end
end Go.Proofs.YtifopodnceopjaaGreatDoor
/- Slices of slices of bytes in new memory: appended to, as rows. -/
namespace Go.Proofs.YtifopodnceopjaaGreatDoor
open Go.RowKit

/-- New memory: a slice of slices in a block from base on. -/
def OwnRows (w : World) (base : Nat) (e : TypeId) (A : Option Addr) (n c : Nat) (rs : List RowV) : Prop :=
  w.ownsRow base e 1 (.slice A n c) n (rs.map RowV.val)
namespace OwnRows
variable {w w' : World} {base n c : Nat} {e : TypeId} {A : Option Addr} {rs : List RowV}
theorem length (h : OwnRows w base e A n c rs) : rs.length = n := by have := h.1; simpa using this
theorem none_ (w : World) (base : Nat) (e : TypeId) : OwnRows w base e none 0 0 [] := World.ownsRow_nil w base e 1
theorem keep (h : OwnRows w base e A n c rs) (k : Keep w w') : OwnRows w' base e A n c rs :=
  h.kept (row := none) ⟨k.os, k.tape, k.output, k.size, fun i hi _ => k.block i hi⟩ (by
    cases hb : (Value.slice A n c).ownBlock with
    | none => exact Or.inl rfl
    | some g => exact Or.inr (by simp))
theorem alloc (h : OwnRows w base e A n c rs) (o : Obj) : OwnRows (w.alloc o) base e A n c rs := World.ownsRow.alloc h o
theorem drew (h : OwnRows w base e A n c rs) : OwnRows w.drew base e A n c rs := h
theorem rowLe (h : OwnRows w base e A n c rs) : ∀ k, (Value.slice A n c).ownBlock = some k → base ≤ k := fun k hk => (h.lt k hk).1
/-- Where it lies. -/
theorem block (h : OwnRows w base e A n c rs) (hn : 0 < n) : ∃ g, A = some ⟨g, 0, none⟩ ∧ base ≤ g ∧ g < w.heap.size := by
  rcases h.2 with ⟨hv, h0⟩ | ⟨g, cap, cur, hv, hg, hh, _⟩
  · omega
  · injection hv with h1 h2 h3
    exact ⟨g, h1, hg, (Array.getElem?_eq_some_iff.1 hh).1⟩
theorem rows (h : OwnRows w base e A n c rs) (hr : ∀ r ∈ rs, Bytes w w.heap.size r.A r.n r.xs ∧ r.n ≤ 140737488351232 ∧ r.n ≤ r.c) : RowsAt w w.heap.size A n rs := by
  refine ⟨h.length, hr, fun hn => ?_⟩
  obtain ⟨g, rfl, _, hlt⟩ := h.block hn
  refine ⟨g, 0, rfl, hlt, fun i r hi => ?_⟩
  have hc := World.ownsRow.cells h (g := g) rfl i r.val (by rw [List.getElem?_map, hi]; rfl)
  have ha : (⟨g, 0, none⟩ : Addr).add i = ⟨g, 0 + i, none⟩ := by unfold Addr.add; split <;> simp_all
  rwa [ha] at hc
end OwnRows
/-- Blocks of different elements are different blocks. -/
theorem blocks_apart {w : World} {base base' n n' c c' : Nat} {e e' : TypeId} {A A' : Option Addr} {xs : List Nat} {rs : List RowV} (h : Own w base e A n c xs) (h' : OwnRows w base' e' A' n' c' rs) (he : e ≠ e') :
    (Value.slice A n c).ownBlock = none ∨ (Value.slice A n c).ownBlock ≠ (Value.slice A' n' c').ownBlock := by
  rcases h.1.2 with ⟨hv, _⟩ | ⟨g, cap, cur, hv, _, hh, _⟩
  · rw [hv]; exact Or.inl rfl
  · rcases h'.2 with ⟨hv', _⟩ | ⟨g', cap', cur', hv', _, hh', _⟩
    · rw [hv, hv']; exact Or.inr (by simp [Value.ownBlock])
    · rw [hv, hv']
      refine Or.inr fun e1 => ?_
      have : g = g' := by simpa [Value.ownBlock] using e1
      subst this
      rw [hh] at hh'
      simp at hh'
      exact he hh'.2
theorem Own.grown {w w' : World} {base n c : Nat} {e : TypeId} {A : Option Addr} {xs : List Nat} {row : Option Nat} (h : Own w base e A n c xs) (hg : w.grownBy w' row) (hn : (Value.slice A n c).ownBlock = none ∨ (Value.slice A n c).ownBlock ≠ row) : Own w' base e A n c xs :=
  ⟨h.1.kept hg hn, h.2⟩
section
variable {P : Program}
/-- append(rows, row). -/
theorem run_append_row {w : World} {base n c cx t e : Nat} {A : Option Addr} {rs : List RowV} {ad : Addr} (r : RowV) (ht : P.underlying t = some (.slice e))
    (hi : (P.info? e).map (fun i => (i.zero, i.size, i.bytes)) = some (some (.slice none 0 0), 1, 24)) (hown : OwnRows w base e A n c rs) (hx : w.cell? ad = some r.val) (hlen : n ≤ 1000000) (hbase : base ≤ w.heap.size) (ty : TypeId) :
    ∃ A2 c2 w', (Builtin.append_ #[t, t] ty #[.slice A n c, .slice (some ad) 1 cx]).run P w = .ok (.slice A2 (n + 1) c2) w' ∧ OwnRows w' base e A2 (n + 1) c2 (rs ++ [r]) ∧ w.grownBy w' (Value.slice A n c).ownBlock ∧ ((Value.slice A2 (n + 1) c2).ownBlock = (Value.slice A n c).ownBlock ∨ (Value.slice A2 (n + 1) c2).ownBlock = some w.heap.size) := by
  obtain ⟨i0, hi0, hz0, hz1, hz2⟩ := info_parts hi
  obtain ⟨v', w', hrun, h2, h3, _, h5⟩ := run_append_own_at (P := P) w base t ty e i0 (.slice none 0 0) 1 24 ht hi0 hz0 hz1 hz2 rfl (by decide) _ n (rs.map RowV.val) hown ad 1 cx [r.val] rfl
    (fun j u hu => by
      match j, hu with
      | 0, hu =>
        simp at hu
        subst hu
        have ha : ad.add 0 = ad := by unfold Addr.add; split <;> simp_all
        rw [ha]; exact hx)
    (fun u hu => by simp at hu; subst hu; rfl) (by unfold maxLen; omega) (by omega) hbase
  obtain ⟨A2, c2, rfl⟩ := own_shape h2
  exact ⟨A2, c2, w', hrun, by simpa [OwnRows] using h2, h3, h5⟩
theorem wp_append_row {w : World} {o : Oper} {a : Act} {K : Act → World → Prop} {Q : Exit → Act → World → Prop} (s x : Operand) (t : TypeId)
    (ho : o.op = .call { callee := .builtin .append, args := #[s, x], argTypes := #[t, t] }) {base n c cx e : Nat} {A : Option Addr} {rs : List RowV} {ad : Addr} (r : RowV) (ht : P.underlying t = some (.slice e))
    (hi : (P.info? e).map (fun i => (i.zero, i.size, i.bytes)) = some (some (.slice none 0 0), 1, 24)) (hs : a.eval s = .slice A n c) (hown : OwnRows w base e A n c rs) (hx0 : a.eval x = .slice (some ad) 1 cx) (hx : w.cell? ad = some r.val) (hlen : n ≤ 1000000) (hbase : base ≤ w.heap.size)
    (h : ∀ A2 c2 w', OwnRows w' base e A2 (n + 1) c2 (rs ++ [r]) → w.grownBy w' (Value.slice A n c).ownBlock → ((Value.slice A2 (n + 1) c2).ownBlock = (Value.slice A n c).ownBlock ∨ (Value.slice A2 (n + 1) c2).ownBlock = some w.heap.size) → K (a.put o.dst (.slice A2 (n + 1) c2)) w') : o.wp P a w K Q := by
  obtain ⟨A2, c2, w', hr, h2, h3, h4⟩ := run_append_row (P := P) (cx := cx) r ht hi hown hx hlen hbase o.type
  unfold Oper.wp execOp
  simp only [ho, resolve, invoke, builtin, Sem.run_bind, Sem.run_pure, Result.andThen_ok, List.map_toArray, List.map_cons, List.map_nil, hs, hx0, hr]
  exact h A2 c2 w' h2 h3 h4
theorem wpList_append_row {w : World} {ops : Array Oper} {rest : List Oper} {o : Oper} {a : Act} {Q : Exit → Act → World → Prop} (hgd : o.guard = none) (s x : Operand) (t : TypeId)
    (ho : o.op = .call { callee := .builtin .append, args := #[s, x], argTypes := #[t, t] }) {base n c cx e : Nat} {A : Option Addr} {rs : List RowV} {ad : Addr} (r : RowV) (ht : P.underlying t = some (.slice e))
    (hi : (P.info? e).map (fun i => (i.zero, i.size, i.bytes)) = some (some (.slice none 0 0), 1, 24)) (hs : a.eval s = .slice A n c) (hown : OwnRows w base e A n c rs) (hx0 : a.eval x = .slice (some ad) 1 cx) (hx : w.cell? ad = some r.val) (hlen : n ≤ 1000000) (hbase : base ≤ w.heap.size)
    (h : ∀ A2 c2 w', OwnRows w' base e A2 (n + 1) c2 (rs ++ [r]) → w.grownBy w' (Value.slice A n c).ownBlock → ((Value.slice A2 (n + 1) c2).ownBlock = (Value.slice A n c).ownBlock ∨ (Value.slice A2 (n + 1) c2).ownBlock = some w.heap.size) → wpList P ops Q rest (a.put o.dst (.slice A2 (n + 1) c2)) w') : wpList P ops Q (o :: rest) a w :=
  wpList_plain hgd fun _ hK => wp_append_row s x t ho r ht hi hs hown hx0 hx hlen hbase fun A2 c2 w' h2 h3 h4 => hK _ _ (h A2 c2 w' h2 h3 h4)
end
end Go.Proofs.YtifopodnceopjaaGreatDoor
/- Objects with footprints: what turns within a set of blocks; rows that lie in a set of blocks. -/
namespace Go.Proofs.YtifopodnceopjaaGreatDoor
open Go.RowKit
/-- Nothing outside of F has turned; new blocks may lie behind. -/
structure Turned (F : Nat → Prop) (w w' : World) : Prop where
  os : w'.os = w.os
  tape : w'.tape = w.tape
  output : w'.output = w.output
  size : w.heap.size ≤ w'.heap.size
  block : ∀ k, k < w.heap.size → ¬ F k → w'.heap[k]? = w.heap[k]?
namespace Turned
variable {F F' : Nat → Prop} {W w w' a b c : World}
theorem refl (F : Nat → Prop) (w : World) : Turned F w w := ⟨rfl, rfl, rfl, Nat.le_refl _, fun _ _ _ => rfl⟩
theorem of_keep (k : Keep w w') : Turned F w w' := ⟨k.os, k.tape, k.output, k.size, fun i hi _ => k.block i hi⟩
theorem of_grown {row : Option Nat} (k : w.grownBy w' row) (h : ∀ i, row = some i → F i) : Turned F w w' :=
  ⟨k.os, k.tape, k.output, k.size, fun i hi hn => k.block i hi fun e => hn (h i e.symm)⟩
theorem trans (h : Turned F a b) (k : Turned F' b c) (hF : ∀ i, F' i → F i ∨ a.heap.size ≤ i) : Turned F a c :=
  ⟨k.os.trans h.os, k.tape.trans h.tape, k.output.trans h.output, Nat.le_trans h.size k.size, fun i hi hn => (k.block i (Nat.lt_of_lt_of_le hi h.size) fun e => by
    rcases hF i e with e | e
    · exact hn e
    · omega).trans (h.block i hi hn)⟩
theorem mono (h : Turned F w w') (hF : ∀ i, i < w.heap.size → F i → F' i) : Turned F' w w' := ⟨h.os, h.tape, h.output, h.size, fun i hi hn => h.block i hi fun e => hn (hF i hi e)⟩
theorem keep (k : Turned F w w') (h : Keep W w) (hF : ∀ i, F i → W.heap.size ≤ i) : Keep W w' :=
  Below.trans h ⟨k.os, k.tape, k.output, k.size, fun i hi => k.block i (Nat.lt_of_lt_of_le hi h.size) fun e => by have := hF i e; omega⟩
theorem keep_new (k : Turned F w w') (hF : ∀ i, F i → w.heap.size ≤ i) : Keep w w' := k.keep (Keep.refl w) hF
theorem cell (k : Turned F w w') {p : Addr} {v : Value} (h : w.cell? p = some v) (hn : ¬ F p.block) : w'.cell? p = some v :=
  (World.cell?_of_block (k.block p.block (World.block_lt_of_cell? w p h) hn)).trans h
theorem then_keep (k : Turned F w w') (h : Keep w' W) : Turned F w W := k.trans (of_keep (F := fun _ => False) h) (fun _ e => e.elim)
theorem set (w : World) (p : Addr) (v : Value) (h : F p.block) : Turned F w (w.setCell p v) :=
  ⟨rfl, rfl, rfl, by simp [World.setCell], fun i _ hi => Below.heap_setCell w p v i (fun e => hi (by rw [e]; exact h))⟩
/-- Of a block's row. -/
theorem owns {base n size : Nat} {e : TypeId} {v : Value} {xs : List Value} (h : w.ownsRow base e size v n xs) (k : Turned F w w') (hn : ∀ b, v.ownBlock = some b → ¬ F b) : w'.ownsRow base e size v n xs := by
  refine ⟨h.1, ?_⟩
  rcases h.2 with hv | ⟨g, cap, cur, hv, hb, hg, rest⟩
  · exact Or.inl hv
  · exact Or.inr ⟨g, cap, cur, hv, hb, (k.block g (Array.getElem?_eq_some_iff.1 hg).1 (hn g (by rw [hv]; rfl))).trans hg, rest⟩
end Turned
theorem Own.turned {F : Nat → Prop} {w w' : World} {base n c : Nat} {e : TypeId} {A : Option Addr} {xs : List Nat} (h : Own w base e A n c xs) (k : Turned F w w') (hn : ∀ b, (Value.slice A n c).ownBlock = some b → ¬ F b) : Own w' base e A n c xs :=
  ⟨k.owns h.1 hn, h.2⟩
theorem OwnRows.turned {F : Nat → Prop} {w w' : World} {base n c : Nat} {e : TypeId} {A : Option Addr} {rs : List RowV} (h : OwnRows w base e A n c rs) (k : Turned F w w') (hn : ∀ b, (Value.slice A n c).ownBlock = some b → ¬ F b) : OwnRows w' base e A n c rs :=
  k.owns h hn
/-- A row of bytes in blocks of F. -/
def LiesIn (w : World) (F : Nat → Prop) (r : RowV) : Prop :=
  r.xs.length = r.n ∧ AllB r.xs ∧ r.n ≤ r.c ∧ (0 < r.n → ∃ b off, r.A = some ⟨b, off, none⟩ ∧ F b ∧ ∀ i, i < r.n → w.cell? ⟨b, off + i, none⟩ = some (.int .u8 ((r.xs.getD i 0 : Nat) : Int)))
namespace LiesIn
variable {F F' G : Nat → Prop} {w w' : World} {r : RowV}
theorem bytes {B : Nat} (h : LiesIn w F r) (hB : ∀ b, F b → b < B) : Bytes w B r.A r.n r.xs := ⟨h.1, h.2.1, fun hp => by
  obtain ⟨b, off, e, hb, hc⟩ := h.2.2.2 hp
  exact ⟨b, off, e, hB b hb, hc⟩⟩
theorem turned (h : LiesIn w F r) (k : Turned G w w') (hd : ∀ b, F b → ¬ G b) : LiesIn w' F r := ⟨h.1, h.2.1, h.2.2.1, fun hp => by
  obtain ⟨b, off, e, hb, hc⟩ := h.2.2.2 hp
  exact ⟨b, off, e, hb, fun i hi => k.cell (hc i hi) (hd b hb)⟩⟩
theorem mono (h : LiesIn w F r) (hF : ∀ b, F b → F' b) : LiesIn w F' r := ⟨h.1, h.2.1, h.2.2.1, fun hp => by
  obtain ⟨b, off, e, hb, hc⟩ := h.2.2.2 hp
  exact ⟨b, off, e, hF b hb, hc⟩⟩
theorem nothing (w : World) (F : Nat → Prop) : LiesIn w F ⟨none, 0, 0, []⟩ := ⟨rfl, fun _ h => by simp at h, Nat.le_refl _, fun h => absurd h (by simp)⟩
end LiesIn
theorem own_le' {w : World} {base n c : Nat} {e : TypeId} {A : Option Addr} {xs : List Nat} (h : Own w base e A n c xs) : n ≤ c := by
  rcases h.1.2 with ⟨hv, h0⟩ | ⟨g, cap, cur, hv, _, _, hle, _⟩
  · omega
  · injection hv with _ _ h3; omega
theorem Own.lies {w : World} {base n c : Nat} {e : TypeId} {A : Option Addr} {xs : List Nat} (h : Own w base e A n c xs) : LiesIn w (fun b => (Value.slice A n c).ownBlock = some b) ⟨A, n, c, xs⟩ :=
  ⟨h.length, h.2, own_le' h, fun hp => by
    obtain ⟨g, rfl, _, _⟩ := h.block hp
    refine ⟨g, 0, rfl, rfl, fun i hi => ?_⟩
    rw [Nat.zero_add]; exact h.cell hi⟩
/-- What a list of rows holds. -/
def rowsXs (rs : List RowV) : List (List Nat) := rs.map (·.xs)
/-- A slice of rows in blocks of F, its own block among them. -/
def RowsIn (w : World) (F : Nat → Prop) (A : Option Addr) (n : Nat) (rs : List RowV) : Prop :=
  rs.length = n ∧ (∀ r ∈ rs, LiesIn w F r) ∧ (0 < n → ∃ b off, A = some ⟨b, off, none⟩ ∧ F b ∧ ∀ i r, rs[i]? = some r → w.cell? ⟨b, off + i, none⟩ = some r.val)
namespace RowsIn
variable {F F' G : Nat → Prop} {w w' : World} {A : Option Addr} {n : Nat} {rs : List RowV}
theorem turned (h : RowsIn w F A n rs) (k : Turned G w w') (hd : ∀ b, F b → ¬ G b) : RowsIn w' F A n rs := ⟨h.1, fun r hr => (h.2.1 r hr).turned k hd, fun hp => by
  obtain ⟨b, off, e, hb, hc⟩ := h.2.2 hp
  exact ⟨b, off, e, hb, fun i r hi => k.cell (hc i r hi) (hd b hb)⟩⟩
theorem mono (h : RowsIn w F A n rs) (hF : ∀ b, F b → F' b) : RowsIn w F' A n rs := ⟨h.1, fun r hr => (h.2.1 r hr).mono hF, fun hp => by
  obtain ⟨b, off, e, hb, hc⟩ := h.2.2 hp
  exact ⟨b, off, e, hF b hb, hc⟩⟩
theorem nothing (w : World) (F : Nat → Prop) (A : Option Addr) : RowsIn w F A 0 [] := ⟨rfl, fun _ h => by simp at h, fun h => absurd h (by omega)⟩
theorem of_own {base c : Nat} {e : TypeId} (h : OwnRows w base e A n c rs) (hr : ∀ r ∈ rs, LiesIn w F r) (hF : ∀ b, (Value.slice A n c).ownBlock = some b → F b) : RowsIn w F A n rs := by
  refine ⟨h.length, hr, fun hn => ?_⟩
  obtain ⟨g, rfl, _, hlt⟩ := h.block hn
  refine ⟨g, 0, rfl, hF g rfl, fun i r hi => ?_⟩
  have hc := World.ownsRow.cells h (g := g) rfl i r.val (by rw [List.getElem?_map, hi]; rfl)
  have ha : (⟨g, 0, none⟩ : Addr).add i = ⟨g, 0 + i, none⟩ := by unfold Addr.add; split <;> simp_all
  rwa [ha] at hc
theorem at_ (h : RowsIn w F A n rs) {k : Nat} (hk : k < n) : ∃ b off r, A = some ⟨b, off, none⟩ ∧ F b ∧ rs[k]? = some r ∧ w.cell? ⟨b, off + k, none⟩ = some (.slice r.A r.n r.c) ∧ LiesIn w F r := by
  obtain ⟨b, off, e, hb, hc⟩ := h.2.2 (by omega)
  have hl : k < rs.length := by rw [h.1]; exact hk
  exact ⟨b, off, rs[k], e, hb, List.getElem?_eq_getElem hl, hc k _ (List.getElem?_eq_getElem hl), h.2.1 _ (List.getElem_mem hl)⟩
end RowsIn
/-- The address of a slice cut at its head. -/
def dropA (A : Option Addr) (c s : Nat) : Option Addr := if c = s then A else A.map (·.add s)
theorem dropA_some (b off c s : Nat) (h : s < c) : dropA (some ⟨b, off, none⟩) c s = some ⟨b, off + s, none⟩ := by
  rw [dropA, if_neg (by omega)]
  simp only [Option.map_some, Addr.add]
  split <;> simp_all
theorem RowsIn.drop {F : Nat → Prop} {w : World} {A : Option Addr} {n c s : Nat} {rs : List RowV} (h : RowsIn w F A n rs) (hc : n ≤ c) : RowsIn w F (dropA A c s) (n - s) (rs.drop s) := by
  refine ⟨by rw [List.length_drop, h.1], fun r hr => h.2.1 r (List.mem_of_mem_drop hr), fun hp => ?_⟩
  obtain ⟨b, off, rfl, hb, hcell⟩ := h.2.2 (by omega)
  refine ⟨b, off + s, dropA_some b off c s (by omega), hb, fun i r hi => ?_⟩
  rw [List.getElem?_drop] at hi
  rw [Nat.add_assoc]; exact hcell (s + i) r hi
end Go.Proofs.YtifopodnceopjaaGreatDoor
/- Rows appended: many rows behind rows of one's own. -/
namespace Go.Proofs.YtifopodnceopjaaGreatDoor
open Go.RowKit
section
variable {P : Program}
end
end Go.Proofs.YtifopodnceopjaaGreatDoor
/- Slices of rows (coefficients and payload): read, and laid in new memory. -/
namespace Go.Proofs.YtifopodnceopjaaGreatDoor
open Go.RowKit
/-- A row: coefficients, payload. -/
structure PairV where
  a : RowV
  b : RowV
def PairV.vals (p : PairV) : List Value := [p.a.val, p.b.val]
/-- Both, side by side. -/
def PairV.xs (p : PairV) : List Nat := p.a.xs ++ p.b.xs
/-- Such a row as a value. -/
def PairV.agg (p : PairV) : Value := .agg #[.slice p.a.A p.a.n p.a.c, .slice p.b.A p.b.n p.b.c]
/-- A slice of rows in blocks of F, its own block among them. -/
def StIn (w : World) (F : Nat → Prop) (A : Option Addr) (n : Nat) (ps : List PairV) : Prop :=
  ps.length = n ∧ (∀ p ∈ ps, LiesIn w F p.a ∧ LiesIn w F p.b) ∧ (0 < n → ∃ b off, A = some ⟨b, off, none⟩ ∧ F b ∧ ∀ i p, ps[i]? = some p → w.cell? ⟨b, off + i * 2, none⟩ = some p.a.val ∧ w.cell? ⟨b, off + i * 2 + 1, none⟩ = some p.b.val)
namespace StIn
variable {F F' G : Nat → Prop} {w w' : World} {A : Option Addr} {n : Nat} {ps : List PairV}
theorem turned (h : StIn w F A n ps) (k : Turned G w w') (hd : ∀ b, F b → ¬ G b) : StIn w' F A n ps := ⟨h.1, fun p hp => ⟨(h.2.1 p hp).1.turned k hd, (h.2.1 p hp).2.turned k hd⟩, fun hp => by
  obtain ⟨b, off, e, hb, hc⟩ := h.2.2 hp
  exact ⟨b, off, e, hb, fun i p hi => ⟨k.cell (hc i p hi).1 (hd b hb), k.cell (hc i p hi).2 (hd b hb)⟩⟩⟩
theorem keep (h : StIn w F A n ps) (k : Keep w w') : StIn w' F A n ps := h.turned (Turned.of_keep (F := fun _ => False) k) fun _ _ e => e
theorem mono (h : StIn w F A n ps) (hF : ∀ b, F b → F' b) : StIn w F' A n ps := ⟨h.1, fun p hp => ⟨(h.2.1 p hp).1.mono hF, (h.2.1 p hp).2.mono hF⟩, fun hp => by
  obtain ⟨b, off, e, hb, hc⟩ := h.2.2 hp
  exact ⟨b, off, e, hF b hb, hc⟩⟩
theorem nothing (w : World) (F : Nat → Prop) (A : Option Addr) : StIn w F A 0 [] := ⟨rfl, fun _ h => by simp at h, fun h => absurd h (by omega)⟩
theorem at_ (h : StIn w F A n ps) {k : Nat} (hk : k < n) : ∃ b off p, A = some ⟨b, off, none⟩ ∧ F b ∧ ps[k]? = some p ∧ w.cell? ⟨b, off + k * 2, none⟩ = some (.slice p.a.A p.a.n p.a.c) ∧ w.cell? ⟨b, off + k * 2 + 1, none⟩ = some (.slice p.b.A p.b.n p.b.c) ∧ LiesIn w F p.a ∧ LiesIn w F p.b := by
  obtain ⟨b, off, e, hb, hc⟩ := h.2.2 (by omega)
  have hl : k < ps.length := by rw [h.1]; exact hk
  have hp := List.getElem?_eq_getElem hl
  have hm := h.2.1 _ (List.getElem_mem hl)
  exact ⟨b, off, ps[k], e, hb, hp, (hc k _ hp).1, (hc k _ hp).2, hm.1, hm.2⟩
end StIn
/-- New memory: rows in a block from base on. -/
def OwnSt (w : World) (base : Nat) (A : Option Addr) (n c : Nat) (ps : List PairV) : Prop :=
  w.ownsRow base 38 2 (.slice A n c) n (ps.flatMap PairV.vals)
theorem vals_len (ps : List PairV) : (ps.flatMap PairV.vals).length = ps.length * 2 := by
  induction ps with
  | nil => rfl
  | cons p ps ih => rw [List.flatMap_cons, List.length_append, ih, List.length_cons]; simp [PairV.vals]; omega
theorem vals_at : ∀ (ps : List PairV) (i : Nat) (p : PairV), ps[i]? = some p → (ps.flatMap PairV.vals)[i * 2]? = some p.a.val ∧ (ps.flatMap PairV.vals)[i * 2 + 1]? = some p.b.val
  | [], i, p, h => by simp at h
  | q :: ps, 0, p, h => by
    simp at h
    subst h
    exact ⟨rfl, rfl⟩
  | q :: ps, i + 1, p, h => by
    have ih := vals_at ps i p (by simpa using h)
    have e : ((q :: ps).flatMap PairV.vals) = q.a.val :: q.b.val :: ps.flatMap PairV.vals := rfl
    rw [e, show (i + 1) * 2 = i * 2 + 1 + 1 by omega]
    simpa using ih
namespace OwnSt
variable {w w' : World} {base n c : Nat} {A : Option Addr} {ps : List PairV}
theorem length (h : OwnSt w base A n c ps) : ps.length = n := by have := h.1; rw [vals_len] at this; omega
theorem none_ (w : World) (base : Nat) : OwnSt w base none 0 0 [] := World.ownsRow_nil w base _ 2
theorem keep (h : OwnSt w base A n c ps) (k : Keep w w') : OwnSt w' base A n c ps :=
  h.kept (row := none) ⟨k.os, k.tape, k.output, k.size, fun i hi _ => k.block i hi⟩ (by
    cases hb : (Value.slice A n c).ownBlock with
    | none => exact Or.inl rfl
    | some g => exact Or.inr (by simp))
theorem turned {F : Nat → Prop} (h : OwnSt w base A n c ps) (k : Turned F w w') (hn : ∀ b, (Value.slice A n c).ownBlock = some b → ¬ F b) : OwnSt w' base A n c ps := k.owns h hn
theorem lower {base' : Nat} (h : OwnSt w base A n c ps) (hb : base' ≤ base) : OwnSt w base' A n c ps := by
  refine ⟨h.1, ?_⟩
  rcases h.2 with h1 | ⟨g, cap, cur, hv, hg, r⟩
  · exact Or.inl h1
  · exact Or.inr ⟨g, cap, cur, hv, Nat.le_trans hb hg, r⟩
theorem block (h : OwnSt w base A n c ps) (hn : 0 < n) : ∃ g, A = some ⟨g, 0, none⟩ ∧ base ≤ g ∧ g < w.heap.size := by
  rcases h.2 with ⟨hv, h0⟩ | ⟨g, cap, cur, hv, hg, hh, _⟩
  · omega
  · injection hv with h1 h2 h3
    exact ⟨g, h1, hg, (Array.getElem?_eq_some_iff.1 hh).1⟩
theorem le (h : OwnSt w base A n c ps) : n ≤ c := by
  rcases h.2 with ⟨hv, h0⟩ | ⟨g, cap, cur, hv, _, _, hle, _⟩
  · omega
  · injection hv with _ _ h3; omega
theorem stIn {F : Nat → Prop} (h : OwnSt w base A n c ps) (hp : ∀ p ∈ ps, LiesIn w F p.a ∧ LiesIn w F p.b) (hF : ∀ b, (Value.slice A n c).ownBlock = some b → F b) : StIn w F A n ps := by
  refine ⟨h.length, hp, fun hn => ?_⟩
  obtain ⟨g, rfl, _, hlt⟩ := h.block hn
  refine ⟨g, 0, rfl, hF g rfl, fun i p hi => ?_⟩
  obtain ⟨v1, v2⟩ := vals_at ps i p hi
  have c1 := World.ownsRow.cells h (g := g) rfl _ _ v1
  have c2 := World.ownsRow.cells h (g := g) rfl _ _ v2
  have ha : ∀ j, (⟨g, 0, none⟩ : Addr).add j = ⟨g, 0 + j, none⟩ := fun j => by unfold Addr.add; split <;> simp_all
  rw [ha] at c1 c2
  exact ⟨c1, c2⟩
end OwnSt
theorem infoSt : (Tryz.prog.info? 38).map (fun i => (i.zero, i.size, i.bytes)) = some (some (.agg #[.slice none 0 0, .slice none 0 0]), 2, 48) := by kernel_rfl
theorem run_append_st {w : World} {base n c cx t : Nat} {A : Option Addr} {ps : List PairV} {ad : Addr} (p : PairV) (ht : Tryz.prog.underlying t = some (.slice 38)) (hown : OwnSt w base A n c ps) (h0 : w.cell? (ad.add 0) = some p.a.val) (h1 : w.cell? (ad.add 1) = some p.b.val) (hlen : n ≤ 1000000) (hbase : base ≤ w.heap.size) (ty : TypeId) :
    ∃ A2 c2 w', (Builtin.append_ #[t, t] ty #[.slice A n c, .slice (some ad) 1 cx]).run Tryz.prog w = .ok (.slice A2 (n + 1) c2) w' ∧ OwnSt w' base A2 (n + 1) c2 (ps ++ [p]) ∧ w.grownBy w' (Value.slice A n c).ownBlock ∧ ((Value.slice A2 (n + 1) c2).ownBlock = (Value.slice A n c).ownBlock ∨ (Value.slice A2 (n + 1) c2).ownBlock = some w.heap.size) := by
  obtain ⟨i0, hi0, hz0, hz1, hz2⟩ := info_parts infoSt
  obtain ⟨v', w', hrun, h2, h3, _, h5⟩ := run_append_own_at (P := Tryz.prog) w base t ty _ i0 (.agg #[.slice none 0 0, .slice none 0 0]) 2 48 ht hi0 hz0 hz1 hz2 rfl (by decide) _ n _ hown ad 1 cx p.vals rfl
    (fun j u hj => by
      match j, hj with
      | 0, hj => simp [PairV.vals] at hj; subst hj; exact h0
      | 1, hj => simp [PairV.vals] at hj; subst hj; exact h1
      | j + 2, hj => simp [PairV.vals] at hj)
    (fun u hu => by
      simp [PairV.vals] at hu
      rcases hu with rfl | rfl <;> rfl) (by unfold maxLen; omega) (by omega) hbase
  have e : ps.flatMap PairV.vals ++ p.vals = (ps ++ [p]).flatMap PairV.vals := by rw [List.flatMap_append]; simp
  rw [e] at h2
  obtain ⟨A2, c2, rfl⟩ := own_shape h2
  exact ⟨A2, c2, w', hrun, h2, h3, h5⟩
/-- append(rows, row), the row in a block of one. -/
theorem wpList_append_st {ops : Array Oper} {rest : List Oper} {o : Oper} {a : Act} {Q : Exit → Act → World → Prop} {w : World} (hgd : o.guard = none) (s x : Operand) (t : TypeId)
    (ho : o.op = .call { callee := .builtin .append, args := #[s, x], argTypes := #[t, t] }) {base n c cx : Nat} {A : Option Addr} {ps : List PairV} {gx : Nat} (p : PairV) (ht : Tryz.prog.underlying t = some (.slice 38))
    (hs : a.eval s = .slice A n c) (hown : OwnSt w base A n c ps) (hx0 : a.eval x = .slice (some ⟨gx, 0, none⟩) 1 cx) (h0 : w.cell? ⟨gx, 0, none⟩ = some p.a.val) (h1 : w.cell? ⟨gx, 1, none⟩ = some p.b.val) (hlen : n ≤ 1000000) (hbase : base ≤ w.heap.size)
    (h : ∀ A2 c2 w', OwnSt w' base A2 (n + 1) c2 (ps ++ [p]) → w.grownBy w' (Value.slice A n c).ownBlock → ((Value.slice A2 (n + 1) c2).ownBlock = (Value.slice A n c).ownBlock ∨ (Value.slice A2 (n + 1) c2).ownBlock = some w.heap.size) → wpList Tryz.prog ops Q rest (a.put o.dst (.slice A2 (n + 1) c2)) w') : wpList Tryz.prog ops Q (o :: rest) a w := by
  refine wpList_plain hgd fun _ hK => ?_
  have ha : ∀ j, (⟨gx, 0, none⟩ : Addr).add j = ⟨gx, j, none⟩ := fun j => by unfold Addr.add; split <;> simp_all
  obtain ⟨A2, c2, w', hr, h2, h3, h4⟩ := run_append_st (cx := cx) (ad := ⟨gx, 0, none⟩) p ht hown (by rw [ha]; exact h0) (by rw [ha]; exact h1) hlen hbase o.type
  unfold Oper.wp execOp
  simp only [ho, resolve, invoke, builtin, Sem.run_bind, Sem.run_pure, Result.andThen_ok, List.map_toArray, List.map_cons, List.map_nil, hs, hx0, hr]
  exact hK _ _ (h A2 c2 w' h2 h3 h4)
end Go.Proofs.YtifopodnceopjaaGreatDoor
/- An argument that is a slice of Carries: a byte, a slice of bytes, a number of 16 bits, one of 32. -/
namespace Go.Proofs.YtifopodnceopjaaGreatDoor
open Go.RowKit Go.ChangeShapes Go.WideShapes Go.Deep
set_option linter.unusedVariables false
/-- A Carry, as data. -/
structure CarV where
  src : Nat
  by_ : RowV
  at_ : Nat
  turn : Nat
/-- A slice of n Carries at A, below block B. -/
def CarsAt (w : World) (B : Nat) (A : Option Addr) (n : Nat) (l : List CarV) : Prop :=
  l.length = n ∧ (∀ a ∈ l, (Bytes w B a.by_.A a.by_.n a.by_.xs ∧ a.by_.n ≤ 140737488351232 ∧ a.by_.n ≤ a.by_.c) ∧ a.src < 256 ∧ a.at_ < 65536 ∧ a.turn < 4294967296) ∧
  (0 < n → ∃ b off, A = some ⟨b, off, none⟩ ∧ b < B ∧ ∀ i a, l[i]? = some a → w.cell? ⟨b, off + i * 4, none⟩ = some (.int .u8 (a.src : Int)) ∧ w.cell? ⟨b, off + i * 4 + 1, none⟩ = some a.by_.val ∧ w.cell? ⟨b, off + i * 4 + 2, none⟩ = some (.int .u16 (a.at_ : Int)) ∧ w.cell? ⟨b, off + i * 4 + 3, none⟩ = some (.int .u32 (a.turn : Int)))
/-- One of them, later: where its cells are, in all later worlds. -/
theorem CarsAt.one {w wr : World} {A : Option Addr} {m j : Nat} {l : List CarV} (h : CarsAt w w.heap.size A m l) (k : Keep w wr) (hj : j < m) :
    ∃ (b off : Nat) (a : CarV), A = some ⟨b, off, none⟩ ∧ b < w.heap.size ∧ (∀ wx, Keep w wx → wx.cell? ⟨b, off + j * 4, none⟩ = some (.int .u8 (a.src : Int)) ∧ wx.cell? ⟨b, off + j * 4 + 1, none⟩ = some (.slice a.by_.A a.by_.n a.by_.c) ∧ wx.cell? ⟨b, off + j * 4 + 2, none⟩ = some (.int .u16 (a.at_ : Int)) ∧ wx.cell? ⟨b, off + j * 4 + 3, none⟩ = some (.int .u32 (a.turn : Int))) ∧
      (Bytes wr w.heap.size a.by_.A a.by_.n a.by_.xs ∧ a.by_.n ≤ 140737488351232 ∧ a.by_.n ≤ a.by_.c) ∧ a.src < 256 ∧ a.at_ < 65536 ∧ a.turn < 4294967296 := by
  obtain ⟨b, off, rfl, hb, hc⟩ := h.2.2 (by omega)
  have hl := List.getElem?_eq_getElem (l := l) (i := j) (by rw [h.1]; exact hj)
  have hk : ∀ wx, Keep w wx → ∀ o v, w.cell? ⟨b, o, none⟩ = some v → wx.cell? ⟨b, o, none⟩ = some v := fun wx kx o v hv => (Below.cell (B := w.heap.size) kx (show b < w.heap.size by omega)).trans hv
  obtain ⟨c0, c1, c2, c3⟩ := hc j _ hl
  obtain ⟨⟨a1, a2⟩, e1, e2, e3⟩ := h.2.1 _ (List.mem_of_getElem? hl)
  exact ⟨b, off, _, rfl, hb, fun wx kx => ⟨hk wx kx _ _ c0, hk wx kx _ _ c1, hk wx kx _ _ c2, hk wx kx _ _ c3⟩, ⟨a1.keep (Nat.le_refl _) k, a2⟩, e1, e2, e3⟩
theorem u8_car {a : Int} (h : (Lit.int .u8 a).wf = true) : ∃ n : Nat, a = n ∧ n < 256 := by
  have h2 := bounds_u8 h
  obtain ⟨n, rfl⟩ := Int.eq_ofNat_of_zero_le h2.1
  exact ⟨n, rfl, by omega⟩
theorem u16_car {a : Int} (h : (Lit.int .u16 a).wf = true) : ∃ n : Nat, a = n ∧ n < 65536 := by
  have h2 : 0 ≤ a ∧ a ≤ 65535 := by simpa [Lit.wf, IntKind.min, IntKind.max, IntKind.signed, IntKind.bits] using h
  obtain ⟨n, rfl⟩ := Int.eq_ofNat_of_zero_le h2.1
  exact ⟨n, rfl, by omega⟩
theorem u32_car {a : Int} (h : (Lit.int .u32 a).wf = true) : ∃ n : Nat, a = n ∧ n < 4294967296 := by
  have h2 : 0 ≤ a ∧ a ≤ 4294967295 := by simpa [Lit.wf, IntKind.min, IntKind.max, IntKind.signed, IntKind.bits] using h
  obtain ⟨n, rfl⟩ := Int.eq_ofNat_of_zero_le h2.1
  exact ⟨n, rfl, by omega⟩
section
variable {H : Type} {enc : TypeId × Value → H} {P : Program} {W : World}
/-- A reading of a slice of structs, field by field. -/
theorem structs_car {t e : TypeId} {fs : Array Field} {C : Nat} (ht : P.underlying t = some (.slice e)) (he : P.underlying e = some (.struct fs)) (hC : P.cellsOf e = C) (hpos : 0 < C) (hbe : 1 ≤ P.bytesOf e)
    {v : Value} {d : DataW H} {p : List MemPlace} {fuel : Nat} (h : DataW.trod enc P W 0 (fun _ => true) true fuel t [v] = some (d, p)) (hs : ∀ n ∈ d.weights P t, n ≤ reachBytes) :
    ∃ (A : Option Addr) (n c : Nat) (l : List (List Value)), v = .slice A n c ∧ FieldsAt W W.heap.size A n C l ∧ n ≤ 140737488351232 ∧ n ≤ c ∧
      ∀ r ∈ l, ∀ (j : Nat) (f : Field), fs[j]? = some f → ∃ (d : DataW H) (p : List MemPlace) (m : Nat), DataW.trod enc P W 0 (fun _ => true) true m f.type ((r.drop f.offset).take (P.cellsOf f.type)) = some (d, p) ∧ ∀ q ∈ d.weights P f.type, q ≤ reachBytes := by
  subst hC
  rcases open_slice ht h with ⟨hcs, _⟩ | ⟨a, len, cap, m, n, D, Pl, hcs, _, hl, hm, hmm, hx, hi⟩
  · simp at hcs
    exact ⟨none, 0, 0, [], hcs, ⟨rfl, fun r hr => by simp at hr, fun h => absurd h (by omega)⟩, by omega, by omega, fun r hr => by simp at hr⟩
  · simp at hcs
    have hmc : m = cap := by simpa using hmm
    simp only [Prod.mk.injEq] at hx
    obtain ⟨hde, _⟩ := hx
    have hr : reachBytes = 140737488351232 := by decide
    have hlen : len ≤ 140737488351232 := by
      have h1 := hs ((((List.range len).map D).length + ((List.range (m - len)).map fun j => D (len + j)).length) * P.bytesOf e) (by rw [hde]; simp [DataW.weights, ht])
      simp only [List.length_map, List.length_range] at h1
      have h2 : len * 1 ≤ (len + (m - len)) * P.bytesOf e := Nat.mul_le_mul (by omega) hbe
      omega
    have each : ∀ i, i < len → ∃ r : List Value, r.length = P.cellsOf e ∧ (∀ j u, r[j]? = some u → W.cell? (a.add (i * P.cellsOf e + j)) = some u) ∧
        ∀ (j : Nat) (f : Field), fs[j]? = some f → ∃ (d : DataW H) (p : List MemPlace) (m : Nat), DataW.trod enc P W 0 (fun _ => true) true m f.type ((r.drop f.offset).take (P.cellsOf f.type)) = some (d, p) ∧ ∀ q ∈ d.weights P f.type, q ≤ reachBytes := by
      intro i hin
      obtain ⟨cs', h1, h2⟩ := hi i (by omega)
      obtain ⟨_, hlen', hcell⟩ := World.cells?_some h1
      obtain ⟨xs, k, _, hxy, _, hxl, hf⟩ := DataW.trod_struct he h2
      simp only [Prod.mk.injEq] at hxy
      refine ⟨cs', hlen', fun j u hju => ?_, fun j f hjf => ?_⟩
      · have hj : j < P.cellsOf e := by
          rcases Nat.lt_or_ge j cs'.length with hh | hh
          · omega
          · rw [List.getElem?_eq_none hh] at hju; cases hju
        have hc := hcell j hj
        rw [add_add] at hc
        rw [hc, hju]
      · have hj : j < fs.size := (Array.getElem?_eq_some_iff.1 hjf).1
        have g := hf j f hjf
        rw [List.getElem?_eq_getElem (by omega)] at g
        refine ⟨xs[j].1, xs[j].2, k, g, fun q hq => hs q ?_⟩
        rw [hde]
        simp only [DataW.weights, ht, List.mem_cons, List.mem_append]
        refine Or.inr (Or.inl (weights_all (List.mem_map.2 ⟨i, List.mem_range.2 hin, rfl⟩) q ?_))
        rw [hxy.1]
        simp only [DataW.weights, he]
        exact weights_each (j := j) (t := f.type) (d := xs[j].1) (by rw [List.getElem?_map]; simp [hjf]) (by rw [List.getElem?_map, List.getElem?_eq_getElem (by omega)]; rfl) q hq
    obtain ⟨R, hR⟩ := choose_lt each
    refine ⟨some a, len, cap, (List.range len).map R, hcs, ⟨by simp, fun r hr => ?_, fun hp => ?_⟩, hlen, hl, fun r hr => ?_⟩
    · obtain ⟨i, hin, rfl⟩ := List.mem_map.1 hr
      exact (hR i (List.mem_range.1 hin)).1
    · obtain ⟨b, off, spot⟩ := a
      have hr0 := hR 0 hp
      have h0 := hr0.2.1 0 ((R 0).getD 0 undef) (by simp [List.getD, List.getElem?_eq_getElem (show 0 < (R 0).length by rw [hr0.1]; exact hpos)])
      have hspot : spot = none := by simpa [Addr.add] using World.cell?_spot h0
      subst hspot
      refine ⟨b, off, rfl, World.block_lt_of_cell? W _ (show W.cell? ⟨b, off, none⟩ = _ by simpa [Addr.add] using h0), fun i r j v hir hjv => ?_⟩
      have hin : i < len := by
        rcases Nat.lt_or_ge i len with h | h
        · exact h
        · rw [List.getElem?_eq_none (by simpa using h)] at hir; cases hir
      have hri : r = R i := by simp [hin] at hir; exact hir.symm
      subst hri
      have h1 := (hR i hin).2.1 j v hjv
      have ha : (⟨b, off, none⟩ : Addr).add (i * P.cellsOf e + j) = ⟨b, off + (i * P.cellsOf e + j), none⟩ := by unfold Addr.add; split <;> simp_all
      rwa [ha] at h1
    · obtain ⟨i, hin, rfl⟩ := List.mem_map.1 hr
      exact (hR i (List.mem_range.1 hin)).2.2
/-- An argument that is a slice of Carries. -/
theorem arg_cars {t e tu te t8 t16 t32 : TypeId} {f0 f1 f2 f3 : Field} (ht : P.underlying t = some (.slice e)) (he : P.underlying e = some (.struct #[f0, f1, f2, f3])) (hC : P.cellsOf e = 4) (hbe : 1 ≤ P.bytesOf e)
    (hf0 : f0.type = t8 ∧ f0.offset = 0) (hf1 : f1.type = tu ∧ f1.offset = 1) (hf2 : f2.type = t16 ∧ f2.offset = 2) (hf3 : f3.type = t32 ∧ f3.offset = 3) (ht8 : P.underlying t8 = some (.int .u8)) (hc8 : P.cellsOf t8 = 1) (ht16 : P.underlying t16 = some (.int .u16)) (hc16 : P.cellsOf t16 = 1) (ht32 : P.underlying t32 = some (.int .u32)) (hc32 : P.cellsOf t32 = 1)
    (hu : P.underlying tu = some (.slice te)) (hcu : P.cellsOf tu = 1) (hte : P.underlying te = some (.int .u8)) (hc : P.cellsOf te = 1) (hb : P.bytesOf te = 1)
    {ts : List TypeId} {ds : List (DataW H)} (hsz : (DataW.weightsEach P ts ds).all (· ≤ reachBytes) = true) {j : Nat} (hj : ts[j]? = some t) {v : Value} {d : DataW H} {p : List MemPlace} (hd : ds[j]? = some d)
    {base : Nat} (hv : Value.okWide P W .any base t v) (h : DataW.Trod enc P W 0 (fun _ => true) true t v d p) :
    ∃ (A : Option Addr) (n c : Nat) (l : List CarV), v = .slice A n c ∧ CarsAt W W.heap.size A n l ∧ n ≤ 140737488351232 ∧ n ≤ c := by
  obtain ⟨A, n, c, rfl⟩ := okWide_slice ht hv
  obtain ⟨fuel, hf⟩ := h
  obtain ⟨A', n', c', l, e0, hA, hn, hnc, hl⟩ := structs_car ht he hC (by omega) hbe (fuel := fuel) (by simpa [Value.cells] using hf) fun n hn => by
    have := List.all_eq_true.1 hsz n (DataW.weights_mem_each hj hd n hn)
    simpa using this
  have each : ∀ i, i < n' → ∃ a : CarV, l[i]? = some [.int .u8 (a.src : Int), a.by_.val, .int .u16 (a.at_ : Int), .int .u32 (a.turn : Int)] ∧ (Bytes W W.heap.size a.by_.A a.by_.n a.by_.xs ∧ a.by_.n ≤ 140737488351232 ∧ a.by_.n ≤ a.by_.c) ∧ a.src < 256 ∧ a.at_ < 65536 ∧ a.turn < 4294967296 := fun i hi => by
    have hil : i < l.length := by rw [hA.1]; exact hi
    have hm := List.getElem_mem hil
    have hlen := hA.2.1 _ hm
    obtain ⟨d0, p0, m0, t0, w0⟩ := hl _ hm 0 f0 rfl
    obtain ⟨d1, p1, m1, t1, w1⟩ := hl _ hm 1 f1 rfl
    obtain ⟨d2, p2, m2, t2, w2⟩ := hl _ hm 2 f2 rfl
    obtain ⟨d3, p3, m3, t3, w3⟩ := hl _ hm 3 f3 rfl
    rw [List.getElem?_eq_getElem hil]
    match hx : l[i], hlen with
    | [x0, x1, x2, x3], _ =>
      rw [hx] at t0 t1 t2 t3
      rw [hf0.1, hf0.2, hc8] at t0
      rw [hf1.1, hf1.2, hcu] at t1
      rw [hf2.1, hf2.2, hc16] at t2
      rw [hf3.1, hf3.2, hc32] at t3
      rw [hf1.1] at w1
      obtain ⟨a0, e0, _, hr0⟩ := DataW.trod_int ht8 t0
      simp at e0
      obtain ⟨a2, e2, _, hr2⟩ := DataW.trod_int ht16 t2
      simp at e2
      obtain ⟨a3, e3, _, hr3⟩ := DataW.trod_int ht32 t3
      simp at e3
      obtain ⟨z0, rfl, hz0⟩ := u8_car hr0
      obtain ⟨z2, rfl, hz2⟩ := u16_car hr2
      obtain ⟨z3, rfl, hz3⟩ := u32_car hr3
      obtain ⟨A1, n1, c1, y1, r1, b1, l1, k1⟩ := bytes_of hu hte hc hb t1 w1
      exact ⟨⟨z0, ⟨A1, n1, c1, y1⟩, z2, z3⟩, by rw [e0, e2, e3, r1]; rfl, ⟨b1, l1, k1⟩, hz0, hz2, hz3⟩
  have : Inhabited CarV := ⟨⟨0, ⟨none, 0, 0, []⟩, 0, 0⟩⟩
  obtain ⟨R, hR⟩ := choose_lt each
  refine ⟨A', n', c', (List.range n').map R, e0, ⟨by simp, fun a ha => ?_, fun hp => ?_⟩, hn, hnc⟩
  · obtain ⟨i, hi, rfl⟩ := List.mem_map.1 ha
    exact (hR i (List.mem_range.1 hi)).2
  · obtain ⟨b, off, e, hbl, hcl⟩ := hA.2.2 hp
    refine ⟨b, off, e, hbl, fun i a hi => ?_⟩
    have hin : i < n' := by
      rcases Nat.lt_or_ge i n' with h | h
      · exact h
      · rw [List.getElem?_eq_none (by simpa using h)] at hi; cases hi
    have hai : a = R i := by simp [hin] at hi; exact hi.symm
    subst hai
    have hli := (hR i hin).1
    refine ⟨?_, ?_, ?_, ?_⟩
    · exact hcl i _ 0 _ hli rfl
    · have := hcl i _ 1 _ hli rfl; rwa [← Nat.add_assoc] at this
    · have := hcl i _ 2 _ hli rfl; rwa [← Nat.add_assoc] at this
    · have := hcl i _ 3 _ hli rfl; rwa [← Nat.add_assoc] at this
end
end Go.Proofs.YtifopodnceopjaaGreatDoor
/- The field of 256 elements over plain numbers: sums, products, powers, exponents, and that it is a field. -/
namespace Go.Proofs.YtifopodnceopjaaGreatDoor

/-- The product with x. -/
def xt (a : Nat) : Nat := (a * 2 % 256) ^^^ (27 * (a / 128))
/-- x to the k times a. -/
def xtn : Nat → Nat → Nat
  | 0, a => a
  | k + 1, a => xt (xtn k a)
/-- The first k steps of a product. -/
def mulTo (a b : Nat) : Nat → Nat
  | 0 => 0
  | k + 1 => mulTo a b k ^^^ (xtn k a * (b / 2 ^ k % 2))
def mulN (a b : Nat) : Nat := mulTo a b 8

theorem xor_lt {a b : Nat} (ha : a < 256) (hb : b < 256) : a ^^^ b < 256 := Nat.xor_lt_two_pow (n := 8) ha hb
theorem xt_lt {a : Nat} (ha : a < 256) : xt a < 256 := xor_lt (Nat.mod_lt _ (by decide)) (by omega)
theorem xtn_lt (k : Nat) {a : Nat} (ha : a < 256) : xtn k a < 256 := by
  induction k with
  | zero => exact ha
  | succ k ih => exact xt_lt ih
theorem bit_lt (b k : Nat) : b / 2 ^ k % 2 ≤ 1 := by omega
theorem mulTo_lt (a b k : Nat) (ha : a < 256) : mulTo a b k < 256 := by
  induction k with
  | zero => exact (by decide : (0 : Nat) < 256)
  | succ k ih =>
    refine xor_lt ih ?_
    have h := bit_lt b k
    have h2 := xtn_lt k ha
    rcases Nat.le_one_iff_eq_zero_or_eq_one.1 h with e | e <;> rw [e] <;> simp <;> omega
theorem mulN_lt {a : Nat} (b : Nat) (ha : a < 256) : mulN a b < 256 := mulTo_lt a b 8 ha

theorem stepbit_lt (x b k : Nat) (hx : x < 256) : x * (b / 2 ^ k % 2) < 256 := by
  rcases Nat.le_one_iff_eq_zero_or_eq_one.1 (bit_lt b k) with e | e <;> rw [e] <;> simp <;> omega
theorem bit_int (b k : Nat) (hb : b < 256) : bits .and .u8 ((b : Int) / 2 ^ k) 1 = ((b / 2 ^ k % 2 : Nat) : Int) := by
  have e : ((b : Int) / 2 ^ k) = ((b / 2 ^ k : Nat) : Int) := by simp
  have h : b / 2 ^ k < 256 := Nat.lt_of_le_of_lt (Nat.div_le_self _ _) hb
  rw [e, show (1 : Int) = ((1 : Nat) : Int) from rfl, u8_and_nat _ 1 h (by decide), Nat.and_one_is_mod]
theorem stepbit_int (x b k : Nat) (hx : x < 256) (hb : b < 256) : (x : Int) * bits .and .u8 ((b : Int) / 2 ^ k) 1 % 256 = ((x * (b / 2 ^ k % 2) : Nat) : Int) := by
  have h := stepbit_lt x b k hx
  rw [bit_int b k hb, ← Int.natCast_mul]
  omega

/-! ### Powers of 3 -/
def pw : Nat → Nat
  | 0 => 1
  | k + 1 => pw k ^^^ xt (pw k)
/-- The tables as one number each. -/
def bigP : Nat := 0xf652c7b46c241cfda297847cdd4b39170df2a794858a8f8c8d7b29ee5a36120ef351c6423ee3a891868b79de4acf45ca46cbb099772d1b0907f4a563211ffc54c543c8b16f25eaaf6523e858c1b69b80898e7adfbc9d827e2aefac64d5ba9f75dabf9c742ced5bc040c9473de25ec3413f15fa5632e75dc2b76dd24e3a16fba06020e9ae93712fecad92877d2b19fea361d6bb69271d0bf0503010f957c4b59a76db49ceb398817fdcbd6bd0b99e838878281808f1a662d74d3be0a967d44ccdb26ed3b868d14fcc443c140c04f55331e6ab9070d9be6a26eb5937e45c34e5aa66221e0a0602f7a49573d84838e15f3513f8a196722e1aff5533110f050301
def bigL : Nat := 0x770f7c0808c630d18fe31c5deed4a67a5e3997726b87cb4892e2023d9921144abd3f2565d9e2a14476da2413c843953d15b3f37cdcf95bcfcdcbe619087b2979d2955aa6ca1523b86b160fb5a3ebbccb77b76a42d1f43d8ec49c4176ff60c7fa051a99cb05fcb59f50b16eb7a75d72ce8ade6e7d5e9ae4f74d6eaf450a858af57a773f3e5acd44eca5e9f9b150a792bba3d85fa54286b3a421eb6a3c3486e7e1091882298e225b3628b06bf30fddd6638834640f1d25c1394ced036bddb8f968eda93354582f01224e10f21058a2f657809c99a72a6e44d6a27b9f9b51dc27dc11c69f8c808714cef818d340ee0046403dfee33681bc74bc61a023201190000
def pwT (i : Nat) : Nat := bigP >>> (8 * i) % 256
def lg (a : Nat) : Nat := bigL >>> (8 * a) % 256
def pwOk : Nat → Bool
  | 0 => pwT 0 == 1
  | k + 1 => pwOk k && pwT (k + 1) == (pwT k ^^^ xt (pwT k))
theorem pwOk_254 : pwOk 254 = true := by decide +kernel
theorem pw_of_ok (k : Nat) (h : pwOk k = true) : pw k = pwT k ∧ ∀ j, j ≤ k → pwOk j = true := by
  induction k with
  | zero => exact ⟨by simpa [pwOk, pw] using (beq_iff_eq.1 h).symm, fun j hj => by rw [show j = 0 by omega]; exact h⟩
  | succ k ih =>
    simp only [pwOk, Bool.and_eq_true, beq_iff_eq] at h
    obtain ⟨h1, h2⟩ := ih h.1
    refine ⟨by rw [pw, h1, h.2], fun j hj => ?_⟩
    by_cases e : j = k + 1
    · subst e; simp [pwOk, h.1, h.2]
    · exact h2 j (by omega)
theorem pw_T (k : Nat) (h : k < 255) : pw k = pwT k := (pw_of_ok k ((pw_of_ok 254 pwOk_254).2 k (by omega))).1
theorem pwT_lg : ∀ a, a < 256 → 1 ≤ a → lg a < 255 ∧ pwT (lg a) = a := by decide +kernel
theorem lg_pwT : ∀ i, i < 255 → lg (pwT i) = i ∧ 1 ≤ pwT i ∧ pwT i < 256 := by decide +kernel
theorem pw_lg (a : Nat) (h : a < 256) (h1 : 1 ≤ a) : pw (lg a) = a := by
  have := pwT_lg a h h1; rw [pw_T _ this.1]; exact this.2
theorem lg_lt (a : Nat) (h : a < 256) (h1 : 1 ≤ a) : lg a < 255 := (pwT_lg a h h1).1
theorem lg_pw (i : Nat) (h : i < 255) : lg (pw i) = i := by rw [pw_T i h]; exact (lg_pwT i h).1
theorem pw_pos (i : Nat) (h : i < 255) : 1 ≤ pw i := by rw [pw_T i h]; exact (lg_pwT i h).2.1
theorem pw_lt (i : Nat) : pw i < 256 := by
  induction i with
  | zero => exact (by decide : 1 < 256)
  | succ k ih => exact xor_lt ih (xt_lt ih)
theorem pw_255 : pw 255 = 1 := by rw [pw, pw_T 254 (by decide)]; decide +kernel
theorem pw_add255 (k : Nat) : pw (k + 255) = pw k := by
  induction k with
  | zero => rw [Nat.zero_add, pw_255]; rfl
  | succ k ih => rw [show k + 1 + 255 = (k + 255) + 1 by omega, pw, ih, pw]
theorem pw_mod (k : Nat) : pw (k % 255) = pw k := by
  induction k using Nat.strongRecOn with
  | _ k ih =>
    by_cases h : k < 255
    · rw [Nat.mod_eq_of_lt h]
    · have e : k = (k - 255) + 255 := by omega
      rw [e, Nat.add_mod_right, ih _ (by omega), pw_add255]

/-! ### Sums go through -/
theorem xt_xor_all : ∀ a, a < 256 → ∀ b, b < 256 → xt (a ^^^ b) = xt a ^^^ xt b := by decide +kernel
theorem xtn_xor (k : Nat) {a b : Nat} (ha : a < 256) (hb : b < 256) : xtn k (a ^^^ b) = xtn k a ^^^ xtn k b := by
  induction k with
  | zero => rfl
  | succ k ih => rw [xtn, ih, xt_xor_all _ (xtn_lt k ha) _ (xtn_lt k hb)]; rfl
theorem xtn_xt (k : Nat) (a : Nat) : xtn k (xt a) = xt (xtn k a) := by
  induction k with
  | zero => rfl
  | succ k ih => rw [xtn, ih]; rfl
theorem xor_swap (a b c d : Nat) : (a ^^^ b) ^^^ (c ^^^ d) = (a ^^^ c) ^^^ (b ^^^ d) := by
  rw [Nat.xor_assoc, ← Nat.xor_assoc b, Nat.xor_comm b c, Nat.xor_assoc c, ← Nat.xor_assoc a]
theorem xor_mulbit (x y b : Nat) (h : b ≤ 1) : (x ^^^ y) * b = x * b ^^^ y * b := by
  rcases Nat.le_one_iff_eq_zero_or_eq_one.1 h with e | e <;> subst e <;> simp
theorem mulTo_xor (a c b k : Nat) (ha : a < 256) (hc : c < 256) : mulTo (a ^^^ c) b k = mulTo a b k ^^^ mulTo c b k := by
  induction k with
  | zero => simp [mulTo]
  | succ k ih => rw [mulTo, ih, xtn_xor k ha hc, xor_mulbit _ _ _ (bit_lt b k), xor_swap]; rfl
theorem mulTo_xt (a b k : Nat) (ha : a < 256) : mulTo (xt a) b k = xt (mulTo a b k) := by
  induction k with
  | zero => simp only [mulTo]; decide
  | succ k ih =>
    rw [mulTo, ih, xtn_xt, mulTo, xt_xor_all _ (mulTo_lt a b k ha) _ (stepbit_lt _ b k (xtn_lt k ha))]
    congr 1
    rcases Nat.le_one_iff_eq_zero_or_eq_one.1 (bit_lt b k) with e | e <;> rw [e] <;> simp
    rfl
theorem mul_xor_left (a c b : Nat) (ha : a < 256) (hc : c < 256) : mulN (a ^^^ c) b = mulN a b ^^^ mulN c b := mulTo_xor a c b 8 ha hc
theorem mul_xt_left (a b : Nat) (ha : a < 256) : mulN (xt a) b = xt (mulN a b) := mulTo_xt a b 8 ha
theorem mul_one_left : ∀ b, b < 256 → mulN 1 b = b := by decide +kernel
theorem mul_zero_left (b : Nat) : mulN 0 b = 0 := by
  have h : ∀ k, xtn k 0 = 0 := fun k => by induction k with | zero => rfl | succ k ih => rw [xtn, ih]; rfl
  simp [mulN, mulTo, h]
theorem mul_zero_right (a : Nat) : mulN a 0 = 0 := by simp [mulN, mulTo]

/-- The product of two powers. -/
theorem mul_pw (i : Nat) (b : Nat) (hb : b < 256) (j : Nat) (hj : pw j = b) : mulN (pw i) b = pw (i + j) := by
  induction i with
  | zero => rw [show pw 0 = 1 from rfl, mul_one_left b hb, Nat.zero_add, hj]
  | succ i ih => rw [pw, mul_xor_left _ _ _ (pw_lt i) (xt_lt (pw_lt i)), mul_xt_left _ _ (pw_lt i), ih, show i + 1 + j = (i + j) + 1 by omega, pw]
theorem mul_pw_pw (i j : Nat) : mulN (pw i) (pw j) = pw (i + j) := mul_pw i (pw j) (pw_lt j) j rfl
theorem mul_lg (a b : Nat) (ha : a < 256) (hb : b < 256) (h1 : 1 ≤ a) (h2 : 1 ≤ b) : mulN a b = pw (lg a + lg b) := by
  have h := mul_pw_pw (lg a) (lg b)
  rwa [pw_lg a ha h1, pw_lg b hb h2] at h
theorem pw_pos' (k : Nat) : 1 ≤ pw k := by rw [← pw_mod]; exact pw_pos _ (Nat.mod_lt _ (by decide))
theorem pw_inj {i j : Nat} (h : pw i = pw j) : i % 255 = j % 255 := by
  rw [← pw_mod i, ← pw_mod j] at h
  have := congrArg lg h
  rwa [lg_pw _ (Nat.mod_lt _ (by decide)), lg_pw _ (Nat.mod_lt _ (by decide))] at this

/-! ### The field -/
theorem mul_comm' (a b : Nat) (ha : a < 256) (hb : b < 256) : mulN a b = mulN b a := by
  by_cases h1 : a = 0
  · subst h1; rw [mul_zero_left, mul_zero_right]
  by_cases h2 : b = 0
  · subst h2; rw [mul_zero_left, mul_zero_right]
  rw [mul_lg a b ha hb (by omega) (by omega), mul_lg b a hb ha (by omega) (by omega), Nat.add_comm]
theorem mul_eq_zero (a b : Nat) (ha : a < 256) (hb : b < 256) : mulN a b = 0 ↔ a = 0 ∨ b = 0 := by
  by_cases h1 : a = 0
  · subst h1; simp [mul_zero_left]
  by_cases h2 : b = 0
  · subst h2; simp [mul_zero_right]
  have := pw_pos' (lg a + lg b)
  rw [mul_lg a b ha hb (by omega) (by omega)]
  omega
theorem mul_assoc' (a b c : Nat) (ha : a < 256) (hb : b < 256) (hc : c < 256) : mulN (mulN a b) c = mulN a (mulN b c) := by
  by_cases h1 : a = 0
  · subst h1; simp [mul_zero_left]
  by_cases h2 : b = 0
  · subst h2; simp [mul_zero_left, mul_zero_right]
  by_cases h3 : c = 0
  · subst h3; simp [mul_zero_right]
  rw [mul_lg a b ha hb (by omega) (by omega), mul_lg b c hb hc (by omega) (by omega)]
  have ea := pw_lg a ha (by omega)
  have ec := pw_lg c hc (by omega)
  have h4 := mul_pw_pw (lg a + lg b) (lg c)
  have h5 := mul_pw_pw (lg a) (lg b + lg c)
  rw [ec] at h4
  rw [ea] at h5
  rw [h4, h5, Nat.add_assoc]
theorem mul_xor_right (a b c : Nat) (ha : a < 256) (hb : b < 256) (hc : c < 256) : mulN a (b ^^^ c) = mulN a b ^^^ mulN a c := by
  rw [mul_comm' _ _ ha (xor_lt hb hc), mul_xor_left _ _ _ hb hc, mul_comm' b a hb ha, mul_comm' c a hc ha]
theorem mul_one_right (a : Nat) (ha : a < 256) : mulN a 1 = a := by rw [mul_comm' a 1 ha (by decide), mul_one_left a ha]
/-- The inverse, as the tables give it. -/
def invN (a : Nat) : Nat := if a = 0 then 0 else pw ((255 - lg a) % 255)
theorem invN_lt (a : Nat) : invN a < 256 := by unfold invN; split; decide; exact pw_lt _
theorem mul_inv (a : Nat) (ha : a < 256) (h1 : 1 ≤ a) : mulN a (invN a) = 1 := by
  have h := mul_pw_pw (lg a) ((255 - lg a) % 255)
  rw [pw_lg a ha h1] at h
  unfold invN
  rw [if_neg (by omega), h]
  have := lg_lt a ha h1
  by_cases e : lg a = 0
  · rw [e]; rfl
  · rw [Nat.mod_eq_of_lt (by omega : 255 - lg a < 255), show lg a + (255 - lg a) = 255 by omega, pw_255]
/-! ### For the document's own answers -/
end Go.Proofs.YtifopodnceopjaaGreatDoor
/- Vectors over the field, as lists of numbers: sums, products, leads, units, combinations; that they are a space. -/
namespace Go.Proofs.YtifopodnceopjaaGreatDoor

/-- n numbers, number i what f makes of i. -/
def tab (n : Nat) (f : Nat → Nat) : List Nat := (List.range n).map f
theorem tab_length (n : Nat) (f : Nat → Nat) : (tab n f).length = n := by simp [tab]
theorem tab_succ (n : Nat) (f : Nat → Nat) : tab (n + 1) f = tab n f ++ [f n] := by simp [tab, List.range_succ]
theorem tab_getD (n : Nat) (f : Nat → Nat) (i : Nat) : (tab n f).getD i 0 = if i < n then f i else 0 := by
  rw [List.getD_eq_getElem?_getD]
  by_cases h : i < n
  · simp [tab, h]
  · rw [if_neg h, List.getElem?_eq_none (by rw [tab_length]; omega)]; rfl
theorem tab_congr {n : Nat} {f g : Nat → Nat} (h : ∀ i, i < n → f i = g i) : tab n f = tab n g := by
  induction n with
  | zero => rfl
  | succ n ih => rw [tab_succ, tab_succ, ih fun i hi => h i (by omega), h n (by omega)]
theorem tab_self (xs : List Nat) : tab xs.length (fun i => xs.getD i 0) = xs := by
  apply List.ext_getElem?
  intro i
  by_cases h : i < xs.length
  · rw [List.getElem?_eq_getElem h]
    simp [tab, h]
  · rw [List.getElem?_eq_none (by rw [tab_length]; omega), List.getElem?_eq_none (by omega)]
theorem list_ext {xs ys : List Nat} (hl : xs.length = ys.length) (h : ∀ i, i < xs.length → xs.getD i 0 = ys.getD i 0) : xs = ys := by
  rw [← tab_self xs, ← tab_self ys, ← hl]
  exact tab_congr h

/-- The sum of the first n of f. -/
def sumX (f : Nat → Nat) : Nat → Nat
  | 0 => 0
  | n + 1 => sumX f n ^^^ f n
theorem sumX_lt (f : Nat → Nat) (n : Nat) (h : ∀ i, i < n → f i < 256) : sumX f n < 256 := by
  induction n with
  | zero => exact (by decide : 0 < 256)
  | succ n ih => exact xor_lt (ih fun i hi => h i (by omega)) (h n (by omega))
theorem sumX_congr {f g : Nat → Nat} {n : Nat} (h : ∀ i, i < n → f i = g i) : sumX f n = sumX g n := by
  induction n with
  | zero => rfl
  | succ n ih => rw [sumX, sumX, ih fun i hi => h i (by omega), h n (by omega)]
theorem sumX_zero (n : Nat) : sumX (fun _ => 0) n = 0 := by
  induction n with
  | zero => rfl
  | succ n ih => rw [sumX, ih]; rfl
theorem sumX_one (f : Nat → Nat) (n k : Nat) (hk : k < n) (h : ∀ i, i < n → i ≠ k → f i = 0) : sumX f n = f k := by
  induction n with
  | zero => omega
  | succ n ih =>
    rw [sumX]
    by_cases e : k = n
    · subst e
      rw [sumX_congr (g := fun _ => 0) fun i hi => h i (by omega) (by omega), sumX_zero, Nat.zero_xor]
    · rw [ih (by omega) fun i hi hne => h i (by omega) hne, h n (by omega) (fun e2 => e e2.symm), Nat.xor_zero]
/-- The calls, as the chapter tells them. -/
def vAddS (n : Nat) (xs ys : List Nat) (c : Nat) : List Nat := tab n fun i => xs.getD i 0 ^^^ mulN (ys.getD i 0) c
def vAdd (n : Nat) (xs ys : List Nat) : List Nat := tab n fun i => xs.getD i 0 ^^^ ys.getD i 0
def vScale (n : Nat) (xs : List Nat) (c : Nat) : List Nat := tab n fun i => mulN (xs.getD i 0) c
/-- The least place from k on, of the first n. -/
def vLeadTo (xs : List Nat) : Nat → Option Nat
  | 0 => none
  | n + 1 => match vLeadTo xs n with
    | some i => some i
    | none => if xs.getD n 0 = 0 then none else some n
def vLead (n : Nat) (xs : List Nat) : Int := match vLeadTo xs n with
  | some i => (i : Int)
  | none => -1
def vUnit (n k : Nat) : List Nat := tab n fun i => if i = k then 1 else 0
/-- The first k rows, each multiplied with its number: number j. -/
def vCombAt (rows : List (List Nat)) (c : List Nat) (k j : Nat) : Nat := sumX (fun i => mulN ((rows.getD i []).getD j 0) (c.getD i 0)) k
def vComb (n : Nat) (rows : List (List Nat)) (c : List Nat) (k : Nat) : List Nat := tab n (vCombAt rows c k)

theorem vLeadTo_none (xs : List Nat) (n : Nat) : vLeadTo xs n = none ↔ ∀ i, i < n → xs.getD i 0 = 0 := by
  induction n with
  | zero => exact ⟨fun _ i hi => by omega, fun _ => rfl⟩
  | succ n ih =>
    constructor
    · intro h
      rw [vLeadTo] at h
      cases h1 : vLeadTo xs n with
      | some k => rw [h1] at h; cases h
      | none =>
        rw [h1] at h
        have h2 := ih.1 h1
        intro i hi
        by_cases e : i = n
        · subst e
          by_cases hz : xs.getD i 0 = 0
          · exact hz
          · rw [if_neg hz] at h; cases h
        · exact h2 i (by omega)
    · intro h
      have h1 := ih.2 fun i hi => h i (by omega)
      rw [vLeadTo, h1, if_pos (h n (by omega))]
theorem vLeadTo_some (xs : List Nat) (n : Nat) : ∀ k, vLeadTo xs n = some k ↔ k < n ∧ xs.getD k 0 ≠ 0 ∧ ∀ i, i < k → xs.getD i 0 = 0 := by
  induction n with
  | zero => exact fun k => ⟨fun h => by simp [vLeadTo] at h, fun h => absurd h.1 (by omega)⟩
  | succ n ih' =>
    intro k
    rw [vLeadTo]
    cases h1 : vLeadTo xs n with
    | some j =>
      have h2 := (ih' j).1 h1
      constructor
      · intro h
        injection h with h
        subst h
        exact ⟨by omega, h2.2⟩
      · intro h
        have : k = j := by
          rcases Nat.lt_trichotomy k j with h3 | h3 | h3
          · exact absurd (h2.2.2 k h3) h.2.1
          · exact h3
          · exact absurd (h.2.2 j h3) h2.2.1
        rw [this]
    | none =>
      have h2 := (vLeadTo_none xs n).1 h1
      constructor
      · intro h
        by_cases hz : xs.getD n 0 = 0
        · rw [if_pos hz] at h; cases h
        · rw [if_neg hz] at h
          injection h with h
          subst h
          exact ⟨by omega, hz, h2⟩
      · intro h
        have : k = n := by
          by_cases e : k < n
          · exact absurd (h2 k e) h.2.1
          · omega
        subst this
        rw [if_neg h.2.1]
end Go.Proofs.YtifopodnceopjaaGreatDoor
/- Matrices as lists of lists: the plain mathematics of layer 6's answers. -/
namespace Go.Proofs.YtifopodnceopjaaGreatDoor
/-- Are all rows of one length? -/
def fits (M : List (List Nat)) : Prop := ∀ r ∈ M, r.length = (M.headD []).length
instance (M : List (List Nat)) : Decidable (fits M) := by unfold fits; infer_instance
def sizeR (M : List (List Nat)) : Nat := if fits M then M.length else 0
def sizeC (M : List (List Nat)) : Nat := if fits M then (M.headD []).length else 0
/-- A product's number, its row, the product. -/
def dotN (r : List Nat) (N : List (List Nat)) (k n : Nat) : Nat := sumX (fun i => mulN (r.getD i 0) ((N.getD i []).getD k 0)) n
def rowN (r : List Nat) (N : List (List Nat)) (n c : Nat) : List Nat := tab c fun k => dotN r N k n
/-- The row, cleared by the first k rows. -/
def clearTo (nc : Nat) (M : List (List Nat)) (row : List Nat) : Nat → List Nat
  | 0 => row
  | k + 1 => vAddS nc (clearTo nc M row k) (M.getD k []) ((clearTo nc M row k).getD (vLead nc (M.getD k [])).toNat 0)
theorem clearTo_len (nc : Nat) (M : List (List Nat)) (row : List Nat) (h : row.length = nc) : ∀ k, (clearTo nc M row k).length = nc
  | 0 => h
  | _ + 1 => tab_length _ _
theorem vAddS_all {n c : Nat} {xs ys : List Nat} (hx : AllB xs) (hy : AllB ys) : AllB (vAddS n xs ys c) := fun x hm => by
  obtain ⟨i, _, rfl⟩ := List.mem_map.1 hm
  exact xor_lt (hx.getD i) (mulN_lt _ (hy.getD i))
theorem vScale_all {n c : Nat} {xs : List Nat} (hx : AllB xs) : AllB (vScale n xs c) := fun x hm => by
  obtain ⟨i, _, rfl⟩ := List.mem_map.1 hm
  exact mulN_lt _ (hx.getD i)
/-- The other rows, cleared; the new one laid ahead of the first whose lead lies behind. -/
def layTo (nc : Nat) (M : List (List Nat)) (u : List Nat) (L : Nat) : Nat → List (List Nat) × Bool
  | 0 => ([], false)
  | k + 1 =>
    let p := layTo nc M u L k
    let hit := !p.2 && decide ((L : Int) < vLead nc (M.getD k []))
    ((if hit = true then p.1 ++ [u] else p.1) ++ [vAddS nc (M.getD k []) u ((M.getD k []).getD L 0)], p.2 || hit)
/-- A row put into a reduced matrix. -/
def insertN (nc : Nat) (M : List (List Nat)) (row : List Nat) : List (List Nat) :=
  let v := clearTo nc M row M.length
  if vLead nc v < 0 then M
  else
    let L := (vLead nc v).toNat
    let u := vScale nc v (invN (v.getD L 0))
    let p := layTo nc M u L M.length
    if p.2 = true then p.1 else p.1 ++ [u]
end Go.Proofs.YtifopodnceopjaaGreatDoor
