/- Contracts of the document's own answers of layer 7: rows, sums of bytes, what coefficients make of symbols. -/
import Derived.Test.YtcjjhblgejkkeaaGreatSt
import Derived.Test.YtcjjhblgejkkeaaGreatOwn
import Derived.Test.YtcjjhblgejkkeaaGreatMulB
import Derived.Test.YtcjjhblgejkkeaaGreatVecB
import Derived.Test.YtcjjhblgejkkeaaGreatRowsMk
import Derived.Test.YtcjjhblgejkkeaaGreatRegion
import Derived.Laws.Rows
import Derived.StillTailTactics
namespace Go.Proofs.YtcjjhblgejkkeaaGreat
open Go.RowKit
set_option linter.unusedVariables false
set_option linter.unusedSimpArgs false
theorem infoRowSize : (Tryz.prog.info? 34).map (·.size) = some 2 := by kernel_rfl
/-- What a sum of bytes has done: the first i places. -/
def partS (n : Nat) (xs ys : List Nat) (c i : Nat) : List Nat := tab n fun j => if j < i then xs.getD j 0 ^^^ mulN (ys.getD j 0) c else xs.getD j 0
theorem partS_zero {n : Nat} {xs : List Nat} (ys : List Nat) (c : Nat) (h : xs.length = n) : partS n xs ys c 0 = xs := by
  subst h
  exact (tab_congr fun j _ => by rw [if_neg (by omega)]).trans (tab_self xs)
theorem partS_all (n : Nat) (xs ys : List Nat) (c : Nat) : partS n xs ys c n = vAddS n xs ys c := tab_congr fun j hj => by rw [if_pos hj]
theorem partS_getD {n : Nat} (xs ys : List Nat) (c : Nat) {i : Nat} (hi : i < n) : (partS n xs ys c i).getD i 0 = xs.getD i 0 := by rw [partS, tab_getD, if_pos hi, if_neg (by omega)]
theorem partS_set {n : Nat} (xs ys : List Nat) (c : Nat) {i : Nat} (hi : i < n) : (partS n xs ys c i).set i (xs.getD i 0 ^^^ mulN (ys.getD i 0) c) = partS n xs ys c (i + 1) := by
  refine list_ext (by simp [partS, tab_length]) fun j hj => ?_
  rw [List.length_set, partS, tab_length] at hj
  have e2 : (partS n xs ys c (i + 1)).getD j 0 = if j < i + 1 then xs.getD j 0 ^^^ mulN (ys.getD j 0) c else xs.getD j 0 := by rw [partS, tab_getD, if_pos hj]
  rw [e2, List.getD_eq_getElem?_getD, List.getElem?_set]
  by_cases e : i = j
  · subst e
    rw [if_pos rfl, if_pos (by simp [partS, tab_length]; omega), if_pos (by omega)]; rfl
  · rw [if_neg e, ← List.getD_eq_getElem?_getD, partS, tab_getD, if_pos hj]
    by_cases h1 : j < i
    · rw [if_pos h1, if_pos (by omega)]
    · rw [if_neg h1, if_neg (by omega)]
set_option maxRecDepth 100000 in
set_option maxHeartbeats 1000000 in
theorem rplus_any (B B' n m ca cb c : Nat) (A A' : Option Addr) (xs ys : List Nat) (w : World) (h : Bytes w B A n xs) (h' : Bytes w B' A' m ys) (hB : B ≤ w.heap.size) (hB' : B' ≤ w.heap.size) (hn : n ≤ 1000000) (hm : n ≤ m) (hc : c < 256) :
    Calls Tryz.prog 129 #[.slice A n ca, .slice A' m cb, .int .u8 c] w (NewBytes w (vAddS n xs ys c)) := by
  have HH := Lib.hid (And.intro h h')
  clear h h'
  go_enter Tryz.func129, Tryz.ntmps129
  go_wp2_with fail
  refine (rown_any B n ca A xs _ HH.out.1 (by omega)).mono ?_
  rintro e w1 ⟨A1, n1, c1, rfl, o1, k1⟩
  obtain rfl : n = n1 := by rw [← o1.length, HH.out.1.length]
  have O1 := Lib.hid o1
  have K1 := Lib.hid k1
  have HL := Lib.hid (own_le' o1)
  clear o1 k1
  go_wp2_with fail
  go_loopw [8] (fun i wr => ∃ j : Nat, j ≤ n ∧ i = .int .i64 j ∧ Own wr w.heap.size 5 A1 n c1 (partS n xs ys c j) ∧ Keep w wr) (fun i _ => n - (intOf i).toNat)
  case atStart => exact ⟨0, by omega, rfl, by rw [partS_zero ys c HH.out.1.length]; exact O1.out, K1.out⟩
  case round =>
    obtain ⟨j, hj, rfl, ho, hk⟩ := hrel
    by_cases hlt : j < n
    · obtain ⟨g, rfl, hg, hgl⟩ := ho.block (by omega)
      have cx := ho.cell hlt
      rw [partS_getD xs ys c hlt] at cx
      have fx := ho.frozen j
      obtain ⟨b2, o2, rfl, hb2, cy⟩ := (HH.out.2.keep hB' hk).at_ (show j < m by omega)
      have hx := HH.out.1.all.getD j
      have hy := HH.out.2.all.getD j
      have hst := partS_set xs ys c hlt
      generalize xs.getD j 0 = x at *
      generalize ys.getD j 0 = y at *
      obtain ⟨p, hp⟩ : ∃ p, mulN y c = p := ⟨_, rfl⟩
      have hp2 : p < 256 := by rw [← hp]; exact mulN_lt _ hy
      rw [hp] at hst
      have hxor := u8_xor_nat x p hx hp2
      obtain ⟨v, hv⟩ : ∃ v, x ^^^ p = v := ⟨_, rfl⟩
      have hv2 : v < 256 := by rw [← hv]; exact xor_lt hx hp2
      rw [hv] at hst hxor
      have C0 : Hid (Calls Tryz.prog 128 #[.int .u8 y, .int .u8 c] wr.drew fun e w' => e = .returned (.int .u8 (p : Int)) ∧ w' = wr.drew) := (rmul_eq y c p hy hc hp _).mono fun e w' h => ⟨h.1, h.2.symm⟩
      have HST := Lib.hid hst
      have HV := Lib.hid (And.intro hv2 (ho.1.lt g rfl).1)
      have HO := Lib.hid ho
      have HK := Lib.hid hk
      have e1 : (0 : Int) ≤ (j : Int) := Int.natCast_nonneg _
      have e2 : (j : Int) < (n : Int) := by omega
      have e3 : (j : Int) < (m : Int) := by omega
      clear ho hk hst hp hv hv2
      go_wp2_with fail
      refine wp_region_still_tail (w := wr) 14 (by kernel_rfl) (by kernel_rfl) ?_
      simp only [List.take_succ_cons, List.take_zero, List.drop_succ_cons, List.drop_zero]
      change wpStill _ _ (World.drew wr) _ _ _
      iterate 11 still_step
      still_call C0.out
      iterate 2 still_step
      refine wpStill_nil ?_
      change wpList _ _ _ _ _ (World.drew wr)
      go_wp2_with fail
      go_roundw
      case rel => exact ⟨j + 1, by omega, by go_num, by rw [← HST.out]; exact ⟨(HO.out.stored HV.out.1).1, (HO.out.stored (i := j) HV.out.1).2⟩, HK.out.drew.setCell HV.out.2 _⟩
      case measure => simp [intOf]; omega
    · obtain rfl : j = n := by omega
      rw [partS_all] at ho
      go_wp2_with fail
      go_ret
      exact ⟨_, _, _, rfl, ho, hk⟩
theorem vComb_step (n k : Nat) (rows : List (List Nat)) (c : List Nat) : vAddS n (vComb n rows c k) (rows.getD k []) (c.getD k 0) = vComb n rows c (k + 1) := vComb_succ n k rows c
theorem rowsXs_at' {rs : List RowV} {k : Nat} {r : RowV} (h : rs[k]? = some r) : (rowsXs rs).getD k [] = r.xs := by
  simp [rowsXs, List.getD_eq_getElem?_getD, h]
end Go.Proofs.YtcjjhblgejkkeaaGreat
