/- Contracts of the document's own answers of layer 7: rows, sums of bytes, what coefficients make of symbols. -/
import Derived.Test.YticllkklbogcnaaSt
import Derived.Test.YticllkklbogcnaaOwn
import Derived.Test.YticllkklbogcnaaMulB
import Derived.Test.YticllkklbogcnaaVecB
import Derived.Test.YticllkklbogcnaaRowsMk
import Derived.Test.YticllkklbogcnaaRegion
import Derived.Laws.Rows
import Derived.StillTailTactics
namespace Go.Proofs.Yticllkklbogcnaa
open Go.RowKit
set_option linter.unusedVariables false
set_option linter.unusedSimpArgs false
theorem infoRowSize : (Try.prog.info? 33).map (·.size) = some 2 := by kernel_rfl
/-- A row is made: its cell is a block of its own. -/
theorem rowR_any (A B : Option Addr) (n m c d : Nat) (w : World) :
    Calls Try.prog 35 #[.slice A n c, .slice B m d] w fun e w' => e = .returned (.agg #[.slice A n c, .slice B m d]) ∧ Keep w w' := by
  go_enter Try.func35, Try.ntmps35
  go_wp2_with fail
  refine bodyPost_ret (v := .agg #[.slice A n c, .slice B m d]) ?_ rfl ⟨rfl, (Keep.refl w).alloc _ _⟩
  exact results_cell_row (p := 4) (ty := 33) rfl _ _ w.heap.size 33 _ (0, 0) _ rfl (heap_alloc_new _ _) Try.underlying33 rfl infoRowSize
/-- What a sum of bytes has done: the first i places. -/
def partS (n : Nat) (xs ys : List Nat) (c i : Nat) : List Nat := tab n fun j => if j < i then xs.getD j 0 ^^^ mulN (ys.getD j 0) c else xs.getD j 0
theorem partS_zero {n : Nat} {xs : List Nat} (ys : List Nat) (c : Nat) (h : xs.length = n) : partS n xs ys c 0 = xs := by
  subst h
  exact (tab_congr fun j _ => by rw [if_neg (by omega)]).trans (tab_self xs)
theorem partS_all (n : Nat) (xs ys : List Nat) (c : Nat) : partS n xs ys c n = vAddS n xs ys c := tab_congr fun j hj => by rw [if_pos hj]
theorem partS_getD {n : Nat} (xs ys : List Nat) (c : Nat) {i : Nat} (hi : i < n) : (partS n xs ys c i).getD i 0 = xs.getD i 0 := by rw [partS, tab_getD, if_pos hi, if_neg (by omega)]
theorem partS_set {n : Nat} (xs ys : List Nat) (c : Nat) {i : Nat} (hi : i < n) : (partS n xs ys c i).set i (xs.getD i 0 ^^^ mulN (ys.getD i 0) c) = partS n xs ys c (i + 1) := by
  refine list_ext (by simp [partS, tab_length]) fun j hj => ?_
  rw [List.length_set, partS, tab_length] at hj
  have e2 : (partS n xs ys c (i + 1)).getD j 0 = if j < i + 1 then xs.getD j 0 ^^^ mulN (ys.getD j 0) c else xs.getD j 0 := by rw [partS, tab_getD, if_pos hj]
  rw [e2, List.getD_eq_getElem?_getD, List.getElem?_set]
  by_cases e : i = j
  · subst e
    rw [if_pos rfl, if_pos (by simp [partS, tab_length]; omega), if_pos (by omega)]; rfl
  · rw [if_neg e, ← List.getD_eq_getElem?_getD, partS, tab_getD, if_pos hj]
    by_cases h1 : j < i
    · rw [if_pos h1, if_pos (by omega)]
    · rw [if_neg h1, if_neg (by omega)]
set_option maxRecDepth 100000 in
set_option maxHeartbeats 1000000 in
theorem rplus_any (B B' n m ca cb c : Nat) (A A' : Option Addr) (xs ys : List Nat) (w : World) (h : Bytes w B A n xs) (h' : Bytes w B' A' m ys) (hB : B ≤ w.heap.size) (hB' : B' ≤ w.heap.size) (hn : n ≤ 1000000) (hm : n ≤ m) (hc : c < 256) :
    Calls Try.prog 50 #[.slice A n ca, .slice A' m cb, .int .u8 c] w (NewBytes w (vAddS n xs ys c)) := by
  have HH := Lib.hid (And.intro h h')
  clear h h'
  go_enter Try.func50, Try.ntmps50
  go_wp2_with fail
  refine (rown_any B n ca A xs _ HH.out.1 (by omega)).mono ?_
  rintro e w1 ⟨A1, n1, c1, rfl, o1, k1⟩
  obtain rfl : n = n1 := by rw [← o1.length, HH.out.1.length]
  have O1 := Lib.hid o1
  have K1 := Lib.hid k1
  have HL := Lib.hid (own_le' o1)
  clear o1 k1
  go_wp2_with fail
  go_loopw [8] (fun i wr => ∃ j : Nat, j ≤ n ∧ i = .int .i64 j ∧ Own wr w.heap.size 5 A1 n c1 (partS n xs ys c j) ∧ Keep w wr) (fun i _ => n - (intOf i).toNat)
  case atStart => exact ⟨0, by omega, rfl, by rw [partS_zero ys c HH.out.1.length]; exact O1.out, K1.out⟩
  case round =>
    obtain ⟨j, hj, rfl, ho, hk⟩ := hrel
    by_cases hlt : j < n
    · obtain ⟨g, rfl, hg, hgl⟩ := ho.block (by omega)
      have cx := ho.cell hlt
      rw [partS_getD xs ys c hlt] at cx
      have fx := ho.frozen j
      obtain ⟨b2, o2, rfl, hb2, cy⟩ := (HH.out.2.keep hB' hk).at_ (show j < m by omega)
      have hx := HH.out.1.all.getD j
      have hy := HH.out.2.all.getD j
      have hst := partS_set xs ys c hlt
      generalize xs.getD j 0 = x at *
      generalize ys.getD j 0 = y at *
      obtain ⟨p, hp⟩ : ∃ p, mulN y c = p := ⟨_, rfl⟩
      have hp2 : p < 256 := by rw [← hp]; exact mulN_lt _ hy
      rw [hp] at hst
      have hxor := u8_xor_nat x p hx hp2
      obtain ⟨v, hv⟩ : ∃ v, x ^^^ p = v := ⟨_, rfl⟩
      have hv2 : v < 256 := by rw [← hv]; exact xor_lt hx hp2
      rw [hv] at hst hxor
      have C0 : Hid (Calls Try.prog 66 #[.int .u8 y, .int .u8 c] wr.drew fun e w' => e = .returned (.int .u8 (p : Int)) ∧ w' = wr.drew) := (rmul_eq y c p hy hc hp _).mono fun e w' h => ⟨h.1, h.2.symm⟩
      have HST := Lib.hid hst
      have HV := Lib.hid (And.intro hv2 (ho.1.lt g rfl).1)
      have HO := Lib.hid ho
      have HK := Lib.hid hk
      have e1 : (0 : Int) ≤ (j : Int) := Int.natCast_nonneg _
      have e2 : (j : Int) < (n : Int) := by omega
      have e3 : (j : Int) < (m : Int) := by omega
      clear ho hk hst hp hv hv2
      go_wp2_with fail
      refine wp_region_still_tail (w := wr) 14 (by kernel_rfl) (by kernel_rfl) ?_
      simp only [List.take_succ_cons, List.take_zero, List.drop_succ_cons, List.drop_zero]
      change wpStill _ _ (World.drew wr) _ _ _
      iterate 11 still_step
      still_call C0.out
      iterate 2 still_step
      refine wpStill_nil ?_
      change wpList _ _ _ _ _ (World.drew wr)
      go_wp2_with fail
      go_roundw
      case rel => exact ⟨j + 1, by omega, by go_num, by rw [← HST.out]; exact ⟨(HO.out.stored HV.out.1).1, (HO.out.stored (i := j) HV.out.1).2⟩, HK.out.drew.setCell HV.out.2 _⟩
      case measure => simp [intOf]; omega
    · obtain rfl : j = n := by omega
      rw [partS_all] at ho
      go_wp2_with fail
      go_ret
      exact ⟨_, _, _, rfl, ho, hk⟩
theorem vComb_step (n k : Nat) (rows : List (List Nat)) (c : List Nat) : vAddS n (vComb n rows c k) (rows.getD k []) (c.getD k 0) = vComb n rows c (k + 1) := vComb_succ n k rows c
theorem rowsXs_at' {rs : List RowV} {k : Nat} {r : RowV} (h : rs[k]? = some r) : (rowsXs rs).getD k [] = r.xs := by
  simp [rowsXs, List.getD_eq_getElem?_getD, h]
set_option maxRecDepth 100000 in
set_option maxHeartbeats 1000000 in
/-- Coefficients times symbols, as many of each. -/
theorem rtimes_any (B g s ca cb : Nat) (A A' : Option Addr) (F : Nat → Prop) (cs : List Nat) (rs : List RowV) (w : World) (h : Bytes w B A g cs) (h' : RowsIn w F A' g rs) (hB : B ≤ w.heap.size) (hF : ∀ b, F b → b < w.heap.size) (hg : g ≤ 1000) (hs : s ≤ 100000) (hrn : ∀ r ∈ rs, r.n = s) :
    Calls Try.prog 29 #[.slice A g ca, .slice A' g cb, .int .i64 (s : Int)] w (NewBytes w (vComb s (rowsXs rs) cs g)) := by
  have HH := Lib.hid (And.intro h h')
  have HF := Lib.hid hF
  have HRN := Lib.hid hrn
  have mkb := fun w => run_make_bytes (P := Try.prog) Try.underlying31 info5 s (by omega) w
  clear h h' hF hrn
  go_enter Try.func29, Try.ntmps29
  go_wp2_with fail
  go_loopw [7, 8] (fun o i wr => ∃ (j : Nat) (A1 : Option Addr) (c1 : Nat), j ≤ g ∧ i = .int .i64 j ∧ o = .slice A1 s c1 ∧ Own wr w.heap.size 5 A1 s c1 (vComb s (rowsXs rs) cs j) ∧ Keep w wr) (fun _ i _ => g - (intOf i).toNat)
  case atStart => exact ⟨0, _, s, by omega, rfl, rfl, by rw [vComb_zero]; exact Own.made w 5 s (by omega), (Keep.refl w).alloc _ _⟩
  case round =>
    obtain ⟨j, A1, c1, hj, rfl, rfl, ho, hk⟩ := hrel
    by_cases hlt : j < g
    · obtain ⟨b1, o1, rfl, hb1, cc⟩ := (HH.out.1.keep hB hk).at_ hlt
      obtain ⟨b2, o2, r, rfl, hb2, hr, cr, hl⟩ := (HH.out.2.turned (Turned.of_keep (F := fun _ => False) hk) fun _ _ e => e).at_ hlt
      have hx := HH.out.1.all.getD j
      have hrn := HRN.out r (List.mem_of_getElem? hr)
      rw [hrn] at cr
      have HBY : Hid (Bytes wr wr.heap.size r.A s r.xs) := by
        have := hl.bytes (B := wr.heap.size) fun b hb => Nat.lt_of_lt_of_le (HF.out b hb) hk.size
        rw [hrn] at this; exact this
      have hst := vComb_step s j (rowsXs rs) cs
      rw [rowsXs_at' hr] at hst
      generalize cs.getD j 0 = x at *
      have HST := Lib.hid hst
      have HO := Lib.hid ho
      have HK := Lib.hid hk
      have e1 : (0 : Int) ≤ (j : Int) := Int.natCast_nonneg _
      have e2 : (j : Int) < (g : Int) := by omega
      clear ho hk hst hr hl hrn hb1 hb2
      go_wp2_with fail
      refine wp_region_still_tail (w := wr) 9 (by kernel_rfl) (by kernel_rfl) ?_
      simp only [List.take_succ_cons, List.take_zero, List.drop_succ_cons, List.drop_zero]
      change wpStill _ _ (World.drew wr) _ _ _
      iterate 9 still_step
      refine wpStill_nil ?_
      change wpList _ _ _ _ _ (World.drew wr)
      go_wp2_with fail
      refine (rplus_any _ _ s s c1 _ x A1 r.A _ r.xs _ HO.out.drew.bytes (HBY.out.keep (Nat.le_refl _) (Keep.drew (Keep.refl _))) (Nat.le_refl _) (Nat.le_refl _) (by omega) (Nat.le_refl _) hx).mono ?_
      rintro e w2 ⟨A2, n2, c2, rfl, o2', k2⟩
      obtain rfl : s = n2 := by rw [← o2'.length]; exact (tab_length _ _).symm
      have O2 := Lib.hid (o2'.lower (base' := w.heap.size) HK.out.size)
      have K2 := Lib.hid (HK.out.drew.trans k2)
      clear o2' k2
      go_wp2_with fail
      go_roundw
      case rel => exact ⟨j + 1, A2, c2, by omega, by go_num, rfl, by rw [← HST.out]; exact O2.out, K2.out⟩
      case measure => simp [intOf]; omega
    · obtain rfl : j = g := by omega
      go_wp2_with fail
      go_ret
      exact ⟨_, _, _, rfl, ho, hk⟩
end Go.Proofs.Yticllkklbogcnaa
