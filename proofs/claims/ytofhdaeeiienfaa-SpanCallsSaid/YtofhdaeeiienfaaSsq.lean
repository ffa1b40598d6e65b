/- The contract of the document's own 'square' of layer 8. -/
import Derived.Test.YtofhdaeeiienfaaSref
import Derived.Test.YtofhdaeeiienfaaSc
namespace Go.Proofs.Ytofhdaeeiienfaa
open Go.RowKit Lin
set_option linter.unusedVariables false
set_option linter.unusedSimpArgs false
/-- Whose lead a column is, of the first r rows; -1, if none's. -/
def ldI (r : Nat) (l : Nat → Nat) (j : Nat) : Int := match leadAt r l j with
  | some i => (i : Int)
  | none => -1
def ldL (m r : Nat) (l : Nat → Nat) : List Int := (List.range m).map (ldI r l)
def ldA (m k : Nat) : List Int := (List.range m).map fun j => if j < k then -1 else 0
theorem ldA_zero (m : Nat) : ldA m 0 = List.replicate m 0 := List.ext_getElem (by simp [ldA]) fun i h1 h2 => by simp [ldA]
theorem ldA_set (m k : Nat) : (ldA m k).set k (-1) = ldA m (k + 1) := List.ext_getElem (by simp [ldA]) fun j h1 h2 => by
  simp only [List.getElem_set, ldA, List.getElem_map, List.getElem_range]
  by_cases e : k = j
  · subst e; simp
  · rw [if_neg e]
    by_cases h : j < k
    · rw [if_pos h, if_pos (by omega)]
    · rw [if_neg h, if_neg (by omega)]
theorem ldA_all (m : Nat) (l : Nat → Nat) : ldA m m = ldL m 0 l := List.ext_getElem (by simp [ldA, ldL]) fun i h1 h2 => by
  simp only [ldA, ldL, List.getElem_map, List.getElem_range]
  rw [if_pos (by simpa [ldA] using h1)]; rfl
theorem leadAt_succ (i : Nat) (l : Nat → Nat) (j : Nat) : leadAt (i + 1) l j = (leadAt i l j).or (if l i = j then some i else none) := by
  rw [leadAt, List.range_succ, List.find?_append]
  congr 1
  by_cases h : l i = j
  · simp [h]
  · simp [h]
theorem ldL_set {m i : Nat} {l : Nat → Nat} (h : ∀ t, t < i → l t ≠ l i) : (ldL m i l).set (l i) (i : Int) = ldL m (i + 1) l := List.ext_getElem (by simp [ldL]) fun j h1 h2 => by
  simp only [List.getElem_set, ldL, List.getElem_map, List.getElem_range]
  by_cases e : l i = j
  · rw [if_pos e, ldI, leadAt_succ]
    have hn : leadAt i l j = none := by
      cases hx : leadAt i l j with
      | none => rfl
      | some t => exact absurd ((leadAt_some hx).2.trans e.symm) (h t (leadAt_some hx).1)
    rw [hn, if_pos e]; rfl
  · rw [if_neg e, ldI, ldI, leadAt_succ, if_neg e, Option.or_none]
theorem ldL_at {m r j : Nat} (l : Nat → Nat) (h : j < m) : (ldL m r l).getD j 0 = ldI r l j := by
  rw [ldL, List.getD_eq_getElem?_getD, List.getElem?_map, List.getElem?_range h]; rfl
def cellSq (R : List (List Nat)) (l : Nat → Nat) (k x : Nat) : Nat := match leadAt R.length l x with
  | some i => (R.getD i []).getD k 0
  | none => if x = k then 1 else 0
theorem cellSq_some {R : List (List Nat)} {l : Nat → Nat} {k x i : Nat} (h : leadAt R.length l x = some i) : cellSq R l k x = (R.getD i []).getD k 0 := by rw [cellSq, h]
theorem cellSq_none {R : List (List Nat)} {l : Nat → Nat} {k x : Nat} (h : leadAt R.length l x = none) : cellSq R l k x = if x = k then 1 else 0 := by rw [cellSq, h]
/-- A row for column k, the first j of its numbers told. -/
def vPart (m : Nat) (R : List (List Nat)) (l : Nat → Nat) (k j : Nat) : List Nat := (List.range m).map fun x => if x < j then cellSq R l k x else if x = k then 1 else 0
theorem vPart_zero {m k : Nat} (R : List (List Nat)) (l : Nat → Nat) : (List.replicate m 0).set k 1 = vPart m R l k 0 := List.ext_getElem (by simp [vPart]) fun x h1 h2 => by
  simp only [List.getElem_set, vPart, List.getElem_map, List.getElem_range, List.getElem_replicate]
  by_cases e : k = x
  · subst e; simp
  · rw [if_neg e, if_neg (by omega), if_neg (fun e2 => e e2.symm)]
theorem vPart_all (m : Nat) (R : List (List Nat)) (l : Nat → Nat) (k : Nat) : vPart m R l k m = rowSq m R l k := by
  rw [vPart]
  show _ = (List.range m).map (cellSq R l k)
  exact List.map_congr_left fun x hx => by rw [if_pos (List.mem_range.1 hx)]
theorem vPart_skip {m k j : Nat} {R : List (List Nat)} {l : Nat → Nat} (h : leadAt R.length l j = none) : vPart m R l k (j + 1) = vPart m R l k j := by
  rw [vPart, vPart]
  refine List.map_congr_left fun x _ => ?_
  by_cases e : x = j
  · subst e
    rw [if_pos (Nat.lt_succ_self x), if_neg (Nat.lt_irrefl x), cellSq_none h]
  · by_cases hx : x < j
    · rw [if_pos hx, if_pos (Nat.lt_succ_of_lt hx)]
    · rw [if_neg hx, if_neg (show ¬ x < j + 1 by omega)]
theorem vPart_set {m k j i : Nat} {R : List (List Nat)} {l : Nat → Nat} (h : leadAt R.length l j = some i) : (vPart m R l k j).set j ((R.getD i []).getD k 0) = vPart m R l k (j + 1) := List.ext_getElem (by simp [vPart]) fun x h1 h2 => by
  simp only [List.getElem_set, vPart, List.getElem_map, List.getElem_range]
  by_cases e : j = x
  · subst e
    rw [if_pos rfl, if_pos (Nat.lt_succ_self j), cellSq_some h]
  · rw [if_neg e]
    by_cases hx : x < j
    · rw [if_pos hx, if_pos (Nat.lt_succ_of_lt hx)]
    · rw [if_neg hx, if_neg (show ¬ x < j + 1 by omega)]
theorem vPart_len (m : Nat) (R : List (List Nat)) (l : Nat → Nat) (k j : Nat) : (vPart m R l k j).length = m := by simp [vPart]
/-- The rows for the first k columns. -/
def sqTo (m : Nat) (R : List (List Nat)) (l : Nat → Nat) (k : Nat) : List (List Nat) := ((List.range k).filter fun x => (leadAt R.length l x).isNone).map (rowSq m R l)
theorem sqTo_skip {m k i : Nat} {R : List (List Nat)} {l : Nat → Nat} (h : leadAt R.length l k = some i) : sqTo m R l (k + 1) = sqTo m R l k := by
  rw [sqTo, List.range_succ, List.filter_append, List.map_append]; simp [h, sqTo]
theorem sqTo_more {m k : Nat} {R : List (List Nat)} {l : Nat → Nat} (h : leadAt R.length l k = none) : sqTo m R l (k + 1) = sqTo m R l k ++ [rowSq m R l k] := by
  rw [sqTo, List.range_succ, List.filter_append, List.map_append]; simp [h, sqTo]
theorem sqTo_len (m : Nat) (R : List (List Nat)) (l : Nat → Nat) (k : Nat) : (sqTo m R l k).length ≤ k := by
  rw [sqTo, List.length_map]
  exact Nat.le_trans (List.length_filter_le _ _) (by simp)
section
variable {w : World} {A : Option Addr} {n c m : Nat} {M : List (List Nat)}
set_option maxRecDepth 100000 in
set_option maxHeartbeats 4000000 in
theorem rsquare_mat (h : Mat w ⟨A, n, c, M⟩) (hM : RowsOk m M) (hn : n ≤ 900) (hm : m ≤ 400) :
    Calls Try.prog 57 #[.slice A n c, .int .i64 (m : Int)] w fun e w' => ∃ A' n' c' l, e = .returned (.slice A' n' c') ∧ Red (reduceN M).length (fn (reduceN M)) l ∧ Mat w' ⟨A', n', c', squareL m (reduceN M) l⟩ ∧ n' ≤ m ∧ Keep w w' := by
  have hr := rreduce_mat h (by omega) (Nat.le_trans hM.sz.sizeC_le (by omega))
  rw [hM.sz.sizeE] at hr
  obtain ⟨hok, l, hl⟩ := hM.red.1
  have hlen := redL_length hM.red.1
  obtain ⟨R, hR⟩ : ∃ R, reduceN M = R := ⟨_, rfl⟩
  rw [hR] at hr hok hl hlen ⊢
  obtain ⟨p, hp⟩ : ∃ p, R.length = p := ⟨_, rfl⟩
  have HLD : Hid (∀ i, i < p → l i < m) := fun i hi => (red_lead hok hl (by rw [hp]; exact hi)).2
  rw [hp] at hlen
  have HL := Lib.hid hl
  have HP := Lib.hid hp
  have HSZ : Hid (Sz p m R) := ⟨hp, hok⟩
  have HR := Lib.hid hr
  have HOne : Hid (∀ i, i < p → (R.getD i []).getD (l i) 0 = 1 ∧ ∀ j, j < l i → (R.getD i []).getD j 0 = 0) := fun i hi => by
    have hi2 : i < R.length := by rw [hp]; exact hi
    have hb := (HSZ.out.at_ hi).2
    refine ⟨?_, fun j hj => ?_⟩
    · have := congrArg By.v (hl.one i hi2)
      rwa [show (fn R i (l i)).v = (R.getD i []).getD (l i) 0 from vec_v hb _] at this
    · have := congrArg By.v (hl.low i j hi2 hj)
      rwa [show (fn R i j).v = (R.getD i []).getD j 0 from vec_v hb _] at this
  have HInj : Hid (∀ i t, i < p → t < i → l t ≠ l i) := fun i t hi ht e => by
    have := hl.inc t i ht (by rw [hp]; exact hi)
    omega
  have mk1 := fun w => run_make_ints (P := Try.prog) Try.underlying108 infoI m (by omega) w
  have mk2 := fun w => run_make_bytes (P := Try.prog) Try.underlying23 info5 m (by omega) w
  clear h hr hok hl hR hp hM
  go_enter Try.func57, Try.ntmps57
  go_wp2_with fail
  refine HR.out.mono ?_
  rintro e w1 ⟨A1, n1, c1, rfl, m1, k1⟩
  obtain rfl : p = n1 := by have := m1.cnt HSZ.out; exact this.symm
  have M1 := Lib.hid m1
  have K1 := Lib.hid k1
  clear m1 k1 HR
  obtain ⟨g, hg⟩ : ∃ g, w1.heap.size = g := ⟨_, rfl⟩
  have hO := OwnInts.made w1 m (by omega)
  rw [hg, ← ldA_zero m] at hO
  generalize hMC : madeCells #[Value.int .i64 0] m = MC at *
  have HO := Lib.hid hO
  have HG := Lib.hid hg
  have KW2 : Hid (Keep w1 (w1.alloc (.cells MC 3))) := (Keep.refl w1).obj _
  have HGL : Hid (g < (w1.alloc (.cells MC 3)).heap.size) := by show _ < _; rw [size_obj, hg]; exact Nat.lt_succ_self g
  clear hO hg hMC
  go_upto_region 3 with fail
  try rw [HG.out]
  generalize w1.alloc (.cells MC 3) = w2 at *
  clear mk1
  go_wp2_with fail
  go_loopw [8] (fun kv wr => ∃ k : Nat, k ≤ m ∧ kv = .int .i64 k ∧ OwnInts wr g (some ⟨g, 0, none⟩) m m (ldA m k) ∧ Turned (fun b => b = g) w2 wr) (fun kv _ => m - (intOf kv).toNat)
  case atStart => exact ⟨0, by omega, rfl, HO.out, Turned.refl _ _⟩
  case round =>
    clear HO
    obtain ⟨k, hk, rfl, hO, hT⟩ := hrel
    by_cases hlt : k < m
    · have e1 : (0 : Int) ≤ (k : Int) := Int.natCast_nonneg _
      have e2 : (k : Int) < (m : Int) := by omega
      have d6 := hO.frozen k
      have d7 := hO.cell hlt
      have o2 := hO.stored k (-1)
      rw [ldA_set] at o2
      have O2 := Lib.hid o2
      have T2 := Lib.hid (hT.trans (Turned.set (F := fun b => b = g) wr ⟨g, k, none⟩ (.int .i64 (-1)) rfl) fun i e => Or.inl e)
      clear hO hT o2
      go_wp2_with fail
      go_roundw
      case rel => exact ⟨k + 1, by omega, by go_num, O2.out, T2.out⟩
      case measure => simp [intOf]; omega
    · obtain rfl : k = m := by omega
      rw [ldA_all k l] at hO
      have O2 := Lib.hid hO
      have T2 := Lib.hid hT
      clear hO hT
      go_wp2_with fail
      go_loopw [9] (fun iv wr => ∃ i : Nat, i ≤ p ∧ iv = .int .i64 i ∧ OwnInts wr g (some ⟨g, 0, none⟩) k k (ldL k i l) ∧ Turned (fun b => b = g) w2 wr) (fun iv _ => p - (intOf iv).toNat)
      case atStart => exact ⟨0, by omega, rfl, O2.out, T2.out⟩
      case round =>
        clear O2 T2
        obtain ⟨i, hi, rfl, hO, hT⟩ := hrel
        by_cases hlti : i < p
        · have hkW : Keep w1 wr := hT.keep KW2.out fun b e => by rw [e, HG.out]; exact Nat.le_refl _
          obtain ⟨b, off, Ay, cy, rfl, hb, hc, hby, _, _⟩ := (M1.out.keep hkW).row_at HSZ.out hlti
          have e1 : (0 : Int) ≤ (i : Int) := Int.natCast_nonneg _
          have e2 : (i : Int) < (p : Int) := by omega
          have hli := HLD.out i hlti
          have o2 := hO.stored (l i) (i : Int)
          rw [ldL_set (HInj.out i · hlti)] at o2
          have O2 := Lib.hid o2
          have T2 := Lib.hid (hT.trans (Turned.set (F := fun b => b = g) wr ⟨g, l i, none⟩ (.int .i64 (i : Int)) rfl) fun i e => Or.inl e)
          have d6 := hO.frozen (l i)
          have d7 := hO.cell hli
          have HB := Lib.hid hby
          have h1 := HOne.out i hlti
          have H1 := Lib.hid h1
          obtain ⟨q, hq⟩ : ∃ q, l i = q := ⟨_, rfl⟩
          rw [hq] at O2 T2 d6 d7 H1 hli
          obtain ⟨y, hy⟩ : ∃ y, R.getD i [] = y := ⟨_, rfl⟩
          rw [hy] at HB H1
          clear hO hT hkW hby o2 h1 hq hy
          go_wp2_with fail
          go_loopw [10] (fun kv wz => ∃ x : Nat, x ≤ q ∧ kv = .int .i64 x ∧ wz = wr) (fun kv _ => q - (intOf kv).toNat)
          case atStart => exact ⟨0, by omega, rfl, by first | rfl | trivial⟩
          case round =>
            obtain ⟨x, hx, rfl, rfl⟩ := hrel
            obtain ⟨b2, o2, rfl, hb2, hcx⟩ := HB.out.at_ (show x < k by omega)
            have f1 : (0 : Int) ≤ (x : Int) := Int.natCast_nonneg _
            have f2 : (x : Int) < (k : Int) := by omega
            by_cases hxq : x < q
            · have hz : y.getD x 0 = 0 := H1.out.2 x hxq
              rw [hz] at hcx
              have z1 : (((0 : Nat) : Int) == 0) = true := rfl
              go_wp2_with fail
              go_roundw
              case rel => exact ⟨x + 1, by omega, by go_num, by first | rfl | trivial⟩
              case measure => simp [intOf]; omega
            · obtain rfl : x = q := by omega
              have hz : y.getD x 0 = 1 := H1.out.1
              rw [hz] at hcx
              have z1 : (((1 : Nat) : Int) == 0) = false := rfl
              clear hz
              go_wp2_with fail
              go_roundw
              case rel => exact ⟨i + 1, by omega, by go_num, O2.out, T2.out⟩
              case measure => simp [intOf]; omega
        · obtain rfl : i = p := by omega
          have hkW : Keep w1 wr := hT.keep KW2.out fun b e => by rw [e, HG.out]; exact Nat.le_refl _
          have KWR := Lib.hid hkW
          have O3 := Lib.hid hO
          have MR := Lib.hid (M1.out.keep hkW)
          have hgl : g < wr.heap.size := by
            rcases Nat.eq_zero_or_pos k with h0 | h0
            · have h2 : g < w2.heap.size := HGL.out
              exact Nat.lt_of_lt_of_le h2 hT.size
            · exact World.block_lt_of_cell? _ _ (hO.cell h0)
          have HGR := Lib.hid hgl
          clear hO hT hkW hgl
          go_wp2_with fail
          go_loopw [11, 12] (fun mv kv wz => ∃ (x : Nat) (A5 : Option Addr) (n5 c5 : Nat) (rs : List RowV), x ≤ k ∧ n5 ≤ x ∧ kv = .int .i64 x ∧ mv = .slice A5 n5 c5 ∧ Lay wr wz A5 n5 c5 rs ∧ rowsXs rs = sqTo k R l x) (fun _ kv _ => k - (intOf kv).toNat)
          case atStart => exact ⟨0, none, 0, 0, [], by omega, by omega, rfl, rfl, Lay.nothing wr, rfl⟩
          case round =>
            obtain ⟨x, A5, n5, c5, rs, hx, hnx, rfl, rfl, hL, hxs⟩ := hrel
            by_cases hltx : x < k
            · have f1 : (0 : Int) ≤ (x : Int) := Int.natCast_nonneg _
              have f2 : (x : Int) < (k : Int) := by omega
              have d1 := (hL.keep.cell (p := ⟨g, x, none⟩) HGR.out).trans (O3.out.cell hltx)
              rw [ldL_at l hltx] at d1
              have HLY := Lib.hid hL
              have HXS := Lib.hid hxs
              cases hld : leadAt i l x with
              | some t =>
                have hv : ldI i l x = (t : Int) := by rw [ldI, hld]
                rw [hv] at d1
                have ht : (0 : Int) ≤ (t : Int) := Int.natCast_nonneg _
                have hsk : Hid (rowsXs rs = sqTo k R l (x + 1)) := by
                  show _ = _
                  rw [sqTo_skip (by rw [HP.out]; exact hld)]; exact hxs
                clear hL hxs hld hv
                go_wp2_with fail
                go_roundw
                case rel => exact ⟨x + 1, A5, n5, c5, rs, by omega, by omega, by go_num, rfl, HLY.out, hsk.out⟩
                case measure => simp [intOf]; omega
              | none =>
                have hv : ldI i l x = -1 := by rw [ldI, hld]
                rw [hv] at d1
                have HMO : Hid (sqTo k R l (x + 1) = sqTo k R l x ++ [rowSq k R l x]) := sqTo_more (by rw [HP.out]; exact hld)
                obtain ⟨gr, hgr⟩ : ∃ gr, wr.heap.size = gr := ⟨_, rfl⟩
                have oR := Own.made wr 5 k (by omega)
                rw [hgr] at oR
                have kR : Keep wr (wr.alloc (.cells (madeCells #[.int .u8 0] k) 5)) := (Keep.refl wr).obj _
                generalize madeCells #[.int .u8 0] k = MC2 at *
                have oc := oR.cell hltx
                have of := oR.frozen x
                have o1 := oR.stored (i := x) (v := 1) (by omega)
                rw [vPart_zero R l] at o1
                have OS : Hid (Own ((wr.alloc (.cells MC2 5)).setCell ⟨gr, x, none⟩ (.int .u8 1)) gr 5 (some ⟨gr, 0, none⟩) k k (vPart k R l x 0)) := o1
                have KS : Hid (Keep wr ((wr.alloc (.cells MC2 5)).setCell ⟨gr, x, none⟩ (.int .u8 1))) := kR.setCell (a := ⟨gr, x, none⟩) (by rw [hgr]; exact Nat.le_refl _) _
                have HGRR := Lib.hid hgr
                clear hL hxs hld hv oR kR o1 hgr
                go_upto_region 20 with fail
                try rw [HGRR.out]
                go_upto_region 21 with fail
                generalize (wr.alloc (.cells MC2 5)).setCell ⟨gr, x, none⟩ (.int .u8 1) = ws at *
                clear oc of
                go_wp2_with fail
                go_loopw [14] (fun jv wy => ∃ j : Nat, j ≤ k ∧ jv = .int .i64 j ∧ Own wy gr 5 (some ⟨gr, 0, none⟩) k k (vPart k R l x j) ∧ Keep wr wy) (fun jv _ => k - (intOf jv).toNat)
                case atStart => exact ⟨0, by omega, rfl, OS.out, KS.out⟩
                case round =>
                  clear OS KS d1
                  obtain ⟨j, hj, rfl, hOy, hKy⟩ := hrel
                  by_cases hltj : j < k
                  · have i1 : (0 : Int) ≤ (j : Int) := Int.natCast_nonneg _
                    have i2 : (j : Int) < (k : Int) := by omega
                    have hKa := HLY.out.keep.trans hKy
                    have d2 := (hKa.cell (p := ⟨g, j, none⟩) HGR.out).trans (O3.out.cell hltj)
                    rw [ldL_at l hltj] at d2
                    have HOY := Lib.hid hOy
                    have HKY := Lib.hid hKy
                    cases hld : leadAt i l j with
                    | some t =>
                      have hv : ldI i l j = (t : Int) := by rw [ldI, hld]
                      rw [hv] at d2
                      have htp := (leadAt_some hld).1
                      obtain ⟨b, off, Ay, cy, rfl, hb, hc, hby, _, _⟩ := (MR.out.keep hKa).row_at HSZ.out htp
                      obtain ⟨b2, o2, rfl, hb2, hcx⟩ := hby.at_ hltx
                      have hq := (HSZ.out.at_ htp).2.getD x
                      have ht : (0 : Int) ≤ (t : Int) := Int.natCast_nonneg _
                      have ht2 : (t : Int) < (i : Int) := by omega
                      have o2' := hOy.stored (i := j) (v := (R.getD t []).getD x 0) hq
                      rw [vPart_set (by rw [HP.out]; exact hld)] at o2'
                      have ocj := hOy.cell hltj
                      have ofj := hOy.frozen j
                      have O2 := Lib.hid o2'
                      have K2 := Lib.hid (hKy.setCell (a := ⟨gr, j, none⟩) (by rw [HGRR.out]; exact Nat.le_refl _) (.int .u8 (((R.getD t []).getD x 0 : Nat) : Int)))
                      generalize (R.getD t []).getD x 0 = z at *
                      clear hOy hKy hKa hld hv hby o2'
                      go_wp2_with fail
                      go_roundw
                      case rel => exact ⟨j + 1, by omega, by go_num, O2.out, K2.out⟩
                      case measure => simp [intOf]; omega
                    | none =>
                      have hv : ldI i l j = -1 := by rw [ldI, hld]
                      rw [hv] at d2
                      have hsk : Hid (vPart k R l x (j + 1) = vPart k R l x j) := vPart_skip (by rw [HP.out]; exact hld)
                      clear hOy hKy hKa hld hv
                      go_wp2_with fail
                      go_roundw
                      case rel => exact ⟨j + 1, by omega, by go_num, by rw [hsk.out]; exact HOY.out, HKY.out⟩
                      case measure => simp [intOf]; omega
                  · obtain rfl : j = k := by omega
                    rw [vPart_all] at hOy
                    have HOY := Lib.hid hOy
                    have HLZ := Lib.hid (HLY.out.later hKy)
                    have HXZ : Hid (rowsXs (rs ++ [⟨some ⟨gr, 0, none⟩, j, j, rowSq j R l x⟩]) = sqTo j R l (x + 1)) := by
                      show _ = _
                      rw [HMO.out, ← HXS.out]; simp [rowsXs]
                    clear hOy hKy
                    go_wp2_with (at_builtin; refine wpList_append_layrow rfl _ _ 22 rfl ⟨some ⟨gr, 0, none⟩, j, j, rowSq j R l x⟩ 23 Try.underlying22 rfl HLZ.out (HLZ.out.own HOY.out) rfl (by omega) ?_)
                    intro A8 c8 w8 h8
                    have H8 := Lib.hid h8
                    clear h8
                    go_wp2_with fail
                    go_roundw
                    case rel => exact ⟨x + 1, A8, n5 + 1, c8, _, by omega, by omega, by go_num, by push_cast; rfl, H8.out, HXZ.out⟩
                    case measure => simp [intOf]; omega
            · obtain rfl : x = k := by omega
              have hm := hL.mat
              have hxs2 : rowsXs rs = squareL x R l := hxs
              rw [hxs2] at hm
              have HM := Lib.hid hm
              have HK := Lib.hid (K1.out.trans (KWR.out.trans hL.keep))
              clear hL hxs hxs2 hm
              go_wp2_with fail
              go_ret
              exact ⟨A5, n5, c5, l, rfl, HL.out, HM.out, hnx, HK.out⟩
end
end Go.Proofs.Ytofhdaeeiienfaa
