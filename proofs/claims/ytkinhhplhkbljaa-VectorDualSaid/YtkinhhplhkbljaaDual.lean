/- The walk of VectorDual. -/
import Derived.Test.YtkinhhplhkbljaaCuts
namespace Go.Proofs.Ytkinhhplhkbljaa
open Go.RowKit
def dots (n : Nat) (rs : List RowV) (V : List Nat) (j : Nat) : List Nat := tab j fun i => vDot n (rowAt n rs i) V
set_option maxRecDepth 100000 in
set_option maxHeartbeats 4000000 in
theorem dual_any (na ca nb cb nv cv : Nat) (A1 A2 A3 : Option Addr) (rs : List RowV) (cs vs : List Nat) (w : World) (h1 : RowsAt w w.heap.size A1 na rs) (h2 : Bytes w w.heap.size A2 nb cs) (h3 : Bytes w w.heap.size A3 nv vs)
    (m1 : na ≤ 140737488351232) (m2 : nb ≤ 140737488351232) (m3 : nv ≤ 140737488351232) (_q1 : na ≤ ca) (q2 : nb ≤ cb) (q3 : nv ≤ cv) :
    Calls Try.prog 8 #[.slice A1 na ca, .slice A2 nb cb, .slice A3 nv cv] w fun e w' => e = .returned (.bool true) ∧ Keep w w' := by
  obtain ⟨k, hk, l1, l2, l3⟩ : ∃ n : Nat, min (na : Int) (min (nb : Int) 20) = (n : Int) ∧ n ≤ na ∧ n ≤ nb ∧ n ≤ 20 := ⟨min na (min nb 20), by omega, by omega, by omega, by omega⟩
  have hmin := min3c na nb k hk
  have H1 := Lib.hid h1
  have H2 := Lib.hid h2
  have H3 := Lib.hid h3
  clear h1 h2 h3 hk
  by_cases h0 : k = 0
  · have b0 : ((k : Int) == 0) = true := beq_iff_eq.2 (by omega)
    go_enter Try.func8, Try.ntmps8
    go_wp2_with fail
    refine (wakes_any _).mono ?_
    rintro e wz ⟨rfl, sz⟩
    go_wp2_with fail
    go_ret
    exact ⟨rfl, sz⟩
  have b0 : ((k : Int) == 0) = false := beq_eq_false_iff_ne.2 (by omega)
  go_enter Try.func8, Try.ntmps8
  go_wp2_with fail
  clear hmin
  go_loop [8, 9] (fun nn i => ∃ j m : Nat, j ≤ k ∧ i = .int .i64 j ∧ nn = .int .i64 m ∧ m ≤ nv ∧ ∀ i' r, i' < j → rs[i']? = some r → m ≤ r.n) (fun _ i => k - (intOf i).toNat)
  case atStart => exact ⟨0, nv, by omega, rfl, rfl, by omega, fun i r hi => by omega⟩
  case round =>
    obtain ⟨j, m, hj, rfl, rfl, hm, hall⟩ := hrel
    have HA := Lib.hid hall
    clear hall
    by_cases hlt : j < k
    · obtain ⟨b, off, r, rfl, hb, hr, hc, hby, hrn, _⟩ := H1.out.at_ (k := j) (by omega)
      have e1 : (0 : Int) ≤ (j : Int) := Int.natCast_nonneg _
      have e2 : (j : Int) < (na : Int) := by omega
      obtain ⟨m', hm', f1, f2⟩ : ∃ m' : Nat, min (m : Int) (r.n : Int) = (m' : Int) ∧ m' ≤ m ∧ m' ≤ r.n := ⟨min m r.n, by omega, by omega, by omega⟩
      have hmin := min2 m r.n m' hm'
      have HR := Lib.hid hr
      clear hm' hr hby
      go_wp2_with fail
      go_round
      case rel =>
        refine ⟨j + 1, m', by omega, by go_num, rfl, by omega, fun i' r' hi hr' => ?_⟩
        by_cases e : i' = j
        · subst e
          rw [HR.out] at hr'
          injection hr' with hr'
          subst hr'; exact f2
        · exact Nat.le_trans f1 (HA.out i' r' (by omega) hr')
      case measure => simp [intOf]; omega
    · obtain rfl : k = j := by omega
      obtain ⟨V, hV⟩ : ∃ V, V = vs.take m := ⟨_, rfl⟩
      have a3 := H3.out.cut hm
      rw [← hV] at a3
      have B3 := Lib.hid a3
      clear hV a3
      go_wp2_with fail
      go_loopw [10, 11, 12] (fun l d i wr => ∃ (j : Nat) (Al : Option Addr) (cl : Nat) (Ad : Option Addr) (cd : Nat), j ≤ k ∧ i = .int .i64 j ∧ l = .slice Al j cl ∧ d = .slice Ad j cd ∧ OwnRows wr w.heap.size 22 Al j cl (cuts m rs j) ∧ Own wr w.heap.size 5 Ad j cd (dots m rs V j) ∧ Keep w wr) (fun _ _ i _ => k - (intOf i).toNat)
      case atStart => exact ⟨0, none, 0, none, 0, by omega, rfl, rfl, rfl, OwnRows.none_ _ _ _, Own.none_ _ _ _, Keep.refl _⟩
      case round =>
        obtain ⟨j, Al, cl, Ad, cd, hj, rfl, rfl, rfl, hl, hd, hkeep⟩ := hrel
        by_cases hlt : j < k
        · obtain ⟨b, off, r, rfl, hb, hr, hc, hby, hrn, hrc⟩ := H1.out.at_ (k := j) (by omega)
          have f := HA.out j r hlt hr
          have hcr := (hkeep.cell (p := ⟨b, off + j, none⟩) hb).trans hc
          have e1 : (0 : Int) ≤ (j : Int) := Int.natCast_nonneg _
          have e2 : (j : Int) < (na : Int) := by omega
          have e3 : (0 : Int) ≤ (m : Int) := Int.natCast_nonneg _
          have e4 : (m : Int) ≤ (r.c : Int) := by omega
          have e5 : (m : Int) ≤ (cv : Int) := by omega
          obtain ⟨p, hp⟩ : ∃ p, vDot m (r.xs.take m) V = p := ⟨_, rfl⟩
          have hp2 : p < 256 := by rw [← hp]; exact sumX_lt _ _ fun i _ => mulN_lt _ ((hby.all.take m).getD i)
          have hds : dots m rs V (j + 1) = dots m rs V j ++ [p] := by rw [dots, tab_succ, rowAt_eq hr, hp]; rfl
          have HP := Lib.hid hp
          have HDS := Lib.hid hds
          have HCS := Lib.hid (cuts_succ m rs j r hr)
          have HBY := Lib.hid (hby.cut f)
          have HC := Lib.hid hc
          have HL := Lib.hid hl
          have HD := Lib.hid hd
          have HK := Lib.hid hkeep
          have hcell : (wr.alloc (.cells #[.slice r.A m r.c] 22)).cell? ⟨wr.heap.size, 0, none⟩ = some (r.cut m).val := by
            rw [cell_of_row _ _ _ _ _ _ (heap_alloc_new wr _)]; rfl
          have HCELL := Lib.hid hcell
          clear hl hd hkeep hr hp hds hby hc hcell
          go_wp2_with (at_builtin; refine wpList_append_row rfl _ _ 41 rfl (r.cut m) Try.underlying41 info22 rfl (HL.out.alloc _) rfl HCELL.out (by omega) (by have := HK.out.size; simp; omega) ?_)
          intro A4 c4 w4 hl4 hgr4 _
          have HK4 := Lib.hid (Keep.grown (Keep.alloc HK.out _ _) hgr4 (HL.out.rowLe))
          have HD4 := Lib.hid ((HD.out.alloc (.cells #[.slice r.A m r.c] 22)).grown hgr4 (blocks_apart (HD.out.alloc (.cells #[.slice r.A m r.c] 22)) (HL.out.alloc (.cells #[.slice r.A m r.c] 22)) (by decide)))
          rw [← HCS.out] at hl4
          have HL4 := Lib.hid hl4
          have hc4 := (HK4.out.cell (p := ⟨b, off + j, none⟩) hb).trans HC.out
          clear hl4 hgr4 hcr
          go_wp2_with fail
          go_region_held3 (fun w' => w'.cell? ⟨b, off + j, none⟩ = some (.slice r.A r.n r.c))
            (first
              | go_keep
              | (rw [hk5.cell (p := ⟨b, off + j, none⟩) (by simp; have := HK4.out.size; omega)]; assumption))
            (first | (go_at_call 15; refine (vdot_any _ _ m r.c cv r.A A3 _ _ _ (HBY.out.keep (Nat.le_refl _) HK4.out).drew (B3.out.keep (Nat.le_refl _) HK4.out).drew HK4.out.size HK4.out.size (by omega)).mono ?_; rw [HP.out]; rintro e w5 ⟨rfl, hk5⟩))
          have HK5 := Lib.hid (Keep.trans (Keep.drew (Keep.refl w4)) hk5)
          have HL5 := Lib.hid (HL4.out.keep HK5.out)
          have HD5 := Lib.hid (HD4.out.keep HK5.out)
          clear hc4 hk5
          go_wp2_with (at_builtin; refine wpList_append_bytes rfl _ _ 22 rfl Try.underlying22 info5 rfl (HD5.out.alloc _) rfl (Bytes.one w5 p hp2 5) (by omega) (by have := HK4.out.size; have := HK5.out.size; simp; omega) ?_)
          intro A6 c6 w6 hd6 hgr6 _
          have HK6 := Lib.hid (Keep.grown (Keep.alloc (Keep.trans HK4.out HK5.out) _ _) hgr6 (HD5.out.rowLe))
          have HL6 := Lib.hid ((HL5.out.alloc (.cells #[.int .u8 (p : Int)] 5)).grown hgr6 (blocks_apart' (HL5.out.alloc (.cells #[.int .u8 (p : Int)] 5)) (HD5.out.alloc (.cells #[.int .u8 (p : Int)] 5)) (by decide)))
          rw [← HDS.out] at hd6
          have HD6 := Lib.hid hd6
          clear hd6 hgr6
          go_wp2_with fail
          go_roundw
          case rel => exact ⟨j + 1, A4, c4, A6, c6, by omega, by go_num, rfl, rfl, HL6.out, HD6.out, HK6.out⟩
          case measure => simp [intOf]; omega
        · obtain rfl : k = j := by omega
          have hrl := H1.out.1
          have hC := H2.out.cut l2
          obtain ⟨C, hCC⟩ : ∃ C, cs.take k = C := ⟨_, rfl⟩
          rw [hCC] at hC
          have BC := Lib.hid hC
          have hr0 := List.getElem?_eq_getElem (show 0 < rs.length by omega)
          obtain ⟨r0, hr00⟩ : ∃ r, rs[0] = r := ⟨_, rfl⟩
          rw [hr00] at hr0
          have hcb := vcomb_any _ _ k cl cb Al A2 (cuts m rs k) C wr (cuts_rows H1.out hl hkeep HA.out) (BC.out.keep (Nat.le_refl _) hkeep) (Nat.le_refl _) hkeep.size h0 (by omega) (r0.cut m) (cuts_get m rs k 0 r0 (by omega) hr0)
          obtain ⟨c1, c2⟩ := cuts_comb m k rs C (by omega)
          rw [show (r0.cut m).n = m from rfl, c1, c2] at hcb
          have hq := dual_eq m k (rowsOf (cuts m rs k)) C V (dots m rs V k) (fun i => cuts_all H1.out i) BC.out.all B3.out.all (fun i hi => by rw [dots, tab_getD, if_pos hi, rowsOf_cuts m rs k i hi (by omega)])
          obtain ⟨L, hL⟩ : ∃ L, vComb m (rowsOf (cuts m rs k)) C k = L := ⟨_, rfl⟩
          have hLL : L.length = m := by rw [← hL, vComb, tab_length]
          rw [hL] at hcb hq
          obtain ⟨q, hqq⟩ : ∃ q, vDot m L V = q := ⟨_, rfl⟩
          rw [hqq] at hq
          have HQ1 := Lib.hid hqq
          have HQ2 := Lib.hid hq
          have HLL := Lib.hid hLL
          have HCB := Lib.hid hcb
          have HD := Lib.hid hd
          have HK := Lib.hid hkeep
          have e3 : (0 : Int) ≤ (m : Int) := Int.natCast_nonneg _
          have e5 : (m : Int) ≤ (cv : Int) := by omega
          have e6 : (0 : Int) ≤ (k : Int) := Int.natCast_nonneg _
          have e7 : (k : Int) ≤ (cb : Int) := by omega
          clear hrl hC hCC hr0 hr00 hcb c1 c2 hq hqq hL hLL hl hd hkeep h0 hlt
          go_wp2_with fail
          refine HCB.out.mono ?_
          rintro e w5 ⟨P5, n5, c5, rfl, o5, s5⟩
          obtain rfl : n5 = m := by have h := o5.length; rw [HLL.out] at h; exact h.symm
          have O5 := Lib.hid o5
          have S5 := Lib.hid s5
          have K5 := Lib.hid (Keep.trans HK.out s5)
          clear o5 s5
          go_wp2_with fail
          refine (vdot_any _ _ n5 _ _ _ _ _ _ _ O5.out.bytes (B3.out.keep (Nat.le_refl _) K5.out) (Nat.le_refl _) K5.out.size (by omega)).mono ?_
          rw [HQ1.out]
          rintro e w6 ⟨rfl, s6⟩
          have S6 := Lib.hid s6
          have K6 := Lib.hid (Keep.trans K5.out s6)
          clear s6
          go_wp2_with fail
          refine (vdot_any _ _ k _ _ _ _ _ _ _ (BC.out.keep (Nat.le_refl _) K6.out) ((HD.out.keep (Keep.trans S5.out S6.out)).bytes) K6.out.size (Nat.le_refl _) (by omega)).mono ?_
          rw [← HQ2.out]
          rintro e w7 ⟨rfl, s7⟩
          have K7 := Lib.hid (Keep.trans K6.out s7)
          clear s7
          go_wp2_with fail
          refine (wakes_any _).mono ?_
          rintro e wz ⟨rfl, sz⟩
          have SZ := Lib.hid sz
          clear sz
          go_wp2_with fail
          go_ret
          exact ⟨rfl, Keep.trans K7.out SZ.out⟩
end Go.Proofs.Ytkinhhplhkbljaa
