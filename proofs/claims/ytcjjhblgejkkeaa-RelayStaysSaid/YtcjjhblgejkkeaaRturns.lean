/- The walk of RelayTurns. -/
import Derived.Test.YtcjjhblgejkkeaaRpl
import Derived.Test.YtcjjhblgejkkeaaRtr
import Derived.Test.YtcjjhblgejkkeaaRwk
import Derived.Test.YtcjjhblgejkkeaaRs1
import Derived.Test.YtcjjhblgejkkeaaRps
import Derived.Test.YtcjjhblgejkkeaaArr
import Derived.Deep.DeepCutAuto
import Derived.Deep.CutBlock
namespace Go.Proofs.Ytcjjhblgejkkeaa
open Go.RowKit Lin
set_option linter.unusedVariables false
set_option linter.unusedSimpArgs false
/-- The rows of an argument, as they are laid. -/
def trueT (g s : Nat) (M : List (List Nat)) (l : List (List Nat)) : List (List Nat) := l.map fun x => rowV g s M (fillN x g)
theorem trueT_sym {g s : Nat} {M : List (List Nat)} (h : Sz g s M) {l : List (List Nat)} (hl : ∀ x ∈ l, AllB x) : SymRows g s M (trueT g s M l) := fun r hr => by
  obtain ⟨x, hx, rfl⟩ := List.mem_map.1 hr
  have ha := fillN_all (hl x hx) g
  have ok := rowV_ok h (fillN_len x g) ha
  exact ⟨ok.1, ok.2, _, vec_rowV h (fillN_len x g) ha⟩
theorem trueT_at {g s : Nat} {M : List (List Nat)} {l : List (List Nat)} {i : Nat} {x : List Nat} (h : l[i]? = some x) : (trueT g s M l).getD i [] = rowV g s M (fillN x g) ∧ i < (trueT g s M l).length := by
  refine ⟨?_, ?_⟩
  · rw [trueT, List.getD_eq_getElem?_getD, List.getElem?_map, h]; rfl
  · rw [trueT, List.length_map]; exact (List.getElem?_eq_some_iff.1 h).1
theorem pairs_told {g : Nat} {l l' : List PairV} (h : l.map PairV.xs = l'.map PairV.xs) (hl : ∀ p ∈ l, p.a.xs.length = g) (hl' : ∀ p ∈ l', p.a.xs.length = g) : pairXs l = pairXs l' := by
  have cut : ∀ {l : List PairV}, (∀ p ∈ l, p.a.xs.length = g) → pairXs l = (l.map PairV.xs).map fun x => (x.take g, x.drop g) := fun {l} hl => by
    rw [pairXs, List.map_map]
    refine List.map_congr_left fun p hp => ?_
    have e := hl p hp
    show _ = ((p.a.xs ++ p.b.xs).take g, (p.a.xs ++ p.b.xs).drop g)
    rw [List.take_left' e, List.drop_left' e]
  rw [cut hl, cut hl', h]
set_option maxRecDepth 100000 in
set_option maxHeartbeats 8000000 in
theorem rturns_any (n1 n2 c1 c2 s0 s1 x3 : Nat) (A1 A2 : Option Addr) (xs : List Nat) (rs2 : List RowV) (w : World) (h1 : Bytes w w.heap.size A1 n1 xs) (h2 : RowsAt w w.heap.size A2 n2 rs2) (m1 : n1 ≤ 140737488355328) (m2 : n2 ≤ 140737488351232) (b0 : s0 < 256) (b1 : s1 < 256) (b3 : x3 < 65536) :
    Calls Try.prog 3 #[.slice A1 n1 c1, .agg #[.int .u8 (s0 : Int), .int .u8 (s1 : Int)], .slice A2 n2 c2, .int .u16 (x3 : Int)] w fun e w' => e = .returned (.bool true) ∧ Keep w w' := by
  have H1 := Lib.hid h1
  have H2 := Lib.hid h2
  have HA2 : Hid (∀ x ∈ rowsOf rs2, AllB x) := fun x hx => by
    obtain ⟨r, hr, rfl⟩ := List.mem_map.1 hx
    exact (h2.2.1 r hr).1.all
  obtain ⟨q0, hq0⟩ : ∃ q, s0 % 5 = q := ⟨_, rfl⟩
  obtain ⟨g, hk0⟩ : ∃ k, 1 + q0 = k := ⟨_, rfl⟩
  obtain ⟨q1, hq1⟩ : ∃ q, s1 % 5 = q := ⟨_, rfl⟩
  obtain ⟨s, hk1⟩ : ∃ k, 1 + q1 = k := ⟨_, rfl⟩
  have d1 : (s0 : Int) % 5 = (q0 : Int) := by omega
  have d2 : 1 + (q0 : Int) = (g : Int) := by omega
  have d3 : (s1 : Int) % 5 = (q1 : Int) := by omega
  have d4 : 1 + (q1 : Int) = (s : Int) := by omega
  have p0 : 1 ≤ g := by omega
  have r0 : g ≤ 5 := by omega
  have p1 : 1 ≤ s := by omega
  have r1 : s ≤ 5 := by omega
  obtain ⟨M, hM⟩ : ∃ M, shapeN xs g s = M := ⟨_, rfl⟩
  have sM : Hid (Sz g s M) := hM ▸ shape_sz xs g s h1.all
  have EM := Lib.hid hM
  clear h1 h2 hM hq0 hq1 hk0 hk1
  go_enter Try.func3, Try.ntmps3
  go_upto_region 1 with fail
  have hbk := heap_alloc_new w (.cells #[.int .u8 (s0 : Int), .int .u8 (s1 : Int)] 23)
  have kb : Keep w (w.alloc (.cells #[.int .u8 (s0 : Int), .int .u8 (s1 : Int)] 23)) := (Keep.refl w).alloc _ _
  obtain ⟨gs, hgs⟩ : ∃ g, w.heap.size = g := ⟨_, rfl⟩
  rw [hgs] at hbk
  simp only [hgs]
  have cs0 : (w.alloc (.cells #[.int .u8 (s0 : Int), .int .u8 (s1 : Int)] 23)).cell? ⟨gs, 0, none⟩ = some (.int .u8 (s0 : Int)) := by simp [World.cell?, hbk]
  have cs1 : (w.alloc (.cells #[.int .u8 (s0 : Int), .int .u8 (s1 : Int)] 23)).cell? ⟨gs, 1, none⟩ = some (.int .u8 (s1 : Int)) := by simp [World.cell?, hbk]
  clear hbk hgs
  have KB0 := Lib.hid kb
  generalize w.alloc (.cells #[.int .u8 (s0 : Int), .int .u8 (s1 : Int)] 23) = wb at *
  clear kb
  go_wp2_with fail
  go_quiet (fail)
  have KB := Lib.hid (KB0.out.drewN nq)
  generalize wb.drewN nq = w0 at *
  clear cs0 cs1 KB0 d1 d2 d3 d4
  go_wp2_with fail
  refine (symbols_mat _ n1 c1 g s A1 xs _ (H1.out.keep (Nat.le_refl _) KB.out) KB.out.size m1 (by omega) (by omega)).mono ?_
  rw [EM.out]
  rintro e w1 ⟨As, na, cs, rfl, mm, kk1⟩
  obtain rfl : g = na := (mm.cnt sM.out).symm
  have MM := Lib.hid mm
  have K1 := Lib.hid (KB.out.trans kk1)
  clear mm kk1 KB
  go_wp2_with fail
  refine (relnew_in (g := g) (s := s) (k := 2) p0 (by omega) p1 (by omega) (by decide) (by decide) _).mono ?_
  rintro e w2 ⟨px, Fx, rfl, rx, fx, k2⟩
  have RX := Lib.hid ((RlN.start w1 (fun _ => ⟨px, Fx, 0, fun _ => []⟩) (g := g) (s := s) (k := 2)).set (i := 0) (m' := 1) rx fx k2 (fun j hj => Or.inl (by omega)))
  clear rx fx k2
  go_wp2_with fail
  refine (relnew_in (g := g) (s := s) (k := 2) p0 (by omega) p1 (by omega) (by decide) (by decide) _).mono ?_
  rintro e w3 ⟨py, Fy, rfl, ry, fy, k3⟩
  have RY := Lib.hid (RX.out.set (i := 1) (m' := 2) ry fy k3 (fun j hj => by omega))
  clear ry fy k3 RX
  go_wp2_with fail
  obtain ⟨W, hW⟩ : ∃ W, trueT g s M (rowsOf rs2) = W := ⟨_, rfl⟩
  have HW := Lib.hid hW
  have HS : Hid (SymRows g s M W) := hW ▸ trueT_sym sM.out HA2.out
  clear hW
  go_loopw [16] (fun iv wr => ∃ (i : Nat) (R : Nat → RelS), i ≤ n2 ∧ i ≤ 12 ∧ iv = .int .i64 (i : Int) ∧ RlN w1 wr 2 g s 2 R (fun _ => False) ∧ (R 0).p = px ∧ (R 0).b = 0 ∧ (R 1).p = py ∧ (R 1).b = 0 ∧ (R 0).L 1 = basK g s W i ∧ (R 1).L 1 = []) (fun iv _ => n2 - (intOf iv).toNat)
  case atStart => exact ⟨0, _, by omega, by omega, rfl, RY.out, rfl, rfl, rfl, rfl, rfl, rfl⟩
  case round =>
    obtain ⟨i, R, hi, hi2, rfl, hR, e1, e2, e3, e4, e5, e6⟩ := hrel
    have HR := Lib.hid hR
    have HE := Lib.hid (And.intro e1 (And.intro e2 (And.intro e3 (And.intro e4 (And.intro e5 e6)))))
    clear hR e1 e2 e3 e4 e5 e6 RY
    have e0 : (0 : Int) ≤ (i : Int) := Int.natCast_nonneg _
    by_cases hc : i < n2 ∧ i < 12
    · have e1 : (i : Int) < (n2 : Int) := by omega
      have e2 : (i : Int) < 12 := by omega
      have e1' : decide ((i : Int) < (n2 : Int)) = true := decide_eq_true e1
      have e2' : decide ((i : Int) < 12) = true := decide_eq_true e2
      have e2'' : decide (i < 12) = true := decide_eq_true hc.2
      obtain ⟨b, off, r, rfl, hb, hr, hck, hby, hrn, hrc⟩ := (H2.out.keep (Nat.le_refl _) (K1.out.trans HR.out.keep)).at_ hc.1
      have HBY := Lib.hid ((H2.out.2.1 r (List.mem_of_getElem? hr)).1.keep (Nat.le_refl _) (K1.out.trans HR.out.keep))
      have HX : Hid ((rowsOf rs2)[i]? = some r.xs) := by show _ = _; rw [rowsOf, List.getElem?_map, hr]; rfl
      have HKW := Lib.hid (K1.out.trans HR.out.keep)
      clear hb hr hby hrn hrc
      go_wp2_with fail
      refine (truth_any _ r.n r.c g s cs r.A As r.xs M wr HBY.out HKW.out.size (MM.out.keep HR.out.keep) sM.out p0 (by omega) (by omega)).mono ?_
      rintro e w5 ⟨A5, c5, A6, c6, rfl, o5, o6, l5, l6, k5⟩
      have HR5 := Lib.hid (HR.out.later k5)
      have hrel := HR5.out.rel 0 (by omega)
      rw [HE.out.1, HE.out.2.1] at hrel
      have HT := Lib.hid (rl_take_in hrel 1 (by decide) (by decide) _ _ c5 c6 A5 A6 _ _ l5 l6 o5.bytes o6.bytes (Nat.le_refl _) (Nat.le_refl _))
      clear o5 o6 l5 l6 k5 hrel
      go_wp2_with fail
      refine HT.out.mono ?_
      rintro e w7 ⟨rfl, F7, r7, f7, t7⟩
      have hput := HR5.out.put (i := 0) (by omega) (F' := F7) (b' := 0) (by rw [HE.out.1]; exact r7) f7 t7
      have HP := Lib.hid hput
      have HB : Hid (upd (R 0).L 1 (insB g s ((R 0).L 1) (fillN r.xs g ++ payV g s M (fillN r.xs g))) 1 = basK g s W (i + 1)) := by
        show _ = _
        obtain ⟨t1, t2⟩ := trueT_at (g := g) (s := s) (M := M) HX.out
        rw [HW.out] at t1 t2
        rw [upd_at, HE.out.2.2.2.2.1, basK_succ t2, t1]; rfl
      clear r7 f7 t7 hput HT HR HR5
      go_wp2_with fail
      go_roundw
      case rel => exact ⟨i + 1, _, by omega, by omega, by go_num, HP.out, HE.out.1, rfl, HE.out.2.2.1, HE.out.2.2.2.1, HB.out, HE.out.2.2.2.2.2⟩
      case measure => simp [intOf]; omega
    · by_cases hlt : i < n2
      · have e1 : (i : Int) < (n2 : Int) := by omega
        have e1' : decide ((i : Int) < (n2 : Int)) = true := decide_eq_true e1
        have e2 : ¬ (i : Int) < 12 := by omega
        have e2' : decide ((i : Int) < 12) = false := decide_eq_false e2
        have e2'' : decide (i < 12) = false := decide_eq_false (by omega)
        obtain ⟨B, hB⟩ : ∃ B, basK g s W i = B := ⟨_, rfl⟩
        have hk := basK_sym HS.out i (by rw [← HW.out, trueT, List.length_map, rowsOf, List.length_map, H2.out.1]; exact hi)
        rw [hB] at hk
        obtain ⟨z, hz⟩ : ∃ z, B.length = z := ⟨_, rfl⟩
        have hz5 : z ≤ g := by rw [← hz]; exact hk.1.length_le
        have HBB := Lib.hid (And.intro hk.1 hk.2.1)
        have HZ := Lib.hid hz
        have HX1 : Hid ((R 0).L 1 = B) := HE.out.2.2.2.2.1.trans hB
        have hrk := rl_rank (HR.out.rel 0 (by omega)) 1 (by decide)
        rw [HX1.out, hz, HE.out.1] at hrk
        have HRK := Lib.hid hrk
        clear hk hB hz hrk
        go_wp2_with fail
        refine HRK.out.mono ?_
        rintro e w4 ⟨rfl, rfl⟩
        go_wp2_with fail
        go_loopw [18] (fun iv wr => ∃ (i : Nat) (R : Nat → RelS), i ≤ z ∧ iv = .int .i64 (i : Int) ∧ RlN w1 wr 2 g s 2 R (fun _ => False) ∧ (R 0).p = px ∧ (R 0).b = 0 ∧ (R 1).p = py ∧ (R 1).b = 0 ∧ (R 0).L 1 = B ∧ (R 1).L 1 = basK g s (turnsT B x3) i) (fun iv _ => z - (intOf iv).toNat)
        case atStart => exact ⟨0, R, by omega, rfl, HR.out, HE.out.1, HE.out.2.1, HE.out.2.2.1, HE.out.2.2.2.1, HX1.out, HE.out.2.2.2.2.2⟩
        case round =>
          clear HE HR HX1 HRK
          obtain ⟨j, R, hj, rfl, hR, f1, f2, f3, f4, f5, f6⟩ := hrel
          have HR := Lib.hid hR
          have HE := Lib.hid (And.intro f1 (And.intro f2 (And.intro f3 (And.intro f4 (And.intro f5 f6)))))
          clear hR f1 f2 f3 f4 f5 f6
          by_cases hlt : j < z
          · have e3 : (j : Int) < (z : Int) := by omega
            obtain ⟨sn, hsn⟩ : ∃ sn, x3 + j = sn := ⟨_, rfl⟩
            have u1 : IntKind.u64.wrap (x3 : Int) = (x3 : Int) := IntWalk.u64_in _ (by omega)
            have u2 : IntKind.u64.wrap (j : Int) = (j : Int) := IntWalk.u64_in _ (by omega)
            have u3 : (x3 : Int) + (j : Int) = (sn : Int) := by omega
            have u4 : IntKind.u64.wrap (sn : Int) = (sn : Int) := IntWalk.u64_in _ (by omega)
            have hsl : sn < 18446744073709551616 := by omega
            have hst := send_turn HBB.out.1 (t := sn) (by rw [HZ.out]; omega)
            have hrel := HR.out.rel 0 (by omega)
            rw [HE.out.1, HE.out.2.1] at hrel
            have hsd := rl_send_in (B1 := 0) (m := 0) (Ab := none) (cb := 0) (xs := []) hrel 1 sn (by decide) hsl (by decide) (by rw [HE.out.2.2.2.2.1, HZ.out]; omega) ⟨rfl, (fun _ h => by simp at h), fun h => absurd h (by decide)⟩ (Nat.zero_le _)
            rw [HE.out.2.2.2.2.1, hst] at hsd
            have HSD := Lib.hid hsd
            have HSN := Lib.hid hsn
            obtain ⟨row, hrow⟩ : ∃ row, B.getD (sn % B.length) [] = row := ⟨_, rfl⟩
            rw [hrow] at HSD
            have HROW := Lib.hid hrow
            have hok := HBB.out.1.ok.at_ (Nat.mod_lt sn (show 0 < B.length by rw [HZ.out]; omega))
            rw [hrow] at hok
            have HOK := Lib.hid hok
            clear hst hrel hsd hsn hrow hok hsl
            go_wp2_with fail
            refine HSD.out.mono ?_
            rintro e w5 ⟨A5, n5, c5, A6, n6, c6, rfl, o5, o6, k5⟩
            have hl5 := o5.length
            have hl6 := o6.length
            rw [List.length_take, HOK.out.1] at hl5
            rw [List.length_drop, HOK.out.1] at hl6
            obtain rfl : g = n5 := by omega
            obtain rfl : s = n6 := by omega
            have hl7 := o5.cap
            have hl8 := o6.cap
            have r0 := row_block w5 (.slice A5 g c5) (.slice A6 s c6)
            obtain ⟨w6, hw6⟩ : ∃ w6, w5.alloc (.cells #[.slice A5 g c5, .slice A6 s c6] 35) = w6 := ⟨_, rfl⟩
            rw [hw6] at r0
            have HR6 := Lib.hid (HR.out.later (k5.trans r0.2.2))
            have hrel := HR6.out.rel 1 (by omega)
            rw [HE.out.2.2.1, HE.out.2.2.2.1] at hrel
            have htk := rl_take_in hrel 1 (by decide) (by decide) _ _ c5 c6 A5 A6 _ _ hl7 hl8 (o5.keep r0.2.2).bytes (o6.keep r0.2.2).bytes (Nat.le_refl _) (Nat.le_refl _)
            have hTA := turns_all HBB.out.1 HBB.out.2 x3
            have htl : j < (turnsT B x3).length := by rw [turnsT_len, HZ.out]; exact hlt
            have hlen := basK_len (g := g) (s := s) htl
            rw [hTA.2.2 (j + 1) (by rw [HZ.out]; omega), hTA.2.2 j (by rw [HZ.out]; omega), turnsT_at B x3 (by rw [HZ.out]; exact hlt), HSN.out, HROW.out] at hlen
            have hnot : ¬ inB g s (basK g s (turnsT B x3) j) row := fun e => by rw [if_pos e] at hlen; omega
            have hnext : insB g s (basK g s (turnsT B x3) j) row = basK g s (turnsT B x3) (j + 1) := by rw [basK_succ htl, turnsT_at B x3 (by rw [HZ.out]; exact hlt), HSN.out, HROW.out]
            rw [HE.out.2.2.2.2.2, List.take_append_drop, decide_eq_false hnot, hnext] at htk
            have HTK := Lib.hid htk
            have HLJ : Hid ((basK g s (turnsT B x3) (j + 1)).length = j + 1) := hTA.2.2 (j + 1) (by rw [HZ.out]; omega)
            have c0 := r0.1
            have c1 := r0.2.1
            clear o5 o6 k5 hl5 hl6 hl7 hl8 r0 hrel htk hTA htl hlen hnot hnext HR HSD
            go_wp2_with fail
            refine HTK.out.mono ?_
            rintro e w7 ⟨rfl, F7, r7, f7, t7⟩
            have hput := HR6.out.put (i := 1) (by omega) (F' := F7) (b' := 0) (by rw [HE.out.2.2.1]; exact r7) f7 t7
            have HP := Lib.hid hput
            have hrk := rl_rank r7 1 (by decide)
            rw [upd_at, HLJ.out] at hrk
            have HRK := Lib.hid hrk
            clear r7 f7 t7 hput HTK HR6 hrk c0 c1
            have j1 : IntKind.i64.wrap ((j : Int) + 1) = (j : Int) + 1 := IntWalk.i64_in _ (by omega)
            have j2 : ((j + 1 : Nat) : Int) = (j : Int) + 1 := by omega
            go_wp2_with fail
            refine HRK.out.mono ?_
            rintro e w8 ⟨rfl, rfl⟩
            go_wp2_with fail
            go_roundw
            case rel => exact ⟨j + 1, _, by omega, by go_num, HP.out, HE.out.1, HE.out.2.1, HE.out.2.2.1, rfl, HE.out.2.2.2.2.1, (show upd (R 1).L 1 _ 1 = _ from upd_at _ _ _)⟩
            case measure => simp [intOf]; omega
          · obtain rfl : z = j := by omega
            have hk1 := HE.out.2.2.2.2.2
            have hTA := turns_all HBB.out.1 HBB.out.2 x3
            rw [← HZ.out, hTA.2.1] at hk1
            have HB1 : Hid ((R 1).L 1 = B) := hk1
            have hrw := rl_rows (HR.out.rel 0 (by omega)) 1 (by decide)
            rw [HE.out.1, HE.out.2.2.2.2.1] at hrw
            have HRW := Lib.hid hrw
            clear hk1 hTA hrw
            go_wp2_with fail
            refine HRW.out.mono ?_
            rintro e w5 ⟨A5, n5, c5, ps, rfl, o5⟩
            have HR5 := Lib.hid (HR.out.later o5.2.2.2)
            have hrw := rl_rows (HR5.out.rel 1 (by omega)) 1 (by decide)
            rw [HE.out.2.2.1, HB1.out] at hrw
            have HRW2 := Lib.hid hrw
            have HO5 := Lib.hid o5
            clear o5 hrw HRW
            go_wp2_with fail
            refine HRW2.out.mono ?_
            rintro e w6 ⟨A6, n6, c6, qs, rfl, o6⟩
            have hn5 : n5 ≤ 1000000 := by
              have h1 := HO5.out.1.length
              have h2 := congrArg List.length HO5.out.2.2.1
              rw [List.length_map] at h2
              have := HZ.out
              omega
            have hsame : pairXs ps = pairXs qs := by
              refine pairs_told (g := g) (HO5.out.2.2.1.trans o6.2.2.1.symm) (fun p hp => ?_) fun p hp => ?_
              · rw [(HO5.out.2.1 p hp).1.length]; exact (HO5.out.2.1 p hp).2.2.1
              · rw [(o6.2.1 p hp).1.length]; exact (o6.2.1 p hp).2.2.1
            have hsm := rpsame_any n5 n6 c5 c6 A5 A6 _ _ ps qs w6 (HO5.out.stIn.keep o6.2.2.2) o6.stIn (fun b hb => Nat.lt_of_lt_of_le hb.2 o6.2.2.2.size) (fun b hb => hb.2) hn5
            rw [decide_eq_true hsame] at hsm
            have HSM := Lib.hid hsm
            have HK6 := Lib.hid ((K1.out.trans HR5.out.keep).trans o6.2.2.2)
            clear o6 hn5 hsame hsm
            go_wp2_with fail
            refine HSM.out.mono ?_
            rintro e w7 ⟨rfl, q7, rfl⟩
            go_wp2_with fail
            refine (wakes_any _).mono ?_
            rintro e w8 ⟨rfl, k8⟩
            have HK8 := Lib.hid ((HK6.out.drewN q7).trans k8)
            clear k8
            go_wp2_with fail
            go_ret
            exact ⟨rfl, HK8.out⟩
      · have e1 : ¬ (i : Int) < (n2 : Int) := by omega
        have e1' : decide ((i : Int) < (n2 : Int)) = false := decide_eq_false e1
        obtain ⟨B, hB⟩ : ∃ B, basK g s W i = B := ⟨_, rfl⟩
        have hk := basK_sym HS.out i (by rw [← HW.out, trueT, List.length_map, rowsOf, List.length_map, H2.out.1]; exact hi)
        rw [hB] at hk
        obtain ⟨z, hz⟩ : ∃ z, B.length = z := ⟨_, rfl⟩
        have hz5 : z ≤ g := by rw [← hz]; exact hk.1.length_le
        have HBB := Lib.hid (And.intro hk.1 hk.2.1)
        have HZ := Lib.hid hz
        have HX1 : Hid ((R 0).L 1 = B) := HE.out.2.2.2.2.1.trans hB
        have hrk := rl_rank (HR.out.rel 0 (by omega)) 1 (by decide)
        rw [HX1.out, hz, HE.out.1] at hrk
        have HRK := Lib.hid hrk
        clear hk hB hz hrk
        go_wp2_with fail
        refine HRK.out.mono ?_
        rintro e w4 ⟨rfl, rfl⟩
        go_wp2_with fail
        go_loopw [18] (fun iv wr => ∃ (i : Nat) (R : Nat → RelS), i ≤ z ∧ iv = .int .i64 (i : Int) ∧ RlN w1 wr 2 g s 2 R (fun _ => False) ∧ (R 0).p = px ∧ (R 0).b = 0 ∧ (R 1).p = py ∧ (R 1).b = 0 ∧ (R 0).L 1 = B ∧ (R 1).L 1 = basK g s (turnsT B x3) i) (fun iv _ => z - (intOf iv).toNat)
        case atStart => exact ⟨0, R, by omega, rfl, HR.out, HE.out.1, HE.out.2.1, HE.out.2.2.1, HE.out.2.2.2.1, HX1.out, HE.out.2.2.2.2.2⟩
        case round =>
          clear HE HR HX1 HRK
          obtain ⟨j, R, hj, rfl, hR, f1, f2, f3, f4, f5, f6⟩ := hrel
          have HR := Lib.hid hR
          have HE := Lib.hid (And.intro f1 (And.intro f2 (And.intro f3 (And.intro f4 (And.intro f5 f6)))))
          clear hR f1 f2 f3 f4 f5 f6
          by_cases hlt : j < z
          · have e3 : (j : Int) < (z : Int) := by omega
            obtain ⟨sn, hsn⟩ : ∃ sn, x3 + j = sn := ⟨_, rfl⟩
            have u1 : IntKind.u64.wrap (x3 : Int) = (x3 : Int) := IntWalk.u64_in _ (by omega)
            have u2 : IntKind.u64.wrap (j : Int) = (j : Int) := IntWalk.u64_in _ (by omega)
            have u3 : (x3 : Int) + (j : Int) = (sn : Int) := by omega
            have u4 : IntKind.u64.wrap (sn : Int) = (sn : Int) := IntWalk.u64_in _ (by omega)
            have hsl : sn < 18446744073709551616 := by omega
            have hst := send_turn HBB.out.1 (t := sn) (by rw [HZ.out]; omega)
            have hrel := HR.out.rel 0 (by omega)
            rw [HE.out.1, HE.out.2.1] at hrel
            have hsd := rl_send_in (B1 := 0) (m := 0) (Ab := none) (cb := 0) (xs := []) hrel 1 sn (by decide) hsl (by decide) (by rw [HE.out.2.2.2.2.1, HZ.out]; omega) ⟨rfl, (fun _ h => by simp at h), fun h => absurd h (by decide)⟩ (Nat.zero_le _)
            rw [HE.out.2.2.2.2.1, hst] at hsd
            have HSD := Lib.hid hsd
            have HSN := Lib.hid hsn
            obtain ⟨row, hrow⟩ : ∃ row, B.getD (sn % B.length) [] = row := ⟨_, rfl⟩
            rw [hrow] at HSD
            have HROW := Lib.hid hrow
            have hok := HBB.out.1.ok.at_ (Nat.mod_lt sn (show 0 < B.length by rw [HZ.out]; omega))
            rw [hrow] at hok
            have HOK := Lib.hid hok
            clear hst hrel hsd hsn hrow hok hsl
            go_wp2_with fail
            refine HSD.out.mono ?_
            rintro e w5 ⟨A5, n5, c5, A6, n6, c6, rfl, o5, o6, k5⟩
            have hl5 := o5.length
            have hl6 := o6.length
            rw [List.length_take, HOK.out.1] at hl5
            rw [List.length_drop, HOK.out.1] at hl6
            obtain rfl : g = n5 := by omega
            obtain rfl : s = n6 := by omega
            have hl7 := o5.cap
            have hl8 := o6.cap
            have r0 := row_block w5 (.slice A5 g c5) (.slice A6 s c6)
            obtain ⟨w6, hw6⟩ : ∃ w6, w5.alloc (.cells #[.slice A5 g c5, .slice A6 s c6] 35) = w6 := ⟨_, rfl⟩
            rw [hw6] at r0
            have HR6 := Lib.hid (HR.out.later (k5.trans r0.2.2))
            have hrel := HR6.out.rel 1 (by omega)
            rw [HE.out.2.2.1, HE.out.2.2.2.1] at hrel
            have htk := rl_take_in hrel 1 (by decide) (by decide) _ _ c5 c6 A5 A6 _ _ hl7 hl8 (o5.keep r0.2.2).bytes (o6.keep r0.2.2).bytes (Nat.le_refl _) (Nat.le_refl _)
            have hTA := turns_all HBB.out.1 HBB.out.2 x3
            have htl : j < (turnsT B x3).length := by rw [turnsT_len, HZ.out]; exact hlt
            have hlen := basK_len (g := g) (s := s) htl
            rw [hTA.2.2 (j + 1) (by rw [HZ.out]; omega), hTA.2.2 j (by rw [HZ.out]; omega), turnsT_at B x3 (by rw [HZ.out]; exact hlt), HSN.out, HROW.out] at hlen
            have hnot : ¬ inB g s (basK g s (turnsT B x3) j) row := fun e => by rw [if_pos e] at hlen; omega
            have hnext : insB g s (basK g s (turnsT B x3) j) row = basK g s (turnsT B x3) (j + 1) := by rw [basK_succ htl, turnsT_at B x3 (by rw [HZ.out]; exact hlt), HSN.out, HROW.out]
            rw [HE.out.2.2.2.2.2, List.take_append_drop, decide_eq_false hnot, hnext] at htk
            have HTK := Lib.hid htk
            have HLJ : Hid ((basK g s (turnsT B x3) (j + 1)).length = j + 1) := hTA.2.2 (j + 1) (by rw [HZ.out]; omega)
            have c0 := r0.1
            have c1 := r0.2.1
            clear o5 o6 k5 hl5 hl6 hl7 hl8 r0 hrel htk hTA htl hlen hnot hnext HR HSD
            go_wp2_with fail
            refine HTK.out.mono ?_
            rintro e w7 ⟨rfl, F7, r7, f7, t7⟩
            have hput := HR6.out.put (i := 1) (by omega) (F' := F7) (b' := 0) (by rw [HE.out.2.2.1]; exact r7) f7 t7
            have HP := Lib.hid hput
            have hrk := rl_rank r7 1 (by decide)
            rw [upd_at, HLJ.out] at hrk
            have HRK := Lib.hid hrk
            clear r7 f7 t7 hput HTK HR6 hrk c0 c1
            have j1 : IntKind.i64.wrap ((j : Int) + 1) = (j : Int) + 1 := IntWalk.i64_in _ (by omega)
            have j2 : ((j + 1 : Nat) : Int) = (j : Int) + 1 := by omega
            go_wp2_with fail
            refine HRK.out.mono ?_
            rintro e w8 ⟨rfl, rfl⟩
            go_wp2_with fail
            go_roundw
            case rel => exact ⟨j + 1, _, by omega, by go_num, HP.out, HE.out.1, HE.out.2.1, HE.out.2.2.1, rfl, HE.out.2.2.2.2.1, (show upd (R 1).L 1 _ 1 = _ from upd_at _ _ _)⟩
            case measure => simp [intOf]; omega
          · obtain rfl : z = j := by omega
            have hk1 := HE.out.2.2.2.2.2
            have hTA := turns_all HBB.out.1 HBB.out.2 x3
            rw [← HZ.out, hTA.2.1] at hk1
            have HB1 : Hid ((R 1).L 1 = B) := hk1
            have hrw := rl_rows (HR.out.rel 0 (by omega)) 1 (by decide)
            rw [HE.out.1, HE.out.2.2.2.2.1] at hrw
            have HRW := Lib.hid hrw
            clear hk1 hTA hrw
            go_wp2_with fail
            refine HRW.out.mono ?_
            rintro e w5 ⟨A5, n5, c5, ps, rfl, o5⟩
            have HR5 := Lib.hid (HR.out.later o5.2.2.2)
            have hrw := rl_rows (HR5.out.rel 1 (by omega)) 1 (by decide)
            rw [HE.out.2.2.1, HB1.out] at hrw
            have HRW2 := Lib.hid hrw
            have HO5 := Lib.hid o5
            clear o5 hrw HRW
            go_wp2_with fail
            refine HRW2.out.mono ?_
            rintro e w6 ⟨A6, n6, c6, qs, rfl, o6⟩
            have hn5 : n5 ≤ 1000000 := by
              have h1 := HO5.out.1.length
              have h2 := congrArg List.length HO5.out.2.2.1
              rw [List.length_map] at h2
              have := HZ.out
              omega
            have hsame : pairXs ps = pairXs qs := by
              refine pairs_told (g := g) (HO5.out.2.2.1.trans o6.2.2.1.symm) (fun p hp => ?_) fun p hp => ?_
              · rw [(HO5.out.2.1 p hp).1.length]; exact (HO5.out.2.1 p hp).2.2.1
              · rw [(o6.2.1 p hp).1.length]; exact (o6.2.1 p hp).2.2.1
            have hsm := rpsame_any n5 n6 c5 c6 A5 A6 _ _ ps qs w6 (HO5.out.stIn.keep o6.2.2.2) o6.stIn (fun b hb => Nat.lt_of_lt_of_le hb.2 o6.2.2.2.size) (fun b hb => hb.2) hn5
            rw [decide_eq_true hsame] at hsm
            have HSM := Lib.hid hsm
            have HK6 := Lib.hid ((K1.out.trans HR5.out.keep).trans o6.2.2.2)
            clear o6 hn5 hsame hsm
            go_wp2_with fail
            refine HSM.out.mono ?_
            rintro e w7 ⟨rfl, q7, rfl⟩
            go_wp2_with fail
            refine (wakes_any _).mono ?_
            rintro e w8 ⟨rfl, k8⟩
            have HK8 := Lib.hid ((HK6.out.drewN q7).trans k8)
            clear k8
            go_wp2_with fail
            go_ret
            exact ⟨rfl, HK8.out⟩
end Go.Proofs.Ytcjjhblgejkkeaa
