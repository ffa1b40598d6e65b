/- The walk of RelayStays. -/
import Derived.Test.YtcjjhblgejkkeaaRturns
import Derived.Test.YtcjjhblgejkkeaaRpl
import Derived.Test.YtcjjhblgejkkeaaRtr
import Derived.Test.YtcjjhblgejkkeaaRwk
import Derived.Test.YtcjjhblgejkkeaaRs1
import Derived.Test.YtcjjhblgejkkeaaRps
import Derived.Test.YtcjjhblgejkkeaaArr
import Derived.Deep.DeepCutAuto
import Derived.Deep.CutBlock
namespace Go.Proofs.Ytcjjhblgejkkeaa
open Go.RowKit Lin
set_option linter.unusedVariables false
set_option linter.unusedSimpArgs false
theorem rks_mem {L : Nat → List (List Nat)} {l : List Nat} {x : Nat × Nat} (h : x ∈ rksOf L l) : x.1 ∈ l ∧ 0 < (L x.1).length ∧ x.2 = (L x.1).length := by
  obtain ⟨n, hn, rfl⟩ := List.mem_map.1 h
  obtain ⟨h1, h2⟩ := List.mem_filter.1 hn
  exact ⟨h1, of_decide_eq_true h2, rfl⟩
theorem rks_len (L : Nat → List (List Nat)) (l : List Nat) : (rksOf L l).length ≤ l.length := by
  rw [rksOf, List.length_map]; exact List.length_filter_le _ _
/-- Rows told by two relays, the same. -/
theorem told_same {w1 w2 w3 : World} {A5 A6 : Option Addr} {n5 c5 n6 c6 g s : Nat} {B : List (List Nat)} {ps qs : List PairV} (o5 : OwnedSt w1 w2 A5 n5 c5 g s B ps) (o6 : OwnedSt w2 w3 A6 n6 c6 g s B qs) (hB : B.length ≤ 1000) :
    Calls Try.prog 13 #[.slice A5 n5 c5, .slice A6 n6 c6] w3 fun e w' => e = .returned (.bool true) ∧ ∃ k, w' = w3.drewN k := by
  have hn5 : n5 ≤ 1000000 := by
    have h1 := o5.1.length
    have h2 := congrArg List.length o5.2.2.1
    rw [List.length_map] at h2
    omega
  have hsame : pairXs ps = pairXs qs := by
    refine pairs_told (g := g) (o5.2.2.1.trans o6.2.2.1.symm) (fun p hp => ?_) fun p hp => ?_
    · rw [(o5.2.1 p hp).1.length]; exact (o5.2.1 p hp).2.2.1
    · rw [(o6.2.1 p hp).1.length]; exact (o6.2.1 p hp).2.2.1
  have hsm := rpsame_any n5 n6 c5 c6 A5 A6 _ _ ps qs w3 (o5.stIn.keep o6.2.2.2) o6.stIn (fun b hb => Nat.lt_of_lt_of_le hb.2 o6.2.2.2.size) (fun b hb => hb.2) hn5
  rwa [decide_eq_true hsame] at hsm
set_option maxRecDepth 100000 in
set_option maxHeartbeats 8000000 in
theorem rstays_any (n1 n2 n3 n4 c1 c2 c3 c4 s0 s1 s2 : Nat) (A1 A2 A3 A4 : Option Addr) (xs xs3 xs4 : List Nat) (rs2 : List RowV) (w : World) (h1 : Bytes w w.heap.size A1 n1 xs) (h2 : RowsAt w w.heap.size A2 n2 rs2) (h3 : Bytes w w.heap.size A3 n3 xs3) (h4 : Bytes w w.heap.size A4 n4 xs4) (m1 : n1 ≤ 140737488355328) (m2 : n2 ≤ 140737488351232) (m3 : n3 ≤ 140737488355328) (m4 : n4 ≤ 140737488355328) (b0 : s0 < 256) (b1 : s1 < 256) (b2 : s2 < 256) :
    Calls Try.prog 4 #[.slice A1 n1 c1, .agg #[.int .u8 (s0 : Int), .int .u8 (s1 : Int), .int .u8 (s2 : Int)], .slice A2 n2 c2, .slice A3 n3 c3, .slice A4 n4 c4] w fun e w' => e = .returned (.bool true) ∧ Keep w w' := by
  have H1 := Lib.hid h1
  have H2 := Lib.hid h2
  have H3 := Lib.hid h3
  have H4 := Lib.hid h4
  obtain ⟨q0, hq0⟩ : ∃ q, s0 % 4 = q := ⟨_, rfl⟩
  obtain ⟨g, hk0⟩ : ∃ k, 1 + q0 = k := ⟨_, rfl⟩
  obtain ⟨q1, hq1⟩ : ∃ q, s1 % 4 = q := ⟨_, rfl⟩
  obtain ⟨s, hk1⟩ : ∃ k, 1 + q1 = k := ⟨_, rfl⟩
  have d1 : (s0 : Int) % 4 = (q0 : Int) := by omega
  have d2 : 1 + (q0 : Int) = (g : Int) := by omega
  have d3 : (s1 : Int) % 4 = (q1 : Int) := by omega
  have d4 : 1 + (q1 : Int) = (s : Int) := by omega
  have p0 : 1 ≤ g := by omega
  have r0 : g ≤ 4 := by omega
  have p1 : 1 ≤ s := by omega
  have r1 : s ≤ 4 := by omega
  obtain ⟨q2, hq2⟩ : ∃ q, s2 % 6 = q := ⟨_, rfl⟩
  obtain ⟨wd, hk2⟩ : ∃ k, 1 + q2 = k := ⟨_, rfl⟩
  have d5 : (s2 : Int) % 6 = (q2 : Int) := by omega
  have d6 : 1 + (q2 : Int) = (wd : Int) := by omega
  have p2 : 1 ≤ wd := by omega
  have r2 : wd ≤ 6 := by omega
  obtain ⟨M, hM⟩ : ∃ M, shapeN xs g s = M := ⟨_, rfl⟩
  have sM : Hid (Sz g s M) := hM ▸ shape_sz xs g s h1.all
  have EM := Lib.hid hM
  clear h1 h2 h3 h4 hM hq0 hq1 hk0 hk1 hq2 hk2
  go_enter Try.func4, Try.ntmps4
  go_upto_region 1 with fail
  have hbk := heap_alloc_new w (.cells #[.int .u8 (s0 : Int), .int .u8 (s1 : Int), .int .u8 (s2 : Int)] 45)
  have kb : Keep w (w.alloc (.cells #[.int .u8 (s0 : Int), .int .u8 (s1 : Int), .int .u8 (s2 : Int)] 45)) := (Keep.refl w).alloc _ _
  obtain ⟨gs, hgs⟩ : ∃ g, w.heap.size = g := ⟨_, rfl⟩
  rw [hgs] at hbk
  simp only [hgs]
  have cs0 : (w.alloc (.cells #[.int .u8 (s0 : Int), .int .u8 (s1 : Int), .int .u8 (s2 : Int)] 45)).cell? ⟨gs, 0, none⟩ = some (.int .u8 (s0 : Int)) := by simp [World.cell?, hbk]
  have cs1 : (w.alloc (.cells #[.int .u8 (s0 : Int), .int .u8 (s1 : Int), .int .u8 (s2 : Int)] 45)).cell? ⟨gs, 1, none⟩ = some (.int .u8 (s1 : Int)) := by simp [World.cell?, hbk]
  have cs2 : (w.alloc (.cells #[.int .u8 (s0 : Int), .int .u8 (s1 : Int), .int .u8 (s2 : Int)] 45)).cell? ⟨gs, 2, none⟩ = some (.int .u8 (s2 : Int)) := by simp [World.cell?, hbk]
  clear hbk hgs
  have KB0 := Lib.hid kb
  generalize w.alloc (.cells #[.int .u8 (s0 : Int), .int .u8 (s1 : Int), .int .u8 (s2 : Int)] 45) = wb at *
  clear kb
  go_wp2_with fail
  go_quiet (fail)
  have KB := Lib.hid (KB0.out.drewN nq)
  generalize wb.drewN nq = w0 at *
  clear cs0 cs1 cs2 KB0 d1 d2 d3 d4 d5 d6
  go_wp2_with fail
  refine (symbols_mat _ n1 c1 g s A1 xs _ (H1.out.keep (Nat.le_refl _) KB.out) KB.out.size m1 (by omega) (by omega)).mono ?_
  rw [EM.out]
  rintro e w1 ⟨As, na, cs, rfl, mm, kk1⟩
  obtain rfl : g = na := (mm.cnt sM.out).symm
  have MM := Lib.hid mm
  have K1 := Lib.hid (KB.out.trans kk1)
  clear mm kk1 KB
  go_wp2_with fail
  refine (relnew_in (g := g) (s := s) (k := wd) p0 (by omega) p1 (by omega) p2 (by omega) _).mono ?_
  rintro e w2 ⟨px, Fx, rfl, rx, fx, k2⟩
  have RX := Lib.hid ((RlN.start w1 (fun _ => ⟨px, Fx, 0, fun _ => []⟩) (g := g) (s := s) (k := wd)).set (i := 0) (m' := 1) rx fx k2 (fun j hj => Or.inl (by omega)))
  clear rx fx k2
  go_wp2_with fail
  go_loopw [17] (fun iv wr => ∃ (i : Nat) (R : Nat → RelS), i ≤ n2 ∧ iv = .int .i64 (i : Int) ∧ RlN w1 wr 1 g s wd R (fun _ => False) ∧ (R 0).p = px) (fun iv _ => n2 - (intOf iv).toNat)
  case atStart => exact ⟨0, _, by omega, rfl, RX.out, rfl⟩
  case round =>
    obtain ⟨i, R, hi, rfl, hR, hp⟩ := hrel
    have HR := Lib.hid hR
    have HP := Lib.hid hp
    clear hR hp RX
    have e0 : (0 : Int) ≤ (i : Int) := Int.natCast_nonneg _
    go_upto_region 7 with fail
    go_cut [67] from 54 to 218 (fun v wx => ∃ q : Bool, v = .bool q ∧ wx = wr ∧ (q = true → i < n2 ∧ i < n3 ∧ i < 30))
    case first =>
      as_aux_lemma =>
        by_cases f1 : i < n2
        · have f1' : decide ((i : Int) < (n2 : Int)) = true := decide_eq_true (by omega)
          have f1'' : (i : Int) < (n2 : Int) := by omega
          by_cases f2 : i < n3
          · have f2' : decide ((i : Int) < (n3 : Int)) = true := decide_eq_true (by omega)
            have f2'' : (i : Int) < (n3 : Int) := by omega
            by_cases f3 : i < 30
            · have f3' : decide ((i : Int) < 30) = true := decide_eq_true (by omega)
              have f3'' : decide (i < 30) = true := decide_eq_true f3
              go_wp2_with fail
              go_meet
              case rel => exact ⟨true, rfl, rfl, fun _ => ⟨f1, f2, f3⟩⟩
            · have f3' : decide ((i : Int) < 30) = false := decide_eq_false (by omega)
              have f3'' : decide (i < 30) = false := decide_eq_false f3
              go_wp2_with fail
              go_meet
              case rel => exact ⟨false, rfl, rfl, fun e => by cases e⟩
          · have f2' : decide ((i : Int) < (n3 : Int)) = false := decide_eq_false (by omega)
            have f2'' : ¬ (i : Int) < (n3 : Int) := by omega
            go_wp2_with fail
            go_meet
            case rel => exact ⟨false, rfl, rfl, fun e => by cases e⟩
        · have f1' : decide ((i : Int) < (n2 : Int)) = false := decide_eq_false (by omega)
          have f1'' : ¬ (i : Int) < (n2 : Int) := by omega
          go_wp2_with fail
          go_meet
          case rel => exact ⟨false, rfl, rfl, fun e => by cases e⟩
    case rest =>
      obtain ⟨q, rfl, rfl, hq⟩ := hcut
      cases q with
      | false =>
        clear hq
        go_wp2_with fail
        refine (wakes_any _).mono ?_
        rintro e w8 ⟨rfl, k8⟩
        have HK8 := Lib.hid ((K1.out.trans HR.out.keep).trans k8)
        clear k8
        go_wp2_with fail
        go_ret
        exact ⟨rfl, HK8.out⟩
      | true =>
        obtain ⟨f1, f2, f3⟩ := hq rfl
        clear hq
        obtain ⟨y, hy⟩ : ∃ y, xs3.getD i 0 = y := ⟨_, rfl⟩
        have hy6 : y < 256 := by rw [← hy]; exact H3.out.all.getD i
        obtain ⟨q, hq⟩ : ∃ q, y % 12 = q := ⟨_, rfl⟩
        have u1 : (y : Int) % 12 = (q : Int) := by omega
        have u2 : IntKind.u64.wrap (q : Int) = (q : Int) := IntWalk.u64_in _ (by omega)
        have hq12 : q < 12 := by omega
        obtain ⟨bg, og, rfl, hbg, hcg⟩ := (H3.out.keep (Nat.le_refl _) (K1.out.trans HR.out.keep)).at_ f2
        rw [hy] at hcg
        have f1'' : (i : Int) < (n2 : Int) := by omega
        have f2'' : (i : Int) < (n3 : Int) := by omega
        clear hy hq hbg
        have hcp := rl_copy (HR.out.rel 0 (by omega))
        rw [HP.out] at hcp
        have HCP := Lib.hid hcp
        clear hcp
        go_wp2_with fail
        refine HCP.out.mono ?_
        rintro e w5 ⟨pw, Fw, rfl, hrw, hfw, k5⟩
        have HR5 := Lib.hid (HR.out.set (i := 1) (m' := 2) hrw hfw k5 (fun j hj => by omega))
        clear hrw hfw k5 HCP hcg
        go_upto_region 11 with fail
        obtain ⟨R5, hR5⟩ : ∃ R5, updR R 1 ⟨pw, Fw, (R 0).b, (R 0).L⟩ = R5 := ⟨_, rfl⟩
        have HE5 : Hid ((R5 0).p = px ∧ (R5 1).p = pw ∧ (R5 1).b = (R5 0).b ∧ (R5 1).L = (R5 0).L) := by
          rw [← hR5]; exact ⟨HP.out, rfl, rfl, rfl⟩
        rw [hR5] at HR5
        clear hR5 HR HP
        obtain ⟨b5, hb5⟩ : ∃ b5, (R5 0).b = b5 := ⟨_, rfl⟩
        have HB5 := Lib.hid hb5
        clear hb5
        go_cut [20, 21] from 54 to 218 (fun va ve wx => ∃ (t : Bool) (er : Int) (R6 : Nat → RelS), va = .bool t ∧ ve = .int .i64 er ∧ ((winIn b5 wd q = true ∧ er = 0) ∨ (winIn b5 wd q = false ∧ er = 23 ∧ t = false)) ∧ RlN w1 wx 2 g s wd R6 (fun _ => False) ∧ (R6 0).p = px ∧ (R6 0).b = b5 ∧ (R6 1).p = pw ∧ ∀ k, k ≠ q → (R6 0).L k = (R6 1).L k)
        case first =>
          as_aux_lemma =>
            obtain ⟨b, off, r, rfl, hb, hr, hck, hby, hrn, hrc⟩ := (H2.out.keep (Nat.le_refl _) (K1.out.trans HR5.out.keep)).at_ f1
            have HBY := Lib.hid ((H2.out.2.1 r (List.mem_of_getElem? hr)).1.keep (Nat.le_refl _) (K1.out.trans HR5.out.keep))
            have HKW := Lib.hid (K1.out.trans HR5.out.keep)
            clear hb hr hby hrn hrc
            go_wp2_with fail
            refine (truth_any _ r.n r.c g s cs r.A As r.xs M w5 HBY.out HKW.out.size (MM.out.keep HR5.out.keep) sM.out p0 (by omega) (by omega)).mono ?_
            rintro e w6 ⟨A5, c5, A6, c6, rfl, o5, o6, l5, l6, k6⟩
            have HR6 := Lib.hid (HR5.out.later k6)
            have hrel := HR6.out.rel 0 (by omega)
            rw [HE5.out.1, HB5.out] at hrel
            cases hin : winIn b5 wd q with
            | true =>
              have HT := Lib.hid (rl_take_in hrel q (by omega) hin _ _ c5 c6 A5 A6 _ _ l5 l6 o5.bytes o6.bytes (Nat.le_refl _) (Nat.le_refl _))
              clear o5 o6 l5 l6 k6 hrel
              go_wp2_with fail
              refine HT.out.mono ?_
              rintro e w7 ⟨rfl, F7, r7, f7, t7⟩
              have hput := HR6.out.put (i := 0) (by omega) (F' := F7) (b' := b5) (by rw [HE5.out.1]; exact r7) f7 t7
              have HP7 := Lib.hid hput
              clear r7 f7 t7 hput HT HR6
              go_wp2_with fail
              go_meet
              case rel => exact ⟨_, _, _, rfl, rfl, Or.inl ⟨hin, rfl⟩, HP7.out, HE5.out.1, rfl, HE5.out.2.1, fun k hk => (upd_ne _ _ hk).trans (congrFun HE5.out.2.2.2 k).symm⟩
            | false =>
              have HT := Lib.hid (rl_take_out hrel q (by omega) hin g s c5 c6 A5 A6)
              clear o5 o6 l5 l6 k6 hrel
              go_wp2_with fail
              refine HT.out.mono ?_
              rintro e w7 ⟨rfl, k7⟩
              have HP7 := Lib.hid (HR6.out.later k7)
              clear k7 HT HR6
              go_wp2_with fail
              go_meet
              case rel => exact ⟨_, _, _, rfl, rfl, Or.inr ⟨hin, rfl, rfl⟩, HP7.out, HE5.out.1, HB5.out, HE5.out.2.1, fun k hk => (congrFun HE5.out.2.2.2 k).symm⟩
        case rest =>
          clear HR5 HE5 HB5
          obtain ⟨t, er, R6, rfl, rfl, hor, hR6, hp6, hb6, hp7, hL6⟩ := hcut
          have HR6 := Lib.hid hR6
          have HE6 := Lib.hid (And.intro hp6 (And.intro hb6 (And.intro hp7 hL6)))
          have HOR := Lib.hid hor
          clear hR6 hp6 hb6 hp7 hL6 hor
          go_upto_region 12 with fail
          go_cut [110] from 54 to 218 (fun v wx => v = .bool false ∧ wx = wc)
          case first =>
            as_aux_lemma =>
              have hinr := rl_in (HR6.out.rel 0 (by omega)) q (by omega)
              rw [HE6.out.1, HE6.out.2.1] at hinr
              rcases HOR.out with ⟨hin, rfl⟩ | ⟨hin, rfl, rfl⟩
              · rw [hin] at hinr
                have HIN := Lib.hid hinr
                clear hinr hin
                cases t with
                | true =>
                  go_wp2_with fail
                  refine HIN.out.mono ?_
                  rintro e w7 ⟨rfl, rfl⟩
                  go_wp2_with fail
                  go_meet
                  case rel => exact ⟨rfl, rfl⟩
                | false =>
                  go_wp2_with fail
                  refine HIN.out.mono ?_
                  rintro e w7 ⟨rfl, rfl⟩
                  go_wp2_with fail
                  go_meet
                  case rel => exact ⟨rfl, rfl⟩
              · rw [hin] at hinr
                have HIN := Lib.hid hinr
                clear hinr hin
                go_wp2_with fail
                refine HIN.out.mono ?_
                rintro e w7 ⟨rfl, rfl⟩
                go_wp2_with fail
                go_meet
                case rel => exact ⟨rfl, rfl⟩
          case rest =>
            obtain ⟨rfl, rfl⟩ := hcut
            go_wp2_with fail
            go_loopw [22] (fun kv wz => ∃ k : Nat, k ≤ 20 ∧ kv = .int .u64 (k : Int) ∧ RlN w1 wz 2 g s wd R6 (fun _ => False)) (fun kv _ => 20 - (intOf kv).toNat)
            case atStart => exact ⟨0, by omega, rfl, HR6.out⟩
            case round =>
              clear HR6
              obtain ⟨k, hk, rfl, hR⟩ := hrel
              have HR := Lib.hid hR
              clear hR
              by_cases hlt : k < 20
              · have g1 : (k : Int) < 20 := by omega
                have g2 : IntKind.u64.wrap ((k : Int) + 1) = (k : Int) + 1 := IntWalk.u64_in _ (by omega)
                go_upto_region 17 with fail
                go_cut [127] from 111 to 127 (fun v wx => v = .bool false ∧ RlN w1 wx 2 g s wd R6 (fun _ => False))
                case first =>
                      as_aux_lemma =>
                        by_cases hkq : k = q
                        · obtain rfl : k = q := hkq
                          have g3 : ((k : Int) != (k : Int)) = false := by simp
                          go_wp2_with fail
                          go_meet
                          case rel => exact ⟨rfl, HR.out⟩
                        · have g3 : ((k : Int) != (q : Int)) = true := by rw [bne_iff_ne]; omega
                          have hrw := rl_rows (HR.out.rel 0 (by omega)) k (by omega)
                          rw [HE6.out.1, HE6.out.2.2.2 k hkq] at hrw
                          have HRW := Lib.hid hrw
                          clear hrw
                          go_wp2_with fail
                          refine HRW.out.mono ?_
                          rintro e w7 ⟨A5, n5, c5, ps, rfl, o5⟩
                          have HR7 := Lib.hid (HR.out.later o5.2.2.2)
                          have hrw := rl_rows (HR7.out.rel 1 (by omega)) k (by omega)
                          rw [HE6.out.2.2.1] at hrw
                          have HRW2 := Lib.hid hrw
                          have HO5 := Lib.hid o5
                          clear o5 hrw HRW
                          go_wp2_with fail
                          refine HRW2.out.mono ?_
                          rintro e w8 ⟨A6, n6, c6, qs, rfl, o6⟩
                          have HSM := Lib.hid (told_same HO5.out o6 (Nat.le_trans (HR7.out.rel 1 (by omega) |>.bas k).length_le (by omega)))
                          have HR8 := Lib.hid (HR7.out.later o6.2.2.2)
                          clear o6
                          go_wp2_with fail
                          refine HSM.out.mono ?_
                          rintro e w9 ⟨rfl, q9, rfl⟩
                          go_wp2_with fail
                          go_meet
                          case rel => exact ⟨rfl, HR8.out.later ((Keep.refl w8).drewN q9)⟩
                case rest =>
                  obtain ⟨rfl, hR⟩ := hcut
                  have HR2 := Lib.hid hR
                  clear hR HR
                  go_wp2_with fail
                  go_roundw
                  case rel => exact ⟨k + 1, by omega, by go_num, HR2.out⟩
                  case measure => simp [intOf]; omega
              · obtain rfl : k = 20 := by omega
                go_upto_region 19 with fail
                go_cut [131] from 54 to 218 (fun v wx => ∃ b : Bool, v = .bool b ∧ wx = wr ∧ (b = true → i < n4))
                case first =>
                      as_aux_lemma =>
                        by_cases f4 : i < n4
                        · have f4' : (i : Int) < (n4 : Int) := by omega
                          go_wp2_with fail
                          go_meet
                          case rel => exact ⟨true, rfl, rfl, fun _ => f4⟩
                        · have f4' : ¬ (i : Int) < (n4 : Int) := by omega
                          go_wp2_with fail
                          go_meet
                          case rel => exact ⟨false, rfl, rfl, fun e => by cases e⟩
                case rest =>
                  obtain ⟨bb, rfl, rfl, hbb⟩ := hcut
                  have HBB := Lib.hid hbb
                  clear hbb
                  go_upto_if 131 with fail
                  go_cut [19, 23] from 54 to 218 (fun _ _ wx => ∃ R7 : Nat → RelS, RlN w1 wx 1 g s wd R7 (fun _ => False) ∧ (R7 0).p = px)
                  case first =>
                    cases bb with
                    | false =>
                      go_wp2_with fail
                      go_meet
                      case rel => exact ⟨R6, HR.out.fewer (by omega), HE6.out.1⟩
                    | true =>
                          as_aux_lemma =>
                            obtain ⟨y4, hy4⟩ : ∃ y, xs4.getD i 0 = y := ⟨_, rfl⟩
                            have hyl : y4 < 256 := by rw [← hy4]; exact H4.out.all.getD i
                            obtain ⟨cc, hcc⟩ : ∃ q, y4 % 12 = q := ⟨_, rfl⟩
                            have v1 : (y4 : Int) % 12 = (cc : Int) := by omega
                            have v2 : IntKind.u64.wrap (cc : Int) = (cc : Int) := IntWalk.u64_in _ (by omega)
                            have hcc12 : cc < 12 := by omega
                            have f4 := HBB.out rfl
                            have f4' : (i : Int) < (n4 : Int) := by omega
                            obtain ⟨bh, oh, rfl, hbh, hch⟩ := (H4.out.keep (Nat.le_refl _) (K1.out.trans HR.out.keep)).at_ f4
                            rw [hy4] at hch
                            have hlb : bh < wc.heap.size := Nat.lt_of_lt_of_le hbh (K1.out.trans HR.out.keep).size
                            clear hy4 hcc hbh
                            have hcp := rl_copy (HR.out.rel 0 (by omega))
                            rw [HE6.out.1] at hcp
                            have HCP := Lib.hid hcp
                            clear hcp
                            go_wp2_with fail
                            refine HCP.out.mono ?_
                            rintro e w5 ⟨pv, Fv, rfl, hrw, hfw, k5⟩
                            have HR5 := Lib.hid (HR.out.set (i := 1) (m' := 2) hrw hfw k5 (fun j hj => by omega))
                            have hch5 := (k5.block bh hlb)
                            have hch6 : w5.cell? ⟨bh, oh + i, none⟩ = some (.int .u8 (y4 : Int)) := (World.cell?_of_block (k5.block bh hlb)).trans hch
                            clear hrw hfw k5 HCP hch hch5 hlb HR
                            have hrel := HR5.out.rel 0 (by omega)
                            rw [show (updR R6 1 ⟨pv, Fv, (R6 0).b, (R6 0).L⟩ 0) = R6 0 from rfl, HE6.out.1, HE6.out.2.1] at hrel
                            have HMV := Lib.hid (rl_move_in hrel cc (by unfold topN; omega))
                            clear hrel
                            go_wp2_with fail
                            refine HMV.out.mono ?_
                            rintro e w6 ⟨rfl, F8, r8, f8, t8⟩
                            have hput := HR5.out.put (i := 0) (by omega) (F' := F8) (b' := cc) (L' := moveL cc wd (R6 0).L) (by rw [show (updR R6 1 ⟨pv, Fv, (R6 0).b, (R6 0).L⟩ 0) = R6 0 from rfl, HE6.out.1]; exact r8) f8 t8
                            obtain ⟨R8, hR8⟩ : ∃ R8, updR (updR R6 1 ⟨pv, Fv, (R6 0).b, (R6 0).L⟩) 0 ⟨(updR R6 1 ⟨pv, Fv, (R6 0).b, (R6 0).L⟩ 0).p, F8, cc, moveL cc wd (R6 0).L⟩ = R8 := ⟨_, rfl⟩
                            rw [hR8] at hput
                            have HR8 := Lib.hid hput
                            have HE8 : Hid ((R8 0).p = px ∧ (R8 0).b = cc ∧ (R8 0).L = moveL cc wd (R6 0).L ∧ (R8 1).p = pv ∧ (R8 1).b = b5 ∧ (R8 1).L = (R6 0).L) := by
                              rw [← hR8]; exact ⟨HE6.out.1, rfl, rfl, rfl, HE6.out.2.1, rfl⟩
                            clear hput hR8 r8 f8 t8 HMV HR5 hch6
                            go_wp2_with fail
                            go_loopw [23] (fun kv wz => ∃ k : Nat, k ≤ 20 ∧ kv = .int .u64 (k : Int) ∧ RlN w1 wz 2 g s wd R8 (fun _ => False)) (fun kv _ => 20 - (intOf kv).toNat)
                            case atStart => exact ⟨0, by omega, rfl, HR8.out⟩
                            case round =>
                              clear HR8
                              obtain ⟨k, hk, rfl, hR⟩ := hrel
                              have HR := Lib.hid hR
                              clear hR
                              by_cases hlt : k < 20
                              · have g1 : (k : Int) < 20 := by omega
                                have g2 : IntKind.u64.wrap ((k : Int) + 1) = (k : Int) + 1 := IntWalk.u64_in _ (by omega)
                                go_upto_region 26 with fail
                                go_cut [181] from 143 to 181 (fun v wx => v = .bool false ∧ RlN w1 wx 2 g s wd R8 (fun _ => False))
                                case first =>
                                  as_aux_lemma =>
                                    have hin0 := rl_in (HR.out.rel 0 (by omega)) k (by omega)
                                    have hin1 := rl_in (HR.out.rel 1 (by omega)) k (by omega)
                                    rw [HE8.out.1, HE8.out.2.1] at hin0
                                    rw [HE8.out.2.2.2.1, HE8.out.2.2.2.2.1] at hin1
                                    have hrk := rl_rank (HR.out.rel 0 (by omega)) k (by omega)
                                    rw [HE8.out.1, HE8.out.2.2.1] at hrk
                                    cases hi0 : winIn cc wd k with
                                    | true =>
                                      cases hi1 : winIn b5 wd k with
                                      | true =>
                                        rw [hi0] at hin0
                                        rw [hi1] at hin1
                                        have hrw := rl_rows (HR.out.rel 0 (by omega)) k (by omega)
                                        rw [HE8.out.1, HE8.out.2.2.1, moveL, if_pos hi0] at hrw
                                        have HRW := Lib.hid hrw
                                        have HI0 := Lib.hid hin0
                                        have HI1 := Lib.hid hin1
                                        have HW0 := Lib.hid hi0
                                        have HW1 := Lib.hid hi1
                                        clear hrw hin0 hin1 hrk hi0 hi1
                                        go_wp2_with fail
                                        refine HI0.out.mono ?_
                                        rintro e w7 ⟨rfl, rfl⟩
                                        go_wp2_with fail
                                        refine HI1.out.mono ?_
                                        rintro e w7 ⟨rfl, rfl⟩
                                        go_wp2_with fail
                                        refine HRW.out.mono ?_
                                        rintro e w8 ⟨A5, n5, c5, ps, rfl, o5⟩
                                        have HR7 := Lib.hid (HR.out.later o5.2.2.2)
                                        have hrw := rl_rows (HR7.out.rel 1 (by omega)) k (by omega)
                                        rw [HE8.out.2.2.2.1, HE8.out.2.2.2.2.2] at hrw
                                        have HRW2 := Lib.hid hrw
                                        have HO5 := Lib.hid o5
                                        clear o5 hrw HRW
                                        go_wp2_with fail
                                        refine HRW2.out.mono ?_
                                        rintro e w9 ⟨A6, n6, c6, qs, rfl, o6⟩
                                        have hbl : ((R6 0).L k).length ≤ 1000 := by
                                          have := (HR7.out.rel 1 (by omega) |>.bas k).length_le
                                          rw [HE8.out.2.2.2.2.2] at this
                                          omega
                                        have HSM := Lib.hid (told_same HO5.out o6 hbl)
                                        have HR8 := Lib.hid (HR7.out.later o6.2.2.2)
                                        have hrel0 := HR8.out.rel 0 (by omega)
                                        have hrel1 := HR8.out.rel 1 (by omega)
                                        clear o6 hbl
                                        go_wp2_with fail
                                        refine HSM.out.mono ?_
                                        rintro e w10 ⟨rfl, q9, rfl⟩
                                        have HRD := Lib.hid (HR8.out.later ((Keep.refl w9).drewN q9))
                                        have hi0 := rl_in (HRD.out.rel 0 (by omega)) k (by omega)
                                        have hi1 := rl_in (HRD.out.rel 1 (by omega)) k (by omega)
                                        rw [HE8.out.1, HE8.out.2.1, HW0.out] at hi0
                                        rw [HE8.out.2.2.2.1, HE8.out.2.2.2.2.1, HW1.out] at hi1
                                        have HI2 := Lib.hid hi0
                                        have HI3 := Lib.hid hi1
                                        clear hi0 hi1 hrel0 hrel1 HR8 HR7 HSM
                                        go_wp2_with fail
                                        refine HI2.out.mono ?_
                                        rintro e w11 ⟨rfl, rfl⟩
                                        go_wp2_with fail
                                        refine HI3.out.mono ?_
                                        rintro e w11 ⟨rfl, rfl⟩
                                        go_wp2_with fail
                                        go_meet
                                        case rel => exact ⟨rfl, HRD.out⟩
                                      | false =>
                                        rw [hi0] at hin0
                                        rw [hi1] at hin1
                                        have hz : (moveL cc wd (R6 0).L k).length = 0 := by
                                          rw [moveL, if_pos hi0, (HR.out.rel 1 (by omega) |>.out k (by rw [HE8.out.2.2.2.2.1]; exact hi1) |> fun h => (congrFun HE8.out.2.2.2.2.2 k).symm.trans h)]; rfl
                                        rw [hz] at hrk
                                        have HI0 := Lib.hid hin0
                                        have HI1 := Lib.hid hin1
                                        have HRK := Lib.hid hrk
                                        clear hin0 hin1 hrk hi0 hi1 hz
                                        go_wp2_with fail
                                        refine HI0.out.mono ?_
                                        rintro e w7 ⟨rfl, rfl⟩
                                        go_wp2_with fail
                                        refine HI1.out.mono ?_
                                        rintro e w7 ⟨rfl, rfl⟩
                                        go_wp2_with fail
                                        refine HI0.out.mono ?_
                                        rintro e w7 ⟨rfl, rfl⟩
                                        go_wp2_with fail
                                        refine HI1.out.mono ?_
                                        rintro e w7 ⟨rfl, rfl⟩
                                        go_wp2_with fail
                                        refine HRK.out.mono ?_
                                        rintro e w7 ⟨rfl, rfl⟩
                                        go_wp2_with fail
                                        go_meet
                                        case rel => exact ⟨rfl, HR.out⟩
                                    | false =>
                                      rw [hi0] at hin0
                                      have hz : (moveL cc wd (R6 0).L k).length = 0 := by rw [moveL, if_neg (by rw [hi0]; decide)]; rfl
                                      rw [hz] at hrk
                                      have HI0 := Lib.hid hin0
                                      have HRK := Lib.hid hrk
                                      clear hin0 hin1 hrk hi0 hz
                                      go_wp2_with fail
                                      refine HI0.out.mono ?_
                                      rintro e w7 ⟨rfl, rfl⟩
                                      go_wp2_with fail
                                      refine HI0.out.mono ?_
                                      rintro e w7 ⟨rfl, rfl⟩
                                      go_wp2_with fail
                                      refine HRK.out.mono ?_
                                      rintro e w7 ⟨rfl, rfl⟩
                                      go_wp2_with fail
                                      go_meet
                                      case rel => exact ⟨rfl, HR.out⟩
                                case rest =>
                                  obtain ⟨rfl, hR⟩ := hcut
                                  have HR2 := Lib.hid hR
                                  clear hR HR
                                  go_wp2_with fail
                                  go_roundw
                                  case rel => exact ⟨k + 1, by omega, by go_num, HR2.out⟩
                                  case measure => simp [intOf]; omega
                              · obtain rfl : k = 20 := by omega
                                go_wp2_with fail
                                go_meet
                                case rel => exact ⟨R8, HR.out.fewer (by omega), HE8.out.1⟩
                  case rest =>
                    obtain ⟨R7, hR7, hp7⟩ := hcut
                    have HR7 := Lib.hid hR7
                    have HP7 := Lib.hid hp7
                    clear hR7 hp7 HR HE6 HBB HOR
                    have hb7 := (HR7.out.fine (i := 0) (by omega))
                    have hrs := rl_ranks (HR7.out.rel 0 (by omega))
                    rw [HP7.out] at hrs
                    obtain ⟨RK, hRK⟩ : ∃ RK, rksOf (R7 0).L (winL (R7 0).b wd) = RK := ⟨_, rfl⟩
                    rw [hRK] at hrs
                    have HRS := Lib.hid hrs
                    have HRK : Hid (RK.length ≤ wd ∧ ∀ x ∈ RK, winIn (R7 0).b wd x.1 = true ∧ x.1 < 18446744073709551616 ∧ 1 ≤ x.2 ∧ x.2 ≤ g) := by
                      rw [← hRK]
                      refine ⟨Nat.le_trans (rks_len _ _) (winL_le _ _), fun x hx => ?_⟩
                      obtain ⟨a, b, c⟩ := rks_mem hx
                      have h1 : winIn (R7 0).b wd x.1 = true := by rw [winIn_mem, decide_eq_true a]
                      refine ⟨h1, ?_, by omega, by rw [c]; exact (HR7.out.rel 0 (by omega) |>.bas x.1).length_le⟩
                      have h2 := (winIn_iff _ _ _).1 h1
                      have h3 : endN (R7 0).b wd ≤ topN := Nat.min_le_right _ _
                      unfold topN at h3; omega
                    clear hb7 hrs hRK
                    go_wp2_with fail
                    refine HRS.out.mono ?_
                    rintro e w5 ⟨A5, n5, c5, rfl, o5, k5⟩
                    have hn5 : n5 ≤ wd := by rw [← o5.length]; exact HRK.out.1
                    have h5 : ¬ (wd : Int) < (n5 : Int) := by omega
                    have h5' : ¬ wd < n5 := by omega
                    have HRK5 := Lib.hid o5.ins
                    have HR9 := Lib.hid (HR7.out.later k5)
                    clear o5 k5 HRS HR7
                    go_wp2_with fail
                    go_loopw [25] (fun kv wz => ∃ k : Nat, k ≤ n5 ∧ kv = .int .i64 (k : Int) ∧ wz = w5) (fun kv _ => n5 - (intOf kv).toNat)
                    case atStart => exact ⟨0, by omega, rfl, rfl⟩
                    case round =>
                      obtain ⟨k, hk, rfl, rfl⟩ := hrel
                      by_cases hlt : k < n5
                      · have g0 : (0 : Int) ≤ (k : Int) := Int.natCast_nonneg _
                        have g1 : (k : Int) < (n5 : Int) := by omega
                        obtain ⟨b9, o9, ⟨x1, x2⟩, rfl, _, _, hx, cc1, cc2⟩ := HRK5.out.at_ hlt
                        obtain ⟨z1, z2, z3, z4⟩ := HRK.out.2 _ (List.mem_of_getElem? hx)
                        have hin := rl_in (HR9.out.rel 0 (by omega)) x1 z2
                        rw [HP7.out, z1] at hin
                        have HIN := Lib.hid hin
                        have y1 : ¬ (x2 : Int) < 1 := by have : 1 ≤ x2 := z3; omega
                        have y2 : ¬ (g : Int) < (x2 : Int) := by have : x2 ≤ g := z4; omega
                        have y3 : ¬ x2 < 1 := by have : 1 ≤ x2 := z3; omega
                        have y4 : ¬ g < x2 := by have : x2 ≤ g := z4; omega
                        have y5 : ¬ x2 = 0 := by have : 1 ≤ x2 := z3; omega
                        clear hx z1 z2 z3 z4 hin
                        go_wp2_with fail
                        refine HIN.out.mono ?_
                        rintro e w6 ⟨rfl, rfl⟩
                        go_wp2_with fail
                        go_roundw
                        case rel => exact ⟨k + 1, by omega, by go_num, by first | trivial | rfl⟩
                        case measure => simp [intOf]; omega
                      · obtain rfl : n5 = k := by omega
                        go_wp2_with fail
                        go_roundw
                        case rel => exact ⟨i + 1, R7, by omega, by go_num, HR9.out, HP7.out⟩
                        case measure => simp [intOf]; omega
end Go.Proofs.Ytcjjhblgejkkeaa
