/- The walk of RelayTrue. -/
import Derived.Test.YtcjjhblgejkkeaaGreatRpc
import Derived.Test.YtcjjhblgejkkeaaGreatRstays
import Derived.Test.YtcjjhblgejkkeaaGreatRpl
import Derived.Test.YtcjjhblgejkkeaaGreatRtr
import Derived.Test.YtcjjhblgejkkeaaGreatRwk
import Derived.Test.YtcjjhblgejkkeaaGreatRs1
import Derived.Test.YtcjjhblgejkkeaaGreatRps
import Derived.Test.YtcjjhblgejkkeaaGreatArr
import Derived.Deep.DeepCutAuto
import Derived.Deep.CutBlock
namespace Go.Proofs.YtcjjhblgejkkeaaGreat
open Go.RowKit Lin
set_option linter.unusedVariables false
set_option linter.unusedSimpArgs false
theorem OwnSt.rowLe' {w : World} {base n c : Nat} {A : Option Addr} {ps : List PairV} (h : OwnSt w base A n c ps) : ∀ k, (Value.slice A n c).ownBlock = some k → base ≤ k := fun k hk => (h.lt k hk).1
/-- Something else has turned; new memory is looked after, too. -/
theorem RlN.otherW {W w w2 : World} {m g s k : Nat} {R : Nat → RelS} {D G : Nat → Prop} (h : RlN W w m g s k R D) (t : Turned G w w2) (hG : ∀ x, G x → W.heap.size ≤ x ∧ ∀ i, i < m → ¬ (R i).F x) : RlN W w2 m g s k R fun x => D x ∨ (w.heap.size ≤ x ∧ x < w2.heap.size) := by
  have h2 := h.other t hG
  refine ⟨h2.rel, h2.ap, h2.lo, fun x hx => ?_, h2.keep⟩
  rcases hx with e | e
  · exact h2.d x e
  · exact ⟨e.2, fun i hi hf => by have := h.lt hi x hf; omega⟩
/-- One relay, and all that it took. -/
structure TrI (w1 wr : World) (g s px i : Nat) (M W : List (List Nat)) (R : Nat → RelS) (D : Nat → Prop) (Al : Option Addr) (cl : Nat) (psA : List PairV) : Prop where
  p : (R 0).p = px
  b : (R 0).b = 0
  L : (R 0).L 3 = basK g s W i
  own : OwnSt wr w1.heap.size Al i cl psA
  ownD : ∀ b, (Value.slice Al i cl).ownBlock = some b → D b
  rows : ∀ p ∈ psA, LiesIn wr (fun x => D x ∧ ¬ (Value.slice Al i cl).ownBlock = some x) p.a ∧ LiesIn wr (fun x => D x ∧ ¬ (Value.slice Al i cl).ownBlock = some x) p.b
  len : ∀ p ∈ psA, p.a.n = g ∧ p.b.n = s
  xs : psA.map PairV.xs = W.take i
set_option maxRecDepth 100000 in
set_option maxHeartbeats 8000000 in
theorem rtrue_any (n1 n2 n3 c1 c2 c3 s0 s1 : Nat) (A1 A2 A3 : Option Addr) (xs : List Nat) (rs2 rs3 : List RowV) (w : World) (h1 : Bytes w w.heap.size A1 n1 xs) (h2 : RowsAt w w.heap.size A2 n2 rs2) (h3 : RowsAt w w.heap.size A3 n3 rs3) (m1 : n1 ≤ 140737488355328) (m2 : n2 ≤ 140737488351232) (m3 : n3 ≤ 140737488351232) (b0 : s0 < 256) (b1 : s1 < 256) :
    Calls Tryz.prog 4 #[.slice A1 n1 c1, .agg #[.int .u8 (s0 : Int), .int .u8 (s1 : Int)], .slice A2 n2 c2, .slice A3 n3 c3] w fun e w' => e = .returned (.bool true) ∧ Keep w w' := by
  have H1 := Lib.hid h1
  have H2 := Lib.hid h2
  have H3 := Lib.hid h3
  have HA2 : Hid (∀ x ∈ rowsOf rs2, AllB x) := fun x hx => by
    obtain ⟨r, hr, rfl⟩ := List.mem_map.1 hx
    exact (h2.2.1 r hr).1.all
  obtain ⟨q0, hq0⟩ : ∃ q, s0 % 5 = q := ⟨_, rfl⟩
  obtain ⟨g, hk0⟩ : ∃ k, 1 + q0 = k := ⟨_, rfl⟩
  obtain ⟨q1, hq1⟩ : ∃ q, s1 % 5 = q := ⟨_, rfl⟩
  obtain ⟨s, hk1⟩ : ∃ k, 1 + q1 = k := ⟨_, rfl⟩
  have d1 : (s0 : Int) % 5 = (q0 : Int) := by omega
  have d2 : 1 + (q0 : Int) = (g : Int) := by omega
  have d3 : (s1 : Int) % 5 = (q1 : Int) := by omega
  have d4 : 1 + (q1 : Int) = (s : Int) := by omega
  have p0 : 1 ≤ g := by omega
  have r0 : g ≤ 5 := by omega
  have p1 : 1 ≤ s := by omega
  have r1 : s ≤ 5 := by omega
  obtain ⟨M, hM⟩ : ∃ M, shapeN xs g s = M := ⟨_, rfl⟩
  have sM : Hid (Sz g s M) := hM ▸ shape_sz xs g s h1.all
  have EM := Lib.hid hM
  clear h1 h2 h3 hM hq0 hq1 hk0 hk1
  go_enter Tryz.func4, Tryz.ntmps4
  go_upto_region 1 with fail
  have hbk := heap_alloc_new w (.cells #[.int .u8 (s0 : Int), .int .u8 (s1 : Int)] 70)
  have kb : Keep w (w.alloc (.cells #[.int .u8 (s0 : Int), .int .u8 (s1 : Int)] 70)) := (Keep.refl w).alloc _ _
  obtain ⟨gs, hgs⟩ : ∃ g, w.heap.size = g := ⟨_, rfl⟩
  rw [hgs] at hbk
  simp only [hgs]
  have cs0 : (w.alloc (.cells #[.int .u8 (s0 : Int), .int .u8 (s1 : Int)] 70)).cell? ⟨gs, 0, none⟩ = some (.int .u8 (s0 : Int)) := by simp [World.cell?, hbk]
  have cs1 : (w.alloc (.cells #[.int .u8 (s0 : Int), .int .u8 (s1 : Int)] 70)).cell? ⟨gs, 1, none⟩ = some (.int .u8 (s1 : Int)) := by simp [World.cell?, hbk]
  clear hbk hgs
  have KB0 := Lib.hid kb
  generalize w.alloc (.cells #[.int .u8 (s0 : Int), .int .u8 (s1 : Int)] 70) = wb at *
  clear kb
  go_wp2_with fail
  go_quiet (fail)
  have KB := Lib.hid (KB0.out.drewN nq)
  generalize wb.drewN nq = w0 at *
  clear cs0 cs1 KB0 d1 d2 d3 d4
  go_wp2_with fail
  refine (symbols_mat _ n1 c1 g s A1 xs _ (H1.out.keep (Nat.le_refl _) KB.out) KB.out.size m1 (by omega) (by omega)).mono ?_
  rw [EM.out]
  rintro e w1 ⟨As, na, cs, rfl, mm, kk1⟩
  obtain rfl : g = na := (mm.cnt sM.out).symm
  have MM := Lib.hid mm
  have K1 := Lib.hid (KB.out.trans kk1)
  clear mm kk1 KB
  go_wp2_with fail
  refine (relnew_in (g := g) (s := s) (k := 4) p0 (by omega) p1 (by omega) (by decide) (by decide) _).mono ?_
  rintro e w2 ⟨px, Fx, rfl, rx, fx, k2⟩
  have RX := Lib.hid ((RlN.start w1 (fun _ => ⟨px, Fx, 0, fun _ => []⟩) (g := g) (s := s) (k := 4)).set (i := 0) (m' := 1) rx fx k2 (fun j hj => Or.inl (by omega)))
  clear rx fx k2
  go_wp2_with fail
  obtain ⟨W, hW⟩ : ∃ W, trueT g s M (rowsOf rs2) = W := ⟨_, rfl⟩
  have HW := Lib.hid hW
  have HS : Hid (SymRows g s M W) := hW ▸ trueT_sym sM.out HA2.out
  have HWL : Hid (W.length = n2) := by
    show _ = _
    rw [← hW, trueT, List.length_map, rowsOf, List.length_map]; exact H2.out.1
  clear hW
  go_loopw [14, 15] (fun av iv wr => ∃ (i : Nat) (R : Nat → RelS) (D : Nat → Prop) (Al : Option Addr) (cl : Nat) (psA : List PairV), i ≤ n2 ∧ i ≤ 12 ∧ iv = .int .i64 (i : Int) ∧ av = .slice Al i cl ∧ RlN w1 wr 1 g s 4 R D ∧ TrI w1 wr g s px i M W R D Al cl psA) (fun _ iv _ => n2 - (intOf iv).toNat)
  case atStart => exact ⟨0, _, _, none, 0, [], by omega, by omega, rfl, rfl, RX.out, rfl, rfl, rfl, OwnSt.none_ _ _, (fun b hb => by simp [Value.ownBlock] at hb), (fun p hp => by simp at hp), (fun p hp => by simp at hp), by rw [List.take_zero]; rfl⟩
  case round =>
    obtain ⟨i, R, D, Al, cl, psA, hi, hi12, rfl, rfl, hR, hT⟩ := hrel
    have HR := Lib.hid hR
    have HT := Lib.hid hT
    clear hR hT RX
    have e0 : (0 : Int) ≤ (i : Int) := Int.natCast_nonneg _
    go_upto_region 8 with fail
    go_cut [61] from 54 to 102 (fun v wx => ∃ q : Bool, v = .bool q ∧ wx = wr ∧ (q = true → i < n2 ∧ i < 12))
    case first =>
      as_aux_lemma =>
        by_cases f1 : i < n2
        · have f1' : decide ((i : Int) < (n2 : Int)) = true := decide_eq_true (by omega)
          have f1'' : (i : Int) < (n2 : Int) := by omega
          by_cases f3 : i < 12
          · have f3' : decide ((i : Int) < 12) = true := decide_eq_true (by omega)
            have f3'' : decide (i < 12) = true := decide_eq_true f3
            go_wp2_with fail
            go_meet
            case rel => exact ⟨true, rfl, rfl, fun _ => ⟨f1, f3⟩⟩
          · have f3' : decide ((i : Int) < 12) = false := decide_eq_false (by omega)
            have f3'' : decide (i < 12) = false := decide_eq_false f3
            go_wp2_with fail
            go_meet
            case rel => exact ⟨false, rfl, rfl, fun e => by cases e⟩
        · have f1' : decide ((i : Int) < (n2 : Int)) = false := decide_eq_false (by omega)
          have f1'' : ¬ (i : Int) < (n2 : Int) := by omega
          go_wp2_with fail
          go_meet
          case rel => exact ⟨false, rfl, rfl, fun e => by cases e⟩
    case rest =>
      obtain ⟨q, rfl, rfl, hq⟩ := hcut
      cases q with
      | true =>
        obtain ⟨f1, f3⟩ := hq rfl
        clear hq
        as_aux_lemma =>
          obtain ⟨wo, rfl⟩ : ∃ wo, wo = wc := ⟨_, rfl⟩
          have f1'' : (i : Int) < (n2 : Int) := by omega
          obtain ⟨b, off, r, rfl, hb, hr, hck, hby, hrn, hrc⟩ := (H2.out.keep (Nat.le_refl _) (K1.out.trans HR.out.keep)).at_ f1
          have HBY := Lib.hid ((H2.out.2.1 r (List.mem_of_getElem? hr)).1.keep (Nat.le_refl _) (K1.out.trans HR.out.keep))
          have HKW := Lib.hid (K1.out.trans HR.out.keep)
          have HX : Hid ((rowsOf rs2)[i]? = some r.xs) := by show _ = _; rw [rowsOf, List.getElem?_map, hr]; rfl
          clear hb hr hby hrn hrc
          go_wp2_with fail
          refine (truth_any _ r.n r.c g s cs r.A As r.xs M wo HBY.out HKW.out.size (MM.out.keep HR.out.keep) sM.out p0 (by omega) (by omega)).mono ?_
          rintro e w5 ⟨A5, c5, A6, c6, rfl, o5, o6, l5, l6, k5⟩
          obtain ⟨q0', q1', k6⟩ := row_block w5 (.slice A5 g c5) (.slice A6 s c6)
          obtain ⟨w6, hw6⟩ : ∃ w6, w5.alloc (.cells #[.slice A5 g c5, .slice A6 s c6] 34) = w6 := ⟨_, rfl⟩
          have hs6 : w5.heap.size < w6.heap.size := by rw [← hw6]; simp
          rw [hw6] at q0' q1' k6
          have HR6 := Lib.hid (HR.out.widen (k5.trans k6))
          have HO := Lib.hid (And.intro (o5.keep k6) (And.intro (o6.keep k6) (And.intro l5 l6)))
          have HK6 := Lib.hid (k5.trans k6)
          have HS6 := Lib.hid (And.intro k5.size hs6)
          have HQ := Lib.hid (And.intro q0' q1')
          clear o5 o6 l5 l6 k5 k6 hs6
          have hrk := rl_rank (HR6.out.rel 0 (by omega)) 3 (by decide)
          rw [HT.out.p, HT.out.L] at hrk
          obtain ⟨z, hz⟩ : ∃ z, (basK g s W i).length = z := ⟨_, rfl⟩
          rw [hz] at hrk
          have hz12 : z ≤ i := by rw [← hz]; exact basK_le i (by rw [HWL.out]; omega)
          have HRK := Lib.hid hrk
          have HZ := Lib.hid hz
          clear hrk hz
          go_wp2_with fail
          refine HRK.out.mono ?_
          rintro e w6 ⟨rfl, rfl⟩
          have hrel := HR6.out.rel 0 (by omega)
          rw [HT.out.p, HT.out.b] at hrel
          have htk := rl_take_in hrel 3 (by decide) (by decide) _ _ c5 c6 A5 A6 _ _ HO.out.2.2.1 HO.out.2.2.2 HO.out.1.bytes HO.out.2.1.bytes (Nat.le_refl _) (Nat.le_refl _)
          obtain ⟨t1, t2⟩ := trueT_at (g := g) (s := s) (M := M) HX.out
          rw [HW.out] at t1 t2
          have hlen := basK_len (g := g) (s := s) t2
          rw [t1, HZ.out] at hlen
          have hnx : insB g s (basK g s W i) (rowV g s M (fillN r.xs g)) = basK g s W (i + 1) := by rw [basK_succ t2, t1]
          rw [show fillN r.xs g ++ payV g s M (fillN r.xs g) = rowV g s M (fillN r.xs g) from rfl, HT.out.L, hnx] at htk
          obtain ⟨bn, hbn⟩ : ∃ bn, (!decide (inB g s (basK g s W i) (rowV g s M (fillN r.xs g)))) = bn := ⟨_, rfl⟩
          rw [hbn] at htk
          have HTK := Lib.hid htk
          have HLN : Hid ((bn = true → (basK g s W (i + 1)).length = z + 1) ∧ (bn = false → (basK g s W (i + 1)).length = z)) := by
            refine ⟨fun e => ?_, fun e => ?_⟩
            · rw [e] at hbn
              rw [hlen, if_neg (by simpa using hbn)]
            · rw [e] at hbn
              rw [hlen, if_pos (by simpa using hbn)]; rfl
          clear hbn
          have HWI : Hid (W.getD i [] = rowV g s M (fillN r.xs g) ∧ i < W.length) := ⟨t1, t2⟩
          clear hrel htk t1 t2 hlen hnx HRK
          go_wp2_with fail
          refine HTK.out.mono ?_
          rintro e w8 ⟨rfl, F8, r8, f8, t8⟩
          have hput := HR6.out.put (i := 0) (by omega) (F' := F8) (b' := 0) (by rw [HT.out.p]; exact r8) f8 t8
          obtain ⟨R8, hR8⟩ : ∃ R8, updR R 0 ⟨(R 0).p, F8, 0, upd (R 0).L 3 (basK g s W (i + 1))⟩ = R8 := ⟨_, rfl⟩
          rw [hR8] at hput
          have HR8 := Lib.hid hput
          have HE8 : Hid ((R8 0).p = px ∧ (R8 0).b = 0 ∧ (R8 0).L 3 = basK g s W (i + 1)) := by
            rw [← hR8]; exact ⟨HT.out.p, rfl, (show upd (R 0).L 3 _ 3 = _ from upd_at _ _ _)⟩
          have hrk := rl_rank (HR8.out.rel 0 (by omega)) 3 (by decide)
          rw [HE8.out.1, HE8.out.2.2] at hrk
          have HRK := Lib.hid hrk
          -- what else there is stays
          have HA8 : Hid (OwnSt w8 w1.heap.size Al i cl psA ∧ (∀ b, (Value.slice Al i cl).ownBlock = some b → D b ∨ (wo.heap.size ≤ b ∧ b < w6.heap.size)) ∧ (∀ p ∈ psA, LiesIn w8 (fun x => (D x ∨ (wo.heap.size ≤ x ∧ x < w6.heap.size)) ∧ ¬ (Value.slice Al i cl).ownBlock = some x) p.a ∧ LiesIn w8 (fun x => (D x ∨ (wo.heap.size ≤ x ∧ x < w6.heap.size)) ∧ ¬ (Value.slice Al i cl).ownBlock = some x) p.b)) := by
            refine ⟨(HT.out.own.keep HK6.out).turned t8 fun b hb e => (HR6.out.d b (Or.inl (HT.out.ownD b hb))).2 0 (by omega) e, fun b hb => Or.inl (HT.out.ownD b hb), fun p hp => ?_⟩
            have h1 := HT.out.rows p hp
            have ap : ∀ b, (D b ∨ (wo.heap.size ≤ b ∧ b < w6.heap.size)) ∧ ¬ (Value.slice Al i cl).ownBlock = some b → ¬ (R 0).F b := fun b hb => (HR6.out.d b hb.1).2 0 (by omega)
            exact ⟨(((h1.1.turned (Turned.of_keep (F := fun _ => False) HK6.out) fun _ _ e => e).mono fun b hb => ⟨Or.inl hb.1, hb.2⟩).turned t8 ap), (((h1.2.turned (Turned.of_keep (F := fun _ => False) HK6.out) fun _ _ e => e).mono fun b hb => ⟨Or.inl hb.1, hb.2⟩).turned t8 ap)⟩
          have inD : ∀ b, wo.heap.size ≤ b ∧ b < w6.heap.size → ¬ (R 0).F b := fun b hb => (HR6.out.d b (Or.inr hb)).2 0 (by omega)
          have own0 : ∀ b, (Value.slice Al i cl).ownBlock = some b → b < wo.heap.size := fun b hb => (HT.out.own.lt b hb).2
          have HO8 : Hid (LiesIn w8 (fun x => (D x ∨ (wo.heap.size ≤ x ∧ x < w6.heap.size)) ∧ ¬ (Value.slice Al i cl).ownBlock = some x) ⟨A5, g, c5, fillN r.xs g⟩ ∧ LiesIn w8 (fun x => (D x ∨ (wo.heap.size ≤ x ∧ x < w6.heap.size)) ∧ ¬ (Value.slice Al i cl).ownBlock = some x) ⟨A6, s, c6, payV g s M (fillN r.xs g)⟩) := by
            have ap : ∀ b, wo.heap.size ≤ b ∧ b < w6.heap.size → (D b ∨ (wo.heap.size ≤ b ∧ b < w6.heap.size)) ∧ ¬ (Value.slice Al i cl).ownBlock = some b := fun b hb => ⟨Or.inr hb, fun e => by have := own0 b e; omega⟩
            refine ⟨((HO.out.1.lies.mono fun b hb => HO.out.1.1.lt b hb).turned t8 inD).mono ap, ((HO.out.2.1.lies.mono fun b hb => ?_).turned t8 inD).mono ap⟩
            have := HO.out.2.1.1.lt b hb
            exact ⟨this.1, this.2⟩
          have c0 : w8.cell? ⟨w5.heap.size, 0, none⟩ = some (.slice A5 g c5) := t8.cell HQ.out.1 (inD _ ⟨HS6.out.1, HS6.out.2⟩)
          have c1 : w8.cell? ⟨w5.heap.size, 1, none⟩ = some (.slice A6 s c6) := t8.cell HQ.out.2 (inD _ ⟨HS6.out.1, HS6.out.2⟩)
          clear hput hR8 r8 f8 t8 hrk inD own0 HTK HR6 HR
          have z1 : IntKind.i64.wrap ((z : Int) + 1) = (z : Int) + 1 := IntWalk.i64_in _ (by omega)
          go_upto_region 13 with fail
          go_cut [98] from 54 to 102 (fun v wx => v = .bool false ∧ wx = w8)
          case first =>
            as_aux_lemma =>
              cases bn with
              | false =>
                have hl := HLN.out.2 rfl
                rw [hl] at HRK
                have y2 : ((z : Int) == (z : Int) + 1) = false := by rw [beq_eq_false_iff_ne]; omega
                have y3 : decide ((z : Int) = (z : Int) + 1) = false := decide_eq_false (by omega)
                clear hl HLN
                go_wp2_with fail
                refine HRK.out.mono ?_
                rintro e w8 ⟨rfl, rfl⟩
                go_wp2_with fail
                refine HRK.out.mono ?_
                rintro e w8 ⟨rfl, rfl⟩
                go_wp2_with fail
                go_meet
                case rel => exact ⟨rfl, rfl⟩
              | true =>
                have hl := HLN.out.1 rfl
                rw [hl] at HRK
                have y4 : ((z + 1 : Nat) : Int) = (z : Int) + 1 := by omega
                rw [y4] at HRK
                clear hl HLN y4
                go_wp2_with fail
                refine HRK.out.mono ?_
                rintro e w8 ⟨rfl, rfl⟩
                go_wp2_with fail
                go_meet
                case rel => exact ⟨rfl, rfl⟩
          case rest =>
            obtain ⟨rfl, hwc⟩ := hcut
            obtain rfl : w8 = wc := hwc.symm
            go_wp2_with (at_builtin; refine wpList_append_st rfl _ _ 55 rfl ⟨⟨A5, g, c5, fillN r.xs g⟩, ⟨A6, s, c6, payV g s M (fillN r.xs g)⟩⟩ Tryz.underlying55 rfl (HA8.out.1.keep ((Keep.refl _).alloc _ _)) rfl (cell_of_row _ _ _ _ _ _ (heap_alloc_new _ _)) (cell_of_row _ _ _ _ _ _ (heap_alloc_new _ _)) (by omega) (by have := HR8.out.keep.size; simp; omega) ?_)
            intro A9 c9 w9 o9 g9 b9
            have hka : Keep w8 (w8.alloc (.cells #[.slice A5 g c5, .slice A6 s c6] 34)) := (Keep.refl w8).alloc _ _
            have hsa : (w8.alloc (.cells #[.slice A5 g c5, .slice A6 s c6] 34)).heap.size = w8.heap.size + 1 := by simp
            have hT9 : Turned (fun b => (Value.slice Al i cl).ownBlock = some b) w8 w9 := (Turned.of_keep (F := fun b => (Value.slice Al i cl).ownBlock = some b) hka).trans (Turned.of_grown (F := fun b => (Value.slice Al i cl).ownBlock = some b) g9 fun i e => e) fun j e => Or.inl e
            have hz9 : w8.heap.size + 1 ≤ w9.heap.size := by rw [← hsa]; exact g9.size
            have HRN := Lib.hid (HR8.out.otherW hT9 fun x hx => ⟨HA8.out.1.rowLe' x hx, fun l hl e => by
              obtain rfl : l = 0 := by omega
              exact (HR8.out.d x (HA8.out.2.1 x hx)).2 0 (by omega) e⟩)
            have ap : ∀ x, (D x ∨ (wo.heap.size ≤ x ∧ x < w6.heap.size)) ∧ ¬ (Value.slice Al i cl).ownBlock = some x → ((D x ∨ (wo.heap.size ≤ x ∧ x < w6.heap.size)) ∨ (w8.heap.size ≤ x ∧ x < w9.heap.size)) ∧ ¬ (Value.slice A9 (i + 1) c9).ownBlock = some x := fun x hx => ⟨Or.inl hx.1, fun e => by
              rcases b9 with h | h
              · rw [h] at e; exact hx.2 e
              · rw [h] at e
                injection e with e
                have := (HR8.out.d x hx.1).1
                omega⟩
            have HTN : Hid (TrI w1 w9 g s px (i + 1) M W R8 (fun x => (D x ∨ (wo.heap.size ≤ x ∧ x < w6.heap.size)) ∨ (w8.heap.size ≤ x ∧ x < w9.heap.size)) A9 c9 (psA ++ [⟨⟨A5, g, c5, fillN r.xs g⟩, ⟨A6, s, c6, payV g s M (fillN r.xs g)⟩⟩])) := by
              refine ⟨HE8.out.1, HE8.out.2.1, HE8.out.2.2, o9, fun b hb => ?_, fun p hp => ?_, fun p hp => ?_, ?_⟩
              · have hb2 := (o9.lt b hb).2
                rcases b9 with h | h
                · rw [h] at hb; exact Or.inl (HA8.out.2.1 b hb)
                · rw [h] at hb
                  injection hb with hb
                  exact Or.inr ⟨by omega, by omega⟩
              · rcases List.mem_append.1 hp with hp | hp
                · have h1 := HA8.out.2.2 p hp
                  exact ⟨(h1.1.turned hT9 fun b hb => hb.2).mono ap, (h1.2.turned hT9 fun b hb => hb.2).mono ap⟩
                · rw [List.mem_singleton.1 hp]
                  exact ⟨(HO8.out.1.turned hT9 fun b hb => hb.2).mono ap, (HO8.out.2.turned hT9 fun b hb => hb.2).mono ap⟩
              · rcases List.mem_append.1 hp with hp | hp
                · exact HT.out.len p hp
                · rw [List.mem_singleton.1 hp]; exact ⟨rfl, rfl⟩
              · rw [List.map_append, HT.out.xs, List.take_add_one, List.getElem?_eq_getElem HWI.out.2]
                congr 1
                have e := HWI.out.1
                rw [List.getD_eq_getElem?_getD, List.getElem?_eq_getElem HWI.out.2] at e
                show [rowV g s M (fillN r.xs g)] = [W[i]'HWI.out.2]
                rw [show W[i]'HWI.out.2 = rowV g s M (fillN r.xs g) from e]
            clear o9 g9 b9 hka hsa hT9 hz9 ap c0 c1
            go_wp2_with fail
            go_roundw
            case rel => exact ⟨i + 1, R8, _, A9, c9, _, by omega, by omega, by go_num, rfl, HRN.out, HTN.out⟩
            case measure => simp [intOf]; omega
      | false =>
        clear hq
        as_aux_lemma =>
          obtain ⟨wo, rfl⟩ : ∃ wo, wo = wc := ⟨_, rfl⟩
          obtain ⟨B, hB⟩ : ∃ B, basK g s W i = B := ⟨_, rfl⟩
          have hk := basK_sym HS.out i (by rw [HWL.out]; exact hi)
          rw [hB] at hk
          obtain ⟨z, hz⟩ : ∃ z, B.length = z := ⟨_, rfl⟩
          have hz5 : z ≤ g := by rw [← hz]; exact hk.1.length_le
          have HBB := Lib.hid (And.intro hk.1 (And.intro hk.2.1 hk.2.2.1))
          have HZ := Lib.hid hz
          have hrw := rl_rows (HR.out.rel 0 (by omega)) 3 (by decide)
          rw [HT.out.p, HT.out.L, hB] at hrw
          have HRW := Lib.hid hrw
          have HL3 : Hid ((R 0).L 3 = B) := HT.out.L.trans hB
          clear hk hz hrw hB
          go_wp2_with fail
          refine HRW.out.mono ?_
          rintro e w5 ⟨A5, n5, c5, psR, rfl, o5⟩
          have hn5 : n5 = z := by
            have h1 := o5.1.length
            have h2 := congrArg List.length o5.2.2.1
            rw [List.length_map, HZ.out] at h2
            omega
          obtain rfl : z = n5 := hn5.symm
          have HO5 := Lib.hid o5
          have HK5 := Lib.hid o5.2.2.2
          have HK55 : Hid (Keep w5 w5) := Keep.refl w5
          have HSI : Hid (StIn w5 (fun b => wo.heap.size ≤ b ∧ b < w5.heap.size) A5 z psR) := o5.stIn
          have HCA : Hid (psR.map (fun p => p.a.xs) = B.map (List.take g)) := by
            show _ = _
            rw [← o5.2.2.1, List.map_map]
            refine List.map_congr_left fun p hp => ?_
            show p.a.xs = (p.a.xs ++ p.b.xs).take g
            rw [List.take_left' (by rw [(o5.2.1 p hp).1.length]; exact (o5.2.1 p hp).2.2.1)]
          have HCB : Hid (psA.map (fun p => p.a.xs) = (W.take i).map (List.take g)) := by
            show _ = _
            rw [← HT.out.xs, List.map_map]
            refine List.map_congr_left fun p hp => ?_
            show p.a.xs = (p.a.xs ++ p.b.xs).take g
            rw [List.take_left' (by rw [(HT.out.rows p hp).1.1]; exact (HT.out.len p hp).1)]
          have HSA : Hid (StIn w5 (fun b => b < wo.heap.size) Al i psA) := by
            have h0 : StIn wo (fun b => b < wo.heap.size) Al i psA := HT.out.own.stIn (fun p hp => ⟨(HT.out.rows p hp).1.mono fun b hb => (HR.out.d b hb.1).1, (HT.out.rows p hp).2.mono fun b hb => (HR.out.d b hb.1).1⟩) fun b hb => (HT.out.own.lt b hb).2
            exact h0.turned (Turned.of_keep (F := fun _ => False) o5.2.2.2) fun _ _ e => e
          have hc1 := coefs_list z c5 A5 _ psR w5 HSI.out (fun b hb => hb.2) (by omega)
          rw [HCA.out] at hc1
          have HC1 := Lib.hid hc1
          clear o5 hn5 hc1 HRW
          go_wp2_with fail
          refine HC1.out.mono ?_
          rintro e w6 ⟨A6, c6, rfl, m6, k6⟩
          have hc2 := coefs_list i cl Al _ psA w6 (HSA.out.turned (Turned.of_keep (F := fun _ => False) k6) fun _ _ e => e) (fun b hb => Nat.lt_of_lt_of_le hb (HK5.out.trans k6).size) (by omega)
          rw [HCB.out] at hc2
          have HC2 := Lib.hid hc2
          have HM6 := Lib.hid m6
          have HK6 := Lib.hid (HK5.out.trans k6)
          have HK56 := Lib.hid k6
          clear hc2 m6 k6 HC1
          go_wp2_with fail
          refine HC2.out.mono ?_
          rintro e w7 ⟨A7, c7, rfl, m7, k7⟩
          have okB : RowsOk g (B.map (List.take g)) := cut_ok HBB.out.1.ok
          have okW : RowsOk g ((W.take i).map (List.take g)) := cut_ok fun r hr => HS.out.ok r (List.mem_of_mem_take hr)
          have hss := same_span (HM6.out.keep k7) m7 (by omega) (by omega) (Nat.le_trans (sizeC_ok2 okB okW) (by omega)) (Nat.le_trans (sizeC_ok2 okW okB) (by omega))
          rw [conV_true okB okW (within_cut HBB.out.2.2.2), conV_true okW okB (within_cut HBB.out.2.2.1), sizeE_ok okB okW] at hss
          have HSS := Lib.hid hss
          have HK7 := Lib.hid (HK6.out.trans k7)
          have HK57 := Lib.hid (HK56.out.trans k7)
          have HOB := Lib.hid okB
          clear m7 k7 okB okW hss HC2 HM6 HK6
          go_wp2_with fail
          refine HSS.out.mono ?_
          rintro e w8 ⟨rfl, k8⟩
          have HR8 := Lib.hid (HR.out.later (HK7.out.trans k8))
          have HSR : Hid (StIn w8 (fun b => wo.heap.size ≤ b ∧ b < w5.heap.size) A5 z psR) := by
            exact HSI.out.turned (Turned.of_keep (F := fun _ => False) (HK57.out.trans k8)) fun _ _ e => e
          have HK78 := Lib.hid k8
          clear k8 HK7 HSS HR
          have HYS : Hid (∀ r ∈ B, r = rowV g s M (r.take g)) := bas_rows sM.out HBB.out.1 HBB.out.2.1
          go_wp2_with fail
          go_loopw [23] (fun kv wz => ∃ k : Nat, k ≤ z ∧ kv = .int .i64 (k : Int) ∧ Keep w8 wz) (fun kv _ => z - (intOf kv).toNat)
          case atStart => exact ⟨0, by omega, rfl, Keep.refl _⟩
          case round =>
            obtain ⟨k, hk, rfl, hkk⟩ := hrel
            have HKK := Lib.hid hkk
            clear hkk
            by_cases hlt : k < z
            · have g0 : (0 : Int) ≤ (k : Int) := Int.natCast_nonneg _
              have g1 : (k : Int) < (z : Int) := by omega
              obtain ⟨b, off, ⟨⟨Aa, na, ca, xa⟩, ⟨Ab, nb, cb, xb⟩⟩, rfl, hb, hp, hca, hcb, la, lb⟩ := (HSR.out.turned (Turned.of_keep (F := fun _ => False) HKK.out) fun _ _ e => e).at_ hlt
              have hpm := List.mem_of_getElem? hp
              have hl := HO5.out.2.1 _ hpm
              obtain rfl : g = na := hl.2.2.1.symm
              obtain rfl : s = nb := hl.2.2.2.symm
              have hxa : xa.length = g := la.1
              have hrow := HYS.out (xa ++ xb) (by rw [← HO5.out.2.2.1]; exact List.mem_map.2 ⟨_, hpm, rfl⟩)
              rw [List.take_left' hxa] at hrow
              have hxb : xb = payV g s M xa := List.append_cancel_left hrow
              have hlt5 : ∀ b, (wo.heap.size ≤ b ∧ b < w5.heap.size) → b < wr.heap.size := fun b hb => Nat.lt_of_lt_of_le hb.2 (Nat.le_trans (Nat.le_trans HK57.out.size HK78.out.size) HKK.out.size)
              have HIT := Lib.hid (istrue_any g s cs ca cb As Aa Ab M xa xb wr (la.bytes hlt5) (lb.bytes hlt5) (MM.out.keep (HR8.out.keep.trans HKK.out)) sM.out p0 (by omega) (by omega) hxb)
              clear hb hp la lb hpm hl hxa hrow hxb hlt5
              go_wp2_with fail
              refine HIT.out.mono ?_
              rintro e w9 ⟨rfl, k9⟩
              have HK9 := Lib.hid (HKK.out.trans k9)
              clear k9 HIT
              go_wp2_with fail
              go_roundw
              case rel => exact ⟨k + 1, by omega, by go_num, HK9.out⟩
              case measure => simp [intOf]; omega
            · obtain rfl : z = k := by omega
              go_wp2_with fail
              go_loopw [24] (fun jv wz => ∃ j : Nat, j ≤ n3 ∧ j ≤ 12 ∧ jv = .int .i64 (j : Int) ∧ Keep w8 wz) (fun jv _ => n3 - (intOf jv).toNat)
              case atStart => exact ⟨0, by omega, by omega, rfl, HKK.out⟩
              case round =>
                clear HKK
                obtain ⟨j, hj, hj12, rfl, hkk⟩ := hrel
                have HKK := Lib.hid hkk
                clear hkk
                have e0 : (0 : Int) ≤ (j : Int) := Int.natCast_nonneg _
                go_upto_region 26 with fail
                go_cut [135] from 128 to 185 (fun v wx => ∃ q : Bool, v = .bool q ∧ wx = wr ∧ (q = true → j < n3 ∧ j < 12))
                case first =>
                  as_aux_lemma =>
                    by_cases f1 : j < n3
                    · have f1' : decide ((j : Int) < (n3 : Int)) = true := decide_eq_true (by omega)
                      have f1'' : (j : Int) < (n3 : Int) := by omega
                      by_cases f3 : j < 12
                      · have f3' : decide ((j : Int) < 12) = true := decide_eq_true (by omega)
                        have f3'' : decide (j < 12) = true := decide_eq_true f3
                        go_wp2_with fail
                        go_meet
                        case rel => exact ⟨true, rfl, rfl, fun _ => ⟨f1, f3⟩⟩
                      · have f3' : decide ((j : Int) < 12) = false := decide_eq_false (by omega)
                        have f3'' : decide (j < 12) = false := decide_eq_false f3
                        go_wp2_with fail
                        go_meet
                        case rel => exact ⟨false, rfl, rfl, fun e => by cases e⟩
                    · have f1' : decide ((j : Int) < (n3 : Int)) = false := decide_eq_false (by omega)
                      have f1'' : ¬ (j : Int) < (n3 : Int) := by omega
                      go_wp2_with fail
                      go_meet
                      case rel => exact ⟨false, rfl, rfl, fun e => by cases e⟩
                case rest =>
                  obtain ⟨q, rfl, rfl, hq⟩ := hcut
                  cases q with
                  | true =>
                    obtain ⟨f1, f3⟩ := hq rfl
                    clear hq
                    as_aux_lemma =>
                      obtain ⟨wp, rfl⟩ : ∃ wp, wp = wc := ⟨_, rfl⟩
                      have f1'' : (j : Int) < (n3 : Int) := by omega
                      have u1 : IntKind.u64.wrap (j : Int) = (j : Int) := IntWalk.u64_in _ (by omega)
                      have u2 : IntKind.i64.wrap ((j : Int) + 1) = (j : Int) + 1 := IntWalk.i64_in _ (by omega)
                      have HKW := Lib.hid (K1.out.trans (HR8.out.keep.trans HKK.out))
                      obtain ⟨b, off, r, rfl, hb, hr, hck, hby, hrn, hrc⟩ := (H3.out.keep (Nat.le_refl _) HKW.out).at_ f1
                      have HBY := Lib.hid ((H3.out.2.1 r (List.mem_of_getElem? hr)).1.keep (Nat.le_refl _) HKW.out)
                      have HRW := Lib.hid (HR8.out.later HKK.out)
                      have hrel := HRW.out.rel 0 (by omega)
                      rw [HT.out.p, HT.out.b] at hrel
                      have HREL := Lib.hid hrel
                      clear hb hr hby hrn hrc hrel
                      by_cases hz0 : z = 0
                      · have hz1 : decide ((0 : Int) < (z : Int)) = false := decide_eq_false (by omega)
                        have hz2 : decide (0 < z) = false := decide_eq_false (by omega)
                        have hz3 : ¬ (0 : Int) < (z : Int) := by omega
                        have HSD := Lib.hid (rl_send_none (m := r.n) (cb := r.c) (Ab := r.A) HREL.out 3 j (by decide) (by decide) (by rw [HL3.out]; exact HZ.out.trans hz0))
                        clear hz0
                        go_wp2_with fail
                        refine HSD.out.mono ?_
                        rintro e w9 ⟨A8, n8, c8, A9, n9, c9, rfl, -, -, k9⟩
                        have HK9 := Lib.hid (HKK.out.trans (k9.trans ((Keep.refl w9).alloc #[.slice A8 n8 c8, .slice A9 n9 c9] 34)))
                        clear k9 HSD
                        go_wp2_with fail
                        go_roundw
                        case rel => exact ⟨j + 1, by omega, by omega, by go_num, HK9.out⟩
                        case measure => simp [intOf]; omega
                      · have hz1 : decide ((0 : Int) < (z : Int)) = true := decide_eq_true (by omega)
                        have hz2 : decide (0 < z) = true := decide_eq_true (by omega)
                        have hsd := rl_send_in (cb := r.c) HREL.out 3 j (by decide) (by omega) (by decide) (by rw [HL3.out, HZ.out]; exact hz0) HBY.out HKW.out.size
                        rw [HL3.out] at hsd
                        obtain ⟨snd, hsn⟩ : ∃ x, sendN g s B j r.xs = x := ⟨_, rfl⟩
                        have hxr := HBY.out.all
                        have hin := send_in HBB.out.1 (t := j) hxr
                        have hsy := send_sym sM.out HBB.out.1 HBB.out.2.1 (t := j) hxr
                        have hlv := send_live HBB.out.1 (t := j) hxr (by rw [HZ.out]; omega)
                        have hct := send_cut HBB.out.1 (t := j) hxr
                        rw [hsn] at hsd hin hsy hlv hct
                        have HSD := Lib.hid hsd
                        have HSN := Lib.hid (And.intro hin (And.intro hsy (And.intro hlv hct)))
                        clear hsd hsn hxr hin hsy hlv hct
                        go_wp2_with fail
                        refine HSD.out.mono ?_
                        rintro e w9 ⟨A8, n8, c8, A9, n9, c9, rfl, o8, o9, k9⟩
                        have hl8 := o8.length
                        have hl9 := o9.length
                        rw [List.length_take, HSN.out.1.1] at hl8
                        rw [List.length_drop, HSN.out.1.1] at hl9
                        obtain rfl : g = n8 := by omega
                        obtain rfl : s = n9 := by omega
                        have r0 := row_block w9 (.slice A8 g c8) (.slice A9 s c9)
                        obtain ⟨wq, hwq⟩ : ∃ wq, w9.alloc (.cells #[.slice A8 g c8, .slice A9 s c9] 34) = wq := ⟨_, rfl⟩
                        have hlq : w9.heap.size < wq.heap.size := by rw [← hwq]; simp
                        rw [hwq] at r0
                        have HKQ := Lib.hid (HKK.out.trans (k9.trans r0.2.2))
                        have HO8 := Lib.hid (And.intro (o8.keep r0.2.2) (o9.keep r0.2.2))
                        have HLQ := Lib.hid hlq
                        have HQ1 := Lib.hid r0.2.1
                        have hq8 := r0.1
                        have hc1 := fun (w' : World) (kw : Keep wq w') => coefs_list z c5 A5 _ psR w' (HSR.out.turned (Turned.of_keep (F := fun _ => False) (HKQ.out.trans kw)) fun _ _ e => e) (fun b hb => Nat.lt_of_lt_of_le hb.2 (Nat.le_trans (Nat.le_trans HK57.out.size HK78.out.size) (HKQ.out.trans kw).size)) (by omega)
                        rw [HCA.out] at hc1
                        have HCF := Lib.hid hc1
                        have hcv := conV_true HOB.out (show RowsOk g [snd.take g] from fun r hr => by rw [List.mem_singleton.1 hr]; exact ⟨by rw [List.length_take, HSN.out.1.1]; omega, HSN.out.1.2.1.take g⟩) HSN.out.2.2.2
                        have hse := sizeE_ok HOB.out (show RowsOk g [snd.take g] from fun r hr => by rw [List.mem_singleton.1 hr]; exact ⟨by rw [List.length_take, HSN.out.1.1]; omega, HSN.out.1.2.1.take g⟩)
                        have hsc := sizeC_ok2 HOB.out (show RowsOk g [snd.take g] from fun r hr => by rw [List.mem_singleton.1 hr]; exact ⟨by rw [List.length_take, HSN.out.1.1]; omega, HSN.out.1.2.1.take g⟩)
                        have HCV := Lib.hid (And.intro hcv (And.intro hse hsc))
                        clear o8 o9 k9 hl8 hl9 r0 hlq hc1 hcv hse hsc HSD
                        go_upto_region 32 with fail
                        refine wp_region_noPanic ?_
                        refine wp_region_held_drew (S := fun wz => wz.cell? ⟨w9.heap.size, 0, none⟩ = some (.slice A8 g c8)) (by kernel_rfl) hq8 (fun hHeld => ?_)
                        refine wpAnyH_take (i := 0) (v := ?_) rfl (by kernel_rfl) (by kernel_rfl) (by kernel_rfl) (fun _ _ _ h => h) (Or.inl ⟨by rfl, ?_⟩) hHeld ?_
                        rotate_left
                        · intro wq hSw
                          go_simp
                          all_goals with_reducible rfl
                        try simp only [Act.put, List.getElem_toArray, List.getElem_cons_succ, List.getElem_cons_zero, List.setIfInBounds_toArray, List.set_cons_zero, List.set_cons_succ]
                        refine wpAnyH_take (i := 2) (v := ?_) rfl (by kernel_rfl) (by kernel_rfl) (by kernel_rfl) (fun _ _ _ h => h) (Or.inl ⟨by rfl, ?_⟩) hHeld ?_
                        rotate_left
                        · intro wq hSw
                          go_simp
                          all_goals with_reducible rfl
                        try simp only [Act.put, List.getElem_toArray, List.getElem_cons_succ, List.getElem_cons_zero, List.setIfInBounds_toArray, List.set_cons_zero, List.set_cons_succ]
                        refine wpAnyH_take (i := 3) (v := ?_) rfl (by kernel_rfl) (by kernel_rfl) (by kernel_rfl) (fun _ _ _ h => h) (Or.inl ⟨by rfl, ?_⟩) hHeld ?_
                        rotate_left
                        · intro wq hSw
                          have q0 := hSw
                          go_simp
                          all_goals with_reducible rfl
                        try simp only [Act.put, List.getElem_toArray, List.getElem_cons_succ, List.getElem_cons_zero, List.setIfInBounds_toArray, List.set_cons_zero, List.set_cons_succ]
                        refine wpAnyH_ready (rs := [1]) (by kernel_rfl) (by simp) ?_
                        refine AllReadyH.cons rfl (fun K hK => ?_) AllReadyH.nil
                        go_simp
                        refine (HCF.out _ (Keep.drew (Keep.refl _))).mono ?_
                        rintro e w10 ⟨A10, c10, rfl, m10, k10⟩
                        have k10' : Keep wq w10 := (Keep.drew (Keep.refl wq)).trans k10
                        have hq9 : w10.cell? ⟨w9.heap.size, 0, none⟩ = some (.slice A8 g c8) := (World.cell?_of_block (k10'.block _ HLQ.out)).trans hq8
                        have HM10 := Lib.hid m10
                        have HK10 := Lib.hid k10'
                        clear m10 k10 k10'
                        refine hK.out _ _ hq9 (fun hHeld => ?_)
                        clear hK K
                        try simp only [Act.put, List.getElem_toArray, List.getElem_cons_succ, List.getElem_cons_zero, List.setIfInBounds_toArray, List.set_cons_zero, List.set_cons_succ]
                        have hhm := has_mat HM10.out ((HO8.out.1.lies.mono fun b hb => (HO8.out.1.1.lt b hb).2).turned (Turned.of_keep (F := fun _ => False) HK10.out) (fun _ _ e => e) |>.mono fun b hb => Nat.lt_of_lt_of_le hb HK10.out.size) (by omega) (Nat.le_trans HCV.out.2.2 (by omega))
                        rw [HCV.out.1, HCV.out.2.1] at hhm
                        have HHM := Lib.hid hhm
                        clear hhm
                        refine wpAnyH_ready (rs := [4]) (by kernel_rfl) (by simp) ?_
                        refine AllReadyH.cons rfl (fun K hK => ?_) AllReadyH.nil
                        go_simp
                        refine (HHM.out).mono ?_
                        rintro e w11 ⟨rfl, k11⟩
                        have hq10 : w11.cell? ⟨w9.heap.size, 0, none⟩ = some (.slice A8 g c8) := (World.cell?_of_block ((HK10.out.trans k11).block _ HLQ.out)).trans hq8
                        have hq11 : w11.cell? ⟨w9.heap.size, 1, none⟩ = some (.slice A9 s c9) := (World.cell?_of_block ((HK10.out.trans k11).block _ HLQ.out)).trans HQ1.out
                        have HK11 := Lib.hid (HK10.out.trans k11)
                        clear k11 HHM
                        refine hK.out _ _ hq10 (fun hHeld => ?_)
                        clear hK K
                        try simp only [Act.put, List.getElem_toArray, List.getElem_cons_succ, List.getElem_cons_zero, List.setIfInBounds_toArray, List.set_cons_zero, List.set_cons_succ]
                        refine wpAnyH_take (i := 5) (v := ?_) rfl (by kernel_rfl) (by kernel_rfl) (by kernel_rfl) (fun _ _ _ h => h) (Or.inl ⟨by rfl, ?_⟩) hHeld ?_
                        rotate_left
                        · intro wq hSw
                          go_simp
                          all_goals with_reducible rfl
                        try simp only [Act.put, List.getElem_toArray, List.getElem_cons_succ, List.getElem_cons_zero, List.setIfInBounds_toArray, List.set_cons_zero, List.set_cons_succ]
                        refine wpAnyH_take (i := 6) (v := ?_) rfl (by kernel_rfl) (by kernel_rfl) (by kernel_rfl) (fun _ _ _ h => h) (Or.inl ⟨by rfl, ?_⟩) hHeld ?_
                        rotate_left
                        · intro wq hSw
                          go_simp
                          all_goals with_reducible rfl
                        try simp only [Act.put, List.getElem_toArray, List.getElem_cons_succ, List.getElem_cons_zero, List.setIfInBounds_toArray, List.set_cons_zero, List.set_cons_succ]
                        refine wpAnyH_take (i := 7) (v := ?_) rfl (by kernel_rfl) (by kernel_rfl) (by kernel_rfl) (fun _ _ _ h => h) (Or.inl ⟨by rfl, ?_⟩) hHeld ?_
                        rotate_left
                        · intro wq hSw
                          go_simp
                          all_goals with_reducible rfl
                        try simp only [Act.put, List.getElem_toArray, List.getElem_cons_succ, List.getElem_cons_zero, List.setIfInBounds_toArray, List.set_cons_zero, List.set_cons_succ]
                        refine wpAnyH_take (i := 8) (v := ?_) rfl (by kernel_rfl) (by kernel_rfl) (by kernel_rfl) (fun _ _ _ h => h) (Or.inl ⟨by rfl, ?_⟩) hHeld ?_
                        rotate_left
                        · intro wq hSw
                          go_simp
                          all_goals with_reducible rfl
                        try simp only [Act.put, List.getElem_toArray, List.getElem_cons_succ, List.getElem_cons_zero, List.setIfInBounds_toArray, List.set_cons_zero, List.set_cons_succ]
                        refine wpAnyH_take (i := 9) (v := ?_) rfl (by kernel_rfl) (by kernel_rfl) (by kernel_rfl) (fun _ _ _ h => h) (Or.inl ⟨by rfl, ?_⟩) hHeld ?_
                        rotate_left
                        · intro wq hSw
                          go_simp
                          all_goals with_reducible rfl
                        try simp only [Act.put, List.getElem_toArray, List.getElem_cons_succ, List.getElem_cons_zero, List.setIfInBounds_toArray, List.set_cons_zero, List.set_cons_succ]
                        refine wpAnyH_done (by kernel_rfl) ?_ _
                        refine NoPanic.normal ?_
                        clear hHeld
                        have hlv0 : decide (vLead g (snd.take g) < 0) = false := decide_eq_false (by have := HSN.out.2.2.1; omega)
                        have hb8 : Bytes w11 w11.heap.size A8 g (snd.take g) := (HO8.out.1.bytes.keep (Nat.le_refl _) HK11.out).mono HK11.out.size
                        have hb9 : Bytes w11 w11.heap.size A9 s (snd.drop g) := (HO8.out.2.bytes.keep (Nat.le_refl _) HK11.out).mono HK11.out.size
                        have hpy : snd.drop g = payV g s M (snd.take g) := by
                          have h1 : snd.take g ++ snd.drop g = snd.take g ++ payV g s M (snd.take g) := (List.take_append_drop g snd).trans HSN.out.2.1.2
                          exact List.append_cancel_left h1
                        have HIT := Lib.hid (istrue_any g s cs c8 c9 As A8 A9 M (snd.take g) (snd.drop g) w11 hb8 hb9 (MM.out.keep (HR8.out.keep.trans (HKQ.out.trans HK11.out))) sM.out p0 (by omega) (by omega) hpy)
                        have HB8 := Lib.hid hb8
                        clear hb8 hb9 hpy hHeld
                        go_wp2_with fail
                        refine HIT.out.mono ?_
                        rintro e w12 ⟨rfl, k12⟩
                        have hvz := vzero_eq w12.heap.size g c8 A8 (snd.take g) w12 ((HB8.out.keep (Nat.le_refl _) k12).mono k12.size) (by omega)
                        rw [hlv0] at hvz
                        have hq12 : w12.cell? ⟨w9.heap.size, 0, none⟩ = some (.slice A8 g c8) := (World.cell?_of_block (k12.block _ (Nat.lt_of_lt_of_le HLQ.out HK11.out.size))).trans hq10
                        have HVZ := Lib.hid hvz
                        have HK12 := Lib.hid (HKQ.out.trans (HK11.out.trans k12))
                        clear k12 hvz HIT hlv0
                        go_wp2_with fail
                        refine HVZ.out.mono ?_
                        rintro e w13 ⟨rfl, hw13⟩
                        obtain rfl : w12 = w13 := hw13
                        go_wp2_with fail
                        go_roundw
                        case rel => exact ⟨j + 1, by omega, by omega, by go_num, HK12.out⟩
                        case measure => simp [intOf]; omega
                  | false =>
                    clear hq
                    as_aux_lemma =>
                      have HRW := Lib.hid (HR8.out.later HKK.out)
                      have hrel := HRW.out.rel 0 (by omega)
                      rw [HT.out.p, HT.out.b] at hrel
                      have HREL := Lib.hid hrel
                      clear hrel
                      by_cases hzg : z = g
                      · have hz1 : ((z : Int) == (g : Int)) = true := by rw [beq_iff_eq]; omega
                        have hz2 : decide ((z : Int) = (g : Int)) = true := decide_eq_true (by omega)
                        have hsv := rl_solve_in HREL.out 3 (by decide) (by decide) (by rw [HL3.out, HZ.out]; exact hzg)
                        rw [HL3.out] at hsv
                        have HSV := Lib.hid hsv
                        have HSO := Lib.hid (solved sM.out HBB.out.1 HBB.out.2.1 (HZ.out.trans hzg))
                        clear hsv hzg
                        go_wp2_with fail
                        refine HSV.out.mono ?_
                        rintro e w9 ⟨A8, c8, rs, rfl, h9⟩
                        have hxs : rowsXs rs = M := h9.2.2.1.trans HSO.out
                        have HXS := Lib.hid hxs
                        have HO9 := Lib.hid (Mat.of_owned (show OwnedRows _ _ A8 g c8 M rs from ⟨h9.1, h9.2.1, hxs, h9.2.2.2.1⟩))
                        have HM9 := Lib.hid (MM.out.keep (HR8.out.keep.trans (HKK.out.trans h9.2.2.2.1)))
                        have HK9 := Lib.hid (HKK.out.trans h9.2.2.2.1)
                        clear h9 hxs HSV
                        go_wp2_with fail
                        go_loopw [31] (fun jv wz => ∃ j : Nat, j ≤ g ∧ jv = .int .i64 (j : Int) ∧ Keep w9 wz) (fun jv _ => g - (intOf jv).toNat)
                        case atStart => exact ⟨0, by omega, rfl, Keep.refl _⟩
                        case round =>
                          clear HKK
                          obtain ⟨j, hj, rfl, hkk⟩ := hrel
                          have HKK := Lib.hid hkk
                          clear hkk
                          by_cases hlt : j < g
                          · have e0 : (0 : Int) ≤ (j : Int) := Int.natCast_nonneg _
                            have e1 : (j : Int) < (g : Int) := by omega
                            obtain ⟨b, off, Ay, cy, rfl, hb, hc, -, -, hby⟩ := (HO9.out.keep HKK.out).row_at sM.out hlt
                            obtain ⟨b', off', Az, cz, rfl, hb', hc', -, -, hbz⟩ := (HM9.out.keep HKK.out).row_at sM.out hlt
                            have t1 : ∀ k, (convert 32 9 (.slice Ay s cy)).run Tryz.prog (wr.drewN k) = .ok (.string (strN (M.getD j []))) (wr.drewN k) := fun k => hby.strP (fun _ e => e) k
                            have t2 : ∀ k, (convert 32 9 (.slice Az s cz)).run Tryz.prog (wr.drewN k) = .ok (.string (strN (M.getD j []))) (wr.drewN k) := fun k => hbz.strP (fun _ e => e) k
                            have d1 : ∀ q, (wr.drewN q).cell? ⟨b, off + j, none⟩ = some (.slice Ay s cy) := fun _ => hc
                            have d2 : ∀ q, (wr.drewN q).cell? ⟨b', off' + j, none⟩ = some (.slice Az s cz) := fun _ => hc'
                            have q0 := strN_eq (rfl : M.getD j [] = M.getD j [])
                            clear hc hc' hby hbz
                            go_wp2_with fail
                            go_quiet (fail)
                            go_wp2_with fail
                            go_roundw
                            case rel => exact ⟨j + 1, by omega, by go_num, Keep.drewN HKK.out _⟩
                            case measure => simp [intOf]; omega
                          · obtain rfl : j = g := by omega
                            go_wp2_with fail
                            refine (wakes_any wr).mono ?_
                            rintro e w10 ⟨rfl, k10⟩
                            go_wp2_with fail
                            go_ret
                            exact ⟨rfl, (K1.out.trans (HR8.out.keep.trans HK9.out)).trans (HKK.out.trans k10)⟩
                      · have hz1 : ((z : Int) == (g : Int)) = false := by rw [beq_eq_false_iff_ne]; omega
                        have hz2 : decide ((z : Int) = (g : Int)) = false := decide_eq_false (by omega)
                        have HSV := Lib.hid (rl_solve_low HREL.out 3 (by decide) (by decide) (by rw [HL3.out, HZ.out]; exact hzg))
                        clear hzg
                        go_wp2_with fail
                        refine HSV.out.mono ?_
                        rintro e w9 ⟨rfl, k9⟩
                        have HK9 := Lib.hid (HKK.out.trans k9)
                        clear k9 HSV
                        go_wp2_with fail
                        go_loopw [31] (fun jv wz => jv = .int .i64 ((0 : Nat) : Int) ∧ wz = w9) (fun jv _ => 0)
                        case atStart => exact ⟨rfl, rfl⟩
                        case round =>
                          obtain ⟨rfl, hw9⟩ := hrel
                          obtain rfl : wr = w9 := hw9
                          go_wp2_with fail
                          refine (wakes_any wr).mono ?_
                          rintro e w10 ⟨rfl, k10⟩
                          go_wp2_with fail
                          go_ret
                          exact ⟨rfl, (K1.out.trans (HR8.out.keep.trans HK9.out)).trans k10⟩
end Go.Proofs.YtcjjhblgejkkeaaGreat
