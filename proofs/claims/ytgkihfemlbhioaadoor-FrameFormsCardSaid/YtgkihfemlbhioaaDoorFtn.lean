/- The document's own frames, read: a kind. -/
import Derived.Test.YtgkihfemlbhioaaDoorFt
import Derived.Deep.DeepCutAuto
import Derived.Deep.CutBlock
namespace Go.Proofs.YtgkihfemlbhioaaDoor
open Go.RowKit Fr Crc
set_option linter.unusedVariables false
set_option linter.unusedSimpArgs false
set_option maxRecDepth 100000 in
set_option maxHeartbeats 16000000 in
theorem rtk_5 (xs L : List Nat) (W w : World) (g2 g gf : Nat) (st : Option (List Nat)) (s d ep lf : Nat) (hs : s < 256) (hd : d < 256) (hep : ep < 18446744073709551616) (hlf : lf < 18446744073709551616) (hS : Tk W g2 g gf w st noM ⟨5, (s : Int), (d : Int), ep, lf, 0, 0, 0, 0, [], [], [], 0, [], []⟩)
    (hq : parseF L = goO st (restP 5 s d ep lf)) (hE : EndTold xs L W) (s0 s1 s3 s4 s5 s8 s9 s10 s11 s12 s13 s14 s15 s16 s17 s18 s19 s20 s21 s22 s23 s24 s25 s26 s27 s28 s29 s30 s31 s32 s33 s34 s35 s36 s37 s38 s39 s40 s41 s42 s43 s44 s45 s46 s47 s48 s49 s50 s51 s52 s53 s54 s55 s56 s57 s58 s59 s60 s61 s62 s63 s64 s65 s66 s67 s68 s69 s70 s71 s72 s73 s74 s75 s76 s77 s78 s79 s80 s81 s82 s83 s84 s85 s86 s87 s88 s89 s90 s91 s92 s93 s94 s95 s96 s97 s98 s99 s100 s101 s102 s103 s104 s105 s106 s107 s108 s109 s110 s111 s112 s113 s114 s115 s116 s117 s118 s119 s120 s121 s122 s123 s124 s125 s126 s127 s128 s129 s130 s131 s132 s133 s134 s135 s136 s137 s138 s139 s140 s141 s142 s143 s144 s145 s146 s147 s148 s149 s150 s151 s152 s153 s154 s155 s156 s157 s158 s159 s160 s161 s162 s163 s164 s165 s166 s167 s168 s169 s170 s171 s172 s173 s174 s175 s176 s177 s178 s179 s180 s181 s182 s183 s184 s185 s186 s187 s188 s189 s190 s191 s192 s193 s194 s195 s196 s197 s198 s199 s200 s201 s202 s203 s204 s205 s206 s207 s208 s209 s210 s211 s212 s213 s214 s215 s216 s217 s218 s219 s220 s221 s222 s223 s224 s225 s226 s227 s228 s229 s230 s231 s232 s233 s234 s235 s236 s237 s238 s239 s240 s241 s242 s243 s244 s245 s246 : Value) :
    Code.wp Tryd.prog kindCode (bodyPost Tryd.prog Tryd.f12 (TakeTold xs W)) { tmps := #[s0, s1, .pointer (some ⟨g2, 0, none⟩), s3, s4, s5, .pointer (some ⟨g, 0, none⟩), .pointer (some ⟨gf, 0, none⟩), s8, s9, s10, s11, s12, s13, s14, s15, s16, s17, s18, s19, s20, s21, s22, s23, s24, s25, s26, s27, s28, s29, s30, s31, s32, s33, s34, s35, s36, s37, s38, s39, s40, s41, s42, s43, s44, s45, s46, s47, s48, s49, s50, s51, s52, s53, s54, s55, s56, s57, s58, s59, s60, s61, s62, s63, s64, s65, s66, s67, s68, s69, s70, s71, s72, s73, s74, s75, s76, s77, s78, s79, s80, s81, s82, s83, s84, s85, s86, s87, s88, s89, s90, s91, s92, s93, s94, s95, s96, s97, s98, s99, s100, s101, s102, s103, s104, s105, s106, s107, s108, s109, s110, s111, s112, s113, s114, s115, s116, s117, s118, s119, s120, s121, s122, s123, s124, s125, s126, s127, s128, s129, s130, s131, s132, s133, s134, s135, s136, s137, s138, s139, s140, s141, s142, s143, s144, s145, s146, s147, s148, s149, s150, s151, s152, s153, s154, s155, s156, s157, s158, s159, s160, s161, s162, s163, s164, s165, s166, s167, s168, s169, s170, s171, s172, s173, s174, s175, s176, s177, s178, s179, s180, s181, s182, s183, s184, s185, s186, s187, s188, s189, s190, s191, s192, s193, s194, s195, s196, s197, s198, s199, s200, s201, s202, s203, s204, s205, s206, s207, s208, s209, s210, s211, s212, s213, s214, s215, s216, s217, s218, s219, s220, s221, s222, s223, s224, s225, s226, s227, s228, s229, s230, s231, s232, s233, s234, s235, s236, s237, s238, s239, s240, s241, s242, s243, s244, s245, s246], defers := [] } w := by
  have HS := Lib.hid hS
  have HQ := Lib.hid hq
  have HE := Lib.hid hE
  clear hS hq hE
  conv => arg 2; whnf
  have y0 : w.cell? ⟨gf, 0, none⟩ = some (.int .i64 5) := HS.out.box.cell 0 _ rfl
  have HC1 := Lib.hid (rnum8 HS.out)
  go_wp2_with fail
  refine HC1.out.mono ?_
  rintro e w_1 ⟨te, st1, rfl, bte, r1, t1, q1⟩
  have S1 := Lib.hid r1
  have Q1 := Lib.hid q1
  have T1 := Lib.hid t1
  clear HC1 r1 q1 t1 HS
  clear y0
  have bx := S1.out.box
  have y12 := bx.cell 12 _ rfl
  have z12 := bx.free 12
  dsimp only [noM] at y12
  clear bx
  have S2 := S1.out.set 12 (.int .u64 (te : Int)) (m' := noM) (f' := ⟨5, (s : Int), (d : Int), ep, lf, 0, 0, 0, 0, [], [], [], te, [], []⟩) rfl
  obtain ⟨w_2, hw2⟩ : ∃ x, w_1.setCell ⟨gf, 12, none⟩ (.int .u64 (te : Int)) = x := ⟨_, rfl⟩
  rw [hw2] at S2
  have S2 := Lib.hid S2
  have t2 : Turned (fun b => b = gf) w_1 w_2 := by rw [← hw2]; exact Turned.set _ _ _ rfl
  clear t2 S1
  have HC3 := Lib.hid (rnum1 S2.out)
  go_wp2_with fail
  clear y12 z12
  refine HC3.out.mono ?_
  rintro e w_3 ⟨nu, st3, rfl, bnu, r3, t3, q3⟩
  have S3 := Lib.hid r3
  have Q3 := Lib.hid q3
  have T3 := Lib.hid t3
  have wrnu : IntKind.i64.wrap (nu : Int) = (nu : Int) := IntWalk.i64_in _ (by omega)
  clear HC3 r3 q3 t3 S2
  have HC4 := Lib.hid (rtakeT S3.out nu)
  have HWS4 : Hid (gf < w_3.heap.size) := S3.out.box.lt
  go_wp2_with fail
  refine HC4.out.mono ?_
  rintro e w_4 ⟨Aus, kus, cus, us, st4, rfl, bus, ous, r4, t4, q4⟩
  have OWus := Lib.hid ous
  have S4 := Lib.hid r4
  have Q4 := Lib.hid q4
  have T4 := Lib.hid t4
  clear HC4 r4 q4 t4 ous S3
  have HUL : Hid (us.length = kus) := OWus.out.length
  have HUB : Hid (∀ b, (Value.slice Aus kus cus).ownBlock = some b → gf < b ∧ b < w_4.heap.size) := fun b hb => by
    have h1 := World.ownsRow.lt OWus.out.1 b hb
    have h2 := HWS4.out
    omega
  obtain ⟨M, hM⟩ : ∃ M, w_4.heap.size = M := ⟨_, rfl⟩
  rw [hM] at HUB
  have HWS : Hid (gf < M) := by show _ < _; rw [← hM]; exact S4.out.box.lt
  have HMM := Lib.hid hM
  have OWU : Hid (Own w_4 0 5 Aus kus cus us) := OWus.out.lower (Nat.zero_le _)
  clear hM OWus
  go_upto_region 34 with fail
  go_loopw [12] (fun iv wr => ∃ (i : Nat) (Au : Option Addr) (cu : Nat) (oi : Option (List Nat)), i ≤ kus ∧ iv = .int .i64 i ∧ Tk W g2 g gf wr oi (⟨⟨none, 0, 0⟩, ⟨none, 0, 0⟩, ⟨none, 0, 0⟩, ⟨Au, i, cu⟩, ⟨none, 0, 0⟩⟩ : FrM) ⟨5, (s : Int), (d : Int), ep, lf, 0, 0, 0, 0, [], [], [], te, ((us.take i).map (· == 1)), []⟩ ∧ oi = (if (us.take i).all (· ≤ 1) = true then st4 else none) ∧ wr.ownsRow M 4 1 (.slice Au i cu) i (((us.take i).map (· == 1)).map Value.bool) ∧ Own wr 0 5 Aus kus cus us ∧ M ≤ wr.heap.size) (fun iv _ => kus - (intOf iv).toNat)
  case atStart => exact ⟨0, none, 0, _, by omega, rfl, S4.out, by simp, World.ownsRow_nil _ _ _ _, OWU.out, Nat.le_of_eq HMM.out.symm⟩
  case round =>
    obtain ⟨i, Au, cu, oi, hi, rfl, ts, hoi, ow, ou, hMr⟩ := hrel
    have TS := Lib.hid ts
    have HOI := Lib.hid hoi
    have OW := Lib.hid ow
    have OU := Lib.hid ou
    have e1 : (0 : Int) ≤ (i : Int) := Int.natCast_nonneg _
    clear ts hoi ow ou S4 OWU
    by_cases hlt : i < kus
    · have e2 : (i : Int) < (kus : Int) := by omega
      have e3 : ((i : Int)).toNat = i := Int.toNat_natCast i
      obtain ⟨gU, hAU, _, _⟩ := OU.out.block (by omega)
      subst hAU
      have hcell := OU.out.cell (i := i) hlt
      have HUBG := HUB
      have hx : us.getD i 0 < 256 := OU.out.2.getD i
      have hsome : us[i]? = some (us.getD i 0) := by
        have h1 := HUL.out
        rw [List.getD_eq_getElem?_getD, List.getElem?_eq_getElem (by omega)]; rfl
      have hgU := HUBG.out gU rfl
      obtain ⟨x, hxv⟩ : ∃ x, us.getD i 0 = x := ⟨_, rfl⟩
      rw [hxv] at hcell hx hsome
      have HAT : Hid ((us.take (i + 1)).all (· ≤ 1) = ((us.take i).all (· ≤ 1) && decide (x ≤ 1))) := all_take_succ us i x hsome
      have HTK : Hid ((us.take (i + 1)).map (· == 1) = (us.take i).map (· == 1) ++ [x == 1]) := by
        show _ = _
        rw [List.take_add_one, hsome]
        simp
      have HGU := Lib.hid hgU
      have HX1 := Lib.hid hsome
      clear hsome hxv hgU HUBG
      go_upto_region 36 with fail
      go_cut [153] (fun v wx => v = .pointer (some ⟨g, 0, none⟩) ∧ (∃ oj, Tk W g2 g gf wx oj (⟨⟨none, 0, 0⟩, ⟨none, 0, 0⟩, ⟨none, 0, 0⟩, ⟨Au, i, cu⟩, ⟨none, 0, 0⟩⟩ : FrM) ⟨5, (s : Int), (d : Int), ep, lf, 0, 0, 0, 0, [], [], [], te, ((us.take i).map (· == 1)), []⟩ ∧ oj = (if (us.take (i + 1)).all (· ≤ 1) = true then st4 else none)) ∧ Turned (fun b => b = g) wr wx)
      case first =>
        cases oi with
        | none =>
          obtain ⟨M1, hr1⟩ := TS.out.rd
          obtain ⟨Ax, cx, h1, _⟩ := hr1
          obtain ⟨c1, c2, c3, c4⟩ := two_cells h1
          clear h1 c1 c3
          have TN : Tk W g2 g gf (wr.setCell ⟨g, 1, none⟩ (.bool true)) none (⟨⟨none, 0, 0⟩, ⟨none, 0, 0⟩, ⟨none, 0, 0⟩, ⟨Au, i, cu⟩, ⟨none, 0, 0⟩⟩ : FrM) ⟨5, (s : Int), (d : Int), ep, lf, 0, 0, 0, 0, [], [], [], te, ((us.take i).map (· == 1)), []⟩ := TS.out.mark true (fun _ => rfl)
          have TT : Turned (fun b => b = g) wr (wr.setCell ⟨g, 1, none⟩ (.bool true)) := Turned.set _ _ _ rfl
          have hno : none = (if (us.take (i + 1)).all (· ≤ 1) = true then st4 else none) := by
            rw [HAT.out]
            have h := HOI.out
            cases hc : (us.take i).all (· ≤ 1) with
            | false => simp
            | true =>
              rw [hc] at h
              simp at h
              rw [← h]; simp
          have TNH := Lib.hid TN
          have HNO := Lib.hid hno
          have TTH := Lib.hid TT
          clear TN TT hno
          go_wp2_with fail
          go_meet
          case rel => exact ⟨rfl, ⟨_, TNH.out, HNO.out⟩, TTH.out⟩
        | some M1 =>
          obtain ⟨Ax, cx, h1, _⟩ := (show Rd wr g M1 false from TS.out.rd)
          obtain ⟨c1, c2, c3, c4⟩ := two_cells h1
          clear h1 c1 c3
          obtain ⟨t, ht⟩ : ∃ t, decide ((1 : Int) < (x : Int)) = t := ⟨_, rfl⟩
          have TN := TS.out.mark t (fun e => by cases e)
          have TT : Turned (fun b => b = g) wr (wr.setCell ⟨g, 1, none⟩ (.bool t)) := Turned.set _ _ _ rfl
          have hno : (if t = true then none else some M1) = (if (us.take (i + 1)).all (· ≤ 1) = true then st4 else none) := by
            rw [HAT.out, ← ht]
            have h := HOI.out
            cases hc : (us.take i).all (· ≤ 1) with
            | false => rw [hc] at h; simp at h
            | true =>
              rw [hc] at h
              simp at h
              by_cases h9 : x ≤ 1
              · have : ¬ (1 : Int) < (x : Int) := by omega
                simp [h9, this, h]
              · have : (1 : Int) < (x : Int) := by omega
                simp [h9, this]
          have TNH := Lib.hid TN
          have HNO := Lib.hid hno
          have TTH := Lib.hid TT
          clear TN TT hno
          go_wp2_with fail
          go_meet
          case rel => exact ⟨rfl, ⟨_, TNH.out, HNO.out⟩, TTH.out⟩
      case rest =>
        obtain ⟨rfl, ⟨oj, tsj, hoj⟩, hT⟩ := hcut
        have TJ := Lib.hid tsj
        have HOJ := Lib.hid hoj
        have HT := Lib.hid hT
        obtain ⟨wc, rfl⟩ : ∃ y, y = wc := ⟨_, rfl⟩
        have hcell2 : wc.cell? ⟨gU, i, none⟩ = some (.int .u8 (x : Int)) := hT.cell hcell (fun e => by have := HGU.out; have := TJ.out.o3; have e : gU = g := e; omega)
        clear tsj hoj hT hcell
        obtain ⟨bx, hbx⟩ : ∃ b, ((x : Int) == 1) = b := ⟨_, rfl⟩
        have HUP : Hid ((us.take (i + 1)).map (· == 1) = (us.take i).map (· == 1) ++ [bx]) := by
          show _ = _
          rw [HTK.out, ← hbx]
          by_cases h9 : x = 1
          · subst h9; rfl
          · have h8 : ((x : Int) == 1) = false := beq_eq_false_iff_ne.2 (by omega)
            have h7 : (x == 1) = false := beq_eq_false_iff_ne.2 h9
            rw [h8, h7]
        go_wp2_with fail
        have SD := Lib.hid (TJ.out.keep (Keep.refl wc).drew)
        refine wp_region_till [12] (fun wz : World => wz.cell? ⟨gf, 13, none⟩ = some (.slice Au i cu) ∧ wz.cell? ⟨gU, i, none⟩ = some (.int .u8 (x : Int))) (by kernel_rfl) ?_
        have hHeld : (fun wz : World => wz.cell? ⟨gf, 13, none⟩ = some (.slice Au i cu) ∧ wz.cell? ⟨gU, i, none⟩ = some (.int .u8 (x : Int))) wc.drew := ⟨SD.out.box.cell 13 _ rfl, (Turned.of_keep (F := fun _ => False) (Keep.refl wc).drew).cell hcell2 (fun e => e)⟩
        have HC2 := Lib.hid hcell2
        clear hcell2
        refine wpTill_free (i := 0) (v := ?_) rfl (by kernel_rfl) (by kernel_rfl) (by kernel_rfl) (by kernel_rfl) (fun _ _ _ h => h) (Or.inl ⟨by rfl, ?_⟩) hHeld ?_
        rotate_left
        · intro wq hSw
          go_simp
          all_goals with_reducible rfl
        try simp only [Act.put, List.getElem_toArray, List.getElem_cons_succ, List.getElem_cons_zero, List.setIfInBounds_toArray, List.set_cons_zero, List.set_cons_succ]
        refine wpTill_free (i := 1) (v := ?_) rfl (by kernel_rfl) (by kernel_rfl) (by kernel_rfl) (by kernel_rfl) (fun _ _ _ h => h) (Or.inl ⟨by rfl, ?_⟩) hHeld ?_
        rotate_left
        · intro wq hSw
          go_simp
          all_goals with_reducible rfl
        try simp only [Act.put, List.getElem_toArray, List.getElem_cons_succ, List.getElem_cons_zero, List.setIfInBounds_toArray, List.set_cons_zero, List.set_cons_succ]
        refine wpTill_take (i := 2) (v := ?_) rfl (by kernel_rfl) (by kernel_rfl) (by kernel_rfl) (by kernel_rfl) (fun _ _ _ h => h) (Or.inl ⟨by rfl, ?_⟩) hHeld ?_
        rotate_left
        · intro wq hSw
          have q0 := hSw.1
          go_simp
          all_goals with_reducible rfl
        try simp only [Act.put, List.getElem_toArray, List.getElem_cons_succ, List.getElem_cons_zero, List.setIfInBounds_toArray, List.set_cons_zero, List.set_cons_succ]
        refine wpTill_free (i := 3) (v := ?_) rfl (by kernel_rfl) (by kernel_rfl) (by kernel_rfl) (by kernel_rfl) (fun _ _ _ h => h) (Or.inl ⟨by rfl, ?_⟩) hHeld ?_
        rotate_left
        · intro wq hSw
          go_simp
          all_goals with_reducible rfl
        try simp only [Act.put, List.getElem_toArray, List.getElem_cons_succ, List.getElem_cons_zero, List.setIfInBounds_toArray, List.set_cons_zero, List.set_cons_succ]
        refine wpTill_free (i := 4) (v := ?_) rfl (by kernel_rfl) (by kernel_rfl) (by kernel_rfl) (by kernel_rfl) (fun _ _ _ h => h) (Or.inl ⟨by rfl, ?_⟩) hHeld ?_
        rotate_left
        · intro wq hSw
          go_simp
          all_goals with_reducible rfl
        try simp only [Act.put, List.getElem_toArray, List.getElem_cons_succ, List.getElem_cons_zero, List.setIfInBounds_toArray, List.set_cons_zero, List.set_cons_succ]
        refine wpTill_free (i := 5) (v := ?_) rfl (by kernel_rfl) (by kernel_rfl) (by kernel_rfl) (by kernel_rfl) (fun _ _ _ h => h) (Or.inl ⟨by rfl, ?_⟩) hHeld ?_
        rotate_left
        · intro wq hSw
          go_simp
          all_goals with_reducible rfl
        try simp only [Act.put, List.getElem_toArray, List.getElem_cons_succ, List.getElem_cons_zero, List.setIfInBounds_toArray, List.set_cons_zero, List.set_cons_succ]
        refine wpTill_take (i := 6) (v := ?_) rfl (by kernel_rfl) (by kernel_rfl) (by kernel_rfl) (by kernel_rfl) (fun _ _ _ h => h) (Or.inl ⟨by rfl, ?_⟩) hHeld ?_
        rotate_left
        · intro wq hSw
          have q0 := hSw.2
          go_simp
          all_goals with_reducible rfl
        try simp only [Act.put, List.getElem_toArray, List.getElem_cons_succ, List.getElem_cons_zero, List.setIfInBounds_toArray, List.set_cons_zero, List.set_cons_succ]
        refine wpTill_free (i := 7) (v := ?_) rfl (by kernel_rfl) (by kernel_rfl) (by kernel_rfl) (by kernel_rfl) (fun _ _ _ h => h) (Or.inl ⟨by rfl, ?_⟩) hHeld ?_
        rotate_left
        · intro wq hSw
          go_simp
          all_goals with_reducible rfl
        try simp only [Act.put, List.getElem_toArray, List.getElem_cons_succ, List.getElem_cons_zero, List.setIfInBounds_toArray, List.set_cons_zero, List.set_cons_succ]
        refine wpTill_one (i := 8) (by kernel_rfl) rfl (fun K hK => ?_)
        go_simp
        obtain ⟨wl, hwl⟩ : ∃ wl, (wc.alloc (.cells #[.bool bx] 4)).drew = wl := ⟨_, rfl⟩
        have kl2 : Keep wc wl := by rw [← hwl]; exact ((Keep.refl wc).alloc _ _).drew
        have SL := Lib.hid (TJ.out.keep kl2)
        have OWL : Hid (wl.ownsRow M 4 1 (.slice Au i cu) i (((us.take i).map (· == 1)).map Value.bool)) := owns_keep (HT.out.owns OW.out (fun b hb e => by have := (World.ownsRow.lt OW.out b hb).1; have := HWS.out; have := SL.out.o3; omega)) kl2
        have OUL : Hid (Own wl 0 5 (some ⟨gU, 0, none⟩) kus cus us) := (OU.out.turned HT.out (fun b hb e => by have := HUB.out b hb; have := SL.out.o3; omega)).keep kl2
        have hMl : M ≤ wc.heap.size := Nat.le_trans hMr HT.out.size
        have HCL : Hid (∀ j u, [Value.bool bx][j]? = some u → wl.cell? ⟨wc.heap.size, j, none⟩ = some u) := fun j u hu => by
          rw [← hwl]
          change (wc.alloc (.cells #[.bool bx] 4)).cell? ⟨wc.heap.size, j, none⟩ = _
          rw [cell_of_row _ _ _ _ _ _ (heap_alloc_new wc _)]
          simpa using hu
        have HSL : Hid (wl.heap.size = wc.heap.size + 1) := by show _ = _; rw [← hwl]; simp
        have HQ2 := hHeld
        have hHeld2 : (fun wz : World => wz.cell? ⟨gf, 13, none⟩ = some (.slice Au i cu) ∧ wz.cell? ⟨gU, i, none⟩ = some (.int .u8 (x : Int))) wl := ⟨SL.out.box.cell 13 _ rfl, (Turned.of_keep (F := fun _ => False) kl2).cell HC2.out (fun e => e)⟩
        rw [hwl]
        clear hwl kl2 SD TJ HQ2
        refine hK.out _ _ hHeld2 ?_
        clear hK K hHeld
        have hHeld := hHeld2
        clear hHeld2
        try simp only [Act.put, List.getElem_toArray, List.getElem_cons_succ, List.getElem_cons_zero, List.setIfInBounds_toArray, List.set_cons_zero, List.set_cons_succ]
        have hi9 : i ≤ 1000000 := by omega
        have HML : Hid (M ≤ wl.heap.size) := by have := HSL.out; show M ≤ _; omega
        refine wpTill_one (i := 9) (by kernel_rfl) rfl (fun K hK => ?_)
        refine step_append_cells rfl _ _ 27 rfl [.bool bx] Tryd.underlying27 infoBool rfl (by decide) (by decide) rfl OWL.out rfl rfl HCL.out (by intro u hu; simp at hu; subst hu; rfl) hi9 HML.out ?_
        intro A2 c2' we h7 g7 r7
        have T7 : Turned (fun b => (Value.slice Au i cu).ownBlock = some b) wl we := Turned.of_grown g7 (fun i e => e)
        have hlo : ∀ b, (Value.slice Au i cu).ownBlock = some b → M ≤ b := fun b hb => (World.ownsRow.lt OWL.out b hb).1
        have SA := Lib.hid (SL.out.turned T7 (fun b hb => by have := hlo b hb; have := HWS.out; omega))
        have OUA : Hid (Own we 0 5 (some ⟨gU, 0, none⟩) kus cus us) := OUL.out.turned T7 (fun b hb e => by have := HUB.out b hb; have := hlo b e; omega)
        have OWA : Hid (we.ownsRow M 4 1 (.slice A2 (i + 1) c2') (i + 1) ((((us.take i).map (· == 1)) ++ [bx]).map Value.bool)) := by
          show World.ownsRow _ _ _ _ _ _ _
          rw [List.map_append]
          exact h7
        have hMe : M ≤ we.heap.size := Nat.le_trans HML.out T7.size
        have hHeld2 : (fun wz : World => wz.cell? ⟨gf, 13, none⟩ = some (.slice Au i cu) ∧ wz.cell? ⟨gU, i, none⟩ = some (.int .u8 (x : Int))) we := ⟨SA.out.box.cell 13 _ rfl, T7.cell hHeld.2 (fun e => by have h1 : M ≤ gU := hlo _ e; have := HGU.out; omega)⟩
        clear h7 g7 r7 T7 hlo SL
        refine hK.out _ _ hHeld2 ?_
        clear hK K hHeld
        have hHeld := hHeld2
        clear hHeld2
        try simp only [Act.put, List.getElem_toArray, List.getElem_cons_succ, List.getElem_cons_zero, List.setIfInBounds_toArray, List.set_cons_zero, List.set_cons_succ]
        refine wpTill_free (i := 10) (v := ?_) rfl (by kernel_rfl) (by kernel_rfl) (by kernel_rfl) (by kernel_rfl) (fun _ _ _ h => h) (Or.inl ⟨by rfl, ?_⟩) hHeld ?_
        rotate_left
        · intro wq hSw
          go_simp
          all_goals with_reducible rfl
        try simp only [Act.put, List.getElem_toArray, List.getElem_cons_succ, List.getElem_cons_zero, List.setIfInBounds_toArray, List.set_cons_zero, List.set_cons_succ]
        refine wpTill_free (i := 11) (v := ?_) rfl (by kernel_rfl) (by kernel_rfl) (by kernel_rfl) (by kernel_rfl) (fun _ _ _ h => h) (Or.inl ⟨by rfl, ?_⟩) hHeld ?_
        rotate_left
        · intro wq hSw
          go_simp
          all_goals with_reducible rfl
        try simp only [Act.put, List.getElem_toArray, List.getElem_cons_succ, List.getElem_cons_zero, List.setIfInBounds_toArray, List.set_cons_zero, List.set_cons_succ]
        refine wpTill_turn (t := 12) (by kernel_rfl) (by kernel_rfl) (by kernel_rfl) ?_
        clear hHeld
        have hHeld : (fun _ : World => True) we := trivial
        have bx := SA.out.box
        have y13 := bx.cell 13 _ rfl
        have z13 := bx.free 13
        skip
        clear bx
        have S5 := SA.out.set 13 (.slice A2 (i + 1) c2') (m' := (⟨⟨none, 0, 0⟩, ⟨none, 0, 0⟩, ⟨none, 0, 0⟩, ⟨A2, i + 1, c2'⟩, ⟨none, 0, 0⟩⟩ : FrM)) (f' := ⟨5, (s : Int), (d : Int), ep, lf, 0, 0, 0, 0, [], [], [], te, (((us.take i).map (· == 1)) ++ [bx]), []⟩) rfl
        obtain ⟨w_5, hw5⟩ : ∃ x, we.setCell ⟨gf, 13, none⟩ (.slice A2 (i + 1) c2') = x := ⟨_, rfl⟩
        rw [hw5] at S5
        have S5 := Lib.hid S5
        have t5 : Turned (fun b => b = gf) we w_5 := by rw [← hw5]; exact Turned.set _ _ _ rfl
        clear t5 SA
        refine wpAnyH_ready (rs := [12]) (by kernel_rfl) (by simp) ?_
        refine AllReadyH.cons rfl (fun K hK => ?_) AllReadyH.nil
        go_simp
        clear y13 z13
        have OWB : Hid (w_5.ownsRow M 4 1 (.slice A2 (i + 1) c2') (i + 1) ((((us.take i).map (· == 1)) ++ [bx]).map Value.bool)) := by
          show World.ownsRow _ _ _ _ _ _ _
          rw [← hw5]
          exact (Turned.set (F := fun b => b = gf) we _ _ rfl).owns OWA.out (fun b hb e => by have := (World.ownsRow.lt OWA.out b hb).1; have := HWS.out; omega)
        have OUB : Hid (Own w_5 0 5 (some ⟨gU, 0, none⟩) kus cus us) := by
          show Own _ _ _ _ _ _ _
          rw [← hw5]
          exact OUA.out.turned (F := fun b => b = gf) (Turned.set we _ _ rfl) (fun b hb e => by have := HUB.out b hb; omega)
        have hMw : M ≤ w_5.heap.size := by rw [← hw5]; simpa [World.setCell] using hMe
        first | rw [hw5] | skip
        clear OWA OUA hw5 hbx
        refine hK.out _ _ trivial (fun hHeld => ?_)
        clear hK K
        try simp only [Act.put, List.getElem_toArray, List.getElem_cons_succ, List.getElem_cons_zero, List.setIfInBounds_toArray, List.set_cons_zero, List.set_cons_succ]
        refine wpAnyH_done (by kernel_rfl) ?_ _
        refine NoPanic.normal ?_
        clear hHeld
        go_wp2_with fail
        go_roundw
        case rel => exact ⟨i + 1, A2, c2', oj, by omega, by go_num, by rw [HUP.out]; exact S5.out, HOJ.out, by rw [HUP.out]; exact OWB.out, OUB.out, hMw⟩
        case measure => simp [intOf]; omega
    · obtain rfl : kus = i := by omega
      have HALL : us.take kus = us := List.take_of_length_le (by rw [HUL.out]; exact Nat.le_refl _)
      have ts9 := TS.out
      have hoi9 := HOI.out
      have ow9 := OW.out
      rw [HALL] at ts9 hoi9 ow9
      obtain ⟨up, hup⟩ : ∃ y, us.map (· == 1) = y := ⟨_, rfl⟩
      rw [hup] at ts9 ow9
      have TS9 := Lib.hid ts9
      have HOI9 := Lib.hid hoi9
      have P9 := Lib.hid (Hp2.start (u := ⟨Au, kus, cu⟩) ow9)
      have HUPS := Lib.hid hup
      have hk255 : kus ≤ 255 := by omega
      clear ts9 hoi9 ow9 hup HALL TS HOI OW OU
      have HC5 := Lib.hid (rnum1 TS9.out)
      go_wp2_with fail
      refine HC5.out.mono ?_
      rintro e w_5 ⟨nh, st5, rfl, bnh, r5, t5, q5⟩
      have S5 := Lib.hid r5
      have Q5 := Lib.hid q5
      have T5 := Lib.hid t5
      have wrnh : IntKind.i64.wrap (nh : Int) = (nh : Int) := IntWalk.i64_in _ (by omega)
      clear HC5 r5 q5 t5 TS9
      have P10 := Lib.hid (P9.out.below T5.out (fun b e => by have := S5.out.o3; have := HWS.out; omega))
      have hM1 : M ≤ w_5.heap.size := Nat.le_trans hMr T5.out.size
      clear P9
      go_upto_region 40 with fail
      go_loopw [14] (fun iv wr => ∃ (i : Nat) (hv : SlV) (K : Nat → Prop) (SS : List SlV) (acc : List (List (Int × Int))) (oi : Option (List Nat)), i ≤ nh ∧ iv = .int .i64 i ∧ hv.n = i ∧ Tk W g2 g gf wr oi (⟨⟨none, 0, 0⟩, ⟨none, 0, 0⟩, ⟨none, 0, 0⟩, ⟨Au, kus, cu⟩, hv⟩ : FrM) ⟨5, (s : Int), (d : Int), ep, lf, 0, 0, 0, 0, [], [], [], te, up, acc⟩ ∧ ManyS hopP st5 nh i acc oi ∧ Hp2 wr M ⟨Au, kus, cu⟩ up K hv SS acc ∧ (∀ l ∈ acc, ∀ e ∈ l, I64 e.1 ∧ I64 e.2) ∧ M ≤ wr.heap.size) (fun iv _ => nh - (intOf iv).toNat)
      case atStart => exact ⟨0, ⟨none, 0, 0⟩, _, [], [], _, by omega, rfl, rfl, S5.out, ManyS.start _ _ _, P10.out, fun l hl => by simp at hl, hM1⟩
      case round =>
        obtain ⟨i, ⟨Ah, nhv, ch⟩, K, SS, acc, oi2, hi2, rfl, hni, ts, ms, hp2, hbd, hMr2⟩ := hrel
        obtain rfl : i = nhv := hni.symm
        have TS := Lib.hid ts
        have MS := Lib.hid ms
        have PP := Lib.hid hp2
        have HBD := Lib.hid hbd
        have e1 : (0 : Int) ≤ (i : Int) := Int.natCast_nonneg _
        clear ts ms hp2 hbd S5 P10
        by_cases hlt : i < nh
        · cases oi2 with
          | some M1 =>
            obtain ⟨Ax, cx, h1, _⟩ := (show Rd wr g M1 false from TS.out.rd)
            obtain ⟨c1, c2, _, _⟩ := two_cells h1
            clear h1 c1
            have e2 : (i : Int) < (nh : Int) := by omega
            have d2 : decide ((i : Int) < (nh : Int)) = true := decide_eq_true e2
            have HC6 := Lib.hid (rnum1 TS.out)
            go_wp2_with fail
            refine HC6.out.mono ?_
            rintro e w_6 ⟨ne, st6, rfl, bne, r6, t6, q6⟩
            have S6 := Lib.hid r6
            have Q6 := Lib.hid q6
            have T6 := Lib.hid t6
            have wrne : IntKind.i64.wrap (ne : Int) = (ne : Int) := IntWalk.i64_in _ (by omega)
            clear HC6 r6 q6 t6 TS
            clear c2
            have P11 := Lib.hid (PP.out.below T6.out (fun b e => by have := S6.out.o3; have := HWS.out; omega))
            have hM2 : M ≤ w_6.heap.size := Nat.le_trans hMr2 T6.out.size
            clear PP
            go_upto_region 45 with fail
            go_loopw [16, 17] (fun lv kv wr => ∃ (j : Nat) (Ae : Option Addr) (ce : Nat) (es : List (Int × Int)) (oj : Option (List Nat)), j ≤ ne ∧ kv = .int .i64 j ∧ lv = .slice Ae j ce ∧ Tk W g2 g gf wr oj (⟨⟨none, 0, 0⟩, ⟨none, 0, 0⟩, ⟨none, 0, 0⟩, ⟨Au, kus, cu⟩, ⟨Ah, i, ch⟩⟩ : FrM) ⟨5, (s : Int), (d : Int), ep, lf, 0, 0, 0, 0, [], [], [], te, up, acc⟩ ∧ ManyS edgeP st6 ne j es oj ∧ wr.ownsRow M 57 2 (.slice Ae j ce) j (es.flatMap edgeCells) ∧ es.length = j ∧ (∀ e ∈ es, I64 e.1 ∧ I64 e.2) ∧ Hp2 wr M ⟨Au, kus, cu⟩ up K ⟨Ah, i, ch⟩ SS acc ∧ (∀ b, (Value.slice Ae j ce).ownBlock = some b → ¬ K b ∧ (Value.slice Ah i ch).ownBlock ≠ some b) ∧ M ≤ wr.heap.size) (fun _ kv _ => ne - (intOf kv).toNat)
            case atStart => exact ⟨0, none, 0, [], _, by omega, rfl, rfl, S6.out, ManyS.start _ _ _, World.ownsRow_nil _ _ _ _, rfl, fun e he => by simp at he, P11.out, fun b hb => by simp [Value.ownBlock] at hb, hM2⟩
            case round =>
              obtain ⟨j, Ae, ce, es, oj, hj, rfl, rfl, tsj, msj, owj, hlj, hbj, ppj, hdj, hMj⟩ := hrel
              have TJ := Lib.hid tsj
              have MJ := Lib.hid msj
              have OJ := Lib.hid owj
              have LJ := Lib.hid hlj
              have BJ := Lib.hid hbj
              have PJ := Lib.hid ppj
              have DJ := Lib.hid hdj
              have f1 : (0 : Int) ≤ (j : Int) := Int.natCast_nonneg _
              clear tsj msj owj hlj hbj ppj hdj S6 P11
              by_cases hjl : j < ne
              · cases oj with
                | some M2 =>
                  obtain ⟨Ax, cx, h1, _⟩ := (show Rd wr g M2 false from TJ.out.rd)
                  obtain ⟨c1, c2, _, _⟩ := two_cells h1
                  clear h1 c1
                  have f2 : (j : Int) < (ne : Int) := by omega
                  have f3 : decide ((j : Int) < (ne : Int)) = true := decide_eq_true f2
                  have HC7 := Lib.hid (rnum1 TJ.out)
                  go_wp2_with fail
                  refine HC7.out.mono ?_
                  rintro e w_7 ⟨ea, st7, rfl, bea, r7, t7, q7⟩
                  have S7 := Lib.hid r7
                  have Q7 := Lib.hid q7
                  have T7 := Lib.hid t7
                  have wrea : IntKind.i64.wrap (ea : Int) = (ea : Int) := IntWalk.i64_in _ (by omega)
                  clear HC7 r7 q7 t7 TJ
                  clear c2
                  have HC8 := Lib.hid (rnum1 S7.out)
                  go_wp2_with fail
                  refine HC8.out.mono ?_
                  rintro e w_8 ⟨eb, st8, rfl, beb, r8, t8, q8⟩
                  have S8 := Lib.hid r8
                  have Q8 := Lib.hid q8
                  have T8 := Lib.hid t8
                  have wreb : IntKind.i64.wrap (eb : Int) = (eb : Int) := IntWalk.i64_in _ (by omega)
                  clear HC8 r8 q8 t8 S7
                  have tg : Turned (fun b => b = g) wr w_8 := T7.out.trans T8.out (fun b e => Or.inl e)
                  have ka : Keep w_8 (w_8.alloc (.cells #[.int .i64 (ea : Int), .int .i64 (eb : Int)] 57)) := (Keep.refl w_8).alloc _ _
                  have hgM : g < M := by have := S8.out.o3; have := HWS.out; omega
                  have OWL := Lib.hid (owns_keep (tg.owns OJ.out (fun b hb e => by have := (World.ownsRow.lt OJ.out b hb).1; omega)) ka)
                  have PL := Lib.hid ((PJ.out.below tg (fun b e => by omega)).keep ka)
                  have KLT := Lib.hid (PJ.out.below tg (fun b e => by omega)).klt
                  have RLT := Lib.hid (fun b hb => (World.ownsRow.lt (PJ.out.below tg (fun b e => by omega)).row b hb).2)
                  have SL := Lib.hid (S8.out.keep ka)
                  have hMl : M ≤ w_8.heap.size := Nat.le_trans hMj tg.size
                  have HCL : Hid (∀ q u, [Value.int .i64 (ea : Int), .int .i64 (eb : Int)][q]? = some u → (w_8.alloc (.cells #[.int .i64 (ea : Int), .int .i64 (eb : Int)] 57)).cell? ⟨w_8.heap.size, q, none⟩ = some u) := fun q u hu => by
                    rw [cell_of_row _ _ _ _ _ _ (heap_alloc_new w_8 _)]
                    simpa using hu
                  have HML : Hid (M ≤ (w_8.alloc (.cells #[.int .i64 (ea : Int), .int .i64 (eb : Int)] 57)).heap.size) := by show M ≤ _; simp; omega
                  have HSE : Hid ((w_8.alloc (.cells #[.int .i64 (ea : Int), .int .i64 (eb : Int)] 57)).heap.size = w_8.heap.size + 1) := by show _ = _; simp
                  have hj9 : j ≤ 1000000 := by omega
                  clear tg ka S8
                  go_wp2_with (at_builtin; refine wpList_append_cells rfl _ _ 51 rfl [.int .i64 (ea : Int), .int .i64 (eb : Int)] Tryd.underlying51 infoEdge rfl (by decide) (by decide) rfl OWL.out rfl rfl HCL.out (by intro u hu; simp at hu; rcases hu with rfl | rfl <;> rfl) hj9 HML.out ?_)
                  intro A2 c2' we h7 g7 r7
                  have T7 : Turned (fun b => (Value.slice Ae j ce).ownBlock = some b) (w_8.alloc (.cells #[.int .i64 (ea : Int), .int .i64 (eb : Int)] 57)) we := Turned.of_grown g7 (fun i e => e)
                  have hlo : ∀ b, (Value.slice Ae j ce).ownBlock = some b → M ≤ b := fun b hb => (World.ownsRow.lt OWL.out b hb).1
                  have SA := Lib.hid (SL.out.turned T7 (fun b hb => by have := hlo b hb; have := HWS.out; omega))
                  have PA := Lib.hid (PL.out.turned T7 (fun b hb => DJ.out b hb))
                  have OWA : Hid (we.ownsRow M 57 2 (.slice A2 (j + 1) c2') (j + 1) ((es ++ [((ea : Int), (eb : Int))]).flatMap edgeCells)) := by
                    show World.ownsRow _ _ _ _ _ _ _
                    rw [List.flatMap_append]
                    simpa [edgeCells] using h7
                  have DA : Hid (∀ b, (Value.slice A2 (j + 1) c2').ownBlock = some b → ¬ K b ∧ (Value.slice Ah i ch).ownBlock ≠ some b) := fun b hb => by
                    rcases r7 with e | e
                    · exact DJ.out b (e ▸ hb)
                    · rw [e] at hb
                      injection hb with hb
                      have h1 := HSE.out
                      exact ⟨fun hk => by have := KLT.out b hk; omega, fun hh => by have := RLT.out b hh; omega⟩
                  have hMe : M ≤ we.heap.size := Nat.le_trans HML.out T7.size
                  have MJ2 : Hid (ManyS edgeP st6 ne (j + 1) (es ++ [((ea : Int), (eb : Int))]) st8) := MJ.out.step hjl (fun β Q => by rw [edgeP, bind_assoc, Q7.out, bind_assoc, Q8.out]; rfl)
                  have BJ2 : Hid (∀ e ∈ es ++ [((ea : Int), (eb : Int))], I64 e.1 ∧ I64 e.2) := fun e he => by
                    rcases List.mem_append.1 he with h1 | h1
                    · exact BJ.out e h1
                    · simp at h1
                      subst h1
                      unfold I64
                      dsimp only
                      omega
                  have LJ2 : Hid ((es ++ [((ea : Int), (eb : Int))]).length = j + 1) := by show _ = _; rw [List.length_append, LJ.out, List.length_singleton]
                  clear h7 g7 r7 T7 hlo SL PL
                  go_wp2_with fail
                  go_roundw
                  case rel => exact ⟨j + 1, A2, c2', _, _, by omega, by go_num, rfl, SA.out, MJ2.out, OWA.out, LJ2.out, BJ2.out, PA.out, DA.out, hMe⟩
                  case measure => simp [intOf]; omega
                | none =>
                  obtain ⟨M2, hr1⟩ := TJ.out.rd
                  obtain ⟨Ax, cx, h1, _⟩ := hr1
                  obtain ⟨c1, c2, _, _⟩ := two_cells h1
                  clear h1 c1
                  have f2 : (j : Int) < (ne : Int) := by omega
                  have f3 : decide ((j : Int) < (ne : Int)) = true := decide_eq_true f2
                  have y14 := TJ.out.box.cell 14 _ rfl
                  have ka : Keep wr (wr.alloc (.cells #[.slice Ae j ce] 51)) := (Keep.refl wr).alloc _ _
                  have OWR := Lib.hid (owns_keep PJ.out.row ka)
                  have OER := Lib.hid (owns_keep OJ.out ka)
                  have PE2 := Lib.hid (PJ.out.keep ka)
                  have TE := Lib.hid (TJ.out.keep ka)
                  have HCL : Hid (∀ q u, [Value.slice Ae j ce][q]? = some u → (wr.alloc (.cells #[.slice Ae j ce] 51)).cell? ⟨wr.heap.size, q, none⟩ = some u) := fun q u hu => by
                    rw [cell_of_row _ _ _ _ _ _ (heap_alloc_new wr _)]
                    simpa using hu
                  have HML : Hid (M ≤ (wr.alloc (.cells #[.slice Ae j ce] 51)).heap.size) := by show M ≤ _; simp; omega
                  have hi9 : i ≤ 1000000 := by omega
                  clear ka
                  dsimp only at OWR
                  go_wp2_with (at_builtin; refine wpList_append_cells rfl _ _ 28 rfl [.slice Ae j ce] Tryd.underlying28 infoEdges rfl (by decide) (by decide) rfl OWR.out rfl rfl HCL.out (by intro u hu; simp at hu; subst hu; rfl) hi9 HML.out ?_)
                  intro A2 c2' we h7 g7 r7
                  have T7 : Turned (fun b => (Value.slice Ah i ch).ownBlock = some b) (wr.alloc (.cells #[.slice Ae j ce] 51)) we := Turned.of_grown g7 (fun i e => e)
                  have hlo : ∀ b, (Value.slice Ah i ch).ownBlock = some b → M ≤ b := fun b hb => (World.ownsRow.lt OWR.out b hb).1
                  have P3 := Lib.hid (PE2.out.push (s := ⟨Ae, j, ce⟩) (r := es) OER.out LJ.out (show j ≤ 255 by omega) DJ.out g7 h7 (by rw [show (wr.alloc (.cells #[.slice Ae j ce] 51)).heap.size = wr.heap.size + 1 by simp]; exact r7))
                  have SA := Lib.hid (TE.out.turned T7 (fun b hb => by have := hlo b hb; have := HWS.out; omega))
                  have hMe : M ≤ we.heap.size := Nat.le_trans HML.out T7.size
                  clear h7 g7 r7 T7 hlo TE PE2 OWR OER y14
                  have bx := SA.out.box
                  have y14 := bx.cell 14 _ rfl
                  have z14 := bx.free 14
                  skip
                  clear bx
                  have S7 := SA.out.set 14 (.slice A2 (i + 1) c2') (m' := (⟨⟨none, 0, 0⟩, ⟨none, 0, 0⟩, ⟨none, 0, 0⟩, ⟨Au, kus, cu⟩, ⟨A2, i + 1, c2'⟩⟩ : FrM)) (f' := ⟨5, (s : Int), (d : Int), ep, lf, 0, 0, 0, 0, [], [], [], te, up, (acc ++ [es])⟩) rfl
                  obtain ⟨w_7, hw7⟩ : ∃ x, we.setCell ⟨gf, 14, none⟩ (.slice A2 (i + 1) c2') = x := ⟨_, rfl⟩
                  rw [hw7] at S7
                  have S7 := Lib.hid S7
                  have t7 : Turned (fun b => b = gf) we w_7 := by rw [← hw7]; exact Turned.set _ _ _ rfl
                  clear t7 SA
                  have P4 : Hid (Hp2 w_7 M ⟨Au, kus, cu⟩ up _ ⟨A2, i + 1, c2'⟩ (SS ++ [⟨Ae, j, ce⟩]) (acc ++ [es])) := Lib.hid (P3.out.below (G := fun b => b = gf) (by rw [← hw7]; exact Turned.set we _ _ rfl) (fun b e => by have := HWS.out; omega))
                  have hMw : M ≤ w_7.heap.size := by rw [← hw7]; simpa [World.setCell] using hMe
                  have MS2 : Hid (ManyS hopP st5 nh (i + 1) (acc ++ [es]) none) := MS.out.step hlt (fun β Q => by rw [hopP, bind_assoc, Q6.out, MJ.out.stop (Or.inl rfl)])
                  have BD2 : Hid (∀ l ∈ acc ++ [es], ∀ e ∈ l, I64 e.1 ∧ I64 e.2) := fun l hl => by
                    rcases List.mem_append.1 hl with h1 | h1
                    · exact HBD.out l h1
                    · simp at h1
                      subst h1
                      exact BJ.out
                  clear P3
                  go_wp2_with fail
                  clear y14 z14
                  clear hw7
                  go_roundw
                  case rel => exact ⟨i + 1, ⟨A2, i + 1, c2'⟩, _, _, _, _, by omega, by go_num, rfl, S7.out, MS2.out, P4.out, BD2.out, hMw⟩
                  case measure => simp [intOf]; omega
              · have f2 : ¬ (j : Int) < (ne : Int) := by omega
                have f3 : decide ((j : Int) < (ne : Int)) = false := decide_eq_false f2
                have y14 := TJ.out.box.cell 14 _ rfl
                have ka : Keep wr (wr.alloc (.cells #[.slice Ae j ce] 51)) := (Keep.refl wr).alloc _ _
                have OWR := Lib.hid (owns_keep PJ.out.row ka)
                have OER := Lib.hid (owns_keep OJ.out ka)
                have PE2 := Lib.hid (PJ.out.keep ka)
                have TE := Lib.hid (TJ.out.keep ka)
                have HCL : Hid (∀ q u, [Value.slice Ae j ce][q]? = some u → (wr.alloc (.cells #[.slice Ae j ce] 51)).cell? ⟨wr.heap.size, q, none⟩ = some u) := fun q u hu => by
                  rw [cell_of_row _ _ _ _ _ _ (heap_alloc_new wr _)]
                  simpa using hu
                have HML : Hid (M ≤ (wr.alloc (.cells #[.slice Ae j ce] 51)).heap.size) := by show M ≤ _; simp; omega
                have hi9 : i ≤ 1000000 := by omega
                clear ka
                dsimp only at OWR
                go_wp2_with (at_builtin; refine wpList_append_cells rfl _ _ 28 rfl [.slice Ae j ce] Tryd.underlying28 infoEdges rfl (by decide) (by decide) rfl OWR.out rfl rfl HCL.out (by intro u hu; simp at hu; subst hu; rfl) hi9 HML.out ?_)
                intro A2 c2' we h7 g7 r7
                have T7 : Turned (fun b => (Value.slice Ah i ch).ownBlock = some b) (wr.alloc (.cells #[.slice Ae j ce] 51)) we := Turned.of_grown g7 (fun i e => e)
                have hlo : ∀ b, (Value.slice Ah i ch).ownBlock = some b → M ≤ b := fun b hb => (World.ownsRow.lt OWR.out b hb).1
                have P3 := Lib.hid (PE2.out.push (s := ⟨Ae, j, ce⟩) (r := es) OER.out LJ.out (show j ≤ 255 by omega) DJ.out g7 h7 (by rw [show (wr.alloc (.cells #[.slice Ae j ce] 51)).heap.size = wr.heap.size + 1 by simp]; exact r7))
                have SA := Lib.hid (TE.out.turned T7 (fun b hb => by have := hlo b hb; have := HWS.out; omega))
                have hMe : M ≤ we.heap.size := Nat.le_trans HML.out T7.size
                clear h7 g7 r7 T7 hlo TE PE2 OWR OER y14
                have bx := SA.out.box
                have y14 := bx.cell 14 _ rfl
                have z14 := bx.free 14
                skip
                clear bx
                have S7 := SA.out.set 14 (.slice A2 (i + 1) c2') (m' := (⟨⟨none, 0, 0⟩, ⟨none, 0, 0⟩, ⟨none, 0, 0⟩, ⟨Au, kus, cu⟩, ⟨A2, i + 1, c2'⟩⟩ : FrM)) (f' := ⟨5, (s : Int), (d : Int), ep, lf, 0, 0, 0, 0, [], [], [], te, up, (acc ++ [es])⟩) rfl
                obtain ⟨w_7, hw7⟩ : ∃ x, we.setCell ⟨gf, 14, none⟩ (.slice A2 (i + 1) c2') = x := ⟨_, rfl⟩
                rw [hw7] at S7
                have S7 := Lib.hid S7
                have t7 : Turned (fun b => b = gf) we w_7 := by rw [← hw7]; exact Turned.set _ _ _ rfl
                clear t7 SA
                have P4 : Hid (Hp2 w_7 M ⟨Au, kus, cu⟩ up _ ⟨A2, i + 1, c2'⟩ (SS ++ [⟨Ae, j, ce⟩]) (acc ++ [es])) := Lib.hid (P3.out.below (G := fun b => b = gf) (by rw [← hw7]; exact Turned.set we _ _ rfl) (fun b e => by have := HWS.out; omega))
                have hMw : M ≤ w_7.heap.size := by rw [← hw7]; simpa [World.setCell] using hMe
                have MS2 : Hid (ManyS hopP st5 nh (i + 1) (acc ++ [es]) oj) := MS.out.step hlt (fun β Q => by rw [hopP, bind_assoc, Q6.out, MJ.out.stop (Or.inr (by omega))])
                have BD2 : Hid (∀ l ∈ acc ++ [es], ∀ e ∈ l, I64 e.1 ∧ I64 e.2) := fun l hl => by
                  rcases List.mem_append.1 hl with h1 | h1
                  · exact HBD.out l h1
                  · simp at h1
                    subst h1
                    exact BJ.out
                clear P3
                go_wp2_with fail
                clear y14 z14
                clear hw7
                go_roundw
                case rel => exact ⟨i + 1, ⟨A2, i + 1, c2'⟩, _, _, _, _, by omega, by go_num, rfl, S7.out, MS2.out, P4.out, BD2.out, hMw⟩
                case measure => simp [intOf]; omega
          | none =>
            obtain ⟨M1, hr1⟩ := TS.out.rd
            obtain ⟨Ax, cx, h1, _⟩ := hr1
            obtain ⟨c1, c2, _, _⟩ := two_cells h1
            clear h1 c1
            have e2 : (i : Int) < (nh : Int) := by omega
            have d2 : decide ((i : Int) < (nh : Int)) = true := decide_eq_true e2
            have y0 : wr.cell? ⟨gf, 0, none⟩ = some (.int .i64 5) := TS.out.box.cell 0 _ rfl
            go_upto_region 50 with fail
            clear y0
            have HP : parseF L = goO none (Pa.ret ⟨5, (s : Int), (d : Int), ep, lf, 0, 0, 0, 0, [], [], [], te, up, acc⟩) ∨ (parseF L = none ∧ ¬ MayF ⟨5, (s : Int), (d : Int), ep, lf, 0, 0, 0, 0, [], [], [], te, up, acc⟩) := by
              left
              rw [HQ.out, rest_5]
              unfold topoP
              rw [Q1.out, Q3.out, upP, bind_assoc, Q4.out, go_upS, ← HOI9.out, HUPS.out, Q5.out, MS.out.stop (Or.inl rfl)]
            have HCON : ∀ (G : Nat → Prop) (w' : World), Turned G wr w' → (∀ b, G b → b ≤ gf) → FrIn w' w'.heap.size (⟨⟨none, 0, 0⟩, ⟨none, 0, 0⟩, ⟨none, 0, 0⟩, ⟨Au, kus, cu⟩, ⟨Ah, i, ch⟩⟩ : FrM) ⟨5, (s : Int), (d : Int), ep, lf, 0, 0, 0, 0, [], [], [], te, up, acc⟩ := by
              intro G w' kG hG
              obtain ⟨q1, q2⟩ := PP.out.ends kG (fun b e => by have := hG b e; have := HWS.out; omega)
              have q3 := owns_le PP.out.upr
              have q4 := owns_le PP.out.row
              exact ⟨Bytes.nil _ _ _, Bytes.nil _ _ _, RanksAt.none_ _ _ _, q1, q2, ⟨by simp [SlV.ok], by simp [SlV.ok], by simp [SlV.ok], ⟨show kus ≤ 140737488351232 by omega, q3⟩, ⟨show i ≤ 140737488351232 by omega, q4⟩⟩, ⟨by unfold I64; dsimp only; omega, by unfold I64; dsimp only; omega, by unfold I64; dsimp only; omega, by unfold I64; dsimp only; omega⟩, ⟨by unfold U64; dsimp only; omega, by unfold U64; dsimp only; omega, by unfold U64; dsimp only; omega, by unfold U64; dsimp only; omega, by unfold U64; dsimp only; omega, by unfold U64; dsimp only; omega⟩, fun r hr => by simp at hr, HBD.out⟩
            exact rtk_end xs L W wr g2 g gf none (⟨⟨none, 0, 0⟩, ⟨none, 0, 0⟩, ⟨none, 0, 0⟩, ⟨Au, kus, cu⟩, ⟨Ah, i, ch⟩⟩ : FrM) ⟨5, (s : Int), (d : Int), ep, lf, 0, 0, 0, 0, [], [], [], te, up, acc⟩ TS.out HCON HP HE.out _ _ _ _ _ _ _ _ _ _ _ _ _ _ _ _ _ _ _ _ _ _ _ _ _ _ _ _ _ _ _ _ _ _ _ _ _ _ _ _ _ _ _ _ _ _ _ _ _ _ _ _ _ _ _ _ _ _ _ _ _ _ _ _ _ _ _ _ _ _ _ _ _ _ _ _ _ _ _ _ _ _ _ _ _ _ _ _ _ _ _ _ _ _ _ _ _ _ _ _ _ _ _ _ _ _ _ _ _ _ _ _ _ _ _ _ _ _ _ _ _ _ _ _ _ _ _ _ _ _ _ _ _ _ _ _ _ _ _ _ _ _ _ _ _ _ _ _ _ _ _ _ _ _ _ _ _ _ _ _ _ _ _ _ _ _ _ _ _ _ _ _ _ _ _ _ _ _ _ _ _ _ _ _ _ _ _ _ _ _ _ _ _ _ _ _ _ _ _ _ _ _ _ _ _ _ _ _ _ _ _ _ _ _ _ _ _ _ _ _ _ _ _ _ _ _ _ _ _ _ _ _ _ _ _ _ _ _ _ _ _ _ _ _ _ _ (by assumption) (by assumption)
        · have e2 : ¬ (i : Int) < (nh : Int) := by omega
          have d2 : decide ((i : Int) < (nh : Int)) = false := decide_eq_false e2
          have y0 : wr.cell? ⟨gf, 0, none⟩ = some (.int .i64 5) := TS.out.box.cell 0 _ rfl
          go_upto_region 50 with fail
          clear y0
          have HP : parseF L = goO oi2 (Pa.ret ⟨5, (s : Int), (d : Int), ep, lf, 0, 0, 0, 0, [], [], [], te, up, acc⟩) ∨ (parseF L = none ∧ ¬ MayF ⟨5, (s : Int), (d : Int), ep, lf, 0, 0, 0, 0, [], [], [], te, up, acc⟩) := by
            left
            rw [HQ.out, rest_5]
            unfold topoP
            rw [Q1.out, Q3.out, upP, bind_assoc, Q4.out, go_upS, ← HOI9.out, HUPS.out, Q5.out, MS.out.stop (Or.inr (by omega))]
          have HCON : ∀ (G : Nat → Prop) (w' : World), Turned G wr w' → (∀ b, G b → b ≤ gf) → FrIn w' w'.heap.size (⟨⟨none, 0, 0⟩, ⟨none, 0, 0⟩, ⟨none, 0, 0⟩, ⟨Au, kus, cu⟩, ⟨Ah, i, ch⟩⟩ : FrM) ⟨5, (s : Int), (d : Int), ep, lf, 0, 0, 0, 0, [], [], [], te, up, acc⟩ := by
            intro G w' kG hG
            obtain ⟨q1, q2⟩ := PP.out.ends kG (fun b e => by have := hG b e; have := HWS.out; omega)
            have q3 := owns_le PP.out.upr
            have q4 := owns_le PP.out.row
            exact ⟨Bytes.nil _ _ _, Bytes.nil _ _ _, RanksAt.none_ _ _ _, q1, q2, ⟨by simp [SlV.ok], by simp [SlV.ok], by simp [SlV.ok], ⟨show kus ≤ 140737488351232 by omega, q3⟩, ⟨show i ≤ 140737488351232 by omega, q4⟩⟩, ⟨by unfold I64; dsimp only; omega, by unfold I64; dsimp only; omega, by unfold I64; dsimp only; omega, by unfold I64; dsimp only; omega⟩, ⟨by unfold U64; dsimp only; omega, by unfold U64; dsimp only; omega, by unfold U64; dsimp only; omega, by unfold U64; dsimp only; omega, by unfold U64; dsimp only; omega, by unfold U64; dsimp only; omega⟩, fun r hr => by simp at hr, HBD.out⟩
          exact rtk_end xs L W wr g2 g gf oi2 (⟨⟨none, 0, 0⟩, ⟨none, 0, 0⟩, ⟨none, 0, 0⟩, ⟨Au, kus, cu⟩, ⟨Ah, i, ch⟩⟩ : FrM) ⟨5, (s : Int), (d : Int), ep, lf, 0, 0, 0, 0, [], [], [], te, up, acc⟩ TS.out HCON HP HE.out _ _ _ _ _ _ _ _ _ _ _ _ _ _ _ _ _ _ _ _ _ _ _ _ _ _ _ _ _ _ _ _ _ _ _ _ _ _ _ _ _ _ _ _ _ _ _ _ _ _ _ _ _ _ _ _ _ _ _ _ _ _ _ _ _ _ _ _ _ _ _ _ _ _ _ _ _ _ _ _ _ _ _ _ _ _ _ _ _ _ _ _ _ _ _ _ _ _ _ _ _ _ _ _ _ _ _ _ _ _ _ _ _ _ _ _ _ _ _ _ _ _ _ _ _ _ _ _ _ _ _ _ _ _ _ _ _ _ _ _ _ _ _ _ _ _ _ _ _ _ _ _ _ _ _ _ _ _ _ _ _ _ _ _ _ _ _ _ _ _ _ _ _ _ _ _ _ _ _ _ _ _ _ _ _ _ _ _ _ _ _ _ _ _ _ _ _ _ _ _ _ _ _ _ _ _ _ _ _ _ _ _ _ _ _ _ _ _ _ _ _ _ _ _ _ _ _ _ _ _ _ _ _ _ _ _ _ _ _ _ _ _ _ _ _ _ (by assumption) (by assumption)
end Go.Proofs.YtgkihfemlbhioaaDoor
/- The document's own frames: Take. -/
namespace Go.Proofs.YtgkihfemlbhioaaDoor
open Go.RowKit Fr Crc
set_option linter.unusedVariables false
set_option linter.unusedSimpArgs false
set_option maxRecDepth 100000 in
set_option maxHeartbeats 16000000 in
theorem rtake_all (B n c : Nat) (A : Option Addr) (xs : List Nat) (w : World) (h : Bytes w B A n xs) (hB : B ≤ w.heap.size) (hn : n ≤ 140737488351232) (hc : n ≤ c) :
    Calls Tryd.prog 12 #[.slice A n c] w (TakeTold xs w) := by
  have hl := h.length
  obtain ⟨g2, hg2⟩ : ∃ g, w.heap.size = g := ⟨_, rfl⟩
  obtain ⟨w1, hw1⟩ : ∃ w1, w.alloc (.cells (frCells noM noF) 32) = w1 := ⟨_, rfl⟩
  obtain ⟨k1, hbox⟩ := fr_box w _ noM noF hw1
  rw [hg2] at hbox
  have HW1 : Hid (w.alloc (.cells #[.int .i64 0, .int .i64 0, .int .i64 0, .int .u64 0, .int .u64 0, .int .i64 0, .int .u64 0, .int .u64 0, .int .u64 0, .slice none 0 0, .slice none 0 0, .slice none 0 0, .int .u64 0, .slice none 0 0, .slice none 0 0] 32) = w1) := hw1
  have HBOX := Lib.hid hbox
  have K1 := Lib.hid k1
  have HOP := Lib.hid (ropen_any B n c A xs w1 (h.keep hB k1) (Nat.le_trans hB k1.size) hn hc)
  have HH := Lib.hid hg2
  clear hbox k1 hw1 h
  by_cases c1 : 70000 < n
  · have FIN : Hid (∀ w', Keep w w' → TakeTold xs w (.returned (.tuple #[.agg (frCells noM noF), .int .i64 3])) w') := fun w' k => by
      have e : tkE xs = 3 := if_pos (by omega)
      exact take_none (by rw [e]; rfl) (by rw [e]; decide) k
    have b1 : (70000 : Int) < (n : Int) := by omega
    have rb := HBOX.out w1 (Keep.refl _)
    have RB := Lib.hid rb
    have KF2 : Hid (Keep w (w1.setRow g2 #[.int .i64 0, .int .i64 0, .int .i64 0, .int .u64 0, .int .u64 0, .int .i64 0, .int .u64 0, .int .u64 0, .int .u64 0, .slice none 0 0, .slice none 0 0, .slice none 0 0, .int .u64 0, .slice none 0 0, .slice none 0 0])) := K1.out.setRow (by have := HH.out; omega) rb
    unfold FrBox at rb
    clear c1 hl
    go_enter Tryd.func12, Tryd.ntmps12
    go_upto_region 1 with fail
    rw [HW1.out]
    clear hg2
    go_wp2_with (refine Go.wpList_store_rowTo rfl 32 (.tmp 2) (.tmp 22) rfl rfl g2 #[.int .i64 0, .int .i64 0, .int .i64 0, .int .u64 0, .int .u64 0, .int .i64 0, .int .u64 0, .int .u64 0, .int .u64 0, .slice none 0 0, .slice none 0 0, .slice none 0 0, .int .u64 0, .slice none 0 0, .slice none 0 0] rfl rfl 32 _ rb infoFr rfl (by kernel_rfl) ?_)
    refine bodyPost_ret (results_cell_two (p := 2) (u := 3) (ty := 32) resRTake _ _ g2 32 _ (0, 0) _ rfl (setRow_heap _ _ _ _ _ _ RB.out) Tryd.underlying32 rfl infoFr) rfl ?_
    exact FIN.out _ KF2.out
  · have b1 : ¬ (70000 : Int) < (n : Int) := by omega
    have hle : ¬ 70000 < xs.length := by omega
    have HLE := Lib.hid hle
    clear c1 hle
    go_enter Tryd.func12, Tryd.ntmps12
    go_upto_region 1 with fail
    rw [HW1.out]
    clear hg2
    go_wp2_with fail
    refine HOP.out.mono ?_
    rintro e w2 ⟨A2, n2, c2, rfl, o2, k2⟩
    have K2 : Hid (Keep w w2) := K1.out.trans k2
    have rb := HBOX.out w2 k2
    have RB := Lib.hid rb
    by_cases hop : openErr xs = 0
    · have hl2 := o2.length
      have hv2 : (openVal xs).length ≤ 70000 := by
        rw [openVal, if_pos hop, frontN, List.length_take]; omega
      have HET := Lib.hid (end_told (W := w) HLE.out hop)
      obtain ⟨g, hg⟩ : ∃ g, w2.heap.size = g := ⟨_, rfl⟩
      obtain ⟨w3, hw3⟩ : ∃ w3, w2.alloc (.cells #[.slice A2 n2 c2, .bool false] 64) = w3 := ⟨_, rfl⟩
      have k3 : Keep w2 w3 := by rw [← hw3]; exact (Keep.refl w2).alloc _ _
      have rd3 : Rd w3 g (openVal xs) false := ⟨A2, c2, by rw [hl2, ← hw3, ← hg]; exact heap_alloc_new w2 _, by rw [hl2, ← hg]; exact o2.bytes.keep (Nat.le_refl _) k3, by rw [hl2]; exact own_le' o2, by omega⟩
      have hg2g : g2 < g := by
        have h1 := (HBOX.out w1 (Keep.refl _)).lt
        have h2 := k2.size
        omega
      have K3 : Hid (Keep w w3) := K2.out.trans k3
      have RB3 := Lib.hid (HBOX.out w3 (k2.trans k3))
      have HC1 := Lib.hid (rnumS w3 g 1 (some (openVal xs)) rd3 (by decide))
      have HW3 := Lib.hid hw3
      have HG := Lib.hid hg
      rw [hop, show (((0 : Nat) : Int)) = 0 from rfl]
      clear hop o2 rb hl2 hv2 HOP rd3 hw3 hg k3 k2
      go_upto_region 7 with fail
      rw [HW3.out, HG.out]
      have HC1 : Hid (Calls Tryd.prog 26 #[.pointer (some ⟨g, 0, none⟩), .int .i64 1] w3 _) := HC1
      go_wp2_with fail
      refine HC1.out.mono ?_
      rintro e w4 ⟨k, sta, rfl, bk0, r4, g4, qa⟩
      have bk : k < 256 := bk0
      have Qa := Lib.hid qa
      have wrk : IntKind.i64.wrap (k : Int) = (k : Int) := IntWalk.i64_in _ (by omega)
      obtain ⟨gf, hgf⟩ : ∃ g, w4.heap.size = g := ⟨_, rfl⟩
      obtain ⟨w5, hw5⟩ : ∃ w5, w4.alloc (.cells (frCells noM ⟨(k : Int), 0, 0, 0, 0, 0, 0, 0, 0, [], [], [], 0, [], []⟩) 32) = w5 := ⟨_, rfl⟩
      obtain ⟨k5, hbox5⟩ := fr_box w4 _ _ _ hw5
      rw [hgf] at hbox5
      have S5 : Hid (Tk w g2 g gf w5 sta noM ⟨(k : Int), 0, 0, 0, 0, 0, 0, 0, 0, [], [], [], 0, [], []⟩) := ⟨r4.turned (G := fun _ => False) (Turned.of_keep k5) (fun _ e => e.elim), (RB3.out.turned (turned_grown g4) (by omega)).keep k5, hbox5 w5 (Keep.refl _), by have := HH.out; omega, hg2g, by have := r4.lt; omega, ((turned_grown g4).keep K3.out (fun i e => by have := HH.out; omega)).trans k5⟩
      have HW5 : Hid (w4.alloc (.cells #[.int .i64 (k : Int), .int .i64 0, .int .i64 0, .int .u64 0, .int .u64 0, .int .i64 0, .int .u64 0, .int .u64 0, .int .u64 0, .slice none 0 0, .slice none 0 0, .slice none 0 0, .int .u64 0, .slice none 0 0, .slice none 0 0] 32) = w5) := hw5
      have HGF := Lib.hid hgf
      clear HC1 r4 g4 qa hw5 hgf k5 hbox5 bk0
      go_upto_region 8 with fail
      rw [HW5.out, HGF.out]
      have HC21 := Lib.hid (rnum1 S5.out)
      go_wp2_with fail
      refine HC21.out.mono ?_
      rintro e w_21 ⟨s, st21, rfl, bs, r21, t21, q21⟩
      have S21 := Lib.hid r21
      have Q21 := Lib.hid q21
      have T21 := Lib.hid t21
      have wrs : IntKind.i64.wrap (s : Int) = (s : Int) := IntWalk.i64_in _ (by omega)
      clear HC21 r21 q21 t21 S5
      have bx := S21.out.box
      have y1 := bx.cell 1 _ rfl
      have z1 := bx.free 1
      skip
      clear bx
      have S22 := S21.out.set 1 (.int .i64 (s : Int)) (m' := noM) (f' := ⟨(k : Int), (s : Int), 0, 0, 0, 0, 0, 0, 0, [], [], [], 0, [], []⟩) rfl
      obtain ⟨w_22, hw22⟩ : ∃ x, w_21.setCell ⟨gf, 1, none⟩ (.int .i64 (s : Int)) = x := ⟨_, rfl⟩
      rw [hw22] at S22
      have S22 := Lib.hid S22
      have t22 : Turned (fun b => b = gf) w_21 w_22 := by rw [← hw22]; exact Turned.set _ _ _ rfl
      clear t22 S21
      have HC23 := Lib.hid (rnum1 S22.out)
      go_wp2_with fail
      clear y1 z1
      refine HC23.out.mono ?_
      rintro e w_23 ⟨d, st23, rfl, bd, r23, t23, q23⟩
      have S23 := Lib.hid r23
      have Q23 := Lib.hid q23
      have T23 := Lib.hid t23
      have wrd : IntKind.i64.wrap (d : Int) = (d : Int) := IntWalk.i64_in _ (by omega)
      clear HC23 r23 q23 t23 S22
      have bx := S23.out.box
      have y2 := bx.cell 2 _ rfl
      have z2 := bx.free 2
      skip
      clear bx
      have S24 := S23.out.set 2 (.int .i64 (d : Int)) (m' := noM) (f' := ⟨(k : Int), (s : Int), (d : Int), 0, 0, 0, 0, 0, 0, [], [], [], 0, [], []⟩) rfl
      obtain ⟨w_24, hw24⟩ : ∃ x, w_23.setCell ⟨gf, 2, none⟩ (.int .i64 (d : Int)) = x := ⟨_, rfl⟩
      rw [hw24] at S24
      have S24 := Lib.hid S24
      have t24 : Turned (fun b => b = gf) w_23 w_24 := by rw [← hw24]; exact Turned.set _ _ _ rfl
      clear t24 S23
      have HC25 := Lib.hid (rnum8 S24.out)
      go_wp2_with fail
      clear y2 z2
      refine HC25.out.mono ?_
      rintro e w_25 ⟨ep, st25, rfl, bep, r25, t25, q25⟩
      have S25 := Lib.hid r25
      have Q25 := Lib.hid q25
      have T25 := Lib.hid t25
      clear HC25 r25 q25 t25 S24
      have bx := S25.out.box
      have y3 := bx.cell 3 _ rfl
      have z3 := bx.free 3
      skip
      clear bx
      have S26 := S25.out.set 3 (.int .u64 (ep : Int)) (m' := noM) (f' := ⟨(k : Int), (s : Int), (d : Int), ep, 0, 0, 0, 0, 0, [], [], [], 0, [], []⟩) rfl
      obtain ⟨w_26, hw26⟩ : ∃ x, w_25.setCell ⟨gf, 3, none⟩ (.int .u64 (ep : Int)) = x := ⟨_, rfl⟩
      rw [hw26] at S26
      have S26 := Lib.hid S26
      have t26 : Turned (fun b => b = gf) w_25 w_26 := by rw [← hw26]; exact Turned.set _ _ _ rfl
      clear t26 S25
      go_upto_region 11 with fail
      clear y3 z3
      go_cut [52] (fun v wx => ∃ (lf : Nat) (st' : Option (List Nat)), lf < 18446744073709551616 ∧ Tk w g2 g gf wx st' noM ⟨(k : Int), (s : Int), (d : Int), ep, lf, 0, 0, 0, 0, [], [], [], 0, [], []⟩ ∧ parseF (openVal xs) = goO st' (restP k s d ep lf))
      case first =>
        have HC27 := Lib.hid (rnum8 S26.out)
        go_wp2_with fail
        refine HC27.out.mono ?_
        rintro e w_27 ⟨lf, st27, rfl, blf, r27, t27, q27⟩
        have S27 := Lib.hid r27
        have Q27 := Lib.hid q27
        have T27 := Lib.hid t27
        clear HC27 r27 q27 t27 S26
        have bx := S27.out.box
        have y4 := bx.cell 4 _ rfl
        have z4 := bx.free 4
        skip
        clear bx
        have S28 := S27.out.set 4 (.int .u64 (lf : Int)) (m' := noM) (f' := ⟨(k : Int), (s : Int), (d : Int), ep, lf, 0, 0, 0, 0, [], [], [], 0, [], []⟩) rfl
        obtain ⟨w_28, hw28⟩ : ∃ x, w_27.setCell ⟨gf, 4, none⟩ (.int .u64 (lf : Int)) = x := ⟨_, rfl⟩
        rw [hw28] at S28
        have S28 := Lib.hid S28
        have t28 : Turned (fun b => b = gf) w_27 w_28 := by rw [← hw28]; exact Turned.set _ _ _ rfl
        clear t28 S27
        have HP : Hid (parseF (openVal xs) = goO st27 (restP k s d ep lf)) := by
          show goO (some (openVal xs)) parseF = _
          unfold parseF
          rw [Qa.out, Q21.out, Q23.out, Q25.out, Q27.out]
        go_wp2_with fail
        go_meet
        case rel => exact ⟨lf, _, blf, S28.out, HP.out⟩
      case rest =>
        obtain ⟨lf, st9, blf, h9, q9⟩ := hcut
        refine (show ∀ (a : Act) (w' : World), Code.wp Tryd.prog kindCode (bodyPost Tryd.prog Tryd.f12 (TakeTold xs w)) a w' → _ from by assumption) _ _ ?_
        by_cases k1 : k = 1
        · subst k1
          exact rtk_1 xs (openVal xs) w wc g2 g gf st9 s d ep lf bs bd bep blf h9 q9 HET.out _ _ _ _ _ _ _ _ _ _ _ _ _ _ _ _ _ _ _ _ _ _ _ _ _ _ _ _ _ _ _ _ _ _ _ _ _ _ _ _ _ _ _ _ _ _ _ _ _ _ _ _ _ _ _ _ _ _ _ _ _ _ _ _ _ _ _ _ _ _ _ _ _ _ _ _ _ _ _ _ _ _ _ _ _ _ _ _ _ _ _ _ _ _ _ _ _ _ _ _ _ _ _ _ _ _ _ _ _ _ _ _ _ _ _ _ _ _ _ _ _ _ _ _ _ _ _ _ _ _ _ _ _ _ _ _ _ _ _ _ _ _ _ _ _ _ _ _ _ _ _ _ _ _ _ _ _ _ _ _ _ _ _ _ _ _ _ _ _ _ _ _ _ _ _ _ _ _ _ _ _ _ _ _ _ _ _ _ _ _ _ _ _ _ _ _ _ _ _ _ _ _ _ _ _ _ _ _ _ _ _ _ _ _ _ _ _ _ _ _ _ _ _ _ _ _ _ _ _ _ _ _ _ _ _ _ _ _ _ _ _ _ _ _
        by_cases k2 : k = 2
        · subst k2
          exact rtk_2 xs (openVal xs) w wc g2 g gf st9 s d ep lf bs bd bep blf h9 q9 HET.out _ _ _ _ _ _ _ _ _ _ _ _ _ _ _ _ _ _ _ _ _ _ _ _ _ _ _ _ _ _ _ _ _ _ _ _ _ _ _ _ _ _ _ _ _ _ _ _ _ _ _ _ _ _ _ _ _ _ _ _ _ _ _ _ _ _ _ _ _ _ _ _ _ _ _ _ _ _ _ _ _ _ _ _ _ _ _ _ _ _ _ _ _ _ _ _ _ _ _ _ _ _ _ _ _ _ _ _ _ _ _ _ _ _ _ _ _ _ _ _ _ _ _ _ _ _ _ _ _ _ _ _ _ _ _ _ _ _ _ _ _ _ _ _ _ _ _ _ _ _ _ _ _ _ _ _ _ _ _ _ _ _ _ _ _ _ _ _ _ _ _ _ _ _ _ _ _ _ _ _ _ _ _ _ _ _ _ _ _ _ _ _ _ _ _ _ _ _ _ _ _ _ _ _ _ _ _ _ _ _ _ _ _ _ _ _ _ _ _ _ _ _ _ _ _ _ _ _ _ _ _ _ _ _ _ _ _ _ _ _ _ _ _ _
        by_cases k3 : k = 3
        · subst k3
          exact rtk_3 xs (openVal xs) w wc g2 g gf st9 s d ep lf bs bd bep blf h9 q9 HET.out _ _ _ _ _ _ _ _ _ _ _ _ _ _ _ _ _ _ _ _ _ _ _ _ _ _ _ _ _ _ _ _ _ _ _ _ _ _ _ _ _ _ _ _ _ _ _ _ _ _ _ _ _ _ _ _ _ _ _ _ _ _ _ _ _ _ _ _ _ _ _ _ _ _ _ _ _ _ _ _ _ _ _ _ _ _ _ _ _ _ _ _ _ _ _ _ _ _ _ _ _ _ _ _ _ _ _ _ _ _ _ _ _ _ _ _ _ _ _ _ _ _ _ _ _ _ _ _ _ _ _ _ _ _ _ _ _ _ _ _ _ _ _ _ _ _ _ _ _ _ _ _ _ _ _ _ _ _ _ _ _ _ _ _ _ _ _ _ _ _ _ _ _ _ _ _ _ _ _ _ _ _ _ _ _ _ _ _ _ _ _ _ _ _ _ _ _ _ _ _ _ _ _ _ _ _ _ _ _ _ _ _ _ _ _ _ _ _ _ _ _ _ _ _ _ _ _ _ _ _ _ _ _ _ _ _ _ _ _ _ _ _ _ _
        by_cases k4 : k = 4
        · subst k4
          exact rtk_4 xs (openVal xs) w wc g2 g gf st9 s d ep lf bs bd bep blf h9 q9 HET.out _ _ _ _ _ _ _ _ _ _ _ _ _ _ _ _ _ _ _ _ _ _ _ _ _ _ _ _ _ _ _ _ _ _ _ _ _ _ _ _ _ _ _ _ _ _ _ _ _ _ _ _ _ _ _ _ _ _ _ _ _ _ _ _ _ _ _ _ _ _ _ _ _ _ _ _ _ _ _ _ _ _ _ _ _ _ _ _ _ _ _ _ _ _ _ _ _ _ _ _ _ _ _ _ _ _ _ _ _ _ _ _ _ _ _ _ _ _ _ _ _ _ _ _ _ _ _ _ _ _ _ _ _ _ _ _ _ _ _ _ _ _ _ _ _ _ _ _ _ _ _ _ _ _ _ _ _ _ _ _ _ _ _ _ _ _ _ _ _ _ _ _ _ _ _ _ _ _ _ _ _ _ _ _ _ _ _ _ _ _ _ _ _ _ _ _ _ _ _ _ _ _ _ _ _ _ _ _ _ _ _ _ _ _ _ _ _ _ _ _ _ _ _ _ _ _ _ _ _ _ _ _ _ _ _ _ _ _ _ _ _ _ _ _
        by_cases k5 : k = 5
        · subst k5
          exact rtk_5 xs (openVal xs) w wc g2 g gf st9 s d ep lf bs bd bep blf h9 q9 HET.out _ _ _ _ _ _ _ _ _ _ _ _ _ _ _ _ _ _ _ _ _ _ _ _ _ _ _ _ _ _ _ _ _ _ _ _ _ _ _ _ _ _ _ _ _ _ _ _ _ _ _ _ _ _ _ _ _ _ _ _ _ _ _ _ _ _ _ _ _ _ _ _ _ _ _ _ _ _ _ _ _ _ _ _ _ _ _ _ _ _ _ _ _ _ _ _ _ _ _ _ _ _ _ _ _ _ _ _ _ _ _ _ _ _ _ _ _ _ _ _ _ _ _ _ _ _ _ _ _ _ _ _ _ _ _ _ _ _ _ _ _ _ _ _ _ _ _ _ _ _ _ _ _ _ _ _ _ _ _ _ _ _ _ _ _ _ _ _ _ _ _ _ _ _ _ _ _ _ _ _ _ _ _ _ _ _ _ _ _ _ _ _ _ _ _ _ _ _ _ _ _ _ _ _ _ _ _ _ _ _ _ _ _ _ _ _ _ _ _ _ _ _ _ _ _ _ _ _ _ _ _ _ _ _ _ _ _ _ _ _ _ _ _ _
        by_cases k6 : k = 6
        · subst k6
          exact rtk_6 xs (openVal xs) w wc g2 g gf st9 s d ep lf bs bd bep blf h9 q9 HET.out _ _ _ _ _ _ _ _ _ _ _ _ _ _ _ _ _ _ _ _ _ _ _ _ _ _ _ _ _ _ _ _ _ _ _ _ _ _ _ _ _ _ _ _ _ _ _ _ _ _ _ _ _ _ _ _ _ _ _ _ _ _ _ _ _ _ _ _ _ _ _ _ _ _ _ _ _ _ _ _ _ _ _ _ _ _ _ _ _ _ _ _ _ _ _ _ _ _ _ _ _ _ _ _ _ _ _ _ _ _ _ _ _ _ _ _ _ _ _ _ _ _ _ _ _ _ _ _ _ _ _ _ _ _ _ _ _ _ _ _ _ _ _ _ _ _ _ _ _ _ _ _ _ _ _ _ _ _ _ _ _ _ _ _ _ _ _ _ _ _ _ _ _ _ _ _ _ _ _ _ _ _ _ _ _ _ _ _ _ _ _ _ _ _ _ _ _ _ _ _ _ _ _ _ _ _ _ _ _ _ _ _ _ _ _ _ _ _ _ _ _ _ _ _ _ _ _ _ _ _ _ _ _ _ _ _ _ _ _ _ _ _ _ _
        exact rtk_x xs (openVal xs) w wc g2 g gf st9 k s d ep lf (by omega) bk bs bd bep blf h9 q9 HET.out _ _ _ _ _ _ _ _ _ _ _ _ _ _ _ _ _ _ _ _ _ _ _ _ _ _ _ _ _ _ _ _ _ _ _ _ _ _ _ _ _ _ _ _ _ _ _ _ _ _ _ _ _ _ _ _ _ _ _ _ _ _ _ _ _ _ _ _ _ _ _ _ _ _ _ _ _ _ _ _ _ _ _ _ _ _ _ _ _ _ _ _ _ _ _ _ _ _ _ _ _ _ _ _ _ _ _ _ _ _ _ _ _ _ _ _ _ _ _ _ _ _ _ _ _ _ _ _ _ _ _ _ _ _ _ _ _ _ _ _ _ _ _ _ _ _ _ _ _ _ _ _ _ _ _ _ _ _ _ _ _ _ _ _ _ _ _ _ _ _ _ _ _ _ _ _ _ _ _ _ _ _ _ _ _ _ _ _ _ _ _ _ _ _ _ _ _ _ _ _ _ _ _ _ _ _ _ _ _ _ _ _ _ _ _ _ _ _ _ _ _ _ _ _ _ _ _ _ _ _ _ _ _ _ _ _ _ _ _ _ _ _ _ _
    · have HTK : Hid (tkE xs = openErr xs) := by show _ = _; rw [tkE, if_neg HLE.out, if_neg hop]
      have HNE : Hid (openErr xs ≠ 0) := hop
      obtain ⟨er, her⟩ : ∃ er : Int, ((openErr xs : Nat) : Int) = er := ⟨_, rfl⟩
      rw [her]
      have b7 : (er != 0) = true := by rw [bne_iff_ne]; omega
      have FIN : Hid (∀ w', Keep w w' → TakeTold xs w (.returned (.tuple #[.agg (frCells noM noF), .int .i64 er])) w') := fun w' k => take_none (by rw [HTK.out]; exact her) (by rw [HTK.out]; exact HNE.out) k
      have KF2 : Hid (Keep w (w2.setRow g2 #[.int .i64 0, .int .i64 0, .int .i64 0, .int .u64 0, .int .u64 0, .int .i64 0, .int .u64 0, .int .u64 0, .int .u64 0, .slice none 0 0, .slice none 0 0, .slice none 0 0, .int .u64 0, .slice none 0 0, .slice none 0 0])) := K2.out.setRow (by have := HH.out; omega) rb
      unfold FrBox at rb
      clear hop o2 her HOP k2
      go_wp2_with (refine Go.wpList_store_rowTo rfl 32 (.tmp 2) (.tmp 30) rfl rfl g2 #[.int .i64 0, .int .i64 0, .int .i64 0, .int .u64 0, .int .u64 0, .int .i64 0, .int .u64 0, .int .u64 0, .int .u64 0, .slice none 0 0, .slice none 0 0, .slice none 0 0, .int .u64 0, .slice none 0 0, .slice none 0 0] rfl rfl 32 _ rb infoFr rfl (by kernel_rfl) ?_)
      refine bodyPost_ret (results_cell_two (p := 2) (u := 3) (ty := 32) resRTake _ _ g2 32 _ (0, 0) _ rfl (setRow_heap _ _ _ _ _ _ RB.out) Tryd.underlying32 rfl infoFr) rfl ?_
      exact FIN.out _ KF2.out
end Go.Proofs.YtgkihfemlbhioaaDoor
