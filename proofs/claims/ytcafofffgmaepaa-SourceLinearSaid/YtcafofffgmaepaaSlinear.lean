/- SourceLinear: rows are linear. -/
import Derived.Test.YtcafofffgmaepaaSn2
import Derived.Test.YtcafofffgmaepaaMine
import Derived.Test.YtcafofffgmaepaaWide
import Derived.Deep.DeepCutAuto
import Derived.Deep.CutBlock
namespace Go.Proofs.Ytcafofffgmaepaa
open Go.RowKit
set_option linter.unusedVariables false
set_option linter.unusedSimpArgs false
set_option maxRecDepth 100000 in
set_option maxHeartbeats 16000000 in
theorem slinear_any (G0 S0 C M N n1 c1 n2 c2 n3 c3 : Nat) (A1 A2 A3 : Option Addr) (xs ys zs : List Nat) (W : World) (hG : G0 < 256) (hS : S0 < 256) (hC : C < 256) (hM : M < 65536) (hN : N < 65536)
    (b1 : Bytes W W.heap.size A1 n1 xs) (l1 : n1 ≤ 140737488351232) (q1 : n1 ≤ c1) (b2 : Bytes W W.heap.size A2 n2 ys) (l2 : n2 ≤ 140737488351232) (b3 : Bytes W W.heap.size A3 n3 zs) (l3 : n3 ≤ 140737488351232) :
    Calls Try.prog 5 #[.agg #[.int .u8 (G0 : Int), .int .u8 (S0 : Int), .slice A1 n1 c1, .slice A2 n2 c2, .slice A3 n3 c3, .int .u8 (C : Int), .int .u16 (M : Int), .int .u16 (N : Int)]] W fun e w' => e = .returned (.bool true) ∧ Keep W w' := by
  obtain ⟨j0, hj0⟩ : ∃ j, G0 % 12 = j := ⟨_, rfl⟩
  obtain ⟨j1, hj1⟩ : ∃ j, S0 % 12 = j := ⟨_, rfl⟩
  have e0 : IntKind.i64.wrap (G0 : Int) = (G0 : Int) := IntWalk.i64_in _ (by omega)
  have e1 : (G0 : Int).tmod 12 = (j0 : Int) := by rw [Int.tmod_eq_emod_of_nonneg (by omega)]; omega
  have e2 : IntKind.i64.wrap (j0 : Int) = (j0 : Int) := IntWalk.i64_in _ (by omega)
  have e3 : IntKind.i64.wrap (1 + (j0 : Int)) = ((1 + j0 : Nat) : Int) := by rw [IntWalk.i64_in _ (by omega)]; omega
  have e4 : IntKind.i64.wrap (S0 : Int) = (S0 : Int) := IntWalk.i64_in _ (by omega)
  have e5 : (S0 : Int).tmod 12 = (j1 : Int) := by rw [Int.tmod_eq_emod_of_nonneg (by omega)]; omega
  have e6 : IntKind.i64.wrap (j1 : Int) = (j1 : Int) := IntWalk.i64_in _ (by omega)
  have e7 : IntKind.i64.wrap (5 + (j1 : Int)) = ((5 + j1 : Nat) : Int) := by rw [IntWalk.i64_in _ (by omega)]; omega
  obtain ⟨g, hg⟩ : ∃ g, 1 + j0 = g := ⟨_, rfl⟩
  obtain ⟨s, hs⟩ : ∃ s, 5 + j1 = s := ⟨_, rfl⟩
  rw [hg] at e3
  rw [hs] at e7
  have g1 : 1 ≤ g := by omega
  have g2 : g ≤ 12 := by omega
  have s1 : 5 ≤ s := by omega
  have s2 : s ≤ 16 := by omega
  obtain ⟨P, hP⟩ : ∃ P, g * s = P := ⟨_, rfl⟩
  have p1 : 5 ≤ P := by rw [← hP]; exact Nat.le_trans s1 (Nat.le_mul_of_pos_left s g1)
  have p2 : P ≤ 192 := by rw [← hP]; exact Nat.mul_le_mul g2 s2
  have hz : SizeS g s P := ⟨by omega, by omega, by omega, by omega, hP, p1, by omega, ⟨by omega, by omega, by omega, by omega, by rw [show (g : Int) * (s : Int) = ((g * s : Nat) : Int) by simp, hP]; omega⟩, by rw [← hP]; simp⟩
  obtain ⟨k1, hk1⟩ : ∃ k, min n1 400 = k := ⟨_, rfl⟩
  have hmin := run_least n1 400 k1 400 rfl hk1
  have hhead := head_bytes k1 n1 c1 A1 (by omega)
  have k1b : k1 ≤ 400 := by omega
  obtain ⟨xa, hxa⟩ : ∃ xa, xs.take k1 = xa := ⟨_, rfl⟩
  have hB1 := b1.cut (m := k1) (by omega)
  rw [hxa] at hB1
  obtain ⟨T, hT⟩ : ∃ T, [1] ++ xa = T := ⟨_, rfl⟩
  have hTl : T.length = 1 + k1 := by rw [← hT, List.length_append, hB1.length]; rfl
  have hTa : AllB T := by rw [← hT]; exact AllB.append (fun x hx => by simp at hx; omega) hB1.all
  have HTA := Lib.hid hTa
  have hG0 := GoodS.start hz
  have hE0 : subE P false [] [] T 1099511627776 = 0 := by
    rw [subE, if_neg (by simp), if_neg]
    rintro (e | e)
    · simp at e; omega
    · have := lin_would (room := P - 4) (by omega) T (by omega); omega
  have hX0 : subX P false [] [] T 1099511627776 = T := by rw [subX, if_pos hE0, List.nil_append]
  have hG1 := hG0.sub false T 1099511627776
  rw [hX0] at hG1
  have hG2 := hG1.flush false
  have hM2 := lin_gens hG1 (by omega)
  have h0F := lin_start hz
  have HZ := Lib.hid hz
  have HB1 := Lib.hid hB1
  have HB2 := Lib.hid b2
  have HB3 := Lib.hid b3
  have HE0 := Lib.hid hE0
  have HX0 := Lib.hid hX0
  have HG0 := Lib.hid hG0
  have HG1 := Lib.hid hG1
  have HT := Lib.hid (And.intro hT hTl)
  have H0F := Lib.hid h0F
  obtain ⟨cs, hcs⟩ : ∃ cs, flushC P false T [] = cs := ⟨_, rfl⟩
  have HCS := Lib.hid hcs
  rw [hcs] at hG2 hM2
  obtain ⟨R, hR⟩ : ∃ R, gensN (P - 4) cs T = R := ⟨_, rfl⟩
  have HR := Lib.hid hR
  rw [hR] at hG2 hM2
  have HG2 := Lib.hid hG2
  obtain ⟨L, hL⟩ : ∃ L, R.length = L := ⟨_, rfl⟩
  have HL := Lib.hid hL
  have L1 : 1 ≤ L := by omega
  have L2 : L ≤ 262144 := by have := hG2.few; omega
  obtain ⟨gX, hgX⟩ : ∃ gX, W.heap.size = gX := ⟨_, rfl⟩
  obtain ⟨w0, hw0, z0, q0, hb0⟩ := one_block W #[.int .u8 (G0 : Int), .int .u8 (S0 : Int), .slice A1 n1 c1, .slice A2 n2 c2, .slice A3 n3 c3, .int .u8 (C : Int), .int .u16 (M : Int), .int .u16 (N : Int)] 78
  have K0 := Lib.hid q0
  rw [hgX] at hb0
  have HBX : Hid (∀ w', Keep w0 w' → w'.heap[gX]? = some (.cells #[.int .u8 (G0 : Int), .int .u8 (S0 : Int), .slice A1 n1 c1, .slice A2 n2 c2, .slice A3 n3 c3, .int .u8 (C : Int), .int .u16 (M : Int), .int .u16 (N : Int)] 78 (0, 0))) := fun w' k => block_keep hb0 k
  have x0 : w0.cell? ⟨gX, 0, none⟩ = some (.int .u8 (G0 : Int)) := cell_of_row _ _ _ _ _ _ hb0
  have x1 : w0.cell? ⟨gX, 1, none⟩ = some (.int .u8 (S0 : Int)) := cell_of_row _ _ _ _ _ _ hb0
  clear hTa b1 b2 b3 hj0 hj1 hg hs hP hk1 hxa hB1 hT hTl hG0 hE0 hX0 hG1 hG2 hM2 h0F hz z0 q0 hb0 hcs hR hL
  go_enter Try.func5, Try.ntmps5
  go_wp2_with fail
  go_quiet (fail)
  have HGX := Lib.hid hgX
  have KQ : Hid (Keep w0 (w0.drewN nq)) := (Keep.refl w0).drewN nq
  clear x0 x1 hw0 hgX e0 e1 e2 e3 e4 e5 e6 e7
  generalize w0.drewN nq = w1 at *
  go_wp2_with fail
  refine (new_good g s P HZ.out w1).mono ?_
  rintro e w2 ⟨b, F, rfl, q2, f2, k2⟩
  have KQ2 : Hid (Keep w0 w2) := KQ.out.trans k2
  have Q2 := Lib.hid (And.intro q2 f2)
  have Z2 : Hid (w0.heap.size ≤ w1.heap.size) := KQ.out.size
  clear q2 f2 k2 KQ
  go_wp2_with fail
  refine (sawake_any _).mono ?_
  rintro e w3 ⟨rfl, k3⟩
  have Q3 := Lib.hid (Q2.out.1.keep k3)
  have F3 : Hid (∀ i, F i → w0.heap.size ≤ i) := fun i hi => Nat.le_trans Z2.out (Q2.out.2 i hi)
  have K3 : Hid (Keep w0 w3) := KQ2.out.trans k3
  have x2 : w3.cell? ⟨gX, 2, none⟩ = some (.slice A1 n1 c1) := cell_of_row _ _ _ _ _ _ (HBX.out _ K3.out)
  have hgl : gX < w3.heap.size := by
    have z1 := K3.out.size
    have := (Array.getElem?_eq_some_iff.1 (HBX.out _ (Keep.refl w0))).1
    omega
  have hW3 : W.heap.size ≤ w3.heap.size := Nat.le_trans K0.out.size K3.out.size
  have KW3 : Hid (Keep W w3) := K0.out.trans K3.out
  clear k3 Q2 KQ2 Z2
  go_wp2_with (at_builtin; refine wpList_append_guarded (by kernel_rfl) _ _ 22 rfl Try.underlying22 info5 rfl (Own.lit w3 5 1 [1] _ rfl rfl (by omega) (by decide)) rfl ((HB1.out.keep (Nat.le_refl _) KW3.out).keep hW3 ((Keep.refl w3).ob (.cells #[.int .u8 1] 5))) (by omega) ?c1 ?_)
  case c1 => simp
  intro A4 c4 w4 o4 gr4
  rw [show (1 :: xa : List Nat) = T from HT.out.1] at o4
  have k34 : Keep w3 w4 := Keep.grown ((Keep.refl w3).ob _) gr4 fun b hb => by
    have hb : some w3.heap.size = some b := hb
    injection hb with hb; omega
  have hsu := submit_any (most := 1099511627776) (Q3.out.keep k34) HG0.out w4.heap.size (1 + k1) c4 A4 o4.bytes (Nat.le_refl _) (by omega)
  rw [HE0.out, HX0.out, show ((1099511627776 : Nat) : Int) = 1099511627776 from rfl] at hsu
  have HSU := Lib.hid hsu
  have K4 : Hid (Keep w0 w4) := K3.out.trans k34
  clear hsu k34 o4 gr4 x2 HB1 hmin hhead
  go_wp2_with fail
  refine HSU.out.mono ?_
  rintro e w5 ⟨rfl, F5, s5, t5, f5⟩
  have hfl := flush_any s5 HG1.out (by simp)
  rw [HCS.out, HR.out, show flushE false = 0 from rfl] at hfl
  have HFL := Lib.hid hfl
  have K5 : Hid (Keep w0 w5) := t5.keep K4.out F3.out
  have F5' : Hid (∀ i, F5 i → w0.heap.size ≤ i) := fun i hi => by
    rcases f5 i hi with e | e
    · exact F3.out i e
    · exact Nat.le_trans K4.out.size e
  clear hfl s5 t5 f5 HSU
  go_wp2_with fail
  refine HFL.out.mono ?_
  rintro e w6 ⟨rfl, F6, s6, t6, f6⟩
  have S6 := Lib.hid s6
  have K6 : Hid (Keep w0 w6) := t6.keep K5.out F5'.out
  have F6' : Hid (∀ i, F6 i → w0.heap.size ≤ i) := fun i hi => by
    rcases f6 i hi with e | e
    · exact F5'.out i e
    · exact Nat.le_trans K5.out.size e
  have HX6 := Lib.hid (HBX.out _ K6.out)
  clear s6 t6 f6 HFL F5' K5 K4 F3 K3
  obtain ⟨gen, hgen⟩ : ∃ q, M % L = q := ⟨_, rfl⟩
  have hgl2 : gen < L := by rw [← hgen]; exact Nat.mod_lt _ L1
  have m0 : IntKind.u64.wrap (M : Int) = (M : Int) := IntWalk.u64_in _ (by omega)
  have m1 : (M : Int).tmod (L : Int) = (gen : Int) := by rw [Int.tmod_eq_emod_of_nonneg (by omega)]; omega
  have m2 : IntKind.u64.wrap (gen : Int) = (gen : Int) := IntWalk.u64_in _ (by omega)
  have m3 : ((L : Int) == 0) = false := beq_eq_false_iff_ne.2 (by omega)
  have m4 : (L : Int) ≠ 0 := by omega
  have m5 : ¬ L = 0 := by omega
  have HGE : Hid (∀ w', Keep w6 w' → Calls Try.prog 28 #[.pointer (some ⟨b, 0, none⟩)] w' fun e w'' => e = .returned (.int .u64 (L : Int)) ∧ w' = w'') := fun w' k => by
    obtain ⟨_, _, _, _, _, _, _, _, _, hs⟩ := S6.out
    rw [← HL.out]
    exact gens_any (hs.keep k) (by have := HG2.out.few; omega)
  have HL6 : Hid (∀ w', Keep w6 w' → w'.cell? ⟨gX, 6, none⟩ = some (.int .u16 (M : Int))) := fun w' k => cell_of_row _ _ _ _ _ _ (block_keep HX6.out k)
  clear hgen
  go_wp2_with fail
  refine wp_region_noPanic ?_
  refine wp_region_held_drew (S := fun wz => Keep w6 wz) (by kernel_rfl) (Keep.drew (Keep.refl _)) (fun hHeld => ?_)
  refine wpAnyH_take (i := 0) (v := ?_) rfl (by kernel_rfl) (by kernel_rfl) (by kernel_rfl) (fun _ _ _ h => h) (Or.inl ⟨by rfl, ?_⟩) hHeld ?_
  rotate_left
  · intro wq hSw
    go_simp
    all_goals with_reducible rfl
  try simp only [Act.put, List.getElem_toArray, List.getElem_cons_succ, List.getElem_cons_zero, List.setIfInBounds_toArray, List.set_cons_zero, List.set_cons_succ]
  refine wpAnyH_take (i := 1) (v := ?_) rfl (by kernel_rfl) (by kernel_rfl) (by kernel_rfl) (fun _ _ _ h => h) (Or.inl ⟨by rfl, ?_⟩) hHeld ?_
  rotate_left
  · intro wq hSw
    have q0 := HL6.out wq hSw
    go_simp
    all_goals with_reducible rfl
  try simp only [Act.put, List.getElem_toArray, List.getElem_cons_succ, List.getElem_cons_zero, List.setIfInBounds_toArray, List.set_cons_zero, List.set_cons_succ]
  refine wpAnyH_take (i := 2) (v := ?_) rfl (by kernel_rfl) (by kernel_rfl) (by kernel_rfl) (fun _ _ _ h => h) (Or.inl ⟨by rfl, ?_⟩) hHeld ?_
  rotate_left
  · intro wq hSw
    go_simp
    all_goals with_reducible rfl
  try simp only [Act.put, List.getElem_toArray, List.getElem_cons_succ, List.getElem_cons_zero, List.setIfInBounds_toArray, List.set_cons_zero, List.set_cons_succ]
  refine wpAnyH_take (i := 3) (v := ?_) rfl (by kernel_rfl) (by kernel_rfl) (by kernel_rfl) (fun _ _ _ h => h) (Or.inl ⟨by rfl, ?_⟩) hHeld ?_
  rotate_left
  · intro wq hSw
    go_simp
    all_goals with_reducible rfl
  try simp only [Act.put, List.getElem_toArray, List.getElem_cons_succ, List.getElem_cons_zero, List.setIfInBounds_toArray, List.set_cons_zero, List.set_cons_succ]
  refine wpAnyH_ready (rs := [4]) (by kernel_rfl) (by simp) ?_
  refine AllReadyH.cons rfl (fun K hK => ?_) AllReadyH.nil
  go_simp
  refine (HGE.out _ (Keep.drew (Keep.refl _))).mono ?_
  rintro e w7 ⟨rfl, rfl⟩
  refine hK.out _ _ hHeld (fun hHeld => ?_)
  clear hK K
  try simp only [Act.put, List.getElem_toArray, List.getElem_cons_succ, List.getElem_cons_zero, List.setIfInBounds_toArray, List.set_cons_zero, List.set_cons_succ]
  refine wpAnyH_take (i := 5) (v := ?_) rfl (by kernel_rfl) (by kernel_rfl) (by kernel_rfl) (fun _ _ _ h => h) (Or.inl ⟨by rfl, ?_⟩) hHeld ?_
  rotate_left
  · intro wq hSw
    go_simp
    all_goals with_reducible rfl
  try simp only [Act.put, List.getElem_toArray, List.getElem_cons_succ, List.getElem_cons_zero, List.setIfInBounds_toArray, List.set_cons_zero, List.set_cons_succ]
  refine wpAnyH_take (i := 6) (v := ?_) rfl (by kernel_rfl) (by kernel_rfl) (by kernel_rfl) (fun _ _ _ h => h) (Or.inl ⟨by rfl, ?_⟩) hHeld ?_
  rotate_left
  · intro wq hSw
    go_simp
    all_goals with_reducible rfl
  try simp only [Act.put, List.getElem_toArray, List.getElem_cons_succ, List.getElem_cons_zero, List.setIfInBounds_toArray, List.set_cons_zero, List.set_cons_succ]
  refine wpAnyH_done (by kernel_rfl) ?_ _
  refine NoPanic.normal ?_
  clear hHeld
  have K6d : Hid (Keep w6 (w6.drew)) := Keep.drew (Keep.refl w6)
  generalize w6.drew = w7 at *
  have mk := fun w => run_make_bytes (P := Try.prog) Try.underlying22 info5 g (by omega) w
  clear m0 m1 m2 m3 m4 m5 HGE HL6
  go_upto_region 6 with fail
  go_cut [8, 9] (fun av bv wx => ∃ p q : Nat, av = .slice (some ⟨p, 0, none⟩) g g ∧ bv = .slice (some ⟨q, 0, none⟩) g g ∧ p ≠ q ∧ w7.heap.size ≤ p ∧ w7.heap.size ≤ q ∧ wx.heap[p]? = some (.cells (madeCells #[.int .u8 0] g) 5 (0, 0)) ∧ wx.heap[q]? = some (.cells (madeCells #[.int .u8 0] g) 5 (0, 0)) ∧ Keep w7 wx)
  case first =>
    obtain ⟨wv, hwv, r1, r2, kv⟩ := two_made w7 (madeCells #[.int .u8 0] g) 5
    have HWV := Lib.hid (And.intro hwv (And.intro r1 (And.intro r2 kv)))
    clear hwv r1 r2 kv
    go_region
    · rw [HWV.out.1]
      go_wp2_with fail
      go_meet
      case rel => exact ⟨_, _, rfl, rfl, by omega, Nat.le_refl _, by omega, HWV.out.2.1, HWV.out.2.2.1, HWV.out.2.2.2⟩
    · rw [HWV.out.1]
      go_wp2_with fail
      go_meet
      case rel => exact ⟨_, _, rfl, rfl, by omega, by omega, Nat.le_refl _, HWV.out.2.2.1, HWV.out.2.1, HWV.out.2.2.2⟩
  case rest =>
    obtain ⟨p, q, rfl, rfl, hpq, hp, hq, hrp, hrq, kc⟩ := hcut
    have K7 : Keep w0 wc := (K6.out.trans K6d.out).trans kc
    have x3 : wc.cell? ⟨gX, 3, none⟩ = some (.slice A2 n2 c2) := cell_of_row _ _ _ _ _ _ (HBX.out _ K7)
    obtain ⟨w8, v8, hcp8, o8, k8, t8⟩ := run_copy_into (P := Try.prog) (W := w7) (w := wc) (t := 22) (e := 5) (c := c2) (ty := 3) (n := g) p Try.underlying22 (by kernel_rfl) hrp (HB2.out.keep (Nat.le_refl _) (K0.out.trans K7)) (by omega) kc hp
    have K8 : Keep w0 w8 := (K6.out.trans K6d.out).trans k8
    have x4 : w8.cell? ⟨gX, 4, none⟩ = some (.slice A3 n3 c3) := cell_of_row _ _ _ _ _ _ (HBX.out _ K8)
    obtain ⟨w9, v9, hcp9, o9, k9, t9⟩ := run_copy_into (P := Try.prog) (W := w7) (w := w8) (t := 22) (e := 5) (c := c3) (ty := 3) (n := g) q Try.underlying22 (by kernel_rfl) (by rw [t8.block q (Array.getElem?_eq_some_iff.1 hrq).1 (fun e => hpq e.symm)]; exact hrq) (HB3.out.keep (Nat.le_refl _) (K0.out.trans K8)) (by omega) k8 hq
    have O8 := Lib.hid (o8.turned t9 (fun i hi e => by
      have hi : some p = some i := hi
      injection hi with hi
      exact hpq (hi.trans e)))
    have O9 := Lib.hid o9
    have K9 : Hid (Keep w0 w9) := (K6.out.trans K6d.out).trans k9
    have S9 := Lib.hid (S6.out.keep (K6d.out.trans k9))
    obtain ⟨V, hV⟩ : ∃ V, layN g s (R.getD gen []) = V := ⟨_, rfl⟩
    have hgr : gen < R.length := by rw [HL.out]; exact hgl2
    have HV := Lib.hid hV
    have HROW : Hid (∀ (w' : World) (B c5 : Nat) (A5 : Option Addr) (D : List Nat), Keep w9 w' → Bytes w' B A5 g D → B ≤ w'.heap.size → Calls Try.prog 23 #[.pointer (some ⟨b, 0, none⟩), .int .u64 (gen : Int), .slice A5 g c5] w' (NewRow w' D (vComb s V D g) 0)) := fun w' B c5 A5 D k hD hB => by
      have h := rowm_any (S9.out.keep k) HG2.out gen (by omega) B g c5 A5 D hD hB
      obtain ⟨r1, r2, r3⟩ := row_lin g s R gen D hgr hD.length
      rw [r1, r2, r3, hV] at h
      exact h
    have HSEND : Hid (∀ (w' : World) (sent B n5 c5 : Nat) (A5 : Option Addr) (D : List Nat), Keep w9 w' → sent < 18446744073709551616 → Bytes w' B A5 n5 D → B ≤ w'.heap.size → Calls Try.prog 26 #[.pointer (some ⟨b, 0, none⟩), .int .u64 (gen : Int), .int .u64 (sent : Int), .slice A5 n5 c5] w' (NewRow w' (sendN g sent D) (vComb s V (sendN g sent D) g) 0)) := fun w' sent B n5 c5 A5 D k hs hD hB => by
      have h := send_any (S9.out.keep k) HG2.out gen (by omega) sent hs B n5 c5 A5 D hD hB
      obtain ⟨r1, r2, r3, r4⟩ := send_lin g s R gen sent D hgr
      rw [r1, r3, r4, hV] at h
      exact h
    have HSYM : Hid (∀ (w' : World), Keep w9 w' → Calls Try.prog 20 #[.pointer (some ⟨b, 0, none⟩), .int .u64 (gen : Int)] w' fun e w'' => ∃ A n c, e = .returned (.tuple #[.slice A n c, .int .i64 0]) ∧ SymAt w' w'' A n c V) := fun w' k => by
      have h := syms_any (S9.out.keep k) HG2.out gen (by omega)
      obtain ⟨r1, r2, r3, r4⟩ := send_lin g s R gen 0 [] hgr
      rw [r1, r2, hV] at h
      exact h
    obtain ⟨D1, hD1⟩ : ∃ D, fillN ys g = D := ⟨_, rfl⟩
    obtain ⟨D2, hD2⟩ : ∃ D, fillN zs g = D := ⟨_, rfl⟩
    rw [hD1] at O8
    rw [hD2] at O9
    clear hD1 hD2 hV kc k8 t8 o8 o9 k9 t9 K7 K8 S9 S6 hrp hrq mk K6 K6d HX6
    go_wp2_with fail
    clear hcp8 hcp9 x3 x4
    refine (HROW.out w9 _ _ _ _ (Keep.refl _) O8.out.bytes (Nat.le_refl _)).mono ?_
    rintro e w10 ⟨Aa, na, ca, Ab, nb, cb, rfl, oa, ob, k10⟩
    have K10 := Lib.hid k10
    have OA := Lib.hid oa
    have OB := Lib.hid ob
    clear oa ob k10
    go_wp2_with fail
    obtain ⟨w11, hw11, z11, k11, hb11⟩ := one_block w10 #[.slice Aa na ca, .slice Ab nb cb] 56
    try rw [hw11]
    have K11 : Hid (Keep w9 w11) := K10.out.trans k11
    have OB11 := Lib.hid (OB.out.keep k11)
    have HX11 := Lib.hid hb11
    obtain ⟨gP, hgP⟩ : ∃ gP, w10.heap.size = gP := ⟨_, rfl⟩
    rw [hgP] at HX11 ⊢
    clear hw11 z11 k11 hb11 hgP OA OB K10
    refine (HROW.out w11 _ _ _ _ K11.out (O9.out.bytes.keep (Nat.le_refl _) K11.out) K11.out.size).mono ?_
    rintro e w12 ⟨Ac, nc, cc, Ad, nd, cd, rfl, oc, od, k12⟩
    have K12 : Hid (Keep w9 w12) := K11.out.trans k12
    have HX12 := Lib.hid (block_keep HX11.out k12)
    have OB12 := Lib.hid (OB11.out.keep k12)
    have OD := Lib.hid od
    have x5 : w12.cell? ⟨gX, 5, none⟩ = some (.int .u8 (C : Int)) := cell_of_row _ _ _ _ _ _ (HBX.out _ (K9.out.trans K12.out))
    have hgl3 : gX < w12.heap.size := by have := (Array.getElem?_eq_some_iff.1 (HBX.out _ (K9.out.trans K12.out))).1; exact this
    clear oc od k12 K11 HX11 OB11
    go_wp2_with fail
    obtain ⟨w13, hw13, z13, k13, hb13⟩ := one_block w12 #[.slice Ac nc cc, .slice Ad nd cd] 56
    try rw [hw13]
    have K13 : Hid (Keep w9 w13) := K12.out.trans k13
    have HX13 := Lib.hid (And.intro (block_keep HX12.out k13) hb13)
    have OB13 := Lib.hid (OB12.out.keep k13)
    have OD13 := Lib.hid (OD.out.keep k13)
    obtain ⟨gQ, hgQ⟩ : ∃ gQ, w12.heap.size = gQ := ⟨_, rfl⟩
    rw [hgQ] at HX13 ⊢
    clear hw13 z13 k13 hb13 hgQ K12 HX12 OB12 OD x5 hgl3
    refine (vaddS_any _ _ g g g C _ _ D1 D2 w13 (O8.out.bytes.keep (Nat.le_refl _) K13.out) (O9.out.bytes.keep (Nat.le_refl _) K13.out) K13.out.size K13.out.size (by omega) hC).mono ?_
    rintro e w14 ⟨As, ns, cs', rfl, os, k14⟩
    obtain rfl : g = ns := (vAddS_len g D1 D2 C).symm.trans os.length
    have K14 : Hid (Keep w9 w14) := K13.out.trans k14
    have OS := Lib.hid os
    have HX14 := Lib.hid (And.intro (block_keep HX13.out.1 k14) (block_keep HX13.out.2 k14))
    have OB14 := Lib.hid (OB13.out.keep k14)
    have OD14 := Lib.hid (OD13.out.keep k14)
    have hVa : ∀ i, AllB (V.getD i []) := by
      rw [← HV.out]
      exact lay_all (gen_all HG2.out HTA.out gen hgr).1
    have hlin := comb_adds s g C V D1 D2 hVa O8.out.2 O9.out.2 hC
    have HVA := Lib.hid hVa
    have HLIN := Lib.hid hlin
    obtain ⟨D3, hD3⟩ : ∃ D, vAddS g D1 D2 C = D := ⟨_, rfl⟩
    rw [hD3] at OS HLIN
    clear os k14 K13 HX13 OB13 OD13 hVa hlin hD3
    go_wp2_with fail
    refine (HROW.out w14 _ _ _ _ K14.out OS.out.bytes (Nat.le_refl _)).mono ?_
    rintro e w15 ⟨Ae, ne, ce, Af, nf, cf, rfl, oe, of, k15⟩
    obtain rfl : s = nb := (vComb_len s V D1 g).symm.trans OB14.out.length
    obtain rfl : s = nd := (vComb_len s V D2 g).symm.trans OD14.out.length
    have K15 : Hid (Keep w9 w15) := K14.out.trans k15
    have x5 : w15.cell? ⟨gX, 5, none⟩ = some (.int .u8 (C : Int)) := cell_of_row _ _ _ _ _ _ (HBX.out _ (K9.out.trans K15.out))
    have hgl3 : gX < w15.heap.size := (Array.getElem?_eq_some_iff.1 (HBX.out _ (K9.out.trans K15.out))).1
    have hbP := block_keep HX14.out.1 k15
    have hbQ := block_keep HX14.out.2 k15
    have y1 : w15.cell? ⟨gP, 1, none⟩ = some (.slice Ab s cb) := cell_of_row _ _ _ _ _ _ hbP
    have y2 : w15.cell? ⟨gQ, 1, none⟩ = some (.slice Ad s cd) := cell_of_row _ _ _ _ _ _ hbQ
    have hgP : gP < w15.heap.size := (Array.getElem?_eq_some_iff.1 hbP).1
    have hgQ : gQ < w15.heap.size := (Array.getElem?_eq_some_iff.1 hbQ).1
    have OE := Lib.hid oe
    have OF := Lib.hid of
    have OB15 := Lib.hid (OB14.out.keep k15)
    have OD15 := Lib.hid (OD14.out.keep k15)
    have OS15 := Lib.hid (OS.out.keep k15)
    clear oe of k15 hbP hbQ K14 HX14 OB14 OD14 OS
    go_wp2_with fail
    obtain ⟨w16, hw16, z16, k16, hb16⟩ := one_block w15 #[.slice Ae ne ce, .slice Af nf cf] 56
    try rw [hw16]
    have K16 : Hid (Keep w9 w16) := K15.out.trans k16
    have HX16 := Lib.hid hb16
    have OE16 := Lib.hid (OE.out.keep k16)
    have OF16 := Lib.hid (OF.out.keep k16)
    have OB16 := Lib.hid (OB15.out.keep k16)
    have OD16 := Lib.hid (OD15.out.keep k16)
    have OS16 := Lib.hid (OS15.out.keep k16)
    obtain ⟨gR, hgR⟩ : ∃ gR, w15.heap.size = gR := ⟨_, rfl⟩
    rw [hgR] at HX16 ⊢
    clear hw16 z16 k16 hb16 hgR K15 x5 hgl3 y1 y2 hgP hgQ OE OF OB15 OD15 OS15
    refine (vaddS_any _ _ s cb cd C _ _ (vComb s V D1 g) (vComb s V D2 g) w16 OB16.out.bytes OD16.out.bytes (Nat.le_refl _) (Nat.le_refl _) (by omega) hC).mono ?_
    rw [← HLIN.out]
    rintro e w17 ⟨Ag, ng, cg, rfl, og, k17⟩
    have K17 : Hid (Keep w9 w17) := K16.out.trans k17
    have hbR := block_keep HX16.out k17
    have y1 : w17.cell? ⟨gR, 0, none⟩ = some (.slice Ae ne ce) := cell_of_row _ _ _ _ _ _ hbR
    have y2 : w17.cell? ⟨gR, 1, none⟩ = some (.slice Af nf cf) := cell_of_row _ _ _ _ _ _ hbR
    have OE17 := Lib.hid (OE16.out.keep k17).bytes
    have OF17 := Lib.hid (OF16.out.keep k17).bytes
    have OS17 := Lib.hid (OS16.out.keep k17).bytes
    have OG17 := Lib.hid og.bytes
    clear og k17 hbR K16 HX16 OE16 OF16 OB16 OD16 OS16
    go_wp2_with fail
    refine (equal_yes _ _ nf ng _ _ _ _ _ _ OF17.out OG17.out).mono ?_
    rintro e w18 ⟨rfl, rfl⟩
    go_wp2_with fail
    refine (equal_yes _ _ ne g _ _ _ _ _ _ OE17.out OS17.out).mono ?_
    rintro e w18 ⟨rfl, rfl⟩
    clear y1 y2 OE17 OF17 OS17 OG17
    go_wp2_with fail
    refine (HSYM.out w17 K17.out).mono ?_
    rintro e w18 ⟨Ay, ny, cy, rfl, ⟨rsy, hry, hcy, hxy⟩, hty, hny, k18⟩
    have K18 : Hid (Keep w9 w18) := K17.out.trans k18
    have RY := Lib.hid (And.intro hry hxy)
    clear hry hcy hxy hty k18 K17
    go_wp2_with fail
    have hVl : V.length = ny := by rw [← RY.out.2, rowsXs, List.length_map]; exact RY.out.1.1
    have hVg : V.length = g := by rw [← HV.out, layN, cutsN_len]
    obtain rfl : g = ny := hVg.symm.trans hVl
    have HVL : Hid (∀ i, i < g → (V.getD i []).length = s) := fun i hi => by
      rw [← HV.out]
      exact lay_len (gen_all HG2.out HTA.out gen hgr).2 hi
    clear hVl hVg
    go_loopw [152] (fun iv wr => ∃ i : Nat, i ≤ g ∧ iv = .int .i64 i ∧ Keep w18 wr) (fun iv _ => g - (intOf iv).toNat)
    case atStart => exact ⟨0, by omega, rfl, Keep.refl _⟩
    case round =>
      obtain ⟨i, hi, rfl, hk⟩ := hrel
      have f1 : (0 : Int) ≤ (i : Int) := Int.natCast_nonneg _
      have KR : Hid (Keep w9 wr) := K18.out.trans hk
      have HK := Lib.hid hk
      have K0R : Hid (Keep W wr) := K0.out.trans (K9.out.trans KR.out)
      have x3 : wr.cell? ⟨gX, 3, none⟩ = some (.slice A2 n2 c2) := cell_of_row _ _ _ _ _ _ (HBX.out _ (K9.out.trans KR.out))
      clear hk
      by_cases hlt : i < g
      · have f2 : (i : Int) < (g : Int) := by omega
        have m0 : IntKind.u64.wrap (i : Int) = (i : Int) := IntWalk.u64_in _ (by omega)
        have hsd := HSEND.out wr i _ n2 c2 A2 ys KR.out (by omega) (HB2.out.keep (Nat.le_refl _) K0R.out) K0R.out.size
        rw [sendN_unit g i ys hlt, comb_unit s g i V (HVA.out i) (HVL.out i hlt) hlt] at hsd
        have HSD := Lib.hid hsd
        clear hsd
        go_wp2_with fail
        refine HSD.out.mono ?_
        rintro e w19 ⟨Ah, nh, ch, Ai, ni, ci, rfl, oh, oi, k19⟩
        have OH := Lib.hid oh
        have OI := Lib.hid oi
        have K19 := Lib.hid k19
        clear oh oi k19 HSD x3 m0
        go_wp2_with fail
        obtain ⟨w20, hw20, z20, k20, hb20⟩ := one_block w19 #[.slice Ah nh ch, .slice Ai ni ci] 56
        try rw [hw20]
        have K20 : Hid (Keep wr w20) := K19.out.trans k20
        have HX20 := Lib.hid hb20
        have OH20 := Lib.hid (OH.out.keep k20)
        have OI20 := Lib.hid (OI.out.keep k20)
        obtain ⟨gB, hgB⟩ : ∃ gB, w19.heap.size = gB := ⟨_, rfl⟩
        rw [hgB] at HX20 ⊢
        clear hw20 z20 k20 hb20 hgB OH OI K19
        refine (vunit_in g i hlt (by omega) w20).mono ?_
        rintro e w21 ⟨Au, nu, cu, rfl, ou, k21⟩
        have K21 : Hid (Keep wr w21) := K20.out.trans k21
        have HBB := Lib.hid (block_keep HX20.out k21)
        have OH21 := Lib.hid (OH20.out.keep k21).bytes
        have OI21 := Lib.hid (OI20.out.keep k21).bytes
        have OU21 := Lib.hid ou.bytes
        obtain ⟨b6, off6, r6, hA6, hb6, hr6, hc6, hl6⟩ := RY.out.1.at_ (k := i) hlt
        subst hA6
        have hx6 : V.getD i [] = r6.xs := by
          rw [← RY.out.2, rowsXs, List.getD_eq_getElem?_getD, List.getElem?_map, hr6]; rfl
        have K18b : Hid (Keep w18 w21) := HK.out.trans K21.out
        have L6 := Lib.hid ((hl6.bytes (B := w18.heap.size) fun b hb => hb.2).keep (Nat.le_refl _) K18b.out)
        rw [hx6] at OI21
        have HR6 : Hid (∀ w', Keep w21 w' → w'.cell? ⟨b6, off6 + i, none⟩ = some (.slice r6.A r6.n r6.c)) := fun w' k => ((K18b.out.trans k).cell (p := ⟨b6, off6 + i, none⟩) hb6.2).trans hc6
        have HC0 : Hid (∀ w', Keep w21 w' → w'.cell? ⟨gB, 0, none⟩ = some (.slice Ah nh ch)) := fun w' k => cell_of_row _ _ _ _ _ _ (block_keep HBB.out k)
        have HC1 : Hid (∀ w', Keep w21 w' → w'.cell? ⟨gB, 1, none⟩ = some (.slice Ai ni ci)) := fun w' k => cell_of_row _ _ _ _ _ _ (block_keep HBB.out k)
        clear ou k21 hb6 hr6 hc6 hl6 hx6 HX20 OH20 OI20 K20 HBB
        go_wp2_with fail
        refine wp_region_noPanic ?_
        refine wp_region_held_drew (S := fun wz => Keep w21 wz) (by kernel_rfl) (Keep.drew (Keep.refl _)) (fun hHeld => ?_)
        refine wpAnyH_take (i := 0) (v := ?_) rfl (by kernel_rfl) (by kernel_rfl) (by kernel_rfl) (fun _ _ _ h => h) (Or.inl ⟨by kernel_rfl, ?_⟩) hHeld ?_
        rotate_left
        · intro wq hSw
          go_simp
          all_goals with_reducible rfl
        try simp only [Act.put, List.getElem_toArray, List.getElem_cons_succ, List.getElem_cons_zero, List.setIfInBounds_toArray, List.set_cons_zero, List.set_cons_succ]
        refine wpAnyH_take (i := 1) (v := ?_) rfl (by kernel_rfl) (by kernel_rfl) (by kernel_rfl) (fun _ _ _ h => h) (Or.inl ⟨by kernel_rfl, ?_⟩) hHeld ?_
        rotate_left
        · intro wq hSw
          go_simp
          all_goals with_reducible rfl
        try simp only [Act.put, List.getElem_toArray, List.getElem_cons_succ, List.getElem_cons_zero, List.setIfInBounds_toArray, List.set_cons_zero, List.set_cons_succ]
        refine wpAnyH_take (i := 2) (v := ?_) rfl (by kernel_rfl) (by kernel_rfl) (by kernel_rfl) (fun _ _ _ h => h) (Or.inl ⟨by kernel_rfl, ?_⟩) hHeld ?_
        rotate_left
        · intro wq hSw
          go_simp
          all_goals with_reducible rfl
        try simp only [Act.put, List.getElem_toArray, List.getElem_cons_succ, List.getElem_cons_zero, List.setIfInBounds_toArray, List.set_cons_zero, List.set_cons_succ]
        refine wpAnyH_take (i := 3) (v := ?_) rfl (by kernel_rfl) (by kernel_rfl) (by kernel_rfl) (fun _ _ _ h => h) (Or.inl ⟨by kernel_rfl, ?_⟩) hHeld ?_
        rotate_left
        · intro wq hSw
          go_simp
          all_goals with_reducible rfl
        try simp only [Act.put, List.getElem_toArray, List.getElem_cons_succ, List.getElem_cons_zero, List.setIfInBounds_toArray, List.set_cons_zero, List.set_cons_succ]
        refine wpAnyH_take (i := 4) (v := ?_) rfl (by kernel_rfl) (by kernel_rfl) (by kernel_rfl) (fun _ _ _ h => h) (Or.inl ⟨by kernel_rfl, ?_⟩) hHeld ?_
        rotate_left
        · intro wq hSw
          have q0 := HC0.out wq hSw
          go_simp
          all_goals with_reducible rfl
        try simp only [Act.put, List.getElem_toArray, List.getElem_cons_succ, List.getElem_cons_zero, List.setIfInBounds_toArray, List.set_cons_zero, List.set_cons_succ]
        refine wpAnyH_take (i := 5) (v := ?_) rfl (by kernel_rfl) (by kernel_rfl) (by kernel_rfl) (fun _ _ _ h => h) (Or.inl ⟨by kernel_rfl, ?_⟩) hHeld ?_
        rotate_left
        · intro wq hSw
          go_simp
          all_goals with_reducible rfl
        try simp only [Act.put, List.getElem_toArray, List.getElem_cons_succ, List.getElem_cons_zero, List.setIfInBounds_toArray, List.set_cons_zero, List.set_cons_succ]
        refine wpAnyH_ready (rs := [6]) (by kernel_rfl) (by simp) ?_
        refine AllReadyH.cons rfl (fun K hK => ?_) AllReadyH.nil
        go_simp
        refine (equal_yes _ _ nh nu _ _ _ _ _ _ (OH21.out.keep (Nat.le_refl _) (Keep.drew (Keep.refl _))) (OU21.out.keep (Nat.le_refl _) (Keep.drew (Keep.refl _)))).mono ?_
        rintro e w22 ⟨rfl, rfl⟩
        refine hK.out _ _ hHeld (fun hHeld => ?_)
        clear hK K
        try simp only [Act.put, List.getElem_toArray, List.getElem_cons_succ, List.getElem_cons_zero, List.setIfInBounds_toArray, List.set_cons_zero, List.set_cons_succ]
        refine wpAnyH_take (i := 7) (v := ?_) rfl (by kernel_rfl) (by kernel_rfl) (by kernel_rfl) (fun _ _ _ h => h) (Or.inl ⟨by kernel_rfl, ?_⟩) hHeld ?_
        rotate_left
        · intro wq hSw
          go_simp
          all_goals with_reducible rfl
        try simp only [Act.put, List.getElem_toArray, List.getElem_cons_succ, List.getElem_cons_zero, List.setIfInBounds_toArray, List.set_cons_zero, List.set_cons_succ]
        refine wpAnyH_take (i := 8) (v := ?_) rfl (by kernel_rfl) (by kernel_rfl) (by kernel_rfl) (fun _ _ _ h => h) (Or.inl ⟨by kernel_rfl, ?_⟩) hHeld ?_
        rotate_left
        · intro wq hSw
          go_simp
          all_goals with_reducible rfl
        try simp only [Act.put, List.getElem_toArray, List.getElem_cons_succ, List.getElem_cons_zero, List.setIfInBounds_toArray, List.set_cons_zero, List.set_cons_succ]
        refine wpAnyH_take (i := 9) (v := ?_) rfl (by kernel_rfl) (by kernel_rfl) (by kernel_rfl) (fun _ _ _ h => h) (Or.inl ⟨by kernel_rfl, ?_⟩) hHeld ?_
        rotate_left
        · intro wq hSw
          go_simp
          all_goals with_reducible rfl
        try simp only [Act.put, List.getElem_toArray, List.getElem_cons_succ, List.getElem_cons_zero, List.setIfInBounds_toArray, List.set_cons_zero, List.set_cons_succ]
        refine wpAnyH_take (i := 10) (v := ?_) rfl (by kernel_rfl) (by kernel_rfl) (by kernel_rfl) (fun _ _ _ h => h) (Or.inl ⟨by kernel_rfl, ?_⟩) hHeld ?_
        rotate_left
        · intro wq hSw
          go_simp
          all_goals with_reducible rfl
        try simp only [Act.put, List.getElem_toArray, List.getElem_cons_succ, List.getElem_cons_zero, List.setIfInBounds_toArray, List.set_cons_zero, List.set_cons_succ]
        refine wpAnyH_take (i := 11) (v := ?_) rfl (by kernel_rfl) (by kernel_rfl) (by kernel_rfl) (fun _ _ _ h => h) (Or.inl ⟨by kernel_rfl, ?_⟩) hHeld ?_
        rotate_left
        · intro wq hSw
          have q0 := HC1.out wq hSw
          go_simp
          all_goals with_reducible rfl
        try simp only [Act.put, List.getElem_toArray, List.getElem_cons_succ, List.getElem_cons_zero, List.setIfInBounds_toArray, List.set_cons_zero, List.set_cons_succ]
        refine wpAnyH_take (i := 12) (v := ?_) rfl (by kernel_rfl) (by kernel_rfl) (by kernel_rfl) (fun _ _ _ h => h) (Or.inl ⟨by kernel_rfl, ?_⟩) hHeld ?_
        rotate_left
        · intro wq hSw
          go_simp
          all_goals with_reducible rfl
        try simp only [Act.put, List.getElem_toArray, List.getElem_cons_succ, List.getElem_cons_zero, List.setIfInBounds_toArray, List.set_cons_zero, List.set_cons_succ]
        refine wpAnyH_take (i := 13) (v := ?_) rfl (by kernel_rfl) (by kernel_rfl) (by kernel_rfl) (fun _ _ _ h => h) (Or.inl ⟨by kernel_rfl, ?_⟩) hHeld ?_
        rotate_left
        · intro wq hSw
          go_simp
          all_goals with_reducible rfl
        try simp only [Act.put, List.getElem_toArray, List.getElem_cons_succ, List.getElem_cons_zero, List.setIfInBounds_toArray, List.set_cons_zero, List.set_cons_succ]
        refine wpAnyH_take (i := 14) (v := ?_) rfl (by kernel_rfl) (by kernel_rfl) (by kernel_rfl) (fun _ _ _ h => h) (Or.inl ⟨by kernel_rfl, ?_⟩) hHeld ?_
        rotate_left
        · intro wq hSw
          go_simp
          all_goals with_reducible rfl
        try simp only [Act.put, List.getElem_toArray, List.getElem_cons_succ, List.getElem_cons_zero, List.setIfInBounds_toArray, List.set_cons_zero, List.set_cons_succ]
        refine wpAnyH_take (i := 15) (v := ?_) rfl (by kernel_rfl) (by kernel_rfl) (by kernel_rfl) (fun _ _ _ h => h) (Or.inl ⟨by kernel_rfl, ?_⟩) hHeld ?_
        rotate_left
        · intro wq hSw
          have q0 := HR6.out wq hSw
          go_simp
          all_goals with_reducible rfl
        try simp only [Act.put, List.getElem_toArray, List.getElem_cons_succ, List.getElem_cons_zero, List.setIfInBounds_toArray, List.set_cons_zero, List.set_cons_succ]
        refine wpAnyH_ready (rs := [16]) (by kernel_rfl) (by simp) ?_
        refine AllReadyH.cons rfl (fun K hK => ?_) AllReadyH.nil
        go_simp
        refine (equal_yes _ _ ni r6.n _ _ _ _ _ _ (OI21.out.keep (Nat.le_refl _) (Keep.drew (Keep.refl _))) (L6.out.keep K18b.out.size (Keep.drew (Keep.refl _)))).mono ?_
        rintro e w22 ⟨rfl, rfl⟩
        refine hK.out _ _ hHeld (fun hHeld => ?_)
        clear hK K
        try simp only [Act.put, List.getElem_toArray, List.getElem_cons_succ, List.getElem_cons_zero, List.setIfInBounds_toArray, List.set_cons_zero, List.set_cons_succ]
        refine wpAnyH_take (i := 17) (v := ?_) rfl (by kernel_rfl) (by kernel_rfl) (by kernel_rfl) (fun _ _ _ h => h) (Or.inl ⟨by kernel_rfl, ?_⟩) hHeld ?_
        rotate_left
        · intro wq hSw
          go_simp
          all_goals with_reducible rfl
        try simp only [Act.put, List.getElem_toArray, List.getElem_cons_succ, List.getElem_cons_zero, List.setIfInBounds_toArray, List.set_cons_zero, List.set_cons_succ]
        refine wpAnyH_take (i := 18) (v := ?_) rfl (by kernel_rfl) (by kernel_rfl) (by kernel_rfl) (fun _ _ _ h => h) (Or.inl ⟨by kernel_rfl, ?_⟩) hHeld ?_
        rotate_left
        · intro wq hSw
          go_simp
          all_goals with_reducible rfl
        try simp only [Act.put, List.getElem_toArray, List.getElem_cons_succ, List.getElem_cons_zero, List.setIfInBounds_toArray, List.set_cons_zero, List.set_cons_succ]
        refine wpAnyH_done (by kernel_rfl) ?_ _
        refine NoPanic.normal ?_
        clear hHeld
        go_wp2_with fail
        go_roundw
        case rel => exact ⟨i + 1, by omega, by go_num, K18b.out.trans (Keep.drew (Keep.refl _))⟩
        case measure => simp [intOf]; omega
      · obtain rfl : g = i := by omega
        obtain ⟨sn, hsn⟩ : ∃ q, g + N = q := ⟨_, rfl⟩
        have hsb : sn < 18446744073709551616 := by omega
        have m0 : IntKind.u64.wrap (g : Int) = (g : Int) := IntWalk.u64_in _ (by omega)
        have m1 : IntKind.u64.wrap (N : Int) = (N : Int) := IntWalk.u64_in _ (by omega)
        have m2 : IntKind.u64.wrap ((g : Int) + (N : Int)) = (sn : Int) := by rw [IntWalk.u64_in _ (by omega)]; omega
        have x7 : wr.cell? ⟨gX, 7, none⟩ = some (.int .u16 (N : Int)) := cell_of_row _ _ _ _ _ _ (HBX.out _ (K9.out.trans KR.out))
        have f2 : ¬ (g : Int) < (g : Int) := by omega
        obtain ⟨D4, hD4⟩ : ∃ D, sendN g sn ys = D := ⟨_, rfl⟩
        have hlive := sendN_live g sn ys (by omega)
        have hDl := sendN_len g sn ys
        have hsd := HSEND.out wr sn _ n2 c2 A2 ys KR.out hsb (HB2.out.keep (Nat.le_refl _) K0R.out) K0R.out.size
        rw [hD4] at hsd hlive hDl
        have HSD := Lib.hid hsd
        have HLV := Lib.hid hlive
        have HDL := Lib.hid hDl
        clear hsd hsn hD4 hlive hDl
        go_wp2_with fail
        refine HSD.out.mono ?_
        rintro e w19 ⟨Ah, nh, ch, Ai, ni, ci, rfl, oh, oi, k19⟩
        obtain rfl : g = nh := HDL.out.symm.trans oh.length
        have OH := Lib.hid oh
        have OI := Lib.hid oi
        have K19 := Lib.hid k19
        clear oh oi k19 HSD x3 m0 m1 m2 x7
        go_wp2_with fail
        obtain ⟨w20, hw20, z20, k20, hb20⟩ := one_block w19 #[.slice Ah g ch, .slice Ai ni ci] 56
        try rw [hw20]
        have K20 : Hid (Keep wr w20) := K19.out.trans k20
        have HX20 := Lib.hid hb20
        have OH20 := Lib.hid (OH.out.keep k20)
        have OI20 := Lib.hid (OI.out.keep k20)
        obtain ⟨gB, hgB⟩ : ∃ gB, w19.heap.size = gB := ⟨_, rfl⟩
        rw [hgB] at HX20 ⊢
        clear hw20 z20 k20 hb20 hgB OH OI K19
        refine (HROW.out w20 _ _ _ _ (KR.out.trans K20.out) OH20.out.bytes (Nat.le_refl _)).mono ?_
        rintro e w21 ⟨Aj, nj, cj, Ak, nk, ck, rfl, oj, ok, k21⟩
        have hbB := block_keep HX20.out k21
        have y0 : w21.cell? ⟨gB, 0, none⟩ = some (.slice Ah g ch) := cell_of_row _ _ _ _ _ _ hbB
        have hgB : gB < w21.heap.size := (Array.getElem?_eq_some_iff.1 hbB).1
        have K21 : Hid (Keep wr w21) := K20.out.trans k21
        have HBB := Lib.hid hbB
        have OH21 := Lib.hid (OH20.out.keep k21)
        have OI21 := Lib.hid (OI20.out.keep k21)
        have OK21 := Lib.hid ok
        clear oj ok k21 hbB HX20 OH20 OI20 K20
        go_wp2_with fail
        obtain ⟨w22, hw22, z22, k22, hb22⟩ := one_block w21 #[.slice Aj nj cj, .slice Ak nk ck] 56
        try rw [hw22]
        have K22 : Hid (Keep wr w22) := K21.out.trans k22
        have HX22 := Lib.hid (And.intro (block_keep HBB.out k22) hb22)
        have OH22 := Lib.hid (OH21.out.keep k22)
        have OI22 := Lib.hid (OI21.out.keep k22)
        have OK22 := Lib.hid (OK21.out.keep k22)
        obtain ⟨gC, hgC⟩ : ∃ gC, w21.heap.size = gC := ⟨_, rfl⟩
        rw [hgC] at HX22 ⊢
        clear hw22 z22 k22 hb22 hgC HBB OH21 OI21 OK21 K21 y0 hgB
        refine (vzero_any _ g ch Ah D4 w22 OH22.out.bytes (Nat.le_refl _) (by omega)).mono ?_
        rw [decide_eq_false (show ¬ vLead g D4 < 0 from by have := HLV.out; omega)]
        rintro e w23 ⟨rfl, k23⟩
        have y1 : w23.cell? ⟨gB, 1, none⟩ = some (.slice Ai ni ci) := cell_of_row _ _ _ _ _ _ (block_keep HX22.out.1 k23)
        have y2 : w23.cell? ⟨gC, 1, none⟩ = some (.slice Ak nk ck) := cell_of_row _ _ _ _ _ _ (block_keep HX22.out.2 k23)
        have K23 : Hid (Keep W w23) := K0R.out.trans (K22.out.trans k23)
        have OI23 := Lib.hid (OI22.out.keep k23).bytes
        have OK23 := Lib.hid (OK22.out.keep k23).bytes
        clear k23 HX22 OH22 OI22 OK22 K22
        go_wp2_with fail
        refine (equal_yes _ _ nk ni _ _ _ _ _ _ OK23.out OI23.out).mono ?_
        rintro e w24 ⟨rfl, rfl⟩
        go_wp2_with fail
        go_ret
        exact ⟨rfl, K23.out⟩
end Go.Proofs.Ytcafofffgmaepaa
