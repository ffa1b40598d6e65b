/- The walk of TopLine. -/
import Derived.Test.YtifopodnceopjaaGreatDoorQab
import Derived.Test.YtifopodnceopjaaGreatDoorQah
import Derived.Test.YtifopodnceopjaaGreatDoorQar
import Derived.Test.YtifopodnceopjaaGreatDoorGm2
import Derived.Test.YtifopodnceopjaaGreatDoorQad
import Derived.Test.YtifopodnceopjaaGreatDoorQae
import Derived.Deep.DeepCutAuto
import Derived.Deep.CutBlock
import Derived.StillTailTactics
namespace Go.Proofs.YtifopodnceopjaaGreatDoor
open Go.RowKit Lin Fr
set_option linter.unusedVariables false
set_option linter.unusedSimpArgs false
def isReg (n : Nat) : Code → Bool
  | .region k _ _ => k == n
  | .seq a _ => isReg n a
  | _ => false
def tailOf (n : Nat) : Code → Code
  | .seq a b => if isReg n a then .seq a b else tailOf n b
  | c => c
def headOf : Code → Code
  | .seq a _ => a
  | c => c
def restOf : Code → Code
  | .seq _ b => b
  | c => c
theorem LiesIn.strT {w : World} {F : Nat → Prop} {r : RowV} (h : LiesIn w F r) (hF : ∀ b, F b → b < w.heap.size) (k : Nat) : (convert 22 9 (.slice r.A r.n r.c)).run Tryz.prog (w.drewN k) = .ok (.string (strN r.xs)) (w.drewN k) :=
  run_str (w := w.drewN k) (h.bytes hF) Tryz.underlying22 Tryz.underlying5 Tryz.underlying9 r.c
noncomputable def l5Code : Code := headOf (headOf (tailOf 47 (Tryz.f3.body.getD .skip)))
noncomputable def l5Loop : Code := restOf (headOf (tailOf 47 (Tryz.f3.body.getD .skip)))
noncomputable def l5Rest : Code := restOf (tailOf 47 (Tryz.f3.body.getD .skip))
set_option maxRecDepth 100000 in
set_option maxHeartbeats 400000000 in
theorem top_last (w w1 wl : World) (gr g s cs : Nat) (As : Option Addr) (M : List (List Nat)) (R : Nat → RelS) (p0 : 1 ≤ g) (r0 : g ≤ 5) (p1 : 1 ≤ s) (r1 : s ≤ 5) (sM : Hid (Sz g s M)) (MM : Hid (Mat w1 { A := As, n := g, c := cs, M := M })) (K1 : Hid (Keep w w1)) (HI : Hid (HopI3 w1 wl gr g s M R)) (HL : Hid (((R 0).L 2).length = g))
    (t0 t1 t2 t3 t4 t5 t6 t11 t12 t13 t14 t15 t16 t17 t18 t19 t20 t21 t22 t23 t24 t25 t26 t27 t28 t29 t30 t31 t32 t33 t34 t35 t36 t37 t38 t39 t40 t41 t42 t43 t44 t45 t46 t47 t48 t49 t50 t51 t52 t53 t54 t55 t56 t57 t58 t59 t60 t61 t62 t63 t64 t65 t66 t67 t68 t69 t70 t71 t72 t73 t74 t75 t76 t77 t78 t79 t80 t81 t82 t83 t84 t85 t86 t87 t88 t89 t90 t91 t92 t93 t94 t95 t96 t97 t98 t99 t100 t101 t102 t103 t104 t105 t106 t107 t108 t109 t110 t111 t112 t113 t114 t115 t116 t117 t118 t119 t120 t121 t122 t123 t124 t125 t126 t127 t128 t129 t130 t131 t132 t133 t134 t135 t136 t137 t138 t139 t140 t141 t142 t143 t144 t145 t146 t147 t148 t149 t150 t151 t152 t153 t154 t155 t156 t157 t158 t159 t160 t161 t162 t163 t164 t165 t166 t167 t168 t169 t170 t171 t172 t173 t174 t175 t176 t177 t178 t179 t180 t181 t182 t183 t184 t185 t186 t187 t188 t189 t190 t191 t192 t193 t194 t195 t196 t197 t198 t199 t200 t201 t202 t203 t204 t205 t206 t207 t208 t209 t210 t211 t212 t213 t214 t215 t216 t217 t218 t219 t220 t221 t222 t223 t224 t225 t226 t227 t228 t229 t230 t231 t232 t233 t234 t235 t236 t237 t238 t239 t240 t241 t242 t243 t244 t245 t246 t247 t248 t249 t250 t251 t252 t253 t254 t255 t256 t257 t258 t259 t260 t261 t262 t263 t264 t265 t266 t267 t268 t269 t270 t271 t272 t273 t274 t275 t276 t277 t278 t279 t280 t281 t282 t283 t284 t285 t286 t287 t288 t289 t290 t291 t292 t293 t294 t295 t296 t297 t298 t299 t300 t301 t302 t303 t304 t305 t306 t307 t308 t309 t310 t311 t312 t313 t314 t315 t316 t317 t318 t319 t320 t321 t322 t323 t324 t325 t326 t327 t328 t329 t330 t331 t332 t333 t334 t335 t336 t337 t338 t339 t340 t341 : Value) (J K : Act → World → Prop) (hK : ∀ a w', Code.wp Tryz.prog l5Rest (bodyPost Tryz.prog Tryz.f3 fun e w' => e = .returned (.bool true) ∧ Keep w w') a w' → K a w') (hJ : ∀ a w', Code.wp Tryz.prog l5Loop (Exit.then K (bodyPost Tryz.prog Tryz.f3 fun e w' => e = .returned (.bool true) ∧ Keep w w')) a w' → J a w') :
    Code.wp Tryz.prog l5Code (Exit.then J (Exit.then K (bodyPost Tryz.prog Tryz.f3 fun e w' => e = .returned (.bool true) ∧ Keep w w'))) { tmps := #[t0, t1, t2, t3, t4, t5, t6, .int .i64 (g : Int), .int .i64 (s : Int), .slice As g cs, .pointer (some ⟨gr, 0, none⟩), t11, t12, t13, t14, t15, t16, t17, t18, t19, t20, t21, t22, t23, t24, t25, t26, t27, t28, t29, t30, t31, t32, t33, t34, t35, t36, t37, t38, t39, t40, t41, t42, t43, t44, t45, t46, t47, t48, t49, t50, t51, t52, t53, t54, t55, t56, t57, t58, t59, t60, t61, t62, t63, t64, t65, t66, t67, t68, t69, t70, t71, t72, t73, t74, t75, t76, t77, t78, t79, t80, t81, t82, t83, t84, t85, t86, t87, t88, t89, t90, t91, t92, t93, t94, t95, t96, t97, t98, t99, t100, t101, t102, t103, t104, t105, t106, t107, t108, t109, t110, t111, t112, t113, t114, t115, t116, t117, t118, t119, t120, t121, t122, t123, t124, t125, t126, t127, t128, t129, t130, t131, t132, t133, t134, t135, t136, t137, t138, t139, t140, t141, t142, t143, t144, t145, t146, t147, t148, t149, t150, t151, t152, t153, t154, t155, t156, t157, t158, t159, t160, t161, t162, t163, t164, t165, t166, t167, t168, t169, t170, t171, t172, t173, t174, t175, t176, t177, t178, t179, t180, t181, t182, t183, t184, t185, t186, t187, t188, t189, t190, t191, t192, t193, t194, t195, t196, t197, t198, t199, t200, t201, t202, t203, t204, t205, t206, t207, t208, t209, t210, t211, t212, t213, t214, t215, t216, t217, t218, t219, t220, t221, t222, t223, t224, t225, t226, t227, t228, t229, t230, t231, t232, t233, t234, t235, t236, t237, t238, t239, t240, t241, t242, t243, t244, t245, t246, t247, t248, t249, t250, t251, t252, t253, t254, t255, t256, t257, t258, t259, t260, t261, t262, t263, t264, t265, t266, t267, t268, t269, t270, t271, t272, t273, t274, t275, t276, t277, t278, t279, t280, t281, t282, t283, t284, t285, t286, t287, t288, t289, t290, t291, t292, t293, t294, t295, t296, t297, t298, t299, t300, t301, t302, t303, t304, t305, t306, t307, t308, t309, t310, t311, t312, t313, t314, t315, t316, t317, t318, t319, t320, t321, t322, t323, t324, t325, t326, t327, t328, t329, t330, t331, t332, t333, t334, t335, t336, t337, t338, t339, t340, t341], defers := [] } wl := by
  conv => arg 2; whnf
  have HIL := Lib.hid HI.out
  clear HI
  go_wp2_with fail
  conv => arg 2; whnf
  go_wp2_with fail
  go_loopw [33] (fun iv wz => ∃ i : Nat, i ≤ 3 ∧ iv = .int .i64 (i : Int) ∧ Keep wl wz) (fun iv _ => 3 - (intOf iv).toNat)
  case atStart => exact ⟨0, by omega, rfl, Keep.refl _⟩
  case round =>
    obtain ⟨i, hi, rfl, hkl⟩ := hrel
    have KL := Lib.hid hkl
    have HI := Lib.hid (HIL.out.later hkl)
    clear hkl
    have e0 : (0 : Int) ≤ (i : Int) := Int.natCast_nonneg _
    by_cases hlt : i < 3
    · have e1 : (i : Int) < 3 := by omega
      obtain ⟨pi, hpi0⟩ : ∃ p, (R i).p = p := ⟨_, rfl⟩
      obtain ⟨B, hB⟩ : ∃ B, (R i).L 2 = B := ⟨_, rfl⟩
      obtain ⟨z, hz⟩ : ∃ z, B.length = z := ⟨_, rfl⟩
      have hpi := HI.out.at_ (i := i) (by omega)
      have hrw := rl_rows (HI.out.rel (i := i) (by omega)) 2 (by decide)
      have hbas := And.intro (HI.out.h.bas i (by omega)) (HI.out.h.w i (by omega))
      rw [hpi0] at hpi hrw
      rw [hB] at hbas hrw
      have hz5 : z ≤ 5 := by rw [← hz]; have := hbas.1.length_le; omega
      have HPI := Lib.hid hpi0
      have HB := Lib.hid hB
      have HZ := Lib.hid hz
      have HBA := Lib.hid hbas
      have HRW := Lib.hid hrw
      clear hpi0 hB hz hrw hbas
      go_wp2_with fail
      refine HRW.out.mono ?_
      rintro e w5 ⟨A5, n5, c5, psR, rfl, o5⟩
      have hn5 : n5 = z := by rw [← o5.1.length, ← HZ.out, ← o5.2.2.1, List.length_map]
      obtain rfl : z = n5 := hn5.symm
      have HSR := Lib.hid o5.stIn
      have HK5 := Lib.hid o5.2.2.2
      have HPR : Hid (∀ p ∈ psR, p.a.n = g ∧ p.b.n = s ∧ p.b.xs = payV g s M p.a.xs) := fun p hp => by
        have h1 := o5.2.1 p hp
        have h2 : p.xs ∈ B := by rw [← o5.2.2.1]; exact List.mem_map.2 ⟨p, hp, rfl⟩
        have h3 := bas_rows sM.out HBA.out.1 HBA.out.2 _ h2
        have h4 : p.a.xs.length = g := h1.1.length.trans h1.2.2.1
        have h5 : p.xs = p.a.xs ++ p.b.xs := rfl
        rw [h5, List.take_left' h4, rowV] at h3
        exact ⟨h1.2.2.1, h1.2.2.2, List.append_cancel_left h3⟩
      clear o5 hn5 hpi HRW
      go_wp2_with fail
      go_loopw [35] (fun kv wz => ∃ k : Nat, k ≤ z ∧ kv = .int .i64 (k : Int) ∧ Keep w5 wz) (fun kv _ => z - (intOf kv).toNat)
      case atStart => exact ⟨0, by omega, rfl, Keep.refl _⟩
      case round =>
        obtain ⟨k, hk, rfl, hkk⟩ := hrel
        have HKK := Lib.hid hkk
        clear hkk
        have f0 : (0 : Int) ≤ (k : Int) := Int.natCast_nonneg _
        by_cases hlt : k < z
        · skip
          have hp := List.getElem?_eq_getElem (l := psR) (i := k) (by rw [HSR.out.1]; exact hlt)
          obtain ⟨pv, hpe⟩ : ∃ pv, psR[k]'(by rw [HSR.out.1]; exact hlt) = pv := ⟨_, rfl⟩
          rw [hpe] at hp
          have HPM := Lib.hid (List.mem_of_getElem? hp)
          obtain ⟨b, off, pv', rfl, hb, hp', hc1, hc2, hl1, hl2⟩ := (HSR.out.turned (Turned.of_keep (F := fun _ => False) HKK.out) fun _ _ e => e).at_ hlt
          obtain rfl : pv = pv' := by rw [hp] at hp'; exact Option.some.inj hp'
          obtain ⟨⟨pA, pn, pc, px⟩, ⟨sA, sm, sc, sx⟩⟩ := pv
          obtain ⟨z1, z2, hrow⟩ := HPR.out _ HPM.out
          simp only at z1 z2 hrow hc1 hc2 hl1 hl2
          obtain rfl : g = pn := z1.symm
          obtain rfl : s = sm := z2.symm
          have hcm := comb_mat (c' := pc) (MM.out.keep (HI.out.n.keep.trans (HK5.out.trans HKK.out))) sM.out p0 (by omega) (by omega) (hl1.bytes (B := wr.heap.size) fun x e => Nat.lt_of_lt_of_le e.2 HKK.out.size) (Nat.le_refl _) rfl
          have HCM := Lib.hid hcm
          have HROW := Lib.hid hrow
          have HL2 := Lib.hid hl2
          have HBL : Hid (b < wr.heap.size) := Nat.lt_of_lt_of_le hb.2 HKK.out.size
          have e1 : (k : Int) < (z : Int) := by omega
          have HC2 := Lib.hid hc2
          clear hp hpe hp' hb hc2 hl1 hl2 hrow hcm
          go_upto_region 54 with fail
          go_wp2_with fail
          refine HCM.out.mono ?_
          rintro e w7 ⟨A7, n7, c7, rfl, o7, k7⟩
          have t1 : ∀ k, (convert 22 9 (.slice A7 n7 c7)).run Tryz.prog (w7.drewN k) = .ok (.string (strN sx)) (w7.drewN k) := fun k => by
            have h := o7.lies.strT (fun x e => (o7.1.lt x e).2) k
            rw [show vComb s M px g = sx from HROW.out.symm] at h
            exact h
          have t2 : ∀ k, (convert 22 9 (.slice sA s sc)).run Tryz.prog (w7.drewN k) = .ok (.string (strN sx)) (w7.drewN k) := fun k => (HL2.out.turned (Turned.of_keep (F := fun _ => False) k7) fun _ _ e => e).strT (fun x e => Nat.lt_of_lt_of_le e.2 (Nat.le_trans HKK.out.size k7.size)) k
          have d2 : ∀ q, (w7.drewN q).cell? ⟨b, off + k * 2 + 1, none⟩ = some (.slice sA s sc) := fun _ => (World.cell?_of_block (k7.block b HBL.out)).trans HC2.out
          have q0 : ((strN sx).toList == (strN sx).toList) = true := strN_eq rfl
          have HK7 := Lib.hid (HKK.out.trans k7)
          clear hc1 o7 k7 HCM
          go_wp2_with fail
          go_quiet (fail)
          go_wp2_with fail
          go_roundw
          case rel => exact ⟨k + 1, by omega, by go_num, Keep.drewN HK7.out _⟩
          case measure => simp [intOf]; omega
        · have e1 : ¬ (k : Int) < (z : Int) := by omega
          have HKR := Lib.hid (HK5.out.trans HKK.out)
          clear HKK hlt hk
          go_upto_region 57 with fail
          have HIS := Lib.hid (HI.out.later HKR.out)
          have hpi := HIS.out.at_ (i := i) (by omega)
          have hrel := HIS.out.rel (i := i) (by omega)
          rw [HPI.out] at hpi hrel
          have HREL := Lib.hid hrel
          clear hrel
          by_cases hzg : z = g
          · have hz1 : ((z : Int) == (g : Int)) = true := by rw [beq_iff_eq]; omega
            have hz2 : decide ((z : Int) = (g : Int)) = true := decide_eq_true (by omega)
            have hsv := rl_solve_in HREL.out 2 (by decide) (by decide) (by rw [HB.out, HZ.out]; exact hzg)
            rw [HB.out] at hsv
            have HSV := Lib.hid hsv
            have HSO := Lib.hid (solved sM.out HBA.out.1 HBA.out.2 (HZ.out.trans hzg))
            clear hsv hzg
            go_wp2_with fail
            refine HSV.out.mono ?_
            rintro e w9 ⟨A8, c8, rs, rfl, h9⟩
            have hxs : rowsXs rs = M := h9.2.2.1.trans HSO.out
            have HO9 := Lib.hid (Mat.of_owned (show OwnedRows _ _ A8 g c8 M rs from ⟨h9.1, h9.2.1, hxs, h9.2.2.2.1⟩))
            have HK9 := Lib.hid (HKR.out.trans h9.2.2.2.1)
            have HM9 := Lib.hid (MM.out.keep (HI.out.n.keep.trans HK9.out))
            clear h9 hxs HSV hpi
            go_wp2_with fail
            go_loopw [40] (fun jv wz => ∃ j : Nat, j ≤ g ∧ jv = .int .i64 (j : Int) ∧ Keep w9 wz) (fun jv _ => g - (intOf jv).toNat)
            case atStart => exact ⟨0, by omega, rfl, Keep.refl _⟩
            case round =>
              obtain ⟨j, hj, rfl, hkk⟩ := hrel
              have HKK := Lib.hid hkk
              clear hkk
              by_cases hlt : j < g
              · have e0 : (0 : Int) ≤ (j : Int) := Int.natCast_nonneg _
                have e1 : (j : Int) < (g : Int) := by omega
                obtain ⟨b, off, Ay, cy, rfl, hb, hc, -, -, hby⟩ := (HO9.out.keep HKK.out).row_at sM.out hlt
                obtain ⟨b', off', Az, cz, rfl, hb', hc', -, -, hbz⟩ := (HM9.out.keep HKK.out).row_at sM.out hlt
                have t1 : ∀ k, (convert 22 9 (.slice Ay s cy)).run Tryz.prog (wr.drewN k) = .ok (.string (strN (M.getD j []))) (wr.drewN k) := fun k => hby.strT (fun _ e => e) k
                have t2 : ∀ k, (convert 22 9 (.slice Az s cz)).run Tryz.prog (wr.drewN k) = .ok (.string (strN (M.getD j []))) (wr.drewN k) := fun k => hbz.strT (fun _ e => e) k
                have d1 : ∀ q, (wr.drewN q).cell? ⟨b, off + j, none⟩ = some (.slice Ay s cy) := fun _ => hc
                have d2 : ∀ q, (wr.drewN q).cell? ⟨b', off' + j, none⟩ = some (.slice Az s cz) := fun _ => hc'
                have q0 := strN_eq (rfl : M.getD j [] = M.getD j [])
                clear hc hc' hby hbz
                go_wp2_with fail
                go_quiet (fail)
                go_wp2_with fail
                go_roundw
                case rel => exact ⟨j + 1, by omega, by go_num, Keep.drewN HKK.out _⟩
                case measure => simp [intOf]; omega
              · obtain rfl : j = g := by omega
                go_wp2_with fail
                go_roundw
                case rel => exact ⟨i + 1, by omega, by go_num, KL.out.trans (HK9.out.trans HKK.out)⟩
                case measure => simp [intOf]; omega
          · have hz1 : ((z : Int) == (g : Int)) = false := by rw [beq_eq_false_iff_ne]; omega
            have hz2 : decide ((z : Int) = (g : Int)) = false := decide_eq_false (by omega)
            have HSV := Lib.hid (rl_solve_low HREL.out 2 (by decide) (by decide) (by rw [HB.out, HZ.out]; exact hzg))
            go_wp2_with fail
            refine HSV.out.mono ?_
            rintro e w9 ⟨rfl, k9⟩
            have HK9 := Lib.hid (HKR.out.trans k9)
            clear k9 HSV hpi
            go_wp2_with fail
            go_loopw [40] (fun jv wz => jv = .int .i64 ((0 : Nat) : Int) ∧ wz = w9) (fun jv _ => 0)
            case atStart => exact ⟨rfl, rfl⟩
            case round =>
              obtain ⟨rfl, hw9⟩ := hrel
              obtain rfl : wr = w9 := hw9
              go_wp2_with fail
              go_roundw
              case rel => exact ⟨i + 1, by omega, by go_num, KL.out.trans HK9.out⟩
              case measure => simp [intOf]; omega
    · have hi3 : ¬ (i : Int) < 3 := by omega
      have hpi := HI.out.at_ (i := 0) (by omega)
      have hrk := rl_rank (HI.out.rel (i := 0) (by omega)) 2 (by decide)
      rw [HL.out] at hrk
      obtain ⟨px, hpx⟩ : ∃ p, (R 0).p = p := ⟨_, rfl⟩
      rw [hpx] at hpi hrk
      have HRK := Lib.hid hrk
      have hgg : ((g : Int) == (g : Int)) = true := by simp
      clear hrk hpx hlt hi
      go_wp2_with fail
      conv => arg 2; whnf
      go_wp2_with fail
      refine HRK.out.mono ?_
      rintro e w10 ⟨rfl, hw10⟩
      rw [hw10]
      clear hw10 hpi
      go_wp2_with fail
      go_ret
      exact ⟨rfl, (K1.out.trans HIL.out.n.keep).trans KL.out⟩
end Go.Proofs.YtifopodnceopjaaGreatDoor
