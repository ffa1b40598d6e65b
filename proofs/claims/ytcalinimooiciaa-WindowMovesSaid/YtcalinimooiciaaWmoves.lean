/- The walk of WindowMoves. -/
import Derived.Test.YtcalinimooiciaaWaw
namespace Go.Proofs.Ytcalinimooiciaa
open Go.RowKit
set_option linter.unusedVariables false
set_option linter.unusedSimpArgs false
/-- Sixteen marks in block T. -/
def Marks (w : World) (T : Nat) (l : List Bool) : Prop := w.heap[T]? = some (.cells (l.map Value.bool).toArray 50 (0, 0))
namespace Marks
variable {w w' : World} {T : Nat} {l : List Bool}
theorem lt (h : Marks w T l) : T < w.heap.size := (Array.getElem?_eq_some_iff.1 h).1
theorem cell (h : Marks w T l) {s : Nat} {x : Bool} (hx : l[s]? = some x) : w.cell? ⟨T, s, none⟩ = some (.bool x) := by
  rw [World.cell?, show w.heap[T]? = _ from h]
  simp [List.getElem?_map, hx]
theorem free (h : Marks w T l) (s : Nat) : w.frozen? ⟨T, s, none⟩ = false := by simp [World.frozen?, show w.heap[T]? = _ from h]
theorem set (h : Marks w T l) (s : Nat) (x : Bool) : Marks (w.setCell ⟨T, s, none⟩ (.bool x)) T (l.set s x) := by
  unfold Marks at h ⊢
  simp [World.setCell, Array.getElem?_modify, h, List.map_set]
theorem keep (h : Marks w T l) (k : Keep w w') : Marks w' T l := (k.block T h.lt).trans h
end Marks
set_option maxRecDepth 100000 in
set_option maxHeartbeats 8000000 in
theorem moves_any (x0 x1 x2 x3 : Nat) (hx0 : x0 < 256) (hx1 : x1 < 18446744073709551616) (hx2 : x2 < 18446744073709551616) (hx3 : x3 < 18446744073709551616) (W : World) :
    Calls Try.prog 4 #[.int .u8 (x0 : Int), .int .u64 (x1 : Int), .int .u64 (x2 : Int), .int .u64 (x3 : Int)] W fun e w' => e = .returned (.bool true) ∧ Keep W w' := by
  obtain ⟨j0, hj0⟩ : ∃ j, x0 % 16 = j := ⟨_, rfl⟩
  obtain ⟨a, ha⟩ : ∃ j, x1 % 1099511627777 = j := ⟨_, rfl⟩
  obtain ⟨b, hb⟩ : ∃ j, x2 % 1099511627777 = j := ⟨_, rfl⟩
  obtain ⟨c, hc⟩ : ∃ j, x3 % 1099511627777 = j := ⟨_, rfl⟩
  have e1 : (x0 : Int).tmod 16 = (j0 : Int) := by rw [Int.tmod_eq_emod_of_nonneg (by omega)]; omega
  have e2 : IntKind.u8.wrap (j0 : Int) = (j0 : Int) := IntWalk.u8_in _ (by omega)
  have e3 : IntKind.i64.wrap (j0 : Int) = (j0 : Int) := IntWalk.i64_in _ (by omega)
  have e4 : IntKind.i64.wrap (1 + (j0 : Int)) = ((1 + j0 : Nat) : Int) := by rw [IntWalk.i64_in _ (by omega)]; omega
  have f1 : (x1 : Int).tmod 1099511627777 = (a : Int) := by rw [Int.tmod_eq_emod_of_nonneg (by omega)]; omega
  have f2 : (x2 : Int).tmod 1099511627777 = (b : Int) := by rw [Int.tmod_eq_emod_of_nonneg (by omega)]; omega
  have f3 : (x3 : Int).tmod 1099511627777 = (c : Int) := by rw [Int.tmod_eq_emod_of_nonneg (by omega)]; omega
  have g1 : IntKind.u64.wrap (a : Int) = (a : Int) := IntWalk.u64_in _ (by omega)
  have g2 : IntKind.u64.wrap (b : Int) = (b : Int) := IntWalk.u64_in _ (by omega)
  have g3 : IntKind.u64.wrap (c : Int) = (c : Int) := IntWalk.u64_in _ (by omega)
  have ka : a ≤ topN := by unfold topN; omega
  have kb : b ≤ topN := by unfold topN; omega
  have kc : c ≤ topN := by unfold topN; omega
  obtain ⟨k, hk⟩ : ∃ k, 1 + j0 = k := ⟨_, rfl⟩
  rw [hk] at e4
  have k1 : 1 ≤ k := by omega
  have k2 : k ≤ 16 := by omega
  clear hx0 hx1 hx2 hx3 hj0 ha hb hc hk
  go_enter Try.func4, Try.ntmps4
  go_wp2_with fail
  refine (new_in k k1 k2 _).mono ?_
  rintro e w1 ⟨rfl, h1, q1⟩
  go_wp2_with fail
  refine (move_in a ka h1).mono ?_
  rintro e w2 ⟨A2, n2, q2, rfl, o2, h2, t2⟩
  have K2 : Hid (Keep W w2) := t2.keep q1 fun i e => by have e : i = W.heap.size := e; omega
  clear t2 o2 h1 q1
  go_wp2_with fail
  refine (all_any _ _ _ _ h2).mono ?_
  rintro e w3 ⟨A, n, q, rfl, o3, q3⟩
  have HN := Lib.hid (show n = endN a k - a by rw [← o3.length, winL_length])
  have hg := h2.lt
  have h3 := h2.keep q3
  have U3 := Lib.hid (o3.ins)
  have K3 := Lib.hid (K2.out.trans q3)
  have hs3 := q3.size
  clear o3 q3 h2 K2
  clear e1 e2 e3 e4 f1 f2 f3 g1 g2 g3
  go_wp2_with fail
  have hM : Marks (w3.alloc (.cells #[.bool false, .bool false, .bool false, .bool false, .bool false, .bool false, .bool false, .bool false, .bool false, .bool false, .bool false, .bool false, .bool false, .bool false, .bool false, .bool false] 50)) w3.heap.size (takenL a k 0) := by
    rw [takenL_zero]; exact heap_alloc_new _ _
  obtain ⟨V, hV⟩ : ∃ V, w3.alloc (.cells #[.bool false, .bool false, .bool false, .bool false, .bool false, .bool false, .bool false, .bool false, .bool false, .bool false, .bool false, .bool false, .bool false, .bool false, .bool false, .bool false] 50) = V := ⟨_, rfl⟩
  have k3 : Keep w3 V := by rw [← hV]; exact (Keep.refl w3).alloc _ _
  rw [hV] at hM ⊢
  have hT : w3.heap.size < V.heap.size := hM.lt
  have HM := Lib.hid hM
  have HK3 := Lib.hid k3
  clear hV hM k3
  go_loopw [15] (fun i wr => ∃ j : Nat, j ≤ n ∧ i = .int .i64 j ∧ Marks wr w3.heap.size (takenL a k j) ∧ Keep w3 wr) (fun i _ => n - (intOf i).toNat)
  case atStart => exact ⟨0, Nat.zero_le _, rfl, HM.out, HK3.out⟩
  case round =>
    obtain ⟨j, hj, rfl, hm, hkr⟩ := hrel
    have hM := Lib.hid hm
    have hw := h3.keep hkr
    have hsr := hkr.size
    have HKR := Lib.hid hkr
    have hmt := hm.lt
    clear hm hkr
    by_cases hlt : j < n
    · have hN := HN.out
      obtain ⟨p, off, x, rfl, _, hpl, hx, hc3⟩ := (U3.out.keep HKR.out).at_ hlt
      have hxe : x = a + j := by
        rw [winL_get _ _ _ (by omega)] at hx
        injection hx with hx
        exact hx.symm
      subst hxe
      have hin : winIn a k (a + j) = true := winIn_at _ _ _ (by omega)
      have hend : endN a k ≤ topN := Nat.min_le_right _ _
      have hnx : a + j < 18446744073709551616 := by unfold topN at hend; omega
      have hS := slot_any (a + j) hnx hw
      have hI := in_any (a + j) hnx hw
      have hmod : (a + j) % k < k := Nat.mod_lt _ (by omega)
      rw [show slotV a k (a + j) = (a + j) % k by rw [slotV, if_pos hin], show slotE a k (a + j) = 0 by rw [slotE, if_pos hin]] at hS
      rw [hin] at hI
      have hjk : j < k := by have := winL_le a k; rw [winL_length] at this; omega
      have hfree := hM.out.cell (takenL_free a k j hjk k2)
      have hfr := hM.out.free ((a + j) % k)
      have hset := takenL_succ a k j
      obtain ⟨s, hs⟩ : ∃ s, (a + j) % k = s := ⟨_, rfl⟩
      rw [hs] at hS hfree hfr hmod hset
      clear hs hin hend hx hN
      have e1 : (0 : Int) ≤ (j : Int) := Int.natCast_nonneg _
      have e2 : (j : Int) < (n : Int) := by omega
      have e3 : decide ((s : Int) < 0) = false := decide_eq_false (by omega)
      have e4 : ¬ (k : Int) ≤ (s : Int) := by omega
      have e5 : (0 : Int) ≤ (s : Int) := Int.natCast_nonneg _
      have e6 : (s : Int) < 16 := by omega
      go_wp2_with fail
      refine hS.mono ?_
      rintro e w5 ⟨rfl, rfl⟩
      go_wp2_with fail
      refine (width_any hw).mono ?_
      rintro e w5 ⟨rfl, rfl⟩
      go_wp2_with fail
      refine hI.mono ?_
      rintro e w5 ⟨rfl, rfl⟩
      go_wp2_with fail
      go_roundw
      case rel => exact ⟨j + 1, by omega, by go_num, by rw [← hset]; exact hM.out.set s true, HKR.out.setCell (Nat.le_refl _) _⟩
      case measure => simp [intOf]; omega
    · have d1 : ¬ (j : Int) < (n : Int) := by omega
      obtain rfl : n = j := by omega
      have hn16 : n ≤ 16 := by have := HN.out; unfold endN at this; omega
      clear hM HM HK3 hmt hT V
      have KW := Lib.hid (K3.out.trans HKR.out)
      have UW := Lib.hid ((U3.out.keep HKR.out).mono (G := fun b => w2.heap.size ≤ b ∧ b < wr.heap.size) fun b h1 h2 => ⟨h1, h2⟩)
      clear h3 U3 HKR K3
      go_wp2_with fail
      refine (copy_any hw).mono ?_
      rintro e w5 ⟨rfl, h5, k5⟩
      have HX := Lib.hid h5
      have hw5 := hw.keep k5
      have K5 := Lib.hid (KW.out.trans k5)
      have U5 := Lib.hid (UW.out.keep k5)
      have hs5 := k5.size
      have hsx := h5.lt
      have hx0 := hw.lt
      clear h5 k5 KW UW hw
      obtain ⟨X, hX⟩ : ∃ X, wr.heap.size = X := ⟨_, rfl⟩
      rw [hX] at HX hs5 hsx hx0 hsr U5 ⊢
      clear hX
      go_wp2_with fail
      refine (move_in b kb hw5).mono ?_
      rintro e w6 ⟨A6, m, q6, rfl, o6, h6, t6⟩
      have HX6 := Lib.hid (HX.out.turned t6 fun e => by omega)
      have K6 : Hid (Keep W w6) := t6.keep K5.out fun i e => by have e : i = W.heap.size := e; omega
      have U6 := Lib.hid (U5.out.turned t6 fun x hx e => by have e : x = W.heap.size := e; have := hx.1; omega)
      have G6 := Lib.hid o6.ins
      have hlen := o6.length
      have hs6 := t6.size
      clear o6 t6 HX K5 U5 hw5
      go_wp2_with fail
      go_loopw [20, 21] (fun u i wr => ∃ (j q : Nat), j ≤ n ∧ i = .int .i64 j ∧ u = .int .i64 ((goneN a k b j).length : Int) ∧ wr = w6.drewN q) (fun u i _ => n - (intOf i).toNat)
      case atStart => exact ⟨0, 0, Nat.zero_le _, rfl, rfl, rfl⟩
      case round =>
        obtain ⟨j, q7, hj, rfl, rfl, rfl⟩ := hrel
        have KD : Hid (Keep w6 (w6.drewN q7)) := (Keep.refl w6).drewN q7
        have hw := h6.keep KD.out
        by_cases hlt : j < n
        · have hN := HN.out
          have hend : endN a k ≤ topN := Nat.min_le_right _ _
          have hnx : a + j < 18446744073709551616 := by unfold topN at hend; omega
          have hI := in_any (a + j) hnx hw
          obtain ⟨p, off, x, rfl, _, hpl, hx, hc3⟩ := U6.out.at_ hlt
          have hxe : x = a + j := by
            rw [winL_get _ _ _ (by omega)] at hx
            injection hx with hx
            exact hx.symm
          subst hxe
          have hc4 : ∀ y, (w6.drewN y).cell? ⟨p, off + j, none⟩ = some (.int .u64 ((a + j : Nat) : Int)) := fun _ => hc3
          have e1 : (0 : Int) ≤ (j : Int) := Int.natCast_nonneg _
          have e2 : (j : Int) < (n : Int) := by omega
          cases hi : winIn b k (a + j) with
          | true =>
            rw [hi] at hI
            have hgn := goneN_in a k b j hi
            clear hend hN hx hc3
            go_wp2_with fail
            refine hI.mono ?_
            rintro e w7 ⟨rfl, rfl⟩
            go_wp2_with fail
            go_roundw
            case rel => exact ⟨j + 1, q7, by omega, by go_num, by rw [hgn], rfl⟩
            case measure => simp [intOf]; omega
          | false =>
            rw [hi] at hI
            have hgn := goneN_out a k b j hi
            have hget := goneN_get a k b n j hlt hi
            have hwg : winGone a k b = goneN a k b n := by rw [← goneN_all, hN]
            have hml : (goneN a k b n).length = m := by rw [← hwg, hlen]
            obtain ⟨r, hr⟩ : ∃ r, (goneN a k b j).length = r := ⟨_, rfl⟩
            have hrm : r < m := by
              rw [hr] at hget
              rcases Nat.lt_or_ge r (goneN a k b n).length with h1 | h1
              · omega
              · rw [List.getElem?_eq_none h1] at hget; cases hget
            obtain ⟨p', off', x', rfl, _, hpl', hx', hc3'⟩ := G6.out.at_ hrm
            have hxe' : x' = a + j := by
              rw [hr] at hget
              rw [hwg, hget] at hx'
              injection hx' with hx'
              exact hx'.symm
            subst hxe'
            have hc5 : ∀ y, (w6.drewN y).cell? ⟨p', off' + r, none⟩ = some (.int .u64 ((a + j : Nat) : Int)) := fun _ => hc3'
            have e3 : ¬ (m : Int) ≤ (r : Int) := by omega
            have e4 : (0 : Int) ≤ (r : Int) := Int.natCast_nonneg _
            have e5 : (r : Int) < (m : Int) := by omega
            have e6 : decide ((m : Int) ≤ (r : Int)) = false := decide_eq_false e3
            have hr16 : r ≤ 16 := by have := goneN_le a k b j; omega
            have hrs : ((goneN a k b (j + 1)).length : Int) = (r : Int) + 1 := by rw [hgn, List.length_append, hr]; rfl
            rw [hr]
            clear hend hN hx hc3 hx' hc3' hget hwg hml hgn
            go_wp2_with fail
            refine hI.mono ?_
            rintro e w7 ⟨rfl, rfl⟩
            go_wp2_with fail
            go_quiet (fail)
            go_wp2_with fail
            go_roundw
            case rel => exact ⟨j + 1, q7 + nq, by omega, by go_num, by rw [hrs], rfl⟩
            case measure => simp [intOf]; omega
        · have d1 : ¬ (j : Int) < (n : Int) := by omega
          obtain rfl : n = j := by omega
          have hwg : winGone a k b = goneN a k b n := by rw [← goneN_all, ← HN.out]
          have hml : (goneN a k b n).length = m := by rw [← hwg, hlen]
          have U7 := Lib.hid (U6.out.keep KD.out)
          have HX7 := Lib.hid (HX6.out.keep KD.out)
          have K7 := Lib.hid (K6.out.trans KD.out)
          have hs7 := KD.out.size
          obtain ⟨w7, h7⟩ : ∃ w7, w6.drewN q7 = w7 := ⟨_, rfl⟩
          rw [h7] at hw U7 HX7 K7 hs7 ⊢
          rw [hml]
          clear h7 KD HX6 K6 U6 h6 G6 hwg hml
          go_wp2_with fail
          refine (all_any _ _ _ _ hw).mono ?_
          rintro e w8 ⟨A8, n8, q8, rfl, o8, k8⟩
          have hn8 : n8 ≤ k := by rw [← o8.length]; exact winL_le b k
          have h8 := hw.keep k8
          have U8 := Lib.hid (U7.out.keep k8)
          have X8 := Lib.hid (HX7.out.keep k8)
          have K8 := Lib.hid (K7.out.trans k8)
          have hs8 := k8.size
          have e1 : ¬ (k : Int) < (n8 : Int) := by omega
          clear o8 k8 U7 HX7 K7 hw
          go_wp2_with fail
          refine (width_any h8).mono ?_
          rintro e w9 ⟨rfl, rfl⟩
          go_wp2_with fail
          refine (move_in c kc h8).mono ?_
          rintro e wa ⟨Aa, na, qa, rfl, oa, ha, ta⟩
          have XA := Lib.hid (X8.out.turned ta fun e => by omega)
          have KA : Hid (Keep W wa) := ta.keep K8.out fun i e => by have e : i = W.heap.size := e; omega
          have UA := Lib.hid (U8.out.turned ta fun x hx e => by have e : x = W.heap.size := e; have := hx.1; omega)
          have hsa := ta.size
          clear oa ta h8 U8 X8 K8
          go_wp2_with fail
          refine (move_in c kc XA.out).mono ?_
          rintro e wb ⟨Ab, nb, qb, rfl, ob, xb, tb⟩
          have hb := ha.turned tb fun e => by omega
          have XB := Lib.hid xb
          have KB : Hid (Keep W wb) := tb.keep KA.out fun i e => by have e : i = X := e; omega
          have hxn : X ≤ wb.heap.size := by have := tb.size; omega
          have UB := Lib.hid (UA.out.turned tb fun x hx e => by have e : x = X := e; have := hx.2; omega)
          clear ob xb tb ha XA KA UA
          go_wp2_with fail
          refine (all_any _ _ _ _ hb).mono ?_
          rintro e wc ⟨Ac, nc, qc, rfl, oc, kc'⟩
          have UC := Lib.hid oc.ins
          have XC := Lib.hid (XB.out.keep kc')
          have hc := hb.keep kc'
          have UD := Lib.hid (UB.out.keep kc')
          have KC := Lib.hid (KB.out.trans kc')
          have hnc : nc ≤ k := by rw [← oc.length]; exact winL_le c k
          clear oc kc' hb XB UB KB
          go_wp2_with fail
          refine (all_any _ _ _ _ XC.out).mono ?_
          rintro e wd ⟨Ad, nd, qd, rfl, od, kd⟩
          have UE := Lib.hid od.ins
          have UF := Lib.hid (UC.out.keep kd)
          have hd := hc.keep kd
          have UG := Lib.hid (UD.out.keep kd)
          have KD := Lib.hid (KC.out.trans kd)
          clear od kd hc XC UD KC UC
          go_wp2_with fail
          refine (same_is UF.out UE.out rfl (by omega)).mono ?_
          rintro e we ⟨rfl, ke⟩
          have he := hd.keep ke
          have UH := Lib.hid (UG.out.keep ke)
          have KE := Lib.hid (KD.out.trans ke)
          clear ke hd UG KD UE UF
          go_wp2_with fail
          refine (move_in a ka he).mono ?_
          rintro e wf ⟨Af, nf, qf, rfl, of, hf, tf⟩
          have UI := Lib.hid (UH.out.turned tf fun x hx e => by have e : x = W.heap.size := e; have := hx.1; omega)
          have KF : Hid (Keep W wf) := tf.keep KE.out fun i e => by have e : i = W.heap.size := e; omega
          clear of tf he UH KE
          go_wp2_with fail
          refine (all_any _ _ _ _ hf).mono ?_
          rintro e wg ⟨Ag, ng, qg, rfl, og, kg⟩
          have hng : ng ≤ k := by rw [← og.length]; exact winL_le a k
          have UJ := Lib.hid og.ins
          have UK := Lib.hid (UI.out.keep kg)
          have KG := Lib.hid (KF.out.trans kg)
          clear og kg hf UI KF
          go_wp2_with fail
          refine (same_is UJ.out UK.out rfl (by omega)).mono ?_
          rintro e wh ⟨rfl, kh⟩
          have KH := Lib.hid (KG.out.trans kh)
          clear kh KG UJ UK
          go_wp2_with fail
          refine (awake_any _).mono ?_
          rintro e wi ⟨rfl, ki⟩
          have KI := Lib.hid (KH.out.trans ki)
          clear ki KH
          go_wp2_with fail
          go_ret
          exact ⟨rfl, KI.out⟩
end Go.Proofs.Ytcalinimooiciaa
