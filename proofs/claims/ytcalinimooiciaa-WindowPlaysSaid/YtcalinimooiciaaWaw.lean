/- Words for the walks of stage 10's statements; the chapter's rows. -/
import Derived.Test.YtcalinimooiciaaWc3
import Derived.Test.YtcalinimooiciaaWr2
namespace Go.Proofs.Ytcalinimooiciaa
open Go.RowKit
set_option linter.unusedVariables false
set_option linter.unusedSimpArgs false
/-- Numbers of 64 bits, written out. -/
theorem UsIn.wri (w : World) (t : TypeId) (z : Nat × Nat) (n : Nat) (l : List Nat) (cs : Array Value) (hc : cs = (l.map u64).toArray) (hl : l.length = n) : UsIn (w.alloc (.cells cs t z)) (fun b => b = w.heap.size) (some ⟨w.heap.size, 0, none⟩) n l := by
  refine ⟨hl, fun _ => ⟨w.heap.size, 0, rfl, rfl, by simp, fun i x hx => ?_⟩⟩
  have h := heap_alloc_new w (.cells cs t z)
  rw [World.cell?, h]
  subst hc
  simp [List.getElem?_map, hx, u64]
/-- What a call tells that lists numbers, in the statement's words. -/
theorem OwnU.told {w w' : World} {A : Option Addr} {n c : Nat} {l m : List Nat} (h : OwnU w' w.heap.size A n c l) (e : l = m) : UsIn w' (fun b => w.heap.size ≤ b) A n m := e ▸ h.ins
theorem same_is {n m ca cb : Nat} {A A' : Option Addr} {F F' : Nat → Prop} {l l' : List Nat} {w : World} (h : UsIn w F A n l) (h' : UsIn w F' A' m l') (e : l = l') (hn : n ≤ 1000000) :
    Calls Try.prog 15 #[.slice A n ca, .slice A' m cb] w fun e w' => e = .returned (.bool true) ∧ Keep w w' :=
  (rsame_u n m ca cb A A' F F' l l' w h h' hn).mono fun e w' h => by
    obtain ⟨rfl, q, rfl⟩ := h
    exact ⟨by rw [decide_eq_true (by assumption)], (Keep.refl w).drewN q⟩
theorem k_gone : winGone 0 4 3 = [0, 1, 2] ∧ winGone 3 4 5 = [3, 4] ∧ winGone 5 4 1099511627776 = [5, 6, 7, 8] := by decide +kernel
theorem k_all : winL 3 4 = [3, 4, 5, 6] ∧ winL 1099511627776 4 = [] := by decide +kernel
theorem k_end : endN 3 4 = 7 ∧ endN 1099511627776 4 = 1099511627776 := by decide +kernel
theorem k_in : winIn 3 4 2 = false ∧ winIn 3 4 6 = true ∧ winIn 3 4 7 = false := by decide +kernel
theorem k_slot : (slotV 5 4 6 = 2 ∧ slotE 5 4 6 = 0) ∧ slotV 5 4 9 = 0 ∧ slotE 5 4 9 = 1 := by decide +kernel
set_option maxRecDepth 100000 in
set_option maxHeartbeats 4000000 in
theorem awake_any (W : World) : Calls Try.prog 7 #[] W fun e w' => e = .returned (.bool true) ∧ Keep W w' := by
  go_enter Try.func7, Try.ntmps7
  go_wp2_with fail
  refine (new_in 4 (by omega) (by omega) _).mono ?_
  rintro e w1 ⟨rfl, h1, k1⟩
  go_wp2_with fail
  refine (move_in 3 (by unfold topN; omega) h1).mono ?_
  rintro e w2 ⟨A2, n2, q2, rfl, o2, h2, t2⟩
  obtain rfl : n2 = 3 := by rw [← o2.length, k_gone.1]; rfl
  have K2 : Hid (Keep W w2) := t2.keep k1 fun i e => by have e : i = W.heap.size := e; omega
  have U2 := Lib.hid (o2.told k_gone.1)
  have hz2 : W.heap.size < w2.heap.size := h2.lt
  clear t2 o2 h1 k1
  go_wp2_with fail
  refine (same_is (U2.out.keep ((Keep.refl w2).alloc _ _)) (UsIn.wri w2 _ _ 3 [0, 1, 2] _ rfl rfl) rfl (by omega)).mono ?_
  rintro e w3 ⟨rfl, k3⟩
  have K3 := Lib.hid (((Keep.refl w2).alloc _ _).trans k3)
  have h3 := h2.keep K3.out
  clear k3 h2 U2
  have hE := end_any h3
  rw [k_end.1] at hE
  go_wp2_with fail
  refine hE.mono ?_
  rintro e w4 ⟨rfl, rfl⟩
  go_wp2_with fail
  refine (all_any _ _ _ _ h3).mono ?_
  rintro e w5 ⟨A5, n5, q5, rfl, o5, k5⟩
  obtain rfl : n5 = 4 := by rw [← o5.length, k_all.1]; rfl
  have U5 := Lib.hid (o5.told k_all.1)
  have K5 := Lib.hid ((K2.out.trans K3.out).trans k5)
  have h5 := h3.keep k5
  clear K2 K3 o5 k5 h3
  go_wp2_with fail
  refine (same_is (U5.out.keep ((Keep.refl w5).alloc _ _)) (UsIn.wri w5 _ _ 4 [3, 4, 5, 6] _ rfl rfl) rfl (by omega)).mono ?_
  rintro e w6 ⟨rfl, k6⟩
  have K6 := Lib.hid (K5.out.trans (((Keep.refl w5).alloc _ _).trans k6))
  have h6 := h5.keep (((Keep.refl w5).alloc _ _).trans k6)
  clear k6 h5 U5 K5
  have hI1 := in_any 2 (by omega) h6
  have hI2 := in_any 6 (by omega) h6
  have hI3 := in_any 7 (by omega) h6
  rw [k_in.1] at hI1
  rw [k_in.2.1] at hI2
  rw [k_in.2.2] at hI3
  go_wp2_with fail
  refine hI1.mono ?_
  rintro e w7 ⟨rfl, rfl⟩
  go_wp2_with fail
  refine hI2.mono ?_
  rintro e w7 ⟨rfl, rfl⟩
  go_wp2_with fail
  refine hI3.mono ?_
  rintro e w7 ⟨rfl, rfl⟩
  clear hI1 hI2 hI3
  go_wp2_with fail
  have hz6 := h6.lt
  refine (move_in 5 (by unfold topN; omega) h6).mono ?_
  rintro e w8 ⟨A8, n8, q8, rfl, o8, h8, t8⟩
  obtain rfl : n8 = 2 := by rw [← o8.length, k_gone.2.1]; rfl
  have K8 : Hid (Keep W w8) := t8.keep K6.out fun i e => by have e : i = W.heap.size := e; omega
  have U8 := Lib.hid (o8.told k_gone.2.1)
  clear t8 o8 K6 h6
  have hS1 := slot_any 6 (by omega) h8
  have hS2 := slot_any 9 (by omega) h8
  rw [k_slot.1.1, k_slot.1.2] at hS1
  rw [k_slot.2.1, k_slot.2.2] at hS2
  go_wp2_with fail
  refine hS1.mono ?_
  rintro e w9 ⟨rfl, rfl⟩
  go_wp2_with fail
  refine hS2.mono ?_
  rintro e w9 ⟨rfl, rfl⟩
  clear hS1 hS2
  go_wp2_with fail
  refine (move_in 1099511627776 (by unfold topN; omega) h8).mono ?_
  rintro e wa ⟨Aa, na, qa, rfl, oa, ha, ta⟩
  obtain rfl : na = 4 := by rw [← oa.length, k_gone.2.2]; rfl
  have KA : Hid (Keep W wa) := ta.keep K8.out fun i e => by have e : i = W.heap.size := e; omega
  have UA := Lib.hid (oa.told k_gone.2.2)
  have UB := Lib.hid (U8.out.turned ta fun b hb e => by have e : b = W.heap.size := e; omega)
  clear ta oa K8 h8 U8
  go_wp2_with fail
  refine (same_is (UB.out.keep ((Keep.refl wa).alloc _ _)) (UsIn.wri wa _ _ 2 [3, 4] _ rfl rfl) rfl (by omega)).mono ?_
  rintro e wb ⟨rfl, kb⟩
  have KB := Lib.hid (((Keep.refl wa).alloc _ _).trans kb)
  have hb := ha.keep KB.out
  have UC := Lib.hid (UA.out.keep KB.out)
  clear kb ha UB UA
  go_wp2_with fail
  refine (same_is (UC.out.keep ((Keep.refl wb).alloc _ _)) (UsIn.wri wb _ _ 4 [5, 6, 7, 8] _ rfl rfl) rfl (by omega)).mono ?_
  rintro e wc ⟨rfl, kc⟩
  have KC := Lib.hid (((Keep.refl wb).alloc _ _).trans kc)
  have hc := hb.keep KC.out
  clear kc hb UC
  go_wp2_with fail
  refine (all_any _ _ _ _ hc).mono ?_
  rintro e wd ⟨Ad, nd, qd, rfl, od, kd⟩
  obtain rfl : nd = 0 := by rw [← od.length, k_all.2]; rfl
  have hd := hc.keep kd
  have KD := Lib.hid (((KA.out.trans KB.out).trans KC.out).trans kd)
  have hE := end_any hd
  rw [k_end.2] at hE
  clear od kd hc KA KB KC
  go_wp2_with fail
  refine hE.mono ?_
  rintro e we ⟨rfl, rfl⟩
  go_wp2_with fail
  go_ret
  exact ⟨rfl, KD.out⟩
end Go.Proofs.Ytcalinimooiciaa
