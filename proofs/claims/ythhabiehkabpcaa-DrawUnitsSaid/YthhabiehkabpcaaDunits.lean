/- The walk of DrawUnits: a map of the leads that were seen. -/
import Derived.Test.YthhabiehkabpcaaDaw
import Derived.Maps.OwnOps
import Derived.Maps.Views
import Derived.Maps.OwnSet
import Derived.Maps.AppendAt
namespace Go.Proofs.Ythhabiehkabpcaa
open Go.RowKit Go.Maps
set_option linter.unusedVariables false
set_option linter.unusedSimpArgs false
/-- A map of the turns from s on, i of them. -/
def Seen (w : World) (B n s i : Nat) : Prop := ∃ D : DataW Unit, w.ownsMap Try.prog 3 (plainElem Try.prog 3) B i D ∧ Tidy D ∧ Maps.size D = i ∧ ∀ z : Int, has D (.int .i64 z) = true → ∃ j, j < i ∧ z = ((s + j) % n : Nat)
theorem lawI : Keyed Try.prog 3 := int_keyed Try.underlying3
theorem zeroI (w : World) : (zeroValue 3).run Try.prog w = .ok (.int .i64 0) w := by kernel_rfl
theorem wf_i64 {z : Int} (h1 : -9223372036854775808 ≤ z) (h2 : z ≤ 9223372036854775807) : (Lit.int .i64 z).wf = true := by
  simpa [Lit.wf, IntKind.min, IntKind.max, IntKind.signed, IntKind.bits] using And.intro h1 h2
theorem Seen.made (w : World) (n s : Nat) : Seen (w.alloc (.map #[] 0)) w.heap.size n s 0 := ⟨_, World.ownsMap_made _ _ _ _, tidy_empty, rfl, fun z h => by simp [has] at h⟩
theorem Seen.kept {w w' : World} {B n s i : Nat} (h : Seen w B n s i) (k : Keep w w') : Seen w' B n s i := by
  obtain ⟨D, h1, h2⟩ := h
  exact ⟨D, h1.kept (row := none) ⟨k.os, k.tape, k.output, k.size, fun i hi _ => k.block i hi⟩ (by simp), h2⟩
/-- A turn that is new. -/
theorem turn_new {n s i j : Nat} (hi : i < n) (hj : j < i) : (s + i) % n ≠ (s + j) % n := fun e => by
  have h := Nat.sub_mod_eq_zero_of_mod_eq e
  rw [show s + i - (s + j) = i - j by omega, Nat.mod_eq_of_lt (by omega)] at h
  omega
theorem Seen.fresh {w : World} {B n s i : Nat} (h : Seen w B n s i) (hi : i < n) (hn : n ≤ 255) : (Instr.lookup 38 (.map (some B)) (.int .i64 ((s + i) % n : Nat)) false).run Try.prog w = .ok (.int .i64 0) w := by
  obtain ⟨D, h1, h2, h3, h4⟩ := h
  have hlt : (s + i) % n < n := Nat.mod_lt _ (by omega)
  obtain ⟨c, hrun, hat, _⟩ := h1.lookup_int lawI Try.underlying38 Try.underlying3 (zeroI w) (keyOf_int_mk Try.underlying3 (wf_i64 (z := ((s + i) % n : Nat)) (by omega) (by omega)))
  have hno : has D (.int .i64 ((s + i) % n : Nat)) = false := by
    cases hh : has D (.int .i64 ((s + i) % n : Nat)) with
    | false => rfl
    | true =>
      obtain ⟨j, hj, e⟩ := h4 _ hh
      exact absurd (Int.ofNat_inj.1 e) (turn_new hi hj)
  rw [atKey_of_not_has hno] at hat
  injection hat with hat; injection hat with _ hat
  rw [hrun, ← hat]
theorem Seen.put {w : World} {B n s i : Nat} (h : Seen w B n s i) (hi : i < n) (hn : n ≤ 255) :
    ∃ w', (Instr.mapUpdate 38 (.map (some B)) (.int .i64 ((s + i) % n : Nat)) (.int .i64 1)).run Try.prog w = .ok () w' ∧ Seen w' B n s (i + 1) ∧ w.grownBy w' (some B) := by
  obtain ⟨D, h1, h2, h3, h4⟩ := h
  have hlt : (s + i) % n < n := Nat.mod_lt _ (by omega)
  have hwf : (Lit.int .i64 ((s + i) % n : Nat)).wf = true := wf_i64 (by omega) (by omega)
  obtain ⟨w', r1, r2, r3⟩ := h1.update lawI Try.underlying38 (by unfold maxLen; omega) (keyOf_int_mk Try.underlying3 hwf) (plainElem_int Try.underlying3 (a := 1) (by decide))
  have hno : has D (.int .i64 ((s + i) % n : Nat)) = false := by
    cases hh : has D (.int .i64 ((s + i) % n : Nat)) with
    | false => rfl
    | true =>
      obtain ⟨j, hj, e⟩ := h4 _ hh
      exact absurd (Int.ofNat_inj.1 e) (turn_new hi hj)
  refine ⟨w', r1, ⟨_, r2, h2.put (by simp [WideAt.IsKeyLit]) _, ?_, fun z hz => ?_⟩, r3⟩
  · rw [size_put h2, hno, h3]; rfl
  · by_cases e : z = ((s + i) % n : Nat)
    · exact ⟨i, by omega, e⟩
    · rw [has_put_other (fun h => e (by injection h))] at hz
      obtain ⟨j, hj, e⟩ := h4 z hz
      exact ⟨j, by omega, e⟩
theorem Seen.len {w : World} {B n s i : Nat} (h : Seen w B n s i) (ty : TypeId) : (Builtin.len_ #[38] ty #[.map (some B)]).run Try.prog w = .ok (.int .i64 (i : Int)) w := by
  obtain ⟨D, h1, _, h3, _⟩ := h
  rw [h1.len Try.underlying38, h3]
theorem turn_at (a n t : Nat) (v : Int) (hv : v = (a : Int)) (ht : a % n = t) (ha : a < 18446744073709551616) (h1 : 1 ≤ n) (hn : n ≤ 255) (w : World) :
    Calls Try.prog 11 #[.int .u64 v, .int .i64 (n : Int)] w fun e w' => e = .returned (.tuple #[.int .i64 (t : Int), .int .i64 0]) ∧ w = w' := by
  subst hv; subst ht; exact turn_any a n ha h1 hn w
theorem coefN_nil (n k : Nat) : coefN n k [] = vUnit n k := if_pos (by
  rw [vLead, (vLeadTo_none _ n).2 (fun i hi => ?_)]
  · decide
  · simp [fillN, List.getD_eq_getElem?_getD, List.getElem?_replicate, hi])
theorem coefs_unit (n k : Nat) (h1 : 1 ≤ n) (hn : n ≤ 255) (hk : k < n) (w : World) : Calls Try.prog 7 #[.slice none 0 0, .int .i64 (n : Int), .int .i64 (k : Int)] w fun e w' => ∃ A c, e = .returned (.tuple #[.slice A n c, .int .i64 0]) ∧ Bytes w' w'.heap.size A n (vUnit n k) ∧ Keep w w' :=
  (coefs_any w.heap.size n k 0 0 none [] w (Bytes.nil _ _ _) (Nat.le_refl _) h1 hn hk).mono fun e w' ⟨A, m, c, e1, o, kp⟩ => by
    obtain rfl : m = n := by have := o.length; rw [coefN_len] at this; exact this.symm
    exact ⟨A, c, e1, coefN_nil m k ▸ o.bytes, kp⟩
theorem unit_unit (n k : Nat) (hn : n ≤ 255) (hk : k < n) (w : World) : Calls Try.prog 15 #[.int .i64 (n : Int), .int .i64 (k : Int)] w fun e w' => ∃ A c, e = .returned (.tuple #[.slice A n c, .int .i64 0]) ∧ Bytes w' w'.heap.size A n (vUnit n k) ∧ Keep w w' :=
  (vunit_in n k hk (by omega) w).mono fun e w' ⟨A, m, c, e1, o, kp⟩ => by
    obtain rfl : m = n := by have := o.length; rw [vUnit_len] at this; exact this.symm
    exact ⟨A, c, e1, o.bytes, kp⟩
set_option maxRecDepth 100000 in
set_option maxHeartbeats 8000000 in
theorem units_any (x0 x1 : Nat) (hx0 : x0 < 256) (hx1 : x1 < 18446744073709551616) (W : World) :
    Calls Try.prog 5 #[.int .u8 (x0 : Int), .int .u64 (x1 : Int)] W fun e w' => e = .returned (.bool true) ∧ Keep W w' := by
  obtain ⟨j0, hj0⟩ : ∃ j, x0 % 255 = j := ⟨_, rfl⟩
  have e0 : IntKind.i64.wrap (x0 : Int) = (x0 : Int) := IntWalk.i64_in _ (by omega)
  have e1 : (x0 : Int).tmod 255 = (j0 : Int) := by rw [Int.tmod_eq_emod_of_nonneg (by omega)]; omega
  have e3 : IntKind.i64.wrap (j0 : Int) = (j0 : Int) := IntWalk.i64_in _ (by omega)
  have e4 : IntKind.i64.wrap (1 + (j0 : Int)) = ((1 + j0 : Nat) : Int) := by rw [IntWalk.i64_in _ (by omega)]; omega
  obtain ⟨n, hn⟩ : ∃ k, 1 + j0 = k := ⟨_, rfl⟩
  rw [hn] at e4
  have n1 : 1 ≤ n := by omega
  have n2 : n ≤ 255 := by omega
  obtain ⟨s, hs⟩ : ∃ s, x1 / 2 = s := ⟨_, rfl⟩
  have hs2 : s < 9223372036854775808 := by omega
  have f1 : (x1 : Int) / 2 = (s : Int) := by omega
  have f2 : IntKind.u64.wrap (s : Int) = (s : Int) := IntWalk.u64_in _ (by omega)
  obtain ⟨B, hB⟩ : ∃ B, W.heap.size = B := ⟨_, rfl⟩
  obtain ⟨w0, hw0⟩ : ∃ w0, W.alloc (.map #[] 0) = w0 := ⟨_, rfl⟩
  have S0 : Hid (Seen w0 B n s 0) := by rw [← hw0, ← hB]; exact Seen.made W n s
  have K0 : Hid (Keep W w0) := by rw [← hw0]; exact (Keep.refl W).allocMap _ _
  have hmm : (Instr.makeMap 38 none).run Try.prog W = .ok (.map (some B)) w0 := by rw [← hB, ← hw0]; exact run_makeMap _ _
  have HB := Lib.hid hB
  clear hw0 hB hn hs hj0
  go_enter Try.func5, Try.ntmps5
  go_wp2_with fail
  go_loopw [21] (fun iv wr => ∃ i : Nat, i ≤ n ∧ iv = .int .i64 i ∧ Seen wr B n s i ∧ Keep W wr) (fun iv _ => n - (intOf iv).toNat)
  case atStart => exact ⟨0, by omega, rfl, S0.out, K0.out⟩
  case round =>
    obtain ⟨i, hi, rfl, hS, hK⟩ := hrel
    have HS := Lib.hid hS
    have HK := Lib.hid hK
    have g0 : (0 : Int) ≤ (i : Int) := Int.natCast_nonneg _
    clear hS hK S0 K0
    by_cases hlt : i < n
    · have g1 : (i : Int) < (n : Int) := by omega
      have g2 : IntKind.u64.wrap (i : Int) = (i : Int) := IntWalk.u64_in _ (by omega)
      obtain ⟨a, ha⟩ : ∃ a, s + i = a := ⟨_, rfl⟩
      obtain ⟨t, ht⟩ : ∃ t, a % n = t := ⟨_, rfl⟩
      have g3 : IntKind.u64.wrap ((s : Int) + (i : Int)) = (a : Int) := by rw [IntWalk.u64_in _ (by omega)]; omega
      have htn : t < n := by rw [← ht]; exact Nat.mod_lt _ (by omega)
      have ha2 : a < 18446744073709551616 := by omega
      have HA := Lib.hid ha
      have HT := Lib.hid ht
      have HTN := Lib.hid htn
      have C3 := Lib.hid (sys_any (t : Int) (n : Int) true (decide_eq_true (by omega)).symm)
      have HL := Lib.hid (vLead_unit n t htn)
      have t0 : (0 : Int) ≤ (t : Int) := Int.natCast_nonneg _
      clear ha ht htn
      go_wp2_with fail
      refine (turn_at a n t _ (by have := HA.out; omega) HT.out ha2 n1 n2 _).mono ?_
      rintro e wt ⟨rfl, rfl⟩
      go_wp2_with fail
      refine (coefs_unit n t n1 n2 HTN.out _).mono ?_
      rintro e w1 ⟨A1, c1, rfl, b1, k1⟩
      have B1 := Lib.hid b1
      have S1 := Lib.hid (HS.out.kept k1)
      have K1 := Lib.hid (HK.out.trans k1)
      clear b1 k1 HS HK
      go_wp2_with fail
      refine (C3.out _).mono ?_
      rintro e wt ⟨rfl, rfl⟩
      go_wp2_with fail
      refine (vlead_eq _ n c1 A1 (vUnit n t) _ B1.out (by omega)).mono ?_
      rw [HL.out]
      rintro e wt ⟨rfl, rfl⟩
      go_wp2_with fail
      refine (unit_unit n t n2 HTN.out _).mono ?_
      rintro e w2 ⟨A2, c2, rfl, b2, k2⟩
      have B2 := Lib.hid b2
      have B1' := Lib.hid (B1.out.later k2)
      have S2 := S1.out.kept k2
      have K2 := Lib.hid (K1.out.trans k2)
      have q1 := S2.fresh hlt n2
      obtain ⟨w3, q2, S3, gr⟩ := S2.put hlt n2
      rw [HA.out, HT.out] at q1 q2
      have HS3 := Lib.hid S3
      have HK3 : Hid (Keep W w3) := K2.out.grown gr fun k e => by
        injection e with e
        have := HB.out; omega
      clear b2 k2 B1 S1 K1 S2 S3 gr K2
      go_wp2_with fail
      refine (equal_any _ _ n n _ _ _ _ (vUnit n t) (vUnit n t) _ B1'.out B2.out).mono ?_
      rw [decide_eq_true rfl]
      rintro e wt ⟨rfl, rfl⟩
      go_wp2_with fail
      go_round
      case rel => exact ⟨i + 1, by omega, by go_num, HS3.out, HK3.out⟩
      case measure => simp [intOf]; omega
    · obtain rfl : i = n := by omega
      go_wp2_with fail
      refine (awake_any _).mono ?_
      rintro e w1 ⟨rfl, k1⟩
      have hl := (HS.out.kept k1).len 3
      have K1 := Lib.hid (HK.out.trans k1)
      clear k1 HS HK
      go_wp2_with fail
      go_ret
      exact ⟨rfl, K1.out⟩
end Go.Proofs.Ythhabiehkabpcaa
