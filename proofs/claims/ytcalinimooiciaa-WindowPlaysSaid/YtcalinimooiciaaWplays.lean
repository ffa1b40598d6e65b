/- The walk of WindowPlays. -/
import Derived.Test.YtcalinimooiciaaWaw
import Derived.Test.YtcalinimooiciaaRegion
namespace Go.Proofs.Ytcalinimooiciaa
open Go.RowKit
set_option linter.unusedVariables false
set_option linter.unusedSimpArgs false
/-- What a Move tells and leaves, whatever it is asked for. -/
def mvE (c : Nat) : Int := if topN < c then 1 else 0
def mvB (b c : Nat) : Nat := if topN < c then b else c
def mvL (b k c : Nat) : List Nat := if topN < c then [] else winGone b k c
theorem mvL_le (b k c : Nat) : (mvL b k c).length ≤ k := by
  rw [mvL]; split
  · exact Nat.zero_le _
  · exact winGone_le b k c
theorem u64_nat (a : Int) : ∃ y : Nat, IntKind.u64.wrap a = (y : Int) ∧ y < 18446744073709551616 := by
  rw [IntKind.wrap_u64]
  exact ⟨(a % 18446744073709551616).toNat, by omega, by omega⟩
theorem four_0 (a b c d : Int) (w : World) : (Instr.index 37 (.agg #[.int .u64 a, .int .u64 b, .int .u64 c, .int .u64 d]) (.int .i64 0)).run Try.prog w = .ok (.int .u64 a) w := by kernel_rfl
theorem four_1 (a b c d : Int) (w : World) : (Instr.index 37 (.agg #[.int .u64 a, .int .u64 b, .int .u64 c, .int .u64 d]) (.int .i64 1)).run Try.prog w = .ok (.int .u64 b) w := by kernel_rfl
theorem four_2 (a b c d : Int) (w : World) : (Instr.index 37 (.agg #[.int .u64 a, .int .u64 b, .int .u64 c, .int .u64 d]) (.int .i64 2)).run Try.prog w = .ok (.int .u64 c) w := by kernel_rfl
theorem four_3 (a b c d : Int) (w : World) : (Instr.index 37 (.agg #[.int .u64 a, .int .u64 b, .int .u64 c, .int .u64 d]) (.int .i64 3)).run Try.prog w = .ok (.int .u64 d) w := by kernel_rfl
section
variable {g k b : Nat} {w : World}
theorem move_all (c : Nat) (h : WinR w g k b) :
    Calls Try.prog 9 #[.pointer (some ⟨g, 0, none⟩), .int .u64 (c : Int)] w fun e w' => ∃ A n q, e = .returned (.tuple #[.slice A n q, .int .i64 (mvE c)]) ∧ OwnU w' w.heap.size A n q (mvL b k c) ∧ WinR w' g k (mvB b c) ∧ Turned (fun x => x = g) w w' := by
  rcases Nat.lt_or_ge topN c with hc | hc
  · rw [mvE, mvB, mvL, if_pos hc, if_pos hc, if_pos hc]
    refine (move_out c hc h).mono ?_
    rintro e w' ⟨rfl, rfl⟩
    exact ⟨none, 0, 0, rfl, OwnU.none_ _ _, h, Turned.refl _ _⟩
  · have hn : ¬ topN < c := by omega
    rw [mvE, mvB, mvL, if_neg hn, if_neg hn, if_neg hn]
    exact move_in c hc h
theorem rmove_all (c : Nat) (h : RefW w g k b) :
    Calls Try.prog 10 #[.pointer (some ⟨g, 0, none⟩), .int .u64 (c : Int)] w fun e w' => ∃ A n q, e = .returned (.tuple #[.slice A n q, .int .i64 (mvE c)]) ∧ OwnU w' w.heap.size A n q (mvL b k c) ∧ RefW w' g k (mvB b c) ∧ Turned (fun x => x = g) w w' := by
  rcases Nat.lt_or_ge topN c with hc | hc
  · rw [mvE, mvB, mvL, if_pos hc, if_pos hc, if_pos hc]
    refine (rmove_out c hc w).mono ?_
    rintro e w' ⟨rfl, rfl⟩
    exact ⟨none, 0, 0, rfl, OwnU.none_ _ _, h, Turned.refl _ _⟩
  · have hn : ¬ topN < c := by omega
    rw [mvE, mvB, mvL, if_neg hn, if_neg hn, if_neg hn]
    exact rmove_in c hc h
theorem rslot_told (n : Nat) (hn : n < 18446744073709551616) (h : RefW w g k b) : Calls Try.prog 12 #[.pointer (some ⟨g, 0, none⟩), .int .u64 (n : Int)] w fun e w' => e = .returned (.tuple #[.int .i64 (slotV b k n : Int), .int .i64 (slotE b k n)]) ∧ Keep w w' :=
  rslot_any n hn h
end
set_option maxRecDepth 100000 in
set_option maxHeartbeats 8000000 in
theorem plays_out (wd : Int) (n c x : Nat) (A : Option Addr) (W : World) (h : wd < 1 ∨ 16 < wd) :
    Calls Try.prog 3 #[.int .i64 wd, .slice A n c, .int .u64 (x : Int)] W fun e w' => e = .returned (.bool true) ∧ Keep W w' := by
  have H := Lib.hid h
  clear h
  go_enter Try.func3, Try.ntmps3
  go_wp2_with fail
  refine (new_out wd H.out _).mono ?_
  rintro e w1 ⟨rfl, rfl⟩
  go_wp2_with fail
  refine (rnew_out wd H.out _).mono ?_
  rintro e w1 ⟨rfl, rfl⟩
  go_wp2_with fail
  refine (awake_any _).mono ?_
  rintro e w2 ⟨rfl, k2⟩
  go_wp2_with fail
  go_ret
  exact ⟨rfl, k2⟩
set_option maxRecDepth 100000 in
set_option maxHeartbeats 16000000 in
theorem plays_in (k n c x : Nat) (A : Option Addr) (l : List Nat) (W : World) (hk1 : 1 ≤ k) (hk2 : k ≤ 16) (h : UsIn W (fun _ => True) A n l) (hz : ∀ z ∈ l, z < 18446744073709551616) (hn : n ≤ 140737488355328) (hx : x < 18446744073709551616) :
    Calls Try.prog 3 #[.int .i64 (k : Int), .slice A n c, .int .u64 (x : Int)] W fun e w' => e = .returned (.bool true) ∧ Keep W w' := by
  have H := Lib.hid h
  have HZ := Lib.hid hz
  clear h hz
  go_enter Try.func3, Try.ntmps3
  go_wp2_with fail
  refine (new_in k hk1 hk2 _).mono ?_
  rintro e w1 ⟨rfl, h1, q1⟩
  go_wp2_with fail
  refine (rnew_in k hk1 hk2 _).mono ?_
  rintro e w2 ⟨rfl, r2, q2⟩
  have h2 := h1.keep q2
  have hlt1 := h1.lt
  have Q2 := Lib.hid (q1.trans q2)
  obtain ⟨g, hg⟩ : ∃ g, W.heap.size = g := ⟨_, rfl⟩
  obtain ⟨r, hr⟩ : ∃ r, w1.heap.size = r := ⟨_, rfl⟩
  rw [hg] at h2 hlt1 ⊢
  rw [hr] at r2 hlt1 ⊢
  have hne : r ≠ g := by omega
  clear h1 q1 q2 hr
  go_wp2_with fail
  refine (awake_any _).mono ?_
  rintro e w3 ⟨rfl, q3⟩
  have H3 := Lib.hid (h2.keep q3)
  have R3 := Lib.hid (r2.keep q3)
  have Q3 := Lib.hid (Q2.out.trans q3)
  clear h2 r2 Q2 q3
  go_wp2_with fail
  go_loopw [11] (fun i wr => ∃ (j b : Nat), j ≤ n ∧ i = .int .i64 j ∧ WinR wr g k b ∧ RefW wr r k b ∧ Keep W wr) (fun i _ => n - (intOf i).toNat)
  case atStart => exact ⟨0, 0, Nat.zero_le _, rfl, H3.out, R3.out, Q3.out⟩
  case round =>
    obtain ⟨j, b, hj, rfl, hw, hv, hkr⟩ := hrel
    have HW := Lib.hid hw
    have HV := Lib.hid hv
    have HK := Lib.hid hkr
    clear hw hv hkr H3 R3 Q3
    by_cases hlt : j < n ∧ j < 40
    · obtain ⟨hlt, h40⟩ := hlt
      obtain ⟨p, off, z, rfl, _, hpl, hzl, hcz⟩ := H.out.at_ hlt
      have hz : z < 18446744073709551616 := HZ.out z (List.mem_of_getElem? hzl)
      clear hzl
      have e1 : (0 : Int) ≤ (j : Int) := Int.natCast_nonneg _
      have e2 : (j : Int) < (n : Int) := by omega
      have e3 : decide ((j : Int) < 40) = true := decide_eq_true (by omega)
      have e4 : (z : Int).tdiv 2 = ((z / 2 : Nat) : Int) := by rw [Int.tdiv_eq_ediv_of_nonneg (by omega)]; omega
      have e5 : IntKind.u64.wrap ((z / 2 : Nat) : Int) = ((z / 2 : Nat) : Int) := IntWalk.u64_in _ (by omega)
      have hcell : ∀ w' (_ : Keep W w'), w'.cell? ⟨p, off + j, none⟩ = some (.int .u64 (z : Int)) := fun w' kw => (World.cell?_of_block (kw.block p hpl)).trans hcz
      have HC := Lib.hid hcell
      clear hcell hcz
      have hg2 := HW.out.lt
      have hr2 := HV.out.lt
      have hWg : W.heap.size = g := hg
      go_wp2_with fail
      refine (copy_any HW.out).mono ?_
      rintro e w4 ⟨rfl, c4, q4⟩
      have HW4 := Lib.hid (HW.out.keep q4)
      have HV4 := Lib.hid (HV.out.keep q4)
      have HK4 := Lib.hid (HK.out.trans q4)
      obtain ⟨C, hC⟩ : ∃ C, wr.heap.size = C := ⟨_, rfl⟩
      rw [hC] at c4 hg2 hr2 ⊢
      have hc4 := HC.out w4 HK4.out
      have hC4 := c4.lt
      clear q4 hC HW HV HK
      go_wp2_with fail
      refine (move_all (z / 2) c4).mono ?_
      rintro e w5 ⟨A5, n5, q5, rfl, _, _, t5⟩
      have HW5 := Lib.hid (HW4.out.turned t5 fun e => by omega)
      have HV5 := Lib.hid (HV4.out.turned t5 fun e => by omega)
      have HK5 : Hid (Keep W w5) := t5.keep HK4.out fun i e => by have e : i = C := e; omega
      have hc5 := HC.out w5 HK5.out
      have hs5 := t5.size
      clear t5 c4 HW4 HV4 HK4 hc4
      go_wp2_with fail
      refine (move_all z HW5.out).mono ?_
      rintro e w6 ⟨A6, n6, q6, rfl, o6, h6, t6⟩
      have HW6 := Lib.hid h6
      have HV6 := Lib.hid (HV5.out.turned t6 fun e => by omega)
      have HK6 : Hid (Keep W w6) := t6.keep HK5.out fun i e => by have e : i = g := e; omega
      have hc6 := HC.out w6 HK6.out
      have hs6 := t6.size
      have hn6 : n6 ≤ k := by rw [← o6.length]; exact mvL_le b k z
      have U6 := Lib.hid o6.ins
      clear t6 o6 h6 HW5 HV5 HK5 hc5
      go_wp2_with fail
      refine (rmove_all z HV6.out).mono ?_
      rintro e w7 ⟨A7, n7, q7, rfl, o7, h7, t7⟩
      have HW7 := Lib.hid (HW6.out.turned t7 fun e => by omega)
      have HV7 := Lib.hid h7
      have HK7 : Hid (Keep W w7) := t7.keep HK6.out fun i e => by have e : i = r := e; omega
      have hs7 := t7.size
      have U7 := Lib.hid ((U6.out.turned t7 fun y hy e => by have e : y = r := e; omega).any)
      have V7 := Lib.hid (o7.ins.any)
      clear t7 o7 h7 HW6 HV6 HK6 hc6 U6
      obtain ⟨b2, hb2⟩ : ∃ b2, mvB b z = b2 := ⟨_, rfl⟩
      rw [hb2] at HW7 HV7
      clear hb2
      obtain ⟨E, hE⟩ : ∃ E, mvE z = E := ⟨_, rfl⟩
      rw [hE]
      clear hE
      obtain ⟨L, hL⟩ : ∃ L, mvL b k z = L := ⟨_, rfl⟩
      rw [hL] at U7 V7
      clear hL
      have hc7 : ∀ q, (w7.drewN q).cell? ⟨p, off + j, none⟩ = some (.int .u64 (z : Int)) := fun _ => HC.out w7 HK7.out
      have f1 : IntKind.u64.wrap (k : Int) = (k : Int) := IntWalk.u64_in _ (by omega)
      obtain ⟨y1, hy1, hl1⟩ : ∃ y : Nat, IntKind.u64.wrap ((z : Int) + (k : Int)) = (y : Int) ∧ y < 18446744073709551616 := u64_nat _
      obtain ⟨y2, hy2, hl2⟩ : ∃ y : Nat, IntKind.u64.wrap ((z : Int) - 1) = (y : Int) ∧ y < 18446744073709551616 := u64_nat _
      go_wp2_with fail
      go_quiet (fail)
      have k8 : Keep w7 (w7.drewN nq) := (Keep.refl w7).drewN nq
      have HW8 := Lib.hid (HW7.out.keep k8)
      have HV8 := Lib.hid (HV7.out.keep k8)
      have HK8 := Lib.hid (HK7.out.trans k8)
      have U8 := Lib.hid (U7.out.keep k8)
      have V8 := Lib.hid (V7.out.keep k8)
      obtain ⟨w8, h8⟩ : ∃ w8, w7.drewN nq = w8 := ⟨_, rfl⟩
      rw [h8] at HW8 HV8 HK8 U8 V8 ⊢
      clear k8 h8 HW7 HV7 HK7 U7 V7 hc7 f1 hy1 hy2
      go_wp2_with fail
      go_loopw [99] (fun i wr => ∃ t : Nat, t ≤ 4 ∧ i = .int .i64 t ∧ Keep w8 wr) (fun i _ => 4 - (intOf i).toNat)
      case atStart => exact ⟨0, Nat.zero_le _, rfl, Keep.refl w8⟩
      case round =>
        obtain ⟨t, ht, rfl, kt⟩ := hrel
        have HWt := Lib.hid (HW8.out.keep kt)
        have HVt := Lib.hid (HV8.out.keep kt)
        have HKt := Lib.hid kt
        clear kt
        by_cases ht4 : t < 4
        · rcases (by omega : t = 0 ∨ t = 1 ∨ t = 2 ∨ t = 3) with rfl | rfl | rfl | rfl
          · obtain ⟨s, hs⟩ : ∃ s, slotV b2 k x = s := ⟨_, rfl⟩
            obtain ⟨f, hf⟩ : ∃ f, slotE b2 k x = f := ⟨_, rfl⟩
            obtain ⟨u, hu⟩ : ∃ u, winIn b2 k x = u := ⟨_, rfl⟩
            have hS := slot_any x hx HWt.out
            have hT := rslot_told x hx HVt.out
            rw [hs, hf] at hS hT
            clear hs hf
            have hidx := four_0 (x : Int) (z : Int) (y1 : Int) (y2 : Int)
            go_wp2_with fail
            refine hS.mono ?_
            rintro e wa ⟨rfl, rfl⟩
            go_wp2_with fail
            refine hT.mono ?_
            rintro e wb ⟨rfl, kb⟩
            have hI := in_any x hx (HWt.out.keep kb)
            have hJ := rin_any x (HVt.out.keep kb)
            have KB := Lib.hid (HKt.out.trans kb)
            rw [hu] at hI hJ
            clear hu hS hT kb HWt HVt HKt
            go_wp2_with fail
            refine hI.mono ?_
            rintro e wc ⟨rfl, rfl⟩
            go_wp2_with fail
            refine hJ.mono ?_
            rintro e wd ⟨rfl, kd⟩
            have KD := Lib.hid (KB.out.trans kd)
            clear hI hJ KB kd
            cases u
            all_goals
              go_wp2_with fail
              go_roundw
              case rel => exact ⟨1, by omega, by go_num, KD.out⟩
              case measure => simp [intOf]
          · obtain ⟨s, hs⟩ : ∃ s, slotV b2 k z = s := ⟨_, rfl⟩
            obtain ⟨f, hf⟩ : ∃ f, slotE b2 k z = f := ⟨_, rfl⟩
            obtain ⟨u, hu⟩ : ∃ u, winIn b2 k z = u := ⟨_, rfl⟩
            have hS := slot_any z hz HWt.out
            have hT := rslot_told z hz HVt.out
            rw [hs, hf] at hS hT
            clear hs hf
            have hidx := four_1 (x : Int) (z : Int) (y1 : Int) (y2 : Int)
            go_wp2_with fail
            refine hS.mono ?_
            rintro e wa ⟨rfl, rfl⟩
            go_wp2_with fail
            refine hT.mono ?_
            rintro e wb ⟨rfl, kb⟩
            have hI := in_any z hz (HWt.out.keep kb)
            have hJ := rin_any z (HVt.out.keep kb)
            have KB := Lib.hid (HKt.out.trans kb)
            rw [hu] at hI hJ
            clear hu hS hT kb HWt HVt HKt
            go_wp2_with fail
            refine hI.mono ?_
            rintro e wc ⟨rfl, rfl⟩
            go_wp2_with fail
            refine hJ.mono ?_
            rintro e wd ⟨rfl, kd⟩
            have KD := Lib.hid (KB.out.trans kd)
            clear hI hJ KB kd
            cases u
            all_goals
              go_wp2_with fail
              go_roundw
              case rel => exact ⟨2, by omega, by go_num, KD.out⟩
              case measure => simp [intOf]
          · obtain ⟨s, hs⟩ : ∃ s, slotV b2 k y1 = s := ⟨_, rfl⟩
            obtain ⟨f, hf⟩ : ∃ f, slotE b2 k y1 = f := ⟨_, rfl⟩
            obtain ⟨u, hu⟩ : ∃ u, winIn b2 k y1 = u := ⟨_, rfl⟩
            have hS := slot_any y1 hl1 HWt.out
            have hT := rslot_told y1 hl1 HVt.out
            rw [hs, hf] at hS hT
            clear hs hf
            have hidx := four_2 (x : Int) (z : Int) (y1 : Int) (y2 : Int)
            go_wp2_with fail
            refine hS.mono ?_
            rintro e wa ⟨rfl, rfl⟩
            go_wp2_with fail
            refine hT.mono ?_
            rintro e wb ⟨rfl, kb⟩
            have hI := in_any y1 hl1 (HWt.out.keep kb)
            have hJ := rin_any y1 (HVt.out.keep kb)
            have KB := Lib.hid (HKt.out.trans kb)
            rw [hu] at hI hJ
            clear hu hS hT kb HWt HVt HKt
            go_wp2_with fail
            refine hI.mono ?_
            rintro e wc ⟨rfl, rfl⟩
            go_wp2_with fail
            refine hJ.mono ?_
            rintro e wd ⟨rfl, kd⟩
            have KD := Lib.hid (KB.out.trans kd)
            clear hI hJ KB kd
            cases u
            all_goals
              go_wp2_with fail
              go_roundw
              case rel => exact ⟨3, by omega, by go_num, KD.out⟩
              case measure => simp [intOf]
          · obtain ⟨s, hs⟩ : ∃ s, slotV b2 k y2 = s := ⟨_, rfl⟩
            obtain ⟨f, hf⟩ : ∃ f, slotE b2 k y2 = f := ⟨_, rfl⟩
            obtain ⟨u, hu⟩ : ∃ u, winIn b2 k y2 = u := ⟨_, rfl⟩
            have hS := slot_any y2 hl2 HWt.out
            have hT := rslot_told y2 hl2 HVt.out
            rw [hs, hf] at hS hT
            clear hs hf
            have hidx := four_3 (x : Int) (z : Int) (y1 : Int) (y2 : Int)
            go_wp2_with fail
            refine hS.mono ?_
            rintro e wa ⟨rfl, rfl⟩
            go_wp2_with fail
            refine hT.mono ?_
            rintro e wb ⟨rfl, kb⟩
            have hI := in_any y2 hl2 (HWt.out.keep kb)
            have hJ := rin_any y2 (HVt.out.keep kb)
            have KB := Lib.hid (HKt.out.trans kb)
            rw [hu] at hI hJ
            clear hu hS hT kb HWt HVt HKt
            go_wp2_with fail
            refine hI.mono ?_
            rintro e wc ⟨rfl, rfl⟩
            go_wp2_with fail
            refine hJ.mono ?_
            rintro e wd ⟨rfl, kd⟩
            have KD := Lib.hid (KB.out.trans kd)
            clear hI hJ KB kd
            cases u
            all_goals
              go_wp2_with fail
              go_roundw
              case rel => exact ⟨4, by omega, by go_num, KD.out⟩
              case measure => simp [intOf]
        · obtain rfl : t = 4 := by omega
          have HU := Lib.hid (U8.out.keep HKt.out)
          have HV := Lib.hid (V8.out.keep HKt.out)
          have HKe := Lib.hid (HK8.out.trans HKt.out)
          clear U8 V8 HK8 HKt HW8 HV8
          go_wp2_with fail
          refine wp_region_noPanic ?_
          refine wp_region_held_drew (S := fun wz => Keep wr wz) (by kernel_rfl) (Keep.drew (Keep.refl _)) (fun hHeld => ?_)
          refine wpAnyH_take (i := 0) (v := ?_) rfl (by kernel_rfl) (by kernel_rfl) (by kernel_rfl) (fun _ _ _ h => h) (Or.inl ⟨by rfl, ?_⟩) hHeld ?_
          rotate_left
          · intro wq hSw
            go_simp
            all_goals with_reducible rfl
          try simp only [Act.put, List.getElem_toArray, List.getElem_cons_succ, List.getElem_cons_zero, List.setIfInBounds_toArray, List.set_cons_zero, List.set_cons_succ]
          refine wpAnyH_take (i := 1) (v := ?_) rfl (by kernel_rfl) (by kernel_rfl) (by kernel_rfl) (fun _ _ _ h => h) (Or.inl ⟨by rfl, ?_⟩) hHeld ?_
          rotate_left
          · intro wq hSw
            go_simp
            all_goals with_reducible rfl
          try simp only [Act.put, List.getElem_toArray, List.getElem_cons_succ, List.getElem_cons_zero, List.setIfInBounds_toArray, List.set_cons_zero, List.set_cons_succ]
          refine wpAnyH_ready (rs := [2]) (by kernel_rfl) (by simp) ?_
          refine AllReadyH.cons rfl (fun K hK => ?_) AllReadyH.nil
          go_simp
          refine (same_is (HU.out.keep hHeld) (HV.out.keep hHeld) rfl (by omega)).mono ?_
          rintro e v1 ⟨rfl, kk⟩
          have G1 := Lib.hid (Keep.trans hHeld kk)
          have c0 := fun wq (hSw : Keep v1 wq) => (HVt.out.keep (G1.out.trans hSw)).c0
          have c1 := fun wq (hSw : Keep v1 wq) => (HVt.out.keep (G1.out.trans hSw)).c1
          have hKp : Keep wr v1 := Keep.trans hHeld kk
          refine hK.out _ _ hKp (fun _ => ?_)
          clear hK K hHeld
          refine wpAnyH_strong (S' := fun wz => Keep v1 wz) (fun wz h => Keep.trans hKp h) _ _ _ _ ?_
          have hHeld : Keep v1 v1 := Keep.refl _
          try simp only [Act.put, List.getElem_toArray, List.getElem_cons_succ, List.getElem_cons_zero, List.setIfInBounds_toArray, List.set_cons_zero, List.set_cons_succ]
          refine wpAnyH_take (i := 3) (v := ?_) rfl (by kernel_rfl) (by kernel_rfl) (by kernel_rfl) (fun _ _ _ h => h) (Or.inl ⟨by rfl, ?_⟩) hHeld ?_
          rotate_left
          · intro wq hSw
            go_simp
            all_goals with_reducible rfl
          try simp only [Act.put, List.getElem_toArray, List.getElem_cons_succ, List.getElem_cons_zero, List.setIfInBounds_toArray, List.set_cons_zero, List.set_cons_succ]
          refine wpAnyH_take (i := 4) (v := ?_) rfl (by kernel_rfl) (by kernel_rfl) (by kernel_rfl) (fun _ _ _ h => h) (Or.inl ⟨by rfl, ?_⟩) hHeld ?_
          rotate_left
          · intro wq hSw
            go_simp
            all_goals with_reducible rfl
          try simp only [Act.put, List.getElem_toArray, List.getElem_cons_succ, List.getElem_cons_zero, List.setIfInBounds_toArray, List.set_cons_zero, List.set_cons_succ]
          refine wpAnyH_take (i := 5) (v := ?_) rfl (by kernel_rfl) (by kernel_rfl) (by kernel_rfl) (fun _ _ _ h => h) (Or.inl ⟨by rfl, ?_⟩) hHeld ?_
          rotate_left
          · intro wq hSw
            go_simp
            all_goals with_reducible rfl
          try simp only [Act.put, List.getElem_toArray, List.getElem_cons_succ, List.getElem_cons_zero, List.setIfInBounds_toArray, List.set_cons_zero, List.set_cons_succ]
          refine wpAnyH_take (i := 6) (v := ?_) rfl (by kernel_rfl) (by kernel_rfl) (by kernel_rfl) (fun _ _ _ h => h) (Or.inl ⟨by rfl, ?_⟩) hHeld ?_
          rotate_left
          · intro wq hSw
            go_simp
            all_goals with_reducible rfl
          try simp only [Act.put, List.getElem_toArray, List.getElem_cons_succ, List.getElem_cons_zero, List.setIfInBounds_toArray, List.set_cons_zero, List.set_cons_succ]
          refine wpAnyH_take (i := 7) (v := ?_) rfl (by kernel_rfl) (by kernel_rfl) (by kernel_rfl) (fun _ _ _ h => h) (Or.inl ⟨by rfl, ?_⟩) hHeld ?_
          rotate_left
          · intro wq hSw
            go_simp
            all_goals with_reducible rfl
          try simp only [Act.put, List.getElem_toArray, List.getElem_cons_succ, List.getElem_cons_zero, List.setIfInBounds_toArray, List.set_cons_zero, List.set_cons_succ]
          refine wpAnyH_take (i := 8) (v := ?_) rfl (by kernel_rfl) (by kernel_rfl) (by kernel_rfl) (fun _ _ _ h => h) (Or.inl ⟨by rfl, ?_⟩) hHeld ?_
          rotate_left
          · intro wq hSw
            go_simp
            all_goals with_reducible rfl
          try simp only [Act.put, List.getElem_toArray, List.getElem_cons_succ, List.getElem_cons_zero, List.setIfInBounds_toArray, List.set_cons_zero, List.set_cons_succ]
          refine wpAnyH_take (i := 9) (v := ?_) rfl (by kernel_rfl) (by kernel_rfl) (by kernel_rfl) (fun _ _ _ h => h) (Or.inl ⟨by rfl, ?_⟩) hHeld ?_
          rotate_left
          · intro wq hSw
            go_simp
            all_goals with_reducible rfl
          try simp only [Act.put, List.getElem_toArray, List.getElem_cons_succ, List.getElem_cons_zero, List.setIfInBounds_toArray, List.set_cons_zero, List.set_cons_succ]
          refine wpAnyH_take (i := 10) (v := ?_) rfl (by kernel_rfl) (by kernel_rfl) (by kernel_rfl) (fun _ _ _ h => h) (Or.inl ⟨by rfl, ?_⟩) hHeld ?_
          rotate_left
          · intro wq hSw
            go_simp
            all_goals with_reducible rfl
          try simp only [Act.put, List.getElem_toArray, List.getElem_cons_succ, List.getElem_cons_zero, List.setIfInBounds_toArray, List.set_cons_zero, List.set_cons_succ]
          refine wpAnyH_take (i := 12) (v := ?_) rfl (by kernel_rfl) (by kernel_rfl) (by kernel_rfl) (fun _ _ _ h => h) (Or.inl ⟨by rfl, ?_⟩) hHeld ?_
          rotate_left
          · intro wq hSw
            go_simp
            all_goals with_reducible rfl
          try simp only [Act.put, List.getElem_toArray, List.getElem_cons_succ, List.getElem_cons_zero, List.setIfInBounds_toArray, List.set_cons_zero, List.set_cons_succ]
          refine wpAnyH_take (i := 13) (v := ?_) rfl (by kernel_rfl) (by kernel_rfl) (by kernel_rfl) (fun _ _ _ h => h) (Or.inl ⟨by rfl, ?_⟩) hHeld ?_
          rotate_left
          · intro wq hSw
            go_simp
            all_goals with_reducible rfl
          try simp only [Act.put, List.getElem_toArray, List.getElem_cons_succ, List.getElem_cons_zero, List.setIfInBounds_toArray, List.set_cons_zero, List.set_cons_succ]
          refine wpAnyH_take (i := 14) (v := ?_) rfl (by kernel_rfl) (by kernel_rfl) (by kernel_rfl) (fun _ _ _ h => h) (Or.inl ⟨by rfl, ?_⟩) hHeld ?_
          rotate_left
          · intro wq hSw
            go_simp
            all_goals with_reducible rfl
          try simp only [Act.put, List.getElem_toArray, List.getElem_cons_succ, List.getElem_cons_zero, List.setIfInBounds_toArray, List.set_cons_zero, List.set_cons_succ]
          refine wpAnyH_take (i := 15) (v := ?_) rfl (by kernel_rfl) (by kernel_rfl) (by kernel_rfl) (fun _ _ _ h => h) (Or.inl ⟨by rfl, ?_⟩) hHeld ?_
          rotate_left
          · intro wq hSw
            have q0 := c0 wq hSw
            go_simp
            all_goals with_reducible rfl
          try simp only [Act.put, List.getElem_toArray, List.getElem_cons_succ, List.getElem_cons_zero, List.setIfInBounds_toArray, List.set_cons_zero, List.set_cons_succ]
          refine wpAnyH_ready (rs := [11]) (by kernel_rfl) (by simp) ?_
          refine AllReadyH.cons rfl (fun K hK => ?_) AllReadyH.nil
          go_simp
          refine (base_any (HWt.out.keep (G1.out.trans hHeld))).mono ?_
          rintro e vx ⟨rfl, hvx⟩
          have hvx2 := hvx.symm
          subst hvx2
          refine hK.out _ _ hHeld (fun hHeld => ?_)
          clear hK K
          try simp only [Act.put, List.getElem_toArray, List.getElem_cons_succ, List.getElem_cons_zero, List.setIfInBounds_toArray, List.set_cons_zero, List.set_cons_succ]
          refine wpAnyH_take (i := 16) (v := ?_) rfl (by kernel_rfl) (by kernel_rfl) (by kernel_rfl) (fun _ _ _ h => h) (Or.inl ⟨by rfl, ?_⟩) hHeld ?_
          rotate_left
          · intro wq hSw
            go_simp
            all_goals with_reducible rfl
          try simp only [Act.put, List.getElem_toArray, List.getElem_cons_succ, List.getElem_cons_zero, List.setIfInBounds_toArray, List.set_cons_zero, List.set_cons_succ]
          refine wpAnyH_take (i := 17) (v := ?_) rfl (by kernel_rfl) (by kernel_rfl) (by kernel_rfl) (fun _ _ _ h => h) (Or.inl ⟨by rfl, ?_⟩) hHeld ?_
          rotate_left
          · intro wq hSw
            go_simp
            all_goals with_reducible rfl
          try simp only [Act.put, List.getElem_toArray, List.getElem_cons_succ, List.getElem_cons_zero, List.setIfInBounds_toArray, List.set_cons_zero, List.set_cons_succ]
          refine wpAnyH_take (i := 18) (v := ?_) rfl (by kernel_rfl) (by kernel_rfl) (by kernel_rfl) (fun _ _ _ h => h) (Or.inl ⟨by rfl, ?_⟩) hHeld ?_
          rotate_left
          · intro wq hSw
            go_simp
            all_goals with_reducible rfl
          try simp only [Act.put, List.getElem_toArray, List.getElem_cons_succ, List.getElem_cons_zero, List.setIfInBounds_toArray, List.set_cons_zero, List.set_cons_succ]
          refine wpAnyH_take (i := 19) (v := ?_) rfl (by kernel_rfl) (by kernel_rfl) (by kernel_rfl) (fun _ _ _ h => h) (Or.inl ⟨by rfl, ?_⟩) hHeld ?_
          rotate_left
          · intro wq hSw
            go_simp
            all_goals with_reducible rfl
          try simp only [Act.put, List.getElem_toArray, List.getElem_cons_succ, List.getElem_cons_zero, List.setIfInBounds_toArray, List.set_cons_zero, List.set_cons_succ]
          refine wpAnyH_take (i := 21) (v := ?_) rfl (by kernel_rfl) (by kernel_rfl) (by kernel_rfl) (fun _ _ _ h => h) (Or.inl ⟨by rfl, ?_⟩) hHeld ?_
          rotate_left
          · intro wq hSw
            go_simp
            all_goals with_reducible rfl
          try simp only [Act.put, List.getElem_toArray, List.getElem_cons_succ, List.getElem_cons_zero, List.setIfInBounds_toArray, List.set_cons_zero, List.set_cons_succ]
          refine wpAnyH_ready (rs := [20]) (by kernel_rfl) (by simp) ?_
          refine AllReadyH.cons rfl (fun K hK => ?_) AllReadyH.nil
          go_simp
          refine (end_any (HWt.out.keep (G1.out.trans hHeld))).mono ?_
          rintro e vx ⟨rfl, hvx⟩
          have hvx2 := hvx.symm
          subst hvx2
          refine hK.out _ _ hHeld (fun hHeld => ?_)
          clear hK K
          try simp only [Act.put, List.getElem_toArray, List.getElem_cons_succ, List.getElem_cons_zero, List.setIfInBounds_toArray, List.set_cons_zero, List.set_cons_succ]
          refine wpAnyH_ready (rs := [22]) (by kernel_rfl) (by simp) ?_
          refine AllReadyH.cons rfl (fun K hK => ?_) AllReadyH.nil
          go_simp
          refine (rend_any (HVt.out.keep (G1.out.trans hHeld))).mono ?_
          rintro e v2 ⟨rfl, kk⟩
          have G2 := Lib.hid (G1.out.trans (Keep.trans hHeld kk))
          have d0 := fun wq (hSw : Keep v2 wq) => (HVt.out.keep (G2.out.trans hSw)).c0
          have d1 := fun wq (hSw : Keep v2 wq) => (HVt.out.keep (G2.out.trans hSw)).c1
          have hKp : Keep v1 v2 := Keep.trans hHeld kk
          refine hK.out _ _ hKp (fun _ => ?_)
          clear hK K hHeld
          refine wpAnyH_strong (S' := fun wz => Keep v2 wz) (fun wz h => Keep.trans hKp h) _ _ _ _ ?_
          have hHeld : Keep v2 v2 := Keep.refl _
          try simp only [Act.put, List.getElem_toArray, List.getElem_cons_succ, List.getElem_cons_zero, List.setIfInBounds_toArray, List.set_cons_zero, List.set_cons_succ]
          refine wpAnyH_take (i := 23) (v := ?_) rfl (by kernel_rfl) (by kernel_rfl) (by kernel_rfl) (fun _ _ _ h => h) (Or.inl ⟨by rfl, ?_⟩) hHeld ?_
          rotate_left
          · intro wq hSw
            go_simp
            all_goals with_reducible rfl
          try simp only [Act.put, List.getElem_toArray, List.getElem_cons_succ, List.getElem_cons_zero, List.setIfInBounds_toArray, List.set_cons_zero, List.set_cons_succ]
          refine wpAnyH_take (i := 24) (v := ?_) rfl (by kernel_rfl) (by kernel_rfl) (by kernel_rfl) (fun _ _ _ h => h) (Or.inl ⟨by rfl, ?_⟩) hHeld ?_
          rotate_left
          · intro wq hSw
            go_simp
            all_goals with_reducible rfl
          try simp only [Act.put, List.getElem_toArray, List.getElem_cons_succ, List.getElem_cons_zero, List.setIfInBounds_toArray, List.set_cons_zero, List.set_cons_succ]
          refine wpAnyH_take (i := 25) (v := ?_) rfl (by kernel_rfl) (by kernel_rfl) (by kernel_rfl) (fun _ _ _ h => h) (Or.inl ⟨by rfl, ?_⟩) hHeld ?_
          rotate_left
          · intro wq hSw
            go_simp
            all_goals with_reducible rfl
          try simp only [Act.put, List.getElem_toArray, List.getElem_cons_succ, List.getElem_cons_zero, List.setIfInBounds_toArray, List.set_cons_zero, List.set_cons_succ]
          refine wpAnyH_take (i := 26) (v := ?_) rfl (by kernel_rfl) (by kernel_rfl) (by kernel_rfl) (fun _ _ _ h => h) (Or.inl ⟨by rfl, ?_⟩) hHeld ?_
          rotate_left
          · intro wq hSw
            go_simp
            all_goals with_reducible rfl
          try simp only [Act.put, List.getElem_toArray, List.getElem_cons_succ, List.getElem_cons_zero, List.setIfInBounds_toArray, List.set_cons_zero, List.set_cons_succ]
          refine wpAnyH_take (i := 28) (v := ?_) rfl (by kernel_rfl) (by kernel_rfl) (by kernel_rfl) (fun _ _ _ h => h) (Or.inl ⟨by rfl, ?_⟩) hHeld ?_
          rotate_left
          · intro wq hSw
            go_simp
            all_goals with_reducible rfl
          try simp only [Act.put, List.getElem_toArray, List.getElem_cons_succ, List.getElem_cons_zero, List.setIfInBounds_toArray, List.set_cons_zero, List.set_cons_succ]
          refine wpAnyH_take (i := 29) (v := ?_) rfl (by kernel_rfl) (by kernel_rfl) (by kernel_rfl) (fun _ _ _ h => h) (Or.inl ⟨by rfl, ?_⟩) hHeld ?_
          rotate_left
          · intro wq hSw
            go_simp
            all_goals with_reducible rfl
          try simp only [Act.put, List.getElem_toArray, List.getElem_cons_succ, List.getElem_cons_zero, List.setIfInBounds_toArray, List.set_cons_zero, List.set_cons_succ]
          refine wpAnyH_take (i := 30) (v := ?_) rfl (by kernel_rfl) (by kernel_rfl) (by kernel_rfl) (fun _ _ _ h => h) (Or.inl ⟨by rfl, ?_⟩) hHeld ?_
          rotate_left
          · intro wq hSw
            go_simp
            all_goals with_reducible rfl
          try simp only [Act.put, List.getElem_toArray, List.getElem_cons_succ, List.getElem_cons_zero, List.setIfInBounds_toArray, List.set_cons_zero, List.set_cons_succ]
          refine wpAnyH_take (i := 31) (v := ?_) rfl (by kernel_rfl) (by kernel_rfl) (by kernel_rfl) (fun _ _ _ h => h) (Or.inl ⟨by rfl, ?_⟩) hHeld ?_
          rotate_left
          · intro wq hSw
            have q0 := d1 wq hSw
            go_simp
            all_goals with_reducible rfl
          try simp only [Act.put, List.getElem_toArray, List.getElem_cons_succ, List.getElem_cons_zero, List.setIfInBounds_toArray, List.set_cons_zero, List.set_cons_succ]
          refine wpAnyH_ready (rs := [27]) (by kernel_rfl) (by simp) ?_
          refine AllReadyH.cons rfl (fun K hK => ?_) AllReadyH.nil
          go_simp
          refine (width_any (HWt.out.keep (G2.out.trans hHeld))).mono ?_
          rintro e vx ⟨rfl, hvx⟩
          have hvx2 := hvx.symm
          subst hvx2
          refine hK.out _ _ hHeld (fun hHeld => ?_)
          clear hK K
          try simp only [Act.put, List.getElem_toArray, List.getElem_cons_succ, List.getElem_cons_zero, List.setIfInBounds_toArray, List.set_cons_zero, List.set_cons_succ]
          refine wpAnyH_take (i := 32) (v := ?_) rfl (by kernel_rfl) (by kernel_rfl) (by kernel_rfl) (fun _ _ _ h => h) (Or.inl ⟨by rfl, ?_⟩) hHeld ?_
          rotate_left
          · intro wq hSw
            go_simp
            all_goals with_reducible rfl
          try simp only [Act.put, List.getElem_toArray, List.getElem_cons_succ, List.getElem_cons_zero, List.setIfInBounds_toArray, List.set_cons_zero, List.set_cons_succ]
          refine wpAnyH_take (i := 33) (v := ?_) rfl (by kernel_rfl) (by kernel_rfl) (by kernel_rfl) (fun _ _ _ h => h) (Or.inl ⟨by rfl, ?_⟩) hHeld ?_
          rotate_left
          · intro wq hSw
            go_simp
            all_goals with_reducible rfl
          try simp only [Act.put, List.getElem_toArray, List.getElem_cons_succ, List.getElem_cons_zero, List.setIfInBounds_toArray, List.set_cons_zero, List.set_cons_succ]
          refine wpAnyH_take (i := 34) (v := ?_) rfl (by kernel_rfl) (by kernel_rfl) (by kernel_rfl) (fun _ _ _ h => h) (Or.inl ⟨by rfl, ?_⟩) hHeld ?_
          rotate_left
          · intro wq hSw
            go_simp
            all_goals with_reducible rfl
          try simp only [Act.put, List.getElem_toArray, List.getElem_cons_succ, List.getElem_cons_zero, List.setIfInBounds_toArray, List.set_cons_zero, List.set_cons_succ]
          refine wpAnyH_take (i := 35) (v := ?_) rfl (by kernel_rfl) (by kernel_rfl) (by kernel_rfl) (fun _ _ _ h => h) (Or.inl ⟨by rfl, ?_⟩) hHeld ?_
          rotate_left
          · intro wq hSw
            go_simp
            all_goals with_reducible rfl
          try simp only [Act.put, List.getElem_toArray, List.getElem_cons_succ, List.getElem_cons_zero, List.setIfInBounds_toArray, List.set_cons_zero, List.set_cons_succ]
          refine wpAnyH_take (i := 37) (v := ?_) rfl (by kernel_rfl) (by kernel_rfl) (by kernel_rfl) (fun _ _ _ h => h) (Or.inl ⟨by rfl, ?_⟩) hHeld ?_
          rotate_left
          · intro wq hSw
            go_simp
            all_goals with_reducible rfl
          try simp only [Act.put, List.getElem_toArray, List.getElem_cons_succ, List.getElem_cons_zero, List.setIfInBounds_toArray, List.set_cons_zero, List.set_cons_succ]
          refine wpAnyH_ready (rs := [36]) (by kernel_rfl) (by simp) ?_
          refine AllReadyH.cons rfl (fun K hK => ?_) AllReadyH.nil
          go_simp
          refine (all_any _ _ _ _ (HWt.out.keep (G2.out.trans hHeld))).mono ?_
          rintro e v3 ⟨A9, n9, q9, rfl, o9, kk⟩
          have G3 := Lib.hid (G2.out.trans (Keep.trans hHeld kk))
          have U9 := Lib.hid o9.ins
          have hn9 : n9 ≤ k := by rw [← o9.length]; exact winL_le b2 k
          clear o9
          have hKp : Keep v2 v3 := Keep.trans hHeld kk
          refine hK.out _ _ hKp (fun _ => ?_)
          clear hK K hHeld
          refine wpAnyH_strong (S' := fun wz => Keep v3 wz) (fun wz h => Keep.trans hKp h) _ _ _ _ ?_
          have hHeld : Keep v3 v3 := Keep.refl _
          try simp only [Act.put, List.getElem_toArray, List.getElem_cons_succ, List.getElem_cons_zero, List.setIfInBounds_toArray, List.set_cons_zero, List.set_cons_succ]
          refine wpAnyH_ready (rs := [38]) (by kernel_rfl) (by simp) ?_
          refine AllReadyH.cons rfl (fun K hK => ?_) AllReadyH.nil
          go_simp
          refine (rall_any (HVt.out.keep (G3.out.trans hHeld))).mono ?_
          rintro e v4 ⟨Aa, na, qa, rfl, oa, kk⟩
          have GA := Lib.hid (G3.out.trans (Keep.trans hHeld kk))
          have UA := Lib.hid oa.ins
          have UB := Lib.hid (U9.out.keep (Keep.trans hHeld kk))
          clear oa
          have hKp : Keep v3 v4 := Keep.trans hHeld kk
          refine hK.out _ _ hKp (fun _ => ?_)
          clear hK K hHeld
          refine wpAnyH_strong (S' := fun wz => Keep v4 wz) (fun wz h => Keep.trans hKp h) _ _ _ _ ?_
          have hHeld : Keep v4 v4 := Keep.refl _
          try simp only [Act.put, List.getElem_toArray, List.getElem_cons_succ, List.getElem_cons_zero, List.setIfInBounds_toArray, List.set_cons_zero, List.set_cons_succ]
          refine wpAnyH_ready (rs := [39]) (by kernel_rfl) (by simp) ?_
          refine AllReadyH.cons rfl (fun K hK => ?_) AllReadyH.nil
          go_simp
          refine (same_is (UB.out.keep hHeld) (UA.out.keep hHeld) rfl (by omega)).mono ?_
          rintro e v5 ⟨rfl, kk⟩
          have G4 := Lib.hid (GA.out.trans (Keep.trans hHeld kk))
          have hKp : Keep v4 v5 := Keep.trans hHeld kk
          refine hK.out _ _ hKp (fun _ => ?_)
          clear hK K hHeld
          refine wpAnyH_strong (S' := fun wz => Keep v5 wz) (fun wz h => Keep.trans hKp h) _ _ _ _ ?_
          have hHeld : Keep v5 v5 := Keep.refl _
          try simp only [Act.put, List.getElem_toArray, List.getElem_cons_succ, List.getElem_cons_zero, List.setIfInBounds_toArray, List.set_cons_zero, List.set_cons_succ]
          refine wpAnyH_take (i := 40) (v := ?_) rfl (by kernel_rfl) (by kernel_rfl) (by kernel_rfl) (fun _ _ _ h => h) (Or.inl ⟨by rfl, ?_⟩) hHeld ?_
          rotate_left
          · intro wq hSw
            go_simp
            all_goals with_reducible rfl
          try simp only [Act.put, List.getElem_toArray, List.getElem_cons_succ, List.getElem_cons_zero, List.setIfInBounds_toArray, List.set_cons_zero, List.set_cons_succ]
          refine wpAnyH_take (i := 41) (v := ?_) rfl (by kernel_rfl) (by kernel_rfl) (by kernel_rfl) (fun _ _ _ h => h) (Or.inl ⟨by rfl, ?_⟩) hHeld ?_
          rotate_left
          · intro wq hSw
            go_simp
            all_goals with_reducible rfl
          try simp only [Act.put, List.getElem_toArray, List.getElem_cons_succ, List.getElem_cons_zero, List.setIfInBounds_toArray, List.set_cons_zero, List.set_cons_succ]
          refine wpAnyH_done (by kernel_rfl) ?_ _
          refine NoPanic.normal ?_
          clear hHeld
          go_wp2_with fail
          go_roundw
          case rel => exact ⟨j + 1, b2, by omega, by go_num, HWt.out.keep G4.out, HVt.out.keep G4.out, HKe.out.trans G4.out⟩
          case measure => simp [intOf]; omega
    · have d1 : decide ((j : Int) < (n : Int) ∧ (j : Int) < 40) = false := decide_eq_false (by omega)
      by_cases h1 : j < n
      · have e2 : (j : Int) < (n : Int) := by omega
        have e3 : ¬ (j : Int) < 40 := by omega
        clear d1 hlt
        go_wp2_with fail
        go_ret
        exact ⟨rfl, HK.out⟩
      · have e2 : ¬ (j : Int) < (n : Int) := by omega
        clear d1 hlt
        go_wp2_with fail
        go_ret
        exact ⟨rfl, HK.out⟩
set_option maxRecDepth 100000 in
theorem plays_any (wd : Int) (n c x : Nat) (A : Option Addr) (l : List Nat) (W : World) (h : UsIn W (fun _ => True) A n l) (hz : ∀ z ∈ l, z < 18446744073709551616) (hn : n ≤ 140737488355328) (hx : x < 18446744073709551616) :
    Calls Try.prog 3 #[.int .i64 wd, .slice A n c, .int .u64 (x : Int)] W fun e w' => e = .returned (.bool true) ∧ Keep W w' := by
  by_cases hw : wd < 1 ∨ 16 < wd
  · exact plays_out wd n c x A W hw
  · obtain ⟨k, rfl⟩ := Int.eq_ofNat_of_zero_le (show 0 ≤ wd by omega)
    exact plays_in k n c x A l W (by omega) (by omega) h hz hn hx
end Go.Proofs.Ytcalinimooiciaa
