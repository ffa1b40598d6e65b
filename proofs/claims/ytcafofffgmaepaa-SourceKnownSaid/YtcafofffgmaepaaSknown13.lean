/- SourceKnown: examples; errors; none. -/
import Derived.Test.YtcafofffgmaepaaSL
namespace Go.Proofs.Ytcafofffgmaepaa
open Go.RowKit
set_option linter.unusedVariables false
set_option linter.unusedSimpArgs false
theorem size255 : SizeS 255 65535 16711425 := ⟨by decide, by decide, by decide, by decide, by decide, by decide, by decide, by decide, by decide⟩
/-- Many noughts, behind a name. -/
theorem big_made (n : Nat) (hn : n ≤ 300000) : ∃ (C : Array Value) (Z : List Nat), Z.length = n ∧ (∀ w, (Instr.makeSlice 22 (.int .i64 (n : Int)) (.int .i64 (n : Int))).run Try.prog w = .ok (.slice (some ⟨w.heap.size, 0, none⟩) n n) (w.alloc (.cells C 5))) ∧ ∀ w : World, Bytes (w.alloc (.cells C 5)) (w.heap.size + 1) (some ⟨w.heap.size, 0, none⟩) n Z := by
  refine ⟨madeCells #[.int .u8 0] n, List.replicate n 0, by simp, fun w => run_make_bytes (P := Try.prog) Try.underlying22 info5 n (by omega) w, fun w => ?_⟩
  have h := (Own.made w 5 n (by omega)).bytes
  simpa using h
theorem big_sub (Z : List Nat) (hZ : Z.length = 262144) : subE 16711425 false [] [] Z 1 = 0 ∧ subX 16711425 false [] [] Z 1 = Z := by
  have hw : wouldN (16711425 - 4) [] ([] ++ Z) = 1 := by
    rw [would_div (by decide) (fun c h => by simp at h), (gens_bare (by decide)).1, (gens_bare (by decide)).2.1, hZ]
    decide
  have h0 : subE 16711425 false [] [] Z 1 = 0 := by
    rw [subE, if_neg (by simp), if_neg]
    rintro (e | e)
    · rw [hZ] at e; simp at e
    · omega
  exact ⟨h0, by rw [subX, if_pos h0, List.nil_append]⟩
theorem big_full (Z ys : List Nat) (hZ : Z.length = 262144) (hy : 0 < ys.length) : subE 16711425 false Z [] ys 1 = 7 := by
  rw [subE, if_neg (by simp), if_pos (Or.inl (by omega))]
set_option maxRecDepth 100000 in
set_option maxHeartbeats 16000000 in
theorem sknown_any (w : World) : Calls Try.prog 6 #[] w fun e w' => e = .returned (.bool true) ∧ Keep w w' := by
  have kc := fun (w : World) (C : Array Value) (n c : Nat) => Lib.run_convert_bytes_const (P := Try.prog) w 22 5 C n c Try.underlying22 Try.underlying5
  have g0 := GoodS.start size236
  have e1 : subE 6 false [] [] [97, 98, 99, 100, 101] 2 = 7 := by decide +kernel
  have e1' : subX 6 false [] [] [97, 98, 99, 100, 101] 2 = [] := by decide +kernel
  have e2 : subE 6 false [] [] [] 0 = 0 := by decide +kernel
  have e2' : subX 6 false [] [] [] 0 = [] := by decide +kernel
  have e3 : subE 6 false [] [] [97, 98] 1 = 0 := by decide +kernel
  have e3' : subX 6 false [] [] [97, 98] 1 = [97, 98] := by decide +kernel
  have e0' : gensN 2 [] [] = [] := by decide +kernel
  have e4 : gensN 2 [] [97, 98] = [[97, 98]] := by decide +kernel
  have e5 : flushC 6 false [97, 98] [] = [] := by decide +kernel
  have e6 : subE 6 true [97, 98] [] [120] 9 = 27 := by decide +kernel
  have e6' : subX 6 true [97, 98] [] [120] 9 = [97, 98] := by decide +kernel
  have e7 : flushC 6 true [97, 98] [] = [] := by decide +kernel
  have g1 := g0.sub false [97, 98] 1
  rw [e3', show 6 - 4 = 2 from rfl, e4] at g1
  have G0 := Lib.hid g0
  have G1 := Lib.hid g1
  have GB := Lib.hid (GoodS.start size255)
  obtain ⟨C1, Z1, hZ1, mk1, hB1⟩ := big_made 262145 (by decide)
  obtain ⟨C2, Z2, hZ2, mk2, hB2⟩ := big_made 262144 (by decide)
  have HZ1 := Lib.hid hZ1
  have HZ2 := Lib.hid hZ2
  have HB1 := Lib.hid hB1
  have HB2 := Lib.hid hB2
  rw [show ((262145 : Nat) : Int) = 262145 from rfl] at mk1
  rw [show ((262144 : Nat) : Int) = 262144 from rfl] at mk2
  clear g0 g1 hZ1 hZ2 hB1 hB2
  go_enter Try.func6, Try.ntmps6
  go_wp2_with fail
  refine (sawake_any w).mono ?_
  rintro e w1 ⟨rfl, k1⟩
  have K1 := Lib.hid k1
  clear k1
  go_wp2_with fail
  refine (new_good 2 3 6 size236 w1).mono ?_
  rintro e w2 ⟨b, F2, rfl, s2, f2, k2⟩
  have S2 := Lib.hid s2
  have F2' : Hid (∀ i, F2 i → w.heap.size ≤ i) := fun i hi => Nat.le_trans K1.out.size (f2 i hi)
  have K2 : Hid (Keep w w2) := K1.out.trans k2
  clear s2 f2 k2 K1
  go_wp2_with fail
  obtain ⟨v2, hv2, zv2, kv2, bv2⟩ := one_const w2 #[.int .u8 97, .int .u8 98, .int .u8 99, .int .u8 100, .int .u8 101] 5 (5, 6)
  try rw [hv2]
  have HB := Lib.hid ((block_lies (n := 5) (xs := [97, 98, 99, 100, 101]) bv2 rfl rfl (by decide) (fun x => x < v2.heap.size) (by show w2.heap.size < _; omega)).bytes fun x hx => hx)
  have KV : Hid (Keep w v2) := K2.out.trans kv2
  have SV := Lib.hid (S2.out.keep kv2)
  clear hv2 zv2 kv2 bv2
  have HC := Lib.hid (submit_any (most := 2) SV.out G0.out v2.heap.size 5 5 _ HB.out (Nat.le_refl _) (by omega))
  rw [e1, e1', show 6 - 4 = 2 from rfl, e0'] at HC
  refine HC.out.mono ?_
  rintro e w3 ⟨rfl, F3, s3, t3, f3⟩
  have S3 := Lib.hid s3
  have K3 : Hid (Keep w w3) := t3.keep KV.out F2'.out
  have F3' : Hid (∀ i, F3 i → w.heap.size ≤ i) := fun i hi => by
    rcases f3 i hi with e | e
    · exact F2'.out i e
    · exact Nat.le_trans KV.out.size e
  clear s3 t3 f3 HC HB KV SV S2 K2 F2'
  go_wp2_with fail
  have HC := Lib.hid (submit_any (most := 0) (ys := []) S3.out G0.out w3.heap.size 0 0 none (Bytes.nil _ _ _) (Nat.le_refl _) (by omega))
  rw [e2, e2', show 6 - 4 = 2 from rfl, e0'] at HC
  refine HC.out.mono ?_
  rintro e w4 ⟨rfl, F4, s4, t4, f4⟩
  have S4 := Lib.hid s4
  have K4 : Hid (Keep w w4) := t4.keep K3.out F3'.out
  have F4' : Hid (∀ i, F4 i → w.heap.size ≤ i) := fun i hi => by
    rcases f4 i hi with e | e
    · exact F3'.out i e
    · exact Nat.le_trans K3.out.size e
  clear s4 t4 f4 HC  S3 K3 F3'
  go_wp2_with fail
  have HC := Lib.hid (syms_any S4.out G0.out 0 (by decide))
  rw [show symE [] 0 = 23 from rfl] at HC
  refine HC.out.mono ?_
  rintro e w5 ⟨YA, yn, yc, rfl, hy⟩
  have k5 : Keep w4 w5 := hy.2.2.2
  have S5 := Lib.hid (S4.out.keep k5)
  have K5 : Hid (Keep w w5) := K4.out.trans k5
  have F5' := F4'
  clear hy k5 HC S4 K4 F4'
  go_wp2_with fail
  obtain ⟨v5, hv5, zv5, kv5, bv5⟩ := one_const w5 #[.int .u8 97, .int .u8 98] 5 (2, 3)
  try rw [hv5]
  have HB := Lib.hid ((block_lies (n := 2) (xs := [97, 98]) bv5 rfl rfl (by decide) (fun x => x < v5.heap.size) (by show w5.heap.size < _; omega)).bytes fun x hx => hx)
  have KV : Hid (Keep w v5) := K5.out.trans kv5
  have SV := Lib.hid (S5.out.keep kv5)
  clear hv5 zv5 kv5 bv5
  have HC := Lib.hid (submit_any (most := 1) SV.out G0.out v5.heap.size 2 2 _ HB.out (Nat.le_refl _) (by omega))
  rw [e3, e3', show 6 - 4 = 2 from rfl, e4] at HC
  refine HC.out.mono ?_
  rintro e w6 ⟨rfl, F6, s6, t6, f6⟩
  have S6 := Lib.hid s6
  have K6 : Hid (Keep w w6) := t6.keep KV.out F5'.out
  have F6' : Hid (∀ i, F6 i → w.heap.size ≤ i) := fun i hi => by
    rcases f6 i hi with e | e
    · exact F5'.out i e
    · exact Nat.le_trans KV.out.size e
  clear s6 t6 f6 HC HB KV SV S5 K5 F5'
  go_wp2_with fail
  obtain ⟨v6, hv6, zv6, kv6, bv6⟩ := one_block w6 #[.int .u8 1] 5
  try rw [hv6]
  have HB := Lib.hid ((block_lies (n := 1) (xs := [1]) bv6 rfl rfl (by decide) (fun x => x < v6.heap.size) (by show w6.heap.size < _; omega)).bytes fun x hx => hx)
  have HC := Lib.hid (rowm_any (S6.out.keep kv6) G1.out 0 (by decide) v6.heap.size 1 1 _ [1] HB.out (Nat.le_refl _))
  rw [show rowE 2 [[97, 98]] 0 [1].length = 21 by decide +kernel] at HC
  have KV : Hid (Keep w6 v6) := kv6
  clear hv6 zv6 kv6 bv6
  refine HC.out.mono ?_
  rintro e w7a ⟨YA, yn, yc, YB, yn2, yc2, rfl, _, _, ky⟩
  obtain ⟨w7, hw7, _, kw7, _⟩ := one_block w7a #[.slice YA yn yc, .slice YB yn2 yc2] 56
  have k7 : Keep w6 w7 := (KV.out.trans ky).trans kw7
  have S7 := Lib.hid (S6.out.keep k7)
  have K7 : Hid (Keep w w7) := K6.out.trans k7
  have F7' := F6'
  clear ky kw7 k7 HC HB KV S6 K6 F6'
  go_wp2_with fail
  try rw [hw7]
  clear hw7
  have HC := Lib.hid (close_any S7.out G1.out (by decide))
  rw [e5, show flushE false = 0 from rfl, show 6 - 4 = 2 from rfl, e4] at HC
  refine HC.out.mono ?_
  rintro e w8 ⟨rfl, F8, s8, t8, f8⟩
  have S8 := Lib.hid s8
  have K8 : Hid (Keep w w8) := t8.keep K7.out F7'.out
  have F8' : Hid (∀ i, F8 i → w.heap.size ≤ i) := fun i hi => by
    rcases f8 i hi with e | e
    · exact F7'.out i e
    · exact Nat.le_trans K7.out.size e
  clear s8 t8 f8 HC  S7 K7 F7'
  go_wp2_with fail
  obtain ⟨v8, hv8, zv8, kv8, bv8⟩ := one_const w8 #[.int .u8 120] 5 (1, 2)
  try rw [hv8]
  have HB := Lib.hid ((block_lies (n := 1) (xs := [120]) bv8 rfl rfl (by decide) (fun x => x < v8.heap.size) (by show w8.heap.size < _; omega)).bytes fun x hx => hx)
  have KV : Hid (Keep w v8) := K8.out.trans kv8
  have SV := Lib.hid (S8.out.keep kv8)
  clear hv8 zv8 kv8 bv8
  have HC := Lib.hid (submit_any (most := 9) SV.out G1.out v8.heap.size 1 1 _ HB.out (Nat.le_refl _) (by omega))
  rw [e6, e6', show 6 - 4 = 2 from rfl, e4] at HC
  refine HC.out.mono ?_
  rintro e w9 ⟨rfl, F9, s9, t9, f9⟩
  have S9 := Lib.hid s9
  have K9 : Hid (Keep w w9) := t9.keep KV.out F8'.out
  have F9' : Hid (∀ i, F9 i → w.heap.size ≤ i) := fun i hi => by
    rcases f9 i hi with e | e
    · exact F8'.out i e
    · exact Nat.le_trans KV.out.size e
  clear s9 t9 f9 HC HB KV SV S8 K8 F8'
  go_wp2_with fail
  have HC := Lib.hid (flush_any S9.out G1.out (by decide))
  rw [e7, show flushE true = 27 from rfl, show 6 - 4 = 2 from rfl, e4] at HC
  refine HC.out.mono ?_
  rintro e w10 ⟨rfl, F10, s10, t10, f10⟩
  have S10 := Lib.hid s10
  have K10 : Hid (Keep w w10) := t10.keep K9.out F9'.out
  have F10' : Hid (∀ i, F10 i → w.heap.size ≤ i) := fun i hi => by
    rcases f10 i hi with e | e
    · exact F9'.out i e
    · exact Nat.le_trans K9.out.size e
  clear s10 t10 f10 HC  S9 K9 F9'
  go_wp2_with fail
  have HC := Lib.hid (close_any S10.out G1.out (by decide))
  rw [e7, show flushE true = 27 from rfl, show 6 - 4 = 2 from rfl, e4] at HC
  refine HC.out.mono ?_
  rintro e w11 ⟨rfl, F11, s11, t11, f11⟩
  have S11 := Lib.hid s11
  have K11 : Hid (Keep w w11) := t11.keep K10.out F10'.out
  have F11' : Hid (∀ i, F11 i → w.heap.size ≤ i) := fun i hi => by
    rcases f11 i hi with e | e
    · exact F10'.out i e
    · exact Nat.le_trans K10.out.size e
  clear s11 t11 f11 HC  S10 K10 F10'
  go_wp2_with fail
  refine (new_bad 1 4 (by decide) w11).mono ?_
  rintro e w12 ⟨rfl, k12⟩
  have K12 : Hid (Keep w w12) := K11.out.trans k12
  clear k12 K11 S11 F11'
  go_wp2_with fail
  obtain ⟨v12, hv12, zv12, kv12, bv12⟩ := one_const w12 #[.int .u8 97] 5 (1, 2)
  have HB := (block_lies (n := 1) (xs := [97]) bv12 rfl rfl (by decide) (fun x => x < v12.heap.size) (by show w12.heap.size < _; omega)).bytes fun x hx => hx
  have HR := restore_told 2 3 1 0 1 0 _ none _ [] true v12 (by decide) (by decide) HB (Nat.le_refl _) ⟨rfl, fun h => absurd h (by omega)⟩ (by decide)
  have HR2 : Hid (Calls Try.prog 11 #[.int .i64 2, .int .i64 3, .slice (some ⟨w12.heap.size, 0, none⟩) 1 1, .slice none 0 0, .bool true] v12 fun e w'' => e = .returned (.tuple #[.pointer none, .int .i64 1]) ∧ Keep v12 w'') := by
    rcases HR with ⟨h1, _⟩ | ⟨G, S, P, cs, hg, hs, hz, hG, hm, hcl, _, _⟩
    · exact h1 v12 (Keep.refl _)
    · exfalso
      have := hcl rfl
      obtain rfl : G = 2 := by omega
      obtain rfl : S = 3 := by omega
      obtain rfl : P = 6 := hz.eq.symm
      obtain rfl : cs = [] := by simpa using hm.symm
      exact absurd (show openN 2 [] [97] = [] from this) (by decide +kernel)
  have KV : Hid (Keep w v12) := K12.out.trans kv12
  try rw [hv12]
  skip
  clear HR HB zv12 kv12 bv12  hv12 K12
  refine HR2.out.mono ?_
  rintro e w13 ⟨rfl, k13⟩
  have K13 : Hid (Keep w w13) := KV.out.trans k13
  clear k13 KV HR2
  go_wp2_with fail
  obtain ⟨v13, hv13, zv13, kv13, bv13⟩ := one_const w13 #[.int .u8 97] 5 (1, 2)
  obtain ⟨u13, hu13, zu13, ku13, bu13⟩ := one_block v13 #[.int .i64 2] 3
  have hzz : v13.heap.size = w13.heap.size + 1 := zv13
  rw [hzz] at bu13
  have HB := (block_lies (n := 1) (xs := [97]) (block_keep bv13 ku13) rfl rfl (by decide) (fun x => x < u13.heap.size) (by show w13.heap.size < _; omega)).bytes fun x hx => hx
  have HI : IntsAt u13 u13.heap.size (some ⟨w13.heap.size + 1, 0, none⟩) 1 [2] := ⟨rfl, fun _ => ⟨_, 0, rfl, by omega, fun j z hz => by
    match j, hz with
    | 0, hz =>
      simp at hz
      subst hz
      simp [World.cell?, bu13]
    | j + 1, hz => simp at hz⟩⟩
  have HR := restore_told 2 3 1 1 1 1 _ (some ⟨w13.heap.size + 1, 0, none⟩) _ [2] false u13 (by decide) (by decide) HB (Nat.le_refl _) HI (by decide)
  have HR2 : Hid (Calls Try.prog 11 #[.int .i64 2, .int .i64 3, .slice (some ⟨w13.heap.size, 0, none⟩) 1 1, .slice (some ⟨w13.heap.size + 1, 0, none⟩) 1 1, .bool false] u13 fun e w'' => e = .returned (.tuple #[.pointer none, .int .i64 1]) ∧ Keep u13 w'') := by
    rcases HR with ⟨h1, _⟩ | ⟨G, S, P, cs, hg, hs, hz, hG, hm, hcl, _, _⟩
    · exact h1 u13 (Keep.refl _)
    · exfalso
      match cs, hm, hG with
      | [c], hm, hG =>
        have hc : c = 2 := by simp at hm; omega
        have := hG.le c (by simp)
        simp at this
        omega
      | [], hm, _ => simp at hm
      | _ :: _ :: _, hm, _ => simp at hm
  have KV : Hid (Keep w u13) := K13.out.trans (kv13.trans ku13)
  try rw [hv13]
  try rw [hu13]
  clear HR HB zv13 kv13 bv13 HI hu13 zu13 ku13 bu13 hzz hv13 K13
  refine HR2.out.mono ?_
  rintro e w14 ⟨rfl, k14⟩
  have K14 : Hid (Keep w w14) := KV.out.trans k14
  clear k14 KV HR2
  go_wp2_with fail
  obtain ⟨x0, hx0, zx0, kx0, _⟩ := one_block w14 C1 5
  have HR := Lib.hid (restore_bad (w := x0) (cl := false) 2 3 262145 262145 0 0 (some ⟨w14.heap.size, 0, none⟩) none [] [] 0 (fun hn => absurd hn (by decide)) (by decide))
  rw [show restR 262145 [] 0 false = 1 from rfl] at HR
  have KX : Hid (Keep w x0) := K14.out.trans kx0
  try rw [hx0]
  clear zx0 kx0 hx0 K14
  refine HR.out.mono ?_
  rintro e y0 ⟨rfl, ky0⟩
  have K0 : Hid (Keep w y0) := KX.out.trans ky0
  clear ky0 KX HR
  go_wp2_with fail
  refine (new_good 255 65535 16711425 size255 y0).mono ?_
  rintro e y1 ⟨b2, F1, rfl, s1, f1, k1⟩
  have S1 := Lib.hid s1
  have F1' : Hid (∀ i, F1 i → w.heap.size ≤ i) := fun i hi => Nat.le_trans K0.out.size (f1 i hi)
  have K1 : Hid (Keep w y1) := K0.out.trans k1
  clear s1 f1 k1 K0
  go_wp2_with fail
  obtain ⟨x1, hx1, zx1, kx1, _⟩ := one_block y1 C2 5
  have hbz := HB2.out y1
  rw [hx1, ← zx1] at hbz
  have HS := Lib.hid (submit_any (most := 1) (S1.out.keep kx1) GB.out x1.heap.size 262144 262144 _ hbz (Nat.le_refl _) (by decide))
  rw [(big_sub Z2 HZ2.out).1, (big_sub Z2 HZ2.out).2] at HS
  have hg2 := GB.out.sub false Z2 1
  rw [(big_sub Z2 HZ2.out).2] at hg2
  have G2 := Lib.hid hg2
  have KX : Hid (Keep w x1) := K1.out.trans kx1
  generalize gensN (16711425 - 4) [] Z2 = M2 at *
  try rw [hx1]
  clear zx1 kx1 hx1 hbz hg2 K1 S1
  refine HS.out.mono ?_
  rintro e y2 ⟨rfl, F2, s2, t2, f2⟩
  have S2 := Lib.hid s2
  have K2 : Hid (Keep w y2) := t2.keep KX.out F1'.out
  have F2' : Hid (∀ i, F2 i → w.heap.size ≤ i) := fun i hi => by
    rcases f2 i hi with e | e
    · exact F1'.out i e
    · exact Nat.le_trans KX.out.size e
  clear s2 t2 f2 HS KX F1'
  go_wp2_with fail
  obtain ⟨x2, hx2, zx2, kx2, bx2⟩ := one_block y2 #[.int .u8 1] 5
  have HB := (block_lies (n := 1) (xs := [1]) bx2 rfl rfl (by decide) (fun x => x < x2.heap.size) (by show y2.heap.size < _; omega)).bytes fun x hx => hx
  have HS := Lib.hid (submit_any (most := 1) (S2.out.keep kx2) G2.out x2.heap.size 1 1 _ HB (Nat.le_refl _) (by decide))
  have hfull : subE 16711425 false Z2 [] [1] 1 = 7 := big_full Z2 [1] HZ2.out (by decide)
  rw [hfull, show subX 16711425 false Z2 [] [1] 1 = Z2 by rw [subX, hfull, if_neg (by decide)]] at HS
  have KX : Hid (Keep w x2) := K2.out.trans kx2
  generalize gensN (16711425 - 4) [] Z2 = M3 at *
  try rw [hx2]
  clear zx2 kx2 hx2 HB bx2 hfull K2 S2 G2
  refine HS.out.mono ?_
  rintro e y3 ⟨rfl, F3, s3, t3, f3⟩
  have K3 : Hid (Keep w y3) := t3.keep KX.out F2'.out
  clear s3 t3 f3 HS KX F2'
  go_wp2_with fail
  refine (syms_nil 0 y3).mono ?_
  rintro e y4 ⟨rfl, k4⟩
  have K4 : Hid (Keep w y4) := K3.out.trans k4
  clear k4 K3
  go_wp2_with fail
  refine (rowm_nil 0 0 0 none y4).mono ?_
  rintro e y5 ⟨rfl, k5⟩
  have KK5 : Hid (Keep w y5) := K4.out.trans k5
  clear k5 K4
  go_wp2_with fail
  obtain ⟨y5a, h5a, _, k5a, _⟩ := one_block y5 #[.slice none 0 0, .slice none 0 0] 56
  have K5 : Hid (Keep w y5a) := KK5.out.trans k5a
  rw [h5a]
  clear k5a h5a KK5
  refine (send_nil 0 0 0 0 none y5a).mono ?_
  rintro e y6 ⟨rfl, k6⟩
  have KK6 : Hid (Keep w y6) := K5.out.trans k6
  clear k6 K5
  go_wp2_with fail
  obtain ⟨y6a, h6a, _, k6a, _⟩ := one_block y6 #[.slice none 0 0, .slice none 0 0] 56
  have K6 : Hid (Keep w y6a) := KK6.out.trans k6a
  rw [h6a]
  clear k6a h6a KK6
  refine (submit_nil 0 0 0 none y6a).mono ?_
  rintro e y7 ⟨rfl, k7⟩
  have K7 : Hid (Keep w y7) := K6.out.trans k7
  clear k7 K6
  go_wp2_with fail
  refine (flush_nil y7).mono ?_
  rintro e y8 ⟨rfl, k8⟩
  have K8 : Hid (Keep w y8) := K7.out.trans k8
  clear k8 K7
  go_wp2_with fail
  refine (close_nil y8).mono ?_
  rintro e y9 ⟨rfl, k9⟩
  have K9 : Hid (Keep w y9) := K8.out.trans k9
  clear k9 K8
  go_wp2_with fail
  refine (closed_nil y9).mono ?_
  rintro e y10 ⟨rfl, rfl⟩
  go_wp2_with fail
  refine (gens_nil y9).mono ?_
  rintro e y10 ⟨rfl, rfl⟩
  go_wp2_with fail
  refine (stream_nil y9).mono ?_
  rintro e y11 ⟨SA, sn, sc, rfl, so, k11⟩
  obtain rfl : 0 = sn := so.length
  have K11 : Hid (Keep w y11) := K9.out.trans k11
  clear so k11 K9
  go_wp2_with fail
  refine (cuts_nil y11).mono ?_
  rintro e y12 ⟨TA, tn, tc, rfl, to, k12⟩
  obtain rfl : 0 = tn := to.length
  have K12 : Hid (Keep w y12) := K11.out.trans k12
  clear to k12 K11
  go_wp2_with fail
  go_ret
  exact ⟨rfl, K12.out⟩
end Go.Proofs.Ytcafofffgmaepaa
