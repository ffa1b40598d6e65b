/- PadKnown: the document's examples, ends. -/
import Derived.Test.YtbmfjikkmkmgeaaPf1
namespace Go.Proofs.Ytbmfjikkmkmgeaa
open Go.RowKit
set_option linter.unusedVariables false
set_option linter.unusedSimpArgs false
theorem k_rooms : (roomV 2 3 = 2 ∧ roomE 2 3 = 0) ∧ (roomV 1 4 = 0 ∧ roomE 1 4 = 1) ∧ (roomV 256 1 = 0 ∧ roomE 256 1 = 1) ∧ (roomV 255 65535 = 16711421 ∧ roomE 255 65535 = 0) := by decide +kernel
theorem k_lays : (layR 2 3 [] = [] ∧ layE 2 3 [] = 4) ∧ (layR 2 3 [97, 98, 99] = [] ∧ layE 2 3 [97, 98, 99] = 3) := by decide +kernel
theorem k_takes : (tkV 2 3 [[0, 0, 0], [1, 97, 1]] = [] ∧ tkE 2 3 [[0, 0, 0], [1, 97, 1]] = 5) ∧ (tkV 2 3 [[0, 0, 0], [0, 0, 0]] = [] ∧ tkE 2 3 [[0, 0, 0], [0, 0, 0]] = 5) ∧ (tkV 2 3 [[0, 0, 0]] = [] ∧ tkE 2 3 [[0, 0, 0]] = 21) ∧ (tkV 2 3 [[0, 0], [0, 0, 0]] = [] ∧ tkE 2 3 [[0, 0], [0, 0, 0]] = 21) := by decide +kernel
theorem k_abc : (chunkN 2 [0] [97, 98, 99] 4).1 = [[97, 98]] ∧ (chunkN 2 [0] [97, 98, 99] 4).2 = 2 := by decide +kernel
theorem bad1 : ¬ GoodC 2 [2, 1] 2 := fun h => by have := (h 1 1 (by omega) rfl).2.2 2 (by omega) rfl; omega
theorem bad2 : ¬ GoodC 2 [3] 1 := fun h => by have := (h 0 3 (by omega) rfl).2.1; omega
theorem bad3 : ¬ GoodC 2 [-1] 1 := fun h => by have := (h 0 (-1) (by omega) rfl).1; omega
set_option maxRecDepth 100000 in
set_option maxHeartbeats 8000000 in
theorem known_any (W : World) : Calls Try.prog 8 #[] W fun e w' => e = .returned (.bool true) ∧ Keep W w' := by
  have kc := fun (w : World) (C : Array Value) (n c : Nat) => Lib.run_convert_bytes_const (P := Try.prog) w 22 5 C n c Try.underlying22 Try.underlying5
  go_enter Try.func8, Try.ntmps8
  go_wp2_with fail
  have hR := proom_any 2 3 W
  rw [k_rooms.1.1, k_rooms.1.2] at hR
  refine hR.mono ?_
  rintro e w0 ⟨rfl, rfl⟩
  clear hR
  go_wp2_with fail
  have hR := proom_any 1 4 W
  rw [k_rooms.2.1.1, k_rooms.2.1.2] at hR
  refine hR.mono ?_
  rintro e w0 ⟨rfl, rfl⟩
  clear hR
  go_wp2_with fail
  have hR := proom_any 256 1 W
  rw [k_rooms.2.2.1.1, k_rooms.2.2.1.2] at hR
  refine hR.mono ?_
  rintro e w0 ⟨rfl, rfl⟩
  clear hR
  go_wp2_with fail
  have hR := proom_any 255 65535 W
  rw [k_rooms.2.2.2.1, k_rooms.2.2.2.2] at hR
  refine hR.mono ?_
  rintro e w0 ⟨rfl, rfl⟩
  clear hR
  go_wp2_with fail
  have hL := play_any 2 3 none 0 0 [] W (Bytes.nil _ _ _)
  rw [k_lays.1.1, k_lays.1.2] at hL
  refine hL.mono ?_
  rintro e w1 ⟨A1, n1, c1, rfl, _, _, _, k1⟩
  have K1 : Hid (Keep W w1) := k1
  clear k1 hL
  go_wp2_with fail
  refine (play_any 2 3 _ 3 _ [97, 98, 99] _ (Bytes.wri rfl _ _ 3 [97, 98, 99] _ rfl rfl (by decide))).mono ?_
  rw [k_lays.2.1, k_lays.2.2]
  rintro e w2 ⟨A2, n2, c2, rfl, _, _, _, k2⟩
  have K2 : Hid (Keep W w2) := (K1.out.ob _).trans k2
  clear k2 K1
  go_wp2_with fail
  obtain ⟨v3, hv⟩ : ∃ v, ((w2.alloc (.cells #[.int .u8 0, .int .u8 0, .int .u8 0] 5)).alloc (.cells #[.int .u8 1, .int .u8 97, .int .u8 1] 5)).alloc (.cells #[.slice (some ⟨w2.heap.size, 0, none⟩) 3 3, .slice (some ⟨w2.heap.size + 1, 0, none⟩) 3 3] 22) = v := ⟨_, rfl⟩
  obtain ⟨⟨rs, hr, hx⟩, kv⟩ := two_wri w2 5 22 (0, 0) (0, 0) 3 3 [0, 0, 0] [1, 97, 1] _ _ _ rfl rfl rfl rfl (by decide) (by decide) (by omega) (by omega) rfl hv
  have hT := ptake_any 2 3 _ 2 2 rs v3 hr
  rw [rowsOf_xs, hx, k_takes.1.1, k_takes.1.2] at hT
  rw [hv]
  refine hT.mono ?_
  rintro e w3 ⟨A3, n3, c3, rfl, _, k3⟩
  have K3 : Hid (Keep W w3) := K2.out.trans (kv.trans k3)
  clear hT hv hr hx kv k3 K2
  go_wp2_with fail
  obtain ⟨v4, hv⟩ : ∃ v, ((w3.alloc (.cells #[.int .u8 0, .int .u8 0, .int .u8 0] 5)).alloc (.cells #[.int .u8 0, .int .u8 0, .int .u8 0] 5)).alloc (.cells #[.slice (some ⟨w3.heap.size, 0, none⟩) 3 3, .slice (some ⟨w3.heap.size + 1, 0, none⟩) 3 3] 22) = v := ⟨_, rfl⟩
  obtain ⟨⟨rs, hr, hx⟩, kv⟩ := two_wri w3 5 22 (0, 0) (0, 0) 3 3 [0, 0, 0] [0, 0, 0] _ _ _ rfl rfl rfl rfl (by decide) (by decide) (by omega) (by omega) rfl hv
  have hT := ptake_any 2 3 _ 2 2 rs v4 hr
  rw [rowsOf_xs, hx, k_takes.2.1.1, k_takes.2.1.2] at hT
  rw [hv]
  refine hT.mono ?_
  rintro e w4 ⟨A4, n4, c4, rfl, _, k4⟩
  have K4 : Hid (Keep W w4) := K3.out.trans (kv.trans k4)
  clear hT hv hr hx kv k4 K3
  go_wp2_with fail
  obtain ⟨v5, hv⟩ : ∃ v, (w4.alloc (.cells #[.int .u8 0, .int .u8 0, .int .u8 0] 5)).alloc (.cells #[.slice (some ⟨w4.heap.size, 0, none⟩) 3 3] 22) = v := ⟨_, rfl⟩
  obtain ⟨⟨rs, hr, hx⟩, kv⟩ := one_wri w4 5 22 (0, 0) 3 [0, 0, 0] _ _ rfl rfl (by decide) (by omega) rfl hv
  have hT := ptake_any 2 3 _ 1 1 rs v5 hr
  rw [rowsOf_xs, hx, k_takes.2.2.1.1, k_takes.2.2.1.2] at hT
  rw [hv]
  refine hT.mono ?_
  rintro e w5 ⟨A5, n5, c5, rfl, _, k5⟩
  have K5 : Hid (Keep W w5) := K4.out.trans (kv.trans k5)
  clear hT hv hr hx kv k5 K4
  go_wp2_with fail
  obtain ⟨v6, hv⟩ : ∃ v, ((w5.alloc (.cells #[.int .u8 0, .int .u8 0] 5)).alloc (.cells #[.int .u8 0, .int .u8 0, .int .u8 0] 5)).alloc (.cells #[.slice (some ⟨w5.heap.size, 0, none⟩) 2 2, .slice (some ⟨w5.heap.size + 1, 0, none⟩) 3 3] 22) = v := ⟨_, rfl⟩
  obtain ⟨⟨rs, hr, hx⟩, kv⟩ := two_wri w5 5 22 (0, 0) (0, 0) 2 3 [0, 0] [0, 0, 0] _ _ _ rfl rfl rfl rfl (by decide) (by decide) (by omega) (by omega) rfl hv
  have hT := ptake_any 2 3 _ 2 2 rs v6 hr
  rw [rowsOf_xs, hx, k_takes.2.2.2.1, k_takes.2.2.2.2] at hT
  rw [hv]
  refine hT.mono ?_
  rintro e w6 ⟨A6, n6, c6, rfl, _, k6⟩
  have K6 : Hid (Keep W w6) := K5.out.trans (kv.trans k6)
  clear hT hv hr hx kv k6 K5
  go_wp2_with fail
  refine (pchunks_bad 2 3 6 2 2 (by omega) (by omega) (by omega) (by omega) (by decide) (by omega) (by omega) (by omega) (by omega) _ _ _ _ [2, 1] _ (IntsAt.wri (size_ob _ _) _ 2 [2, 1] _ rfl rfl) bad1).mono ?_
  rintro e w7 ⟨A7, n7, c7, A7', n7', c7', rs7, rfl, _, _, _, k7⟩
  have K7 : Hid (Keep W w7) := ((K6.out.ob _).ob _).trans k7
  clear k7 K6
  go_wp2_with fail
  refine (pchunks_bad 2 3 6 2 1 (by omega) (by omega) (by omega) (by omega) (by decide) (by omega) (by omega) (by omega) (by omega) _ _ _ _ [3] _ (IntsAt.wri (size_ob _ _) _ 1 [3] _ rfl rfl) bad2).mono ?_
  rintro e w8 ⟨A8, n8, c8, A8', n8', c8', rs8, rfl, _, _, _, k8⟩
  have K8 : Hid (Keep W w8) := ((K7.out.ob _).ob _).trans k8
  clear k8 K7
  go_wp2_with fail
  refine (pchunks_bad 2 3 6 2 1 (by omega) (by omega) (by omega) (by omega) (by decide) (by omega) (by omega) (by omega) (by omega) _ _ _ _ [-1] _ (IntsAt.wri (size_ob _ _) _ 1 [-1] _ rfl rfl) bad3).mono ?_
  rintro e w9 ⟨A9, n9, c9, A9', n9', c9', rs9, rfl, _, _, _, k9⟩
  have K9 : Hid (Keep W w9) := ((K8.out.ob _).ob _).trans k9
  clear k9 K8
  go_wp2_with fail
  refine (pchunks_in 2 3 6 3 1 (by omega) (by omega) (by omega) (by omega) (by decide) (by omega) (by omega) (by omega) (by omega) _ _ _ _ [97, 98, 99] [0] _ ((Bytes.wri rfl _ _ 3 [97, 98, 99] _ rfl rfl (by decide)).up ((Keep.refl _).ob _)) (by omega) (IntsAt.wri (size_ob _ _) _ 1 [0] _ rfl rfl) (by decide) (fun i j x y hij hi hj => ?c1)).mono ?_
  case c1 =>
    match i, j, hij, hi, hj with
    | 0, 0, _, hi, hj => rw [hi] at hj; injection hj with hj; omega
    | 0, j + 1, _, hi, hj => simp at hj
    | i + 1, _, _, hi, _ => simp at hi
  rw [show (6 : Nat) - 4 = 2 from rfl, show (3 : Nat) + 1 = 4 from rfl, k_abc.1, k_abc.2]
  rintro e wz ⟨Az, nz, cz, Ao, no, co, rz, rfl, hLz, hxz, hOz, kz⟩
  obtain rfl : nz = 1 := hLz.count hxz
  obtain rfl : no = 1 := hOz.1.symm
  have KZ : Hid (Keep W wz) := ((K9.out.ob _).ob _).trans kz
  have BZ := Lib.hid (hOz.bytes (B := wz.heap.size) fun b hb => hb.2)
  clear kz hOz hLz hxz K9
  have hA := fun w' (k : Keep wz w') => run_str (BZ.out.up k) Try.underlying22 Try.underlying5 Try.underlying9 co
  have HA := Lib.hid hA
  clear hA
  go_wp2_with fail
  refine (awake_any wz).mono ?_
  rintro e wy ⟨rfl, ky⟩
  have t7 := HA.out wy ky
  have q7 : ((strN [99]).toList == [99]) = true := by kernel_rfl
  have KY : Hid (Keep W wy) := KZ.out.trans ky
  clear HA ky
  go_wp2_with fail
  go_ret
  exact ⟨rfl, KY.out⟩
end Go.Proofs.Ytbmfjikkmkmgeaa
