/- The chapter's rows; the walk of CrcJoins. -/
import Derived.Test.YthhfahljdbcpjaaDoorCcode
import Derived.Lib.SlBytesConst
namespace Go.Proofs.YthhfahljdbcpjaaDoor
open Go.RowKit Crc
theorem k_a : openErr [0, 0, 0] = 4 ∧ openVal [0, 0, 0] = [] := by decide +kernel
theorem k_b : openErr [0, 0, 0, 1] = 20 ∧ openVal [0, 0, 0, 1] = [] := by decide +kernel
theorem k_c : sumN [49, 50, 51, 52, 53, 54, 55, 56, 57] = 3421780262 := by decide +kernel
theorem k_d : sumN [0] = 3523407757 ∧ sumN [255] = 4278190080 ∧ sealN [] = [0, 0, 0, 0] := by decide +kernel
theorem k_e : strN [0, 0, 0, 0] = ⟨#[0, 0, 0, 0]⟩ := rfl
theorem Keep.obj {W w : World} (h : Keep W w) (o : Obj) : Keep W (w.alloc o) := Below.alloc h h.size o
/-- A constant text as bytes, its place said. -/
theorem Bytes.const {w : World} {h : Nat} (hh : w.heap.size = h) (t : TypeId) (fr : Nat × Nat) (n : Nat) (xs : List Nat) (cs : Array Value) (hc : cs = (u8s xs).toArray) (hl : xs.length = n) (hx : AllB xs) : Bytes (w.alloc (.cells cs t fr)) (h + 1) (some ⟨h, 0, none⟩) n xs := by
  subst hh
  refine ⟨hl, hx, fun _ => ⟨_, 0, rfl, by omega, fun i hi => ?_⟩⟩
  rw [cell_of_row _ _ _ _ _ _ (heap_alloc_new w _), hc, Nat.zero_add, List.getElem?_toArray, u8s_get]
  have hi2 : i < xs.length := by omega
  simp [List.getD, hi2]
set_option maxRecDepth 100000 in
set_option maxHeartbeats 2000000 in
theorem wakes_any (w : World) (hT : TabW w) : Calls Tryd.prog 17 #[] w fun e w' => e = .returned (.bool true) ∧ Keep w w' := by
  have HT := Lib.hid hT
  clear hT
  have kc := fun (w : World) (C : Array Value) (n c : Nat) => Lib.run_convert_bytes_const (P := Tryd.prog) w 22 5 C n c Tryd.underlying22 Tryd.underlying5
  go_enter Tryd.func17, Tryd.ntmps17
  go_wp2_with fail
  refine (copen_any _ 3 3 _ [0, 0, 0] _ (HT.out.keep ((Keep.refl w).alloc _ _)) (Bytes.lit rfl 5 3 [0, 0, 0] _ rfl rfl (by decide) (by decide)) (by simp) (by decide) (by decide)).mono ?_
  rintro e w1 ⟨P1, n1, c1, rfl, o1, s1⟩
  rw [k_a.1]
  have K1 := Lib.hid (((Keep.refl w).alloc _ _).trans s1)
  clear s1 o1
  go_wp2_with fail
  refine (copen_any _ 4 4 _ [0, 0, 0, 1] _ (HT.out.keep (K1.out.alloc _ _)) (Bytes.lit rfl 5 4 [0, 0, 0, 1] _ rfl rfl (by decide) (by decide)) (by simp) (by decide) (by decide)).mono ?_
  rintro e w2 ⟨P2, n2, c2, rfl, o2, s2⟩
  rw [k_b.1]
  have K2 := Lib.hid ((K1.out.alloc _ _).trans s2)
  clear s2 o2
  go_wp2_with fail
  clear kc
  refine (csum_any _ 9 9 _ [49, 50, 51, 52, 53, 54, 55, 56, 57] _ (HT.out.keep (K2.out.obj _)) (Bytes.const rfl 5 _ 9 [49, 50, 51, 52, 53, 54, 55, 56, 57] _ rfl rfl (by decide)) (by decide)).mono ?_
  rintro e w3 ⟨rfl, rfl⟩
  rw [k_c]
  have K3 := Lib.hid (K2.out.obj (.cells #[.int .u8 49, .int .u8 50, .int .u8 51, .int .u8 52, .int .u8 53, .int .u8 54, .int .u8 55, .int .u8 56, .int .u8 57] 5 (9, 10)))
  go_wp2_with fail
  refine (csum_any 0 0 0 none [] _ (HT.out.keep K3.out) (Bytes.nil _ _ _) (by decide)).mono ?_
  rintro e w4 ⟨rfl, rfl⟩
  rw [sum_nil]
  go_wp2_with fail
  refine (csum_any _ 1 1 _ [0] _ (HT.out.keep (K3.out.alloc _ _)) (Bytes.lit (h := w2.heap.size + 1) (by simp) 5 1 [0] _ rfl rfl (by decide) (by decide)) (by decide)).mono ?_
  rintro e w5 ⟨rfl, rfl⟩
  rw [k_d.1]
  have K4 := Lib.hid (K3.out.alloc #[.int .u8 0] 5)
  go_wp2_with fail
  refine (csum_any _ 1 1 _ [255] _ (HT.out.keep (K4.out.alloc _ _)) (Bytes.lit (h := w2.heap.size + 1 + 1) (by simp) 5 1 [255] _ rfl rfl (by decide) (by decide)) (by decide)).mono ?_
  rintro e w6 ⟨rfl, rfl⟩
  rw [k_d.2.1]
  have K5 := Lib.hid (K4.out.alloc #[.int .u8 255] 5)
  go_wp2_with fail
  refine (cseal_any 0 0 0 none [] _ (HT.out.keep K5.out) (Bytes.nil _ _ _) (Nat.zero_le _) (by decide)).mono ?_
  rintro e w7 ⟨P7, n7, c7, rfl, o7, s7⟩
  rw [k_d.2.2] at o7
  have hs := run_str o7.bytes Tryd.underlying22 Tryd.underlying5 Tryd.underlying9 c7
  rw [k_e] at hs
  have K7 := Lib.hid (K5.out.trans s7)
  clear s7 o7
  go_wp2_with fail
  go_ret
  exact ⟨rfl, K7.out⟩
theorem joins_any (a b : Nat) (n : Int) (ha : a < 4294967296) (hb : b < 4294967296) (w : World) (hT : TabW w) :
    Calls Tryd.prog 4 #[.int .u32 a, .int .u32 b, .int .i64 n] w fun e w' => e = .returned (.bool true) ∧ Keep w w' := by
  have HT := Lib.hid hT
  clear hT
  go_enter Tryd.func4, Tryd.ntmps4
  go_wp2_with fail
  refine (cjoin_any a b n ha hb _ HT.out).mono ?_
  rintro e w1 ⟨rfl, rfl⟩
  go_wp2_with fail
  refine (rjoin_any a b n ha hb _).mono ?_
  rintro e w1 ⟨rfl, rfl⟩
  generalize joinVal a b n = x
  generalize joinErr n = y
  have b1 : ((x : Int) == (x : Int)) = true := beq_iff_eq.2 rfl
  have b2 : (y == y) = true := beq_iff_eq.2 rfl
  go_wp2_with fail
  refine (wakes_any _ HT.out).mono ?_
  rintro e w2 ⟨rfl, k2⟩
  have K2 := Lib.hid k2
  clear k2
  go_wp2_with fail
  go_ret
  exact ⟨rfl, K2.out⟩
end Go.Proofs.YthhfahljdbcpjaaDoor
