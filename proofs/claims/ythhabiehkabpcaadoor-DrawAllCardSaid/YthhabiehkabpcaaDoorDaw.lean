/- What the chapter's examples say: layer 11's statements ask it. -/
import Derived.Test.YthhabiehkabpcaaDoorDc2
import Derived.Test.YthhabiehkabpcaaDoorEqual
import Derived.Test.YthhabiehkabpcaaDoorMine
namespace Go.Proofs.YthhabiehkabpcaaDoor
open Go.RowKit
set_option linter.unusedVariables false
set_option linter.unusedSimpArgs false
theorem Bytes.later {w w' : World} {A : Option Addr} {n : Nat} {xs : List Nat} (h : Bytes w w.heap.size A n xs) (k : Keep w w') : Bytes w' w'.heap.size A n xs := (h.keep (Nat.le_refl _) k).mono k.size
/-- A literal of bytes. -/
theorem one_lit (w : World) (xs : List Nat) (n : Nat) (hn : xs.length = n) (h1 : n ≤ 1000) (hx : AllB xs) (cs : Array Value) (hc : cs = (u8s xs).toArray) {w2 : World} (hw : w.alloc (.cells cs 5) = w2) :
    Bytes w2 w2.heap.size (some ⟨w.heap.size, 0, none⟩) n xs ∧ Keep w w2 := by
  subst hw
  exact ⟨(Own.lit w 5 n xs cs hc hn (by omega) hx).bytes, (Keep.refl w).alloc _ _⟩
/-- A draw of a literal. -/
theorem coefs_lit (n k m : Nat) (xs ys : List Nat) (hm : xs.length = m) (h0 : m ≤ 1000) (hx : AllB xs) (cs : Array Value) (hc : cs = (u8s xs).toArray) (h1 : 1 ≤ n) (hn : n ≤ 255) (hk : k < n) (hy : coefN n k xs = ys) (w : World) :
    Calls Tryd.prog 4 #[.slice (some ⟨w.heap.size, 0, none⟩) m m, .int .i64 (n : Int), .int .i64 (k : Int)] (w.alloc (.cells cs 5)) fun e w' =>
      ∃ A c, e = .returned (.tuple #[.slice A n c, .int .i64 0]) ∧ Bytes w' w'.heap.size A n ys ∧ Keep w w' := by
  obtain ⟨wl, hwl⟩ : ∃ wl, w.alloc (.cells cs 5) = wl := ⟨_, rfl⟩
  have hl := one_lit w xs m hm h0 hx cs hc hwl
  rw [hwl]
  refine (coefs_any _ n k m m _ xs wl hl.1 (Nat.le_refl _) h1 hn hk).mono ?_
  rintro e w1 ⟨A, n1, c1, rfl, o, kp⟩
  obtain rfl : n = n1 := by have := o.length; rw [coefN_len] at this; exact this
  exact ⟨A, c1, rfl, hy ▸ o.bytes, hl.2.trans kp⟩
theorem ex_one : coefN 3 0 [7, 0, 9, 1] = [7, 0, 9] := by decide +kernel
theorem ex_two : coefN 3 2 [0, 0, 0, 5] = [0, 0, 1] := by decide +kernel
set_option maxRecDepth 100000 in
set_option maxHeartbeats 2000000 in
theorem awake_any (w : World) : Calls Tryd.prog 5 #[] w fun e w' => e = .returned (.bool true) ∧ Keep w w' := by
  have HS := Lib.hid (sys_any 3 3 false (by decide))
  go_enter Tryd.func5, Tryd.ntmps5
  go_wp2_with fail
  refine (coefs_lit 3 0 4 [7, 0, 9, 1] [7, 0, 9] rfl (by decide) (by decide) _ rfl (by decide) (by decide) (by decide) ex_one _).mono ?_
  rintro e w1 ⟨A1, c1, rfl, b1, k1⟩
  have B1 := Lib.hid b1
  have K1 := Lib.hid k1
  clear b1 k1
  go_wp2_with fail
  refine (coefs_lit 3 2 4 [0, 0, 0, 5] [0, 0, 1] rfl (by decide) (by decide) _ rfl (by decide) (by decide) (by decide) ex_two _).mono ?_
  rintro e w2 ⟨A2, c2, rfl, b2, k2⟩
  have B1' := Lib.hid (B1.out.later k2)
  have B2 := Lib.hid b2
  have K2 := Lib.hid (K1.out.trans k2)
  clear b2 k2 B1 K1
  go_wp2_with fail
  obtain ⟨wl, hwl⟩ : ∃ wl, w2.alloc (.cells #[.int .u8 7, .int .u8 0, .int .u8 9] 5) = wl := ⟨_, rfl⟩
  have HL := Lib.hid (one_lit w2 [7, 0, 9] 3 rfl (by decide) (by decide) _ rfl hwl)
  rw [hwl]
  clear hwl
  refine (equal_any _ _ 3 3 _ _ _ _ [7, 0, 9] [7, 0, 9] _ (B1'.out.later HL.out.2) HL.out.1).mono ?_
  rintro e w3 ⟨rfl, rfl⟩
  have K3 := Lib.hid (K2.out.trans HL.out.2)
  have B3 := Lib.hid (B2.out.later HL.out.2)
  clear HL B2 B1' K2
  go_wp2_with fail
  obtain ⟨wl, hwl⟩ : ∃ w', wl.alloc (.cells #[.int .u8 0, .int .u8 0, .int .u8 1] 5) = w' := ⟨_, rfl⟩
  have HL := Lib.hid (one_lit _ [0, 0, 1] 3 rfl (by decide) (by decide) _ rfl hwl)
  rw [hwl]
  clear hwl
  refine (equal_any _ _ 3 3 _ _ _ _ [0, 0, 1] [0, 0, 1] _ (B3.out.later HL.out.2) HL.out.1).mono ?_
  rintro e w3 ⟨rfl, rfl⟩
  have K4 := Lib.hid (K3.out.trans HL.out.2)
  clear HL B3 K3
  go_wp2_with fail
  refine (HS.out _).mono ?_
  rintro e w3 ⟨rfl, rfl⟩
  go_wp2_with fail
  go_ret
  exact ⟨rfl, K4.out⟩
end Go.Proofs.YthhabiehkabpcaaDoor
