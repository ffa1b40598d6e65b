/- Things of the law WireBack: what they are, their forms, the law's own helpers. -/
import Derived.Test.YtpmildbgmmiaeaaAwake
import Derived.Test.YtpmildbgmmiaeaaStructs
namespace Go.Proofs.Ytpmildbgmmiaeaa
open Go.RowKit
/-- A number of a size, or bytes. -/
structure ThingV where
  a : Nat
  n : Nat
  r : RowV
namespace ThingV
def vals (x : ThingV) : List Value := [.int .u8 (x.a : Int), .int .u64 (x.n : Int), .slice x.r.A x.r.n x.r.c]
def val (x : ThingV) : Value := .agg #[.int .u8 (x.a : Int), .int .u64 (x.n : Int), .slice x.r.A x.r.n x.r.c]
def sz (x : ThingV) : Nat := x.a % 9
def num (x : ThingV) : Nat := if x.sz = 0 ∨ x.sz = 8 then x.n else x.n % 256 ^ x.sz
def form (x : ThingV) : List Nat := if x.sz = 0 then x.r.xs else formN x.sz x.num
/-- What it is, in a world. -/
structure Ok (w : World) (B : Nat) (x : ThingV) : Prop where
  a : x.a < 256
  n : x.n < 18446744073709551616
  r : Bytes w B x.r.A x.r.n x.r.xs
theorem sz_lt (x : ThingV) : x.sz < 9 := Nat.mod_lt _ (by decide)
theorem num_lt {w : World} {B : Nat} {x : ThingV} (h : Ok w B x) : x.num < 18446744073709551616 := by
  rw [num]
  split
  · exact h.n
  · exact Nat.lt_of_le_of_lt (Nat.mod_le _ _) h.n
theorem num_fit {w : World} {B : Nat} {x : ThingV} (h : Ok w B x) (hs : x.sz ≠ 0) : x.num < 256 ^ x.sz := by
  rw [num]
  split
  · rename_i h1
    rcases h1 with h1 | h1
    · exact absurd h1 hs
    · rw [h1]; exact h.n
  · exact Nat.mod_lt _ (Nat.pow_pos (by decide))
end ThingV
theorem ret2_eq {a b a' b' : Int} (h1 : a = a') (h2 : b = b') : Ending.returned (.tuple #[.int .i64 a, .int .u64 b]) = .returned (.tuple #[.int .i64 a', .int .u64 b']) := by rw [h1, h2]
set_option maxRecDepth 100000 in
set_option maxHeartbeats 1000000 in
theorem sized_any (B : Nat) (x : ThingV) (w : World) (h : ThingV.Ok w B x) :
    Calls Try.prog 21 #[x.val] w fun e w' => e = .returned (.tuple #[.int .i64 (x.sz : Nat), .int .u64 (x.num : Nat)]) ∧ Keep w w' := by
  have ha := h.a
  have hn := h.n
  have hnum := ThingV.num_lt h
  have hlt := x.sz_lt
  have e1 : (x.a : Int) % 9 = (x.sz : Int) := by simp [ThingV.sz]
  have e2 : x.num = if x.sz = 0 ∨ x.sz = 8 then x.n else x.n % 256 ^ x.sz := rfl
  rw [ThingV.val]
  clear h
  generalize x.num = m at *
  generalize x.sz = s at *
  generalize x.a = a at *
  generalize x.n = n at *
  obtain ⟨A, k, c, xs⟩ := x.r
  by_cases h0 : s = 0 ∨ s = 8
  · rw [if_pos h0] at e2
    subst e2
    rcases h0 with rfl | rfl
    all_goals
      have e4 : (a : Int) % 9 = 0 ∨ (a : Int) % 9 = 8 := by omega
      rcases e4 with e4 | e4 <;> first | (exfalso; omega) | skip
      clear e1 hlt
      go_enter Try.func21, Try.ntmps21
      go_wp2_with fail
      go_quiet (fail)
      go_wp2_with fail
      go_ret2
      exact ⟨ret2_eq (by omega) rfl, ((Keep.refl w).alloc _ _).drewN _⟩
  · rw [if_neg h0] at e2
    have hs : s = 1 ∨ s = 2 ∨ s = 3 ∨ s = 4 ∨ s = 5 ∨ s = 6 ∨ s = 7 := by omega
    clear h0
    rcases hs with rfl | rfl | rfl | rfl | rfl | rfl | rfl
    all_goals
      simp only [Nat.reducePow] at e2
      have e4 : (a : Int) % 9 = 1 ∨ (a : Int) % 9 = 2 ∨ (a : Int) % 9 = 3 ∨ (a : Int) % 9 = 4 ∨ (a : Int) % 9 = 5 ∨ (a : Int) % 9 = 6 ∨ (a : Int) % 9 = 7 := by omega
      rcases e4 with e4 | e4 | e4 | e4 | e4 | e4 | e4 <;> first | (exfalso; omega) | skip
      clear e1 hlt
      go_enter Try.func21, Try.ntmps21
      go_wp2_with fail
      go_quiet (fail)
      go_wp2_with fail
      go_ret2
      exact ⟨ret2_eq (by omega) (by omega), ((Keep.refl w).alloc _ _).drewN _⟩
theorem below_grown {w w' : World} {B g : Nat} (k : w.grownBy w' (some g)) (hB : B ≤ w.heap.size) (hg : B ≤ g) : Below B w w' :=
  Below.grown (Below.refl B w) k hB (fun j hj => by injection hj with e; omega)
theorem Keep.grownBy {w w' : World} (k : Keep w w') (row : Option Nat) : w.grownBy w' row := ⟨k.os, k.tape, k.output, k.size, fun i hi _ => k.block i hi⟩
theorem ThingV.Ok.below {w w' : World} {B : Nat} {x : ThingV} (h : ThingV.Ok w B x) (k : Below B w w') : ThingV.Ok w' B x := ⟨h.a, h.n, h.r.below k⟩
set_option maxRecDepth 100000 in
set_option maxHeartbeats 1000000 in
/-- What was laid is read as it was. -/
theorem reads_good (B : Nat) (x : ThingV) (F : Nat → Prop) (g : Nat) (rest : List Nat) (w : World) (hx : ThingV.Ok w B x) (hr : ReadR w F g (x.form ++ rest)) (hB : B ≤ w.heap.size) (hg : B ≤ g) :
    Calls Try.prog 22 #[x.val, .pointer (some ⟨g, 0, none⟩)] w fun e w' => e = .returned (.tuple #[.bool true, .int .i64 0]) ∧ (∃ F', ReadR w' F' g rest ∧ ∀ b, F' b → F b ∨ w.heap.size ≤ b) ∧ w.grownBy w' (some g) := by
  have HX := Lib.hid hx
  have HR := Lib.hid hr
  have hlt := x.sz_lt
  by_cases h0 : x.sz = 0
  · have hf : x.form = x.r.xs := by rw [ThingV.form, if_pos h0]
    have HF := Lib.hid hf
    have H0 := Lib.hid h0
    clear hf h0 hx hr
    go_enter Try.func22, Try.ntmps22
    rw [ThingV.val]
    go_wp2_with fail
    refine (sized_any B x _ (HX.out.below (Below.alloc (Below.refl _ _) hB _))).mono ?_
    rintro e w1 ⟨rfl, k1⟩
    rw [H0.out]
    have c2 : w1.cell? ⟨w.heap.size, 2, none⟩ = some (.slice x.r.A x.r.n x.r.c) := by
      rw [World.cell?_of_block (k1.block w.heap.size (by simp))]
      simp [go_sem]
    have K1 := Lib.hid (Keep.trans ((Keep.refl w).alloc _ _) k1)
    have hbig : x.r.n ≤ 140737488355328 := by
      have h1 := HR.out.bound
      rw [HF.out, List.length_append, HX.out.r.length] at h1
      omega
    have hlen := HX.out.r.length
    have t1 : takeErr (x.form ++ rest) (x.r.n : Int) = 0 := by rw [takeErr, if_neg (by omega), Int.toNat_natCast, HF.out, List.length_append, hlen, if_neg (by omega)]
    have t2 : takeVal (x.form ++ rest) (x.r.n : Int) = x.r.xs := by rw [takeVal, if_pos t1, Int.toNat_natCast, HF.out, ← hlen, List.take_left]
    have t3 : takeLeft (x.form ++ rest) (x.r.n : Int) = rest := by rw [takeLeft, if_pos t1, Int.toNat_natCast, HF.out, ← hlen, List.drop_left]
    have HT := Lib.hid (And.intro t1 (And.intro t2 t3))
    clear k1 t1 t2 t3 hlen
    go_wp2_with fail
    refine (wtake_any F g _ (x.r.n : Int) _ (HR.out.keep K1.out)).mono ?_
    rintro e w2 ⟨A2, n2, c2', rfl, o2, ⟨F2, r2, f2, _⟩, k2⟩
    rw [HT.out.1]
    rw [HT.out.2.1] at o2
    rw [HT.out.2.2] at r2
    have hg1 : g < w.heap.size := HR.out.lt HR.out.at_
    have c3 : w2.cell? ⟨w.heap.size, 2, none⟩ = some (.slice x.r.A x.r.n x.r.c) := k2.cell c2 (by simp; omega)
    have O2 := Lib.hid o2
    have R2 := Lib.hid r2
    have F2' := Lib.hid f2
    have K2 := Lib.hid k2
    clear o2 r2 f2 k2 c2
    go_wp2_with fail
    refine (equal_any _ B n2 x.r.n c2' x.r.c A2 x.r.A x.r.xs x.r.xs _ O2.out.bytes ((HX.out.r.keep hB K1.out).below (below_grown K2.out (Nat.le_trans hB K1.out.size) hg))).mono ?_
    rintro e w3 ⟨rfl, rfl⟩
    have d1 : decide (x.r.xs = x.r.xs) = true := decide_eq_true rfl
    rw [d1]
    go_wp2_with fail
    go_ret2
    exact ⟨rfl, ⟨F2, R2.out, fun b hb => (F2'.out b hb).imp id fun h => Nat.le_trans K1.out.size h⟩, (K1.out.grownBy _).trans K2.out⟩
  · have hf : x.form = formN x.sz x.num := by rw [ThingV.form, if_neg h0]
    have hfit := ThingV.num_fit hx h0
    have e1 : readErr (x.form ++ rest) (x.sz : Int) = 0 := by rw [readErr, if_neg (by omega), Int.toNat_natCast, hf, List.length_append, formN_length, if_neg (by omega)]
    have e2 : readVal (x.form ++ rest) (x.sz : Int) = x.num := by
      rw [readVal, if_pos e1, Int.toNat_natCast, hf, List.take_left' (formN_length _ _), valN_form, Nat.mod_eq_of_lt hfit]
    have e3 : readLeft (x.form ++ rest) (x.sz : Int) = rest := by rw [readLeft, if_pos e1, Int.toNat_natCast, hf, List.drop_left' (formN_length _ _)]
    have HT := Lib.hid (And.intro e1 (And.intro e2 e3))
    have b0 : (((x.sz : Nat) : Int) == 0) = false := by rw [beq_eq_false_iff_ne]; omega
    obtain ⟨q, hq⟩ : ∃ q, x.num = q := ⟨_, rfl⟩
    have HQ := Lib.hid hq
    clear hf hfit e1 e2 e3 hx hr h0 hq
    go_enter Try.func22, Try.ntmps22
    rw [ThingV.val]
    go_wp2_with fail
    refine (sized_any B x _ (HX.out.below (Below.alloc (Below.refl _ _) hB _))).mono ?_
    rintro e w1 ⟨rfl, k1⟩
    rw [HQ.out]
    have K1 := Lib.hid (Keep.trans ((Keep.refl w).alloc _ _) k1)
    clear k1
    go_wp2_with fail
    refine (wread_any F g _ (x.sz : Int) _ (HR.out.keep K1.out)).mono ?_
    rintro e w2 ⟨rfl, ⟨F2, r2, f2⟩, k2⟩
    rw [HT.out.1, HT.out.2.1, HQ.out]
    rw [HT.out.2.2] at r2
    have R2 := Lib.hid r2
    have F2' := Lib.hid f2
    have K2 := Lib.hid k2
    clear r2 f2 k2
    go_wp2_with fail
    go_ret2
    exact ⟨rfl, ⟨F2, R2.out, fun b hb => (F2'.out b hb).imp id fun h => Nat.le_trans K1.out.size h⟩, (K1.out.grownBy _).trans K2.out⟩
set_option maxRecDepth 100000 in
set_option maxHeartbeats 1000000 in
/-- Of a beginning: the first want. -/
theorem reads_short (B : Nat) (x : ThingV) (F : Nat → Prop) (g : Nat) (L : List Nat) (w : World) (hx : ThingV.Ok w B x) (hr : ReadR w F g L) (hs : L.length < x.form.length) (hB : B ≤ w.heap.size) (hg : B ≤ g) :
    Calls Try.prog 22 #[x.val, .pointer (some ⟨g, 0, none⟩)] w fun e w' => ∃ v, e = .returned (.tuple #[.bool v, .int .i64 4]) ∧ (∃ F', ReadR w' F' g L ∧ ∀ b, F' b → F b ∨ w.heap.size ≤ b) ∧ w.grownBy w' (some g) := by
  have HX := Lib.hid hx
  have HR := Lib.hid hr
  have hlt := x.sz_lt
  by_cases h0 : x.sz = 0
  · have hf : x.form = x.r.xs := by rw [ThingV.form, if_pos h0]
    have H0 := Lib.hid h0
    rw [hf, hx.r.length] at hs
    have t1 : takeErr L (x.r.n : Int) = 4 := by rw [takeErr, if_neg (by omega), Int.toNat_natCast, if_pos hs]
    have t3 : takeLeft L (x.r.n : Int) = L := by rw [takeLeft, t1]; rfl
    have HT := Lib.hid (And.intro t1 t3)
    clear hf h0 hx hr t1 t3 hs
    go_enter Try.func22, Try.ntmps22
    rw [ThingV.val]
    go_wp2_with fail
    refine (sized_any B x _ (HX.out.below (Below.alloc (Below.refl _ _) hB _))).mono ?_
    rintro e w1 ⟨rfl, k1⟩
    rw [H0.out]
    have c2 : w1.cell? ⟨w.heap.size, 2, none⟩ = some (.slice x.r.A x.r.n x.r.c) := by
      rw [World.cell?_of_block (k1.block w.heap.size (by simp))]
      simp [go_sem]
    have K1 := Lib.hid (Keep.trans ((Keep.refl w).alloc _ _) k1)
    clear k1
    go_wp2_with fail
    refine (wtake_any F g _ (x.r.n : Int) _ (HR.out.keep K1.out)).mono ?_
    rintro e w2 ⟨A2, n2, c2', rfl, o2, ⟨F2, r2, f2, _⟩, k2⟩
    rw [HT.out.1]
    rw [HT.out.2] at r2
    have hg1 : g < w.heap.size := HR.out.lt HR.out.at_
    have c3 : w2.cell? ⟨w.heap.size, 2, none⟩ = some (.slice x.r.A x.r.n x.r.c) := k2.cell c2 (by simp; omega)
    have O2 := Lib.hid o2
    have R2 := Lib.hid r2
    have F2' := Lib.hid f2
    have K2 := Lib.hid k2
    clear o2 r2 f2 k2 c2
    go_wp2_with fail
    refine (equal_any _ B n2 x.r.n c2' x.r.c A2 x.r.A _ x.r.xs _ O2.out.bytes ((HX.out.r.keep hB K1.out).below (below_grown K2.out (Nat.le_trans hB K1.out.size) hg))).mono ?_
    rintro e w3 ⟨rfl, rfl⟩
    generalize decide (takeVal L (x.r.n : Int) = x.r.xs) = v
    go_wp2_with fail
    go_ret2
    exact ⟨v, rfl, ⟨F2, R2.out, fun b hb => (F2'.out b hb).imp id fun h => Nat.le_trans K1.out.size h⟩, (K1.out.grownBy _).trans K2.out⟩
  · have hf : x.form = formN x.sz x.num := by rw [ThingV.form, if_neg h0]
    rw [hf, formN_length] at hs
    have e1 : readErr L (x.sz : Int) = 4 := by rw [readErr, if_neg (by omega), Int.toNat_natCast, if_pos hs]
    have e3 : readLeft L (x.sz : Int) = L := by rw [readLeft, e1]; rfl
    have HT := Lib.hid (And.intro e1 e3)
    have b0 : (((x.sz : Nat) : Int) == 0) = false := by rw [beq_eq_false_iff_ne]; omega
    obtain ⟨q, hq⟩ : ∃ q, x.num = q := ⟨_, rfl⟩
    obtain ⟨p, hp⟩ : ∃ p, readVal L (x.sz : Int) = p := ⟨_, rfl⟩
    obtain ⟨v, hv⟩ : ∃ v, ((p : Int) == (q : Int)) = v := ⟨_, rfl⟩
    have HQ := Lib.hid hq
    have HP := Lib.hid hp
    clear hf e1 e3 hx hr h0 hq hs hp
    go_enter Try.func22, Try.ntmps22
    rw [ThingV.val]
    go_wp2_with fail
    refine (sized_any B x _ (HX.out.below (Below.alloc (Below.refl _ _) hB _))).mono ?_
    rintro e w1 ⟨rfl, k1⟩
    rw [HQ.out]
    have K1 := Lib.hid (Keep.trans ((Keep.refl w).alloc _ _) k1)
    clear k1
    go_wp2_with fail
    refine (wread_any F g _ (x.sz : Int) _ (HR.out.keep K1.out)).mono ?_
    rintro e w2 ⟨rfl, ⟨F2, r2, f2⟩, k2⟩
    rw [HT.out.1, HP.out]
    rw [HT.out.2] at r2
    have R2 := Lib.hid r2
    have F2' := Lib.hid f2
    have K2 := Lib.hid k2
    clear r2 f2 k2
    go_wp2_with fail
    go_ret2
    exact ⟨v, rfl, ⟨F2, R2.out, fun b hb => (F2'.out b hb).imp id fun h => Nat.le_trans K1.out.size h⟩, (K1.out.grownBy _).trans K2.out⟩
end Go.Proofs.Ytpmildbgmmiaeaa
