/- Sums of bytes, plainly: registers of 32 bits, joined sums, bits turned (layer 4). -/
import Derived.Test.YtgkihfemlbhioaaDoorBytes
namespace Go.Proofs.YtgkihfemlbhioaaDoor.Crc
def poly : Nat := 3988292384
/-- A register goes one bit down. -/
def stepN (x : Nat) : Nat := if x % 2 = 1 then x / 2 ^^^ poly else x / 2
theorem xor_left_comm (a b c : Nat) : a ^^^ (b ^^^ c) = b ^^^ (a ^^^ c) := by rw [← Nat.xor_assoc, Nat.xor_comm a b, Nat.xor_assoc]
theorem xor_cancel (a b : Nat) : a ^^^ (a ^^^ b) = b := by rw [← Nat.xor_assoc, Nat.xor_self, Nat.zero_xor]
theorem xor_right_cancel (a b : Nat) : a ^^^ b ^^^ b = a := by rw [Nat.xor_assoc, Nat.xor_self, Nat.xor_zero]
theorem xor_inj {a b c : Nat} (h : a ^^^ c = b ^^^ c) : a = b := by rw [← xor_right_cancel a c, h, xor_right_cancel]
theorem xor_zero_eq {a b : Nat} (h : a ^^^ b = 0) : a = b := by rw [← xor_right_cancel a b, h, Nat.zero_xor]
theorem step_xor (x y : Nat) : stepN (x ^^^ y) = stepN x ^^^ stepN y := by
  unfold stepN
  rw [Nat.xor_div_two]
  have h := @Nat.xor_mod_two_eq_one x y
  by_cases hx : x % 2 = 1 <;> by_cases hy : y % 2 = 1
  · rw [if_neg (by rw [h]; simp [hx, hy]), if_pos hx, if_pos hy, Nat.xor_assoc, xor_left_comm poly, Nat.xor_self, Nat.xor_zero]
  · rw [if_pos (by rw [h]; simp [hx, hy]), if_pos hx, if_neg hy, Nat.xor_assoc, Nat.xor_assoc, Nat.xor_comm poly]
  · rw [if_pos (by rw [h]; simp [hx, hy]), if_neg hx, if_pos hy, Nat.xor_assoc]
  · rw [if_neg (by rw [h]; simp [hx, hy]), if_neg hx, if_neg hy]
theorem step_lt {x : Nat} (h : x < 2 ^ 32) : stepN x < 2 ^ 32 := by
  unfold stepN
  split
  · exact Nat.xor_lt_two_pow (by omega) (by decide)
  · omega
theorem step_zero : stepN 0 = 0 := rfl
theorem step_two (c : Nat) : stepN (2 * c) = c := by
  unfold stepN; rw [if_neg (by omega)]; omega
theorem step_nonzero {x : Nat} (h : x < 2 ^ 32) (h0 : x ≠ 0) : stepN x ≠ 0 := by
  unfold stepN
  split
  · intro e
    have e2 := xor_zero_eq e
    unfold poly at e2
    omega
  · omega
/-- .. n bits down. -/
def stepsN : Nat → Nat → Nat
  | 0, x => x
  | n + 1, x => stepsN n (stepN x)
theorem steps_add (a b x : Nat) : stepsN (a + b) x = stepsN b (stepsN a x) := by
  induction a generalizing x with
  | zero => rw [Nat.zero_add]; rfl
  | succ a ih => rw [Nat.succ_add]; exact ih (stepN x)
theorem steps_succ (n x : Nat) : stepsN (n + 1) x = stepN (stepsN n x) := steps_add n 1 x
theorem steps_xor (n x y : Nat) : stepsN n (x ^^^ y) = stepsN n x ^^^ stepsN n y := by
  induction n generalizing x y with
  | zero => rfl
  | succ n ih => rw [stepsN, step_xor]; exact ih _ _
theorem steps_zero (n : Nat) : stepsN n 0 = 0 := by
  induction n with
  | zero => rfl
  | succ n ih => exact ih
theorem steps_lt (n : Nat) {x : Nat} (h : x < 2 ^ 32) : stepsN n x < 2 ^ 32 := by
  induction n generalizing x with
  | zero => exact h
  | succ n ih => exact ih (step_lt h)
theorem steps_nonzero (n : Nat) {x : Nat} (h : x < 2 ^ 32) (h0 : x ≠ 0) : stepsN n x ≠ 0 := by
  induction n generalizing x with
  | zero => exact h0
  | succ n ih => exact ih (step_lt h) (step_nonzero h h0)
theorem steps_pow (n r c : Nat) (h : r ≤ n) : stepsN n (2 ^ r * c) = stepsN (n - r) c := by
  induction r generalizing n with
  | zero => rw [Nat.pow_zero, Nat.one_mul, Nat.sub_zero]
  | succ r ih =>
    obtain ⟨m, rfl⟩ : ∃ m, n = m + 1 := ⟨n - 1, by omega⟩
    have e : 2 ^ (r + 1) * c = 2 * (2 ^ r * c) := by rw [Nat.pow_succ, Nat.mul_comm (2 ^ r) 2, Nat.mul_assoc]
    rw [stepsN, e, step_two, ih m (by omega), show m + 1 - (r + 1) = m - r by omega]
/-- A register that takes in a byte. -/
def takeN (x c : Nat) : Nat := stepsN 8 (x ^^^ c)
def regN (x : Nat) (xs : List Nat) : Nat := xs.foldl takeN x
theorem reg_append (x : Nat) (a b : List Nat) : regN x (a ++ b) = regN (regN x a) b := List.foldl_append ..
/-- Another beginning. -/
theorem reg_xor (x y : Nat) (xs : List Nat) : regN (x ^^^ y) xs = regN x xs ^^^ stepsN (8 * xs.length) y := by
  induction xs generalizing x y with
  | nil => rfl
  | cons c xs ih =>
    show regN (takeN (x ^^^ y) c) xs = regN (takeN x c) xs ^^^ _
    have e : takeN (x ^^^ y) c = takeN x c ^^^ stepsN 8 y := by
      rw [takeN, takeN, ← steps_xor, Nat.xor_assoc, Nat.xor_comm y c, ← Nat.xor_assoc]
    rw [e, ih, ← steps_add, List.length_cons]
    congr 2
    omega
/-- A byte turned. -/
theorem reg_set (x : Nat) (xs : List Nat) (q v e : Nat) (hq : xs[q]? = some v) : regN x (xs.set q (v ^^^ e)) = regN x xs ^^^ stepsN (8 * (xs.length - q)) e := by
  induction xs generalizing x q with
  | nil => cases hq
  | cons c xs ih =>
    cases q with
    | zero =>
      obtain rfl : c = v := by simpa using hq
      show regN (takeN x (c ^^^ e)) xs = regN (takeN x c) xs ^^^ _
      have e1 : takeN x (c ^^^ e) = takeN x c ^^^ stepsN 8 e := by rw [takeN, takeN, ← steps_xor, Nat.xor_assoc]
      rw [e1, reg_xor, ← steps_add, List.length_cons]
      congr 2
      omega
    | succ q =>
      show regN (takeN x c) (xs.set q (v ^^^ e)) = regN (takeN x c) xs ^^^ _
      rw [ih _ q (by simpa using hq), List.length_cons, show xs.length + 1 - (q + 1) = xs.length - q by omega]
def ones : Nat := 4294967295
def sumN (xs : List Nat) : Nat := regN ones xs ^^^ ones
def meetN (a b n : Nat) : Nat := stepsN (8 * n) a ^^^ b
theorem sum_nil : sumN [] = 0 := rfl
theorem take_lt {x c : Nat} (h : x < 2 ^ 32) (hc : c < 256) : takeN x c < 2 ^ 32 := steps_lt 8 (Nat.xor_lt_two_pow h (by omega))
theorem reg_lt {x : Nat} {xs : List Nat} (h : x < 2 ^ 32) (hx : ∀ c ∈ xs, c < 256) : regN x xs < 2 ^ 32 := by
  induction xs generalizing x with
  | nil => exact h
  | cons c xs ih => exact ih (take_lt h (hx c (by simp))) (fun d hd => hx d (by simp [hd]))
theorem sum_lt {xs : List Nat} (hx : ∀ c ∈ xs, c < 256) : sumN xs < 2 ^ 32 := Nat.xor_lt_two_pow (reg_lt (by decide) hx) (by decide)
theorem join_lt {a b : Nat} (n : Nat) (ha : a < 2 ^ 32) (hb : b < 2 ^ 32) : meetN a b n < 2 ^ 32 := Nat.xor_lt_two_pow (steps_lt _ ha) hb
theorem sum_append (a b : List Nat) : sumN (a ++ b) = meetN (sumN a) (sumN b) b.length := by
  have h := reg_xor ones (sumN a) b
  have e : ones ^^^ sumN a = regN ones a := by rw [sumN, Nat.xor_comm (regN ones a), xor_cancel]
  rw [e] at h
  rw [sumN, reg_append, h, meetN, sumN, sumN, Nat.xor_assoc, Nat.xor_comm (stepsN _ _), ← Nat.xor_assoc, ← sumN, Nat.xor_comm]
theorem join_join (a b c n m : Nat) : meetN (meetN a b n) c m = meetN a (meetN b c m) (n + m) := by
  rw [meetN, meetN, meetN, meetN, steps_xor, ← steps_add, Nat.xor_assoc, Nat.mul_add]
theorem join_none (a : Nat) : meetN a 0 0 = a := Nat.xor_zero _
theorem join_zero (b n : Nat) : meetN 0 b n = b := by rw [meetN, steps_zero, Nat.zero_xor]
/-- Three rows, xored. -/
def xor3 : List Nat → List Nat → List Nat → List Nat
  | a :: as, b :: bs, c :: cs => (a ^^^ b ^^^ c) :: xor3 as bs cs
  | _, _, _ => []
theorem reg_three : ∀ (as bs cs : List Nat) (x y z : Nat), as.length = bs.length → bs.length = cs.length → regN (x ^^^ y ^^^ z) (xor3 as bs cs) = regN x as ^^^ regN y bs ^^^ regN z cs
  | [], [], [], _, _, _, _, _ => rfl
  | a :: as, b :: bs, c :: cs, x, y, z, h1, h2 => by
    show regN (takeN (x ^^^ y ^^^ z) (a ^^^ b ^^^ c)) (xor3 as bs cs) = _
    have e : takeN (x ^^^ y ^^^ z) (a ^^^ b ^^^ c) = takeN x a ^^^ takeN y b ^^^ takeN z c := by
      rw [takeN, takeN, takeN, takeN, ← steps_xor, ← steps_xor]
      congr 1
      ac_rfl
    rw [e, reg_three as bs cs _ _ _ (by simpa using h1) (by simpa using h2)]
    rfl
  | [], _ :: _, _, _, _, _, h1, _ => by simp at h1
  | _ :: _, [], _, _, _, _, h1, _ => by simp at h1
  | [], [], _ :: _, _, _, _, _, h2 => by simp at h2
  | _ :: _, _ :: _, [], _, _, _, _, h2 => by simp at h2
theorem sum_three (as bs cs : List Nat) (h1 : as.length = bs.length) (h2 : bs.length = cs.length) : sumN (xor3 as bs cs) = sumN as ^^^ sumN bs ^^^ sumN cs := by
  have h := reg_three as bs cs ones ones ones h1 h2
  rw [Nat.xor_self, Nat.zero_xor] at h
  rw [sumN, sumN, sumN, sumN, h]
  generalize regN ones as = a
  generalize regN ones bs = b
  generalize regN ones cs = c
  generalize ones = o
  rw [show a ^^^ o ^^^ (b ^^^ o) ^^^ (c ^^^ o) = a ^^^ b ^^^ c ^^^ o ^^^ (o ^^^ o) by ac_rfl, Nat.xor_self, Nat.xor_zero]
/-- Sums of parts that do not meet are xors. -/
theorem xor_add {i c : Nat} (a : Nat) (h : c < 2 ^ i) : c ^^^ 2 ^ i * a = c + 2 ^ i * a := by
  have h1 : (c ^^^ 2 ^ i * a) / 2 ^ i = a := by rw [Nat.xor_div_two_pow, Nat.div_eq_of_lt h, Nat.mul_div_cancel_left _ (Nat.two_pow_pos i), Nat.zero_xor]
  have h2 : (c ^^^ 2 ^ i * a) % 2 ^ i = c := by rw [Nat.xor_mod_two_pow, Nat.mod_eq_of_lt h, Nat.mul_mod_right, Nat.xor_zero]
  have h3 := Nat.mod_add_div (c ^^^ 2 ^ i * a) (2 ^ i)
  rw [h1, h2] at h3
  exact h3.symm
/-- Four bytes, the lowest first. -/
def le4 (v : Nat) : List Nat := [v % 256, v / 256 % 256, v / 65536 % 256, v / 16777216 % 256]
theorem le4_all (v : Nat) : ∀ c ∈ le4 v, c < 256 := by
  intro c hc
  simp only [le4, List.mem_cons, List.not_mem_nil, or_false] at hc
  rcases hc with rfl | rfl | rfl | rfl <;> exact Nat.mod_lt _ (by decide)
theorem le4_inj {v u : Nat} (hv : v < 2 ^ 32) (hu : u < 2 ^ 32) (h : le4 v = le4 u) : v = u := by
  simp only [le4, List.cons.injEq, and_true] at h
  omega
theorem le4_of {l : List Nat} (hl : l.length = 4) (h : ∀ c ∈ l, c < 256) : ∃ v, v < 2 ^ 32 ∧ l = le4 v := by
  match l, hl with
  | [a, b, c, d], _ =>
    have ha := h a (by simp)
    have hb := h b (by simp)
    have hc := h c (by simp)
    have hd := h d (by simp)
    refine ⟨a + 256 * b + 65536 * c + 16777216 * d, by omega, ?_⟩
    simp only [le4, List.cons.injEq, and_true]
    omega
theorem reg_le4 (x v : Nat) (hv : v < 2 ^ 32) : regN x (le4 v) = stepsN 32 (x ^^^ v) := by
  have e8 : ∀ c, stepsN 8 (2 ^ 8 * c) = c := fun c => steps_pow 8 8 c (Nat.le_refl _)
  show takeN (takeN (takeN (takeN x (v % 256)) (v / 256 % 256)) (v / 65536 % 256)) (v / 16777216 % 256) = _
  have h1 : ∀ y c d : Nat, takeN (takeN y c) d = stepsN 16 (y ^^^ c ^^^ 2 ^ 8 * d) := fun y c d => by
    have e : stepsN 8 (y ^^^ c) ^^^ d = stepsN 8 (y ^^^ c ^^^ 2 ^ 8 * d) := by rw [steps_xor 8 (y ^^^ c) (2 ^ 8 * d), e8 d]
    rw [takeN, takeN, e, ← steps_add]
  rw [h1, h1]
  have e16 : stepsN 16 (x ^^^ v % 256 ^^^ 2 ^ 8 * (v / 256 % 256)) ^^^ v / 65536 % 256 ^^^ 2 ^ 8 * (v / 16777216 % 256) = stepsN 16 (x ^^^ v) := by
    have e3 : v = v % 65536 ^^^ 2 ^ 16 * (v / 65536) := by rw [xor_add _ (by omega)]; omega
    have e4 : v % 65536 = v % 256 ^^^ 2 ^ 8 * (v / 256 % 256) := by rw [xor_add _ (by omega)]; omega
    have e5 : v / 65536 = v / 65536 % 256 ^^^ 2 ^ 8 * (v / 16777216 % 256) := by rw [xor_add _ (by omega)]; omega
    have e6 : stepsN 16 (2 ^ 16 * (v / 65536)) = v / 65536 := steps_pow 16 16 _ (Nat.le_refl _)
    have e7 : stepsN 16 (x ^^^ v) = stepsN 16 (x ^^^ v % 65536) ^^^ v / 65536 := by
      conv => lhs; rw [e3, ← Nat.xor_assoc, steps_xor, e6]
    rw [e7, e4, ← Nat.xor_assoc x]
    conv => rhs; rw [e5]
    rw [Nat.xor_assoc (stepsN 16 _)]
  rw [e16, ← steps_add]
/-- Sealed. -/
def sealN (xs : List Nat) : List Nat := xs ++ le4 (sumN xs)
theorem seal_length (xs : List Nat) : (sealN xs).length = xs.length + 4 := by simp [sealN, le4]
def frontN (xs : List Nat) : List Nat := xs.take (xs.length - 4)
def openErr (xs : List Nat) : Nat := if xs.length < 4 then 4 else if sealN (frontN xs) = xs then 0 else 20
def openVal (xs : List Nat) : List Nat := if openErr xs = 0 then frontN xs else []
def rightN : Nat := stepsN 32 ones
theorem front_seal (xs : List Nat) : frontN (sealN xs) = xs := by
  rw [frontN, seal_length, Nat.add_sub_cancel, sealN, List.take_left]
theorem open_seal (xs : List Nat) : openErr (sealN xs) = 0 ∧ openVal (sealN xs) = xs := by
  have h : openErr (sealN xs) = 0 := by rw [openErr, if_neg (by rw [seal_length]; omega), front_seal, if_pos rfl]
  exact ⟨h, by rw [openVal, if_pos h, front_seal]⟩
/-- What is right, by its register. -/
theorem open_right (xs : List Nat) (hl : 4 ≤ xs.length) (hx : ∀ c ∈ xs, c < 256) : openErr xs = 0 ↔ regN ones xs = rightN := by
  have hsp : frontN xs ++ xs.drop (xs.length - 4) = xs := List.take_append_drop _ _
  obtain ⟨v, hv, hle⟩ := le4_of (l := xs.drop (xs.length - 4)) (by rw [List.length_drop]; omega) (fun c hc => hx c (List.mem_of_mem_drop hc))
  have hf : ∀ c ∈ frontN xs, c < 256 := fun c hc => hx c (List.mem_of_mem_take hc)
  have hreg : regN ones xs = stepsN 32 (regN ones (frontN xs) ^^^ v) := by
    conv => lhs; rw [← hsp, hle, reg_append, reg_le4 _ _ hv]
  have hiff : sealN (frontN xs) = xs ↔ sumN (frontN xs) = v := by
    rw [sealN]
    constructor
    · intro h
      have h2 : frontN xs ++ le4 (sumN (frontN xs)) = frontN xs ++ le4 v := by rw [h, ← hle, hsp]
      exact le4_inj (sum_lt hf) hv (List.append_cancel_left h2)
    · intro h
      rw [h, ← hle, hsp]
  rw [openErr, if_neg (by omega)]
  constructor
  · intro h
    have h1 : sealN (frontN xs) = xs := by
      by_cases h1 : sealN (frontN xs) = xs
      · exact h1
      · rw [if_neg h1] at h; cases h
    have h2 := hiff.1 h1
    rw [hreg, ← h2, sumN, xor_cancel]; rfl
  · intro h
    rw [hreg, rightN] at h
    have h1 : stepsN 32 (regN ones (frontN xs) ^^^ v ^^^ ones) = 0 := by rw [steps_xor, h, Nat.xor_self]
    have h2 : regN ones (frontN xs) ^^^ v ^^^ ones = 0 := by
      rcases Nat.eq_zero_or_pos (regN ones (frontN xs) ^^^ v ^^^ ones) with h2 | h2
      · exact h2
      · exact absurd h1 (steps_nonzero 32 (Nat.xor_lt_two_pow (Nat.xor_lt_two_pow (reg_lt (by decide) hf) hv) (by decide)) (by omega))
    have h3 : sumN (frontN xs) = v := by
      rw [sumN]
      apply xor_zero_eq
      rw [← h2]
      ac_rfl
    rw [if_pos (hiff.2 h3)]
theorem open_cases (xs : List Nat) : openErr xs = 4 ∨ openErr xs = 0 ∨ openErr xs = 20 := by
  unfold openErr
  split
  · exact Or.inl rfl
  · split
    · exact Or.inr (Or.inl rfl)
    · exact Or.inr (Or.inr rfl)
/-- Bits turned, one by one. -/
def flipN (s : List Nat) (bit turn : Nat) : Nat → List Nat
  | 0 => s
  | i + 1 => (flipN s bit turn i).set ((bit + i) / 8) ((flipN s bit turn i).getD ((bit + i) / 8) 0 ^^^ turn / 2 ^ i % 2 * 2 ^ ((bit + i) % 8))
theorem flip_length (s : List Nat) (bit turn i : Nat) : (flipN s bit turn i).length = s.length := by
  induction i with
  | zero => rfl
  | succ i ih => rw [flipN, List.length_set, ih]
theorem bit_lt (t r : Nat) (h : r < 8) : t % 2 * 2 ^ r < 256 := by
  have h1 : t % 2 < 2 := Nat.mod_lt _ (by decide)
  have h2 : 2 ^ r ≤ 2 ^ 7 := Nat.pow_le_pow_right (by decide) (by omega)
  have h3 : t % 2 * 2 ^ r ≤ 1 * 2 ^ 7 := Nat.mul_le_mul (by omega) h2
  omega
theorem getD_lt {s : List Nat} (h : ∀ c ∈ s, c < 256) (q : Nat) : s.getD q 0 < 256 := by
  rw [List.getD_eq_getElem?_getD]
  cases e : s[q]? with
  | none => exact (by decide : 0 < 256)
  | some x => exact h x (List.mem_of_getElem? e)
theorem flip_all (s : List Nat) (bit turn i : Nat) (h : ∀ c ∈ s, c < 256) : ∀ c ∈ flipN s bit turn i, c < 256 := by
  induction i with
  | zero => exact h
  | succ i ih =>
    intro c hc
    rw [flipN] at hc
    rcases List.mem_or_eq_of_mem_set hc with h1 | h1
    · exact ih c h1
    · rw [h1]
      exact Nat.xor_lt_two_pow (n := 8) (getD_lt ih _) (bit_lt _ _ (Nat.mod_lt _ (by decide)))
theorem flip_none (s : List Nat) (bit i : Nat) : flipN s bit 0 i = s := by
  induction i with
  | zero => rfl
  | succ i ih =>
    rw [flipN, ih, Nat.zero_div, Nat.zero_mod, Nat.zero_mul, Nat.xor_zero]
    apply List.ext_getElem?
    intro j
    rw [List.getElem?_set]
    split
    · rename_i e
      subst e
      split
      · rename_i h
        rw [List.getD_eq_getElem?_getD, List.getElem?_eq_getElem h]; rfl
      · rename_i h
        rw [List.getElem?_eq_none (by omega)]
    · rfl
theorem flip_reg (x : Nat) (s : List Nat) (bit turn i : Nat) (hb : bit + i ≤ 8 * s.length) : regN x (flipN s bit turn i) = regN x s ^^^ stepsN (8 * s.length - bit) (turn % 2 ^ i) := by
  induction i with
  | zero => rw [flipN, Nat.pow_zero, Nat.mod_one, steps_zero, Nat.xor_zero]
  | succ i ih =>
    have hq : (bit + i) / 8 < (flipN s bit turn i).length := by rw [flip_length]; omega
    have hget : (flipN s bit turn i)[(bit + i) / 8]? = some ((flipN s bit turn i).getD ((bit + i) / 8) 0) := by
      rw [List.getD_eq_getElem?_getD, List.getElem?_eq_getElem hq]; rfl
    rw [flipN, reg_set _ _ _ _ _ hget, ih (by omega), flip_length, Nat.xor_assoc]
    congr 1
    have e1 : turn % 2 ^ (i + 1) = turn % 2 ^ i ^^^ 2 ^ i * (turn / 2 ^ i % 2) := by
      rw [xor_add _ (Nat.mod_lt _ (Nat.two_pow_pos i)), Nat.pow_succ, Nat.mod_mul]
    rw [e1, steps_xor, steps_pow _ i _ (by omega), Nat.mul_comm (turn / 2 ^ i % 2), steps_pow _ _ _ (by omega)]
    congr 2
    omega
/-- THE STAGE'S THEOREM, plainly: bits turned within 32 in a row are found. -/
theorem finds (b : List Nat) (bit turn : Nat) (hb : ∀ c ∈ b, c < 256) (ht : turn < 2 ^ 32) (h0 : turn ≠ 0) (hbit : bit + 32 ≤ 8 * (b.length + 4)) : openErr (flipN (sealN b) bit turn 32) = 20 := by
  have hs : ∀ c ∈ sealN b, c < 256 := fun c hc => by
    rcases List.mem_append.1 hc with h | h
    · exact hb c h
    · exact le4_all _ c h
  have hl : (sealN b).length = b.length + 4 := seal_length b
  have hr := (open_right (sealN b) (by omega) hs).1 (open_seal b).1
  have hf := flip_reg ones (sealN b) bit turn 32 (by omega)
  rw [hr, Nat.mod_eq_of_lt ht] at hf
  have hne : openErr (flipN (sealN b) bit turn 32) ≠ 0 := by
    intro h
    rw [open_right _ (by rw [flip_length]; omega) (flip_all _ _ _ _ hs), hf] at h
    have : stepsN (8 * (sealN b).length - bit) turn = 0 := by
      rw [← xor_cancel rightN (stepsN _ _), h, Nat.xor_self]
    exact steps_nonzero _ ht h0 this
  rcases open_cases (flipN (sealN b) bit turn 32) with h | h | h
  · unfold openErr at h
    rw [flip_length] at h
    rw [if_neg (by omega)] at h
    split at h <;> cases h
  · exact absurd h hne
  · exact h
/-- Steps, a table's way: what falls out by itself, the rest goes down. -/
theorem steps_low (n x : Nat) : stepsN n x = x / 2 ^ n ^^^ stepsN n (x % 2 ^ n) := by
  have e : x = x % 2 ^ n ^^^ 2 ^ n * (x / 2 ^ n) := by rw [xor_add _ (Nat.mod_lt _ (Nat.two_pow_pos n)), Nat.mod_add_div]
  have h : stepsN n (x % 2 ^ n ^^^ 2 ^ n * (x / 2 ^ n)) = stepsN n (x % 2 ^ n) ^^^ x / 2 ^ n := by rw [steps_xor, steps_pow n n _ (Nat.le_refl _), Nat.sub_self]; rfl
  rw [← e] at h
  rw [h, Nat.xor_comm]
end Go.Proofs.YtgkihfemlbhioaaDoor.Crc
