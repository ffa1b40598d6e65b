/- The field of 256 elements over plain numbers: sums, products, powers, exponents, and that it is a field. -/
import GoSem.Claim
import Derived.Laws.BitsAllLaws
namespace Go.Proofs.YtcjjhblgejkkeaaGreat

/-- The product with x. -/
def xt (a : Nat) : Nat := (a * 2 % 256) ^^^ (27 * (a / 128))
/-- x to the k times a. -/
def xtn : Nat → Nat → Nat
  | 0, a => a
  | k + 1, a => xt (xtn k a)
/-- The first k steps of a product. -/
def mulTo (a b : Nat) : Nat → Nat
  | 0 => 0
  | k + 1 => mulTo a b k ^^^ (xtn k a * (b / 2 ^ k % 2))
def mulN (a b : Nat) : Nat := mulTo a b 8

theorem xor_lt {a b : Nat} (ha : a < 256) (hb : b < 256) : a ^^^ b < 256 := Nat.xor_lt_two_pow (n := 8) ha hb
theorem xt_lt {a : Nat} (ha : a < 256) : xt a < 256 := xor_lt (Nat.mod_lt _ (by decide)) (by omega)
theorem xtn_lt (k : Nat) {a : Nat} (ha : a < 256) : xtn k a < 256 := by
  induction k with
  | zero => exact ha
  | succ k ih => exact xt_lt ih
theorem bit_lt (b k : Nat) : b / 2 ^ k % 2 ≤ 1 := by omega
theorem mulTo_lt (a b k : Nat) (ha : a < 256) : mulTo a b k < 256 := by
  induction k with
  | zero => exact (by decide : (0 : Nat) < 256)
  | succ k ih =>
    refine xor_lt ih ?_
    have h := bit_lt b k
    have h2 := xtn_lt k ha
    rcases Nat.le_one_iff_eq_zero_or_eq_one.1 h with e | e <;> rw [e] <;> simp <;> omega
theorem mulN_lt {a : Nat} (b : Nat) (ha : a < 256) : mulN a b < 256 := mulTo_lt a b 8 ha

theorem stepbit_lt (x b k : Nat) (hx : x < 256) : x * (b / 2 ^ k % 2) < 256 := by
  rcases Nat.le_one_iff_eq_zero_or_eq_one.1 (bit_lt b k) with e | e <;> rw [e] <;> simp <;> omega
theorem bit_int (b k : Nat) (hb : b < 256) : bits .and .u8 ((b : Int) / 2 ^ k) 1 = ((b / 2 ^ k % 2 : Nat) : Int) := by
  have e : ((b : Int) / 2 ^ k) = ((b / 2 ^ k : Nat) : Int) := by simp
  have h : b / 2 ^ k < 256 := Nat.lt_of_le_of_lt (Nat.div_le_self _ _) hb
  rw [e, show (1 : Int) = ((1 : Nat) : Int) from rfl, u8_and_nat _ 1 h (by decide), Nat.and_one_is_mod]
theorem stepbit_int (x b k : Nat) (hx : x < 256) (hb : b < 256) : (x : Int) * bits .and .u8 ((b : Int) / 2 ^ k) 1 % 256 = ((x * (b / 2 ^ k % 2) : Nat) : Int) := by
  have h := stepbit_lt x b k hx
  rw [bit_int b k hb, ← Int.natCast_mul]
  omega

/-! ### Powers of 3 -/
def pw : Nat → Nat
  | 0 => 1
  | k + 1 => pw k ^^^ xt (pw k)
/-- The tables as one number each. -/
def bigP : Nat := 0xf652c7b46c241cfda297847cdd4b39170df2a794858a8f8c8d7b29ee5a36120ef351c6423ee3a891868b79de4acf45ca46cbb099772d1b0907f4a563211ffc54c543c8b16f25eaaf6523e858c1b69b80898e7adfbc9d827e2aefac64d5ba9f75dabf9c742ced5bc040c9473de25ec3413f15fa5632e75dc2b76dd24e3a16fba06020e9ae93712fecad92877d2b19fea361d6bb69271d0bf0503010f957c4b59a76db49ceb398817fdcbd6bd0b99e838878281808f1a662d74d3be0a967d44ccdb26ed3b868d14fcc443c140c04f55331e6ab9070d9be6a26eb5937e45c34e5aa66221e0a0602f7a49573d84838e15f3513f8a196722e1aff5533110f050301
def bigL : Nat := 0x770f7c0808c630d18fe31c5deed4a67a5e3997726b87cb4892e2023d9921144abd3f2565d9e2a14476da2413c843953d15b3f37cdcf95bcfcdcbe619087b2979d2955aa6ca1523b86b160fb5a3ebbccb77b76a42d1f43d8ec49c4176ff60c7fa051a99cb05fcb59f50b16eb7a75d72ce8ade6e7d5e9ae4f74d6eaf450a858af57a773f3e5acd44eca5e9f9b150a792bba3d85fa54286b3a421eb6a3c3486e7e1091882298e225b3628b06bf30fddd6638834640f1d25c1394ced036bddb8f968eda93354582f01224e10f21058a2f657809c99a72a6e44d6a27b9f9b51dc27dc11c69f8c808714cef818d340ee0046403dfee33681bc74bc61a023201190000
def pwT (i : Nat) : Nat := bigP >>> (8 * i) % 256
def lg (a : Nat) : Nat := bigL >>> (8 * a) % 256
def pwOk : Nat → Bool
  | 0 => pwT 0 == 1
  | k + 1 => pwOk k && pwT (k + 1) == (pwT k ^^^ xt (pwT k))
theorem pwOk_254 : pwOk 254 = true := by decide +kernel
theorem pw_of_ok (k : Nat) (h : pwOk k = true) : pw k = pwT k ∧ ∀ j, j ≤ k → pwOk j = true := by
  induction k with
  | zero => exact ⟨by simpa [pwOk, pw] using (beq_iff_eq.1 h).symm, fun j hj => by rw [show j = 0 by omega]; exact h⟩
  | succ k ih =>
    simp only [pwOk, Bool.and_eq_true, beq_iff_eq] at h
    obtain ⟨h1, h2⟩ := ih h.1
    refine ⟨by rw [pw, h1, h.2], fun j hj => ?_⟩
    by_cases e : j = k + 1
    · subst e; simp [pwOk, h.1, h.2]
    · exact h2 j (by omega)
theorem pw_T (k : Nat) (h : k < 255) : pw k = pwT k := (pw_of_ok k ((pw_of_ok 254 pwOk_254).2 k (by omega))).1
theorem pwT_lg : ∀ a, a < 256 → 1 ≤ a → lg a < 255 ∧ pwT (lg a) = a := by decide +kernel
theorem lg_pwT : ∀ i, i < 255 → lg (pwT i) = i ∧ 1 ≤ pwT i ∧ pwT i < 256 := by decide +kernel
theorem pw_lg (a : Nat) (h : a < 256) (h1 : 1 ≤ a) : pw (lg a) = a := by
  have := pwT_lg a h h1; rw [pw_T _ this.1]; exact this.2
theorem lg_lt (a : Nat) (h : a < 256) (h1 : 1 ≤ a) : lg a < 255 := (pwT_lg a h h1).1
theorem lg_pw (i : Nat) (h : i < 255) : lg (pw i) = i := by rw [pw_T i h]; exact (lg_pwT i h).1
theorem pw_pos (i : Nat) (h : i < 255) : 1 ≤ pw i := by rw [pw_T i h]; exact (lg_pwT i h).2.1
theorem pw_lt (i : Nat) : pw i < 256 := by
  induction i with
  | zero => exact (by decide : 1 < 256)
  | succ k ih => exact xor_lt ih (xt_lt ih)
theorem pw_255 : pw 255 = 1 := by rw [pw, pw_T 254 (by decide)]; decide +kernel
theorem pw_add255 (k : Nat) : pw (k + 255) = pw k := by
  induction k with
  | zero => rw [Nat.zero_add, pw_255]; rfl
  | succ k ih => rw [show k + 1 + 255 = (k + 255) + 1 by omega, pw, ih, pw]
theorem pw_mod (k : Nat) : pw (k % 255) = pw k := by
  induction k using Nat.strongRecOn with
  | _ k ih =>
    by_cases h : k < 255
    · rw [Nat.mod_eq_of_lt h]
    · have e : k = (k - 255) + 255 := by omega
      rw [e, Nat.add_mod_right, ih _ (by omega), pw_add255]

/-! ### Sums go through -/
theorem xt_xor_all : ∀ a, a < 256 → ∀ b, b < 256 → xt (a ^^^ b) = xt a ^^^ xt b := by decide +kernel
theorem xtn_xor (k : Nat) {a b : Nat} (ha : a < 256) (hb : b < 256) : xtn k (a ^^^ b) = xtn k a ^^^ xtn k b := by
  induction k with
  | zero => rfl
  | succ k ih => rw [xtn, ih, xt_xor_all _ (xtn_lt k ha) _ (xtn_lt k hb)]; rfl
theorem xtn_xt (k : Nat) (a : Nat) : xtn k (xt a) = xt (xtn k a) := by
  induction k with
  | zero => rfl
  | succ k ih => rw [xtn, ih]; rfl
theorem xor_swap (a b c d : Nat) : (a ^^^ b) ^^^ (c ^^^ d) = (a ^^^ c) ^^^ (b ^^^ d) := by
  rw [Nat.xor_assoc, ← Nat.xor_assoc b, Nat.xor_comm b c, Nat.xor_assoc c, ← Nat.xor_assoc a]
theorem xor_mulbit (x y b : Nat) (h : b ≤ 1) : (x ^^^ y) * b = x * b ^^^ y * b := by
  rcases Nat.le_one_iff_eq_zero_or_eq_one.1 h with e | e <;> subst e <;> simp
theorem mulTo_xor (a c b k : Nat) (ha : a < 256) (hc : c < 256) : mulTo (a ^^^ c) b k = mulTo a b k ^^^ mulTo c b k := by
  induction k with
  | zero => simp [mulTo]
  | succ k ih => rw [mulTo, ih, xtn_xor k ha hc, xor_mulbit _ _ _ (bit_lt b k), xor_swap]; rfl
theorem mulTo_xt (a b k : Nat) (ha : a < 256) : mulTo (xt a) b k = xt (mulTo a b k) := by
  induction k with
  | zero => simp only [mulTo]; decide
  | succ k ih =>
    rw [mulTo, ih, xtn_xt, mulTo, xt_xor_all _ (mulTo_lt a b k ha) _ (stepbit_lt _ b k (xtn_lt k ha))]
    congr 1
    rcases Nat.le_one_iff_eq_zero_or_eq_one.1 (bit_lt b k) with e | e <;> rw [e] <;> simp
    rfl
theorem mul_xor_left (a c b : Nat) (ha : a < 256) (hc : c < 256) : mulN (a ^^^ c) b = mulN a b ^^^ mulN c b := mulTo_xor a c b 8 ha hc
theorem mul_xt_left (a b : Nat) (ha : a < 256) : mulN (xt a) b = xt (mulN a b) := mulTo_xt a b 8 ha
theorem mul_one_left : ∀ b, b < 256 → mulN 1 b = b := by decide +kernel
theorem mul_zero_left (b : Nat) : mulN 0 b = 0 := by
  have h : ∀ k, xtn k 0 = 0 := fun k => by induction k with | zero => rfl | succ k ih => rw [xtn, ih]; rfl
  simp [mulN, mulTo, h]
theorem mul_zero_right (a : Nat) : mulN a 0 = 0 := by simp [mulN, mulTo]

/-- The product of two powers. -/
theorem mul_pw (i : Nat) (b : Nat) (hb : b < 256) (j : Nat) (hj : pw j = b) : mulN (pw i) b = pw (i + j) := by
  induction i with
  | zero => rw [show pw 0 = 1 from rfl, mul_one_left b hb, Nat.zero_add, hj]
  | succ i ih => rw [pw, mul_xor_left _ _ _ (pw_lt i) (xt_lt (pw_lt i)), mul_xt_left _ _ (pw_lt i), ih, show i + 1 + j = (i + j) + 1 by omega, pw]
theorem mul_pw_pw (i j : Nat) : mulN (pw i) (pw j) = pw (i + j) := mul_pw i (pw j) (pw_lt j) j rfl
theorem mul_lg (a b : Nat) (ha : a < 256) (hb : b < 256) (h1 : 1 ≤ a) (h2 : 1 ≤ b) : mulN a b = pw (lg a + lg b) := by
  have h := mul_pw_pw (lg a) (lg b)
  rwa [pw_lg a ha h1, pw_lg b hb h2] at h
theorem pw_pos' (k : Nat) : 1 ≤ pw k := by rw [← pw_mod]; exact pw_pos _ (Nat.mod_lt _ (by decide))
theorem pw_inj {i j : Nat} (h : pw i = pw j) : i % 255 = j % 255 := by
  rw [← pw_mod i, ← pw_mod j] at h
  have := congrArg lg h
  rwa [lg_pw _ (Nat.mod_lt _ (by decide)), lg_pw _ (Nat.mod_lt _ (by decide))] at this

/-! ### The field -/
theorem mul_comm' (a b : Nat) (ha : a < 256) (hb : b < 256) : mulN a b = mulN b a := by
  by_cases h1 : a = 0
  · subst h1; rw [mul_zero_left, mul_zero_right]
  by_cases h2 : b = 0
  · subst h2; rw [mul_zero_left, mul_zero_right]
  rw [mul_lg a b ha hb (by omega) (by omega), mul_lg b a hb ha (by omega) (by omega), Nat.add_comm]
theorem mul_eq_zero (a b : Nat) (ha : a < 256) (hb : b < 256) : mulN a b = 0 ↔ a = 0 ∨ b = 0 := by
  by_cases h1 : a = 0
  · subst h1; simp [mul_zero_left]
  by_cases h2 : b = 0
  · subst h2; simp [mul_zero_right]
  have := pw_pos' (lg a + lg b)
  rw [mul_lg a b ha hb (by omega) (by omega)]
  omega
theorem mul_assoc' (a b c : Nat) (ha : a < 256) (hb : b < 256) (hc : c < 256) : mulN (mulN a b) c = mulN a (mulN b c) := by
  by_cases h1 : a = 0
  · subst h1; simp [mul_zero_left]
  by_cases h2 : b = 0
  · subst h2; simp [mul_zero_left, mul_zero_right]
  by_cases h3 : c = 0
  · subst h3; simp [mul_zero_right]
  rw [mul_lg a b ha hb (by omega) (by omega), mul_lg b c hb hc (by omega) (by omega)]
  have ea := pw_lg a ha (by omega)
  have ec := pw_lg c hc (by omega)
  have h4 := mul_pw_pw (lg a + lg b) (lg c)
  have h5 := mul_pw_pw (lg a) (lg b + lg c)
  rw [ec] at h4
  rw [ea] at h5
  rw [h4, h5, Nat.add_assoc]
theorem mul_xor_right (a b c : Nat) (ha : a < 256) (hb : b < 256) (hc : c < 256) : mulN a (b ^^^ c) = mulN a b ^^^ mulN a c := by
  rw [mul_comm' _ _ ha (xor_lt hb hc), mul_xor_left _ _ _ hb hc, mul_comm' b a hb ha, mul_comm' c a hc ha]
theorem mul_one_right (a : Nat) (ha : a < 256) : mulN a 1 = a := by rw [mul_comm' a 1 ha (by decide), mul_one_left a ha]
/-- The inverse, as the tables give it. -/
def invN (a : Nat) : Nat := if a = 0 then 0 else pw ((255 - lg a) % 255)
theorem invN_lt (a : Nat) : invN a < 256 := by unfold invN; split; decide; exact pw_lt _
theorem mul_inv (a : Nat) (ha : a < 256) (h1 : 1 ≤ a) : mulN a (invN a) = 1 := by
  have h := mul_pw_pw (lg a) ((255 - lg a) % 255)
  rw [pw_lg a ha h1] at h
  unfold invN
  rw [if_neg (by omega), h]
  have := lg_lt a ha h1
  by_cases e : lg a = 0
  · rw [e]; rfl
  · rw [Nat.mod_eq_of_lt (by omega : 255 - lg a < 255), show lg a + (255 - lg a) = 255 by omega, pw_255]
theorem inv_unique (a b : Nat) (ha : a < 256) (hb : b < 256) (h : mulN a b = 1) : b = invN a := by
  have h1 : a ≠ 0 := fun e => by subst e; rw [mul_zero_left] at h; omega
  have h2 := mul_inv a ha (by omega)
  have h3 := mul_assoc' (invN a) a b (invN_lt a) ha hb
  rw [mul_comm' (invN a) a (invN_lt a) ha, h2, mul_one_left b hb, h, mul_one_right _ (invN_lt a)] at h3
  exact h3
/-- The n-th power, as the tables give it. -/
def powN (a n : Nat) : Nat := if n = 0 then 1 else if a = 0 then 0 else pw (lg a * n)
theorem powN_lt (a n : Nat) : powN a n < 256 := by unfold powN; split; decide; split; decide; exact pw_lt _
theorem powN_zero (a : Nat) : powN a 0 = 1 := rfl
theorem powN_succ (a n : Nat) (ha : a < 256) : powN a (n + 1) = mulN a (powN a n) := by
  by_cases h : a = 0
  · subst h; simp [powN, mul_zero_left]
  · have e : powN a n = pw (lg a * n) := by
      unfold powN
      by_cases hn : n = 0
      · subst hn; rfl
      · rw [if_neg hn, if_neg h]
    have e' : powN a (n + 1) = pw (lg a * (n + 1)) := by simp [powN, h]
    have h2 := mul_pw_pw (lg a) (lg a * n)
    rw [pw_lg a ha (by omega)] at h2
    rw [e, e', h2, Nat.mul_add, Nat.mul_one, Nat.add_comm]
theorem powN_add (a m n : Nat) (ha : a < 256) : powN a (m + n) = mulN (powN a m) (powN a n) := by
  induction m with
  | zero => rw [Nat.zero_add, powN_zero, mul_one_left _ (powN_lt a n)]
  | succ m ih => rw [show m + 1 + n = (m + n) + 1 by omega, powN_succ a _ ha, ih, powN_succ a m ha, mul_assoc' _ _ _ ha (powN_lt a m) (powN_lt a n)]
theorem powN_mul (a m n : Nat) (ha : a < 256) : powN (powN a m) n = powN a (m * n) := by
  induction n with
  | zero => rfl
  | succ n ih => rw [powN_succ _ _ (powN_lt a m), ih, Nat.mul_succ, Nat.add_comm, powN_add a _ _ ha]
theorem powN_three (n : Nat) : powN 3 n = pw n := by
  induction n with
  | zero => rfl
  | succ n ih => rw [powN_succ 3 n (by decide), ih]; have := mul_pw_pw 1 n; rw [show pw 1 = 3 from rfl] at this; rw [this, Nat.add_comm]
theorem powN_255 (a : Nat) (ha : a < 256) (h1 : 1 ≤ a) : powN a 255 = 1 := by
  simp only [powN]
  rw [if_neg (by decide), if_neg (by omega), ← pw_mod, Nat.mul_mod_left]; rfl
theorem powN_one (a : Nat) (ha : a < 256) : powN a 1 = a := by rw [powN_succ a 0 ha, powN_zero, mul_one_right a ha]
theorem powN_256 (a : Nat) (ha : a < 256) : powN a 256 = a := by
  by_cases h : a = 0
  · subst h; rfl
  · rw [show 256 = 255 + 1 from rfl, powN_succ a _ ha, powN_255 a ha (by omega), mul_one_right a ha]

/-! ### For the document's own answers -/
theorem xt_hi (x : Nat) (hx : x < 256) (h : 128 ≤ x) : (x * 2 % 256) ^^^ 27 = xt x := by
  have e : x / 128 = 1 := by omega
  simp [xt, e]
theorem xt_lo (x : Nat) (h : x < 128) : x * 2 % 256 = xt x := by
  have e : x / 128 = 0 := by omega
  simp [xt, e]
theorem mulTo_one (a b k : Nat) (h : b / 2 ^ k % 2 = 1) : mulTo a b k ^^^ xtn k a = mulTo a b (k + 1) := by rw [mulTo, h, Nat.mul_one]
theorem mulTo_none (a b k : Nat) (h : b / 2 ^ k % 2 = 0) : mulTo a b k = mulTo a b (k + 1) := by rw [mulTo, h, Nat.mul_zero, Nat.xor_zero]
theorem invN_pos (a : Nat) (h1 : 1 ≤ a) : 1 ≤ invN a := by unfold invN; rw [if_neg (by omega)]; exact pw_pos' _
theorem invN_zero : invN 0 = 0 := rfl
/-- The exponent, 0 of 0. -/
def lgN (a : Nat) : Nat := if a = 0 then 0 else lg a
/-- ErrArg of 0, else none. -/
def err0 (a : Nat) : Int := if a = 0 then 1 else 0
theorem sq_pow (x h : Nat) (hx : x < 256) : powN (mulN x x) h = powN x (h + h) := by
  have e : mulN x x = powN x 2 := by rw [powN_succ x 1 hx, powN_one x hx]
  rw [e, powN_mul x 2 h hx, Nat.two_mul]
theorem pow_odd (p x m : Nat) (hp : p < 256) (hx : x < 256) (h : m % 2 = 1) : mulN (mulN p x) (powN (mulN x x) (m / 2)) = mulN p (powN x m) := by
  have e : m = (m / 2 + m / 2) + 1 := by omega
  rw [sq_pow x _ hx, mul_assoc' _ _ _ hp hx (powN_lt _ _)]
  rw [← powN_succ x _ hx, ← e]
theorem pow_even (p x m : Nat) (hx : x < 256) (h : m % 2 = 0) : mulN p (powN (mulN x x) (m / 2)) = mulN p (powN x m) := by
  have e : m / 2 + m / 2 = m := by omega
  rw [sq_pow x _ hx, e]
theorem lg_next (a k : Nat) (ha : a < 256) (h1 : 1 ≤ a) (hk : k ≤ lg a) (h : pw k ≠ a) : k + 1 ≤ lg a := by
  by_cases e : k = lg a
  · subst e; exact absurd (pw_lg a ha h1) h
  · omega
theorem lg_hit (a k : Nat) (hk : k < 255) (h : pw k = a) : lg a = k := by rw [← h, lg_pw k hk]
theorem mul_pw3 (k : Nat) : mulN (pw k) 3 = pw (k + 1) := mul_pw_pw k 1
end Go.Proofs.YtcjjhblgejkkeaaGreat
