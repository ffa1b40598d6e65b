/- Slices of rows (coefficients and payload): read, and laid in new memory. -/
import Derived.Test.YtgelalbmhllccaaQaa
import Derived.Maps.AppendAt
import Derived.OneCell
import GoSem.Claim
import Derived.Laws.BitsAllLaws
import Derived.Test.YtgelalbmhllccaaProg
import Derived.WalkKit
import Derived.Lib.Hide
import Derived.Laws.MakeOwn
import Derived.Deep.RegionHeld3
import Derived.Tactics
import Derived.Laws.Rows
import Derived.StillTailTactics
namespace Go.Proofs.Ytgelalbmhllccaa
open Go.RowKit
/-- A row: coefficients, payload. -/
structure PairV where
  a : RowV
  b : RowV
def PairV.vals (p : PairV) : List Value := [p.a.val, p.b.val]
/-- Both, side by side. -/
def PairV.xs (p : PairV) : List Nat := p.a.xs ++ p.b.xs
/-- Such a row as a value. -/
def PairV.agg (p : PairV) : Value := .agg #[.slice p.a.A p.a.n p.a.c, .slice p.b.A p.b.n p.b.c]
/-- A slice of rows in blocks of F, its own block among them. -/
def StIn (w : World) (F : Nat → Prop) (A : Option Addr) (n : Nat) (ps : List PairV) : Prop :=
  ps.length = n ∧ (∀ p ∈ ps, LiesIn w F p.a ∧ LiesIn w F p.b) ∧ (0 < n → ∃ b off, A = some ⟨b, off, none⟩ ∧ F b ∧ ∀ i p, ps[i]? = some p → w.cell? ⟨b, off + i * 2, none⟩ = some p.a.val ∧ w.cell? ⟨b, off + i * 2 + 1, none⟩ = some p.b.val)
namespace StIn
variable {F F' G : Nat → Prop} {w w' : World} {A : Option Addr} {n : Nat} {ps : List PairV}
theorem turned (h : StIn w F A n ps) (k : Turned G w w') (hd : ∀ b, F b → ¬ G b) : StIn w' F A n ps := ⟨h.1, fun p hp => ⟨(h.2.1 p hp).1.turned k hd, (h.2.1 p hp).2.turned k hd⟩, fun hp => by
  obtain ⟨b, off, e, hb, hc⟩ := h.2.2 hp
  exact ⟨b, off, e, hb, fun i p hi => ⟨k.cell (hc i p hi).1 (hd b hb), k.cell (hc i p hi).2 (hd b hb)⟩⟩⟩
theorem keep (h : StIn w F A n ps) (k : Keep w w') : StIn w' F A n ps := h.turned (Turned.of_keep (F := fun _ => False) k) fun _ _ e => e
theorem mono (h : StIn w F A n ps) (hF : ∀ b, F b → F' b) : StIn w F' A n ps := ⟨h.1, fun p hp => ⟨(h.2.1 p hp).1.mono hF, (h.2.1 p hp).2.mono hF⟩, fun hp => by
  obtain ⟨b, off, e, hb, hc⟩ := h.2.2 hp
  exact ⟨b, off, e, hF b hb, hc⟩⟩
theorem nothing (w : World) (F : Nat → Prop) (A : Option Addr) : StIn w F A 0 [] := ⟨rfl, fun _ h => by simp at h, fun h => absurd h (by omega)⟩
theorem at_ (h : StIn w F A n ps) {k : Nat} (hk : k < n) : ∃ b off p, A = some ⟨b, off, none⟩ ∧ F b ∧ ps[k]? = some p ∧ w.cell? ⟨b, off + k * 2, none⟩ = some (.slice p.a.A p.a.n p.a.c) ∧ w.cell? ⟨b, off + k * 2 + 1, none⟩ = some (.slice p.b.A p.b.n p.b.c) ∧ LiesIn w F p.a ∧ LiesIn w F p.b := by
  obtain ⟨b, off, e, hb, hc⟩ := h.2.2 (by omega)
  have hl : k < ps.length := by rw [h.1]; exact hk
  have hp := List.getElem?_eq_getElem hl
  have hm := h.2.1 _ (List.getElem_mem hl)
  exact ⟨b, off, ps[k], e, hb, hp, (hc k _ hp).1, (hc k _ hp).2, hm.1, hm.2⟩
end StIn
/-- New memory: rows in a block from base on. -/
def OwnSt (w : World) (base : Nat) (A : Option Addr) (n c : Nat) (ps : List PairV) : Prop :=
  w.ownsRow base 39 2 (.slice A n c) n (ps.flatMap PairV.vals)
theorem vals_len (ps : List PairV) : (ps.flatMap PairV.vals).length = ps.length * 2 := by
  induction ps with
  | nil => rfl
  | cons p ps ih => rw [List.flatMap_cons, List.length_append, ih, List.length_cons]; simp [PairV.vals]; omega
theorem vals_at : ∀ (ps : List PairV) (i : Nat) (p : PairV), ps[i]? = some p → (ps.flatMap PairV.vals)[i * 2]? = some p.a.val ∧ (ps.flatMap PairV.vals)[i * 2 + 1]? = some p.b.val
  | [], i, p, h => by simp at h
  | q :: ps, 0, p, h => by
    simp at h
    subst h
    exact ⟨rfl, rfl⟩
  | q :: ps, i + 1, p, h => by
    have ih := vals_at ps i p (by simpa using h)
    have e : ((q :: ps).flatMap PairV.vals) = q.a.val :: q.b.val :: ps.flatMap PairV.vals := rfl
    rw [e, show (i + 1) * 2 = i * 2 + 1 + 1 by omega]
    simpa using ih
namespace OwnSt
variable {w w' : World} {base n c : Nat} {A : Option Addr} {ps : List PairV}
theorem length (h : OwnSt w base A n c ps) : ps.length = n := by have := h.1; rw [vals_len] at this; omega
theorem none_ (w : World) (base : Nat) : OwnSt w base none 0 0 [] := World.ownsRow_nil w base _ 2
theorem keep (h : OwnSt w base A n c ps) (k : Keep w w') : OwnSt w' base A n c ps :=
  h.kept (row := none) ⟨k.os, k.tape, k.output, k.size, fun i hi _ => k.block i hi⟩ (by
    cases hb : (Value.slice A n c).ownBlock with
    | none => exact Or.inl rfl
    | some g => exact Or.inr (by simp))
theorem turned {F : Nat → Prop} (h : OwnSt w base A n c ps) (k : Turned F w w') (hn : ∀ b, (Value.slice A n c).ownBlock = some b → ¬ F b) : OwnSt w' base A n c ps := k.owns h hn
theorem lower {base' : Nat} (h : OwnSt w base A n c ps) (hb : base' ≤ base) : OwnSt w base' A n c ps := by
  refine ⟨h.1, ?_⟩
  rcases h.2 with h1 | ⟨g, cap, cur, hv, hg, r⟩
  · exact Or.inl h1
  · exact Or.inr ⟨g, cap, cur, hv, Nat.le_trans hb hg, r⟩
theorem block (h : OwnSt w base A n c ps) (hn : 0 < n) : ∃ g, A = some ⟨g, 0, none⟩ ∧ base ≤ g ∧ g < w.heap.size := by
  rcases h.2 with ⟨hv, h0⟩ | ⟨g, cap, cur, hv, hg, hh, _⟩
  · omega
  · injection hv with h1 h2 h3
    exact ⟨g, h1, hg, (Array.getElem?_eq_some_iff.1 hh).1⟩
theorem le (h : OwnSt w base A n c ps) : n ≤ c := by
  rcases h.2 with ⟨hv, h0⟩ | ⟨g, cap, cur, hv, _, _, hle, _⟩
  · omega
  · injection hv with _ _ h3; omega
theorem stIn {F : Nat → Prop} (h : OwnSt w base A n c ps) (hp : ∀ p ∈ ps, LiesIn w F p.a ∧ LiesIn w F p.b) (hF : ∀ b, (Value.slice A n c).ownBlock = some b → F b) : StIn w F A n ps := by
  refine ⟨h.length, hp, fun hn => ?_⟩
  obtain ⟨g, rfl, _, hlt⟩ := h.block hn
  refine ⟨g, 0, rfl, hF g rfl, fun i p hi => ?_⟩
  obtain ⟨v1, v2⟩ := vals_at ps i p hi
  have c1 := World.ownsRow.cells h (g := g) rfl _ _ v1
  have c2 := World.ownsRow.cells h (g := g) rfl _ _ v2
  have ha : ∀ j, (⟨g, 0, none⟩ : Addr).add j = ⟨g, 0 + j, none⟩ := fun j => by unfold Addr.add; split <;> simp_all
  rw [ha] at c1 c2
  exact ⟨c1, c2⟩
end OwnSt
theorem infoSt : (Try.prog.info? 39).map (fun i => (i.zero, i.size, i.bytes)) = some (some (.agg #[.slice none 0 0, .slice none 0 0]), 2, 48) := by kernel_rfl
theorem run_append_st {w : World} {base n c cx t : Nat} {A : Option Addr} {ps : List PairV} {ad : Addr} (p : PairV) (ht : Try.prog.underlying t = some (.slice 39)) (hown : OwnSt w base A n c ps) (h0 : w.cell? (ad.add 0) = some p.a.val) (h1 : w.cell? (ad.add 1) = some p.b.val) (hlen : n ≤ 1000000) (hbase : base ≤ w.heap.size) (ty : TypeId) :
    ∃ A2 c2 w', (Builtin.append_ #[t, t] ty #[.slice A n c, .slice (some ad) 1 cx]).run Try.prog w = .ok (.slice A2 (n + 1) c2) w' ∧ OwnSt w' base A2 (n + 1) c2 (ps ++ [p]) ∧ w.grownBy w' (Value.slice A n c).ownBlock ∧ ((Value.slice A2 (n + 1) c2).ownBlock = (Value.slice A n c).ownBlock ∨ (Value.slice A2 (n + 1) c2).ownBlock = some w.heap.size) := by
  obtain ⟨i0, hi0, hz0, hz1, hz2⟩ := info_parts infoSt
  obtain ⟨v', w', hrun, h2, h3, _, h5⟩ := run_append_own_at (P := Try.prog) w base t ty _ i0 (.agg #[.slice none 0 0, .slice none 0 0]) 2 48 ht hi0 hz0 hz1 hz2 rfl (by decide) _ n _ hown ad 1 cx p.vals rfl
    (fun j u hj => by
      match j, hj with
      | 0, hj => simp [PairV.vals] at hj; subst hj; exact h0
      | 1, hj => simp [PairV.vals] at hj; subst hj; exact h1
      | j + 2, hj => simp [PairV.vals] at hj)
    (fun u hu => by
      simp [PairV.vals] at hu
      rcases hu with rfl | rfl <;> rfl) (by unfold maxLen; omega) (by omega) hbase
  have e : ps.flatMap PairV.vals ++ p.vals = (ps ++ [p]).flatMap PairV.vals := by rw [List.flatMap_append]; simp
  rw [e] at h2
  obtain ⟨A2, c2, rfl⟩ := own_shape h2
  exact ⟨A2, c2, w', hrun, h2, h3, h5⟩
/-- append(rows, row), the row in a block of one. -/
theorem wpList_append_st {ops : Array Oper} {rest : List Oper} {o : Oper} {a : Act} {Q : Exit → Act → World → Prop} {w : World} (hgd : o.guard = none) (s x : Operand) (t : TypeId)
    (ho : o.op = .call { callee := .builtin .append, args := #[s, x], argTypes := #[t, t] }) {base n c cx : Nat} {A : Option Addr} {ps : List PairV} {gx : Nat} (p : PairV) (ht : Try.prog.underlying t = some (.slice 39))
    (hs : a.eval s = .slice A n c) (hown : OwnSt w base A n c ps) (hx0 : a.eval x = .slice (some ⟨gx, 0, none⟩) 1 cx) (h0 : w.cell? ⟨gx, 0, none⟩ = some p.a.val) (h1 : w.cell? ⟨gx, 1, none⟩ = some p.b.val) (hlen : n ≤ 1000000) (hbase : base ≤ w.heap.size)
    (h : ∀ A2 c2 w', OwnSt w' base A2 (n + 1) c2 (ps ++ [p]) → w.grownBy w' (Value.slice A n c).ownBlock → ((Value.slice A2 (n + 1) c2).ownBlock = (Value.slice A n c).ownBlock ∨ (Value.slice A2 (n + 1) c2).ownBlock = some w.heap.size) → wpList Try.prog ops Q rest (a.put o.dst (.slice A2 (n + 1) c2)) w') : wpList Try.prog ops Q (o :: rest) a w := by
  refine wpList_plain hgd fun _ hK => ?_
  have ha : ∀ j, (⟨gx, 0, none⟩ : Addr).add j = ⟨gx, j, none⟩ := fun j => by unfold Addr.add; split <;> simp_all
  obtain ⟨A2, c2, w', hr, h2, h3, h4⟩ := run_append_st (cx := cx) (ad := ⟨gx, 0, none⟩) p ht hown (by rw [ha]; exact h0) (by rw [ha]; exact h1) hlen hbase o.type
  unfold Oper.wp execOp
  simp only [ho, resolve, invoke, builtin, Sem.run_bind, Sem.run_pure, Result.andThen_ok, List.map_toArray, List.map_cons, List.map_nil, hs, hx0, hr]
  exact hK _ _ (h A2 c2 w' h2 h3 h4)
end Go.Proofs.Ytgelalbmhllccaa
/- Bytes in new memory (the document's own); bytes.Equal. -/
namespace Go.Proofs.Ytgelalbmhllccaa
open Go.RowKit
end Go.Proofs.Ytgelalbmhllccaa
/- The field of 256 elements over plain numbers: sums, products, powers, exponents, and that it is a field. -/
namespace Go.Proofs.Ytgelalbmhllccaa

/-- The product with x. -/
def xt (a : Nat) : Nat := (a * 2 % 256) ^^^ (27 * (a / 128))
/-- x to the k times a. -/
def xtn : Nat → Nat → Nat
  | 0, a => a
  | k + 1, a => xt (xtn k a)
/-- The first k steps of a product. -/
def mulTo (a b : Nat) : Nat → Nat
  | 0 => 0
  | k + 1 => mulTo a b k ^^^ (xtn k a * (b / 2 ^ k % 2))
def mulN (a b : Nat) : Nat := mulTo a b 8

theorem xor_lt {a b : Nat} (ha : a < 256) (hb : b < 256) : a ^^^ b < 256 := Nat.xor_lt_two_pow (n := 8) ha hb
theorem xt_lt {a : Nat} (ha : a < 256) : xt a < 256 := xor_lt (Nat.mod_lt _ (by decide)) (by omega)
theorem xtn_lt (k : Nat) {a : Nat} (ha : a < 256) : xtn k a < 256 := by
  induction k with
  | zero => exact ha
  | succ k ih => exact xt_lt ih
theorem bit_lt (b k : Nat) : b / 2 ^ k % 2 ≤ 1 := by omega
theorem mulTo_lt (a b k : Nat) (ha : a < 256) : mulTo a b k < 256 := by
  induction k with
  | zero => exact (by decide : (0 : Nat) < 256)
  | succ k ih =>
    refine xor_lt ih ?_
    have h := bit_lt b k
    have h2 := xtn_lt k ha
    rcases Nat.le_one_iff_eq_zero_or_eq_one.1 h with e | e <;> rw [e] <;> simp <;> omega
theorem mulN_lt {a : Nat} (b : Nat) (ha : a < 256) : mulN a b < 256 := mulTo_lt a b 8 ha

theorem stepbit_lt (x b k : Nat) (hx : x < 256) : x * (b / 2 ^ k % 2) < 256 := by
  rcases Nat.le_one_iff_eq_zero_or_eq_one.1 (bit_lt b k) with e | e <;> rw [e] <;> simp <;> omega
theorem bit_int (b k : Nat) (hb : b < 256) : bits .and .u8 ((b : Int) / 2 ^ k) 1 = ((b / 2 ^ k % 2 : Nat) : Int) := by
  have e : ((b : Int) / 2 ^ k) = ((b / 2 ^ k : Nat) : Int) := by simp
  have h : b / 2 ^ k < 256 := Nat.lt_of_le_of_lt (Nat.div_le_self _ _) hb
  rw [e, show (1 : Int) = ((1 : Nat) : Int) from rfl, u8_and_nat _ 1 h (by decide), Nat.and_one_is_mod]
theorem stepbit_int (x b k : Nat) (hx : x < 256) (hb : b < 256) : (x : Int) * bits .and .u8 ((b : Int) / 2 ^ k) 1 % 256 = ((x * (b / 2 ^ k % 2) : Nat) : Int) := by
  have h := stepbit_lt x b k hx
  rw [bit_int b k hb, ← Int.natCast_mul]
  omega

/-! ### Powers of 3 -/
def pw : Nat → Nat
  | 0 => 1
  | k + 1 => pw k ^^^ xt (pw k)
/-- The tables as one number each. -/
def bigP : Nat := 0xf652c7b46c241cfda297847cdd4b39170df2a794858a8f8c8d7b29ee5a36120ef351c6423ee3a891868b79de4acf45ca46cbb099772d1b0907f4a563211ffc54c543c8b16f25eaaf6523e858c1b69b80898e7adfbc9d827e2aefac64d5ba9f75dabf9c742ced5bc040c9473de25ec3413f15fa5632e75dc2b76dd24e3a16fba06020e9ae93712fecad92877d2b19fea361d6bb69271d0bf0503010f957c4b59a76db49ceb398817fdcbd6bd0b99e838878281808f1a662d74d3be0a967d44ccdb26ed3b868d14fcc443c140c04f55331e6ab9070d9be6a26eb5937e45c34e5aa66221e0a0602f7a49573d84838e15f3513f8a196722e1aff5533110f050301
def bigL : Nat := 0x770f7c0808c630d18fe31c5deed4a67a5e3997726b87cb4892e2023d9921144abd3f2565d9e2a14476da2413c843953d15b3f37cdcf95bcfcdcbe619087b2979d2955aa6ca1523b86b160fb5a3ebbccb77b76a42d1f43d8ec49c4176ff60c7fa051a99cb05fcb59f50b16eb7a75d72ce8ade6e7d5e9ae4f74d6eaf450a858af57a773f3e5acd44eca5e9f9b150a792bba3d85fa54286b3a421eb6a3c3486e7e1091882298e225b3628b06bf30fddd6638834640f1d25c1394ced036bddb8f968eda93354582f01224e10f21058a2f657809c99a72a6e44d6a27b9f9b51dc27dc11c69f8c808714cef818d340ee0046403dfee33681bc74bc61a023201190000
def pwT (i : Nat) : Nat := bigP >>> (8 * i) % 256
def lg (a : Nat) : Nat := bigL >>> (8 * a) % 256
def pwOk : Nat → Bool
  | 0 => pwT 0 == 1
  | k + 1 => pwOk k && pwT (k + 1) == (pwT k ^^^ xt (pwT k))
theorem pwOk_254 : pwOk 254 = true := by decide +kernel
theorem pw_of_ok (k : Nat) (h : pwOk k = true) : pw k = pwT k ∧ ∀ j, j ≤ k → pwOk j = true := by
  induction k with
  | zero => exact ⟨by simpa [pwOk, pw] using (beq_iff_eq.1 h).symm, fun j hj => by rw [show j = 0 by omega]; exact h⟩
  | succ k ih =>
    simp only [pwOk, Bool.and_eq_true, beq_iff_eq] at h
    obtain ⟨h1, h2⟩ := ih h.1
    refine ⟨by rw [pw, h1, h.2], fun j hj => ?_⟩
    by_cases e : j = k + 1
    · subst e; simp [pwOk, h.1, h.2]
    · exact h2 j (by omega)
theorem pw_T (k : Nat) (h : k < 255) : pw k = pwT k := (pw_of_ok k ((pw_of_ok 254 pwOk_254).2 k (by omega))).1
theorem pwT_lg : ∀ a, a < 256 → 1 ≤ a → lg a < 255 ∧ pwT (lg a) = a := by decide +kernel
theorem lg_pwT : ∀ i, i < 255 → lg (pwT i) = i ∧ 1 ≤ pwT i ∧ pwT i < 256 := by decide +kernel
theorem pw_lg (a : Nat) (h : a < 256) (h1 : 1 ≤ a) : pw (lg a) = a := by
  have := pwT_lg a h h1; rw [pw_T _ this.1]; exact this.2
theorem lg_lt (a : Nat) (h : a < 256) (h1 : 1 ≤ a) : lg a < 255 := (pwT_lg a h h1).1
theorem lg_pw (i : Nat) (h : i < 255) : lg (pw i) = i := by rw [pw_T i h]; exact (lg_pwT i h).1
theorem pw_pos (i : Nat) (h : i < 255) : 1 ≤ pw i := by rw [pw_T i h]; exact (lg_pwT i h).2.1
theorem pw_lt (i : Nat) : pw i < 256 := by
  induction i with
  | zero => exact (by decide : 1 < 256)
  | succ k ih => exact xor_lt ih (xt_lt ih)
theorem pw_255 : pw 255 = 1 := by rw [pw, pw_T 254 (by decide)]; decide +kernel
theorem pw_add255 (k : Nat) : pw (k + 255) = pw k := by
  induction k with
  | zero => rw [Nat.zero_add, pw_255]; rfl
  | succ k ih => rw [show k + 1 + 255 = (k + 255) + 1 by omega, pw, ih, pw]
theorem pw_mod (k : Nat) : pw (k % 255) = pw k := by
  induction k using Nat.strongRecOn with
  | _ k ih =>
    by_cases h : k < 255
    · rw [Nat.mod_eq_of_lt h]
    · have e : k = (k - 255) + 255 := by omega
      rw [e, Nat.add_mod_right, ih _ (by omega), pw_add255]

/-! ### Sums go through -/
theorem xt_xor_all : ∀ a, a < 256 → ∀ b, b < 256 → xt (a ^^^ b) = xt a ^^^ xt b := by decide +kernel
theorem xtn_xor (k : Nat) {a b : Nat} (ha : a < 256) (hb : b < 256) : xtn k (a ^^^ b) = xtn k a ^^^ xtn k b := by
  induction k with
  | zero => rfl
  | succ k ih => rw [xtn, ih, xt_xor_all _ (xtn_lt k ha) _ (xtn_lt k hb)]; rfl
theorem xtn_xt (k : Nat) (a : Nat) : xtn k (xt a) = xt (xtn k a) := by
  induction k with
  | zero => rfl
  | succ k ih => rw [xtn, ih]; rfl
theorem xor_swap (a b c d : Nat) : (a ^^^ b) ^^^ (c ^^^ d) = (a ^^^ c) ^^^ (b ^^^ d) := by
  rw [Nat.xor_assoc, ← Nat.xor_assoc b, Nat.xor_comm b c, Nat.xor_assoc c, ← Nat.xor_assoc a]
theorem xor_mulbit (x y b : Nat) (h : b ≤ 1) : (x ^^^ y) * b = x * b ^^^ y * b := by
  rcases Nat.le_one_iff_eq_zero_or_eq_one.1 h with e | e <;> subst e <;> simp
theorem mulTo_xor (a c b k : Nat) (ha : a < 256) (hc : c < 256) : mulTo (a ^^^ c) b k = mulTo a b k ^^^ mulTo c b k := by
  induction k with
  | zero => simp [mulTo]
  | succ k ih => rw [mulTo, ih, xtn_xor k ha hc, xor_mulbit _ _ _ (bit_lt b k), xor_swap]; rfl
theorem mulTo_xt (a b k : Nat) (ha : a < 256) : mulTo (xt a) b k = xt (mulTo a b k) := by
  induction k with
  | zero => simp only [mulTo]; decide
  | succ k ih =>
    rw [mulTo, ih, xtn_xt, mulTo, xt_xor_all _ (mulTo_lt a b k ha) _ (stepbit_lt _ b k (xtn_lt k ha))]
    congr 1
    rcases Nat.le_one_iff_eq_zero_or_eq_one.1 (bit_lt b k) with e | e <;> rw [e] <;> simp
    rfl
theorem mul_xor_left (a c b : Nat) (ha : a < 256) (hc : c < 256) : mulN (a ^^^ c) b = mulN a b ^^^ mulN c b := mulTo_xor a c b 8 ha hc
theorem mul_xt_left (a b : Nat) (ha : a < 256) : mulN (xt a) b = xt (mulN a b) := mulTo_xt a b 8 ha
theorem mul_one_left : ∀ b, b < 256 → mulN 1 b = b := by decide +kernel
theorem mul_zero_left (b : Nat) : mulN 0 b = 0 := by
  have h : ∀ k, xtn k 0 = 0 := fun k => by induction k with | zero => rfl | succ k ih => rw [xtn, ih]; rfl
  simp [mulN, mulTo, h]
theorem mul_zero_right (a : Nat) : mulN a 0 = 0 := by simp [mulN, mulTo]

/-- The product of two powers. -/
theorem mul_pw (i : Nat) (b : Nat) (hb : b < 256) (j : Nat) (hj : pw j = b) : mulN (pw i) b = pw (i + j) := by
  induction i with
  | zero => rw [show pw 0 = 1 from rfl, mul_one_left b hb, Nat.zero_add, hj]
  | succ i ih => rw [pw, mul_xor_left _ _ _ (pw_lt i) (xt_lt (pw_lt i)), mul_xt_left _ _ (pw_lt i), ih, show i + 1 + j = (i + j) + 1 by omega, pw]
theorem mul_pw_pw (i j : Nat) : mulN (pw i) (pw j) = pw (i + j) := mul_pw i (pw j) (pw_lt j) j rfl
theorem mul_lg (a b : Nat) (ha : a < 256) (hb : b < 256) (h1 : 1 ≤ a) (h2 : 1 ≤ b) : mulN a b = pw (lg a + lg b) := by
  have h := mul_pw_pw (lg a) (lg b)
  rwa [pw_lg a ha h1, pw_lg b hb h2] at h
theorem pw_pos' (k : Nat) : 1 ≤ pw k := by rw [← pw_mod]; exact pw_pos _ (Nat.mod_lt _ (by decide))
theorem pw_inj {i j : Nat} (h : pw i = pw j) : i % 255 = j % 255 := by
  rw [← pw_mod i, ← pw_mod j] at h
  have := congrArg lg h
  rwa [lg_pw _ (Nat.mod_lt _ (by decide)), lg_pw _ (Nat.mod_lt _ (by decide))] at this

/-! ### The field -/
theorem mul_comm' (a b : Nat) (ha : a < 256) (hb : b < 256) : mulN a b = mulN b a := by
  by_cases h1 : a = 0
  · subst h1; rw [mul_zero_left, mul_zero_right]
  by_cases h2 : b = 0
  · subst h2; rw [mul_zero_left, mul_zero_right]
  rw [mul_lg a b ha hb (by omega) (by omega), mul_lg b a hb ha (by omega) (by omega), Nat.add_comm]
theorem mul_eq_zero (a b : Nat) (ha : a < 256) (hb : b < 256) : mulN a b = 0 ↔ a = 0 ∨ b = 0 := by
  by_cases h1 : a = 0
  · subst h1; simp [mul_zero_left]
  by_cases h2 : b = 0
  · subst h2; simp [mul_zero_right]
  have := pw_pos' (lg a + lg b)
  rw [mul_lg a b ha hb (by omega) (by omega)]
  omega
theorem mul_assoc' (a b c : Nat) (ha : a < 256) (hb : b < 256) (hc : c < 256) : mulN (mulN a b) c = mulN a (mulN b c) := by
  by_cases h1 : a = 0
  · subst h1; simp [mul_zero_left]
  by_cases h2 : b = 0
  · subst h2; simp [mul_zero_left, mul_zero_right]
  by_cases h3 : c = 0
  · subst h3; simp [mul_zero_right]
  rw [mul_lg a b ha hb (by omega) (by omega), mul_lg b c hb hc (by omega) (by omega)]
  have ea := pw_lg a ha (by omega)
  have ec := pw_lg c hc (by omega)
  have h4 := mul_pw_pw (lg a + lg b) (lg c)
  have h5 := mul_pw_pw (lg a) (lg b + lg c)
  rw [ec] at h4
  rw [ea] at h5
  rw [h4, h5, Nat.add_assoc]
theorem mul_xor_right (a b c : Nat) (ha : a < 256) (hb : b < 256) (hc : c < 256) : mulN a (b ^^^ c) = mulN a b ^^^ mulN a c := by
  rw [mul_comm' _ _ ha (xor_lt hb hc), mul_xor_left _ _ _ hb hc, mul_comm' b a hb ha, mul_comm' c a hc ha]
theorem mul_one_right (a : Nat) (ha : a < 256) : mulN a 1 = a := by rw [mul_comm' a 1 ha (by decide), mul_one_left a ha]
/-- The inverse, as the tables give it. -/
def invN (a : Nat) : Nat := if a = 0 then 0 else pw ((255 - lg a) % 255)
theorem invN_lt (a : Nat) : invN a < 256 := by unfold invN; split; decide; exact pw_lt _
theorem mul_inv (a : Nat) (ha : a < 256) (h1 : 1 ≤ a) : mulN a (invN a) = 1 := by
  have h := mul_pw_pw (lg a) ((255 - lg a) % 255)
  rw [pw_lg a ha h1] at h
  unfold invN
  rw [if_neg (by omega), h]
  have := lg_lt a ha h1
  by_cases e : lg a = 0
  · rw [e]; rfl
  · rw [Nat.mod_eq_of_lt (by omega : 255 - lg a < 255), show lg a + (255 - lg a) = 255 by omega, pw_255]
/-! ### For the document's own answers -/
end Go.Proofs.Ytgelalbmhllccaa
/- The contract of the document's own product; sums and products whose answer has a name. -/
namespace Go.Proofs.Ytgelalbmhllccaa
open Go.RowKit

end Go.Proofs.Ytgelalbmhllccaa
/- Vectors over the field, as lists of numbers: sums, products, leads, units, combinations; that they are a space. -/
namespace Go.Proofs.Ytgelalbmhllccaa

/-- n numbers, number i what f makes of i. -/
def tab (n : Nat) (f : Nat → Nat) : List Nat := (List.range n).map f
theorem tab_length (n : Nat) (f : Nat → Nat) : (tab n f).length = n := by simp [tab]
theorem tab_succ (n : Nat) (f : Nat → Nat) : tab (n + 1) f = tab n f ++ [f n] := by simp [tab, List.range_succ]
theorem tab_getD (n : Nat) (f : Nat → Nat) (i : Nat) : (tab n f).getD i 0 = if i < n then f i else 0 := by
  rw [List.getD_eq_getElem?_getD]
  by_cases h : i < n
  · simp [tab, h]
  · rw [if_neg h, List.getElem?_eq_none (by rw [tab_length]; omega)]; rfl
theorem tab_congr {n : Nat} {f g : Nat → Nat} (h : ∀ i, i < n → f i = g i) : tab n f = tab n g := by
  induction n with
  | zero => rfl
  | succ n ih => rw [tab_succ, tab_succ, ih fun i hi => h i (by omega), h n (by omega)]
theorem tab_self (xs : List Nat) : tab xs.length (fun i => xs.getD i 0) = xs := by
  apply List.ext_getElem?
  intro i
  by_cases h : i < xs.length
  · rw [List.getElem?_eq_getElem h]
    simp [tab, h]
  · rw [List.getElem?_eq_none (by rw [tab_length]; omega), List.getElem?_eq_none (by omega)]
theorem list_ext {xs ys : List Nat} (hl : xs.length = ys.length) (h : ∀ i, i < xs.length → xs.getD i 0 = ys.getD i 0) : xs = ys := by
  rw [← tab_self xs, ← tab_self ys, ← hl]
  exact tab_congr h

/-- The sum of the first n of f. -/
def sumX (f : Nat → Nat) : Nat → Nat
  | 0 => 0
  | n + 1 => sumX f n ^^^ f n
theorem sumX_lt (f : Nat → Nat) (n : Nat) (h : ∀ i, i < n → f i < 256) : sumX f n < 256 := by
  induction n with
  | zero => exact (by decide : 0 < 256)
  | succ n ih => exact xor_lt (ih fun i hi => h i (by omega)) (h n (by omega))
theorem sumX_congr {f g : Nat → Nat} {n : Nat} (h : ∀ i, i < n → f i = g i) : sumX f n = sumX g n := by
  induction n with
  | zero => rfl
  | succ n ih => rw [sumX, sumX, ih fun i hi => h i (by omega), h n (by omega)]
/-- The calls, as the chapter tells them. -/
def vAddS (n : Nat) (xs ys : List Nat) (c : Nat) : List Nat := tab n fun i => xs.getD i 0 ^^^ mulN (ys.getD i 0) c
def vScale (n : Nat) (xs : List Nat) (c : Nat) : List Nat := tab n fun i => mulN (xs.getD i 0) c
/-- The least place from k on, of the first n. -/
def vLeadTo (xs : List Nat) : Nat → Option Nat
  | 0 => none
  | n + 1 => match vLeadTo xs n with
    | some i => some i
    | none => if xs.getD n 0 = 0 then none else some n
def vLead (n : Nat) (xs : List Nat) : Int := match vLeadTo xs n with
  | some i => (i : Int)
  | none => -1
/-- The first k rows, each multiplied with its number: number j. -/
def vCombAt (rows : List (List Nat)) (c : List Nat) (k j : Nat) : Nat := sumX (fun i => mulN ((rows.getD i []).getD j 0) (c.getD i 0)) k
def vComb (n : Nat) (rows : List (List Nat)) (c : List Nat) (k : Nat) : List Nat := tab n (vCombAt rows c k)

theorem vLeadTo_none (xs : List Nat) (n : Nat) : vLeadTo xs n = none ↔ ∀ i, i < n → xs.getD i 0 = 0 := by
  induction n with
  | zero => exact ⟨fun _ i hi => by omega, fun _ => rfl⟩
  | succ n ih =>
    constructor
    · intro h
      rw [vLeadTo] at h
      cases h1 : vLeadTo xs n with
      | some k => rw [h1] at h; cases h
      | none =>
        rw [h1] at h
        have h2 := ih.1 h1
        intro i hi
        by_cases e : i = n
        · subst e
          by_cases hz : xs.getD i 0 = 0
          · exact hz
          · rw [if_neg hz] at h; cases h
        · exact h2 i (by omega)
    · intro h
      have h1 := ih.2 fun i hi => h i (by omega)
      rw [vLeadTo, h1, if_pos (h n (by omega))]
theorem vLeadTo_some (xs : List Nat) (n : Nat) : ∀ k, vLeadTo xs n = some k ↔ k < n ∧ xs.getD k 0 ≠ 0 ∧ ∀ i, i < k → xs.getD i 0 = 0 := by
  induction n with
  | zero => exact fun k => ⟨fun h => by simp [vLeadTo] at h, fun h => absurd h.1 (by omega)⟩
  | succ n ih' =>
    intro k
    rw [vLeadTo]
    cases h1 : vLeadTo xs n with
    | some j =>
      have h2 := (ih' j).1 h1
      constructor
      · intro h
        injection h with h
        subst h
        exact ⟨by omega, h2.2⟩
      · intro h
        have : k = j := by
          rcases Nat.lt_trichotomy k j with h3 | h3 | h3
          · exact absurd (h2.2.2 k h3) h.2.1
          · exact h3
          · exact absurd (h.2.2 j h3) h2.2.1
        rw [this]
    | none =>
      have h2 := (vLeadTo_none xs n).1 h1
      constructor
      · intro h
        by_cases hz : xs.getD n 0 = 0
        · rw [if_pos hz] at h; cases h
        · rw [if_neg hz] at h
          injection h with h
          subst h
          exact ⟨by omega, hz, h2⟩
      · intro h
        have : k = n := by
          by_cases e : k < n
          · exact absurd (h2 k e) h.2.1
          · omega
        subst this
        rw [if_neg h.2.1]
end Go.Proofs.Ytgelalbmhllccaa
/- Words for combinations (plain). -/
namespace Go.Proofs.Ytgelalbmhllccaa
open Go.RowKit
set_option linter.unusedVariables false
set_option linter.unusedSimpArgs false
open Go.RowKit

theorem vComb_zero (n : Nat) (rows : List (List Nat)) (c : List Nat) : vComb n rows c 0 = List.replicate n 0 := by
  refine list_ext (by simp [vComb, tab_length]) fun i hi => ?_
  rw [vComb, tab_length] at hi
  rw [vComb, tab_getD, if_pos hi, List.getD_eq_getElem?_getD, List.getElem?_replicate, if_pos hi]; rfl
theorem vComb_succ (n k : Nat) (rows : List (List Nat)) (c : List Nat) : vAddS n (vComb n rows c k) (rows.getD k []) (c.getD k 0) = vComb n rows c (k + 1) :=
  tab_congr fun i hi => by rw [vComb, tab_getD, if_pos hi]; rfl

/-- The combination, or that the rows don't fit. -/
def combOf (n : Nat) (rs : List RowV) (c : List Nat) : List Nat := if ∀ r ∈ rs, r.n = n then vComb n (rowsOf rs) c rs.length else []
def combErr (n : Nat) (rs : List RowV) : Int := if ∀ r ∈ rs, r.n = n then 0 else 21
end Go.Proofs.Ytgelalbmhllccaa
/- Slices of slices of bytes, made and stored to. -/
namespace Go.Proofs.Ytgelalbmhllccaa
open Go.RowKit
theorem run_make_rows {P : Program} {t e : TypeId} (ht : P.underlying t = some (.slice e)) (hi : (P.info? e).map (fun i => (i.zero, i.size, i.bytes)) = some (some (.slice none 0 0), 1, 24)) (n : Nat) (hn : n ≤ 1000000) (w : World) :
    (Instr.makeSlice t (.int .i64 (n : Int)) (.int .i64 (n : Int))).run P w = .ok (.slice (some ⟨w.heap.size, 0, none⟩) n n) (w.alloc (.cells (madeCells #[.slice none 0 0] n) e)) := by
  obtain ⟨i0, hi0, hz0, hz1, hz2⟩ := info_parts hi
  have h := run_make (P := P) w t e i0 (.slice none 0 0) ht hi0 hz0 .i64 .i64 n n (by omega) (Int.le_refl _) (by rw [hz2]; omega) (by omega)
  simpa [hz1, Value.cells] using h
theorem OwnRows.made (w : World) (e : TypeId) (n : Nat) (hn : n ≤ 1000000) : OwnRows (w.alloc (.cells (madeCells #[.slice none 0 0] n) e)) w.heap.size e (some ⟨w.heap.size, 0, none⟩) n n (List.replicate n ⟨none, 0, 0, []⟩) := by
  have h := World.ownsRow_lit (w := w) (base := w.heap.size) (e := e) (size := 1) (madeCells #[.slice none 0 0] n) n (Nat.le_refl _) (by unfold maxLen; omega) (by rw [size_madeCells]; simp)
  rw [toList_madeCells_one] at h
  simpa [OwnRows, RowV.val] using h
theorem OwnRows.stored {w : World} {base n c g i : Nat} {e : TypeId} {rs : List RowV} (h : OwnRows w base e (some ⟨g, 0, none⟩) n c rs) (r : RowV) : OwnRows (w.setCell ⟨g, i, none⟩ (.slice r.A r.n r.c)) base e (some ⟨g, 0, none⟩) n c (rs.set i r) := by
  have := World.ownsRow.stored h i (.slice r.A r.n r.c)
  unfold OwnRows
  rw [List.map_set]; exact this.1
end Go.Proofs.Ytgelalbmhllccaa
/- A region that draws its order, walked by hand: what is held may grow on the way. -/
namespace Go.Proofs.Ytgelalbmhllccaa

section
variable {P : Program} {ops : Array Oper} {Q : Exit → Act → World → Prop} {md : Region.Mode} {S S' : World → Prop}
end
end Go.Proofs.Ytgelalbmhllccaa
/- Contracts of the document's own answers of layer 7: rows, sums of bytes, what coefficients make of symbols. -/
namespace Go.Proofs.Ytgelalbmhllccaa
open Go.RowKit
set_option linter.unusedVariables false
set_option linter.unusedSimpArgs false
theorem infoRowSize : (Try.prog.info? 39).map (·.size) = some 2 := by kernel_rfl
end Go.Proofs.Ytgelalbmhllccaa
/- Matrices as lists of lists: the plain mathematics of layer 6's answers. -/
namespace Go.Proofs.Ytgelalbmhllccaa
/-- Are all rows of one length? -/
def fits (M : List (List Nat)) : Prop := ∀ r ∈ M, r.length = (M.headD []).length
instance (M : List (List Nat)) : Decidable (fits M) := by unfold fits; infer_instance
def sizeR (M : List (List Nat)) : Nat := if fits M then M.length else 0
def sizeC (M : List (List Nat)) : Nat := if fits M then (M.headD []).length else 0
/-- A product's number, its row, the product. -/
def dotN (r : List Nat) (N : List (List Nat)) (k n : Nat) : Nat := sumX (fun i => mulN (r.getD i 0) ((N.getD i []).getD k 0)) n
def rowN (r : List Nat) (N : List (List Nat)) (n c : Nat) : List Nat := tab c fun k => dotN r N k n
/-- The row, cleared by the first k rows. -/
def clearTo (nc : Nat) (M : List (List Nat)) (row : List Nat) : Nat → List Nat
  | 0 => row
  | k + 1 => vAddS nc (clearTo nc M row k) (M.getD k []) ((clearTo nc M row k).getD (vLead nc (M.getD k [])).toNat 0)
theorem clearTo_len (nc : Nat) (M : List (List Nat)) (row : List Nat) (h : row.length = nc) : ∀ k, (clearTo nc M row k).length = nc
  | 0 => h
  | _ + 1 => tab_length _ _
theorem vAddS_all {n c : Nat} {xs ys : List Nat} (hx : AllB xs) (hy : AllB ys) : AllB (vAddS n xs ys c) := fun x hm => by
  obtain ⟨i, _, rfl⟩ := List.mem_map.1 hm
  exact xor_lt (hx.getD i) (mulN_lt _ (hy.getD i))
theorem vScale_all {n c : Nat} {xs : List Nat} (hx : AllB xs) : AllB (vScale n xs c) := fun x hm => by
  obtain ⟨i, _, rfl⟩ := List.mem_map.1 hm
  exact mulN_lt _ (hx.getD i)
/-- The other rows, cleared; the new one laid ahead of the first whose lead lies behind. -/
def layTo (nc : Nat) (M : List (List Nat)) (u : List Nat) (L : Nat) : Nat → List (List Nat) × Bool
  | 0 => ([], false)
  | k + 1 =>
    let p := layTo nc M u L k
    let hit := !p.2 && decide ((L : Int) < vLead nc (M.getD k []))
    ((if hit = true then p.1 ++ [u] else p.1) ++ [vAddS nc (M.getD k []) u ((M.getD k []).getD L 0)], p.2 || hit)
/-- A row put into a reduced matrix. -/
def insertN (nc : Nat) (M : List (List Nat)) (row : List Nat) : List (List Nat) :=
  let v := clearTo nc M row M.length
  if vLead nc v < 0 then M
  else
    let L := (vLead nc v).toNat
    let u := vScale nc v (invN (v.getD L 0))
    let p := layTo nc M u L M.length
    if p.2 = true then p.1 else p.1 ++ [u]
end Go.Proofs.Ytgelalbmhllccaa
/- Rows over a field of characteristic 2, plainly: spans, free rows, reduced matrices (one form of one span), ranks, products, transposes, units (layers 6 to 8). No dump. -/
namespace Go.Proofs.Ytgelalbmhllccaa.Lin
/-- What a field of characteristic 2 keeps. -/
structure Laws (B : Type) [Add B] [Mul B] [Zero B] [One B] : Prop where
  add_comm : ∀ a b : B, a + b = b + a
  add_assoc : ∀ a b c : B, a + b + c = a + (b + c)
  add_zero : ∀ a : B, a + 0 = a
  add_self : ∀ a : B, a + a = 0
  mul_comm : ∀ a b : B, a * b = b * a
  mul_assoc : ∀ a b c : B, a * b * c = a * (b * c)
  one_mul : ∀ a : B, 1 * a = a
  mul_add : ∀ a b c : B, a * (b + c) = a * b + a * c
  mul_zero : ∀ a : B, a * 0 = 0
  inv : ∀ a : B, a ≠ 0 → ∃ b, b * a = 1
  nought : (1 : B) ≠ 0
section
variable {B : Type} [Add B] [Mul B] [Zero B] [One B]
namespace Laws
theorem zero_add (K : Laws B) (a : B) : 0 + a = a := by rw [K.add_comm, K.add_zero]
theorem zero_mul (K : Laws B) (a : B) : 0 * a = 0 := by rw [K.mul_comm, K.mul_zero]
theorem mul_one (K : Laws B) (a : B) : a * 1 = a := by rw [K.mul_comm, K.one_mul]
theorem add_mul (K : Laws B) (a b c : B) : (a + b) * c = a * c + b * c := by rw [K.mul_comm, K.mul_add, K.mul_comm c, K.mul_comm c]
theorem add_left_comm (K : Laws B) (a b c : B) : a + (b + c) = b + (a + c) := by rw [← K.add_assoc, K.add_comm a b, K.add_assoc]
theorem add_add_comm (K : Laws B) (a b c d : B) : a + b + (c + d) = a + c + (b + d) := by rw [K.add_assoc, K.add_left_comm b, ← K.add_assoc]
theorem eq_of_add (K : Laws B) {a b : B} (h : a + b = 0) : a = b := by rw [← K.add_zero a, ← K.add_self b, ← K.add_assoc, h, K.zero_add]
theorem mul_eq_zero (K : Laws B) {a b : B} (h : a * b = 0) (ha : a ≠ 0) : b = 0 := by
  obtain ⟨c, hc⟩ := K.inv a ha
  rw [← K.one_mul b, ← hc, K.mul_assoc, h, K.mul_zero]
end Laws
/-- Sums. -/
def sm : Nat → (Nat → B) → B
  | 0, _ => 0
  | n + 1, f => sm n f + f n
theorem sm_congr {B : Type} [Add B] [Zero B] {n : Nat} {f g : Nat → B} (h : ∀ i, i < n → f i = g i) : sm n f = sm n g := by
  induction n with
  | zero => rfl
  | succ n ih => rw [sm, sm, ih fun i hi => h i (by omega), h n (by omega)]
theorem sm_zero (K : Laws B) (n : Nat) {f : Nat → B} (h : ∀ i, i < n → f i = 0) : sm n f = 0 := by
  induction n with
  | zero => rfl
  | succ n ih => rw [sm, ih fun i hi => h i (by omega), h n (by omega), K.add_zero]
theorem sm_add (K : Laws B) (n : Nat) (f g : Nat → B) : sm n (fun i => f i + g i) = sm n f + sm n g := by
  induction n with
  | zero => exact (K.add_zero 0).symm
  | succ n ih => rw [sm, sm, sm, ih, K.add_add_comm]
theorem sm_mul (K : Laws B) (n : Nat) (a : B) (f : Nat → B) : sm n (fun i => a * f i) = a * sm n f := by
  induction n with
  | zero => exact (K.mul_zero a).symm
  | succ n ih => rw [sm, sm, ih, K.mul_add]
theorem sm_swap (K : Laws B) (n m : Nat) (f : Nat → Nat → B) : sm n (fun i => sm m (f i)) = sm m (fun j => sm n (fun i => f i j)) := by
  induction n with
  | zero => exact (sm_zero K m fun _ _ => rfl).symm
  | succ n ih => rw [sm, ih, ← sm_add K]; rfl
theorem sm_one (K : Laws B) {n k : Nat} (hk : k < n) {f : Nat → B} (h : ∀ i, i < n → i ≠ k → f i = 0) : sm n f = f k := by
  induction n with
  | zero => omega
  | succ n ih =>
    rw [sm]
    by_cases e : k = n
    · subst e
      rw [sm_zero K k fun i hi => h i (by omega) (by omega), K.zero_add]
    · rw [ih (by omega) fun i hi => h i (by omega), h n (by omega) (fun e2 => e e2.symm), K.add_zero]
/-- What r rows, each with its factor, make. -/
def comb (r : Nat) (M : Nat → Nat → B) (c : Nat → B) : Nat → B := fun j => sm r fun i => c i * M i j
def InSpan (r : Nat) (M : Nat → Nat → B) (v : Nat → B) : Prop := ∃ c, v = comb r M c
/-- Each row of the one lies in the other's span. -/
def Within (r : Nat) (M : Nat → Nat → B) (s : Nat) (N : Nat → Nat → B) : Prop := ∀ i, i < r → InSpan s N (M i)
theorem InSpan.add (K : Laws B) {r : Nat} {M : Nat → Nat → B} {u v : Nat → B} (h : InSpan r M u) (k : InSpan r M v) : InSpan r M fun j => u j + v j := by
  obtain ⟨c, rfl⟩ := h
  obtain ⟨d, rfl⟩ := k
  refine ⟨fun i => c i + d i, funext fun j => ?_⟩
  show sm r (fun i => c i * M i j) + sm r (fun i => d i * M i j) = sm r fun i => (c i + d i) * M i j
  rw [← sm_add K]
  exact sm_congr fun i _ => (K.add_mul _ _ _).symm
theorem InSpan.mul (K : Laws B) {r : Nat} {M : Nat → Nat → B} {v : Nat → B} (a : B) (h : InSpan r M v) : InSpan r M fun j => a * v j := by
  obtain ⟨c, rfl⟩ := h
  refine ⟨fun i => a * c i, funext fun j => ?_⟩
  show a * sm r (fun i => c i * M i j) = sm r fun i => a * c i * M i j
  rw [← sm_mul K]
  exact sm_congr fun i _ => (K.mul_assoc _ _ _).symm
theorem InSpan.zero (K : Laws B) (r : Nat) (M : Nat → Nat → B) : InSpan r M fun _ => 0 :=
  ⟨fun _ => 0, funext fun _ => (sm_zero K r fun _ _ => K.zero_mul _).symm⟩
theorem InSpan.row (K : Laws B) {r i : Nat} (M : Nat → Nat → B) (hi : i < r) : InSpan r M (M i) := by
  refine ⟨fun k => if k = i then 1 else 0, funext fun j => ?_⟩
  show M i j = sm r fun k => (if k = i then 1 else 0) * M k j
  rw [sm_one K hi]
  · rw [if_pos rfl, K.one_mul]
  · intro k _ hk
    rw [if_neg hk, K.zero_mul]
theorem InSpan.sum (K : Laws B) {r : Nat} {M : Nat → Nat → B} (n : Nat) (u : Nat → Nat → B) (h : ∀ i, i < n → InSpan r M (u i)) : InSpan r M fun j => sm n fun i => u i j := by
  induction n with
  | zero => exact InSpan.zero K r M
  | succ n ih => exact InSpan.add K (ih fun i hi => h i (by omega)) (h n (by omega))
theorem InSpan.trans (K : Laws B) {r s : Nat} {M N : Nat → Nat → B} {v : Nat → B} (h : InSpan r M v) (k : Within r M s N) : InSpan s N v := by
  obtain ⟨c, rfl⟩ := h
  exact InSpan.sum K r (fun i j => c i * M i j) fun i hi => InSpan.mul K (c i) (k i hi)
theorem Within.refl (K : Laws B) (r : Nat) (M : Nat → Nat → B) : Within r M r M := fun _ hi => InSpan.row K M hi
theorem Within.trans (K : Laws B) {r s t : Nat} {M N O : Nat → Nat → B} (h : Within r M s N) (k : Within s N t O) : Within r M t O := fun i hi => InSpan.trans K (h i hi) k
/-- Rows of which only noughts make noughts. -/
def Free (r : Nat) (M : Nat → Nat → B) : Prop := ∀ c : Nat → B, (∀ j, comb r M c j = 0) → ∀ i, i < r → c i = 0
/-- All places but one. -/
def skip (p i : Nat) : Nat := if i < p then i else i + 1
theorem skip_ne (p i : Nat) : skip p i ≠ p := by unfold skip; split <;> omega
theorem skip_back (p i : Nat) : (if skip p i < p then skip p i else skip p i - 1) = i := by
  by_cases h : i < p
  · have e : skip p i = i := by rw [skip, if_pos h]
    rw [e, if_pos h]
  · have e : skip p i = i + 1 := by rw [skip, if_neg h]
    rw [e, if_neg (by omega)]; omega
theorem skip_lt {p i n : Nat} (hi : i < n) : skip p i < n + 1 := by unfold skip; split <;> omega
theorem sm_skip (K : Laws B) (n p : Nat) (hp : p ≤ n) (f : Nat → B) : sm (n + 1) f = f p + sm n fun i => f (skip p i) := by
  induction n with
  | zero =>
    obtain rfl : p = 0 := by omega
    show 0 + f 0 = f 0 + 0
    rw [K.zero_add, K.add_zero]
  | succ n ih =>
    by_cases e : p = n + 1
    · subst e
      rw [sm, K.add_comm]
      congr 1
      exact sm_congr fun i hi => by rw [skip, if_pos hi]
    · rw [sm, ih (by omega), sm, K.add_assoc, show skip p n = n + 1 by rw [skip, if_neg (by omega)]]
/-- More unknowns than equations: a solution that is not all noughts. -/
theorem kernel [DecidableEq B] (K : Laws B) : ∀ (s r : Nat) (C : Nat → Nat → B), s < r → ∃ d : Nat → B, (∃ i, i < r ∧ d i ≠ 0) ∧ ∀ k, k < s → sm r (fun i => d i * C i k) = 0
  | 0, r, C, h => ⟨fun _ => 1, ⟨0, h, K.nought⟩, fun k hk => by omega⟩
  | s + 1, r, C, h => by
    obtain ⟨n, rfl⟩ : ∃ n, r = n + 1 := ⟨r - 1, by omega⟩
    by_cases hz : ∀ i, i < n + 1 → C i s = 0
    · obtain ⟨d, hd, hk⟩ := kernel K s (n + 1) C (by omega)
      refine ⟨d, hd, fun k hks => ?_⟩
      by_cases e : k = s
      · subst e
        exact sm_zero K _ fun i hi => by rw [hz i hi, K.mul_zero]
      · exact hk k (by omega)
    · obtain ⟨p, hp⟩ := Classical.not_forall.1 hz
      obtain ⟨hpn, hps⟩ := Classical.not_imp.1 hp
      obtain ⟨v, hv⟩ := K.inv _ hps
      obtain ⟨d, ⟨i0, hi0, hd0⟩, hk⟩ := kernel K s n (fun i k => C (skip p i) k + C (skip p i) s * v * C p k) (by omega)
      have hdx : ∀ i, (if skip p i = p then sm n (fun i => d i * (C (skip p i) s * v)) else d (if skip p i < p then skip p i else skip p i - 1)) = d i := fun i => by
        rw [if_neg (skip_ne p i), skip_back]
      have key : ∀ k, sm (n + 1) (fun i => (if i = p then sm n (fun i => d i * (C (skip p i) s * v)) else d (if i < p then i else i - 1)) * C i k) = sm n fun i => d i * (C (skip p i) k + C (skip p i) s * v * C p k) := fun k => by
        rw [sm_skip K n p (by omega), if_pos rfl]
        have e : sm n (fun i => d i * (C (skip p i) k + C (skip p i) s * v * C p k)) = sm n (fun i => d i * C (skip p i) k) + sm n (fun i => d i * (C (skip p i) s * v)) * C p k := by
          rw [K.mul_comm _ (C p k), ← sm_mul K, ← sm_add K]
          exact sm_congr fun i _ => by rw [K.mul_add, K.mul_comm (C p k), K.mul_assoc (d i)]
        rw [e, K.add_comm]
        congr 1
        exact sm_congr fun i _ => by rw [hdx]
      refine ⟨fun i => if i = p then sm n (fun i => d i * (C (skip p i) s * v)) else d (if i < p then i else i - 1), ⟨skip p i0, skip_lt hi0, ?_⟩, fun k hks => ?_⟩
      · show (if skip p i0 = p then _ else _) ≠ 0
        rw [hdx]; exact hd0
      rw [key]
      by_cases e : k = s
      · subst e
        refine sm_zero K _ fun i _ => ?_
        rw [K.mul_assoc (C (skip p i) k), hv, K.mul_one, K.add_self, K.mul_zero]
      · exact hk k (by omega)
/-- A reduced matrix of r rows, its leads. -/
structure Red (r : Nat) (R : Nat → Nat → B) (l : Nat → Nat) : Prop where
  inc : ∀ i j, i < j → j < r → l i < l j
  one : ∀ i, i < r → R i (l i) = 1
  zero : ∀ i k, i < r → k < r → k ≠ i → R k (l i) = 0
  low : ∀ i j, i < r → j < l i → R i j = 0
namespace Red
variable {r s : Nat} {R S : Nat → Nat → B} {l m : Nat → Nat}
theorem coef (K : Laws B) (h : Red r R l) (c : Nat → B) {i : Nat} (hi : i < r) : comb r R c (l i) = c i := by
  show sm r (fun k => c k * R k (l i)) = c i
  rw [sm_one K hi (fun k hk hne => by rw [h.zero i k hi hk hne, K.mul_zero]), h.one i hi, K.mul_one]
theorem free (K : Laws B) (h : Red r R l) : Free r R := fun c hc i hi => by rw [← h.coef K c hi]; exact hc _
/-- What lies in the span and has nought at each lead is nought. -/
theorem nought (K : Laws B) (h : Red r R l) {v : Nat → B} (hv : InSpan r R v) (hz : ∀ i, i < r → v (l i) = 0) : v = fun _ => 0 := by
  obtain ⟨c, rfl⟩ := hv
  have hc : ∀ i, i < r → c i = 0 := fun i hi => by rw [← h.coef K c hi]; exact hz i hi
  exact funext fun j => sm_zero K r fun i hi => by rw [hc i hi, K.zero_mul]
end Red
/-- Rows beyond whose n columns stands nothing. -/
def Wide (n : Nat) (v : Nat → B) : Prop := ∀ j, n ≤ j → v j = 0
theorem InSpan.wide (K : Laws B) {r n : Nat} {M : Nat → Nat → B} {v : Nat → B} (h : InSpan r M v) (hw : ∀ i, i < r → Wide n (M i)) : Wide n v := by
  obtain ⟨c, rfl⟩ := h
  exact fun j hj => sm_zero K r fun i hi => by rw [hw i hi j hj, K.mul_zero]
theorem Red.lead_lt (K : Laws B) {p n : Nat} {R : Nat → Nat → B} {l : Nat → Nat} (h : Red p R l) (hw : ∀ i, i < p → Wide n (R i)) {i : Nat} (hi : i < p) : l i < n := by
  rcases Nat.lt_or_ge (l i) n with hlt | hge
  · exact hlt
  · exfalso
    have e := hw i hi _ hge
    rw [h.one i hi] at e
    exact K.nought e
theorem Red.lead_top {B : Type} [Zero B] [One B] {p n : Nat} {R : Nat → Nat → B} {l : Nat → Nat} (h : Red p R l) (hn : ∀ i, i < p → l i < n) {i : Nat} (hi : i < p) : l i + (p - i) ≤ n := by
  obtain ⟨d, hd⟩ : ∃ d, p - i = d + 1 := ⟨p - i - 1, by omega⟩
  induction d generalizing i with
  | zero => have := hn i hi; omega
  | succ d ih =>
    have h1 := ih (i := i + 1) (by omega) (by omega)
    have h2 := h.inc i (i + 1) (by omega) (by omega)
    omega
/-- A product: the rows that M's rows make of N's. -/
def mulM (n : Nat) (M N : Nat → Nat → B) : Nat → Nat → B := fun i => comb n N (M i)
theorem comb_comb (K : Laws B) (p n : Nat) (R N : Nat → Nat → B) (c : Nat → B) : comb n N (comb p R c) = comb p (mulM n R N) c := by
  funext j
  show sm n (fun k => sm p (fun a => c a * R a k) * N k j) = sm p fun a => c a * sm n fun k => R a k * N k j
  have e1 : sm n (fun k => sm p (fun a => c a * R a k) * N k j) = sm n fun k => sm p fun a => c a * (R a k * N k j) := sm_congr fun k _ => by
    rw [K.mul_comm, ← sm_mul K]
    exact sm_congr fun a _ => by rw [K.mul_comm, K.mul_assoc]
  rw [e1, sm_swap K]
  exact sm_congr fun a _ => sm_mul K _ _ _
theorem mul_assoc' (K : Laws B) (n m : Nat) (M N O : Nat → Nat → B) : mulM m (mulM n M N) O = mulM n M (mulM m N O) := by
  funext i
  exact comb_comb K n m N O (M i)
theorem within_congr (K : Laws B) {r : Nat} {M N : Nat → Nat → B} (h : ∀ i, i < r → M i = N i) : Within r M r N := fun i hi => by rw [h i hi]; exact InSpan.row K N hi
end
end Go.Proofs.Ytgelalbmhllccaa.Lin
/- Rows of bytes as rows over the field of 256 elements: what the plain theorems of rows say of lists. -/
namespace Go.Proofs.Ytgelalbmhllccaa.Lin
/-- A number of the field. -/
structure By where
  v : Nat
  h : v < 256
theorem By.ext {a b : By} (h : a.v = b.v) : a = b := by cases a; cases b; cases h; rfl
instance : Add By := ⟨fun a b => ⟨a.v ^^^ b.v, xor_lt a.h b.h⟩⟩
instance : Mul By := ⟨fun a b => ⟨mulN a.v b.v, mulN_lt _ a.h⟩⟩
instance : Zero By := ⟨⟨0, by decide⟩⟩
instance : One By := ⟨⟨1, by decide⟩⟩
instance : DecidableEq By := fun a b => if h : a.v = b.v then isTrue (By.ext h) else isFalse fun e => h (by rw [e])
theorem add_v (a b : By) : (a + b).v = a.v ^^^ b.v := rfl
theorem mul_v (a b : By) : (a * b).v = mulN a.v b.v := rfl
theorem laws : Laws By where
  add_comm a b := By.ext (Nat.xor_comm _ _)
  add_assoc a b c := By.ext (Nat.xor_assoc _ _ _)
  add_zero a := By.ext (Nat.xor_zero _)
  add_self a := By.ext (Nat.xor_self _)
  mul_comm a b := By.ext (mul_comm' _ _ a.h b.h)
  mul_assoc a b c := By.ext (Go.Proofs.Ytgelalbmhllccaa.mul_assoc' _ _ _ a.h b.h c.h)
  one_mul a := By.ext (mul_one_left _ a.h)
  mul_add a b c := By.ext (mul_xor_right _ _ _ a.h b.h c.h)
  mul_zero a := By.ext (mul_zero_right _)
  inv a ha := ⟨⟨invN a.v, invN_lt _⟩, By.ext (by
    have h1 : 1 ≤ a.v := by
      rcases Nat.eq_zero_or_pos a.v with e | e
      · exact absurd (By.ext (b := 0) e) ha
      · exact e
    rw [mul_v, mul_comm' _ _ (invN_lt _) a.h, mul_inv _ a.h h1]; rfl)⟩
  nought h := by have := congrArg By.v h; cases this
/-- A number as one of the field. -/
def byte (x : Nat) : By := ⟨x % 256, Nat.mod_lt _ (by decide)⟩
theorem byte_v {x : Nat} (h : x < 256) : (byte x).v = x := Nat.mod_eq_of_lt h
/-- A list's numbers, noughts behind them. -/
def vec (xs : List Nat) : Nat → By := fun j => byte (xs.getD j 0)
/-- A list of lists as rows. -/
def fn (M : List (List Nat)) : Nat → Nat → By := fun i => vec (M.getD i [])
/-- Rows of n bytes. -/
def RowsOk (n : Nat) (M : List (List Nat)) : Prop := ∀ r ∈ M, r.length = n ∧ AllB r
theorem vec_v {xs : List Nat} (h : AllB xs) (j : Nat) : (vec xs j).v = xs.getD j 0 := byte_v (h.getD j)
theorem vec_wide {xs : List Nat} {n : Nat} (h : xs.length = n) : Wide n (vec xs) := fun j hj => by
  have e : xs.getD j 0 = 0 := by rw [List.getD_eq_getElem?_getD, List.getElem?_eq_none (by omega)]; rfl
  show byte (xs.getD j 0) = 0
  rw [e]; rfl
theorem vec_inj {xs ys : List Nat} (hl : xs.length = ys.length) (hx : AllB xs) (hy : AllB ys) (h : vec xs = vec ys) : xs = ys :=
  list_ext hl fun i _ => by rw [← vec_v hx, ← vec_v hy, h]
theorem RowsOk.at_ {n : Nat} {M : List (List Nat)} (h : RowsOk n M) {i : Nat} (hi : i < M.length) : (M.getD i []).length = n ∧ AllB (M.getD i []) := by
  rw [List.getD_eq_getElem?_getD, List.getElem?_eq_getElem hi]
  exact h _ (List.getElem_mem hi)
theorem RowsOk.wide {n : Nat} {M : List (List Nat)} (h : RowsOk n M) : ∀ i, i < M.length → Wide n (fn M i) := fun _ hi => vec_wide (h.at_ hi).1
/-- One span. -/
def SameSpan (M N : List (List Nat)) : Prop := Within M.length (fn M) N.length (fn N) ∧ Within N.length (fn N) M.length (fn M)
theorem SameSpan.refl (M : List (List Nat)) : SameSpan M M := ⟨Within.refl laws _ _, Within.refl laws _ _⟩
theorem SameSpan.symm {M N : List (List Nat)} (h : SameSpan M N) : SameSpan N M := ⟨h.2, h.1⟩
theorem SameSpan.trans {M N O : List (List Nat)} (h : SameSpan M N) (k : SameSpan N O) : SameSpan M O := ⟨h.1.trans laws k.1, k.2.trans laws h.2⟩
/-- A reduced matrix, as a list. -/
def RedL (n : Nat) (M : List (List Nat)) : Prop := RowsOk n M ∧ ∃ l, Red M.length (fn M) l
end Go.Proofs.Ytgelalbmhllccaa.Lin
/- A row laid into a reduced matrix; rows turned without turning the span. -/
namespace Go.Proofs.Ytgelalbmhllccaa.Lin
section
variable {B : Type} [Add B] [Mul B] [Zero B] [One B]
/-- A row more, at place q. -/
def insM {α : Type} (q : Nat) (M : Nat → α) (w : α) : Nat → α := fun i => if i < q then M i else if i = q then w else M (i - 1)
theorem insM_lt {α : Type} {q i : Nat} {M : Nat → α} {w : α} (h : i < q) : insM q M w i = M i := if_pos h
theorem insM_at {α : Type} {q : Nat} {M : Nat → α} {w : α} : insM q M w q = w := by rw [insM, if_neg (by omega), if_pos rfl]
theorem insM_gt {α : Type} {q i : Nat} {M : Nat → α} {w : α} (h : q < i) : insM q M w i = M (i - 1) := by rw [insM, if_neg (by omega), if_neg (by omega)]
theorem insM_le {α : Type} {q i : Nat} {M : Nat → α} {w : α} (h : q ≤ i) : insM q M w (i + 1) = M i := by rw [insM_gt (by omega)]; rfl
/-- The other rows, cleared at the new row's lead. -/
def clearM (R : Nat → Nat → B) (L : Nat) (w : Nat → B) : Nat → Nat → B := fun k j => R k j + R k L * w j
theorem insert_red (K : Laws B) {r q L : Nat} {R : Nat → Nat → B} {l : Nat → Nat} {w : Nat → B} (h : Red r R l) (hq : q ≤ r) (hlo : ∀ i, i < q → l i < L) (hhi : ∀ i, q ≤ i → i < r → L < l i)
    (hz : ∀ i, i < r → w (l i) = 0) (h1 : w L = 1) (hlow : ∀ j, j < L → w j = 0) : Red (r + 1) (insM q (clearM R L w) w) (insM q l L) := by
  have cl : ∀ i k, i < r → k < r → clearM R L w k (l i) = R k (l i) := fun i k hi hk => by rw [clearM, hz i hi, K.mul_zero, K.add_zero]
  have cL : ∀ k, clearM R L w k L = 0 := fun k => by rw [clearM, h1, K.mul_one, K.add_self]
  have clow : ∀ k j, k < r → j < l k → clearM R L w k j = 0 := fun k j hk hj => by
    rw [clearM, h.low k j hk hj, K.zero_add]
    rcases Nat.lt_or_ge j L with e | e
    · rw [hlow j e, K.mul_zero]
    · rw [h.low k L hk (by omega), K.zero_mul]
  have case_ : ∀ i, i < r + 1 → (i < q ∧ i < r) ∨ i = q ∨ (q < i ∧ i - 1 < r ∧ q ≤ i - 1) := fun i hi => by omega
  refine ⟨fun i j hij hj => ?_, fun i hi => ?_, fun i k hi hk hne => ?_, fun i j hi hj => ?_⟩
  · rcases case_ i (by omega) with ⟨a, a2⟩ | a | ⟨a, a2, a3⟩ <;> rcases case_ j hj with ⟨b, b2⟩ | b | ⟨b, b2, b3⟩
    · rw [insM_lt a, insM_lt b]; exact h.inc i j hij b2
    · subst b; rw [insM_lt a, insM_at]; exact hlo i a
    · rw [insM_lt a, insM_gt b]; exact Nat.lt_trans (hlo i a) (hhi _ b3 b2)
    · omega
    · omega
    · subst a; rw [insM_at, insM_gt b]; exact hhi _ b3 b2
    · omega
    · omega
    · rw [insM_gt a, insM_gt b]; exact h.inc _ _ (by omega) b2
  · rcases case_ i hi with ⟨a, a2⟩ | a | ⟨a, a2, a3⟩
    · rw [insM_lt a, insM_lt a, cl i i a2 a2]; exact h.one i a2
    · subst a; rw [insM_at, insM_at]; exact h1
    · rw [insM_gt a, insM_gt a, cl _ _ a2 a2]; exact h.one _ a2
  · rcases case_ i hi with ⟨a, a2⟩ | a | ⟨a, a2, a3⟩ <;> rcases case_ k hk with ⟨b, b2⟩ | b | ⟨b, b2, b3⟩
    · rw [insM_lt a, insM_lt b, cl i k a2 b2]; exact h.zero i k a2 b2 hne
    · subst b; rw [insM_lt a, insM_at]; exact hz i a2
    · rw [insM_lt a, insM_gt b, cl i _ a2 b2]; exact h.zero i _ a2 b2 (by omega)
    · subst a; rw [insM_at, insM_lt b]; exact cL k
    · omega
    · subst a; rw [insM_at, insM_gt b]; exact cL _
    · rw [insM_gt a, insM_lt b, cl _ k a2 b2]; exact h.zero _ k a2 b2 (by omega)
    · subst b; rw [insM_gt a, insM_at]; exact hz _ a2
    · rw [insM_gt a, insM_gt b, cl _ _ a2 b2]; exact h.zero _ _ a2 b2 (by omega)
  · rcases case_ i hi with ⟨a, a2⟩ | a | ⟨a, a2, a3⟩
    · rw [insM_lt a] at hj
      rw [insM_lt a]; exact clow i j a2 hj
    · subst a
      rw [insM_at] at hj
      rw [insM_at]; exact hlow j hj
    · rw [insM_gt a] at hj
      rw [insM_gt a]; exact clow _ j a2 hj
/-- .. of one span with the rows and the row from which it was made. -/
theorem insert_span (K : Laws B) {r q L : Nat} {R : Nat → Nat → B} {w v c : Nat → B} {a : B} (hq : q ≤ r) (ha : a ≠ 0) (hw : ∀ j, w j = a * (v j + comb r R c j)) :
    Within (r + 1) (insM q (clearM R L w) w) (r + 1) (insM r R v) ∧ Within (r + 1) (insM r R v) (r + 1) (insM q (clearM R L w) w) := by
  have rowR : ∀ i, i < r → InSpan (r + 1) (insM r R v) (R i) := fun i hi => by
    have := InSpan.row K (insM r R v) (show i < r + 1 by omega)
    rwa [insM_lt hi] at this
  have rowV : InSpan (r + 1) (insM r R v) v := by
    have := InSpan.row K (insM r R v) (show r < r + 1 by omega)
    rwa [insM_at] at this
  have hwS : InSpan (r + 1) (insM r R v) w := by
    have e : w = fun j => a * (v j + comb r R c j) := funext hw
    rw [e]
    exact InSpan.mul K a (InSpan.add K rowV (InSpan.trans K ⟨c, rfl⟩ rowR))
  have newW : InSpan (r + 1) (insM q (clearM R L w) w) w := by
    have := InSpan.row K (insM q (clearM R L w) w) (show q < r + 1 by omega)
    rwa [insM_at] at this
  have newC : ∀ i, i < r → InSpan (r + 1) (insM q (clearM R L w) w) (clearM R L w i) := fun i hi => by
    by_cases e : i < q
    · have := InSpan.row K (insM q (clearM R L w) w) (show i < r + 1 by omega)
      rwa [insM_lt e] at this
    · have := InSpan.row K (insM q (clearM R L w) w) (show i + 1 < r + 1 by omega)
      rwa [insM_le (by omega)] at this
  have newR : ∀ i, i < r → InSpan (r + 1) (insM q (clearM R L w) w) (R i) := fun i hi => by
    have e : R i = fun j => clearM R L w i j + R i L * w j := funext fun j => by rw [clearM, K.add_assoc, K.add_self, K.add_zero]
    rw [e]
    exact InSpan.add K (newC i hi) (InSpan.mul K (R i L) newW)
  refine ⟨fun i hi => ?_, fun i hi => ?_⟩
  · by_cases e : i < q
    · rw [insM_lt e]
      exact InSpan.add K (rowR i (by omega)) (InSpan.mul K (R i L) hwS)
    · by_cases e2 : i = q
      · subst e2; rw [insM_at]; exact hwS
      · rw [insM_gt (by omega)]
        exact InSpan.add K (rowR _ (by omega)) (InSpan.mul K (R (i - 1) L) hwS)
  · by_cases e : i < r
    · rw [insM_lt e]; exact newR i e
    · obtain rfl : i = r := by omega
      rw [insM_at]
      obtain ⟨b, hb⟩ := K.inv a ha
      have e : v = fun j => b * w j + comb i R c j := funext fun j => by
        rw [hw j, ← K.mul_assoc, hb, K.one_mul, K.add_assoc, K.add_self, K.add_zero]
      rw [e]
      exact InSpan.add K (InSpan.mul K b newW) (InSpan.trans K ⟨c, rfl⟩ newR)
/-- Rows laid down: what is left of a row has nought at each lead. -/
theorem cleared (K : Laws B) {r : Nat} {R : Nat → Nat → B} {l : Nat → Nat} (h : Red r R l) (v : Nat → B) {i : Nat} (hi : i < r) : v (l i) + comb r R (fun k => v (l k)) (l i) = 0 := by
  rw [h.coef K _ hi, K.add_self]
/-- A row within the span adds nothing to it. -/
theorem within_more (K : Laws B) {r : Nat} {R : Nat → Nat → B} {v : Nat → B} (h : InSpan r R v) : Within (r + 1) (insM r R v) r R ∧ Within r R (r + 1) (insM r R v) := by
  refine ⟨fun i hi => ?_, fun i hi => ?_⟩
  · by_cases e : i < r
    · rw [insM_lt e]; exact InSpan.row K R e
    · obtain rfl : i = r := by omega
      rw [insM_at]; exact h
  · have := InSpan.row K (insM r R v) (show i < r + 1 by omega)
    rwa [insM_lt hi] at this
end
end Go.Proofs.Ytgelalbmhllccaa.Lin
/- Rows of two lists; how many rows a sum and a meet of spans have together. -/
namespace Go.Proofs.Ytgelalbmhllccaa.Lin
section
variable {B : Type} [Add B] [Mul B] [Zero B] [One B]
/-- Rows behind rows. -/
def catM {α : Type} (p : Nat) (R S : Nat → α) : Nat → α := fun i => if i < p then R i else S (i - p)
theorem catM_lt {α : Type} {p i : Nat} {R S : Nat → α} (h : i < p) : catM p R S i = R i := if_pos h
theorem catM_ge {α : Type} {p i : Nat} {R S : Nat → α} : catM p R S (p + i) = S i := by rw [catM, if_neg (by omega), Nat.add_sub_cancel_left]
theorem sm_split (K : Laws B) (p q : Nat) (f : Nat → B) : sm (p + q) f = sm p f + sm q fun j => f (p + j) := by
  induction q with
  | zero => exact (K.add_zero _).symm
  | succ q ih => rw [Nat.add_succ, sm, ih, sm, K.add_assoc]
theorem comb_cat (K : Laws B) (p q : Nat) (R S : Nat → Nat → B) (c : Nat → B) : comb (p + q) (catM p R S) c = fun j => comb p R c j + comb q S (fun i => c (p + i)) j := by
  funext j
  show sm (p + q) (fun i => c i * catM p R S i j) = sm p (fun i => c i * R i j) + sm q fun i => c (p + i) * S i j
  rw [sm_split K]
  congr 1
  · exact sm_congr fun i hi => by rw [catM_lt hi]
  · exact sm_congr fun i _ => by rw [catM_ge]
theorem span_cat (K : Laws B) {p q : Nat} {R S : Nat → Nat → B} {v : Nat → B} : InSpan (p + q) (catM p R S) v ↔ ∃ a b, InSpan p R a ∧ InSpan q S b ∧ v = fun j => a j + b j := by
  constructor
  · rintro ⟨c, rfl⟩
    exact ⟨_, _, ⟨c, rfl⟩, ⟨fun i => c (p + i), rfl⟩, comb_cat K p q R S c⟩
  · rintro ⟨a, b, ⟨c, rfl⟩, ⟨d, rfl⟩, rfl⟩
    refine ⟨fun i => if i < p then c i else d (i - p), ?_⟩
    rw [comb_cat K]
    funext j
    congr 1
    · exact sm_congr fun i hi => by dsimp only; rw [if_pos hi]
    · exact sm_congr fun i _ => by dsimp only; rw [if_neg (by omega), Nat.add_sub_cancel_left]
end
end Go.Proofs.Ytgelalbmhllccaa.Lin
