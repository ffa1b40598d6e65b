/- bytes.Equal. -/
import Derived.Test.YtgelalbmhllccaaGreatQab
import Derived.Test.YtgelalbmhllccaaGreatQac
import Derived.OwnWalk
import Derived.Test.YtgelalbmhllccaaGreatProg
import Derived.WalkKit
import Derived.Lib.Hide
import Derived.OneCell
import Derived.Laws.EntriesVeiled
namespace Go.Proofs.YtgelalbmhllccaaGreat
open Go.RowKit
theorem equal_any (B B' n m ca cb : Nat) (A A' : Option Addr) (xs ys : List Nat) (w : World) (h : Bytes w B A n xs) (h' : Bytes w B' A' m ys) :
    Calls Tryz.prog 65 #[.slice A n ca, .slice A' m cb] w fun e w' => e = .returned (.bool (decide (xs = ys))) ∧ w = w' := by
  have t1 := run_str h Tryz.underlying43 Tryz.underlying5 Tryz.underlying9 ca
  have t2 := run_str h' Tryz.underlying43 Tryz.underlying5 Tryz.underlying9 cb
  by_cases e : xs = ys
  · have b := strN_eq e
    rw [decide_eq_true e]
    go_enter Tryz.func65, Tryz.ntmps65
    go_wp2_with fail
    go_ret
    exact ⟨rfl, rfl⟩
  · have b := strN_ne h.all h'.all e
    rw [decide_eq_false e]
    go_enter Tryz.func65, Tryz.ntmps65
    go_wp2_with fail
    go_ret
    exact ⟨rfl, rfl⟩
end Go.Proofs.YtgelalbmhllccaaGreat
/- The document's answers of layer 6 in plain terms. -/
namespace Go.Proofs.YtgelalbmhllccaaGreat
open Lin
/-- The document's reduced matrix. -/
def reduceN (M : List (List Nat)) : List (List Nat) := if fits M then reduceTo (sizeC M) M M.length else []
/-- The document's product. -/
def mulR (M N : List (List Nat)) : Prop := fits M ∧ fits N ∧ sizeC M = sizeR N
instance (M N : List (List Nat)) : Decidable (mulR M N) := by unfold mulR; infer_instance
theorem vUnit_all (n k : Nat) : AllB (vUnit n k) := fun x hx => by
  obtain ⟨i, _, rfl⟩ := List.mem_map.1 hx
  show (if i = k then 1 else 0) < 256
  split <;> decide
end Go.Proofs.YtgelalbmhllccaaGreat
/- Rows in memory as matrices: words that no function of the document's own is needed for. -/
namespace Go.Proofs.YtgelalbmhllccaaGreat
open Go.RowKit Lin
set_option linter.unusedSimpArgs false
set_option linter.unusedVariables false
theorem infoRow : (Tryz.prog.info? 43).map (fun i => (i.zero, i.size, i.bytes)) = some (some (.slice none 0 0), 1, 24) := by kernel_rfl
theorem rowsXs_len (rs : List RowV) : (rowsXs rs).length = rs.length := by simp [rowsXs]
/-- What a call hands back that lays rows in new memory, and an error. -/
def NewRows (w : World) (M : List (List Nat)) (er : Int) (e : Ending) (w' : World) : Prop :=
  ∃ A n c, e = .returned (.tuple #[.slice A n c, .int .i64 er]) ∧ ∃ rs, RowsIn w' (fun b => w.heap.size ≤ b ∧ b < w'.heap.size) A n rs ∧ n ≤ c ∧ rowsXs rs = M ∧ Keep w w'
theorem NewRows.none_ (w : World) (er : Int) : NewRows w [] er (.returned (.tuple #[.slice none 0 0, .int .i64 er])) w := ⟨none, 0, 0, rfl, [], RowsIn.nothing _ _ _, Nat.le_refl _, rfl, Keep.refl w⟩
theorem ownrows_le {w : World} {base n c : Nat} {e : TypeId} {A : Option Addr} {rs : List RowV} (h : OwnRows w base e A n c rs) : n ≤ c := by
  rcases h.2 with ⟨hv, h0⟩ | ⟨g, cap, cur, hv, _, _, hle, _⟩
  · omega
  · injection hv with _ _ h3; omega
/-- Rows in new memory, being laid. -/
def Laying (W w : World) (A : Option Addr) (n c : Nat) (rs : List RowV) : Prop :=
  OwnRows w W.heap.size 43 A n c rs ∧ (∀ r ∈ rs, LiesIn w (fun b => W.heap.size ≤ b ∧ b < w.heap.size ∧ ¬ (Value.slice A n c).ownBlock = some b) r) ∧ Keep W w
namespace Laying
variable {W w w' : World} {A : Option Addr} {n c : Nat} {rs : List RowV}
theorem nothing (W : World) : Laying W W none 0 0 [] := ⟨OwnRows.none_ _ _ _, fun r hr => by simp at hr, Keep.refl W⟩
theorem later (h : Laying W w A n c rs) (k : Keep w w') : Laying W w' A n c rs :=
  ⟨h.1.keep k, fun r hr => ((h.2.1 r hr).turned (Turned.of_keep (F := fun _ => False) k) fun _ _ e => e).mono fun b hb => ⟨hb.1, Nat.lt_of_lt_of_le hb.2.1 k.size, hb.2.2⟩, h.2.2.trans k⟩
/-- A row more: its own block apart from the rows' block. -/
theorem more {A2 : Option Addr} {c2 : Nat} {r : RowV} {o : Obj} (h : Laying W w A n c rs) (hr : LiesIn w (fun b => W.heap.size ≤ b ∧ b < w.heap.size ∧ ¬ (Value.slice A n c).ownBlock = some b) r) (o2 : OwnRows w' W.heap.size 43 A2 (n + 1) c2 (rs ++ [r])) (k : (w.alloc o).grownBy w' (Value.slice A n c).ownBlock)
    (hb : (Value.slice A2 (n + 1) c2).ownBlock = (Value.slice A n c).ownBlock ∨ (Value.slice A2 (n + 1) c2).ownBlock = some (w.alloc o).heap.size) : Laying W w' A2 (n + 1) c2 (rs ++ [r]) := by
  have ka : Keep w (w.alloc o) := Below.alloc (Keep.refl w) (Nat.le_refl _) o
  have kT : Turned (fun b => (Value.slice A n c).ownBlock = some b) w w' := (Turned.of_keep ka).trans (Turned.of_grown (F := fun b => (Value.slice A n c).ownBlock = some b) k fun i e => e) fun i e => Or.inl e
  have kk : Keep W w' := kT.keep h.2.2 fun b e => h.1.rowLe b e
  refine ⟨o2, fun r' hr' => ?_, kk⟩
  have hall : ∀ r' ∈ rs ++ [r], LiesIn w (fun b => W.heap.size ≤ b ∧ b < w.heap.size ∧ ¬ (Value.slice A n c).ownBlock = some b) r' := fun r' hr' => by
    rw [List.mem_append, List.mem_singleton] at hr'
    rcases hr' with hr' | rfl
    · exact h.2.1 r' hr'
    · exact hr
  refine ((hall r' hr').turned kT fun b hb e => hb.2.2 e).mono fun b hb' => ⟨hb'.1, Nat.lt_of_lt_of_le hb'.2.1 kT.size, fun e => ?_⟩
  rcases hb with h1 | h1
  · rw [h1] at e; exact hb'.2.2 e
  · rw [h1] at e
    injection e with e
    have := ka.size
    simp at e; omega
theorem done (h : Laying W w A n c rs) (er : Int) : NewRows W (rowsXs rs) er (.returned (.tuple #[.slice A n c, .int .i64 er])) w :=
  ⟨A, n, c, rfl, rs, RowsIn.of_own h.1 (fun r hr => (h.2.1 r hr).mono fun b hb => ⟨hb.1, hb.2.1⟩) (fun b hb => h.1.lt b hb), ownrows_le h.1, rfl, h.2.2⟩
end Laying
theorem RowsIn.ok {w : World} {F : Nat → Prop} {A : Option Addr} {n nc : Nat} {rs : List RowV} (h : RowsIn w F A n rs) (hn : ∀ r ∈ rs, r.n = nc) : RowsOk nc (rowsXs rs) := fun x hx => by
  obtain ⟨r, hr, rfl⟩ := List.mem_map.1 hx
  exact ⟨by rw [(h.2.1 r hr).1, hn r hr], (h.2.1 r hr).2.1⟩
theorem LiesIn.str {w : World} {F : Nat → Prop} {r : RowV} (h : LiesIn w F r) (hF : ∀ b, F b → b < w.heap.size) (k : Nat) : (convert 43 9 (.slice r.A r.n r.c)).run Tryz.prog (w.drewN k) = .ok (.string (strN r.xs)) (w.drewN k) :=
  run_str (w := w.drewN k) (h.bytes hF) Tryz.underlying43 Tryz.underlying5 Tryz.underlying9 r.c
theorem rowsXs_take {rs : List RowV} {k : Nat} {r : RowV} (h : rs[k]? = some r) : rowsXs (rs.take (k + 1)) = rowsXs (rs.take k) ++ [r.xs] := by
  rw [List.take_add_one, h]; simp [rowsXs]
theorem rowsXs_ne {rs rs' : List RowV} {k : Nat} {r r' : RowV} (h : rs[k]? = some r) (h' : rs'[k]? = some r') (hne : r.xs ≠ r'.xs) : rowsXs rs ≠ rowsXs rs' := fun e => by
  have := congrArg (fun l => l[k]?) e
  simp [rowsXs, h, h'] at this
  exact hne this
end Go.Proofs.YtgelalbmhllccaaGreat
/- Contracts of the landed sum, the product with x, the product. -/
namespace Go.Proofs.YtgelalbmhllccaaGreat
open Go.RowKit
set_option linter.unusedVariables false
set_option linter.unusedSimpArgs false

theorem ret_int {k : IntKind} {a b : Int} (h : a = b) : Ending.returned (.int k a) = .returned (.int k b) := by rw [h]

theorem add_any (a b : Nat) (ha : a < 256) (hb : b < 256) (w : World) :
    Calls Tryz.prog 142 #[.int .u8 a, .int .u8 b] w fun e w' => e = .returned (.int .u8 ((a ^^^ b : Nat) : Int)) ∧ w = w' := by
  go_enter Tryz.func142, Tryz.ntmps142
  go_wp2
  go_ret
  exact ⟨ret_int (u8_xor_nat a b ha hb), rfl⟩
theorem timesX_any (a : Nat) (ha : a < 256) (w : World) :
    Calls Tryz.prog 148 #[.int .u8 a] w fun e w' => e = .returned (.int .u8 (xt a : Nat)) ∧ w = w' := by
  go_enter Tryz.func148, Tryz.ntmps148
  go_wp2
  go_ret
  exact ⟨ret_int (u8_xor_nat (a * 2 % 256) (27 * (a / 128)) (by omega) (by omega)), rfl⟩

set_option maxHeartbeats 400000 in
theorem mul_any (a b : Nat) (ha : a < 256) (hb : b < 256) (w : World) :
    Calls Tryz.prog 152 #[.int .u8 a, .int .u8 b] w fun e w' => e = .returned (.int .u8 (mulN a b : Nat)) ∧ w = w' := by
  go_enter Tryz.func152, Tryz.ntmps152
  go_wp2
  go_loop [0, 5, 7] (fun x p i => ∃ k : Nat, k ≤ 8 ∧ i = .int .i64 k ∧ x = .int .u8 (xtn k a : Nat) ∧ p = .int .u8 (mulTo a b k : Nat)) (fun _ _ i => 8 - (intOf i).toNat)
  case atStart => exact ⟨0, by omega, rfl, rfl, rfl⟩
  case round =>
    obtain ⟨k, hk, rfl, rfl, rfl⟩ := hrel
    by_cases hlt : k < 8
    · go_wp2_with fail
      rw [stepbit_int _ b k (xtn_lt k ha) hb]
      refine (add_any _ _ (mulTo_lt a b k ha) (stepbit_lt _ b k (xtn_lt k ha)) _).mono ?_
      rintro e w' ⟨rfl, rfl⟩
      go_wp2_with fail
      refine (timesX_any _ (xtn_lt k ha) _).mono ?_
      rintro e w' ⟨rfl, rfl⟩
      go_wp2_with fail
      go_round
      case rel => exact ⟨k + 1, by omega, by go_num, rfl, rfl⟩
      case measure => simp [intOf]; omega
    · obtain rfl : k = 8 := by omega
      go_wp2
      go_ret
      exact ⟨rfl, rfl⟩

theorem add_eq (a b v : Nat) (ha : a < 256) (hb : b < 256) (h : a ^^^ b = v) (w : World) :
    Calls Tryz.prog 142 #[.int .u8 a, .int .u8 b] w fun e w' => e = .returned (.int .u8 (v : Int)) ∧ w = w' := by
  subst h; exact add_any a b ha hb w
theorem mul_eq (a b v : Nat) (ha : a < 256) (hb : b < 256) (h : mulN a b = v) (w : World) :
    Calls Tryz.prog 152 #[.int .u8 a, .int .u8 b] w fun e w' => e = .returned (.int .u8 (v : Int)) ∧ w = w' := by
  subst h; exact mul_any a b ha hb w
end Go.Proofs.YtgelalbmhllccaaGreat
/- Contracts of the landed vector code: each, the closures. -/
namespace Go.Proofs.YtgelalbmhllccaaGreat
open Go.RowKit
set_option linter.unusedVariables false
set_option linter.unusedSimpArgs false

/-- A function of the program is entered. -/
theorem enters_at {P : Program} {f : FuncId} {fn : Func} {c : Code} (hf : P.funcs[f]? = some fn) (hname : (fn.name == "runtime.NumGoroutine") = false) (hb : fn.body = some c) : ∀ args w, (callFunc f args).run P w = .ok (.enter f args) w := by
  intro args w
  have h1 : fn.name ≠ "runtime.NumGoroutine" := by simpa using hname
  simp [callFunc, hf, h1, hb, mark]
set_option maxRecDepth 100000 in
theorem each_any (R : Nat → World → Prop) (g : Nat) (cap : Array Value) (B n ca : Nat) (A : Option Addr) (xs : List Nat) (w : World) (hn : n ≤ 140737488351232) (eg : ∀ args w, (callFunc g args).run Tryz.prog w = .ok (.enter g args) w)
    (hb : ∀ i wr, i < n → R i wr → Bytes wr B A n xs) (h0 : R 0 w)
    (hstep : ∀ i wr, i < n → R i wr → Calls Tryz.prog g (#[.int .i64 i, .int .u8 (xs.getD i 0 : Nat)] ++ cap) wr fun e w' => e = .returned (.tuple #[]) ∧ R (i + 1) w') :
    Calls Tryz.prog 128 #[.slice A n ca, .func (.func g) #[] cap] w fun e w' => e = .returned (.tuple #[]) ∧ R n w' := by
  go_enter Tryz.func128, Tryz.ntmps128
  go_wp2_with fail
  go_loopw [8] (fun i wr => ∃ k : Nat, k ≤ n ∧ i = .int .i64 k ∧ R k wr) (fun i _ => n - (intOf i).toNat)
  case atStart => exact ⟨0, by omega, rfl, h0⟩
  case round =>
    obtain ⟨k, hk, rfl, hr⟩ := hrel
    by_cases hlt : k < n
    · obtain ⟨b1, o1, rfl, hb1, hc1⟩ := (hb k wr hlt hr).at_ hlt
      have hs := hstep k wr hlt hr
      generalize xs.getD k 0 = x at *
      have HS := Lib.hid hs
      clear hs hstep hb h0
      go_wp2_with fail
      refine HS.out.mono ?_
      rintro e w2 ⟨rfl, hr2⟩
      go_wp2_with fail
      go_round
      case rel => exact ⟨k + 1, by omega, by go_num, hr2⟩
      case measure => simp [intOf]; omega
    · obtain rfl : k = n := by omega
      go_wp2_with fail
      go_end0
      exact ⟨rfl, hr⟩

def Timing (w : World) (b c : Nat) : Prop :=
  b + 1 < w.heap.size ∧ ∀ i, i < 16 → w.cell? ⟨b, i, none⟩ = some (.int .u8 ((mulN c i : Nat) : Int)) ∧ w.cell? ⟨b + 1, i, none⟩ = some (.int .u8 ((mulN c (16 * i) : Nat) : Int))
theorem split16 : ∀ x, x < 256 → (x % 16) ^^^ (16 * (x / 16)) = x := by decide +kernel
set_option maxRecDepth 100000 in
theorem product_any (b c x : Nat) (w : World) (h : Timing w b c) (hc : c < 256) (hx : x < 256) :
    Calls Tryz.prog 153 #[.int .u8 x, .pointer (some ⟨b, 0, none⟩), .pointer (some ⟨b + 1, 0, none⟩)] w fun e w' => e = .returned (.int .u8 (mulN c x : Nat)) ∧ ∃ m, w' = w.drewN m := by
  have hs := split16 x hx
  have hm : mulN c (x % 16) ^^^ mulN c (16 * (x / 16)) = mulN c x := by rw [← mul_xor_right c _ _ hc (by omega) (by omega), hs]
  clear hs
  have k1 := mulN_lt (a := c) (x % 16) hc
  have k2 := mulN_lt (a := c) (16 * (x / 16)) hc
  have h1 := (h.2 (x % 16) (by omega)).1
  have h2 := (h.2 (x / 16) (by omega)).2
  have e15 : bits .and .u8 (x : Int) 15 = ((x % 16 : Nat) : Int) := by
    rw [show (15 : Int) = ((15 : Nat) : Int) from rfl, u8_and_nat _ 15 hx (by decide)]
    exact congrArg _ (Nat.and_two_pow_sub_one_eq_mod x 4)
  have hlo : x % 16 < 16 := Nat.mod_lt _ (by decide)
  have hhi : x / 16 < 16 := by omega
  generalize x % 16 = lo at *
  have e4 : (x : Int) / 16 = ((x / 16 : Nat) : Int) := by omega
  generalize x / 16 = hi at *
  have l1 : (0 : Int) ≤ (lo : Int) := Int.natCast_nonneg _
  have l2 : (lo : Int) < 16 := by omega
  have l3 : (0 : Int) ≤ (hi : Int) := Int.natCast_nonneg _
  have l4 : (hi : Int) < 16 := by omega
  go_enter Tryz.func153, Tryz.ntmps153
  go_wp2_with fail
  generalize mulN c lo = p at *
  generalize mulN c (16 * hi) = q at *
  go_quiet ((go_at_call 142; exact quiet_of_eq (add_eq p q _ k1 k2 hm _)))
  go_wp2_with fail
  go_ret
  exact ⟨rfl, _, rfl⟩
/-- A variable that a closure has taken. -/
def Held (w : World) (b : Nat) (v : Value) (t : TypeId) : Prop := w.heap[b]? = some (.cells #[v] t (0, 0))
theorem Held.cell {w : World} {b : Nat} {v : Value} {t : TypeId} (h : Held w b v t) : w.cell? ⟨b, 0, none⟩ = some v := cell_of_one h
/-- What a closure meets: its store goes to a block that it doesn't read. -/
structure Meets (w : World) (g i n : Nat) (z : Nat) : Prop where
  cell : w.cell? ⟨g, i, none⟩ = some (.int .u8 (z : Int))
  free : w.frozen? ⟨g, i, none⟩ = false
  lt : i < n
theorem Timing.drew {w : World} {b c : Nat} (h : Timing w b c) : Timing w.drew b c := h
theorem Timing.drewN {w : World} {b c : Nat} (h : Timing w b c) (m : Nat) : Timing (w.drewN m) b c := h
set_option maxRecDepth 100000 in
theorem scalestep (i x c z bp p bs g n : Nat) (w : World) (hp : Held w bp (.func (.func 153) #[] #[.pointer (some ⟨p, 0, none⟩), .pointer (some ⟨p + 1, 0, none⟩)]) 195) (ht : Timing w p c) (hs : Held w bs (.slice (some ⟨g, 0, none⟩) n n) 43) (hz : Meets w g i n z) (hx : x < 256) (hc : c < 256) (_n1 : g ≠ bp) (_n2 : g ≠ bs) :
    Calls Tryz.prog 129 #[.int .i64 i, .int .u8 x, .pointer (some ⟨bp, 0, none⟩), .pointer (some ⟨bs, 0, none⟩)] w fun e w' => e = .returned (.tuple #[]) ∧ ∃ m, w' = (w.setCell ⟨g, i, none⟩ (.int .u8 ((mulN x c : Nat) : Int))).drewN m := by
  have c1 := hp.cell
  have c2 := hs.cell
  obtain ⟨c3, c4, hi⟩ := hz
  have e1 : (0 : Int) ≤ (i : Int) := Int.natCast_nonneg _
  have e2 : (i : Int) < (n : Int) := by omega
  rw [mul_comm' x c hx hc]
  obtain ⟨v, hv⟩ : ∃ v, mulN c x = v := ⟨_, rfl⟩
  rw [hv]
  have HV := Lib.hid hv
  clear hv
  have HT := Lib.hid ht
  clear hp hs ht
  go_enter Tryz.func129, Tryz.ntmps129
  go_region_held3 (fun w' => w'.cell? ⟨bp, 0, none⟩ = some (.func (.func 153) #[] #[.pointer (some ⟨p, 0, none⟩), .pointer (some ⟨p + 1, 0, none⟩)]) ∧ w'.cell? ⟨bs, 0, none⟩ = some (.slice (some ⟨g, 0, none⟩) n n) ∧ w'.frozen? ⟨g, i, none⟩ = false)
    (first | go_keep | (refine ⟨?_, ?_, ?_⟩ <;> first | ((first | rw [World.cell?_drew] | rw [World.cell?_drewN] | skip); rw [World.cell?_setCell_far _ _ _ _ (by assumption)]; assumption) | simp [*]))
    ((go_at_call 153; refine (product_any p c x _ HT.out.drew hc hx).mono ?_; rw [HV.out]; rintro e w' ⟨rfl, m, rfl⟩))
  all_goals go_end0
  all_goals exact ⟨rfl, _, rfl⟩
set_option maxRecDepth 100000 in
theorem addsstep (i x y c z bp p bb bs g n cb b2 o2 : Nat) (w : World) (hp : Held w bp (.func (.func 153) #[] #[.pointer (some ⟨p, 0, none⟩), .pointer (some ⟨p + 1, 0, none⟩)]) 195) (ht : Timing w p c) (hb : Held w bb (.slice (some ⟨b2, o2, none⟩) n cb) 43) (hs : Held w bs (.slice (some ⟨g, 0, none⟩) n n) 43) (hy : w.cell? ⟨b2, o2 + i, none⟩ = some (.int .u8 (y : Int))) (hz : Meets w g i n z) (hx : x < 256) (hy' : y < 256) (hc : c < 256) (_n0 : g ≠ bp) (_n1 : g ≠ bb) (_n2 : g ≠ bs) (_n3 : g ≠ b2) :
    Calls Tryz.prog 157 #[.int .i64 i, .int .u8 x, .pointer (some ⟨bp, 0, none⟩), .pointer (some ⟨bb, 0, none⟩), .pointer (some ⟨bs, 0, none⟩)] w fun e w' => e = .returned (.tuple #[]) ∧ ∃ m, w' = (w.setCell ⟨g, i, none⟩ (.int .u8 ((x ^^^ mulN y c : Nat) : Int))).drewN m := by
  have c1 := hp.cell
  have c2 := hs.cell
  have c0 := hb.cell
  obtain ⟨c3, c4, hi⟩ := hz
  have e1 : (0 : Int) ≤ (i : Int) := Int.natCast_nonneg _
  have e2 : (i : Int) < (n : Int) := by omega
  rw [mul_comm' y c hy' hc]
  have hq := mulN_lt (a := c) y hc
  obtain ⟨q, hq'⟩ : ∃ q, mulN c y = q := ⟨_, rfl⟩
  rw [hq'] at hq ⊢
  have HQ := Lib.hid hq'
  clear hq'
  obtain ⟨v, hv⟩ : ∃ v, x ^^^ q = v := ⟨_, rfl⟩
  rw [hv]
  have HV := Lib.hid hv
  clear hv
  have HT := Lib.hid ht
  clear hp hs hb ht
  go_enter Tryz.func157, Tryz.ntmps157
  go_region_held3 (fun w' => w'.cell? ⟨bp, 0, none⟩ = some (.func (.func 153) #[] #[.pointer (some ⟨p, 0, none⟩), .pointer (some ⟨p + 1, 0, none⟩)]) ∧ w'.cell? ⟨bb, 0, none⟩ = some (.slice (some ⟨b2, o2, none⟩) n cb) ∧ w'.cell? ⟨bs, 0, none⟩ = some (.slice (some ⟨g, 0, none⟩) n n) ∧ w'.cell? ⟨b2, o2 + i, none⟩ = some (.int .u8 (y : Int)) ∧ w'.frozen? ⟨g, i, none⟩ = false)
    (first | go_keep | (refine ⟨?_, ?_, ?_, ?_, ?_⟩ <;> first | ((first | rw [World.cell?_drew] | rw [World.cell?_drewN] | skip); rw [World.cell?_setCell_far _ _ _ _ (by assumption)]; assumption) | simp [*]))
    (first | (go_at_call 153; refine (product_any p c y _ HT.out.drew hc hy').mono ?_; rw [HQ.out]; rintro e w' ⟨rfl, m, rfl⟩) | (go_at_call 142; refine (add_eq x q v hx hq HV.out _).mono ?_; rintro e w' ⟨rfl, rfl⟩))
  all_goals go_end0
  all_goals exact ⟨rfl, _, rfl⟩
set_option linter.unusedSimpArgs false in
set_option maxRecDepth 100000 in
theorem combstep (i x c z bp p bs g n : Nat) (w : World) (hp : Held w bp (.func (.func 153) #[] #[.pointer (some ⟨p, 0, none⟩), .pointer (some ⟨p + 1, 0, none⟩)]) 195) (ht : Timing w p c) (hs : Held w bs (.slice (some ⟨g, 0, none⟩) n n) 43) (hz : Meets w g i n z) (hx : x < 256) (hz' : z < 256) (hc : c < 256) (_n1 : g ≠ bp) (_n2 : g ≠ bs) :
    Calls Tryz.prog 141 #[.int .i64 i, .int .u8 x, .pointer (some ⟨bs, 0, none⟩), .pointer (some ⟨bp, 0, none⟩)] w fun e w' => e = .returned (.tuple #[]) ∧ ∃ m, w' = (w.setCell ⟨g, i, none⟩ (.int .u8 ((z ^^^ mulN x c : Nat) : Int))).drewN m := by
  have c1 := hp.cell
  have c2 := hs.cell
  obtain ⟨c3, c4, hi⟩ := hz
  have e1 : (0 : Int) ≤ (i : Int) := Int.natCast_nonneg _
  have e2 : (i : Int) < (n : Int) := by omega
  rw [mul_comm' x c hx hc]
  have hq := mulN_lt (a := c) x hc
  obtain ⟨q, hq'⟩ : ∃ q, mulN c x = q := ⟨_, rfl⟩
  rw [hq'] at hq ⊢
  have HQ := Lib.hid hq'
  clear hq'
  obtain ⟨v, hv⟩ : ∃ v, z ^^^ q = v := ⟨_, rfl⟩
  rw [hv]
  have HV := Lib.hid hv
  clear hv
  have HT := Lib.hid ht
  clear hp hs ht
  go_enter Tryz.func141, Tryz.ntmps141
  refine wp_region_noPanic ?_
  refine wp_region_held_drew (S := fun w' => w'.cell? ⟨bp, 0, none⟩ = some (.func (.func 153) #[] #[.pointer (some ⟨p, 0, none⟩), .pointer (some ⟨p + 1, 0, none⟩)]) ∧ w'.cell? ⟨bs, 0, none⟩ = some (.slice (some ⟨g, 0, none⟩) n n) ∧ w'.frozen? ⟨g, i, none⟩ = false) (by kernel_rfl) (⟨c1, c2, c4⟩) (fun hHeld => ?_)
  refine wpAnyH_take (i := 0) (v := ?_) rfl (by kernel_rfl) (by kernel_rfl) (by kernel_rfl) (fun _ _ _ h => h) (Or.inl ⟨by rfl, ?_⟩) hHeld ?_
  rotate_left
  · intro wq hSw
    try dsimp only at hSw
    go_simp
    all_goals with_reducible rfl
  try simp only [Act.put, List.getElem_toArray, List.getElem_cons_succ, List.getElem_cons_zero, List.setIfInBounds_toArray, List.set_cons_zero, List.set_cons_succ]
  refine wpAnyH_take (i := 1) (v := ?_) rfl (by kernel_rfl) (by kernel_rfl) (by kernel_rfl) (fun _ _ _ h => h) (Or.inl ⟨by rfl, ?_⟩) hHeld ?_
  rotate_left
  · intro wq hSw
    try dsimp only at hSw
    go_simp
    all_goals with_reducible rfl
  try simp only [Act.put, List.getElem_toArray, List.getElem_cons_succ, List.getElem_cons_zero, List.setIfInBounds_toArray, List.set_cons_zero, List.set_cons_succ]
  refine wpAnyH_take (i := 2) (v := ?_) rfl (by kernel_rfl) (by kernel_rfl) (by kernel_rfl) (fun _ _ _ h => h) (Or.inl ⟨by rfl, ?_⟩) hHeld ?_
  rotate_left
  · intro wq hSw
    try dsimp only at hSw
    go_simp
    all_goals with_reducible rfl
  try simp only [Act.put, List.getElem_toArray, List.getElem_cons_succ, List.getElem_cons_zero, List.setIfInBounds_toArray, List.set_cons_zero, List.set_cons_succ]
  refine wpAnyH_take (i := 3) (v := ?_) rfl (by kernel_rfl) (by kernel_rfl) (by kernel_rfl) (fun _ _ _ h => h) (Or.inl ⟨by rfl, ?_⟩) hHeld ?_
  rotate_left
  · intro wq hSw
    try dsimp only at hSw
    go_simp
    all_goals with_reducible rfl
  try simp only [Act.put, List.getElem_toArray, List.getElem_cons_succ, List.getElem_cons_zero, List.setIfInBounds_toArray, List.set_cons_zero, List.set_cons_succ]
  refine wpAnyH_take (i := 4) (v := ?_) rfl (by kernel_rfl) (by kernel_rfl) (by kernel_rfl) (fun _ _ _ h => h) (Or.inl ⟨by rfl, ?_⟩) hHeld ?_
  rotate_left
  · intro wq hSw
    try dsimp only at hSw
    go_simp
    all_goals with_reducible rfl
  try simp only [Act.put, List.getElem_toArray, List.getElem_cons_succ, List.getElem_cons_zero, List.setIfInBounds_toArray, List.set_cons_zero, List.set_cons_succ]
  refine wpAnyH_take (i := 6) (v := ?_) rfl (by kernel_rfl) (by kernel_rfl) (by kernel_rfl) (fun _ _ _ h => h) (Or.inl ⟨by rfl, ?_⟩) hHeld ?_
  rotate_left
  · intro wq hSw
    try dsimp only at hSw
    go_simp
    all_goals with_reducible rfl
  try simp only [Act.put, List.getElem_toArray, List.getElem_cons_succ, List.getElem_cons_zero, List.setIfInBounds_toArray, List.set_cons_zero, List.set_cons_succ]
  refine wpAnyH_take (i := 7) (v := ?_) rfl (by kernel_rfl) (by kernel_rfl) (by kernel_rfl) (fun _ _ _ h => h) (Or.inl ⟨by rfl, ?_⟩) hHeld ?_
  rotate_left
  · intro wq hSw
    try dsimp only at hSw
    go_simp
    all_goals with_reducible rfl
  try simp only [Act.put, List.getElem_toArray, List.getElem_cons_succ, List.getElem_cons_zero, List.setIfInBounds_toArray, List.set_cons_zero, List.set_cons_succ]
  refine wpAnyH_ready (rs := [5, 8]) (by kernel_rfl) (by simp) ?_
  refine AllReadyH.cons rfl (fun K hK => ?_) (AllReadyH.cons rfl (fun K hK => ?_) AllReadyH.nil)
  · go_simp
    refine hK.out _ _ (⟨c1, c2, c4⟩) (fun hHeld => ?_)
    clear hK K
    try simp only [Act.put, List.getElem_toArray, List.getElem_cons_succ, List.getElem_cons_zero, List.setIfInBounds_toArray, List.set_cons_zero, List.set_cons_succ]
    refine wpAnyH_ready (rs := [8]) (by kernel_rfl) (by simp) ?_
    refine AllReadyH.cons rfl (fun K hK => ?_) AllReadyH.nil
    go_simp
    refine (product_any p c x _ HT.out.drew hc hx).mono ?_
    rw [HQ.out]
    rintro e w' ⟨rfl, m, rfl⟩
    refine hK.out _ _ (⟨c1, c2, c4⟩) (fun hHeld => ?_)
    clear hK K
    try simp only [Act.put, List.getElem_toArray, List.getElem_cons_succ, List.getElem_cons_zero, List.setIfInBounds_toArray, List.set_cons_zero, List.set_cons_succ]
    refine wpAnyH_ready (rs := [9]) (by kernel_rfl) (by simp) ?_
    refine AllReadyH.cons rfl (fun K hK => ?_) AllReadyH.nil
    go_simp
    refine (add_eq z q v hz' hq HV.out _).mono ?_
    rintro e w' ⟨rfl, rfl⟩
    refine hK.out _ _ (⟨c1, c2, c4⟩) (fun hHeld => ?_)
    clear hK K
    try simp only [Act.put, List.getElem_toArray, List.getElem_cons_succ, List.getElem_cons_zero, List.setIfInBounds_toArray, List.set_cons_zero, List.set_cons_succ]
    refine wpAnyH_take (i := 10) (v := ?_) rfl (by kernel_rfl) (by kernel_rfl) (by kernel_rfl) (fun _ _ _ h => h) (Or.inl ⟨by rfl, ?_⟩) hHeld ?_
    rotate_left
    · intro wq hSw
      try dsimp only at hSw
      go_simp
      all_goals with_reducible rfl
    try simp only [Act.put, List.getElem_toArray, List.getElem_cons_succ, List.getElem_cons_zero, List.setIfInBounds_toArray, List.set_cons_zero, List.set_cons_succ]
    refine wpAnyH_ready (rs := [11]) (by kernel_rfl) (by simp) ?_
    refine AllReadyH.cons rfl (fun K hK => ?_) AllReadyH.nil
    go_simp
    refine hK.out _ _ (⟨(World.cell?_setCell_far _ _ _ _ (by assumption)).trans c1, (World.cell?_setCell_far _ _ _ _ (by assumption)).trans c2, (World.frozen?_setCell _ _ _ _).trans c4⟩) (fun hHeld => ?_)
    clear hK K
    try simp only [Act.put, List.getElem_toArray, List.getElem_cons_succ, List.getElem_cons_zero, List.setIfInBounds_toArray, List.set_cons_zero, List.set_cons_succ]
    refine wpAnyH_done (by kernel_rfl) ?_ _
    refine NoPanic.normal ?_
    go_end0
    exact ⟨rfl, _, rfl⟩
  · go_simp
    refine (product_any p c x _ HT.out.drew hc hx).mono ?_
    rw [HQ.out]
    rintro e w' ⟨rfl, m, rfl⟩
    refine hK.out _ _ (⟨c1, c2, c4⟩) (fun hHeld => ?_)
    clear hK K
    try simp only [Act.put, List.getElem_toArray, List.getElem_cons_succ, List.getElem_cons_zero, List.setIfInBounds_toArray, List.set_cons_zero, List.set_cons_succ]
    refine wpAnyH_ready (rs := [5]) (by kernel_rfl) (by simp) ?_
    refine AllReadyH.cons rfl (fun K hK => ?_) AllReadyH.nil
    go_simp
    refine hK.out _ _ (⟨c1, c2, c4⟩) (fun hHeld => ?_)
    clear hK K
    try simp only [Act.put, List.getElem_toArray, List.getElem_cons_succ, List.getElem_cons_zero, List.setIfInBounds_toArray, List.set_cons_zero, List.set_cons_succ]
    refine wpAnyH_ready (rs := [9]) (by kernel_rfl) (by simp) ?_
    refine AllReadyH.cons rfl (fun K hK => ?_) AllReadyH.nil
    go_simp
    refine (add_eq z q v hz' hq HV.out _).mono ?_
    rintro e w' ⟨rfl, rfl⟩
    refine hK.out _ _ (⟨c1, c2, c4⟩) (fun hHeld => ?_)
    clear hK K
    try simp only [Act.put, List.getElem_toArray, List.getElem_cons_succ, List.getElem_cons_zero, List.setIfInBounds_toArray, List.set_cons_zero, List.set_cons_succ]
    refine wpAnyH_take (i := 10) (v := ?_) rfl (by kernel_rfl) (by kernel_rfl) (by kernel_rfl) (fun _ _ _ h => h) (Or.inl ⟨by rfl, ?_⟩) hHeld ?_
    rotate_left
    · intro wq hSw
      try dsimp only at hSw
      go_simp
      all_goals with_reducible rfl
    try simp only [Act.put, List.getElem_toArray, List.getElem_cons_succ, List.getElem_cons_zero, List.setIfInBounds_toArray, List.set_cons_zero, List.set_cons_succ]
    refine wpAnyH_ready (rs := [11]) (by kernel_rfl) (by simp) ?_
    refine AllReadyH.cons rfl (fun K hK => ?_) AllReadyH.nil
    go_simp
    refine hK.out _ _ (⟨(World.cell?_setCell_far _ _ _ _ (by assumption)).trans c1, (World.cell?_setCell_far _ _ _ _ (by assumption)).trans c2, (World.frozen?_setCell _ _ _ _).trans c4⟩) (fun hHeld => ?_)
    clear hK K
    try simp only [Act.put, List.getElem_toArray, List.getElem_cons_succ, List.getElem_cons_zero, List.setIfInBounds_toArray, List.set_cons_zero, List.set_cons_succ]
    refine wpAnyH_done (by kernel_rfl) ?_ _
    refine NoPanic.normal ?_
    go_end0
    exact ⟨rfl, _, rfl⟩
end Go.Proofs.YtgelalbmhllccaaGreat
/- Contracts of the landed vector code: times. -/
namespace Go.Proofs.YtgelalbmhllccaaGreat
open Go.RowKit
set_option linter.unusedVariables false
set_option linter.unusedSimpArgs false

/-- Both tables, filled below m. -/
structure Filled (w wr : World) (b c m : Nat) : Prop where
  low : ∀ j, j < 16 → wr.cell? ⟨b, j, none⟩ = some (.int .u8 ((if j < m then mulN c j else 0 : Nat) : Int)) ∧ wr.frozen? ⟨b, j, none⟩ = false
  up : ∀ j, j < 16 → wr.cell? ⟨b + 1, j, none⟩ = some (.int .u8 ((if j < m then mulN c (16 * j) else 0 : Nat) : Int)) ∧ wr.frozen? ⟨b + 1, j, none⟩ = false
  keep : Keep w wr
  new : w.heap.size ≤ b
  lt : b + 1 < wr.heap.size
theorem Filled.setLow {w wr : World} {b c m : Nat} (h : Filled w wr b c m) (v : Nat) (hm : m < 16) (hv : mulN c m = v) :
    (∀ j, j < 16 → (wr.setCell ⟨b, m, none⟩ (.int .u8 (v : Int))).cell? ⟨b, j, none⟩ = some (.int .u8 ((if j < m + 1 then mulN c j else 0 : Nat) : Int)) ∧ (wr.setCell ⟨b, m, none⟩ (.int .u8 (v : Int))).frozen? ⟨b, j, none⟩ = false) ∧
    (∀ j, j < 16 → (wr.setCell ⟨b, m, none⟩ (.int .u8 (v : Int))).cell? ⟨b + 1, j, none⟩ = some (.int .u8 ((if j < m then mulN c (16 * j) else 0 : Nat) : Int)) ∧ (wr.setCell ⟨b, m, none⟩ (.int .u8 (v : Int))).frozen? ⟨b + 1, j, none⟩ = false) := by
  refine ⟨fun j hj => ⟨?_, (World.frozen?_setCell _ _ _ _).trans (h.low j hj).2⟩, fun j hj => ⟨(World.cell?_setCell_far _ _ _ _ (by simp)).trans (h.up j hj).1, (World.frozen?_setCell _ _ _ _).trans (h.up j hj).2⟩⟩
  by_cases e : j = m
  · subst e
    rw [World.cell?_setCell_same _ _ _ (h.low j hj).1, if_pos (by omega), hv]
  · rw [World.cell?_setCell_other _ _ _ _ (fun h => e (by injection h with _ h2; exact h2.symm)), (h.low j hj).1]
    by_cases h1 : j < m
    · rw [if_pos h1, if_pos (by omega)]
    · rw [if_neg h1, if_neg (by omega)]
theorem Filled.setUp {w wr : World} {b c m : Nat} (h1 : ∀ j, j < 16 → wr.cell? ⟨b, j, none⟩ = some (.int .u8 ((if j < m + 1 then mulN c j else 0 : Nat) : Int)) ∧ wr.frozen? ⟨b, j, none⟩ = false)
    (h2 : ∀ j, j < 16 → wr.cell? ⟨b + 1, j, none⟩ = some (.int .u8 ((if j < m then mulN c (16 * j) else 0 : Nat) : Int)) ∧ wr.frozen? ⟨b + 1, j, none⟩ = false) (hk : Keep w wr) (hb : w.heap.size ≤ b) (hl : b + 1 < wr.heap.size)
    (v : Nat) (hm : m < 16) (hv : mulN c (16 * m) = v) : Filled w (wr.setCell ⟨b + 1, m, none⟩ (.int .u8 (v : Int))) b c (m + 1) := by
  refine ⟨fun j hj => ⟨(World.cell?_setCell_far _ _ _ _ (by simp)).trans (h1 j hj).1, (World.frozen?_setCell _ _ _ _).trans (h1 j hj).2⟩, fun j hj => ⟨?_, (World.frozen?_setCell _ _ _ _).trans (h2 j hj).2⟩, hk.setCell (by show _ ≤ b + 1; omega) _, hb, by simpa [World.setCell] using hl⟩
  by_cases e : j = m
  · subst e
    rw [World.cell?_setCell_same _ _ _ (h2 j hj).1, if_pos (by omega), hv]
  · rw [World.cell?_setCell_other _ _ _ _ (fun h => e (by injection h with _ h2; exact h2.symm)), (h2 j hj).1]
    by_cases h1 : j < m
    · rw [if_pos h1, if_pos (by omega)]
    · rw [if_neg h1, if_neg (by omega)]
theorem zero_cells (j : Nat) (hj : j < 16) : (#[Value.int .u8 0, .int .u8 0, .int .u8 0, .int .u8 0, .int .u8 0, .int .u8 0, .int .u8 0, .int .u8 0, .int .u8 0, .int .u8 0, .int .u8 0, .int .u8 0, .int .u8 0, .int .u8 0, .int .u8 0, .int .u8 0] : Array Value)[j]? = some (.int .u8 0) := by
  rcases j with _ | _ | _ | _ | _ | _ | _ | _ | _ | _ | _ | _ | _ | _ | _ | _ | j <;> first | rfl | omega
theorem Filled.start (w : World) (c : Nat) : Filled w ((w.alloc (.cells #[.int .u8 0, .int .u8 0, .int .u8 0, .int .u8 0, .int .u8 0, .int .u8 0, .int .u8 0, .int .u8 0, .int .u8 0, .int .u8 0, .int .u8 0, .int .u8 0, .int .u8 0, .int .u8 0, .int .u8 0, .int .u8 0] 216)).alloc
    (.cells #[.int .u8 0, .int .u8 0, .int .u8 0, .int .u8 0, .int .u8 0, .int .u8 0, .int .u8 0, .int .u8 0, .int .u8 0, .int .u8 0, .int .u8 0, .int .u8 0, .int .u8 0, .int .u8 0, .int .u8 0, .int .u8 0] 216)) w.heap.size c 1 := by
  have z : ∀ (a j : Nat), mulN c (a * j) * 0 = 0 := fun _ _ => Nat.mul_zero _
  refine ⟨fun j hj => ⟨?_, ?_⟩, fun j hj => ⟨?_, ?_⟩, ((Keep.refl w).alloc _ _).alloc _ _, Nat.le_refl _, by simp⟩
  · rw [World.cell?_alloc_past _ _ _ (by simp), World.cell?_alloc_at _ _ _ _ rfl, zero_cells j hj]
    by_cases e : j < 1
    · obtain rfl : j = 0 := by omega
      rw [if_pos e, mul_zero_right]; rfl
    · rw [if_neg e]; rfl
  · rw [World.frozen?_alloc_past _ _ _ (by simp)]; exact World.frozen?_alloc_at _ _ _ _ rfl
  · rw [World.cell?_alloc_at _ _ _ _ (by simp), zero_cells j hj]
    by_cases e : j < 1
    · obtain rfl : j = 0 := by omega
      rw [if_pos e, mul_zero_right]; rfl
    · rw [if_neg e]; rfl
  · exact World.frozen?_alloc_at _ _ _ _ (by simp)
theorem Filled.timing {w wr : World} {b c m : Nat} (h : Filled w wr b c m) (hm : 16 ≤ m) : Timing wr b c :=
  ⟨h.lt, fun i hi => ⟨by rw [(h.low i hi).1, if_pos (by omega)], by rw [(h.up i hi).1, if_pos (by omega)]⟩⟩
set_option maxRecDepth 100000 in
set_option maxHeartbeats 2000000 in
theorem times_at (c B : Nat) (w : World) (hc : c < 256) (hB : w.heap.size = B) :
    Calls Tryz.prog 127 #[.int .u8 c] w fun e w' => e = .returned (.func (.func 153) #[] #[.pointer (some ⟨B, 0, none⟩), .pointer (some ⟨B + 1, 0, none⟩)]) ∧ Timing w' B c ∧ Keep w w' := by
  have f0 := Filled.start w c
  rw [hB] at f0
  go_enter Tryz.func127, Tryz.ntmps127
  go_wp2_with fail
  clear hB
  go_loopw [10] (fun i wr => ∃ k : Nat, k ≤ 4 ∧ i = .int .i64 k ∧ Filled w wr B c (2 ^ k)) (fun i _ => 4 - (intOf i).toNat)
  case atStart => exact ⟨0, by omega, rfl, f0⟩
  case round =>
    clear f0
    obtain ⟨k, hk, rfl, hf⟩ := hrel
    by_cases hlt : k < 4
    · have hm2 : 2 ^ (k + 1) = 2 ^ k + 2 ^ k := by rw [Nat.pow_succ]; omega
      have hm8 : 1 ≤ 2 ^ k ∧ 2 ^ k ≤ 8 := by
        rcases k with _ | _ | _ | _ | k <;> first | decide | omega
      have hxor : ∀ j, j < 2 ^ k → j ^^^ 2 ^ k = j + 2 ^ k ∧ (16 * j) ^^^ (16 * 2 ^ k) = 16 * (j + 2 ^ k) := by
        rcases k with _ | _ | _ | _ | k <;> first | decide | omega
      have ew : wrap64 ((2 : Int) ^ k) = ((2 ^ k : Nat) : Int) := by
        have e : (2 : Int) ^ k = ((2 ^ k : Nat) : Int) := by simp
        rw [e, IntWalk.wrap64_in _ (by omega)]
      generalize 2 ^ k = m at *
      have em : (m : Int) % 256 = (m : Int) := by omega
      have HF := Lib.hid hf
      have HX := Lib.hid hxor
      obtain ⟨p, hp⟩ : ∃ p, mulN c m = p := ⟨_, rfl⟩
      obtain ⟨q, hq⟩ : ∃ q, mulN c (16 * m) = q := ⟨_, rfl⟩
      have hp2 : p < 256 := by rw [← hp]; exact mulN_lt _ hc
      have hq2 : q < 256 := by rw [← hq]; exact mulN_lt _ hc
      have HP := Lib.hid hp
      have HQ := Lib.hid hq
      clear hf hxor hp hq
      go_wp2_with fail
      refine (mul_eq c m p hc (by omega) HP.out _).mono ?_
      rintro e w1 ⟨rfl, rfl⟩
      go_wp2_with fail
      rw [show (m : Int) * 16 = ((16 * m : Nat) : Int) by omega]
      refine (mul_eq c (16 * m) q hc (by omega) HQ.out _).mono ?_
      rintro e w1 ⟨rfl, rfl⟩
      go_wp2_with fail
      go_loopw [25] (fun i w2 => ∃ r : Nat, r ≤ m ∧ i = .int .i64 r ∧ Filled w w2 B c (m + r)) (fun i _ => m - (intOf i).toNat)
      case atStart => exact ⟨0, by omega, rfl, HF.out⟩
      case round =>
        obtain ⟨r, hr, rfl, hf⟩ := hrel
        by_cases hrt : r < m
        · obtain ⟨l1, l2⟩ := hf.low r (by omega)
          obtain ⟨l3, l4⟩ := hf.low (m + r) (by omega)
          obtain ⟨x1, x2⟩ := HX.out r hrt
          rw [if_pos (show r < m + r by omega)] at l1
          rw [if_neg (show ¬ m + r < m + r by omega)] at l3
          obtain ⟨a, ha⟩ : ∃ a, mulN c r = a := ⟨_, rfl⟩
          obtain ⟨v, hv⟩ : ∃ v, a ^^^ p = v := ⟨_, rfl⟩
          obtain ⟨a', ha'⟩ : ∃ a, mulN c (16 * r) = a := ⟨_, rfl⟩
          obtain ⟨v', hv'⟩ : ∃ v, a' ^^^ q = v := ⟨_, rfl⟩
          have a1 : a < 256 := by rw [← ha]; exact mulN_lt _ hc
          have a2 : a' < 256 := by rw [← ha']; exact mulN_lt _ hc
          have s1 : mulN c (m + r) = v := by rw [← hv, ← ha, ← HP.out, ← mul_xor_right c r m hc (by omega) (by omega), x1, Nat.add_comm]
          have s2 : mulN c (16 * (m + r)) = v' := by rw [← hv', ← ha', ← HQ.out, ← mul_xor_right c (16 * r) (16 * m) hc (by omega) (by omega), x2, Nat.add_comm m r]
          rw [ha] at l1
          have HV := Lib.hid hv
          have HV' := Lib.hid hv'
          obtain ⟨g1, g2⟩ := hf.setLow v (by omega) s1
          obtain ⟨u1, u2⟩ := hf.up r (by omega)
          obtain ⟨u3, u4⟩ := hf.up (m + r) (by omega)
          rw [if_pos (show r < m + r by omega), ha'] at u1
          rw [if_neg (show ¬ m + r < m + r by omega)] at u3
          have HL := Lib.hid (And.intro hp2 hq2)
          have HN := Lib.hid (Filled.setUp (w := w) g1 g2 (hf.keep.setCell hf.new _) hf.new (by simpa [World.setCell] using hf.lt) v' (by omega) s2)
          clear g1 g2 hf s1 s2 hv hv' ha ha' x1 x2
          obtain ⟨t, ht⟩ : ∃ t, m + r = t := ⟨_, rfl⟩
          rw [ht] at l3 l4 u3 u4 HN
          have i1 : (0 : Int) ≤ (r : Int) := Int.natCast_nonneg _
          have i2 : (r : Int) < 16 := by omega
          have i3 : (m : Int) + (r : Int) = (t : Int) := by omega
          have i4 : (0 : Int) ≤ (t : Int) := Int.natCast_nonneg _
          have i5 : (t : Int) < 16 := by omega
          have HT := Lib.hid ht
          clear hm2 hp2 hq2 ht
          go_wp2_with fail
          refine (add_eq a p v a1 HL.out.1 HV.out _).mono ?_
          rintro e w1 ⟨rfl, rfl⟩
          go_wp2_with fail
          refine (add_eq a' q v' a2 HL.out.2 HV'.out _).mono ?_
          rintro e w1 ⟨rfl, rfl⟩
          go_wp2_with fail
          go_round
          case rel => exact ⟨r + 1, by omega, by go_num, by rw [← Nat.add_assoc, HT.out]; exact HN.out⟩
          case measure => simp [intOf]; omega
        · obtain rfl : r = m := by omega
          have HN : Hid (Filled w wr B c (2 ^ (k + 1))) := by show Filled _ _ _ _ _; rw [hm2]; exact hf
          clear hf
          go_wp2_with fail
          go_round
          case rel => exact ⟨k + 1, by omega, by go_num, HN.out⟩
          case measure => simp [intOf]; omega
    · obtain rfl : k = 4 := by omega
      have ht := hf.timing (by decide)
      have hk := hf.keep
      go_wp2_with fail
      go_ret
      exact ⟨rfl, ht, hk⟩

end Go.Proofs.YtgelalbmhllccaaGreat
/- Contracts of the landed vector code: sums. -/
namespace Go.Proofs.YtgelalbmhllccaaGreat
open Go.RowKit
set_option linter.unusedVariables false
set_option linter.unusedSimpArgs false

def upto (n : Nat) (f z : Nat → Nat) (i : Nat) : List Nat := tab n fun j => if j < i then f j else z j
theorem upto_zero (n : Nat) (f z : Nat → Nat) : upto n f z 0 = tab n z := tab_congr fun j _ => by rw [if_neg (by omega)]
theorem upto_all (n : Nat) (f z : Nat → Nat) : upto n f z n = tab n f := tab_congr fun j hj => by rw [if_pos hj]
theorem upto_getD (n : Nat) (f z : Nat → Nat) (i : Nat) (hi : i < n) : (upto n f z i).getD i 0 = z i := by
  rw [upto, tab_getD, if_pos hi, if_neg (by omega)]
theorem upto_set (n : Nat) (f z : Nat → Nat) (i : Nat) (_hi : i < n) : (upto n f z i).set i (f i) = upto n f z (i + 1) := by
  refine list_ext (by simp [upto, tab_length]) fun j hj => ?_
  rw [List.length_set, upto, tab_length] at hj
  have e2 : (upto n f z (i + 1)).getD j 0 = if j < i + 1 then f j else z j := by rw [upto, tab_getD, if_pos hj]
  rw [e2, List.getD_eq_getElem?_getD, List.getElem?_set]
  by_cases e : i = j
  · subst e
    rw [if_pos rfl, if_pos (by simp [upto, tab_length]; omega), if_pos (by omega)]; rfl
  · rw [if_neg e, ← List.getD_eq_getElem?_getD, upto, tab_getD, if_pos hj]
    by_cases h1 : j < i
    · rw [if_pos h1, if_pos (by omega)]
    · rw [if_neg h1, if_neg (by omega)]
theorem tab_zeros (n : Nat) : tab n (fun _ => 0) = List.replicate n 0 := list_ext (by simp [tab_length]) fun i hi => by
  rw [tab_length] at hi
  rw [tab_getD, if_pos hi, List.getD_eq_getElem?_getD, List.getElem?_replicate, if_pos hi]; rfl
/-- What is being filled. -/
structure Work (w wr : World) (g n bs : Nat) (l : List Nat) : Prop where
  own : Own wr w.heap.size 5 (some ⟨g, 0, none⟩) n n l
  held : Held wr bs (.slice (some ⟨g, 0, none⟩) n n) 43
  keep : Keep w wr
  ne : g ≠ bs
  new : w.heap.size ≤ g
theorem Held.step {w : World} {b g i m : Nat} {v u : Value} {t : TypeId} (h : Held w b v t) (hn : g ≠ b) : Held ((w.setCell ⟨g, i, none⟩ u).drewN m) b v t := by
  show (w.setCell ⟨g, i, none⟩ u).heap[b]? = _
  rw [Below.heap_setCell _ _ _ _ (fun e => hn e.symm)]
  exact h
theorem Work.step {w wr : World} {g n bs i v m : Nat} {l : List Nat} (h : Work w wr g n bs l) (hv : v < 256) : Work w ((wr.setCell ⟨g, i, none⟩ (.int .u8 (v : Int))).drewN m) g n bs (l.set i v) :=
  ⟨⟨(h.own.stored hv).1, (h.own.stored (i := i) hv).2⟩, h.held.step h.ne, (h.keep.setCell h.new _).drewN m, h.ne, h.new⟩
theorem Work.meets {w wr : World} {g n bs i : Nat} {f z : Nat → Nat} (h : Work w wr g n bs (upto n f z i)) (hi : i < n) : Meets wr g i n (z i) :=
  ⟨by rw [h.own.cell hi, upto_getD n f z i hi], h.own.frozen i, hi⟩
theorem Timing.setCell {w : World} {p c g i : Nat} {u : Value} (h : Timing w p c) (h1 : g ≠ p) (h2 : g ≠ p + 1) : Timing (w.setCell ⟨g, i, none⟩ u) p c :=
  ⟨by simpa [World.setCell] using h.1, fun j hj => ⟨(World.cell?_setCell_far _ _ _ _ h1).trans (h.2 j hj).1, (World.cell?_setCell_far _ _ _ _ h2).trans (h.2 j hj).2⟩⟩
theorem Timing.alloc {w : World} {p c : Nat} (h : Timing w p c) (o : Obj) : Timing (w.alloc o) p c :=
  ⟨by have := h.1; simp; omega, fun j hj => ⟨(World.cell?_alloc_past _ _ _ (by have := h.1; show p < _; omega)).trans (h.2 j hj).1, (World.cell?_alloc_past _ _ _ h.1).trans (h.2 j hj).2⟩⟩
theorem Work.start {w w1 : World} {g n : Nat} (hg : w1.heap.size = g) (hk : Keep w w1) (hn : n ≤ 140737488355328) :
    Work w ((w1.alloc (.cells (madeCells #[.int .u8 0] n) 5)).alloc (.cells #[.slice (some ⟨g, 0, none⟩) n n] 43)) g n (g + 1) (List.replicate n 0) := by
  subst hg
  refine ⟨((Own.made w1 5 n hn).lower hk.size).alloc _, ?_, (hk.alloc _ _).alloc _ _, by omega, hk.size⟩
  have h := heap_alloc_new (w1.alloc (.cells (madeCells #[.int .u8 0] n) 5)) (.cells #[.slice (some ⟨w1.heap.size, 0, none⟩) n n] 43)
  rwa [show (w1.alloc (.cells (madeCells #[.int .u8 0] n) 5)).heap.size = w1.heap.size + 1 by simp] at h
theorem Held.new {w : World} {b : Nat} (hb : w.heap.size = b) (v : Value) (t : TypeId) : Held (w.alloc (.cells #[v] t)) b v t := by
  subst hb; exact heap_alloc_new w _
theorem Held.alloc {w : World} {b : Nat} {v : Value} {t : TypeId} (h : Held w b v t) (o : Obj) : Held (w.alloc o) b v t := by
  have hlt := lt_of_block h
  show (w.heap.push o)[b]? = _
  rw [Array.getElem?_push_lt hlt, ← Array.getElem?_eq_getElem hlt]
  exact h
theorem Held.keep {w w' : World} {b : Nat} {v : Value} {t : TypeId} (h : Held w b v t) (k : Keep w w') : Held w' b v t := by
  show w'.heap[b]? = _
  rw [k.block b (lt_of_block h)]; exact h
section
variable {w w3 : World} {B B' n ca cb bb bp p bs g c : Nat} {A A' : Option Addr} {xs ys : List Nat}
theorem scale_each (hW : Work w w3 g n bs (List.replicate n 0)) (hp : Held w3 bp (.func (.func 153) #[] #[.pointer (some ⟨p, 0, none⟩), .pointer (some ⟨p + 1, 0, none⟩)]) 195) (ht : Timing w3 p c) (hg : g ≠ bp) (hgp : g ≠ p) (hgp' : g ≠ p + 1) (h : Bytes w B A n xs) (hB : B ≤ w.heap.size) (hn : n ≤ 140737488351232) (hc : c < 256) :
    Calls Tryz.prog 128 #[.slice A n ca, .func (.func 129) #[] #[.pointer (some ⟨bp, 0, none⟩), .pointer (some ⟨bs, 0, none⟩)]] w3 fun e w' => e = .returned (.tuple #[]) ∧ Work w w' g n bs (vScale n xs c) := by
  rw [← upto_zero n (fun j => mulN (xs.getD j 0) c) (fun _ => 0) |>.trans (tab_zeros n)] at hW
  refine (each_any (fun i wr => Work w wr g n bs (upto n (fun j => mulN (xs.getD j 0) c) (fun _ => 0) i) ∧ Held wr bp (.func (.func 153) #[] #[.pointer (some ⟨p, 0, none⟩), .pointer (some ⟨p + 1, 0, none⟩)]) 195 ∧ Timing wr p c) 129 _ B n ca A xs w3 hn (enters_at Tryz.func129 (by kernel_rfl) rfl)
    (fun i wr _ hr => h.keep hB hr.1.keep) ⟨hW, hp, ht⟩ (fun i wr hi hr => ?_)).mono fun e w' he => ⟨he.1, by have := he.2.1; rwa [upto_all] at this⟩
  refine (scalestep i (xs.getD i 0) c 0 bp p bs g n wr hr.2.1 hr.2.2 hr.1.held (hr.1.meets hi) (h.all.getD i) hc hg hr.1.ne).mono ?_
  rintro e w' ⟨he, m, rfl⟩
  refine ⟨he, ?_, hr.2.1.step hg, (hr.2.2.setCell hgp hgp').drewN m⟩
  rw [← upto_set n _ _ i hi]
  exact hr.1.step (mulN_lt _ (h.all.getD i))
theorem adds_each (hW : Work w w3 g n bs (List.replicate n 0)) (hp : Held w3 bp (.func (.func 153) #[] #[.pointer (some ⟨p, 0, none⟩), .pointer (some ⟨p + 1, 0, none⟩)]) 195) (ht : Timing w3 p c) (hb : Held w3 bb (.slice A' n cb) 43) (hg : g ≠ bp) (hgp : g ≠ p) (hgp' : g ≠ p + 1) (hgb : g ≠ bb) (h : Bytes w B A n xs) (h' : Bytes w B' A' n ys) (hB : B ≤ w.heap.size) (hB' : B' ≤ w.heap.size) (hn : n ≤ 140737488351232) (hc : c < 256) :
    Calls Tryz.prog 128 #[.slice A n ca, .func (.func 157) #[] #[.pointer (some ⟨bp, 0, none⟩), .pointer (some ⟨bb, 0, none⟩), .pointer (some ⟨bs, 0, none⟩)]] w3 fun e w' => e = .returned (.tuple #[]) ∧ Work w w' g n bs (vAddS n xs ys c) := by
  rw [← upto_zero n (fun j => xs.getD j 0 ^^^ mulN (ys.getD j 0) c) (fun _ => 0) |>.trans (tab_zeros n)] at hW
  refine (each_any (fun i wr => Work w wr g n bs (upto n (fun j => xs.getD j 0 ^^^ mulN (ys.getD j 0) c) (fun _ => 0) i) ∧ Held wr bp (.func (.func 153) #[] #[.pointer (some ⟨p, 0, none⟩), .pointer (some ⟨p + 1, 0, none⟩)]) 195 ∧ Timing wr p c ∧ Held wr bb (.slice A' n cb) 43) 157 _ B n ca A xs w3 hn (enters_at Tryz.func157 (by kernel_rfl) rfl)
    (fun i wr _ hr => h.keep hB hr.1.keep) ⟨hW, hp, ht, hb⟩ (fun i wr hi hr => ?_)).mono fun e w' he => ⟨he.1, by have := he.2.1; rwa [upto_all] at this⟩
  obtain ⟨b2, o2, rfl, h2, hcy⟩ := (h'.keep hB' hr.1.keep).at_ hi
  refine (addsstep i (xs.getD i 0) (ys.getD i 0) c 0 bp p bb bs g n cb b2 o2 wr hr.2.1 hr.2.2.1 hr.2.2.2 hr.1.held hcy (hr.1.meets hi) (h.all.getD i) (h'.all.getD i) hc hg hgb hr.1.ne (by have := hr.1.new; omega)).mono ?_
  rintro e w' ⟨he, m, rfl⟩
  refine ⟨he, ?_, hr.2.1.step hg, (hr.2.2.1.setCell hgp hgp').drewN m, hr.2.2.2.step hgb⟩
  rw [← upto_set n _ _ i hi]
  exact hr.1.step (xor_lt (h.all.getD i) (mulN_lt _ (h'.all.getD i)))
theorem comb_each {l : List Nat} (hl : l.length = n) (hlb : AllB l) (hW : Work w w3 g n bs l) (hp : Held w3 bp (.func (.func 153) #[] #[.pointer (some ⟨p, 0, none⟩), .pointer (some ⟨p + 1, 0, none⟩)]) 195) (ht : Timing w3 p c) (hg : g ≠ bp) (hgp : g ≠ p) (hgp' : g ≠ p + 1) (h : Bytes w B A n xs) (hB : B ≤ w.heap.size) (hn : n ≤ 140737488351232) (hc : c < 256) :
    Calls Tryz.prog 128 #[.slice A n ca, .func (.func 141) #[] #[.pointer (some ⟨bs, 0, none⟩), .pointer (some ⟨bp, 0, none⟩)]] w3 fun e w' => e = .returned (.tuple #[]) ∧ Work w w' g n bs (vAddS n l xs c) := by
  have e0 : tab n (fun j => l.getD j 0) = l := by subst hl; exact tab_self l
  rw [← upto_zero n (fun j => l.getD j 0 ^^^ mulN (xs.getD j 0) c) (fun j => l.getD j 0) |>.trans e0] at hW
  refine (each_any (fun i wr => Work w wr g n bs (upto n (fun j => l.getD j 0 ^^^ mulN (xs.getD j 0) c) (fun j => l.getD j 0) i) ∧ Held wr bp (.func (.func 153) #[] #[.pointer (some ⟨p, 0, none⟩), .pointer (some ⟨p + 1, 0, none⟩)]) 195 ∧ Timing wr p c) 141 _ B n ca A xs w3 hn (enters_at Tryz.func141 (by kernel_rfl) rfl)
    (fun i wr _ hr => h.keep hB hr.1.keep) ⟨hW, hp, ht⟩ (fun i wr hi hr => ?_)).mono fun e w' he => ⟨he.1, by have := he.2.1; rwa [upto_all] at this⟩
  refine (combstep i (xs.getD i 0) c (l.getD i 0) bp p bs g n wr hr.2.1 hr.2.2 hr.1.held (hr.1.meets hi) (h.all.getD i) (hlb.getD i) hc hg hr.1.ne).mono ?_
  rintro e w' ⟨he, m, rfl⟩
  refine ⟨he, ?_, hr.2.1.step hg, (hr.2.2.setCell hgp hgp').drewN m⟩
  rw [← upto_set n _ _ i hi]
  exact hr.1.step (xor_lt (hlb.getD i) (mulN_lt _ (h.all.getD i)))
end
end Go.Proofs.YtgelalbmhllccaaGreat
/- Contracts of the landed vector code: multiples, leads, units. -/
namespace Go.Proofs.YtgelalbmhllccaaGreat
open Go.RowKit
set_option linter.unusedVariables false
set_option linter.unusedSimpArgs false

theorem Work.later {w wr w' : World} {g n bs : Nat} {l : List Nat} (h : Work w wr g n bs l) (k : Keep wr w') : Work w w' g n bs l :=
  ⟨h.own.keep k, h.held.keep k, h.keep.trans k, h.ne, h.new⟩
theorem Timing.later {w w' : World} {p c : Nat} (h : Timing w p c) (k : Keep w w') : Timing w' p c :=
  ⟨Nat.lt_of_lt_of_le h.1 k.size, fun j hj => ⟨(k.cell (p := ⟨p, j, none⟩) (show p < _ by have := h.1; omega)).trans (h.2 j hj).1, (k.cell (p := ⟨p + 1, j, none⟩) h.1).trans (h.2 j hj).2⟩⟩
set_option maxRecDepth 100000 in
theorem vscale_any (B n ca c : Nat) (A : Option Addr) (xs : List Nat) (w : World) (h : Bytes w B A n xs) (hB : B ≤ w.heap.size) (hn : n ≤ 140737488351232) (hc : c < 256) :
    Calls Tryz.prog 79 #[.slice A n ca, .int .u8 c] w (NewBytes w (vScale n xs c)) := by
  have hmk := run_make_bytes (P := Tryz.prog) Tryz.underlying43 info5 n (by omega)
  have HH := Lib.hid h
  clear h
  obtain ⟨g, hg⟩ : ∃ g, w.heap.size = g := ⟨_, rfl⟩
  have HW := Lib.hid (Work.start (n := n) (g := g) hg (Keep.refl w) (by omega))
  have HG := Lib.hid hg
  go_enter Tryz.func79, Tryz.ntmps79
  go_wp2_with fail
  refine (times_at c (g + 1 + 1) _ hc (by simp [hg])).mono ?_
  rintro e w5 ⟨rfl, ht, hk⟩
  have HK := Lib.hid hk
  have HT := Lib.hid ht
  clear ht hk hmk
  obtain ⟨p, hp⟩ : ∃ p, g + 1 + 1 = p := ⟨_, rfl⟩
  obtain ⟨bs, hbs⟩ : ∃ bs, g + 1 = bs := ⟨_, rfl⟩
  rw [hp, hbs]
  rw [hbs] at HW
  rw [hp] at HT
  have HP := Lib.hid hp
  clear hg hp
  go_wp2_with fail
  have hpc : Held (w5.alloc (.cells #[.func (.func 153) #[] #[.pointer (some ⟨p, 0, none⟩), .pointer (some ⟨p + 1, 0, none⟩)]] 195)) w5.heap.size _ 195 := Held.new rfl _ 195
  have h5 : g + 1 + 1 ≤ w5.heap.size := by have := HK.out.size; simp at this; have := HG.out; omega
  refine (scale_each (HW.out.later ((HK.out).alloc _ _)) hpc (HT.out.alloc _) (by omega) (by have := HP.out; omega) (by have := HP.out; omega) HH.out hB hn hc).mono ?_
  rintro e w6 ⟨rfl, hW⟩
  have c1 := hW.held.cell
  have HW6 := Lib.hid hW
  clear hW hpc
  go_wp2_with fail
  go_ret
  exact ⟨_, n, n, rfl, HW6.out.own, HW6.out.keep⟩
set_option maxRecDepth 100000 in
theorem vaddS_any (B B' n ca cb c : Nat) (A A' : Option Addr) (xs ys : List Nat) (w : World) (h : Bytes w B A n xs) (h' : Bytes w B' A' n ys) (hB : B ≤ w.heap.size) (hB' : B' ≤ w.heap.size) (hn : n ≤ 140737488351232) (hc : c < 256) :
    Calls Tryz.prog 149 #[.slice A n ca, .slice A' n cb, .int .u8 c] w (NewPair w (vAddS n xs ys c) 0) := by
  have b0 : ((n : Int) != (n : Int)) = false := by simp
  have hmk := run_make_bytes (P := Tryz.prog) Tryz.underlying43 info5 n (by omega)
  have HH := Lib.hid h
  have HH' := Lib.hid h'
  clear h h'
  obtain ⟨bb, hbb⟩ : ∃ bb, w.heap.size = bb := ⟨_, rfl⟩
  have HW := Lib.hid (Work.start (n := n) (g := bb + 1) (by simp [hbb]) ((Keep.refl w).alloc #[Value.slice A' n cb] 43) (by omega))
  have HBB := Lib.hid (((Held.new hbb (.slice A' n cb) 43).alloc (.cells (madeCells #[.int .u8 0] n) 5)).alloc (.cells #[.slice (some ⟨bb + 1, 0, none⟩) n n] 43))
  have HG := Lib.hid hbb
  go_enter Tryz.func149, Tryz.ntmps149
  go_wp2_with fail
  refine (times_at c (bb + 1 + 1 + 1) _ hc (by simp [hbb])).mono ?_
  rintro e w5 ⟨rfl, ht, hk⟩
  have HK := Lib.hid hk
  have HT := Lib.hid ht
  clear ht hk hmk
  obtain ⟨g, hg⟩ : ∃ g, bb + 1 = g := ⟨_, rfl⟩
  obtain ⟨bs, hbs⟩ : ∃ bs, g + 1 = bs := ⟨_, rfl⟩
  obtain ⟨p, hp⟩ : ∃ p, bs + 1 = p := ⟨_, rfl⟩
  rw [hg, hbs, hp]
  rw [hg, hbs] at HW
  rw [hg] at HBB HK
  rw [hg, hbs, hp] at HT
  have HP := Lib.hid (And.intro hg (And.intro hbs hp))
  clear hg hp hbs hbb
  go_wp2_with fail
  have hpc : Held (w5.alloc (.cells #[.func (.func 153) #[] #[.pointer (some ⟨p, 0, none⟩), .pointer (some ⟨p + 1, 0, none⟩)]] 195)) w5.heap.size _ 195 := Held.new rfl _ 195
  have h5 : bs + 1 ≤ w5.heap.size := by have := HK.out.size; simp at this; have := HG.out; have := HP.out; omega
  refine (adds_each (HW.out.later ((HK.out).alloc _ _)) hpc (HT.out.alloc _) ((HBB.out.keep HK.out).alloc _) (by have := HP.out; omega) (by have := HP.out; omega) (by have := HP.out; omega) (by have := HP.out; omega) HH.out HH'.out hB hB' hn hc).mono ?_
  rintro e w6 ⟨rfl, hW⟩
  have c1 := hW.held.cell
  have HW6 := Lib.hid hW
  clear hW hpc
  go_wp2_with fail
  go_ret2
  exact ⟨_, n, n, rfl, HW6.out.own, HW6.out.keep⟩
theorem Held.set {w : World} {b : Nat} {v u : Value} {t : TypeId} (h : Held w b v t) (m : Nat) : Held ((w.setCell ⟨b, 0, none⟩ u).drewN m) b u t := one_setCell h
theorem nonzero_any (x : Nat) (b : Bool) (hb : ((x : Int) != 0) = b) (w : World) :
    Calls Tryz.prog 122 #[.int .u8 x] w fun e w' => e = .returned (.bool b) ∧ w = w' := by
  go_enter Tryz.func122, Tryz.ntmps122
  go_wp2_with fail
  go_ret
  exact ⟨rfl, rfl⟩
set_option maxRecDepth 100000 in
theorem index_any (B n ca : Nat) (A : Option Addr) (xs : List Nat) (w : World) (h : Bytes w B A n xs) (_hn : n ≤ 140737488351232) :
    Calls Tryz.prog 121 #[.slice A n ca, .func (.func 122) #[] #[]] w fun e w' => e = .returned (.int .i64 (vLead n xs)) ∧ w = w' := by
  go_enter Tryz.func121, Tryz.ntmps121
  go_wp2_with fail
  go_loop [8] (fun i => ∃ k : Nat, k ≤ n ∧ i = .int .i64 k ∧ ∀ j, j < k → xs.getD j 0 = 0) (fun i => n - (intOf i).toNat)
  case atStart => exact ⟨0, by omega, rfl, fun j hj => by omega⟩
  case round =>
    obtain ⟨k, hk, rfl, hz⟩ := hrel
    have HZ := Lib.hid hz
    clear hz
    by_cases hlt : k < n
    · obtain ⟨b1, o1, rfl, hb1, hc1⟩ := h.at_ hlt
      have hx := h.all.getD k
      by_cases h0 : xs.getD k 0 = 0
      · have hs : Hid (∀ j, j < k + 1 → xs.getD j 0 = 0) := fun j hj => by
          by_cases e : j = k
          · subst e; exact h0
          · exact HZ.out j (by omega)
        have b1' : (((xs.getD k 0 : Nat) : Int) != 0) = false := by rw [h0]; rfl
        generalize xs.getD k 0 = x at *
        have HB1 := Lib.hid b1'
        clear h0 b1'
        go_wp2_with fail
        refine (nonzero_any x false HB1.out _).mono ?_
        rintro e w1 ⟨rfl, rfl⟩
        go_wp2_with fail
        go_round
        case rel => exact ⟨k + 1, by omega, by go_num, hs.out⟩
        case measure => simp [intOf]; omega
      · have hv : Hid (vLead n xs = (k : Int)) := by
          show _ = _
          have h1 := (vLeadTo_some xs n k).2 ⟨hlt, h0, HZ.out⟩
          rw [vLead, h1]
        have b1' : (((xs.getD k 0 : Nat) : Int) != 0) = true := by rw [bne_iff_ne]; omega
        generalize xs.getD k 0 = x at *
        have HB1 := Lib.hid b1'
        clear h0 b1'
        go_wp2_with fail
        refine (nonzero_any x true HB1.out _).mono ?_
        rintro e w1 ⟨rfl, rfl⟩
        go_wp2_with fail
        go_ret
        exact ⟨by rw [hv.out]; rfl, rfl⟩
    · have hv : Hid (vLead n xs = -1) := by
        show _ = _
        have h1 := (vLeadTo_none xs n).2 fun i hi => HZ.out i (by omega)
        rw [vLead, h1]
      go_wp2_with fail
      go_ret
      exact ⟨by rw [hv.out]; rfl, rfl⟩
theorem vlead_eq (B n ca : Nat) (A : Option Addr) (xs : List Nat) (w : World) (h : Bytes w B A n xs) (hn : n ≤ 140737488351232) :
    Calls Tryz.prog 76 #[.slice A n ca] w fun e w' => e = .returned (.int .i64 (vLead n xs)) ∧ w = w' := by
  go_enter Tryz.func76, Tryz.ntmps76
  go_wp2_with fail
  refine (index_any B n ca A xs w h hn).mono ?_
  rintro e w1 ⟨rfl, rfl⟩
  go_wp2_with fail
  go_ret
  exact ⟨rfl, rfl⟩
end Go.Proofs.YtgelalbmhllccaaGreat
