/- Contracts of the landed sum, the product with x, the product. -/
import Derived.Test.YtifopodnceopjaaGreatDoorProg
import Derived.Test.YtifopodnceopjaaGreatDoorQab
import Derived.WalkKit
import Derived.Lib.Hide
import Derived.Test.YtifopodnceopjaaGreatDoorQaa
import Derived.Test.YtifopodnceopjaaGreatDoorQac
import Derived.OneCell
import Derived.Laws.EntriesVeiled
import Derived.StillTailTactics
import Derived.Laws.Rows
import Derived.Test.YtifopodnceopjaaGreatDoorRows
import Derived.WalkMore
import Derived.ScopeJumps
import Derived.Deep.LoopGhost
import Derived.Deep.DeepCutAuto
import Derived.Deep.CutBlock
namespace Go.Proofs.YtifopodnceopjaaGreatDoor
open Go.RowKit
set_option linter.unusedVariables false
set_option linter.unusedSimpArgs false

theorem ret_int {k : IntKind} {a b : Int} (h : a = b) : Ending.returned (.int k a) = .returned (.int k b) := by rw [h]

theorem add_any (a b : Nat) (ha : a < 256) (hb : b < 256) (w : World) :
    Calls Tryz.prog 48 #[.int .u8 a, .int .u8 b] w fun e w' => e = .returned (.int .u8 ((a ^^^ b : Nat) : Int)) ∧ w = w' := by
  go_enter Tryz.func48, Tryz.ntmps48
  go_wp2
  go_ret
  exact ⟨ret_int (u8_xor_nat a b ha hb), rfl⟩
theorem timesX_any (a : Nat) (ha : a < 256) (w : World) :
    Calls Tryz.prog 116 #[.int .u8 a] w fun e w' => e = .returned (.int .u8 (xt a : Nat)) ∧ w = w' := by
  go_enter Tryz.func116, Tryz.ntmps116
  go_wp2
  go_ret
  exact ⟨ret_int (u8_xor_nat (a * 2 % 256) (27 * (a / 128)) (by omega) (by omega)), rfl⟩

set_option maxHeartbeats 400000 in
theorem mul_any (a b : Nat) (ha : a < 256) (hb : b < 256) (w : World) :
    Calls Tryz.prog 86 #[.int .u8 a, .int .u8 b] w fun e w' => e = .returned (.int .u8 (mulN a b : Nat)) ∧ w = w' := by
  go_enter Tryz.func86, Tryz.ntmps86
  go_wp2
  go_loop [0, 5, 7] (fun x p i => ∃ k : Nat, k ≤ 8 ∧ i = .int .i64 k ∧ x = .int .u8 (xtn k a : Nat) ∧ p = .int .u8 (mulTo a b k : Nat)) (fun _ _ i => 8 - (intOf i).toNat)
  case atStart => exact ⟨0, by omega, rfl, rfl, rfl⟩
  case round =>
    obtain ⟨k, hk, rfl, rfl, rfl⟩ := hrel
    by_cases hlt : k < 8
    · go_wp2_with fail
      rw [stepbit_int _ b k (xtn_lt k ha) hb]
      refine (add_any _ _ (mulTo_lt a b k ha) (stepbit_lt _ b k (xtn_lt k ha)) _).mono ?_
      rintro e w' ⟨rfl, rfl⟩
      go_wp2_with fail
      refine (timesX_any _ (xtn_lt k ha) _).mono ?_
      rintro e w' ⟨rfl, rfl⟩
      go_wp2_with fail
      go_round
      case rel => exact ⟨k + 1, by omega, by go_num, rfl, rfl⟩
      case measure => simp [intOf]; omega
    · obtain rfl : k = 8 := by omega
      go_wp2
      go_ret
      exact ⟨rfl, rfl⟩

theorem add_eq (a b v : Nat) (ha : a < 256) (hb : b < 256) (h : a ^^^ b = v) (w : World) :
    Calls Tryz.prog 48 #[.int .u8 a, .int .u8 b] w fun e w' => e = .returned (.int .u8 (v : Int)) ∧ w = w' := by
  subst h; exact add_any a b ha hb w
theorem mul_eq (a b v : Nat) (ha : a < 256) (hb : b < 256) (h : mulN a b = v) (w : World) :
    Calls Tryz.prog 86 #[.int .u8 a, .int .u8 b] w fun e w' => e = .returned (.int .u8 (v : Int)) ∧ w = w' := by
  subst h; exact mul_any a b ha hb w
end Go.Proofs.YtifopodnceopjaaGreatDoor
/- Contracts of the landed vector code: each, the closures. -/
namespace Go.Proofs.YtifopodnceopjaaGreatDoor
open Go.RowKit
set_option linter.unusedVariables false
set_option linter.unusedSimpArgs false

/-- A function of the program is entered. -/
theorem enters_at {P : Program} {f : FuncId} {fn : Func} {c : Code} (hf : P.funcs[f]? = some fn) (hname : (fn.name == "runtime.NumGoroutine") = false) (hb : fn.body = some c) : ∀ args w, (callFunc f args).run P w = .ok (.enter f args) w := by
  intro args w
  have h1 : fn.name ≠ "runtime.NumGoroutine" := by simpa using hname
  simp [callFunc, hf, h1, hb, mark]
set_option maxRecDepth 100000 in
theorem each_any (R : Nat → World → Prop) (g : Nat) (cap : Array Value) (B n ca : Nat) (A : Option Addr) (xs : List Nat) (w : World) (hn : n ≤ 140737488351232) (eg : ∀ args w, (callFunc g args).run Tryz.prog w = .ok (.enter g args) w)
    (hb : ∀ i wr, i < n → R i wr → Bytes wr B A n xs) (h0 : R 0 w)
    (hstep : ∀ i wr, i < n → R i wr → Calls Tryz.prog g (#[.int .i64 i, .int .u8 (xs.getD i 0 : Nat)] ++ cap) wr fun e w' => e = .returned (.tuple #[]) ∧ R (i + 1) w') :
    Calls Tryz.prog 46 #[.slice A n ca, .func (.func g) #[] cap] w fun e w' => e = .returned (.tuple #[]) ∧ R n w' := by
  go_enter Tryz.func46, Tryz.ntmps46
  go_wp2_with fail
  go_loopw [8] (fun i wr => ∃ k : Nat, k ≤ n ∧ i = .int .i64 k ∧ R k wr) (fun i _ => n - (intOf i).toNat)
  case atStart => exact ⟨0, by omega, rfl, h0⟩
  case round =>
    obtain ⟨k, hk, rfl, hr⟩ := hrel
    by_cases hlt : k < n
    · obtain ⟨b1, o1, rfl, hb1, hc1⟩ := (hb k wr hlt hr).at_ hlt
      have hs := hstep k wr hlt hr
      generalize xs.getD k 0 = x at *
      have HS := Lib.hid hs
      clear hs hstep hb h0
      go_wp2_with fail
      refine HS.out.mono ?_
      rintro e w2 ⟨rfl, hr2⟩
      go_wp2_with fail
      go_round
      case rel => exact ⟨k + 1, by omega, by go_num, hr2⟩
      case measure => simp [intOf]; omega
    · obtain rfl : k = n := by omega
      go_wp2_with fail
      go_end0
      exact ⟨rfl, hr⟩

def Timing (w : World) (b c : Nat) : Prop :=
  b + 1 < w.heap.size ∧ ∀ i, i < 16 → w.cell? ⟨b, i, none⟩ = some (.int .u8 ((mulN c i : Nat) : Int)) ∧ w.cell? ⟨b + 1, i, none⟩ = some (.int .u8 ((mulN c (16 * i) : Nat) : Int))
theorem split16 : ∀ x, x < 256 → (x % 16) ^^^ (16 * (x / 16)) = x := by decide +kernel
set_option maxRecDepth 100000 in
theorem product_any (b c x : Nat) (w : World) (h : Timing w b c) (hc : c < 256) (hx : x < 256) :
    Calls Tryz.prog 87 #[.int .u8 x, .pointer (some ⟨b, 0, none⟩), .pointer (some ⟨b + 1, 0, none⟩)] w fun e w' => e = .returned (.int .u8 (mulN c x : Nat)) ∧ ∃ m, w' = w.drewN m := by
  have hs := split16 x hx
  have hm : mulN c (x % 16) ^^^ mulN c (16 * (x / 16)) = mulN c x := by rw [← mul_xor_right c _ _ hc (by omega) (by omega), hs]
  clear hs
  have k1 := mulN_lt (a := c) (x % 16) hc
  have k2 := mulN_lt (a := c) (16 * (x / 16)) hc
  have h1 := (h.2 (x % 16) (by omega)).1
  have h2 := (h.2 (x / 16) (by omega)).2
  have e15 : bits .and .u8 (x : Int) 15 = ((x % 16 : Nat) : Int) := by
    rw [show (15 : Int) = ((15 : Nat) : Int) from rfl, u8_and_nat _ 15 hx (by decide)]
    exact congrArg _ (Nat.and_two_pow_sub_one_eq_mod x 4)
  have hlo : x % 16 < 16 := Nat.mod_lt _ (by decide)
  have hhi : x / 16 < 16 := by omega
  generalize x % 16 = lo at *
  have e4 : (x : Int) / 16 = ((x / 16 : Nat) : Int) := by omega
  generalize x / 16 = hi at *
  have l1 : (0 : Int) ≤ (lo : Int) := Int.natCast_nonneg _
  have l2 : (lo : Int) < 16 := by omega
  have l3 : (0 : Int) ≤ (hi : Int) := Int.natCast_nonneg _
  have l4 : (hi : Int) < 16 := by omega
  go_enter Tryz.func87, Tryz.ntmps87
  go_wp2_with fail
  generalize mulN c lo = p at *
  generalize mulN c (16 * hi) = q at *
  go_quiet ((go_at_call 48; exact quiet_of_eq (add_eq p q _ k1 k2 hm _)))
  go_wp2_with fail
  go_ret
  exact ⟨rfl, _, rfl⟩
/-- A variable that a closure has taken. -/
def Held (w : World) (b : Nat) (v : Value) (t : TypeId) : Prop := w.heap[b]? = some (.cells #[v] t (0, 0))
theorem Held.cell {w : World} {b : Nat} {v : Value} {t : TypeId} (h : Held w b v t) : w.cell? ⟨b, 0, none⟩ = some v := cell_of_one h
/-- What a closure meets: its store goes to a block that it doesn't read. -/
structure Meets (w : World) (g i n : Nat) (z : Nat) : Prop where
  cell : w.cell? ⟨g, i, none⟩ = some (.int .u8 (z : Int))
  free : w.frozen? ⟨g, i, none⟩ = false
  lt : i < n
theorem Timing.drew {w : World} {b c : Nat} (h : Timing w b c) : Timing w.drew b c := h
theorem Timing.drewN {w : World} {b c : Nat} (h : Timing w b c) (m : Nat) : Timing (w.drewN m) b c := h
set_option maxRecDepth 100000 in
theorem scalestep (i x c z bp p bs g n : Nat) (w : World) (hp : Held w bp (.func (.func 87) #[] #[.pointer (some ⟨p, 0, none⟩), .pointer (some ⟨p + 1, 0, none⟩)]) 105) (ht : Timing w p c) (hs : Held w bs (.slice (some ⟨g, 0, none⟩) n n) 22) (hz : Meets w g i n z) (hx : x < 256) (hc : c < 256) (_n1 : g ≠ bp) (_n2 : g ≠ bs) :
    Calls Tryz.prog 97 #[.int .i64 i, .int .u8 x, .pointer (some ⟨bp, 0, none⟩), .pointer (some ⟨bs, 0, none⟩)] w fun e w' => e = .returned (.tuple #[]) ∧ ∃ m, w' = (w.setCell ⟨g, i, none⟩ (.int .u8 ((mulN x c : Nat) : Int))).drewN m := by
  have c1 := hp.cell
  have c2 := hs.cell
  obtain ⟨c3, c4, hi⟩ := hz
  have e1 : (0 : Int) ≤ (i : Int) := Int.natCast_nonneg _
  have e2 : (i : Int) < (n : Int) := by omega
  rw [mul_comm' x c hx hc]
  obtain ⟨v, hv⟩ : ∃ v, mulN c x = v := ⟨_, rfl⟩
  rw [hv]
  have HV := Lib.hid hv
  clear hv
  have HT := Lib.hid ht
  clear hp hs ht
  go_enter Tryz.func97, Tryz.ntmps97
  go_region_held3 (fun w' => w'.cell? ⟨bp, 0, none⟩ = some (.func (.func 87) #[] #[.pointer (some ⟨p, 0, none⟩), .pointer (some ⟨p + 1, 0, none⟩)]) ∧ w'.cell? ⟨bs, 0, none⟩ = some (.slice (some ⟨g, 0, none⟩) n n) ∧ w'.frozen? ⟨g, i, none⟩ = false)
    (first | go_keep | (refine ⟨?_, ?_, ?_⟩ <;> first | ((first | rw [World.cell?_drew] | rw [World.cell?_drewN] | skip); rw [World.cell?_setCell_far _ _ _ _ (by assumption)]; assumption) | simp [*]))
    ((go_at_call 87; refine (product_any p c x _ HT.out.drew hc hx).mono ?_; rw [HV.out]; rintro e w' ⟨rfl, m, rfl⟩))
  all_goals go_end0
  all_goals exact ⟨rfl, _, rfl⟩
set_option maxRecDepth 100000 in
theorem addsstep (i x y c z bp p bb bs g n cb b2 o2 : Nat) (w : World) (hp : Held w bp (.func (.func 87) #[] #[.pointer (some ⟨p, 0, none⟩), .pointer (some ⟨p + 1, 0, none⟩)]) 105) (ht : Timing w p c) (hb : Held w bb (.slice (some ⟨b2, o2, none⟩) n cb) 22) (hs : Held w bs (.slice (some ⟨g, 0, none⟩) n n) 22) (hy : w.cell? ⟨b2, o2 + i, none⟩ = some (.int .u8 (y : Int))) (hz : Meets w g i n z) (hx : x < 256) (hy' : y < 256) (hc : c < 256) (_n0 : g ≠ bp) (_n1 : g ≠ bb) (_n2 : g ≠ bs) (_n3 : g ≠ b2) :
    Calls Tryz.prog 128 #[.int .i64 i, .int .u8 x, .pointer (some ⟨bp, 0, none⟩), .pointer (some ⟨bb, 0, none⟩), .pointer (some ⟨bs, 0, none⟩)] w fun e w' => e = .returned (.tuple #[]) ∧ ∃ m, w' = (w.setCell ⟨g, i, none⟩ (.int .u8 ((x ^^^ mulN y c : Nat) : Int))).drewN m := by
  have c1 := hp.cell
  have c2 := hs.cell
  have c0 := hb.cell
  obtain ⟨c3, c4, hi⟩ := hz
  have e1 : (0 : Int) ≤ (i : Int) := Int.natCast_nonneg _
  have e2 : (i : Int) < (n : Int) := by omega
  rw [mul_comm' y c hy' hc]
  have hq := mulN_lt (a := c) y hc
  obtain ⟨q, hq'⟩ : ∃ q, mulN c y = q := ⟨_, rfl⟩
  rw [hq'] at hq ⊢
  have HQ := Lib.hid hq'
  clear hq'
  obtain ⟨v, hv⟩ : ∃ v, x ^^^ q = v := ⟨_, rfl⟩
  rw [hv]
  have HV := Lib.hid hv
  clear hv
  have HT := Lib.hid ht
  clear hp hs hb ht
  go_enter Tryz.func128, Tryz.ntmps128
  go_region_held3 (fun w' => w'.cell? ⟨bp, 0, none⟩ = some (.func (.func 87) #[] #[.pointer (some ⟨p, 0, none⟩), .pointer (some ⟨p + 1, 0, none⟩)]) ∧ w'.cell? ⟨bb, 0, none⟩ = some (.slice (some ⟨b2, o2, none⟩) n cb) ∧ w'.cell? ⟨bs, 0, none⟩ = some (.slice (some ⟨g, 0, none⟩) n n) ∧ w'.cell? ⟨b2, o2 + i, none⟩ = some (.int .u8 (y : Int)) ∧ w'.frozen? ⟨g, i, none⟩ = false)
    (first | go_keep | (refine ⟨?_, ?_, ?_, ?_, ?_⟩ <;> first | ((first | rw [World.cell?_drew] | rw [World.cell?_drewN] | skip); rw [World.cell?_setCell_far _ _ _ _ (by assumption)]; assumption) | simp [*]))
    (first | (go_at_call 87; refine (product_any p c y _ HT.out.drew hc hy').mono ?_; rw [HQ.out]; rintro e w' ⟨rfl, m, rfl⟩) | (go_at_call 48; refine (add_eq x q v hx hq HV.out _).mono ?_; rintro e w' ⟨rfl, rfl⟩))
  all_goals go_end0
  all_goals exact ⟨rfl, _, rfl⟩
set_option linter.unusedSimpArgs false in
set_option maxRecDepth 100000 in
theorem combstep (i x c z bp p bs g n : Nat) (w : World) (hp : Held w bp (.func (.func 87) #[] #[.pointer (some ⟨p, 0, none⟩), .pointer (some ⟨p + 1, 0, none⟩)]) 105) (ht : Timing w p c) (hs : Held w bs (.slice (some ⟨g, 0, none⟩) n n) 22) (hz : Meets w g i n z) (hx : x < 256) (hz' : z < 256) (hc : c < 256) (_n1 : g ≠ bp) (_n2 : g ≠ bs) :
    Calls Tryz.prog 47 #[.int .i64 i, .int .u8 x, .pointer (some ⟨bs, 0, none⟩), .pointer (some ⟨bp, 0, none⟩)] w fun e w' => e = .returned (.tuple #[]) ∧ ∃ m, w' = (w.setCell ⟨g, i, none⟩ (.int .u8 ((z ^^^ mulN x c : Nat) : Int))).drewN m := by
  have c1 := hp.cell
  have c2 := hs.cell
  obtain ⟨c3, c4, hi⟩ := hz
  have e1 : (0 : Int) ≤ (i : Int) := Int.natCast_nonneg _
  have e2 : (i : Int) < (n : Int) := by omega
  rw [mul_comm' x c hx hc]
  have hq := mulN_lt (a := c) x hc
  obtain ⟨q, hq'⟩ : ∃ q, mulN c x = q := ⟨_, rfl⟩
  rw [hq'] at hq ⊢
  have HQ := Lib.hid hq'
  clear hq'
  obtain ⟨v, hv⟩ : ∃ v, z ^^^ q = v := ⟨_, rfl⟩
  rw [hv]
  have HV := Lib.hid hv
  clear hv
  have HT := Lib.hid ht
  clear hp hs ht
  go_enter Tryz.func47, Tryz.ntmps47
  refine wp_region_noPanic ?_
  refine wp_region_held_drew (S := fun w' => w'.cell? ⟨bp, 0, none⟩ = some (.func (.func 87) #[] #[.pointer (some ⟨p, 0, none⟩), .pointer (some ⟨p + 1, 0, none⟩)]) ∧ w'.cell? ⟨bs, 0, none⟩ = some (.slice (some ⟨g, 0, none⟩) n n) ∧ w'.frozen? ⟨g, i, none⟩ = false) (by kernel_rfl) (⟨c1, c2, c4⟩) (fun hHeld => ?_)
  refine wpAnyH_take (i := 0) (v := ?_) rfl (by kernel_rfl) (by kernel_rfl) (by kernel_rfl) (fun _ _ _ h => h) (Or.inl ⟨by rfl, ?_⟩) hHeld ?_
  rotate_left
  · intro wq hSw
    try dsimp only at hSw
    go_simp
    all_goals with_reducible rfl
  try simp only [Act.put, List.getElem_toArray, List.getElem_cons_succ, List.getElem_cons_zero, List.setIfInBounds_toArray, List.set_cons_zero, List.set_cons_succ]
  refine wpAnyH_take (i := 1) (v := ?_) rfl (by kernel_rfl) (by kernel_rfl) (by kernel_rfl) (fun _ _ _ h => h) (Or.inl ⟨by rfl, ?_⟩) hHeld ?_
  rotate_left
  · intro wq hSw
    try dsimp only at hSw
    go_simp
    all_goals with_reducible rfl
  try simp only [Act.put, List.getElem_toArray, List.getElem_cons_succ, List.getElem_cons_zero, List.setIfInBounds_toArray, List.set_cons_zero, List.set_cons_succ]
  refine wpAnyH_take (i := 2) (v := ?_) rfl (by kernel_rfl) (by kernel_rfl) (by kernel_rfl) (fun _ _ _ h => h) (Or.inl ⟨by rfl, ?_⟩) hHeld ?_
  rotate_left
  · intro wq hSw
    try dsimp only at hSw
    go_simp
    all_goals with_reducible rfl
  try simp only [Act.put, List.getElem_toArray, List.getElem_cons_succ, List.getElem_cons_zero, List.setIfInBounds_toArray, List.set_cons_zero, List.set_cons_succ]
  refine wpAnyH_take (i := 3) (v := ?_) rfl (by kernel_rfl) (by kernel_rfl) (by kernel_rfl) (fun _ _ _ h => h) (Or.inl ⟨by rfl, ?_⟩) hHeld ?_
  rotate_left
  · intro wq hSw
    try dsimp only at hSw
    go_simp
    all_goals with_reducible rfl
  try simp only [Act.put, List.getElem_toArray, List.getElem_cons_succ, List.getElem_cons_zero, List.setIfInBounds_toArray, List.set_cons_zero, List.set_cons_succ]
  refine wpAnyH_take (i := 4) (v := ?_) rfl (by kernel_rfl) (by kernel_rfl) (by kernel_rfl) (fun _ _ _ h => h) (Or.inl ⟨by rfl, ?_⟩) hHeld ?_
  rotate_left
  · intro wq hSw
    try dsimp only at hSw
    go_simp
    all_goals with_reducible rfl
  try simp only [Act.put, List.getElem_toArray, List.getElem_cons_succ, List.getElem_cons_zero, List.setIfInBounds_toArray, List.set_cons_zero, List.set_cons_succ]
  refine wpAnyH_take (i := 6) (v := ?_) rfl (by kernel_rfl) (by kernel_rfl) (by kernel_rfl) (fun _ _ _ h => h) (Or.inl ⟨by rfl, ?_⟩) hHeld ?_
  rotate_left
  · intro wq hSw
    try dsimp only at hSw
    go_simp
    all_goals with_reducible rfl
  try simp only [Act.put, List.getElem_toArray, List.getElem_cons_succ, List.getElem_cons_zero, List.setIfInBounds_toArray, List.set_cons_zero, List.set_cons_succ]
  refine wpAnyH_take (i := 7) (v := ?_) rfl (by kernel_rfl) (by kernel_rfl) (by kernel_rfl) (fun _ _ _ h => h) (Or.inl ⟨by rfl, ?_⟩) hHeld ?_
  rotate_left
  · intro wq hSw
    try dsimp only at hSw
    go_simp
    all_goals with_reducible rfl
  try simp only [Act.put, List.getElem_toArray, List.getElem_cons_succ, List.getElem_cons_zero, List.setIfInBounds_toArray, List.set_cons_zero, List.set_cons_succ]
  refine wpAnyH_ready (rs := [5, 8]) (by kernel_rfl) (by simp) ?_
  refine AllReadyH.cons rfl (fun K hK => ?_) (AllReadyH.cons rfl (fun K hK => ?_) AllReadyH.nil)
  · go_simp
    refine hK.out _ _ (⟨c1, c2, c4⟩) (fun hHeld => ?_)
    clear hK K
    try simp only [Act.put, List.getElem_toArray, List.getElem_cons_succ, List.getElem_cons_zero, List.setIfInBounds_toArray, List.set_cons_zero, List.set_cons_succ]
    refine wpAnyH_ready (rs := [8]) (by kernel_rfl) (by simp) ?_
    refine AllReadyH.cons rfl (fun K hK => ?_) AllReadyH.nil
    go_simp
    refine (product_any p c x _ HT.out.drew hc hx).mono ?_
    rw [HQ.out]
    rintro e w' ⟨rfl, m, rfl⟩
    refine hK.out _ _ (⟨c1, c2, c4⟩) (fun hHeld => ?_)
    clear hK K
    try simp only [Act.put, List.getElem_toArray, List.getElem_cons_succ, List.getElem_cons_zero, List.setIfInBounds_toArray, List.set_cons_zero, List.set_cons_succ]
    refine wpAnyH_ready (rs := [9]) (by kernel_rfl) (by simp) ?_
    refine AllReadyH.cons rfl (fun K hK => ?_) AllReadyH.nil
    go_simp
    refine (add_eq z q v hz' hq HV.out _).mono ?_
    rintro e w' ⟨rfl, rfl⟩
    refine hK.out _ _ (⟨c1, c2, c4⟩) (fun hHeld => ?_)
    clear hK K
    try simp only [Act.put, List.getElem_toArray, List.getElem_cons_succ, List.getElem_cons_zero, List.setIfInBounds_toArray, List.set_cons_zero, List.set_cons_succ]
    refine wpAnyH_take (i := 10) (v := ?_) rfl (by kernel_rfl) (by kernel_rfl) (by kernel_rfl) (fun _ _ _ h => h) (Or.inl ⟨by rfl, ?_⟩) hHeld ?_
    rotate_left
    · intro wq hSw
      try dsimp only at hSw
      go_simp
      all_goals with_reducible rfl
    try simp only [Act.put, List.getElem_toArray, List.getElem_cons_succ, List.getElem_cons_zero, List.setIfInBounds_toArray, List.set_cons_zero, List.set_cons_succ]
    refine wpAnyH_ready (rs := [11]) (by kernel_rfl) (by simp) ?_
    refine AllReadyH.cons rfl (fun K hK => ?_) AllReadyH.nil
    go_simp
    refine hK.out _ _ (⟨(World.cell?_setCell_far _ _ _ _ (by assumption)).trans c1, (World.cell?_setCell_far _ _ _ _ (by assumption)).trans c2, (World.frozen?_setCell _ _ _ _).trans c4⟩) (fun hHeld => ?_)
    clear hK K
    try simp only [Act.put, List.getElem_toArray, List.getElem_cons_succ, List.getElem_cons_zero, List.setIfInBounds_toArray, List.set_cons_zero, List.set_cons_succ]
    refine wpAnyH_done (by kernel_rfl) ?_ _
    refine NoPanic.normal ?_
    go_end0
    exact ⟨rfl, _, rfl⟩
  · go_simp
    refine (product_any p c x _ HT.out.drew hc hx).mono ?_
    rw [HQ.out]
    rintro e w' ⟨rfl, m, rfl⟩
    refine hK.out _ _ (⟨c1, c2, c4⟩) (fun hHeld => ?_)
    clear hK K
    try simp only [Act.put, List.getElem_toArray, List.getElem_cons_succ, List.getElem_cons_zero, List.setIfInBounds_toArray, List.set_cons_zero, List.set_cons_succ]
    refine wpAnyH_ready (rs := [5]) (by kernel_rfl) (by simp) ?_
    refine AllReadyH.cons rfl (fun K hK => ?_) AllReadyH.nil
    go_simp
    refine hK.out _ _ (⟨c1, c2, c4⟩) (fun hHeld => ?_)
    clear hK K
    try simp only [Act.put, List.getElem_toArray, List.getElem_cons_succ, List.getElem_cons_zero, List.setIfInBounds_toArray, List.set_cons_zero, List.set_cons_succ]
    refine wpAnyH_ready (rs := [9]) (by kernel_rfl) (by simp) ?_
    refine AllReadyH.cons rfl (fun K hK => ?_) AllReadyH.nil
    go_simp
    refine (add_eq z q v hz' hq HV.out _).mono ?_
    rintro e w' ⟨rfl, rfl⟩
    refine hK.out _ _ (⟨c1, c2, c4⟩) (fun hHeld => ?_)
    clear hK K
    try simp only [Act.put, List.getElem_toArray, List.getElem_cons_succ, List.getElem_cons_zero, List.setIfInBounds_toArray, List.set_cons_zero, List.set_cons_succ]
    refine wpAnyH_take (i := 10) (v := ?_) rfl (by kernel_rfl) (by kernel_rfl) (by kernel_rfl) (fun _ _ _ h => h) (Or.inl ⟨by rfl, ?_⟩) hHeld ?_
    rotate_left
    · intro wq hSw
      try dsimp only at hSw
      go_simp
      all_goals with_reducible rfl
    try simp only [Act.put, List.getElem_toArray, List.getElem_cons_succ, List.getElem_cons_zero, List.setIfInBounds_toArray, List.set_cons_zero, List.set_cons_succ]
    refine wpAnyH_ready (rs := [11]) (by kernel_rfl) (by simp) ?_
    refine AllReadyH.cons rfl (fun K hK => ?_) AllReadyH.nil
    go_simp
    refine hK.out _ _ (⟨(World.cell?_setCell_far _ _ _ _ (by assumption)).trans c1, (World.cell?_setCell_far _ _ _ _ (by assumption)).trans c2, (World.frozen?_setCell _ _ _ _).trans c4⟩) (fun hHeld => ?_)
    clear hK K
    try simp only [Act.put, List.getElem_toArray, List.getElem_cons_succ, List.getElem_cons_zero, List.setIfInBounds_toArray, List.set_cons_zero, List.set_cons_succ]
    refine wpAnyH_done (by kernel_rfl) ?_ _
    refine NoPanic.normal ?_
    go_end0
    exact ⟨rfl, _, rfl⟩
end Go.Proofs.YtifopodnceopjaaGreatDoor
/- Contracts of the landed vector code: times. -/
namespace Go.Proofs.YtifopodnceopjaaGreatDoor
open Go.RowKit
set_option linter.unusedVariables false
set_option linter.unusedSimpArgs false

/-- Both tables, filled below m. -/
structure Filled (w wr : World) (b c m : Nat) : Prop where
  low : ∀ j, j < 16 → wr.cell? ⟨b, j, none⟩ = some (.int .u8 ((if j < m then mulN c j else 0 : Nat) : Int)) ∧ wr.frozen? ⟨b, j, none⟩ = false
  up : ∀ j, j < 16 → wr.cell? ⟨b + 1, j, none⟩ = some (.int .u8 ((if j < m then mulN c (16 * j) else 0 : Nat) : Int)) ∧ wr.frozen? ⟨b + 1, j, none⟩ = false
  keep : Keep w wr
  new : w.heap.size ≤ b
  lt : b + 1 < wr.heap.size
theorem Filled.setLow {w wr : World} {b c m : Nat} (h : Filled w wr b c m) (v : Nat) (hm : m < 16) (hv : mulN c m = v) :
    (∀ j, j < 16 → (wr.setCell ⟨b, m, none⟩ (.int .u8 (v : Int))).cell? ⟨b, j, none⟩ = some (.int .u8 ((if j < m + 1 then mulN c j else 0 : Nat) : Int)) ∧ (wr.setCell ⟨b, m, none⟩ (.int .u8 (v : Int))).frozen? ⟨b, j, none⟩ = false) ∧
    (∀ j, j < 16 → (wr.setCell ⟨b, m, none⟩ (.int .u8 (v : Int))).cell? ⟨b + 1, j, none⟩ = some (.int .u8 ((if j < m then mulN c (16 * j) else 0 : Nat) : Int)) ∧ (wr.setCell ⟨b, m, none⟩ (.int .u8 (v : Int))).frozen? ⟨b + 1, j, none⟩ = false) := by
  refine ⟨fun j hj => ⟨?_, (World.frozen?_setCell _ _ _ _).trans (h.low j hj).2⟩, fun j hj => ⟨(World.cell?_setCell_far _ _ _ _ (by simp)).trans (h.up j hj).1, (World.frozen?_setCell _ _ _ _).trans (h.up j hj).2⟩⟩
  by_cases e : j = m
  · subst e
    rw [World.cell?_setCell_same _ _ _ (h.low j hj).1, if_pos (by omega), hv]
  · rw [World.cell?_setCell_other _ _ _ _ (fun h => e (by injection h with _ h2; exact h2.symm)), (h.low j hj).1]
    by_cases h1 : j < m
    · rw [if_pos h1, if_pos (by omega)]
    · rw [if_neg h1, if_neg (by omega)]
theorem Filled.setUp {w wr : World} {b c m : Nat} (h1 : ∀ j, j < 16 → wr.cell? ⟨b, j, none⟩ = some (.int .u8 ((if j < m + 1 then mulN c j else 0 : Nat) : Int)) ∧ wr.frozen? ⟨b, j, none⟩ = false)
    (h2 : ∀ j, j < 16 → wr.cell? ⟨b + 1, j, none⟩ = some (.int .u8 ((if j < m then mulN c (16 * j) else 0 : Nat) : Int)) ∧ wr.frozen? ⟨b + 1, j, none⟩ = false) (hk : Keep w wr) (hb : w.heap.size ≤ b) (hl : b + 1 < wr.heap.size)
    (v : Nat) (hm : m < 16) (hv : mulN c (16 * m) = v) : Filled w (wr.setCell ⟨b + 1, m, none⟩ (.int .u8 (v : Int))) b c (m + 1) := by
  refine ⟨fun j hj => ⟨(World.cell?_setCell_far _ _ _ _ (by simp)).trans (h1 j hj).1, (World.frozen?_setCell _ _ _ _).trans (h1 j hj).2⟩, fun j hj => ⟨?_, (World.frozen?_setCell _ _ _ _).trans (h2 j hj).2⟩, hk.setCell (by show _ ≤ b + 1; omega) _, hb, by simpa [World.setCell] using hl⟩
  by_cases e : j = m
  · subst e
    rw [World.cell?_setCell_same _ _ _ (h2 j hj).1, if_pos (by omega), hv]
  · rw [World.cell?_setCell_other _ _ _ _ (fun h => e (by injection h with _ h2; exact h2.symm)), (h2 j hj).1]
    by_cases h1 : j < m
    · rw [if_pos h1, if_pos (by omega)]
    · rw [if_neg h1, if_neg (by omega)]
theorem zero_cells (j : Nat) (hj : j < 16) : (#[Value.int .u8 0, .int .u8 0, .int .u8 0, .int .u8 0, .int .u8 0, .int .u8 0, .int .u8 0, .int .u8 0, .int .u8 0, .int .u8 0, .int .u8 0, .int .u8 0, .int .u8 0, .int .u8 0, .int .u8 0, .int .u8 0] : Array Value)[j]? = some (.int .u8 0) := by
  rcases j with _ | _ | _ | _ | _ | _ | _ | _ | _ | _ | _ | _ | _ | _ | _ | _ | j <;> first | rfl | omega
theorem Filled.start (w : World) (c : Nat) : Filled w ((w.alloc (.cells #[.int .u8 0, .int .u8 0, .int .u8 0, .int .u8 0, .int .u8 0, .int .u8 0, .int .u8 0, .int .u8 0, .int .u8 0, .int .u8 0, .int .u8 0, .int .u8 0, .int .u8 0, .int .u8 0, .int .u8 0, .int .u8 0] 151)).alloc
    (.cells #[.int .u8 0, .int .u8 0, .int .u8 0, .int .u8 0, .int .u8 0, .int .u8 0, .int .u8 0, .int .u8 0, .int .u8 0, .int .u8 0, .int .u8 0, .int .u8 0, .int .u8 0, .int .u8 0, .int .u8 0, .int .u8 0] 151)) w.heap.size c 1 := by
  have z : ∀ (a j : Nat), mulN c (a * j) * 0 = 0 := fun _ _ => Nat.mul_zero _
  refine ⟨fun j hj => ⟨?_, ?_⟩, fun j hj => ⟨?_, ?_⟩, ((Keep.refl w).alloc _ _).alloc _ _, Nat.le_refl _, by simp⟩
  · rw [World.cell?_alloc_past _ _ _ (by simp), World.cell?_alloc_at _ _ _ _ rfl, zero_cells j hj]
    by_cases e : j < 1
    · obtain rfl : j = 0 := by omega
      rw [if_pos e, mul_zero_right]; rfl
    · rw [if_neg e]; rfl
  · rw [World.frozen?_alloc_past _ _ _ (by simp)]; exact World.frozen?_alloc_at _ _ _ _ rfl
  · rw [World.cell?_alloc_at _ _ _ _ (by simp), zero_cells j hj]
    by_cases e : j < 1
    · obtain rfl : j = 0 := by omega
      rw [if_pos e, mul_zero_right]; rfl
    · rw [if_neg e]; rfl
  · exact World.frozen?_alloc_at _ _ _ _ (by simp)
theorem Filled.timing {w wr : World} {b c m : Nat} (h : Filled w wr b c m) (hm : 16 ≤ m) : Timing wr b c :=
  ⟨h.lt, fun i hi => ⟨by rw [(h.low i hi).1, if_pos (by omega)], by rw [(h.up i hi).1, if_pos (by omega)]⟩⟩
set_option maxRecDepth 100000 in
set_option maxHeartbeats 2000000 in
theorem times_at (c B : Nat) (w : World) (hc : c < 256) (hB : w.heap.size = B) :
    Calls Tryz.prog 45 #[.int .u8 c] w fun e w' => e = .returned (.func (.func 87) #[] #[.pointer (some ⟨B, 0, none⟩), .pointer (some ⟨B + 1, 0, none⟩)]) ∧ Timing w' B c ∧ Keep w w' := by
  have f0 := Filled.start w c
  rw [hB] at f0
  go_enter Tryz.func45, Tryz.ntmps45
  go_wp2_with fail
  clear hB
  go_loopw [10] (fun i wr => ∃ k : Nat, k ≤ 4 ∧ i = .int .i64 k ∧ Filled w wr B c (2 ^ k)) (fun i _ => 4 - (intOf i).toNat)
  case atStart => exact ⟨0, by omega, rfl, f0⟩
  case round =>
    clear f0
    obtain ⟨k, hk, rfl, hf⟩ := hrel
    by_cases hlt : k < 4
    · have hm2 : 2 ^ (k + 1) = 2 ^ k + 2 ^ k := by rw [Nat.pow_succ]; omega
      have hm8 : 1 ≤ 2 ^ k ∧ 2 ^ k ≤ 8 := by
        rcases k with _ | _ | _ | _ | k <;> first | decide | omega
      have hxor : ∀ j, j < 2 ^ k → j ^^^ 2 ^ k = j + 2 ^ k ∧ (16 * j) ^^^ (16 * 2 ^ k) = 16 * (j + 2 ^ k) := by
        rcases k with _ | _ | _ | _ | k <;> first | decide | omega
      have ew : wrap64 ((2 : Int) ^ k) = ((2 ^ k : Nat) : Int) := by
        have e : (2 : Int) ^ k = ((2 ^ k : Nat) : Int) := by simp
        rw [e, IntWalk.wrap64_in _ (by omega)]
      generalize 2 ^ k = m at *
      have em : (m : Int) % 256 = (m : Int) := by omega
      have HF := Lib.hid hf
      have HX := Lib.hid hxor
      obtain ⟨p, hp⟩ : ∃ p, mulN c m = p := ⟨_, rfl⟩
      obtain ⟨q, hq⟩ : ∃ q, mulN c (16 * m) = q := ⟨_, rfl⟩
      have hp2 : p < 256 := by rw [← hp]; exact mulN_lt _ hc
      have hq2 : q < 256 := by rw [← hq]; exact mulN_lt _ hc
      have HP := Lib.hid hp
      have HQ := Lib.hid hq
      clear hf hxor hp hq
      go_wp2_with fail
      refine (mul_eq c m p hc (by omega) HP.out _).mono ?_
      rintro e w1 ⟨rfl, rfl⟩
      go_wp2_with fail
      rw [show (m : Int) * 16 = ((16 * m : Nat) : Int) by omega]
      refine (mul_eq c (16 * m) q hc (by omega) HQ.out _).mono ?_
      rintro e w1 ⟨rfl, rfl⟩
      go_wp2_with fail
      go_loopw [25] (fun i w2 => ∃ r : Nat, r ≤ m ∧ i = .int .i64 r ∧ Filled w w2 B c (m + r)) (fun i _ => m - (intOf i).toNat)
      case atStart => exact ⟨0, by omega, rfl, HF.out⟩
      case round =>
        obtain ⟨r, hr, rfl, hf⟩ := hrel
        by_cases hrt : r < m
        · obtain ⟨l1, l2⟩ := hf.low r (by omega)
          obtain ⟨l3, l4⟩ := hf.low (m + r) (by omega)
          obtain ⟨x1, x2⟩ := HX.out r hrt
          rw [if_pos (show r < m + r by omega)] at l1
          rw [if_neg (show ¬ m + r < m + r by omega)] at l3
          obtain ⟨a, ha⟩ : ∃ a, mulN c r = a := ⟨_, rfl⟩
          obtain ⟨v, hv⟩ : ∃ v, a ^^^ p = v := ⟨_, rfl⟩
          obtain ⟨a', ha'⟩ : ∃ a, mulN c (16 * r) = a := ⟨_, rfl⟩
          obtain ⟨v', hv'⟩ : ∃ v, a' ^^^ q = v := ⟨_, rfl⟩
          have a1 : a < 256 := by rw [← ha]; exact mulN_lt _ hc
          have a2 : a' < 256 := by rw [← ha']; exact mulN_lt _ hc
          have s1 : mulN c (m + r) = v := by rw [← hv, ← ha, ← HP.out, ← mul_xor_right c r m hc (by omega) (by omega), x1, Nat.add_comm]
          have s2 : mulN c (16 * (m + r)) = v' := by rw [← hv', ← ha', ← HQ.out, ← mul_xor_right c (16 * r) (16 * m) hc (by omega) (by omega), x2, Nat.add_comm m r]
          rw [ha] at l1
          have HV := Lib.hid hv
          have HV' := Lib.hid hv'
          obtain ⟨g1, g2⟩ := hf.setLow v (by omega) s1
          obtain ⟨u1, u2⟩ := hf.up r (by omega)
          obtain ⟨u3, u4⟩ := hf.up (m + r) (by omega)
          rw [if_pos (show r < m + r by omega), ha'] at u1
          rw [if_neg (show ¬ m + r < m + r by omega)] at u3
          have HL := Lib.hid (And.intro hp2 hq2)
          have HN := Lib.hid (Filled.setUp (w := w) g1 g2 (hf.keep.setCell hf.new _) hf.new (by simpa [World.setCell] using hf.lt) v' (by omega) s2)
          clear g1 g2 hf s1 s2 hv hv' ha ha' x1 x2
          obtain ⟨t, ht⟩ : ∃ t, m + r = t := ⟨_, rfl⟩
          rw [ht] at l3 l4 u3 u4 HN
          have i1 : (0 : Int) ≤ (r : Int) := Int.natCast_nonneg _
          have i2 : (r : Int) < 16 := by omega
          have i3 : (m : Int) + (r : Int) = (t : Int) := by omega
          have i4 : (0 : Int) ≤ (t : Int) := Int.natCast_nonneg _
          have i5 : (t : Int) < 16 := by omega
          have HT := Lib.hid ht
          clear hm2 hp2 hq2 ht
          go_wp2_with fail
          refine (add_eq a p v a1 HL.out.1 HV.out _).mono ?_
          rintro e w1 ⟨rfl, rfl⟩
          go_wp2_with fail
          refine (add_eq a' q v' a2 HL.out.2 HV'.out _).mono ?_
          rintro e w1 ⟨rfl, rfl⟩
          go_wp2_with fail
          go_round
          case rel => exact ⟨r + 1, by omega, by go_num, by rw [← Nat.add_assoc, HT.out]; exact HN.out⟩
          case measure => simp [intOf]; omega
        · obtain rfl : r = m := by omega
          have HN : Hid (Filled w wr B c (2 ^ (k + 1))) := by show Filled _ _ _ _ _; rw [hm2]; exact hf
          clear hf
          go_wp2_with fail
          go_round
          case rel => exact ⟨k + 1, by omega, by go_num, HN.out⟩
          case measure => simp [intOf]; omega
    · obtain rfl : k = 4 := by omega
      have ht := hf.timing (by decide)
      have hk := hf.keep
      go_wp2_with fail
      go_ret
      exact ⟨rfl, ht, hk⟩

end Go.Proofs.YtifopodnceopjaaGreatDoor
/- Contracts of the landed vector code: sums. -/
namespace Go.Proofs.YtifopodnceopjaaGreatDoor
open Go.RowKit
set_option linter.unusedVariables false
set_option linter.unusedSimpArgs false

def upto (n : Nat) (f z : Nat → Nat) (i : Nat) : List Nat := tab n fun j => if j < i then f j else z j
theorem upto_zero (n : Nat) (f z : Nat → Nat) : upto n f z 0 = tab n z := tab_congr fun j _ => by rw [if_neg (by omega)]
theorem upto_all (n : Nat) (f z : Nat → Nat) : upto n f z n = tab n f := tab_congr fun j hj => by rw [if_pos hj]
theorem upto_getD (n : Nat) (f z : Nat → Nat) (i : Nat) (hi : i < n) : (upto n f z i).getD i 0 = z i := by
  rw [upto, tab_getD, if_pos hi, if_neg (by omega)]
theorem upto_set (n : Nat) (f z : Nat → Nat) (i : Nat) (_hi : i < n) : (upto n f z i).set i (f i) = upto n f z (i + 1) := by
  refine list_ext (by simp [upto, tab_length]) fun j hj => ?_
  rw [List.length_set, upto, tab_length] at hj
  have e2 : (upto n f z (i + 1)).getD j 0 = if j < i + 1 then f j else z j := by rw [upto, tab_getD, if_pos hj]
  rw [e2, List.getD_eq_getElem?_getD, List.getElem?_set]
  by_cases e : i = j
  · subst e
    rw [if_pos rfl, if_pos (by simp [upto, tab_length]; omega), if_pos (by omega)]; rfl
  · rw [if_neg e, ← List.getD_eq_getElem?_getD, upto, tab_getD, if_pos hj]
    by_cases h1 : j < i
    · rw [if_pos h1, if_pos (by omega)]
    · rw [if_neg h1, if_neg (by omega)]
theorem tab_zeros (n : Nat) : tab n (fun _ => 0) = List.replicate n 0 := list_ext (by simp [tab_length]) fun i hi => by
  rw [tab_length] at hi
  rw [tab_getD, if_pos hi, List.getD_eq_getElem?_getD, List.getElem?_replicate, if_pos hi]; rfl
/-- What is being filled. -/
structure Work (w wr : World) (g n bs : Nat) (l : List Nat) : Prop where
  own : Own wr w.heap.size 5 (some ⟨g, 0, none⟩) n n l
  held : Held wr bs (.slice (some ⟨g, 0, none⟩) n n) 22
  keep : Keep w wr
  ne : g ≠ bs
  new : w.heap.size ≤ g
theorem Held.step {w : World} {b g i m : Nat} {v u : Value} {t : TypeId} (h : Held w b v t) (hn : g ≠ b) : Held ((w.setCell ⟨g, i, none⟩ u).drewN m) b v t := by
  show (w.setCell ⟨g, i, none⟩ u).heap[b]? = _
  rw [Below.heap_setCell _ _ _ _ (fun e => hn e.symm)]
  exact h
theorem Work.step {w wr : World} {g n bs i v m : Nat} {l : List Nat} (h : Work w wr g n bs l) (hv : v < 256) : Work w ((wr.setCell ⟨g, i, none⟩ (.int .u8 (v : Int))).drewN m) g n bs (l.set i v) :=
  ⟨⟨(h.own.stored hv).1, (h.own.stored (i := i) hv).2⟩, h.held.step h.ne, (h.keep.setCell h.new _).drewN m, h.ne, h.new⟩
theorem Work.meets {w wr : World} {g n bs i : Nat} {f z : Nat → Nat} (h : Work w wr g n bs (upto n f z i)) (hi : i < n) : Meets wr g i n (z i) :=
  ⟨by rw [h.own.cell hi, upto_getD n f z i hi], h.own.frozen i, hi⟩
theorem Timing.setCell {w : World} {p c g i : Nat} {u : Value} (h : Timing w p c) (h1 : g ≠ p) (h2 : g ≠ p + 1) : Timing (w.setCell ⟨g, i, none⟩ u) p c :=
  ⟨by simpa [World.setCell] using h.1, fun j hj => ⟨(World.cell?_setCell_far _ _ _ _ h1).trans (h.2 j hj).1, (World.cell?_setCell_far _ _ _ _ h2).trans (h.2 j hj).2⟩⟩
theorem Timing.alloc {w : World} {p c : Nat} (h : Timing w p c) (o : Obj) : Timing (w.alloc o) p c :=
  ⟨by have := h.1; simp; omega, fun j hj => ⟨(World.cell?_alloc_past _ _ _ (by have := h.1; show p < _; omega)).trans (h.2 j hj).1, (World.cell?_alloc_past _ _ _ h.1).trans (h.2 j hj).2⟩⟩
theorem Work.start {w w1 : World} {g n : Nat} (hg : w1.heap.size = g) (hk : Keep w w1) (hn : n ≤ 140737488355328) :
    Work w ((w1.alloc (.cells (madeCells #[.int .u8 0] n) 5)).alloc (.cells #[.slice (some ⟨g, 0, none⟩) n n] 22)) g n (g + 1) (List.replicate n 0) := by
  subst hg
  refine ⟨((Own.made w1 5 n hn).lower hk.size).alloc _, ?_, (hk.alloc _ _).alloc _ _, by omega, hk.size⟩
  have h := heap_alloc_new (w1.alloc (.cells (madeCells #[.int .u8 0] n) 5)) (.cells #[.slice (some ⟨w1.heap.size, 0, none⟩) n n] 22)
  rwa [show (w1.alloc (.cells (madeCells #[.int .u8 0] n) 5)).heap.size = w1.heap.size + 1 by simp] at h
theorem Held.new {w : World} {b : Nat} (hb : w.heap.size = b) (v : Value) (t : TypeId) : Held (w.alloc (.cells #[v] t)) b v t := by
  subst hb; exact heap_alloc_new w _
theorem Held.alloc {w : World} {b : Nat} {v : Value} {t : TypeId} (h : Held w b v t) (o : Obj) : Held (w.alloc o) b v t := by
  have hlt := lt_of_block h
  show (w.heap.push o)[b]? = _
  rw [Array.getElem?_push_lt hlt, ← Array.getElem?_eq_getElem hlt]
  exact h
theorem Held.keep {w w' : World} {b : Nat} {v : Value} {t : TypeId} (h : Held w b v t) (k : Keep w w') : Held w' b v t := by
  show w'.heap[b]? = _
  rw [k.block b (lt_of_block h)]; exact h
section
variable {w w3 : World} {B B' n ca cb bb bp p bs g c : Nat} {A A' : Option Addr} {xs ys : List Nat}
theorem scale_each (hW : Work w w3 g n bs (List.replicate n 0)) (hp : Held w3 bp (.func (.func 87) #[] #[.pointer (some ⟨p, 0, none⟩), .pointer (some ⟨p + 1, 0, none⟩)]) 105) (ht : Timing w3 p c) (hg : g ≠ bp) (hgp : g ≠ p) (hgp' : g ≠ p + 1) (h : Bytes w B A n xs) (hB : B ≤ w.heap.size) (hn : n ≤ 140737488351232) (hc : c < 256) :
    Calls Tryz.prog 46 #[.slice A n ca, .func (.func 97) #[] #[.pointer (some ⟨bp, 0, none⟩), .pointer (some ⟨bs, 0, none⟩)]] w3 fun e w' => e = .returned (.tuple #[]) ∧ Work w w' g n bs (vScale n xs c) := by
  rw [← upto_zero n (fun j => mulN (xs.getD j 0) c) (fun _ => 0) |>.trans (tab_zeros n)] at hW
  refine (each_any (fun i wr => Work w wr g n bs (upto n (fun j => mulN (xs.getD j 0) c) (fun _ => 0) i) ∧ Held wr bp (.func (.func 87) #[] #[.pointer (some ⟨p, 0, none⟩), .pointer (some ⟨p + 1, 0, none⟩)]) 105 ∧ Timing wr p c) 97 _ B n ca A xs w3 hn (enters_at Tryz.func97 (by kernel_rfl) rfl)
    (fun i wr _ hr => h.keep hB hr.1.keep) ⟨hW, hp, ht⟩ (fun i wr hi hr => ?_)).mono fun e w' he => ⟨he.1, by have := he.2.1; rwa [upto_all] at this⟩
  refine (scalestep i (xs.getD i 0) c 0 bp p bs g n wr hr.2.1 hr.2.2 hr.1.held (hr.1.meets hi) (h.all.getD i) hc hg hr.1.ne).mono ?_
  rintro e w' ⟨he, m, rfl⟩
  refine ⟨he, ?_, hr.2.1.step hg, (hr.2.2.setCell hgp hgp').drewN m⟩
  rw [← upto_set n _ _ i hi]
  exact hr.1.step (mulN_lt _ (h.all.getD i))
theorem adds_each (hW : Work w w3 g n bs (List.replicate n 0)) (hp : Held w3 bp (.func (.func 87) #[] #[.pointer (some ⟨p, 0, none⟩), .pointer (some ⟨p + 1, 0, none⟩)]) 105) (ht : Timing w3 p c) (hb : Held w3 bb (.slice A' n cb) 22) (hg : g ≠ bp) (hgp : g ≠ p) (hgp' : g ≠ p + 1) (hgb : g ≠ bb) (h : Bytes w B A n xs) (h' : Bytes w B' A' n ys) (hB : B ≤ w.heap.size) (hB' : B' ≤ w.heap.size) (hn : n ≤ 140737488351232) (hc : c < 256) :
    Calls Tryz.prog 46 #[.slice A n ca, .func (.func 128) #[] #[.pointer (some ⟨bp, 0, none⟩), .pointer (some ⟨bb, 0, none⟩), .pointer (some ⟨bs, 0, none⟩)]] w3 fun e w' => e = .returned (.tuple #[]) ∧ Work w w' g n bs (vAddS n xs ys c) := by
  rw [← upto_zero n (fun j => xs.getD j 0 ^^^ mulN (ys.getD j 0) c) (fun _ => 0) |>.trans (tab_zeros n)] at hW
  refine (each_any (fun i wr => Work w wr g n bs (upto n (fun j => xs.getD j 0 ^^^ mulN (ys.getD j 0) c) (fun _ => 0) i) ∧ Held wr bp (.func (.func 87) #[] #[.pointer (some ⟨p, 0, none⟩), .pointer (some ⟨p + 1, 0, none⟩)]) 105 ∧ Timing wr p c ∧ Held wr bb (.slice A' n cb) 22) 128 _ B n ca A xs w3 hn (enters_at Tryz.func128 (by kernel_rfl) rfl)
    (fun i wr _ hr => h.keep hB hr.1.keep) ⟨hW, hp, ht, hb⟩ (fun i wr hi hr => ?_)).mono fun e w' he => ⟨he.1, by have := he.2.1; rwa [upto_all] at this⟩
  obtain ⟨b2, o2, rfl, h2, hcy⟩ := (h'.keep hB' hr.1.keep).at_ hi
  refine (addsstep i (xs.getD i 0) (ys.getD i 0) c 0 bp p bb bs g n cb b2 o2 wr hr.2.1 hr.2.2.1 hr.2.2.2 hr.1.held hcy (hr.1.meets hi) (h.all.getD i) (h'.all.getD i) hc hg hgb hr.1.ne (by have := hr.1.new; omega)).mono ?_
  rintro e w' ⟨he, m, rfl⟩
  refine ⟨he, ?_, hr.2.1.step hg, (hr.2.2.1.setCell hgp hgp').drewN m, hr.2.2.2.step hgb⟩
  rw [← upto_set n _ _ i hi]
  exact hr.1.step (xor_lt (h.all.getD i) (mulN_lt _ (h'.all.getD i)))
theorem comb_each {l : List Nat} (hl : l.length = n) (hlb : AllB l) (hW : Work w w3 g n bs l) (hp : Held w3 bp (.func (.func 87) #[] #[.pointer (some ⟨p, 0, none⟩), .pointer (some ⟨p + 1, 0, none⟩)]) 105) (ht : Timing w3 p c) (hg : g ≠ bp) (hgp : g ≠ p) (hgp' : g ≠ p + 1) (h : Bytes w B A n xs) (hB : B ≤ w.heap.size) (hn : n ≤ 140737488351232) (hc : c < 256) :
    Calls Tryz.prog 46 #[.slice A n ca, .func (.func 47) #[] #[.pointer (some ⟨bs, 0, none⟩), .pointer (some ⟨bp, 0, none⟩)]] w3 fun e w' => e = .returned (.tuple #[]) ∧ Work w w' g n bs (vAddS n l xs c) := by
  have e0 : tab n (fun j => l.getD j 0) = l := by subst hl; exact tab_self l
  rw [← upto_zero n (fun j => l.getD j 0 ^^^ mulN (xs.getD j 0) c) (fun j => l.getD j 0) |>.trans e0] at hW
  refine (each_any (fun i wr => Work w wr g n bs (upto n (fun j => l.getD j 0 ^^^ mulN (xs.getD j 0) c) (fun j => l.getD j 0) i) ∧ Held wr bp (.func (.func 87) #[] #[.pointer (some ⟨p, 0, none⟩), .pointer (some ⟨p + 1, 0, none⟩)]) 105 ∧ Timing wr p c) 47 _ B n ca A xs w3 hn (enters_at Tryz.func47 (by kernel_rfl) rfl)
    (fun i wr _ hr => h.keep hB hr.1.keep) ⟨hW, hp, ht⟩ (fun i wr hi hr => ?_)).mono fun e w' he => ⟨he.1, by have := he.2.1; rwa [upto_all] at this⟩
  refine (combstep i (xs.getD i 0) c (l.getD i 0) bp p bs g n wr hr.2.1 hr.2.2 hr.1.held (hr.1.meets hi) (h.all.getD i) (hlb.getD i) hc hg hr.1.ne).mono ?_
  rintro e w' ⟨he, m, rfl⟩
  refine ⟨he, ?_, hr.2.1.step hg, (hr.2.2.setCell hgp hgp').drewN m⟩
  rw [← upto_set n _ _ i hi]
  exact hr.1.step (xor_lt (hlb.getD i) (mulN_lt _ (h.all.getD i)))
end
end Go.Proofs.YtifopodnceopjaaGreatDoor
/- Contracts of the landed vector code: multiples, leads, units. -/
namespace Go.Proofs.YtifopodnceopjaaGreatDoor
open Go.RowKit
set_option linter.unusedVariables false
set_option linter.unusedSimpArgs false

theorem Work.later {w wr w' : World} {g n bs : Nat} {l : List Nat} (h : Work w wr g n bs l) (k : Keep wr w') : Work w w' g n bs l :=
  ⟨h.own.keep k, h.held.keep k, h.keep.trans k, h.ne, h.new⟩
theorem Timing.later {w w' : World} {p c : Nat} (h : Timing w p c) (k : Keep w w') : Timing w' p c :=
  ⟨Nat.lt_of_lt_of_le h.1 k.size, fun j hj => ⟨(k.cell (p := ⟨p, j, none⟩) (show p < _ by have := h.1; omega)).trans (h.2 j hj).1, (k.cell (p := ⟨p + 1, j, none⟩) h.1).trans (h.2 j hj).2⟩⟩
set_option maxRecDepth 100000 in
theorem vscale_any (B n ca c : Nat) (A : Option Addr) (xs : List Nat) (w : World) (h : Bytes w B A n xs) (hB : B ≤ w.heap.size) (hn : n ≤ 140737488351232) (hc : c < 256) :
    Calls Tryz.prog 62 #[.slice A n ca, .int .u8 c] w (NewBytes w (vScale n xs c)) := by
  have hmk := run_make_bytes (P := Tryz.prog) Tryz.underlying22 info5 n (by omega)
  have HH := Lib.hid h
  clear h
  obtain ⟨g, hg⟩ : ∃ g, w.heap.size = g := ⟨_, rfl⟩
  have HW := Lib.hid (Work.start (n := n) (g := g) hg (Keep.refl w) (by omega))
  have HG := Lib.hid hg
  go_enter Tryz.func62, Tryz.ntmps62
  go_wp2_with fail
  refine (times_at c (g + 1 + 1) _ hc (by simp [hg])).mono ?_
  rintro e w5 ⟨rfl, ht, hk⟩
  have HK := Lib.hid hk
  have HT := Lib.hid ht
  clear ht hk hmk
  obtain ⟨p, hp⟩ : ∃ p, g + 1 + 1 = p := ⟨_, rfl⟩
  obtain ⟨bs, hbs⟩ : ∃ bs, g + 1 = bs := ⟨_, rfl⟩
  rw [hp, hbs]
  rw [hbs] at HW
  rw [hp] at HT
  have HP := Lib.hid hp
  clear hg hp
  go_wp2_with fail
  have hpc : Held (w5.alloc (.cells #[.func (.func 87) #[] #[.pointer (some ⟨p, 0, none⟩), .pointer (some ⟨p + 1, 0, none⟩)]] 105)) w5.heap.size _ 105 := Held.new rfl _ 105
  have h5 : g + 1 + 1 ≤ w5.heap.size := by have := HK.out.size; simp at this; have := HG.out; omega
  refine (scale_each (HW.out.later ((HK.out).alloc _ _)) hpc (HT.out.alloc _) (by omega) (by have := HP.out; omega) (by have := HP.out; omega) HH.out hB hn hc).mono ?_
  rintro e w6 ⟨rfl, hW⟩
  have c1 := hW.held.cell
  have HW6 := Lib.hid hW
  clear hW hpc
  go_wp2_with fail
  go_ret
  exact ⟨_, n, n, rfl, HW6.out.own, HW6.out.keep⟩
set_option maxRecDepth 100000 in
theorem vaddS_any (B B' n ca cb c : Nat) (A A' : Option Addr) (xs ys : List Nat) (w : World) (h : Bytes w B A n xs) (h' : Bytes w B' A' n ys) (hB : B ≤ w.heap.size) (hB' : B' ≤ w.heap.size) (hn : n ≤ 140737488351232) (hc : c < 256) :
    Calls Tryz.prog 119 #[.slice A n ca, .slice A' n cb, .int .u8 c] w (NewPair w (vAddS n xs ys c) 0) := by
  have b0 : ((n : Int) != (n : Int)) = false := by simp
  have hmk := run_make_bytes (P := Tryz.prog) Tryz.underlying22 info5 n (by omega)
  have HH := Lib.hid h
  have HH' := Lib.hid h'
  clear h h'
  obtain ⟨bb, hbb⟩ : ∃ bb, w.heap.size = bb := ⟨_, rfl⟩
  have HW := Lib.hid (Work.start (n := n) (g := bb + 1) (by simp [hbb]) ((Keep.refl w).alloc #[Value.slice A' n cb] 22) (by omega))
  have HBB := Lib.hid (((Held.new hbb (.slice A' n cb) 22).alloc (.cells (madeCells #[.int .u8 0] n) 5)).alloc (.cells #[.slice (some ⟨bb + 1, 0, none⟩) n n] 22))
  have HG := Lib.hid hbb
  go_enter Tryz.func119, Tryz.ntmps119
  go_wp2_with fail
  refine (times_at c (bb + 1 + 1 + 1) _ hc (by simp [hbb])).mono ?_
  rintro e w5 ⟨rfl, ht, hk⟩
  have HK := Lib.hid hk
  have HT := Lib.hid ht
  clear ht hk hmk
  obtain ⟨g, hg⟩ : ∃ g, bb + 1 = g := ⟨_, rfl⟩
  obtain ⟨bs, hbs⟩ : ∃ bs, g + 1 = bs := ⟨_, rfl⟩
  obtain ⟨p, hp⟩ : ∃ p, bs + 1 = p := ⟨_, rfl⟩
  rw [hg, hbs, hp]
  rw [hg, hbs] at HW
  rw [hg] at HBB HK
  rw [hg, hbs, hp] at HT
  have HP := Lib.hid (And.intro hg (And.intro hbs hp))
  clear hg hp hbs hbb
  go_wp2_with fail
  have hpc : Held (w5.alloc (.cells #[.func (.func 87) #[] #[.pointer (some ⟨p, 0, none⟩), .pointer (some ⟨p + 1, 0, none⟩)]] 105)) w5.heap.size _ 105 := Held.new rfl _ 105
  have h5 : bs + 1 ≤ w5.heap.size := by have := HK.out.size; simp at this; have := HG.out; have := HP.out; omega
  refine (adds_each (HW.out.later ((HK.out).alloc _ _)) hpc (HT.out.alloc _) ((HBB.out.keep HK.out).alloc _) (by have := HP.out; omega) (by have := HP.out; omega) (by have := HP.out; omega) (by have := HP.out; omega) HH.out HH'.out hB hB' hn hc).mono ?_
  rintro e w6 ⟨rfl, hW⟩
  have c1 := hW.held.cell
  have HW6 := Lib.hid hW
  clear hW hpc
  go_wp2_with fail
  go_ret2
  exact ⟨_, n, n, rfl, HW6.out.own, HW6.out.keep⟩
theorem Held.set {w : World} {b : Nat} {v u : Value} {t : TypeId} (h : Held w b v t) (m : Nat) : Held ((w.setCell ⟨b, 0, none⟩ u).drewN m) b u t := one_setCell h
theorem nonzero_any (x : Nat) (b : Bool) (hb : ((x : Int) != 0) = b) (w : World) :
    Calls Tryz.prog 92 #[.int .u8 x] w fun e w' => e = .returned (.bool b) ∧ w = w' := by
  go_enter Tryz.func92, Tryz.ntmps92
  go_wp2_with fail
  go_ret
  exact ⟨rfl, rfl⟩
set_option maxRecDepth 100000 in
theorem index_any (B n ca : Nat) (A : Option Addr) (xs : List Nat) (w : World) (h : Bytes w B A n xs) (_hn : n ≤ 140737488351232) :
    Calls Tryz.prog 91 #[.slice A n ca, .func (.func 92) #[] #[]] w fun e w' => e = .returned (.int .i64 (vLead n xs)) ∧ w = w' := by
  go_enter Tryz.func91, Tryz.ntmps91
  go_wp2_with fail
  go_loop [8] (fun i => ∃ k : Nat, k ≤ n ∧ i = .int .i64 k ∧ ∀ j, j < k → xs.getD j 0 = 0) (fun i => n - (intOf i).toNat)
  case atStart => exact ⟨0, by omega, rfl, fun j hj => by omega⟩
  case round =>
    obtain ⟨k, hk, rfl, hz⟩ := hrel
    have HZ := Lib.hid hz
    clear hz
    by_cases hlt : k < n
    · obtain ⟨b1, o1, rfl, hb1, hc1⟩ := h.at_ hlt
      have hx := h.all.getD k
      by_cases h0 : xs.getD k 0 = 0
      · have hs : Hid (∀ j, j < k + 1 → xs.getD j 0 = 0) := fun j hj => by
          by_cases e : j = k
          · subst e; exact h0
          · exact HZ.out j (by omega)
        have b1' : (((xs.getD k 0 : Nat) : Int) != 0) = false := by rw [h0]; rfl
        generalize xs.getD k 0 = x at *
        have HB1 := Lib.hid b1'
        clear h0 b1'
        go_wp2_with fail
        refine (nonzero_any x false HB1.out _).mono ?_
        rintro e w1 ⟨rfl, rfl⟩
        go_wp2_with fail
        go_round
        case rel => exact ⟨k + 1, by omega, by go_num, hs.out⟩
        case measure => simp [intOf]; omega
      · have hv : Hid (vLead n xs = (k : Int)) := by
          show _ = _
          have h1 := (vLeadTo_some xs n k).2 ⟨hlt, h0, HZ.out⟩
          rw [vLead, h1]
        have b1' : (((xs.getD k 0 : Nat) : Int) != 0) = true := by rw [bne_iff_ne]; omega
        generalize xs.getD k 0 = x at *
        have HB1 := Lib.hid b1'
        clear h0 b1'
        go_wp2_with fail
        refine (nonzero_any x true HB1.out _).mono ?_
        rintro e w1 ⟨rfl, rfl⟩
        go_wp2_with fail
        go_ret
        exact ⟨by rw [hv.out]; rfl, rfl⟩
    · have hv : Hid (vLead n xs = -1) := by
        show _ = _
        have h1 := (vLeadTo_none xs n).2 fun i hi => HZ.out i (by omega)
        rw [vLead, h1]
      go_wp2_with fail
      go_ret
      exact ⟨by rw [hv.out]; rfl, rfl⟩
theorem vlead_eq (B n ca : Nat) (A : Option Addr) (xs : List Nat) (w : World) (h : Bytes w B A n xs) (hn : n ≤ 140737488351232) :
    Calls Tryz.prog 59 #[.slice A n ca] w fun e w' => e = .returned (.int .i64 (vLead n xs)) ∧ w = w' := by
  go_enter Tryz.func59, Tryz.ntmps59
  go_wp2_with fail
  refine (index_any B n ca A xs w h hn).mono ?_
  rintro e w1 ⟨rfl, rfl⟩
  go_wp2_with fail
  go_ret
  exact ⟨rfl, rfl⟩
set_option maxRecDepth 100000 in
theorem vunit_in (n i : Nat) (hi : i < n) (hn : n ≤ 70000) (w : World) :
    Calls Tryz.prog 6 #[.int .i64 n, .int .i64 i] w (NewPair w (vUnit n i) 0) := by
  have hmk := run_make_bytes (P := Tryz.prog) Tryz.underlying22 info5 n (by omega)
  have e1 : (0 : Int) ≤ (i : Int) := Int.natCast_nonneg _
  have e2 : (i : Int) < (n : Int) := by omega
  have e3 : (n : Int) ≤ 70000 := by omega
  have hm := Own.made w 5 n (by omega)
  have hc := hm.cell hi
  have hf := hm.frozen i
  have hs := hm.stored (i := i) (v := 1) (by decide)
  rw [World.setCell_alloc_new, vUnit_set n i] at hs
  have HS := Lib.hid hs
  clear hs
  generalize (List.replicate n 0).getD i 0 = z at hc
  clear hm
  go_enter Tryz.func6, Tryz.ntmps6
  go_wp2_with fail
  go_ret2
  exact ⟨_, n, n, rfl, HS.out, (Keep.refl w).alloc _ _⟩

end Go.Proofs.YtifopodnceopjaaGreatDoor
/- Contracts of the landed vector code: combinations. -/
namespace Go.Proofs.YtifopodnceopjaaGreatDoor
open Go.RowKit
set_option linter.unusedVariables false
set_option linter.unusedSimpArgs false

set_option maxRecDepth 100000 in
theorem fit_any (B n ca : Nat) (A : Option Addr) (rs : List RowV) (w : World) (h : RowsAt w B A n rs) (hn : n ≤ 140737488351232) (r0 : RowV) (hr0 : rs[0]? = some r0) :
    Calls Tryz.prog 44 #[.slice A n ca] w fun e w' => e = .returned (.bool (decide (∀ r ∈ rs, r.n = r0.n))) ∧ ∃ m, w' = w.drewN m := by
  have h0 : 0 < n := by
    rcases Nat.eq_zero_or_pos n with e | e
    · rw [← h.1] at e
      have := List.eq_nil_of_length_eq_zero e
      subst this; cases hr0
    · exact e
  obtain ⟨b, off, r, rfl, hb, hr, hc, hby, hrn, _⟩ := h.at_ (k := 0) h0
  obtain rfl : r0 = r := Option.some.inj (hr0.symm.trans hr)
  have e0 : (0 : Int) < (n : Int) := by omega
  have HH := Lib.hid h
  have HR := Lib.hid hr0
  rw [Nat.add_zero] at hc
  clear h hr0 hr hby
  go_enter Tryz.func44, Tryz.ntmps44
  go_wp2_with fail
  go_loopw [6] (fun i wr => ∃ k : Nat, k ≤ n ∧ i = .int .i64 k ∧ (∃ m, wr = w.drewN m) ∧ ∀ j r, j < k → rs[j]? = some r → r.n = r0.n) (fun i _ => n - (intOf i).toNat)
  case atStart => exact ⟨0, by omega, rfl, ⟨0, rfl⟩, fun j r hj => by omega⟩
  case round =>
    obtain ⟨k, hk, rfl, ⟨m, rfl⟩, hall⟩ := hrel
    have HA := Lib.hid hall
    clear hall
    by_cases hlt : k < n
    · obtain ⟨b', off', r, e, hb', hr, hck, hby, hrn', _⟩ := HH.out.at_ hlt
      injection e with e
      injection e with e1 e2
      subst e1 e2
      have HRK := Lib.hid hr
      have e1 : (0 : Int) ≤ (k : Int) := Int.natCast_nonneg _
      have e2 : (k : Int) < (n : Int) := by omega
      clear hby hr
      by_cases hd : r.n = r0.n
      · rw [hd] at hck
        have bd : ((r0.n : Int) != (r0.n : Int)) = false := by simp
        have HD := Lib.hid hd
        clear hd
        go_wp2_with fail
        go_quiet (fail)
        go_wp2_with fail
        have HA2 : Hid (∀ j r, j < k + 1 → rs[j]? = some r → r.n = r0.n) := fun j r' hj hr' => by
          by_cases e : j = k
          · subst e
            rw [HRK.out] at hr'
            injection hr' with hr'
            subst hr'
            exact HD.out
          · exact HA.out j r' (by omega) hr'
        go_round
        case rel => exact ⟨k + 1, by omega, by go_num, ⟨_, rfl⟩, HA2.out⟩
        case measure => simp [intOf]; omega
      · have bd : ((r.n : Int) != (r0.n : Int)) = true := by rw [bne_iff_ne]; omega
        have hno : ¬ ∀ r ∈ rs, r.n = r0.n := fun h => hd (h r (List.mem_of_getElem? HRK.out))
        have HC : Hid (decide (∀ r ∈ rs, r.n = r0.n) = false) := by show _ = _; exact decide_eq_false hno
        clear hno hd
        go_wp2_with fail
        go_quiet (fail)
        go_wp2_with fail
        go_ret
        exact ⟨by rw [HC.out]; rfl, _, World.drewN_drewN ..⟩
    · obtain rfl : k = n := by omega
      have hyes : ∀ r ∈ rs, r.n = r0.n := fun r hr => by
        obtain ⟨j, hj, e⟩ := List.getElem_of_mem hr
        exact HA.out j r (by rw [← HH.out.1]; exact hj) (by rw [← e]; exact List.getElem?_eq_getElem hj)
      have HC : Hid (decide (∀ r ∈ rs, r.n = r0.n) = true) := by show _ = _; exact decide_eq_true hyes
      clear hyes
      go_wp2_with fail
      go_ret
      exact ⟨by rw [HC.out]; rfl, _, rfl⟩
set_option maxRecDepth 100000 in
set_option maxHeartbeats 1000000 in
theorem vcomb_any (B B' n ca cb : Nat) (A A' : Option Addr) (rs : List RowV) (cs : List Nat) (w : World) (h : RowsAt w B A n rs) (h' : Bytes w B' A' n cs) (hB : B ≤ w.heap.size) (hB' : B' ≤ w.heap.size) (h0 : n ≠ 0) (hn : n ≤ 140737488351232)
    (r0 : RowV) (hr0 : rs[0]? = some r0) :
    Calls Tryz.prog 14 #[.slice A n ca, .slice A' n cb] w (NewPair w (combOf r0.n rs cs) (combErr r0.n rs)) := by
  have b0 : ((n : Int) == 0) = false := beq_eq_false_iff_ne.2 (by omega)
  have b1 : ((n : Int) != (n : Int)) = false := by simp
  obtain ⟨b, off, r, rfl, hb, hr, hc, hby, hrn, _⟩ := h.at_ (k := 0) (by omega)
  obtain rfl : r0 = r := Option.some.inj (hr0.symm.trans hr)
  have e0 : (0 : Int) < (n : Int) := by omega
  have hmk := run_make_bytes (P := Tryz.prog) Tryz.underlying22 info5 r0.n (by omega)
  have HH := Lib.hid h
  have HH' := Lib.hid h'
  have HR := Lib.hid hr0
  rw [Nat.add_zero] at hc
  clear h h' hr0 hr hby
  by_cases hf : ∀ r ∈ rs, r.n = r0.n
  · have HF := Lib.hid hf
    have HC : Hid (combOf r0.n rs cs = vComb r0.n (rowsOf rs) cs n) := by show _ = _; rw [combOf, if_pos hf, HH.out.1]
    have HE : Hid (combErr r0.n rs = 0) := by show _ = _; rw [combErr, if_pos hf]
    have hft := fit_any B n ca (some ⟨b, off, none⟩) rs w HH.out hn r0 HR.out
    rw [decide_eq_true hf] at hft
    have HFT := Lib.hid hft
    clear hf hft
    go_enter Tryz.func14, Tryz.ntmps14
    go_wp2_with fail
    refine HFT.out.mono ?_
    rintro e w1 ⟨rfl, m, rfl⟩
    go_wp2_with fail
    clear hc hmk
    go_loopw [29] (fun i wr => ∃ k : Nat, k ≤ n ∧ i = .int .i64 k ∧ Work w wr w.heap.size r0.n (w.heap.size + 1) (vComb r0.n (rowsOf rs) cs k)) (fun i _ => n - (intOf i).toNat)
    case atStart =>
      refine ⟨0, by omega, rfl, ?_⟩
      rw [vComb_zero]
      exact Work.start (w1 := w.drewN m) rfl (Keep.drewN (Keep.refl _) _) (by omega)
    case round =>
      obtain ⟨k, hk, rfl, hW⟩ := hrel
      by_cases hlt : k < n
      · obtain ⟨b', off', r, e, hb', hr, hck, hby, hrn', _⟩ := (HH.out.keep hB hW.keep).at_ hlt
        injection e with e
        injection e with e1 e2
        subst e1 e2
        obtain ⟨b3, o3, rfl, hb3, hc3⟩ := (HH'.out.keep hB' hW.keep).at_ hlt
        have hcc := HH'.out.all.getD k
        have hd : r.n = r0.n := HF.out r (List.mem_of_getElem? hr)
        have hs := vComb_succ r0.n k (rowsOf rs) cs
        rw [rowsOf_getD hr] at hs
        rw [hd] at hck
        have HBR : Hid (Bytes w B r.A r0.n r.xs) := by show Bytes _ _ _ _ _; rw [← hd]; exact (HH.out.2.1 r (List.mem_of_getElem? hr)).1
        generalize cs.getD k 0 = y at *
        have HS := Lib.hid hs
        have HW := Lib.hid hW
        have hsz := hW.keep.size
        have e1 : (0 : Int) ≤ (k : Int) := Int.natCast_nonneg _
        have e2 : (k : Int) < (n : Int) := by omega
        have HCK := Lib.hid hck
        clear hs hd hby hr hW hck
        go_wp2_with fail
        refine (times_at y wr.heap.size wr hcc rfl).mono ?_
        rintro e w5 ⟨rfl, ht, hk5⟩
        have hck := (hk5.cell (p := ⟨b, off + k, none⟩) (show b < _ by omega)).trans HCK.out
        have HT := Lib.hid ht
        have HK := Lib.hid hk5
        clear ht hk5 hc3
        obtain ⟨p, hp⟩ : ∃ p, wr.heap.size = p := ⟨_, rfl⟩
        rw [hp]
        rw [hp] at HT
        have HP := Lib.hid hp
        clear hp
        have hck2 : (w5.alloc (.cells #[.func (.func 87) #[] #[.pointer (some ⟨p, 0, none⟩), .pointer (some ⟨p + 1, 0, none⟩)]] 105)).cell? ⟨b, off + k, none⟩ = some (.slice r.A r0.n r.c) := (World.cell?_alloc_past _ _ _ (show b < _ by have := HK.out.size; omega)).trans hck
        have HCK2 := Lib.hid hck
        clear hck
        go_wp2_with fail
        have hpc : Held (w5.alloc (.cells #[.func (.func 87) #[] #[.pointer (some ⟨p, 0, none⟩), .pointer (some ⟨p + 1, 0, none⟩)]] 105)) w5.heap.size _ 105 := Held.new rfl _ 105
        have h5 : p + 1 < w5.heap.size := HT.out.1
        have hg5 : w.heap.size + 1 < p := by rw [← HP.out]; exact lt_of_block HW.out.held
        refine (comb_each (by simp [vComb, tab_length]) ?_ (HW.out.later (HK.out.alloc _ _)) hpc (HT.out.alloc _) (by omega) (by omega) (by omega) HBR.out hB hrn hcc).mono ?_
        · exact HW.out.own.2
        · rw [HS.out]
          rintro e w6 ⟨rfl, hW⟩
          have HW6 := Lib.hid hW
          clear hW hpc hck2
          go_wp2_with fail
          go_round
          case rel => exact ⟨k + 1, by omega, by go_num, HW6.out⟩
          case measure => simp [intOf]; omega
      · obtain rfl : k = n := by omega
        have c1 := hW.held.cell
        have HW := Lib.hid hW
        clear hW
        go_wp2_with fail
        go_ret2
        rw [HC.out, HE.out]
        exact ⟨_, _, _, rfl, HW.out.own, HW.out.keep⟩
  · have HC : Hid (combOf r0.n rs cs = []) := by show _ = _; rw [combOf, if_neg hf]
    have HE : Hid (combErr r0.n rs = 21) := by show _ = _; rw [combErr, if_neg hf]
    have hft := fit_any B n ca (some ⟨b, off, none⟩) rs w HH.out hn r0 HR.out
    rw [decide_eq_false hf] at hft
    have HFT := Lib.hid hft
    clear hf hft
    go_enter Tryz.func14, Tryz.ntmps14
    go_wp2_with fail
    refine HFT.out.mono ?_
    rintro e w1 ⟨rfl, m, rfl⟩
    go_wp2_with fail
    go_ret2
    rw [HC.out, HE.out]
    exact ⟨none, 0, 0, rfl, Own.none_ _ _ _, Keep.drewN (Keep.refl _) _⟩

end Go.Proofs.YtifopodnceopjaaGreatDoor
/- What the landed calls of layer 6 lay in new memory. -/
namespace Go.Proofs.YtifopodnceopjaaGreatDoor
open Go.RowKit
set_option linter.unusedVariables false
/-- Rows in new memory, each a slice of its own: what the code tells. -/
def OwnedRows (w w' : World) (A : Option Addr) (n c : Nat) (M : List (List Nat)) (rs : List RowV) : Prop :=
  OwnRows w' w.heap.size 22 A n c rs ∧ (∀ r ∈ rs, Own w' w.heap.size 5 r.A r.n r.c r.xs) ∧ rowsXs rs = M ∧ Keep w w'
def NewOwned (w : World) (M : List (List Nat)) (er : Int) (e : Ending) (w' : World) : Prop :=
  ∃ A n c, e = .returned (.tuple #[.slice A n c, .int .i64 er]) ∧ ∃ rs, OwnedRows w w' A n c M rs
theorem OwnedRows.rowsIn {w w' : World} {A : Option Addr} {n c : Nat} {M : List (List Nat)} {rs : List RowV} (h : OwnedRows w w' A n c M rs) : RowsIn w' (fun b => w.heap.size ≤ b ∧ b < w'.heap.size) A n rs :=
  RowsIn.of_own h.1 (fun r hr => (h.2.1 r hr).lies.mono fun b hb => (h.2.1 r hr).1.lt b hb) (fun b hb => h.1.lt b hb)
theorem NewOwned.nothing {w w' : World} (k : Keep w w') (er : Int) : NewOwned w [] er (.returned (.tuple #[.slice none 0 0, .int .i64 er])) w' := ⟨none, 0, 0, rfl, [], OwnRows.none_ _ _ _, fun r hr => by simp at hr, rfl, k⟩
/-- Rows being filled in: those not yet laid are none. -/
structure Fill (W w : World) (g n : Nat) (rs : List RowV) : Prop where
  own : OwnRows w W.heap.size 22 (some ⟨g, 0, none⟩) n n rs
  rows : ∀ r ∈ rs, Own w W.heap.size 5 r.A r.n r.c r.xs
  keep : Keep W w
namespace Fill
variable {W w w' : World} {g n : Nat} {rs : List RowV}
theorem made {w1 : World} (k : Keep W w1) (hn : n ≤ 1000000) (hg : w1.heap.size = g) : Fill W (w1.alloc (.cells (madeCells #[.slice none 0 0] n) 22)) g n (List.replicate n ⟨none, 0, 0, []⟩) := by
  subst hg
  refine ⟨?_, fun r hr => ?_, k.alloc _ _⟩
  · have h := OwnRows.made w1 22 n hn
    refine ⟨h.1, ?_⟩
    rcases h.2 with h1 | ⟨g, cap, cur, hv, hg, r⟩
    · exact Or.inl h1
    · exact Or.inr ⟨g, cap, cur, hv, Nat.le_trans k.size hg, r⟩
  · obtain ⟨_, rfl⟩ := List.mem_replicate.1 hr
    exact Own.none_ _ _ _
theorem later (h : Fill W w g n rs) (k : Keep w w') : Fill W w' g n rs := ⟨h.own.keep k, fun r hr => (h.rows r hr).keep k, h.keep.trans k⟩
theorem length (h : Fill W w g n rs) : rs.length = n := h.own.length
theorem cell (h : Fill W w g n rs) {i : Nat} {r : RowV} (hi : rs[i]? = some r) : w.cell? ⟨g, i, none⟩ = some (.slice r.A r.n r.c) := by
  have hc := World.ownsRow.cells h.own (g := g) rfl i r.val (by rw [List.getElem?_map, hi]; rfl)
  have ha : (⟨g, 0, none⟩ : Addr).add i = ⟨g, i, none⟩ := by unfold Addr.add; split <;> simp_all
  rwa [ha] at hc
theorem any (h : Fill W w g n rs) {i : Nat} (hi : i < n) : ∃ v, w.cell? ⟨g, i, none⟩ = some v := by
  have hl : i < rs.length := by rw [h.length]; exact hi
  exact ⟨_, h.cell (List.getElem?_eq_getElem hl)⟩
theorem frozen (h : Fill W w g n rs) (i : Nat) : w.frozen? ⟨g, i, none⟩ = false := World.ownsRow.frozenAt h.own i
theorem lt (h : Fill W w g n rs) (hn : 0 < n) : W.heap.size ≤ g ∧ g < w.heap.size := by
  obtain ⟨g', e, h1, h2⟩ := h.own.block hn
  injection e with e
  injection e with e
  subst e
  exact ⟨h1, h2⟩
theorem set (h : Fill W w g n rs) {r : RowV} (i : Nat) (o : Own w W.heap.size 5 r.A r.n r.c r.xs) (hn : 0 < n) : Fill W (w.setCell ⟨g, i, none⟩ (.slice r.A r.n r.c)) g n (rs.set i r) := by
  have hfar : ∀ r' : RowV, Own w W.heap.size 5 r'.A r'.n r'.c r'.xs → Own (w.setCell ⟨g, i, none⟩ (.slice r.A r.n r.c)) W.heap.size 5 r'.A r'.n r'.c r'.xs := fun r' o' => o'.far (p := ⟨g, i, none⟩) (by
    rcases blocks_apart o' h.own (by decide) with z | z
    · rw [z]; simp
    · exact fun e => z (e.trans rfl)) _
  refine ⟨h.own.stored r, fun r' hr' => ?_, h.keep.setCell (h.lt hn).1 _⟩
  rcases List.mem_or_eq_of_mem_set hr' with h1 | h1
  · exact hfar r' (h.rows r' h1)
  · subst h1; exact hfar r' o
end Fill
end Go.Proofs.YtifopodnceopjaaGreatDoor
/- The landed code of layer 6: sizes, comparing, the identity. -/
namespace Go.Proofs.YtifopodnceopjaaGreatDoor
open Go.RowKit
set_option linter.unusedVariables false
set_option linter.unusedSimpArgs false
end Go.Proofs.YtifopodnceopjaaGreatDoor
/- The landed code of layer 6: transposes, products. -/
namespace Go.Proofs.YtifopodnceopjaaGreatDoor
open Go.RowKit
set_option linter.unusedVariables false
set_option linter.unusedSimpArgs false
/-- Rows being filled in, one of them number by number. -/
structure Fill2 (W w : World) (g n k : Nat) (rs : List RowV) (g2 m : Nat) (part : List Nat) : Prop where
  own : OwnRows w W.heap.size 22 (some ⟨g, 0, none⟩) n n (rs.set k ⟨some ⟨g2, 0, none⟩, m, m, part⟩)
  rows : ∀ r ∈ rs, Own w W.heap.size 5 r.A r.n r.c r.xs ∧ (Value.slice r.A r.n r.c).ownBlock ≠ some g2
  row : Own w W.heap.size 5 (some ⟨g2, 0, none⟩) m m part
  keep : Keep W w
namespace Fill2
variable {W w w' : World} {g n k g2 m : Nat} {rs : List RowV} {part : List Nat}
theorem ne (h : Fill2 W w g n k rs g2 m part) : g ≠ g2 := fun e => by
  rcases blocks_apart h.row h.own (by decide) with z | z
  · simp [Value.ownBlock] at z
  · exact z (by rw [e]; rfl)
theorem start (h : Fill W w g n rs) (hk : k < n) (hm : m ≤ 140737488355328) (hg2 : w.heap.size = g2) :
    Fill2 W ((w.alloc (.cells (madeCells #[.int .u8 0] m) 5)).setCell ⟨g, k, none⟩ (.slice (some ⟨g2, 0, none⟩) m m)) g n k rs g2 m (List.replicate m 0) := by
  subst hg2
  have hf := h.later ((Keep.refl w).alloc (madeCells #[.int .u8 0] m) 5)
  have ho := (Own.made w 5 m hm).lower h.keep.size
  have hs := hf.set (r := ⟨some ⟨w.heap.size, 0, none⟩, m, m, List.replicate m 0⟩) k ho (by omega)
  have hg := (h.lt (by omega)).2
  refine ⟨hs.own, fun r hr => ⟨?_, fun e => ?_⟩, ?_, hs.keep⟩
  · refine (hf.rows r hr).far (p := ⟨g, k, none⟩) ?_ _
    rcases blocks_apart (hf.rows r hr) hf.own (by decide) with z | z
    · rw [z]; simp
    · exact fun e => z (e.trans rfl)
  · have := ((h.rows r hr).1.lt _ e).2; omega
  · exact ho.far (p := ⟨g, k, none⟩) (by simp [Value.ownBlock]; omega) _
theorem cell (h : Fill2 W w g n k rs g2 m part) (hk : k < rs.length) : w.cell? ⟨g, k, none⟩ = some (.slice (some ⟨g2, 0, none⟩) m m) := by
  have hc := World.ownsRow.cells h.own (g := g) rfl k (.slice (some ⟨g2, 0, none⟩) m m) (by rw [List.getElem?_map, List.getElem?_set_self hk]; rfl)
  have ha : (⟨g, 0, none⟩ : Addr).add k = ⟨g, k, none⟩ := by unfold Addr.add; split <;> simp_all
  rwa [ha] at hc
theorem store (h : Fill2 W w g n k rs g2 m part) (i v : Nat) (hv : v < 256) : Fill2 W (w.setCell ⟨g2, i, none⟩ (.int .u8 (v : Int))) g n k rs g2 m (part.set i v) := by
  have ht : Turned (fun b => b = g2) w (w.setCell ⟨g2, i, none⟩ (.int .u8 (v : Int))) := Turned.set (F := fun b => b = g2) _ _ _ rfl
  refine ⟨?_, fun r hr => ⟨(h.rows r hr).1.far (p := ⟨g2, i, none⟩) (h.rows r hr).2 _, (h.rows r hr).2⟩, h.row.stored hv, h.keep.setCell ?_ _⟩
  · have z := h.own.turned ht fun b hb e => by
      have hb : g = b := by simpa [Value.ownBlock] using hb
      exact h.ne (hb.trans e)
    unfold OwnRows at z ⊢
    rw [List.map_set] at z ⊢
    exact z
  · exact (h.row.1.lt g2 rfl).1
theorem drew (h : Fill2 W w g n k rs g2 m part) : Fill2 W w.drew g n k rs g2 m part := ⟨h.own, h.rows, h.row, h.keep.drew⟩
end Fill2
theorem RowsIn.rowsAt {w : World} {F : Nat → Prop} {A : Option Addr} {n : Nat} {rs : List RowV} (h : RowsIn w F A n rs) {B : Nat} (hF : ∀ b, F b → b < B) (hb : ∀ r ∈ rs, r.n ≤ 140737488351232) : RowsAt w B A n rs :=
  ⟨h.1, fun r hr => ⟨(h.2.1 r hr).bytes hF, hb r hr, (h.2.1 r hr).2.2.1⟩, fun hp => by
    obtain ⟨b, off, e, hFb, hc⟩ := h.2.2 hp
    exact ⟨b, off, e, hF b hFb, hc⟩⟩
end Go.Proofs.YtifopodnceopjaaGreatDoor
/- The landed code of layer 6: products. -/
namespace Go.Proofs.YtifopodnceopjaaGreatDoor
open Go.RowKit
set_option linter.unusedVariables false
set_option linter.unusedSimpArgs false
end Go.Proofs.YtifopodnceopjaaGreatDoor
/- The tables of powers and exponents as they stand behind k rounds of their making. -/
namespace Go.Proofs.YtifopodnceopjaaGreatDoor
open Go.RowKit

def tabN : Nat → List Nat
  | 0 => List.replicate 511 0
  | k + 1 => ((tabN k).set k (pw k)).set (255 + pw k) k
def cellsU8 (l : List Nat) : Array Value := (l.map fun n : Nat => Value.int .u8 (n : Int)).toArray
/-- The zeros of a table. -/
def zeros : Array Value := cellsU8 (tabN 0)

theorem tabN_length (k : Nat) : (tabN k).length = 511 := by
  induction k with
  | zero => rw [tabN, List.length_replicate]
  | succ k ih => simp [tabN, ih]
theorem tabN_get (k : Nat) (hk : k ≤ 255) : ∀ i, i < k → (tabN k)[i]? = some (pw i) ∧ (tabN k)[255 + pw i]? = some i := by
  induction k with
  | zero => intro i hi; omega
  | succ k ih =>
    intro i hi
    have hl := tabN_length k
    have hp := pw_lt k
    simp only [tabN, List.getElem?_set, List.length_set, hl]
    by_cases e : i = k
    · subst e
      have h1 : ¬ 255 + pw i = i := by omega
      refine ⟨by rw [if_neg h1, if_pos rfl, if_pos (by omega)], by rw [if_pos rfl, if_pos (by omega)]⟩
    · have h := ih (by omega) i (by omega)
      have hq : pw i ≠ pw k := fun h => e (by have := pw_inj h; rwa [Nat.mod_eq_of_lt (by omega), Nat.mod_eq_of_lt (by omega)] at this)
      have h1 : ¬ 255 + pw k = i := by omega
      have h2 : ¬ k = i := by omega
      have h3 : ¬ 255 + pw k = 255 + pw i := by omega
      have h4 : ¬ k = 255 + pw i := by omega
      exact ⟨by rw [if_neg h1, if_neg h2]; exact h.1, by rw [if_neg h3, if_neg h4]; exact h.2⟩
theorem tab_pw (i : Nat) (h : i < 255) : (tabN 255)[i]? = some (pw i) := (tabN_get 255 (by decide) i h).1
theorem tab_lg (a : Nat) (h : a < 256) (h1 : 1 ≤ a) : (tabN 255)[255 + a]? = some (lg a) := by
  have := (tabN_get 255 (by decide) (lg a) (lg_lt a h h1)).2
  rwa [pw_lg a h h1] at this
theorem cellsU8_get (l : List Nat) (i : Nat) : (cellsU8 l)[i]? = l[i]?.map fun n : Nat => Value.int .u8 (n : Int) := by simp [cellsU8]
theorem cellsU8_some (l : List Nat) (i x : Nat) (h : l[i]? = some x) : (cellsU8 l)[i]? = some (.int .u8 (x : Int)) := by rw [cellsU8_get, h]; rfl
theorem cellsU8_set (l : List Nat) (i x : Nat) : (cellsU8 l).setIfInBounds i (.int .u8 (x : Int)) = cellsU8 (l.set i x) := by
  simp [cellsU8, List.map_set]
theorem cellsU8_size (l : List Nat) : (cellsU8 l).size = l.length := by simp [cellsU8]
theorem cell_table {w : World} {g i : Nat} {l : List Nat} {t : TypeId} (h : w.heap[g]? = some (.cells (cellsU8 l) t)) (hi : i < l.length) : w.cell? ⟨g, i, none⟩ = some (.int .u8 ((l[i] : Nat) : Int)) := by
  rw [cell_of_row w g i _ _ _ h]
  exact cellsU8_some l i _ (List.getElem?_eq_getElem hi)
theorem heap_set2 {w : World} {g i j x y : Nat} {l : List Nat} {t : TypeId} (h : w.heap[g]? = some (.cells (cellsU8 l) t)) :
    ((w.setCell ⟨g, i, none⟩ (.int .u8 (x : Int))).setCell ⟨g, j, none⟩ (.int .u8 (y : Int))).heap[g]? = some (.cells (cellsU8 ((l.set i x).set j y)) t) := by
  have h1 := heap_setCell_same w g i _ t (.int .u8 (x : Int)) h
  rw [cellsU8_set] at h1
  have h2 := heap_setCell_same _ g j _ t (.int .u8 (y : Int)) h1
  rwa [cellsU8_set] at h2
theorem cellsU8_one (l : List Nat) : (cellsU8 l).all (·.oneCell') = true := by
  rw [Array.all_eq_true_iff_forall_mem]
  intro v hv
  simp only [cellsU8, List.mem_toArray, List.mem_map] at hv
  obtain ⟨n, _, rfl⟩ := hv
  rfl
/-- The finished tables, as the cells of one struct. -/
def tabC : Array Value := cellsU8 (tabN 255)
theorem tabC_pw (i : Nat) (h : i < 255) : tabC[i]? = some (.int .u8 ((pw i : Nat) : Int)) := cellsU8_some _ _ _ (tab_pw i h)
theorem tabC_lg (a : Nat) (h : a < 256) (h1 : 1 ≤ a) : tabC[255 + a]? = some (.int .u8 ((lg a : Nat) : Int)) := cellsU8_some _ _ _ (tab_lg a h h1)
theorem tabC_size : tabC.size = 511 := by rw [tabC, cellsU8_size, tabN_length]
theorem tabC_one : tabC.all (·.oneCell') = true := cellsU8_one _
theorem zeros_size : zeros.size = tabC.size := by rw [tabC_size, zeros, cellsU8_size, tabN_length]
/-- A whole struct is stored into the block that was made last. -/
theorem wpList_store_new {P : Program} {ops : Array Oper} {rest : List Oper} {o : Oper} {a : Act} {w : World} {Q : Exit → Act → World → Prop} {c : Array Value} {t : TypeId} (hgd : o.guard = none) (x y : Operand) (ho : o.op = .store t x y)
    (c' : Array Value) (hx : a.eval x = .pointer (some ⟨w.heap.size, 0, none⟩)) (hy : a.eval y = .agg c') (hi : (P.info? t).map (·.size) = some c'.size)
    (hold : c.size = c'.size) (h1 : c'.all (·.oneCell') = true)
    (h : wpList P ops Q rest (a.put o.dst undef) (w.alloc (.cells c' t))) : wpList P ops Q (o :: rest) a (w.alloc (.cells c t)) := by
  refine wpList_store_row hgd t x y ho w.heap.size c' hx hy t c (heap_alloc_new _ _) hi hold h1 ?_
  have e : (w.alloc (.cells c t)).setRow w.heap.size c' = w.alloc (.cells c' t) := by
    simp only [World.setRow, World.alloc]
    congr 1
    apply Array.ext_getElem?
    intro i
    rw [Array.getElem?_modify]
    by_cases h : w.heap.size = i
    · subst h; simp
    · have h' : ¬ i = w.heap.size := fun e => h e.symm
      simp [h, h', Array.getElem?_push]
  rw [e]
  exact h
attribute [irreducible] tabC
end Go.Proofs.YtifopodnceopjaaGreatDoor
/- The contract of the tables' making. -/
namespace Go.Proofs.YtifopodnceopjaaGreatDoor
open Go.RowKit

theorem zero_tab (w : World) : (zeroValue 160).run Tryz.prog w = .ok (.agg zeros) w := by kernel_rfl

theorem info_tab : (Tryz.prog.info? 160).map (·.size) = some 511 := by kernel_rfl
theorem info_cells (l : List Nat) (h : l.length = 511) : (Tryz.prog.info? 160).map (·.size) = some (cellsU8 l).size := by rw [info_tab, cellsU8_size, h]

set_option maxRecDepth 100000 in
theorem build_any (w : World) :
    Calls Tryz.prog 93 #[] w fun e w' => e = .returned (.agg tabC) ∧ Keep w w' := by
  have hz := zero_tab
  go_enter Tryz.func93, Tryz.ntmps93
  go_wp2_with fail
  refine wp_scope_jumps 0 (fun a' w' => Keep w w' ∧ ∃ (k : Nat) (u4 u5 u6 u7 u8 u9 u10 u11 u12 u13 u14 u15 u16 u17 u18 u19 u20 : Value), a' = { tmps := #[.pointer (some ⟨w.heap.size, 0, none⟩), .pointer (some ⟨w.heap.size + 1, 0, none⟩), .int .i64 k, .int .u8 (pw k : Nat), u4, u5, u6, u7, u8, u9, u10, u11, u12, u13, u14, u15, u16, u17, u18, u19, u20, undef], defers := [] } ∧ k < 255 ∧ w'.heap[w.heap.size]? = some (.cells zeros 160) ∧ w'.heap[w.heap.size + 1]? = some (.cells (cellsU8 (tabN k)) 160)) (fun a' _ => 255 - (intOf (a'.tmps.getD 2 undef)).toNat) rfl ?_ ?_
  · go_wp2_with fail
    go_step3
    go_wp2_with fail
    refine (timesX_any 1 (by decide) _).mono ?_
    rintro e w' ⟨rfl, rfl⟩
    go_wp2_with fail
    refine (add_any 1 (xt 1) (by decide) (by decide) _).mono ?_
    rintro e w' ⟨rfl, rfl⟩
    go_wp2_with fail
    go_step3
    refine ⟨rfl, ((Keep.refl _).alloc _ _).alloc _ _, 1, _, _, _, _, _, _, _, _, _, _, _, _, _, _, _, _, _, rfl, by decide, ?_, ?_⟩
    · exact heap_alloc2_old _ _ _
    · rw [heap_alloc2_new]; exact congrArg (fun c => some (Obj.cells c 160)) ((cellsU8_set ((tabN 0).set 0 (pw 0)) 256 0) ▸ rfl)
  · rintro a' w' ⟨hg, k, u4, u5, u6, u7, u8, u9, u10, u11, u12, u13, u14, u15, u16, u17, u18, u19, u20, rfl, hk, hh, hh1⟩
    have hp := pw_lt k
    have hp1 := pw_pos' k
    have hl := tabN_length k
    have hl2 : ((tabN k).set k (pw k)).length = 511 := by simp [hl]
    obtain ⟨v1, hc1⟩ : ∃ v, w'.cell? ⟨w.heap.size + 1, k, none⟩ = some v := ⟨_, cell_table hh1 (by omega)⟩
    obtain ⟨v2, hc2⟩ : ∃ v, w'.cell? ⟨w.heap.size + 1, 255 + pw k, none⟩ = some v := ⟨_, cell_table hh1 (by omega)⟩
    have hf1 := frozen_of_row w' (w.heap.size + 1) k _ _ hh1
    have hf2 := frozen_of_row w' (w.heap.size + 1) (255 + pw k) _ _ hh1
    have hs := heap_set2 (i := k) (j := 255 + pw k) (x := pw k) (y := k) hh1
    have HS := Lib.hid hs
    have HH := Lib.hid hh
    have HL := Lib.hid hl
    clear hs hh hh1 hl hl2
    by_cases hk2 : k < 254
    · go_wp2_with fail
      refine (timesX_any _ hp _).mono ?_
      rintro e w' ⟨rfl, rfl⟩
      go_wp2_with fail
      refine (add_any _ _ hp (xt_lt hp) _).mono ?_
      rintro e w' ⟨rfl, rfl⟩
      go_wp2_with fail
      go_step3
      refine ⟨rfl, ⟨(hg.setCell (Nat.le_succ _) _).setCell (Nat.le_succ _) _, k + 1, _, _, _, _, _, _, _, _, _, _, _, _, _, _, _, _, _, rfl, by omega, ?_, HS.out⟩, ?_⟩
      · rw [heap_setCell_other _ _ _ _ (by simp), heap_setCell_other _ _ _ _ (by simp)]; exact HH.out
      · simp [intOf]; omega
    · have hk3 : k = 254 := by omega
      have HT := Lib.hid (show (tabN 255) = ((tabN k).set k (pw k)).set (255 + pw k) k by rw [hk3]; rfl)
      have hk4 : 254 ≤ k := by omega
      clear hk3
      have hl5 : (((tabN k).set k (pw k)).set (255 + pw k) k).length = 511 := by simp [HL.out]
      have HI := Lib.hid (info_cells _ hl5)
      have HL5 := Lib.hid hl5
      have hg2 := (hg.setCell (a := ⟨w.heap.size + 1, k, none⟩) (Nat.le_succ _) (.int .u8 (pw k : Nat))).setCell (a := ⟨w.heap.size + 1, 255 + pw k, none⟩) (Nat.le_succ _) (.int .u8 (k : Nat))
      have HH2 : Hid (((w'.setCell ⟨w.heap.size + 1, k, none⟩ (.int .u8 (pw k : Nat))).setCell ⟨w.heap.size + 1, 255 + pw k, none⟩ (.int .u8 (k : Nat))).heap[w.heap.size]? = some (.cells zeros 160)) := by
        show _ = _
        rw [heap_setCell_other _ _ _ _ (by simp), heap_setCell_other _ _ _ _ (by simp)]; exact HH.out
      clear hl5
      go_wp2_with fail
      refine (timesX_any _ hp _).mono ?_
      rintro e w' ⟨rfl, rfl⟩
      go_wp2_with fail
      refine (add_any _ _ hp (xt_lt hp) _).mono ?_
      rintro e w' ⟨rfl, rfl⟩
      go_wp2_with first | (refine wpList_load_row rfl 160 _ rfl (w.heap.size + 1) rfl 160 _ (0, 0) _ HS.out Tryz.underlying160 rfl HI.out ?_) | (refine wpList_store_row rfl 160 _ _ rfl w.heap.size _ rfl rfl 160 zeros HH2.out HI.out (by rw [cellsU8_size, HL5.out]; rfl) (cellsU8_one _) ?_)
      simp only [Exit.jump]
      refine bodyPost_ret (v := .agg (cellsU8 (((tabN k).set k (pw k)).set (255 + pw k) k))) ?_ rfl ⟨by rw [tabC, HT.out], Keep.setRow hg2 (Nat.le_refl _) HH2.out⟩
      exact results_cell_row (p := 0) (ty := 160) rfl _ _ w.heap.size 160 _ (0, 0) _ rfl (setRow_heap _ _ _ _ _ _ HH2.out) Tryz.underlying160 rfl HI.out
end Go.Proofs.YtifopodnceopjaaGreatDoor
/- The contract of the landed inverse. -/
namespace Go.Proofs.YtifopodnceopjaaGreatDoor
open Go.RowKit
theorem info_tabC : (Tryz.prog.info? 160).map (·.size) = some tabC.size := by rw [info_tab, tabC_size]

set_option maxRecDepth 100000 in
theorem inv_pos (a : Nat) (ha : a < 256) (h1 : 1 ≤ a) (w : World) : Calls Tryz.prog 60 #[.int .u8 a] w fun e w' => e = .returned (.tuple #[.int .u8 (invN a : Nat), .int .i64 0]) ∧ Keep w w' := by
  have hz := zero_tab
  have h0 : ((a : Int) == 0) = false := beq_eq_false_iff_ne.2 (by omega)
  have hl := lg_lt a ha h1
  have c1 := tabC_lg a ha h1
  have c2 : tabC[(-((lg a : Nat) : Int) % 255).toNat]? = some (.int .u8 (invN a : Nat)) := by
    rw [show (-((lg a : Nat) : Int) % 255).toNat = (255 - lg a) % 255 by omega, tabC_pw _ (Nat.mod_lt _ (by decide)), invN, if_neg (by omega)]
  go_enter Tryz.func60, Tryz.ntmps60
  go_wp2_with fail
  refine (build_any _).mono ?_
  rintro e w1 ⟨rfl, hg⟩
  go_wp2_with (refine wpList_store_new rfl (.tmp 4) (.tmp 7) rfl tabC rfl rfl info_tabC zeros_size tabC_one ?_)
  go_ret2
  exact ⟨rfl, hg.alloc _ _⟩
end Go.Proofs.YtifopodnceopjaaGreatDoor
/- The landed code of layer 6: a matrix on its way to a reduced one: a row divided, a row wiped. -/
namespace Go.Proofs.YtifopodnceopjaaGreatDoor
open Go.RowKit
set_option linter.unusedVariables false
set_option linter.unusedSimpArgs false
namespace Wk
variable {W w w' : World} {b : Nat} {A : Option Addr} {n cap nc B d col q : Nat} {rs : List RowV}
end Wk
end Go.Proofs.YtifopodnceopjaaGreatDoor
/- The landed code of layer 6: a row taken; a matrix reduced by columns. -/
namespace Go.Proofs.YtifopodnceopjaaGreatDoor
open Go.RowKit
set_option linter.unusedVariables false
set_option linter.unusedSimpArgs false
end Go.Proofs.YtifopodnceopjaaGreatDoor
/- The landed code of layer 6: a matrix reduced by columns. -/
namespace Go.Proofs.YtifopodnceopjaaGreatDoor
open Go.RowKit Lin
set_option linter.unusedVariables false
set_option linter.unusedSimpArgs false
end Go.Proofs.YtifopodnceopjaaGreatDoor
/- The landed code of layer 6: lists of rows copied; the reduced matrix, its rank. -/
namespace Go.Proofs.YtifopodnceopjaaGreatDoor
open Go.RowKit Lin
set_option linter.unusedVariables false
set_option linter.unusedSimpArgs false
theorem OwnRows.lower {w : World} {base base' e n c : Nat} {A : Option Addr} {rs : List RowV} (h : OwnRows w base e A n c rs) (hb : base' ≤ base) : OwnRows w base' e A n c rs := by
  refine ⟨h.1, ?_⟩
  rcases h.2 with h1 | ⟨g, cap, cur, hv, hg, r⟩
  · exact Or.inl h1
  · exact Or.inr ⟨g, cap, cur, hv, Nat.le_trans hb hg, r⟩
theorem RowsIn.take {w : World} {F : Nat → Prop} {A : Option Addr} {n d : Nat} {rs : List RowV} (h : RowsIn w F A n rs) (hd : d ≤ n) : RowsIn w F A d (rs.take d) :=
  ⟨by rw [List.length_take, h.1]; omega, fun r hr => h.2.1 r (List.mem_of_mem_take hr), fun hp => by
    obtain ⟨b, off, e, hb, hc⟩ := h.2.2 (by omega)
    refine ⟨b, off, e, hb, fun i r hi => hc i r ?_⟩
    rw [List.getElem?_take] at hi
    split at hi
    · exact hi
    · cases hi⟩
end Go.Proofs.YtifopodnceopjaaGreatDoor
/- The landed code of layer 6: the inverse. -/
namespace Go.Proofs.YtifopodnceopjaaGreatDoor
open Go.RowKit Lin
set_option linter.unusedVariables false
set_option linter.unusedSimpArgs false
namespace WkF
variable {W w w' : World} {b g n B : Nat} {rs : List RowV}
end WkF
end Go.Proofs.YtifopodnceopjaaGreatDoor
/- Matrices side by side in memory: what is held of them on a walk; the code's contracts in those words. -/
namespace Go.Proofs.YtifopodnceopjaaGreatDoor
open Go.RowKit
set_option linter.unusedVariables false
set_option linter.unusedSimpArgs false
structure MV where
  A : Option Addr
  n : Nat
  c : Nat
  M : List (List Nat)
/-- A matrix in memory. -/
def Mat (w : World) (x : MV) : Prop := ∃ rs, RowsIn w (· < w.heap.size) x.A x.n rs ∧ rowsXs rs = x.M ∧ x.n ≤ x.c
namespace Mat
variable {w w' : World} {x : MV}
theorem keep (h : Mat w x) (k : Keep w w') : Mat w' x := by
  obtain ⟨rs, h1, h2, h3⟩ := h
  exact ⟨rs, (h1.turned (Turned.of_keep (F := fun _ => False) k) fun _ _ e => e).mono fun b hb => Nat.lt_of_lt_of_le hb k.size, h2, h3⟩
theorem len (h : Mat w x) : x.M.length = x.n := by
  obtain ⟨rs, h1, h2, _⟩ := h
  rw [← h2, rowsXs_len, h1.1]
theorem of_owned {A : Option Addr} {n c : Nat} {M : List (List Nat)} {rs : List RowV} (h : OwnedRows w w' A n c M rs) : Mat w' ⟨A, n, c, M⟩ :=
  ⟨rs, h.rowsIn.mono fun b hb => hb.2, h.2.2.1, ownrows_le h.1⟩
end Mat
/-- Matrices, and what was there has not turned. -/
structure St (W w : World) (l : List MV) : Prop where
  mats : ∀ x ∈ l, Mat w x
  keep : Keep W w
namespace St
variable {W w w' : World} {l : List MV}
theorem start (W : World) : St W W [] := ⟨fun x hx => by simp at hx, Keep.refl W⟩
theorem later (h : St W w l) (k : Keep w w') : St W w' l := ⟨fun x hx => (h.mats x hx).keep k, h.keep.trans k⟩
theorem more {x : MV} (h : St W w l) (m : Mat w' x) (k : Keep w w') : St W w' (l ++ [x]) := ⟨fun y hy => by
  rcases List.mem_append.1 hy with e | e
  · exact (h.mats y e).keep k
  · rw [List.mem_singleton.1 e]; exact m, h.keep.trans k⟩
theorem get {x : MV} (h : St W w l) (i : Nat) (hx : l[i]? = some x) : Mat w x := h.mats x (List.mem_of_getElem? hx)
end St
section
variable {w : World} {A A' : Option Addr} {n n' c c' : Nat} {M N : List (List Nat)}
end
end Go.Proofs.YtifopodnceopjaaGreatDoor
/- Matrices written out. -/
namespace Go.Proofs.YtifopodnceopjaaGreatDoor
open Go.RowKit
set_option linter.unusedVariables false
set_option linter.unusedSimpArgs false
theorem size_obj (w : World) (o : Obj) : (w.alloc o).heap.size = w.heap.size + 1 := by simp
end Go.Proofs.YtifopodnceopjaaGreatDoor
