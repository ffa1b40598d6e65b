/- Contracts of the landed vector code: each, the closures. -/
import Derived.Test.YtkinhhplhkbljaaRefc
import Derived.OneCell
import Derived.Test.YtkinhhplhkbljaaRegion
namespace Go.Proofs.Ytkinhhplhkbljaa
open Go.RowKit

/-- A function of the program is entered. -/
theorem enters_at {P : Program} {f : FuncId} {fn : Func} {c : Code} (hf : P.funcs[f]? = some fn) (hname : (fn.name == "runtime.NumGoroutine") = false) (hb : fn.body = some c) : ∀ args w, (callFunc f args).run P w = .ok (.enter f args) w := by
  intro args w
  have h1 : fn.name ≠ "runtime.NumGoroutine" := by simpa using hname
  simp [callFunc, hf, h1, hb, mark]
set_option maxRecDepth 100000 in
theorem each_any (R : Nat → World → Prop) (g : Nat) (cap : Array Value) (B n ca : Nat) (A : Option Addr) (xs : List Nat) (w : World) (hn : n ≤ 140737488351232) (eg : ∀ args w, (callFunc g args).run Try.prog w = .ok (.enter g args) w)
    (hb : ∀ i wr, i < n → R i wr → Bytes wr B A n xs) (h0 : R 0 w)
    (hstep : ∀ i wr, i < n → R i wr → Calls Try.prog g (#[.int .i64 i, .int .u8 (xs.getD i 0 : Nat)] ++ cap) wr fun e w' => e = .returned (.tuple #[]) ∧ R (i + 1) w') :
    Calls Try.prog 29 #[.slice A n ca, .func (.func g) #[] cap] w fun e w' => e = .returned (.tuple #[]) ∧ R n w' := by
  go_enter Try.func29, Try.ntmps29
  go_wp2_with fail
  go_loopw [8] (fun i wr => ∃ k : Nat, k ≤ n ∧ i = .int .i64 k ∧ R k wr) (fun i _ => n - (intOf i).toNat)
  case atStart => exact ⟨0, by omega, rfl, h0⟩
  case round =>
    obtain ⟨k, hk, rfl, hr⟩ := hrel
    by_cases hlt : k < n
    · obtain ⟨b1, o1, rfl, hb1, hc1⟩ := (hb k wr hlt hr).at_ hlt
      have hs := hstep k wr hlt hr
      generalize xs.getD k 0 = x at *
      have HS := Lib.hid hs
      clear hs hstep hb h0
      go_wp2_with fail
      refine HS.out.mono ?_
      rintro e w2 ⟨rfl, hr2⟩
      go_wp2_with fail
      go_round
      case rel => exact ⟨k + 1, by omega, by go_num, hr2⟩
      case measure => simp [intOf]; omega
    · obtain rfl : k = n := by omega
      go_wp2_with fail
      go_end0
      exact ⟨rfl, hr⟩

def Timing (w : World) (b c : Nat) : Prop :=
  b + 1 < w.heap.size ∧ ∀ i, i < 16 → w.cell? ⟨b, i, none⟩ = some (.int .u8 ((mulN c i : Nat) : Int)) ∧ w.cell? ⟨b + 1, i, none⟩ = some (.int .u8 ((mulN c (16 * i) : Nat) : Int))
theorem split16 : ∀ x, x < 256 → (x % 16) ^^^ (16 * (x / 16)) = x := by decide +kernel
set_option maxRecDepth 100000 in
theorem product_any (b c x : Nat) (w : World) (h : Timing w b c) (hc : c < 256) (hx : x < 256) :
    Calls Try.prog 41 #[.int .u8 x, .pointer (some ⟨b, 0, none⟩), .pointer (some ⟨b + 1, 0, none⟩)] w fun e w' => e = .returned (.int .u8 (mulN c x : Nat)) ∧ ∃ m, w' = w.drewN m := by
  have hs := split16 x hx
  have hm : mulN c (x % 16) ^^^ mulN c (16 * (x / 16)) = mulN c x := by rw [← mul_xor_right c _ _ hc (by omega) (by omega), hs]
  clear hs
  have k1 := mulN_lt (a := c) (x % 16) hc
  have k2 := mulN_lt (a := c) (16 * (x / 16)) hc
  have h1 := (h.2 (x % 16) (by omega)).1
  have h2 := (h.2 (x / 16) (by omega)).2
  have e15 : bits .and .u8 (x : Int) 15 = ((x % 16 : Nat) : Int) := by
    rw [show (15 : Int) = ((15 : Nat) : Int) from rfl, u8_and_nat _ 15 hx (by decide)]
    exact congrArg _ (Nat.and_two_pow_sub_one_eq_mod x 4)
  have hlo : x % 16 < 16 := Nat.mod_lt _ (by decide)
  have hhi : x / 16 < 16 := by omega
  generalize x % 16 = lo at *
  have e4 : (x : Int) / 16 = ((x / 16 : Nat) : Int) := by omega
  generalize x / 16 = hi at *
  have l1 : (0 : Int) ≤ (lo : Int) := Int.natCast_nonneg _
  have l2 : (lo : Int) < 16 := by omega
  have l3 : (0 : Int) ≤ (hi : Int) := Int.natCast_nonneg _
  have l4 : (hi : Int) < 16 := by omega
  go_enter Try.func41, Try.ntmps41
  go_wp2_with fail
  generalize mulN c lo = p at *
  generalize mulN c (16 * hi) = q at *
  go_quiet ((go_at_call 27; exact quiet_of_eq (add_eq p q _ k1 k2 hm _)))
  go_wp2_with fail
  go_ret
  exact ⟨rfl, _, rfl⟩
/-- A variable that a closure has taken. -/
def Held (w : World) (b : Nat) (v : Value) (t : TypeId) : Prop := w.heap[b]? = some (.cells #[v] t (0, 0))
theorem Held.cell {w : World} {b : Nat} {v : Value} {t : TypeId} (h : Held w b v t) : w.cell? ⟨b, 0, none⟩ = some v := cell_of_one h
/-- What a closure meets: its store goes to a block that it doesn't read. -/
structure Meets (w : World) (g i n : Nat) (z : Nat) : Prop where
  cell : w.cell? ⟨g, i, none⟩ = some (.int .u8 (z : Int))
  free : w.frozen? ⟨g, i, none⟩ = false
  lt : i < n
theorem Timing.drew {w : World} {b c : Nat} (h : Timing w b c) : Timing w.drew b c := h
theorem Timing.drewN {w : World} {b c : Nat} (h : Timing w b c) (m : Nat) : Timing (w.drewN m) b c := h
set_option maxRecDepth 100000 in
theorem addstep (i x y z bb bs g n cb b2 o2 : Nat) (w : World) (hb : Held w bb (.slice (some ⟨b2, o2, none⟩) n cb) 22) (hs : Held w bs (.slice (some ⟨g, 0, none⟩) n n) 22) (hy : w.cell? ⟨b2, o2 + i, none⟩ = some (.int .u8 (y : Int))) (hz : Meets w g i n z) (hx : x < 256) (hy' : y < 256) (_n1 : g ≠ bb) (_n2 : g ≠ bs) (_n3 : g ≠ b2) :
    Calls Try.prog 30 #[.int .i64 i, .int .u8 x, .pointer (some ⟨bb, 0, none⟩), .pointer (some ⟨bs, 0, none⟩)] w fun e w' => e = .returned (.tuple #[]) ∧ ∃ m, w' = (w.setCell ⟨g, i, none⟩ (.int .u8 ((x ^^^ y : Nat) : Int))).drewN m := by
  have c1 := hb.cell
  have c2 := hs.cell
  obtain ⟨c3, c4, hi⟩ := hz
  have e1 : (0 : Int) ≤ (i : Int) := Int.natCast_nonneg _
  have e2 : (i : Int) < (n : Int) := by omega
  obtain ⟨v, hv⟩ : ∃ v, x ^^^ y = v := ⟨_, rfl⟩
  rw [hv]
  have HV := Lib.hid hv
  clear hv
  clear hb hs
  go_enter Try.func30, Try.ntmps30
  go_region_held3 (fun w' => w'.cell? ⟨bb, 0, none⟩ = some (.slice (some ⟨b2, o2, none⟩) n cb) ∧ w'.cell? ⟨bs, 0, none⟩ = some (.slice (some ⟨g, 0, none⟩) n n) ∧ w'.cell? ⟨b2, o2 + i, none⟩ = some (.int .u8 (y : Int)) ∧ w'.frozen? ⟨g, i, none⟩ = false)
    (first | go_keep | (refine ⟨?_, ?_, ?_, ?_⟩ <;> first | ((first | rw [World.cell?_drew] | rw [World.cell?_drewN] | skip); rw [World.cell?_setCell_far _ _ _ _ (by assumption)]; assumption) | simp [*]))
    ((go_at_call 27; refine (add_eq x y v hx hy' HV.out _).mono ?_; rintro e w' ⟨rfl, rfl⟩))
  all_goals go_end0
  all_goals exact ⟨rfl, _, rfl⟩
set_option maxRecDepth 100000 in
theorem scalestep (i x c z bp p bs g n : Nat) (w : World) (hp : Held w bp (.func (.func 41) #[] #[.pointer (some ⟨p, 0, none⟩), .pointer (some ⟨p + 1, 0, none⟩)]) 53) (ht : Timing w p c) (hs : Held w bs (.slice (some ⟨g, 0, none⟩) n n) 22) (hz : Meets w g i n z) (hx : x < 256) (hc : c < 256) (_n1 : g ≠ bp) (_n2 : g ≠ bs) :
    Calls Try.prog 35 #[.int .i64 i, .int .u8 x, .pointer (some ⟨bp, 0, none⟩), .pointer (some ⟨bs, 0, none⟩)] w fun e w' => e = .returned (.tuple #[]) ∧ ∃ m, w' = (w.setCell ⟨g, i, none⟩ (.int .u8 ((mulN x c : Nat) : Int))).drewN m := by
  have c1 := hp.cell
  have c2 := hs.cell
  obtain ⟨c3, c4, hi⟩ := hz
  have e1 : (0 : Int) ≤ (i : Int) := Int.natCast_nonneg _
  have e2 : (i : Int) < (n : Int) := by omega
  rw [mul_comm' x c hx hc]
  obtain ⟨v, hv⟩ : ∃ v, mulN c x = v := ⟨_, rfl⟩
  rw [hv]
  have HV := Lib.hid hv
  clear hv
  have HT := Lib.hid ht
  clear hp hs ht
  go_enter Try.func35, Try.ntmps35
  go_region_held3 (fun w' => w'.cell? ⟨bp, 0, none⟩ = some (.func (.func 41) #[] #[.pointer (some ⟨p, 0, none⟩), .pointer (some ⟨p + 1, 0, none⟩)]) ∧ w'.cell? ⟨bs, 0, none⟩ = some (.slice (some ⟨g, 0, none⟩) n n) ∧ w'.frozen? ⟨g, i, none⟩ = false)
    (first | go_keep | (refine ⟨?_, ?_, ?_⟩ <;> first | ((first | rw [World.cell?_drew] | rw [World.cell?_drewN] | skip); rw [World.cell?_setCell_far _ _ _ _ (by assumption)]; assumption) | simp [*]))
    ((go_at_call 41; refine (product_any p c x _ HT.out.drew hc hx).mono ?_; rw [HV.out]; rintro e w' ⟨rfl, m, rfl⟩))
  all_goals go_end0
  all_goals exact ⟨rfl, _, rfl⟩
set_option maxRecDepth 100000 in
theorem addsstep (i x y c z bp p bb bs g n cb b2 o2 : Nat) (w : World) (hp : Held w bp (.func (.func 41) #[] #[.pointer (some ⟨p, 0, none⟩), .pointer (some ⟨p + 1, 0, none⟩)]) 53) (ht : Timing w p c) (hb : Held w bb (.slice (some ⟨b2, o2, none⟩) n cb) 22) (hs : Held w bs (.slice (some ⟨g, 0, none⟩) n n) 22) (hy : w.cell? ⟨b2, o2 + i, none⟩ = some (.int .u8 (y : Int))) (hz : Meets w g i n z) (hx : x < 256) (hy' : y < 256) (hc : c < 256) (_n0 : g ≠ bp) (_n1 : g ≠ bb) (_n2 : g ≠ bs) (_n3 : g ≠ b2) :
    Calls Try.prog 32 #[.int .i64 i, .int .u8 x, .pointer (some ⟨bp, 0, none⟩), .pointer (some ⟨bb, 0, none⟩), .pointer (some ⟨bs, 0, none⟩)] w fun e w' => e = .returned (.tuple #[]) ∧ ∃ m, w' = (w.setCell ⟨g, i, none⟩ (.int .u8 ((x ^^^ mulN y c : Nat) : Int))).drewN m := by
  have c1 := hp.cell
  have c2 := hs.cell
  have c0 := hb.cell
  obtain ⟨c3, c4, hi⟩ := hz
  have e1 : (0 : Int) ≤ (i : Int) := Int.natCast_nonneg _
  have e2 : (i : Int) < (n : Int) := by omega
  rw [mul_comm' y c hy' hc]
  have hq := mulN_lt (a := c) y hc
  obtain ⟨q, hq'⟩ : ∃ q, mulN c y = q := ⟨_, rfl⟩
  rw [hq'] at hq ⊢
  have HQ := Lib.hid hq'
  clear hq'
  obtain ⟨v, hv⟩ : ∃ v, x ^^^ q = v := ⟨_, rfl⟩
  rw [hv]
  have HV := Lib.hid hv
  clear hv
  have HT := Lib.hid ht
  clear hp hs hb ht
  go_enter Try.func32, Try.ntmps32
  go_region_held3 (fun w' => w'.cell? ⟨bp, 0, none⟩ = some (.func (.func 41) #[] #[.pointer (some ⟨p, 0, none⟩), .pointer (some ⟨p + 1, 0, none⟩)]) ∧ w'.cell? ⟨bb, 0, none⟩ = some (.slice (some ⟨b2, o2, none⟩) n cb) ∧ w'.cell? ⟨bs, 0, none⟩ = some (.slice (some ⟨g, 0, none⟩) n n) ∧ w'.cell? ⟨b2, o2 + i, none⟩ = some (.int .u8 (y : Int)) ∧ w'.frozen? ⟨g, i, none⟩ = false)
    (first | go_keep | (refine ⟨?_, ?_, ?_, ?_, ?_⟩ <;> first | ((first | rw [World.cell?_drew] | rw [World.cell?_drewN] | skip); rw [World.cell?_setCell_far _ _ _ _ (by assumption)]; assumption) | simp [*]))
    (first | (go_at_call 41; refine (product_any p c y _ HT.out.drew hc hy').mono ?_; rw [HQ.out]; rintro e w' ⟨rfl, m, rfl⟩) | (go_at_call 27; refine (add_eq x q v hx hq HV.out _).mono ?_; rintro e w' ⟨rfl, rfl⟩))
  all_goals go_end0
  all_goals exact ⟨rfl, _, rfl⟩
set_option linter.unusedSimpArgs false in
set_option maxRecDepth 100000 in
theorem combstep (i x c z bp p bs g n : Nat) (w : World) (hp : Held w bp (.func (.func 41) #[] #[.pointer (some ⟨p, 0, none⟩), .pointer (some ⟨p + 1, 0, none⟩)]) 53) (ht : Timing w p c) (hs : Held w bs (.slice (some ⟨g, 0, none⟩) n n) 22) (hz : Meets w g i n z) (hx : x < 256) (hz' : z < 256) (hc : c < 256) (_n1 : g ≠ bp) (_n2 : g ≠ bs) :
    Calls Try.prog 39 #[.int .i64 i, .int .u8 x, .pointer (some ⟨bs, 0, none⟩), .pointer (some ⟨bp, 0, none⟩)] w fun e w' => e = .returned (.tuple #[]) ∧ ∃ m, w' = (w.setCell ⟨g, i, none⟩ (.int .u8 ((z ^^^ mulN x c : Nat) : Int))).drewN m := by
  have c1 := hp.cell
  have c2 := hs.cell
  obtain ⟨c3, c4, hi⟩ := hz
  have e1 : (0 : Int) ≤ (i : Int) := Int.natCast_nonneg _
  have e2 : (i : Int) < (n : Int) := by omega
  rw [mul_comm' x c hx hc]
  have hq := mulN_lt (a := c) x hc
  obtain ⟨q, hq'⟩ : ∃ q, mulN c x = q := ⟨_, rfl⟩
  rw [hq'] at hq ⊢
  have HQ := Lib.hid hq'
  clear hq'
  obtain ⟨v, hv⟩ : ∃ v, z ^^^ q = v := ⟨_, rfl⟩
  rw [hv]
  have HV := Lib.hid hv
  clear hv
  have HT := Lib.hid ht
  clear hp hs ht
  go_enter Try.func39, Try.ntmps39
  refine wp_region_noPanic ?_
  refine wp_region_held_drew (S := fun w' => w'.cell? ⟨bp, 0, none⟩ = some (.func (.func 41) #[] #[.pointer (some ⟨p, 0, none⟩), .pointer (some ⟨p + 1, 0, none⟩)]) ∧ w'.cell? ⟨bs, 0, none⟩ = some (.slice (some ⟨g, 0, none⟩) n n) ∧ w'.frozen? ⟨g, i, none⟩ = false) (by kernel_rfl) (⟨c1, c2, c4⟩) (fun hHeld => ?_)
  refine wpAnyH_take (i := 0) (v := ?_) rfl (by kernel_rfl) (by kernel_rfl) (by kernel_rfl) (fun _ _ _ h => h) (Or.inl ⟨by rfl, ?_⟩) hHeld ?_
  rotate_left
  · intro wq hSw
    try dsimp only at hSw
    go_simp
    all_goals with_reducible rfl
  try simp only [Act.put, List.getElem_toArray, List.getElem_cons_succ, List.getElem_cons_zero, List.setIfInBounds_toArray, List.set_cons_zero, List.set_cons_succ]
  refine wpAnyH_take (i := 1) (v := ?_) rfl (by kernel_rfl) (by kernel_rfl) (by kernel_rfl) (fun _ _ _ h => h) (Or.inl ⟨by rfl, ?_⟩) hHeld ?_
  rotate_left
  · intro wq hSw
    try dsimp only at hSw
    go_simp
    all_goals with_reducible rfl
  try simp only [Act.put, List.getElem_toArray, List.getElem_cons_succ, List.getElem_cons_zero, List.setIfInBounds_toArray, List.set_cons_zero, List.set_cons_succ]
  refine wpAnyH_take (i := 2) (v := ?_) rfl (by kernel_rfl) (by kernel_rfl) (by kernel_rfl) (fun _ _ _ h => h) (Or.inl ⟨by rfl, ?_⟩) hHeld ?_
  rotate_left
  · intro wq hSw
    try dsimp only at hSw
    go_simp
    all_goals with_reducible rfl
  try simp only [Act.put, List.getElem_toArray, List.getElem_cons_succ, List.getElem_cons_zero, List.setIfInBounds_toArray, List.set_cons_zero, List.set_cons_succ]
  refine wpAnyH_take (i := 3) (v := ?_) rfl (by kernel_rfl) (by kernel_rfl) (by kernel_rfl) (fun _ _ _ h => h) (Or.inl ⟨by rfl, ?_⟩) hHeld ?_
  rotate_left
  · intro wq hSw
    try dsimp only at hSw
    go_simp
    all_goals with_reducible rfl
  try simp only [Act.put, List.getElem_toArray, List.getElem_cons_succ, List.getElem_cons_zero, List.setIfInBounds_toArray, List.set_cons_zero, List.set_cons_succ]
  refine wpAnyH_take (i := 4) (v := ?_) rfl (by kernel_rfl) (by kernel_rfl) (by kernel_rfl) (fun _ _ _ h => h) (Or.inl ⟨by rfl, ?_⟩) hHeld ?_
  rotate_left
  · intro wq hSw
    try dsimp only at hSw
    go_simp
    all_goals with_reducible rfl
  try simp only [Act.put, List.getElem_toArray, List.getElem_cons_succ, List.getElem_cons_zero, List.setIfInBounds_toArray, List.set_cons_zero, List.set_cons_succ]
  refine wpAnyH_take (i := 6) (v := ?_) rfl (by kernel_rfl) (by kernel_rfl) (by kernel_rfl) (fun _ _ _ h => h) (Or.inl ⟨by rfl, ?_⟩) hHeld ?_
  rotate_left
  · intro wq hSw
    try dsimp only at hSw
    go_simp
    all_goals with_reducible rfl
  try simp only [Act.put, List.getElem_toArray, List.getElem_cons_succ, List.getElem_cons_zero, List.setIfInBounds_toArray, List.set_cons_zero, List.set_cons_succ]
  refine wpAnyH_take (i := 7) (v := ?_) rfl (by kernel_rfl) (by kernel_rfl) (by kernel_rfl) (fun _ _ _ h => h) (Or.inl ⟨by rfl, ?_⟩) hHeld ?_
  rotate_left
  · intro wq hSw
    try dsimp only at hSw
    go_simp
    all_goals with_reducible rfl
  try simp only [Act.put, List.getElem_toArray, List.getElem_cons_succ, List.getElem_cons_zero, List.setIfInBounds_toArray, List.set_cons_zero, List.set_cons_succ]
  refine wpAnyH_ready (rs := [5, 8]) (by kernel_rfl) (by simp) ?_
  refine AllReadyH.cons rfl (fun K hK => ?_) (AllReadyH.cons rfl (fun K hK => ?_) AllReadyH.nil)
  · go_simp
    refine hK.out _ _ (⟨c1, c2, c4⟩) (fun hHeld => ?_)
    clear hK K
    try simp only [Act.put, List.getElem_toArray, List.getElem_cons_succ, List.getElem_cons_zero, List.setIfInBounds_toArray, List.set_cons_zero, List.set_cons_succ]
    refine wpAnyH_ready (rs := [8]) (by kernel_rfl) (by simp) ?_
    refine AllReadyH.cons rfl (fun K hK => ?_) AllReadyH.nil
    go_simp
    refine (product_any p c x _ HT.out.drew hc hx).mono ?_
    rw [HQ.out]
    rintro e w' ⟨rfl, m, rfl⟩
    refine hK.out _ _ (⟨c1, c2, c4⟩) (fun hHeld => ?_)
    clear hK K
    try simp only [Act.put, List.getElem_toArray, List.getElem_cons_succ, List.getElem_cons_zero, List.setIfInBounds_toArray, List.set_cons_zero, List.set_cons_succ]
    refine wpAnyH_ready (rs := [9]) (by kernel_rfl) (by simp) ?_
    refine AllReadyH.cons rfl (fun K hK => ?_) AllReadyH.nil
    go_simp
    refine (add_eq z q v hz' hq HV.out _).mono ?_
    rintro e w' ⟨rfl, rfl⟩
    refine hK.out _ _ (⟨c1, c2, c4⟩) (fun hHeld => ?_)
    clear hK K
    try simp only [Act.put, List.getElem_toArray, List.getElem_cons_succ, List.getElem_cons_zero, List.setIfInBounds_toArray, List.set_cons_zero, List.set_cons_succ]
    refine wpAnyH_take (i := 10) (v := ?_) rfl (by kernel_rfl) (by kernel_rfl) (by kernel_rfl) (fun _ _ _ h => h) (Or.inl ⟨by rfl, ?_⟩) hHeld ?_
    rotate_left
    · intro wq hSw
      try dsimp only at hSw
      go_simp
      all_goals with_reducible rfl
    try simp only [Act.put, List.getElem_toArray, List.getElem_cons_succ, List.getElem_cons_zero, List.setIfInBounds_toArray, List.set_cons_zero, List.set_cons_succ]
    refine wpAnyH_ready (rs := [11]) (by kernel_rfl) (by simp) ?_
    refine AllReadyH.cons rfl (fun K hK => ?_) AllReadyH.nil
    go_simp
    refine hK.out _ _ (⟨(World.cell?_setCell_far _ _ _ _ (by assumption)).trans c1, (World.cell?_setCell_far _ _ _ _ (by assumption)).trans c2, (World.frozen?_setCell _ _ _ _).trans c4⟩) (fun hHeld => ?_)
    clear hK K
    try simp only [Act.put, List.getElem_toArray, List.getElem_cons_succ, List.getElem_cons_zero, List.setIfInBounds_toArray, List.set_cons_zero, List.set_cons_succ]
    refine wpAnyH_done (by kernel_rfl) ?_ _
    refine NoPanic.normal ?_
    go_end0
    exact ⟨rfl, _, rfl⟩
  · go_simp
    refine (product_any p c x _ HT.out.drew hc hx).mono ?_
    rw [HQ.out]
    rintro e w' ⟨rfl, m, rfl⟩
    refine hK.out _ _ (⟨c1, c2, c4⟩) (fun hHeld => ?_)
    clear hK K
    try simp only [Act.put, List.getElem_toArray, List.getElem_cons_succ, List.getElem_cons_zero, List.setIfInBounds_toArray, List.set_cons_zero, List.set_cons_succ]
    refine wpAnyH_ready (rs := [5]) (by kernel_rfl) (by simp) ?_
    refine AllReadyH.cons rfl (fun K hK => ?_) AllReadyH.nil
    go_simp
    refine hK.out _ _ (⟨c1, c2, c4⟩) (fun hHeld => ?_)
    clear hK K
    try simp only [Act.put, List.getElem_toArray, List.getElem_cons_succ, List.getElem_cons_zero, List.setIfInBounds_toArray, List.set_cons_zero, List.set_cons_succ]
    refine wpAnyH_ready (rs := [9]) (by kernel_rfl) (by simp) ?_
    refine AllReadyH.cons rfl (fun K hK => ?_) AllReadyH.nil
    go_simp
    refine (add_eq z q v hz' hq HV.out _).mono ?_
    rintro e w' ⟨rfl, rfl⟩
    refine hK.out _ _ (⟨c1, c2, c4⟩) (fun hHeld => ?_)
    clear hK K
    try simp only [Act.put, List.getElem_toArray, List.getElem_cons_succ, List.getElem_cons_zero, List.setIfInBounds_toArray, List.set_cons_zero, List.set_cons_succ]
    refine wpAnyH_take (i := 10) (v := ?_) rfl (by kernel_rfl) (by kernel_rfl) (by kernel_rfl) (fun _ _ _ h => h) (Or.inl ⟨by rfl, ?_⟩) hHeld ?_
    rotate_left
    · intro wq hSw
      try dsimp only at hSw
      go_simp
      all_goals with_reducible rfl
    try simp only [Act.put, List.getElem_toArray, List.getElem_cons_succ, List.getElem_cons_zero, List.setIfInBounds_toArray, List.set_cons_zero, List.set_cons_succ]
    refine wpAnyH_ready (rs := [11]) (by kernel_rfl) (by simp) ?_
    refine AllReadyH.cons rfl (fun K hK => ?_) AllReadyH.nil
    go_simp
    refine hK.out _ _ (⟨(World.cell?_setCell_far _ _ _ _ (by assumption)).trans c1, (World.cell?_setCell_far _ _ _ _ (by assumption)).trans c2, (World.frozen?_setCell _ _ _ _).trans c4⟩) (fun hHeld => ?_)
    clear hK K
    try simp only [Act.put, List.getElem_toArray, List.getElem_cons_succ, List.getElem_cons_zero, List.setIfInBounds_toArray, List.set_cons_zero, List.set_cons_succ]
    refine wpAnyH_done (by kernel_rfl) ?_ _
    refine NoPanic.normal ?_
    go_end0
    exact ⟨rfl, _, rfl⟩
set_option linter.unusedSimpArgs false in
set_option maxRecDepth 100000 in
theorem dotstep (i x y s bb bs n cb b2 o2 : Nat) (w : World) (hb : Held w bb (.slice (some ⟨b2, o2, none⟩) n cb) 22) (hs : Held w bs (.int .u8 (s : Int)) 5) (hy : w.cell? ⟨b2, o2 + i, none⟩ = some (.int .u8 (y : Int))) (hi : i < n) (hx : x < 256) (hy' : y < 256) (hs' : s < 256) (_n1 : bs ≠ bb) (_n3 : bs ≠ b2) :
    Calls Try.prog 34 #[.int .i64 i, .int .u8 x, .pointer (some ⟨bs, 0, none⟩), .pointer (some ⟨bb, 0, none⟩)] w fun e w' => e = .returned (.tuple #[]) ∧ ∃ m, w' = (w.setCell ⟨bs, 0, none⟩ (.int .u8 ((s ^^^ mulN x y : Nat) : Int))).drewN m := by
  have c1 := hb.cell
  have c2 := hs.cell
  have c4 := free_of_one hs
  have e1 : (0 : Int) ≤ (i : Int) := Int.natCast_nonneg _
  have e2 : (i : Int) < (n : Int) := by omega
  have hq := mulN_lt (a := x) y hx
  obtain ⟨q, hq'⟩ : ∃ q, mulN x y = q := ⟨_, rfl⟩
  rw [hq'] at hq ⊢
  have HQ := Lib.hid hq'
  clear hq'
  obtain ⟨v, hv⟩ : ∃ v, s ^^^ q = v := ⟨_, rfl⟩
  rw [hv]
  have HV := Lib.hid hv
  clear hv
  clear hb hs
  go_enter Try.func34, Try.ntmps34
  refine wp_region_noPanic ?_
  refine wp_region_held_drew (S := fun w' => w'.cell? ⟨bb, 0, none⟩ = some (.slice (some ⟨b2, o2, none⟩) n cb) ∧ w'.cell? ⟨b2, o2 + i, none⟩ = some (.int .u8 (y : Int)) ∧ w'.frozen? ⟨bs, 0, none⟩ = false) (by kernel_rfl) (⟨c1, hy, c4⟩) (fun hHeld => ?_)
  refine wpAnyH_take (i := 1) (v := ?_) rfl (by kernel_rfl) (by kernel_rfl) (by kernel_rfl) (fun _ _ _ h => h) (Or.inl ⟨by rfl, ?_⟩) hHeld ?_
  rotate_left
  · intro wq hSw
    try dsimp only at hSw
    go_simp
    all_goals with_reducible rfl
  try simp only [Act.put, List.getElem_toArray, List.getElem_cons_succ, List.getElem_cons_zero, List.setIfInBounds_toArray, List.set_cons_zero, List.set_cons_succ]
  refine wpAnyH_take (i := 2) (v := ?_) rfl (by kernel_rfl) (by kernel_rfl) (by kernel_rfl) (fun _ _ _ h => h) (Or.inl ⟨by rfl, ?_⟩) hHeld ?_
  rotate_left
  · intro wq hSw
    try dsimp only at hSw
    go_simp
    all_goals with_reducible rfl
  try simp only [Act.put, List.getElem_toArray, List.getElem_cons_succ, List.getElem_cons_zero, List.setIfInBounds_toArray, List.set_cons_zero, List.set_cons_succ]
  refine wpAnyH_take (i := 3) (v := ?_) rfl (by kernel_rfl) (by kernel_rfl) (by kernel_rfl) (fun _ _ _ h => h) (Or.inl ⟨by rfl, ?_⟩) hHeld ?_
  rotate_left
  · intro wq hSw
    try dsimp only at hSw
    go_simp
    all_goals with_reducible rfl
  try simp only [Act.put, List.getElem_toArray, List.getElem_cons_succ, List.getElem_cons_zero, List.setIfInBounds_toArray, List.set_cons_zero, List.set_cons_succ]
  refine wpAnyH_take (i := 4) (v := ?_) rfl (by kernel_rfl) (by kernel_rfl) (by kernel_rfl) (fun _ _ _ h => h) (Or.inl ⟨by rfl, ?_⟩) hHeld ?_
  rotate_left
  · intro wq hSw
    try dsimp only at hSw
    go_simp
    all_goals with_reducible rfl
  try simp only [Act.put, List.getElem_toArray, List.getElem_cons_succ, List.getElem_cons_zero, List.setIfInBounds_toArray, List.set_cons_zero, List.set_cons_succ]
  refine wpAnyH_take (i := 5) (v := ?_) rfl (by kernel_rfl) (by kernel_rfl) (by kernel_rfl) (fun _ _ _ h => h) (Or.inl ⟨by rfl, ?_⟩) hHeld ?_
  rotate_left
  · intro wq hSw
    try dsimp only at hSw
    go_simp
    all_goals with_reducible rfl
  try simp only [Act.put, List.getElem_toArray, List.getElem_cons_succ, List.getElem_cons_zero, List.setIfInBounds_toArray, List.set_cons_zero, List.set_cons_succ]
  refine wpAnyH_ready (rs := [0, 6]) (by kernel_rfl) (by simp) ?_
  refine AllReadyH.cons rfl (fun K hK => ?_) (AllReadyH.cons rfl (fun K hK => ?_) AllReadyH.nil)
  · go_simp
    refine hK.out _ _ (⟨c1, hy, c4⟩) (fun hHeld => ?_)
    clear hK K
    try simp only [Act.put, List.getElem_toArray, List.getElem_cons_succ, List.getElem_cons_zero, List.setIfInBounds_toArray, List.set_cons_zero, List.set_cons_succ]
    refine wpAnyH_ready (rs := [6]) (by kernel_rfl) (by simp) ?_
    refine AllReadyH.cons rfl (fun K hK => ?_) AllReadyH.nil
    go_simp
    refine (mul_eq x y q hx hy' HQ.out _).mono ?_
    rintro e w' ⟨rfl, rfl⟩
    refine hK.out _ _ (⟨c1, hy, c4⟩) (fun hHeld => ?_)
    clear hK K
    try simp only [Act.put, List.getElem_toArray, List.getElem_cons_succ, List.getElem_cons_zero, List.setIfInBounds_toArray, List.set_cons_zero, List.set_cons_succ]
    refine wpAnyH_ready (rs := [7]) (by kernel_rfl) (by simp) ?_
    refine AllReadyH.cons rfl (fun K hK => ?_) AllReadyH.nil
    go_simp
    refine (add_eq s q v hs' hq HV.out _).mono ?_
    rintro e w' ⟨rfl, rfl⟩
    refine hK.out _ _ (⟨c1, hy, c4⟩) (fun hHeld => ?_)
    clear hK K
    try simp only [Act.put, List.getElem_toArray, List.getElem_cons_succ, List.getElem_cons_zero, List.setIfInBounds_toArray, List.set_cons_zero, List.set_cons_succ]
    refine wpAnyH_ready (rs := [8]) (by kernel_rfl) (by simp) ?_
    refine AllReadyH.cons rfl (fun K hK => ?_) AllReadyH.nil
    go_simp
    refine hK.out _ _ (⟨(World.cell?_setCell_far _ _ _ _ (by assumption)).trans c1, (World.cell?_setCell_far _ _ _ _ (by assumption)).trans hy, (World.frozen?_setCell _ _ _ _).trans c4⟩) (fun hHeld => ?_)
    clear hK K
    try simp only [Act.put, List.getElem_toArray, List.getElem_cons_succ, List.getElem_cons_zero, List.setIfInBounds_toArray, List.set_cons_zero, List.set_cons_succ]
    refine wpAnyH_done (by kernel_rfl) ?_ _
    refine NoPanic.normal ?_
    go_end0
    exact ⟨rfl, _, rfl⟩
  · go_simp
    refine (mul_eq x y q hx hy' HQ.out _).mono ?_
    rintro e w' ⟨rfl, rfl⟩
    refine hK.out _ _ (⟨c1, hy, c4⟩) (fun hHeld => ?_)
    clear hK K
    try simp only [Act.put, List.getElem_toArray, List.getElem_cons_succ, List.getElem_cons_zero, List.setIfInBounds_toArray, List.set_cons_zero, List.set_cons_succ]
    refine wpAnyH_ready (rs := [0]) (by kernel_rfl) (by simp) ?_
    refine AllReadyH.cons rfl (fun K hK => ?_) AllReadyH.nil
    go_simp
    refine hK.out _ _ (⟨c1, hy, c4⟩) (fun hHeld => ?_)
    clear hK K
    try simp only [Act.put, List.getElem_toArray, List.getElem_cons_succ, List.getElem_cons_zero, List.setIfInBounds_toArray, List.set_cons_zero, List.set_cons_succ]
    refine wpAnyH_ready (rs := [7]) (by kernel_rfl) (by simp) ?_
    refine AllReadyH.cons rfl (fun K hK => ?_) AllReadyH.nil
    go_simp
    refine (add_eq s q v hs' hq HV.out _).mono ?_
    rintro e w' ⟨rfl, rfl⟩
    refine hK.out _ _ (⟨c1, hy, c4⟩) (fun hHeld => ?_)
    clear hK K
    try simp only [Act.put, List.getElem_toArray, List.getElem_cons_succ, List.getElem_cons_zero, List.setIfInBounds_toArray, List.set_cons_zero, List.set_cons_succ]
    refine wpAnyH_ready (rs := [8]) (by kernel_rfl) (by simp) ?_
    refine AllReadyH.cons rfl (fun K hK => ?_) AllReadyH.nil
    go_simp
    refine hK.out _ _ (⟨(World.cell?_setCell_far _ _ _ _ (by assumption)).trans c1, (World.cell?_setCell_far _ _ _ _ (by assumption)).trans hy, (World.frozen?_setCell _ _ _ _).trans c4⟩) (fun hHeld => ?_)
    clear hK K
    try simp only [Act.put, List.getElem_toArray, List.getElem_cons_succ, List.getElem_cons_zero, List.setIfInBounds_toArray, List.set_cons_zero, List.set_cons_succ]
    refine wpAnyH_done (by kernel_rfl) ?_ _
    refine NoPanic.normal ?_
    go_end0
    exact ⟨rfl, _, rfl⟩
end Go.Proofs.Ytkinhhplhkbljaa
