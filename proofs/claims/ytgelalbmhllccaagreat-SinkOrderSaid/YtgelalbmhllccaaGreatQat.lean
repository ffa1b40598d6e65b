/- The landed source: Restore, New. -/
import Derived.Test.YtgelalbmhllccaaGreatQas
import Derived.Test.YtgelalbmhllccaaGreatQaf
import Derived.Test.YtgelalbmhllccaaGreatQap
import Derived.Test.YtgelalbmhllccaaGreatQaa
import Derived.Test.YtgelalbmhllccaaGreatQal
import Derived.Test.YtgelalbmhllccaaGreatQai
import Derived.Test.YtgelalbmhllccaaGreatQao
namespace Go.Proofs.YtgelalbmhllccaaGreat
open Go.RowKit
set_option linter.unusedVariables false
set_option linter.unusedSimpArgs false
/-- telling, with the boxes that its closure has taken. -/
theorem telling_box (f : Nat) (cap : Array Value) (er : Int) (w : World) :
    Calls Tryz.prog 91 #[.int .i64 er, .func (.func f) #[] cap] w fun e w' => ∃ b1 b2 : Nat, e = .returned (.func (.func 135) #[] #[.pointer (some ⟨b1, 0, none⟩), .pointer (some ⟨b2, 0, none⟩)]) ∧ Keep w w' ∧ w.heap.size ≤ b1 ∧ w.heap.size ≤ b2 ∧ Held w' b1 (.func (.func f) #[] cap) 26 ∧ Held w' b2 (.int .i64 er) 28 := by
  have hmf : ∀ (fn : Fn) (first cap : Array Value) (w : World), (Instr.makeFunc fn first cap).run Tryz.prog w = .ok (.func fn first cap) w := fun _ _ _ _ => rfl
  obtain ⟨w2, hw2⟩ : ∃ w2, (w.alloc (.cells #[.int .i64 er] 28)).alloc (.cells #[.func (.func f) #[] cap] 26) = w2 := ⟨_, rfl⟩
  have k2 : Keep w w2 := by rw [← hw2]; exact ((Keep.refl w).alloc _ _).alloc _ _
  have g1 : Held w2 w.heap.size (.int .i64 er) 28 := by
    rw [← hw2]; exact (Held.new rfl _ _).keep ((Keep.refl _).alloc _ _)
  have g2 : Held w2 (w.heap.size + 1) (.func (.func f) #[] cap) 26 := by
    rw [← hw2]; exact Held.new (by simp) _ _
  have H1 := Lib.hid g1
  have H2 := Lib.hid g2
  have HK := Lib.hid k2
  clear g1 g2 k2
  go_enter Tryz.func91, Tryz.ntmps91
  go_wp2_with fail
  go_ret
  exact ⟨_, _, rfl, HK.out, by omega, by omega, H2.out, H1.out⟩
theorem Held.turned {F : Nat → Prop} {w w' : World} {b : Nat} {v : Value} {t : TypeId} (h : Held w b v t) (k : Turned F w w') (hn : ¬ F b) : Held w' b v t := (k.block b (lt_of_block h) hn).trans h
theorem Held.put {w : World} {b : Nat} {v u : Value} {t : TypeId} (h : Held w b v t) : Held (w.setCell ⟨b, 0, none⟩ u) b u t := one_setCell h
theorem Held.free {w : World} {b : Nat} {v : Value} {t : TypeId} (h : Held w b v t) : w.frozen? ⟨b, 0, none⟩ = false := free_of_one h
theorem Held.lt {w : World} {b : Nat} {v : Value} {t : TypeId} (h : Held w b v t) : b < w.heap.size := lt_of_block h
/-- The boxes of Restore's variables. -/
structure Boxes (w : World) (H : Nat) (g s : Int) (vs vc : Value) (cl : Bool) : Prop where
  b0 : Held w H (.int .i64 g) 3
  b1 : Held w (H + 1) (.int .i64 s) 3
  b2 : Held w (H + 2) vs 43
  b3 : Held w (H + 3) vc 126
  b4 : Held w (H + 4) (.bool cl) 4
theorem Boxes.turned {F : Nat → Prop} {w w' : World} {H : Nat} {g s : Int} {vs vc : Value} {cl : Bool} (h : Boxes w H g s vs vc cl) (k : Turned F w w') (hn : ∀ i, F i → H + 5 ≤ i) : Boxes w' H g s vs vc cl :=
  ⟨h.b0.turned k fun e => by have := hn _ e; omega, h.b1.turned k fun e => by have := hn _ e; omega, h.b2.turned k fun e => by have := hn _ e; omega, h.b3.turned k fun e => by have := hn _ e; omega, h.b4.turned k fun e => by have := hn _ e; omega⟩
theorem Boxes.keep {w w' : World} {H : Nat} {g s : Int} {vs vc : Value} {cl : Bool} (h : Boxes w H g s vs vc cl) (k : Keep w w') : Boxes w' H g s vs vc cl := h.turned (Turned.of_keep (F := fun _ => False) k) fun _ e => e.elim
theorem rest_start (w : World) (g s : Int) (vs vc : Value) (cl : Bool) :
    ∃ w1, ((((((w.alloc (.cells #[.int .i64 g] 3)).alloc (.cells #[.int .i64 s] 3)).alloc (.cells #[vs] 43)).alloc (.cells #[vc] 126)).alloc (.cells #[.bool cl] 4)).alloc (.cells #[.slice none 0 0] 40)).alloc (.cells #[.slice none 0 0] 43) = w1 ∧ w1.heap.size = w.heap.size + 7 ∧ Keep w w1 ∧ Boxes w1 w.heap.size g s vs vc cl ∧ Held w1 (w.heap.size + 5) (.slice none 0 0) 40 ∧ Held w1 (w.heap.size + 6) (.slice none 0 0) 43 := by
  have step : ∀ (w : World) (v : Value) (t : TypeId), ∃ w1, w.alloc (.cells #[v] t) = w1 ∧ w1.heap.size = w.heap.size + 1 ∧ Keep w w1 ∧ Held w1 w.heap.size v t := fun w v t => ⟨_, rfl, by simp, (Keep.refl w).alloc _ _, Held.new rfl _ _⟩
  obtain ⟨a1, e1, z1, k1, h1⟩ := step w (.int .i64 g) 3
  obtain ⟨a2, e2, z2, k2, h2⟩ := step a1 (.int .i64 s) 3
  obtain ⟨a3, e3, z3, k3, h3⟩ := step a2 vs 43
  obtain ⟨a4, e4, z4, k4, h4⟩ := step a3 vc 126
  obtain ⟨a5, e5, z5, k5, h5⟩ := step a4 (.bool cl) 4
  obtain ⟨a6, e6, z6, k6, h6⟩ := step a5 (.slice none 0 0) 40
  obtain ⟨a7, e7, z7, k7, h7⟩ := step a6 (.slice none 0 0) 43
  have s1 : a1.heap.size = w.heap.size + 1 := z1
  have s2 : a2.heap.size = w.heap.size + 2 := by omega
  have s3 : a3.heap.size = w.heap.size + 3 := by omega
  have s4 : a4.heap.size = w.heap.size + 4 := by omega
  have s5 : a5.heap.size = w.heap.size + 5 := by omega
  have s6 : a6.heap.size = w.heap.size + 6 := by omega
  rw [s1] at h2
  rw [s2] at h3
  rw [s3] at h4
  rw [s4] at h5
  rw [s5] at h6
  rw [s6] at h7
  have t6 := k7
  have t5 := k6.trans t6
  have t4 := k5.trans t5
  have t3 := k4.trans t4
  have t2 := k3.trans t3
  have t1 := k2.trans t2
  exact ⟨a7, by rw [e1, e2, e3, e4, e5, e6, e7], by omega, k1.trans t1, ⟨h1.keep t1, h2.keep t2, h3.keep t3, h4.keep t4, h5.keep t5⟩, h6.keep t6, h7⟩
section
variable {w : World} {H : Nat} {g s : Int} {cl : Bool}
theorem rest1 (b n c : Nat) (A : Option Addr) (bb : Bool) (hb : decide (262144 < n) = bb) (h : Held w b (.slice A n c) 43) :
    Calls Tryz.prog 92 #[.pointer (some ⟨b, 0, none⟩)] w fun e w' => e = .returned (.bool bb) ∧ ∃ m, w' = w.drewN m := by
  have c1 := h.cell
  clear h
  by_cases hl : 262144 < n
  · obtain rfl : true = bb := by rw [← hb]; exact (decide_eq_true hl).symm
    have d : (262144 : Int) < (n : Int) := by omega
    clear hb
    go_enter Tryz.func92, Tryz.ntmps92
    go_wp2_with fail
    go_ret
    exact ⟨rfl, 0, rfl⟩
  · obtain rfl : false = bb := by rw [← hb]; exact (decide_eq_false hl).symm
    have d : ¬ (262144 : Int) < (n : Int) := by omega
    have E : Hid (decide (262144 < n) = false) := decide_eq_false hl
    clear hb
    go_enter Tryz.func92, Tryz.ntmps92
    go_wp2_with fail
    go_ret
    exact ⟨by first | rfl | (show Ending.returned (.bool (decide (262144 < n))) = _; rw [E.out]), 0, rfl⟩
theorem rest3 (b1 b2 n c : Nat) (A : Option Addr) (bb : Bool) (hb : (cl && decide (0 < n)) = bb) (h1 : Held w b1 (.bool cl) 4) (h2 : Held w b2 (.slice A n c) 43) :
    Calls Tryz.prog 95 #[.pointer (some ⟨b1, 0, none⟩), .pointer (some ⟨b2, 0, none⟩)] w fun e w' => e = .returned (.bool bb) ∧ ∃ m, w' = w.drewN m := by
  have c1 := h1.cell
  have c2 := h2.cell
  clear h1 h2
  cases cl with
  | false =>
    obtain rfl : false = bb := by rw [← hb]; rfl
    clear hb
    go_enter Tryz.func95, Tryz.ntmps95
    go_wp2_with fail
    go_ret
    exact ⟨rfl, 0, rfl⟩
  | true =>
    rw [Bool.true_and] at hb
    by_cases hl : 0 < n
    · obtain rfl : true = bb := by rw [← hb]; exact (decide_eq_true hl).symm
      have d : (0 : Int) < (n : Int) := by omega
      clear hb
      go_enter Tryz.func95, Tryz.ntmps95
      go_wp2_with fail
      go_ret
      exact ⟨rfl, 0, rfl⟩
    · obtain rfl : false = bb := by rw [← hb]; exact (decide_eq_false hl).symm
      obtain rfl : n = 0 := by omega
      clear hb
      go_enter Tryz.func95, Tryz.ntmps95
      go_wp2_with fail
      go_ret
      exact ⟨rfl, 0, rfl⟩
/-- What Chunks has told, in its boxes. -/
structure Got (W wr : World) (H : Nat) (M : List (List Nat)) (O : List Nat) (A9 : Option Addr) (n9 c9 : Nat) (rs : List RowV) (A8 : Option Addr) (n8 c8 : Nat) : Prop where
  b5 : Held wr (H + 5) (.slice A9 n9 c9) 40
  b6 : Held wr (H + 6) (.slice A8 n8 c8) 43
  rows : RowsIn wr (fun x => W.heap.size ≤ x ∧ x < wr.heap.size) A9 n9 rs
  is : rowsXs rs = M
  open_ : O.length = n8
  tn : Turned (fun x => x = H + 5 ∨ x = H + 6) W wr
theorem Got.later {W wr w' : World} {M : List (List Nat)} {O : List Nat} {A9 : Option Addr} {n9 c9 : Nat} {rs : List RowV} {A8 : Option Addr} {n8 c8 : Nat} (h : Got W wr H M O A9 n9 c9 rs A8 n8 c8) (k : Keep wr w') : Got W w' H M O A9 n9 c9 rs A8 n8 c8 :=
  ⟨h.b5.keep k, h.b6.keep k, (h.rows.turned (Turned.of_keep (F := fun _ => False) k) fun _ _ e => e).mono fun x hx => ⟨hx.1, Nat.lt_of_lt_of_le hx.2 k.size⟩, h.is, h.open_, h.tn.then_keep k⟩
set_option maxHeartbeats 2000000 in
theorem rest2 (W : World) (n c m c' : Nat) (A A' : Option Addr) (M : List (List Nat)) (O : List Nat) (er : Int) (hx : Boxes w H g s (.slice A n c) (.slice A' m c') cl) (h5 : Held w (H + 5) (.slice none 0 0) 40) (h6 : Held w (H + 6) (.slice none 0 0) 43) (hk : Keep W w) (hW : H + 7 ≤ W.heap.size)
    (hch : ∀ w', Keep w w' → Calls Tryz.prog 94 #[.slice A n c, .slice A' m c', .int .i64 g, .int .i64 s] w' (NewCh w' M O er)) :
    Calls Tryz.prog 93 #[.pointer (some ⟨H + 2, 0, none⟩), .pointer (some ⟨H + 3, 0, none⟩), .pointer (some ⟨H, 0, none⟩), .pointer (some ⟨H + 1, 0, none⟩), .pointer (some ⟨H + 5, 0, none⟩), .pointer (some ⟨H + 6, 0, none⟩)] w fun e w' => e = .returned (.int .i64 er) ∧ ∃ A9 n9 c9 rs A8 n8 c8, Got W w' H M O A9 n9 c9 rs A8 n8 c8 := by
  have c0 := hx.b0.cell
  have c1 := hx.b1.cell
  have c2 := hx.b2.cell
  have c3 := hx.b3.cell
  have HC := Lib.hid (hch w (Keep.refl w))
  have H5 := Lib.hid h5
  have H6 := Lib.hid h6
  have HK := Lib.hid hk
  clear hx hch h5 h6 hk
  go_enter Tryz.func93, Tryz.ntmps93
  go_wp2_with fail
  refine HC.out.mono ?_
  rintro e w1 ⟨A9, n9, c9, A8, n8, c8, rs, rfl, hL, hX, hO, k1⟩
  have p5 := H5.out.keep k1
  have p6 := H6.out.keep k1
  have x5 := p5.cell
  have f5 := p5.free
  have q5 : Held (w1.setCell ⟨H + 5, 0, none⟩ (.slice A9 n9 c9)) (H + 5) (.slice A9 n9 c9) 40 := p5.put
  have t5 : Turned (fun x => x = H + 5) w1 (w1.setCell ⟨H + 5, 0, none⟩ (.slice A9 n9 c9)) := Turned.set w1 _ _ rfl
  have q6 := p6.turned t5 (by omega)
  have x6 := q6.cell
  have f6 := q6.free
  have r6 : Held ((w1.setCell ⟨H + 5, 0, none⟩ (.slice A9 n9 c9)).setCell ⟨H + 6, 0, none⟩ (.slice A8 n8 c8)) (H + 6) (.slice A8 n8 c8) 43 := q6.put
  have t6 : Turned (fun x => x = H + 6) (w1.setCell ⟨H + 5, 0, none⟩ (.slice A9 n9 c9)) ((w1.setCell ⟨H + 5, 0, none⟩ (.slice A9 n9 c9)).setCell ⟨H + 6, 0, none⟩ (.slice A8 n8 c8)) := Turned.set _ _ _ rfl
  have r5 := q5.turned t6 (by omega)
  have tt : Turned (fun x => x = H + 5 ∨ x = H + 6) w1 ((w1.setCell ⟨H + 5, 0, none⟩ (.slice A9 n9 c9)).setCell ⟨H + 6, 0, none⟩ (.slice A8 n8 c8)) := (t5.mono fun i _ e => Or.inl e).trans t6 fun i e => Or.inl (Or.inr e)
  have hsz := HK.out.size
  have GG : Hid (Got W ((w1.setCell ⟨H + 5, 0, none⟩ (.slice A9 n9 c9)).setCell ⟨H + 6, 0, none⟩ (.slice A8 n8 c8)) H M O A9 n9 c9 rs A8 n8 c8) := by
    refine ⟨r5, r6, ?_, hX, hO.1, (Turned.of_keep (HK.out.trans k1)).trans tt fun i e => Or.inl e⟩
    have r0 : RowsIn w1 (fun x => w.heap.size ≤ x ∧ x < w1.heap.size) A9 n9 rs := RowsIn.of_own hL.1 (fun r hr => (hL.2.1 r hr).mono fun x hx => ⟨hx.1, hx.2.1⟩) fun x hx => ⟨hL.1.rowLe x hx, (hL.1.lt x hx).2⟩
    exact (r0.turned tt fun x hx e => by omega).mono fun x hx => ⟨by omega, Nat.lt_of_lt_of_le hx.2 tt.size⟩
  clear hL hX hO k1 p5 p6 q5 t5 q6 r6 t6 r5 tt hsz
  go_wp2_with fail
  go_ret
  exact ⟨rfl, A9, n9, c9, rs, A8, n8, c8, GG.out⟩
/-- What Restore tells. -/
def restR (n : Nat) (O : List Nat) (er : Int) (cl : Bool) : Int := if 262144 < n then 1 else if er = 0 then (if cl = true ∧ O ≠ [] then 1 else 0) else er
set_option maxHeartbeats 2000000 in
theorem rest_first (W : World) (bk cc n c m c' a1 a2 d1 d2 : Nat) (A A' : Option Addr) (M : List (List Nat)) (O : List Nat) (er : Int) (hx : Boxes W H g s (.slice A n c) (.slice A' m c') cl) (h5 : Held W (H + 5) (.slice none 0 0) 40) (h6 : Held W (H + 6) (.slice none 0 0) 43) (hW : H + 7 ≤ W.heap.size)
    (hch : n ≤ 262144 → ∀ w', Keep W w' → Calls Tryz.prog 94 #[.slice A n c, .slice A' m c', .int .i64 g, .int .i64 s] w' (NewCh w' M O er))
    (ha1 : Held W a1 (.func (.func 92) #[] #[.pointer (some ⟨H + 2, 0, none⟩)]) 26) (ha2 : Held W a2 (.int .i64 1) 28)
    (hd1 : Held W d1 (.func (.func 95) #[] #[.pointer (some ⟨H + 4, 0, none⟩), .pointer (some ⟨H + 6, 0, none⟩)]) 26) (hd2 : Held W d2 (.int .i64 1) 28) (hlo : H + 7 ≤ a1 ∧ H + 7 ≤ a2 ∧ H + 7 ≤ d1 ∧ H + 7 ≤ d2 ∧ H + 7 ≤ bk)
    (y0 : W.cell? ⟨bk, 0, none⟩ = some (.func (.func 135) #[] #[.pointer (some ⟨a1, 0, none⟩), .pointer (some ⟨a2, 0, none⟩)]))
    (y1 : W.cell? ⟨bk, 1, none⟩ = some (.func (.func 93) #[] #[.pointer (some ⟨H + 2, 0, none⟩), .pointer (some ⟨H + 3, 0, none⟩), .pointer (some ⟨H, 0, none⟩), .pointer (some ⟨H + 1, 0, none⟩), .pointer (some ⟨H + 5, 0, none⟩), .pointer (some ⟨H + 6, 0, none⟩)]))
    (y2 : W.cell? ⟨bk, 2, none⟩ = some (.func (.func 135) #[] #[.pointer (some ⟨d1, 0, none⟩), .pointer (some ⟨d2, 0, none⟩)])) :
    Calls Tryz.prog 55 #[.slice (some ⟨bk, 0, none⟩) 3 cc] W fun e w' => e = .returned (.int .i64 (restR n O er cl)) ∧ Turned (fun x => x = H + 5 ∨ x = H + 6) W w' ∧ (restR n O er cl = 0 → ∃ A9 n9 c9 rs A8 n8 c8, Got W w' H M O A9 n9 c9 rs A8 n8 c8) := by
  have te := enters_at Tryz.func135 (by kernel_rfl) rfl
  have stay : ∀ {i : Nat} {v : Value} {wr : World}, Turned (fun x => x = H + 5 ∨ x = H + 6) W wr → W.cell? ⟨bk, i, none⟩ = some v → wr.cell? ⟨bk, i, none⟩ = some v := fun t h => t.cell (p := ⟨bk, _, none⟩) h (by show ¬ (bk = H + 5 ∨ bk = H + 6); omega)
  refine (first_gen (fun k wr => (k = 0 → Keep W wr) ∧ (k = 1 → Keep W wr ∧ n ≤ 262144) ∧ (2 ≤ k → n ≤ 262144 ∧ er = 0 ∧ ∃ A9 n9 c9 rs A8 n8 c8, Got W wr H M O A9 n9 c9 rs A8 n8 c8) ∧ (3 ≤ k → ¬ (cl = true ∧ O ≠ []))) (fun r wr => r = restR n O er cl ∧ Turned (fun x => x = H + 5 ∨ x = H + 6) W wr ∧ (r = 0 → ∃ A9 n9 c9 rs A8 n8 c8, Got W wr H M O A9 n9 c9 rs A8 n8 c8)) bk 3 cc W (by omega) ⟨fun _ => Keep.refl W, by omega, by omega, by omega⟩ (fun k wr hk hr => ?_) (fun wr hr => ?_)).mono fun e w' he => ?_
  · obtain ⟨r0, r1, r2, r3⟩ := hr
    match k, hk with
    | 0, _ =>
      have kk := r0 rfl
      refine ⟨_, _, stay (Turned.of_keep kk) y0, te, ?_⟩
      refine (tells_any a1 a2 _ _ 1 (decide (262144 < n)) wr (ha1.keep kk) (ha2.keep kk) (enters_at Tryz.func92 (by kernel_rfl) rfl) (rest1 (H + 2) n c A _ rfl (hx.b2.keep kk))).mono fun e w' he => ?_
      obtain ⟨rfl, q, rfl⟩ := he
      refine ⟨_, rfl, fun e => ⟨by omega, fun _ => ⟨kk.drewN q, ?_⟩, by omega, by omega⟩, fun e => ⟨?_, Turned.of_keep (kk.drewN q), fun e2 => absurd e2 e⟩⟩
      · by_cases hl : 262144 < n
        · rw [decide_eq_true hl] at e; cases e
        · omega
      · by_cases hl : 262144 < n
        · rw [decide_eq_true hl, restR, if_pos hl]; rfl
        · rw [decide_eq_false hl] at e; exact absurd rfl e
    | 1, _ =>
      obtain ⟨kk, hn⟩ := r1 rfl
      refine ⟨_, _, stay (Turned.of_keep kk) y1, enters_at Tryz.func93 (by kernel_rfl) rfl, ?_⟩
      refine (rest2 W n c m c' A A' M O er (hx.keep kk) (h5.keep kk) (h6.keep kk) kk hW fun w' k2 => hch hn w' (kk.trans k2)).mono fun e w' he => ?_
      obtain ⟨rfl, hG⟩ := he
      refine ⟨er, rfl, fun e => ⟨by omega, by omega, fun _ => ⟨hn, e, hG⟩, by omega⟩, fun e => ⟨by rw [restR, if_neg (by omega), if_neg e], ?_, fun e2 => absurd e2 e⟩⟩
      obtain ⟨_, _, _, _, _, _, _, hG⟩ := hG
      exact hG.tn
    | 2, _ =>
      obtain ⟨hn, he0, A9, n9, c9, rs, A8, n8, c8, hG⟩ := r2 (by omega)
      refine ⟨_, _, stay hG.tn y2, te, ?_⟩
      refine (tells_any d1 d2 _ _ 1 (cl && decide (0 < n8)) wr (hd1.turned hG.tn (by omega)) (hd2.turned hG.tn (by omega)) (enters_at Tryz.func95 (by kernel_rfl) rfl) (rest3 (H + 4) (H + 6) n8 c8 A8 _ rfl (hx.b4.turned hG.tn (by omega)) hG.b6)).mono fun e w' he => ?_
      obtain ⟨rfl, q, rfl⟩ := he
      have hiff : (cl && decide (0 < n8)) = true ↔ (cl = true ∧ O ≠ []) := by
        rw [Bool.and_eq_true, decide_eq_true_iff]
        refine and_congr Iff.rfl ⟨fun h e => ?_, fun h => ?_⟩
        · have := hG.open_; rw [e] at this; simp at this; omega
        · rcases Nat.eq_zero_or_pos n8 with e | e
          · exact absurd (List.eq_nil_of_length_eq_zero (by have := hG.open_; omega)) h
          · exact e
      have hG2 := hG.later ((Keep.refl wr).drewN q)
      by_cases hb : (cl = true ∧ O ≠ [])
      · rw [hiff.2 hb]
        exact ⟨1, rfl, (fun e => by cases e), fun _ => ⟨by rw [restR, if_neg (by omega), if_pos he0, if_pos hb], hG2.tn, (fun e => by cases e)⟩⟩
      · have hf : (cl && decide (0 < n8)) = false := by
          cases hv : (cl && decide (0 < n8)) with
          | false => rfl
          | true => exact absurd (hiff.1 hv) hb
        rw [hf]
        exact ⟨0, rfl, fun _ => ⟨by omega, by omega, fun _ => ⟨hn, he0, _, _, _, _, _, _, _, hG2⟩, fun _ => hb⟩, fun e => absurd rfl e⟩
    | k + 3, hk => omega
  · obtain ⟨_, _, r2, r3⟩ := hr
    obtain ⟨hn, he0, hG⟩ := r2 (by omega)
    refine ⟨by rw [restR, if_neg (by omega), if_pos he0, if_neg (r3 (by omega))], ?_, fun _ => hG⟩
    obtain ⟨_, _, _, _, _, _, _, hG⟩ := hG
    exact hG.tn
  · obtain ⟨r, rfl, rfl, h2, h3⟩ := he
    exact ⟨rfl, h2, h3⟩
end
section
variable {w : World} {cl : Bool}
set_option maxRecDepth 100000 in
set_option maxHeartbeats 8000000 in
theorem restore_good (G S P : Nat) (hz : SizeS G S P) (n c m c' B1 B2 : Nat) (A A' : Option Addr) (xs cs : List Nat) (M : List (List Nat)) (O : List Nat) (er : Int) (hB1 : B1 ≤ w.heap.size) (hB2 : B2 ≤ w.heap.size) (hx : Bytes w B1 A n xs) (hc : NatsAt w B2 A' m cs) (hm : m ≤ 17592186044416)
    (hfl : M.flatten.length ≤ 262144) (hM : M.length ≤ 262144)
    (hch : n ≤ 262144 → ∀ w', Keep w w' → Calls Tryz.prog 94 #[.slice A n c, .slice A' m c', .int .i64 (G : Int), .int .i64 (S : Int)] w' (NewCh w' M O er)) (hr : restR n O er cl = 0) (hn : n ≤ 262144) :
    Calls Tryz.prog 54 #[.int .i64 (G : Int), .int .i64 (S : Int), .slice A n c, .slice A' m c', .bool cl] w fun e w' => ∃ b F, e = .returned (.tuple #[.pointer (some ⟨b, 0, none⟩), .int .i64 0]) ∧ SrcR w' F b G S xs cs M cl ∧ (∀ i, F i → w.heap.size ≤ i) ∧ Keep w w' := by
  obtain ⟨g, hgg⟩ : ∃ g : Int, (G : Int) = g := ⟨_, rfl⟩
  obtain ⟨s, hss⟩ : ∃ s : Int, (S : Int) = s := ⟨_, rfl⟩
  rw [hgg, hss] at hch ⊢
  have HGG := Lib.hid hgg
  have HSS := Lib.hid hss
  have HR := Lib.hid hr
  have HX := Lib.hid hx
  have HC := Lib.hid hc
  have HB := Lib.hid (And.intro hB1 hB2)
  have HFL := Lib.hid hfl
  have HML := Lib.hid hM
  clear hr hx hc hB1 hB2 hgg hss hfl hM
  obtain ⟨H, hH⟩ : ∃ H, w.heap.size = H := ⟨_, rfl⟩
  obtain ⟨w1, e1, z1, k1, bx, h5, h6⟩ := rest_start w g s (.slice A n c) (.slice A' m c') cl
  rw [hH] at z1 bx h5 h6
  have K1 := Lib.hid k1
  have BX := Lib.hid bx
  have H5 := Lib.hid h5
  have H6 := Lib.hid h6
  have HCH := Lib.hid hch
  have HHH := Lib.hid hH
  have Z1 := Lib.hid z1
  have hmf : ∀ (fn : Fn) (first cap : Array Value) (w : World), (Instr.makeFunc fn first cap).run Tryz.prog w = .ok (.func fn first cap) w := fun _ _ _ _ => rfl
  clear k1 bx h5 h6 hch z1
  go_enter Tryz.func54, Tryz.ntmps54
  go_wp2_with fail
  refine (telling_box _ _ 1 _).mono ?_
  rintro e w2 ⟨a1, a2, rfl, k2, la1, la2, ha1, ha2⟩
  have K2 := Lib.hid k2
  have HA1 := Lib.hid ha1
  have HA2 := Lib.hid ha2
  have LA : Hid (H + 7 ≤ a1 ∧ H + 7 ≤ a2) := by have := Z1.out; exact ⟨by omega, by omega⟩
  clear k2 ha1 ha2 la1 la2 e1
  go_wp2_with fail
  refine (telling_box _ _ 1 _).mono ?_
  rintro e w3 ⟨d1, d2, rfl, k3, ld1, ld2, hd1, hd2⟩
  have K3 := Lib.hid k3
  have HD1 := Lib.hid hd1
  have HD2 := Lib.hid hd2
  have LD : Hid (H + 7 ≤ d1 ∧ H + 7 ≤ d2) := by have := Z1.out; have := K2.out.size; exact ⟨by omega, by omega⟩
  clear k3 hd1 hd2 ld1 ld2
  go_wp2_with fail
  obtain ⟨W, hW⟩ : ∃ W, w3.alloc (.cells #[.func (.func 135) #[] #[.pointer (some ⟨a1, 0, none⟩), .pointer (some ⟨a2, 0, none⟩)], .func (.func 93) #[] #[.pointer (some ⟨H + 2, 0, none⟩), .pointer (some ⟨H + 3, 0, none⟩), .pointer (some ⟨H, 0, none⟩), .pointer (some ⟨H + 1, 0, none⟩), .pointer (some ⟨H + 5, 0, none⟩), .pointer (some ⟨H + 6, 0, none⟩)], .func (.func 135) #[] #[.pointer (some ⟨d1, 0, none⟩), .pointer (some ⟨d2, 0, none⟩)]] 123) = W := ⟨_, rfl⟩
  have kW : Keep w3 W := by rw [← hW]; exact (Keep.refl w3).alloc _ _
  have y0 : W.cell? ⟨w3.heap.size, 0, none⟩ = some (.func (.func 135) #[] #[.pointer (some ⟨a1, 0, none⟩), .pointer (some ⟨a2, 0, none⟩)]) := by rw [← hW]; exact alloc_cells rfl
  have y1 : W.cell? ⟨w3.heap.size, 1, none⟩ = some (.func (.func 93) #[] #[.pointer (some ⟨H + 2, 0, none⟩), .pointer (some ⟨H + 3, 0, none⟩), .pointer (some ⟨H, 0, none⟩), .pointer (some ⟨H + 1, 0, none⟩), .pointer (some ⟨H + 5, 0, none⟩), .pointer (some ⟨H + 6, 0, none⟩)]) := by rw [← hW]; exact alloc_cells rfl
  have y2 : W.cell? ⟨w3.heap.size, 2, none⟩ = some (.func (.func 135) #[] #[.pointer (some ⟨d1, 0, none⟩), .pointer (some ⟨d2, 0, none⟩)]) := by rw [← hW]; exact alloc_cells rfl
  have k13 : Keep w1 W := (K2.out.trans K3.out).trans kW
  have hlo : H + 7 ≤ w3.heap.size ∧ H + 7 ≤ W.heap.size := by have := Z1.out; have := k13.size; have := (K2.out.trans K3.out).size; exact ⟨by omega, by omega⟩
  have HF := Lib.hid (rest_first W w3.heap.size 3 n c m c' a1 a2 d1 d2 A A' M O er (BX.out.keep k13) (H5.out.keep k13) (H6.out.keep k13) hlo.2 (fun hn w' kk => HCH.out hn w' ((K1.out.trans k13).trans kk)) (HA1.out.keep (K3.out.trans kW)) (HA2.out.keep (K3.out.trans kW)) (HD1.out.keep kW) (HD2.out.keep kW) ⟨LA.out.1, LA.out.2, LD.out.1, LD.out.2, hlo.1⟩ y0 y1 y2)
  have KW : Hid (Keep w W) := K1.out.trans k13
  have BW := Lib.hid (BX.out.keep k13)
  have LW : Hid (H + 7 ≤ W.heap.size) := hlo.2
  clear kW y0 y1 y2 k13 hlo HA1 HA2 LA HD1 HD2 LD H5 H6 BX HCH
  try rw [hW]
  refine HF.out.mono ?_
  rw [HR.out]
  rintro e w5 ⟨rfl, t5, hG⟩
  obtain ⟨A9, n9, c9, rs, A8, n8, c8, gt⟩ := hG rfl
  have K5 : Hid (Keep w w5) := t5.keep KW.out fun i e => by have := HHH.out; omega
  have GT := Lib.hid gt
  have B5 := Lib.hid (BW.out.turned t5 fun i e => by omega)
  clear t5 hG gt HF hW BW
  go_wp2_with fail
  have X0 : Hid (∀ wq, Keep w5 wq → wq.cell? ⟨H, 0, none⟩ = some (.int .i64 g)) := fun wq k => (B5.out.keep k).b0.cell
  have X1 : Hid (∀ wq, Keep w5 wq → wq.cell? ⟨H + 1, 0, none⟩ = some (.int .i64 s)) := fun wq k => (B5.out.keep k).b1.cell
  have X2 : Hid (∀ wq, Keep w5 wq → wq.cell? ⟨H + 2, 0, none⟩ = some (.slice A n c)) := fun wq k => (B5.out.keep k).b2.cell
  have X3 : Hid (∀ wq, Keep w5 wq → wq.cell? ⟨H + 3, 0, none⟩ = some (.slice A' m c')) := fun wq k => (B5.out.keep k).b3.cell
  have X4 : Hid (∀ wq, Keep w5 wq → wq.cell? ⟨H + 4, 0, none⟩ = some (.bool cl)) := fun wq k => (B5.out.keep k).b4.cell
  refine wp_region_noPanic ?_
  refine wp_region_held_drew (S := fun wz => Keep w5 wz) (by kernel_rfl) (Keep.drew (Keep.refl w5)) (fun hHeld => ?_)
  refine wpAnyH_take (i := 0) (v := ?_) rfl (by kernel_rfl) (by kernel_rfl) (by kernel_rfl) (fun _ _ _ h => h) (Or.inl ⟨by rfl, ?_⟩) hHeld ?_
  rotate_left
  · intro wq hSw
    have q0 := X0.out wq hSw
    go_simp
    all_goals with_reducible rfl
  try simp only [Act.put, List.getElem_toArray, List.getElem_cons_succ, List.getElem_cons_zero, List.setIfInBounds_toArray, List.set_cons_zero, List.set_cons_succ]
  refine wpAnyH_take (i := 1) (v := ?_) rfl (by kernel_rfl) (by kernel_rfl) (by kernel_rfl) (fun _ _ _ h => h) (Or.inl ⟨by rfl, ?_⟩) hHeld ?_
  rotate_left
  · intro wq hSw
    have q0 := X1.out wq hSw
    go_simp
    all_goals with_reducible rfl
  try simp only [Act.put, List.getElem_toArray, List.getElem_cons_succ, List.getElem_cons_zero, List.setIfInBounds_toArray, List.set_cons_zero, List.set_cons_succ]
  refine wpAnyH_take (i := 2) (v := ?_) rfl (by kernel_rfl) (by kernel_rfl) (by kernel_rfl) (fun _ _ _ h => h) (Or.inl ⟨by rfl, ?_⟩) hHeld ?_
  rotate_left
  · intro wq hSw
    have q0 := X2.out wq hSw
    go_simp
    all_goals with_reducible rfl
  try simp only [Act.put, List.getElem_toArray, List.getElem_cons_succ, List.getElem_cons_zero, List.setIfInBounds_toArray, List.set_cons_zero, List.set_cons_succ]
  refine wpAnyH_take (i := 4) (v := ?_) rfl (by kernel_rfl) (by kernel_rfl) (by kernel_rfl) (fun _ _ _ h => h) (Or.inl ⟨by rfl, ?_⟩) hHeld ?_
  rotate_left
  · intro wq hSw
    have q0 := X3.out wq hSw
    go_simp
    all_goals with_reducible rfl
  try simp only [Act.put, List.getElem_toArray, List.getElem_cons_succ, List.getElem_cons_zero, List.setIfInBounds_toArray, List.set_cons_zero, List.set_cons_succ]
  refine wpAnyH_take (i := 6) (v := ?_) rfl (by kernel_rfl) (by kernel_rfl) (by kernel_rfl) (fun _ _ _ h => h) (Or.inl ⟨by rfl, ?_⟩) hHeld ?_
  rotate_left
  · intro wq hSw
    have q0 := X4.out wq hSw
    go_simp
    all_goals with_reducible rfl
  try simp only [Act.put, List.getElem_toArray, List.getElem_cons_succ, List.getElem_cons_zero, List.setIfInBounds_toArray, List.set_cons_zero, List.set_cons_succ]
  refine wpAnyH_ready (rs := [3]) (by kernel_rfl) (by simp) ?_
  refine AllReadyH.cons rfl (fun K hK => ?_) AllReadyH.nil
  go_simp
  refine (clone_any B1 n c A xs _ (HX.out.keep HB.out.1 (K5.out.trans hHeld)) (by have := HB.out.1; have := (K5.out.trans hHeld).size; omega) (by omega)).mono ?_
  rintro e w6 ⟨A6, n6, c6, rfl, o6, k6⟩
  have O6 := Lib.hid o6
  have kk6 : Keep w5 w6 := Keep.trans hHeld k6
  clear o6
  refine hK.out _ _ kk6 (fun hHeld => ?_)
  clear hK K
  try simp only [Act.put, List.getElem_toArray, List.getElem_cons_succ, List.getElem_cons_zero, List.setIfInBounds_toArray, List.set_cons_zero, List.set_cons_succ]
  refine wpAnyH_ready (rs := [5]) (by kernel_rfl) (by simp) ?_
  refine AllReadyH.cons rfl (fun K hK => ?_) AllReadyH.nil
  go_simp
  refine (cloneints_any B2 m c' A' cs _ (HC.out.keep HB.out.2 (K5.out.trans hHeld)) (by have := HB.out.2; have := (K5.out.trans hHeld).size; omega) hm).mono ?_
  rintro e w7 ⟨A7, n7, c7, rfl, o7, k7⟩
  have O7 := Lib.hid o7
  have K7 := Lib.hid k7
  have kk7 : Keep w5 w7 := Keep.trans hHeld k7
  clear o7 k7
  refine hK.out _ _ kk7 (fun hHeld => ?_)
  clear hK K
  try simp only [Act.put, List.getElem_toArray, List.getElem_cons_succ, List.getElem_cons_zero, List.setIfInBounds_toArray, List.set_cons_zero, List.set_cons_succ]
  refine wpAnyH_take (i := 7) (v := ?_) rfl (by kernel_rfl) (by kernel_rfl) (by kernel_rfl) (fun _ _ _ h => h) (Or.inl ⟨by rfl, ?_⟩) hHeld ?_
  rotate_left
  · intro wq hSw
    go_simp
    all_goals with_reducible rfl
  try simp only [Act.put, List.getElem_toArray, List.getElem_cons_succ, List.getElem_cons_zero, List.setIfInBounds_toArray, List.set_cons_zero, List.set_cons_succ]
  obtain ⟨w8, hw8⟩ : ∃ w8, w7.alloc (.cells #[.int .i64 g, .int .i64 s, .slice A6 n6 c6, .slice A7 n7 c7, .slice none 0 0, .bool cl] 128) = w8 := ⟨_, rfl⟩
  have kk8 : Keep w5 w8 := Keep.trans kk7 (by rw [← hw8]; exact (Keep.refl w7).alloc _ _)
  refine wpAnyH_ready (rs := [8]) (by kernel_rfl) (by simp) ?_
  refine AllReadyH.cons rfl (fun K hK => ?_) AllReadyH.nil
  go_simp
  try rw [hw8]
  refine hK.out _ _ kk8 (fun hHeld => ?_)
  clear hK K
  try simp only [Act.put, List.getElem_toArray, List.getElem_cons_succ, List.getElem_cons_zero, List.setIfInBounds_toArray, List.set_cons_zero, List.set_cons_succ]
  refine wpAnyH_take (i := 9) (v := ?_) rfl (by kernel_rfl) (by kernel_rfl) (by kernel_rfl) (fun _ _ _ h => h) (Or.inl ⟨by rfl, ?_⟩) hHeld ?_
  rotate_left
  · intro wq hSw
    go_simp
    all_goals with_reducible rfl
  try simp only [Act.put, List.getElem_toArray, List.getElem_cons_succ, List.getElem_cons_zero, List.setIfInBounds_toArray, List.set_cons_zero, List.set_cons_succ]
  refine wpAnyH_done (by kernel_rfl) ?_ _
  refine NoPanic.normal ?_
  clear hHeld
  obtain ⟨N, hN⟩ : ∃ N, w7.heap.size = N := ⟨_, rfl⟩
  have hs5 : w5.heap.size ≤ w6.heap.size ∧ w6.heap.size ≤ w7.heap.size := ⟨kk6.size, K7.out.size⟩
  have a6 := (O6.out.keep K7.out)
  have o6lt := O6.out.blt
  have o7lt := O7.out.blt
  have k78 : Keep w7 w8 := by rw [← hw8]; exact (Keep.refl w7).alloc _ _
  have SA : Hid (SrcA w8 (fun i => (Value.slice A6 n6 c6).ownBlock = some i ∨ (Value.slice A7 n7 c7).ownBlock = some i ∨ i = N) N G S A6 n6 c6 A7 n7 c7 none 0 0 xs cs [] cl) := by
    refine ⟨?_, (a6.keep k78).lower (Nat.zero_le _), (O7.out.keep k78).lower (Nat.zero_le _), OwnI.none_ _ _, Or.inr (Or.inr rfl), fun k e => ⟨Or.inl e, ?_⟩, fun k e => ⟨Or.inr (Or.inl e), ?_⟩, (fun k e => by cases e), fun k e1 e2 => ?_, (fun k _ e => by cases e), (fun k _ e => by cases e), fun i hi => ?_⟩
    · rw [← hw8, ← hN, HGG.out, HSS.out]; exact heap_alloc_new w7 _
    · have := o6lt k e; omega
    · have := o7lt k e; omega
    · have := o6lt k e1; have := o7lt k e2; omega
    · have hz8 : w8.heap.size = w7.heap.size + 1 := by rw [← hw8]; simp
      rcases hi with e | e | e
      · have := o6lt i e; omega
      · have := o7lt i e; omega
      · omega
  have FL : Hid (∀ i, ((Value.slice A6 n6 c6).ownBlock = some i ∨ (Value.slice A7 n7 c7).ownBlock = some i ∨ i = N) → w5.heap.size ≤ i) := fun i hi => by
    rcases hi with e | e | e
    · exact (o6lt i e).1
    · have := o7lt i e; omega
    · omega
  obtain ⟨F, SA, FL⟩ : ∃ F : Nat → Prop, Hid (SrcA w8 F N G S A6 n6 c6 A7 n7 c7 none 0 0 xs cs [] cl) ∧ Hid (∀ i, F i → w5.heap.size ≤ i) := ⟨_, SA, FL⟩
  have K8 : Hid (Keep w5 w8) := kk8
  have x5 := (GT.out.later kk8).b5.cell
  have hcnt : n9 = M.length := by rw [← GT.out.is, rowsXs, List.length_map]; exact GT.out.rows.1.symm
  have HCNT := Lib.hid hcnt
  have hn9 : n9 ≤ 262144 := by have := HML.out; omega
  clear o6lt o7lt a6 hs5 hw8 k78 hHeld kk6 kk7 kk8 B5 X0 X1 X2 X3 X4 hcnt
  rw [hN]
  go_wp2_with fail
  go_loopw [39] (fun iv wr => ∃ (j : Nat) (Fr : Nat → Prop), j ≤ n9 ∧ iv = .int .i64 j ∧ SrcR wr Fr N G S xs cs (M.take j) cl ∧ Turned F w8 wr ∧ ∀ i, Fr i → F i ∨ w8.heap.size ≤ i) (fun iv _ => n9 - (intOf iv).toNat)
  case atStart => exact ⟨0, F, by omega, rfl, ⟨_, _, _, _, _, _, _, _, _, SA.out⟩, Turned.refl _ _, fun i hi => Or.inl hi⟩
  case round =>
    obtain ⟨j, Fr, hj, rfl, sr, tr, fr⟩ := hrel
    have SR := Lib.hid sr
    have TR := Lib.hid tr
    have FR := Lib.hid fr
    clear sr fr SA
    by_cases hlt : j < n9
    · obtain ⟨b9, o9, q, rfl, hb9, hq, hc9, hq2⟩ := ((GT.out.rows.turned (Turned.of_keep (F := fun _ => False) K8.out) fun _ _ e => e).turned tr fun x hx e => by
        have h1 := FL.out x e
        omega).at_ hlt
      obtain ⟨qA, qn, qc, qx⟩ := q
      have hc9 : wr.cell? ⟨b9, o9 + j, none⟩ = some (.slice qA qn qc) := hc9
      have hMj : M[j]? = some qx := by rw [← GT.out.is, rowsXs, List.getElem?_map, hq]; rfl
      have hqn : qx.length = qn := hq2.1
      have htk : M.take (j + 1) = M.take j ++ [qx] := by rw [List.take_add_one, hMj]; rfl
      have hle : (M.take j).flatten.length + qx.length ≤ 262144 := by
        have h1 := startN_succ hMj
        have h2 := startN_le M (j + 1)
        have h3 := HFL.out
        rw [startN, startN] at h1
        rw [startN] at h2
        omega
      have HE := Lib.hid (endS_any SR.out qn (M.take j).flatten.length rfl (by rw [List.length_take]; have := HML.out; omega) (by omega) (M.take (j + 1)) (by rw [htk, endsN_more, hqn]))
      have e1 : (0 : Int) ≤ (j : Int) := by omega
      have e2 : (j : Int) < (n9 : Int) := by omega
      clear tr hq hq2 hMj hqn htk hle
      go_wp2_with fail
      refine HE.out.mono ?_
      rintro e w10 ⟨rfl, p10⟩
      have P10 := Lib.hid (Wrote.trans TR.out FR.out p10)
      clear p10 hc9
      go_wp2_with fail
      go_roundw
      case rel =>
        obtain ⟨F', q1, q2, q3⟩ := P10.out
        exact ⟨j + 1, F', by omega, by go_num, q1, q2, q3⟩
      case measure => simp [intOf]; omega
    · obtain rfl : j = n9 := by omega
      have KR : Hid (Keep w wr) := tr.keep (K5.out.trans K8.out) fun i e => Nat.le_trans K5.out.size (FL.out i e)
      have SX : Hid (SrcR wr Fr N G S xs cs M cl) := by
        have := SR.out
        rw [HCNT.out, List.take_length] at this
        exact this
      have FX : Hid (∀ i, Fr i → w.heap.size ≤ i) := fun i hi => by
        rcases FR.out i hi with e | e
        · exact Nat.le_trans K5.out.size (FL.out i e)
        · exact Nat.le_trans (K5.out.trans K8.out).size e
      clear tr
      go_wp2_with fail
      go_ret2
      exact ⟨N, Fr, rfl, SX.out, FX.out, KR.out⟩
end
end Go.Proofs.YtgelalbmhllccaaGreat
/- The document's own source: Send, Restore, New. -/
namespace Go.Proofs.YtgelalbmhllccaaGreat
open Go.RowKit
set_option linter.unusedVariables false
set_option linter.unusedSimpArgs false
section
variable {w w' : World} {E G : Nat → Prop} {b g s : Nat} {xs cs ys : List Nat} {cl : Bool} {M : List (List Nat)}
end
end Go.Proofs.YtgelalbmhllccaaGreat
/- Both sources: made anew and restored; what the examples say. -/
namespace Go.Proofs.YtgelalbmhllccaaGreat
open Go.RowKit
set_option linter.unusedVariables false
set_option linter.unusedSimpArgs false
theorem gens_bare {room : Nat} (h1 : 1 ≤ room) : gensN room [] [] = [] ∧ openN room [] [] = [] ∧ fromN room [] [] = 0 := by
  have e : chunkN room [] [] (([] : List Nat).length + 1) = ([], 0) := by
    show chunkN room [] [] (0 + 1) = _
    rw [chunkN_succ]
    refine if_neg ?_
    rintro (e | ⟨e, _⟩)
    · have e : 0 - 0 = room := e
      omega
    · have e : (0 : Nat) < 0 := e
      omega
  exact ⟨by rw [gensN, e], by rw [openN, fromN, e]; rfl, by rw [fromN, e]⟩
theorem GoodS.start {g s P : Nat} (hz : SizeS g s P) : GoodS g s P [] [] [] :=
  ⟨hz, fun c h => by simp at h, fun i j x y _ h => by simp at h, (gens_bare (by have := hz.lo; omega)).1.symm, by decide⟩
section
variable {w : World}
set_option maxHeartbeats 1000000 in
theorem new_good (G S P : Nat) (hz : SizeS G S P) (w : World) : Calls Tryz.prog 24 #[.int .i64 (G : Int), .int .i64 (S : Int)] w fun e w' => ∃ b F, e = .returned (.tuple #[.pointer (some ⟨b, 0, none⟩), .int .i64 0]) ∧ SrcR w' F b G S [] [] [] false ∧ (∀ i, F i → w.heap.size ≤ i) ∧ Keep w w' := by
  have hc := gens_bare (room := P - 4) (by have := hz.lo; omega)
  have HR := Lib.hid (restore_good (w := w) (cl := false) G S P hz 0 0 0 0 w.heap.size w.heap.size none none [] [] [] [] 0 (Nat.le_refl _) (Nat.le_refl _) (Bytes.nil _ _ _) ⟨rfl, fun h => absurd h (by omega)⟩ (by omega) (by decide) (by decide) (fun _ w' k => by
    have := pchunks_in G S P 0 0 hz.g0 hz.g1 hz.s0 hz.s1 hz.int hz.lo hz.hi (by omega) (by omega) none none 0 0 [] [] w' (Bytes.nil _ _ _) (Nat.le_refl _) ⟨rfl, fun h => absurd h (by omega)⟩ (fun x hx => by simp at hx) (fun i j x y _ h => by simp at h)
    have e1 : (chunkN (P - 4) [] [] (0 + 1)).1 = [] := hc.1
    have e2 : ([] : List Nat).drop (chunkN (P - 4) [] [] (0 + 1)).2 = [] := by simp
    rwa [e1, e2] at this) (by decide) (by omega))
  clear hz hc
  go_enter Tryz.func24, Tryz.ntmps24
  go_wp2_with fail
  refine HR.out.mono ?_
  rintro e w1 ⟨b, F, rfl, h1, h2, h3⟩
  have H1 := Lib.hid h1
  have H2 := Lib.hid h2
  have H3 := Lib.hid h3
  clear h1 h2 h3 HR
  go_wp2_with fail
  go_ret2
  exact ⟨b, F, rfl, H1.out, H2.out, H3.out⟩
end
end Go.Proofs.YtgelalbmhllccaaGreat
/- What the chapter's examples say: awake. -/
namespace Go.Proofs.YtgelalbmhllccaaGreat
open Go.RowKit
set_option linter.unusedVariables false
set_option linter.unusedSimpArgs false
end Go.Proofs.YtgelalbmhllccaaGreat
/- The landed source: none; what a chapter's closed statement meets. -/
namespace Go.Proofs.YtgelalbmhllccaaGreat
open Go.RowKit
set_option linter.unusedVariables false
set_option linter.unusedSimpArgs false
end Go.Proofs.YtgelalbmhllccaaGreat
/- Arguments opened: slices of ints; the structs of layer 9's statements. -/
namespace Go.Proofs.YtgelalbmhllccaaGreat
open Go.RowKit Go.ChangeShapes Go.WideShapes Go.Deep
set_option linter.unusedVariables false
section
variable {H : Type} {enc : TypeId × Value → H} {P : Program} {W : World}
end
end Go.Proofs.YtgelalbmhllccaaGreat
/- An argument that is a struct with a struct within it: two ints, a stream, bytes. -/
namespace Go.Proofs.YtgelalbmhllccaaGreat
open Go.RowKit Go.ChangeShapes Go.WideShapes Go.Deep
set_option linter.unusedVariables false
section
variable {H : Type} {enc : TypeId × Value → H} {P : Program} {W : World}
end
end Go.Proofs.YtgelalbmhllccaaGreat
/- Both sources side by side; arguments: a beginning, a slice of calls. -/
namespace Go.Proofs.YtgelalbmhllccaaGreat
open Go.RowKit Go.ChangeShapes Go.WideShapes Go.Deep
set_option linter.unusedVariables false
set_option linter.unusedSimpArgs false
/-- A call told by data. -/
structure CallV where
  what : Int
  by_ : RowV
  n : Nat
  sent : Nat
/-- A slice of n calls at A, below block B. -/
def CallsAt (w : World) (B : Nat) (A : Option Addr) (n : Nat) (l : List CallV) : Prop :=
  l.length = n ∧ (∀ a ∈ l, (Bytes w B a.by_.A a.by_.n a.by_.xs ∧ a.by_.n ≤ 140737488351232 ∧ a.by_.n ≤ a.by_.c) ∧ a.n < 18446744073709551616 ∧ a.sent < 18446744073709551616) ∧
  (0 < n → ∃ b off, A = some ⟨b, off, none⟩ ∧ b < B ∧ ∀ i a, l[i]? = some a → w.cell? ⟨b, off + i * 4, none⟩ = some (.int .i64 a.what) ∧ w.cell? ⟨b, off + i * 4 + 1, none⟩ = some a.by_.val ∧ w.cell? ⟨b, off + i * 4 + 2, none⟩ = some (.int .u64 (a.n : Int)) ∧ w.cell? ⟨b, off + i * 4 + 3, none⟩ = some (.int .u64 (a.sent : Int)))
theorem CallsAt.at_ {w wr : World} {A : Option Addr} {m j : Nat} {l : List CallV} (h : CallsAt w w.heap.size A m l) (k : Keep w wr) (hj : j < m) :
    ∃ (b off : Nat) (x : Int) (v : RowV) (p q : Nat), A = some ⟨b, off, none⟩ ∧ b < w.heap.size ∧ wr.cell? ⟨b, off + j * 4, none⟩ = some (.int .i64 x) ∧ wr.cell? ⟨b, off + j * 4 + 1, none⟩ = some (.slice v.A v.n v.c) ∧ wr.cell? ⟨b, off + j * 4 + 2, none⟩ = some (.int .u64 (p : Int)) ∧ wr.cell? ⟨b, off + j * 4 + 3, none⟩ = some (.int .u64 (q : Int)) ∧
      Bytes wr w.heap.size v.A v.n v.xs ∧ v.n ≤ 140737488351232 ∧ v.n ≤ v.c ∧ p < 18446744073709551616 ∧ q < 18446744073709551616 := by
  obtain ⟨b, off, rfl, hb, hc⟩ := h.2.2 (by omega)
  have hl : j < l.length := by rw [h.1]; exact hj
  obtain ⟨⟨h1, h2, h3⟩, h4, h5⟩ := h.2.1 _ (List.getElem_mem hl)
  obtain ⟨c0, c1, c2, c3⟩ := hc j _ (List.getElem?_eq_getElem hl)
  have hk : ∀ o v, w.cell? ⟨b, o, none⟩ = some v → wr.cell? ⟨b, o, none⟩ = some v := fun o v hv => (Below.cell (B := w.heap.size) k (show b < w.heap.size by omega)).trans hv
  exact ⟨b, off, l[j].what, l[j].by_, l[j].n, l[j].sent, rfl, hb, hk _ _ c0, hk _ _ c1, hk _ _ c2, hk _ _ c3, h1.keep (Nat.le_refl _) k, h2, h3, h4, h5⟩
section
variable {H : Type} {enc : TypeId × Value → H} {P : Program} {W : World}
end
section
variable {w wr w1 w2 w3 w' : World} {F F' E E' G : Nat → Prop} {b d g s P : Nat} {xs cs xs' cs' : List Nat} {cl cl' : Bool}
end
end Go.Proofs.YtgelalbmhllccaaGreat
/- Both sources, made; one's own copy beside them. -/
namespace Go.Proofs.YtgelalbmhllccaaGreat
open Go.RowKit
set_option linter.unusedVariables false
set_option linter.unusedSimpArgs false
/-- One's own slice, far from both. -/
structure Dup (W w : World) (F E : Nat → Prop) (A : Option Addr) (n c : Nat) : Prop where
  mine : Mine W w A n c
  far : ∀ i, (Value.slice A n c).ownBlock = some i → ¬ F i ∧ ¬ E i ∧ i < w.heap.size
section
variable {W w w' : World} {F F' E E' : Nat → Prop} {A : Option Addr} {n c : Nat}
theorem Dup.later (h : Dup W w F E A n c) (k : Keep w w') : Dup W w' F E A n c := ⟨h.mine.keep k, fun i hi => by
  obtain ⟨a, b, e⟩ := h.far i hi
  exact ⟨a, b, Nat.lt_of_lt_of_le e k.size⟩⟩
theorem Dup.turned (h : Dup W w F E A n c) (t : Turned (fun i => F i ∨ E i) w w') (hF : ∀ i, F' i ∨ E' i → F i ∨ E i ∨ w.heap.size ≤ i) : Dup W w' F' E' A n c := by
  obtain ⟨⟨xs, o⟩, hf⟩ := h
  refine ⟨⟨xs, o.turned t fun i hi e => ?_⟩, fun i hi => ?_⟩
  · obtain ⟨a, b, _⟩ := hf i hi
    rcases e with e | e
    · exact a e
    · exact b e
  · obtain ⟨a, b, e⟩ := hf i hi
    refine ⟨fun x => ?_, fun x => ?_, Nat.lt_of_lt_of_le e t.size⟩
    · rcases hF i (Or.inl x) with h | h | h
      · exact a h
      · exact b h
      · omega
    · rcases hF i (Or.inr x) with h | h | h
      · exact a h
      · exact b h
      · omega
end
theorem equal_true (B B' n m ca cb : Nat) (A A' : Option Addr) (xs : List Nat) (w : World) (h : Bytes w B A n xs) (h' : Bytes w B' A' m xs) :
    Calls Tryz.prog 65 #[.slice A n ca, .slice A' m cb] w fun e w' => e = .returned (.bool true) ∧ w = w' := by
  have := equal_any B B' n m ca cb A A' xs xs w h h'
  rwa [decide_eq_true rfl] at this
end Go.Proofs.YtgelalbmhllccaaGreat
/- bytes.HasPrefix, of a beginning. -/
namespace Go.Proofs.YtgelalbmhllccaaGreat
open Go.RowKit
set_option linter.unusedVariables false
set_option maxRecDepth 100000 in
theorem prefix_true (B B' n m ca cb : Nat) (A A' : Option Addr) (xs ys : List Nat) (w : World) (h : Bytes w B A n xs) (h' : Bytes w B' A' m ys) (hm : m ≤ n) (hc : n ≤ ca) (hy : xs.take m = ys) :
    Calls Tryz.prog 29 #[.slice A n ca, .slice A' m cb] w fun e w' => e = .returned (.bool true) ∧ w = w' := by
  have hh := head_bytes m n ca A (by omega)
  have hb := h.cut (m := m) (by omega)
  rw [hy] at hb
  have HB := Lib.hid hb
  have HB' := Lib.hid h'
  have e1 : decide ((m : Int) ≤ (n : Int)) = true := decide_eq_true (by omega)
  clear h h' hb hy
  go_enter Tryz.func29, Tryz.ntmps29
  go_wp2_with fail
  refine (equal_true _ _ m m _ _ _ _ _ _ HB.out HB'.out).mono ?_
  rintro e w' ⟨rfl, rfl⟩
  go_wp2_with fail
  go_ret
  exact ⟨rfl, rfl⟩
end Go.Proofs.YtgelalbmhllccaaGreat
/- What was a generation stays it, plainly. -/
namespace Go.Proofs.YtgelalbmhllccaaGreat
set_option linter.unusedVariables false
theorem GoodS.flush_open {g s P : Nat} {xs cs : List Nat} {M : List (List Nat)} (h : GoodS g s P xs cs M) : openN (P - 4) (flushC P false xs cs) xs = [] := by
  unfold flushC
  split
  · rename_i ho
    exact (gens_cut h.room ho.2).2
  · rename_i ho
    by_cases e : openN (P - 4) cs xs = []
    · exact e
    · exact absurd ⟨rfl, e⟩ ho
/-- The generations, one behind the other, are the stream's beginning. -/
theorem GoodS.told {g s P : Nat} {xs cs : List Nat} {M : List (List Nat)} (h : GoodS g s P xs cs M) : xs.take M.flatten.length = M.flatten ∧ (openN (P - 4) cs xs = [] → M.flatten.length = xs.length) := by
  have hf := gens_flat (room := P - 4) (cuts := cs) (xs := xs) h.room
  rw [← h.gens] at hf
  refine ⟨?_, fun ho => ?_⟩
  · have e : xs.take M.flatten.length = (M.flatten ++ openN (P - 4) cs xs).take M.flatten.length := by rw [hf]
    rw [e, List.take_left']
    rfl
  · rw [ho, List.append_nil] at hf
    rw [hf]
end Go.Proofs.YtgelalbmhllccaaGreat
/- A source, a relay, a sink, what was got and the stream, side by side. -/
namespace Go.Proofs.YtgelalbmhllccaaGreat
open Go.RowKit Lin
set_option linter.unusedVariables false
set_option linter.unusedSimpArgs false
/-- A source's generations may be chunks. -/
theorem chk_of_good {g s P : Nat} {xs cs : List Nat} {M : List (List Nat)} (h : GoodS g s P xs cs M) (hP : P = g * s) (h32 : g * s < 4294967296) (hx : AllB xs) : ChkM g s M := by
  refine ⟨h.size.g0, h32, fun n hn => ?_⟩
  have e : M[n]? = some (M.getD n []) := by rw [List.getD_eq_getElem?_getD, List.getElem?_eq_getElem hn]; rfl
  obtain ⟨h1, h2, h3, h4⟩ := h.piece e
  have h5 := h.room
  refine ⟨fun x hxm => ?_, h3, by omega⟩
  rw [h1, pieceN] at hxm
  exact hx x (List.mem_of_mem_drop (List.mem_of_mem_take hxm))
/-- A row of the source goes with its symbols. -/
theorem row_span {g s : Nat} {M : List (List Nat)} {D r : List Nat} (hz : Sz g s (layN g s r)) (hl : D.length = g) (hD : AllB D) : (D ++ vComb s (layN g s r) D g).length = g + s ∧ AllB (D ++ vComb s (layN g s r) D g) ∧ InSpan g (symR g (layN g s r)) (vec (D ++ vComb s (layN g s r) D g)) :=
  ⟨(rowV_ok hz hl hD).1, (rowV_ok hz hl hD).2, ⟨_, vec_rowV hz hl hD⟩⟩
theorem tru_take {g s k b n : Nat} {M : List (List Nat)} {L : Nat → List (List Nat)} {D : List Nat} (h : TruL g s M L) (hc : ChkM g s M) (hn : n < M.length) (hl : D.length = g) (hD : AllB D) : TruL g s M (yTakeL g s k b L n g s (D ++ vComb s (layN g s (M.getD n [])) D g)) := by
  unfold yTakeL
  split
  · obtain ⟨a, c, d⟩ := row_span (M := M) (hc.sz hn) hl hD
    exact h.put hn a c d
  · exact h
theorem tru_move {g s k c : Nat} {M : List (List Nat)} {L : Nat → List (List Nat)} (h : TruL g s M L) : TruL g s M (yMoveM k c L) := by
  unfold yMoveM
  split
  · exact h.move c k
  · exact h
/-- All of it at w, made since W; G was got. -/
structure OrK (W w : World) (xb : Nat) (Fs : Nat → Prop) (p : Nat) (F : Nat → Prop) (q g s bb : Nat) (xs cs : List Nat) (M : List (List Nat)) (L : Nat → List (List Nat)) (n : Nat) (Ag : Option Addr) (ng cg : Nat) (G : List Nat) (As : Option Addr) (ns ca : Nat) : Prop where
  src : SrcR w Fs xb g s xs cs M false
  rel : RelR w F p g s 8 bb L
  snk : SnkR w q (g : Int) (s : Int) n 0 false false
  got : Own w W.heap.size 5 Ag ng cg G
  str : Own w W.heap.size 5 As ns ca xs
  ap : ∀ a, Fs a → ¬ F a
  nq : ¬ Fs q ∧ ¬ F q
  go : ∀ a, (Value.slice Ag ng cg).ownBlock = some a → ¬ Fs a ∧ ¬ F a ∧ a ≠ q
  so : ∀ a, (Value.slice As ns ca).ownBlock = some a → ¬ Fs a ∧ ¬ F a ∧ a ≠ q ∧ ¬ (Value.slice Ag ng cg).ownBlock = some a
  lo : (∀ a, Fs a → W.heap.size ≤ a) ∧ (∀ a, F a → W.heap.size ≤ a) ∧ W.heap.size ≤ q
  keep : Keep W w
namespace OrK
variable {W w w2 : World} {xb p q g s bb b2 n n2 ng cg ns ca : Nat} {Fs F F2 : Nat → Prop} {xs cs G : List Nat} {M : List (List Nat)} {L L2 : Nat → List (List Nat)} {Ag As : Option Addr}
theorem later (h : OrK W w xb Fs p F q g s bb xs cs M L n Ag ng cg G As ns ca) (k : Keep w w2) : OrK W w2 xb Fs p F q g s bb xs cs M L n Ag ng cg G As ns ca :=
  ⟨h.src.keep k, h.rel.keep k, h.snk.keep k, h.got.keep k, h.str.keep k, h.ap, h.nq, h.go, h.so, h.lo, h.keep.trans k⟩
/-- The relay goes on. -/
theorem relay (h : OrK W w xb Fs p F q g s bb xs cs M L n Ag ng cg G As ns ca) (r : RelR w2 F2 p g s 8 b2 L2) (f : ∀ j, F2 j → F j ∨ w.heap.size ≤ j) (t : Turned F w w2) : OrK W w2 xb Fs p F2 q g s b2 xs cs M L2 n Ag ng cg G As ns ca := by
  have hq := h.snk.lt
  have hz := h.keep.size
  have new : ∀ a, a < w.heap.size → ¬ F a → ¬ F2 a := fun a h1 h2 e => (f a e).elim h2 fun e => by omega
  refine ⟨h.src.turned t fun a ha e => h.ap a ha e, r, h.snk.turned t h.nq.2, h.got.turned t fun a e => (h.go a e).2.1, h.str.turned t fun a e => (h.so a e).2.1, fun a ha => new a (h.src.lt a ha) (h.ap a ha), ⟨h.nq.1, new q hq h.nq.2⟩, fun a e => ⟨(h.go a e).1, new a (h.got.1.lt a e).2 (h.go a e).2.1, (h.go a e).2.2⟩, fun a e => ⟨(h.so a e).1, new a (h.str.1.lt a e).2 (h.so a e).2.1, (h.so a e).2.2⟩, ⟨h.lo.1, fun a ha => (f a ha).elim (h.lo.2.1 a) fun e => by omega, h.lo.2.2⟩, t.keep h.keep fun a e => h.lo.2.1 a e⟩
/-- The sink goes on. -/
theorem sink (h : OrK W w xb Fs p F q g s bb xs cs M L n Ag ng cg G As ns ca) (r : SnkR w2 q (g : Int) (s : Int) n2 0 false false) (t : Turned (fun a => a = q) w w2) : OrK W w2 xb Fs p F q g s bb xs cs M L n2 Ag ng cg G As ns ca :=
  ⟨h.src.turned t fun a ha e => h.nq.1 (e ▸ ha), h.rel.turned t fun a ha e => h.nq.2 (e ▸ ha), r, h.got.turned t fun a e => (h.go a e).2.2, h.str.turned t fun a e => (h.so a e).2.2.1, h.ap, h.nq, h.go, h.so, h.lo, t.keep h.keep fun a e => e ▸ h.lo.2.2⟩
/-- More was got. -/
theorem more {Ah : Option Addr} {nh ch : Nat} {H : List Nat} (h : OrK W w xb Fs p F q g s bb xs cs M L n Ag ng cg G As ns ca) (o : Own w2 W.heap.size 5 Ah nh ch H) (t : Turned (fun a => (Value.slice Ag ng cg).ownBlock = some a) w w2) (hb : (Value.slice Ah nh ch).ownBlock = (Value.slice Ag ng cg).ownBlock ∨ (Value.slice Ah nh ch).ownBlock = some w.heap.size) : OrK W w2 xb Fs p F q g s bb xs cs M L n Ah nh ch H As ns ca := by
  have hq := h.snk.lt
  refine ⟨h.src.turned t fun a ha e => (h.go a e).1 ha, h.rel.turned t fun a ha e => (h.go a e).2.1 ha, h.snk.turned t fun e => (h.go q e).2.2 rfl, o, h.str.turned t fun a e e2 => (h.so a e).2.2.2 e2, h.ap, h.nq, fun a e => ?_, fun a e => ⟨(h.so a e).1, (h.so a e).2.1, (h.so a e).2.2.1, fun e2 => ?_⟩, h.lo, t.keep h.keep fun a e => (h.got.1.lt a e).1⟩
  · rcases hb with e2 | e2
    · rw [e2] at e; exact h.go a e
    · rw [e2] at e
      injection e with e
      subst e
      exact ⟨fun e => by have := h.src.lt _ e; omega, fun e => by have := h.rel.lt _ e; omega, by omega⟩
  · rcases hb with e3 | e3
    · rw [e3] at e2; exact (h.so a e).2.2.2 e2
    · rw [e3] at e2
      injection e2 with e2
      have := (h.str.1.lt a e).2
      omega
end OrK
theorem gens_r {w : World} {F : Nat → Prop} {b g s : Nat} {xs cs : List Nat} {M : List (List Nat)} {cl : Bool} (h : SrcR w F b g s xs cs M cl) (hm : M.length ≤ 1000000) :
    Calls Tryz.prog 27 #[.pointer (some ⟨b, 0, none⟩)] w fun e w' => e = .returned (.int .u64 (M.length : Int)) ∧ w = w' := by
  obtain ⟨A1, n1, c1, A2, n2, c2, A3, n3, c3, ha⟩ := h
  exact gens_any ha hm
theorem own_cap {w : World} {base e n c : Nat} {A : Option Addr} {xs : List Nat} (h : Own w base e A n c xs) : n ≤ c := by
  rcases h.1.2 with ⟨hv, h0⟩ | ⟨g, cap, cur, hv, _, _, hle, _⟩
  · omega
  · injection hv with _ _ hc
    omega
/-- A release of true rows. -/
theorem rel_tru {g s bb n n2 : Nat} {M : List (List Nat)} {L : Nat → List (List Nat)} {l : List (List Nat)} {br : Bool} (h : RelT g s 8 bb L n l n2 br) (hT : TruL g s M L) (hc : ChkM g s M) (hout : ∀ m, winIn bb 8 m = false → L m = []) (hn : n ≤ M.length) : br = false ∧ n2 ≤ M.length ∧ n2 = n + l.length ∧ (M.take n).flatten ++ l.flatten = (M.take n2).flatten ∧ (L n2).length ≠ g := by
  obtain ⟨h1, h2, h3, h4⟩ := hT.told hc h hn
  refine ⟨h1, h2, h.j, by rw [h4, List.flatten_append], fun e => ?_⟩
  have h5 := h.end_ h1
  refine h5 ⟨?_, e⟩
  cases hw : winIn bb 8 n2 with
  | true => rfl
  | false =>
    exfalso
    rw [hout n2 hw] at e
    have := hc.g1
    simp at e
    omega
end Go.Proofs.YtgelalbmhllccaaGreat
