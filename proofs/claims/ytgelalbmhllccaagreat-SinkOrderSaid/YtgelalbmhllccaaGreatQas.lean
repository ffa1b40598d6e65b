/- The landed source: the row of a generation by coefficients. -/
import Derived.Test.YtgelalbmhllccaaGreatQar
import Derived.Test.YtgelalbmhllccaaGreatQae
import Derived.Test.YtgelalbmhllccaaGreatQaj
import Derived.Test.YtgelalbmhllccaaGreatQaq
import Derived.Test.YtgelalbmhllccaaGreatQan
import Derived.Test.YtgelalbmhllccaaGreatQak
import Derived.Test.YtgelalbmhllccaaGreatQab
namespace Go.Proofs.YtgelalbmhllccaaGreat
open Go.RowKit
set_option linter.unusedVariables false
set_option linter.unusedSimpArgs false
theorem infoARow : (Tryz.prog.info? 45).map (·.size) = some 2 := by kernel_rfl
theorem combAt_more {R : List (List Nat)} {cs : List Nat} {m : Nat} (h1 : R.length = m) (h2 : cs.length = m) (x : List Nat) (c j : Nat) : vCombAt (R ++ [x]) (cs ++ [c]) (m + 1) j = vCombAt R cs m j ^^^ mulN (x.getD j 0) c := by
  rw [vCombAt, sumX]
  have e1 : (R ++ [x]).getD m [] = x := by rw [List.getD_eq_getElem?_getD, List.getElem?_append_right (by omega), h1, Nat.sub_self]; rfl
  have e2 : (cs ++ [c]).getD m 0 = c := by rw [List.getD_eq_getElem?_getD, List.getElem?_append_right (by omega), h2, Nat.sub_self]; rfl
  rw [e1, e2]
  congr 1
  exact sumX_congr fun i hi => by
    have e3 : (R ++ [x]).getD i [] = R.getD i [] := by rw [List.getD_eq_getElem?_getD, List.getElem?_append_left (by omega), ← List.getD_eq_getElem?_getD]
    have e4 : (cs ++ [c]).getD i 0 = cs.getD i 0 := by rw [List.getD_eq_getElem?_getD, List.getElem?_append_left (by omega), ← List.getD_eq_getElem?_getD]
    rw [e3, e4]
theorem Held.grown {w w' : World} {b : Nat} {v : Value} {t : TypeId} {row : Option Nat} (h : Held w b v t) (g : w.grownBy w' row) (hn : row ≠ some b) : Held w' b v t :=
  (Turned.of_grown (F := fun i => row = some i) g fun i e => e).block b (lt_of_block h) hn |>.trans h
theorem Held.bytes {w : World} {n x : Nat} {t : TypeId} (h : Held w n (.int .u8 (x : Int)) t) (hx : x < 256) : Bytes w w.heap.size (some ⟨n, 0, none⟩) 1 [x] :=
  ⟨rfl, fun y hy => by rw [List.mem_singleton.1 hy]; exact hx, fun _ => ⟨n, 0, rfl, lt_of_block h, fun i hi => by
    obtain rfl : i = 0 := by omega
    exact h.cell⟩⟩
/-- The lists that a row is made of: vectors and factors, each in a block of its own; the vectors' rows lie in blocks of Fr. -/
structure RowI2 (w5 : World) (V0 F0 : Nat) (Fr : Nat → Prop) (s : Nat) (wr : World) (m1 : Nat) (A1 : Option Addr) (c1 : Nat) (rs : List RowV) (m2 : Nat) (A2 : Option Addr) (c2 : Nat) (cs : List Nat) : Prop where
  own1 : OwnRows wr 0 43 A1 m1 c1 rs
  b1 : ∀ k, (Value.slice A1 m1 c1).ownBlock = some k → k = V0 ∨ w5.heap.size ≤ k
  own2 : Own wr 0 5 A2 m2 c2 cs
  b2 : ∀ k, (Value.slice A2 m2 c2).ownBlock = some k → k = F0 ∨ w5.heap.size ≤ k
  rows : ∀ r ∈ rs, LiesIn w5 Fr r ∧ r.n = s
  tn : Turned (fun x => x = V0 ∨ x = F0) w5 wr
section
variable {w5 wr w' : World} {V0 F0 : Nat} {Fr : Nat → Prop} {s m1 m2 : Nat} {A1 : Option Addr} {c1 : Nat} {A2 : Option Addr} {c2 : Nat} {rs : List RowV} {cs : List Nat}
namespace RowI2
theorem later (h : RowI2 w5 V0 F0 Fr s wr m1 A1 c1 rs m2 A2 c2 cs) (k : Keep wr w') : RowI2 w5 V0 F0 Fr s w' m1 A1 c1 rs m2 A2 c2 cs :=
  ⟨h.own1.keep k, h.b1, h.own2.keep k, h.b2, h.rows, h.tn.then_keep k⟩
theorem size (h : RowI2 w5 V0 F0 Fr s wr m1 A1 c1 rs m2 A2 c2 cs) : w5.heap.size ≤ wr.heap.size := h.tn.size
theorem ne (h : RowI2 w5 V0 F0 Fr s wr m1 A1 c1 rs m2 A2 c2 cs) : ∀ k, (Value.slice A2 m2 c2).ownBlock = some k → (Value.slice A1 m1 c1).ownBlock ≠ some k := fun k e e2 => by
  rcases blocks_apart h.own2 h.own1 (by decide) with h1 | h1
  · rw [e] at h1; cases h1
  · rw [e, e2] at h1; exact h1 rfl
theorem app1 (h : RowI2 w5 V0 F0 Fr s wr m1 A1 c1 rs m2 A2 c2 cs) {A' : Option Addr} {c' : Nat} {r : RowV} (ho : OwnRows w' 0 43 A' (m1 + 1) c' (rs ++ [r])) (g : wr.grownBy w' (Value.slice A1 m1 c1).ownBlock)
    (hb : (Value.slice A' (m1 + 1) c').ownBlock = (Value.slice A1 m1 c1).ownBlock ∨ (Value.slice A' (m1 + 1) c').ownBlock = some wr.heap.size) (hr : LiesIn w5 Fr r ∧ r.n = s) : RowI2 w5 V0 F0 Fr s w' (m1 + 1) A' c' (rs ++ [r]) m2 A2 c2 cs := by
  have t : Turned (fun i => (Value.slice A1 m1 c1).ownBlock = some i) wr w' := Turned.of_grown (F := fun i => (Value.slice A1 m1 c1).ownBlock = some i) g fun i e => e
  refine ⟨ho, fun k e => ?_, h.own2.turned t fun k e e2 => h.ne k e e2, h.b2, fun q hq => ?_, h.tn.trans t fun i e => (h.b1 i e).imp (fun e => Or.inl e) id⟩
  · rcases hb with hb | hb
    · exact h.b1 k (hb ▸ e)
    · rw [hb] at e; injection e with e; exact Or.inr (e ▸ h.size)
  · rcases List.mem_append.1 hq with hq | hq
    · exact h.rows q hq
    · rw [List.mem_singleton.1 hq]; exact hr
theorem app2 (h : RowI2 w5 V0 F0 Fr s wr m1 A1 c1 rs m2 A2 c2 cs) {A' : Option Addr} {c' x : Nat} (ho : Own w' 0 5 A' (m2 + 1) c' (cs ++ [x])) (g : wr.grownBy w' (Value.slice A2 m2 c2).ownBlock)
    (hb : (Value.slice A' (m2 + 1) c').ownBlock = (Value.slice A2 m2 c2).ownBlock ∨ (Value.slice A' (m2 + 1) c').ownBlock = some wr.heap.size) : RowI2 w5 V0 F0 Fr s w' m1 A1 c1 rs (m2 + 1) A' c' (cs ++ [x]) := by
  have t : Turned (fun i => (Value.slice A2 m2 c2).ownBlock = some i) wr w' := Turned.of_grown (F := fun i => (Value.slice A2 m2 c2).ownBlock = some i) g fun i e => e
  refine ⟨h.own1.turned t fun k e e2 => h.ne k e2 e, h.b1, ho, fun k e => ?_, h.rows, h.tn.trans t fun i e => (h.b2 i e).imp (fun e => Or.inr e) id⟩
  rcases hb with hb | hb
  · exact h.b2 k (hb ▸ e)
  · rw [hb] at e; injection e with e; exact Or.inr (e ▸ h.size)
theorem row1 (h : RowI2 w5 V0 F0 Fr s wr m1 A1 c1 rs m2 A2 c2 cs) : ∀ k, (Value.slice A1 m1 c1).ownBlock = some k → k < wr.heap.size := fun k hk => (World.ownsRow.lt h.own1 k hk).2
/-- The rows as an argument. -/
theorem rowsAt (h : RowI2 w5 V0 F0 Fr s wr m1 A1 c1 rs m2 A2 c2 cs) (hF : ∀ x, Fr x → x ≠ V0 ∧ x ≠ F0 ∧ x < w5.heap.size) (hs : s ≤ 65535) : RowsAt wr wr.heap.size A1 m1 rs := h.own1.rows fun r hr => by
  obtain ⟨a, b⟩ := h.rows r hr
  have a2 := a.turned h.tn fun x hx e => by
    obtain ⟨h1, h2, _⟩ := hF x hx
    rcases e with e | e
    · exact h1 e
    · exact h2 e
  exact ⟨a2.bytes fun x hx => Nat.lt_of_lt_of_le (hF x hx).2.2 h.size, by omega, a.2.2.1⟩
end RowI2
/-- .. so many coefficients on. -/
structure RowI (w5 : World) (V0 F0 : Nat) (Fr : Nat → Prop) (s : Nat) (L : List (List Nat)) (D : List Nat) (wr : World) (k m : Nat) (A1 : Option Addr) (c1 : Nat) (rs : List RowV) (A2 : Option Addr) (c2 : Nat) (cs : List Nat) : Prop where
  two : RowI2 w5 V0 F0 Fr s wr m A1 c1 rs m A2 c2 cs
  pos : 0 < m
  le : m ≤ k + 1
  sum : ∀ j, vCombAt (rowsOf rs) cs m j = vCombAt L D k j
namespace RowI
variable {k m : Nat} {L : List (List Nat)} {D : List Nat}
theorem later (h : RowI w5 V0 F0 Fr s L D wr k m A1 c1 rs A2 c2 cs) (kp : Keep wr w') : RowI w5 V0 F0 Fr s L D w' k m A1 c1 rs A2 c2 cs := ⟨h.two.later kp, h.pos, h.le, h.sum⟩
theorem skip (h : RowI w5 V0 F0 Fr s L D wr k m A1 c1 rs A2 c2 cs) (hd : D.getD k 0 = 0) : RowI w5 V0 F0 Fr s L D wr (k + 1) m A1 c1 rs A2 c2 cs :=
  ⟨h.two, h.pos, by have := h.le; omega, fun j => by rw [h.sum j, vCombAt, vCombAt, sumX, hd, mul_zero_right, Nat.xor_zero]⟩
theorem next (h : RowI w5 V0 F0 Fr s L D wr k m A1 c1 rs A2 c2 cs) {A1' : Option Addr} {c1' : Nat} {A2' : Option Addr} {c2' y : Nat} {r : RowV} (h2 : RowI2 w5 V0 F0 Fr s w' (m + 1) A1' c1' (rs ++ [r]) (m + 1) A2' c2' (cs ++ [y])) (hr : L.getD k [] = r.xs) (hy : D.getD k 0 = y) : RowI w5 V0 F0 Fr s L D w' (k + 1) (m + 1) A1' c1' (rs ++ [r]) A2' c2' (cs ++ [y]) :=
  ⟨h2, by omega, by have := h.le; omega, fun j => by
    have e : rowsOf (rs ++ [r]) = rowsOf rs ++ [r.xs] := by simp [rowsOf]
    rw [e, combAt_more (by rw [rowsOf, List.length_map, h.two.own1.length]) h.two.own2.length, h.sum j, ← hr, ← hy]; rfl⟩
theorem comb (h : RowI w5 V0 F0 Fr s L D wr k m A1 c1 rs A2 c2 cs) : combOf s rs cs = vComb s L D k ∧ combErr s rs = 0 := by
  have hf : ∀ r ∈ rs, r.n = s := fun r hr => (h.two.rows r hr).2
  rw [combOf, combErr, if_pos hf, if_pos hf]
  refine ⟨?_, rfl⟩
  rw [h.two.own1.length]
  exact tab_congr fun j _ => h.sum j
theorem head (h : RowI w5 V0 F0 Fr s L D wr k m A1 c1 rs A2 c2 cs) : ∃ r0, rs[0]? = some r0 ∧ r0.n = s := by
  have hl := h.two.own1.length
  have hp := h.pos
  exact ⟨_, List.getElem?_eq_getElem (by omega), (h.two.rows _ (List.getElem_mem (by omega))).2⟩
end RowI
end
/-- What a call hands back that makes a row. -/
def NewAgg (w : World) (C P : List Nat) (e : Ending) (w' : World) : Prop :=
  ∃ A n c A' n' c', e = .returned (.agg #[.slice A n c, .slice A' n' c']) ∧ Own w' w.heap.size 5 A n c C ∧ Own w' w.heap.size 5 A' n' c' P ∧ Keep w w'
theorem OwnRows.lit1 (w : World) (t : TypeId) (r : RowV) : OwnRows (w.alloc (.cells #[r.val] t)) w.heap.size t (some ⟨w.heap.size, 0, none⟩) 1 1 [r] :=
  ⟨rfl, Or.inr ⟨w.heap.size, 1, #[r.val], rfl, Nat.le_refl _, heap_alloc_new w _, Nat.le_refl _, by unfold maxLen; omega, rfl, rfl⟩⟩
theorem OwnRows.lowerTo {w : World} {base base' n c : Nat} {e : TypeId} {A : Option Addr} {rs : List RowV} (h : OwnRows w base e A n c rs) (hb : base' ≤ base) : OwnRows w base' e A n c rs := by
  refine ⟨h.1, ?_⟩
  rcases h.2 with h1 | ⟨g, cap, cur, hv, hg, r⟩
  · exact Or.inl h1
  · exact Or.inr ⟨g, cap, cur, hv, by omega, r⟩
section
variable {w w' : World} {F G : Nat → Prop} {b g s : Nat} {xs cs : List Nat} {M : List (List Nat)} {cl : Bool}
/-- What stands ahead of the loop: the result's cell, a row of noughts, the vectors, the factors. -/
theorem row_start (w : World) (s : Nat) (hs : s ≤ 65535) (tR : TypeId) (u : Array Value) :
    ∃ w1, (((w.alloc (.cells u tR)).alloc (.cells (madeCells #[.int .u8 0] s) 5)).alloc (.cells #[.slice (some ⟨w.heap.size + 1, 0, none⟩) s s] 43)).alloc (.cells #[.int .u8 1] 5) = w1 ∧ w1.heap.size = w.heap.size + 4 ∧ Keep w w1 ∧ w1.heap[w.heap.size]? = some (.cells u tR (0, 0)) ∧
      OwnRows w1 0 43 (some ⟨w.heap.size + 2, 0, none⟩) 1 1 [⟨some ⟨w.heap.size + 1, 0, none⟩, s, s, List.replicate s 0⟩] ∧ Own w1 0 5 (some ⟨w.heap.size + 3, 0, none⟩) 1 1 [1] ∧ LiesIn w1 (fun x => x = w.heap.size + 1) ⟨some ⟨w.heap.size + 1, 0, none⟩, s, s, List.replicate s 0⟩ := by
  obtain ⟨wa, ha⟩ : ∃ wa, w.alloc (.cells u tR) = wa := ⟨_, rfl⟩
  obtain ⟨wb, hb⟩ : ∃ wb, wa.alloc (.cells (madeCells #[.int .u8 0] s) 5) = wb := ⟨_, rfl⟩
  obtain ⟨wc, hc⟩ : ∃ wc, wb.alloc (.cells #[.slice (some ⟨w.heap.size + 1, 0, none⟩) s s] 43) = wc := ⟨_, rfl⟩
  obtain ⟨wd, hd⟩ : ∃ wd, wc.alloc (.cells #[.int .u8 1] 5) = wd := ⟨_, rfl⟩
  have sa : wa.heap.size = w.heap.size + 1 := by rw [← ha]; simp
  have sb : wb.heap.size = w.heap.size + 2 := by rw [← hb]; simp [sa]
  have sc : wc.heap.size = w.heap.size + 3 := by rw [← hc]; simp [sb]
  have sd : wd.heap.size = w.heap.size + 4 := by rw [← hd]; simp [sc]
  have kb : Keep wb wc := by rw [← hc]; exact (Keep.refl _).alloc _ _
  have kc : Keep wc wd := by rw [← hd]; exact (Keep.refl _).alloc _ _
  have kab : Keep wa wb := by rw [← hb]; exact (Keep.refl _).alloc _ _
  have ka : Keep w wa := by rw [← ha]; exact (Keep.refl _).alloc _ _
  have oz : Own wb wa.heap.size 5 (some ⟨w.heap.size + 1, 0, none⟩) s s (List.replicate s 0) := by
    rw [← hb, ← sa]; exact Own.made wa 5 s (by omega)
  have o1 : OwnRows wc wb.heap.size 43 (some ⟨wb.heap.size, 0, none⟩) 1 1 [⟨some ⟨w.heap.size + 1, 0, none⟩, s, s, List.replicate s 0⟩] := by
    rw [← hc]; exact OwnRows.lit1 wb 43 ⟨some ⟨w.heap.size + 1, 0, none⟩, s, s, List.replicate s 0⟩
  have o2 : Own wd wc.heap.size 5 (some ⟨wc.heap.size, 0, none⟩) 1 1 [1] := by
    rw [← hd]; exact Own.lit wc 5 1 [1] #[.int .u8 1] rfl rfl (by decide) (by decide)
  rw [sb] at o1
  rw [sc] at o2
  refine ⟨wd, by rw [ha, hb, hc, hd], sd, ((ka.trans kab).trans kb).trans kc, ?_, (o1.keep kc).lowerTo (Nat.zero_le _), o2.lower (Nat.zero_le _), ?_⟩
  · rw [((kab.trans kb).trans kc).block w.heap.size (by omega), ← ha]; exact heap_alloc_new w _
  · refine (oz.keep (kb.trans kc)).lies.mono fun x hx => ?_
    have hx : some (w.heap.size + 1) = some x := hx
    injection hx with hx; exact hx.symm
set_option maxRecDepth 100000 in
set_option maxHeartbeats 8000000 in
theorem row_any {P : Nat} (h : SrcR w F b g s xs cs M cl) (hG : GoodS g s P xs cs M) (gen : Nat) (r : List Nat) (hr : M[gen]? = some r) (B5 c5 : Nat) (A5 : Option Addr) (D : List Nat) (hD : Bytes w B5 A5 g D) (hB : B5 ≤ w.heap.size) :
    Calls Tryz.prog 64 #[.pointer (some ⟨b, 0, none⟩), .int .u64 (gen : Int), .slice A5 g c5] w (NewAgg w D (vComb s (layN g s r) D g)) := by
  have hs1 := hG.size.s0
  have hs2 := hG.size.s1
  have hg2 := hG.size.g1
  have mk := fun w => run_make_bytes (P := Tryz.prog) Tryz.underlying43 info5 s (by omega) w
  obtain ⟨A1, n1, c1, A2, n2, c2, A3, n3, c3, ha⟩ := h
  obtain ⟨H, hH⟩ : ∃ H, w.heap.size = H := ⟨_, rfl⟩
  obtain ⟨w1, e1, z1, k1, box, o1, o2, lz⟩ := row_start w s hs2 45 #[.slice none 0 0, .slice none 0 0]
  have hx1 : ∀ wq, Keep w wq → wq.cell? ⟨b, 1, none⟩ = some (.int .i64 (s : Int)) := fun wq k => (ha.keep k).x1
  have wa1 := hx1 _ ((Keep.refl w).alloc #[.slice none 0 0, .slice none 0 0] 45)
  have HSY := Lib.hid (symbols_any (⟨_, _, _, _, _, _, _, _, _, ha.keep k1⟩ : SrcR w1 F b g s xs cs M cl) hG gen r hr)
  rw [hH] at z1 box o1 o2 lz
  have K1 := Lib.hid k1
  have Z1 := Lib.hid z1
  have BX := Lib.hid box
  have O1 := Lib.hid o1
  have O2 := Lib.hid o2
  have LZ := Lib.hid lz
  have HD := Lib.hid hD
  have HBB := Lib.hid hB
  have HHH := Lib.hid hH
  have E1 := Lib.hid e1
  have HLS : Hid (∀ L, layN g s r = L → ∀ q ∈ L, q.length = s) := fun L hL q hq => by
    obtain ⟨_, _, p1, p2⟩ := hG.piece hr
    have hlo := hG.size.lo
    rw [← hL, layN, cutsN] at hq
    obtain ⟨i, hi, rfl⟩ := List.mem_map.1 hq
    exact cutN_len (g := g) (allN_len (by rw [hG.size.eq]; omega)) (List.mem_range.1 hi)
  clear ha hG hx1 k1 z1 box o1 o2 lz hD hB hr
  rw [hH] at e1
  go_enter Tryz.func64, Tryz.ntmps64
  go_wp2_with fail
  refine HSY.out.mono ?_
  rintro e w5 ⟨As, ns, ks, rfl, hS⟩
  have hcnt := hS.count
  obtain ⟨L, hL⟩ : ∃ L, layN g s r = L := ⟨_, rfl⟩
  have hLl : L.length = g := by rw [← hL]; exact cutsN_len _ _ _
  have hLr : ∀ q ∈ L, q.length = s := HLS.out L hL
  rw [hL] at hcnt hS ⊢
  obtain rfl : g = ns := by omega
  obtain ⟨⟨rS, hrS, _, hxS⟩, _, _, k5⟩ := hS
  have K5 := Lib.hid k5
  obtain ⟨N5, hN5⟩ : ∃ N5, w5.heap.size = N5 := ⟨_, rfl⟩
  have HN5 := Lib.hid hN5
  have hz5 : H + 4 ≤ N5 := by have := k5.size; have := Z1.out; omega
  have HZ5 := Lib.hid hz5
  have RS := Lib.hid hrS
  have XS := Lib.hid hxS
  have LR := Lib.hid hLr
  have HLL := Lib.hid hLl
  have HFr : Hid (∀ x, (x = H + 1 ∨ (H + 4 ≤ x ∧ x < N5)) → x ≠ H + 2 ∧ x ≠ H + 3 ∧ x < w5.heap.size) := fun x hx => by
    have := HN5.out
    have := hz5
    omega
  have I0 : Hid (RowI w5 (H + 2) (H + 3) (fun x => x = H + 1 ∨ (H + 4 ≤ x ∧ x < N5)) s L D w5 0 1 (some ⟨H + 2, 0, none⟩) 1 [⟨some ⟨H + 1, 0, none⟩, s, s, List.replicate s 0⟩] (some ⟨H + 3, 0, none⟩) 1 [1]) := by
    refine ⟨⟨O1.out.keep k5, fun k hk => Or.inl (by have hk : some (H + 2) = some k := hk; injection hk with hk; exact hk.symm), O2.out.keep k5, fun k hk => Or.inl (by have hk : some (H + 3) = some k := hk; injection hk with hk; exact hk.symm), fun q hq => ?_, Turned.refl _ _⟩, by decide, by decide, fun j => ?_⟩
    · rw [List.mem_singleton.1 hq]
      exact ⟨(LZ.out.turned (Turned.of_keep (F := fun _ => False) k5) fun _ _ e => e).mono fun x hx => Or.inl hx, rfl⟩
    · show 0 ^^^ mulN ((List.replicate s 0).getD j 0) 1 = 0
      have e0 : (List.replicate s 0).getD j 0 = 0 := by
        rw [List.getD_eq_getElem?_getD, List.getElem?_replicate]
        split <;> rfl
      rw [e0, mul_zero_left]; rfl
  have HL0 := Lib.hid hL
  clear hcnt hL hLl hLr hrS hxS k5 hz5 hN5 O1 O2 LZ e1 E1 HSY wa1 mk
  go_wp2_with fail
  go_loopw [7, 8, 24] (fun u v i wr => ∃ (k m d1 d2 : Nat) (V1 V2 : Option Addr) (rs : List RowV) (cs : List Nat), k ≤ g ∧ i = .int .i64 k ∧ u = .slice V1 m d1 ∧ v = .slice V2 m d2 ∧ RowI w5 (H + 2) (H + 3) (fun x => x = H + 1 ∨ (H + 4 ≤ x ∧ x < N5)) s L D wr k m V1 d1 rs V2 d2 cs) (fun _ _ i _ => g - (intOf i).toNat)
  case atStart => exact ⟨0, 1, 1, 1, _, _, _, _, by omega, rfl, rfl, rfl, I0.out⟩
  case round =>
    obtain ⟨k, m, d1, d2, V1, V2, rs, cs, hk, rfl, rfl, rfl, hI⟩ := hrel
    have HI := Lib.hid hI
    have hm := hI.le
    have KW : Hid (Keep w wr) := hI.two.tn.keep (K1.out.trans K5.out) fun i e => by
      have := HHH.out
      rcases e with e | e <;> omega
    clear hI I0
    by_cases hlt : k < g
    · obtain ⟨bD, oD, rfl, hbD, hcD⟩ := (HD.out.keep HBB.out KW.out).at_ hlt
      have e1 : (0 : Int) ≤ (k : Int) := Int.natCast_nonneg _
      have e2 : (k : Int) < (g : Int) := by omega
      have hx := HD.out.all.getD k
      obtain ⟨b2, o2, q, rfl, hb2, hq, hc2, hq2⟩ := (RS.out.turned HI.out.two.tn fun x hx e => by
        have := Z1.out
        rcases e with e | e <;> omega).at_ hlt
      have hLq : L.getD k [] = q.xs := by
        rw [← XS.out, rowsXs, List.getD_eq_getElem?_getD, List.getElem?_map, hq]; rfl
      have hqs : q.n = s := by
        have h0 : q.xs ∈ L := by rw [← XS.out]; exact List.mem_map.2 ⟨q, List.mem_of_getElem? hq, rfl⟩
        rw [← LR.out _ h0]
        exact hq2.1.symm
      have hqF : LiesIn w5 (fun x => x = H + 1 ∨ (H + 4 ≤ x ∧ x < N5)) q := (RS.out.2.1 q (List.mem_of_getElem? hq)).mono fun x hx => Or.inr (by have := Z1.out; have := HN5.out; omega)
      obtain ⟨qA, qn, qc, qx⟩ := q
      obtain rfl : s = qn := hqs.symm
      have HQ := Lib.hid hqF
      have HLQ := Lib.hid hLq
      have hc2 : wr.cell? ⟨b2, o2 + k, none⟩ = some (.slice qA s qc) := hc2
      by_cases hz : D.getD k 0 = 0
      · have HZ := Lib.hid hz
        rw [hz] at hcD
        clear hz hx hqF hLq hq hq2
        go_wp2_with fail
        go_roundw
        case rel => exact ⟨k + 1, m, d1, d2, _, _, _, _, by omega, by go_num, rfl, rfl, HI.out.skip HZ.out⟩
        case measure => simp [intOf]; omega
      · obtain ⟨y, hy⟩ : ∃ y, D.getD k 0 = y := ⟨_, rfl⟩
        rw [hy] at hcD hz hx
        have HY := Lib.hid hy
        have b1 : ((y : Int) != 0) = true := by rw [bne_iff_ne]; omega
        have b0 : ¬ (y : Int) = 0 := by omega
        have HX := Lib.hid hx
        have HCD : Hid (∀ wq, Keep wr wq → wq.cell? ⟨bD, oD + k, none⟩ = some (.int .u8 (y : Int))) := fun wq kk => by
          rw [World.cell?_of_block (kk.block bD (World.block_lt_of_cell? wr _ hcD))]; exact hcD
        obtain ⟨wA, hwA⟩ : ∃ wA, World.drew wr = wA := ⟨_, rfl⟩
        have QA := Lib.hid (HI.out.two.later (show Keep wr wA by rw [← hwA]; exact Keep.drew (Keep.refl _)))
        have HWA := Lib.hid hwA
        have hm9 : m ≤ 1000 := by omega
        clear hy hz hqF hLq hq hq2 hx hwA
        go_wp2_with fail
        have hbDH : bD < H := by have := HBB.out; have := HHH.out; omega
        have HCW : Hid (∀ wq, Turned (fun x => H ≤ x) wr wq → wq.cell? ⟨bD, oD + k, none⟩ = some (.int .u8 (y : Int))) := fun wq t => t.cell (p := ⟨bD, oD + k, none⟩) hcD (by show ¬ H ≤ bD; omega)
        refine wp_region_noPanic ?_
        refine wp_region_held_drew (S := fun wz => wz.cell? ⟨bD, oD + k, none⟩ = some (.int .u8 (y : Int))) (by kernel_rfl) (by exact hcD) (fun hHeld => ?_)
        rw [HWA.out] at hHeld ⊢
        refine wpAnyH_take (i := 0) (v := ?_) rfl (by kernel_rfl) (by kernel_rfl) (by kernel_rfl) (fun _ _ _ h => h) (Or.inl ⟨by rfl, ?_⟩) hHeld ?_
        rotate_left
        · intro wq hSw
          go_simp
          all_goals with_reducible rfl
        try simp only [Act.put, List.getElem_toArray, List.getElem_cons_succ, List.getElem_cons_zero, List.setIfInBounds_toArray, List.set_cons_zero, List.set_cons_succ]
        refine wpAnyH_take (i := 1) (v := ?_) rfl (by kernel_rfl) (by kernel_rfl) (by kernel_rfl) (fun _ _ _ h => h) (Or.inl ⟨by rfl, ?_⟩) hHeld ?_
        rotate_left
        · intro wq hSw
          go_simp
          all_goals with_reducible rfl
        try simp only [Act.put, List.getElem_toArray, List.getElem_cons_succ, List.getElem_cons_zero, List.setIfInBounds_toArray, List.set_cons_zero, List.set_cons_succ]
        refine wpAnyH_take (i := 4) (v := ?_) rfl (by kernel_rfl) (by kernel_rfl) (by kernel_rfl) (fun _ _ _ h => h) (Or.inl ⟨by rfl, ?_⟩) hHeld ?_
        rotate_left
        · intro wq hSw
          go_simp
          all_goals with_reducible rfl
        try simp only [Act.put, List.getElem_toArray, List.getElem_cons_succ, List.getElem_cons_zero, List.setIfInBounds_toArray, List.set_cons_zero, List.set_cons_succ]
        refine wpAnyH_take (i := 5) (v := ?_) rfl (by kernel_rfl) (by kernel_rfl) (by kernel_rfl) (fun _ _ _ h => h) (Or.inl ⟨by rfl, ?_⟩) hHeld ?_
        rotate_left
        · intro wq hSw
          go_simp
          all_goals with_reducible rfl
        try simp only [Act.put, List.getElem_toArray, List.getElem_cons_succ, List.getElem_cons_zero, List.setIfInBounds_toArray, List.set_cons_zero, List.set_cons_succ]
        refine wpAnyH_take (i := 6) (v := ?_) rfl (by kernel_rfl) (by kernel_rfl) (by kernel_rfl) (fun _ _ _ h => h) (Or.inl ⟨by rfl, ?_⟩) hHeld ?_
        rotate_left
        · intro wq hSw
          go_simp
          all_goals with_reducible rfl
        try simp only [Act.put, List.getElem_toArray, List.getElem_cons_succ, List.getElem_cons_zero, List.setIfInBounds_toArray, List.set_cons_zero, List.set_cons_succ]
        refine wpAnyH_take (i := 7) (v := ?_) rfl (by kernel_rfl) (by kernel_rfl) (by kernel_rfl) (fun _ _ _ h => h) (Or.inl ⟨by rfl, ?_⟩) hHeld ?_
        rotate_left
        · intro wq hSw
          go_simp
          all_goals with_reducible rfl
        try simp only [Act.put, List.getElem_toArray, List.getElem_cons_succ, List.getElem_cons_zero, List.setIfInBounds_toArray, List.set_cons_zero, List.set_cons_succ]
        refine wpAnyH_take (i := 8) (v := ?_) rfl (by kernel_rfl) (by kernel_rfl) (by kernel_rfl) (fun _ _ _ h => h) (Or.inl ⟨by rfl, ?_⟩) hHeld ?_
        rotate_left
        · intro wq hSw
          have q0 := hSw
          go_simp
          all_goals with_reducible rfl
        try simp only [Act.put, List.getElem_toArray, List.getElem_cons_succ, List.getElem_cons_zero, List.setIfInBounds_toArray, List.set_cons_zero, List.set_cons_succ]
        have TA : Hid (Turned (fun x => H ≤ x) wr wA) := by show Turned _ _ _; rw [← HWA.out]; exact Turned.of_keep (Keep.drew (Keep.refl _))
        refine wpAnyH_ready (rs := [2, 9]) (by kernel_rfl) (by simp) ?_
        refine AllReadyH.cons rfl (fun K hK => ?_) (AllReadyH.cons rfl (fun K hK => ?_) AllReadyH.nil)
        · skip
          go_simp
          obtain ⟨nB2, hnB2⟩ : ∃ n, wA.heap.size = n := ⟨_, rfl⟩
          obtain ⟨wB1, hwB1⟩ : ∃ W, wA.alloc (.cells #[.slice qA s qc] 43) = W := ⟨_, rfl⟩
          have kwB1 : Keep wA wB1 := by rw [← hwB1]; exact (Keep.refl _).alloc _ _
          have RwB1 : Hid (Held wB1 nB2 (.slice qA s qc) 43) := by show Held _ _ _ _; rw [← hwB1]; exact Held.new hnB2 _ _
          have QwB1 := Lib.hid (QA.out.later kwB1)
          have LwB1 : Hid (nB2 < wB1.heap.size ∧ ∀ k, (Value.slice V1 m d1).ownBlock = some k → k ≠ nB2) := ⟨lt_of_block RwB1.out, fun k e => by have := QA.out.row1 k e; omega⟩
          have TwB1 : Hid (Turned (fun x => H ≤ x) wr wB1) := TA.out.then_keep kwB1
          clear kwB1 QA TA

          try rw [hwB1]
          try rw [hnB2]
          refine hK.out _ _ (HCW.out _ TwB1.out) (fun hHeld => ?_)
          clear hK K hwB1 hnB2
          try simp only [Act.put, List.getElem_toArray, List.getElem_cons_succ, List.getElem_cons_zero, List.setIfInBounds_toArray, List.set_cons_zero, List.set_cons_succ]
          refine wpAnyH_ready (rs := [3, 9]) (by kernel_rfl) (by simp) ?_
          refine AllReadyH.cons rfl (fun K hK => ?_) (AllReadyH.cons rfl (fun K hK => ?_) AllReadyH.nil)
          · skip
            refine wp_append_row _ _ 40 rfl ⟨qA, s, qc, qx⟩ Tryz.underlying40 infoRow rfl QwB1.out.own1 rfl RwB1.out.cell (by omega) (by omega) ?_
            intro AD4 cD5 wD3 hwD3 gwD3 rwD3
            have QwD3 := Lib.hid (QwB1.out.app1 hwD3 gwD3 rwD3 ⟨HQ.out, rfl⟩)
            have TwD3 : Hid (Turned (fun x => H ≤ x) wr wD3) := TwB1.out.trans (Turned.of_grown (F := fun i => (Value.slice V1 m d1).ownBlock = some i) gwD3 fun i e => e) fun i e => by
              have h1 := QwB1.out.b1 i e
              have h2 := HN5.out
              have h3 := HZ5.out
              left
              show H ≤ i
              omega
            clear hwD3 gwD3 rwD3 QwB1 TwB1
            refine hK.out _ _ (HCW.out _ TwD3.out) (fun hHeld => ?_)
            clear hK K
            try simp only [Act.put, List.getElem_toArray, List.getElem_cons_succ, List.getElem_cons_zero, List.setIfInBounds_toArray, List.set_cons_zero, List.set_cons_succ]
            refine wpAnyH_ready (rs := [9]) (by kernel_rfl) (by simp) ?_
            refine AllReadyH.cons rfl (fun K hK => ?_) AllReadyH.nil
            go_simp
            obtain ⟨nC7, hnC7⟩ : ∃ n, wD3.heap.size = n := ⟨_, rfl⟩
            obtain ⟨wC6, hwC6⟩ : ∃ W, wD3.alloc (.cells #[.int .u8 (y : Int)] 5) = W := ⟨_, rfl⟩
            have kwC6 : Keep wD3 wC6 := by rw [← hwC6]; exact (Keep.refl _).alloc _ _
            have YwC6 : Hid (Held wC6 nC7 (.int .u8 (y : Int)) 5) := by show Held _ _ _ _; rw [← hwC6]; exact Held.new hnC7 _ _
            have QwC6 := Lib.hid (QwD3.out.later kwC6)
            have MwC6 : Hid (∀ k, (Value.slice AD4 (m + 1) cD5).ownBlock = some k → k ≠ nC7) := fun k e => by have := QwD3.out.row1 k e; omega
            have TwC6 : Hid (Turned (fun x => H ≤ x) wr wC6) := TwD3.out.then_keep kwC6
            clear kwC6 QwD3 TwD3
            try rw [hwC6]
            try rw [hnC7]
            refine hK.out _ _ (HCW.out _ TwC6.out) (fun hHeld => ?_)
            clear hK K hwC6 hnC7
            try simp only [Act.put, List.getElem_toArray, List.getElem_cons_succ, List.getElem_cons_zero, List.setIfInBounds_toArray, List.set_cons_zero, List.set_cons_succ]
            refine wpAnyH_ready (rs := [10]) (by kernel_rfl) (by simp) ?_
            refine AllReadyH.cons rfl (fun K hK => ?_) AllReadyH.nil
            refine wp_append_bytes _ _ 43 rfl Tryz.underlying43 info5 rfl QwC6.out.own2 rfl (YwC6.out.bytes HX.out) (by omega) (by omega) ?_
            intro AE9 cE10 wE8 hwE8 gwE8 rwE8
            have QwE8 := Lib.hid (QwC6.out.app2 hwE8 gwE8 rwE8)
            have TwE8 : Hid (Turned (fun x => H ≤ x) wr wE8) := TwC6.out.trans (Turned.of_grown (F := fun i => (Value.slice V2 m d2).ownBlock = some i) gwE8 fun i e => e) fun i e => by
              have h1 := QwC6.out.b2 i e
              have h2 := HN5.out
              have h3 := HZ5.out
              left
              show H ≤ i
              omega
            clear hwE8 gwE8 rwE8 TwC6
            refine hK.out _ _ (HCW.out _ TwE8.out) (fun hHeld => ?_)
            clear hK K
            try simp only [Act.put, List.getElem_toArray, List.getElem_cons_succ, List.getElem_cons_zero, List.setIfInBounds_toArray, List.set_cons_zero, List.set_cons_succ]
            refine wpAnyH_take (i := 11) (v := ?_) rfl (by kernel_rfl) (by kernel_rfl) (by kernel_rfl) (fun _ _ _ h => h) (Or.inl ⟨by rfl, ?_⟩) hHeld ?_
            rotate_left
            · intro wq hSw
              go_simp
              all_goals with_reducible rfl
            try simp only [Act.put, List.getElem_toArray, List.getElem_cons_succ, List.getElem_cons_zero, List.setIfInBounds_toArray, List.set_cons_zero, List.set_cons_succ]
            refine wpAnyH_take (i := 12) (v := ?_) rfl (by kernel_rfl) (by kernel_rfl) (by kernel_rfl) (fun _ _ _ h => h) (Or.inl ⟨by rfl, ?_⟩) hHeld ?_
            rotate_left
            · intro wq hSw
              go_simp
              all_goals with_reducible rfl
            try simp only [Act.put, List.getElem_toArray, List.getElem_cons_succ, List.getElem_cons_zero, List.setIfInBounds_toArray, List.set_cons_zero, List.set_cons_succ]
            refine wpAnyH_done (by kernel_rfl) ?_ _
            refine NoPanic.normal ?_
            clear hHeld
            have NI := Lib.hid (HI.out.next QwE8.out HLQ.out HY.out)
            go_wp2_with fail
            go_roundw
            case rel => exact ⟨k + 1, m + 1, cD5, cE10, AD4, AE9, _, _, by omega, by go_num, rfl, rfl, NI.out⟩
            case measure => simp [intOf]; omega
          · skip
            go_simp
            obtain ⟨nC12, hnC12⟩ : ∃ n, wB1.heap.size = n := ⟨_, rfl⟩
            obtain ⟨wC11, hwC11⟩ : ∃ W, wB1.alloc (.cells #[.int .u8 (y : Int)] 5) = W := ⟨_, rfl⟩
            have kwC11 : Keep wB1 wC11 := by rw [← hwC11]; exact (Keep.refl _).alloc _ _
            have YwC11 : Hid (Held wC11 nC12 (.int .u8 (y : Int)) 5) := by show Held _ _ _ _; rw [← hwC11]; exact Held.new hnC12 _ _
            have QwC11 := Lib.hid (QwB1.out.later kwC11)
            have MwC11 : Hid (∀ k, (Value.slice V1 m d1).ownBlock = some k → k ≠ nC12) := fun k e => by have := QwB1.out.row1 k e; omega
            have RwC11 := Lib.hid (RwB1.out.keep kwC11)
            have TwC11 : Hid (Turned (fun x => H ≤ x) wr wC11) := TwB1.out.then_keep kwC11
            clear kwC11 QwB1 TwB1
            try rw [hwC11]
            try rw [hnC12]
            refine hK.out _ _ (HCW.out _ TwC11.out) (fun hHeld => ?_)
            clear hK K hwC11 hnC12
            try simp only [Act.put, List.getElem_toArray, List.getElem_cons_succ, List.getElem_cons_zero, List.setIfInBounds_toArray, List.set_cons_zero, List.set_cons_succ]
            refine wpAnyH_ready (rs := [3]) (by kernel_rfl) (by simp) ?_
            refine AllReadyH.cons rfl (fun K hK => ?_) AllReadyH.nil
            refine wp_append_row _ _ 40 rfl ⟨qA, s, qc, qx⟩ Tryz.underlying40 infoRow rfl QwC11.out.own1 rfl RwC11.out.cell (by omega) (by omega) ?_
            intro AD14 cD15 wD13 hwD13 gwD13 rwD13
            have QwD13 := Lib.hid (QwC11.out.app1 hwD13 gwD13 rwD13 ⟨HQ.out, rfl⟩)
            have TwD13 : Hid (Turned (fun x => H ≤ x) wr wD13) := TwC11.out.trans (Turned.of_grown (F := fun i => (Value.slice V1 m d1).ownBlock = some i) gwD13 fun i e => e) fun i e => by
              have h1 := QwC11.out.b1 i e
              have h2 := HN5.out
              have h3 := HZ5.out
              left
              show H ≤ i
              omega
            have YwD13 := Lib.hid (YwC11.out.grown gwD13 fun e => MwC11.out _ e rfl)
            clear hwD13 gwD13 rwD13 QwC11 TwC11
            refine hK.out _ _ (HCW.out _ TwD13.out) (fun hHeld => ?_)
            clear hK K
            try simp only [Act.put, List.getElem_toArray, List.getElem_cons_succ, List.getElem_cons_zero, List.setIfInBounds_toArray, List.set_cons_zero, List.set_cons_succ]
            refine wpAnyH_ready (rs := [10]) (by kernel_rfl) (by simp) ?_
            refine AllReadyH.cons rfl (fun K hK => ?_) AllReadyH.nil
            refine wp_append_bytes _ _ 43 rfl Tryz.underlying43 info5 rfl QwD13.out.own2 rfl (YwD13.out.bytes HX.out) (by omega) (by omega) ?_
            intro AE17 cE18 wE16 hwE16 gwE16 rwE16
            have QwE16 := Lib.hid (QwD13.out.app2 hwE16 gwE16 rwE16)
            have TwE16 : Hid (Turned (fun x => H ≤ x) wr wE16) := TwD13.out.trans (Turned.of_grown (F := fun i => (Value.slice V2 m d2).ownBlock = some i) gwE16 fun i e => e) fun i e => by
              have h1 := QwD13.out.b2 i e
              have h2 := HN5.out
              have h3 := HZ5.out
              left
              show H ≤ i
              omega
            clear hwE16 gwE16 rwE16 TwD13
            refine hK.out _ _ (HCW.out _ TwE16.out) (fun hHeld => ?_)
            clear hK K
            try simp only [Act.put, List.getElem_toArray, List.getElem_cons_succ, List.getElem_cons_zero, List.setIfInBounds_toArray, List.set_cons_zero, List.set_cons_succ]
            refine wpAnyH_take (i := 11) (v := ?_) rfl (by kernel_rfl) (by kernel_rfl) (by kernel_rfl) (fun _ _ _ h => h) (Or.inl ⟨by rfl, ?_⟩) hHeld ?_
            rotate_left
            · intro wq hSw
              go_simp
              all_goals with_reducible rfl
            try simp only [Act.put, List.getElem_toArray, List.getElem_cons_succ, List.getElem_cons_zero, List.setIfInBounds_toArray, List.set_cons_zero, List.set_cons_succ]
            refine wpAnyH_take (i := 12) (v := ?_) rfl (by kernel_rfl) (by kernel_rfl) (by kernel_rfl) (fun _ _ _ h => h) (Or.inl ⟨by rfl, ?_⟩) hHeld ?_
            rotate_left
            · intro wq hSw
              go_simp
              all_goals with_reducible rfl
            try simp only [Act.put, List.getElem_toArray, List.getElem_cons_succ, List.getElem_cons_zero, List.setIfInBounds_toArray, List.set_cons_zero, List.set_cons_succ]
            refine wpAnyH_done (by kernel_rfl) ?_ _
            refine NoPanic.normal ?_
            clear hHeld
            have NI := Lib.hid (HI.out.next QwE16.out HLQ.out HY.out)
            go_wp2_with fail
            go_roundw
            case rel => exact ⟨k + 1, m + 1, cD15, cE18, AD14, AE17, _, _, by omega, by go_num, rfl, rfl, NI.out⟩
            case measure => simp [intOf]; omega
        · skip
          go_simp
          obtain ⟨nC20, hnC20⟩ : ∃ n, wA.heap.size = n := ⟨_, rfl⟩
          obtain ⟨wC19, hwC19⟩ : ∃ W, wA.alloc (.cells #[.int .u8 (y : Int)] 5) = W := ⟨_, rfl⟩
          have kwC19 : Keep wA wC19 := by rw [← hwC19]; exact (Keep.refl _).alloc _ _
          have YwC19 : Hid (Held wC19 nC20 (.int .u8 (y : Int)) 5) := by show Held _ _ _ _; rw [← hwC19]; exact Held.new hnC20 _ _
          have QwC19 := Lib.hid (QA.out.later kwC19)
          have MwC19 : Hid (∀ k, (Value.slice V1 m d1).ownBlock = some k → k ≠ nC20) := fun k e => by have := QA.out.row1 k e; omega
          have TwC19 : Hid (Turned (fun x => H ≤ x) wr wC19) := TA.out.then_keep kwC19
          clear kwC19 QA TA
          try rw [hwC19]
          try rw [hnC20]
          refine hK.out _ _ (HCW.out _ TwC19.out) (fun hHeld => ?_)
          clear hK K hwC19 hnC20
          try simp only [Act.put, List.getElem_toArray, List.getElem_cons_succ, List.getElem_cons_zero, List.setIfInBounds_toArray, List.set_cons_zero, List.set_cons_succ]
          refine wpAnyH_ready (rs := [2]) (by kernel_rfl) (by simp) ?_
          refine AllReadyH.cons rfl (fun K hK => ?_) AllReadyH.nil
          go_simp
          obtain ⟨nB22, hnB22⟩ : ∃ n, wC19.heap.size = n := ⟨_, rfl⟩
          obtain ⟨wB21, hwB21⟩ : ∃ W, wC19.alloc (.cells #[.slice qA s qc] 43) = W := ⟨_, rfl⟩
          have kwB21 : Keep wC19 wB21 := by rw [← hwB21]; exact (Keep.refl _).alloc _ _
          have RwB21 : Hid (Held wB21 nB22 (.slice qA s qc) 43) := by show Held _ _ _ _; rw [← hwB21]; exact Held.new hnB22 _ _
          have QwB21 := Lib.hid (QwC19.out.later kwB21)
          have LwB21 : Hid (nB22 < wB21.heap.size ∧ ∀ k, (Value.slice V1 m d1).ownBlock = some k → k ≠ nB22) := ⟨lt_of_block RwB21.out, fun k e => by have := QwC19.out.row1 k e; omega⟩
          have YwB21 := Lib.hid (YwC19.out.keep kwB21)
          have TwB21 : Hid (Turned (fun x => H ≤ x) wr wB21) := TwC19.out.then_keep kwB21
          clear kwB21 QwC19 TwC19

          try rw [hwB21]
          try rw [hnB22]
          refine hK.out _ _ (HCW.out _ TwB21.out) (fun hHeld => ?_)
          clear hK K hwB21 hnB22
          try simp only [Act.put, List.getElem_toArray, List.getElem_cons_succ, List.getElem_cons_zero, List.setIfInBounds_toArray, List.set_cons_zero, List.set_cons_succ]
          refine wpAnyH_ready (rs := [3]) (by kernel_rfl) (by simp) ?_
          refine AllReadyH.cons rfl (fun K hK => ?_) AllReadyH.nil
          refine wp_append_row _ _ 40 rfl ⟨qA, s, qc, qx⟩ Tryz.underlying40 infoRow rfl QwB21.out.own1 rfl RwB21.out.cell (by omega) (by omega) ?_
          intro AD24 cD25 wD23 hwD23 gwD23 rwD23
          have QwD23 := Lib.hid (QwB21.out.app1 hwD23 gwD23 rwD23 ⟨HQ.out, rfl⟩)
          have TwD23 : Hid (Turned (fun x => H ≤ x) wr wD23) := TwB21.out.trans (Turned.of_grown (F := fun i => (Value.slice V1 m d1).ownBlock = some i) gwD23 fun i e => e) fun i e => by
            have h1 := QwB21.out.b1 i e
            have h2 := HN5.out
            have h3 := HZ5.out
            left
            show H ≤ i
            omega
          have YwD23 := Lib.hid (YwB21.out.grown gwD23 fun e => MwC19.out _ e rfl)
          clear hwD23 gwD23 rwD23 QwB21 TwB21
          refine hK.out _ _ (HCW.out _ TwD23.out) (fun hHeld => ?_)
          clear hK K
          try simp only [Act.put, List.getElem_toArray, List.getElem_cons_succ, List.getElem_cons_zero, List.setIfInBounds_toArray, List.set_cons_zero, List.set_cons_succ]
          refine wpAnyH_ready (rs := [10]) (by kernel_rfl) (by simp) ?_
          refine AllReadyH.cons rfl (fun K hK => ?_) AllReadyH.nil
          refine wp_append_bytes _ _ 43 rfl Tryz.underlying43 info5 rfl QwD23.out.own2 rfl (YwD23.out.bytes HX.out) (by omega) (by omega) ?_
          intro AE27 cE28 wE26 hwE26 gwE26 rwE26
          have QwE26 := Lib.hid (QwD23.out.app2 hwE26 gwE26 rwE26)
          have TwE26 : Hid (Turned (fun x => H ≤ x) wr wE26) := TwD23.out.trans (Turned.of_grown (F := fun i => (Value.slice V2 m d2).ownBlock = some i) gwE26 fun i e => e) fun i e => by
            have h1 := QwD23.out.b2 i e
            have h2 := HN5.out
            have h3 := HZ5.out
            left
            show H ≤ i
            omega
          clear hwE26 gwE26 rwE26 TwD23
          refine hK.out _ _ (HCW.out _ TwE26.out) (fun hHeld => ?_)
          clear hK K
          try simp only [Act.put, List.getElem_toArray, List.getElem_cons_succ, List.getElem_cons_zero, List.setIfInBounds_toArray, List.set_cons_zero, List.set_cons_succ]
          refine wpAnyH_take (i := 11) (v := ?_) rfl (by kernel_rfl) (by kernel_rfl) (by kernel_rfl) (fun _ _ _ h => h) (Or.inl ⟨by rfl, ?_⟩) hHeld ?_
          rotate_left
          · intro wq hSw
            go_simp
            all_goals with_reducible rfl
          try simp only [Act.put, List.getElem_toArray, List.getElem_cons_succ, List.getElem_cons_zero, List.setIfInBounds_toArray, List.set_cons_zero, List.set_cons_succ]
          refine wpAnyH_take (i := 12) (v := ?_) rfl (by kernel_rfl) (by kernel_rfl) (by kernel_rfl) (fun _ _ _ h => h) (Or.inl ⟨by rfl, ?_⟩) hHeld ?_
          rotate_left
          · intro wq hSw
            go_simp
            all_goals with_reducible rfl
          try simp only [Act.put, List.getElem_toArray, List.getElem_cons_succ, List.getElem_cons_zero, List.setIfInBounds_toArray, List.set_cons_zero, List.set_cons_succ]
          refine wpAnyH_done (by kernel_rfl) ?_ _
          refine NoPanic.normal ?_
          clear hHeld
          have NI := Lib.hid (HI.out.next QwE26.out HLQ.out HY.out)
          go_wp2_with fail
          go_roundw
          case rel => exact ⟨k + 1, m + 1, cD25, cE28, AD24, AE27, _, _, by omega, by go_num, rfl, rfl, NI.out⟩
          case measure => simp [intOf]; omega
    · obtain rfl : k = g := by omega
      obtain ⟨r0, hr0, hrn⟩ := HI.out.head
      have HC := Lib.hid HI.out.comb
      have hvc := vcomb_any _ _ m d1 d2 V1 V2 rs cs wr (HI.out.two.rowsAt HFr.out hs2) HI.out.two.own2.bytes (Nat.le_refl _) (Nat.le_refl _) (by have := HI.out.pos; omega) (by omega) r0 hr0
      rw [hrn, HC.out.1, HC.out.2] at hvc
      have HV := Lib.hid hvc
      clear hvc hr0 hrn
      go_wp2_with fail
      refine HV.out.mono ?_
      rintro e w6 ⟨A6, n6, c6, rfl, o6, k6⟩
      have O6 := Lib.hid o6
      have K6 := Lib.hid k6
      clear o6 k6
      go_wp2_with fail
      refine (clone_any B5 k c5 A5 D w6 (HD.out.keep HBB.out (KW.out.trans K6.out)) (by have := (KW.out.trans K6.out).size; have := HBB.out; omega) (by omega)).mono ?_
      rintro e w7 ⟨A7, n7, c7, rfl, o7, k7⟩
      have O7 := Lib.hid o7
      have K7 := Lib.hid k7
      have B7 : Hid (w7.heap[H]? = some (.cells #[.slice none 0 0, .slice none 0 0] 45 (0, 0))) := by
        show _ = _
        have hz := Z1.out
        rw [k7.block H (by have := K6.out.size; have := KW.out.size; have := HI.out.two.size; have := HN5.out; have := HZ5.out; omega), K6.out.block H (by have := HI.out.two.size; have := HN5.out; have := HZ5.out; omega), HI.out.two.tn.block H (by have := HN5.out; have := HZ5.out; omega) (by omega), K5.out.block H (by omega)]
        exact BX.out
      clear o7 k7
      have p7 : Pair2 w7 H (.slice none 0 0) (.slice none 0 0) 45 := B7.out
      have x0 := p7.cell0
      have x1 := p7.cell1
      have f0 := p7.free 0
      have f1 := p7.free 1
      have p8 := p7.put0 (x := .slice A7 n7 c7)
      have y1 := p8.cell1
      have g1 := p8.free 1
      have p9 := p8.put1 (x := .slice A6 n6 c6)
      clear p7 p8 B7
      have K9 : Hid (Keep w ((w7.setCell ⟨H, 0, none⟩ (.slice A7 n7 c7)).setCell ⟨H, 1, none⟩ (.slice A6 n6 c6))) := (((KW.out.trans K6.out).trans K7.out).setCell (a := ⟨H, 0, none⟩) (by have := HHH.out; show _ ≤ H; omega) _).setCell (a := ⟨H, 1, none⟩) (by have := HHH.out; show _ ≤ H; omega) _
      have t9 : Turned (fun i => i = H) w7 ((w7.setCell ⟨H, 0, none⟩ (.slice A7 n7 c7)).setCell ⟨H, 1, none⟩ (.slice A6 n6 c6)) := (Turned.set (F := fun i => i = H) w7 ⟨H, 0, none⟩ _ rfl).trans (Turned.set (F := fun i => i = H) _ ⟨H, 1, none⟩ _ rfl) fun i e => Or.inl e
      have hlo : w.heap.size = H ∧ H < wr.heap.size ∧ wr.heap.size ≤ w6.heap.size := by
        have := HHH.out; have := HI.out.two.size; have := HN5.out; have := HZ5.out; have := K6.out.size
        exact ⟨by omega, by omega, by omega⟩
      have P7 : Hid (Own ((w7.setCell ⟨H, 0, none⟩ (.slice A7 n7 c7)).setCell ⟨H, 1, none⟩ (.slice A6 n6 c6)) w.heap.size 5 A7 n7 c7 D) := (O7.out.turned t9 fun i e e2 => by have := (O7.out.blt i e).1; omega).lower (by omega)
      have P6 : Hid (Own ((w7.setCell ⟨H, 0, none⟩ (.slice A7 n7 c7)).setCell ⟨H, 1, none⟩ (.slice A6 n6 c6)) w.heap.size 5 A6 n6 c6 (vComb s L D k)) := ((O6.out.keep K7.out).turned t9 fun i e e2 => by have := (O6.out.blt i e).1; omega).lower (by omega)
      clear t9 hlo
      go_wp2_with fail
      refine bodyPost_ret (results_cell_row (p := 6) (ty := 45) rfl _ _ H 45 _ (0, 0) _ rfl p9 Tryz.underlying45 rfl infoARow) rfl ?_
      exact ⟨A7, n7, c7, A6, n6, c6, rfl, P7.out, by rw [HL0.out]; exact P6.out, K9.out⟩
end
end Go.Proofs.YtgelalbmhllccaaGreat
/- The landed source: Symbols, Row, Send, Stream, Cuts. -/
namespace Go.Proofs.YtgelalbmhllccaaGreat
open Go.RowKit
set_option linter.unusedVariables false
set_option linter.unusedSimpArgs false
theorem results_cell_and {P : Program} {fn : Func} {p u : Tmp} {ty : TypeId} (h : fn.results = #[.cell p ty, .tmp u]) (tmps : Array Value) (w : World) (g : Nat) (t : TypeId) (cs : Array Value) (fr : Nat × Nat) (d : TypeDesc)
    (hp : tmps.getD p undef = .pointer (some ⟨g, 0, none⟩)) (hg : w.heap[g]? = some (.cells cs t fr))
    (hu : P.underlying ty = some d) (hd : (match d with | .struct _ | .array _ _ => true | _ => false) = true) (hi : (P.info? ty).map (·.size) = some cs.size) :
    (results fn tmps).run P w = .ok (.tuple #[.agg cs, tmps.getD u undef]) w := by
  have hp' : tmps[p]?.getD undef = .pointer (some ⟨g, 0, none⟩) := by simpa using hp
  simp [results, h, hp', asAddr, run_loadVar_row w g t ty cs fr d hg hu hd hi]
def rowE (g : Nat) (M : List (List Nat)) (gen n : Nat) : Int := if M.length ≤ gen then 23 else if n = g then 0 else 21
def rowC (g : Nat) (M : List (List Nat)) (gen : Nat) (D : List Nat) : List Nat := if rowE g M gen D.length = 0 then D else []
def rowP (g s : Nat) (M : List (List Nat)) (gen : Nat) (D : List Nat) : List Nat := if rowE g M gen D.length = 0 then vComb s (layN g s (M.getD gen [])) D g else []
def NewRowS (w : World) (C P : List Nat) (er : Int) (e : Ending) (w' : World) : Prop :=
  ∃ A n c A' n' c', e = .returned (.tuple #[.agg #[.slice A n c, .slice A' n' c'], .int .i64 er]) ∧ Own w' w.heap.size 5 A n c C ∧ Own w' w.heap.size 5 A' n' c' P ∧ Keep w w'
section
variable {w w' : World} {F G : Nat → Prop} {b g s : Nat} {xs cs : List Nat} {M : List (List Nat)} {cl : Bool}
set_option maxRecDepth 100000 in
set_option maxHeartbeats 4000000 in
theorem rowm_any {P : Nat} (h : SrcR w F b g s xs cs M cl) (hG : GoodS g s P xs cs M) (gen : Nat) (hgen : gen < 18446744073709551616)  (B5 n5 c5 : Nat) (A5 : Option Addr) (D : List Nat) (hD : Bytes w B5 A5 n5 D) (hB : B5 ≤ w.heap.size) :
    Calls Tryz.prog 28 #[.pointer (some ⟨b, 0, none⟩), .int .u64 (gen : Int), .slice A5 n5 c5] w (NewRowS w (rowC g M gen D) (rowP g s M gen D) (rowE g M gen D.length)) := by
  have hg := hG.size.g0
  have hfew := hG.few
  have hDl := hD.length
  obtain ⟨H, hH⟩ : ∃ H, w.heap.size = H := ⟨_, rfl⟩
  obtain ⟨w0, hw0⟩ : ∃ w0, w.alloc (.cells #[.slice none 0 0, .slice none 0 0] 45) = w0 := ⟨_, rfl⟩
  have k0 : Keep w w0 := by rw [← hw0]; exact (Keep.refl w).alloc _ _
  have p0 : Pair2 w0 H (.slice none 0 0) (.slice none 0 0) 45 := by rw [← hw0, ← hH]; exact Pair2.new w _ _ _
  have HS := Lib.hid (h.keep k0)
  obtain ⟨A1, n1, c1, A2, n2, c2, A3, n3, c3, ha⟩ := h
  have HA := Lib.hid (ha.keep k0)
  have HG := Lib.hid hG
  obtain ⟨re, hre⟩ : ∃ re, rowE g M gen D.length = re := ⟨_, rfl⟩
  obtain ⟨rC, hrC⟩ : ∃ rC, rowC g M gen D = rC := ⟨_, rfl⟩
  obtain ⟨rP, hrP⟩ : ∃ rP, rowP g s M gen D = rP := ⟨_, rfl⟩
  rw [hre, hrC, hrP]
  have HRE := Lib.hid hre
  have HRC := Lib.hid hrC
  have HRP := Lib.hid hrP
  have HFEW := Lib.hid hfew
  have HDL := Lib.hid hDl
  have K0 := Lib.hid k0
  have P0 := Lib.hid p0
  have HD := Lib.hid hD
  have HBB := Lib.hid hB
  have HHH := Lib.hid hH
  clear ha hG hre hrC hrP hfew hD hB k0 p0 hDl
  go_enter Tryz.func28, Tryz.ntmps28
  go_wp2_with fail
  refine (isnone_any HA.out hg).mono ?_
  rintro e w1 ⟨u1, rfl, k1, a1⟩
  obtain ⟨i1, j1, rfl⟩ := a1.form
  have K1 := Lib.hid k1
  have V1 := Lib.hid a1
  clear k1 a1
  go_wp2_with fail
  refine (hasno_any (HA.out.keep K1.out) (by have := HFEW.out; omega) gen _ rfl).mono ?_
  rintro e w2 ⟨u2, rfl, k2, a2⟩
  obtain ⟨i2, j2, rfl⟩ := a2.form
  have K2 := Lib.hid k2
  have V2 := Lib.hid a2
  clear k2 a2
  go_wp2_with fail
  refine (fitsnot_any (HA.out.keep (K1.out.trans K2.out)) A5 n5 c5 _ rfl).mono ?_
  rintro e w3 ⟨u3, rfl, k3, a3⟩
  obtain ⟨i3, j3, rfl⟩ := a3.form
  have K3 := Lib.hid k3
  have V3 := Lib.hid a3
  clear k3 a3
  go_wp2_with fail
  refine (first3 _ _ _ 0 _ _ w3 (V1.out.keep (K2.out.trans K3.out)) ((V2.out.keep K3.out).weak fun _ => trivial) (V3.out.weak fun _ => trivial) _ _).mono ?_
  rw [show or3 0 (if M.length ≤ gen then 23 else 0) (if n5 = g then 0 else 21) = re by
    have h1 := HRE.out
    have h2 := HDL.out
    unfold rowE at h1
    rw [h2] at h1
    rw [← h1, or3, if_pos rfl]
    split <;> simp]
  rintro e w4 ⟨rfl, m, hw4⟩
  have K4 : Hid (Keep w0 w4) := by show Keep w0 w4; rw [hw4]; exact (((K1.out.trans K2.out).trans K3.out).alloc _ _).drewN m
  clear hw4 K1 V1 K2 V2 K3 V3
  have p4 := P0.out.keep K4.out
  by_cases hz : re = 0
  · subst hz
    have hlt : ¬ M.length ≤ gen := fun e => by
      have h1 := HRE.out
      unfold rowE at h1
      rw [if_pos e] at h1
      cases h1
    have hM : M[gen]? = some (M.getD gen []) := by
      rw [List.getD_eq_getElem?_getD, List.getElem?_eq_getElem (by omega)]; rfl
    have HM := Lib.hid hM
    clear hlt hM
    obtain rfl : n5 = g := by
      have h1 := HRE.out
      have h2 := HDL.out
      unfold rowE at h1
      rw [h2] at h1
      split at h1
      · cases h1
      · split at h1
        · assumption
        · cases h1
    have HCE : Hid (rowC n5 M gen D = D) := if_pos HRE.out
    have HPE : Hid (rowP n5 s M gen D = vComb s (layN n5 s (M.getD gen [])) D n5) := if_pos HRE.out
    have HR := Lib.hid (row_any (HS.out.keep K4.out) HG.out gen _ HM.out B5 c5 A5 D (HD.out.keep HBB.out (K0.out.trans K4.out)) (by have := HBB.out; have := (K0.out.trans K4.out).size; omega))
    generalize vComb s (layN n5 s (M.getD gen [])) D n5 = V at *
    go_wp2_with fail
    refine HR.out.mono ?_
    rintro e w6 ⟨A, n, c, A', n', c', rfl, q1, q2, q3⟩
    have p6 := (p4.keep q3)
    have x0 := p6.cell0
    have x1 := p6.cell1
    have f0 := p6.free 0
    have f1 := p6.free 1
    have p8 := p6.put0 (x := .slice A n c)
    have y1 := p8.cell1
    have g1 := p8.free 1
    have p9 := p8.put1 (x := .slice A' n' c')
    have K6 : Hid (Keep w0 w6) := K4.out.trans q3
    have hlo : w.heap.size = H ∧ H < w4.heap.size := ⟨HHH.out, by have := (P0.out.keep K4.out).lt; exact this⟩
    have K9 : Hid (Keep w ((w6.setCell ⟨H, 0, none⟩ (.slice A n c)).setCell ⟨H, 1, none⟩ (.slice A' n' c'))) := ((K0.out.trans K6.out).setCell (a := ⟨H, 0, none⟩) (by have := HHH.out; show _ ≤ H; omega) _).setCell (a := ⟨H, 1, none⟩) (by have := HHH.out; show _ ≤ H; omega) _
    have t9 : Turned (fun i => i = H) w6 ((w6.setCell ⟨H, 0, none⟩ (.slice A n c)).setCell ⟨H, 1, none⟩ (.slice A' n' c')) := (Turned.set (F := fun i => i = H) w6 ⟨H, 0, none⟩ _ rfl).trans (Turned.set (F := fun i => i = H) _ ⟨H, 1, none⟩ _ rfl) fun i e => Or.inl e
    have P7 : Hid (Own ((w6.setCell ⟨H, 0, none⟩ (.slice A n c)).setCell ⟨H, 1, none⟩ (.slice A' n' c')) w.heap.size 5 A n c rC) := by
      show Own _ _ _ _ _ _ _
      rw [← HRC.out, HCE.out]
      exact (q1.turned t9 fun i e e2 => by have := (q1.blt i e).1; omega).lower (by omega)
    have P8 : Hid (Own ((w6.setCell ⟨H, 0, none⟩ (.slice A n c)).setCell ⟨H, 1, none⟩ (.slice A' n' c')) w.heap.size 5 A' n' c' rP) := by
      show Own _ _ _ _ _ _ _
      rw [← HRP.out, HPE.out]
      exact (q2.turned t9 fun i e e2 => by have := (q2.blt i e).1; omega).lower (by omega)
    clear p6 p8 q1 q2 q3 t9 hlo p4
    go_wp2_with fail
    refine bodyPost_ret (results_cell_and (p := 6) (u := 7) (ty := 45) rfl _ _ H 45 _ (0, 0) _ rfl p9 Tryz.underlying45 rfl infoARow) rfl ?_
    exact ⟨A, n, c, A', n', c', rfl, P7.out, P8.out, K9.out⟩
  · have hC0 : rC = [] := by
      rw [← HRC.out]
      exact if_neg (by rw [HRE.out]; exact hz)
    have hP0 : rP = [] := by
      rw [← HRP.out]
      exact if_neg (by rw [HRE.out]; exact hz)
    subst hC0 hP0
    have x0 := p4.cell0
    have x1 := p4.cell1
    have f0 := p4.free 0
    have f1 := p4.free 1
    have p8 := p4.put0 (x := .slice none 0 0)
    have y1 := p8.cell1
    have g1 := p8.free 1
    have p9 := p8.put1 (x := .slice none 0 0)
    have K9 : Hid (Keep w ((w4.setCell ⟨H, 0, none⟩ (.slice none 0 0)).setCell ⟨H, 1, none⟩ (.slice none 0 0))) := ((K0.out.trans K4.out).setCell (a := ⟨H, 0, none⟩) (by have := HHH.out; show _ ≤ H; omega) _).setCell (a := ⟨H, 1, none⟩) (by have := HHH.out; show _ ≤ H; omega) _
    clear p4 p8
    go_wp2_with fail
    refine bodyPost_ret (results_cell_and (p := 6) (u := 7) (ty := 45) rfl _ _ H 45 _ (0, 0) _ rfl p9 Tryz.underlying45 rfl infoARow) rfl ?_
    exact ⟨none, 0, 0, none, 0, 0, rfl, Own.none_ _ _ _, Own.none_ _ _ _, K9.out⟩
end
end Go.Proofs.YtgelalbmhllccaaGreat
/- The document's own source: how it lies; its chunks, Submit, Flush, Close. -/
namespace Go.Proofs.YtgelalbmhllccaaGreat
open Go.RowKit
set_option linter.unusedVariables false
set_option linter.unusedSimpArgs false
/-- Ints in blocks of F. -/
def NatsIn (w : World) (F : Nat → Prop) (A : Option Addr) (n : Nat) (l : List Nat) : Prop :=
  l.length = n ∧ (0 < n → ∃ b off, A = some ⟨b, off, none⟩ ∧ F b ∧ ∀ (i : Nat) (z : Int), (l.map fun x : Nat => (x : Int))[i]? = some z → w.cell? ⟨b, off + i, none⟩ = some (.int .i64 z))
namespace NatsIn
variable {F F' G : Nat → Prop} {w w' : World} {A : Option Addr} {n : Nat} {l : List Nat}
theorem turned (h : NatsIn w F A n l) (k : Turned G w w') (hd : ∀ b, F b → ¬ G b) : NatsIn w' F A n l := ⟨h.1, fun hp => by
  obtain ⟨b, off, e, hb, hc⟩ := h.2 hp
  exact ⟨b, off, e, hb, fun i z hz => k.cell (hc i z hz) (hd b hb)⟩⟩
theorem mono (h : NatsIn w F A n l) (hF : ∀ b, F b → F' b) : NatsIn w F' A n l := ⟨h.1, fun hp => by
  obtain ⟨b, off, e, hb, hc⟩ := h.2 hp
  exact ⟨b, off, e, hF b hb, hc⟩⟩
theorem nats (h : NatsIn w F A n l) {B : Nat} (hF : ∀ b, F b → b < B) : NatsAt w B A n l := ⟨by rw [List.length_map]; exact h.1, fun hp => by
  obtain ⟨b, off, e, hb, hc⟩ := h.2 hp
  exact ⟨b, off, e, hF b hb, hc⟩⟩
theorem of_own {base c : Nat} (h : OwnI w base A n c l) : NatsIn w (fun b => (Value.slice A n c).ownBlock = some b) A n l := by
  refine ⟨h.length, fun hn => ?_⟩
  obtain ⟨b, off, e, hb, hc⟩ := h.nats.2 hn
  refine ⟨b, off, e, ?_, hc⟩
  rcases h.2 with ⟨hv, h0⟩ | ⟨g, cap, cur, hv, _⟩
  · omega
  · injection hv with h1 _ _
    subst h1
    injection e with e
    injection e with e
    show some g = some b
    rw [e]
end NatsIn
section
variable {w w' : World} {E G : Nat → Prop} {b g s : Nat} {A1 : Option Addr} {n1 c1 : Nat} {A2 : Option Addr} {n2 c2 : Nat} {xs cs : List Nat} {cl : Bool}
namespace RefA
end RefA
end
end Go.Proofs.YtgelalbmhllccaaGreat
/- The document's own source: Submit, Flush, Close. -/
namespace Go.Proofs.YtgelalbmhllccaaGreat
open Go.RowKit
set_option linter.unusedVariables false
set_option linter.unusedSimpArgs false
section
variable {w w' : World} {E G : Nat → Prop} {b g s : Nat} {xs cs ys : List Nat} {cl : Bool} {M : List (List Nat)}
end
end Go.Proofs.YtgelalbmhllccaaGreat
/- The document's own source: Symbols, Row, Send. -/
namespace Go.Proofs.YtgelalbmhllccaaGreat
open Go.RowKit
set_option linter.unusedVariables false
set_option linter.unusedSimpArgs false
section
variable {w w' : World} {E G : Nat → Prop} {b g s : Nat} {xs cs ys : List Nat} {cl : Bool} {M : List (List Nat)}
end
end Go.Proofs.YtgelalbmhllccaaGreat
