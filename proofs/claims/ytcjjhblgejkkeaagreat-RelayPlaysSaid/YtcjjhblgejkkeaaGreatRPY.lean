/- Both relays side by side: the landed one and the document's own. -/
import Derived.Test.YtcjjhblgejkkeaaGreatRG
import Derived.Test.YtcjjhblgejkkeaaGreatRl
import Derived.Test.YtcjjhblgejkkeaaGreatRq1
import Derived.Test.YtcjjhblgejkkeaaGreatPlm0
import Derived.Test.YtcjjhblgejkkeaaGreatBd
namespace Go.Proofs.YtcjjhblgejkkeaaGreat
open Go.RowKit Lin
set_option linter.unusedVariables false
/-- The landed relay at p, the document's own at q: their footprints lie apart, and both in memory made since W. -/
structure BothR (W w : World) (p q g s k b : Nat) (L : Nat → List (List Nat)) (b' : Nat) (L' : Nat → List (List Nat)) (F F' : Nat → Prop) : Prop where
  y : RelR w F p g s k b L
  z : RefY w F' q g s k b' L'
  ap : ∀ a, F a → ¬ F' a
  lo : ∀ a, F a → W.heap.size ≤ a
  lo' : ∀ a, F' a → W.heap.size ≤ a
  keep : Keep W w
namespace BothR
variable {W w w2 : World} {p p2 q g s k b b' b2 : Nat} {L L' L2 : Nat → List (List Nat)} {F F' F2 D : Nat → Prop}
theorem later (h : BothR W w p q g s k b L b' L' F F') (kp : Keep w w2) : BothR W w2 p q g s k b L b' L' F F' := ⟨h.y.keep kp, h.z.keep kp, h.ap, h.lo, h.lo', h.keep.trans kp⟩
/-- The landed one goes on (or another stands in its place). -/
theorem left (h : BothR W w p q g s k b L b' L' F F') (r : RelR w2 F2 p2 g s k b2 L2) (f : ∀ x, F2 x → F x ∨ w.heap.size ≤ x) (t : Turned F w w2) : BothR W w2 p2 q g s k b2 L2 b' L' F2 F' := by
  have hz := h.keep.size
  refine ⟨r, h.z.turned t fun a ha e => h.ap a e ha, fun a ha hb => ?_, fun a ha => ?_, h.lo', t.keep h.keep fun x e => h.lo x e⟩
  · rcases f a ha with e | e
    · exact h.ap a e hb
    · have := h.z.lt a hb; omega
  · rcases f a ha with e | e
    · exact h.lo a e
    · omega
/-- The document's own goes on. -/
theorem right (h : BothR W w p q g s k b L b' L' F F') (y : YNext w w2 F' F2 q g s k b2 L2) : BothR W w2 p q g s k b L b2 L2 F F2 := by
  have hz := h.keep.size
  refine ⟨h.y.turned y.2.2 fun a ha e => h.ap a ha e, y.1, fun a ha hb => ?_, h.lo, fun a ha => ?_, y.2.2.keep h.keep fun x e => h.lo' x e⟩
  · rcases y.2.1 a hb with e | e
    · exact h.ap a ha e
    · have := h.y.lt a ha; omega
  · rcases y.2.1 a ha with e | e
    · exact h.lo' a e
    · omega
/-- Something else turns. -/
theorem other (h : BothR W w p q g s k b L b' L' F F') (t : Turned D w w2) (hD : ∀ a, D a → W.heap.size ≤ a ∧ ¬ F a ∧ ¬ F' a) : BothR W w2 p q g s k b L b' L' F F' :=
  ⟨h.y.turned t fun a ha e => (hD a e).2.1 ha, h.z.turned t fun a ha e => (hD a e).2.2 ha, h.ap, h.lo, h.lo', t.keep h.keep fun x e => (hD x e).1⟩
/-- What was new between two worlds is apart from both, as long as neither took it. -/
theorem new_apart (h : BothR W w p q g s k b L b' L' F F') {a : Nat} (ha : w.heap.size ≤ a) : W.heap.size ≤ a ∧ ¬ F a ∧ ¬ F' a :=
  ⟨Nat.le_trans h.keep.size ha, fun e => by have := h.y.lt a e; omega, fun e => by have := h.z.lt a e; omega⟩
end BothR
end Go.Proofs.YtcjjhblgejkkeaaGreat
/- Rows that were told, while something else turns; a row's bytes are changed. -/
namespace Go.Proofs.YtcjjhblgejkkeaaGreat
open Go.RowKit Lin
set_option linter.unusedVariables false
theorem Mine.turned {G : Nat → Prop} {w wr w2 : World} {A : Option Addr} {n c : Nat} (h : Mine w wr A n c) (t : Turned G wr w2) (hG : ∀ b, (Value.slice A n c).ownBlock = some b → ¬ G b) : Mine w w2 A n c := by
  obtain ⟨xs, h⟩ := h
  exact ⟨xs, h.turned t hG⟩
/-- Rows told between two worlds, later: where they lie is theirs alone. -/
structure TolR (w0 w5 wz : World) (A : Option Addr) (r c g s : Nat) (ps : List PairV) : Prop where
  st : OwnSt wz w0.heap.size A r c ps
  lt : ∀ b, (Value.slice A r c).ownBlock = some b → b < w5.heap.size
  mine : ∀ p ∈ ps, Mine w0 wz p.a.A p.a.n p.a.c ∧ Mine w0 wz p.b.A p.b.n p.b.c ∧ p.a.n = g ∧ p.b.n = s
  top : ∀ p ∈ ps, ∀ b, ((Value.slice p.a.A p.a.n p.a.c).ownBlock = some b → w0.heap.size ≤ b ∧ b < w5.heap.size) ∧ ((Value.slice p.b.A p.b.n p.b.c).ownBlock = some b → w0.heap.size ≤ b ∧ b < w5.heap.size)
namespace TolR
variable {w0 w5 wz w2 : World} {A : Option Addr} {r c g s : Nat} {ps : List PairV} {B : List (List Nat)} {G : Nat → Prop}
theorem start (h : OwnedSt w0 w5 A r c g s B ps) : TolR w0 w5 w5 A r c g s ps :=
  ⟨h.1, fun b e => (h.1.lt b e).2, fun p hp => ⟨⟨_, (h.2.1 p hp).1⟩, ⟨_, (h.2.1 p hp).2.1⟩, (h.2.1 p hp).2.2⟩, fun p hp b => ⟨fun e => (h.2.1 p hp).1.1.lt b e, fun e => (h.2.1 p hp).2.1.1.lt b e⟩⟩
theorem turned (h : TolR w0 w5 wz A r c g s ps) (t : Turned G wz w2) (hG : ∀ b, G b → ¬ (w0.heap.size ≤ b ∧ b < w5.heap.size)) : TolR w0 w5 w2 A r c g s ps :=
  ⟨h.st.turned t fun b e hb => hG b hb ⟨(h.st.lt b e).1, h.lt b e⟩, h.lt, fun p hp => ⟨(h.mine p hp).1.turned t fun b e hb => hG b hb ((h.top p hp b).1 e), (h.mine p hp).2.1.turned t fun b e hb => hG b hb ((h.top p hp b).2 e), (h.mine p hp).2.2⟩, h.top⟩
theorem later (h : TolR w0 w5 wz A r c g s ps) (k : Keep wz w2) : TolR w0 w5 w2 A r c g s ps := h.turned (Turned.of_keep (F := fun _ => False) k) fun _ e => e.elim
theorem flip (h : TolR w0 w5 wz A r c g s ps) {p : PairV} (hp : p ∈ ps) (t : FlipT (fun b => (Value.slice p.a.A p.a.n p.a.c).ownBlock = some b ∨ (Value.slice p.b.A p.b.n p.b.c).ownBlock = some b) wz w2) : TolR w0 w5 w2 A r c g s ps := by
  obtain ⟨⟨xa, ha⟩, ⟨xb, hb⟩, -⟩ := h.mine p hp
  refine ⟨h.st.turned t.1 fun x hx e => ?_, h.lt, fun q hq => ⟨t.2 _ _ _ _ (h.mine q hq).1, t.2 _ _ _ _ (h.mine q hq).2.1, (h.mine q hq).2.2⟩, h.top⟩
  rcases e with e | e
  · exact stu_apart ha h.st x e hx
  · exact stu_apart hb h.st x e hx
theorem apart (h : TolR w0 w5 wz A r c g s ps) {p : PairV} (hp : p ∈ ps) : ∀ b, ((Value.slice p.a.A p.a.n p.a.c).ownBlock = some b ∨ (Value.slice p.b.A p.b.n p.b.c).ownBlock = some b) → w0.heap.size ≤ b ∧ b < w5.heap.size := fun b e => by
  rcases e with e | e
  · exact (h.top p hp b).1 e
  · exact (h.top p hp b).2 e
end TolR
/-- The op's own block, apart from both. -/
structure OpB (w : World) (gs : Nat) (cs : Array Value) (F F' : Nat → Prop) : Prop where
  b : w.heap[gs]? = some (.cells cs 36 (0, 0))
  n : ¬ F gs
  n' : ¬ F' gs
namespace OpB
variable {w w2 : World} {gs : Nat} {cs : Array Value} {F F' F2 D : Nat → Prop}
theorem lt (h : OpB w gs cs F F') : gs < w.heap.size := (Array.getElem?_eq_some_iff.1 h.b).1
theorem later (h : OpB w gs cs F F') (k : Keep w w2) : OpB w2 gs cs F F' := ⟨(k.block gs h.lt).trans h.b, h.n, h.n'⟩
theorem other (h : OpB w gs cs F F') (t : Turned D w w2) (hD : ¬ D gs) : OpB w2 gs cs F F' := ⟨(t.block gs h.lt hD).trans h.b, h.n, h.n'⟩
theorem left (h : OpB w gs cs F F') (f : ∀ x, F2 x → F x ∨ w.heap.size ≤ x) (t : Turned F w w2) : OpB w2 gs cs F2 F' := ⟨(t.block gs h.lt h.n).trans h.b, fun e => by
  rcases f gs e with e | e
  · exact h.n e
  · have := h.lt; omega, h.n'⟩
theorem right (h : OpB w gs cs F F') (f : ∀ x, F2 x → F' x ∨ w.heap.size ≤ x) (t : Turned F' w w2) : OpB w2 gs cs F F2 := ⟨(t.block gs h.lt h.n').trans h.b, h.n, fun e => by
  rcases f gs e with e | e
  · exact h.n' e
  · have := h.lt; omega⟩
end OpB
/-- What lies below all that turns. -/
theorem LiesIn.under {w w2 : World} {N : Nat} {r : RowV} {G : Nat → Prop} (h : LiesIn w (fun x => x < N) r) (t : Turned G w w2) (hG : ∀ a, G a → N ≤ a) : LiesIn w2 (fun x => x < N) r := h.turned t fun b hb e => by have := hG b e; omega
theorem LiesIn.keepN {w w2 : World} {N : Nat} {r : RowV} (h : LiesIn w (fun x => x < N) r) (k : Keep w w2) : LiesIn w2 (fun x => x < N) r := h.under (Turned.of_keep (F := fun _ => False) k) fun _ e => e.elim
section
variable {W w w1 w2 : World} {p p1 p2 q g s k b b' b2 : Nat} {L L' L2 : Nat → List (List Nat)} {F F' F1 F2 D D2 : Nat → Prop}
/-- A copy stands in its place; the old one's footprint is looked after no more. -/
theorem BothR.copied (h : BothR W w p q g s k b L b' L' F F') (r : RelR w1 F1 p1 g s k b L) (f : ∀ x, F1 x → w.heap.size ≤ x) (kp : Keep w w1) : BothR W w1 p1 q g s k b L b' L' F1 F' ∧ ∀ a, F a → W.heap.size ≤ a ∧ ¬ F1 a ∧ ¬ F' a :=
  ⟨h.left r (fun x e => Or.inr (f x e)) (Turned.of_keep kp), fun a ha => ⟨h.lo a ha, fun e => by have h1 := f a e; have h2 := h.y.lt a ha; omega, h.ap a ha⟩⟩
/-- What stands apart goes on. -/
theorem BothR.aside (h : BothR W w p q g s k b L b' L' F F') (t : Turned D w w2) (hD : ∀ a, D a → W.heap.size ≤ a ∧ ¬ F a ∧ ¬ F' a) (f : ∀ x, D2 x → D x ∨ w.heap.size ≤ x) : BothR W w2 p q g s k b L b' L' F F' ∧ ∀ a, D2 a → W.heap.size ≤ a ∧ ¬ F a ∧ ¬ F' a :=
  ⟨h.other t hD, fun a ha => by
    rcases f a ha with e | e
    · exact hD a e
    · exact h.new_apart e⟩
end
theorem pairs_toldP {g : Nat} {l l' : List PairV} (h : l.map PairV.xs = l'.map PairV.xs) (hl : ∀ p ∈ l, p.a.xs.length = g) (hl' : ∀ p ∈ l', p.a.xs.length = g) : pairXs l = pairXs l' := by
  have cut : ∀ {l : List PairV}, (∀ p ∈ l, p.a.xs.length = g) → pairXs l = (l.map PairV.xs).map fun x => (x.take g, x.drop g) := fun {l} hl => by
    rw [pairXs, List.map_map]
    refine List.map_congr_left fun p hp => ?_
    have e := hl p hp
    show (p.a.xs, p.b.xs) = ((p.a.xs ++ p.b.xs).take g, (p.a.xs ++ p.b.xs).drop g)
    rw [List.take_left' e, List.drop_left' e]
  rw [cut hl, cut hl', h]
theorem rksOf_few (L : Nat → List (List Nat)) (b k : Nat) : (rksOf L (winL b k)).length ≤ k := by
  rw [rksOf, List.length_map]
  exact Nat.le_trans (List.length_filter_le _ _) (winL_le b k)
set_option maxRecDepth 100000 in
theorem load_u64R {wq : World} {ev : Operand → Value} {x : Operand} {b i : Nat} {v : Value} {o : Oper} (ho : o.op = .load 31 x) (hx : ev x = .pointer (some ⟨b, i, none⟩)) (q0 : wq.cell? ⟨b, i, none⟩ = some v) : Sem.run Tryz.prog (execOp ev o) wq = .ok (.value v) wq := by
  unfold execOp
  rw [ho]
  go_simp
set_option maxRecDepth 100000 in
theorem load_winR {wq : World} {ev : Operand → Value} {x : Operand} {b i : Nat} {v : Value} {o : Oper} (ho : o.op = .load 64 x) (hx : ev x = .pointer (some ⟨b, i, none⟩)) (q0 : wq.cell? ⟨b, i, none⟩ = some v) : Sem.run Tryz.prog (execOp ev o) wq = .ok (.value v) wq := by
  unfold execOp
  rw [ho]
  go_simp
end Go.Proofs.YtcjjhblgejkkeaaGreat
/- The landed relay: Clear, of what may be asked. -/
namespace Go.Proofs.YtcjjhblgejkkeaaGreat
open Go.RowKit Lin
set_option linter.unusedVariables false
section
variable {w : World} {F : Nat → Prop} {p g s k b : Nat} {L : Nat → List (List Nat)}
theorem rl_clear (h : RelR w F p g s k b L) :
    Calls Tryz.prog 19 #[.pointer (some ⟨p, 0, none⟩)] w fun e w' => e = .returned (.tuple #[]) ∧ ∃ F', RelR w' F' p g s k b (fun _ => []) ∧ (∀ j, F' j → F j ∨ w.heap.size ≤ j) ∧ Turned F w w' := by
  obtain ⟨wb, S, h⟩ := h
  refine (rclear_c h.c h.win).mono ?_
  rintro e w' ⟨rfl, S', hC⟩
  have cases_ : ∀ x ∈ S', ∀ q, x.F q → F q ∨ w.heap.size ≤ q := fun x hx q hq => by
    obtain ⟨j, hj⟩ := List.getElem?_of_mem hx
    rcases Nat.lt_or_ge j k with e | e
    · exact Or.inr (((hC.2.1 j x hj).1 e).2.2 q hq)
    · exact Or.inl (h.fs x (List.mem_of_getElem? ((hC.2.1 j x hj).2 e)) q hq)
  have tF : Turned F w w' := (Turned.refl F w).trans hC.2.2 fun j e => Or.inl (e ▸ h.fp)
  refine ⟨rfl, fun q => F q ∨ ∃ x ∈ S', x.F q, (RelA.nothing hC.1 (h.win.turned hC.2.2 (fun e => by first | exact h.c.ne e | exact h.c.ne e.symm)) (fun j x hx => ⟨fun e => ⟨((hC.2.1 j x hx).1 e).1, ((hC.2.1 j x hx).1 e).2.1⟩, fun e => (h.made j x ((hC.2.1 j x hx).2 e)).2 e⟩) (Or.inl h.fp) (Or.inl h.fw) (fun x hx q hq => Or.inr ⟨x, hx, hq⟩) fun q hq => ?_).r, fun j e => ?_, tF⟩
  · rcases hq with hq | ⟨x, hx, hq⟩
    · exact Nat.lt_of_lt_of_le (h.lt q hq) tF.size
    · exact (hC.1.ok x hx).lt q hq
  · rcases e with e | ⟨x, hx, hq⟩
    · exact Or.inl e
    · exact cases_ x hx j hq
end
end Go.Proofs.YtcjjhblgejkkeaaGreat
/- Each call of both relays in one contract, whatever it tells. -/
namespace Go.Proofs.YtcjjhblgejkkeaaGreat
open Go.RowKit Lin
set_option linter.unusedVariables false
set_option linter.unusedSimpArgs false
section
variable {w w' : World} {F H : Nat → Prop} {p g s k b : Nat} {L : Nat → List (List Nat)}
def yTakeT (g s k b : Nat) (L : Nat → List (List Nat)) (n na nb : Nat) (v : List Nat) : Bool := if winIn b k n = true ∧ na = g ∧ nb = s then !decide (inB g s (L n) v) else false
def yTakeE (g s k b n na nb : Nat) : Int := if winIn b k n = true then (if na = g ∧ nb = s then 0 else 21) else 23
def yTakeL (g s k b : Nat) (L : Nat → List (List Nat)) (n na nb : Nat) (v : List Nat) : Nat → List (List Nat) := if winIn b k n = true ∧ na = g ∧ nb = s then upd L n (insB g s (L n) v) else L
theorem rl_take_all (h : RelR w F p g s k b L) (n : Nat) (hn : n < 18446744073709551616) (B1 B2 na nb c1 c2 : Nat) (A1 A2 : Option Addr) (xs ys : List Nat) (hc1 : na ≤ c1) (hc2 : nb ≤ c2) (h1 : Bytes w B1 A1 na xs) (h2 : Bytes w B2 A2 nb ys) (hB1 : B1 ≤ w.heap.size) (hB2 : B2 ≤ w.heap.size) :
    Calls Tryz.prog 10 #[.pointer (some ⟨p, 0, none⟩), .int .u64 (n : Int), .agg #[.slice A1 na c1, .slice A2 nb c2]] w fun e w' => e = .returned (.tuple #[.bool (yTakeT g s k b L n na nb (xs ++ ys)), .int .i64 (yTakeE g s k b n na nb)]) ∧ ∃ F', RelR w' F' p g s k b (yTakeL g s k b L n na nb (xs ++ ys)) ∧ (∀ j, F' j → F j ∨ w.heap.size ≤ j) ∧ Turned F w w' := by
  cases hin : winIn b k n with
  | false =>
    refine (rl_take_out h n hn hin na nb c1 c2 A1 A2).mono ?_
    rintro e w1 ⟨rfl, k1⟩
    refine ⟨by simp [yTakeT, yTakeE, hin], F, ?_, fun j hj => Or.inl hj, Turned.of_keep k1⟩
    simp only [yTakeL, hin, Bool.false_eq_true, false_and, if_false]
    exact h.keep k1
  | true =>
    by_cases hd : na = g ∧ nb = s
    · obtain ⟨rfl, rfl⟩ := hd
      refine (rl_take_in h n hn hin B1 B2 c1 c2 A1 A2 xs ys hc1 hc2 h1 h2 hB1 hB2).mono ?_
      rintro e w1 ⟨rfl, F', r, f, t⟩
      refine ⟨by simp [yTakeT, yTakeE, hin], F', ?_, f, t⟩
      simp only [yTakeL, hin, and_self, if_true]
      exact r
    · refine (rl_take_dim h n hn hin na nb c1 c2 A1 A2 (by omega)).mono ?_
      rintro e w1 ⟨rfl, k1⟩
      refine ⟨by simp [yTakeT, yTakeE, hin, hd], F, ?_, fun j hj => Or.inl hj, Turned.of_keep k1⟩
      simp only [yTakeL, hin, true_and, hd, if_false]
      exact h.keep k1
theorem ytake_all (h : RefY w F p g s k b L) (m : Nat) (q : PairV) (hq : LiesIn w H q.a ∧ LiesIn w H q.b) (hH : ∀ a, H a → a < w.heap.size ∧ ¬ F a) :
    Calls Tryz.prog 11 #[.pointer (some ⟨p, 0, none⟩), .int .u64 (m : Int), q.agg] w fun e w' => e = .returned (.tuple #[.bool (yTakeT g s k b L m q.a.n q.b.n q.xs), .int .i64 (yTakeE g s k b m q.a.n q.b.n)]) ∧ ∃ F', YNext w w' F F' p g s k b (yTakeL g s k b L m q.a.n q.b.n q.xs) := by
  cases hin : winIn b k m with
  | false =>
    refine (ytake_out h m hin q.a.n q.b.n q.a.c q.b.c q.a.A q.b.A).mono ?_
    rintro e w1 ⟨rfl, k1⟩
    refine ⟨by simp [yTakeT, yTakeE, hin], F, ?_⟩
    simp only [yTakeL, hin, Bool.false_eq_true, false_and, if_false]
    exact YNext.stay h k1
  | true =>
    by_cases hd : q.a.n = g ∧ q.b.n = s
    · refine (ytake_in h m hin q ⟨hq.1, hq.2, hd.1, hd.2⟩ hH).mono ?_
      rintro e w1 ⟨rfl, F', y⟩
      refine ⟨by simp [yTakeT, yTakeE, hin, hd], F', ?_⟩
      simp only [yTakeL, hin, hd, and_self, if_true]
      exact y
    · refine (ytake_dim h m hin q.a.n q.b.n q.a.c q.b.c q.a.A q.b.A (by omega)).mono ?_
      rintro e w1 ⟨rfl, F', y⟩
      refine ⟨by simp [yTakeT, yTakeE, hin, hd], F', ?_⟩
      simp only [yTakeL, hin, true_and, hd, if_false]
      exact y
def ySendE (k b : Nat) (L : Nat → List (List Nat)) (n : Nat) : Int := if winIn b k n = true then (if (L n).length = 0 then 6 else 0) else 23
def ySendV (g s k b : Nat) (L : Nat → List (List Nat)) (n sent : Nat) (xs : List Nat) : List Nat := if winIn b k n = true ∧ (L n).length ≠ 0 then sendN g s (L n) sent xs else []
theorem vComb_lenR (n : Nat) (R : List (List Nat)) (c : List Nat) (k : Nat) : (vComb n R c k).length = n := tab_length _ _
theorem rl_send_all {B1 cb m : Nat} {Ab : Option Addr} {xs : List Nat} (h : RelR w F p g s k b L) (n sent : Nat) (hn : n < 18446744073709551616) (hs : sent < 18446744073709551616) (hb : Bytes w B1 Ab m xs) (hB : B1 ≤ w.heap.size) :
    Calls Tryz.prog 13 #[.pointer (some ⟨p, 0, none⟩), .int .u64 (n : Int), .int .u64 (sent : Int), .slice Ab m cb] w (NewRow w ((ySendV g s k b L n sent xs).take g) ((ySendV g s k b L n sent xs).drop g) (ySendE k b L n)) := by
  cases hin : winIn b k n with
  | false =>
    have h1 := rl_send_out (m := m) (cb := cb) (Ab := Ab) h n sent hn hin
    simpa [ySendV, ySendE, hin] using h1
  | true =>
    by_cases h0 : (L n).length = 0
    · have h1 := rl_send_none (m := m) (cb := cb) (Ab := Ab) h n sent hn hin h0
      simpa [ySendV, ySendE, hin, h0] using h1
    · have h1 := rl_send_in (cb := cb) h n sent hn hs hin h0 hb hB
      simpa only [ySendV, ySendE, hin, h0, if_true, if_false, ne_eq, not_false_eq_true, and_self] using h1
theorem ysend_all (h : RefY w F p g s k b L) (m sent mb cb : Nat) (Ab : Option Addr) (xs : List Nat) (hs : sent < 18446744073709551616) (hmb : mb ≤ 140737488351232) (hb : LiesIn w H ⟨Ab, mb, cb, xs⟩) (hH : ∀ a, H a → a < w.heap.size ∧ ¬ F a) :
    Calls Tryz.prog 14 #[.pointer (some ⟨p, 0, none⟩), .int .u64 (m : Int), .int .u64 (sent : Int), .slice Ab mb cb] w fun e w' => ∃ (q : PairV) (F' : Nat → Prop), e = .returned (.tuple #[q.agg, .int .i64 (ySendE k b L m)]) ∧ LiesIn w' (fun x => w.heap.size ≤ x ∧ x < w'.heap.size) q.a ∧ LiesIn w' (fun x => w.heap.size ≤ x ∧ x < w'.heap.size) q.b ∧ q.a.xs = (ySendV g s k b L m sent xs).take g ∧ q.b.xs = (ySendV g s k b L m sent xs).drop g ∧ YNext w w' F F' p g s k b L := by
  have hnil : ∀ w' : World, LiesIn w' (fun x => w.heap.size ≤ x ∧ x < w'.heap.size) ⟨none, 0, 0, []⟩ := fun w' => ⟨rfl, fun x hx => by simp at hx, Nat.le_refl _, fun h => absurd h (by simp)⟩
  cases hin : winIn b k m with
  | false =>
    refine (ysend_out h m sent mb cb Ab hin).mono ?_
    rintro e w1 ⟨rfl, F', y⟩
    exact ⟨⟨⟨none, 0, 0, []⟩, ⟨none, 0, 0, []⟩⟩, F', by simp [ySendE, hin]; rfl, hnil _, hnil _, by simp [ySendV, hin], by simp [ySendV, hin], y⟩
  | true =>
    by_cases h0 : (L m).length = 0
    · refine (ysend_none h m sent mb cb Ab hin h0).mono ?_
      rintro e w1 ⟨rfl, F', y⟩
      exact ⟨⟨⟨none, 0, 0, []⟩, ⟨none, 0, 0, []⟩⟩, F', by simp [ySendE, hin, h0]; rfl, hnil _, hnil _, by simp [ySendV, h0], by simp [ySendV, h0], y⟩
    · refine (ysend_in h m sent mb cb Ab xs hin h0 hs hmb hb hH).mono ?_
      rintro e w1 ⟨q, F', rfl, ha, hb', la, lb, hx, y⟩
      have e0 : ySendV g s k b L m sent xs = q.a.xs ++ q.b.xs := by rw [ySendV, if_pos ⟨hin, h0⟩, hx]
      have e1 : q.a.xs.length = g := by rw [la.1, ha]
      refine ⟨q, F', by simp [ySendE, hin, h0], la, lb, ?_, ?_, y⟩
      · rw [e0, List.take_left' e1]
      · rw [e0, List.drop_left' e1]
def ySolveE (g k b : Nat) (L : Nat → List (List Nat)) (n : Nat) : Int := if winIn b k n = true then (if (L n).length = g then 0 else 24) else 23
def ySolveV (g k b : Nat) (L : Nat → List (List Nat)) (n : Nat) : List (List Nat) := if winIn b k n = true ∧ (L n).length = g then (L n).map (List.drop g) else []
theorem OwnRows.nilR (w : World) (base : Nat) : OwnRows w base 32 none 0 0 [] := World.ownsRow_nil w base _ 1
theorem rl_solve_all (h : RelR w F p g s k b L) (n : Nat) (hn : n < 18446744073709551616) :
    Calls Tryz.prog 15 #[.pointer (some ⟨p, 0, none⟩), .int .u64 (n : Int)] w fun e w' => ∃ A r c rs, e = .returned (.tuple #[.slice A r c, .int .i64 (ySolveE g k b L n)]) ∧ OwnRows w' w.heap.size 32 A r c rs ∧ (∀ x ∈ rs, Own w' w.heap.size 5 x.A x.n x.c x.xs) ∧ rowsXs rs = ySolveV g k b L n ∧ Keep w w' := by
  cases hin : winIn b k n with
  | false =>
    refine (rl_solve_out h n hn hin).mono ?_
    rintro e w1 ⟨rfl, rfl⟩
    exact ⟨none, 0, 0, [], by simp [ySolveE, hin], OwnRows.nilR _ _, fun x hx => by simp at hx, by simp [ySolveV, hin, rowsXs], Keep.refl _⟩
  | true =>
    by_cases h0 : (L n).length = g
    · refine (rl_solve_in h n hn hin h0).mono ?_
      rintro e w1 ⟨A, c, rs, rfl, o1, o2, o3, k1, -⟩
      exact ⟨A, g, c, rs, by simp [ySolveE, hin, h0], o1, o2, by rw [o3, ySolveV, if_pos ⟨hin, h0⟩], k1⟩
    · refine (rl_solve_low h n hn hin h0).mono ?_
      rintro e w1 ⟨rfl, k1⟩
      exact ⟨none, 0, 0, [], by simp [ySolveE, hin, h0], OwnRows.nilR _ _, fun x hx => by simp at hx, by simp [ySolveV, h0, rowsXs], k1⟩
theorem ysolve_all (h : RefY w F p g s k b L) (m : Nat) (hl : (L m).length ≤ g) :
    Calls Tryz.prog 16 #[.pointer (some ⟨p, 0, none⟩), .int .u64 (m : Int)] w fun e w' => ∃ A r c rs F', e = .returned (.tuple #[.slice A r c, .int .i64 (ySolveE g k b L m)]) ∧ OwnRows w' w.heap.size 32 A r c rs ∧ (∀ x ∈ rs, LiesIn w' F' x) ∧ rowsXs rs = ySolveV g k b L m ∧ YNext w w' F F' p g s k b L := by
  cases hin : winIn b k m with
  | false =>
    refine (ysolve_out h m hin).mono ?_
    rintro e w1 ⟨rfl, k1⟩
    exact ⟨none, 0, 0, [], F, by simp [ySolveE, hin], OwnRows.nilR _ _, fun x hx => by simp at hx, by simp [ySolveV, hin, rowsXs], YNext.stay h k1⟩
  | true =>
    by_cases h0 : (L m).length = g
    · refine (ysolve_in h m hin h0).mono ?_
      rintro e w1 ⟨A, c, rs, F', rfl, o1, o2, o3, y⟩
      exact ⟨A, g, c, rs, F', by simp [ySolveE, hin, h0], o1, o2, by rw [o3, ySolveV, if_pos ⟨hin, h0⟩], y⟩
    · refine (ysolve_low h m hin (by omega)).mono ?_
      rintro e w1 ⟨rfl, F', y⟩
      exact ⟨none, 0, 0, [], F', by simp [ySolveE, hin, h0], OwnRows.nilR _ _, fun x hx => by simp at hx, by simp [ySolveV, h0, rowsXs], y⟩
def yMoveE (c : Nat) : Int := if c ≤ topN then 0 else 1
def yMoveB (b c : Nat) : Nat := if c ≤ topN then c else b
def yMoveM (k c : Nat) (L : Nat → List (List Nat)) : Nat → List (List Nat) := if c ≤ topN then moveL c k L else L
theorem rl_move_all (h : RelR w F p g s k b L) (c : Nat) :
    Calls Tryz.prog 17 #[.pointer (some ⟨p, 0, none⟩), .int .u64 (c : Int)] w fun e w' => e = .returned (.int .i64 (yMoveE c)) ∧ ∃ F', RelR w' F' p g s k (yMoveB b c) (yMoveM k c L) ∧ (∀ q, F' q → F q ∨ w.heap.size ≤ q) ∧ Turned F w w' := by
  by_cases hc : c ≤ topN
  · rw [yMoveE, yMoveB, yMoveM, if_pos hc, if_pos hc, if_pos hc]
    exact rl_move_in h c hc
  · rw [yMoveE, yMoveB, yMoveM, if_neg hc, if_neg hc, if_neg hc]
    refine (rl_move_out h c (by omega)).mono ?_
    rintro e w1 ⟨rfl, k1⟩
    exact ⟨rfl, F, h.keep k1, fun j hj => Or.inl hj, Turned.of_keep k1⟩
theorem ymove_all (h : RefY w F p g s k b L) (c : Nat) :
    Calls Tryz.prog 18 #[.pointer (some ⟨p, 0, none⟩), .int .u64 (c : Int)] w fun e w' => e = .returned (.int .i64 (yMoveE c)) ∧ ∃ F', YNext w w' F F' p g s k (yMoveB b c) (yMoveM k c L) := by
  by_cases hc : c ≤ topN
  · rw [yMoveE, yMoveB, yMoveM, if_pos hc, if_pos hc, if_pos hc]
    exact ymove_in h c hc
  · rw [yMoveE, yMoveB, yMoveM, if_neg hc, if_neg hc, if_neg hc]
    exact ymove_out h c (by omega)
end
end Go.Proofs.YtcjjhblgejkkeaaGreat
