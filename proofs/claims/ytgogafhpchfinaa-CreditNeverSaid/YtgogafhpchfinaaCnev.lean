/- CreditNever: accounts, what is on its way, lives, what was granted and used: side by side; what holds between two steps. -/
import Derived.Test.YtgogafhpchfinaaQab
import Derived.Test.YtgogafhpchfinaaQac
namespace Go.Proofs.Ytgogafhpchfinaa
open Go.RowKit Go.Maps
set_option linter.unusedVariables false
/-- What holds between two steps. -/
structure NevI (L0 L1 sp sg su rp rg rs : Nat) (G : Nat × Nat → Nat) (U : Nat → Nat) (ws : List WayC) : Prop where
  u1 : su = U L0
  u0 : ∀ l, L0 < l → U l = 0
  g1 : sg ≤ G (sp, L0)
  g2 : rg = G (L1, rp)
  g3 : ∀ l, rp < l → G (L1, l) = 0
  g4 : ∀ j l, L1 < j → G (j, l) = 0
  s1 : rs ≤ U rp
  w1 : ∀ p ∈ ws, (1 ≤ p.life ∧ p.life ≤ 1125899906842624) ∧ p.dst ≤ 1125899906842624 ∧ p.num ≤ 1125899906842624 ∧ (p.credit = true → p.num ≤ G (p.life, p.dst)) ∧ (p.credit = false → p.num ≤ U p.life)
  lo : (1 ≤ L0 ∧ L0 ≤ 1000) ∧ 1 ≤ L1 ∧ L1 ≤ 1000
namespace NevI
variable {L0 L1 sp sg su rp rg rs : Nat} {G : Nat × Nat → Nat} {U : Nat → Nat} {ws : List WayC}
theorem more (h : NevI L0 L1 sp sg su rp rg rs G U ws) (p : WayC) (hp : (1 ≤ p.life ∧ p.life ≤ 1125899906842624) ∧ p.dst ≤ 1125899906842624 ∧ p.num ≤ 1125899906842624 ∧ (p.credit = true → p.num ≤ G (p.life, p.dst)) ∧ (p.credit = false → p.num ≤ U p.life)) : NevI L0 L1 sp sg su rp rg rs G U (ws ++ [p]) :=
  ⟨h.u1, h.u0, h.g1, h.g2, h.g3, h.g4, h.s1, fun q hq => by
    rcases List.mem_append.1 hq with hq | hq
    · exact h.w1 q hq
    · simp at hq; subst hq; exact hp, h.lo⟩
/-- One more is used. -/
theorem use (h : NevI L0 L1 sp sg su rp rg rs G U ws) {v : Nat} (hv : v = su + 1) (hm : v ≤ 1125899906842624) : NevI L0 L1 sp sg v rp rg rs G (fun y => if y = L0 then v else U y) (ws ++ [⟨false, L0, 0, v⟩]) := by
  have hle : ∀ y, U y ≤ if y = L0 then v else U y := fun y => by
    split
    · rename_i e; subst e; have := h.u1; omega
    · exact Nat.le_refl _
  refine NevI.more ⟨by simp, fun l hl => ?_, h.g1, h.g2, h.g3, h.g4, Nat.le_trans h.s1 (hle rp), fun p hp => ?_, h.lo⟩ _ ⟨⟨h.lo.1.1, by have := h.lo; show L0 ≤ _; omega⟩, Nat.zero_le _, hm, (fun e => nomatch e), fun _ => by simp⟩
  · show (if l = L0 then v else U l) = 0
    rw [if_neg (by omega)]; exact h.u0 l hl
  · obtain ⟨a, b, c, d, e⟩ := h.w1 p hp
    exact ⟨a, b, c, d, fun x => Nat.le_trans (e x) (hle p.life)⟩
theorem probe (h : NevI L0 L1 sp sg su rp rg rs G U ws) (hm : su ≤ 1125899906842624) : NevI L0 L1 sp sg su rp rg rs G U (ws ++ [⟨false, L0, 0, su⟩]) :=
  h.more _ ⟨⟨h.lo.1.1, by have := h.lo; show L0 ≤ _; omega⟩, Nat.zero_le _, hm, (fun e => nomatch e), fun _ => Nat.le_of_eq h.u1⟩
/-- A grant. -/
theorem grant (h : NevI L0 L1 sp sg su rp rg rs G U ws) {v : Nat} (hle : rg ≤ v) (hm : v ≤ 1125899906842624) (hrp : rp ≤ 1125899906842624) : NevI L0 L1 sp sg su rp v rs (fun y => if y = (L1, rp) then v else G y) U (ws ++ [⟨true, L1, rp, v⟩]) := by
  have hge : ∀ y, G y ≤ if y = (L1, rp) then v else G y := fun y => by
    split
    · rename_i e; subst e; have := h.g2; omega
    · exact Nat.le_refl _
  refine NevI.more ⟨h.u1, h.u0, Nat.le_trans h.g1 (hge _), by simp, fun l hl => ?_, fun j l hj => ?_, h.s1, fun p hp => ?_, h.lo⟩ _ ⟨⟨h.lo.2.1, by have := h.lo; show L1 ≤ _; omega⟩, hrp, hm, fun _ => by simp, (fun e => nomatch e)⟩
  · show (if (L1, l) = (L1, rp) then v else G (L1, l)) = 0
    rw [if_neg (fun e => by injection e with _ e; omega)]; exact h.g3 l hl
  · show (if (j, l) = (L1, rp) then v else G (j, l)) = 0
    rw [if_neg (fun e => by injection e with e; omega)]; exact h.g4 j l hj
  · obtain ⟨a, b, c, d, e⟩ := h.w1 p hp
    exact ⟨a, b, c, fun x => Nat.le_trans (d x) (hge _), e⟩
/-- A Credit comes. -/
theorem takes (h : NevI L0 L1 sp sg su rp rg rs G U ws) {p : WayC} (hp : p ∈ ws) (hc : p.credit = true) (hL : L0 ≤ 1125899906842624) :
    (takeE L0 sp p.life p.dst p.num = 0 ↔ p.dst = L0 ∧ sp ≤ p.life) ∧ (¬ (p.dst = L0 ∧ sp ≤ p.life) → takeE L0 sp p.life p.dst p.num = 22) ∧ NevI L0 L1 (takeP L0 sp p.life p.dst p.num) (takeG L0 sp sg p.life p.dst p.num) su rp rg rs G U ws := by
  obtain ⟨a, b, c, d, _⟩ := h.w1 p hp
  have ok : okL p.life = true := okL_of a.1 a.2
  have hE : takeE L0 sp p.life p.dst p.num = 0 ↔ p.dst = L0 ∧ sp ≤ p.life := by
    unfold takeE
    rw [if_neg (by rw [ok]; simp; omega)]
    split
    · constructor
      · intro e; cases e
      · intro e; omega
    · constructor
      · intro _; omega
      · intro _; rfl
  refine ⟨hE, fun hn => by unfold takeE; rw [if_neg (by rw [ok]; simp; omega), if_pos (by omega)], ?_⟩
  by_cases e : takeE L0 sp p.life p.dst p.num = 0
  · obtain ⟨e1, e2⟩ := hE.1 e
    rw [takeP, e, if_pos rfl]
    have hd := d hc
    rw [e1] at hd
    refine ⟨h.u1, h.u0, ?_, h.g2, h.g3, h.g4, h.s1, h.w1, h.lo⟩
    by_cases h2 : sp < p.life ∨ sg < p.num
    · rw [takeG, if_pos ⟨e, h2⟩]; exact hd
    · rw [takeG, if_neg (fun x => h2 x.2)]
      obtain rfl : sp = p.life := by omega
      exact h.g1
  · rw [takeP, if_neg e, takeG, if_neg (fun x => e x.1)]
    exact h
/-- What the sender counts comes. -/
theorem saws (h : NevI L0 L1 sp sg su rp rg rs G U ws) {p : WayC} (hp : p ∈ ws) (hc : p.credit = false) :
    (sawE rp p.life p.num = 0 ↔ rp ≤ p.life) ∧ (¬ rp ≤ p.life → sawE rp p.life p.num = 22) ∧ NevI L0 L1 sp sg su (sawP rp p.life p.num) (sawG rp rg p.life p.num) (sawS rp rs p.life p.num) G U ws := by
  obtain ⟨a, b, c, _, d⟩ := h.w1 p hp
  have ok : okL p.life = true := okL_of a.1 a.2
  have hE : sawE rp p.life p.num = 0 ↔ rp ≤ p.life := by
    unfold sawE
    rw [if_neg (by rw [ok]; simp; omega)]
    split
    · constructor
      · intro e; cases e
      · intro e; omega
    · constructor
      · intro _; omega
      · intro _; rfl
  refine ⟨hE, fun hn => by unfold sawE; rw [if_neg (by rw [ok]; simp; omega), if_pos (by omega)], ?_⟩
  by_cases e : sawE rp p.life p.num = 0
  · have e1 := hE.1 e
    have hd := d hc
    rw [sawP, e, if_pos rfl, sawS, e, if_pos rfl]
    by_cases h2 : rp < p.life
    · rw [sawG, if_pos ⟨e, h2⟩, if_pos h2]
      exact ⟨h.u1, h.u0, h.g1, (h.g3 _ h2).symm, fun l hl => h.g3 l (by omega), h.g4, hd, h.w1, h.lo⟩
    · obtain rfl : rp = p.life := by omega
      rw [sawG, if_neg (fun x => h2 x.2), if_neg h2]
      have hs := h.s1
      exact ⟨h.u1, h.u0, h.g1, h.g2, h.g3, h.g4, by omega, h.w1, h.lo⟩
  · rw [sawP, if_neg e, sawG, if_neg (fun x => e x.1), sawS, if_neg e]
    exact h
theorem out (h : NevI L0 L1 sp sg su rp rg rs G U ws) (k : Nat) : NevI L0 L1 sp sg su rp rg rs G U (ws.eraseIdx k) :=
  ⟨h.u1, h.u0, h.g1, h.g2, h.g3, h.g4, h.s1, fun p hp => h.w1 p (List.mem_of_mem_eraseIdx hp), h.lo⟩
/-- Who begins anew. -/
theorem sender (h : NevI L0 L1 sp sg su rp rg rs G U ws) (hl : L0 + 1 ≤ 1000) : NevI (L0 + 1) L1 0 0 0 rp rg rs G U ws :=
  ⟨(h.u0 _ (by omega)).symm, fun l hl => h.u0 l (by omega), Nat.zero_le _, h.g2, h.g3, h.g4, h.s1, h.w1, ⟨by omega, hl⟩, h.lo.2⟩
theorem receiver (h : NevI L0 L1 sp sg su rp rg rs G U ws) (hl : L1 + 1 ≤ 1000) : NevI L0 (L1 + 1) sp sg su 0 0 0 G U ws :=
  ⟨h.u1, h.u0, h.g1, (h.g4 _ _ (by omega)).symm, fun l _ => h.g4 _ l (by omega), fun j l hj => h.g4 j l (by omega), Nat.zero_le _, h.w1, h.lo.1, by omega, hl⟩
end NevI
/-- The blocks of the other things. -/
def NevX (lv b1 b2 : Nat) : Nat → Prop := fun b => b = lv ∨ b = b1 ∨ b = b2
structure Nev (W w : World) (s r lv b1 b2 N L0 L1 sp sg su rp rg rs : Nat) (A : Option Addr) (m c : Nat) (ws : List WayC) (G : Nat × Nat → Nat) (U : Nat → Nat) : Prop where
  ln : Line (NevX lv b1 b2) W w s r L0 sp sg su 8 rp rg rs A m c ws
  lives : w.heap[lv]? = some (.cells #[.int .u64 (L0 : Int), .int .u64 (L1 : Int)] 57 (0, 0))
  mg : MapU 57 enc2 dom2 w b1 N G
  mu : MapU 22 enc1 dom1 w b2 N U
  ne : lv ≠ b1 ∧ lv ≠ b2 ∧ b1 ≠ b2
  lo : W.heap.size ≤ lv ∧ W.heap.size ≤ b1 ∧ W.heap.size ≤ b2
section
variable {W w w' : World} {s r lv b1 b2 N L0 L1 sp sg su rp rg rs m c : Nat} {A : Option Addr} {ws : List WayC} {G : Nat × Nat → Nat} {U : Nat → Nat}
theorem Nev.line (h : Nev W w s r lv b1 b2 N L0 L1 sp sg su rp rg rs A m c ws G U) {p g u P' g' u' m' c' : Nat} {A' : Option Addr} {ws' : List WayC} {s' r' : Nat} (h2 : Line (NevX lv b1 b2) W w' s' r' L0 p g u 8 P' g' u' A' m' c' ws') (k : Still (NevX lv b1 b2) w w') : Nev W w' s' r' lv b1 b2 N L0 L1 p g u P' g' u' A' m' c' ws' G U :=
  ⟨h2, (k lv (Or.inl rfl)).trans h.lives, h.mg.block (k b1 (Or.inr (Or.inl rfl))), h.mu.block (k b2 (Or.inr (Or.inr rfl))), h.ne, h.lo⟩
theorem Nev.later (h : Nev W w s r lv b1 b2 N L0 L1 sp sg su rp rg rs A m c ws G U) (k : Keep w w') : Nev W w' s r lv b1 b2 N L0 L1 sp sg su rp rg rs A m c ws G U := h.line (h.ln.later k) (h.ln.later_still k)
theorem Nev.c0 (h : Nev W w s r lv b1 b2 N L0 L1 sp sg su rp rg rs A m c ws G U) : w.cell? ⟨lv, 0, none⟩ = some (.int .u64 (L0 : Int)) := by unfold World.cell?; rw [h.lives]; rfl
theorem Nev.c1 (h : Nev W w s r lv b1 b2 N L0 L1 sp sg su rp rg rs A m c ws G U) : w.cell? ⟨lv, 1, none⟩ = some (.int .u64 (L1 : Int)) := by unfold World.cell?; rw [h.lives]; rfl
theorem Nev.fz (h : Nev W w s r lv b1 b2 N L0 L1 sp sg su rp rg rs A m c ws G U) (i : Nat) : w.frozen? ⟨lv, i, none⟩ = false := by simp [World.frozen?, h.lives]
theorem Nev.more (h : Nev W w s r lv b1 b2 N L0 L1 sp sg su rp rg rs A m c ws G U) {M : Nat} (hM : N ≤ M) : Nev W w s r lv b1 b2 M L0 L1 sp sg su rp rg rs A m c ws G U :=
  ⟨h.ln, h.lives, by obtain ⟨D, q, z⟩ := h.mg; exact ⟨D, q.mono hM, z⟩, by obtain ⟨D, q, z⟩ := h.mu; exact ⟨D, q.mono hM, z⟩, h.ne, h.lo⟩
/-- Looked up. -/
theorem Nev.lookG (h : Nev W w s r lv b1 b2 N L0 L1 sp sg su rp rg rs A m c ws G U) {a b : Nat} (ha : a < 18446744073709551616) (hb : b < 18446744073709551616) :
    (Instr.lookup 59 (.map (some b1)) (.agg #[.int .u64 (a : Int), .int .u64 (b : Int)]) false).run Try.prog w = .ok (.int .u64 (G (a, b) : Int)) w := by
  obtain ⟨l, hl⟩ := key2 (a := (a, b)) ⟨ha, hb⟩
  exact h.mg.look keyed2 Try.underlying59 (x := (a, b)) ⟨ha, hb⟩ hl
theorem Nev.lookU (h : Nev W w s r lv b1 b2 N L0 L1 sp sg su rp rg rs A m c ws G U) {a : Nat} (ha : a < 18446744073709551616) :
    (Instr.lookup 60 (.map (some b2)) (.int .u64 (a : Int)) false).run Try.prog w = .ok (.int .u64 (U a : Int)) w := by
  obtain ⟨l, hl⟩ := key1 (a := a) ha
  exact h.mu.look keyed1 Try.underlying60 (x := a) ha hl
theorem turned_grown {F : Nat → Prop} {b : Nat} (h : w.grownBy w' (some b)) (hF : F b) : Turned F w w' := Turned.of_grown h fun i e => by injection e with e; subst e; exact hF
/-- Written. -/
theorem Nev.putG (h : Nev W w s r lv b1 b2 N L0 L1 sp sg su rp rg rs A m c ws G U) {a b v : Nat} (ha : a < 18446744073709551616) (hb : b < 18446744073709551616) (hv : v < 18446744073709551616) (hn : N ≤ 1000) :
    ∃ w', (Instr.mapUpdate 59 (.map (some b1)) (.agg #[.int .u64 (a : Int), .int .u64 (b : Int)]) (.int .u64 (v : Int))).run Try.prog w = .ok () w' ∧ Nev W w' s r lv b1 b2 (N + 1) L0 L1 sp sg su rp rg rs A m c ws (fun y => if y = (a, b) then v else G y) U ∧ (∀ x, x < w.heap.size → x ≠ b1 → w'.heap[x]? = w.heap[x]?) := by
  obtain ⟨l, hl⟩ := key2 (a := (a, b)) ⟨ha, hb⟩
  obtain ⟨w', r1, r2, r3⟩ := h.mg.put keyed2 Try.underlying59 inj2 (x := (a, b)) ⟨ha, hb⟩ hl hn hv
  have T : Turned (fun x => x = b1) w w' := turned_grown r3 rfl
  have hx := h.ln.xs
  refine ⟨w', r1, ⟨h.ln.aside T (fun i e => by subst e; exact ⟨Or.inr (Or.inl rfl), h.lo.2.1⟩), (T.block lv (hx lv (Or.inl rfl)).2.2 h.ne.1).trans h.lives, r2, ?_, h.ne, h.lo⟩, fun x hlt hne => T.block x hlt hne⟩
  have := h.mu.block (T.block b2 (hx b2 (Or.inr (Or.inr rfl))).2.2 (fun e => h.ne.2.2 e.symm))
  obtain ⟨D, q, z⟩ := this
  exact ⟨D, q.mono (Nat.le_succ _), z⟩
theorem Nev.putU (h : Nev W w s r lv b1 b2 N L0 L1 sp sg su rp rg rs A m c ws G U) {a v : Nat} (ha : a < 18446744073709551616) (hv : v < 18446744073709551616) (hn : N ≤ 1000) :
    ∃ w', (Instr.mapUpdate 60 (.map (some b2)) (.int .u64 (a : Int)) (.int .u64 (v : Int))).run Try.prog w = .ok () w' ∧ Nev W w' s r lv b1 b2 (N + 1) L0 L1 sp sg su rp rg rs A m c ws G (fun y => if y = a then v else U y) ∧ (∀ x, x < w.heap.size → x ≠ b2 → w'.heap[x]? = w.heap[x]?) := by
  obtain ⟨l, hl⟩ := key1 (a := a) ha
  obtain ⟨w', r1, r2, r3⟩ := h.mu.put keyed1 Try.underlying60 inj1 (x := a) ha hl hn hv
  have T : Turned (fun x => x = b2) w w' := turned_grown r3 rfl
  have hx := h.ln.xs
  refine ⟨w', r1, ⟨h.ln.aside T (fun i e => by subst e; exact ⟨Or.inr (Or.inr rfl), h.lo.2.2⟩), (T.block lv (hx lv (Or.inl rfl)).2.2 h.ne.2.1).trans h.lives, ?_, r2, h.ne, h.lo⟩, fun x hlt hne => T.block x hlt hne⟩
  have := h.mg.block (T.block b1 (hx b1 (Or.inr (Or.inl rfl))).2.2 h.ne.2.2)
  obtain ⟨D, q, z⟩ := this
  exact ⟨D, q.mono (Nat.le_succ _), z⟩
/-- A life is set. -/
theorem Nev.set0 (h : Nev W w s r lv b1 b2 N L0 L1 sp sg su rp rg rs A m c ws G U) {v : Nat} {s' : Nat} {w2 : World} (k : Keep (w.setCell ⟨lv, 0, none⟩ (.int .u64 (v : Int))) w2) (hs : s' = (w.setCell ⟨lv, 0, none⟩ (.int .u64 (v : Int))).heap.size) (h2 : SenR w2 s' v 0 0 0) :
    Nev W w2 s' r lv b1 b2 N v L1 0 0 0 rp rg rs A m c ws G U := by
  have T : Turned (fun x => x = lv) w (w.setCell ⟨lv, 0, none⟩ (.int .u64 (v : Int))) := Turned.set (F := fun x => x = lv) w ⟨lv, 0, none⟩ _ rfl
  have l1 := h.ln.aside T (fun i e => by subst e; exact ⟨Or.inl rfl, h.lo.1⟩)
  have hx := h.ln.xs
  have hlv : (w.setCell ⟨lv, 0, none⟩ (.int .u64 (v : Int))).heap[lv]? = some (.cells #[.int .u64 (v : Int), .int .u64 (L1 : Int)] 57 (0, 0)) := by simp [World.setCell, Array.getElem?_modify, h.lives]
  have hsz := T.size
  have hxl := l1.xs
  generalize w.setCell ⟨lv, 0, none⟩ (.int .u64 (v : Int)) = wa at *
  have m1 := (h.mg.block (T.block b1 (hx b1 (Or.inr (Or.inl rfl))).2.2 (fun e => h.ne.1 e.symm))).block (k.block b1 (hxl b1 (Or.inr (Or.inl rfl))).2.2)
  have m2 := (h.mu.block (T.block b2 (hx b2 (Or.inr (Or.inr rfl))).2.2 (fun e => h.ne.2.1 e.symm))).block (k.block b2 (hxl b2 (Or.inr (Or.inr rfl))).2.2)
  subst hs
  refine ⟨⟨⟨h2, l1.two.rcv.keep k, by have := l1.two.rcv.lt; omega, l1.two.kp.size, l1.two.r0, l1.two.kp.trans k⟩, l1.ways.keep k, fun b e => ⟨by have := (l1.ways.block b e).2; omega, (l1.ap b e).2⟩, fun b e => ⟨by have := (hxl b e).2.2; omega, (hxl b e).2.1, Nat.lt_of_lt_of_le (hxl b e).2.2 k.size⟩⟩, (k.block lv (hxl lv (Or.inl rfl)).2.2).trans hlv, m1, m2, h.ne, h.lo⟩
theorem Nev.set1 (h : Nev W w s r lv b1 b2 N L0 L1 sp sg su rp rg rs A m c ws G U) {v : Nat} {r' : Nat} {w2 : World} (k : Keep (w.setCell ⟨lv, 1, none⟩ (.int .u64 (v : Int))) w2) (hs : r' = (w.setCell ⟨lv, 1, none⟩ (.int .u64 (v : Int))).heap.size) (h2 : RecR w2 r' 8 0 0 0) :
    Nev W w2 s r' lv b1 b2 N L0 v sp sg su 0 0 0 A m c ws G U := by
  have T : Turned (fun x => x = lv) w (w.setCell ⟨lv, 1, none⟩ (.int .u64 (v : Int))) := Turned.set (F := fun x => x = lv) w ⟨lv, 1, none⟩ _ rfl
  have l1 := h.ln.aside T (fun i e => by subst e; exact ⟨Or.inl rfl, h.lo.1⟩)
  have hx := h.ln.xs
  have hlv : (w.setCell ⟨lv, 1, none⟩ (.int .u64 (v : Int))).heap[lv]? = some (.cells #[.int .u64 (L0 : Int), .int .u64 (v : Int)] 57 (0, 0)) := by simp [World.setCell, Array.getElem?_modify, h.lives]
  have hsz := T.size
  have hxl := l1.xs
  generalize w.setCell ⟨lv, 1, none⟩ (.int .u64 (v : Int)) = wa at *
  have m1 := (h.mg.block (T.block b1 (hx b1 (Or.inr (Or.inl rfl))).2.2 (fun e => h.ne.1 e.symm))).block (k.block b1 (hxl b1 (Or.inr (Or.inl rfl))).2.2)
  have m2 := (h.mu.block (T.block b2 (hx b2 (Or.inr (Or.inr rfl))).2.2 (fun e => h.ne.2.1 e.symm))).block (k.block b2 (hxl b2 (Or.inr (Or.inr rfl))).2.2)
  subst hs
  refine ⟨⟨⟨l1.two.sen.keep k, h2, by have := l1.two.sen.lt; omega, l1.two.s0, l1.two.kp.size, l1.two.kp.trans k⟩, l1.ways.keep k, fun b e => ⟨(l1.ap b e).1, by have := (l1.ways.block b e).2; omega, (l1.ap b e).2.2⟩, fun b e => ⟨(hxl b e).1, by have := (hxl b e).2.2; omega, Nat.lt_of_lt_of_le (hxl b e).2.2 k.size⟩⟩, (k.block lv (hxl lv (Or.inl rfl)).2.2).trans hlv, m1, m2, h.ne, h.lo⟩
end
end Go.Proofs.Ytgogafhpchfinaa
