/- The document's own basis: Insert. -/
import Derived.Test.YtgelalbmhllccaaGreatQal
import Derived.Deep.DeepCutAuto
import Derived.Deep.CutBlock
namespace Go.Proofs.YtgelalbmhllccaaGreat
open Go.RowKit Lin
set_option linter.unusedVariables false
set_option linter.unusedSimpArgs false
section
variable {w : World} {F RF : Nat → Prop} {b g s bi br k : Nat} {iv : List Bool} {R : List PairV} {p' : PairV}
theorem RefR.setRow (h : RefR w F b g s bi br iv R) (hk : k < g) (hl : LiesIn w RF p'.a ∧ LiesIn w RF p'.b) (hsz : p'.a.n = g ∧ p'.b.n = s) (hRF : ∀ x, RF x → x < w.heap.size ∧ ¬ F x) :
    RefR ((w.setCell ⟨br, k * 2, none⟩ p'.a.val).setCell ⟨br, k * 2 + 1, none⟩ p'.b.val) (fun x => F x ∨ RF x) b g s bi br iv (R.set k p') ∧ Turned (fun x => x = br) w ((w.setCell ⟨br, k * 2, none⟩ p'.a.val).setCell ⟨br, k * 2 + 1, none⟩ p'.b.val) := by
  have T : Turned (fun x => x = br) w ((w.setCell ⟨br, k * 2, none⟩ p'.a.val).setCell ⟨br, k * 2 + 1, none⟩ p'.b.val) :=
    (Turned.set (F := fun b => b = br) w ⟨br, k * 2, none⟩ p'.a.val rfl).trans (Turned.set (F := fun b => b = br) _ ⟨br, k * 2 + 1, none⟩ p'.b.val rfl) fun _ e => Or.inl e
  refine ⟨⟨fun x hx => ?_, Or.inl h.fb, Or.inl h.fi, Or.inl h.fr, h.ne, (T.block b (h.lt b h.fb) h.ne.2.1).trans h.block, (T.block bi (h.lt bi h.fi) h.ne.2.2).trans h.bools, h.st.set k p', h.li, by rw [List.length_set, h.lr], fun i p hx hp => ?_⟩, T⟩
  · rcases hx with e | e
    · exact Nat.lt_of_lt_of_le (h.lt x e) T.size
    · exact Nat.lt_of_lt_of_le (hRF x e).1 T.size
  · by_cases e : i = k
    · subst e
      rw [List.getElem?_set_self (by rw [h.lr]; exact hk)] at hp
      injection hp with hp
      subst hp
      have hn : ∀ x, RF x → ¬ x = br := fun x hx e => (hRF x hx).2 (e ▸ h.fr)
      have hm : ∀ x, RF x → (F x ∨ RF x) ∧ x ≠ b ∧ x ≠ bi ∧ x ≠ br := fun x hx => ⟨Or.inr hx, fun e => (hRF x hx).2 (e ▸ h.fb), fun e => (hRF x hx).2 (e ▸ h.fi), hn x hx⟩
      exact ⟨⟨(hl.1.turned T hn).mono hm, (hl.2.turned T hn).mono hm⟩, hsz⟩
    · rw [List.getElem?_set_ne (fun e2 => e e2.symm)] at hp
      obtain ⟨⟨a, c⟩, z⟩ := h.rows i p hx hp
      have hm : ∀ x, (F x ∧ x ≠ b ∧ x ≠ bi ∧ x ≠ br) → ((F x ∨ RF x) ∧ x ≠ b ∧ x ≠ bi ∧ x ≠ br) := fun x hx => ⟨Or.inl hx.1, hx.2⟩
      exact ⟨⟨(a.turned T fun x hx => hx.2.2.2).mono hm, (c.turned T fun x hx => hx.2.2.2).mono hm⟩, z⟩
/-- A place is taken. -/
theorem RefR.setBoth (h : RefR w F b g s bi br iv R) (hk : k < g) (hl : LiesIn w RF p'.a ∧ LiesIn w RF p'.b) (hsz : p'.a.n = g ∧ p'.b.n = s) (hRF : ∀ x, RF x → x < w.heap.size ∧ ¬ F x) :
    RefR (((w.setCell ⟨bi, k, none⟩ (.bool true)).setCell ⟨br, k * 2, none⟩ p'.a.val).setCell ⟨br, k * 2 + 1, none⟩ p'.b.val) (fun x => F x ∨ RF x) b g s bi br (iv.set k true) (R.set k p') ∧ Turned F w (((w.setCell ⟨bi, k, none⟩ (.bool true)).setCell ⟨br, k * 2, none⟩ p'.a.val).setCell ⟨br, k * 2 + 1, none⟩ p'.b.val) := by
  have T1 : Turned (fun x => x = bi) w (w.setCell ⟨bi, k, none⟩ (.bool true)) := Turned.set (F := fun b => b = bi) w ⟨bi, k, none⟩ _ rfl
  have T2 : Turned (fun x => x = br) (w.setCell ⟨bi, k, none⟩ (.bool true)) (((w.setCell ⟨bi, k, none⟩ (.bool true)).setCell ⟨br, k * 2, none⟩ p'.a.val).setCell ⟨br, k * 2 + 1, none⟩ p'.b.val) :=
    (Turned.set (F := fun b => b = br) _ ⟨br, k * 2, none⟩ p'.a.val rfl).trans (Turned.set (F := fun b => b = br) _ ⟨br, k * 2 + 1, none⟩ p'.b.val rfl) fun _ e => Or.inl e
  have T : Turned (fun x => x = bi ∨ x = br) w (((w.setCell ⟨bi, k, none⟩ (.bool true)).setCell ⟨br, k * 2, none⟩ p'.a.val).setCell ⟨br, k * 2 + 1, none⟩ p'.b.val) :=
    (T1.mono fun x _ e => Or.inl e).trans T2 fun x e => Or.inl (Or.inr e)
  have hbs : (w.setCell ⟨bi, k, none⟩ (.bool true)).heap[bi]? = some (.cells ((iv.set k true).map Value.bool).toArray 4 (0, 0)) := by
    rw [heap_setCell_same w bi k _ _ (.bool true) h.bools]
    simp
  refine ⟨⟨fun x hx => ?_, Or.inl h.fb, Or.inl h.fi, Or.inl h.fr, h.ne, (T.block b (h.lt b h.fb) (by rintro (e | e); exact h.ne.1 e; exact h.ne.2.1 e)).trans h.block, (T2.block bi (Nat.lt_of_lt_of_le (h.lt bi h.fi) T1.size) h.ne.2.2).trans hbs, (h.st.turned T1 (fun e => h.ne.2.2 e.symm)).set k p', by rw [List.length_set, h.li], by rw [List.length_set, h.lr], fun i p hx hp => ?_⟩, T.mono fun x _ e => by rcases e with e | e <;> subst e; exact h.fi; exact h.fr⟩
  · rcases hx with e | e
    · exact Nat.lt_of_lt_of_le (h.lt x e) T.size
    · exact Nat.lt_of_lt_of_le (hRF x e).1 T.size
  · by_cases e : i = k
    · subst e
      rw [List.getElem?_set_self (by rw [h.lr]; exact hk)] at hp
      injection hp with hp
      subst hp
      have hn : ∀ x, RF x → ¬ (x = bi ∨ x = br) := fun x hx e => (hRF x hx).2 (by rcases e with e | e <;> subst e; exact h.fi; exact h.fr)
      have hm : ∀ x, RF x → (F x ∨ RF x) ∧ x ≠ b ∧ x ≠ bi ∧ x ≠ br := fun x hx => ⟨Or.inr hx, fun e => (hRF x hx).2 (e ▸ h.fb), fun e => (hRF x hx).2 (e ▸ h.fi), fun e => (hRF x hx).2 (e ▸ h.fr)⟩
      exact ⟨⟨(hl.1.turned T hn).mono hm, (hl.2.turned T hn).mono hm⟩, hsz⟩
    · rw [List.getElem?_set_ne (fun e2 => e e2.symm)] at hp hx
      obtain ⟨⟨a, c⟩, z⟩ := h.rows i p hx hp
      have hm : ∀ x, (F x ∧ x ≠ b ∧ x ≠ bi ∧ x ≠ br) → ((F x ∨ RF x) ∧ x ≠ b ∧ x ≠ bi ∧ x ≠ br) := fun x hx => ⟨Or.inl hx.1, hx.2⟩
      have hn : ∀ x, (F x ∧ x ≠ b ∧ x ≠ bi ∧ x ≠ br) → ¬ (x = bi ∨ x = br) := fun x hx e => by
        rcases e with e | e
        · exact hx.2.2.1 e
        · exact hx.2.2.2 e
      exact ⟨⟨(a.turned T hn).mono hm, (c.turned T hn).mono hm⟩, z⟩
end
theorem addS_nought (n : Nat) (ys : List Nat) (c : Nat) : vAddS n (List.replicate n 0) ys c = vScale n ys c := tab_congr fun j hj => by
  rw [List.getD_eq_getElem?_getD, List.getElem?_replicate, if_pos hj]; exact Nat.zero_xor _
/-- Rows being cleared. -/
structure InsI (w wr : World) (F : Nat → Prop) (b g s bi br q k L : Nat) (iv : List Bool) (R Rk : List PairV) (r : PairV) (lo hi : Nat) : Prop where
  ref : ∃ Fk, RefR wr Fk b g s bi br iv Rk ∧ ∀ x, Fk x → F x ∨ hi ≤ x
  row : wr.heap[q]? = some (.cells #[r.a.val, r.b.val] 45 (0, 0))
  ra : LiesIn wr (fun x => lo ≤ x ∧ x < hi) r.a
  rb : LiesIn wr (fun x => lo ≤ x ∧ x < hi) r.b
  done : ∀ (i : Nat) (p p' : PairV), i < k → iv[i]? = some true → R[i]? = some p → Rk[i]? = some p' → p'.xs = vAddS (g + s) p.xs r.xs (p.xs.getD L 0) ∧ p'.a.xs.length = g ∧ p'.b.xs.length = s
  rest : ∀ i, k ≤ i → Rk[i]? = R[i]?
  turn : Turned F w wr
  lim : hi ≤ wr.heap.size
  qhi : q < hi
section
variable {w wr w4 w5 : World} {F Fk : Nat → Prop} {b g s bi br q k L lo hi : Nat} {iv : List Bool} {R Rk : List PairV} {r p p' : PairV}
theorem InsI.skip (h : InsI w wr F b g s bi br q k L iv R Rk r lo hi) (hx : iv[k]? = some false) : InsI w wr F b g s bi br q (k + 1) L iv R Rk r lo hi :=
  ⟨h.ref, h.row, h.ra, h.rb, fun i p p' hi h1 h2 h3 => by
    by_cases e : i = k
    · subst e; rw [hx] at h1; cases h1
    · exact h.done i p p' (by omega) h1 h2 h3, fun i hi => h.rest i (by omega), h.turn, h.lim, h.qhi⟩
theorem InsI.put (h : InsI w wr F b g s bi br q k L iv R Rk r lo hi) (hk : k < g) (hR : RefR w F b g s bi br iv R) (hq : w.heap.size = q) (hx : iv[k]? = some true) (hp : R[k]? = some p) (hlo : w.heap.size ≤ lo ∧ lo ≤ hi) (hRk : RefR wr Fk b g s bi br iv Rk) (hFk : ∀ x, Fk x → F x ∨ hi ≤ x)
    (hr : RefR w5 (fun x => Fk x ∨ (wr.heap.size ≤ x ∧ x < w4.heap.size)) b g s bi br iv (Rk.set k p')) (t : Turned (fun x => x = br) w4 w5) (k4 : Keep wr w4) (hv : p'.a.xs ++ p'.b.xs = vAddS (g + s) p.xs r.xs (p.xs.getD L 0)) (h1 : p'.a.xs.length = g) (h2 : p'.b.xs.length = s) :
    InsI w w5 F b g s bi br q (k + 1) L iv R (Rk.set k p') r lo hi := by
  have hbr : br < w.heap.size := hR.lt br hR.fr
  have T : Turned (fun x => x = br) wr w5 := (Turned.of_keep (F := fun x => x = br) k4).trans t fun _ e => Or.inl e
  refine ⟨⟨_, hr, fun x hx => ?_⟩, (T.block q (Array.getElem?_eq_some_iff.1 h.row).1 (by omega)).trans h.row, h.ra.turned T fun x hx => by omega, h.rb.turned T fun x hx => by omega, fun i a c hi ha hb hc => ?_, fun i hi => ?_, h.turn.trans T fun x e => Or.inl (e ▸ hR.fr), Nat.le_trans h.lim T.size, h.qhi⟩
  · rcases hx with e | e
    · exact hFk x e
    · exact Or.inr (Nat.le_trans h.lim e.1)
  · by_cases e : i = k
    · subst e
      rw [List.getElem?_set_self (by rw [hRk.lr]; exact hk)] at hc
      injection hc with hc
      subst hc
      rw [hp] at hb
      injection hb with hb
      subst hb
      exact ⟨hv, h1, h2⟩
    · rw [List.getElem?_set_ne (fun e2 => e e2.symm)] at hc
      exact h.done i a c (by omega) ha hb hc
  · rw [List.getElem?_set_ne (by omega)]
    exact h.rest i (by omega)
theorem pair_sum {rx x7 sx x8 : List Nat} {L : Nat} (h1 : rx.length = g) (h2 : x7.length = g) (hL : L < g) : vAddS g rx x7 (rx.getD L 0) ++ vAddS s sx x8 (rx.getD L 0) = vAddS (g + s) (rx ++ sx) (x7 ++ x8) ((rx ++ sx).getD L 0) := by
  have e : (rx ++ sx).getD L 0 = rx.getD L 0 := by rw [List.getD_eq_getElem?_getD, List.getElem?_append_left (by omega), ← List.getD_eq_getElem?_getD]
  have t := vAddS_take g s (rx ++ sx) (x7 ++ x8) (rx.getD L 0)
  have d := vAddS_drop g s (rx ++ sx) (x7 ++ x8) (rx.getD L 0)
  rw [List.take_left' h1, List.take_left' h2] at t
  rw [List.drop_left' h1, List.drop_left' h2] at d
  rw [e, ← List.take_append_drop g (vAddS (g + s) (rx ++ sx) (x7 ++ x8) (rx.getD L 0)), t, d]
end
section
variable {w : World} {F G : Nat → Prop} {b g s bi br : Nat} {iv : List Bool} {R : List PairV} {B : List (List Nat)}
set_option maxRecDepth 100000 in
set_option maxHeartbeats 8000000 in
theorem rpinsert_in (h : RefR w F b g s bi br iv R) (hS : Slots g s iv R B) (hB : Bas g s B) (p : PairV) (hp : LiesIn w G p.a ∧ LiesIn w G p.b ∧ p.a.n = g ∧ p.b.n = s) (hG : ∀ k, G k → k < w.heap.size) (hg1 : 1 ≤ g) (hg : g ≤ 255) (hs : s ≤ 65535) :
    Calls Tryz.prog 44 #[.pointer (some ⟨b, 0, none⟩), p.agg] w fun e w' => e = .returned (.tuple #[.bool (!decide (inB g s B p.xs)), .int .i64 0]) ∧ ∃ F' iv' R', RefR w' F' b g s bi br iv' R' ∧ Slots g s iv' R' (insB g s B p.xs) ∧ (∀ k, F' k → F k ∨ w.heap.size ≤ k) ∧ Turned F w w' := by
  obtain ⟨⟨A1, n1, c1, x1⟩, ⟨A2, n2, c2, x2⟩⟩ := p
  obtain ⟨p1, p2, p3, p4⟩ := hp
  simp only at p3 p4
  obtain rfl : n1 = g := p3
  obtain rfl : n2 = s := p4
  have hrow : (x1 ++ x2).length = n1 + n2 ∧ AllB (x1 ++ x2) := ⟨by rw [List.length_append, show x1.length = n1 from p1.1, show x2.length = n2 from p2.1], p1.2.1.append p2.2.1⟩
  show Calls _ _ #[_, .agg #[.slice A1 n1 c1, .slice A2 n2 c2]] _ fun e w' => e = .returned (.tuple #[.bool (!decide (inB n1 n2 B (x1 ++ x2))), .int .i64 0]) ∧ ∃ F' iv' R', RefR w' F' b n1 n2 bi br iv' R' ∧ Slots n1 n2 iv' R' (insB n1 n2 B (x1 ++ x2)) ∧ (∀ k, F' k → F k ∨ w.heap.size ≤ k) ∧ Turned F w w'
  obtain ⟨⟨q, hq⟩⟩ : Nonempty (∃ q, w.heap.size = q) := ⟨_, rfl⟩
  have K0 : Hid (Keep w (w.alloc (.cells #[.slice A1 n1 c1, .slice A2 n2 c2] 45))) := (Keep.refl w).alloc _ _
  have HW : Hid ((w.alloc (.cells #[.slice A1 n1 c1, .slice A2 n2 c2] 45)).heap[q]? = some (.cells #[.slice A1 n1 c1, .slice A2 n2 c2] 45 (0, 0))) := by
    show _ = _
    rw [← hq]; exact heap_alloc_new _ _
  have HW1 : Hid ((w.alloc (.cells #[.slice A1 n1 c1, .slice A2 n2 c2] 45)).heap.size = q + 1) := by show _ = _; rw [← hq]; simp
  have H := Lib.hid h
  have HS := Lib.hid (And.intro hS hB)
  have HP := Lib.hid (And.intro p1 p2)
  have HQ := Lib.hid hq
  have HG : Hid (∀ k, G k → k < q) := fun k hk => by rw [← hq]; exact hG k hk
  have HR := Lib.hid hrow
  have b0 : ((n1 : Int) != (n1 : Int)) = false := by simp
  have b1 : ((n2 : Int) != (n2 : Int)) = false := by simp
  have HBL := Lib.hid (h.lt b h.fb)
  clear h hS hB p1 p2 hG hrow
  go_enter Tryz.func44, Tryz.ntmps44
  go_upto_region 1 with fail
  clear hq
  generalize (w.alloc (.cells #[.slice A1 n1 c1, .slice A2 n2 c2] 45)) = w1 at *
  have d0 := (H.out.keep K0.out).c0
  have d1 := (H.out.keep K0.out).c1
  have u0 : w1.cell? ⟨q, 0, none⟩ = some (.slice A1 n1 c1) := cell_of_row _ _ _ _ _ _ HW.out
  have u1 : w1.cell? ⟨q, 1, none⟩ = some (.slice A2 n2 c2) := cell_of_row _ _ _ _ _ _ HW.out
  go_region
  go_wp2_with fail
  have K1 := Lib.hid K0.out.drew
  clear d0 d1 u0 u1
  refine (rpreduce_any (H.out.keep K1.out) HS.out.1 ⟨⟨A1, n1, c1, x1⟩, ⟨A2, n2, c2, x2⟩⟩ ⟨HP.out.1.turned (Turned.of_keep (F := fun _ => False) K1.out) fun _ _ e => e, HP.out.2.turned (Turned.of_keep (F := fun _ => False) K1.out) fun _ _ e => e, rfl, rfl⟩ (fun k hk => by have h1 := HG.out k hk; have h2 := HW1.out; show k < w1.heap.size; omega) hg hs).mono ?_
  rintro e w2 ⟨⟨⟨A3, n3, c3, x3⟩, ⟨A4, n4, c4, x4⟩⟩, he, z1, z2, ⟨l3, l4⟩, hx34, k2⟩
  simp only at z1 z2
  obtain rfl : n3 = n1 := z1
  obtain rfl : n4 = n2 := z2
  replace he : e = .returned (.agg #[.slice A3 n3 c3, .slice A4 n4 c4]) := he
  subst he
  have hx34 : x3 ++ x4 = leftB (n3 + n4) B (x1 ++ x2) := hx34
  have K2 := Lib.hid (K1.out.trans k2)
  have HW2 : Hid (w2.heap[q]? = some (.cells #[.slice A1 n3 c1, .slice A2 n4 c2] 45 (0, 0))) := (k2.block q (by show q < w1.heap.size; have := HW1.out; omega)).trans HW.out
  have HL2 := Lib.hid (And.intro l3 (And.intro l4 hx34))
  have t0 : w2.cell? ⟨q, 0, none⟩ = some (.slice A1 n3 c1) := cell_of_row _ _ _ _ _ _ HW2.out
  have t1 : w2.cell? ⟨q, 1, none⟩ = some (.slice A2 n4 c2) := cell_of_row _ _ _ _ _ _ HW2.out
  have f0 : w2.frozen? ⟨q, 0, none⟩ = false := by simp [World.frozen?, HW2.out]
  have f1 : w2.frozen? ⟨q, 1, none⟩ = false := by simp [World.frozen?, HW2.out]
  clear l3 l4 hx34 k2
  go_upto_region 4 with fail
  have T3 : Hid (Turned (fun x => x = q) w2 ((w2.setCell ⟨q, 0, none⟩ (.slice A3 n3 c3)).setCell ⟨q, 1, none⟩ (.slice A4 n4 c4))) :=
    (Turned.set (F := fun b => b = q) w2 ⟨q, 0, none⟩ (.slice A3 n3 c3) rfl).trans (Turned.set (F := fun b => b = q) _ ⟨q, 1, none⟩ (.slice A4 n4 c4) rfl) fun _ e => Or.inl e
  have HW3 := Lib.hid (bset (i := 1) (bset (i := 0) HW2.out (.slice A3 n3 c3)) (.slice A4 n4 c4))
  clear t0 t1 f0 f1
  change Hid (((w2.setCell ⟨q, 0, none⟩ (.slice A3 n3 c3)).setCell ⟨q, 1, none⟩ (.slice A4 n4 c4)).heap[q]? = some (.cells #[.slice A3 n3 c3, .slice A4 n4 c4] 45 (0, 0))) at HW3
  generalize ((w2.setCell ⟨q, 0, none⟩ (.slice A3 n3 c3)).setCell ⟨q, 1, none⟩ (.slice A4 n4 c4)) = w3 at *
  have K3 : Hid (Keep w w3) := T3.out.keep K2.out fun i e => by rw [e, HQ.out]; exact Nat.le_refl _
  have hd3 : ∀ x, (G x ∨ (w1.drew.heap.size ≤ x ∧ x < w2.heap.size)) → ¬ x = q := fun x hx => by
    rcases hx with e | e
    · have := HG.out x e; omega
    · have h1 := HW1.out
      have h2 : w1.heap.size ≤ x := e.1
      omega
  have hm3 : ∀ x, (G x ∨ (w1.drew.heap.size ≤ x ∧ x < w2.heap.size)) → x < w3.heap.size := fun x hx => by
    have h3 := T3.out.size
    rcases hx with e | e
    · have h1 := HG.out x e
      have h2 := K2.out.size
      have := HQ.out
      omega
    · omega
  have hb3 := (HL2.out.1.turned T3.out hd3).bytes (B := w3.heap.size) hm3
  have hb4 := (HL2.out.2.1.turned T3.out hd3).bytes (B := w3.heap.size) hm3
  have HB3 : Hid (Bytes w3 w3.heap.size A3 n3 x3 ∧ Bytes w3 w3.heap.size A4 n4 x4) := ⟨hb3, hb4⟩
  clear hd3 hm3 hb3 hb4
  have u0 : w3.cell? ⟨q, 0, none⟩ = some (.slice A3 n3 c3) := cell_of_row _ _ _ _ _ _ HW3.out
  have d0 := (H.out.keep K3.out).c0
  have HLD : Hid (vLead n3 x3 = vLead n3 (leftB (n3 + n4) B (x1 ++ x2)) ∧ ∀ j, j < n3 → x3.getD j 0 = (leftB (n3 + n4) B (x1 ++ x2)).getD j 0) := by
    have e : x3 = (leftB (n3 + n4) B (x1 ++ x2)).take n3 := by rw [← HL2.out.2.2, List.take_left' HB3.out.1.length]
    exact ⟨by rw [e, vLead_take], fun j hj => by rw [e, getD_take hj]⟩
  by_cases hneg : vLead n3 x3 < 0
  · have HN := Lib.hid hneg
    have e1 : ((n3 : Int) == (n3 : Int)) = true := by simp
    go_wp2_with fail
    refine (rplead_any _ n3 c3 A3 x3 _ HB3.out.1 (by omega) n3 ⟨fun _ => rfl, fun e => absurd HN.out e⟩).mono ?_
    rintro e w4 ⟨rfl, rfl⟩
    go_wp2_with fail
    go_ret2
    have hin : inB n3 n4 B (x1 ++ x2) := by show vLead n3 _ < 0; rw [← HLD.out.1]; exact HN.out
    exact ⟨by rw [decide_eq_true hin]; rfl, F, iv, R, H.out.keep K3.out, by rw [insB_in hin]; exact HS.out.1, fun k hk => Or.inl hk, Turned.of_keep K3.out⟩
  · obtain ⟨L, hL1, hL2⟩ := vLead_some hneg
    obtain ⟨hLg, hL0, _⟩ := (vLeadTo_some _ n3 L).1 hL1
    have HN := Lib.hid (And.intro hneg hL2)
    have e1 : ((L : Int) == (n3 : Int)) = false := beq_eq_false_iff_ne.2 (by omega)
    have e1b : ¬ ((L : Int) = (n3 : Int)) := by omega
    have e1c : ¬ (L = n3) := by omega
    obtain ⟨g3, o3, rfl, hg3, cx⟩ := HB3.out.1.at_ hLg
    obtain ⟨cl, hcl⟩ : ∃ cl, x3.getD L 0 = cl := ⟨_, rfl⟩
    have hclb : cl < 256 := by rw [← hcl]; exact HB3.out.1.all.getD L
    rw [hcl] at cx hL0
    have HCL := Lib.hid (And.intro hcl (And.intro hclb hL0))
    have e2 : (0 : Int) ≤ (L : Int) := Int.natCast_nonneg _
    have e3 : (L : Int) < (n3 : Int) := by omega
    have HLG : Hid (L < n3) := hLg
    have herr : err0 cl = 0 := by rw [err0, if_neg hL0]
    clear hneg hL1 hcl hclb hL0 hg3
    go_wp2_with fail
    refine (rplead_any _ n3 c3 _ x3 _ HB3.out.1 (by omega) L ⟨fun e => absurd e (by have := HN.out.1; omega), fun _ => HN.out.2⟩).mono ?_
    rintro e w4 ⟨rfl, rfl⟩
    go_wp2_with fail
    refine (rinv_any cl HCL.out.2.1 _).mono ?_
    rw [herr]
    rintro e w5 ⟨rfl, rfl⟩
    clear cx u0
    have c1' := (H.out.keep K3.out).c1
    have mkg := fun w => run_make_bytes (P := Tryz.prog) Tryz.underlying43 info5 n3 (by omega) w
    have mks := fun w => run_make_bytes (P := Tryz.prog) Tryz.underlying43 info5 n4 (by omega) w
    have HBL3 : Hid (b < w3.heap.size) := Nat.lt_of_lt_of_le HBL.out K3.out.size
    have g1 : n3 ≤ 255 := hg
    have s1 : n4 ≤ 65535 := hs
    go_upto_region 9 with fail
    go_cut [9] (fun v wx => ∃ (qz : Nat) (A5 A6 : Option Addr), v = .pointer (some ⟨qz, 0, none⟩) ∧ Nought w3 wx qz n3 n4 A5 A6)
    case first =>
      have hbl : b < w3.heap.size := HBL3.out
      have p0 : ∀ v t, (w3.alloc (.cells v t)).cell? ⟨b, 0, none⟩ = some (.int .i64 (n3 : Int)) := fun v t => (World.cell?_alloc_past _ _ _ hbl).trans d0
      have p1 : ∀ v t, (w3.alloc (.cells v t)).cell? ⟨b, 1, none⟩ = some (.int .i64 (n4 : Int)) := fun v t => (World.cell?_alloc_past _ _ _ hbl).trans c1'
      have p2 : ∀ v t v' t', ((w3.alloc (.cells v t)).alloc (.cells v' t')).cell? ⟨b, 0, none⟩ = some (.int .i64 (n3 : Int)) := fun v t v' t' => (World.cell?_alloc_past _ _ _ (show b < _ by simp; omega)).trans (p0 v t)
      have p3 : ∀ v t v' t', ((w3.alloc (.cells v t)).alloc (.cells v' t')).cell? ⟨b, 1, none⟩ = some (.int .i64 (n4 : Int)) := fun v t v' t' => (World.cell?_alloc_past _ _ _ (show b < _ by simp; omega)).trans (p1 v t)
      go_region
      all_goals
        go_wp2_with fail
        go_meet
        case rel =>
          first
            | exact ⟨_, _, _, rfl, nought_of (by omega) (three_allocs w3 _ _ _ _ _ _).1 (three_allocs w3 _ _ _ _ _ _).2.1 (three_allocs w3 _ _ _ _ _ _).2.2.1 (three_allocs w3 _ _ _ _ _ _).2.2.2 (by omega) (by omega) g1 s1⟩
            | exact ⟨_, _, _, rfl, nought_of (by omega) (three_allocs w3 _ _ _ _ _ _).1 (three_allocs w3 _ _ _ _ _ _).2.2.1 (three_allocs w3 _ _ _ _ _ _).2.1 (three_allocs w3 _ _ _ _ _ _).2.2.2 (by omega) (by omega) g1 s1⟩
            | exact ⟨_, _, _, rfl, nought_of (by omega) (three_allocs w3 _ _ _ _ _ _).2.1 (three_allocs w3 _ _ _ _ _ _).1 (three_allocs w3 _ _ _ _ _ _).2.2.1 (three_allocs w3 _ _ _ _ _ _).2.2.2 (by omega) (by omega) g1 s1⟩
            | exact ⟨_, _, _, rfl, nought_of (by omega) (three_allocs w3 _ _ _ _ _ _).2.1 (three_allocs w3 _ _ _ _ _ _).2.2.1 (three_allocs w3 _ _ _ _ _ _).1 (three_allocs w3 _ _ _ _ _ _).2.2.2 (by omega) (by omega) g1 s1⟩
            | exact ⟨_, _, _, rfl, nought_of (by omega) (three_allocs w3 _ _ _ _ _ _).2.2.1 (three_allocs w3 _ _ _ _ _ _).1 (three_allocs w3 _ _ _ _ _ _).2.1 (three_allocs w3 _ _ _ _ _ _).2.2.2 (by omega) (by omega) g1 s1⟩
            | exact ⟨_, _, _, rfl, nought_of (by omega) (three_allocs w3 _ _ _ _ _ _).2.2.1 (three_allocs w3 _ _ _ _ _ _).2.1 (three_allocs w3 _ _ _ _ _ _).1 (three_allocs w3 _ _ _ _ _ _).2.2.2 (by omega) (by omega) g1 s1⟩
    case rest =>
      obtain ⟨qz, A5, A6, rfl, hN⟩ := hcut
      have HN2 := Lib.hid hN
      have x0 : wc.cell? ⟨qz, 0, none⟩ = some (.slice A5 n3 n3) := cell_of_row _ _ _ _ _ _ hN.row
      have x1' : wc.cell? ⟨qz, 1, none⟩ = some (.slice A6 n4 n4) := cell_of_row _ _ _ _ _ _ hN.row
      have HWC : Hid (wc.heap[q]? = some (.cells #[.slice (some ⟨g3, o3, none⟩) n3 c3, .slice A4 n4 c4] 45 (0, 0))) := (hN.keep.block q (Array.getElem?_eq_some_iff.1 HW3.out).1).trans HW3.out
      have y0 : wc.cell? ⟨q, 0, none⟩ = some (.slice (some ⟨g3, o3, none⟩) n3 c3) := cell_of_row _ _ _ _ _ _ HWC.out
      have y1 : wc.cell? ⟨q, 1, none⟩ = some (.slice A4 n4 c4) := cell_of_row _ _ _ _ _ _ HWC.out
      clear hN mkg mks d0 c1'
      go_wp2_with fail
      refine (rpplus_any n3 n4 (invN cl) ⟨⟨A5, n3, n3, List.replicate n3 0⟩, ⟨A6, n4, n4, List.replicate n4 0⟩⟩ ⟨⟨some ⟨g3, o3, none⟩, n3, c3, x3⟩, ⟨A4, n4, c4, x4⟩⟩ wc ⟨HN2.out.a.bytes, HN2.out.b.bytes, rfl, rfl⟩ ⟨(HB3.out.1.keep (Nat.le_refl _) HN2.out.keep).mono HN2.out.keep.size, (HB3.out.2.keep (Nat.le_refl _) HN2.out.keep).mono HN2.out.keep.size, rfl, rfl⟩ hg hs (invN_lt _)).mono ?_
      rintro e w5 ⟨⟨⟨A7, n7, c7, x7⟩, ⟨A8, n8, c8, x8⟩⟩, he, hC⟩
      obtain rfl : n7 = n3 := hC.an
      obtain rfl : n8 = n4 := hC.bn
      replace he : e = .returned (.agg #[.slice A7 n7 c7, .slice A8 n8 c8]) := he
      subst he
      have h7 : x7 = vScale n7 x3 (invN cl) := by rw [← addS_nought]; exact hC.ax
      have h8 : x8 = vScale n8 x4 (invN cl) := by rw [← addS_nought]; exact hC.bx
      have HR7 : Hid (x7 ++ x8 = vScale (n7 + n8) (leftB (n7 + n8) B (x1 ++ x2)) (invN ((leftB (n7 + n8) B (x1 ++ x2)).getD L 0))) := by
        have e := HCL.out.1
        rw [HLD.out.2 L HLG.out] at e
        have t1 := vScale_take n7 n8 (x3 ++ x4) (invN cl)
        have t2 := vScale_drop n7 n8 (x3 ++ x4) (invN cl)
        rw [List.take_left' HB3.out.1.length] at t1
        rw [List.drop_left' HB3.out.1.length] at t2
        rw [e, ← HL2.out.2.2, ← List.take_append_drop n7 (vScale (n7 + n8) (x3 ++ x4) (invN cl)), t1, t2]
        exact congr (congrArg _ h7) h8
      have HC := Lib.hid hC
      have K5 : Hid (Keep w w5) := (K3.out.trans HN2.out.keep).trans hC.keep
      have HW5 : Hid (w5.heap[q]? = some (.cells #[.slice (some ⟨g3, o3, none⟩) n7 c3, .slice A4 n8 c4] 45 (0, 0))) := (hC.keep.block q (Array.getElem?_eq_some_iff.1 HWC.out).1).trans HWC.out
      have HQC : Hid (q < wc.heap.size) := (Array.getElem?_eq_some_iff.1 HWC.out).1
      have z0 : w5.cell? ⟨q, 0, none⟩ = some (.slice (some ⟨g3, o3, none⟩) n7 c3) := cell_of_row _ _ _ _ _ _ HW5.out
      have z1 : w5.cell? ⟨q, 1, none⟩ = some (.slice A4 n8 c4) := cell_of_row _ _ _ _ _ _ HW5.out
      have f0 : w5.frozen? ⟨q, 0, none⟩ = false := by simp [World.frozen?, HW5.out]
      have f1 : w5.frozen? ⟨q, 1, none⟩ = false := by simp [World.frozen?, HW5.out]
      clear hC x0 x1' y0 y1 h7 h8
      go_wp2_with fail
      have T6 : Turned (fun x => x = q) w5 ((w5.setCell ⟨q, 0, none⟩ (.slice A7 n7 c7)).setCell ⟨q, 1, none⟩ (.slice A8 n8 c8)) :=
        (Turned.set (F := fun b => b = q) w5 ⟨q, 0, none⟩ (.slice A7 n7 c7) rfl).trans (Turned.set (F := fun b => b = q) _ ⟨q, 1, none⟩ (.slice A8 n8 c8) rfl) fun _ e => Or.inl e
      have hb6 := bset (i := 1) (bset (i := 0) HW5.out (.slice A7 n7 c7)) (.slice A8 n8 c8)
      have hnq : ∀ x, (wc.heap.size ≤ x ∧ x < w5.heap.size) → ¬ x = q := fun x hx e => by have := HQC.out; omega
      have K6 : Keep w ((w5.setCell ⟨q, 0, none⟩ (.slice A7 n7 c7)).setCell ⟨q, 1, none⟩ (.slice A8 n8 c8)) := T6.keep K5.out fun i e => by rw [e, HQ.out]; exact Nat.le_refl _
      have HI0 : Hid (InsI w ((w5.setCell ⟨q, 0, none⟩ (.slice A7 n7 c7)).setCell ⟨q, 1, none⟩ (.slice A8 n8 c8)) F b n7 n8 bi br q 0 L iv R R ⟨⟨A7, n7, c7, x7⟩, ⟨A8, n8, c8, x8⟩⟩ wc.heap.size w5.heap.size) :=
        ⟨⟨F, H.out.keep K6, fun x hx => Or.inl hx⟩, hb6, (HC.out.a.lies.mono fun x hx => HC.out.a.1.lt x hx).turned T6 hnq, (HC.out.b.lies.mono fun x hx => HC.out.b.1.lt x hx).turned T6 hnq, fun i p p' hi => by omega, fun i _ => rfl, Turned.of_keep K6, T6.size, by have := HQC.out; have := HC.out.keep.size; omega⟩
      have HQW : Hid (w.heap.size ≤ wc.heap.size ∧ wc.heap.size ≤ w5.heap.size) := ⟨(K3.out.trans HN2.out.keep).size, HC.out.keep.size⟩
      clear T6 hb6 hnq K6 z0 z1 f0 f1 HC HN2 HW5 HWC HW3 HB3
      generalize ((w5.setCell ⟨q, 0, none⟩ (.slice A7 n7 c7)).setCell ⟨q, 1, none⟩ (.slice A8 n8 c8)) = w6 at *
      obtain ⟨lo, hlo⟩ : ∃ lo, wc.heap.size = lo := ⟨_, rfl⟩
      obtain ⟨hi, hhi⟩ : ∃ hi, w5.heap.size = hi := ⟨_, rfl⟩
      rw [hlo, hhi] at HI0 HQW
      rw [hlo] at HQC
      clear hlo hhi
      go_loopw [10] (fun i wr => ∃ (k : Nat) (Rk : List PairV), k ≤ n7 ∧ i = .int .i64 k ∧ InsI w wr F b n7 n8 bi br q k L iv R Rk ⟨⟨A7, n7, c7, x7⟩, ⟨A8, n8, c8, x8⟩⟩ lo hi) (fun i _ => n7 - (intOf i).toNat)
      case atStart => exact ⟨0, R, by omega, rfl, HI0.out⟩
      case round =>
        obtain ⟨k, Rk, hk, rfl, hI⟩ := hrel
        have HI := Lib.hid hI
        clear hI HI0
        obtain ⟨Fk, hRk, hFk⟩ := HI.out.ref
        have HRK := Lib.hid hRk
        have HFK := Lib.hid hFk
        have c0 := hRk.c0
        by_cases hlt : k < n7
        · have hx := List.getElem?_eq_getElem (l := iv) (i := k) (by rw [H.out.li]; exact hlt)
          have hp := List.getElem?_eq_getElem (l := R) (i := k) (by rw [H.out.lr]; exact hlt)
          obtain ⟨x, hxe⟩ : ∃ x, iv[k]'(by rw [H.out.li]; exact hlt) = x := ⟨_, rfl⟩
          obtain ⟨r, hre⟩ : ∃ r, R[k]'(by rw [H.out.lr]; exact hlt) = r := ⟨_, rfl⟩
          rw [hxe] at hx
          rw [hre] at hp
          have hpk : Rk[k]? = some r := (HI.out.rest k (Nat.le_refl _)).trans hp
          have cb := hRk.cb hx
          have c2' := hRk.c2
          have f1 : (0 : Int) ≤ (k : Int) := Int.natCast_nonneg _
          have f2 : (k : Int) < (n7 : Int) := by omega
          have HXP := Lib.hid (And.intro hx (And.intro hp hpk))
          have HLT : Hid (k < n7) := hlt
          clear hxe hre hx hp hpk hlt hRk hFk
          cases x with
          | false =>
            go_wp2_with fail
            go_roundw
            case rel => exact ⟨k + 1, Rk, by have := HLT.out; omega, by go_num, HI.out.skip HXP.out.1⟩
            case measure => have := HLT.out; simp [intOf]; omega
          | true =>
            have hrow := HRK.out.rows k r HXP.out.1 HXP.out.2.2
            have hz := HS.out.1.size k r HXP.out.1 HXP.out.2.1
            have hcl := HRK.out.st.cells HXP.out.2.2
            have hra := hrow.1.1.bytes (B := wr.heap.size) fun x hx => HRK.out.lt x hx.1
            have hrb := hrow.1.2.bytes (B := wr.heap.size) fun x hx => HRK.out.lt x hx.1
            rw [hrow.2.1] at hra
            rw [hrow.2.2] at hrb
            obtain ⟨⟨rA, rn, rc, rx⟩, ⟨sA, sn, sc, sx⟩⟩ := r
            obtain ⟨z1, z2⟩ := hrow.2
            simp only at z1 z2 hra hrb
            obtain rfl : rn = n7 := z1
            obtain rfl : sn = n8 := z2
            obtain ⟨bx, ox, hA, hbx, cx⟩ := hra.at_ HLG.out
            subst hA
            obtain ⟨v, hv⟩ : ∃ v, rx.getD L 0 = v := ⟨_, rfl⟩
            have hvb : v < 256 := by rw [← hv]; exact hra.all.getD L
            rw [hv] at cx
            have HBXR : Hid (bx ≠ br ∧ (∀ x, Fk x → F x ∨ hi ≤ x)) := by
              refine ⟨?_, HFK.out⟩
              obtain ⟨b', o', e, hF, _⟩ := hrow.1.1.2.2.2 (by have := HLG.out; show 0 < rn; omega)
              cases e
              exact hF.2.2.2
            have hqa := HI.out.ra.bytes (B := wr.heap.size) fun x hx => Nat.lt_of_lt_of_le hx.2 HI.out.lim
            have hqb := HI.out.rb.bytes (B := wr.heap.size) fun x hx => Nat.lt_of_lt_of_le hx.2 HI.out.lim
            have HPP : Hid (Bytes wr wr.heap.size (some ⟨bx, ox, none⟩) rn rx ∧ Bytes wr wr.heap.size sA sn sx ∧ Bytes wr wr.heap.size A7 rn x7 ∧ Bytes wr wr.heap.size A8 sn x8) := ⟨hra, hrb, hqa, hqb⟩
            have HV : Hid (v < 256 ∧ rx.getD L 0 = v ∧ rx.length = rn ∧ sx.length = sn) := ⟨hvb, hv, hz.1, hz.2⟩
            have y0 : wr.cell? ⟨q, 0, none⟩ = some (.slice A7 rn c7) := cell_of_row _ _ _ _ _ _ HI.out.row
            have y1 : wr.cell? ⟨q, 1, none⟩ = some (.slice A8 sn c8) := cell_of_row _ _ _ _ _ _ HI.out.row
            have y2 := HRK.out.c3
            have y3 : wr.cell? ⟨br, k * 2, none⟩ = some (.slice (some ⟨bx, ox, none⟩) rn rc) := hcl.1
            have y4 : wr.cell? ⟨br, k * 2 + 1, none⟩ = some (.slice sA sn sc) := hcl.2
            have HLL : Hid (q < wr.heap.size ∧ b < wr.heap.size ∧ br < wr.heap.size ∧ bx < wr.heap.size ∧ br < q ∧ b ≠ br) := ⟨(Array.getElem?_eq_some_iff.1 HI.out.row).1, HRK.out.lt b HRK.out.fb, HRK.out.lt br HRK.out.fr, hbx, by rw [← HQ.out]; exact H.out.lt br H.out.fr, HRK.out.ne.2.1⟩
            clear hrow hz hcl hra hrb hqa hqb hv hvb hbx
            go_wp2_with fail
            clear c2' cb c0
            refine wp_region_noPanic ?_
            refine wp_region_held_drew (S := fun wz => wz.cell? ⟨b, 3, none⟩ = some (.slice (some ⟨br, 0, none⟩) rn rn) ∧ wz.cell? ⟨q, 0, none⟩ = some (.slice A7 rn c7) ∧ wz.cell? ⟨q, 1, none⟩ = some (.slice A8 sn c8) ∧ wz.cell? ⟨bx, ox + L, none⟩ = some (.int .u8 (v : Int))) (by kernel_rfl) ⟨y2, y0, y1, cx⟩ (fun hHeld => ?_)
            refine wpAnyH_take (i := 0) (v := ?_) rfl (by kernel_rfl) (by kernel_rfl) (by kernel_rfl) (fun _ _ _ h => h) (Or.inl ⟨by rfl, ?_⟩) hHeld ?_
            rotate_left
            · intro wq hSw
              go_simp
              all_goals with_reducible rfl
            try simp only [Act.put, List.getElem_toArray, List.getElem_cons_succ, List.getElem_cons_zero, List.setIfInBounds_toArray, List.set_cons_zero, List.set_cons_succ]
            refine wpAnyH_take (i := 1) (v := ?_) rfl (by kernel_rfl) (by kernel_rfl) (by kernel_rfl) (fun _ _ _ h => h) (Or.inl ⟨by rfl, ?_⟩) hHeld ?_
            rotate_left
            · intro wq hSw
              go_simp
              all_goals with_reducible rfl
            try simp only [Act.put, List.getElem_toArray, List.getElem_cons_succ, List.getElem_cons_zero, List.setIfInBounds_toArray, List.set_cons_zero, List.set_cons_succ]
            refine wpAnyH_take (i := 2) (v := ?_) rfl (by kernel_rfl) (by kernel_rfl) (by kernel_rfl) (fun _ _ _ h => h) (Or.inl ⟨by rfl, ?_⟩) hHeld ?_
            rotate_left
            · intro wq hSw
              go_simp
              all_goals with_reducible rfl
            try simp only [Act.put, List.getElem_toArray, List.getElem_cons_succ, List.getElem_cons_zero, List.setIfInBounds_toArray, List.set_cons_zero, List.set_cons_succ]
            refine wpAnyH_take (i := 3) (v := ?_) rfl (by kernel_rfl) (by kernel_rfl) (by kernel_rfl) (fun _ _ _ h => h) (Or.inl ⟨by rfl, ?_⟩) hHeld ?_
            rotate_left
            · intro wq hSw
              have q0 := hSw.1
              have q1 := hSw.2.1
              have q2 := hSw.2.2.1
              have q3 := hSw.2.2.2
              go_simp
              all_goals with_reducible rfl
            try simp only [Act.put, List.getElem_toArray, List.getElem_cons_succ, List.getElem_cons_zero, List.setIfInBounds_toArray, List.set_cons_zero, List.set_cons_succ]
            refine wpAnyH_take (i := 4) (v := ?_) rfl (by kernel_rfl) (by kernel_rfl) (by kernel_rfl) (fun _ _ _ h => h) (Or.inl ⟨by rfl, ?_⟩) hHeld ?_
            rotate_left
            · intro wq hSw
              go_simp
              all_goals with_reducible rfl
            try simp only [Act.put, List.getElem_toArray, List.getElem_cons_succ, List.getElem_cons_zero, List.setIfInBounds_toArray, List.set_cons_zero, List.set_cons_succ]
            refine wpAnyH_take (i := 5) (v := ?_) rfl (by kernel_rfl) (by kernel_rfl) (by kernel_rfl) (fun _ _ _ h => h) (Or.inl ⟨by rfl, ?_⟩) hHeld ?_
            rotate_left
            · intro wq hSw
              go_simp
              all_goals with_reducible rfl
            try simp only [Act.put, List.getElem_toArray, List.getElem_cons_succ, List.getElem_cons_zero, List.setIfInBounds_toArray, List.set_cons_zero, List.set_cons_succ]
            refine wpAnyH_take (i := 6) (v := ?_) rfl (by kernel_rfl) (by kernel_rfl) (by kernel_rfl) (fun _ _ _ h => h) (Or.inl ⟨by rfl, ?_⟩) hHeld ?_
            rotate_left
            · intro wq hSw
              go_simp
              all_goals with_reducible rfl
            try simp only [Act.put, List.getElem_toArray, List.getElem_cons_succ, List.getElem_cons_zero, List.setIfInBounds_toArray, List.set_cons_zero, List.set_cons_succ]
            refine wpAnyH_take (i := 7) (v := ?_) rfl (by kernel_rfl) (by kernel_rfl) (by kernel_rfl) (fun _ _ _ h => h) (Or.inl ⟨by rfl, ?_⟩) hHeld ?_
            rotate_left
            · intro wq hSw
              go_simp
              all_goals with_reducible rfl
            try simp only [Act.put, List.getElem_toArray, List.getElem_cons_succ, List.getElem_cons_zero, List.setIfInBounds_toArray, List.set_cons_zero, List.set_cons_succ]
            refine wpAnyH_take (i := 8) (v := ?_) rfl (by kernel_rfl) (by kernel_rfl) (by kernel_rfl) (fun _ _ _ h => h) (Or.inl ⟨by rfl, ?_⟩) hHeld ?_
            rotate_left
            · intro wq hSw
              have q0 := hSw.1
              have q1 := hSw.2.1
              have q2 := hSw.2.2.1
              have q3 := hSw.2.2.2
              go_simp
              all_goals with_reducible rfl
            try simp only [Act.put, List.getElem_toArray, List.getElem_cons_succ, List.getElem_cons_zero, List.setIfInBounds_toArray, List.set_cons_zero, List.set_cons_succ]
            refine wpAnyH_take (i := 9) (v := ?_) rfl (by kernel_rfl) (by kernel_rfl) (by kernel_rfl) (fun _ _ _ h => h) (Or.inl ⟨by rfl, ?_⟩) hHeld ?_
            rotate_left
            · intro wq hSw
              go_simp
              all_goals with_reducible rfl
            try simp only [Act.put, List.getElem_toArray, List.getElem_cons_succ, List.getElem_cons_zero, List.setIfInBounds_toArray, List.set_cons_zero, List.set_cons_succ]
            refine wpAnyH_take (i := 10) (v := ?_) rfl (by kernel_rfl) (by kernel_rfl) (by kernel_rfl) (fun _ _ _ h => h) (Or.inl ⟨by rfl, ?_⟩) hHeld ?_
            rotate_left
            · intro wq hSw
              go_simp
              all_goals with_reducible rfl
            try simp only [Act.put, List.getElem_toArray, List.getElem_cons_succ, List.getElem_cons_zero, List.setIfInBounds_toArray, List.set_cons_zero, List.set_cons_succ]
            refine wpAnyH_take (i := 12) (v := ?_) rfl (by kernel_rfl) (by kernel_rfl) (by kernel_rfl) (fun _ _ _ h => h) (Or.inl ⟨by rfl, ?_⟩) hHeld ?_
            rotate_left
            · intro wq hSw
              have q0 := hSw.1
              have q1 := hSw.2.1
              have q2 := hSw.2.2.1
              have q3 := hSw.2.2.2
              go_simp
              all_goals with_reducible rfl
            try simp only [Act.put, List.getElem_toArray, List.getElem_cons_succ, List.getElem_cons_zero, List.setIfInBounds_toArray, List.set_cons_zero, List.set_cons_succ]
            refine wpAnyH_take (i := 13) (v := ?_) rfl (by kernel_rfl) (by kernel_rfl) (by kernel_rfl) (fun _ _ _ h => h) (Or.inl ⟨by rfl, ?_⟩) hHeld ?_
            rotate_left
            · intro wq hSw
              go_simp
              all_goals with_reducible rfl
            try simp only [Act.put, List.getElem_toArray, List.getElem_cons_succ, List.getElem_cons_zero, List.setIfInBounds_toArray, List.set_cons_zero, List.set_cons_succ]
            refine wpAnyH_take (i := 14) (v := ?_) rfl (by kernel_rfl) (by kernel_rfl) (by kernel_rfl) (fun _ _ _ h => h) (Or.inl ⟨by rfl, ?_⟩) hHeld ?_
            rotate_left
            · intro wq hSw
              go_simp
              all_goals with_reducible rfl
            try simp only [Act.put, List.getElem_toArray, List.getElem_cons_succ, List.getElem_cons_zero, List.setIfInBounds_toArray, List.set_cons_zero, List.set_cons_succ]
            refine wpAnyH_take (i := 15) (v := ?_) rfl (by kernel_rfl) (by kernel_rfl) (by kernel_rfl) (fun _ _ _ h => h) (Or.inl ⟨by rfl, ?_⟩) hHeld ?_
            rotate_left
            · intro wq hSw
              go_simp
              all_goals with_reducible rfl
            try simp only [Act.put, List.getElem_toArray, List.getElem_cons_succ, List.getElem_cons_zero, List.setIfInBounds_toArray, List.set_cons_zero, List.set_cons_succ]
            refine wpAnyH_take (i := 16) (v := ?_) rfl (by kernel_rfl) (by kernel_rfl) (by kernel_rfl) (fun _ _ _ h => h) (Or.inl ⟨by rfl, ?_⟩) hHeld ?_
            rotate_left
            · intro wq hSw
              have q0 := hSw.1
              have q1 := hSw.2.1
              have q2 := hSw.2.2.1
              have q3 := hSw.2.2.2
              go_simp
              all_goals with_reducible rfl
            try simp only [Act.put, List.getElem_toArray, List.getElem_cons_succ, List.getElem_cons_zero, List.setIfInBounds_toArray, List.set_cons_zero, List.set_cons_succ]
            refine wpAnyH_take (i := 17) (v := ?_) rfl (by kernel_rfl) (by kernel_rfl) (by kernel_rfl) (fun _ _ _ h => h) (Or.inl ⟨by rfl, ?_⟩) hHeld ?_
            rotate_left
            · intro wq hSw
              go_simp
              all_goals with_reducible rfl
            try simp only [Act.put, List.getElem_toArray, List.getElem_cons_succ, List.getElem_cons_zero, List.setIfInBounds_toArray, List.set_cons_zero, List.set_cons_succ]
            refine wpAnyH_take (i := 18) (v := ?_) rfl (by kernel_rfl) (by kernel_rfl) (by kernel_rfl) (fun _ _ _ h => h) (Or.inl ⟨by rfl, ?_⟩) hHeld ?_
            rotate_left
            · intro wq hSw
              go_simp
              all_goals with_reducible rfl
            try simp only [Act.put, List.getElem_toArray, List.getElem_cons_succ, List.getElem_cons_zero, List.setIfInBounds_toArray, List.set_cons_zero, List.set_cons_succ]
            refine wpAnyH_take (i := 19) (v := ?_) rfl (by kernel_rfl) (by kernel_rfl) (by kernel_rfl) (fun _ _ _ h => h) (Or.inl ⟨by rfl, ?_⟩) hHeld ?_
            rotate_left
            · intro wq hSw
              go_simp
              all_goals with_reducible rfl
            try simp only [Act.put, List.getElem_toArray, List.getElem_cons_succ, List.getElem_cons_zero, List.setIfInBounds_toArray, List.set_cons_zero, List.set_cons_succ]
            refine wpAnyH_take (i := 21) (v := ?_) rfl (by kernel_rfl) (by kernel_rfl) (by kernel_rfl) (fun _ _ _ h => h) (Or.inl ⟨by rfl, ?_⟩) hHeld ?_
            rotate_left
            · intro wq hSw
              go_simp
              all_goals with_reducible rfl
            try simp only [Act.put, List.getElem_toArray, List.getElem_cons_succ, List.getElem_cons_zero, List.setIfInBounds_toArray, List.set_cons_zero, List.set_cons_succ]
            refine wpAnyH_ready (rs := [11, 20]) (by kernel_rfl) (by simp) ?_
            refine AllReadyH.cons rfl (fun K hK => ?_) (AllReadyH.cons rfl (fun K hK => ?_) AllReadyH.nil)
            · go_simp
              refine hK.out _ _ ⟨y2, y0, y1, cx⟩ (fun hHeld => ?_)
              clear hK K
              try simp only [Act.put, List.getElem_toArray, List.getElem_cons_succ, List.getElem_cons_zero, List.setIfInBounds_toArray, List.set_cons_zero, List.set_cons_succ]
              refine wpAnyH_ready (rs := [20]) (by kernel_rfl) (by simp) ?_
              refine AllReadyH.cons rfl (fun K hK => ?_) AllReadyH.nil
              go_simp
              refine hK.out _ _ ⟨y2, y0, y1, cx⟩ (fun hHeld => ?_)
              clear hK K
              try simp only [Act.put, List.getElem_toArray, List.getElem_cons_succ, List.getElem_cons_zero, List.setIfInBounds_toArray, List.set_cons_zero, List.set_cons_succ]
              refine wpAnyH_take (i := 22) (v := ?_) rfl (by kernel_rfl) (by kernel_rfl) (by kernel_rfl) (fun _ _ _ h => h) (Or.inl ⟨by rfl, ?_⟩) hHeld ?_
              rotate_left
              · intro wq hSw
                go_simp
                all_goals with_reducible rfl
              try simp only [Act.put, List.getElem_toArray, List.getElem_cons_succ, List.getElem_cons_zero, List.setIfInBounds_toArray, List.set_cons_zero, List.set_cons_succ]
              refine wpAnyH_take (i := 23) (v := ?_) rfl (by kernel_rfl) (by kernel_rfl) (by kernel_rfl) (fun _ _ _ h => h) (Or.inl ⟨by rfl, ?_⟩) hHeld ?_
              rotate_left
              · intro wq hSw
                have q0 := hSw.1
                have q1 := hSw.2.1
                have q2 := hSw.2.2.1
                have q3 := hSw.2.2.2
                go_simp
                all_goals with_reducible rfl
              try simp only [Act.put, List.getElem_toArray, List.getElem_cons_succ, List.getElem_cons_zero, List.setIfInBounds_toArray, List.set_cons_zero, List.set_cons_succ]
              refine wpAnyH_ready (rs := [24]) (by kernel_rfl) (by simp) ?_
              refine AllReadyH.cons rfl (fun K hK => ?_) AllReadyH.nil
              go_simp
              refine (rpplus_any rn sn v ⟨⟨some ⟨bx, ox, none⟩, rn, rc, rx⟩, ⟨sA, sn, sc, sx⟩⟩ ⟨⟨A7, rn, c7, x7⟩, ⟨A8, sn, c8, x8⟩⟩ wr.drew ⟨HPP.out.1.keep (Nat.le_refl _) (Keep.refl wr).drew, HPP.out.2.1.keep (Nat.le_refl _) (Keep.refl wr).drew, rfl, rfl⟩ ⟨HPP.out.2.2.1.keep (Nat.le_refl _) (Keep.refl wr).drew, HPP.out.2.2.2.keep (Nat.le_refl _) (Keep.refl wr).drew, rfl, rfl⟩ hg hs HV.out.1).mono ?_
              rintro e w10 ⟨⟨⟨A9, n9, c9, x9⟩, ⟨A0, n0, c0, x0⟩⟩, he, hC⟩
              replace he : e = .returned (.agg #[.slice A9 n9 c9, .slice A0 n0 c0]) := he
              subst he
              have HC := Lib.hid hC
              have K4 : Hid (Keep wr w10) := (Keep.drew (Keep.refl wr)).trans hC.keep
              have y2' := (K4.out.cell (p := ⟨b, 3, none⟩) HLL.out.2.1).trans y2
              have y0' := (K4.out.cell (p := ⟨q, 0, none⟩) HLL.out.1).trans y0
              have y1' := (K4.out.cell (p := ⟨q, 1, none⟩) HLL.out.1).trans y1
              have cx' := (K4.out.cell (p := ⟨bx, ox + L, none⟩) HLL.out.2.2.2.1).trans cx
              clear hC
              refine hK.out _ _ ⟨y2', y0', y1', cx'⟩ (fun hHeld => ?_)
              clear hK K
              try simp only [Act.put, List.getElem_toArray, List.getElem_cons_succ, List.getElem_cons_zero, List.setIfInBounds_toArray, List.set_cons_zero, List.set_cons_succ]
              refine wpAnyH_take (i := 25) (v := ?_) rfl (by kernel_rfl) (by kernel_rfl) (by kernel_rfl) (fun _ _ _ h => h) (Or.inl ⟨by rfl, ?_⟩) hHeld ?_
              rotate_left
              · intro wq hSw
                go_simp
                all_goals with_reducible rfl
              try simp only [Act.put, List.getElem_toArray, List.getElem_cons_succ, List.getElem_cons_zero, List.setIfInBounds_toArray, List.set_cons_zero, List.set_cons_succ]
              have HR4 := Lib.hid (HRK.out.keep K4.out)
              obtain ⟨z0, z1⟩ := HR4.out.st.cells HXP.out.2.2
              change _ = some (Value.slice (some ⟨bx, ox, none⟩) rn rc) at z0
              change _ = some (Value.slice sA sn sc) at z1
              have f3 := HR4.out.st.frozen (k * 2)
              have f4 := HR4.out.st.frozen (k * 2 + 1)
              refine wpAnyH_ready (rs := [26]) (by kernel_rfl) (by simp) ?_
              refine AllReadyH.cons rfl (fun K hK => ?_) AllReadyH.nil
              go_simp
              have hset := HR4.out.setRow (RF := fun x => wr.heap.size ≤ x ∧ x < w10.heap.size) (p' := ⟨⟨A9, n9, c9, x9⟩, ⟨A0, n0, c0, x0⟩⟩) HLT.out ⟨HC.out.a.lies.mono fun x hx => HC.out.a.1.lt x hx, HC.out.b.lies.mono fun x hx => HC.out.b.1.lt x hx⟩ ⟨HC.out.an, HC.out.bn⟩ (fun x hx => ⟨hx.2, fun e => by have := HRK.out.lt x e; omega⟩)
              have HSET := Lib.hid hset
              have T6 := hset.2
              have y2'' := T6.cell y2' (by exact HLL.out.2.2.2.2.2)
              have y0'' := T6.cell y0' (by have := HLL.out.2.2.2.2.1; show ¬ q = br; omega)
              have y1'' := T6.cell y1' (by have := HLL.out.2.2.2.2.1; show ¬ q = br; omega)
              have cx'' := T6.cell cx' HBXR.out.1
              clear T6 hset
              refine hK.out _ _ ⟨y2'', y0'', y1'', cx''⟩ (fun hHeld => ?_)
              clear hK K
              try simp only [Act.put, List.getElem_toArray, List.getElem_cons_succ, List.getElem_cons_zero, List.setIfInBounds_toArray, List.set_cons_zero, List.set_cons_succ]
              refine wpAnyH_done (by kernel_rfl) ?_ _
              refine NoPanic.normal ?_
              clear hHeld
              clear y2'' y0'' y1'' cx'' y2' y0' y1' cx' z0 z1 f3 f4 y0 y1 y2 y3 y4 cx
              go_wp2_with fail
              go_roundw
              case rel => exact ⟨k + 1, _, by have := HLT.out; omega, by go_num, HI.out.put HLT.out H.out HQ.out HXP.out.1 HXP.out.2.1 HQW.out HRK.out HFK.out HSET.out.1 HSET.out.2 K4.out (by
                rw [show x9 = _ from HC.out.ax, show x0 = _ from HC.out.bx]
                show vAddS rn rx x7 v ++ vAddS sn sx x8 v = _
                rw [← HV.out.2.1]
                exact pair_sum HV.out.2.2.1 HPP.out.2.2.1.length HLG.out) (by rw [show x9 = _ from HC.out.ax]; exact tab_length _ _) (by rw [show x0 = _ from HC.out.bx]; exact tab_length _ _)⟩
              case measure => have := HLT.out; simp [intOf]; omega
            · go_simp
              refine hK.out _ _ ⟨y2, y0, y1, cx⟩ (fun hHeld => ?_)
              clear hK K
              try simp only [Act.put, List.getElem_toArray, List.getElem_cons_succ, List.getElem_cons_zero, List.setIfInBounds_toArray, List.set_cons_zero, List.set_cons_succ]
              refine wpAnyH_take (i := 22) (v := ?_) rfl (by kernel_rfl) (by kernel_rfl) (by kernel_rfl) (fun _ _ _ h => h) (Or.inl ⟨by rfl, ?_⟩) hHeld ?_
              rotate_left
              · intro wq hSw
                go_simp
                all_goals with_reducible rfl
              try simp only [Act.put, List.getElem_toArray, List.getElem_cons_succ, List.getElem_cons_zero, List.setIfInBounds_toArray, List.set_cons_zero, List.set_cons_succ]
              refine wpAnyH_take (i := 23) (v := ?_) rfl (by kernel_rfl) (by kernel_rfl) (by kernel_rfl) (fun _ _ _ h => h) (Or.inl ⟨by rfl, ?_⟩) hHeld ?_
              rotate_left
              · intro wq hSw
                have q0 := hSw.1
                have q1 := hSw.2.1
                have q2 := hSw.2.2.1
                have q3 := hSw.2.2.2
                go_simp
                all_goals with_reducible rfl
              try simp only [Act.put, List.getElem_toArray, List.getElem_cons_succ, List.getElem_cons_zero, List.setIfInBounds_toArray, List.set_cons_zero, List.set_cons_succ]
              refine wpAnyH_ready (rs := [11]) (by kernel_rfl) (by simp) ?_
              refine AllReadyH.cons rfl (fun K hK => ?_) AllReadyH.nil
              go_simp
              refine hK.out _ _ ⟨y2, y0, y1, cx⟩ (fun hHeld => ?_)
              clear hK K
              try simp only [Act.put, List.getElem_toArray, List.getElem_cons_succ, List.getElem_cons_zero, List.setIfInBounds_toArray, List.set_cons_zero, List.set_cons_succ]
              refine wpAnyH_ready (rs := [24]) (by kernel_rfl) (by simp) ?_
              refine AllReadyH.cons rfl (fun K hK => ?_) AllReadyH.nil
              go_simp
              refine (rpplus_any rn sn v ⟨⟨some ⟨bx, ox, none⟩, rn, rc, rx⟩, ⟨sA, sn, sc, sx⟩⟩ ⟨⟨A7, rn, c7, x7⟩, ⟨A8, sn, c8, x8⟩⟩ wr.drew ⟨HPP.out.1.keep (Nat.le_refl _) (Keep.refl wr).drew, HPP.out.2.1.keep (Nat.le_refl _) (Keep.refl wr).drew, rfl, rfl⟩ ⟨HPP.out.2.2.1.keep (Nat.le_refl _) (Keep.refl wr).drew, HPP.out.2.2.2.keep (Nat.le_refl _) (Keep.refl wr).drew, rfl, rfl⟩ hg hs HV.out.1).mono ?_
              rintro e w10 ⟨⟨⟨A9, n9, c9, x9⟩, ⟨A0, n0, c0, x0⟩⟩, he, hC⟩
              replace he : e = .returned (.agg #[.slice A9 n9 c9, .slice A0 n0 c0]) := he
              subst he
              have HC := Lib.hid hC
              have K4 : Hid (Keep wr w10) := (Keep.drew (Keep.refl wr)).trans hC.keep
              have y2' := (K4.out.cell (p := ⟨b, 3, none⟩) HLL.out.2.1).trans y2
              have y0' := (K4.out.cell (p := ⟨q, 0, none⟩) HLL.out.1).trans y0
              have y1' := (K4.out.cell (p := ⟨q, 1, none⟩) HLL.out.1).trans y1
              have cx' := (K4.out.cell (p := ⟨bx, ox + L, none⟩) HLL.out.2.2.2.1).trans cx
              clear hC
              refine hK.out _ _ ⟨y2', y0', y1', cx'⟩ (fun hHeld => ?_)
              clear hK K
              try simp only [Act.put, List.getElem_toArray, List.getElem_cons_succ, List.getElem_cons_zero, List.setIfInBounds_toArray, List.set_cons_zero, List.set_cons_succ]
              refine wpAnyH_take (i := 25) (v := ?_) rfl (by kernel_rfl) (by kernel_rfl) (by kernel_rfl) (fun _ _ _ h => h) (Or.inl ⟨by rfl, ?_⟩) hHeld ?_
              rotate_left
              · intro wq hSw
                go_simp
                all_goals with_reducible rfl
              try simp only [Act.put, List.getElem_toArray, List.getElem_cons_succ, List.getElem_cons_zero, List.setIfInBounds_toArray, List.set_cons_zero, List.set_cons_succ]
              have HR4 := Lib.hid (HRK.out.keep K4.out)
              obtain ⟨z0, z1⟩ := HR4.out.st.cells HXP.out.2.2
              change _ = some (Value.slice (some ⟨bx, ox, none⟩) rn rc) at z0
              change _ = some (Value.slice sA sn sc) at z1
              have f3 := HR4.out.st.frozen (k * 2)
              have f4 := HR4.out.st.frozen (k * 2 + 1)
              refine wpAnyH_ready (rs := [26]) (by kernel_rfl) (by simp) ?_
              refine AllReadyH.cons rfl (fun K hK => ?_) AllReadyH.nil
              go_simp
              have hset := HR4.out.setRow (RF := fun x => wr.heap.size ≤ x ∧ x < w10.heap.size) (p' := ⟨⟨A9, n9, c9, x9⟩, ⟨A0, n0, c0, x0⟩⟩) HLT.out ⟨HC.out.a.lies.mono fun x hx => HC.out.a.1.lt x hx, HC.out.b.lies.mono fun x hx => HC.out.b.1.lt x hx⟩ ⟨HC.out.an, HC.out.bn⟩ (fun x hx => ⟨hx.2, fun e => by have := HRK.out.lt x e; omega⟩)
              have HSET := Lib.hid hset
              have T6 := hset.2
              have y2'' := T6.cell y2' (by exact HLL.out.2.2.2.2.2)
              have y0'' := T6.cell y0' (by have := HLL.out.2.2.2.2.1; show ¬ q = br; omega)
              have y1'' := T6.cell y1' (by have := HLL.out.2.2.2.2.1; show ¬ q = br; omega)
              have cx'' := T6.cell cx' HBXR.out.1
              clear T6 hset
              refine hK.out _ _ ⟨y2'', y0'', y1'', cx''⟩ (fun hHeld => ?_)
              clear hK K
              try simp only [Act.put, List.getElem_toArray, List.getElem_cons_succ, List.getElem_cons_zero, List.setIfInBounds_toArray, List.set_cons_zero, List.set_cons_succ]
              refine wpAnyH_done (by kernel_rfl) ?_ _
              refine NoPanic.normal ?_
              clear hHeld
              clear y2'' y0'' y1'' cx'' y2' y0' y1' cx' z0 z1 f3 f4 y0 y1 y2 y3 y4 cx
              go_wp2_with fail
              go_roundw
              case rel => exact ⟨k + 1, _, by have := HLT.out; omega, by go_num, HI.out.put HLT.out H.out HQ.out HXP.out.1 HXP.out.2.1 HQW.out HRK.out HFK.out HSET.out.1 HSET.out.2 K4.out (by
                rw [show x9 = _ from HC.out.ax, show x0 = _ from HC.out.bx]
                show vAddS rn rx x7 v ++ vAddS sn sx x8 v = _
                rw [← HV.out.2.1]
                exact pair_sum HV.out.2.2.1 HPP.out.2.2.1.length HLG.out) (by rw [show x9 = _ from HC.out.ax]; exact tab_length _ _) (by rw [show x0 = _ from HC.out.bx]; exact tab_length _ _)⟩
              case measure => have := HLT.out; simp [intOf]; omega
        · obtain rfl : k = n7 := by omega
          have hput := HS.out.1.put (r := ⟨⟨A7, k, c7, x7⟩, ⟨A8, n8, c8, x8⟩⟩) (R' := Rk) HS.out.2 HR.out.1 HR.out.2 (by rw [← HLD.out.1]; exact HN.out.2) HR7.out (HI.out.ra.1) (HI.out.rb.1) hRk.lr (fun i p p' h1 h2 h3 => HI.out.done i p p' (by rw [← H.out.li]; exact (List.getElem?_eq_some_iff.1 h1).1) h1 h2 h3)
          have hset := hRk.setBoth (RF := fun x => (lo ≤ x ∧ x < hi)) (p' := ⟨⟨A7, k, c7, x7⟩, ⟨A8, n8, c8, x8⟩⟩) HLG.out ⟨HI.out.ra, HI.out.rb⟩ ⟨rfl, rfl⟩ (fun x hx => ⟨Nat.lt_of_lt_of_le hx.2 HI.out.lim, fun e => by
            rcases hFk x e with e | e
            · have h1 := H.out.lt x e
              have h2 := HQW.out.1
              omega
            · omega⟩)
          have HPUT := Lib.hid hput
          have HSET := Lib.hid hset
          have cb := hRk.cb hput.2.1
          have c2' := hRk.c2
          have c3' := hRk.c3
          have hne := hRk.ne
          have fb : wr.frozen? ⟨bi, L, none⟩ = false := by simp [World.frozen?, hRk.bools]
          have y0 : wr.cell? ⟨q, 0, none⟩ = some (.slice A7 k c7) := cell_of_row _ _ _ _ _ _ HI.out.row
          have y1 : wr.cell? ⟨q, 1, none⟩ = some (.slice A8 n8 c8) := cell_of_row _ _ _ _ _ _ HI.out.row
          have HBR : Hid (br < q ∧ bi < q) := ⟨by rw [← HQ.out]; exact H.out.lt br H.out.fr, by rw [← HQ.out]; exact H.out.lt bi H.out.fi⟩
          have Tb : Turned (fun x => x = bi) wr (wr.setCell ⟨bi, L, none⟩ (.bool true)) := Turned.set (F := fun b => b = bi) wr ⟨bi, L, none⟩ _ rfl
          have hstb := (hRk.st.turned Tb (fun e => hne.2.2 e.symm))
          obtain ⟨pl, hpl⟩ : ∃ pl, Rk[L]? = some pl := ⟨_, List.getElem?_eq_getElem (by rw [hRk.lr]; exact HLG.out)⟩
          have z := hstb.cells hpl
          have z2 : (wr.setCell ⟨bi, L, none⟩ (.bool true)).cell? ⟨br, L * 2, none⟩ = some (.slice pl.a.A pl.a.n pl.a.c) := z.1
          have z3 : (wr.setCell ⟨bi, L, none⟩ (.bool true)).cell? ⟨br, L * 2 + 1, none⟩ = some (.slice pl.b.A pl.b.n pl.b.c) := z.2
          have f2 := hstb.frozen (L * 2)
          have f3 := hstb.frozen (L * 2 + 1)
          have y0' := Tb.cell y0 (by have := HBR.out.2; show ¬ q = bi; omega)
          have y1' := Tb.cell y1 (by have := HBR.out.2; show ¬ q = bi; omega)
          have c3'' := Tb.cell c3' (by exact hne.1)
          clear hput hset z hstb Tb hpl hne hRk hFk
          go_wp2_with fail
          go_region
          go_wp2_with fail
          go_ret2
          have hnin : ¬ inB k n8 B (x1 ++ x2) := fun hin => by
            have h1 : vLead k (leftB (k + n8) B (x1 ++ x2)) < 0 := hin
            rw [← HLD.out.1] at h1
            have h2 := HN.out.1
            omega
          refine ⟨by rw [decide_eq_false hnin]; rfl, _, iv.set L true, Rk.set L ⟨⟨A7, k, c7, x7⟩, ⟨A8, n8, c8, x8⟩⟩, HSET.out.1.keep (Keep.refl _).drew, HPUT.out.2.2, fun x hx => ?_, (HI.out.turn.trans HSET.out.2 fun x hx => ?_).then_keep (Keep.refl _).drew⟩
          · rcases hx with e | e
            · rcases HFK.out x e with e | e
              · exact Or.inl e
              · exact Or.inr (by have := HQW.out; omega)
            · exact Or.inr (by have := HQW.out; omega)
          · rcases HFK.out x hx with e | e
            · exact Or.inl e
            · exact Or.inr (by have := HQW.out; omega)
end
end Go.Proofs.YtgelalbmhllccaaGreat
