/- The landed queue's calls that turn it. -/
import Derived.Test.YthgplballiibnaaQc2
import Derived.Deep.DeepCutAuto
import Derived.Deep.CutBlock
namespace Go.Proofs.Ythgplballiibnaa
open Go.RowKit
set_option linter.unusedVariables false
set_option linter.unusedSimpArgs false
theorem ring_push {w : World} {F : Nat → Prop} {fst : Nat} {rg : List RowV} {L : List (List Nat)} {r : RowV} (h : ringOk w F fst rg L) (hL : L.length < 64) (hr : rg.length = 64) (hl : LiesIn w F r) : ringOk w F fst (rg.set ((fst + L.length) % 64) r) (L ++ [r.xs]) := fun j xs hj => by
  rcases Nat.lt_or_ge j L.length with h1 | h1
  · rw [List.getElem?_append_left h1] at hj
    obtain ⟨r', a, b, c⟩ := h j xs hj
    exact ⟨r', by rw [List.getElem?_set_ne (by omega)]; exact a, b, c⟩
  · rw [List.getElem?_append_right h1] at hj
    have e : j - L.length = 0 := by
      rcases Nat.eq_zero_or_pos (j - L.length) with e | e
      · exact e
      · rw [List.getElem?_eq_none (by simp; omega)] at hj; cases hj
    rw [e] at hj
    simp at hj
    refine ⟨r, ?_, hj, hl⟩
    have e2 : j = L.length := by omega
    rw [e2, List.getElem?_set_self (by omega)]
theorem ring_pop {w : World} {F : Nat → Prop} {fst : Nat} {rg : List RowV} {x : List Nat} {L : List (List Nat)} {r : RowV} (h : ringOk w F fst rg (x :: L)) (hL : L.length < 64) (hf : fst < 64) : ringOk w F ((fst + 1) % 64) (rg.set fst r) L := fun j xs hj => by
  have hjl : j < L.length := by
    rcases Nat.lt_or_ge j L.length with h1 | h1
    · exact h1
    · rw [List.getElem?_eq_none h1] at hj; cases hj
  obtain ⟨r', a, b, c⟩ := h (j + 1) xs (by simpa using hj)
  have e : ((fst + 1) % 64 + j) % 64 = (fst + (j + 1)) % 64 := by omega
  exact ⟨r', by rw [e, List.getElem?_set_ne (by omega)]; exact a, b, c⟩
theorem ringOk.mono {w : World} {F F' : Nat → Prop} {fst : Nat} {rg : List RowV} {L : List (List Nat)} (h : ringOk w F fst rg L) (hF : ∀ b, F b → F' b) : ringOk w F' fst rg L := fun j xs hj => by
  obtain ⟨r, a, b, c⟩ := h j xs hj
  exact ⟨r, a, b, c.mono hF⟩
theorem ringOk.turned {w w' : World} {F G : Nat → Prop} {fst : Nat} {rg : List RowV} {L : List (List Nat)} (h : ringOk w F fst rg L) (k : Turned G w w') (hd : ∀ b, F b → ¬ G b) : ringOk w' F fst rg L := fun j xs hj => by
  obtain ⟨r, a, b, c⟩ := h j xs hj
  exact ⟨r, a, b, c.turned k hd⟩
set_option maxRecDepth 100000 in
set_option maxHeartbeats 1000000 in
theorem qpush_in (B n c pl g : Nat) (A : Option Addr) (F : Nat → Prop) (xs : List Nat) (L : List (List Nat)) (w : World) (hq : QueR w F g pl L) (h : Bytes w B A n xs) (hB : B ≤ w.heap.size) (hn : n ≤ 70000) (hL : L.length < pl) :
    Calls Try.prog 11 #[.pointer (some ⟨g, 0, none⟩), .slice A n c] w fun e w' => e = .returned (.int .i64 0) ∧ ∃ F', QueR w' F' g pl (L ++ [xs]) ∧ (∀ b, F' b → F b ∨ w.heap.size ≤ b) ∧ Turned F w w' := by
  obtain ⟨fst, rg, hf, hrl, hb, hring⟩ := hq.ring
  obtain ⟨s, hs⟩ : ∃ s, (fst + L.length) % 64 = s := ⟨_, rfl⟩
  obtain ⟨r0, hr0⟩ : ∃ r0, rg[s]? = some r0 := ⟨_, List.getElem?_eq_getElem (by omega)⟩
  obtain ⟨_, _, c2, _, _⟩ := qcells_at hb
  have b0 : ¬ (70000 : Int) < (n : Int) := by omega
  have b1 : ((pl : Int) - (L.length : Int) == 0) = false := beq_eq_false_iff_ne.2 (by omega)
  have d1 : (0 : Int) ≤ (s : Int) := Int.natCast_nonneg _
  have d2 : (s : Int) < 64 := by omega
  have hpl := hq.short
  have HP := Lib.hid hpl
  have HQ := Lib.hid hq
  have HXB := Lib.hid h
  have HH := Lib.hid hb
  have HR := Lib.hid hring
  have HS := Lib.hid hs
  have HR0 := Lib.hid hr0
  have HF := Lib.hid (And.intro hf hrl)
  have hgl := hq.lt g hq.at_
  have d5 : (L.length : Int) + 1 ≤ 64 := by omega
  have HL64 : Hid (L.length < 64) := by show _ < _; omega
  clear hq h hb hring hs hr0 hpl hrl hf
  go_enter Try.func11, Try.ntmps11
  go_wp2_with fail
  refine (made_any pl g F _ _ HQ.out).mono ?_
  rintro e w' ⟨rfl, rfl⟩
  go_wp2_with fail
  refine (qfree_any pl g F _ _ HQ.out).mono ?_
  rintro e w' ⟨rfl, kd, rfl⟩
  have k0 : Keep w (w.drewN kd) := (Keep.refl w).drewN kd
  have K0 := Lib.hid k0
  have H0 : Hid ((w.drewN kd).heap[g]? = some (.cells (qcells pl fst L.length rg) 52 (0, 0))) := HH.out
  have c2 : (w.drewN kd).cell? ⟨g, 2, none⟩ = some (.int .i64 (L.length : Int)) := c2
  generalize w.drewN kd = w0 at *
  clear k0
  go_wp2_with fail
  refine wp_region_noPanic ?_
  refine wp_region_held_drew (S := fun wz => wz.cell? ⟨g, 2, none⟩ = some (.int .i64 (L.length : Int))) (by kernel_rfl) c2 (fun hHeld => ?_)
  refine wpAnyH_take (i := 0) (v := ?_) rfl (by kernel_rfl) (by kernel_rfl) (by kernel_rfl) (fun _ _ _ h => h) (Or.inl ⟨by rfl, ?_⟩) hHeld ?_
  rotate_left
  · intro wq hSw
    go_simp
    all_goals with_reducible rfl
  try simp only [Act.put, List.getElem_toArray, List.getElem_cons_succ, List.getElem_cons_zero, List.setIfInBounds_toArray, List.set_cons_zero, List.set_cons_succ]
  refine wpAnyH_take (i := 1) (v := ?_) rfl (by kernel_rfl) (by kernel_rfl) (by kernel_rfl) (fun _ _ _ h => h) (Or.inl ⟨by rfl, ?_⟩) hHeld ?_
  rotate_left
  · intro wq hSw
    go_simp
    all_goals with_reducible rfl
  try simp only [Act.put, List.getElem_toArray, List.getElem_cons_succ, List.getElem_cons_zero, List.setIfInBounds_toArray, List.set_cons_zero, List.set_cons_succ]
  refine wpAnyH_take (i := 2) (v := ?_) rfl (by kernel_rfl) (by kernel_rfl) (by kernel_rfl) (fun _ _ _ h => h) (Or.inl ⟨by rfl, ?_⟩) hHeld ?_
  rotate_left
  · intro wq hSw
    go_simp
    all_goals with_reducible rfl
  try simp only [Act.put, List.getElem_toArray, List.getElem_cons_succ, List.getElem_cons_zero, List.setIfInBounds_toArray, List.set_cons_zero, List.set_cons_succ]
  refine wpAnyH_take (i := 3) (v := ?_) rfl (by kernel_rfl) (by kernel_rfl) (by kernel_rfl) (fun _ _ _ h => h) (Or.inl ⟨by rfl, ?_⟩) hHeld ?_
  rotate_left
  · intro wq hSw
    go_simp
    all_goals with_reducible rfl
  try simp only [Act.put, List.getElem_toArray, List.getElem_cons_succ, List.getElem_cons_zero, List.setIfInBounds_toArray, List.set_cons_zero, List.set_cons_succ]
  refine wpAnyH_take (i := 4) (v := ?_) rfl (by kernel_rfl) (by kernel_rfl) (by kernel_rfl) (fun _ _ _ h => h) (Or.inl ⟨by rfl, ?_⟩) hHeld ?_
  rotate_left
  · intro wq hSw
    go_simp
    all_goals with_reducible rfl
  try simp only [Act.put, List.getElem_toArray, List.getElem_cons_succ, List.getElem_cons_zero, List.setIfInBounds_toArray, List.set_cons_zero, List.set_cons_succ]
  refine wpAnyH_take (i := 5) (v := ?_) rfl (by kernel_rfl) (by kernel_rfl) (by kernel_rfl) (fun _ _ _ h => h) (Or.inl ⟨by rfl, ?_⟩) hHeld ?_
  rotate_left
  · intro wq hSw
    have q0 := hSw
    go_simp
    all_goals with_reducible rfl
  try simp only [Act.put, List.getElem_toArray, List.getElem_cons_succ, List.getElem_cons_zero, List.setIfInBounds_toArray, List.set_cons_zero, List.set_cons_succ]
  refine wpAnyH_take (i := 7) (v := ?_) rfl (by kernel_rfl) (by kernel_rfl) (by kernel_rfl) (fun _ _ _ h => h) (Or.inl ⟨by rfl, ?_⟩) hHeld ?_
  rotate_left
  · intro wq hSw
    go_simp
    all_goals with_reducible rfl
  try simp only [Act.put, List.getElem_toArray, List.getElem_cons_succ, List.getElem_cons_zero, List.setIfInBounds_toArray, List.set_cons_zero, List.set_cons_succ]
  refine wpAnyH_take (i := 9) (v := ?_) rfl (by kernel_rfl) (by kernel_rfl) (by kernel_rfl) (fun _ _ _ h => h) (Or.inl ⟨by rfl, ?_⟩) hHeld ?_
  rotate_left
  · intro wq hSw
    go_simp
    all_goals with_reducible rfl
  try simp only [Act.put, List.getElem_toArray, List.getElem_cons_succ, List.getElem_cons_zero, List.setIfInBounds_toArray, List.set_cons_zero, List.set_cons_succ]
  refine wpAnyH_take (i := 10) (v := ?_) rfl (by kernel_rfl) (by kernel_rfl) (by kernel_rfl) (fun _ _ _ h => h) (Or.inl ⟨by rfl, ?_⟩) hHeld ?_
  rotate_left
  · intro wq hSw
    go_simp
    all_goals with_reducible rfl
  try simp only [Act.put, List.getElem_toArray, List.getElem_cons_succ, List.getElem_cons_zero, List.setIfInBounds_toArray, List.set_cons_zero, List.set_cons_succ]
  refine wpAnyH_ready (rs := [6]) (by kernel_rfl) (by simp) ?_
  refine AllReadyH.cons rfl (fun K hK => ?_) AllReadyH.nil
  go_simp
  refine (stand_any pl g fst L.length rg L.length w0.drew H0.out HF.out.1 (by omega)).mono ?_
  rintro e w1 ⟨rfl, rfl⟩
  rw [HS.out]
  refine hK.out _ _ hHeld (fun hHeld => ?_)
  clear hK K
  try simp only [Act.put, List.getElem_toArray, List.getElem_cons_succ, List.getElem_cons_zero, List.setIfInBounds_toArray, List.set_cons_zero, List.set_cons_succ]
  refine wpAnyH_ready (rs := [8]) (by kernel_rfl) (by simp) ?_
  refine AllReadyH.cons rfl (fun K hK => ?_) AllReadyH.nil
  go_simp
  refine (copy_any _ n c _ _ _ (HXB.out.keep hB (K0.out.trans (Keep.drew (Keep.refl _)))) (by have := K0.out.size; exact Nat.le_trans hB this) (by omega)).mono ?_
  rintro e w1 ⟨A1, n1, q1, rfl, o1, k1⟩
  have k01 : Keep w w1 := (K0.out.trans (Keep.drew (Keep.refl _))).trans k1
  have K1 := Lib.hid k01
  have O1 : Hid (Own w1 w0.heap.size 5 A1 n1 q1 xs) := o1
  have h1 : w1.heap[g]? = some (.cells (qcells pl fst L.length rg) 52 (0, 0)) := (k01.block g hgl).trans HH.out
  obtain ⟨_, _, e2, ef, er⟩ := qcells_at h1
  have er := er s r0 HR0.out
  have ef := ef (3 + s)
  have H1 := Lib.hid h1
  clear o1 k1 k01 h1
  refine hK.out _ _ e2 (fun hHeld => ?_)
  clear hK K
  try simp only [Act.put, List.getElem_toArray, List.getElem_cons_succ, List.getElem_cons_zero, List.setIfInBounds_toArray, List.set_cons_zero, List.set_cons_succ]
  refine wpAnyH_take (i := 11) (v := ?_) rfl (by kernel_rfl) (by kernel_rfl) (by kernel_rfl) (fun _ _ _ h => h) (Or.inl ⟨by rfl, ?_⟩) hHeld ?_
  rotate_left
  · intro wq hSw
    go_simp
    all_goals with_reducible rfl
  try simp only [Act.put, List.getElem_toArray, List.getElem_cons_succ, List.getElem_cons_zero, List.setIfInBounds_toArray, List.set_cons_zero, List.set_cons_succ]
  refine wpAnyH_ready (rs := [12]) (by kernel_rfl) (by simp) ?_
  refine AllReadyH.cons rfl (fun K hK => ?_) AllReadyH.nil
  go_simp
  have h2 := qset (i := 3 + s) H1.out (.slice A1 n1 q1)
  rw [qcells_ring pl fst L.length s rg ⟨A1, n1, q1, xs⟩] at h2
  obtain ⟨_, _, f2, ff, _⟩ := qcells_at h2
  have ff := ff 2
  refine hK.out _ _ f2 (fun hHeld => ?_)
  have H2 := Lib.hid h2
  have T2 := Lib.hid (Turned.set (F := fun b => b = g) w1 ⟨g, 3 + s, none⟩ (.slice A1 n1 q1) rfl)
  clear hK K h2 e2 ef er
  try simp only [Act.put, List.getElem_toArray, List.getElem_cons_succ, List.getElem_cons_zero, List.setIfInBounds_toArray, List.set_cons_zero, List.set_cons_succ]
  refine wpAnyH_done (by kernel_rfl) ?_ _
  refine NoPanic.normal ?_
  clear hHeld
  generalize w1.setCell ⟨g, 3 + s, none⟩ (.slice A1 n1 q1) = w2 at *
  go_wp2_with fail
  go_ret
  have h3 : (w2.setCell ⟨g, 2, none⟩ (.int .i64 ((L.length : Int) + 1))).heap[g]? = some (.cells (qcells pl fst (L.length + 1) (rg.set s ⟨A1, n1, q1, xs⟩)) 52 (0, 0)) := by
    have := qset (i := 2) H2.out (.int .i64 ((L.length + 1 : Nat) : Int))
    rw [qcells_two] at this
    exact this
  have T3 : Turned (fun b => b = g) w1 (w2.setCell ⟨g, 2, none⟩ (.int .i64 ((L.length : Int) + 1))) := T2.out.trans (Turned.set (F := fun b => b = g) w2 ⟨g, 2, none⟩ _ rfl) fun i e => Or.inl e
  have hz := K1.out.size
  have hz3 := T3.size
  have hnb : ∀ b, (Value.slice A1 n1 q1).ownBlock = some b → w.heap.size ≤ b ∧ b < w1.heap.size := fun b hb => by
    have := O1.out.1.lt b hb
    have := K0.out.size
    omega
  refine ⟨rfl, fun b => F b ∨ (Value.slice A1 n1 q1).ownBlock = some b, ⟨Or.inl HQ.out.at_, ?_, ⟨fst, rg.set s ⟨A1, n1, q1, xs⟩, HF.out.1, by rw [List.length_set]; exact HF.out.2, by rw [List.length_append]; exact h3, ?_⟩, ?_⟩, ?_, ?_⟩
  · rintro b (hb | hb)
    · have := HQ.out.lt b hb; omega
    · have := hnb b hb; omega
  · have hr1 : ringOk w1 (fun b => (F b ∨ (Value.slice A1 n1 q1).ownBlock = some b) ∧ b ≠ g) fst rg L := (HR.out.keep K1.out).mono fun b hb => ⟨Or.inl hb.1, hb.2⟩
    have hl1 : LiesIn w1 (fun b => (F b ∨ (Value.slice A1 n1 q1).ownBlock = some b) ∧ b ≠ g) ⟨A1, n1, q1, xs⟩ := O1.out.lies.mono fun b hb => ⟨Or.inr hb, by have := hnb b hb; omega⟩
    have := (ring_push hr1 HL64.out HF.out.2 hl1).turned T3 fun b hb e => hb.2 e
    rw [HS.out] at this
    exact this
  · refine ⟨by simp; omega, HP.out.2.1, HP.out.2.2.1, fun ys hy => ?_⟩
    rw [List.mem_append, List.mem_singleton] at hy
    rcases hy with hy | rfl
    · exact HP.out.2.2.2 ys hy
    · rw [HXB.out.length]; exact hn
  · rintro b (hb | hb)
    · exact Or.inl hb
    · exact Or.inr (hnb b hb).1
  · exact (Turned.of_keep (F := F) K1.out).trans (T3.mono fun i _ e => e ▸ HQ.out.at_) fun i e => Or.inl e
theorem qpush_any (B n c pl g : Nat) (A : Option Addr) (F : Nat → Prop) (xs : List Nat) (L : List (List Nat)) (w : World) (hq : QueR w F g pl L) (h : Bytes w B A n xs) (hB : B ≤ w.heap.size) :
    Calls Try.prog 11 #[.pointer (some ⟨g, 0, none⟩), .slice A n c] w fun e w' => e = .returned (.int .i64 (pushErr pl L xs)) ∧ ∃ F', QueR w' F' g pl (pushL pl L xs) ∧ (∀ b, F' b → F b ∨ w.heap.size ≤ b) ∧ Turned F w w' := by
  have hl := h.length
  by_cases h1 : 70000 < n
  · have E : pushErr pl L xs = 3 := by rw [pushErr, if_pos (by omega)]
    rw [pushL, E, if_neg (by decide)]
    have b0 : (70000 : Int) < (n : Int) := by omega
    have HQ := Lib.hid hq
    clear hq h hl
    go_enter Try.func11, Try.ntmps11
    go_wp2_with fail
    refine (made_any pl g F _ _ HQ.out).mono ?_
    rintro e w' ⟨rfl, rfl⟩
    go_wp2_with fail
    go_ret
    exact ⟨rfl, F, HQ.out, fun b hb => Or.inl hb, Turned.refl _ _⟩
  · by_cases h2 : pl ≤ L.length
    · have E : pushErr pl L xs = 7 := by rw [pushErr, if_neg (by omega), if_pos h2]
      rw [pushL, E, if_neg (by decide)]
      have b0 : ¬ (70000 : Int) < (n : Int) := by omega
      have b1 : ((pl : Int) - (L.length : Int) == 0) = true := beq_iff_eq.2 (by have := hq.short.1; omega)
      have HQ := Lib.hid hq
      clear hq h hl h2
      go_enter Try.func11, Try.ntmps11
      go_wp2_with fail
      refine (made_any pl g F _ _ HQ.out).mono ?_
      rintro e w' ⟨rfl, rfl⟩
      go_wp2_with fail
      refine (qfree_any pl g F _ _ HQ.out).mono ?_
      rintro e w' ⟨rfl, kd, rfl⟩
      go_wp2_with fail
      go_ret
      have k0 : Keep w (w.drewN kd) := (Keep.refl w).drewN kd
      exact ⟨rfl, F, HQ.out.keep k0, fun b hb => Or.inl hb, Turned.of_keep k0⟩
    · have E : pushErr pl L xs = 0 := by rw [pushErr, if_neg (by omega), if_neg h2]
      rw [pushL, E, if_pos rfl]
      exact qpush_in B n c pl g A F xs L w hq h hB (by omega) (by omega)
set_option maxRecDepth 100000 in
set_option maxHeartbeats 1000000 in
theorem qpop_any (pl g : Nat) (F : Nat → Prop) (L : List (List Nat)) (w : World) (hq : QueR w F g pl L) :
    Calls Try.prog 13 #[.pointer (some ⟨g, 0, none⟩)] w fun e w' => ∃ r : RowV, e = .returned (.tuple #[.slice r.A r.n r.c, .bool (!L.isEmpty)]) ∧ r.xs = L.headD [] ∧ ∃ F', QueR w' F' g pl L.tail ∧ (∀ b, F' b → F b ∨ w.heap.size ≤ b) ∧ LiesIn w' (fun b => (F b ∨ w.heap.size ≤ b) ∧ ¬ F' b ∧ b < w'.heap.size) r ∧ Turned F w w' := by
  have HQ := Lib.hid hq
  cases L with
  | nil =>
    clear hq
    go_enter Try.func13, Try.ntmps13
    go_wp2_with fail
    refine (qpeek_any pl g F _ _ HQ.out).mono ?_
    rintro e w1 ⟨A1, n1, q1, rfl, o1, k1⟩
    have K1 := Lib.hid k1
    clear o1 k1
    go_wp2_with fail
    go_ret2
    exact ⟨⟨none, 0, 0, []⟩, rfl, rfl, F, HQ.out.keep K1.out, fun b hb => Or.inl hb, LiesIn.nothing _ _, Turned.of_keep K1.out⟩
  | cons x L =>
    obtain ⟨fst, rg, hf, hrl, hb, hring⟩ := hq.ring
    obtain ⟨r0, hr0⟩ : ∃ r0, rg[fst]? = some r0 := ⟨_, List.getElem?_eq_getElem (by omega)⟩
    have d1 : (0 : Int) ≤ (fst : Int) := Int.natCast_nonneg _
    have d2 : (fst : Int) < 64 := by omega
    have hpl := hq.short
    have HP := Lib.hid hpl
    have HH := Lib.hid hb
    have HR := Lib.hid hring
    have HR0 := Lib.hid hr0
    have HF := Lib.hid (And.intro hf hrl)
    have hgl := hq.lt g hq.at_
    have hL64 : L.length < 64 := by have h1 := hpl.1; have h2 := hpl.2.2.1; rw [List.length_cons] at h1; omega
    have HL64 := Lib.hid hL64
    obtain ⟨k, hk⟩ : ∃ k, (x :: L).length = k := ⟨_, rfl⟩
    have HK : Hid (k = L.length + 1) := hk.symm
    obtain ⟨f1, hf1⟩ : ∃ f1, (fst + 1) % 64 = f1 := ⟨_, rfl⟩
    have HF1 := Lib.hid hf1
    clear hf1
    have d5 : (k : Int) - 1 = (L.length : Int) := by have := HK.out; omega
    have d6 : (0 : Int) ≤ (L.length : Int) := Int.natCast_nonneg _
    clear hq hb hring hr0 hpl hrl hf hL64
    go_enter Try.func13, Try.ntmps13
    go_wp2_with fail
    refine (qpeek_any pl g F _ _ HQ.out).mono ?_
    rintro e w1 ⟨A1, n1, q1, rfl, o1, k1⟩
    have h1 : w1.heap[g]? = some (.cells (qcells pl fst k rg) 52 (0, 0)) := hk ▸ (k1.block g hgl).trans HH.out
    obtain ⟨_, e1, _, ef, er⟩ := qcells_at h1
    have er := er fst r0 HR0.out
    have ef := ef (3 + fst)
    have H1 := Lib.hid h1
    have K1 := Lib.hid k1
    have O1 : Hid (Own w1 w.heap.size 5 A1 n1 q1 x) := o1
    clear o1 k1 h1 hk
    go_wp2_with fail
    refine wp_region_noPanic ?_
    refine wp_region_held_drew (S := fun wz => wz.cell? ⟨g, 1, none⟩ = some (.int .i64 (fst : Int))) (by kernel_rfl) e1 (fun hHeld => ?_)
    refine wpAnyH_take (i := 0) (v := ?_) rfl (by kernel_rfl) (by kernel_rfl) (by kernel_rfl) (fun _ _ _ h => h) (Or.inl ⟨by rfl, ?_⟩) hHeld ?_
    rotate_left
    · intro wq hSw
      go_simp
      all_goals with_reducible rfl
    try simp only [Act.put, List.getElem_toArray, List.getElem_cons_succ, List.getElem_cons_zero, List.setIfInBounds_toArray, List.set_cons_zero, List.set_cons_succ]
    refine wpAnyH_take (i := 1) (v := ?_) rfl (by kernel_rfl) (by kernel_rfl) (by kernel_rfl) (fun _ _ _ h => h) (Or.inl ⟨by rfl, ?_⟩) hHeld ?_
    rotate_left
    · intro wq hSw
      go_simp
      all_goals with_reducible rfl
    try simp only [Act.put, List.getElem_toArray, List.getElem_cons_succ, List.getElem_cons_zero, List.setIfInBounds_toArray, List.set_cons_zero, List.set_cons_succ]
    refine wpAnyH_take (i := 2) (v := ?_) rfl (by kernel_rfl) (by kernel_rfl) (by kernel_rfl) (fun _ _ _ h => h) (Or.inl ⟨by rfl, ?_⟩) hHeld ?_
    rotate_left
    · intro wq hSw
      go_simp
      all_goals with_reducible rfl
    try simp only [Act.put, List.getElem_toArray, List.getElem_cons_succ, List.getElem_cons_zero, List.setIfInBounds_toArray, List.set_cons_zero, List.set_cons_succ]
    refine wpAnyH_take (i := 3) (v := ?_) rfl (by kernel_rfl) (by kernel_rfl) (by kernel_rfl) (fun _ _ _ h => h) (Or.inl ⟨by rfl, ?_⟩) hHeld ?_
    rotate_left
    · intro wq hSw
      go_simp
      all_goals with_reducible rfl
    try simp only [Act.put, List.getElem_toArray, List.getElem_cons_succ, List.getElem_cons_zero, List.setIfInBounds_toArray, List.set_cons_zero, List.set_cons_succ]
    refine wpAnyH_take (i := 4) (v := ?_) rfl (by kernel_rfl) (by kernel_rfl) (by kernel_rfl) (fun _ _ _ h => h) (Or.inl ⟨by rfl, ?_⟩) hHeld ?_
    rotate_left
    · intro wq hSw
      have q0 := hSw
      go_simp
      all_goals with_reducible rfl
    try simp only [Act.put, List.getElem_toArray, List.getElem_cons_succ, List.getElem_cons_zero, List.setIfInBounds_toArray, List.set_cons_zero, List.set_cons_succ]
    refine wpAnyH_take (i := 5) (v := ?_) rfl (by kernel_rfl) (by kernel_rfl) (by kernel_rfl) (fun _ _ _ h => h) (Or.inl ⟨by rfl, ?_⟩) hHeld ?_
    rotate_left
    · intro wq hSw
      go_simp
      all_goals with_reducible rfl
    try simp only [Act.put, List.getElem_toArray, List.getElem_cons_succ, List.getElem_cons_zero, List.setIfInBounds_toArray, List.set_cons_zero, List.set_cons_succ]
    refine wpAnyH_take (i := 6) (v := ?_) rfl (by kernel_rfl) (by kernel_rfl) (by kernel_rfl) (fun _ _ _ h => h) (Or.inl ⟨by rfl, ?_⟩) hHeld ?_
    rotate_left
    · intro wq hSw
      go_simp
      all_goals with_reducible rfl
    try simp only [Act.put, List.getElem_toArray, List.getElem_cons_succ, List.getElem_cons_zero, List.setIfInBounds_toArray, List.set_cons_zero, List.set_cons_succ]
    refine wpAnyH_take (i := 7) (v := ?_) rfl (by kernel_rfl) (by kernel_rfl) (by kernel_rfl) (fun _ _ _ h => h) (Or.inl ⟨by rfl, ?_⟩) hHeld ?_
    rotate_left
    · intro wq hSw
      go_simp
      all_goals with_reducible rfl
    try simp only [Act.put, List.getElem_toArray, List.getElem_cons_succ, List.getElem_cons_zero, List.setIfInBounds_toArray, List.set_cons_zero, List.set_cons_succ]
    refine wpAnyH_ready (rs := [8]) (by kernel_rfl) (by simp) ?_
    refine AllReadyH.cons rfl (fun K hK => ?_) AllReadyH.nil
    go_simp
    have h2 := qset (i := 3 + fst) H1.out (.slice none 0 0)
    rw [qcells_ring pl fst k fst rg ⟨none, 0, 0, []⟩] at h2
    obtain ⟨_, p1, p2, ff, _⟩ := qcells_at h2
    have ff := ff 1
    refine hK.out _ _ p1 (fun hHeld => ?_)
    have H2 : Hid ((w1.setCell ⟨g, 3 + fst, none⟩ (.slice none 0 0)).drew.heap[g]? = some (.cells (qcells pl fst k (rg.set fst ⟨none, 0, 0, []⟩)) 52 (0, 0))) := h2
    have T2 := Lib.hid ((Turned.set (F := fun b => b = g) w1 ⟨g, 3 + fst, none⟩ (.slice none 0 0) rfl).then_keep (Keep.drew (Keep.refl _)))
    have ff : (w1.setCell ⟨g, 3 + fst, none⟩ (.slice none 0 0)).drew.frozen? ⟨g, 1, none⟩ = false := ff
    have p1 : (w1.setCell ⟨g, 3 + fst, none⟩ (.slice none 0 0)).drew.cell? ⟨g, 1, none⟩ = some (.int .i64 (fst : Int)) := p1
    clear hK K h2 ef er
    try simp only [Act.put, List.getElem_toArray, List.getElem_cons_succ, List.getElem_cons_zero, List.setIfInBounds_toArray, List.set_cons_zero, List.set_cons_succ]
    refine wpAnyH_done (by kernel_rfl) ?_ _
    refine NoPanic.normal ?_
    clear hHeld
    generalize (w1.setCell ⟨g, 3 + fst, none⟩ (.slice none 0 0)).drew = w2 at *
    go_wp2_with fail
    refine (stand_any pl g fst k _ 1 w2 H2.out HF.out.1 (by omega)).mono ?_
    rw [HF1.out]
    rintro e w3 ⟨rfl, rfl⟩
    have h3 := qset (i := 1) H2.out (.int .i64 (f1 : Int))
    rw [qcells_one] at h3
    obtain ⟨_, g1, g2, gf, _⟩ := qcells_at h3
    have gf2 := gf 2
    have gf1 := ff
    have H3 := Lib.hid h3
    have T3 : Hid (Turned (fun b => b = g) w1 (w2.setCell ⟨g, 1, none⟩ (.int .i64 (f1 : Int)))) := T2.out.trans (Turned.set (F := fun b => b = g) w2 ⟨g, 1, none⟩ _ rfl) fun i e => Or.inl e
    clear h3 gf
    go_upto_region 6 with fail
    generalize w2.setCell ⟨g, 1, none⟩ (.int .i64 (f1 : Int)) = w3 at *
    go_wp2_with fail
    go_ret2
    have hw : wrap64 (L.length : Int) = (L.length : Int) := IntWalk.wrap64_in _ ⟨by omega, by have := HL64.out; omega⟩
    rw [hw]
    have h4 : (w3.setCell ⟨g, 2, none⟩ (.int .i64 (L.length : Int))).heap[g]? = some (.cells (qcells pl f1 L.length (rg.set fst ⟨none, 0, 0, []⟩)) 52 (0, 0)) := by
      have := qset (i := 2) H3.out (.int .i64 ((L.length : Nat) : Int))
      rw [qcells_two] at this
      exact this
    have T4 : Turned (fun b => b = g) w1 (w3.setCell ⟨g, 2, none⟩ (.int .i64 (L.length : Int))) := T3.out.trans (Turned.set (F := fun b => b = g) w3 ⟨g, 2, none⟩ _ rfl) fun i e => Or.inl e
    have hz := K1.out.size
    have hz4 := T4.size
    refine ⟨⟨A1, n1, q1, x⟩, rfl, rfl, F, ⟨HQ.out.at_, fun b hb => ?_, ⟨f1, rg.set fst ⟨none, 0, 0, []⟩, by have := HF1.out; omega, by rw [List.length_set]; exact HF.out.2, h4, (((HF1.out ▸ ring_pop HR.out HL64.out HF.out.1 : ringOk w _ f1 _ L)).keep K1.out).turned T4 fun b hb e => hb.2 e⟩, ?_⟩, fun b hb => Or.inl hb, ?_, ?_⟩
    · have := HQ.out.lt b hb; omega
    · exact ⟨by have h1 := HP.out.1; rw [List.length_cons] at h1; exact Nat.le_of_succ_le h1, HP.out.2.1, HP.out.2.2.1, fun xs hx => HP.out.2.2.2 xs (List.mem_cons_of_mem _ hx)⟩
    · refine (O1.out.lies.turned T4 fun b hb e => ?_).mono fun b hb => ?_
      · have := O1.out.1.lt b hb; omega
      · have := O1.out.1.lt b hb
        exact ⟨Or.inr this.1, fun e => by have := HQ.out.lt b e; omega, by omega⟩
    · exact (Turned.of_keep (F := F) K1.out).trans (T4.mono fun i _ e => e ▸ HQ.out.at_) fun i e => Or.inl e
end Go.Proofs.Ythgplballiibnaa
