/- append of bytes beyond 2^47: what the growing of a slice bears. -/
import Derived.Test.YtcafofffgmaepaaBytes
import Derived.Tactics
namespace Go.Proofs.Ytcafofffgmaepaa
set_option linter.unusedVariables false
set_option linter.unusedSimpArgs false
open Go.RowKit
theorem cap_fits {need old : Nat} (h : old < need) (hn : need ≤ 150000000000000) : Builtin.nextslicecap need old ≤ 281474976710656 := by
  unfold Builtin.nextslicecap
  split
  · omega
  · split
    · omega
    · rw [growBy_four]
      repeat' split
      all_goals omega
section
variable {P : Program}
theorem append_fresh {w : World} {base e : Nat} (xs ys : List Nat) (old : Nat) (hb : base ≤ w.heap.size) (hl : xs.length + ys.length ≤ 150000000000000) (ho : old < xs.length + ys.length) (hx : AllB xs) (hy : AllB ys) (cs : Array Value)
    (hc : cs = (u8s xs).toArray ++ (u8s ys).toArray ++ Builtin.zeroCells (Value.int .u8 0).cells (grownCap w (xs.length + ys.length) old e - (xs.length + ys.length))) :
    Own (w.drew.alloc (.cells cs e)) base e (some ⟨w.heap.size, 0, none⟩) (xs.length + ys.length) (grownCap w (xs.length + ys.length) old e) (xs ++ ys) := by
  have h1 := grownCap_ge w (xs.length + ys.length) old e
  have h2 := grownCap_le_maxLen w (xs.length + ys.length) old e (by unfold maxLen; omega)
  refine ⟨⟨by simp [u8s], .inr ⟨w.heap.size, _, _, rfl, hb, heap_alloc_new w.drew _, h1, h2, ?_, ?_⟩⟩, hx.append hy⟩
  · rw [hc]
    simp [size_zeroCells, u8s, Value.cells]
    omega
  · rw [hc, u8s_append]
    simp only [Array.toList_append]
    rw [List.take_append_of_le_length (by simp [u8s]), List.take_of_length_le (by simp [u8s])]
theorem run_append_wide {w : World} {base n c B m cx t e : Nat} {A A' : Option Addr} {xs ys : List Nat} (ht : P.underlying t = some (.slice e))
    (hi : (P.info? e).map (fun i => (i.zero, i.size, i.bytes)) = some (some (.int .u8 0), 1, 1)) (hown : Own w base e A n c xs) (hx : Bytes w B A' m ys) (hlen : n + m ≤ 150000000000000) (hbase : base ≤ w.heap.size) (ty : TypeId) :
    ∃ A2 c2 w', (Builtin.append_ #[t, t] ty #[.slice A n c, .slice A' m cx]).run P w = .ok (.slice A2 (n + m) c2) w' ∧ Own w' base e A2 (n + m) c2 (xs ++ ys) ∧ w.grownBy w' (Value.slice A n c).ownBlock := by
  by_cases h47 : n + m ≤ 140737488355328
  · obtain ⟨A2, c2, w', h1, h2, h3, _⟩ := run_append_bytes (P := P) (cx := cx) ht hi hown hx h47 hbase ty
    exact ⟨A2, c2, w', h1, h2, h3⟩
  obtain ⟨i0, hi0, hz0, hz1, hz2⟩ := info_parts hi
  obtain rfl : xs.length = n := hown.length
  obtain rfl : ys.length = m := hx.length
  by_cases hm : ys.length = 0
  · have hy : ys = [] := List.eq_nil_of_length_eq_zero hm
    subst hy
    refine ⟨A, c, w, ?_, by simpa using hown, World.grownBy.refl w _⟩
    have ha : ∃ ad, A = some ad := by
      rcases hown.1.2 with ⟨hv, h0⟩ | ⟨g, cap, cur, hv, _⟩
      · simp at h47; omega
      · injection hv with e1; exact ⟨_, e1⟩
    obtain ⟨ad, rfl⟩ := ha
    have hle : xs.length ≤ c := by
      rcases hown.1.2 with ⟨hv, h0⟩ | ⟨g, cap, cur, hv, _, _, hle, _⟩
      · cases hv
      · injection hv with _ _ e3; omega
    cases A' with
    | none => simp [Builtin.append_, run_underlying ht, sizeOf, typeInfo, hi0, Builtin.lenOf, Builtin.firstCells, hle, storeCells]
    | some a2 =>
      have hf := run_firstCells_some (P := P) w i0.size 0 a2 0 cx [] (by simp) (fun j u hu => by simp at hu)
      simp [Builtin.append_, run_underlying ht, sizeOf, typeInfo, hi0, Builtin.lenOf, hle, hf, storeCells]
  obtain ⟨b, off, rfl, _, _⟩ := hx.2.2 (by omega)
  have hnews := hx.cells (by omega)
  have hl : (u8s ys).length = ys.length * i0.size := by rw [u8s_length, hz1, Nat.mul_one]
  rcases hown.1.2 with ⟨hv, h0⟩ | ⟨g, cap, cur, hv, hbg, hg, hnc, hcm, hcs, htake⟩
  · injection hv with e1 e2 e3
    subst e1
    have hxs : xs = [] := List.eq_nil_of_length_eq_zero e2
    subst hxs
    have hr := run_append_nil (P := P) w t ty e i0 (.int .u8 0) ht hi0 hz0 ⟨b, off, none⟩ ys.length cx (u8s ys) hl hnews (by omega) (by simp at hlen; omega) (by rw [hz2]; simp at hlen; omega)
    subst e3
    refine ⟨some ⟨w.heap.size, 0, none⟩, grownCap w ys.length 0 e, w.drew.alloc (.cells ((u8s ys).toArray ++ Builtin.zeroCells (Value.int .u8 0).cells (grownCap w ys.length 0 e - ys.length)) e), by simpa using hr, ?_, ⟨rfl, rfl, rfl, by simp, fun k hk _ => heap_alloc_old w.drew _ k hk⟩⟩
    have hf := append_fresh (w := w) (e := e) [] ys 0 hbase (by simpa using hlen) (by simp; omega) (fun x hx => by simp at hx) hx.2.1 _ rfl
    simpa [u8s] using hf
  · injection hv with e1 e2 e3
    subst e1; subst e3
    by_cases hroom : xs.length + ys.length ≤ c
    · have hr := run_append_room (P := P) w t ty e i0 ht hi0 g xs.length c cur hg ⟨b, off, none⟩ ys.length cx (u8s ys) hl hnews (u8s_one ys) hroom (by rw [u8s_length, hz1, hcs]; omega)
      refine ⟨_, _, _, hr, ⟨⟨by simp [u8s], .inr ⟨g, _, _, rfl, hbg, setRow_heap w g cur _ e _ hg, hroom, hcm, ?_, ?_⟩⟩, hown.2.append hx.2.1⟩, ⟨rfl, rfl, rfl, by simp, fun k _ hk => setRow_other w g k _ (fun e => hk (by simp [Value.ownBlock, e]))⟩⟩
      · simp only [List.size_toArray, List.length_append, List.length_take, List.length_drop, Array.length_toList, u8s_length]
        rw [hz1, hcs]
        omega
      · rw [Nat.mul_one] at htake
        simp only [hz1, Nat.mul_one]
        rw [htake, u8s_append]
        rw [List.take_append_of_le_length (by simp [u8s]), List.take_of_length_le (by simp [u8s])]
    · have holds : ∀ j u, (u8s xs)[j]? = some u → w.cell? ((⟨g, 0, none⟩ : Addr).add j) = some u := hown.1.cells (g := g) rfl
      have hr := run_append_grow (P := P) w t ty e i0 (.int .u8 0) ht hi0 hz0 ⟨g, 0, none⟩ xs.length c (u8s xs) (by rw [u8s_length, hz1, Nat.mul_one]) holds ⟨b, off, none⟩ ys.length cx (u8s ys) hl hnews (by omega) (by omega) (by rw [hz2, Nat.mul_one]; exact cap_fits (by omega) hlen)
      exact ⟨_, _, _, hr, append_fresh xs ys c hbase hlen (by omega) hown.2 hx.2.1 _ rfl, ⟨rfl, rfl, rfl, by simp, fun k hk _ => heap_alloc_old w.drew _ k hk⟩⟩
theorem wpList_append_wide {w : World} {ops : Array Oper} {rest : List Oper} {o : Oper} {a : Act} {Q : Exit → Act → World → Prop} (hgd : o.guard = none) (s x : Operand) (t : TypeId)
    (ho : o.op = .call { callee := .builtin .append, args := #[s, x], argTypes := #[t, t] }) {base n c B m cx e : Nat} {A A' : Option Addr} {xs ys : List Nat} (ht : P.underlying t = some (.slice e))
    (hi : (P.info? e).map (fun i => (i.zero, i.size, i.bytes)) = some (some (.int .u8 0), 1, 1)) (hs : a.eval s = .slice A n c) (hown : Own w base e A n c xs) (hx0 : a.eval x = .slice A' m cx) (hx : Bytes w B A' m ys) (hlen : n + m ≤ 150000000000000) (hbase : base ≤ w.heap.size)
    (h : ∀ A2 c2 w', Own w' base e A2 (n + m) c2 (xs ++ ys) → w.grownBy w' (Value.slice A n c).ownBlock → wpList P ops Q rest (a.put o.dst (.slice A2 (n + m) c2)) w') : wpList P ops Q (o :: rest) a w := by
  refine wpList_plain hgd fun _ hK => ?_
  obtain ⟨A2, c2, w', hr, h2, h3⟩ := run_append_wide (P := P) (cx := cx) ht hi hown hx hlen hbase o.type
  unfold Oper.wp execOp
  simp only [ho, resolve, invoke, builtin, Sem.run_bind, Sem.run_pure, Result.andThen_ok, List.map_toArray, List.map_cons, List.map_nil, hs, hx0, hr]
  exact hK _ _ (h A2 c2 w' h2 h3)
/-- .. where the operation is guarded, and its guard lets it by. -/
theorem wpList_append_guarded {w : World} {ops : Array Oper} {rest : List Oper} {o : Oper} {a : Act} {Q : Exit → Act → World → Prop} (hw : Region.wanted o (yielded ops a.tmps) = true) (s x : Operand) (t : TypeId)
    (ho : o.op = .call { callee := .builtin .append, args := #[s, x], argTypes := #[t, t] }) {base n c B m cx e : Nat} {A A' : Option Addr} {xs ys : List Nat} (ht : P.underlying t = some (.slice e))
    (hi : (P.info? e).map (fun i => (i.zero, i.size, i.bytes)) = some (some (.int .u8 0), 1, 1)) (hs : a.eval s = .slice A n c) (hown : Own w base e A n c xs) (hx0 : a.eval x = .slice A' m cx) (hx : Bytes w B A' m ys) (hlen : n + m ≤ 150000000000000) (hbase : base ≤ w.heap.size)
    (h : ∀ A2 c2 w', Own w' base e A2 (n + m) c2 (xs ++ ys) → w.grownBy w' (Value.slice A n c).ownBlock → wpList P ops Q rest (a.put o.dst (.slice A2 (n + m) c2)) w') : wpList P ops Q (o :: rest) a w := by
  refine wpList_step fun K hK => ?_
  rw [if_pos hw]
  obtain ⟨A2, c2, w', hr, h2, h3⟩ := run_append_wide (P := P) (cx := cx) ht hi hown hx hlen hbase o.type
  unfold Oper.wp execOp
  simp only [ho, resolve, invoke, builtin, Sem.run_bind, Sem.run_pure, Result.andThen_ok, List.map_toArray, List.map_cons, List.map_nil, hs, hx0, hr]
  exact hK _ _ (h A2 c2 w' h2 h3)
end
end Go.Proofs.Ytcafofffgmaepaa
