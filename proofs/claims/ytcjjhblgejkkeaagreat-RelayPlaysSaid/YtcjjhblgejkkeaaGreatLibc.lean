/- The library's slices.Clone, Grow and Concat at bytes. -/
import Derived.Test.YtcjjhblgejkkeaaGreatNew
import Derived.Test.YtcjjhblgejkkeaaGreatOpen
import Derived.WalkLawsBesides
import Derived.WalkSpells
namespace Go.Proofs.YtcjjhblgejkkeaaGreat
open Go.RowKit
set_option maxRecDepth 100000 in
theorem clone_any (B n c : Nat) (A : Option Addr) (xs : List Nat) (w : World) (h : Bytes w B A n xs) (hB : B ≤ w.heap.size) (hn : n ≤ 140737488355328) :
    Calls Tryz.prog 106 #[.slice A n c] w (NewBytes w xs) := by
  cases A with
  | none =>
    have h0 : n = 0 := by
      rcases Nat.eq_zero_or_pos n with e | e
      · exact e
      · obtain ⟨b, off, e, _⟩ := h.2.2 e; cases e
    subst h0
    have hx : xs = [] := List.eq_nil_of_length_eq_zero h.1
    subst hx
    have hq := fun (w : World) => Lib.run_eql_slice_nil (P := Tryz.prog) w 32 5 none 0 c 0 0 Tryz.underlying32
    clear h
    go_enter Tryz.func106, Tryz.ntmps106
    go_wp2_with fail
    go_ret
    exact ⟨none, 0, 0, rfl, Own.none_ _ _ _, Keep.refl _⟩
  | some ad =>
    have hq := fun (w : World) => Lib.run_eql_slice_nil (P := Tryz.prog) w 32 5 (some ad) n c 0 0 Tryz.underlying32
    have HO := Own.lit w 5 0 [] #[] rfl rfl (by omega) (by decide)
    have HB := Lib.hid (h.alloc hB (.cells #[] 5))
    clear h
    go_enter Tryz.func106, Tryz.ntmps106
    go_wp2_with (at_builtin; refine wpList_append_bytes rfl _ _ 32 rfl Tryz.underlying32 info5 rfl HO rfl HB.out ?c1 ?c2 ?_)
    case c1 => omega
    case c2 => simp
    intro A' c' w' hown hgr _
    have hk : Keep w w' := ((Keep.refl w).alloc #[] 5).grown hgr (fun k hk => by cases hk; exact Nat.le_refl _)
    go_wp2_with fail
    go_ret
    exact ⟨A', _, c', rfl, by simpa using hown, hk⟩
/-- append(nil, make([]byte, n)...), as the translation has it. -/
theorem run_append_zeros_nil {P : Program} {t u e : TypeId} (ht : P.underlying t = some (.slice e)) {k : IntKind} (hu : P.underlying u = some (.int k))
    (hi : (P.info? e).map (fun i => (i.zero, i.size, i.bytes)) = some (some (.int .u8 0), 1, 1)) (n : Nat) (h0 : 0 < n) (hn : n ≤ 140737488355328) (w : World) (ty : TypeId) :
    ∃ c w', (Builtin.append_ #[t, u] ty #[.slice none 0 0, .int .i64 (n : Int)]).run P w = .ok (.slice (some ⟨w.heap.size, 0, none⟩) n c) w' ∧ Own w' w.heap.size e (some ⟨w.heap.size, 0, none⟩) n c (List.replicate n 0) ∧ Keep w w' := by
  obtain ⟨i0, hi0, hz0, hz1, hz2⟩ := info_parts hi
  have hw : IntKind.i64.wrap (n : Int) = (n : Int) := IntWalk.i64_in _ (by omega)
  have hn0 : n ≠ 0 := by omega
  have hl : ¬ ((n : Int) < 0) := by omega
  have h63' : ¬ (9223372036854775807 < (n : Int)) := by omega
  have h48' : ¬ (281474976710656 < Builtin.nextslicecap n 0 * i0.bytes) := by rw [nextslicecap_zero h0, hz2]; omega
  have h48'' : ¬ ((281474976710656 : Int) < (n : Int) * (i0.bytes : Int)) := by rw [hz2]; omega
  have h48c : ¬ (281474976710656 < Builtin.nextslicecap n 0) := by rw [nextslicecap_zero h0]; omega
  have hge := grownCap_ge w n 0 e
  have hcm := grownCap_le_maxLen w n 0 e (by unfold maxLen; omega)
  refine ⟨grownCap w n 0 e, w.drew.alloc (.cells (Builtin.zeroCells #[.int .u8 0] n ++ Builtin.zeroCells #[.int .u8 0] (grownCap w n 0 e - n)) e), ?_, ?_, ?_⟩
  · simp [Builtin.append_, run_underlying ht, run_underlying hu, asInt, asIntOf, sizeOf, typeInfo, zeroValue, hi0, hz0, hz1, hz2, hw, hn0, hl, h63', h48c, Question.forced, run_firstCells_none, newRow, grownCap, Value.cells]
    intro h
    omega
  · refine ⟨⟨by simp [u8s], .inr ⟨w.heap.size, _, _, rfl, Nat.le_refl _, heap_alloc_new w.drew _, hge, hcm, ?_, ?_⟩⟩, AllB.zeros n⟩
    · simp [size_zeroCells]; omega
    · rw [u8s_zeros]
      apply List.ext_getElem
      · simp [Builtin.zeroCells]
      · intro i h1 h2
        simp [Builtin.zeroCells, Nat.mod_one]
  · exact ((Keep.refl w).drew).alloc _ _
theorem wpList_append_zeros {P : Program} {w : World} {ops : Array Oper} {rest : List Oper} {o : Oper} {a : Act} {Q : Exit → Act → World → Prop} (hgd : o.guard = none) (s x : Operand) (t u : TypeId)
    (ho : o.op = .call { callee := .builtin .append, args := #[s, x], argTypes := #[t, u] }) {e : TypeId} {k : IntKind} (ht : P.underlying t = some (.slice e)) (hu : P.underlying u = some (.int k))
    (hi : (P.info? e).map (fun i => (i.zero, i.size, i.bytes)) = some (some (.int .u8 0), 1, 1)) (n : Nat) (hs : a.eval s = .slice none 0 0) (hx : a.eval x = .int .i64 (n : Int)) (h0 : 0 < n) (hn : n ≤ 140737488355328)
    (h : ∀ c w', Own w' w.heap.size e (some ⟨w.heap.size, 0, none⟩) n c (List.replicate n 0) → Keep w w' → wpList P ops Q rest (a.put o.dst (.slice (some ⟨w.heap.size, 0, none⟩) n c)) w') : wpList P ops Q (o :: rest) a w := by
  refine wpList_plain hgd fun _ hK => ?_
  obtain ⟨c, w', hr, h2, h3⟩ := run_append_zeros_nil (P := P) ht hu hi n h0 hn w o.type
  unfold Oper.wp execOp
  simp only [ho, resolve, invoke, builtin, Sem.run_bind, Sem.run_pure, Result.andThen_ok, List.map_toArray, List.map_cons, List.map_nil, hs, hx, hr]
  exact hK _ _ (h c w' h2 h3)
theorem Own.nothing {w : World} {base e n c : Nat} {A : Option Addr} {xs : List Nat} (h : Own w base e A n c xs) : Own w base e A 0 c [] := by
  rcases h.1.2 with ⟨hv, h0⟩ | ⟨g, cap, cur, hv, hg, hh, hle, hm, hs, _⟩
  · injection hv with e1 e2 e3
    subst e1; subst e3
    exact Own.none_ _ _ _
  · injection hv with e1 e2 e3
    subst e1; subst e3
    exact ⟨⟨by simp [u8s], .inr ⟨g, _, cur, rfl, hg, hh, Nat.zero_le _, hm, hs, by simp [u8s]⟩⟩, fun x hx => by simp at hx⟩
/-- Rows, one behind the other. -/
def joinN (rs : List RowV) : List Nat := rs.flatMap (·.xs)
def sizesN (rs : List RowV) : Nat := (rs.map (·.n)).sum
theorem take_snoc_at {α : Type} {l : List α} {k : Nat} {r : α} (h : l[k]? = some r) : l.take (k + 1) = l.take k ++ [r] := by
  rw [List.take_add_one, h]; rfl
theorem sizesN_succ {rs : List RowV} {k : Nat} {r : RowV} (h : rs[k]? = some r) : sizesN (rs.take (k + 1)) = sizesN (rs.take k) + r.n := by
  rw [take_snoc_at h]; simp [sizesN]
theorem joinN_succ {rs : List RowV} {k : Nat} {r : RowV} (h : rs[k]? = some r) : joinN (rs.take (k + 1)) = joinN (rs.take k) ++ r.xs := by
  rw [take_snoc_at h]; simp [joinN]
theorem sizesN_le (rs : List RowV) (k : Nat) : sizesN (rs.take k) ≤ sizesN rs := by
  have h : rs = rs.take k ++ rs.drop k := (List.take_append_drop k rs).symm
  have : sizesN rs = sizesN (rs.take k) + sizesN (rs.drop k) := by
    conv => lhs; rw [h, sizesN, List.map_append, List.sum_append]
    rfl
  omega
/-- Slices of bytes in a row, of whatever capacities. -/
def RowsUp (w : World) (B : Nat) (A : Option Addr) (n : Nat) (rs : List RowV) : Prop :=
  rs.length = n ∧ (∀ r ∈ rs, Bytes w B r.A r.n r.xs) ∧ (0 < n → ∃ b off, A = some ⟨b, off, none⟩ ∧ b < B ∧ ∀ i r, rs[i]? = some r → w.cell? ⟨b, off + i, none⟩ = some (.slice r.A r.n r.c))
theorem RowsAt.up {w : World} {B n : Nat} {A : Option Addr} {rs : List RowV} (h : RowsAt w B A n rs) : RowsUp w B A n rs := ⟨h.1, fun r hr => (h.2.1 r hr).1, h.2.2⟩
theorem RowsUp.below {w w' : World} {B n : Nat} {A : Option Addr} {rs : List RowV} (h : RowsUp w B A n rs) (k : Below B w w') : RowsUp w' B A n rs :=
  ⟨h.1, fun r hr => (h.2.1 r hr).below k, fun hn => by
    obtain ⟨b, off, e, hb, hc⟩ := h.2.2 hn
    exact ⟨b, off, e, hb, fun i r hi => (k.cell (p := ⟨b, off + i, none⟩) hb).trans (hc i r hi)⟩⟩
theorem RowsUp.keep {w w' : World} {B n : Nat} {A : Option Addr} {rs : List RowV} (h : RowsUp w B A n rs) (hB : B ≤ w.heap.size) (k : Keep w w') : RowsUp w' B A n rs := h.below (Below.mono k hB)
theorem RowsUp.at_ {w : World} {B n : Nat} {A : Option Addr} {rs : List RowV} (h : RowsUp w B A n rs) {k : Nat} (hk : k < n) :
    ∃ b off r, A = some ⟨b, off, none⟩ ∧ b < B ∧ rs[k]? = some r ∧ w.cell? ⟨b, off + k, none⟩ = some (.slice r.A r.n r.c) ∧ Bytes w B r.A r.n r.xs := by
  obtain ⟨b, off, e, hb, hc⟩ := h.2.2 (by omega)
  have hl : k < rs.length := by rw [h.1]; exact hk
  have hr := List.getElem?_eq_getElem hl
  exact ⟨b, off, rs[k], e, hb, hr, hc k _ hr, h.2.1 _ (List.getElem_mem hl)⟩
/-- A literal of slices, its place said. -/
theorem RowsUp.lit {w : World} {h : Nat} (hh : w.heap.size = h) (t : TypeId) (n : Nat) (rs : List RowV) (cs : Array Value) (hc : cs = (rs.map RowV.val).toArray) (hl : rs.length = n) (hr : ∀ r ∈ rs, Bytes w h r.A r.n r.xs) :
    RowsUp (w.alloc (.cells cs t)) (h + 1) (some ⟨h, 0, none⟩) n rs := by
  subst hh
  refine ⟨hl, fun r h1 => ((hr r h1).alloc (Nat.le_refl _) _).mono (by omega), fun _ => ⟨_, 0, rfl, by omega, fun i r hi => ?_⟩⟩
  rw [cell_of_row _ _ _ _ _ _ (heap_alloc_new w _), hc, Nat.zero_add]
  simp [hi, RowV.val]
end Go.Proofs.YtcjjhblgejkkeaaGreat
