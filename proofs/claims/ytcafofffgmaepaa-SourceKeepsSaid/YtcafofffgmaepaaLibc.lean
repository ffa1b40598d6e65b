/- The library's slices.Clone, Grow and Concat at bytes. -/
import Derived.Test.YtcafofffgmaepaaNew
import Derived.Test.YtcafofffgmaepaaOpen
import Derived.WalkLawsBesides
import Derived.WalkSpells
namespace Go.Proofs.Ytcafofffgmaepaa
open Go.RowKit
set_option maxRecDepth 100000 in
theorem clone_any (B n c : Nat) (A : Option Addr) (xs : List Nat) (w : World) (h : Bytes w B A n xs) (hB : B ≤ w.heap.size) (hn : n ≤ 140737488355328) :
    Calls Try.prog 47 #[.slice A n c] w (NewBytes w xs) := by
  cases A with
  | none =>
    have h0 : n = 0 := by
      rcases Nat.eq_zero_or_pos n with e | e
      · exact e
      · obtain ⟨b, off, e, _⟩ := h.2.2 e; cases e
    subst h0
    have hx : xs = [] := List.eq_nil_of_length_eq_zero h.1
    subst hx
    have hq := fun (w : World) => Lib.run_eql_slice_nil (P := Try.prog) w 22 5 none 0 c 0 0 Try.underlying22
    clear h
    go_enter Try.func47, Try.ntmps47
    go_wp2_with fail
    go_ret
    exact ⟨none, 0, 0, rfl, Own.none_ _ _ _, Keep.refl _⟩
  | some ad =>
    have hq := fun (w : World) => Lib.run_eql_slice_nil (P := Try.prog) w 22 5 (some ad) n c 0 0 Try.underlying22
    have HO := Own.lit w 5 0 [] #[] rfl rfl (by omega) (by decide)
    have HB := Lib.hid (h.alloc hB (.cells #[] 5))
    clear h
    go_enter Try.func47, Try.ntmps47
    go_wp2_with (at_builtin; refine wpList_append_bytes rfl _ _ 22 rfl Try.underlying22 info5 rfl HO rfl HB.out ?c1 ?c2 ?_)
    case c1 => omega
    case c2 => simp
    intro A' c' w' hown hgr _
    have hk : Keep w w' := ((Keep.refl w).alloc #[] 5).grown hgr (fun k hk => by cases hk; exact Nat.le_refl _)
    go_wp2_with fail
    go_ret
    exact ⟨A', _, c', rfl, by simpa using hown, hk⟩
/-- append(nil, make([]byte, n)...), as the translation has it. -/
theorem run_append_zeros_nil {P : Program} {t u e : TypeId} (ht : P.underlying t = some (.slice e)) {k : IntKind} (hu : P.underlying u = some (.int k))
    (hi : (P.info? e).map (fun i => (i.zero, i.size, i.bytes)) = some (some (.int .u8 0), 1, 1)) (n : Nat) (h0 : 0 < n) (hn : n ≤ 140737488355328) (w : World) (ty : TypeId) :
    ∃ c w', (Builtin.append_ #[t, u] ty #[.slice none 0 0, .int .i64 (n : Int)]).run P w = .ok (.slice (some ⟨w.heap.size, 0, none⟩) n c) w' ∧ Own w' w.heap.size e (some ⟨w.heap.size, 0, none⟩) n c (List.replicate n 0) ∧ Keep w w' := by
  obtain ⟨i0, hi0, hz0, hz1, hz2⟩ := info_parts hi
  have hw : IntKind.i64.wrap (n : Int) = (n : Int) := IntWalk.i64_in _ (by omega)
  have hn0 : n ≠ 0 := by omega
  have hl : ¬ ((n : Int) < 0) := by omega
  have h63' : ¬ (9223372036854775807 < (n : Int)) := by omega
  have h48' : ¬ (281474976710656 < Builtin.nextslicecap n 0 * i0.bytes) := by rw [nextslicecap_zero h0, hz2]; omega
  have h48'' : ¬ ((281474976710656 : Int) < (n : Int) * (i0.bytes : Int)) := by rw [hz2]; omega
  have h48c : ¬ (281474976710656 < Builtin.nextslicecap n 0) := by rw [nextslicecap_zero h0]; omega
  have hge := grownCap_ge w n 0 e
  have hcm := grownCap_le_maxLen w n 0 e (by unfold maxLen; omega)
  refine ⟨grownCap w n 0 e, w.drew.alloc (.cells (Builtin.zeroCells #[.int .u8 0] n ++ Builtin.zeroCells #[.int .u8 0] (grownCap w n 0 e - n)) e), ?_, ?_, ?_⟩
  · simp [Builtin.append_, run_underlying ht, run_underlying hu, asInt, asIntOf, sizeOf, typeInfo, zeroValue, hi0, hz0, hz1, hz2, hw, hn0, hl, h63', h48c, Question.forced, run_firstCells_none, newRow, grownCap, Value.cells]
    intro h
    omega
  · refine ⟨⟨by simp [u8s], .inr ⟨w.heap.size, _, _, rfl, Nat.le_refl _, heap_alloc_new w.drew _, hge, hcm, ?_, ?_⟩⟩, AllB.zeros n⟩
    · simp [size_zeroCells]; omega
    · rw [u8s_zeros]
      apply List.ext_getElem
      · simp [Builtin.zeroCells]
      · intro i h1 h2
        simp [Builtin.zeroCells, Nat.mod_one]
  · exact ((Keep.refl w).drew).alloc _ _
theorem wpList_append_zeros {P : Program} {w : World} {ops : Array Oper} {rest : List Oper} {o : Oper} {a : Act} {Q : Exit → Act → World → Prop} (hgd : o.guard = none) (s x : Operand) (t u : TypeId)
    (ho : o.op = .call { callee := .builtin .append, args := #[s, x], argTypes := #[t, u] }) {e : TypeId} {k : IntKind} (ht : P.underlying t = some (.slice e)) (hu : P.underlying u = some (.int k))
    (hi : (P.info? e).map (fun i => (i.zero, i.size, i.bytes)) = some (some (.int .u8 0), 1, 1)) (n : Nat) (hs : a.eval s = .slice none 0 0) (hx : a.eval x = .int .i64 (n : Int)) (h0 : 0 < n) (hn : n ≤ 140737488355328)
    (h : ∀ c w', Own w' w.heap.size e (some ⟨w.heap.size, 0, none⟩) n c (List.replicate n 0) → Keep w w' → wpList P ops Q rest (a.put o.dst (.slice (some ⟨w.heap.size, 0, none⟩) n c)) w') : wpList P ops Q (o :: rest) a w := by
  refine wpList_plain hgd fun _ hK => ?_
  obtain ⟨c, w', hr, h2, h3⟩ := run_append_zeros_nil (P := P) ht hu hi n h0 hn w o.type
  unfold Oper.wp execOp
  simp only [ho, resolve, invoke, builtin, Sem.run_bind, Sem.run_pure, Result.andThen_ok, List.map_toArray, List.map_cons, List.map_nil, hs, hx, hr]
  exact hK _ _ (h c w' h2 h3)
theorem Own.nothing {w : World} {base e n c : Nat} {A : Option Addr} {xs : List Nat} (h : Own w base e A n c xs) : Own w base e A 0 c [] := by
  rcases h.1.2 with ⟨hv, h0⟩ | ⟨g, cap, cur, hv, hg, hh, hle, hm, hs, _⟩
  · injection hv with e1 e2 e3
    subst e1; subst e3
    exact Own.none_ _ _ _
  · injection hv with e1 e2 e3
    subst e1; subst e3
    exact ⟨⟨by simp [u8s], .inr ⟨g, _, cur, rfl, hg, hh, Nat.zero_le _, hm, hs, by simp [u8s]⟩⟩, fun x hx => by simp at hx⟩
set_option maxRecDepth 100000 in
theorem grow_nil (n : Nat) (w : World) (hn : n ≤ 140737488355328) :
    Calls Try.prog 103 #[.slice none 0 0, .int .i64 (n : Int)] w (NewBytes w []) := by
  by_cases h0 : n = 0
  · subst h0
    go_enter Try.func103, Try.ntmps103
    go_wp2_with fail
    go_ret
    exact ⟨none, 0, 0, rfl, Own.none_ _ _ _, Keep.refl _⟩
  · have b1 : ¬ ((n : Int) < 0) := by omega
    have b2 : (0 : Int) < (n : Int) := by omega
    have b3 : (0 : Int) ≤ (n : Int) := by omega
    go_enter Try.func103, Try.ntmps103
    go_wp2_with (at_builtin; refine wpList_append_zeros rfl _ _ 22 3 rfl Try.underlying22 Try.underlying3 info5 n rfl rfl (by omega) hn ?_)
    intro c w' hown hk
    have HO := Lib.hid hown.nothing
    have HK := Lib.hid hk
    have hle : (n : Int) ≤ (c : Int) := by
      rcases hown.1.2 with ⟨hv, h0⟩ | ⟨g, cap, cur, hv, _, _, hle, _⟩
      · omega
      · injection hv with _ _ h3; omega
    have hc0 : (0 : Int) ≤ (c : Int) := by omega
    clear hown hk
    go_wp2_with fail
    go_ret
    exact ⟨_, _, _, rfl, HO.out, HK.out⟩
/-- Rows, one behind the other. -/
def joinN (rs : List RowV) : List Nat := rs.flatMap (·.xs)
def sizesN (rs : List RowV) : Nat := (rs.map (·.n)).sum
theorem take_snoc_at {α : Type} {l : List α} {k : Nat} {r : α} (h : l[k]? = some r) : l.take (k + 1) = l.take k ++ [r] := by
  rw [List.take_add_one, h]; rfl
theorem sizesN_succ {rs : List RowV} {k : Nat} {r : RowV} (h : rs[k]? = some r) : sizesN (rs.take (k + 1)) = sizesN (rs.take k) + r.n := by
  rw [take_snoc_at h]; simp [sizesN]
theorem joinN_succ {rs : List RowV} {k : Nat} {r : RowV} (h : rs[k]? = some r) : joinN (rs.take (k + 1)) = joinN (rs.take k) ++ r.xs := by
  rw [take_snoc_at h]; simp [joinN]
theorem sizesN_le (rs : List RowV) (k : Nat) : sizesN (rs.take k) ≤ sizesN rs := by
  have h : rs = rs.take k ++ rs.drop k := (List.take_append_drop k rs).symm
  have : sizesN rs = sizesN (rs.take k) + sizesN (rs.drop k) := by
    conv => lhs; rw [h, sizesN, List.map_append, List.sum_append]
    rfl
  omega
/-- Slices of bytes in a row, of whatever capacities. -/
def RowsUp (w : World) (B : Nat) (A : Option Addr) (n : Nat) (rs : List RowV) : Prop :=
  rs.length = n ∧ (∀ r ∈ rs, Bytes w B r.A r.n r.xs) ∧ (0 < n → ∃ b off, A = some ⟨b, off, none⟩ ∧ b < B ∧ ∀ i r, rs[i]? = some r → w.cell? ⟨b, off + i, none⟩ = some (.slice r.A r.n r.c))
theorem RowsAt.up {w : World} {B n : Nat} {A : Option Addr} {rs : List RowV} (h : RowsAt w B A n rs) : RowsUp w B A n rs := ⟨h.1, fun r hr => (h.2.1 r hr).1, h.2.2⟩
theorem RowsUp.below {w w' : World} {B n : Nat} {A : Option Addr} {rs : List RowV} (h : RowsUp w B A n rs) (k : Below B w w') : RowsUp w' B A n rs :=
  ⟨h.1, fun r hr => (h.2.1 r hr).below k, fun hn => by
    obtain ⟨b, off, e, hb, hc⟩ := h.2.2 hn
    exact ⟨b, off, e, hb, fun i r hi => (k.cell (p := ⟨b, off + i, none⟩) hb).trans (hc i r hi)⟩⟩
theorem RowsUp.keep {w w' : World} {B n : Nat} {A : Option Addr} {rs : List RowV} (h : RowsUp w B A n rs) (hB : B ≤ w.heap.size) (k : Keep w w') : RowsUp w' B A n rs := h.below (Below.mono k hB)
theorem RowsUp.at_ {w : World} {B n : Nat} {A : Option Addr} {rs : List RowV} (h : RowsUp w B A n rs) {k : Nat} (hk : k < n) :
    ∃ b off r, A = some ⟨b, off, none⟩ ∧ b < B ∧ rs[k]? = some r ∧ w.cell? ⟨b, off + k, none⟩ = some (.slice r.A r.n r.c) ∧ Bytes w B r.A r.n r.xs := by
  obtain ⟨b, off, e, hb, hc⟩ := h.2.2 (by omega)
  have hl : k < rs.length := by rw [h.1]; exact hk
  have hr := List.getElem?_eq_getElem hl
  exact ⟨b, off, rs[k], e, hb, hr, hc k _ hr, h.2.1 _ (List.getElem_mem hl)⟩
/-- A literal of slices, its place said. -/
theorem RowsUp.lit {w : World} {h : Nat} (hh : w.heap.size = h) (t : TypeId) (n : Nat) (rs : List RowV) (cs : Array Value) (hc : cs = (rs.map RowV.val).toArray) (hl : rs.length = n) (hr : ∀ r ∈ rs, Bytes w h r.A r.n r.xs) :
    RowsUp (w.alloc (.cells cs t)) (h + 1) (some ⟨h, 0, none⟩) n rs := by
  subst hh
  refine ⟨hl, fun r h1 => ((hr r h1).alloc (Nat.le_refl _) _).mono (by omega), fun _ => ⟨_, 0, rfl, by omega, fun i r hi => ?_⟩⟩
  rw [cell_of_row _ _ _ _ _ _ (heap_alloc_new w _), hc, Nat.zero_add]
  simp [hi, RowV.val]
set_option maxRecDepth 100000 in
set_option maxHeartbeats 1000000 in
theorem concat_any (B n c : Nat) (A : Option Addr) (rs : List RowV) (w : World) (h : RowsUp w B A n rs) (hB : B ≤ w.heap.size) (hn : n ≤ 140737488355328) (ht : sizesN rs ≤ 140737488355328) :
    Calls Try.prog 71 #[.slice A n c] w (NewBytes w (joinN rs)) := by
  have HH := Lib.hid h
  have HL := Lib.hid h.1
  clear h
  go_enter Try.func71, Try.ntmps71
  go_wp2_with fail
  go_loop [3, 11] (fun t i => ∃ k : Nat, k ≤ n ∧ i = .int .i64 k ∧ t = .int .i64 (sizesN (rs.take k) : Nat)) (fun _ i => n - (intOf i).toNat)
  case atStart => exact ⟨0, by omega, rfl, rfl⟩
  case round =>
    obtain ⟨k, hk, rfl, rfl⟩ := hrel
    by_cases hlt : k < n
    · obtain ⟨b, off, r, rfl, hb, hr, hc, hby⟩ := HH.out.at_ hlt
      have e0 : (0 : Int) ≤ (k : Int) := Int.natCast_nonneg _
      have e1 : (k : Int) < (n : Int) := by omega
      have h1 := sizesN_succ hr
      have h2 := sizesN_le rs (k + 1)
      have h3 : sizesN (rs.take k) + r.n ≤ 140737488355328 := by omega
      have HS := Lib.hid h1
      obtain ⟨t, ht'⟩ : ∃ t, sizesN (rs.take k) = t := ⟨_, rfl⟩
      rw [ht'] at h3 HS ⊢
      have e2 : (0 : Int) ≤ (t : Int) + (r.n : Int) := by omega
      have e3 : ¬ ((t : Int) + (r.n : Int) < 0) := by omega
      clear h1 h2 hr hby ht'
      go_wp2_with fail
      go_round
      case rel => exact ⟨k + 1, by omega, by go_num, by rw [HS.out]; go_num⟩
      case measure => simp [intOf]; omega
    · obtain rfl : k = n := by omega
      have h3 : sizesN (rs.take k) ≤ 140737488355328 := Nat.le_trans (sizesN_le rs k) ht
      generalize sizesN (rs.take k) = t at *
      go_wp2_with fail
      refine (grow_nil t _ h3).mono ?_
      rintro e w1 ⟨A1, n1, c1, rfl, o1, k1⟩
      obtain rfl : n1 = 0 := o1.length.symm
      have O1 := Lib.hid o1
      have K1 := Lib.hid k1
      clear o1 k1
      go_wp2_with fail
      go_loopw [6, 27] (fun o i wr => ∃ (j : Nat) (Ao : Option Addr) (co : Nat), j ≤ k ∧ i = .int .i64 j ∧ o = .slice Ao (sizesN (rs.take j) : Nat) co ∧ Own wr w.heap.size 5 Ao (sizesN (rs.take j)) co (joinN (rs.take j)) ∧ Keep w wr) (fun _ i _ => k - (intOf i).toNat)
      case atStart => exact ⟨0, A1, c1, by omega, rfl, rfl, O1.out, K1.out⟩
      case round =>
        obtain ⟨j, Ao, co, hj, rfl, rfl, hown, hkeep⟩ := hrel
        have HO := Lib.hid hown
        have HK := Lib.hid hkeep
        clear hown hkeep
        by_cases hlt : j < k
        · obtain ⟨b, off, r, rfl, hb, hr, hc, hby⟩ := (HH.out.keep hB HK.out).at_ hlt
          have e0 : (0 : Int) ≤ (j : Int) := Int.natCast_nonneg _
          have e1 : (j : Int) < (k : Int) := by omega
          have h1 := sizesN_succ hr
          have h2 := sizesN_le rs (j + 1)
          have h3 : sizesN (rs.take j) + r.n ≤ 140737488355328 := by omega
          have HS := Lib.hid h1
          have HJ := Lib.hid (joinN_succ hr)
          have HBY := Lib.hid hby
          clear h1 h2 hr hby
          go_wp2_with (at_builtin; refine wpList_append_bytes rfl _ _ 22 rfl Try.underlying22 info5 rfl HO.out rfl HBY.out h3 HK.out.size ?_)
          intro A2 c2 w2 h2 hgr2 _
          have HO2 := Lib.hid h2
          have HK2 := Lib.hid (HK.out.grown hgr2 HO.out.rowLe)
          clear h2 hgr2
          go_wp2_with fail
          go_roundw
          case rel => exact ⟨j + 1, A2, c2, by omega, by go_num, by rw [HS.out], by rw [HS.out, HJ.out]; exact HO2.out, HK2.out⟩
          case measure => simp [intOf]; omega
        · obtain rfl : j = k := by omega
          go_wp2_with fail
          go_ret
          refine ⟨Ao, _, co, rfl, ?_, HK.out⟩
          have e := HO.out
          rw [List.take_of_length_le (by rw [HL.out]; exact Nat.le_refl _)] at e
          rw [List.take_of_length_le (by rw [HL.out]; exact Nat.le_refl _)]
          exact e
end Go.Proofs.Ytcafofffgmaepaa
