/- The landed code of layer 8: lists of rows joined; their width; sums. -/
import Derived.Test.YtcjjhblgejkkeaaGreatSw
import Derived.Test.YtcjjhblgejkkeaaGreatSpl
import Derived.Test.YtcjjhblgejkkeaaGreatLibc
import Derived.Test.YtcjjhblgejkkeaaGreatRegion
namespace Go.Proofs.YtcjjhblgejkkeaaGreat
open Go.RowKit
set_option linter.unusedVariables false
set_option linter.unusedSimpArgs false
/-- append(nil, make([][]byte, n)...), as the translation has it. -/
theorem run_append_nils {P : Program} {t u e : TypeId} (ht : P.underlying t = some (.slice e)) {k : IntKind} (hu : P.underlying u = some (.int k))
    (hi : (P.info? e).map (fun i => (i.zero, i.size, i.bytes)) = some (some (.slice none 0 0), 1, 24)) (n : Nat) (h0 : 0 < n) (hn : n ≤ 1000000) (w : World) (ty : TypeId) :
    ∃ c w', (Builtin.append_ #[t, u] ty #[.slice none 0 0, .int .i64 (n : Int)]).run P w = .ok (.slice (some ⟨w.heap.size, 0, none⟩) n c) w' ∧ OwnRows w' w.heap.size e (some ⟨w.heap.size, 0, none⟩) n c (List.replicate n ⟨none, 0, 0, []⟩) ∧ Keep w w' := by
  obtain ⟨i0, hi0, hz0, hz1, hz2⟩ := info_parts hi
  have hw : IntKind.i64.wrap (n : Int) = (n : Int) := IntWalk.i64_in _ (by omega)
  have hn0 : n ≠ 0 := by omega
  have hl : ¬ ((n : Int) < 0) := by omega
  have h63' : ¬ (9223372036854775807 < (n : Int)) := by omega
  have h48' : ¬ (281474976710656 < Builtin.nextslicecap n 0 * i0.bytes) := by rw [nextslicecap_zero h0, hz2]; omega
  have h48'' : ¬ ((281474976710656 : Int) < (n : Int) * (i0.bytes : Int)) := by rw [hz2]; omega
  have h48c : ¬ (281474976710656 < Builtin.nextslicecap n 0 * 24) := by rw [nextslicecap_zero h0]; omega
  have h48d : ¬ ((281474976710656 : Int) < (n : Int) * 24) := by omega
  have hge := grownCap_ge w n 0 e
  have hcm := grownCap_le_maxLen w n 0 e (by unfold maxLen; omega)
  refine ⟨grownCap w n 0 e, w.drew.alloc (.cells (Builtin.zeroCells #[.slice none 0 0] n ++ Builtin.zeroCells #[.slice none 0 0] (grownCap w n 0 e - n)) e), ?_, ?_, ?_⟩
  · simp [Builtin.append_, run_underlying ht, run_underlying hu, asInt, asIntOf, sizeOf, typeInfo, zeroValue, hi0, hz0, hz1, hz2, hw, hn0, hl, h63', h48c, h48d, Question.forced, run_firstCells_none, newRow, grownCap, Value.cells]
    all_goals (intro h; omega)
  · refine ⟨by simp, .inr ⟨w.heap.size, _, _, rfl, Nat.le_refl _, heap_alloc_new w.drew _, hge, hcm, ?_, ?_⟩⟩
    · simp [size_zeroCells]; omega
    · apply List.ext_getElem
      · simp [Builtin.zeroCells]
      · intro i h1 h2
        simp [Builtin.zeroCells, Nat.mod_one, RowV.val]
  · exact ((Keep.refl w).drew).alloc _ _
theorem wpList_append_nils {P : Program} {w : World} {ops : Array Oper} {rest : List Oper} {o : Oper} {a : Act} {Q : Exit → Act → World → Prop} (hgd : o.guard = none) (s x : Operand) (t u : TypeId)
    (ho : o.op = .call { callee := .builtin .append, args := #[s, x], argTypes := #[t, u] }) {e : TypeId} {k : IntKind} (ht : P.underlying t = some (.slice e)) (hu : P.underlying u = some (.int k))
    (hi : (P.info? e).map (fun i => (i.zero, i.size, i.bytes)) = some (some (.slice none 0 0), 1, 24)) (n : Nat) (hs : a.eval s = .slice none 0 0) (hx : a.eval x = .int .i64 (n : Int)) (h0 : 0 < n) (hn : n ≤ 1000000)
    (h : ∀ c w', OwnRows w' w.heap.size e (some ⟨w.heap.size, 0, none⟩) n c (List.replicate n ⟨none, 0, 0, []⟩) → Keep w w' → wpList P ops Q rest (a.put o.dst (.slice (some ⟨w.heap.size, 0, none⟩) n c)) w') : wpList P ops Q (o :: rest) a w := by
  refine wpList_plain hgd fun _ hK => ?_
  obtain ⟨c, w', hr, h2, h3⟩ := run_append_nils (P := P) ht hu hi n h0 hn w o.type
  unfold Oper.wp execOp
  simp only [ho, resolve, invoke, builtin, Sem.run_bind, Sem.run_pure, Result.andThen_ok, List.map_toArray, List.map_cons, List.map_nil, hs, hx, hr]
  exact hK _ _ (h c w' h2 h3)
theorem OwnRows.nothing {w : World} {base e n c : Nat} {A : Option Addr} {rs : List RowV} (h : OwnRows w base e A n c rs) : OwnRows w base e A 0 c [] := by
  rcases h.2 with ⟨hv, h0⟩ | ⟨g, cap, cur, hv, hg, hh, hle, hm, hs, _⟩
  · injection hv with e1 e2 e3
    subst e1; subst e3
    exact OwnRows.none_ _ _ _
  · injection hv with e1 e2 e3
    subst e1; subst e3
    exact ⟨by simp, .inr ⟨g, _, cur, rfl, hg, hh, Nat.zero_le _, hm, hs, by simp⟩⟩
set_option maxRecDepth 100000 in
theorem grow_rows (n : Nat) (w : World) (hn : n ≤ 1000000) :
    Calls Tryz.prog 132 #[.slice none 0 0, .int .i64 (n : Int)] w fun e w' => ∃ A c, e = .returned (.slice A 0 c) ∧ Lay w w' A 0 c [] := by
  by_cases h0 : n = 0
  · subst h0
    go_enter Tryz.func132, Tryz.ntmps132
    go_wp2_with fail
    go_ret
    exact ⟨none, 0, rfl, Lay.nothing _⟩
  · have b1 : ¬ ((n : Int) < 0) := by omega
    have b2 : (0 : Int) < (n : Int) := by omega
    have b3 : (0 : Int) ≤ (n : Int) := by omega
    go_enter Tryz.func132, Tryz.ntmps132
    go_wp2_with (at_builtin; refine wpList_append_nils rfl _ _ 47 3 rfl Tryz.underlying47 Tryz.underlying3 infoRow n rfl rfl (by omega) hn ?_)
    intro c w' hown hk
    have HO := Lib.hid hown.nothing
    have HK := Lib.hid hk
    have hle : (n : Int) ≤ (c : Int) := by
      have := ownrows_le hown
      omega
    have hc0 : (0 : Int) ≤ (c : Int) := by omega
    clear hown hk
    go_wp2_with fail
    go_ret
    exact ⟨_, _, rfl, HO.out, fun r hr => by simp at hr, HK.out⟩
/-- Lists of rows, one behind the other. -/
def joinL (ls : List MV) : List (List Nat) := ls.flatMap (·.M)
def sizesL (ls : List MV) : Nat := (ls.map (·.n)).sum
theorem sizesL_succ {ls : List MV} {k : Nat} {r : MV} (h : ls[k]? = some r) : sizesL (ls.take (k + 1)) = sizesL (ls.take k) + r.n := by
  rw [take_snoc_at h]; simp [sizesL]
theorem joinL_succ {ls : List MV} {k : Nat} {r : MV} (h : ls[k]? = some r) : joinL (ls.take (k + 1)) = joinL (ls.take k) ++ r.M := by
  rw [take_snoc_at h]; simp [joinL]
theorem sizesL_le (ls : List MV) (k : Nat) : sizesL (ls.take k) ≤ sizesL ls := by
  have h : ls = ls.take k ++ ls.drop k := (List.take_append_drop k ls).symm
  have : sizesL ls = sizesL (ls.take k) + sizesL (ls.drop k) := by
    conv => lhs; rw [h, sizesL, List.map_append, List.sum_append]
    rfl
  omega
/-- A slice of lists of rows. -/
def ListsAt (w : World) (A : Option Addr) (m : Nat) (ls : List MV) : Prop :=
  ls.length = m ∧ (∀ x ∈ ls, Mat w x) ∧ (0 < m → ∃ b off, A = some ⟨b, off, none⟩ ∧ b < w.heap.size ∧ ∀ i x, ls[i]? = some x → w.cell? ⟨b, off + i, none⟩ = some (.slice x.A x.n x.c))
theorem ListsAt.keep {w w' : World} {A : Option Addr} {m : Nat} {ls : List MV} (h : ListsAt w A m ls) (k : Keep w w') : ListsAt w' A m ls :=
  ⟨h.1, fun x hx => (h.2.1 x hx).keep k, fun hn => by
    obtain ⟨b, off, e, hb, hc⟩ := h.2.2 hn
    exact ⟨b, off, e, Nat.lt_of_lt_of_le hb k.size, fun i r hi => (k.cell (p := ⟨b, off + i, none⟩) hb).trans (hc i r hi)⟩⟩
theorem ListsAt.at_ {w : World} {A : Option Addr} {m : Nat} {ls : List MV} (h : ListsAt w A m ls) {k : Nat} (hk : k < m) :
    ∃ b off x, A = some ⟨b, off, none⟩ ∧ b < w.heap.size ∧ ls[k]? = some x ∧ w.cell? ⟨b, off + k, none⟩ = some (.slice x.A x.n x.c) ∧ Mat w x := by
  obtain ⟨b, off, e, hb, hc⟩ := h.2.2 (by omega)
  have hl : k < ls.length := by rw [h.1]; exact hk
  have hr := List.getElem?_eq_getElem hl
  exact ⟨b, off, ls[k], e, hb, hr, hc k _ hr, h.2.1 _ (List.getElem_mem hl)⟩
theorem ListsAt.lit {w : World} {h : Nat} (hh : w.heap.size = h) (t : TypeId) (m : Nat) (ls : List MV) (cs : Array Value) (hc : cs = (ls.map fun x => Value.slice x.A x.n x.c).toArray) (hl : ls.length = m) (hr : ∀ x ∈ ls, Mat w x) :
    ListsAt (w.alloc (.cells cs t)) (some ⟨h, 0, none⟩) m ls := by
  subst hh
  refine ⟨hl, fun r h1 => (hr r h1).keep ((Keep.refl w).obj _), fun _ => ⟨_, 0, rfl, by simp, fun i r hi => ?_⟩⟩
  rw [cell_of_row _ _ _ _ _ _ (heap_alloc_new w _), hc, Nat.zero_add]
  simp [hi]
set_option maxRecDepth 100000 in
set_option maxHeartbeats 1000000 in
theorem concatrows_any (n c : Nat) (A : Option Addr) (ls : List MV) (w : World) (h : ListsAt w A n ls) (hn : n ≤ 1000000) (ht : sizesL ls ≤ 1000000) :
    Calls Tryz.prog 118 #[.slice A n c] w fun e w' => ∃ A' n' c', e = .returned (.slice A' n' c') ∧ ∃ rs, Lay w w' A' n' c' rs ∧ rowsXs rs = joinL ls := by
  have HH := Lib.hid h
  have HL := Lib.hid h.1
  clear h
  go_enter Tryz.func118, Tryz.ntmps118
  go_wp2_with fail
  go_loop [3, 11] (fun t i => ∃ k : Nat, k ≤ n ∧ i = .int .i64 k ∧ t = .int .i64 (sizesL (ls.take k) : Nat)) (fun _ i => n - (intOf i).toNat)
  case atStart => exact ⟨0, by omega, rfl, rfl⟩
  case round =>
    obtain ⟨k, hk, rfl, rfl⟩ := hrel
    by_cases hlt : k < n
    · obtain ⟨b, off, r, rfl, hb, hr, hc, hby⟩ := HH.out.at_ hlt
      have e0 : (0 : Int) ≤ (k : Int) := Int.natCast_nonneg _
      have e1 : (k : Int) < (n : Int) := by omega
      have h1 := sizesL_succ hr
      have h2 := sizesL_le ls (k + 1)
      have h3 : sizesL (ls.take k) + r.n ≤ 1000000 := by omega
      have HS := Lib.hid h1
      obtain ⟨t, ht'⟩ : ∃ t, sizesL (ls.take k) = t := ⟨_, rfl⟩
      rw [ht'] at h3 HS ⊢
      have e2 : (0 : Int) ≤ (t : Int) + (r.n : Int) := by omega
      have e3 : ¬ ((t : Int) + (r.n : Int) < 0) := by omega
      clear h1 h2 hr hby ht'
      go_wp2_with fail
      go_round
      case rel => exact ⟨k + 1, by omega, by go_num, by rw [HS.out]; go_num⟩
      case measure => simp [intOf]; omega
    · obtain rfl : k = n := by omega
      have h3 : sizesL (ls.take k) ≤ 1000000 := Nat.le_trans (sizesL_le ls k) ht
      generalize sizesL (ls.take k) = t at *
      go_wp2_with fail
      refine (grow_rows t _ h3).mono ?_
      rintro e w1 ⟨A1, c1, rfl, o1⟩
      have O1 := Lib.hid o1
      clear o1
      go_wp2_with fail
      go_loopw [6, 27] (fun o i wr => ∃ (j : Nat) (Ao : Option Addr) (co : Nat) (rs : List RowV), j ≤ k ∧ i = .int .i64 j ∧ o = .slice Ao (sizesL (ls.take j) : Nat) co ∧ Lay w wr Ao (sizesL (ls.take j)) co rs ∧ rowsXs rs = joinL (ls.take j)) (fun _ i _ => k - (intOf i).toNat)
      case atStart => exact ⟨0, A1, c1, [], by omega, rfl, rfl, O1.out, rfl⟩
      case round =>
        obtain ⟨j, Ao, co, rs, hj, rfl, rfl, hown, hxs⟩ := hrel
        have HO := Lib.hid hown
        have HX := Lib.hid hxs
        clear hown hxs
        by_cases hlt : j < k
        · obtain ⟨b, off, r, rfl, hb, hr, hc, _⟩ := (HH.out.keep HO.out.keep).at_ hlt
          have hm : Mat w ⟨r.A, r.n, r.c, r.M⟩ := HH.out.2.1 r (List.mem_of_getElem? hr)
          have e0 : (0 : Int) ≤ (j : Int) := Int.natCast_nonneg _
          have e1 : (j : Int) < (k : Int) := by omega
          have h1 := sizesL_succ hr
          have h2 := sizesL_le ls (j + 1)
          obtain ⟨t2, ht2⟩ : ∃ t, sizesL (ls.take (j + 1)) = t := ⟨_, rfl⟩
          rw [ht2] at h1 h2
          have HS := Lib.hid (And.intro ht2 h1)
          have HJ := Lib.hid (joinL_succ hr)
          have HM := Lib.hid hm
          obtain ⟨t0, ht0⟩ : ∃ t, sizesL (ls.take j) = t := ⟨_, rfl⟩
          rw [ht0] at HO HS ⊢
          clear h1 hr hm ht2 ht0
          go_wp2_with (at_builtin; refine wpList_append_lay rfl _ _ 47 rfl Tryz.underlying47 rfl HO.out rfl HM.out t2 HS.out.2.symm (by omega) ?_)
          intro A2 c2 w2 rs2 h2' hx2
          have HO2 := Lib.hid h2'
          have HX2 := Lib.hid hx2
          clear h2' hx2
          go_wp2_with fail
          go_roundw
          case rel => exact ⟨j + 1, A2, c2, rs2, by omega, by go_num, by rw [HS.out.1], by rw [HS.out.1]; exact HO2.out, by rw [HX2.out, HX.out, HJ.out]⟩
          case measure => simp [intOf]; omega
        · obtain rfl : j = k := by omega
          go_wp2_with fail
          go_ret
          refine ⟨Ao, _, co, rfl, rs, HO.out, ?_⟩
          rw [HX.out, List.take_of_length_le (by rw [HL.out]; exact Nat.le_refl _)]
theorem OwnedRows.lower {w w1 w2 : World} {A : Option Addr} {n c : Nat} {M : List (List Nat)} {rs : List RowV} (h : OwnedRows w1 w2 A n c M rs) (k : Keep w w1) : OwnedRows w w2 A n c M rs :=
  ⟨h.1.lower k.size, fun r hr => (h.2.1 r hr).lower k.size, h.2.2.1, k.trans h.2.2.2⟩
theorem joinL_two (x y : MV) : joinL [x, y] = x.M ++ y.M := by simp [joinL]
section
variable {w : World} {A A' : Option Addr} {n n' c c' : Nat} {M N : List (List Nat)}
theorem Mat.cap {x : MV} (h : Mat w x) : x.n ≤ x.c := by obtain ⟨_, _, _, e⟩ := h; exact e
set_option maxRecDepth 100000 in
theorem width_mat (h : Mat w ⟨A, n, c, M⟩) (k : Mat w ⟨A', n', c', N⟩) (hn : n ≤ 400) (hn' : n' ≤ 400) :
    Calls Tryz.prog 85 #[.slice A n c, .slice A' n' c'] w fun e w' => e = .returned (.tuple #[.int .i64 (sizeC (M ++ N) : Nat), .int .i64 (sizeE (M ++ N))]) ∧ Keep w w' := by
  have H := Lib.hid h
  have K := Lib.hid k
  clear h k
  go_enter Tryz.func85, Tryz.ntmps85
  go_wp2_with fail
  refine (concatrows_any 2 2 _ [⟨A, n, c, M⟩, ⟨A', n', c', N⟩] _ (ListsAt.lit rfl _ 2 _ _ rfl rfl (fun x hx => by
    simp only [List.mem_cons, List.not_mem_nil, or_false] at hx
    rcases hx with rfl | rfl
    · exact H.out
    · exact K.out)) (by omega) (by simp [sizesL]; omega)).mono ?_
  rintro e w1 ⟨A1, n1, c1, rfl, rs, hL, hx⟩
  have hm := hL.mat
  rw [hx, joinL_two] at hm
  have hk1 : Keep w w1 := ((Keep.refl w).obj _).trans hL.keep
  have hl : n1 = n + n' := by
    have e1 := hm.len
    rw [List.length_append, H.out.len, K.out.len] at e1
    exact e1.symm
  have HM := Lib.hid hm
  have HK1 := Lib.hid hk1
  have HL := Lib.hid hl
  clear hL hx hm hk1 hl
  go_wp2_with fail
  refine (size_mat HM.out (by rw [HL.out]; omega)).mono ?_
  rintro e w2 ⟨rfl, k2⟩
  have HK2 := Lib.hid k2
  clear k2
  go_wp2_with fail
  go_ret2
  exact ⟨rfl, HK1.out.trans HK2.out⟩
end
end Go.Proofs.YtcjjhblgejkkeaaGreat
/- The landed code of layer 8: what tells of vectors whether they lie outside of a span. -/
namespace Go.Proofs.YtcjjhblgejkkeaaGreat
open Go.RowKit Lin
set_option linter.unusedVariables false
set_option linter.unusedSimpArgs false
theorem infoI : (Tryz.prog.info? 3).map (fun i => (i.zero, i.size, i.bytes)) = some (some (.int .i64 0), 1, 8) := by kernel_rfl
/-- A slice of numbers in new memory. -/
def OwnInts (w : World) (base : Nat) (A : Option Addr) (n c : Nat) (xs : List Int) : Prop := w.ownsRow base 3 1 (.slice A n c) n (xs.map (Value.int .i64))
theorem run_make_ints {P : Program} {t e : TypeId} (ht : P.underlying t = some (.slice e)) (hi : (P.info? e).map (fun i => (i.zero, i.size, i.bytes)) = some (some (.int .i64 0), 1, 8)) (n : Nat) (hn : n ≤ 1000000) (w : World) :
    (Instr.makeSlice t (.int .i64 (n : Int)) (.int .i64 (n : Int))).run P w = .ok (.slice (some ⟨w.heap.size, 0, none⟩) n n) (w.alloc (.cells (madeCells #[.int .i64 0] n) e)) := by
  obtain ⟨i0, hi0, hz0, hz1, hz2⟩ := info_parts hi
  have h := run_make (P := P) w t e i0 (.int .i64 0) ht hi0 hz0 .i64 .i64 n n (by omega) (Int.le_refl _) (by rw [hz2]; omega) (by omega)
  simpa [hz1, Value.cells] using h
namespace OwnInts
variable {w w' : World} {base n c g i : Nat} {A : Option Addr} {xs : List Int}
theorem made (w : World) (n : Nat) (hn : n ≤ 1000000) : OwnInts (w.alloc (.cells (madeCells #[.int .i64 0] n) 3)) w.heap.size (some ⟨w.heap.size, 0, none⟩) n n (List.replicate n 0) := by
  have h := World.ownsRow_lit (w := w) (base := w.heap.size) (e := 3) (size := 1) (madeCells #[.int .i64 0] n) n (Nat.le_refl _) (by unfold maxLen; omega) (by rw [size_madeCells]; simp)
  rw [toList_madeCells_one] at h
  simpa [OwnInts] using h
theorem length (h : OwnInts w base A n c xs) : xs.length = n := by have := h.1; simpa using this
theorem keep (h : OwnInts w base A n c xs) (k : Keep w w') : OwnInts w' base A n c xs :=
  World.ownsRow.kept h (row := none) ⟨k.os, k.tape, k.output, k.size, fun i hi _ => k.block i hi⟩ (by
    cases hb : (Value.slice A n c).ownBlock with
    | none => exact Or.inl rfl
    | some g => exact Or.inr (by simp))
theorem stored (h : OwnInts w base (some ⟨g, 0, none⟩) n c xs) (i : Nat) (v : Int) : OwnInts (w.setCell ⟨g, i, none⟩ (.int .i64 v)) base (some ⟨g, 0, none⟩) n c (xs.set i v) := by
  have := World.ownsRow.stored h i (.int .i64 v)
  unfold OwnInts
  rw [List.map_set]; exact this.1
theorem cell (h : OwnInts w base (some ⟨g, 0, none⟩) n c xs) (hi : i < n) : w.cell? ⟨g, i, none⟩ = some (.int .i64 (xs.getD i 0)) := by
  have hl : i < xs.length := by rw [h.length]; exact hi
  have hc := World.ownsRow.cells h (g := g) rfl i (.int .i64 (xs.getD i 0)) (by rw [List.getElem?_map, List.getD_eq_getElem?_getD, List.getElem?_eq_getElem hl]; rfl)
  have ha : (⟨g, 0, none⟩ : Addr).add i = ⟨g, i, none⟩ := by unfold Addr.add; split <;> simp_all
  rwa [ha] at hc
theorem frozen (h : OwnInts w base (some ⟨g, 0, none⟩) n c xs) (i : Nat) : w.frozen? ⟨g, i, none⟩ = false := World.ownsRow.frozenAt h i
end OwnInts
/-- What a closure of outside has captured: the reduced matrix of a list and its leads. -/
def OutC (w : World) (b5 b3 k : Nat) (L : List (List Nat)) : Prop :=
  ∃ (p g lc rc : Nat) (RA : Option Addr) (l : Nat → Nat), Held w b5 (.slice (some ⟨g, 0, none⟩) p lc) 182 ∧ Held w b3 (.slice RA p rc) 47 ∧ g < w.heap.size ∧ (∀ i, i < p → w.cell? ⟨g, i, none⟩ = some (.int .i64 (l i : Nat))) ∧ Mat w ⟨RA, p, rc, reduceN L⟩ ∧
    Red p (fn (reduceN L)) l ∧ (∀ i, i < p → l i < k) ∧ Sz p k (reduceN L) ∧ RowsOk k L
theorem Held.lt {w : World} {b : Nat} {v : Value} {t : TypeId} (h : Held w b v t) : b < w.heap.size := (Array.getElem?_eq_some_iff.1 h).1
theorem OutC.keep {w w' : World} {b5 b3 k : Nat} {L : List (List Nat)} (h : OutC w b5 b3 k L) (kk : Keep w w') : OutC w' b5 b3 k L := by
  obtain ⟨p, g, lc, rc, RA, l, h1, h2, h3, h4, h5, h6⟩ := h
  exact ⟨p, g, lc, rc, RA, l, h1.keep kk, h2.keep kk, Nat.lt_of_lt_of_le h3 kk.size, fun i hi => (kk.cell (p := ⟨g, i, none⟩) h3).trans (h4 i hi), h5.keep kk, h6⟩
theorem RowsOk_fits {k : Nat} {L : List (List Nat)} (h : RowsOk k L) : fits L := h.sz.fits
/-- The leads so far. -/
def leadTo (l : Nat → Nat) (p i : Nat) : List Int := (List.range p).map fun j => if j < i then ((l j : Nat) : Int) else 0
theorem leadTo_zero (l : Nat → Nat) (p : Nat) : leadTo l p 0 = List.replicate p 0 := List.ext_getElem (by simp [leadTo]) fun i h1 h2 => by simp [leadTo]
theorem leadTo_set (l : Nat → Nat) (p i : Nat) : (leadTo l p i).set i ((l i : Nat) : Int) = leadTo l p (i + 1) := List.ext_getElem (by simp [leadTo]) fun j h1 h2 => by
  simp only [List.getElem_set, leadTo, List.getElem_map, List.getElem_range]
  by_cases e : i = j
  · subst e; simp
  · rw [if_neg e]
    by_cases h : j < i
    · rw [if_pos h, if_pos (by omega)]
    · rw [if_neg h, if_neg (by omega)]
theorem leadTo_at (l : Nat → Nat) {p i : Nat} (h : i < p) : (leadTo l p p).getD i 0 = ((l i : Nat) : Int) := by
  simp [leadTo, List.getD_eq_getElem?_getD, h]
set_option maxRecDepth 100000 in
set_option maxHeartbeats 2000000 in
theorem outside_any (n c k : Nat) (A : Option Addr) (L : List (List Nat)) (w : World) (h : Mat w ⟨A, n, c, L⟩) (hL : RowsOk k L) (hn : n ≤ 400) (hk : k ≤ 400) :
    Calls Tryz.prog 87 #[.slice A n c] w fun e w' => ∃ b5 b3, e = .returned (.func (.func 121) #[] #[.pointer (some ⟨b5, 0, none⟩), .pointer (some ⟨b3, 0, none⟩)]) ∧ OutC w' b5 b3 k L ∧ Keep w w' := by
  have hr := reduce_mat h (by omega) (Nat.le_trans hL.sz.sizeC_le (by omega))
  rw [hL.sz.sizeE] at hr
  obtain ⟨hR, hS⟩ := hL.red
  have hlen := redL_length hR
  obtain ⟨hok, l, hl⟩ := hR
  obtain ⟨R, hRe⟩ : ∃ R, reduceN L = R := ⟨_, rfl⟩
  rw [hRe] at hr hok hl hlen
  obtain ⟨p, hp⟩ : ∃ p, R.length = p := ⟨_, rfl⟩
  have HLD : Hid (∀ i, i < p → vLead k (R.getD i []) = (l i : Int) ∧ l i < k) := fun i hi => red_lead hok hl (by rw [hp]; exact hi)
  rw [hp] at hl hlen
  have HRD := Lib.hid hl
  have HSZ : Hid (Sz p k R) := ⟨hp, hok⟩
  have HRE := Lib.hid hRe
  have HLK := Lib.hid hL
  have HR := Lib.hid hr
  clear h hr hS hok hl hRe hp hL
  have mk1 := fun w => run_make_ints (P := Tryz.prog) Tryz.underlying182 infoI p (by omega) w
  go_enter Tryz.func87, Tryz.ntmps87
  go_wp2_with fail
  refine HR.out.mono ?_
  rintro e w1 ⟨A1, n1, c1, rfl, m1, k1⟩
  obtain rfl : p = n1 := by have := m1.cnt HSZ.out; exact this.symm
  have M1 := Lib.hid m1
  have K1 := Lib.hid k1
  clear m1 k1 HR
  obtain ⟨b3, hb3⟩ : ∃ b, w1.heap.size = b := ⟨_, rfl⟩
  have hh3 : Held (w1.alloc (.cells #[.slice A1 p c1] 47)) b3 (.slice A1 p c1) 47 := Held.new hb3 _ _
  have kw2 : Keep w1 (w1.alloc (.cells #[.slice A1 p c1] 47)) := (Keep.refl w1).obj _
  have c3 := hh3.cell
  have H3 := Lib.hid hh3
  have KW2 := Lib.hid kw2
  go_upto_region 2 with fail
  generalize w1.alloc (.cells #[.slice A1 p c1] 47) = w2 at *
  clear hh3 kw2 hb3
  obtain ⟨g, hg⟩ : ∃ g, w2.heap.size = g := ⟨_, rfl⟩
  have hO := OwnInts.made w2 p (by omega)
  rw [hg, ← leadTo_zero l p] at hO
  generalize madeCells #[.int .i64 0] p = MC at *
  have HO := Lib.hid hO
  have HG := Lib.hid hg
  clear hO hg
  go_upto_region 3 with fail
  try rw [HG.out]
  have hh5 : Held ((w2.alloc (.cells MC 3)).alloc (.cells #[.slice (some ⟨g, 0, none⟩) p p] 182)) (g + 1) (.slice (some ⟨g, 0, none⟩) p p) 182 := Held.new (by rw [size_obj, HG.out]) _ _
  have hO4 : OwnInts ((w2.alloc (.cells MC 3)).alloc (.cells #[.slice (some ⟨g, 0, none⟩) p p] 182)) g (some ⟨g, 0, none⟩) p p (leadTo l p 0) := HO.out.keep ((Keep.refl _).obj _)
  have kw4 : Keep w2 ((w2.alloc (.cells MC 3)).alloc (.cells #[.slice (some ⟨g, 0, none⟩) p p] 182)) := ((Keep.refl w2).obj _).obj _
  have h34 := H3.out.keep kw4
  have c34 := h34.cell
  have m4 := M1.out.keep (KW2.out.trans kw4)
  have H5 := Lib.hid hh5
  have H34 := Lib.hid h34
  have O4 := Lib.hid hO4
  have KW4 := Lib.hid kw4
  have M4 := Lib.hid m4
  generalize (w2.alloc (.cells MC 3)).alloc (.cells #[.slice (some ⟨g, 0, none⟩) p p] 182) = w4 at *
  clear hh5 hO4 kw4 h34 m4 HO mk1 c3
  go_wp2_with fail
  go_loopw [18] (fun iv wr => ∃ i : Nat, i ≤ p ∧ iv = .int .i64 i ∧ OwnInts wr g (some ⟨g, 0, none⟩) p p (leadTo l p i) ∧ Turned (fun b => b = g) w4 wr) (fun iv _ => p - (intOf iv).toNat)
  case atStart => exact ⟨0, by omega, rfl, O4.out, Turned.refl _ _⟩
  case round =>
    clear O4 c34
    obtain ⟨i, hi, rfl, hO, hT⟩ := hrel
    have hb3 : b3 ≠ g := by have := H3.out.lt; rw [HG.out] at this; omega
    by_cases hlt : i < p
    · have hkW : Keep w2 wr := hT.keep KW4.out fun b e => by rw [e, HG.out]; exact Nat.le_refl _
      obtain ⟨b, off, Ay, cy, rfl, hb, hc, hby, hyc, _⟩ := (M1.out.keep (KW2.out.trans hkW)).row_at HSZ.out hlt
      have e1 : (0 : Int) ≤ (i : Int) := Int.natCast_nonneg _
      have e2 : (i : Int) < (p : Int) := by omega
      have d5 : wr.cell? ⟨g + 1, 0, none⟩ = some (.slice (some ⟨g, 0, none⟩) p p) := hT.cell H5.out.cell (show g + 1 ≠ g by omega)
      have d6 := hO.frozen i
      have d7 := hO.cell hlt
      have o2 := hO.stored i ((l i : Nat) : Int)
      rw [leadTo_set] at o2
      obtain ⟨x, hx⟩ : ∃ x, l i = x := ⟨_, rfl⟩
      have hv := (HLD.out i hlt).1
      rw [hx] at o2 hv
      have O2 : Hid (OwnInts (wr.drew.setCell ⟨g, i, none⟩ (.int .i64 (x : Int))) g (some ⟨g, 0, none⟩) p p (leadTo l p (i + 1))) := o2
      have T2 : Hid (Turned (fun b => b = g) w4 (wr.drew.setCell ⟨g, i, none⟩ (.int .i64 (x : Int)))) := hT.trans ((Turned.of_keep (F := fun b => b = g) (Keep.drew (Keep.refl wr))).trans (Turned.set (F := fun b => b = g) wr.drew ⟨g, i, none⟩ (.int .i64 (x : Int)) rfl) fun i e => Or.inl e) fun i e => Or.inl e
      have HN : Hid ((⟨g, i, none⟩ : Addr).block ≠ (⟨g + 1, 0, none⟩ : Addr).block) := Nat.ne_of_lt (Nat.lt_succ_self g)
      have vl := vlead_eq wr.heap.size k cy Ay (R.getD i []) wr.drew hby (by omega)
      rw [hv] at vl
      have VL := Lib.hid vl
      clear hO hT hkW hby o2 hx hv vl
      go_wp2_with fail
      refine wp_region_noPanic ?_
      refine wp_region_held_drew (S := fun wz => wz.cell? ⟨g + 1, 0, none⟩ = some (.slice (some ⟨g, 0, none⟩) p p)) (by kernel_rfl) d5 (fun hHeld => ?_)
      refine wpAnyH_take (i := 0) (v := ?_) rfl (by kernel_rfl) (by kernel_rfl) (by kernel_rfl) (fun _ _ _ h => h) (Or.inl ⟨by rfl, ?_⟩) hHeld ?_
      rotate_left
      · intro wq hSw
        have q0 := hSw
        go_simp
        all_goals with_reducible rfl
      try simp only [Act.put, List.getElem_toArray, List.getElem_cons_succ, List.getElem_cons_zero, List.setIfInBounds_toArray, List.set_cons_zero, List.set_cons_succ]
      refine wpAnyH_take (i := 1) (v := ?_) rfl (by kernel_rfl) (by kernel_rfl) (by kernel_rfl) (fun _ _ _ h => h) (Or.inl ⟨by rfl, ?_⟩) hHeld ?_
      rotate_left
      · intro wq hSw
        go_simp
        all_goals with_reducible rfl
      try simp only [Act.put, List.getElem_toArray, List.getElem_cons_succ, List.getElem_cons_zero, List.setIfInBounds_toArray, List.set_cons_zero, List.set_cons_succ]
      refine wpAnyH_take (i := 2) (v := ?_) rfl (by kernel_rfl) (by kernel_rfl) (by kernel_rfl) (fun _ _ _ h => h) (Or.inl ⟨by rfl, ?_⟩) hHeld ?_
      rotate_left
      · intro wq hSw
        go_simp
        all_goals with_reducible rfl
      try simp only [Act.put, List.getElem_toArray, List.getElem_cons_succ, List.getElem_cons_zero, List.setIfInBounds_toArray, List.set_cons_zero, List.set_cons_succ]
      refine wpAnyH_ready (rs := [3]) (by kernel_rfl) (by simp) ?_
      refine AllReadyH.cons rfl (fun K hK => ?_) AllReadyH.nil
      go_simp
      refine (VL.out).mono ?_
      rintro e wv ⟨rfl, rfl⟩
      refine hK.out _ _ hHeld (fun hHeld => ?_)
      clear hK K
      try simp only [Act.put, List.getElem_toArray, List.getElem_cons_succ, List.getElem_cons_zero, List.setIfInBounds_toArray, List.set_cons_zero, List.set_cons_succ]
      refine wpAnyH_take (i := 4) (v := ?_) rfl (by kernel_rfl) (by kernel_rfl) (by kernel_rfl) (fun _ _ _ h => h) (Or.inl ⟨by rfl, ?_⟩) hHeld ?_
      rotate_left
      · intro wq hSw
        go_simp
        all_goals with_reducible rfl
      try simp only [Act.put, List.getElem_toArray, List.getElem_cons_succ, List.getElem_cons_zero, List.setIfInBounds_toArray, List.set_cons_zero, List.set_cons_succ]
      refine wpAnyH_ready (rs := [5]) (by kernel_rfl) (by simp) ?_
      refine AllReadyH.cons rfl (fun K hK => ?_) AllReadyH.nil
      go_simp
      refine hK.out _ _ ((World.cell?_setCell_far _ _ _ _ HN.out).trans d5) (fun hHeld => ?_)
      clear hK K
      try simp only [Act.put, List.getElem_toArray, List.getElem_cons_succ, List.getElem_cons_zero, List.setIfInBounds_toArray, List.set_cons_zero, List.set_cons_succ]
      refine wpAnyH_done (by kernel_rfl) ?_ _
      refine NoPanic.normal ?_
      clear hHeld
      go_wp2_with fail
      go_roundw
      case rel => exact ⟨i + 1, by omega, by go_num, O2.out, T2.out⟩
      case measure => simp [intOf]; omega
    · obtain rfl : i = p := by omega
      have hkW : Keep w2 wr := hT.keep KW4.out fun b e => by rw [e, HG.out]; exact Nat.le_refl _
      have H5r : Hid (Held wr (g + 1) (.slice (some ⟨g, 0, none⟩) i i) 182) := (hT.block (g + 1) H5.out.lt (by omega)).trans H5.out
      have HKW := Lib.hid hkW
      have HOR := Lib.hid hO
      have hgl : g < wr.heap.size := by have := H5r.out.lt; omega
      clear hO hT hkW
      go_wp2_with fail
      go_ret
      refine ⟨g + 1, b3, rfl, ⟨i, g, i, c1, A1, l, H5r.out, H3.out.keep HKW.out, hgl, fun j hj => ?_, ?_⟩, K1.out.trans (KW2.out.trans HKW.out)⟩
      · have := HOR.out.cell hj
        rwa [leadTo_at l hj] at this
      · rw [HRE.out]
        exact ⟨M1.out.keep (KW2.out.trans HKW.out), HRD.out, fun j hj => (HLD.out j hj).2, HSZ.out, HLK.out⟩
end Go.Proofs.YtcjjhblgejkkeaaGreat
/- The landed code of layer 8: the closure that tells whether a vector lies outside of a span. -/
namespace Go.Proofs.YtcjjhblgejkkeaaGreat
open Go.RowKit Lin
set_option linter.unusedVariables false
set_option linter.unusedSimpArgs false
/-- The rows that were picked so far, and their numbers. -/
def SelOk (k : Nat) (v : List Nat) (R : List (List Nat)) (l : Nat → Nat) (i : Nat) (rows : List (List Nat)) (bs : List Nat) : Prop :=
  rows.length = bs.length ∧ 1 ≤ bs.length ∧ bs.length ≤ i + 1 ∧ RowsOk k rows ∧ AllB bs ∧ comb rows.length (fn rows) (vec bs) = fun j => vec v j + comb i (fn R) (fun t => vec v (l t)) j
theorem comb_snoc {rows : List (List Nat)} {bs r : List Nat} {x : Nat} (h : rows.length = bs.length) (hx : x < 256) : comb (rows ++ [r]).length (fn (rows ++ [r])) (vec (bs ++ [x])) = fun j => comb rows.length (fn rows) (vec bs) j + byte x * vec r j := by
  rw [List.length_append]
  funext j
  have e1 : ∀ i, i < rows.length → vec (bs ++ [x]) i * fn (rows ++ [r]) i j = vec bs i * fn rows i j := fun i hi => by
    rw [vec_append (n := bs.length) rfl, pair_left (by omega), fn_append_row rows r i (by omega), insM_lt hi]
  have e2 : vec (bs ++ [x]) rows.length = byte x := by
    have := pair_right (n := bs.length) (j := 0) (u := vec bs) (v := vec [x])
    rw [vec_append (n := bs.length) rfl, h]
    exact this
  have e3 : fn (rows ++ [r]) rows.length = vec r := by rw [fn_append_row rows r _ (by omega), insM_at]
  show sm (rows.length + 1) _ = sm rows.length _ + _
  rw [show sm (rows.length + 1) (fun i => vec (bs ++ [x]) i * fn (rows ++ [r]) i j) = sm rows.length (fun i => vec (bs ++ [x]) i * fn (rows ++ [r]) i j) + vec (bs ++ [x]) rows.length * fn (rows ++ [r]) rows.length j from rfl, sm_congr e1, e2, e3]
theorem SelOk.start {k : Nat} {v : List Nat} {R : List (List Nat)} {l : Nat → Nat} (hl : v.length = k) (ha : AllB v) : SelOk k v R l 0 [v] [1] := by
  refine ⟨rfl, Nat.le_refl _, Nat.le_refl _, fun r hr => ?_, fun x hx => ?_, ?_⟩
  · rw [List.mem_singleton.1 hr]; exact ⟨hl, ha⟩
  · rw [List.mem_singleton.1 hx]; omega
  · have h := comb_snoc (rows := []) (bs := []) (r := v) (x := 1) rfl (by omega)
    rw [List.nil_append, List.nil_append] at h
    rw [h]
    funext j
    show 0 + byte 1 * vec v j = vec v j + 0
    rw [laws.zero_add, laws.add_zero]
    exact laws.one_mul _
theorem SelOk.skip {k i : Nat} {v bs : List Nat} {R rows : List (List Nat)} {l : Nat → Nat} (h : SelOk k v R l i rows bs) (h0 : v.getD (l i) 0 = 0) : SelOk k v R l (i + 1) rows bs := by
  obtain ⟨h1, h2, h3, h4, h5, h6⟩ := h
  refine ⟨h1, h2, by omega, h4, h5, ?_⟩
  rw [h6]
  funext j
  have e : vec v (l i) = 0 := by show byte (v.getD (l i) 0) = 0; rw [h0]; rfl
  show _ = vec v j + (comb i (fn R) (fun t => vec v (l t)) j + vec v (l i) * fn R i j)
  rw [e, laws.zero_mul, laws.add_zero]
theorem SelOk.more {k i : Nat} {v bs : List Nat} {R rows : List (List Nat)} {l : Nat → Nat} (h : SelOk k v R l i rows bs) (hR : RowsOk k R) (hi : i < R.length) (hv : AllB v) : SelOk k v R l (i + 1) (rows ++ [R.getD i []]) (bs ++ [v.getD (l i) 0]) := by
  obtain ⟨h1, h2, h3, h4, h5, h6⟩ := h
  refine ⟨by simp [h1], by simp, by simp; omega, h4.both fun r hr => by rw [List.mem_singleton.1 hr]; exact hR.at_ hi, h5.append fun x hx => by rw [List.mem_singleton.1 hx]; exact hv.getD _, ?_⟩
  rw [comb_snoc h1 (hv.getD _), h6]
  funext j
  show _ = vec v j + (comb i (fn R) (fun t => vec v (l t)) j + vec v (l i) * fn R i j)
  rw [laws.add_assoc]; rfl
theorem comb_list {r c : Nat} {M : List (List Nat)} {row : List Nat} (h : Sz r c M) (ha : AllB row) : vComb c M row r = rowN row M r c := tab_congr fun j _ => sumX_congr fun i hi => mul_comm' _ _ ((h.at_ hi).2.getD j) (ha.getD i)
theorem lead_neg {n : Nat} {xs : List Nat} (hl : xs.length = n) (ha : AllB xs) : decide (vLead n xs < 0) = true ↔ vec xs = fun _ => 0 := by
  have h1 : vLead n xs < 0 ↔ vLeadTo xs n = none := by
    rw [vLead]
    cases vLeadTo xs n with
    | none => simp
    | some i => simp
  rw [decide_eq_true_iff, h1, vLeadTo_none]
  constructor
  · intro h
    funext j
    by_cases hj : j < n
    · show byte (xs.getD j 0) = 0; rw [h j hj]; rfl
    · exact vec_wide hl j (by omega)
  · intro h i hi
    have := congrArg By.v (congrFun h i)
    rwa [vec_v ha] at this
theorem SelOk.done {k p : Nat} {v bs : List Nat} {L rows : List (List Nat)} {l : Nat → Nat} (h : SelOk k v (reduceN L) l p rows bs) (hL : RowsOk k L) (hv : RowsOk k [v]) (hp : (reduceN L).length = p) (hl : Red p (fn (reduceN L)) l) :
    decide (vLead k (vComb k rows bs rows.length) < 0) = conB L [v] := by
  obtain ⟨h1, h2, h3, h4, h5, h6⟩ := h
  subst hp
  have hc := cleared_iff hL hv hl
  rw [Bool.eq_iff_iff, hc, ← h6, ← vec_rowN h5 h4.sz, ← comb_list h4.sz h5]
  exact lead_neg (tab_length _ _) fun x hx => by
    rw [comb_list h4.sz h5] at hx
    exact rowN_all h5 x hx
/-- Rows and numbers in new memory, side by side. -/
structure Two (W w : World) (A5 : Option Addr) (n5 c5 : Nat) (rs : List RowV) (A6 : Option Addr) (n6 c6 : Nat) (bs : List Nat) : Prop where
  own5 : OwnRows w W.heap.size 32 A5 n5 c5 rs
  rows : ∀ r ∈ rs, LiesIn W (fun b => b < W.heap.size) r
  own6 : Own w W.heap.size 5 A6 n6 c6 bs
  keep : Keep W w
namespace Two
variable {W w w' : World} {A5 A6 A A' : Option Addr} {n5 c5 n6 c6 n c g : Nat} {rs : List RowV} {bs : List Nat}
theorem later (h : Two W w A5 n5 c5 rs A6 n6 c6 bs) (k : Keep w w') : Two W w' A5 n5 c5 rs A6 n6 c6 bs := ⟨h.own5.keep k, h.rows, h.own6.keep k, h.keep.trans k⟩
theorem apart (h : Two W w A5 n5 c5 rs A6 n6 c6 bs) : (Value.slice A6 n6 c6).ownBlock = none ∨ (Value.slice A6 n6 c6).ownBlock ≠ (Value.slice A5 n5 c5).ownBlock := blocks_apart h.own6 h.own5 (by decide)
theorem ne5 (h : Two W w A5 n5 c5 rs A6 n6 c6 bs) : (Value.slice A5 n5 c5).ownBlock ≠ some w.heap.size := fun e => by have := (h.own5.lt _ e).2; omega
theorem ne6 (h : Two W w A5 n5 c5 rs A6 n6 c6 bs) : (Value.slice A6 n6 c6).ownBlock ≠ some w.heap.size := fun e => by have := (h.own6.1.lt _ e).2; omega
theorem app5 (h : Two W w A5 n5 c5 rs A6 n6 c6 bs) {r : RowV} (hr : LiesIn W (fun b => b < W.heap.size) r) (h2 : OwnRows w' W.heap.size 32 A n c (rs ++ [r])) (h3 : w.grownBy w' (Value.slice A5 n5 c5).ownBlock) : Two W w' A n c (rs ++ [r]) A6 n6 c6 bs :=
  ⟨h2, fun x hx => by
    rcases List.mem_append.1 hx with e | e
    · exact h.rows x e
    · rw [List.mem_singleton.1 e]; exact hr, h.own6.grown h3 h.apart, h.keep.grown h3 h.own5.rowLe⟩
theorem app6 (h : Two W w A5 n5 c5 rs A6 n6 c6 bs) {cs : List Nat} (h2 : Own w' W.heap.size 5 A n c cs) (h3 : w.grownBy w' (Value.slice A6 n6 c6).ownBlock) : Two W w' A5 n5 c5 rs A n c cs := by
  have kT : Turned (fun b => (Value.slice A6 n6 c6).ownBlock = some b) w w' := Turned.of_grown h3 fun i e => e
  refine ⟨h.own5.turned kT fun b hb e => ?_, h.rows, h2, h.keep.grown h3 h.own6.rowLe⟩
  rcases h.apart with z | z
  · rw [z] at e; cases e
  · exact z (e.trans hb.symm)
theorem cell (h3 : w.grownBy w' (Value.slice A n c).ownBlock) {v : Value} (hc : w.cell? ⟨g, 0, none⟩ = some v) (hg : (Value.slice A n c).ownBlock ≠ some g) : w'.cell? ⟨g, 0, none⟩ = some v :=
  (Turned.of_grown (F := fun b => (Value.slice A n c).ownBlock = some b) h3 fun i e => e).cell hc hg
theorem still (h4 : (Value.slice A' n5 c5).ownBlock = (Value.slice A n c).ownBlock ∨ (Value.slice A' n5 c5).ownBlock = some w.heap.size) {v : Value} (hc : w.cell? ⟨g, 0, none⟩ = some v) (hg : (Value.slice A n c).ownBlock ≠ some g) : (Value.slice A' n5 c5).ownBlock ≠ some g := fun e => by
  rcases h4 with z | z
  · exact hg (z.symm.trans e)
  · rw [z] at e; injection e with e
    have := World.block_lt_of_cell? _ _ hc
    simp at this; omega
end Two
theorem one_of_cell {w : World} {g x : Nat} (h : w.cell? ⟨g, 0, none⟩ = some (.int .u8 (x : Int))) (hx : x < 256) : Bytes w w.heap.size (some ⟨g, 0, none⟩) 1 [x] :=
  ⟨rfl, fun y hy => by rw [List.mem_singleton.1 hy]; exact hx, fun _ => ⟨g, 0, rfl, World.block_lt_of_cell? _ _ h, fun i hi => by
    obtain rfl : i = 0 := by omega
    exact h⟩⟩
theorem OwnRows.lit1 (w : World) (t : TypeId) (r : RowV) (cs : Array Value) (hc : cs = #[r.val]) : OwnRows (w.alloc (.cells cs t)) w.heap.size t (some ⟨w.heap.size, 0, none⟩) 1 1 [r] := by
  have h := World.ownsRow_lit (w := w) (base := w.heap.size) (e := t) (size := 1) cs 1 (Nat.le_refl _) (by unfold maxLen; omega) (by rw [hc]; rfl)
  rw [hc] at h
  simpa [OwnRows, hc] using h
theorem Two.start (w : World) (r : RowV) (hr : LiesIn w (fun b => b < w.heap.size) r) (cs ds : Array Value) (hc : cs = #[r.val]) (hd : ds = #[.int .u8 1]) :
    Two w ((w.alloc (.cells cs 32)).alloc (.cells ds 5)) (some ⟨w.heap.size, 0, none⟩) 1 1 [r] (some ⟨w.heap.size + 1, 0, none⟩) 1 1 [1] := by
  have h6 := Own.lit (w.alloc (.cells cs 32)) 5 1 [1] ds (by rw [hd]; rfl) rfl (by omega) (by decide)
  rw [size_obj] at h6
  exact ⟨(OwnRows.lit1 w _ r cs hc).keep ((Keep.refl _).obj _), fun x hx => by rw [List.mem_singleton.1 hx]; exact hr, h6.lower (by omega), ((Keep.refl w).obj _).obj _⟩
set_option maxRecDepth 100000 in
set_option maxHeartbeats 4000000 in
theorem outc_any (b5 b3 k cy : Nat) (Ay : Option Addr) (L : List (List Nat)) (v : List Nat) (w : World) (h : OutC w b5 b3 k L) (hy : LiesIn w (fun b => b < w.heap.size) ⟨Ay, k, cy, v⟩) (hk : k ≤ 400) :
    Calls Tryz.prog 121 #[.slice Ay k cy, .pointer (some ⟨b5, 0, none⟩), .pointer (some ⟨b3, 0, none⟩)] w fun e w' => e = .returned (.bool !(conB L [v])) ∧ Keep w w' := by
  obtain ⟨p, g, lc, rc, RA, l, h5, h3, hg, hc, hm, hl, hlk, hsz, hL⟩ := h
  have hv : RowsOk k [v] := fun r hr => by rw [List.mem_singleton.1 hr]; exact ⟨hy.1, hy.2.1⟩
  have hyb := hy.bytes fun _ e => e
  obtain ⟨cb, hcb⟩ : ∃ cb, conB L [v] = cb := ⟨_, rfl⟩
  rw [hcb]
  have HEnd : Hid (∀ rows bs, SelOk k v (reduceN L) l p rows bs → decide (vLead k (vComb k rows bs rows.length) < 0) = cb) := fun rows bs hs => (hs.done hL hv hsz.1 hl).trans hcb
  clear hcb
  have hpk : p ≤ k := by have := redL_length (hL.red).1; rw [hsz.1] at this; exact this
  generalize reduceN L = R at *
  have S0 : Hid (SelOk k v R l 0 [v] [1]) := SelOk.start hy.1 hy.2.1
  have H5 := Lib.hid h5
  have H3 := Lib.hid h3
  have HC := Lib.hid hc
  have HM := Lib.hid hm
  have HSZ := Lib.hid hsz
  have HLK := Lib.hid hlk
  have HY := Lib.hid hy
  have HYB := Lib.hid hyb
  have HG := Lib.hid hg
  have hcell5 := ((((Keep.refl w).obj (.cells #[.slice Ay k cy] 32)).obj (.cells #[.int .u8 1] 5)).cell (p := ⟨b5, 0, none⟩) h5.lt).trans h5.cell
  have T0 : Hid (Two w ((w.alloc (.cells #[.slice Ay k cy] 32)).alloc (.cells #[.int .u8 1] 5)) (some ⟨w.heap.size, 0, none⟩) 1 1 [⟨Ay, k, cy, v⟩] (some ⟨w.heap.size + 1, 0, none⟩) 1 1 [1]) := Two.start w ⟨Ay, k, cy, v⟩ hy _ _ rfl rfl
  clear h5 h3 hc hm hl hlk hsz hL hv hy hyb hg
  go_enter Tryz.func121, Tryz.ntmps121
  go_wp2_with fail
  go_loopw [5, 6, 16] (fun rv bv iv wr => ∃ (i m : Nat) (A5 : Option Addr) (c5 : Nat) (rs : List RowV) (A6 : Option Addr) (c6 : Nat) (bs : List Nat), i ≤ p ∧ m ≤ i + 1 ∧ iv = .int .i64 i ∧ rv = .slice A5 m c5 ∧ bv = .slice A6 m c6 ∧ Two w wr A5 m c5 rs A6 m c6 bs ∧ SelOk k v R l i (rowsXs rs) bs) (fun _ _ iv _ => p - (intOf iv).toNat)
  case atStart => exact ⟨0, 1, _, _, _, _, _, _, by omega, by omega, rfl, rfl, rfl, T0.out, S0.out⟩
  case round =>
    clear T0 S0 hcell5
    obtain ⟨i, m, A5, c5, rs, A6, c6, bs, hi, hmi, rfl, rfl, rfl, hT, hS⟩ := hrel
    have HT := Lib.hid hT
    have HS := Lib.hid hS
    by_cases hlt : i < p
    · obtain ⟨b, off, Ar, cr, rfl, hb, hcR, _, _, hrl⟩ := HM.out.row_at HSZ.out hlt
      have d1 := (hT.keep.cell (p := ⟨g, i, none⟩) HG.out).trans (HC.out i hlt)
      have hli := HLK.out i hlt
      obtain ⟨b2, o2, rfl, hb2, hcv⟩ := HYB.out.at_ hli
      have d2 := (hT.keep.cell (p := ⟨b2, o2 + l i, none⟩) hb2).trans hcv
      have hx := HYB.out.2.1.getD (l i)
      have HRL := Lib.hid hrl
      have e1 : (0 : Int) ≤ (i : Int) := Int.natCast_nonneg _
      have e2 : (i : Int) < (p : Int) := by omega
      have e3 : (0 : Int) ≤ ((l i : Nat) : Int) := Int.natCast_nonneg _
      have e4 : ((l i : Nat) : Int) < (k : Int) := by omega
      have HSK : Hid (v.getD (l i) 0 = 0 → SelOk k v R l (i + 1) (rowsXs rs) bs) := fun e => hS.skip e
      have HSM : Hid (SelOk k v R l (i + 1) (rowsXs rs ++ [R.getD i []]) (bs ++ [v.getD (l i) 0])) := hS.more HSZ.out.2 (by rw [HSZ.out.1]; exact hlt) HYB.out.2.1
      generalize v.getD (l i) 0 = x at *
      generalize l i = q at *
      clear hT hS hrl
      by_cases h0 : x = 0
      · have b1 : ((x : Int) != 0) = false := by rw [h0]; rfl
        have HS2 := Lib.hid (HSK.out h0)
        clear h0 hcR hcv
        go_wp2_with fail
        go_roundw
        case rel => exact ⟨i + 1, m, A5, c5, rs, A6, c6, bs, by omega, by omega, by go_num, rfl, rfl, HT.out, HS2.out⟩
        case measure => simp [intOf]; omega
      · have b1 : ((x : Int) != 0) = true := by rw [bne_iff_ne]; omega
        have c3 := H3.out.cell
        have hb3 := H3.out.lt
        clear h0
        go_wp2_with fail
        refine wp_region_noPanic ?_
        refine wp_region_held_drew (S := fun wz => Keep w wz) (by kernel_rfl) (HT.out.keep.drew) (fun hHeld => ?_)
        refine wpAnyH_take (i := 0) (v := ?_) rfl (by kernel_rfl) (by kernel_rfl) (by kernel_rfl) (fun _ _ _ h => h) (Or.inl ⟨by rfl, ?_⟩) hHeld ?_
        rotate_left
        · intro wq hSw
          go_simp
          all_goals with_reducible rfl
        try simp only [Act.put, List.getElem_toArray, List.getElem_cons_succ, List.getElem_cons_zero, List.setIfInBounds_toArray, List.set_cons_zero, List.set_cons_succ]
        refine wpAnyH_take (i := 1) (v := ?_) rfl (by kernel_rfl) (by kernel_rfl) (by kernel_rfl) (fun _ _ _ h => h) (Or.inl ⟨by rfl, ?_⟩) hHeld ?_
        rotate_left
        · intro wq hSw
          have q0 := (hSw.cell (p := ⟨b3, 0, none⟩) hb3).trans c3
          go_simp
          all_goals with_reducible rfl
        try simp only [Act.put, List.getElem_toArray, List.getElem_cons_succ, List.getElem_cons_zero, List.setIfInBounds_toArray, List.set_cons_zero, List.set_cons_succ]
        refine wpAnyH_take (i := 2) (v := ?_) rfl (by kernel_rfl) (by kernel_rfl) (by kernel_rfl) (fun _ _ _ h => h) (Or.inl ⟨by rfl, ?_⟩) hHeld ?_
        rotate_left
        · intro wq hSw
          go_simp
          all_goals with_reducible rfl
        try simp only [Act.put, List.getElem_toArray, List.getElem_cons_succ, List.getElem_cons_zero, List.setIfInBounds_toArray, List.set_cons_zero, List.set_cons_succ]
        refine wpAnyH_take (i := 3) (v := ?_) rfl (by kernel_rfl) (by kernel_rfl) (by kernel_rfl) (fun _ _ _ h => h) (Or.inl ⟨by rfl, ?_⟩) hHeld ?_
        rotate_left
        · intro wq hSw
          go_simp
          all_goals with_reducible rfl
        try simp only [Act.put, List.getElem_toArray, List.getElem_cons_succ, List.getElem_cons_zero, List.setIfInBounds_toArray, List.set_cons_zero, List.set_cons_succ]
        refine wpAnyH_take (i := 4) (v := ?_) rfl (by kernel_rfl) (by kernel_rfl) (by kernel_rfl) (fun _ _ _ h => h) (Or.inl ⟨by rfl, ?_⟩) hHeld ?_
        rotate_left
        · intro wq hSw
          have q0 := (hSw.cell (p := ⟨b, off + i, none⟩) hb).trans hcR
          go_simp
          all_goals with_reducible rfl
        try simp only [Act.put, List.getElem_toArray, List.getElem_cons_succ, List.getElem_cons_zero, List.setIfInBounds_toArray, List.set_cons_zero, List.set_cons_succ]
        refine wpAnyH_take (i := 7) (v := ?_) rfl (by kernel_rfl) (by kernel_rfl) (by kernel_rfl) (fun _ _ _ h => h) (Or.inl ⟨by rfl, ?_⟩) hHeld ?_
        rotate_left
        · intro wq hSw
          go_simp
          all_goals with_reducible rfl
        try simp only [Act.put, List.getElem_toArray, List.getElem_cons_succ, List.getElem_cons_zero, List.setIfInBounds_toArray, List.set_cons_zero, List.set_cons_succ]
        refine wpAnyH_take (i := 8) (v := ?_) rfl (by kernel_rfl) (by kernel_rfl) (by kernel_rfl) (fun _ _ _ h => h) (Or.inl ⟨by rfl, ?_⟩) hHeld ?_
        rotate_left
        · intro wq hSw
          go_simp
          all_goals with_reducible rfl
        try simp only [Act.put, List.getElem_toArray, List.getElem_cons_succ, List.getElem_cons_zero, List.setIfInBounds_toArray, List.set_cons_zero, List.set_cons_succ]
        refine wpAnyH_take (i := 9) (v := ?_) rfl (by kernel_rfl) (by kernel_rfl) (by kernel_rfl) (fun _ _ _ h => h) (Or.inl ⟨by rfl, ?_⟩) hHeld ?_
        rotate_left
        · intro wq hSw
          go_simp
          all_goals with_reducible rfl
        try simp only [Act.put, List.getElem_toArray, List.getElem_cons_succ, List.getElem_cons_zero, List.setIfInBounds_toArray, List.set_cons_zero, List.set_cons_succ]
        refine wpAnyH_take (i := 10) (v := ?_) rfl (by kernel_rfl) (by kernel_rfl) (by kernel_rfl) (fun _ _ _ h => h) (Or.inl ⟨by rfl, ?_⟩) hHeld ?_
        rotate_left
        · intro wq hSw
          go_simp
          all_goals with_reducible rfl
        try simp only [Act.put, List.getElem_toArray, List.getElem_cons_succ, List.getElem_cons_zero, List.setIfInBounds_toArray, List.set_cons_zero, List.set_cons_succ]
        refine wpAnyH_take (i := 11) (v := ?_) rfl (by kernel_rfl) (by kernel_rfl) (by kernel_rfl) (fun _ _ _ h => h) (Or.inl ⟨by rfl, ?_⟩) hHeld ?_
        rotate_left
        · intro wq hSw
          have q0 := (hSw.cell (p := ⟨b2, o2 + q, none⟩) hb2).trans hcv
          go_simp
          all_goals with_reducible rfl
        try simp only [Act.put, List.getElem_toArray, List.getElem_cons_succ, List.getElem_cons_zero, List.setIfInBounds_toArray, List.set_cons_zero, List.set_cons_succ]
        have T0 : Hid (Two w wr.drew A5 m c5 rs A6 m c6 bs) := HT.out.later (Keep.drew (Keep.refl wr))
        clear HT c3 hb3 hcR hcv hb hb2 d2
        generalize wr.drew = v0 at *
        refine wpAnyH_ready (rs := [5, 12]) (by kernel_rfl) (by simp) ?_
        refine AllReadyH.cons rfl (fun K hK => ?_) (AllReadyH.cons rfl (fun K hK => ?_) AllReadyH.nil)
        · go_simp
          have kk1 : Keep v0 (v0.alloc (.cells #[.slice Ar k cr] 32)) := (Keep.refl v0).obj _
          have T1 := Lib.hid (T0.out.later kk1)
          have hl1 : (v0.alloc (.cells #[.slice Ar k cr] 32)).cell? ⟨v0.heap.size, 0, none⟩ = some (.slice Ar k cr) := by rw [World.cell?_alloc_new]; rfl
          have hs1 := Lib.hid (And.intro T0.out.ne5 T0.out.ne6)
          refine hK.out _ _ T1.out.keep (fun hHeld => ?_)
          clear hK K kk1
          generalize v0.heap.size = g1 at *
          generalize v0.alloc (.cells #[.slice Ar k cr] 32) = v1 at *
          try simp only [Act.put, List.getElem_toArray, List.getElem_cons_succ, List.getElem_cons_zero, List.setIfInBounds_toArray, List.set_cons_zero, List.set_cons_succ]
          refine wpAnyH_ready (rs := [6, 12]) (by kernel_rfl) (by simp) ?_
          refine AllReadyH.cons rfl (fun K hK => ?_) (AllReadyH.cons rfl (fun K hK => ?_) AllReadyH.nil)
          · refine wp_append_row _ _ 47 rfl ⟨Ar, k, cr, R.getD i []⟩ Tryz.underlying47 infoRow rfl T1.out.own5 rfl hl1 (by omega) T1.out.keep.size ?_
            intro A52 c52 v2 h2 h3 h4
            have T2 := Lib.hid (T1.out.app5 HRL.out h2 h3)
            refine hK.out _ _ T2.out.keep (fun hHeld => ?_)
            clear hK K h2 h3 h4
            try simp only [Act.put, List.getElem_toArray, List.getElem_cons_succ, List.getElem_cons_zero, List.setIfInBounds_toArray, List.set_cons_zero, List.set_cons_succ]
            refine wpAnyH_ready (rs := [12]) (by kernel_rfl) (by simp) ?_
            refine AllReadyH.cons rfl (fun K hK => ?_) AllReadyH.nil
            go_simp
            have kk3 : Keep v2 (v2.alloc (.cells #[.int .u8 (x : Int)] 5)) := (Keep.refl v2).obj _
            have T3 := Lib.hid (T2.out.later kk3)
            have hl3 : (v2.alloc (.cells #[.int .u8 (x : Int)] 5)).cell? ⟨v2.heap.size, 0, none⟩ = some (.int .u8 (x : Int)) := by rw [World.cell?_alloc_new]; rfl
            have hs3 := Lib.hid (And.intro T2.out.ne5 T2.out.ne6)
            refine hK.out _ _ T3.out.keep (fun hHeld => ?_)
            clear hK K kk3
            generalize v2.heap.size = g3 at *
            generalize v2.alloc (.cells #[.int .u8 (x : Int)] 5) = v3 at *
            try simp only [Act.put, List.getElem_toArray, List.getElem_cons_succ, List.getElem_cons_zero, List.setIfInBounds_toArray, List.set_cons_zero, List.set_cons_succ]
            refine wpAnyH_ready (rs := [13]) (by kernel_rfl) (by simp) ?_
            refine AllReadyH.cons rfl (fun K hK => ?_) AllReadyH.nil
            refine wp_append_bytes _ _ 32 rfl Tryz.underlying32 info5 rfl T3.out.own6 rfl (one_of_cell hl3 hx) (by omega) T3.out.keep.size ?_
            intro A64 c64 v4 h2 h3 h4
            have T4 := Lib.hid (T3.out.app6 h2 h3)
            refine hK.out _ _ T4.out.keep (fun hHeld => ?_)
            clear hK K h2 h3 h4
            try simp only [Act.put, List.getElem_toArray, List.getElem_cons_succ, List.getElem_cons_zero, List.setIfInBounds_toArray, List.set_cons_zero, List.set_cons_succ]
            refine wpAnyH_take (i := 14) (v := ?_) rfl (by kernel_rfl) (by kernel_rfl) (by kernel_rfl) (fun _ _ _ h => h) (Or.inl ⟨by rfl, ?_⟩) hHeld ?_
            rotate_left
            · intro wq hSw
              go_simp
              all_goals with_reducible rfl
            try simp only [Act.put, List.getElem_toArray, List.getElem_cons_succ, List.getElem_cons_zero, List.setIfInBounds_toArray, List.set_cons_zero, List.set_cons_succ]
            refine wpAnyH_take (i := 15) (v := ?_) rfl (by kernel_rfl) (by kernel_rfl) (by kernel_rfl) (fun _ _ _ h => h) (Or.inl ⟨by rfl, ?_⟩) hHeld ?_
            rotate_left
            · intro wq hSw
              go_simp
              all_goals with_reducible rfl
            try simp only [Act.put, List.getElem_toArray, List.getElem_cons_succ, List.getElem_cons_zero, List.setIfInBounds_toArray, List.set_cons_zero, List.set_cons_succ]
            refine wpAnyH_done (by kernel_rfl) ?_ _
            refine NoPanic.normal ?_
            clear hHeld
            go_wp2_with fail
            go_roundw
            case rel => exact ⟨i + 1, m + 1, A52, c52, _, A64, c64, _, by omega, by omega, by go_num, rfl, rfl, T4.out, by rw [rowsXs, List.map_append, ← rowsXs]; exact HSM.out⟩
            case measure => simp [intOf]; omega
          · go_simp
            have kk5 : Keep v1 (v1.alloc (.cells #[.int .u8 (x : Int)] 5)) := (Keep.refl v1).obj _
            have T5 := Lib.hid (T1.out.later kk5)
            have hl5 : (v1.alloc (.cells #[.int .u8 (x : Int)] 5)).cell? ⟨v1.heap.size, 0, none⟩ = some (.int .u8 (x : Int)) := by rw [World.cell?_alloc_new]; rfl
            have hs5 := Lib.hid (And.intro T1.out.ne5 T1.out.ne6)
            have hl5' := (kk5.cell (p := ⟨g1, 0, none⟩) (World.block_lt_of_cell? _ _ hl1)).trans hl1
            refine hK.out _ _ T5.out.keep (fun hHeld => ?_)
            clear hK K kk5 hl1
            generalize v1.heap.size = g5 at *
            generalize v1.alloc (.cells #[.int .u8 (x : Int)] 5) = v5 at *
            try simp only [Act.put, List.getElem_toArray, List.getElem_cons_succ, List.getElem_cons_zero, List.setIfInBounds_toArray, List.set_cons_zero, List.set_cons_succ]
            refine wpAnyH_ready (rs := [6]) (by kernel_rfl) (by simp) ?_
            refine AllReadyH.cons rfl (fun K hK => ?_) AllReadyH.nil
            refine wp_append_row _ _ 47 rfl ⟨Ar, k, cr, R.getD i []⟩ Tryz.underlying47 infoRow rfl T5.out.own5 rfl hl5' (by omega) T5.out.keep.size ?_
            intro A56 c56 v6 h2 h3 h4
            have T6 := Lib.hid (T5.out.app5 HRL.out h2 h3)
            have hl6 := Two.cell h3 hl5 hs5.out.1
            have hs6 := Lib.hid (And.intro (Two.still h4 hl5 hs5.out.1) hs5.out.2)
            refine hK.out _ _ T6.out.keep (fun hHeld => ?_)
            clear hK K h2 h3 h4
            try simp only [Act.put, List.getElem_toArray, List.getElem_cons_succ, List.getElem_cons_zero, List.setIfInBounds_toArray, List.set_cons_zero, List.set_cons_succ]
            refine wpAnyH_ready (rs := [13]) (by kernel_rfl) (by simp) ?_
            refine AllReadyH.cons rfl (fun K hK => ?_) AllReadyH.nil
            refine wp_append_bytes _ _ 32 rfl Tryz.underlying32 info5 rfl T6.out.own6 rfl (one_of_cell hl6 hx) (by omega) T6.out.keep.size ?_
            intro A67 c67 v7 h2 h3 h4
            have T7 := Lib.hid (T6.out.app6 h2 h3)
            refine hK.out _ _ T7.out.keep (fun hHeld => ?_)
            clear hK K h2 h3 h4
            try simp only [Act.put, List.getElem_toArray, List.getElem_cons_succ, List.getElem_cons_zero, List.setIfInBounds_toArray, List.set_cons_zero, List.set_cons_succ]
            refine wpAnyH_take (i := 14) (v := ?_) rfl (by kernel_rfl) (by kernel_rfl) (by kernel_rfl) (fun _ _ _ h => h) (Or.inl ⟨by rfl, ?_⟩) hHeld ?_
            rotate_left
            · intro wq hSw
              go_simp
              all_goals with_reducible rfl
            try simp only [Act.put, List.getElem_toArray, List.getElem_cons_succ, List.getElem_cons_zero, List.setIfInBounds_toArray, List.set_cons_zero, List.set_cons_succ]
            refine wpAnyH_take (i := 15) (v := ?_) rfl (by kernel_rfl) (by kernel_rfl) (by kernel_rfl) (fun _ _ _ h => h) (Or.inl ⟨by rfl, ?_⟩) hHeld ?_
            rotate_left
            · intro wq hSw
              go_simp
              all_goals with_reducible rfl
            try simp only [Act.put, List.getElem_toArray, List.getElem_cons_succ, List.getElem_cons_zero, List.setIfInBounds_toArray, List.set_cons_zero, List.set_cons_succ]
            refine wpAnyH_done (by kernel_rfl) ?_ _
            refine NoPanic.normal ?_
            clear hHeld
            go_wp2_with fail
            go_roundw
            case rel => exact ⟨i + 1, m + 1, A56, c56, _, A67, c67, _, by omega, by omega, by go_num, rfl, rfl, T7.out, by rw [rowsXs, List.map_append, ← rowsXs]; exact HSM.out⟩
            case measure => simp [intOf]; omega
        · go_simp
          have kk8 : Keep v0 (v0.alloc (.cells #[.int .u8 (x : Int)] 5)) := (Keep.refl v0).obj _
          have T8 := Lib.hid (T0.out.later kk8)
          have hl8 : (v0.alloc (.cells #[.int .u8 (x : Int)] 5)).cell? ⟨v0.heap.size, 0, none⟩ = some (.int .u8 (x : Int)) := by rw [World.cell?_alloc_new]; rfl
          have hs8 := Lib.hid (And.intro T0.out.ne5 T0.out.ne6)
          refine hK.out _ _ T8.out.keep (fun hHeld => ?_)
          clear hK K kk8
          generalize v0.heap.size = g8 at *
          generalize v0.alloc (.cells #[.int .u8 (x : Int)] 5) = v8 at *
          try simp only [Act.put, List.getElem_toArray, List.getElem_cons_succ, List.getElem_cons_zero, List.setIfInBounds_toArray, List.set_cons_zero, List.set_cons_succ]
          refine wpAnyH_ready (rs := [5]) (by kernel_rfl) (by simp) ?_
          refine AllReadyH.cons rfl (fun K hK => ?_) AllReadyH.nil
          go_simp
          have kk9 : Keep v8 (v8.alloc (.cells #[.slice Ar k cr] 32)) := (Keep.refl v8).obj _
          have T9 := Lib.hid (T8.out.later kk9)
          have hl9 : (v8.alloc (.cells #[.slice Ar k cr] 32)).cell? ⟨v8.heap.size, 0, none⟩ = some (.slice Ar k cr) := by rw [World.cell?_alloc_new]; rfl
          have hs9 := Lib.hid (And.intro T8.out.ne5 T8.out.ne6)
          have hl9' := (kk9.cell (p := ⟨g8, 0, none⟩) (World.block_lt_of_cell? _ _ hl8)).trans hl8
          refine hK.out _ _ T9.out.keep (fun hHeld => ?_)
          clear hK K kk9 hl8
          generalize v8.heap.size = g9 at *
          generalize v8.alloc (.cells #[.slice Ar k cr] 32) = v9 at *
          try simp only [Act.put, List.getElem_toArray, List.getElem_cons_succ, List.getElem_cons_zero, List.setIfInBounds_toArray, List.set_cons_zero, List.set_cons_succ]
          refine wpAnyH_ready (rs := [6]) (by kernel_rfl) (by simp) ?_
          refine AllReadyH.cons rfl (fun K hK => ?_) AllReadyH.nil
          refine wp_append_row _ _ 47 rfl ⟨Ar, k, cr, R.getD i []⟩ Tryz.underlying47 infoRow rfl T9.out.own5 rfl hl9 (by omega) T9.out.keep.size ?_
          intro A510 c510 v10 h2 h3 h4
          have T10 := Lib.hid (T9.out.app5 HRL.out h2 h3)
          have hl10 := Two.cell h3 hl9' hs8.out.1
          have hs10 := Lib.hid (And.intro (Two.still h4 hl9' hs8.out.1) hs8.out.2)
          refine hK.out _ _ T10.out.keep (fun hHeld => ?_)
          clear hK K h2 h3 h4
          try simp only [Act.put, List.getElem_toArray, List.getElem_cons_succ, List.getElem_cons_zero, List.setIfInBounds_toArray, List.set_cons_zero, List.set_cons_succ]
          refine wpAnyH_ready (rs := [13]) (by kernel_rfl) (by simp) ?_
          refine AllReadyH.cons rfl (fun K hK => ?_) AllReadyH.nil
          refine wp_append_bytes _ _ 32 rfl Tryz.underlying32 info5 rfl T10.out.own6 rfl (one_of_cell hl10 hx) (by omega) T10.out.keep.size ?_
          intro A611 c611 v11 h2 h3 h4
          have T11 := Lib.hid (T10.out.app6 h2 h3)
          refine hK.out _ _ T11.out.keep (fun hHeld => ?_)
          clear hK K h2 h3 h4
          try simp only [Act.put, List.getElem_toArray, List.getElem_cons_succ, List.getElem_cons_zero, List.setIfInBounds_toArray, List.set_cons_zero, List.set_cons_succ]
          refine wpAnyH_take (i := 14) (v := ?_) rfl (by kernel_rfl) (by kernel_rfl) (by kernel_rfl) (fun _ _ _ h => h) (Or.inl ⟨by rfl, ?_⟩) hHeld ?_
          rotate_left
          · intro wq hSw
            go_simp
            all_goals with_reducible rfl
          try simp only [Act.put, List.getElem_toArray, List.getElem_cons_succ, List.getElem_cons_zero, List.setIfInBounds_toArray, List.set_cons_zero, List.set_cons_succ]
          refine wpAnyH_take (i := 15) (v := ?_) rfl (by kernel_rfl) (by kernel_rfl) (by kernel_rfl) (fun _ _ _ h => h) (Or.inl ⟨by rfl, ?_⟩) hHeld ?_
          rotate_left
          · intro wq hSw
            go_simp
            all_goals with_reducible rfl
          try simp only [Act.put, List.getElem_toArray, List.getElem_cons_succ, List.getElem_cons_zero, List.setIfInBounds_toArray, List.set_cons_zero, List.set_cons_succ]
          refine wpAnyH_done (by kernel_rfl) ?_ _
          refine NoPanic.normal ?_
          clear hHeld
          go_wp2_with fail
          go_roundw
          case rel => exact ⟨i + 1, m + 1, A510, c510, _, A611, c611, _, by omega, by omega, by go_num, rfl, rfl, T11.out, by rw [rowsXs, List.map_append, ← rowsXs]; exact HSM.out⟩
          case measure => simp [intOf]; omega
    · obtain rfl : i = p := by omega
      have hr0 := hT.own5.length
      have HLn : Hid ((rowsXs rs).length = m ∧ 1 ≤ m) := ⟨by rw [rowsXs_len, hr0], by have := hS.2.1; have := hS.1; rw [rowsXs_len, hr0] at this; omega⟩
      have HV := Lib.hid (HEnd.out _ _ hS)
      have hxs : Hid (∀ r ∈ rs, r.n = k) := fun r hr => by
        rw [← (hT.rows r hr).1]
        exact (hS.2.2.2.1 r.xs (List.mem_map.2 ⟨r, hr, rfl⟩)).1
      clear hT hS
      go_wp2_with fail
      have hrows : RowsIn wr (fun b => b < wr.heap.size) A5 m rs := RowsIn.of_own HT.out.own5 (fun r hr => ((HT.out.rows r hr).turned (Turned.of_keep (F := fun _ => False) HT.out.keep) fun _ _ e => e).mono fun b hb => Nat.lt_of_lt_of_le hb HT.out.keep.size) (fun b hb => (HT.out.own5.lt b hb).2)
      have hm2 : Mat wr ⟨A5, m, c5, rowsXs rs⟩ := ⟨rs, hrows, rfl, ownrows_le HT.out.own5⟩
      have hsz2 : Sz m k (rowsXs rs) := ⟨HLn.out.1, hrows.ok hxs.out⟩
      obtain ⟨r0, hr0⟩ : ∃ r0, rs[0]? = some r0 := ⟨_, List.getElem?_eq_getElem (by rw [HT.out.own5.length]; have := HLn.out.2; omega)⟩
      have hn0 := hxs.out r0 (List.mem_of_getElem? hr0)
      have hcb := vcomb_any wr.heap.size wr.heap.size m c5 c6 A5 A6 rs bs wr (hrows.at_rows hxs.out (by omega)) HT.out.own6.bytes (Nat.le_refl _) (Nat.le_refl _) (by have := HLn.out.2; omega) (by omega) r0 hr0
      have hall : ∀ r ∈ rs, r.n = r0.n := fun r hr => by rw [hxs.out r hr, hn0]
      rw [combOf, if_pos hall, combErr, if_pos hall, hn0, show rowsOf rs = rowsXs rs from rfl, HT.out.own5.length] at hcb
      have HCB := Lib.hid hcb
      rw [HLn.out.1] at HV
      clear hcb hrows hm2 hsz2 hr0 hn0 hall
      refine HCB.out.mono ?_
      rintro e w2 ⟨A2, n2, c2, rfl, o2, kk2⟩
      obtain rfl : k = n2 := by rw [← o2.length, vComb, tab_length]
      have O2 := Lib.hid o2
      have K2 := Lib.hid kk2
      clear o2 kk2 HCB
      go_wp2_with fail
      refine (vzero_any w2.heap.size k c2 A2 _ w2 O2.out.bytes (Nat.le_refl _) (by omega)).mono ?_
      rw [HV.out]
      rintro e w3 ⟨rfl, kk3⟩
      have K3 := Lib.hid kk3
      clear kk3
      go_wp2_with fail
      go_ret
      exact ⟨rfl, HT.out.keep.trans (K2.out.trans K3.out)⟩
end Go.Proofs.YtcjjhblgejkkeaaGreat
/- The landed code of layer 8: Contains, Has, Same, Witness. -/
namespace Go.Proofs.YtcjjhblgejkkeaaGreat
open Go.RowKit Lin
set_option linter.unusedVariables false
set_option linter.unusedSimpArgs false
/-- Where the first row lies of which p is told; -1, if there is none. -/
def idxI (p : List Nat → Bool) (M : List (List Nat)) : Int := if M.findIdx p < M.length then (M.findIdx p : Int) else -1
theorem idxI_some {p : List Nat → Bool} {M : List (List Nat)} {i : Nat} (hi : i < M.length) (hp : p (M.getD i []) = true) (h : ∀ j, j < i → p (M.getD j []) = false) : M.findIdx p = i ∧ idxI p M = (i : Int) := by
  have e : M.findIdx p = i := (List.findIdx_eq hi).2 ⟨by rwa [List.getD, List.getElem?_eq_getElem hi] at hp, fun j hj => by
    have := h j hj
    rwa [List.getD, List.getElem?_eq_getElem (by omega)] at this⟩
  exact ⟨e, by rw [idxI, e, if_pos hi]⟩
theorem idxI_none {p : List Nat → Bool} {M : List (List Nat)} (h : ∀ j, j < M.length → p (M.getD j []) = false) : M.findIdx p = M.length ∧ idxI p M = -1 := by
  have e : M.findIdx p = M.length := List.findIdx_eq_length.2 fun x hx => by
    obtain ⟨j, hj, e⟩ := List.getElem_of_mem hx
    have := h j hj
    rw [List.getD, List.getElem?_eq_getElem hj, ← e] at *
    exact this
  exact ⟨e, by rw [idxI, e, if_neg (by omega)]⟩
theorem idxI_any (p : List Nat → Bool) (M : List (List Nat)) : decide (0 ≤ idxI p M) = M.any p := by
  rw [idxI]
  by_cases h : M.findIdx p < M.length
  · rw [if_pos h]
    rw [decide_eq_true (by omega)]
    exact (List.any_eq_true.2 ⟨_, List.getElem_mem h, List.findIdx_getElem (w := h)⟩).symm
  · rw [if_neg h]
    have e : M.findIdx p = M.length := Nat.le_antisymm List.findIdx_le_length (by omega)
    have := List.findIdx_eq_length.1 e
    rw [show decide ((0 : Int) ≤ -1) = false from rfl]
    symm
    rw [List.any_eq_false]
    intro x hx
    rw [this x hx]; simp
set_option maxRecDepth 100000 in
theorem indexrows_any (g : Nat) (cap : Array Value) (p : List Nat → Bool) (n c k : Nat) (A : Option Addr) (M : List (List Nat)) (w : World) (h : Mat w ⟨A, n, c, M⟩) (s : Sz n k M) (hn : n ≤ 1000000) (eg : ∀ args w, (callFunc g args).run Tryz.prog w = .ok (.enter g args) w)
    (hstep : ∀ wr i Ay cy, Keep w wr → i < n → LiesIn wr (fun b => b < wr.heap.size) ⟨Ay, k, cy, M.getD i []⟩ → Calls Tryz.prog g (#[.slice Ay k cy] ++ cap) wr fun e w' => e = .returned (.bool (p (M.getD i []))) ∧ Keep wr w') :
    Calls Tryz.prog 119 #[.slice A n c, .func (.func g) #[] cap] w fun e w' => e = .returned (.int .i64 (idxI p M)) ∧ Keep w w' := by
  have H := Lib.hid h
  have HS := Lib.hid s
  have HT := Lib.hid hstep
  clear h s hstep
  go_enter Tryz.func119, Tryz.ntmps119
  go_wp2_with fail
  go_loopw [8] (fun iv wr => ∃ i : Nat, i ≤ n ∧ iv = .int .i64 i ∧ Keep w wr ∧ ∀ j, j < i → p (M.getD j []) = false) (fun iv _ => n - (intOf iv).toNat)
  case atStart => exact ⟨0, by omega, rfl, Keep.refl _, fun j hj => by omega⟩
  case round =>
    obtain ⟨i, hi, rfl, hk, hz⟩ := hrel
    have HK := Lib.hid hk
    have HZ := Lib.hid hz
    by_cases hlt : i < n
    · obtain ⟨b, off, Ay, cy, rfl, hb, hc, _, _, hl⟩ := (H.out.keep hk).row_at HS.out hlt
      have e1 : (0 : Int) ≤ (i : Int) := Int.natCast_nonneg _
      have e2 : (i : Int) < (n : Int) := by omega
      have hs := HT.out wr i Ay cy hk hlt hl
      obtain ⟨q, hq⟩ : ∃ q, p (M.getD i []) = q := ⟨_, rfl⟩
      rw [hq] at hs
      have HC := Lib.hid hs
      have HQ := Lib.hid hq
      clear hk hz hl hs hq
      cases q with
      | true =>
        have HR : Hid (idxI p M = (i : Int)) := (idxI_some (by rw [HS.out.1]; exact hlt) HQ.out HZ.out).2
        go_wp2_with fail
        refine HC.out.mono ?_
        rintro e w2 ⟨rfl, k2⟩
        have K2 := Lib.hid k2
        clear k2
        go_wp2_with fail
        go_ret
        exact ⟨by rw [HR.out]; rfl, HK.out.trans K2.out⟩
      | false =>
        go_wp2_with fail
        refine HC.out.mono ?_
        rintro e w2 ⟨rfl, k2⟩
        have K2 := Lib.hid k2
        clear k2
        go_wp2_with fail
        go_roundw
        case rel => exact ⟨i + 1, by omega, by go_num, HK.out.trans K2.out, fun j hj => by
          by_cases e : j = i
          · subst e; exact HQ.out
          · exact HZ.out j (by omega)⟩
        case measure => simp [intOf]; omega
    · obtain rfl : i = n := by omega
      have HR : Hid (idxI p M = -1) := (idxI_none fun j hj => HZ.out j (by rw [← HS.out.1]; exact hj)).2
      clear hk hz
      go_wp2_with fail
      go_ret
      exact ⟨by rw [HR.out]; rfl, HK.out⟩
theorem containsrows_any (g : Nat) (cap : Array Value) (p : List Nat → Bool) (n c k : Nat) (A : Option Addr) (M : List (List Nat)) (w : World) (h : Mat w ⟨A, n, c, M⟩) (s : Sz n k M) (hn : n ≤ 1000000) (eg : ∀ args w, (callFunc g args).run Tryz.prog w = .ok (.enter g args) w)
    (hstep : ∀ wr i Ay cy, Keep w wr → i < n → LiesIn wr (fun b => b < wr.heap.size) ⟨Ay, k, cy, M.getD i []⟩ → Calls Tryz.prog g (#[.slice Ay k cy] ++ cap) wr fun e w' => e = .returned (.bool (p (M.getD i []))) ∧ Keep wr w') :
    Calls Tryz.prog 86 #[.slice A n c, .func (.func g) #[] cap] w fun e w' => e = .returned (.bool (M.any p)) ∧ Keep w w' := by
  have hi := indexrows_any g cap p n c k A M w h s hn eg hstep
  have ha := idxI_any p M
  generalize idxI p M = q at *
  generalize M.any p = z at *
  have HI := Lib.hid hi
  clear hi h s eg hstep
  go_enter Tryz.func86, Tryz.ntmps86
  go_wp2_with fail
  refine HI.out.mono ?_
  rintro e w1 ⟨rfl, k1⟩
  have K1 := Lib.hid k1
  clear k1
  go_wp2_with fail
  go_ret
  exact ⟨by rw [← ha]; rfl, K1.out⟩
theorem fits_ok {M : List (List Nat)} (ha : ∀ r ∈ M, AllB r) (hf : fits M) : RowsOk (sizeC M) M := fun r hr => ⟨by rw [sizeC, if_pos hf]; exact hf r hr, ha r hr⟩
theorem Mat.all {w : World} {x : MV} (h : Mat w x) : ∀ r ∈ x.M, AllB r := fun r hr => by
  obtain ⟨rs, h1, h2, _⟩ := h
  rw [← h2] at hr
  obtain ⟨y, hy, rfl⟩ := List.mem_map.1 hr
  exact (h1.2.1 y hy).2.1
theorem eg_out : ∀ args w, (callFunc 121 args).run Tryz.prog w = .ok (.enter 121 args) w := enters_at Tryz.func121 rfl rfl
section
variable {w : World} {A A' : Option Addr} {n n' c c' : Nat} {M N : List (List Nat)}
theorem both_ok {x y : MV} {w' : World} (h : Mat w x) (k : Mat w' y) (hf : fits (x.M ++ y.M)) : RowsOk (sizeC (x.M ++ y.M)) x.M ∧ RowsOk (sizeC (x.M ++ y.M)) y.M := by
  have hok := fits_ok (M := x.M ++ y.M) (fun r hr => by
    rcases List.mem_append.1 hr with e | e
    · exact h.all r e
    · exact k.all r e) hf
  exact ⟨hok.left, hok.right⟩
set_option maxRecDepth 100000 in
set_option maxHeartbeats 1000000 in
theorem contains_mat (h : Mat w ⟨A, n, c, M⟩) (k : Mat w ⟨A', n', c', N⟩) (hn : n ≤ 400) (hn' : n' ≤ 400) (hc : sizeC (M ++ N) ≤ 400) :
    Calls Tryz.prog 40 #[.slice A n c, .slice A' n' c'] w fun e w' => e = .returned (.tuple #[.bool (conV M N), .int .i64 (sizeE (M ++ N))]) ∧ Keep w w' := by
  have hw := width_mat h k hn hn'
  by_cases hf : fits (M ++ N)
  · obtain ⟨o1, o2⟩ := both_ok h k hf
    have hlN : N.length = n' := k.len
    rw [conV, if_pos hf]
    have he : sizeE (M ++ N) = 0 := by rw [sizeE, if_pos hf]
    have hal : (N.any fun v => !conB M [v]) = !conB M N := by rw [con_all o1 o2]; simp [List.all_eq_not_any_not]
    rw [he] at hw ⊢
    obtain ⟨z, hz⟩ : ∃ z, conB M N = z := ⟨_, rfl⟩
    rw [hz] at hal ⊢
    generalize sizeC (M ++ N) = wd at *
    have HW := Lib.hid hw
    have H := Lib.hid h
    have K := Lib.hid k
    have O1 := Lib.hid o1
    have SN : Hid (Sz n' wd N) := ⟨hlN, o2⟩
    have HA := Lib.hid hal
    clear hw h k o1 o2 hal hz hf he hlN
    go_enter Tryz.func40, Tryz.ntmps40
    go_wp2_with fail
    refine HW.out.mono ?_
    rintro e w1 ⟨rfl, k1⟩
    have K1 := Lib.hid k1
    clear k1 HW
    go_wp2_with fail
    refine (outside_any n c wd A M w1 (H.out.keep K1.out) O1.out hn hc).mono ?_
    rintro e w2 ⟨b5, b3, rfl, hO, k2⟩
    have HO := Lib.hid hO
    have K2 := Lib.hid (K1.out.trans k2)
    clear hO k2
    go_wp2_with fail
    refine (containsrows_any 121 #[.pointer (some ⟨b5, 0, none⟩), .pointer (some ⟨b3, 0, none⟩)] (fun v => !conB M [v]) n' c' wd A' N w2 (K.out.keep K2.out) SN.out (by omega) eg_out fun wr i Ay cy hk hi hl => outc_any b5 b3 wd cy Ay M (N.getD i []) wr (HO.out.keep hk) hl hc).mono ?_
    rw [HA.out]
    rintro e w3 ⟨rfl, k3⟩
    have K3 := Lib.hid (K2.out.trans k3)
    clear k3
    go_wp2_with fail
    go_ret2
    exact ⟨rfl, K3.out⟩
  · rw [conV, if_neg hf]
    have he : sizeE (M ++ N) = 21 := by rw [sizeE, if_neg hf]
    rw [he] at hw ⊢
    generalize sizeC (M ++ N) = wd at *
    have HW := Lib.hid hw
    clear hw h k hf he
    go_enter Tryz.func40, Tryz.ntmps40
    go_wp2_with fail
    refine HW.out.mono ?_
    rintro e w1 ⟨rfl, k1⟩
    have K1 := Lib.hid k1
    clear k1 HW
    go_wp2_with fail
    go_ret2
    exact ⟨rfl, K1.out⟩
set_option maxRecDepth 100000 in
theorem has_mat {xs : List Nat} (h : Mat w ⟨A, n, c, M⟩) (k : LiesIn w (fun b => b < w.heap.size) ⟨A', n', c', xs⟩) (hn : n ≤ 400) (hc : sizeC (M ++ [xs]) ≤ 400) :
    Calls Tryz.prog 38 #[.slice A n c, .slice A' n' c'] w fun e w' => e = .returned (.tuple #[.bool (conV M [xs]), .int .i64 (sizeE (M ++ [xs]))]) ∧ Keep w w' := by
  have hm : Mat (w.alloc (.cells #[.slice A' n' c'] 32)) ⟨some ⟨w.heap.size, 0, none⟩, 1, 1, [xs]⟩ := lit_mat rfl _ 1 [⟨A', n', c', xs⟩] _ (fun r hr => by rw [List.mem_singleton.1 hr]; exact k) rfl rfl _ rfl
  have hh := contains_mat (h.keep ((Keep.refl w).obj (.cells #[.slice A' n' c'] 32))) hm hn (by omega) hc
  generalize conV M [xs] = z at *
  generalize sizeE (M ++ [xs]) = er at *
  have HH := Lib.hid hh
  clear hh hm h k hc
  go_enter Tryz.func38, Tryz.ntmps38
  go_wp2_with fail
  refine HH.out.mono ?_
  rintro e w1 ⟨rfl, k1⟩
  have K1 := Lib.hid (Keep.trans ((Keep.refl w).obj _) k1)
  clear k1
  go_wp2_with fail
  go_ret2
  exact ⟨rfl, K1.out⟩
set_option maxRecDepth 100000 in
theorem same_span (h : Mat w ⟨A, n, c, M⟩) (k : Mat w ⟨A', n', c', N⟩) (hn : n ≤ 400) (hn' : n' ≤ 400) (hc : sizeC (M ++ N) ≤ 400) (hc' : sizeC (N ++ M) ≤ 400) :
    Calls Tryz.prog 35 #[.slice A n c, .slice A' n' c'] w fun e w' => e = .returned (.tuple #[.bool (conV M N && conV N M), .int .i64 (sizeE (M ++ N))]) ∧ Keep w w' := by
  have h1 := contains_mat h k hn hn' hc
  have h2 := fun w' (kk : Keep w w') => contains_mat (k.keep kk) (h.keep kk) hn' hn hc'
  generalize conV M N = x at *
  generalize conV N M = y at *
  generalize sizeE (M ++ N) = er at *
  generalize sizeE (N ++ M) = er2 at *
  have H1 := Lib.hid h1
  have H2 := Lib.hid h2
  clear h1 h2 h k hc hc'
  cases x <;>
  · go_enter Tryz.func35, Tryz.ntmps35
    go_wp2_with fail
    refine H1.out.mono ?_
    rintro e w1 ⟨rfl, k1⟩
    have K1 := Lib.hid k1
    clear k1
    go_wp2_with fail
    refine (H2.out w1 K1.out).mono ?_
    rintro e w2 ⟨rfl, k2⟩
    have K2 := Lib.hid (K1.out.trans k2)
    clear k2
    go_wp2_with fail
    go_ret2
    exact ⟨rfl, K2.out⟩
/-- Whether there is a witness; the draw for it. -/
def witB (M N : List (List Nat)) : Bool := if fits (M ++ N) then !conB N M else false
def witN (M N : List (List Nat)) : List Nat := if witB M N then vUnit M.length (M.findIdx fun v => !conB N [v]) else []
def NewWit (w : World) (M N : List (List Nat)) (e : Ending) (w' : World) : Prop :=
  ∃ A n c, e = .returned (.tuple #[.slice A n c, .bool (witB M N), .int .i64 (sizeE (M ++ N))]) ∧ Own w' w.heap.size 5 A n c (witN M N) ∧ Keep w w'
end
end Go.Proofs.YtcjjhblgejkkeaaGreat
