/- The landed code of layer 8: lists of rows joined; their width; sums. -/
import Derived.Test.YtofhdaeeiienfaaSw
import Derived.Test.YtofhdaeeiienfaaSpl
import Derived.Test.YtofhdaeeiienfaaLibc
import Derived.Test.YtofhdaeeiienfaaRegion
import Derived.Lib.SliceRun
import Derived.Deep.QuietTactic
import Derived.BigQuiet
namespace Go.Proofs.Ytofhdaeeiienfaa
open Go.RowKit
set_option linter.unusedVariables false
set_option linter.unusedSimpArgs false
/-- append(nil, make([][]byte, n)...), as the translation has it. -/
theorem run_append_nils {P : Program} {t u e : TypeId} (ht : P.underlying t = some (.slice e)) {k : IntKind} (hu : P.underlying u = some (.int k))
    (hi : (P.info? e).map (fun i => (i.zero, i.size, i.bytes)) = some (some (.slice none 0 0), 1, 24)) (n : Nat) (h0 : 0 < n) (hn : n ≤ 1000000) (w : World) (ty : TypeId) :
    ∃ c w', (Builtin.append_ #[t, u] ty #[.slice none 0 0, .int .i64 (n : Int)]).run P w = .ok (.slice (some ⟨w.heap.size, 0, none⟩) n c) w' ∧ OwnRows w' w.heap.size e (some ⟨w.heap.size, 0, none⟩) n c (List.replicate n ⟨none, 0, 0, []⟩) ∧ Keep w w' := by
  obtain ⟨i0, hi0, hz0, hz1, hz2⟩ := info_parts hi
  have hw : IntKind.i64.wrap (n : Int) = (n : Int) := IntWalk.i64_in _ (by omega)
  have hn0 : n ≠ 0 := by omega
  have hl : ¬ ((n : Int) < 0) := by omega
  have h63' : ¬ (9223372036854775807 < (n : Int)) := by omega
  have h48' : ¬ (281474976710656 < Builtin.nextslicecap n 0 * i0.bytes) := by rw [nextslicecap_zero h0, hz2]; omega
  have h48'' : ¬ ((281474976710656 : Int) < (n : Int) * (i0.bytes : Int)) := by rw [hz2]; omega
  have h48c : ¬ (281474976710656 < Builtin.nextslicecap n 0 * 24) := by rw [nextslicecap_zero h0]; omega
  have h48d : ¬ ((281474976710656 : Int) < (n : Int) * 24) := by omega
  have hge := grownCap_ge w n 0 e
  have hcm := grownCap_le_maxLen w n 0 e (by unfold maxLen; omega)
  refine ⟨grownCap w n 0 e, w.drew.alloc (.cells (Builtin.zeroCells #[.slice none 0 0] n ++ Builtin.zeroCells #[.slice none 0 0] (grownCap w n 0 e - n)) e), ?_, ?_, ?_⟩
  · simp [Builtin.append_, run_underlying ht, run_underlying hu, asInt, asIntOf, sizeOf, typeInfo, zeroValue, hi0, hz0, hz1, hz2, hw, hn0, hl, h63', h48c, h48d, Question.forced, run_firstCells_none, newRow, grownCap, Value.cells]
    all_goals (intro h; omega)
  · refine ⟨by simp, .inr ⟨w.heap.size, _, _, rfl, Nat.le_refl _, heap_alloc_new w.drew _, hge, hcm, ?_, ?_⟩⟩
    · simp [size_zeroCells]; omega
    · apply List.ext_getElem
      · simp [Builtin.zeroCells]
      · intro i h1 h2
        simp [Builtin.zeroCells, Nat.mod_one, RowV.val]
  · exact ((Keep.refl w).drew).alloc _ _
theorem wpList_append_nils {P : Program} {w : World} {ops : Array Oper} {rest : List Oper} {o : Oper} {a : Act} {Q : Exit → Act → World → Prop} (hgd : o.guard = none) (s x : Operand) (t u : TypeId)
    (ho : o.op = .call { callee := .builtin .append, args := #[s, x], argTypes := #[t, u] }) {e : TypeId} {k : IntKind} (ht : P.underlying t = some (.slice e)) (hu : P.underlying u = some (.int k))
    (hi : (P.info? e).map (fun i => (i.zero, i.size, i.bytes)) = some (some (.slice none 0 0), 1, 24)) (n : Nat) (hs : a.eval s = .slice none 0 0) (hx : a.eval x = .int .i64 (n : Int)) (h0 : 0 < n) (hn : n ≤ 1000000)
    (h : ∀ c w', OwnRows w' w.heap.size e (some ⟨w.heap.size, 0, none⟩) n c (List.replicate n ⟨none, 0, 0, []⟩) → Keep w w' → wpList P ops Q rest (a.put o.dst (.slice (some ⟨w.heap.size, 0, none⟩) n c)) w') : wpList P ops Q (o :: rest) a w := by
  refine wpList_plain hgd fun _ hK => ?_
  obtain ⟨c, w', hr, h2, h3⟩ := run_append_nils (P := P) ht hu hi n h0 hn w o.type
  unfold Oper.wp execOp
  simp only [ho, resolve, invoke, builtin, Sem.run_bind, Sem.run_pure, Result.andThen_ok, List.map_toArray, List.map_cons, List.map_nil, hs, hx, hr]
  exact hK _ _ (h c w' h2 h3)
theorem OwnRows.nothing {w : World} {base e n c : Nat} {A : Option Addr} {rs : List RowV} (h : OwnRows w base e A n c rs) : OwnRows w base e A 0 c [] := by
  rcases h.2 with ⟨hv, h0⟩ | ⟨g, cap, cur, hv, hg, hh, hle, hm, hs, _⟩
  · injection hv with e1 e2 e3
    subst e1; subst e3
    exact OwnRows.none_ _ _ _
  · injection hv with e1 e2 e3
    subst e1; subst e3
    exact ⟨by simp, .inr ⟨g, _, cur, rfl, hg, hh, Nat.zero_le _, hm, hs, by simp⟩⟩
set_option maxRecDepth 100000 in
theorem grow_rows (n : Nat) (w : World) (hn : n ≤ 1000000) :
    Calls Try.prog 80 #[.slice none 0 0, .int .i64 (n : Int)] w fun e w' => ∃ A c, e = .returned (.slice A 0 c) ∧ Lay w w' A 0 c [] := by
  by_cases h0 : n = 0
  · subst h0
    go_enter Try.func80, Try.ntmps80
    go_wp2_with fail
    go_ret
    exact ⟨none, 0, rfl, Lay.nothing _⟩
  · have b1 : ¬ ((n : Int) < 0) := by omega
    have b2 : (0 : Int) < (n : Int) := by omega
    have b3 : (0 : Int) ≤ (n : Int) := by omega
    go_enter Try.func80, Try.ntmps80
    go_wp2_with (at_builtin; refine wpList_append_nils rfl _ _ 22 3 rfl Try.underlying22 Try.underlying3 infoRow n rfl rfl (by omega) hn ?_)
    intro c w' hown hk
    have HO := Lib.hid hown.nothing
    have HK := Lib.hid hk
    have hle : (n : Int) ≤ (c : Int) := by
      have := ownrows_le hown
      omega
    have hc0 : (0 : Int) ≤ (c : Int) := by omega
    clear hown hk
    go_wp2_with fail
    go_ret
    exact ⟨_, _, rfl, HO.out, fun r hr => by simp at hr, HK.out⟩
/-- Lists of rows, one behind the other. -/
def joinL (ls : List MV) : List (List Nat) := ls.flatMap (·.M)
def sizesL (ls : List MV) : Nat := (ls.map (·.n)).sum
theorem sizesL_succ {ls : List MV} {k : Nat} {r : MV} (h : ls[k]? = some r) : sizesL (ls.take (k + 1)) = sizesL (ls.take k) + r.n := by
  rw [take_snoc_at h]; simp [sizesL]
theorem joinL_succ {ls : List MV} {k : Nat} {r : MV} (h : ls[k]? = some r) : joinL (ls.take (k + 1)) = joinL (ls.take k) ++ r.M := by
  rw [take_snoc_at h]; simp [joinL]
theorem sizesL_le (ls : List MV) (k : Nat) : sizesL (ls.take k) ≤ sizesL ls := by
  have h : ls = ls.take k ++ ls.drop k := (List.take_append_drop k ls).symm
  have : sizesL ls = sizesL (ls.take k) + sizesL (ls.drop k) := by
    conv => lhs; rw [h, sizesL, List.map_append, List.sum_append]
    rfl
  omega
/-- A slice of lists of rows. -/
def ListsAt (w : World) (A : Option Addr) (m : Nat) (ls : List MV) : Prop :=
  ls.length = m ∧ (∀ x ∈ ls, Mat w x) ∧ (0 < m → ∃ b off, A = some ⟨b, off, none⟩ ∧ b < w.heap.size ∧ ∀ i x, ls[i]? = some x → w.cell? ⟨b, off + i, none⟩ = some (.slice x.A x.n x.c))
theorem ListsAt.keep {w w' : World} {A : Option Addr} {m : Nat} {ls : List MV} (h : ListsAt w A m ls) (k : Keep w w') : ListsAt w' A m ls :=
  ⟨h.1, fun x hx => (h.2.1 x hx).keep k, fun hn => by
    obtain ⟨b, off, e, hb, hc⟩ := h.2.2 hn
    exact ⟨b, off, e, Nat.lt_of_lt_of_le hb k.size, fun i r hi => (k.cell (p := ⟨b, off + i, none⟩) hb).trans (hc i r hi)⟩⟩
theorem ListsAt.at_ {w : World} {A : Option Addr} {m : Nat} {ls : List MV} (h : ListsAt w A m ls) {k : Nat} (hk : k < m) :
    ∃ b off x, A = some ⟨b, off, none⟩ ∧ b < w.heap.size ∧ ls[k]? = some x ∧ w.cell? ⟨b, off + k, none⟩ = some (.slice x.A x.n x.c) ∧ Mat w x := by
  obtain ⟨b, off, e, hb, hc⟩ := h.2.2 (by omega)
  have hl : k < ls.length := by rw [h.1]; exact hk
  have hr := List.getElem?_eq_getElem hl
  exact ⟨b, off, ls[k], e, hb, hr, hc k _ hr, h.2.1 _ (List.getElem_mem hl)⟩
theorem ListsAt.lit {w : World} {h : Nat} (hh : w.heap.size = h) (t : TypeId) (m : Nat) (ls : List MV) (cs : Array Value) (hc : cs = (ls.map fun x => Value.slice x.A x.n x.c).toArray) (hl : ls.length = m) (hr : ∀ x ∈ ls, Mat w x) :
    ListsAt (w.alloc (.cells cs t)) (some ⟨h, 0, none⟩) m ls := by
  subst hh
  refine ⟨hl, fun r h1 => (hr r h1).keep ((Keep.refl w).obj _), fun _ => ⟨_, 0, rfl, by simp, fun i r hi => ?_⟩⟩
  rw [cell_of_row _ _ _ _ _ _ (heap_alloc_new w _), hc, Nat.zero_add]
  simp [hi]
set_option maxRecDepth 100000 in
set_option maxHeartbeats 1000000 in
theorem concatrows_any (n c : Nat) (A : Option Addr) (ls : List MV) (w : World) (h : ListsAt w A n ls) (hn : n ≤ 1000000) (ht : sizesL ls ≤ 1000000) :
    Calls Try.prog 49 #[.slice A n c] w fun e w' => ∃ A' n' c', e = .returned (.slice A' n' c') ∧ ∃ rs, Lay w w' A' n' c' rs ∧ rowsXs rs = joinL ls := by
  have HH := Lib.hid h
  have HL := Lib.hid h.1
  clear h
  go_enter Try.func49, Try.ntmps49
  go_wp2_with fail
  go_loop [3, 11] (fun t i => ∃ k : Nat, k ≤ n ∧ i = .int .i64 k ∧ t = .int .i64 (sizesL (ls.take k) : Nat)) (fun _ i => n - (intOf i).toNat)
  case atStart => exact ⟨0, by omega, rfl, rfl⟩
  case round =>
    obtain ⟨k, hk, rfl, rfl⟩ := hrel
    by_cases hlt : k < n
    · obtain ⟨b, off, r, rfl, hb, hr, hc, hby⟩ := HH.out.at_ hlt
      have e0 : (0 : Int) ≤ (k : Int) := Int.natCast_nonneg _
      have e1 : (k : Int) < (n : Int) := by omega
      have h1 := sizesL_succ hr
      have h2 := sizesL_le ls (k + 1)
      have h3 : sizesL (ls.take k) + r.n ≤ 1000000 := by omega
      have HS := Lib.hid h1
      obtain ⟨t, ht'⟩ : ∃ t, sizesL (ls.take k) = t := ⟨_, rfl⟩
      rw [ht'] at h3 HS ⊢
      have e2 : (0 : Int) ≤ (t : Int) + (r.n : Int) := by omega
      have e3 : ¬ ((t : Int) + (r.n : Int) < 0) := by omega
      clear h1 h2 hr hby ht'
      go_wp2_with fail
      go_round
      case rel => exact ⟨k + 1, by omega, by go_num, by rw [HS.out]; go_num⟩
      case measure => simp [intOf]; omega
    · obtain rfl : k = n := by omega
      have h3 : sizesL (ls.take k) ≤ 1000000 := Nat.le_trans (sizesL_le ls k) ht
      generalize sizesL (ls.take k) = t at *
      go_wp2_with fail
      refine (grow_rows t _ h3).mono ?_
      rintro e w1 ⟨A1, c1, rfl, o1⟩
      have O1 := Lib.hid o1
      clear o1
      go_wp2_with fail
      go_loopw [6, 27] (fun o i wr => ∃ (j : Nat) (Ao : Option Addr) (co : Nat) (rs : List RowV), j ≤ k ∧ i = .int .i64 j ∧ o = .slice Ao (sizesL (ls.take j) : Nat) co ∧ Lay w wr Ao (sizesL (ls.take j)) co rs ∧ rowsXs rs = joinL (ls.take j)) (fun _ i _ => k - (intOf i).toNat)
      case atStart => exact ⟨0, A1, c1, [], by omega, rfl, rfl, O1.out, rfl⟩
      case round =>
        obtain ⟨j, Ao, co, rs, hj, rfl, rfl, hown, hxs⟩ := hrel
        have HO := Lib.hid hown
        have HX := Lib.hid hxs
        clear hown hxs
        by_cases hlt : j < k
        · obtain ⟨b, off, r, rfl, hb, hr, hc, _⟩ := (HH.out.keep HO.out.keep).at_ hlt
          have hm : Mat w ⟨r.A, r.n, r.c, r.M⟩ := HH.out.2.1 r (List.mem_of_getElem? hr)
          have e0 : (0 : Int) ≤ (j : Int) := Int.natCast_nonneg _
          have e1 : (j : Int) < (k : Int) := by omega
          have h1 := sizesL_succ hr
          have h2 := sizesL_le ls (j + 1)
          obtain ⟨t2, ht2⟩ : ∃ t, sizesL (ls.take (j + 1)) = t := ⟨_, rfl⟩
          rw [ht2] at h1 h2
          have HS := Lib.hid (And.intro ht2 h1)
          have HJ := Lib.hid (joinL_succ hr)
          have HM := Lib.hid hm
          obtain ⟨t0, ht0⟩ : ∃ t, sizesL (ls.take j) = t := ⟨_, rfl⟩
          rw [ht0] at HO HS ⊢
          clear h1 hr hm ht2 ht0
          go_wp2_with (at_builtin; refine wpList_append_lay rfl _ _ 22 rfl Try.underlying22 rfl HO.out rfl HM.out t2 HS.out.2.symm (by omega) ?_)
          intro A2 c2 w2 rs2 h2' hx2
          have HO2 := Lib.hid h2'
          have HX2 := Lib.hid hx2
          clear h2' hx2
          go_wp2_with fail
          go_roundw
          case rel => exact ⟨j + 1, A2, c2, rs2, by omega, by go_num, by rw [HS.out.1], by rw [HS.out.1]; exact HO2.out, by rw [HX2.out, HX.out, HJ.out]⟩
          case measure => simp [intOf]; omega
        · obtain rfl : j = k := by omega
          go_wp2_with fail
          go_ret
          refine ⟨Ao, _, co, rfl, rs, HO.out, ?_⟩
          rw [HX.out, List.take_of_length_le (by rw [HL.out]; exact Nat.le_refl _)]
theorem OwnedRows.lower {w w1 w2 : World} {A : Option Addr} {n c : Nat} {M : List (List Nat)} {rs : List RowV} (h : OwnedRows w1 w2 A n c M rs) (k : Keep w w1) : OwnedRows w w2 A n c M rs :=
  ⟨h.1.lower k.size, fun r hr => (h.2.1 r hr).lower k.size, h.2.2.1, k.trans h.2.2.2⟩
theorem joinL_two (x y : MV) : joinL [x, y] = x.M ++ y.M := by simp [joinL]
section
variable {w : World} {A A' : Option Addr} {n n' c c' : Nat} {M N : List (List Nat)}
theorem Mat.cap {x : MV} (h : Mat w x) : x.n ≤ x.c := by obtain ⟨_, _, _, e⟩ := h; exact e
set_option maxRecDepth 100000 in
theorem width_mat (h : Mat w ⟨A, n, c, M⟩) (k : Mat w ⟨A', n', c', N⟩) (hn : n ≤ 400) (hn' : n' ≤ 400) :
    Calls Try.prog 46 #[.slice A n c, .slice A' n' c'] w fun e w' => e = .returned (.tuple #[.int .i64 (sizeC (M ++ N) : Nat), .int .i64 (sizeE (M ++ N))]) ∧ Keep w w' := by
  have H := Lib.hid h
  have K := Lib.hid k
  clear h k
  go_enter Try.func46, Try.ntmps46
  go_wp2_with fail
  refine (concatrows_any 2 2 _ [⟨A, n, c, M⟩, ⟨A', n', c', N⟩] _ (ListsAt.lit rfl _ 2 _ _ rfl rfl (fun x hx => by
    simp only [List.mem_cons, List.not_mem_nil, or_false] at hx
    rcases hx with rfl | rfl
    · exact H.out
    · exact K.out)) (by omega) (by simp [sizesL]; omega)).mono ?_
  rintro e w1 ⟨A1, n1, c1, rfl, rs, hL, hx⟩
  have hm := hL.mat
  rw [hx, joinL_two] at hm
  have hk1 : Keep w w1 := ((Keep.refl w).obj _).trans hL.keep
  have hl : n1 = n + n' := by
    have e1 := hm.len
    rw [List.length_append, H.out.len, K.out.len] at e1
    exact e1.symm
  have HM := Lib.hid hm
  have HK1 := Lib.hid hk1
  have HL := Lib.hid hl
  clear hL hx hm hk1 hl
  go_wp2_with fail
  refine (size_mat HM.out (by rw [HL.out]; omega)).mono ?_
  rintro e w2 ⟨rfl, k2⟩
  have HK2 := Lib.hid k2
  clear k2
  go_wp2_with fail
  go_ret2
  exact ⟨rfl, HK1.out.trans HK2.out⟩
set_option maxRecDepth 100000 in
theorem sum_new (h : Mat w ⟨A, n, c, M⟩) (k : Mat w ⟨A', n', c', N⟩) (hn : n ≤ 400) (hn' : n' ≤ 400) (hc : sizeC (M ++ N) ≤ 400) :
    Calls Try.prog 21 #[.slice A n c, .slice A' n' c'] w (NewOwned w (reduceN (M ++ N)) (sizeE (M ++ N))) := by
  have H := Lib.hid h
  have K := Lib.hid k
  clear h k
  go_enter Try.func21, Try.ntmps21
  go_wp2_with fail
  refine (concatrows_any 2 2 _ [⟨A, n, c, M⟩, ⟨A', n', c', N⟩] _ (ListsAt.lit rfl _ 2 _ _ rfl rfl (fun x hx => by
    simp only [List.mem_cons, List.not_mem_nil, or_false] at hx
    rcases hx with rfl | rfl
    · exact H.out
    · exact K.out)) (by omega) (by simp [sizesL]; omega)).mono ?_
  rintro e w1 ⟨A1, n1, c1, rfl, rs, hL, hx⟩
  have hm := hL.mat
  rw [hx, joinL_two] at hm
  have hk1 : Keep w w1 := ((Keep.refl w).obj _).trans hL.keep
  have hl : n1 = n + n' := by
    have e1 := hm.len
    rw [List.length_append, H.out.len, K.out.len] at e1
    exact e1.symm
  have HM := Lib.hid hm
  have HK1 := Lib.hid hk1
  have HL := Lib.hid hl
  clear hL hx hm hk1 hl
  go_wp2_with fail
  obtain ⟨rt, e1, e2, e3⟩ := HM.out
  have hr := mreduce_any n1 c1 A1 _ rt w1 e1 (fun _ e => e) (by rw [HL.out]; omega) (by rw [e2]; show sizeC (M ++ N) ≤ 1000; omega)
  rw [e2] at hr
  refine hr.mono ?_
  rintro e w2 ⟨A2, n2, c2, rfl, rs2, h2⟩
  have H2 := Lib.hid h2
  clear hr h2 e1 e2
  go_wp2_with fail
  go_ret2
  exact ⟨A2, n2, c2, rfl, rs2, H2.out.lower HK1.out⟩
end
end Go.Proofs.Ytofhdaeeiienfaa
/- The landed code of layer 8: what tells of vectors whether they lie outside of a span. -/
namespace Go.Proofs.Ytofhdaeeiienfaa
open Go.RowKit Lin
set_option linter.unusedVariables false
set_option linter.unusedSimpArgs false
theorem infoI : (Try.prog.info? 3).map (fun i => (i.zero, i.size, i.bytes)) = some (some (.int .i64 0), 1, 8) := by kernel_rfl
/-- A slice of numbers in new memory. -/
def OwnInts (w : World) (base : Nat) (A : Option Addr) (n c : Nat) (xs : List Int) : Prop := w.ownsRow base 3 1 (.slice A n c) n (xs.map (Value.int .i64))
theorem run_make_ints {P : Program} {t e : TypeId} (ht : P.underlying t = some (.slice e)) (hi : (P.info? e).map (fun i => (i.zero, i.size, i.bytes)) = some (some (.int .i64 0), 1, 8)) (n : Nat) (hn : n ≤ 1000000) (w : World) :
    (Instr.makeSlice t (.int .i64 (n : Int)) (.int .i64 (n : Int))).run P w = .ok (.slice (some ⟨w.heap.size, 0, none⟩) n n) (w.alloc (.cells (madeCells #[.int .i64 0] n) e)) := by
  obtain ⟨i0, hi0, hz0, hz1, hz2⟩ := info_parts hi
  have h := run_make (P := P) w t e i0 (.int .i64 0) ht hi0 hz0 .i64 .i64 n n (by omega) (Int.le_refl _) (by rw [hz2]; omega) (by omega)
  simpa [hz1, Value.cells] using h
namespace OwnInts
variable {w w' : World} {base n c g i : Nat} {A : Option Addr} {xs : List Int}
theorem made (w : World) (n : Nat) (hn : n ≤ 1000000) : OwnInts (w.alloc (.cells (madeCells #[.int .i64 0] n) 3)) w.heap.size (some ⟨w.heap.size, 0, none⟩) n n (List.replicate n 0) := by
  have h := World.ownsRow_lit (w := w) (base := w.heap.size) (e := 3) (size := 1) (madeCells #[.int .i64 0] n) n (Nat.le_refl _) (by unfold maxLen; omega) (by rw [size_madeCells]; simp)
  rw [toList_madeCells_one] at h
  simpa [OwnInts] using h
theorem length (h : OwnInts w base A n c xs) : xs.length = n := by have := h.1; simpa using this
theorem keep (h : OwnInts w base A n c xs) (k : Keep w w') : OwnInts w' base A n c xs :=
  World.ownsRow.kept h (row := none) ⟨k.os, k.tape, k.output, k.size, fun i hi _ => k.block i hi⟩ (by
    cases hb : (Value.slice A n c).ownBlock with
    | none => exact Or.inl rfl
    | some g => exact Or.inr (by simp))
theorem stored (h : OwnInts w base (some ⟨g, 0, none⟩) n c xs) (i : Nat) (v : Int) : OwnInts (w.setCell ⟨g, i, none⟩ (.int .i64 v)) base (some ⟨g, 0, none⟩) n c (xs.set i v) := by
  have := World.ownsRow.stored h i (.int .i64 v)
  unfold OwnInts
  rw [List.map_set]; exact this.1
theorem cell (h : OwnInts w base (some ⟨g, 0, none⟩) n c xs) (hi : i < n) : w.cell? ⟨g, i, none⟩ = some (.int .i64 (xs.getD i 0)) := by
  have hl : i < xs.length := by rw [h.length]; exact hi
  have hc := World.ownsRow.cells h (g := g) rfl i (.int .i64 (xs.getD i 0)) (by rw [List.getElem?_map, List.getD_eq_getElem?_getD, List.getElem?_eq_getElem hl]; rfl)
  have ha : (⟨g, 0, none⟩ : Addr).add i = ⟨g, i, none⟩ := by unfold Addr.add; split <;> simp_all
  rwa [ha] at hc
theorem frozen (h : OwnInts w base (some ⟨g, 0, none⟩) n c xs) (i : Nat) : w.frozen? ⟨g, i, none⟩ = false := World.ownsRow.frozenAt h i
end OwnInts
/-- What a closure of outside has captured: the reduced matrix of a list and its leads. -/
def OutC (w : World) (b5 b3 k : Nat) (L : List (List Nat)) : Prop :=
  ∃ (p g lc rc : Nat) (RA : Option Addr) (l : Nat → Nat), Held w b5 (.slice (some ⟨g, 0, none⟩) p lc) 108 ∧ Held w b3 (.slice RA p rc) 22 ∧ g < w.heap.size ∧ (∀ i, i < p → w.cell? ⟨g, i, none⟩ = some (.int .i64 (l i : Nat))) ∧ Mat w ⟨RA, p, rc, reduceN L⟩ ∧
    Red p (fn (reduceN L)) l ∧ (∀ i, i < p → l i < k) ∧ Sz p k (reduceN L) ∧ RowsOk k L
theorem Held.lt {w : World} {b : Nat} {v : Value} {t : TypeId} (h : Held w b v t) : b < w.heap.size := (Array.getElem?_eq_some_iff.1 h).1
theorem OutC.keep {w w' : World} {b5 b3 k : Nat} {L : List (List Nat)} (h : OutC w b5 b3 k L) (kk : Keep w w') : OutC w' b5 b3 k L := by
  obtain ⟨p, g, lc, rc, RA, l, h1, h2, h3, h4, h5, h6⟩ := h
  exact ⟨p, g, lc, rc, RA, l, h1.keep kk, h2.keep kk, Nat.lt_of_lt_of_le h3 kk.size, fun i hi => (kk.cell (p := ⟨g, i, none⟩) h3).trans (h4 i hi), h5.keep kk, h6⟩
theorem RowsOk_fits {k : Nat} {L : List (List Nat)} (h : RowsOk k L) : fits L := h.sz.fits
/-- The leads so far. -/
def leadTo (l : Nat → Nat) (p i : Nat) : List Int := (List.range p).map fun j => if j < i then ((l j : Nat) : Int) else 0
theorem leadTo_zero (l : Nat → Nat) (p : Nat) : leadTo l p 0 = List.replicate p 0 := List.ext_getElem (by simp [leadTo]) fun i h1 h2 => by simp [leadTo]
theorem leadTo_set (l : Nat → Nat) (p i : Nat) : (leadTo l p i).set i ((l i : Nat) : Int) = leadTo l p (i + 1) := List.ext_getElem (by simp [leadTo]) fun j h1 h2 => by
  simp only [List.getElem_set, leadTo, List.getElem_map, List.getElem_range]
  by_cases e : i = j
  · subst e; simp
  · rw [if_neg e]
    by_cases h : j < i
    · rw [if_pos h, if_pos (by omega)]
    · rw [if_neg h, if_neg (by omega)]
theorem leadTo_at (l : Nat → Nat) {p i : Nat} (h : i < p) : (leadTo l p p).getD i 0 = ((l i : Nat) : Int) := by
  simp [leadTo, List.getD_eq_getElem?_getD, h]
set_option maxRecDepth 100000 in
set_option maxHeartbeats 2000000 in
theorem outside_any (n c k : Nat) (A : Option Addr) (L : List (List Nat)) (w : World) (h : Mat w ⟨A, n, c, L⟩) (hL : RowsOk k L) (hn : n ≤ 400) (hk : k ≤ 400) :
    Calls Try.prog 48 #[.slice A n c] w fun e w' => ∃ b5 b3, e = .returned (.func (.func 79) #[] #[.pointer (some ⟨b5, 0, none⟩), .pointer (some ⟨b3, 0, none⟩)]) ∧ OutC w' b5 b3 k L ∧ Keep w w' := by
  have hr := reduce_mat h (by omega) (Nat.le_trans hL.sz.sizeC_le (by omega))
  rw [hL.sz.sizeE] at hr
  obtain ⟨hR, hS⟩ := hL.red
  have hlen := redL_length hR
  obtain ⟨hok, l, hl⟩ := hR
  obtain ⟨R, hRe⟩ : ∃ R, reduceN L = R := ⟨_, rfl⟩
  rw [hRe] at hr hok hl hlen
  obtain ⟨p, hp⟩ : ∃ p, R.length = p := ⟨_, rfl⟩
  have HLD : Hid (∀ i, i < p → vLead k (R.getD i []) = (l i : Int) ∧ l i < k) := fun i hi => red_lead hok hl (by rw [hp]; exact hi)
  rw [hp] at hl hlen
  have HRD := Lib.hid hl
  have HSZ : Hid (Sz p k R) := ⟨hp, hok⟩
  have HRE := Lib.hid hRe
  have HLK := Lib.hid hL
  have HR := Lib.hid hr
  clear h hr hS hok hl hRe hp hL
  have mk1 := fun w => run_make_ints (P := Try.prog) Try.underlying108 infoI p (by omega) w
  go_enter Try.func48, Try.ntmps48
  go_wp2_with fail
  refine HR.out.mono ?_
  rintro e w1 ⟨A1, n1, c1, rfl, m1, k1⟩
  obtain rfl : p = n1 := by have := m1.cnt HSZ.out; exact this.symm
  have M1 := Lib.hid m1
  have K1 := Lib.hid k1
  clear m1 k1 HR
  obtain ⟨b3, hb3⟩ : ∃ b, w1.heap.size = b := ⟨_, rfl⟩
  have hh3 : Held (w1.alloc (.cells #[.slice A1 p c1] 22)) b3 (.slice A1 p c1) 22 := Held.new hb3 _ _
  have kw2 : Keep w1 (w1.alloc (.cells #[.slice A1 p c1] 22)) := (Keep.refl w1).obj _
  have c3 := hh3.cell
  have H3 := Lib.hid hh3
  have KW2 := Lib.hid kw2
  go_upto_region 2 with fail
  generalize w1.alloc (.cells #[.slice A1 p c1] 22) = w2 at *
  clear hh3 kw2 hb3
  obtain ⟨g, hg⟩ : ∃ g, w2.heap.size = g := ⟨_, rfl⟩
  have hO := OwnInts.made w2 p (by omega)
  rw [hg, ← leadTo_zero l p] at hO
  generalize madeCells #[.int .i64 0] p = MC at *
  have HO := Lib.hid hO
  have HG := Lib.hid hg
  clear hO hg
  go_upto_region 3 with fail
  try rw [HG.out]
  have hh5 : Held ((w2.alloc (.cells MC 3)).alloc (.cells #[.slice (some ⟨g, 0, none⟩) p p] 108)) (g + 1) (.slice (some ⟨g, 0, none⟩) p p) 108 := Held.new (by rw [size_obj, HG.out]) _ _
  have hO4 : OwnInts ((w2.alloc (.cells MC 3)).alloc (.cells #[.slice (some ⟨g, 0, none⟩) p p] 108)) g (some ⟨g, 0, none⟩) p p (leadTo l p 0) := HO.out.keep ((Keep.refl _).obj _)
  have kw4 : Keep w2 ((w2.alloc (.cells MC 3)).alloc (.cells #[.slice (some ⟨g, 0, none⟩) p p] 108)) := ((Keep.refl w2).obj _).obj _
  have h34 := H3.out.keep kw4
  have c34 := h34.cell
  have m4 := M1.out.keep (KW2.out.trans kw4)
  have H5 := Lib.hid hh5
  have H34 := Lib.hid h34
  have O4 := Lib.hid hO4
  have KW4 := Lib.hid kw4
  have M4 := Lib.hid m4
  generalize (w2.alloc (.cells MC 3)).alloc (.cells #[.slice (some ⟨g, 0, none⟩) p p] 108) = w4 at *
  clear hh5 hO4 kw4 h34 m4 HO mk1 c3
  go_wp2_with fail
  go_loopw [18] (fun iv wr => ∃ i : Nat, i ≤ p ∧ iv = .int .i64 i ∧ OwnInts wr g (some ⟨g, 0, none⟩) p p (leadTo l p i) ∧ Turned (fun b => b = g) w4 wr) (fun iv _ => p - (intOf iv).toNat)
  case atStart => exact ⟨0, by omega, rfl, O4.out, Turned.refl _ _⟩
  case round =>
    clear O4 c34
    obtain ⟨i, hi, rfl, hO, hT⟩ := hrel
    have hb3 : b3 ≠ g := by have := H3.out.lt; rw [HG.out] at this; omega
    by_cases hlt : i < p
    · have hkW : Keep w2 wr := hT.keep KW4.out fun b e => by rw [e, HG.out]; exact Nat.le_refl _
      obtain ⟨b, off, Ay, cy, rfl, hb, hc, hby, hyc, _⟩ := (M1.out.keep (KW2.out.trans hkW)).row_at HSZ.out hlt
      have e1 : (0 : Int) ≤ (i : Int) := Int.natCast_nonneg _
      have e2 : (i : Int) < (p : Int) := by omega
      have d5 : wr.cell? ⟨g + 1, 0, none⟩ = some (.slice (some ⟨g, 0, none⟩) p p) := hT.cell H5.out.cell (show g + 1 ≠ g by omega)
      have d6 := hO.frozen i
      have d7 := hO.cell hlt
      have o2 := hO.stored i ((l i : Nat) : Int)
      rw [leadTo_set] at o2
      obtain ⟨x, hx⟩ : ∃ x, l i = x := ⟨_, rfl⟩
      have hv := (HLD.out i hlt).1
      rw [hx] at o2 hv
      have O2 : Hid (OwnInts (wr.drew.setCell ⟨g, i, none⟩ (.int .i64 (x : Int))) g (some ⟨g, 0, none⟩) p p (leadTo l p (i + 1))) := o2
      have T2 : Hid (Turned (fun b => b = g) w4 (wr.drew.setCell ⟨g, i, none⟩ (.int .i64 (x : Int)))) := hT.trans ((Turned.of_keep (F := fun b => b = g) (Keep.drew (Keep.refl wr))).trans (Turned.set (F := fun b => b = g) wr.drew ⟨g, i, none⟩ (.int .i64 (x : Int)) rfl) fun i e => Or.inl e) fun i e => Or.inl e
      have HN : Hid ((⟨g, i, none⟩ : Addr).block ≠ (⟨g + 1, 0, none⟩ : Addr).block) := Nat.ne_of_lt (Nat.lt_succ_self g)
      have vl := vlead_eq wr.heap.size k cy Ay (R.getD i []) wr.drew hby (by omega)
      rw [hv] at vl
      have VL := Lib.hid vl
      clear hO hT hkW hby o2 hx hv vl
      go_wp2_with fail
      refine wp_region_noPanic ?_
      refine wp_region_held_drew (S := fun wz => wz.cell? ⟨g + 1, 0, none⟩ = some (.slice (some ⟨g, 0, none⟩) p p)) (by kernel_rfl) d5 (fun hHeld => ?_)
      refine wpAnyH_take (i := 0) (v := ?_) rfl (by kernel_rfl) (by kernel_rfl) (by kernel_rfl) (fun _ _ _ h => h) (Or.inl ⟨by rfl, ?_⟩) hHeld ?_
      rotate_left
      · intro wq hSw
        have q0 := hSw
        go_simp
        all_goals with_reducible rfl
      try simp only [Act.put, List.getElem_toArray, List.getElem_cons_succ, List.getElem_cons_zero, List.setIfInBounds_toArray, List.set_cons_zero, List.set_cons_succ]
      refine wpAnyH_take (i := 1) (v := ?_) rfl (by kernel_rfl) (by kernel_rfl) (by kernel_rfl) (fun _ _ _ h => h) (Or.inl ⟨by rfl, ?_⟩) hHeld ?_
      rotate_left
      · intro wq hSw
        go_simp
        all_goals with_reducible rfl
      try simp only [Act.put, List.getElem_toArray, List.getElem_cons_succ, List.getElem_cons_zero, List.setIfInBounds_toArray, List.set_cons_zero, List.set_cons_succ]
      refine wpAnyH_take (i := 2) (v := ?_) rfl (by kernel_rfl) (by kernel_rfl) (by kernel_rfl) (fun _ _ _ h => h) (Or.inl ⟨by rfl, ?_⟩) hHeld ?_
      rotate_left
      · intro wq hSw
        go_simp
        all_goals with_reducible rfl
      try simp only [Act.put, List.getElem_toArray, List.getElem_cons_succ, List.getElem_cons_zero, List.setIfInBounds_toArray, List.set_cons_zero, List.set_cons_succ]
      refine wpAnyH_ready (rs := [3]) (by kernel_rfl) (by simp) ?_
      refine AllReadyH.cons rfl (fun K hK => ?_) AllReadyH.nil
      go_simp
      refine (VL.out).mono ?_
      rintro e wv ⟨rfl, rfl⟩
      refine hK.out _ _ hHeld (fun hHeld => ?_)
      clear hK K
      try simp only [Act.put, List.getElem_toArray, List.getElem_cons_succ, List.getElem_cons_zero, List.setIfInBounds_toArray, List.set_cons_zero, List.set_cons_succ]
      refine wpAnyH_take (i := 4) (v := ?_) rfl (by kernel_rfl) (by kernel_rfl) (by kernel_rfl) (fun _ _ _ h => h) (Or.inl ⟨by rfl, ?_⟩) hHeld ?_
      rotate_left
      · intro wq hSw
        go_simp
        all_goals with_reducible rfl
      try simp only [Act.put, List.getElem_toArray, List.getElem_cons_succ, List.getElem_cons_zero, List.setIfInBounds_toArray, List.set_cons_zero, List.set_cons_succ]
      refine wpAnyH_ready (rs := [5]) (by kernel_rfl) (by simp) ?_
      refine AllReadyH.cons rfl (fun K hK => ?_) AllReadyH.nil
      go_simp
      refine hK.out _ _ ((World.cell?_setCell_far _ _ _ _ HN.out).trans d5) (fun hHeld => ?_)
      clear hK K
      try simp only [Act.put, List.getElem_toArray, List.getElem_cons_succ, List.getElem_cons_zero, List.setIfInBounds_toArray, List.set_cons_zero, List.set_cons_succ]
      refine wpAnyH_done (by kernel_rfl) ?_ _
      refine NoPanic.normal ?_
      clear hHeld
      go_wp2_with fail
      go_roundw
      case rel => exact ⟨i + 1, by omega, by go_num, O2.out, T2.out⟩
      case measure => simp [intOf]; omega
    · obtain rfl : i = p := by omega
      have hkW : Keep w2 wr := hT.keep KW4.out fun b e => by rw [e, HG.out]; exact Nat.le_refl _
      have H5r : Hid (Held wr (g + 1) (.slice (some ⟨g, 0, none⟩) i i) 108) := (hT.block (g + 1) H5.out.lt (by omega)).trans H5.out
      have HKW := Lib.hid hkW
      have HOR := Lib.hid hO
      have hgl : g < wr.heap.size := by have := H5r.out.lt; omega
      clear hO hT hkW
      go_wp2_with fail
      go_ret
      refine ⟨g + 1, b3, rfl, ⟨i, g, i, c1, A1, l, H5r.out, H3.out.keep HKW.out, hgl, fun j hj => ?_, ?_⟩, K1.out.trans (KW2.out.trans HKW.out)⟩
      · have := HOR.out.cell hj
        rwa [leadTo_at l hj] at this
      · rw [HRE.out]
        exact ⟨M1.out.keep (KW2.out.trans HKW.out), HRD.out, fun j hj => (HLD.out j hj).2, HSZ.out, HLK.out⟩
end Go.Proofs.Ytofhdaeeiienfaa
/- The landed code of layer 8: the closure that tells whether a vector lies outside of a span. -/
namespace Go.Proofs.Ytofhdaeeiienfaa
open Go.RowKit Lin
set_option linter.unusedVariables false
set_option linter.unusedSimpArgs false
/-- The rows that were picked so far, and their numbers. -/
def SelOk (k : Nat) (v : List Nat) (R : List (List Nat)) (l : Nat → Nat) (i : Nat) (rows : List (List Nat)) (bs : List Nat) : Prop :=
  rows.length = bs.length ∧ 1 ≤ bs.length ∧ bs.length ≤ i + 1 ∧ RowsOk k rows ∧ AllB bs ∧ comb rows.length (fn rows) (vec bs) = fun j => vec v j + comb i (fn R) (fun t => vec v (l t)) j
theorem comb_snoc {rows : List (List Nat)} {bs r : List Nat} {x : Nat} (h : rows.length = bs.length) (hx : x < 256) : comb (rows ++ [r]).length (fn (rows ++ [r])) (vec (bs ++ [x])) = fun j => comb rows.length (fn rows) (vec bs) j + byte x * vec r j := by
  rw [List.length_append]
  funext j
  have e1 : ∀ i, i < rows.length → vec (bs ++ [x]) i * fn (rows ++ [r]) i j = vec bs i * fn rows i j := fun i hi => by
    rw [vec_append (n := bs.length) rfl, pair_left (by omega), fn_append_row rows r i (by omega), insM_lt hi]
  have e2 : vec (bs ++ [x]) rows.length = byte x := by
    have := pair_right (n := bs.length) (j := 0) (u := vec bs) (v := vec [x])
    rw [vec_append (n := bs.length) rfl, h]
    exact this
  have e3 : fn (rows ++ [r]) rows.length = vec r := by rw [fn_append_row rows r _ (by omega), insM_at]
  show sm (rows.length + 1) _ = sm rows.length _ + _
  rw [show sm (rows.length + 1) (fun i => vec (bs ++ [x]) i * fn (rows ++ [r]) i j) = sm rows.length (fun i => vec (bs ++ [x]) i * fn (rows ++ [r]) i j) + vec (bs ++ [x]) rows.length * fn (rows ++ [r]) rows.length j from rfl, sm_congr e1, e2, e3]
theorem SelOk.start {k : Nat} {v : List Nat} {R : List (List Nat)} {l : Nat → Nat} (hl : v.length = k) (ha : AllB v) : SelOk k v R l 0 [v] [1] := by
  refine ⟨rfl, Nat.le_refl _, Nat.le_refl _, fun r hr => ?_, fun x hx => ?_, ?_⟩
  · rw [List.mem_singleton.1 hr]; exact ⟨hl, ha⟩
  · rw [List.mem_singleton.1 hx]; omega
  · have h := comb_snoc (rows := []) (bs := []) (r := v) (x := 1) rfl (by omega)
    rw [List.nil_append, List.nil_append] at h
    rw [h]
    funext j
    show 0 + byte 1 * vec v j = vec v j + 0
    rw [laws.zero_add, laws.add_zero]
    exact laws.one_mul _
theorem SelOk.skip {k i : Nat} {v bs : List Nat} {R rows : List (List Nat)} {l : Nat → Nat} (h : SelOk k v R l i rows bs) (h0 : v.getD (l i) 0 = 0) : SelOk k v R l (i + 1) rows bs := by
  obtain ⟨h1, h2, h3, h4, h5, h6⟩ := h
  refine ⟨h1, h2, by omega, h4, h5, ?_⟩
  rw [h6]
  funext j
  have e : vec v (l i) = 0 := by show byte (v.getD (l i) 0) = 0; rw [h0]; rfl
  show _ = vec v j + (comb i (fn R) (fun t => vec v (l t)) j + vec v (l i) * fn R i j)
  rw [e, laws.zero_mul, laws.add_zero]
theorem SelOk.more {k i : Nat} {v bs : List Nat} {R rows : List (List Nat)} {l : Nat → Nat} (h : SelOk k v R l i rows bs) (hR : RowsOk k R) (hi : i < R.length) (hv : AllB v) : SelOk k v R l (i + 1) (rows ++ [R.getD i []]) (bs ++ [v.getD (l i) 0]) := by
  obtain ⟨h1, h2, h3, h4, h5, h6⟩ := h
  refine ⟨by simp [h1], by simp, by simp; omega, h4.both fun r hr => by rw [List.mem_singleton.1 hr]; exact hR.at_ hi, h5.append fun x hx => by rw [List.mem_singleton.1 hx]; exact hv.getD _, ?_⟩
  rw [comb_snoc h1 (hv.getD _), h6]
  funext j
  show _ = vec v j + (comb i (fn R) (fun t => vec v (l t)) j + vec v (l i) * fn R i j)
  rw [laws.add_assoc]; rfl
theorem comb_list {r c : Nat} {M : List (List Nat)} {row : List Nat} (h : Sz r c M) (ha : AllB row) : vComb c M row r = rowN row M r c := tab_congr fun j _ => sumX_congr fun i hi => mul_comm' _ _ ((h.at_ hi).2.getD j) (ha.getD i)
theorem lead_neg {n : Nat} {xs : List Nat} (hl : xs.length = n) (ha : AllB xs) : decide (vLead n xs < 0) = true ↔ vec xs = fun _ => 0 := by
  have h1 : vLead n xs < 0 ↔ vLeadTo xs n = none := by
    rw [vLead]
    cases vLeadTo xs n with
    | none => simp
    | some i => simp
  rw [decide_eq_true_iff, h1, vLeadTo_none]
  constructor
  · intro h
    funext j
    by_cases hj : j < n
    · show byte (xs.getD j 0) = 0; rw [h j hj]; rfl
    · exact vec_wide hl j (by omega)
  · intro h i hi
    have := congrArg By.v (congrFun h i)
    rwa [vec_v ha] at this
theorem SelOk.done {k p : Nat} {v bs : List Nat} {L rows : List (List Nat)} {l : Nat → Nat} (h : SelOk k v (reduceN L) l p rows bs) (hL : RowsOk k L) (hv : RowsOk k [v]) (hp : (reduceN L).length = p) (hl : Red p (fn (reduceN L)) l) :
    decide (vLead k (vComb k rows bs rows.length) < 0) = conB L [v] := by
  obtain ⟨h1, h2, h3, h4, h5, h6⟩ := h
  subst hp
  have hc := cleared_iff hL hv hl
  rw [Bool.eq_iff_iff, hc, ← h6, ← vec_rowN h5 h4.sz, ← comb_list h4.sz h5]
  exact lead_neg (tab_length _ _) fun x hx => by
    rw [comb_list h4.sz h5] at hx
    exact rowN_all h5 x hx
/-- Rows and numbers in new memory, side by side. -/
structure Two (W w : World) (A5 : Option Addr) (n5 c5 : Nat) (rs : List RowV) (A6 : Option Addr) (n6 c6 : Nat) (bs : List Nat) : Prop where
  own5 : OwnRows w W.heap.size 23 A5 n5 c5 rs
  rows : ∀ r ∈ rs, LiesIn W (fun b => b < W.heap.size) r
  own6 : Own w W.heap.size 5 A6 n6 c6 bs
  keep : Keep W w
namespace Two
variable {W w w' : World} {A5 A6 A A' : Option Addr} {n5 c5 n6 c6 n c g : Nat} {rs : List RowV} {bs : List Nat}
theorem later (h : Two W w A5 n5 c5 rs A6 n6 c6 bs) (k : Keep w w') : Two W w' A5 n5 c5 rs A6 n6 c6 bs := ⟨h.own5.keep k, h.rows, h.own6.keep k, h.keep.trans k⟩
theorem apart (h : Two W w A5 n5 c5 rs A6 n6 c6 bs) : (Value.slice A6 n6 c6).ownBlock = none ∨ (Value.slice A6 n6 c6).ownBlock ≠ (Value.slice A5 n5 c5).ownBlock := blocks_apart h.own6 h.own5 (by decide)
theorem ne5 (h : Two W w A5 n5 c5 rs A6 n6 c6 bs) : (Value.slice A5 n5 c5).ownBlock ≠ some w.heap.size := fun e => by have := (h.own5.lt _ e).2; omega
theorem ne6 (h : Two W w A5 n5 c5 rs A6 n6 c6 bs) : (Value.slice A6 n6 c6).ownBlock ≠ some w.heap.size := fun e => by have := (h.own6.1.lt _ e).2; omega
theorem app5 (h : Two W w A5 n5 c5 rs A6 n6 c6 bs) {r : RowV} (hr : LiesIn W (fun b => b < W.heap.size) r) (h2 : OwnRows w' W.heap.size 23 A n c (rs ++ [r])) (h3 : w.grownBy w' (Value.slice A5 n5 c5).ownBlock) : Two W w' A n c (rs ++ [r]) A6 n6 c6 bs :=
  ⟨h2, fun x hx => by
    rcases List.mem_append.1 hx with e | e
    · exact h.rows x e
    · rw [List.mem_singleton.1 e]; exact hr, h.own6.grown h3 h.apart, h.keep.grown h3 h.own5.rowLe⟩
theorem app6 (h : Two W w A5 n5 c5 rs A6 n6 c6 bs) {cs : List Nat} (h2 : Own w' W.heap.size 5 A n c cs) (h3 : w.grownBy w' (Value.slice A6 n6 c6).ownBlock) : Two W w' A5 n5 c5 rs A n c cs := by
  have kT : Turned (fun b => (Value.slice A6 n6 c6).ownBlock = some b) w w' := Turned.of_grown h3 fun i e => e
  refine ⟨h.own5.turned kT fun b hb e => ?_, h.rows, h2, h.keep.grown h3 h.own6.rowLe⟩
  rcases h.apart with z | z
  · rw [z] at e; cases e
  · exact z (e.trans hb.symm)
theorem cell (h3 : w.grownBy w' (Value.slice A n c).ownBlock) {v : Value} (hc : w.cell? ⟨g, 0, none⟩ = some v) (hg : (Value.slice A n c).ownBlock ≠ some g) : w'.cell? ⟨g, 0, none⟩ = some v :=
  (Turned.of_grown (F := fun b => (Value.slice A n c).ownBlock = some b) h3 fun i e => e).cell hc hg
theorem still (h4 : (Value.slice A' n5 c5).ownBlock = (Value.slice A n c).ownBlock ∨ (Value.slice A' n5 c5).ownBlock = some w.heap.size) {v : Value} (hc : w.cell? ⟨g, 0, none⟩ = some v) (hg : (Value.slice A n c).ownBlock ≠ some g) : (Value.slice A' n5 c5).ownBlock ≠ some g := fun e => by
  rcases h4 with z | z
  · exact hg (z.symm.trans e)
  · rw [z] at e; injection e with e
    have := World.block_lt_of_cell? _ _ hc
    simp at this; omega
end Two
theorem one_of_cell {w : World} {g x : Nat} (h : w.cell? ⟨g, 0, none⟩ = some (.int .u8 (x : Int))) (hx : x < 256) : Bytes w w.heap.size (some ⟨g, 0, none⟩) 1 [x] :=
  ⟨rfl, fun y hy => by rw [List.mem_singleton.1 hy]; exact hx, fun _ => ⟨g, 0, rfl, World.block_lt_of_cell? _ _ h, fun i hi => by
    obtain rfl : i = 0 := by omega
    exact h⟩⟩
theorem OwnRows.lit1 (w : World) (t : TypeId) (r : RowV) (cs : Array Value) (hc : cs = #[r.val]) : OwnRows (w.alloc (.cells cs t)) w.heap.size t (some ⟨w.heap.size, 0, none⟩) 1 1 [r] := by
  have h := World.ownsRow_lit (w := w) (base := w.heap.size) (e := t) (size := 1) cs 1 (Nat.le_refl _) (by unfold maxLen; omega) (by rw [hc]; rfl)
  rw [hc] at h
  simpa [OwnRows, hc] using h
theorem Two.start (w : World) (r : RowV) (hr : LiesIn w (fun b => b < w.heap.size) r) (cs ds : Array Value) (hc : cs = #[r.val]) (hd : ds = #[.int .u8 1]) :
    Two w ((w.alloc (.cells cs 23)).alloc (.cells ds 5)) (some ⟨w.heap.size, 0, none⟩) 1 1 [r] (some ⟨w.heap.size + 1, 0, none⟩) 1 1 [1] := by
  have h6 := Own.lit (w.alloc (.cells cs 23)) 5 1 [1] ds (by rw [hd]; rfl) rfl (by omega) (by decide)
  rw [size_obj] at h6
  exact ⟨(OwnRows.lit1 w _ r cs hc).keep ((Keep.refl _).obj _), fun x hx => by rw [List.mem_singleton.1 hx]; exact hr, h6.lower (by omega), ((Keep.refl w).obj _).obj _⟩
set_option maxRecDepth 100000 in
set_option maxHeartbeats 4000000 in
theorem outc_any (b5 b3 k cy : Nat) (Ay : Option Addr) (L : List (List Nat)) (v : List Nat) (w : World) (h : OutC w b5 b3 k L) (hy : LiesIn w (fun b => b < w.heap.size) ⟨Ay, k, cy, v⟩) (hk : k ≤ 400) :
    Calls Try.prog 79 #[.slice Ay k cy, .pointer (some ⟨b5, 0, none⟩), .pointer (some ⟨b3, 0, none⟩)] w fun e w' => e = .returned (.bool !(conB L [v])) ∧ Keep w w' := by
  obtain ⟨p, g, lc, rc, RA, l, h5, h3, hg, hc, hm, hl, hlk, hsz, hL⟩ := h
  have hv : RowsOk k [v] := fun r hr => by rw [List.mem_singleton.1 hr]; exact ⟨hy.1, hy.2.1⟩
  have hyb := hy.bytes fun _ e => e
  obtain ⟨cb, hcb⟩ : ∃ cb, conB L [v] = cb := ⟨_, rfl⟩
  rw [hcb]
  have HEnd : Hid (∀ rows bs, SelOk k v (reduceN L) l p rows bs → decide (vLead k (vComb k rows bs rows.length) < 0) = cb) := fun rows bs hs => (hs.done hL hv hsz.1 hl).trans hcb
  clear hcb
  have hpk : p ≤ k := by have := redL_length (hL.red).1; rw [hsz.1] at this; exact this
  generalize reduceN L = R at *
  have S0 : Hid (SelOk k v R l 0 [v] [1]) := SelOk.start hy.1 hy.2.1
  have H5 := Lib.hid h5
  have H3 := Lib.hid h3
  have HC := Lib.hid hc
  have HM := Lib.hid hm
  have HSZ := Lib.hid hsz
  have HLK := Lib.hid hlk
  have HY := Lib.hid hy
  have HYB := Lib.hid hyb
  have HG := Lib.hid hg
  have hcell5 := ((((Keep.refl w).obj (.cells #[.slice Ay k cy] 23)).obj (.cells #[.int .u8 1] 5)).cell (p := ⟨b5, 0, none⟩) h5.lt).trans h5.cell
  have T0 : Hid (Two w ((w.alloc (.cells #[.slice Ay k cy] 23)).alloc (.cells #[.int .u8 1] 5)) (some ⟨w.heap.size, 0, none⟩) 1 1 [⟨Ay, k, cy, v⟩] (some ⟨w.heap.size + 1, 0, none⟩) 1 1 [1]) := Two.start w ⟨Ay, k, cy, v⟩ hy _ _ rfl rfl
  clear h5 h3 hc hm hl hlk hsz hL hv hy hyb hg
  go_enter Try.func79, Try.ntmps79
  go_wp2_with fail
  go_loopw [5, 6, 16] (fun rv bv iv wr => ∃ (i m : Nat) (A5 : Option Addr) (c5 : Nat) (rs : List RowV) (A6 : Option Addr) (c6 : Nat) (bs : List Nat), i ≤ p ∧ m ≤ i + 1 ∧ iv = .int .i64 i ∧ rv = .slice A5 m c5 ∧ bv = .slice A6 m c6 ∧ Two w wr A5 m c5 rs A6 m c6 bs ∧ SelOk k v R l i (rowsXs rs) bs) (fun _ _ iv _ => p - (intOf iv).toNat)
  case atStart => exact ⟨0, 1, _, _, _, _, _, _, by omega, by omega, rfl, rfl, rfl, T0.out, S0.out⟩
  case round =>
    clear T0 S0 hcell5
    obtain ⟨i, m, A5, c5, rs, A6, c6, bs, hi, hmi, rfl, rfl, rfl, hT, hS⟩ := hrel
    have HT := Lib.hid hT
    have HS := Lib.hid hS
    by_cases hlt : i < p
    · obtain ⟨b, off, Ar, cr, rfl, hb, hcR, _, _, hrl⟩ := HM.out.row_at HSZ.out hlt
      have d1 := (hT.keep.cell (p := ⟨g, i, none⟩) HG.out).trans (HC.out i hlt)
      have hli := HLK.out i hlt
      obtain ⟨b2, o2, rfl, hb2, hcv⟩ := HYB.out.at_ hli
      have d2 := (hT.keep.cell (p := ⟨b2, o2 + l i, none⟩) hb2).trans hcv
      have hx := HYB.out.2.1.getD (l i)
      have HRL := Lib.hid hrl
      have e1 : (0 : Int) ≤ (i : Int) := Int.natCast_nonneg _
      have e2 : (i : Int) < (p : Int) := by omega
      have e3 : (0 : Int) ≤ ((l i : Nat) : Int) := Int.natCast_nonneg _
      have e4 : ((l i : Nat) : Int) < (k : Int) := by omega
      have HSK : Hid (v.getD (l i) 0 = 0 → SelOk k v R l (i + 1) (rowsXs rs) bs) := fun e => hS.skip e
      have HSM : Hid (SelOk k v R l (i + 1) (rowsXs rs ++ [R.getD i []]) (bs ++ [v.getD (l i) 0])) := hS.more HSZ.out.2 (by rw [HSZ.out.1]; exact hlt) HYB.out.2.1
      generalize v.getD (l i) 0 = x at *
      generalize l i = q at *
      clear hT hS hrl
      by_cases h0 : x = 0
      · have b1 : ((x : Int) != 0) = false := by rw [h0]; rfl
        have HS2 := Lib.hid (HSK.out h0)
        clear h0 hcR hcv
        go_wp2_with fail
        go_roundw
        case rel => exact ⟨i + 1, m, A5, c5, rs, A6, c6, bs, by omega, by omega, by go_num, rfl, rfl, HT.out, HS2.out⟩
        case measure => simp [intOf]; omega
      · have b1 : ((x : Int) != 0) = true := by rw [bne_iff_ne]; omega
        have c3 := H3.out.cell
        have hb3 := H3.out.lt
        clear h0
        go_wp2_with fail
        refine wp_region_noPanic ?_
        refine wp_region_held_drew (S := fun wz => Keep w wz) (by kernel_rfl) (HT.out.keep.drew) (fun hHeld => ?_)
        refine wpAnyH_take (i := 0) (v := ?_) rfl (by kernel_rfl) (by kernel_rfl) (by kernel_rfl) (fun _ _ _ h => h) (Or.inl ⟨by rfl, ?_⟩) hHeld ?_
        rotate_left
        · intro wq hSw
          go_simp
          all_goals with_reducible rfl
        try simp only [Act.put, List.getElem_toArray, List.getElem_cons_succ, List.getElem_cons_zero, List.setIfInBounds_toArray, List.set_cons_zero, List.set_cons_succ]
        refine wpAnyH_take (i := 1) (v := ?_) rfl (by kernel_rfl) (by kernel_rfl) (by kernel_rfl) (fun _ _ _ h => h) (Or.inl ⟨by rfl, ?_⟩) hHeld ?_
        rotate_left
        · intro wq hSw
          have q0 := (hSw.cell (p := ⟨b3, 0, none⟩) hb3).trans c3
          go_simp
          all_goals with_reducible rfl
        try simp only [Act.put, List.getElem_toArray, List.getElem_cons_succ, List.getElem_cons_zero, List.setIfInBounds_toArray, List.set_cons_zero, List.set_cons_succ]
        refine wpAnyH_take (i := 2) (v := ?_) rfl (by kernel_rfl) (by kernel_rfl) (by kernel_rfl) (fun _ _ _ h => h) (Or.inl ⟨by rfl, ?_⟩) hHeld ?_
        rotate_left
        · intro wq hSw
          go_simp
          all_goals with_reducible rfl
        try simp only [Act.put, List.getElem_toArray, List.getElem_cons_succ, List.getElem_cons_zero, List.setIfInBounds_toArray, List.set_cons_zero, List.set_cons_succ]
        refine wpAnyH_take (i := 3) (v := ?_) rfl (by kernel_rfl) (by kernel_rfl) (by kernel_rfl) (fun _ _ _ h => h) (Or.inl ⟨by rfl, ?_⟩) hHeld ?_
        rotate_left
        · intro wq hSw
          go_simp
          all_goals with_reducible rfl
        try simp only [Act.put, List.getElem_toArray, List.getElem_cons_succ, List.getElem_cons_zero, List.setIfInBounds_toArray, List.set_cons_zero, List.set_cons_succ]
        refine wpAnyH_take (i := 4) (v := ?_) rfl (by kernel_rfl) (by kernel_rfl) (by kernel_rfl) (fun _ _ _ h => h) (Or.inl ⟨by rfl, ?_⟩) hHeld ?_
        rotate_left
        · intro wq hSw
          have q0 := (hSw.cell (p := ⟨b, off + i, none⟩) hb).trans hcR
          go_simp
          all_goals with_reducible rfl
        try simp only [Act.put, List.getElem_toArray, List.getElem_cons_succ, List.getElem_cons_zero, List.setIfInBounds_toArray, List.set_cons_zero, List.set_cons_succ]
        refine wpAnyH_take (i := 7) (v := ?_) rfl (by kernel_rfl) (by kernel_rfl) (by kernel_rfl) (fun _ _ _ h => h) (Or.inl ⟨by rfl, ?_⟩) hHeld ?_
        rotate_left
        · intro wq hSw
          go_simp
          all_goals with_reducible rfl
        try simp only [Act.put, List.getElem_toArray, List.getElem_cons_succ, List.getElem_cons_zero, List.setIfInBounds_toArray, List.set_cons_zero, List.set_cons_succ]
        refine wpAnyH_take (i := 8) (v := ?_) rfl (by kernel_rfl) (by kernel_rfl) (by kernel_rfl) (fun _ _ _ h => h) (Or.inl ⟨by rfl, ?_⟩) hHeld ?_
        rotate_left
        · intro wq hSw
          go_simp
          all_goals with_reducible rfl
        try simp only [Act.put, List.getElem_toArray, List.getElem_cons_succ, List.getElem_cons_zero, List.setIfInBounds_toArray, List.set_cons_zero, List.set_cons_succ]
        refine wpAnyH_take (i := 9) (v := ?_) rfl (by kernel_rfl) (by kernel_rfl) (by kernel_rfl) (fun _ _ _ h => h) (Or.inl ⟨by rfl, ?_⟩) hHeld ?_
        rotate_left
        · intro wq hSw
          go_simp
          all_goals with_reducible rfl
        try simp only [Act.put, List.getElem_toArray, List.getElem_cons_succ, List.getElem_cons_zero, List.setIfInBounds_toArray, List.set_cons_zero, List.set_cons_succ]
        refine wpAnyH_take (i := 10) (v := ?_) rfl (by kernel_rfl) (by kernel_rfl) (by kernel_rfl) (fun _ _ _ h => h) (Or.inl ⟨by rfl, ?_⟩) hHeld ?_
        rotate_left
        · intro wq hSw
          go_simp
          all_goals with_reducible rfl
        try simp only [Act.put, List.getElem_toArray, List.getElem_cons_succ, List.getElem_cons_zero, List.setIfInBounds_toArray, List.set_cons_zero, List.set_cons_succ]
        refine wpAnyH_take (i := 11) (v := ?_) rfl (by kernel_rfl) (by kernel_rfl) (by kernel_rfl) (fun _ _ _ h => h) (Or.inl ⟨by rfl, ?_⟩) hHeld ?_
        rotate_left
        · intro wq hSw
          have q0 := (hSw.cell (p := ⟨b2, o2 + q, none⟩) hb2).trans hcv
          go_simp
          all_goals with_reducible rfl
        try simp only [Act.put, List.getElem_toArray, List.getElem_cons_succ, List.getElem_cons_zero, List.setIfInBounds_toArray, List.set_cons_zero, List.set_cons_succ]
        have T0 : Hid (Two w wr.drew A5 m c5 rs A6 m c6 bs) := HT.out.later (Keep.drew (Keep.refl wr))
        clear HT c3 hb3 hcR hcv hb hb2 d2
        generalize wr.drew = v0 at *
        refine wpAnyH_ready (rs := [5, 12]) (by kernel_rfl) (by simp) ?_
        refine AllReadyH.cons rfl (fun K hK => ?_) (AllReadyH.cons rfl (fun K hK => ?_) AllReadyH.nil)
        · go_simp
          have kk1 : Keep v0 (v0.alloc (.cells #[.slice Ar k cr] 23)) := (Keep.refl v0).obj _
          have T1 := Lib.hid (T0.out.later kk1)
          have hl1 : (v0.alloc (.cells #[.slice Ar k cr] 23)).cell? ⟨v0.heap.size, 0, none⟩ = some (.slice Ar k cr) := by rw [World.cell?_alloc_new]; rfl
          have hs1 := Lib.hid (And.intro T0.out.ne5 T0.out.ne6)
          refine hK.out _ _ T1.out.keep (fun hHeld => ?_)
          clear hK K kk1
          generalize v0.heap.size = g1 at *
          generalize v0.alloc (.cells #[.slice Ar k cr] 23) = v1 at *
          try simp only [Act.put, List.getElem_toArray, List.getElem_cons_succ, List.getElem_cons_zero, List.setIfInBounds_toArray, List.set_cons_zero, List.set_cons_succ]
          refine wpAnyH_ready (rs := [6, 12]) (by kernel_rfl) (by simp) ?_
          refine AllReadyH.cons rfl (fun K hK => ?_) (AllReadyH.cons rfl (fun K hK => ?_) AllReadyH.nil)
          · refine wp_append_row _ _ 22 rfl ⟨Ar, k, cr, R.getD i []⟩ Try.underlying22 infoRow rfl T1.out.own5 rfl hl1 (by omega) T1.out.keep.size ?_
            intro A52 c52 v2 h2 h3 h4
            have T2 := Lib.hid (T1.out.app5 HRL.out h2 h3)
            refine hK.out _ _ T2.out.keep (fun hHeld => ?_)
            clear hK K h2 h3 h4
            try simp only [Act.put, List.getElem_toArray, List.getElem_cons_succ, List.getElem_cons_zero, List.setIfInBounds_toArray, List.set_cons_zero, List.set_cons_succ]
            refine wpAnyH_ready (rs := [12]) (by kernel_rfl) (by simp) ?_
            refine AllReadyH.cons rfl (fun K hK => ?_) AllReadyH.nil
            go_simp
            have kk3 : Keep v2 (v2.alloc (.cells #[.int .u8 (x : Int)] 5)) := (Keep.refl v2).obj _
            have T3 := Lib.hid (T2.out.later kk3)
            have hl3 : (v2.alloc (.cells #[.int .u8 (x : Int)] 5)).cell? ⟨v2.heap.size, 0, none⟩ = some (.int .u8 (x : Int)) := by rw [World.cell?_alloc_new]; rfl
            have hs3 := Lib.hid (And.intro T2.out.ne5 T2.out.ne6)
            refine hK.out _ _ T3.out.keep (fun hHeld => ?_)
            clear hK K kk3
            generalize v2.heap.size = g3 at *
            generalize v2.alloc (.cells #[.int .u8 (x : Int)] 5) = v3 at *
            try simp only [Act.put, List.getElem_toArray, List.getElem_cons_succ, List.getElem_cons_zero, List.setIfInBounds_toArray, List.set_cons_zero, List.set_cons_succ]
            refine wpAnyH_ready (rs := [13]) (by kernel_rfl) (by simp) ?_
            refine AllReadyH.cons rfl (fun K hK => ?_) AllReadyH.nil
            refine wp_append_bytes _ _ 23 rfl Try.underlying23 info5 rfl T3.out.own6 rfl (one_of_cell hl3 hx) (by omega) T3.out.keep.size ?_
            intro A64 c64 v4 h2 h3 h4
            have T4 := Lib.hid (T3.out.app6 h2 h3)
            refine hK.out _ _ T4.out.keep (fun hHeld => ?_)
            clear hK K h2 h3 h4
            try simp only [Act.put, List.getElem_toArray, List.getElem_cons_succ, List.getElem_cons_zero, List.setIfInBounds_toArray, List.set_cons_zero, List.set_cons_succ]
            refine wpAnyH_take (i := 14) (v := ?_) rfl (by kernel_rfl) (by kernel_rfl) (by kernel_rfl) (fun _ _ _ h => h) (Or.inl ⟨by rfl, ?_⟩) hHeld ?_
            rotate_left
            · intro wq hSw
              go_simp
              all_goals with_reducible rfl
            try simp only [Act.put, List.getElem_toArray, List.getElem_cons_succ, List.getElem_cons_zero, List.setIfInBounds_toArray, List.set_cons_zero, List.set_cons_succ]
            refine wpAnyH_take (i := 15) (v := ?_) rfl (by kernel_rfl) (by kernel_rfl) (by kernel_rfl) (fun _ _ _ h => h) (Or.inl ⟨by rfl, ?_⟩) hHeld ?_
            rotate_left
            · intro wq hSw
              go_simp
              all_goals with_reducible rfl
            try simp only [Act.put, List.getElem_toArray, List.getElem_cons_succ, List.getElem_cons_zero, List.setIfInBounds_toArray, List.set_cons_zero, List.set_cons_succ]
            refine wpAnyH_done (by kernel_rfl) ?_ _
            refine NoPanic.normal ?_
            clear hHeld
            go_wp2_with fail
            go_roundw
            case rel => exact ⟨i + 1, m + 1, A52, c52, _, A64, c64, _, by omega, by omega, by go_num, rfl, rfl, T4.out, by rw [rowsXs, List.map_append, ← rowsXs]; exact HSM.out⟩
            case measure => simp [intOf]; omega
          · go_simp
            have kk5 : Keep v1 (v1.alloc (.cells #[.int .u8 (x : Int)] 5)) := (Keep.refl v1).obj _
            have T5 := Lib.hid (T1.out.later kk5)
            have hl5 : (v1.alloc (.cells #[.int .u8 (x : Int)] 5)).cell? ⟨v1.heap.size, 0, none⟩ = some (.int .u8 (x : Int)) := by rw [World.cell?_alloc_new]; rfl
            have hs5 := Lib.hid (And.intro T1.out.ne5 T1.out.ne6)
            have hl5' := (kk5.cell (p := ⟨g1, 0, none⟩) (World.block_lt_of_cell? _ _ hl1)).trans hl1
            refine hK.out _ _ T5.out.keep (fun hHeld => ?_)
            clear hK K kk5 hl1
            generalize v1.heap.size = g5 at *
            generalize v1.alloc (.cells #[.int .u8 (x : Int)] 5) = v5 at *
            try simp only [Act.put, List.getElem_toArray, List.getElem_cons_succ, List.getElem_cons_zero, List.setIfInBounds_toArray, List.set_cons_zero, List.set_cons_succ]
            refine wpAnyH_ready (rs := [6]) (by kernel_rfl) (by simp) ?_
            refine AllReadyH.cons rfl (fun K hK => ?_) AllReadyH.nil
            refine wp_append_row _ _ 22 rfl ⟨Ar, k, cr, R.getD i []⟩ Try.underlying22 infoRow rfl T5.out.own5 rfl hl5' (by omega) T5.out.keep.size ?_
            intro A56 c56 v6 h2 h3 h4
            have T6 := Lib.hid (T5.out.app5 HRL.out h2 h3)
            have hl6 := Two.cell h3 hl5 hs5.out.1
            have hs6 := Lib.hid (And.intro (Two.still h4 hl5 hs5.out.1) hs5.out.2)
            refine hK.out _ _ T6.out.keep (fun hHeld => ?_)
            clear hK K h2 h3 h4
            try simp only [Act.put, List.getElem_toArray, List.getElem_cons_succ, List.getElem_cons_zero, List.setIfInBounds_toArray, List.set_cons_zero, List.set_cons_succ]
            refine wpAnyH_ready (rs := [13]) (by kernel_rfl) (by simp) ?_
            refine AllReadyH.cons rfl (fun K hK => ?_) AllReadyH.nil
            refine wp_append_bytes _ _ 23 rfl Try.underlying23 info5 rfl T6.out.own6 rfl (one_of_cell hl6 hx) (by omega) T6.out.keep.size ?_
            intro A67 c67 v7 h2 h3 h4
            have T7 := Lib.hid (T6.out.app6 h2 h3)
            refine hK.out _ _ T7.out.keep (fun hHeld => ?_)
            clear hK K h2 h3 h4
            try simp only [Act.put, List.getElem_toArray, List.getElem_cons_succ, List.getElem_cons_zero, List.setIfInBounds_toArray, List.set_cons_zero, List.set_cons_succ]
            refine wpAnyH_take (i := 14) (v := ?_) rfl (by kernel_rfl) (by kernel_rfl) (by kernel_rfl) (fun _ _ _ h => h) (Or.inl ⟨by rfl, ?_⟩) hHeld ?_
            rotate_left
            · intro wq hSw
              go_simp
              all_goals with_reducible rfl
            try simp only [Act.put, List.getElem_toArray, List.getElem_cons_succ, List.getElem_cons_zero, List.setIfInBounds_toArray, List.set_cons_zero, List.set_cons_succ]
            refine wpAnyH_take (i := 15) (v := ?_) rfl (by kernel_rfl) (by kernel_rfl) (by kernel_rfl) (fun _ _ _ h => h) (Or.inl ⟨by rfl, ?_⟩) hHeld ?_
            rotate_left
            · intro wq hSw
              go_simp
              all_goals with_reducible rfl
            try simp only [Act.put, List.getElem_toArray, List.getElem_cons_succ, List.getElem_cons_zero, List.setIfInBounds_toArray, List.set_cons_zero, List.set_cons_succ]
            refine wpAnyH_done (by kernel_rfl) ?_ _
            refine NoPanic.normal ?_
            clear hHeld
            go_wp2_with fail
            go_roundw
            case rel => exact ⟨i + 1, m + 1, A56, c56, _, A67, c67, _, by omega, by omega, by go_num, rfl, rfl, T7.out, by rw [rowsXs, List.map_append, ← rowsXs]; exact HSM.out⟩
            case measure => simp [intOf]; omega
        · go_simp
          have kk8 : Keep v0 (v0.alloc (.cells #[.int .u8 (x : Int)] 5)) := (Keep.refl v0).obj _
          have T8 := Lib.hid (T0.out.later kk8)
          have hl8 : (v0.alloc (.cells #[.int .u8 (x : Int)] 5)).cell? ⟨v0.heap.size, 0, none⟩ = some (.int .u8 (x : Int)) := by rw [World.cell?_alloc_new]; rfl
          have hs8 := Lib.hid (And.intro T0.out.ne5 T0.out.ne6)
          refine hK.out _ _ T8.out.keep (fun hHeld => ?_)
          clear hK K kk8
          generalize v0.heap.size = g8 at *
          generalize v0.alloc (.cells #[.int .u8 (x : Int)] 5) = v8 at *
          try simp only [Act.put, List.getElem_toArray, List.getElem_cons_succ, List.getElem_cons_zero, List.setIfInBounds_toArray, List.set_cons_zero, List.set_cons_succ]
          refine wpAnyH_ready (rs := [5]) (by kernel_rfl) (by simp) ?_
          refine AllReadyH.cons rfl (fun K hK => ?_) AllReadyH.nil
          go_simp
          have kk9 : Keep v8 (v8.alloc (.cells #[.slice Ar k cr] 23)) := (Keep.refl v8).obj _
          have T9 := Lib.hid (T8.out.later kk9)
          have hl9 : (v8.alloc (.cells #[.slice Ar k cr] 23)).cell? ⟨v8.heap.size, 0, none⟩ = some (.slice Ar k cr) := by rw [World.cell?_alloc_new]; rfl
          have hs9 := Lib.hid (And.intro T8.out.ne5 T8.out.ne6)
          have hl9' := (kk9.cell (p := ⟨g8, 0, none⟩) (World.block_lt_of_cell? _ _ hl8)).trans hl8
          refine hK.out _ _ T9.out.keep (fun hHeld => ?_)
          clear hK K kk9 hl8
          generalize v8.heap.size = g9 at *
          generalize v8.alloc (.cells #[.slice Ar k cr] 23) = v9 at *
          try simp only [Act.put, List.getElem_toArray, List.getElem_cons_succ, List.getElem_cons_zero, List.setIfInBounds_toArray, List.set_cons_zero, List.set_cons_succ]
          refine wpAnyH_ready (rs := [6]) (by kernel_rfl) (by simp) ?_
          refine AllReadyH.cons rfl (fun K hK => ?_) AllReadyH.nil
          refine wp_append_row _ _ 22 rfl ⟨Ar, k, cr, R.getD i []⟩ Try.underlying22 infoRow rfl T9.out.own5 rfl hl9 (by omega) T9.out.keep.size ?_
          intro A510 c510 v10 h2 h3 h4
          have T10 := Lib.hid (T9.out.app5 HRL.out h2 h3)
          have hl10 := Two.cell h3 hl9' hs8.out.1
          have hs10 := Lib.hid (And.intro (Two.still h4 hl9' hs8.out.1) hs8.out.2)
          refine hK.out _ _ T10.out.keep (fun hHeld => ?_)
          clear hK K h2 h3 h4
          try simp only [Act.put, List.getElem_toArray, List.getElem_cons_succ, List.getElem_cons_zero, List.setIfInBounds_toArray, List.set_cons_zero, List.set_cons_succ]
          refine wpAnyH_ready (rs := [13]) (by kernel_rfl) (by simp) ?_
          refine AllReadyH.cons rfl (fun K hK => ?_) AllReadyH.nil
          refine wp_append_bytes _ _ 23 rfl Try.underlying23 info5 rfl T10.out.own6 rfl (one_of_cell hl10 hx) (by omega) T10.out.keep.size ?_
          intro A611 c611 v11 h2 h3 h4
          have T11 := Lib.hid (T10.out.app6 h2 h3)
          refine hK.out _ _ T11.out.keep (fun hHeld => ?_)
          clear hK K h2 h3 h4
          try simp only [Act.put, List.getElem_toArray, List.getElem_cons_succ, List.getElem_cons_zero, List.setIfInBounds_toArray, List.set_cons_zero, List.set_cons_succ]
          refine wpAnyH_take (i := 14) (v := ?_) rfl (by kernel_rfl) (by kernel_rfl) (by kernel_rfl) (fun _ _ _ h => h) (Or.inl ⟨by rfl, ?_⟩) hHeld ?_
          rotate_left
          · intro wq hSw
            go_simp
            all_goals with_reducible rfl
          try simp only [Act.put, List.getElem_toArray, List.getElem_cons_succ, List.getElem_cons_zero, List.setIfInBounds_toArray, List.set_cons_zero, List.set_cons_succ]
          refine wpAnyH_take (i := 15) (v := ?_) rfl (by kernel_rfl) (by kernel_rfl) (by kernel_rfl) (fun _ _ _ h => h) (Or.inl ⟨by rfl, ?_⟩) hHeld ?_
          rotate_left
          · intro wq hSw
            go_simp
            all_goals with_reducible rfl
          try simp only [Act.put, List.getElem_toArray, List.getElem_cons_succ, List.getElem_cons_zero, List.setIfInBounds_toArray, List.set_cons_zero, List.set_cons_succ]
          refine wpAnyH_done (by kernel_rfl) ?_ _
          refine NoPanic.normal ?_
          clear hHeld
          go_wp2_with fail
          go_roundw
          case rel => exact ⟨i + 1, m + 1, A510, c510, _, A611, c611, _, by omega, by omega, by go_num, rfl, rfl, T11.out, by rw [rowsXs, List.map_append, ← rowsXs]; exact HSM.out⟩
          case measure => simp [intOf]; omega
    · obtain rfl : i = p := by omega
      have hr0 := hT.own5.length
      have HLn : Hid ((rowsXs rs).length = m ∧ 1 ≤ m) := ⟨by rw [rowsXs_len, hr0], by have := hS.2.1; have := hS.1; rw [rowsXs_len, hr0] at this; omega⟩
      have HV := Lib.hid (HEnd.out _ _ hS)
      have hxs : Hid (∀ r ∈ rs, r.n = k) := fun r hr => by
        rw [← (hT.rows r hr).1]
        exact (hS.2.2.2.1 r.xs (List.mem_map.2 ⟨r, hr, rfl⟩)).1
      clear hT hS
      go_wp2_with fail
      have hrows : RowsIn wr (fun b => b < wr.heap.size) A5 m rs := RowsIn.of_own HT.out.own5 (fun r hr => ((HT.out.rows r hr).turned (Turned.of_keep (F := fun _ => False) HT.out.keep) fun _ _ e => e).mono fun b hb => Nat.lt_of_lt_of_le hb HT.out.keep.size) (fun b hb => (HT.out.own5.lt b hb).2)
      have hm2 : Mat wr ⟨A5, m, c5, rowsXs rs⟩ := ⟨rs, hrows, rfl, ownrows_le HT.out.own5⟩
      have hsz2 : Sz m k (rowsXs rs) := ⟨HLn.out.1, hrows.ok hxs.out⟩
      obtain ⟨r0, hr0⟩ : ∃ r0, rs[0]? = some r0 := ⟨_, List.getElem?_eq_getElem (by rw [HT.out.own5.length]; have := HLn.out.2; omega)⟩
      have hn0 := hxs.out r0 (List.mem_of_getElem? hr0)
      have hcb := vcomb_any wr.heap.size wr.heap.size m c5 c6 A5 A6 rs bs wr (hrows.at_rows hxs.out (by omega)) HT.out.own6.bytes (Nat.le_refl _) (Nat.le_refl _) (by have := HLn.out.2; omega) (by omega) r0 hr0
      have hall : ∀ r ∈ rs, r.n = r0.n := fun r hr => by rw [hxs.out r hr, hn0]
      rw [combOf, if_pos hall, combErr, if_pos hall, hn0, show rowsOf rs = rowsXs rs from rfl, HT.out.own5.length] at hcb
      have HCB := Lib.hid hcb
      rw [HLn.out.1] at HV
      clear hcb hrows hm2 hsz2 hr0 hn0 hall
      refine HCB.out.mono ?_
      rintro e w2 ⟨A2, n2, c2, rfl, o2, kk2⟩
      obtain rfl : k = n2 := by rw [← o2.length, vComb, tab_length]
      have O2 := Lib.hid o2
      have K2 := Lib.hid kk2
      clear o2 kk2 HCB
      go_wp2_with fail
      refine (vzero_any w2.heap.size k c2 A2 _ w2 O2.out.bytes (Nat.le_refl _) (by omega)).mono ?_
      rw [HV.out]
      rintro e w3 ⟨rfl, kk3⟩
      have K3 := Lib.hid kk3
      clear kk3
      go_wp2_with fail
      go_ret
      exact ⟨rfl, HT.out.keep.trans (K2.out.trans K3.out)⟩
end Go.Proofs.Ytofhdaeeiienfaa
/- The landed code of layer 8: Contains, Has, Same, Witness. -/
namespace Go.Proofs.Ytofhdaeeiienfaa
open Go.RowKit Lin
set_option linter.unusedVariables false
set_option linter.unusedSimpArgs false
/-- Where the first row lies of which p is told; -1, if there is none. -/
def idxI (p : List Nat → Bool) (M : List (List Nat)) : Int := if M.findIdx p < M.length then (M.findIdx p : Int) else -1
theorem idxI_some {p : List Nat → Bool} {M : List (List Nat)} {i : Nat} (hi : i < M.length) (hp : p (M.getD i []) = true) (h : ∀ j, j < i → p (M.getD j []) = false) : M.findIdx p = i ∧ idxI p M = (i : Int) := by
  have e : M.findIdx p = i := (List.findIdx_eq hi).2 ⟨by rwa [List.getD, List.getElem?_eq_getElem hi] at hp, fun j hj => by
    have := h j hj
    rwa [List.getD, List.getElem?_eq_getElem (by omega)] at this⟩
  exact ⟨e, by rw [idxI, e, if_pos hi]⟩
theorem idxI_none {p : List Nat → Bool} {M : List (List Nat)} (h : ∀ j, j < M.length → p (M.getD j []) = false) : M.findIdx p = M.length ∧ idxI p M = -1 := by
  have e : M.findIdx p = M.length := List.findIdx_eq_length.2 fun x hx => by
    obtain ⟨j, hj, e⟩ := List.getElem_of_mem hx
    have := h j hj
    rw [List.getD, List.getElem?_eq_getElem hj, ← e] at *
    exact this
  exact ⟨e, by rw [idxI, e, if_neg (by omega)]⟩
theorem idxI_any (p : List Nat → Bool) (M : List (List Nat)) : decide (0 ≤ idxI p M) = M.any p := by
  rw [idxI]
  by_cases h : M.findIdx p < M.length
  · rw [if_pos h]
    rw [decide_eq_true (by omega)]
    exact (List.any_eq_true.2 ⟨_, List.getElem_mem h, List.findIdx_getElem (w := h)⟩).symm
  · rw [if_neg h]
    have e : M.findIdx p = M.length := Nat.le_antisymm List.findIdx_le_length (by omega)
    have := List.findIdx_eq_length.1 e
    rw [show decide ((0 : Int) ≤ -1) = false from rfl]
    symm
    rw [List.any_eq_false]
    intro x hx
    rw [this x hx]; simp
set_option maxRecDepth 100000 in
theorem indexrows_any (g : Nat) (cap : Array Value) (p : List Nat → Bool) (n c k : Nat) (A : Option Addr) (M : List (List Nat)) (w : World) (h : Mat w ⟨A, n, c, M⟩) (s : Sz n k M) (hn : n ≤ 1000000) (eg : ∀ args w, (callFunc g args).run Try.prog w = .ok (.enter g args) w)
    (hstep : ∀ wr i Ay cy, Keep w wr → i < n → LiesIn wr (fun b => b < wr.heap.size) ⟨Ay, k, cy, M.getD i []⟩ → Calls Try.prog g (#[.slice Ay k cy] ++ cap) wr fun e w' => e = .returned (.bool (p (M.getD i []))) ∧ Keep wr w') :
    Calls Try.prog 58 #[.slice A n c, .func (.func g) #[] cap] w fun e w' => e = .returned (.int .i64 (idxI p M)) ∧ Keep w w' := by
  have H := Lib.hid h
  have HS := Lib.hid s
  have HT := Lib.hid hstep
  clear h s hstep
  go_enter Try.func58, Try.ntmps58
  go_wp2_with fail
  go_loopw [8] (fun iv wr => ∃ i : Nat, i ≤ n ∧ iv = .int .i64 i ∧ Keep w wr ∧ ∀ j, j < i → p (M.getD j []) = false) (fun iv _ => n - (intOf iv).toNat)
  case atStart => exact ⟨0, by omega, rfl, Keep.refl _, fun j hj => by omega⟩
  case round =>
    obtain ⟨i, hi, rfl, hk, hz⟩ := hrel
    have HK := Lib.hid hk
    have HZ := Lib.hid hz
    by_cases hlt : i < n
    · obtain ⟨b, off, Ay, cy, rfl, hb, hc, _, _, hl⟩ := (H.out.keep hk).row_at HS.out hlt
      have e1 : (0 : Int) ≤ (i : Int) := Int.natCast_nonneg _
      have e2 : (i : Int) < (n : Int) := by omega
      have hs := HT.out wr i Ay cy hk hlt hl
      obtain ⟨q, hq⟩ : ∃ q, p (M.getD i []) = q := ⟨_, rfl⟩
      rw [hq] at hs
      have HC := Lib.hid hs
      have HQ := Lib.hid hq
      clear hk hz hl hs hq
      cases q with
      | true =>
        have HR : Hid (idxI p M = (i : Int)) := (idxI_some (by rw [HS.out.1]; exact hlt) HQ.out HZ.out).2
        go_wp2_with fail
        refine HC.out.mono ?_
        rintro e w2 ⟨rfl, k2⟩
        have K2 := Lib.hid k2
        clear k2
        go_wp2_with fail
        go_ret
        exact ⟨by rw [HR.out]; rfl, HK.out.trans K2.out⟩
      | false =>
        go_wp2_with fail
        refine HC.out.mono ?_
        rintro e w2 ⟨rfl, k2⟩
        have K2 := Lib.hid k2
        clear k2
        go_wp2_with fail
        go_roundw
        case rel => exact ⟨i + 1, by omega, by go_num, HK.out.trans K2.out, fun j hj => by
          by_cases e : j = i
          · subst e; exact HQ.out
          · exact HZ.out j (by omega)⟩
        case measure => simp [intOf]; omega
    · obtain rfl : i = n := by omega
      have HR : Hid (idxI p M = -1) := (idxI_none fun j hj => HZ.out j (by rw [← HS.out.1]; exact hj)).2
      clear hk hz
      go_wp2_with fail
      go_ret
      exact ⟨by rw [HR.out]; rfl, HK.out⟩
theorem containsrows_any (g : Nat) (cap : Array Value) (p : List Nat → Bool) (n c k : Nat) (A : Option Addr) (M : List (List Nat)) (w : World) (h : Mat w ⟨A, n, c, M⟩) (s : Sz n k M) (hn : n ≤ 1000000) (eg : ∀ args w, (callFunc g args).run Try.prog w = .ok (.enter g args) w)
    (hstep : ∀ wr i Ay cy, Keep w wr → i < n → LiesIn wr (fun b => b < wr.heap.size) ⟨Ay, k, cy, M.getD i []⟩ → Calls Try.prog g (#[.slice Ay k cy] ++ cap) wr fun e w' => e = .returned (.bool (p (M.getD i []))) ∧ Keep wr w') :
    Calls Try.prog 47 #[.slice A n c, .func (.func g) #[] cap] w fun e w' => e = .returned (.bool (M.any p)) ∧ Keep w w' := by
  have hi := indexrows_any g cap p n c k A M w h s hn eg hstep
  have ha := idxI_any p M
  generalize idxI p M = q at *
  generalize M.any p = z at *
  have HI := Lib.hid hi
  clear hi h s eg hstep
  go_enter Try.func47, Try.ntmps47
  go_wp2_with fail
  refine HI.out.mono ?_
  rintro e w1 ⟨rfl, k1⟩
  have K1 := Lib.hid k1
  clear k1
  go_wp2_with fail
  go_ret
  exact ⟨by rw [← ha]; rfl, K1.out⟩
theorem fits_ok {M : List (List Nat)} (ha : ∀ r ∈ M, AllB r) (hf : fits M) : RowsOk (sizeC M) M := fun r hr => ⟨by rw [sizeC, if_pos hf]; exact hf r hr, ha r hr⟩
theorem Mat.all {w : World} {x : MV} (h : Mat w x) : ∀ r ∈ x.M, AllB r := fun r hr => by
  obtain ⟨rs, h1, h2, _⟩ := h
  rw [← h2] at hr
  obtain ⟨y, hy, rfl⟩ := List.mem_map.1 hr
  exact (h1.2.1 y hy).2.1
theorem eg_out : ∀ args w, (callFunc 79 args).run Try.prog w = .ok (.enter 79 args) w := enters_at Try.func79 rfl rfl
section
variable {w : World} {A A' : Option Addr} {n n' c c' : Nat} {M N : List (List Nat)}
theorem both_ok {x y : MV} {w' : World} (h : Mat w x) (k : Mat w' y) (hf : fits (x.M ++ y.M)) : RowsOk (sizeC (x.M ++ y.M)) x.M ∧ RowsOk (sizeC (x.M ++ y.M)) y.M := by
  have hok := fits_ok (M := x.M ++ y.M) (fun r hr => by
    rcases List.mem_append.1 hr with e | e
    · exact h.all r e
    · exact k.all r e) hf
  exact ⟨hok.left, hok.right⟩
set_option maxRecDepth 100000 in
set_option maxHeartbeats 1000000 in
theorem contains_mat (h : Mat w ⟨A, n, c, M⟩) (k : Mat w ⟨A', n', c', N⟩) (hn : n ≤ 400) (hn' : n' ≤ 400) (hc : sizeC (M ++ N) ≤ 400) :
    Calls Try.prog 17 #[.slice A n c, .slice A' n' c'] w fun e w' => e = .returned (.tuple #[.bool (conV M N), .int .i64 (sizeE (M ++ N))]) ∧ Keep w w' := by
  have hw := width_mat h k hn hn'
  by_cases hf : fits (M ++ N)
  · obtain ⟨o1, o2⟩ := both_ok h k hf
    have hlN : N.length = n' := k.len
    rw [conV, if_pos hf]
    have he : sizeE (M ++ N) = 0 := by rw [sizeE, if_pos hf]
    have hal : (N.any fun v => !conB M [v]) = !conB M N := by rw [con_all o1 o2]; simp [List.all_eq_not_any_not]
    rw [he] at hw ⊢
    obtain ⟨z, hz⟩ : ∃ z, conB M N = z := ⟨_, rfl⟩
    rw [hz] at hal ⊢
    generalize sizeC (M ++ N) = wd at *
    have HW := Lib.hid hw
    have H := Lib.hid h
    have K := Lib.hid k
    have O1 := Lib.hid o1
    have SN : Hid (Sz n' wd N) := ⟨hlN, o2⟩
    have HA := Lib.hid hal
    clear hw h k o1 o2 hal hz hf he hlN
    go_enter Try.func17, Try.ntmps17
    go_wp2_with fail
    refine HW.out.mono ?_
    rintro e w1 ⟨rfl, k1⟩
    have K1 := Lib.hid k1
    clear k1 HW
    go_wp2_with fail
    refine (outside_any n c wd A M w1 (H.out.keep K1.out) O1.out hn hc).mono ?_
    rintro e w2 ⟨b5, b3, rfl, hO, k2⟩
    have HO := Lib.hid hO
    have K2 := Lib.hid (K1.out.trans k2)
    clear hO k2
    go_wp2_with fail
    refine (containsrows_any 79 #[.pointer (some ⟨b5, 0, none⟩), .pointer (some ⟨b3, 0, none⟩)] (fun v => !conB M [v]) n' c' wd A' N w2 (K.out.keep K2.out) SN.out (by omega) eg_out fun wr i Ay cy hk hi hl => outc_any b5 b3 wd cy Ay M (N.getD i []) wr (HO.out.keep hk) hl hc).mono ?_
    rw [HA.out]
    rintro e w3 ⟨rfl, k3⟩
    have K3 := Lib.hid (K2.out.trans k3)
    clear k3
    go_wp2_with fail
    go_ret2
    exact ⟨rfl, K3.out⟩
  · rw [conV, if_neg hf]
    have he : sizeE (M ++ N) = 21 := by rw [sizeE, if_neg hf]
    rw [he] at hw ⊢
    generalize sizeC (M ++ N) = wd at *
    have HW := Lib.hid hw
    clear hw h k hf he
    go_enter Try.func17, Try.ntmps17
    go_wp2_with fail
    refine HW.out.mono ?_
    rintro e w1 ⟨rfl, k1⟩
    have K1 := Lib.hid k1
    clear k1 HW
    go_wp2_with fail
    go_ret2
    exact ⟨rfl, K1.out⟩
set_option maxRecDepth 100000 in
theorem has_mat {xs : List Nat} (h : Mat w ⟨A, n, c, M⟩) (k : LiesIn w (fun b => b < w.heap.size) ⟨A', n', c', xs⟩) (hn : n ≤ 400) (hc : sizeC (M ++ [xs]) ≤ 400) :
    Calls Try.prog 15 #[.slice A n c, .slice A' n' c'] w fun e w' => e = .returned (.tuple #[.bool (conV M [xs]), .int .i64 (sizeE (M ++ [xs]))]) ∧ Keep w w' := by
  have hm : Mat (w.alloc (.cells #[.slice A' n' c'] 23)) ⟨some ⟨w.heap.size, 0, none⟩, 1, 1, [xs]⟩ := lit_mat rfl _ 1 [⟨A', n', c', xs⟩] _ (fun r hr => by rw [List.mem_singleton.1 hr]; exact k) rfl rfl _ rfl
  have hh := contains_mat (h.keep ((Keep.refl w).obj (.cells #[.slice A' n' c'] 23))) hm hn (by omega) hc
  generalize conV M [xs] = z at *
  generalize sizeE (M ++ [xs]) = er at *
  have HH := Lib.hid hh
  clear hh hm h k hc
  go_enter Try.func15, Try.ntmps15
  go_wp2_with fail
  refine HH.out.mono ?_
  rintro e w1 ⟨rfl, k1⟩
  have K1 := Lib.hid (Keep.trans ((Keep.refl w).obj _) k1)
  clear k1
  go_wp2_with fail
  go_ret2
  exact ⟨rfl, K1.out⟩
set_option maxRecDepth 100000 in
theorem same_span (h : Mat w ⟨A, n, c, M⟩) (k : Mat w ⟨A', n', c', N⟩) (hn : n ≤ 400) (hn' : n' ≤ 400) (hc : sizeC (M ++ N) ≤ 400) (hc' : sizeC (N ++ M) ≤ 400) :
    Calls Try.prog 19 #[.slice A n c, .slice A' n' c'] w fun e w' => e = .returned (.tuple #[.bool (conV M N && conV N M), .int .i64 (sizeE (M ++ N))]) ∧ Keep w w' := by
  have h1 := contains_mat h k hn hn' hc
  have h2 := fun w' (kk : Keep w w') => contains_mat (k.keep kk) (h.keep kk) hn' hn hc'
  generalize conV M N = x at *
  generalize conV N M = y at *
  generalize sizeE (M ++ N) = er at *
  generalize sizeE (N ++ M) = er2 at *
  have H1 := Lib.hid h1
  have H2 := Lib.hid h2
  clear h1 h2 h k hc hc'
  cases x <;>
  · go_enter Try.func19, Try.ntmps19
    go_wp2_with fail
    refine H1.out.mono ?_
    rintro e w1 ⟨rfl, k1⟩
    have K1 := Lib.hid k1
    clear k1
    go_wp2_with fail
    refine (H2.out w1 K1.out).mono ?_
    rintro e w2 ⟨rfl, k2⟩
    have K2 := Lib.hid (K1.out.trans k2)
    clear k2
    go_wp2_with fail
    go_ret2
    exact ⟨rfl, K2.out⟩
/-- Whether there is a witness; the draw for it. -/
def witB (M N : List (List Nat)) : Bool := if fits (M ++ N) then !conB N M else false
def witN (M N : List (List Nat)) : List Nat := if witB M N then vUnit M.length (M.findIdx fun v => !conB N [v]) else []
def NewWit (w : World) (M N : List (List Nat)) (e : Ending) (w' : World) : Prop :=
  ∃ A n c, e = .returned (.tuple #[.slice A n c, .bool (witB M N), .int .i64 (sizeE (M ++ N))]) ∧ Own w' w.heap.size 5 A n c (witN M N) ∧ Keep w w'
set_option maxRecDepth 100000 in
set_option maxHeartbeats 1000000 in
theorem witness_mat (h : Mat w ⟨A, n, c, M⟩) (k : Mat w ⟨A', n', c', N⟩) (hn : n ≤ 400) (hn' : n' ≤ 400) (hc : sizeC (M ++ N) ≤ 400) :
    Calls Try.prog 25 #[.slice A n c, .slice A' n' c'] w (NewWit w M N) := by
  have hw := width_mat h k hn hn'
  unfold NewWit
  by_cases hf : fits (M ++ N)
  · obtain ⟨o1, o2⟩ := both_ok h k hf
    have hlM : M.length = n := h.len
    have he : sizeE (M ++ N) = 0 := by rw [sizeE, if_pos hf]
    have hal : (M.any fun v => !conB N [v]) = !conB N M := by rw [con_all o2 o1]; simp [List.all_eq_not_any_not]
    have hwit : witB M N = M.any fun v => !conB N [v] := by rw [witB, if_pos hf, hal]
    have hid := idxI_any (fun v => !conB N [v]) M
    rw [he] at hw ⊢
    have HN : Hid (idxI (fun v => !conB N [v]) M = -1 → witB M N = false ∧ witN M N = []) := fun e => by
      rw [e] at hid
      have e2 : witB M N = false := by rw [hwit, ← hid]; rfl
      exact ⟨e2, by rw [witN, e2]; rfl⟩
    have HP : Hid (∀ i : Nat, idxI (fun v => !conB N [v]) M = (i : Int) → i < n ∧ witB M N = true ∧ witN M N = (List.replicate n 0).set i 1) := fun i e => by
      have hlt : M.findIdx (fun v => !conB N [v]) < M.length := by
        rcases Nat.lt_or_ge (M.findIdx fun v => !conB N [v]) M.length with h1 | h1
        · exact h1
        · rw [idxI, if_neg (by omega)] at e; omega
      have e1 : M.findIdx (fun v => !conB N [v]) = i := by rw [idxI, if_pos hlt] at e; omega
      rw [e] at hid
      have e2 : witB M N = true := by rw [hwit, ← hid]; exact decide_eq_true (by omega)
      refine ⟨by omega, e2, ?_⟩
      rw [witN, e2, if_pos rfl, e1, hlM, unit_set]
    have HC : Hid (idxI (fun v => !conB N [v]) M = -1 ∨ ∃ i : Nat, idxI (fun v => !conB N [v]) M = (i : Int)) := by
      show _ ∨ _
      rw [idxI]
      split
      · exact Or.inr ⟨_, rfl⟩
      · exact Or.inl rfl
    generalize sizeC (M ++ N) = wd at *
    have HW := Lib.hid hw
    have H := Lib.hid h
    have K := Lib.hid k
    have O2 := Lib.hid o2
    have SM : Hid (Sz n wd M) := ⟨hlM, o1⟩
    have mk1 := fun w => run_make_bytes (P := Try.prog) Try.underlying23 info5 n (by omega) w
    obtain ⟨q, hq⟩ : ∃ q, idxI (fun v => !conB N [v]) M = q := ⟨_, rfl⟩
    rw [hq] at HN HP HC
    have HQ := Lib.hid hq
    generalize witB M N = wb at *
    generalize witN M N = wn at *
    clear hw h k o1 o2 hal hf he hlM hwit hid hq
    rcases HC.out with rfl | ⟨i, rfl⟩
    · obtain ⟨rfl, rfl⟩ := HN.out rfl
      go_enter Try.func25, Try.ntmps25
      go_wp2_with fail
      refine HW.out.mono ?_
      rintro e w1 ⟨rfl, k1⟩
      have K1 := Lib.hid k1
      clear k1 HW
      go_wp2_with fail
      refine (outside_any n' c' wd A' N w1 (K.out.keep K1.out) O2.out hn' hc).mono ?_
      rintro e w2 ⟨b5, b3, rfl, hO, k2⟩
      have HO := Lib.hid hO
      have K2 := Lib.hid (K1.out.trans k2)
      clear hO k2
      go_wp2_with fail
      refine (indexrows_any 79 #[.pointer (some ⟨b5, 0, none⟩), .pointer (some ⟨b3, 0, none⟩)] (fun v => !conB N [v]) n c wd A M w2 (H.out.keep K2.out) SM.out (by omega) eg_out fun wr i Ay cy hk hi hl => outc_any b5 b3 wd cy Ay N (M.getD i []) wr (HO.out.keep hk) hl hc).mono ?_
      rw [HQ.out]
      rintro e w3 ⟨rfl, k3⟩
      have K3 := Lib.hid (K2.out.trans k3)
      clear k3
      go_wp2_with fail
      go_ret3
      exact ⟨none, 0, 0, rfl, Own.none_ _ _ _, K3.out⟩
    · obtain ⟨hi, rfl, rfl⟩ := HP.out i rfl
      have e1 : ¬ ((i : Int) < 0) := by omega
      have e2 : (0 : Int) ≤ (i : Int) := Int.natCast_nonneg _
      have e3 : (i : Int) < (n : Int) := by omega
      go_enter Try.func25, Try.ntmps25
      go_wp2_with fail
      refine HW.out.mono ?_
      rintro e w1 ⟨rfl, k1⟩
      have K1 := Lib.hid k1
      clear k1 HW
      go_wp2_with fail
      refine (outside_any n' c' wd A' N w1 (K.out.keep K1.out) O2.out hn' hc).mono ?_
      rintro e w2 ⟨b5, b3, rfl, hO, k2⟩
      have HO := Lib.hid hO
      have K2 := Lib.hid (K1.out.trans k2)
      clear hO k2
      go_wp2_with fail
      refine (indexrows_any 79 #[.pointer (some ⟨b5, 0, none⟩), .pointer (some ⟨b3, 0, none⟩)] (fun v => !conB N [v]) n c wd A M w2 (H.out.keep K2.out) SM.out (by omega) eg_out fun wr i Ay cy hk hi hl => outc_any b5 b3 wd cy Ay N (M.getD i []) wr (HO.out.keep hk) hl hc).mono ?_
      rw [HQ.out]
      rintro e w3 ⟨rfl, k3⟩
      have K3 := Lib.hid (K2.out.trans k3)
      clear k3
      have hO := Own.made w3 5 n (by omega)
      have hk4 : Keep w3 (w3.alloc (.cells (madeCells #[.int .u8 0] n) 5)) := (Keep.refl w3).obj _
      obtain ⟨g, hg⟩ : ∃ g, w3.heap.size = g := ⟨_, rfl⟩
      rw [hg] at hO
      have HG := Lib.hid hg
      have HO3 := Lib.hid hO
      have HK4 := Lib.hid hk4
      generalize madeCells #[.int .u8 0] n = MC at *
      clear hO hk4 hg
      go_upto_region 8 with fail
      try rw [HG.out]
      have c4 := HO3.out.cell hi
      have z4 := HO3.out.frozen i
      have o4 := Lib.hid (HO3.out.stored (i := i) (v := 1) (by omega))
      have k4 := Lib.hid (HK4.out.setCell (a := ⟨g, i, none⟩) (by rw [HG.out]; exact Nat.le_refl _) (.int .u8 ((1 : Nat) : Int)))
      generalize w3.alloc (.cells MC 5) = w4 at *
      go_wp2_with fail
      go_ret3
      exact ⟨_, n, n, rfl, o4.out.lower (by rw [← HG.out]; exact K3.out.size), K3.out.trans k4.out⟩
  · have e2 : witB M N = false := by rw [witB, if_neg hf]
    have e3 : witN M N = [] := by rw [witN, e2]; rfl
    have he : sizeE (M ++ N) = 21 := by rw [sizeE, if_neg hf]
    rw [he] at hw ⊢
    rw [e2, e3]
    generalize sizeC (M ++ N) = wd at *
    have HW := Lib.hid hw
    clear hw h k hf he e2 e3
    go_enter Try.func25, Try.ntmps25
    go_wp2_with fail
    refine HW.out.mono ?_
    rintro e w1 ⟨rfl, k1⟩
    have K1 := Lib.hid k1
    clear k1 HW
    go_wp2_with fail
    go_ret3
    exact ⟨none, 0, 0, rfl, Own.none_ _ _ _, K1.out⟩
end
end Go.Proofs.Ytofhdaeeiienfaa
/- The landed code of layer 8: rows side by side, rows of noughts, rows deleted. -/
namespace Go.Proofs.Ytofhdaeeiienfaa
open Go.RowKit Lin
set_option linter.unusedVariables false
set_option linter.unusedSimpArgs false
/-- Rows apart from one another. -/
def Apart (rs : List RowV) : Prop := ∀ (i j : Nat) (ri rj : RowV), i ≠ j → rs[i]? = some ri → rs[j]? = some rj → (Value.slice rj.A rj.n rj.c).ownBlock = none ∨ (Value.slice rj.A rj.n rj.c).ownBlock ≠ (Value.slice ri.A ri.n ri.c).ownBlock
/-- Rows being put side by side. -/
structure Beside (W w : World) (g n : Nat) (rs : List RowV) : Prop where
  fill : Fill W w g n rs
  apart : Apart rs
namespace Beside
variable {W w w' w2 : World} {g n i m c2 : Nat} {A2 : Option Addr} {rs : List RowV} {r : RowV} {ys : List Nat}
theorem made {w1 : World} (k : Keep W w1) (hn : n ≤ 1000000) (hg : w1.heap.size = g) : Beside W (w1.alloc (.cells (madeCells #[.slice none 0 0] n) 23)) g n (List.replicate n ⟨none, 0, 0, []⟩) :=
  ⟨Fill.made k hn hg, fun i j ri rj _ _ hj => by
    obtain ⟨_, rfl⟩ := List.mem_replicate.1 (List.mem_of_getElem? hj)
    exact Or.inl rfl⟩
theorem later (h : Beside W w g n rs) (k : Keep w w') : Beside W w' g n rs := ⟨h.fill.later k, h.apart⟩
theorem mid (h : Beside W w g n rs) (hi : rs[i]? = some r) (h3 : w.grownBy w2 (Value.slice r.A r.n r.c).ownBlock) : OwnRows w2 W.heap.size 23 (some ⟨g, 0, none⟩) n n rs :=
  h.fill.own.turned (Turned.of_grown (F := fun b => (Value.slice r.A r.n r.c).ownBlock = some b) h3 fun i e => e) fun b hb e => by
    rcases blocks_apart (h.fill.rows r (List.mem_of_getElem? hi)) h.fill.own (by decide) with z | z
    · rw [z] at e; cases e
    · exact z (e.trans hb.symm)
theorem step (h : Beside W w g n rs) (hi : rs[i]? = some r) (h2 : Own w2 W.heap.size 5 A2 m c2 ys) (h3 : w.grownBy w2 (Value.slice r.A r.n r.c).ownBlock)
    (h4 : (Value.slice A2 m c2).ownBlock = (Value.slice r.A r.n r.c).ownBlock ∨ (Value.slice A2 m c2).ownBlock = some w.heap.size) (hg : W.heap.size ≤ g) : Beside W (w2.setCell ⟨g, i, none⟩ (.slice A2 m c2)) g n (rs.set i ⟨A2, m, c2, ys⟩) := by
  have hm := h.mid hi h3
  have hil : i < rs.length := (List.getElem?_eq_some_iff.1 hi).1
  have far : ∀ r' : RowV, Own w2 W.heap.size 5 r'.A r'.n r'.c r'.xs → Own (w2.setCell ⟨g, i, none⟩ (.slice A2 m c2)) W.heap.size 5 r'.A r'.n r'.c r'.xs := fun r' o' => o'.far (p := ⟨g, i, none⟩) (by
    rcases blocks_apart o' hm (by decide) with z | z
    · rw [z]; simp
    · exact fun e => z (e.trans rfl)) _
  have key : ∀ j r', j ≠ i → rs[j]? = some r' → Own w2 W.heap.size 5 r'.A r'.n r'.c r'.xs := fun j r' hne hj =>
    (h.fill.rows r' (List.mem_of_getElem? hj)).grown h3 (h.apart i j r r' (fun e => hne e.symm) hi hj)
  refine ⟨⟨hm.stored ⟨A2, m, c2, ys⟩, fun r' hr' => ?_, (h.fill.keep.grown h3 (h.fill.rows r (List.mem_of_getElem? hi)).rowLe).setCell hg _⟩, fun a b ra rb hne ha hb => ?_⟩
  · obtain ⟨j, hj, e⟩ := List.getElem_of_mem hr'
    have hj2 : (rs.set i ⟨A2, m, c2, ys⟩)[j]? = some r' := by rw [List.getElem?_eq_getElem hj, e]
    rw [List.getElem?_set] at hj2
    by_cases e2 : i = j
    · rw [if_pos e2, if_pos hil] at hj2
      injection hj2 with hj2
      subst hj2
      exact far ⟨A2, m, c2, ys⟩ h2
    · rw [if_neg e2] at hj2
      exact far r' (key j r' (fun e3 => e2 e3.symm) hj2)
  · rw [List.getElem?_set] at ha hb
    have old : ∀ j r', j ≠ i → rs[j]? = some r' → ∀ b, (Value.slice r'.A r'.n r'.c).ownBlock = some b → b < w.heap.size := fun j r' _ hj b hb => ((h.fill.rows r' (List.mem_of_getElem? hj)).1.lt b hb).2
    by_cases ea : i = a
    · subst ea
      rw [if_pos rfl, if_pos hil] at ha
      injection ha with ha
      subst ha
      rw [if_neg hne] at hb
      rcases h4 with z | z
      · show _ ∨ _ ≠ (Value.slice A2 m c2).ownBlock
        rw [z]; exact h.apart i b r rb hne hi hb
      · refine Or.inr fun e => ?_
        have e : (Value.slice rb.A rb.n rb.c).ownBlock = some w.heap.size := e.trans z
        have := old b rb (fun e => hne e.symm) hb _ e
        omega
    · rw [if_neg ea] at ha
      by_cases eb : i = b
      · subst eb
        rw [if_pos rfl, if_pos hil] at hb
        injection hb with hb
        subst hb
        rcases h4 with z | z
        · show (Value.slice A2 m c2).ownBlock = none ∨ _
          rw [z]
          exact h.apart a i ra r (fun e => ea e.symm) ha hi
        · refine Or.inr fun e => ?_
          have e : (Value.slice ra.A ra.n ra.c).ownBlock = some w.heap.size := e.symm.trans z
          have := old a ra (fun e => ea e.symm) ha _ e
          omega
      · rw [if_neg eb] at hb
        exact h.apart a b ra rb hne ha hb
end Beside
theorem side_getD {X Y : List (List Nat)} {i : Nat} (h : X.length = Y.length) (hi : i < X.length) : (sideN X Y).getD i [] = X.getD i [] ++ Y.getD i [] := by
  rw [List.getD, List.getElem?_eq_getElem (by rw [side_len h]; exact hi), List.getD, List.getElem?_eq_getElem hi, List.getD, List.getElem?_eq_getElem (h ▸ hi)]
  simp [sideN]
theorem side_start {n : Nat} {X : List (List Nat)} (h : X.length = n) : sideN (List.replicate n []) X = X := by
  subst h
  refine List.ext_getElem (by simp [sideN]) fun i h1 h2 => ?_
  simp [sideN]
/-- The first i rows put beside. -/
def sideTo (X Y : List (List Nat)) (i : Nat) : List (List Nat) := (sideN X Y).take i ++ X.drop i
theorem sideTo_zero (X Y : List (List Nat)) : sideTo X Y 0 = X := by simp [sideTo]
theorem sideTo_all {X Y : List (List Nat)} {n : Nat} (h : X.length = Y.length) (hn : X.length = n) : sideTo X Y n = sideN X Y := by
  rw [sideTo, List.take_of_length_le (by rw [side_len h]; omega), List.drop_of_length_le (by omega), List.append_nil]
theorem sideTo_get {X Y : List (List Nat)} {i : Nat} (h : X.length = Y.length) (hi : i < X.length) : (sideTo X Y i).getD i [] = X.getD i [] := by
  have hl : ((sideN X Y).take i).length = i := by rw [List.length_take, side_len h]; omega
  rw [List.getD_eq_getElem?_getD, sideTo, List.getElem?_append_right (by omega), hl, Nat.sub_self, List.getElem?_drop, Nat.add_zero, ← List.getD_eq_getElem?_getD]
theorem sideTo_set {X Y : List (List Nat)} {i : Nat} (h : X.length = Y.length) (hi : i < X.length) : (sideTo X Y i).set i (X.getD i [] ++ Y.getD i []) = sideTo X Y (i + 1) := by
  rw [← side_getD h hi]
  have hl : ((sideN X Y).take i).length = i := by rw [List.length_take, side_len h]; omega
  have hs := side_len h
  refine List.ext_getElem? fun j => ?_
  rw [List.getElem?_set]
  by_cases e : i = j
  · subst e
    rw [if_pos rfl, if_pos (by rw [sideTo, List.length_append, hl, List.length_drop]; omega), sideTo, List.getElem?_append_left (by rw [List.length_take, hs]; omega), List.getElem?_take, if_pos (by omega), List.getD, List.getElem?_eq_getElem (by omega)]
    rfl
  · rw [if_neg e, sideTo, sideTo]
    by_cases hj : j < i
    · rw [List.getElem?_append_left (by omega), List.getElem?_append_left (by rw [List.length_take, hs]; omega), List.getElem?_take, List.getElem?_take, if_pos hj, if_pos (by omega)]
    · rw [List.getElem?_append_right (by omega), List.getElem?_append_right (by rw [List.length_take, hs]; omega), List.length_take, List.length_take, hs, List.getElem?_drop, List.getElem?_drop]
      congr 1
      omega
set_option maxRecDepth 100000 in
set_option maxHeartbeats 4000000 in
theorem beside_any (n k1 k2 m c : Nat) (A : Option Addr) (x y : MV) (w : World) (h : ListsAt w A 2 [x, y]) (sx : Sz n k1 x.M) (sy : Sz n k2 y.M) (hn : n ≤ 1000) (h1 : k1 ≤ 1000) (h2 : k2 ≤ 1000) :
    Calls Try.prog 51 #[.slice A 2 c] w fun e w' => ∃ A' rs, e = .returned (.slice A' n n) ∧ OwnedRows w w' A' n n (sideN x.M y.M) rs := by
  obtain ⟨b, off, hA, hb, hcs⟩ := h.2.2 (by omega)
  subst hA
  have hx : Mat w x := h.2.1 x (by simp)
  have hy : Mat w y := h.2.1 y (by simp)
  have c0 : w.cell? ⟨b, off, none⟩ = some (.slice x.A x.n x.c) := hcs 0 x rfl
  have hxn : x.n = n := hx.len.symm.trans sx.1
  have hyn : y.n = n := hy.len.symm.trans sy.1
  obtain ⟨Ax, nx, cx, X⟩ := x
  obtain ⟨Ay, ny, cy, Y⟩ := y
  have hxn : nx = n := hxn
  have hyn : ny = n := hyn
  subst hxn
  subst hyn
  have mk := fun w => run_make_rows (P := Try.prog) Try.underlying22 infoRow ny (by omega) w
  have HC := Lib.hid hcs
  have HX := Lib.hid hx
  have HY := Lib.hid hy
  have SX : Hid (Sz ny k1 X) := sx
  have SY : Hid (Sz ny k2 Y) := sy
  have HB := Lib.hid hb
  have kb : Hid (Keep w (w.alloc (.cells (madeCells #[.slice none 0 0] ny) 23))) := (Keep.refl w).obj _
  have HF0 := Lib.hid (Beside.made (Keep.refl w) (show ny ≤ 1000000 by omega) rfl)
  obtain ⟨g, hg⟩ : ∃ g, w.heap.size = g := ⟨_, rfl⟩
  rw [hg] at HF0
  have HG := Lib.hid hg
  have ht0 : rowsXs (List.replicate ny ⟨none, 0, 0, []⟩) = List.replicate ny [] := rowsXs_none ny
  clear h hx hy sx sy hb hg hcs
  go_enter Try.func51, Try.ntmps51
  go_wp2_with fail
  try rw [HG.out]
  go_loopw [15] (fun jv wr => ∃ (j : Nat) (rs : List RowV), j ≤ 2 ∧ jv = .int .i64 j ∧ Beside w wr g ny rs ∧ rowsXs rs = (if j = 0 then List.replicate ny [] else if j = 1 then X else sideN X Y)) (fun jv _ => 2 - (intOf jv).toNat)
  case atStart => exact ⟨0, _, by omega, rfl, HF0.out, by rw [ht0]; rfl⟩
  case round =>
    clear HF0 ht0 mk kb
    obtain ⟨j, rs, hj, rfl, hF, hx⟩ := hrel
    by_cases hlt : j < 2
    · -- the list that is put beside, and what stands so far
      obtain ⟨Az, cz, kz, Z, T, hz, hkz, hsz, hmz, hT, hT2⟩ : ∃ (Az : Option Addr) (cz kz : Nat) (Z T : List (List Nat)), [(⟨Ax, ny, cx, X⟩ : MV), ⟨Ay, ny, cy, Y⟩][j]? = some ⟨Az, ny, cz, Z⟩ ∧ kz ≤ 1000 ∧ Sz ny kz Z ∧ Mat w ⟨Az, ny, cz, Z⟩ ∧ (T.length = ny ∧ (if j = 0 then List.replicate ny [] else if j = 1 then X else sideN X Y) = T ∧ (∀ r ∈ T, r.length ≤ 1000)) ∧ (if j + 1 = 0 then List.replicate ny [] else if j + 1 = 1 then X else sideN X Y) = sideN T Z := by
        rcases (show j = 0 ∨ j = 1 by omega) with rfl | rfl
        · exact ⟨Ax, cx, k1, X, List.replicate ny [], rfl, h1, SX.out, HX.out, ⟨by simp, rfl, fun r hr => by rw [(List.mem_replicate.1 hr).2]; simp⟩, by rw [side_start SX.out.1]; rfl⟩
        · exact ⟨Ay, cy, k2, Y, X, rfl, h2, SY.out, HY.out, ⟨SX.out.1, rfl, fun r hr => by rw [(SX.out.2 r hr).1]; exact h1⟩, rfl⟩
      rw [hT.2.1] at hx
      have cj := (hF.fill.keep.cell (p := ⟨b, off + j, none⟩) HB.out).trans (HC.out j _ hz)
      have e1 : (0 : Int) ≤ (j : Int) := Int.natCast_nonneg _
      have e2 : (j : Int) < 2 := by omega
      have HF1 := Lib.hid hF
      have HX1 := Lib.hid hx
      have HSZ := Lib.hid hsz
      have HMZ := Lib.hid hmz
      have HT := Lib.hid hT
      have HT2 := Lib.hid hT2
      have HLZ : Hid (T.length = Z.length) := hT.1.trans hsz.1.symm
      clear hF hx hz hsz hmz hT hT2
      go_wp2_with fail
      go_loopw [21] (fun iv wz => ∃ (i : Nat) (rz : List RowV), i ≤ ny ∧ iv = .int .i64 i ∧ Beside w wz g ny rz ∧ rowsXs rz = sideTo T Z i) (fun iv _ => ny - (intOf iv).toNat)
      case atStart => exact ⟨0, rs, by omega, rfl, HF1.out, by rw [HX1.out, sideTo_zero]⟩
      case round =>
        clear HF1 HX1 cj
        obtain ⟨i, rz, hi, rfl, hF2, hx2⟩ := hrel
        by_cases hlti : i < ny
        · obtain ⟨bz, oz, Ar, cr, rfl, hbz, hcz, hbr, _, _⟩ := (HMZ.out.keep hF2.fill.keep).row_at HSZ.out hlti
          have hil : i < rz.length := by rw [hF2.fill.length]; exact hlti
          have hri := List.getElem?_eq_getElem hil
          obtain ⟨r, hr⟩ : ∃ r, rz[i] = r := ⟨_, rfl⟩
          rw [hr] at hri
          have c5 := hF2.fill.cell hri
          have hro := hF2.fill.rows r (List.mem_of_getElem? hri)
          have hrx : r.xs = T.getD i [] := by rw [← rowsXs_at hri, hx2, sideTo_get HLZ.out (by rw [HT.out.1]; exact hlti)]
          have hrn : r.n ≤ 1000 := by
            rw [← hro.length, hrx]
            exact HT.out.2.2 _ (by rw [List.getD, List.getElem?_eq_getElem (by rw [HT.out.1]; exact hlti)]; exact List.getElem_mem _)
          have i1 : (0 : Int) ≤ (i : Int) := Int.natCast_nonneg _
          have i2 : (i : Int) < (ny : Int) := by omega
          have HF2 := Lib.hid hF2
          have HX2 := Lib.hid hx2
          have HRI := Lib.hid hri
          have HRO := Lib.hid hro
          have HRX := Lib.hid hrx
          have HBR := Lib.hid hbr
          clear hF2 hx2 hri hr hro hrx hbr hil
          go_wp2_with (at_builtin; refine wpList_append_bytes rfl _ _ 23 rfl Try.underlying23 info5 rfl HRO.out rfl HBR.out (by omega) HF2.out.fill.keep.size ?_)
          intro A2 c2 w2 h2 h3 h4
          have hmid := HF2.out.mid HRI.out h3
          have cm : w2.cell? ⟨g, i, none⟩ = some (.slice r.A r.n r.c) := by
            have hc := World.ownsRow.cells hmid (g := g) rfl i r.val (by rw [List.getElem?_map, HRI.out]; rfl)
            have ha : (⟨g, 0, none⟩ : Addr).add i = ⟨g, i, none⟩ := by unfold Addr.add; split <;> simp_all
            rwa [ha] at hc
          have zm : w2.frozen? ⟨g, i, none⟩ = false := World.ownsRow.frozenAt hmid i
          have HS := Lib.hid (HF2.out.step HRI.out h2 h3 h4 (by rw [HG.out]; exact Nat.le_refl _))
          clear h2 h3 h4 hmid
          go_wp2_with fail
          go_roundw
          case rel => exact ⟨i + 1, _, by omega, by go_num, HS.out, by rw [rowsXs_set, HX2.out, HRX.out]; exact sideTo_set HLZ.out (by rw [HT.out.1]; exact hlti)⟩
          case measure => simp [intOf]; omega
        · obtain rfl : i = ny := by omega
          rw [sideTo_all HLZ.out HT.out.1] at hx2
          have HF2 := Lib.hid hF2
          have HX2 := Lib.hid hx2
          clear hF2 hx2
          go_wp2_with fail
          go_roundw
          case rel => exact ⟨j + 1, rz, by omega, by go_num, HF2.out, by rw [HX2.out, HT2.out]⟩
          case measure => simp [intOf]; omega
    · obtain rfl : j = 2 := by omega
      have hx : rowsXs rs = sideN X Y := hx
      have HF1 := Lib.hid hF
      have HX1 := Lib.hid hx
      clear hF hx
      go_wp2_with fail
      go_ret
      exact ⟨_, rs, rfl, HF1.out.fill.own, HF1.out.fill.rows, HX1.out, HF1.out.fill.keep⟩
theorem zeroN_at {L : List (List Nat)} {i k n : Nat} (s : Sz n k L) (hi : i < n) : (zeroN L).getD i [] = List.replicate k 0 := by
  have hl : i < L.length := by rw [s.1]; exact hi
  rw [List.getD, List.getElem?_eq_getElem (by rw [zero_len]; exact hl)]
  simp only [zeroN, List.getElem_map, Option.getD_some]
  rw [(s.2 _ (List.getElem_mem hl)).1]
set_option maxRecDepth 100000 in
set_option maxHeartbeats 1000000 in
theorem noughts_any (n k c : Nat) (A : Option Addr) (L : List (List Nat)) (w : World) (h : Mat w ⟨A, n, c, L⟩) (s : Sz n k L) (hn : n ≤ 1000) (hk : k ≤ 1000) :
    Calls Try.prog 52 #[.slice A n c] w fun e w' => ∃ A' rs, e = .returned (.slice A' n n) ∧ OwnedRows w w' A' n n (zeroN L) rs := by
  have mk := fun w => run_make_rows (P := Try.prog) Try.underlying22 infoRow n (by omega) w
  have mk2 := fun w => run_make_bytes (P := Try.prog) Try.underlying23 info5 k (by omega) w
  have hT : (zeroN L).length = n := by rw [zero_len, s.1]
  have H := Lib.hid h
  have HS := Lib.hid s
  have HF0 := Lib.hid (Fill.made (Keep.refl w) (show n ≤ 1000000 by omega) rfl)
  obtain ⟨g, hg⟩ : ∃ g, w.heap.size = g := ⟨_, rfl⟩
  rw [hg] at HF0
  have HG := Lib.hid hg
  clear h s hg
  generalize hMR : madeCells #[Value.slice none 0 0] n = MR at *
  clear hMR
  go_enter Try.func52, Try.ntmps52
  go_wp2_with fail
  try rw [HG.out]
  go_loopw [11] (fun i wr => ∃ (j : Nat) (rs : List RowV), j ≤ n ∧ i = .int .i64 j ∧ Fill w wr g n rs ∧ rowsXs rs = (zeroN L).take j ++ List.replicate (n - j) []) (fun i _ => n - (intOf i).toNat)
  case atStart => exact ⟨0, _, by omega, rfl, HF0.out, by rw [rowsXs_none, laid_zero]⟩
  case round =>
    clear HF0 mk
    obtain ⟨j, rs, hj, rfl, hf, hx⟩ := hrel
    by_cases hlt : j < n
    · obtain ⟨b, off, Ay, cy, rfl, hb, hc, _, _, _⟩ := (H.out.keep hf.keep).row_at HS.out hlt
      have e1 : (0 : Int) ≤ (j : Int) := Int.natCast_nonneg _
      have e2 : (j : Int) < (n : Int) := by omega
      have hO := Own.made wr 5 k (by omega)
      have hk2 : Keep wr (wr.alloc (.cells (madeCells #[.int .u8 0] k) 5)) := (Keep.refl wr).obj _
      obtain ⟨g2, hg2⟩ : ∃ g, wr.heap.size = g := ⟨_, rfl⟩
      rw [hg2] at hO
      generalize madeCells #[.int .u8 0] k = MC at *
      have hf2 := hf.later hk2
      obtain ⟨v, hv⟩ := hf2.any hlt
      have hz := hf2.frozen j
      have HF2 := Lib.hid hf2
      have HX := Lib.hid hx
      have HO := Lib.hid hO
      have HG2 := Lib.hid hg2
      have HL2 := Lib.hid hf.keep.size
      clear hf hx hO hk2 hg2 hf2
      go_wp2_with fail
      try rw [HG2.out]
      go_roundw
      case rel => exact ⟨j + 1, _, by omega, by go_num, HF2.out.set (r := ⟨some ⟨g2, 0, none⟩, k, k, List.replicate k 0⟩) j (HO.out.lower (by rw [← HG2.out]; exact HL2.out)) (by omega), by
        rw [rowsXs_set, HX.out]
        exact laid_set hT hlt (zeroN_at HS.out hlt)⟩
      case measure => simp [intOf]; omega
    · obtain rfl : j = n := by omega
      have HF := Lib.hid hf
      have HX := Lib.hid hx
      clear hf hx
      go_wp2_with fail
      go_ret
      exact ⟨_, rs, rfl, HF.out.own, HF.out.rows, by rw [HX.out, laid_all hT], HF.out.keep⟩
end Go.Proofs.Ytofhdaeeiienfaa
/- The landed code of layer 8: rows deleted; what lies in both spans. -/
namespace Go.Proofs.Ytofhdaeeiienfaa
open Go.RowKit Lin
set_option linter.unusedVariables false
set_option linter.unusedSimpArgs false
theorem OwnRows.cut {w : World} {base e n c k : Nat} {A : Option Addr} {rs : List RowV} (h : OwnRows w base e A n c rs) (hk : k ≤ n) : OwnRows w base e A k c (rs.take k) := by
  have hl := h.length
  rcases h.2 with ⟨hv, h0⟩ | ⟨g, cap, cur, hv, hg, hh, hle, hm, hs, hx⟩
  · injection hv with e1 e2 e3
    subst e1; subst e3
    obtain rfl : k = 0 := by omega
    rw [List.take_zero]
    exact OwnRows.none_ _ _ _
  · injection hv with e1 e2 e3
    subst e1; subst e3
    refine ⟨by simp; omega, .inr ⟨g, _, cur, rfl, hg, hh, by omega, hm, hs, ?_⟩⟩
    have := congrArg (List.take k) hx
    rw [List.take_take] at this
    rw [List.map_take, ← this]
    congr 1
    omega
theorem OwnRows.nils {base e n c g i : Nat} : ∀ (k : Nat) (w : World) (o : Nat) (rs : List RowV), i ≤ o → OwnRows w base e (some ⟨g, 0, none⟩) n c rs →
    ∃ rs', OwnRows (w.setCells g o (List.replicate k (.slice none 0 0))) base e (some ⟨g, 0, none⟩) n c rs' ∧ rs'.take i = rs.take i ∧ Turned (fun b => b = g) w (w.setCells g o (List.replicate k (.slice none 0 0)))
  | 0, w, o, rs, _, h => ⟨rs, h, rfl, Turned.refl _ _⟩
  | k + 1, w, o, rs, hi, h => by
    have h1 := h.stored (i := o) ⟨none, 0, 0, []⟩
    obtain ⟨rs', h2, h3, h4⟩ := OwnRows.nils (i := i) k (w.setCell ⟨g, o, none⟩ (.slice none 0 0)) (o + 1) _ (by omega) h1
    refine ⟨rs', h2, ?_, (Turned.set (F := fun b => b = g) w ⟨g, o, none⟩ (.slice none 0 0) rfl).trans h4 fun i e => Or.inl e⟩
    rw [h3, List.take_set_of_le hi]
set_option maxRecDepth 100000 in
/-- The closure that Meet hands on. -/
theorem meet1_any (b6 ny cy : Nat) (Ay : Option Addr) (xs : List Nat) (cols : Nat) (w : World) (h : w.cell? ⟨b6, 0, none⟩ = some (.int .i64 (cols : Int))) (hy : Bytes w w.heap.size Ay ny xs) (hn : ny ≤ 140737488351232) :
    Calls Try.prog 54 #[.slice Ay ny cy, .pointer (some ⟨b6, 0, none⟩)] w fun e w' => e = .returned (.bool (decide (vLead ny xs < (cols : Int)))) ∧ ∃ m, w' = w.drewN m := by
  have hv := fun (m : Nat) => vlead_eq w.heap.size ny cy Ay xs (w.drewN m) hy hn
  generalize vLead ny xs = q at *
  have HV := Lib.hid hv
  clear hv hy
  go_enter Try.func54, Try.ntmps54
  go_wp2_with fail
  go_quiet ((go_at_call 55; exact quiet_of_eq (HV.out _)))
  go_wp2_with fail
  go_ret
  exact ⟨rfl, nq, rfl⟩
set_option maxRecDepth 100000 in
set_option maxHeartbeats 4000000 in
theorem delete_any (g0 : Nat) (cap : Array Value) (del : List Nat → Bool) (B n c k : Nat) (A : Option Addr) (rs : List RowV) (w : World) (ho : OwnRows w B 23 A n c rs) (hr : ∀ r ∈ rs, Own w B 5 r.A r.n r.c r.xs) (hB : B ≤ w.heap.size) (s : Sz n k (rowsXs rs)) (hn : n ≤ 1000000) (eg : ∀ args w, (callFunc g0 args).run Try.prog w = .ok (.enter g0 args) w)
    (hstep : ∀ wr Ay cy xs, Turned (fun b => (Value.slice A n c).ownBlock = some b) w wr → Bytes wr wr.heap.size Ay k xs → Calls Try.prog g0 (#[.slice Ay k cy] ++ cap) wr fun e w' => e = .returned (.bool (del xs)) ∧ ∃ m, w' = wr.drewN m) :
    Calls Try.prog 53 #[.slice A n c, .func (.func g0) #[] cap] w fun e w' => ∃ n', e = .returned (.slice A n' c) ∧ OwnRows w' B 23 A n' c (rs.filter fun r => !del r.xs) ∧ Turned (fun b => (Value.slice A n c).ownBlock = some b) w w' := by
  have hm : Mat w ⟨A, n, c, rowsXs rs⟩ := ⟨rs, RowsIn.of_own ho (fun r hx => (hr r hx).lies.mono fun b hb => ((hr r hx).1.lt b hb).2) (fun b hb => (ho.lt b hb).2), rfl, ownrows_le ho⟩
  have hidx := indexrows_any g0 cap del n c k A (rowsXs rs) w hm s hn eg fun wr i Ay cy hk hi hl => (hstep wr Ay cy _ (Turned.of_keep hk) (hl.bytes fun _ e => e)).mono fun e w' hh => ⟨hh.1, by obtain ⟨_, m, rfl⟩ := hh; exact (Keep.refl wr).drewN m⟩
  have hlen : rs.length = n := ho.length
  have hget : ∀ j r, rs[j]? = some r → (rowsXs rs).getD j [] = r.xs := fun j r h => rowsXs_at h
  by_cases hlt : (rowsXs rs).findIdx del < (rowsXs rs).length
  · obtain ⟨i0, hi0⟩ : ∃ i, (rowsXs rs).findIdx del = i := ⟨_, rfl⟩
    rw [hi0] at hlt
    have hlt2 : i0 < n := by rwa [rowsXs_len, hlen] at hlt
    have hf := (List.findIdx_eq hlt).1 hi0
    have hq : idxI del (rowsXs rs) = (i0 : Int) := by rw [idxI, hi0, if_pos hlt]
    rw [hq] at hidx
    -- the first rows stay, the next one goes
    have hstart : rs.take i0 = (rs.take (i0 + 1)).filter fun r => !del r.xs := by
      have e1 : (rs.take i0).filter (fun r => !del r.xs) = rs.take i0 := List.filter_eq_self.2 fun r hx => by
        obtain ⟨j, hj, e⟩ := List.getElem_of_mem hx
        rw [List.length_take] at hj
        have := hf.2 j (by omega)
        rw [List.getElem_take] at e
        simp only [rowsXs, List.getElem_map] at this
        rw [← e, this]; rfl
      have e2 : rs[i0]? = some rs[i0] := List.getElem?_eq_getElem (by omega)
      rw [take_snoc_at e2, List.filter_append, e1]
      have := hf.1
      simp only [rowsXs, List.getElem_map] at this
      simp [this]
    have HI := Lib.hid hidx
    have HO := Lib.hid ho
    have HR := Lib.hid hr
    have HST := Lib.hid hstart
    have HT := Lib.hid hstep
    have HSZ := Lib.hid s
    obtain ⟨g, hA, hg1, hg2⟩ := ho.block (by omega)
    subst hA
    have hcap := ownrows_le ho
    have hdrop : ∀ (d : Nat) w, d ≤ n → (Instr.slice 22 (.slice (some ⟨g, 0, none⟩) n c) (some (.int .i64 (d : Int))) none none).run Try.prog w = .ok (.slice (dropA (some ⟨g, 0, none⟩) c d) (n - d) (c - d)) w := fun d w hd => run_drop (t := 22) (by kernel_rfl) infoRow n c d _ hd w
    have HD := Lib.hid hdrop
    have HG := Lib.hid (And.intro hg1 hg2)
    have z1 : IntKind.i64.wrap ((i0 : Int) + 1) = (i0 : Int) + 1 := IntWalk.i64_in _ (by omega)
    have b1 : ((i0 : Int) == -1) = false := beq_eq_false_iff_ne.2 (by omega)
    clear hidx ho hr hm hi0 hlt hf hq hstart hstep s hdrop hg1 hg2
    go_enter Try.func53, Try.ntmps53
    go_wp2_with fail
    refine HI.out.mono ?_
    rintro e w1 ⟨rfl, k1⟩
    have K1 := Lib.hid k1
    clear k1 HI
    go_wp2_with fail
    go_loopw [5, 6] (fun iv jv wr => ∃ (i j : Nat) (cur : List RowV), i < j ∧ j ≤ n ∧ iv = .int .i64 i ∧ jv = .int .i64 j ∧ OwnRows wr B 23 (some ⟨g, 0, none⟩) n c cur ∧ cur.take i = (rs.take j).filter (fun r => !del r.xs) ∧ cur.drop j = rs.drop j ∧ Turned (fun b => b = g) w wr) (fun _ jv _ => n - (intOf jv).toNat)
    case atStart => exact ⟨i0, i0 + 1, rs, by omega, by omega, rfl, by first | rfl | go_num, HO.out.keep K1.out, HST.out, rfl, Turned.of_keep K1.out⟩
    case round =>
      clear z1 b1
      obtain ⟨i, j, cur, hij, hj, rfl, rfl, hO, hT1, hT2, hT⟩ := hrel
      have hcl : cur.length = n := hO.length
      by_cases hlt : j < n
      · have hjr : rs[j]? = some rs[j] := List.getElem?_eq_getElem (by omega)
        obtain ⟨r, hre⟩ : ∃ r, rs[j] = r := ⟨_, rfl⟩
        rw [hre] at hjr
        have hjc : cur[j]? = some r := by
          have e1 := congrArg (fun l => l[0]?) hT2
          simp only [List.getElem?_drop, Nat.add_zero] at e1
          rw [e1, hjr]
        have hcj := World.ownsRow.cells hO (g := g) rfl j r.val (by rw [List.getElem?_map, hjc]; rfl)
        have haa : ∀ x, (⟨g, 0, none⟩ : Addr).add x = ⟨g, x, none⟩ := fun x => by unfold Addr.add; split <;> simp_all
        rw [haa, RowV.val] at hcj
        obtain ⟨Ar, nr, cr, xr⟩ := r
        have hrk : nr = k := by
          have h1 := HR.out _ (List.mem_of_getElem? hjr)
          have h2 : xr ∈ rowsXs rs := List.mem_map.2 ⟨_, List.mem_of_getElem? hjr, rfl⟩
          have h3 : xr.length = nr := h1.length
          rw [← h3]; exact (HSZ.out.2 xr h2).1
        subst hrk
        have hby : Bytes wr wr.heap.size Ar nr xr := by
          have h1 := (HR.out _ (List.mem_of_getElem? hjr)).lies
          have hne : ∀ b, (Value.slice Ar nr cr).ownBlock = some b → ¬ b = g := fun b hb e => by
            rcases blocks_apart (HR.out _ (List.mem_of_getElem? hjr)) HO.out (by decide) with z | z
            · rw [z] at hb; cases hb
            · exact z (hb.trans (by rw [e]; rfl))
          refine (h1.turned hT hne).bytes fun b hb => ?_
          have := ((HR.out _ (List.mem_of_getElem? hjr)).1.lt b hb).2
          exact Nat.lt_of_lt_of_le this hT.size
        have hs := HT.out wr Ar cr xr (hT.mono fun b _ e => by rw [e]; rfl) hby
        obtain ⟨q, hq⟩ : ∃ q, del xr = q := ⟨_, rfl⟩
        rw [hq] at hs
        have e1 : (0 : Int) ≤ (j : Int) := Int.natCast_nonneg _
        have e2 : (j : Int) < (n : Int) := by omega
        have e3 : (0 : Int) ≤ (i : Int) := Int.natCast_nonneg _
        have e4 : (i : Int) < (n : Int) := by omega
        have hsnoc := take_snoc_at hjr
        have hd1 : ∀ l : List RowV, l.drop j = rs.drop j → l.drop (j + 1) = rs.drop (j + 1) := fun l e => by
          have := congrArg (List.drop 1) e
          rwa [List.drop_drop, List.drop_drop] at this
        cases q with
        | true =>
          have HN : Hid (cur.take i = (rs.take (j + 1)).filter (fun r => !del r.xs)) := by
            show _ = _
            rw [hsnoc, List.filter_append, hT1]; simp [hq]
          have HD2 := Lib.hid (hd1 cur hT2)
          have HC := Lib.hid hs
          have HO1 := Lib.hid hO
          have HT1 := Lib.hid hT
          clear hs hO hT hT1 hT2 hjr hre hjc hby hq hsnoc hd1 haa
          go_wp2_with fail
          refine HC.out.mono ?_
          rintro e w2 ⟨rfl, m, rfl⟩
          go_wp2_with fail
          go_roundw
          case rel => exact ⟨i, j + 1, cur, by omega, by omega, rfl, by go_num, HO1.out, HN.out, HD2.out, HT1.out.then_keep ((Keep.refl wr).drewN m)⟩
          case measure => simp [intOf]; omega
        | false =>
          have HN : Hid ((cur.set i ⟨Ar, nr, cr, xr⟩).take (i + 1) = (rs.take (j + 1)).filter (fun r => !del r.xs)) := by
            show _ = _
            have h1 : (cur.set i ⟨Ar, nr, cr, xr⟩)[i]? = some ⟨Ar, nr, cr, xr⟩ := by rw [List.getElem?_set, if_pos rfl, if_pos (by omega)]
            rw [take_snoc_at h1, List.take_set_of_le (Nat.le_refl _), hsnoc, List.filter_append, hT1]; simp [hq]
          have HD2 : Hid ((cur.set i ⟨Ar, nr, cr, xr⟩).drop (j + 1) = rs.drop (j + 1)) := by
            show _ = _
            rw [List.drop_set_of_lt (by omega)]; exact hd1 cur hT2
          have HC := Lib.hid hs
          have HO1 := Lib.hid hO
          have HT1 := Lib.hid hT
          have hil : i < cur.length := by omega
          have hci : ∃ v, wr.cell? ⟨g, i, none⟩ = some v := ⟨_, by
            have := World.ownsRow.cells hO (g := g) rfl i (cur[i]).val (by rw [List.getElem?_map, List.getElem?_eq_getElem hil]; rfl)
            rwa [haa] at this⟩
          obtain ⟨vi, hci⟩ := hci
          have hzi : wr.frozen? ⟨g, i, none⟩ = false := World.ownsRow.frozenAt hO i
          clear hs hO hT hT1 hT2 hjr hre hjc hby hq hsnoc hd1 haa hil
          go_wp2_with fail
          refine HC.out.mono ?_
          rintro e w2 ⟨rfl, m, rfl⟩
          have hci2 : (wr.drewN m).cell? ⟨g, i, none⟩ = some vi := hci
          have hzi2 : (wr.drewN m).frozen? ⟨g, i, none⟩ = false := hzi
          have HO2 : Hid (OwnRows ((wr.drewN m).setCell ⟨g, i, none⟩ (.slice Ar nr cr)) B 23 (some ⟨g, 0, none⟩) n c (cur.set i ⟨Ar, nr, cr, xr⟩)) := (show OwnRows (wr.drewN m) _ _ _ _ _ _ from HO1.out).stored ⟨Ar, nr, cr, xr⟩
          have HT2 : Hid (Turned (fun b => b = g) w ((wr.drewN m).setCell ⟨g, i, none⟩ (.slice Ar nr cr))) := (HT1.out.then_keep ((Keep.refl wr).drewN m)).trans (Turned.set (F := fun b => b = g) _ ⟨g, i, none⟩ _ rfl) fun _ e => Or.inl e
          generalize wr.drewN m = wq at *
          go_wp2_with fail
          go_roundw
          case rel => exact ⟨i + 1, j + 1, _, by omega, by omega, by go_num, by go_num, HO2.out, HN.out, HD2.out, HT2.out⟩
          case measure => simp [intOf]; omega
      · obtain rfl : j = n := by omega
        have e0 : rs.take j = rs := List.take_of_length_le (by omega)
        rw [e0] at hT1
        have hdA : dropA (some ⟨g, 0, none⟩) c i = some ⟨g, 0 + i, none⟩ := dropA_some g 0 c i (by omega)
        have hsl := HD.out i wr (by omega)
        rw [hdA, Nat.zero_add] at hsl
        have haa : ∀ x, (⟨g, 0, none⟩ : Addr).add x = ⟨g, x, none⟩ := fun x => by unfold Addr.add; split <;> simp_all
        have hcl2 : ∀ ty, (Builtin.clear_ #[22] ty #[.slice (some ⟨g, i, none⟩) (j - i) (c - i)]).run Try.prog wr = .ok (.tuple #[]) (wr.setCells g i (List.replicate (j - i) (.slice none 0 0))) :=
          fun ty => Lib.run_clear_slice (P := Try.prog) wr 22 23 ty (.slice none 0 0) Try.underlying22 Try.zeroValue23 rfl rfl g i (j - i) (c - i) (by omega) (fun t ht => by
            have hil : i + t < cur.length := by omega
            have := World.ownsRow.cells hO (g := g) rfl (i + t) (cur[i + t]).val (by rw [List.getElem?_map, List.getElem?_eq_getElem hil]; rfl)
            rw [haa] at this
            rw [this]; rfl) (fun t ht => World.ownsRow.frozenAt hO (i + t))
        obtain ⟨rs', hO2, hT3, hT4⟩ := OwnRows.nils (i := i) (j - i) wr i cur (Nat.le_refl _) hO
        have HF := Lib.hid (hT3.trans hT1)
        have HO2 := Lib.hid hO2
        have HT2 := Lib.hid (hT.trans hT4 fun _ e => Or.inl e)
        have e3 : (0 : Int) ≤ (i : Int) := Int.natCast_nonneg _
        have e4 : (i : Int) ≤ (c : Int) := by omega
        have e5 : (i : Int) ≤ (j : Int) := by omega
        clear hO hT hT1 hT2 hT3 hT4 hO2 hdA haa
        generalize wr.setCells g i (List.replicate (j - i) (.slice none 0 0)) = w3 at *
        have hsl3 := run_slice_h (P := Try.prog) (w := w3) 22 (some ⟨g, 0, none⟩) j c Try.underlying22 .i64 (i : Int) (by omega) (by omega)
        go_wp2_with fail
        go_ret
        refine ⟨i, rfl, ?_, HT2.out.mono fun b _ e => by rw [e]; rfl⟩
        have := HO2.out.cut (k := i) (by omega)
        rwa [HF.out] at this
  · have hno : (rowsXs rs).findIdx del = (rowsXs rs).length := Nat.le_antisymm List.findIdx_le_length (by omega)
    have hq : idxI del (rowsXs rs) = -1 := by rw [idxI, if_neg hlt]
    rw [hq] at hidx
    have hall := List.findIdx_eq_length.1 hno
    have hfil : rs.filter (fun r => !del r.xs) = rs := List.filter_eq_self.2 fun r hx => by
      rw [hall r.xs (List.mem_map.2 ⟨r, hx, rfl⟩)]; rfl
    have HI := Lib.hid hidx
    have HF := Lib.hid hfil
    have HO := Lib.hid ho
    clear hidx ho hr hm hno hq hall hfil hstep s hlt
    go_enter Try.func53, Try.ntmps53
    go_wp2_with fail
    refine HI.out.mono ?_
    rintro e w1 ⟨rfl, k1⟩
    have K1 := Lib.hid k1
    clear k1 HI
    go_wp2_with fail
    go_ret
    exact ⟨n, rfl, by rw [HF.out]; exact HO.out.keep K1.out, Turned.of_keep K1.out⟩
end Go.Proofs.Ytofhdaeeiienfaa
/- The landed code of layer 8: what lies in both spans. -/
namespace Go.Proofs.Ytofhdaeeiienfaa
open Go.RowKit Lin
set_option linter.unusedVariables false
set_option linter.unusedSimpArgs false
/-- The first i of one list, the rest of another one. -/
def mixTo (T O : List (List Nat)) (i : Nat) : List (List Nat) := T.take i ++ O.drop i
theorem mixTo_zero (T O : List (List Nat)) : mixTo T O 0 = O := by simp [mixTo]
theorem mixTo_all {T O : List (List Nat)} {n : Nat} (h : T.length = n) (k : O.length = n) : mixTo T O n = T := by
  rw [mixTo, List.take_of_length_le (by omega), List.drop_of_length_le (by omega), List.append_nil]
theorem mixTo_get {T O : List (List Nat)} {i : Nat} (h : T.length = O.length) (hi : i < O.length) : (mixTo T O i).getD i [] = O.getD i [] := by
  have hl : (T.take i).length = i := by rw [List.length_take]; omega
  rw [List.getD_eq_getElem?_getD, mixTo, List.getElem?_append_right (by omega), hl, Nat.sub_self, List.getElem?_drop, Nat.add_zero, ← List.getD_eq_getElem?_getD]
theorem mixTo_set {T O : List (List Nat)} {i : Nat} (h : T.length = O.length) (hi : i < O.length) : (mixTo T O i).set i (T.getD i []) = mixTo T O (i + 1) := by
  have hl : (T.take i).length = i := by rw [List.length_take]; omega
  refine List.ext_getElem? fun j => ?_
  rw [List.getElem?_set]
  by_cases e : i = j
  · subst e
    rw [if_pos rfl, if_pos (by rw [mixTo, List.length_append, hl, List.length_drop]; omega), mixTo, List.getElem?_append_left (by rw [List.length_take]; omega), List.getElem?_take, if_pos (by omega), List.getD, List.getElem?_eq_getElem (by omega)]
    rfl
  · rw [if_neg e, mixTo, mixTo]
    by_cases hj : j < i
    · rw [List.getElem?_append_left (by omega), List.getElem?_append_left (by rw [List.length_take]; omega), List.getElem?_take, List.getElem?_take, if_pos hj, if_pos (by omega)]
    · rw [List.getElem?_append_right (by omega), List.getElem?_append_right (by rw [List.length_take]; omega), List.length_take, List.length_take, List.getElem?_drop, List.getElem?_drop]
      congr 1
      omega
theorem rowsXs_filter (p : List Nat → Bool) (rs : List RowV) : rowsXs (rs.filter fun r => p r.xs) = (rowsXs rs).filter p := by
  simp [rowsXs, List.filter_map, Function.comp_def]
theorem eg_meet : ∀ args w, (callFunc 54 args).run Try.prog w = .ok (.enter 54 args) w := enters_at Try.func54 rfl rfl
theorem OwnedRows.mat {w w' : World} {A : Option Addr} {n c : Nat} {M : List (List Nat)} {rs : List RowV} (h : OwnedRows w w' A n c M rs) : Mat w' ⟨A, n, c, M⟩ := Mat.of_owned h
section
variable {w : World} {A A' : Option Addr} {n n' c c' : Nat} {M N : List (List Nat)}
set_option maxRecDepth 100000 in
set_option maxHeartbeats 4000000 in
theorem meet_new (h : Mat w ⟨A, n, c, M⟩) (k : Mat w ⟨A', n', c', N⟩) (hn : n ≤ 400) (hn' : n' ≤ 400) (hc : sizeC (M ++ N) ≤ 400) :
    Calls Try.prog 23 #[.slice A n c, .slice A' n' c'] w (NewOwned w (meetV M N) (sizeE (M ++ N))) := by
  have hw := width_mat h k hn hn'
  by_cases hf : fits (M ++ N)
  · obtain ⟨o1, o2⟩ := both_ok h k hf
    have he : sizeE (M ++ N) = 0 := by rw [sizeE, if_pos hf]
    have hmv : meetV M N = meetN M N := by rw [meetV, if_pos hf]
    rw [hmv]
    rw [he] at hw ⊢
    obtain ⟨wd, hwd⟩ : ∃ wd, sizeC (M ++ N) = wd := ⟨_, rfl⟩
    have hz := zass_ok o1 o2
    have hzl : (zassN M N).length = n + n' := by rw [zass_len]; have e1 : M.length = n := h.len; have e2 : N.length = n' := k.len; omega
    have hmn : meetN M N = ((reduceN (zassN M N)).filter fun r => !decide (vLead r.length r < (wd : Int))).map (List.drop wd) := by rw [meetN, hwd]
    rw [hwd] at hw hc o1 o2 hz
    have hRed := (hz.red).1
    obtain ⟨Z, hZ⟩ : ∃ Z, zassN M N = Z := ⟨_, rfl⟩
    rw [hZ] at hmn hz hzl hRed
    obtain ⟨T, hT⟩ : ∃ T, meetN M N = T := ⟨_, rfl⟩
    rw [hT] at hmn ⊢
    have HW := Lib.hid hw
    have H := Lib.hid h
    have K := Lib.hid k
    have SM : Hid (Sz n wd M) := ⟨h.len, o1⟩
    have SN : Hid (Sz n' wd N) := ⟨k.len, o2⟩
    have SZZ : Hid (Sz (n + n') (wd + wd) Z) := ⟨hzl, hz⟩
    have HZ : Hid (sideN M M ++ sideN N (zeroN N) = Z) := hZ
    have HT := Lib.hid hmn
    have HRd := Lib.hid hRed
    clear hw h k o1 o2 he hmv hwd hz hzl hRed hZ hT hmn hf
    go_enter Try.func23, Try.ntmps23
    go_wp2_with fail
    refine HW.out.mono ?_
    rintro e w1 ⟨rfl, k1⟩
    have K1 := Lib.hid k1
    clear k1 HW
    obtain ⟨b6, hb6⟩ : ∃ b, w1.heap.size = b := ⟨_, rfl⟩
    have hh6 : Held (w1.alloc (.cells #[.int .i64 (wd : Int)] 3)) b6 (.int .i64 (wd : Int)) 3 := Held.new hb6 _ _
    have kw2 : Keep w1 (w1.alloc (.cells #[.int .i64 (wd : Int)] 3)) := (Keep.refl w1).obj _
    have H6 := Lib.hid hh6
    have KW2 := Lib.hid (K1.out.trans kw2)
    go_upto_region 4 with fail
    generalize w1.alloc (.cells #[.int .i64 (wd : Int)] 3) = w2 at *
    clear hh6 kw2 hb6
    go_wp2_with fail
    have m2 := H.out.keep KW2.out
    refine (beside_any n wd wd 2 2 _ ⟨A, n, c, M⟩ ⟨A, n, c, M⟩ _ (ListsAt.lit rfl _ 2 _ _ rfl rfl (fun x hx => by
      simp only [List.mem_cons, List.not_mem_nil, or_false, or_self] at hx
      subst hx
      exact m2)) SM.out SM.out (by omega) (by omega) (by omega)).mono ?_
    rintro e w3 ⟨A3, rs3, rfl, h3⟩
    have M3 := Lib.hid h3.mat
    have K3 := Lib.hid (KW2.out.trans (((Keep.refl w2).obj _).trans h3.2.2.2))
    have H63 := Lib.hid (H6.out.keep (((Keep.refl w2).obj _).trans h3.2.2.2))
    clear h3 m2
    go_wp2_with fail
    refine (noughts_any n' wd c' A' N w3 (K.out.keep K3.out) SN.out (by omega) (by omega)).mono ?_
    rintro e w4 ⟨A4, rs4, rfl, h4⟩
    have M4 := Lib.hid h4.mat
    have M34 := Lib.hid (M3.out.keep h4.2.2.2)
    have K4 := Lib.hid (K3.out.trans h4.2.2.2)
    have H64 := Lib.hid (H63.out.keep h4.2.2.2)
    clear h4
    go_wp2_with fail
    have m4 := K.out.keep K4.out
    refine (beside_any n' wd wd 2 2 _ ⟨A', n', c', N⟩ ⟨A4, n', n', zeroN N⟩ _ (ListsAt.lit rfl _ 2 _ _ rfl rfl (fun x hx => by
      simp only [List.mem_cons, List.not_mem_nil, or_false] at hx
      rcases hx with rfl | rfl
      · exact m4
      · exact M4.out)) SN.out ⟨by rw [zero_len]; exact SN.out.1, zero_ok SN.out.2⟩ (by omega) (by omega) (by omega)).mono ?_
    rintro e w5 ⟨A5, rs5, rfl, h5⟩
    have kk5 := ((Keep.refl w4).obj (.cells #[.slice A' n' c', .slice A4 n' n'] 22)).trans h5.2.2.2
    have M5 := Lib.hid h5.mat
    have M35 := Lib.hid (M34.out.keep kk5)
    have K5 := Lib.hid (K4.out.trans kk5)
    have H65 := Lib.hid (H64.out.keep kk5)
    clear h5 m4 kk5
    go_wp2_with fail
    refine (concatrows_any 2 2 _ [⟨A3, n, n, sideN M M⟩, ⟨A5, n', n', sideN N (zeroN N)⟩] _ (ListsAt.lit rfl _ 2 _ _ rfl rfl (fun x hx => by
      simp only [List.mem_cons, List.not_mem_nil, or_false] at hx
      rcases hx with rfl | rfl
      · exact M35.out
      · exact M5.out)) (by omega) (by simp [sizesL]; omega)).mono ?_
    rintro e w6 ⟨A6, n6, c6, rfl, rs6, hL6, hx6⟩
    have hm6 := hL6.mat
    have hx6 : rowsXs rs6 = Z := hx6.trans ((joinL_two _ _).trans HZ.out)
    rw [hx6] at hm6
    have kk6 := ((Keep.refl w5).obj (.cells #[.slice A3 n n, .slice A5 n' n'] 22)).trans hL6.keep
    have hn6 := hm6.cnt SZZ.out
    have M6 := Lib.hid hm6
    have K6 := Lib.hid (K5.out.trans kk6)
    have H66 := Lib.hid (H65.out.keep kk6)
    clear hL6 hx6 hm6 kk6
    have hr := reduce_mat M6.out (by omega) (Nat.le_trans SZZ.out.sizeC_le (by omega))
    obtain ⟨rt, e1, e2, e3⟩ := M6.out
    have e2 : rowsXs rt = Z := e2
    have hr := mreduce_any n6 c6 A6 _ rt w6 e1 (fun _ e => e) (by omega) (by rw [e2]; exact Nat.le_trans SZZ.out.sizeC_le (by omega))
    rw [e2, SZZ.out.sizeE] at hr
    have HRED := Lib.hid hr
    clear hr e1 e2 e3 hn6
    go_wp2_with fail
    refine HRED.out.mono ?_
    rintro e w7 ⟨A7, n7, c7, rfl, rs7, h7⟩
    have hk7 := h7.2.2.2
    have hs7 : Sz n7 (wd + wd) (rowsXs rs7) := ⟨by rw [rowsXs_len, h7.1.length], by rw [h7.2.2.1]; exact HRd.out.1⟩
    have hn7 : n7 ≤ wd + wd := by
      have := redL_length HRd.out
      rw [← h7.2.2.1, hs7.1] at this; exact this
    have H7 := Lib.hid h7
    have S7 := Lib.hid hs7
    have K7 := Lib.hid (K6.out.trans hk7)
    have H67 := Lib.hid (H66.out.keep hk7)
    have L6 := Lib.hid H66.out.lt
    clear h7 hk7 hs7 HRED
    go_wp2_with fail
    refine (delete_any 54 #[.pointer (some ⟨b6, 0, none⟩)] (fun x => decide (vLead x.length x < (wd : Int))) w6.heap.size n7 c7 (wd + wd) A7 rs7 w7 H7.out.1 H7.out.2.1 H7.out.2.2.2.size S7.out (by omega) eg_meet fun wr Ay cy xs hT hb => by
      have hc6 := hT.cell H67.out.cell (fun e => by have := H7.out.1.rowLe b6 e; have := L6.out; omega)
      have := meet1_any b6 (wd + wd) cy Ay xs wd wr hc6 hb (by omega)
      rw [← hb.length] at this ⊢
      exact this).mono ?_
    rintro e w8 ⟨n8, rfl, ho8, hT8⟩
    have hk8 : Keep w6 w8 := hT8.keep H7.out.2.2.2 fun b e => H7.out.1.rowLe b e
    have h68 : Held w8 b6 (.int .i64 (wd : Int)) 3 := H66.out.keep hk8
    obtain ⟨rs8, hrs8⟩ : ∃ rs, rs7.filter (fun r => !decide (vLead r.xs.length r.xs < (wd : Int))) = rs := ⟨_, rfl⟩
    have ho8 : OwnRows w8 w6.heap.size 23 A7 n8 c7 rs8 := by rw [← hrs8]; exact ho8
    have hr8 : ∀ r ∈ rs8, Own w8 w6.heap.size 5 r.A r.n r.c r.xs ∧ r.n = wd + wd := fun r hx => by
      rw [← hrs8] at hx
      have hx7 := (List.mem_filter.1 hx).1
      have h1 := H7.out.2.1 r hx7
      refine ⟨h1.turned hT8 fun b hb e => ?_, ?_⟩
      · rcases blocks_apart h1 H7.out.1 (by decide) with z | z
        · rw [z] at hb; cases hb
        · exact z (hb.trans e.symm)
      · rw [← h1.length]
        exact (S7.out.2 r.xs (List.mem_map.2 ⟨r, hx7, rfl⟩)).1
    have hT8' : (rowsXs rs8).map (List.drop wd) = T := by
      rw [← hrs8, HT.out, ← H7.out.2.2.1]
      exact congrArg (List.map (List.drop wd)) (rowsXs_filter (fun x => !decide (vLead x.length x < (wd : Int))) rs7)
    have hn8 : n8 ≤ n7 := by
      rw [← ho8.length, ← H7.out.1.length, ← hrs8]; exact List.length_filter_le _ _
    have hl8 : (rowsXs rs8).length = n8 := by rw [rowsXs_len, ho8.length]
    have hlT : T.length = n8 := by rw [← hT8', List.length_map, hl8]
    have c68 := h68.cell
    have H8 := Lib.hid h68
    have O8 := Lib.hid ho8
    have R8 := Lib.hid hr8
    have T8 := Lib.hid hT8'
    have L8 := Lib.hid (And.intro hl8 hlT)
    have K8 := Lib.hid hk8
    clear ho8 hT8 hk8 h68 hrs8 hr8 hT8' hl8 hlT
    go_wp2_with fail
    go_loopw [42] (fun iv wr => ∃ (i : Nat) (cur : List RowV), i ≤ n8 ∧ iv = .int .i64 i ∧ OwnRows wr w6.heap.size 23 A7 n8 c7 cur ∧ (∀ r ∈ cur, Own wr w6.heap.size 5 r.A r.n r.c r.xs) ∧ (∀ j r, i ≤ j → cur[j]? = some r → r.n = wd + wd) ∧ rowsXs cur = mixTo T (rowsXs rs8) i ∧ Keep w6 wr) (fun iv _ => n8 - (intOf iv).toNat)
    case atStart => exact ⟨0, rs8, by omega, rfl, O8.out, fun r hx => (R8.out r hx).1, fun j r _ hj => (R8.out r (List.mem_of_getElem? hj)).2, (mixTo_zero _ _).symm, K8.out⟩
    case round =>
      clear c68
      obtain ⟨i, cur, hi, rfl, hO, hR, hN, hX, hK⟩ := hrel
      by_cases hlt : i < n8
      · obtain ⟨g, rfl, hg1, hg2⟩ := hO.block (by omega)
        have hil : i < cur.length := by rw [hO.length]; exact hlt
        have hir := List.getElem?_eq_getElem hil
        obtain ⟨r, hre⟩ : ∃ r, cur[i] = r := ⟨_, rfl⟩
        rw [hre] at hir
        have hci := World.ownsRow.cells hO (g := g) rfl i r.val (by rw [List.getElem?_map, hir]; rfl)
        have haa : (⟨g, 0, none⟩ : Addr).add i = ⟨g, i, none⟩ := by unfold Addr.add; split <;> simp_all
        rw [haa, RowV.val] at hci
        have hzi : wr.frozen? ⟨g, i, none⟩ = false := World.ownsRow.frozenAt hO i
        have hro := hR r (List.mem_of_getElem? hir)
        have hrn := hN i r (Nat.le_refl _) hir
        obtain ⟨Ar, nr, cr, xr⟩ := r
        have hrn : nr = wd + wd := hrn
        subst hrn
        have hrx : xr = (rowsXs rs8).getD i [] := by
          have e1 : (rowsXs cur).getD i [] = xr := rowsXs_at hir
          rw [← e1, hX]
          exact mixTo_get (by rw [L8.out.1, L8.out.2]) (by rw [L8.out.1]; exact hlt)
        have hTi : T.getD i [] = xr.drop wd := by
          rw [hrx, ← T8.out, List.getD, List.getD, List.getElem?_map, List.getElem?_eq_getElem (by rw [L8.out.1]; exact hlt)]; rfl
        have hcut0 := (hro.lies.cutR wd).bytes (B := wr.heap.size) fun b hb => (hro.1.lt b hb).2
        have hcut : Bytes wr wr.heap.size (dropA Ar cr wd) (wd + wd - wd) (xr.drop wd) := hcut0
        rw [show wd + wd - wd = wd by omega] at hcut
        have hdrop := run_drop (P := Try.prog) (t := 23) (by kernel_rfl) info5 (wd + wd) cr wd Ar (by omega) wr
        have c6r := (H66.out.keep hK).cell
        have e1 : (0 : Int) ≤ (i : Int) := Int.natCast_nonneg _
        have e2 : (i : Int) < (n8 : Int) := by omega
        have HO := Lib.hid hO
        have HR := Lib.hid hR
        have HN := Lib.hid hN
        have HX := Lib.hid hX
        have HK := Lib.hid hK
        have HTI := Lib.hid hTi
        have HCUT := Lib.hid hcut
        have HG := Lib.hid (And.intro hg1 hg2)
        clear hO hR hN hX hK hre hir hro hrx hTi hcut hcut0 haa hg1 hg2 hil
        go_wp2_with fail
        refine (clone_any wr.heap.size wd (cr - wd) (dropA Ar cr wd) (xr.drop wd) wr HCUT.out (Nat.le_refl _) (by omega)).mono ?_
        rintro e w9 ⟨A9, n9, c9, rfl, o9, k9⟩
        have hci9 := (k9.cell (p := ⟨g, i, none⟩) HG.out.2).trans hci
        have ho9 := HO.out.keep k9
        have hzi9 : w9.frozen? ⟨g, i, none⟩ = false := World.ownsRow.frozenAt ho9 i
        have HO9 := Lib.hid (ho9.stored (i := i) ⟨A9, n9, c9, xr.drop wd⟩)
        have far : ∀ r' : RowV, Own w9 w6.heap.size 5 r'.A r'.n r'.c r'.xs → Own (w9.setCell ⟨g, i, none⟩ (.slice A9 n9 c9)) w6.heap.size 5 r'.A r'.n r'.c r'.xs := fun r' o' => o'.far (p := ⟨g, i, none⟩) (by
          rcases blocks_apart o' ho9 (by decide) with z | z
          · rw [z]; simp
          · exact fun e => z (e.trans rfl)) _
        have HR9 : Hid (∀ r ∈ cur.set i ⟨A9, n9, c9, xr.drop wd⟩, Own (w9.setCell ⟨g, i, none⟩ (.slice A9 n9 c9)) w6.heap.size 5 r.A r.n r.c r.xs) := fun r hr => by
          rcases List.mem_or_eq_of_mem_set hr with hr | rfl
          · exact far r ((HR.out r hr).keep k9)
          · exact far ⟨A9, n9, c9, xr.drop wd⟩ (o9.lower HK.out.size)
        have HN9 : Hid (∀ j r, i + 1 ≤ j → (cur.set i ⟨A9, n9, c9, xr.drop wd⟩)[j]? = some r → r.n = wd + wd) := fun j r hj hr => by
          rw [List.getElem?_set, if_neg (by omega)] at hr
          exact HN.out j r (by omega) hr
        have HK9 := Lib.hid ((HK.out.trans k9).setCell (a := ⟨g, i, none⟩) HG.out.1 (.slice A9 n9 c9))
        clear o9 k9 ho9 far
        go_wp2_with fail
        go_roundw
        case rel => exact ⟨i + 1, _, by omega, by go_num, HO9.out, HR9.out, HN9.out, by
          rw [rowsXs_set, HX.out, ← HTI.out]
          exact mixTo_set (by rw [L8.out.1, L8.out.2]) (by rw [L8.out.1]; exact hlt), HK9.out⟩
        case measure => simp [intOf]; omega
      · obtain rfl : i = n8 := by omega
        rw [mixTo_all L8.out.2 L8.out.1] at hX
        have HO := Lib.hid hO
        have HR := Lib.hid hR
        have HX := Lib.hid hX
        have HK := Lib.hid hK
        clear hO hR hN hX hK
        go_wp2_with fail
        go_ret2
        exact ⟨A7, i, c7, rfl, cur, HO.out.lower K6.out.size, fun r hr => (HR.out r hr).lower K6.out.size, HX.out, K6.out.trans HK.out⟩
  · have he : sizeE (M ++ N) = 21 := by rw [sizeE, if_neg hf]
    have hmv : meetV M N = [] := by rw [meetV, if_neg hf]
    rw [hmv]
    rw [he] at hw ⊢
    generalize sizeC (M ++ N) = wd at *
    have HW := Lib.hid hw
    clear hw h k hf he hmv
    go_enter Try.func23, Try.ntmps23
    go_wp2_with fail
    refine HW.out.mono ?_
    rintro e w1 ⟨rfl, k1⟩
    have K1 := Lib.hid k1
    clear k1 HW
    go_wp2_with fail
    go_ret2
    exact NewOwned.nothing (K1.out.trans ((Keep.refl w1).obj _)) 21
end
end Go.Proofs.Ytofhdaeeiienfaa
