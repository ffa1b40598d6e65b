/- Contracts of the document's own queue. -/
import Derived.Test.YtcafofffgmaepaaOwn
import Derived.Test.YtcafofffgmaepaaRowsApp
namespace Go.Proofs.Ytcafofffgmaepaa
open Go.RowKit
set_option linter.unusedVariables false
theorem infoRow : (Try.prog.info? 22).map (fun i => (i.zero, i.size, i.bytes)) = some (some (.slice none 0 0), 1, 24) := by kernel_rfl
/-- What a Push tells and leaves. -/
def pushErr (pl : Nat) (L : List (List Nat)) (xs : List Nat) : Int := if 70000 < xs.length then 3 else if pl ≤ L.length then 7 else 0
def pushL (pl : Nat) (L : List (List Nat)) (xs : List Nat) : List (List Nat) := if pushErr pl L xs = 0 then L ++ [xs] else L
theorem cellsTwo {w : World} {g : Nat} {u v : Value} {t : TypeId} (h : w.heap[g]? = some (.cells #[u, v] t (0, 0))) : w.cell? ⟨g, 0, none⟩ = some u ∧ w.cell? ⟨g, 1, none⟩ = some v ∧ w.frozen? ⟨g, 1, none⟩ = false ∧ w.frozen? ⟨g, 0, none⟩ = false := by
  simp [World.cell?, World.frozen?, h]
theorem set_one {w : World} {g : Nat} {u v x : Value} {t : TypeId} (h : w.heap[g]? = some (.cells #[u, v] t (0, 0))) : (w.setCell ⟨g, 1, none⟩ x).heap[g]? = some (.cells #[u, x] t (0, 0)) := by
  simp [World.setCell, Array.getElem?_modify, h]
theorem LiesIn.str {w : World} {F : Nat → Prop} {r : RowV} (h : LiesIn w F r) (hF : ∀ b, F b → b < w.heap.size) (k : Nat) : (convert 22 9 (.slice r.A r.n r.c)).run Try.prog (w.drewN k) = .ok (.string (strN r.xs)) (w.drewN k) :=
  run_str (w := w.drewN k) (h.bytes hF) Try.underlying22 Try.underlying5 Try.underlying9 r.c
theorem rowsXs_take {rs : List RowV} {k : Nat} {r : RowV} (h : rs[k]? = some r) : rowsXs (rs.take (k + 1)) = rowsXs (rs.take k) ++ [r.xs] := by
  rw [List.take_add_one, h]; simp [rowsXs]
theorem rowsXs_ne {rs rs' : List RowV} {k : Nat} {r r' : RowV} (h : rs[k]? = some r) (h' : rs'[k]? = some r') (hne : r.xs ≠ r'.xs) : rowsXs rs ≠ rowsXs rs' := fun e => by
  have := congrArg (fun l => l[k]?) e
  simp [rowsXs, h, h'] at this
  exact hne this
set_option maxRecDepth 100000 in
set_option maxHeartbeats 1000000 in
theorem rsame_any (n m ca cb : Nat) (A A' : Option Addr) (F F' : Nat → Prop) (rs rs' : List RowV) (w : World) (h : RowsIn w F A n rs) (h' : RowsIn w F' A' m rs') (hF : ∀ b, F b → b < w.heap.size) (hF' : ∀ b, F' b → b < w.heap.size) (hn : n ≤ 140737488355328) :
    Calls Try.prog 22 #[.slice A n ca, .slice A' m cb] w fun e w' => e = .returned (.bool (decide (rowsXs rs = rowsXs rs'))) ∧ ∃ k, w' = w.drewN k := by
  have H := Lib.hid h
  have H' := Lib.hid h'
  by_cases hnm : n = m
  · subst hnm
    clear h h'
    go_enter Try.func22, Try.ntmps22
    go_wp2_with fail
    go_loopw [5] (fun i wr => ∃ (j k : Nat), j ≤ n ∧ i = .int .i64 j ∧ wr = w.drewN k ∧ rowsXs (rs.take j) = rowsXs (rs'.take j)) (fun i _ => n - (intOf i).toNat)
    case atStart => exact ⟨0, 0, by omega, rfl, rfl, rfl⟩
    case round =>
      obtain ⟨j, k, hj, rfl, rfl, he⟩ := hrel
      have HE := Lib.hid he
      clear he
      by_cases hlt : j < n
      · obtain ⟨b, off, r, rfl, hb, hr, hc, hl⟩ := H.out.at_ hlt
        obtain ⟨b', off', r', rfl, hb', hr', hc', hl'⟩ := H'.out.at_ hlt
        have HR := Lib.hid hr
        have HR' := Lib.hid hr'
        have t1 := hl.str hF
        have t2 := hl'.str hF'
        have d1 : ∀ q, (w.drewN q).cell? ⟨b, off + j, none⟩ = some (.slice r.A r.n r.c) := fun _ => hc
        have d2 : ∀ q, (w.drewN q).cell? ⟨b', off' + j, none⟩ = some (.slice r'.A r'.n r'.c) := fun _ => hc'
        have e1 : (0 : Int) ≤ (j : Int) := Int.natCast_nonneg _
        have e2 : (j : Int) < (n : Int) := by omega
        have hall := hl.2.1
        have hall' := hl'.2.1
        by_cases hx : r.xs = r'.xs
        · have q0 := strN_eq hx
          have HX := Lib.hid hx
          clear hr hr' hl hl' hc hc' hall hall' hx
          go_wp2_with fail
          go_quiet (fail)
          go_wp2_with fail
          go_roundw
          case rel => exact ⟨j + 1, k + nq, by omega, by go_num, rfl, by rw [rowsXs_take HR.out, rowsXs_take HR'.out, HE.out, HX.out]⟩
          case measure => simp [intOf]; omega
        · have q0 := strN_ne hall hall' hx
          have HC : Hid (decide (rowsXs rs = rowsXs rs') = false) := by show _ = _; exact decide_eq_false (rowsXs_ne hr hr' hx)
          clear hr hr' hl hl' hc hc' hall hall' hx
          go_wp2_with fail
          go_quiet (fail)
          go_wp2_with fail
          go_ret
          exact ⟨by rw [HC.out]; rfl, _, World.drewN_drewN ..⟩
      · obtain rfl : j = n := by omega
        have HC : Hid (decide (rowsXs rs = rowsXs rs') = true) := by
          show _ = _
          have e := HE.out
          rw [List.take_of_length_le (by rw [H.out.1]; exact Nat.le_refl _), List.take_of_length_le (by rw [H'.out.1]; exact Nat.le_refl _)] at e
          exact decide_eq_true e
        go_wp2_with fail
        go_ret
        exact ⟨by rw [HC.out]; rfl, _, rfl⟩
  · have HC : Hid (decide (rowsXs rs = rowsXs rs') = false) := by
      show _ = _
      exact decide_eq_false fun e => hnm (by rw [← h.1, ← h'.1]; have := congrArg List.length e; simpa [rowsXs] using this)
    have b1 : ((n : Int) != (m : Int)) = true := by rw [bne_iff_ne]; omega
    clear h h' hnm
    go_enter Try.func22, Try.ntmps22
    go_wp2_with fail
    go_ret
    exact ⟨by rw [HC.out]; rfl, 0, rfl⟩
end Go.Proofs.Ytcafofffgmaepaa
