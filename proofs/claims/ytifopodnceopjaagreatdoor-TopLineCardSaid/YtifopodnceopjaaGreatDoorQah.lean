/- The landed relay: Take, Rank, Rows, Solve, Send. -/
import Derived.Test.YtifopodnceopjaaGreatDoorQag
import Derived.Test.YtifopodnceopjaaGreatDoorQac
import Derived.Test.YtifopodnceopjaaGreatDoorQaa
import Derived.Defers
import Derived.StillTailTactics
import Derived.Outline
import Derived.RegionTactic
import Derived.ChangeAlike
namespace Go.Proofs.YtifopodnceopjaaGreatDoor
open Go.RowKit Lin
set_option linter.unusedVariables false
set_option linter.unusedSimpArgs false
theorem takec_any (q q5 : Nat) (v1 v2 : Value) (w : World) {Q : Value → Value → World → Prop} (y0 : w.cell? ⟨q5, 0, none⟩ = some v1) (y1 : w.cell? ⟨q5, 1, none⟩ = some v2)
    (hi : Calls Tryz.prog 21 #[.pointer (some ⟨q, 0, none⟩), .agg #[v1, v2]] w fun e w' => ∃ a c, e = .returned (.tuple #[a, c]) ∧ Q a c w') :
    Calls Tryz.prog 20 #[.pointer (some ⟨q, 0, none⟩), .pointer (some ⟨q5, 0, none⟩)] w fun e w' => ∃ a c, e = .returned (.tuple #[a, c]) ∧ Q a c w' := by
  have HI := Lib.hid hi
  clear hi
  go_enter Tryz.func20, Tryz.ntmps20
  go_wp2_with fail
  refine HI.out.mono ?_
  rintro e w1 ⟨a, c, rfl, hQ⟩
  have HQ := Lib.hid hQ
  clear hQ
  go_wp2_with fail
  go_ret2
  exact ⟨a, c, rfl, HQ.out⟩
theorem rankc_any (q : Nat) (w : World) {Q : Value → World → Prop} (hi : Calls Tryz.prog 24 #[.pointer (some ⟨q, 0, none⟩)] w fun e w' => ∃ a, e = .returned a ∧ Q a w') :
    Calls Tryz.prog 29 #[.pointer (some ⟨q, 0, none⟩)] w fun e w' => ∃ a c, e = .returned (.tuple #[a, c]) ∧ (Q a w' ∧ c = .int .i64 0) := by
  have HI := Lib.hid hi
  clear hi
  go_enter Tryz.func29, Tryz.ntmps29
  go_wp2_with fail
  refine HI.out.mono ?_
  rintro e w1 ⟨a, rfl, hQ⟩
  have HQ := Lib.hid hQ
  clear hQ
  go_wp2_with fail
  go_ret2
  exact ⟨a, _, rfl, HQ.out, rfl⟩
theorem rowsc_any (q : Nat) (w : World) {Q : Value → World → Prop} (hi : Calls Tryz.prog 43 #[.pointer (some ⟨q, 0, none⟩)] w fun e w' => ∃ a, e = .returned a ∧ Q a w') :
    Calls Tryz.prog 42 #[.pointer (some ⟨q, 0, none⟩)] w fun e w' => ∃ a c, e = .returned (.tuple #[a, c]) ∧ (Q a w' ∧ c = .int .i64 0) := by
  have HI := Lib.hid hi
  clear hi
  go_enter Tryz.func42, Tryz.ntmps42
  go_wp2_with fail
  refine HI.out.mono ?_
  rintro e w1 ⟨a, rfl, hQ⟩
  have HQ := Lib.hid hQ
  clear hQ
  go_wp2_with fail
  go_ret2
  exact ⟨a, _, rfl, HQ.out, rfl⟩
theorem solvec_any (q : Nat) (w : World) {Q : Value → Value → World → Prop} (hi : Calls Tryz.prog 51 #[.pointer (some ⟨q, 0, none⟩)] w fun e w' => ∃ a c, e = .returned (.tuple #[a, c]) ∧ Q a c w') :
    Calls Tryz.prog 50 #[.pointer (some ⟨q, 0, none⟩)] w fun e w' => ∃ a c, e = .returned (.tuple #[a, c]) ∧ Q a c w' := by
  have HI := Lib.hid hi
  clear hi
  go_enter Tryz.func50, Tryz.ntmps50
  go_wp2_with fail
  refine HI.out.mono ?_
  rintro e w1 ⟨a, c, rfl, hQ⟩
  have HQ := Lib.hid hQ
  clear hQ
  go_wp2_with fail
  go_ret2
  exact ⟨a, c, rfl, HQ.out⟩
section
variable {w : World} {F : Nat → Prop} {p g s k b wb : Nat} {L : Nat → List (List Nat)} {S : List Slot}
theorem rl_rank (h : RelR w F p g s k b L) (n : Nat) (hn : n < 18446744073709551616) :
    Calls Tryz.prog 9 #[.pointer (some ⟨p, 0, none⟩), .int .u64 (n : Int)] w fun e w' => e = .returned (.int .i64 ((L n).length : Int)) ∧ w' = w := by
  obtain ⟨wb, S, h⟩ := h
  have HA : Hid (Calls Tryz.prog 28 #[.pointer (some ⟨p, 0, none⟩), .int .u64 (n : Int), .func (.func 29) #[] #[]] w fun e w' => ∃ a c, e = .returned (.tuple #[a, c]) ∧ (a = .int .i64 ((L n).length : Int) ∧ w' = w)) := by
    show Calls _ _ _ _ _
    cases hin : winIn b k n with
    | true =>
      obtain ⟨x, q, hx, hq, hB, hb⟩ := h.at_ hin
      refine (ask_int_in h n hn hin hx hq (Q := fun a c w' => a = .int .i64 ((L n).length : Int) ∧ w' = w) ?_)
      exact (rankc_any q w (Q := fun a w' => a = .int .i64 ((L n).length : Int) ∧ w' = w) ((brank_eq hb).mono fun e w' hh => ⟨_, hh.1, rfl, hh.2.symm⟩)).mono fun e w' hh => by
        obtain ⟨a, c, e1, e2, e3⟩ := hh
        exact ⟨a, c, e1, e2⟩
    | false => exact (ask_int_out h n hn hin).mono fun e w' hh => ⟨_, _, hh.1, by rw [h.out n hin]; rfl, hh.2⟩
  clear h hn
  go_enter Tryz.func9, Tryz.ntmps9
  go_wp2_with fail
  refine HA.out.mono ?_
  rintro e w1 ⟨a, c, rfl, rfl, rfl⟩
  go_wp2_with fail
  go_ret
  exact ⟨rfl, rfl⟩
theorem OwnedSt.none_ (w : World) (g s : Nat) : OwnedSt w w none 0 0 g s [] [] := ⟨OwnSt.none_ _ _, fun p hp => by simp at hp, rfl, Keep.refl w⟩
theorem rl_rows (h : RelR w F p g s k b L) (n : Nat) (hn : n < 18446744073709551616) :
    Calls Tryz.prog 13 #[.pointer (some ⟨p, 0, none⟩), .int .u64 (n : Int)] w fun e w' => ∃ A r c ps, e = .returned (.slice A r c) ∧ OwnedSt w w' A r c g s (L n) ps := by
  obtain ⟨wb, S, h⟩ := h
  have HA : Hid (Calls Tryz.prog 41 #[.pointer (some ⟨p, 0, none⟩), .int .u64 (n : Int), .func (.func 42) #[] #[]] w fun e w' => ∃ a c, e = .returned (.tuple #[a, c]) ∧ ∃ A r d ps, a = .slice A r d ∧ OwnedSt w w' A r d g s (L n) ps) := by
    show Calls _ _ _ _ _
    cases hin : winIn b k n with
    | true =>
      obtain ⟨x, q, hx, hq, hB, hb⟩ := h.at_ hin
      refine (ask_rows_in h n hn hin hx hq (Q := fun a c w' => ∃ A r d ps, a = .slice A r d ∧ OwnedSt w w' A r d g s (L n) ps) ?_)
      exact (rowsc_any q w (Q := fun a w' => ∃ A r d ps, a = .slice A r d ∧ OwnedSt w w' A r d g s (L n) ps) ((brows_any hb).mono fun e w' hh => by
        obtain ⟨A, r, d, ps, e1, e2⟩ := hh
        exact ⟨_, e1, A, r, d, ps, rfl, e2⟩)).mono fun e w' hh => by
        obtain ⟨a, c, e1, e2, e3⟩ := hh
        exact ⟨a, c, e1, e2⟩
    | false => exact (ask_rows_out h n hn hin).mono fun e w' hh => ⟨_, _, hh.1, none, 0, 0, [], rfl, by rw [h.out n hin, hh.2]; exact OwnedSt.none_ w g s⟩
  clear h hn
  go_enter Tryz.func13, Tryz.ntmps13
  go_wp2_with fail
  refine HA.out.mono ?_
  rintro e w1 ⟨a, c, rfl, A, r, d, ps, rfl, hO⟩
  have HO := Lib.hid hO
  clear hO
  go_wp2_with fail
  go_ret
  exact ⟨A, r, d, ps, rfl, HO.out⟩
/-- Symbols told: each a slice of its own, one behind the other. -/
def Solved (w w' : World) (A : Option Addr) (g c : Nat) (B : List (List Nat)) (rs : List RowV) : Prop :=
  OwnRows w' w.heap.size 22 A g c rs ∧ (∀ r ∈ rs, Own w' w.heap.size 5 r.A r.n r.c r.xs) ∧ rowsXs rs = B.map (List.drop g) ∧ Keep w w' ∧ (∀ (i j : Nat) (r r' : RowV), i < j → rs[i]? = some r → rs[j]? = some r' → ∀ x y, (Value.slice r.A r.n r.c).ownBlock = some x → (Value.slice r'.A r'.n r'.c).ownBlock = some y → x < y)
theorem rl_solve_of (v : Value) (n : Nat) (w : World) {Q : Value → Value → World → Prop} (hi : Calls Tryz.prog 49 #[v, .int .u64 (n : Int), .func (.func 50) #[] #[]] w fun e w' => ∃ a c, e = .returned (.tuple #[a, c]) ∧ Q a c w') :
    Calls Tryz.prog 15 #[v, .int .u64 (n : Int)] w fun e w' => ∃ a c, e = .returned (.tuple #[a, c]) ∧ Q a c w' := by
  have HI := Lib.hid hi
  clear hi
  go_enter Tryz.func15, Tryz.ntmps15
  go_wp2_with fail
  refine HI.out.mono ?_
  rintro e w1 ⟨a, c, rfl, hQ⟩
  have HQ := Lib.hid hQ
  clear hQ
  go_wp2_with fail
  go_ret2
  exact ⟨a, c, rfl, HQ.out⟩
theorem rl_solve_in (h : RelR w F p g s k b L) (n : Nat) (hn : n < 18446744073709551616) (hin : winIn b k n = true) (hg : (L n).length = g) :
    Calls Tryz.prog 15 #[.pointer (some ⟨p, 0, none⟩), .int .u64 (n : Int)] w fun e w' => ∃ A c rs, e = .returned (.tuple #[.slice A g c, .int .i64 0]) ∧ Solved w w' A g c (L n) rs := by
  obtain ⟨wb, S, h⟩ := h
  obtain ⟨x, q, hx, hq, hB, hb⟩ := h.at_ hin
  refine (rl_solve_of _ n w (Q := fun a c w' => ∃ A d rs, a = .slice A g d ∧ c = .int .i64 0 ∧ Solved w w' A g d (L n) rs) (ask_syms_in h n hn hin hx hq (solvec_any q w ((bsolve_ap hb hg).mono fun e w' hh => ?_)))).mono fun e w' hh => ?_
  · obtain ⟨A, c, rs, e1, e2⟩ := hh
    exact ⟨_, _, e1, A, c, rs, rfl, rfl, e2⟩
  · obtain ⟨a, c, e1, A, d, rs, rfl, rfl, e2⟩ := hh
    exact ⟨A, d, rs, e1, e2⟩
theorem rl_solve_low (h : RelR w F p g s k b L) (n : Nat) (hn : n < 18446744073709551616) (hin : winIn b k n = true) (hg : (L n).length ≠ g) :
    Calls Tryz.prog 15 #[.pointer (some ⟨p, 0, none⟩), .int .u64 (n : Int)] w fun e w' => e = .returned (.tuple #[.slice none 0 0, .int .i64 24]) ∧ Keep w w' := by
  obtain ⟨wb, S, h⟩ := h
  obtain ⟨x, q, hx, hq, hB, hb⟩ := h.at_ hin
  refine (rl_solve_of _ n w (Q := fun a c w' => a = .slice none 0 0 ∧ c = .int .i64 24 ∧ Keep w w') (ask_syms_in h n hn hin hx hq (solvec_any q w ((bsolve_low hb hg).mono fun e w' hh => ⟨_, _, hh.1, rfl, rfl, hh.2⟩)))).mono fun e w' hh => ?_
  obtain ⟨a, c, e1, rfl, rfl, e2⟩ := hh
  exact ⟨e1, e2⟩
theorem rl_take_of (v v1 v2 : Value) (n : Nat) (w : World) {Q : Value → Value → World → Prop}
    (hi : Calls Tryz.prog 19 #[v, .int .u64 (n : Int), .func (.func 20) #[] #[.pointer (some ⟨w.heap.size, 0, none⟩)]] (w.alloc (.cells #[v1, v2] 38)) fun e w' => ∃ a c, e = .returned (.tuple #[a, c]) ∧ Q a c w') (h1 : ∃ A n c, v1 = .slice A n c) (h2 : ∃ A n c, v2 = .slice A n c) :
    Calls Tryz.prog 7 #[v, .int .u64 (n : Int), .agg #[v1, v2]] w fun e w' => ∃ a c, e = .returned (.tuple #[a, c]) ∧ Q a c w' := by
  have HI := Lib.hid hi
  obtain ⟨A1, n1, c1, rfl⟩ := h1
  obtain ⟨A2, n2, c2, rfl⟩ := h2
  clear hi
  go_enter Tryz.func7, Tryz.ntmps7
  go_wp2_with fail
  refine HI.out.mono ?_
  rintro e w1 ⟨a, c, rfl, hQ⟩
  have HQ := Lib.hid hQ
  clear hQ
  go_wp2_with fail
  go_ret2
  exact ⟨a, c, rfl, HQ.out⟩
theorem row_block (w : World) (v1 v2 : Value) : (w.alloc (.cells #[v1, v2] 38)).cell? ⟨w.heap.size, 0, none⟩ = some v1 ∧ (w.alloc (.cells #[v1, v2] 38)).cell? ⟨w.heap.size, 1, none⟩ = some v2 ∧ Keep w (w.alloc (.cells #[v1, v2] 38)) :=
  ⟨cell_of_row _ _ _ _ _ _ (heap_alloc_new w _), cell_of_row _ _ _ _ _ _ (heap_alloc_new w _), (Keep.refl w).alloc _ _⟩
/-- A row that fits, of a generation in the window. -/
theorem rl_take_in (h : RelR w F p g s k b L) (n : Nat) (hn : n < 18446744073709551616) (hin : winIn b k n = true) (B1 B2 c1 c2 : Nat) (A1 A2 : Option Addr) (xs ys : List Nat) (hc1 : g ≤ c1) (hc2 : s ≤ c2) (h1 : Bytes w B1 A1 g xs) (h2 : Bytes w B2 A2 s ys) (hB1 : B1 ≤ w.heap.size) (hB2 : B2 ≤ w.heap.size) :
    Calls Tryz.prog 7 #[.pointer (some ⟨p, 0, none⟩), .int .u64 (n : Int), .agg #[.slice A1 g c1, .slice A2 s c2]] w fun e w' => e = .returned (.tuple #[.bool (!decide (inB g s (L n) (xs ++ ys))), .int .i64 0]) ∧ ∃ F', RelR w' F' p g s k b (upd L n (insB g s (L n) (xs ++ ys))) ∧ (∀ j, F' j → F j ∨ w.heap.size ≤ j) ∧ Turned F w w' := by
  obtain ⟨wb, S, h⟩ := h
  obtain ⟨r0, r1, rk⟩ := row_block w (.slice A1 g c1) (.slice A2 s c2)
  have h' := h.keep rk
  obtain ⟨x, q, hx, hq, hB, hb⟩ := h'.at_ hin
  refine (rl_take_of _ _ _ n w (Q := fun a c w' => a = .bool (!decide (inB g s (L n) (xs ++ ys))) ∧ c = .int .i64 0 ∧ ∃ F', RelR w' F' p g s k b (upd L n (insB g s (L n) (xs ++ ys))) ∧ (∀ j, F' j → F j ∨ w.heap.size ≤ j) ∧ Turned F w w') (ask_bool_in h' n _ hn hin hx hq (takec_any q _ _ _ _ r0 r1 ((binsert_in hb B1 B2 c1 c2 A1 A2 xs ys hc1 hc2 (h1.keep hB1 rk) (h2.keep hB2 rk) (Nat.le_trans hB1 rk.size) (Nat.le_trans hB2 rk.size)).mono fun e w' hh => ?_))) ⟨_, _, _, rfl⟩ ⟨_, _, _, rfl⟩).mono fun e w' hh => ?_
  · obtain ⟨e1, F', e2, e3, e4⟩ := hh
    have hm := List.mem_of_getElem? hx
    refine ⟨_, _, e1, rfl, rfl, _, (h'.put hin hx hq e2 e3 e4).r, fun j hj => ?_, (Turned.of_keep (F := F) rk).trans e4 fun j hj => Or.inl (h'.fs x hm j hj)⟩
    rcases hj with e | e
    · exact Or.inl e
    · exact Or.inr (Nat.le_trans rk.size e.1)
  · obtain ⟨a, c, e1, rfl, rfl, e2⟩ := hh
    exact ⟨e1, e2⟩
end
end Go.Proofs.YtifopodnceopjaaGreatDoor
/- The landed relay: Send. -/
namespace Go.Proofs.YtifopodnceopjaaGreatDoor
open Go.RowKit Lin
set_option linter.unusedVariables false
set_option linter.unusedSimpArgs false
section
variable {w : World} {F : Nat → Prop} {g s q : Nat} {B : List (List Nat)}
set_option maxRecDepth 100000 in
theorem sendc_none (q6 q7 : Nat) (h : BasR w F q g s B) (h0 : B.length = 0) :
    Calls Tryz.prog 23 #[.pointer (some ⟨q, 0, none⟩), .pointer (some ⟨q6, 0, none⟩), .pointer (some ⟨q7, 0, none⟩)] w (NewRow w [] [] 6) := by
  have hk0 : Keep w (w.alloc (.cells #[.slice none 0 0, .slice none 0 0] 38)) := (Keep.refl w).alloc _ _
  have hq := heap_alloc_new w (.cells #[.slice none 0 0, .slice none 0 0] 38)
  have hsz : (w.alloc (.cells #[.slice none 0 0, .slice none 0 0] 38)).heap.size = w.heap.size + 1 := by simp
  obtain ⟨w2, hw2⟩ : ∃ w2, w.alloc (.cells #[.slice none 0 0, .slice none 0 0] 38) = w2 := ⟨_, rfl⟩
  rw [hw2] at hk0 hq hsz
  have HSZ := Lib.hid hsz
  have HK0 := Lib.hid hk0
  have HQ := Lib.hid hq
  have HR := Lib.hid (brank_eq (h.keep hk0))
  rw [h0] at HR
  replace HR : Hid (Calls Tryz.prog 24 #[.pointer (some ⟨q, 0, none⟩)] w2 fun e w' => e = .returned (.int .i64 0) ∧ w2 = w') := HR
  clear h h0 hk0 hq hsz
  go_enter Tryz.func23, Tryz.ntmps23
  go_wp2_with fail
  refine HR.out.mono ?_
  rintro e w3 ⟨rfl, rfl⟩
  have hb0 := HQ.out
  have y0 : w2.cell? ⟨w.heap.size, 0, none⟩ = some (.slice none 0 0) := cell_of_row _ _ _ _ _ _ hb0
  have y1 : w2.cell? ⟨w.heap.size, 1, none⟩ = some (.slice none 0 0) := cell_of_row _ _ _ _ _ _ hb0
  have z0 : w2.frozen? ⟨w.heap.size, 0, none⟩ = false := by simp [World.frozen?, hb0]
  have z1 : w2.frozen? ⟨w.heap.size, 1, none⟩ = false := by simp [World.frozen?, hb0]
  clear hb0
  have hb := bset (i := 1) (bset (i := 0) HQ.out (.slice none 0 0)) (.slice none 0 0)
  have hk : Keep w ((w2.setCell ⟨w.heap.size, 0, none⟩ (.slice none 0 0)).setCell ⟨w.heap.size, 1, none⟩ (.slice none 0 0)) := (Keep.setCell HK0.out (a := ⟨w.heap.size, 0, none⟩) (Nat.le_refl _) _).setCell (a := ⟨w.heap.size, 1, none⟩) (Nat.le_refl _) _
  have HK := Lib.hid hk
  have HB := Lib.hid hb
  clear hk hb
  go_wp2_with fail
  refine bodyPost_ret (v := .tuple #[.agg #[.slice none 0 0, .slice none 0 0], .int .i64 6]) ?_ rfl ⟨none, 0, 0, none, 0, 0, rfl, Own.none_ _ _ _, Own.none_ _ _ _, HK.out⟩
  exact results_cell_tmp (p := 4) (u := 5) (ty := 38) rfl _ _ w.heap.size 38 _ (0, 0) _ rfl HB.out Tryz.underlying38 rfl infoRowSize
set_option maxRecDepth 100000 in
theorem sendc_any (q6 q7 sent m cb B1 : Nat) (Ab : Option Addr) (xs : List Nat) (h : BasR w F q g s B) (h0 : B.length ≠ 0) (c6 : w.cell? ⟨q6, 0, none⟩ = some (.int .u64 (sent : Int))) (c7 : w.cell? ⟨q7, 0, none⟩ = some (.slice Ab m cb)) (hs : sent < 18446744073709551616) (hb : Bytes w B1 Ab m xs) (hB : B1 ≤ w.heap.size) :
    Calls Tryz.prog 23 #[.pointer (some ⟨q, 0, none⟩), .pointer (some ⟨q6, 0, none⟩), .pointer (some ⟨q7, 0, none⟩)] w (NewRow w ((vComb (g + s) B (coefN B.length (sent % B.length) xs) B.length).take g) ((vComb (g + s) B (coefN B.length (sent % B.length) xs) B.length).drop g) 0) := by
  have hk0 : Keep w (w.alloc (.cells #[.slice none 0 0, .slice none 0 0] 38)) := (Keep.refl w).alloc _ _
  have hq := heap_alloc_new w (.cells #[.slice none 0 0, .slice none 0 0] 38)
  have hsz : (w.alloc (.cells #[.slice none 0 0, .slice none 0 0] 38)).heap.size = w.heap.size + 1 := by simp
  obtain ⟨w2, hw2⟩ : ∃ w2, w.alloc (.cells #[.slice none 0 0, .slice none 0 0] 38) = w2 := ⟨_, rfl⟩
  rw [hw2] at hk0 hq hsz
  have HSZ := Lib.hid hsz
  have HK0 := Lib.hid hk0
  have HQ := Lib.hid hq
  obtain ⟨r, hr⟩ : ∃ r, B.length = r := ⟨_, rfl⟩
  have hrg : r ≤ 255 := by have := h.fine.1.length_le; have := h.fine.2.2.1; omega
  have h6 : w2.cell? ⟨q6, 0, none⟩ = some (.int .u64 (sent : Int)) := (Turned.of_keep (F := fun _ => False) hk0).cell c6 fun e => e
  have h7 : w2.cell? ⟨q7, 0, none⟩ = some (.slice Ab m cb) := (Turned.of_keep (F := fun _ => False) hk0).cell c7 fun e => e
  have h' := h.keep hk0
  rw [hr]
  have HR := Lib.hid (brank_eq h')
  rw [hr] at HR h0
  obtain ⟨t, ht⟩ : ∃ t, sent % r = t := ⟨_, rfl⟩
  have htr : t < r := by rw [← ht]; exact Nat.mod_lt _ (by omega)
  have HT := Lib.hid (turn_any sent r hs (by omega) hrg w2)
  rw [ht] at HT ⊢
  have HC := Lib.hid (coefs_any B1 r t m cb Ab xs w2 (hb.keep hB hk0) (Nat.le_trans hB hk0.size) (by omega) hrg htr)
  have H' := Lib.hid h'
  have HRR := Lib.hid hr
  have b0 : decide ((r : Int) = 0) = false := decide_eq_false (by omega)
  have b1 : decide (r = 0) = false := decide_eq_false h0
  have b2 : ((r : Int) == 0) = false := by rw [beq_eq_false_iff_ne]; omega
  have hc : coefN r t xs = coefN r t xs := rfl
  clear h h' c6 c7 hb hr hrg htr ht hk0 hq hsz hs hB hc h0
  go_enter Tryz.func23, Tryz.ntmps23
  go_wp2_with fail
  refine HR.out.mono ?_
  rintro e w3 ⟨rfl, rfl⟩
  go_wp2_with fail
  refine HT.out.mono ?_
  rintro e w3 ⟨rfl, rfl⟩
  go_wp2_with fail
  refine HC.out.mono ?_
  rintro e w4 ⟨A4, n4, c4, rfl, o4, k4⟩
  have HO4 := Lib.hid o4
  have HK4 := Lib.hid k4
  clear o4 k4
  go_wp2_with fail
  refine (bcombine_in (H'.out.keep HK4.out) w4.heap.size c4 n4 A4 _ (HO4.out.bytes) (Nat.le_refl _) (by rw [HRR.out]; have := HO4.out.length; rw [coefN_len] at this; omega)).mono ?_
  rw [HRR.out]
  rintro e w3 ⟨A2, c2, A3, c3, rfl, o1, o2, k1⟩
  have hb0 := ((HK4.out.trans k1).block _ (by have := HSZ.out; omega)).trans HQ.out
  have hk3 := HK0.out.trans (HK4.out.trans k1)
  have hs4 := HK4.out.size
  have y0 : w3.cell? ⟨w.heap.size, 0, none⟩ = some (.slice none 0 0) := cell_of_row _ _ _ _ _ _ hb0
  have y1 : w3.cell? ⟨w.heap.size, 1, none⟩ = some (.slice none 0 0) := cell_of_row _ _ _ _ _ _ hb0
  have z0 : w3.frozen? ⟨w.heap.size, 0, none⟩ = false := by simp [World.frozen?, hb0]
  have z1 : w3.frozen? ⟨w.heap.size, 1, none⟩ = false := by simp [World.frozen?, hb0]
  have O1 := Lib.hid ((((o1.lower (base' := w.heap.size + 1) (by have := HSZ.out; omega)).far (fun e => by have := (o1.1.lt _ e).1; have := HSZ.out; simp at *; omega) (.slice A2 g c2) (p := ⟨w.heap.size, 0, none⟩)).far (fun e => by have := (o1.1.lt _ e).1; have := HSZ.out; simp at *; omega) (.slice A3 s c3) (p := ⟨w.heap.size, 1, none⟩)).lower (base' := w.heap.size) (by omega))
  have O2 := Lib.hid ((((o2.lower (base' := w.heap.size + 1) (by have := HSZ.out; omega)).far (fun e => by have := (o2.1.lt _ e).1; have := HSZ.out; simp at *; omega) (.slice A2 g c2) (p := ⟨w.heap.size, 0, none⟩)).far (fun e => by have := (o2.1.lt _ e).1; have := HSZ.out; simp at *; omega) (.slice A3 s c3) (p := ⟨w.heap.size, 1, none⟩)).lower (base' := w.heap.size) (by omega))
  have hb := bset (i := 1) (bset (i := 0) hb0 (.slice A2 g c2)) (.slice A3 s c3)
  have hk : Keep w ((w3.setCell ⟨w.heap.size, 0, none⟩ (.slice A2 g c2)).setCell ⟨w.heap.size, 1, none⟩ (.slice A3 s c3)) := (Keep.setCell hk3 (a := ⟨w.heap.size, 0, none⟩) (Nat.le_refl _) _).setCell (a := ⟨w.heap.size, 1, none⟩) (Nat.le_refl _) _
  have HK := Lib.hid hk
  have HB := Lib.hid hb
  clear hk hb
  clear o1 o2 k1 hb0 hk3 hs4
  go_wp2_with fail
  refine bodyPost_ret (v := .tuple #[.agg #[.slice A2 g c2, .slice A3 s c3], .int .i64 0]) ?_ rfl ⟨A2, g, c2, A3, s, c3, rfl, O1.out, O2.out, HK.out⟩
  exact results_cell_tmp (p := 4) (u := 5) (ty := 38) rfl _ _ w.heap.size 38 _ (0, 0) _ rfl HB.out Tryz.underlying38 rfl infoRowSize
end
theorem three_boxes (w : World) (sent m cb : Nat) (Ab : Option Addr) {w3 : World} (hw : (((w.alloc (.cells #[.int .u64 (sent : Int)] 36)).alloc (.cells #[.slice Ab m cb] 22)).alloc (.cells #[.slice none 0 0, .slice none 0 0] 38)) = w3) :
    w3.heap[w.heap.size + 2]? = some (.cells #[.slice none 0 0, .slice none 0 0] 38 (0, 0)) ∧ w3.cell? ⟨w.heap.size, 0, none⟩ = some (.int .u64 (sent : Int)) ∧ w3.cell? ⟨w.heap.size + 1, 0, none⟩ = some (.slice Ab m cb) ∧ w3.heap.size = w.heap.size + 3 ∧ Keep w w3 := by
  subst hw
  obtain ⟨e1, e2, e3, e4⟩ := three_allocs w #[.int .u64 (sent : Int)] #[.slice Ab m cb] #[.slice none 0 0, .slice none 0 0] 36 22 38
  exact ⟨e3, cell_of_row _ _ _ _ _ _ e1, cell_of_row _ _ _ _ _ _ e2, by simp, (((Keep.refl w).alloc _ _).alloc _ _).alloc _ _⟩
theorem rl_send_of (v : Value) (n sent m cb : Nat) (Ab : Option Addr) (w w3 : World) (cs ps : List Nat) (er : Int) (hw : (((w.alloc (.cells #[.int .u64 (sent : Int)] 36)).alloc (.cells #[.slice Ab m cb] 22)).alloc (.cells #[.slice none 0 0, .slice none 0 0] 38)) = w3)
    (hi : Calls Tryz.prog 22 #[v, .int .u64 (n : Int), .func (.func 23) #[] #[.pointer (some ⟨w.heap.size, 0, none⟩), .pointer (some ⟨w.heap.size + 1, 0, none⟩)]] w3 (NewRow w3 cs ps er)) :
    Calls Tryz.prog 8 #[v, .int .u64 (n : Int), .int .u64 (sent : Int), .slice Ab m cb] w (NewRow w cs ps er) := by
  obtain ⟨B0, -, -, B3, B4⟩ := three_boxes w sent m cb Ab hw
  have HI := Lib.hid hi
  have HB0 := Lib.hid B0
  have HSZ := Lib.hid B3
  have HK0 := Lib.hid B4
  clear B0 B3 B4 hi
  go_enter Tryz.func8, Tryz.ntmps8
  go_wp2_with fail
  refine HI.out.mono ?_
  rintro e w5 ⟨A2, n2, c2, A3, n3, c3, rfl, o1, o2, k1⟩
  have hb0 := (k1.block _ (by have := HSZ.out; omega)).trans HB0.out
  have hk3 := HK0.out.trans k1
  have y0 : w5.cell? ⟨w.heap.size + 2, 0, none⟩ = some (.slice none 0 0) := cell_of_row _ _ _ _ _ _ hb0
  have y1 : w5.cell? ⟨w.heap.size + 2, 1, none⟩ = some (.slice none 0 0) := cell_of_row _ _ _ _ _ _ hb0
  have z0 : w5.frozen? ⟨w.heap.size + 2, 0, none⟩ = false := by simp [World.frozen?, hb0]
  have z1 : w5.frozen? ⟨w.heap.size + 2, 1, none⟩ = false := by simp [World.frozen?, hb0]
  have O1 := Lib.hid ((((o1.lower (base' := w.heap.size + 3) (by have := HSZ.out; omega)).far (fun e => by have := (o1.1.lt _ e).1; have := HSZ.out; simp at *; omega) (.slice A2 n2 c2) (p := ⟨w.heap.size + 2, 0, none⟩)).far (fun e => by have := (o1.1.lt _ e).1; have := HSZ.out; simp at *; omega) (.slice A3 n3 c3) (p := ⟨w.heap.size + 2, 1, none⟩)).lower (base' := w.heap.size) (by omega))
  have O2 := Lib.hid ((((o2.lower (base' := w.heap.size + 3) (by have := HSZ.out; omega)).far (fun e => by have := (o2.1.lt _ e).1; have := HSZ.out; simp at *; omega) (.slice A2 n2 c2) (p := ⟨w.heap.size + 2, 0, none⟩)).far (fun e => by have := (o2.1.lt _ e).1; have := HSZ.out; simp at *; omega) (.slice A3 n3 c3) (p := ⟨w.heap.size + 2, 1, none⟩)).lower (base' := w.heap.size) (by omega))
  have hb := bset (i := 1) (bset (i := 0) hb0 (.slice A2 n2 c2)) (.slice A3 n3 c3)
  have hk : Keep w ((w5.setCell ⟨w.heap.size + 2, 0, none⟩ (.slice A2 n2 c2)).setCell ⟨w.heap.size + 2, 1, none⟩ (.slice A3 n3 c3)) := (Keep.setCell hk3 (a := ⟨w.heap.size + 2, 0, none⟩) (Nat.le_add_right _ _) _).setCell (a := ⟨w.heap.size + 2, 1, none⟩) (Nat.le_add_right _ _) _
  have HK := Lib.hid hk
  have HB := Lib.hid hb
  clear hk hb
  clear o1 o2 k1 hb0 hk3
  go_wp2_with fail
  refine bodyPost_ret (v := .tuple #[.agg #[.slice A2 n2 c2, .slice A3 n3 c3], .int .i64 er]) ?_ rfl ⟨A2, n2, c2, A3, n3, c3, rfl, O1.out, O2.out, HK.out⟩
  exact results_cell_tmp (p := 8) (u := 9) (ty := 38) rfl _ _ (w.heap.size + 2) 38 _ (0, 0) _ rfl HB.out Tryz.underlying38 rfl infoRowSize
section
variable {w : World} {F : Nat → Prop} {p g s k b wb B1 cb m : Nat} {L : Nat → List (List Nat)} {Ab : Option Addr} {xs : List Nat}
/-- What a draw makes of the rows of a generation. -/
def sendN (g s : Nat) (B : List (List Nat)) (sent : Nat) (xs : List Nat) : List Nat := vComb (g + s) B (coefN B.length (sent % B.length) xs) B.length
theorem rl_send_in (h : RelR w F p g s k b L) (n sent : Nat) (hn : n < 18446744073709551616) (hs : sent < 18446744073709551616) (hin : winIn b k n = true) (h0 : (L n).length ≠ 0) (hb : Bytes w B1 Ab m xs) (hB : B1 ≤ w.heap.size) :
    Calls Tryz.prog 8 #[.pointer (some ⟨p, 0, none⟩), .int .u64 (n : Int), .int .u64 (sent : Int), .slice Ab m cb] w (NewRow w ((sendN g s (L n) sent xs).take g) ((sendN g s (L n) sent xs).drop g) 0) := by
  obtain ⟨wb, S, h⟩ := h
  obtain ⟨w3, hw⟩ : ∃ w3, (((w.alloc (.cells #[.int .u64 (sent : Int)] 36)).alloc (.cells #[.slice Ab m cb] 22)).alloc (.cells #[.slice none 0 0, .slice none 0 0] 38)) = w3 := ⟨_, rfl⟩
  obtain ⟨-, y6, y7, -, rk⟩ := three_boxes w sent m cb Ab hw
  have h' := h.keep rk
  obtain ⟨x, q, hx, hq, hB', hb'⟩ := h'.at_ hin
  exact rl_send_of _ n sent m cb Ab w w3 _ _ 0 hw (ask_row_in h' n _ _ hn hin hx hq _ _ 0 fun w1 k1 => sendc_any _ _ sent m cb B1 Ab xs (hb'.keep k1) h0 ((Turned.of_keep (F := fun _ => False) k1).cell y6 fun e => e) ((Turned.of_keep (F := fun _ => False) k1).cell y7 fun e => e) hs (hb.keep hB (rk.trans k1)) (Nat.le_trans hB (rk.trans k1).size))
theorem rl_send_none (h : RelR w F p g s k b L) (n sent : Nat) (hn : n < 18446744073709551616) (hin : winIn b k n = true) (h0 : (L n).length = 0) :
    Calls Tryz.prog 8 #[.pointer (some ⟨p, 0, none⟩), .int .u64 (n : Int), .int .u64 (sent : Int), .slice Ab m cb] w (NewRow w [] [] 6) := by
  obtain ⟨wb, S, h⟩ := h
  obtain ⟨w3, hw⟩ : ∃ w3, (((w.alloc (.cells #[.int .u64 (sent : Int)] 36)).alloc (.cells #[.slice Ab m cb] 22)).alloc (.cells #[.slice none 0 0, .slice none 0 0] 38)) = w3 := ⟨_, rfl⟩
  obtain ⟨-, y6, y7, -, rk⟩ := three_boxes w sent m cb Ab hw
  have h' := h.keep rk
  obtain ⟨x, q, hx, hq, hB', hb'⟩ := h'.at_ hin
  exact rl_send_of _ n sent m cb Ab w w3 _ _ 6 hw (ask_row_in h' n _ _ hn hin hx hq _ _ 6 fun w1 k1 => sendc_none _ _ (hb'.keep k1) h0)
end
end Go.Proofs.YtifopodnceopjaaGreatDoor
/- Plain facts of layer 14's statements: what is sent, by a draw and by turns. -/
namespace Go.Proofs.YtifopodnceopjaaGreatDoor
open Lin
set_option linter.unusedVariables false
theorem comb_one (m k i : Nat) (R : List (List Nat)) (hR : AllB (R.getD i [])) (hl : (R.getD i []).length = m) (hi : i < k) : vComb m R (vUnit k i) k = R.getD i [] := by
  have e : vComb m R (vUnit k i) k = tab m fun j => (R.getD i []).getD j 0 := tab_congr fun j hj => by
    rw [vCombAt, sumX_one _ k i hi fun i' hi' hne => by rw [vUnit, tab_getD, if_pos hi', if_neg hne, mul_zero_right]]
    rw [vUnit, tab_getD, if_pos hi, if_pos rfl, mul_one_right _ (hR.getD j)]
  rw [e, ← hl, tab_self]
theorem coefN_all {n k : Nat} {xs : List Nat} (h : AllB xs) : AllB (coefN n k xs) := by
  unfold coefN
  split
  · exact vUnit_all n k
  · exact fillN_all h n
section
variable {g s : Nat} {M B : List (List Nat)}
/-- What is sent lies in the span of the rows. -/
theorem send_in (hB : Bas g s B) {t : Nat} {xs : List Nat} (hx : AllB xs) : (sendN g s B t xs).length = g + s ∧ AllB (sendN g s B t xs) ∧ InSpan B.length (fn B) (vec (sendN g s B t xs)) :=
  ⟨tab_length _ _, vComb_all hB.sz (coefN_all hx), _, vec_vComb hB.sz (coefN_all hx)⟩
/-- A true row is told by its coefficients: what is sent goes with the symbols. -/
theorem send_sym (h : Sz g s M) (hB : Bas g s B) (hw : Within B.length (fn B) g (symR g M)) {t : Nat} {xs : List Nat} (hx : AllB xs) : InSpan g (symR g M) (vec (sendN g s B t xs)) ∧ sendN g s B t xs = rowV g s M ((sendN g s B t xs).take g) := by
  obtain ⟨a, b, c⟩ := send_in hB (t := t) hx
  exact ⟨c.trans laws hw, symR_row h a b (c.trans laws hw)⟩
end
end Go.Proofs.YtifopodnceopjaaGreatDoor
/- The landed relay: a place emptied, Clear, New. -/
namespace Go.Proofs.YtifopodnceopjaaGreatDoor
open Go.RowKit Lin
set_option linter.unusedVariables false
set_option linter.unusedSimpArgs false
section
variable {w : World} {p wb g s : Nat} {S : List Slot}
set_option maxRecDepth 100000 in
theorem rempty_any (h : RelC w p wb g s S) (hwb : wb < w.heap.size) (i : Nat) (hi : i < 16) :
    Calls Tryz.prog 54 #[.pointer (some ⟨p, 0, none⟩), .int .i64 (i : Int)] w fun e w' => e = .returned (.tuple #[]) ∧ ∃ q F', RelC w' p wb g s (S.set i ⟨some q, F', []⟩) ∧ (∀ j, F' j → w.heap.size ≤ j) ∧ Turned (fun j => j = p) w w' := by
  have x1 := h.c1
  have x2 := h.c2
  obtain ⟨x, hx⟩ : ∃ x, S[i]? = some x := ⟨_, List.getElem?_eq_getElem (by rw [h.len]; exact hi)⟩
  have H := Lib.hid h
  have HWB := Lib.hid hwb
  clear h hwb
  go_enter Tryz.func54, Tryz.ntmps54
  refine wp_region_noPanic ?_
  refine wp_region_held_drew (S := fun wz => wz.cell? ⟨p, 1, none⟩ = some (.int .i64 (g : Int)) ∧ wz.cell? ⟨p, 2, none⟩ = some (.int .i64 (s : Int))) (by kernel_rfl) ⟨x1, x2⟩ (fun hHeld => ?_)
  refine wpAnyH_take (i := 0) (v := ?_) rfl (by kernel_rfl) (by kernel_rfl) (by kernel_rfl) (fun _ _ _ h => h) (Or.inl ⟨by rfl, ?_⟩) hHeld ?_
  rotate_left
  · intro wq hSw
    go_simp
    all_goals with_reducible rfl
  try simp only [Act.put, List.getElem_toArray, List.getElem_cons_succ, List.getElem_cons_zero, List.setIfInBounds_toArray, List.set_cons_zero, List.set_cons_succ]
  refine wpAnyH_take (i := 1) (v := ?_) rfl (by kernel_rfl) (by kernel_rfl) (by kernel_rfl) (fun _ _ _ h => h) (Or.inl ⟨by rfl, ?_⟩) hHeld ?_
  rotate_left
  · intro wq hSw
    go_simp
    all_goals with_reducible rfl
  try simp only [Act.put, List.getElem_toArray, List.getElem_cons_succ, List.getElem_cons_zero, List.setIfInBounds_toArray, List.set_cons_zero, List.set_cons_succ]
  refine wpAnyH_take (i := 2) (v := ?_) rfl (by kernel_rfl) (by kernel_rfl) (by kernel_rfl) (fun _ _ _ h => h) (Or.inl ⟨by rfl, ?_⟩) hHeld ?_
  rotate_left
  · intro wq hSw
    go_simp
    all_goals with_reducible rfl
  try simp only [Act.put, List.getElem_toArray, List.getElem_cons_succ, List.getElem_cons_zero, List.setIfInBounds_toArray, List.set_cons_zero, List.set_cons_succ]
  refine wpAnyH_take (i := 3) (v := ?_) rfl (by kernel_rfl) (by kernel_rfl) (by kernel_rfl) (fun _ _ _ h => h) (Or.inl ⟨by rfl, ?_⟩) hHeld ?_
  rotate_left
  · intro wq hSw
    go_simp
    all_goals with_reducible rfl
  try simp only [Act.put, List.getElem_toArray, List.getElem_cons_succ, List.getElem_cons_zero, List.setIfInBounds_toArray, List.set_cons_zero, List.set_cons_succ]
  refine wpAnyH_take (i := 4) (v := ?_) rfl (by kernel_rfl) (by kernel_rfl) (by kernel_rfl) (fun _ _ _ h => h) (Or.inl ⟨by rfl, ?_⟩) hHeld ?_
  rotate_left
  · intro wq hSw
    go_simp
    all_goals with_reducible rfl
  try simp only [Act.put, List.getElem_toArray, List.getElem_cons_succ, List.getElem_cons_zero, List.setIfInBounds_toArray, List.set_cons_zero, List.set_cons_succ]
  refine wpAnyH_take (i := 5) (v := ?_) rfl (by kernel_rfl) (by kernel_rfl) (by kernel_rfl) (fun _ _ _ h => h) (Or.inl ⟨by rfl, ?_⟩) hHeld ?_
  rotate_left
  · intro wq hSw
    have q0 := hSw.1
    go_simp
    all_goals with_reducible rfl
  try simp only [Act.put, List.getElem_toArray, List.getElem_cons_succ, List.getElem_cons_zero, List.setIfInBounds_toArray, List.set_cons_zero, List.set_cons_succ]
  refine wpAnyH_take (i := 6) (v := ?_) rfl (by kernel_rfl) (by kernel_rfl) (by kernel_rfl) (fun _ _ _ h => h) (Or.inl ⟨by rfl, ?_⟩) hHeld ?_
  rotate_left
  · intro wq hSw
    go_simp
    all_goals with_reducible rfl
  try simp only [Act.put, List.getElem_toArray, List.getElem_cons_succ, List.getElem_cons_zero, List.setIfInBounds_toArray, List.set_cons_zero, List.set_cons_succ]
  refine wpAnyH_take (i := 7) (v := ?_) rfl (by kernel_rfl) (by kernel_rfl) (by kernel_rfl) (fun _ _ _ h => h) (Or.inl ⟨by rfl, ?_⟩) hHeld ?_
  rotate_left
  · intro wq hSw
    go_simp
    all_goals with_reducible rfl
  try simp only [Act.put, List.getElem_toArray, List.getElem_cons_succ, List.getElem_cons_zero, List.setIfInBounds_toArray, List.set_cons_zero, List.set_cons_succ]
  refine wpAnyH_take (i := 8) (v := ?_) rfl (by kernel_rfl) (by kernel_rfl) (by kernel_rfl) (fun _ _ _ h => h) (Or.inl ⟨by rfl, ?_⟩) hHeld ?_
  rotate_left
  · intro wq hSw
    go_simp
    all_goals with_reducible rfl
  try simp only [Act.put, List.getElem_toArray, List.getElem_cons_succ, List.getElem_cons_zero, List.setIfInBounds_toArray, List.set_cons_zero, List.set_cons_succ]
  refine wpAnyH_take (i := 9) (v := ?_) rfl (by kernel_rfl) (by kernel_rfl) (by kernel_rfl) (fun _ _ _ h => h) (Or.inl ⟨by rfl, ?_⟩) hHeld ?_
  rotate_left
  · intro wq hSw
    have q0 := hSw.2
    go_simp
    all_goals with_reducible rfl
  try simp only [Act.put, List.getElem_toArray, List.getElem_cons_succ, List.getElem_cons_zero, List.setIfInBounds_toArray, List.set_cons_zero, List.set_cons_succ]
  refine wpAnyH_take (i := 14) (v := ?_) rfl (by kernel_rfl) (by kernel_rfl) (by kernel_rfl) (fun _ _ _ h => h) (Or.inl ⟨by rfl, ?_⟩) hHeld ?_
  rotate_left
  · intro wq hSw
    go_simp
    all_goals with_reducible rfl
  try simp only [Act.put, List.getElem_toArray, List.getElem_cons_succ, List.getElem_cons_zero, List.setIfInBounds_toArray, List.set_cons_zero, List.set_cons_succ]
  refine wpAnyH_take (i := 15) (v := ?_) rfl (by kernel_rfl) (by kernel_rfl) (by kernel_rfl) (fun _ _ _ h => h) (Or.inl ⟨by rfl, ?_⟩) hHeld ?_
  rotate_left
  · intro wq hSw
    go_simp
    all_goals with_reducible rfl
  try simp only [Act.put, List.getElem_toArray, List.getElem_cons_succ, List.getElem_cons_zero, List.setIfInBounds_toArray, List.set_cons_zero, List.set_cons_succ]
  refine wpAnyH_ready (rs := [10]) (by kernel_rfl) (by simp) ?_
  refine AllReadyH.cons rfl (fun K hK => ?_) AllReadyH.nil
  go_simp
  refine (bnew_in g s H.out.g1 H.out.g2 H.out.s1 H.out.s2 _).mono ?_
  rintro e w1 ⟨q, F', rfl, hb, hf, hk⟩
  have hk1 : Keep w w1 := (Keep.drew (Keep.refl w)).trans hk
  have hf1 : ∀ j, F' j → w.heap.size ≤ j := hf
  have HB := Lib.hid hb
  have HK := Lib.hid hk1
  have HF := Lib.hid hf1
  have z1 : w1.cell? ⟨p, 1, none⟩ = some (.int .i64 (g : Int)) := (H.out.keep hk1).c1
  have z2 : w1.cell? ⟨p, 2, none⟩ = some (.int .i64 (s : Int)) := (H.out.keep hk1).c2
  clear hb hf hk hk1 hf1
  refine hK.out _ _ ⟨z1, z2⟩ (fun hHeld => ?_)
  clear hK K
  try simp only [Act.put, List.getElem_toArray, List.getElem_cons_succ, List.getElem_cons_zero, List.setIfInBounds_toArray, List.set_cons_zero, List.set_cons_succ]
  refine wpAnyH_take (i := 11) (v := ?_) rfl (by kernel_rfl) (by kernel_rfl) (by kernel_rfl) (fun _ _ _ h => h) (Or.inl ⟨by rfl, ?_⟩) hHeld ?_
  rotate_left
  · intro wq hSw
    go_simp
    all_goals with_reducible rfl
  try simp only [Act.put, List.getElem_toArray, List.getElem_cons_succ, List.getElem_cons_zero, List.setIfInBounds_toArray, List.set_cons_zero, List.set_cons_succ]
  refine wpAnyH_take (i := 12) (v := ?_) rfl (by kernel_rfl) (by kernel_rfl) (by kernel_rfl) (fun _ _ _ h => h) (Or.inl ⟨by rfl, ?_⟩) hHeld ?_
  rotate_left
  · intro wq hSw
    go_simp
    all_goals with_reducible rfl
  try simp only [Act.put, List.getElem_toArray, List.getElem_cons_succ, List.getElem_cons_zero, List.setIfInBounds_toArray, List.set_cons_zero, List.set_cons_succ]
  refine wpAnyH_take (i := 13) (v := ?_) rfl (by kernel_rfl) (by kernel_rfl) (by kernel_rfl) (fun _ _ _ h => h) (Or.inl ⟨by rfl, ?_⟩) hHeld ?_
  rotate_left
  · intro wq hSw
    go_simp
    all_goals with_reducible rfl
  try simp only [Act.put, List.getElem_toArray, List.getElem_cons_succ, List.getElem_cons_zero, List.setIfInBounds_toArray, List.set_cons_zero, List.set_cons_succ]
  refine wpAnyH_take (i := 16) (v := ?_) rfl (by kernel_rfl) (by kernel_rfl) (by kernel_rfl) (fun _ _ _ h => h) (Or.inl ⟨by rfl, ?_⟩) hHeld ?_
  rotate_left
  · intro wq hSw
    have q0 := (show (i : Int) < 16 by omega)
    go_simp
    all_goals with_reducible rfl
  try simp only [Act.put, List.getElem_toArray, List.getElem_cons_succ, List.getElem_cons_zero, List.setIfInBounds_toArray, List.set_cons_zero, List.set_cons_succ]
  have hc := (H.out.keep HK.out).cs hx
  have hfr := (H.out.keep HK.out).free (3 + i)
  refine wpAnyH_ready (rs := [17]) (by kernel_rfl) (by simp) ?_
  refine AllReadyH.cons rfl (fun K hK => ?_) AllReadyH.nil
  go_simp
  have hset := H.out.set (x' := ⟨some q, F', []⟩) hi HK.out (Slot.ok_of HB.out) HF.out HWB.out
  have hT : Turned (fun j => j = p) w (w1.setCell ⟨p, 3 + i, none⟩ (Slot.val ⟨some q, F', []⟩)) := (Turned.of_keep HK.out).trans (Turned.set (F := fun j => j = p) w1 ⟨p, 3 + i, none⟩ _ rfl) fun j e => Or.inl e
  have HS := Lib.hid hset
  have HT := Lib.hid hT
  have z1' : (w1.setCell ⟨p, 3 + i, none⟩ (.pointer (some ⟨q, 0, none⟩))).cell? ⟨p, 1, none⟩ = some (.int .i64 (g : Int)) := hset.c1
  have z2' : (w1.setCell ⟨p, 3 + i, none⟩ (.pointer (some ⟨q, 0, none⟩))).cell? ⟨p, 2, none⟩ = some (.int .i64 (s : Int)) := hset.c2
  clear hset hT
  refine hK.out _ _ ⟨z1', z2'⟩ (fun hHeld => ?_)
  clear hK K
  refine wpAnyH_done (by kernel_rfl) ?_ _
  refine NoPanic.normal ?_
  clear hHeld
  go_wp2_with fail
  go_end0
  exact ⟨rfl, q, F', HS.out, HF.out, HT.out⟩

end
/-- The first i places are emptied. -/
def Cleared (w wr : World) (p wb g s : Nat) (S S' : List Slot) (i : Nat) : Prop :=
  RelC wr p wb g s S' ∧ (∀ j x, S'[j]? = some x → (j < i → (∃ q, x.p = some q) ∧ x.B = [] ∧ ∀ b, x.F b → w.heap.size ≤ b) ∧ (i ≤ j → S[j]? = some x)) ∧ Turned (fun j => j = p) w wr
section
variable {w : World} {p wb g s k b : Nat} {S : List Slot}
theorem Cleared.start (h : RelC w p wb g s S) : Cleared w w p wb g s S S 0 := ⟨h, fun j x hx => ⟨fun e => by omega, fun _ => hx⟩, Turned.refl _ _⟩
theorem Cleared.step {w1 w2 : World} {S1 : List Slot} {i q : Nat} {F' : Nat → Prop} (h : Cleared w w1 p wb g s S S1 i) (r : RelC w2 p wb g s (S1.set i ⟨some q, F', []⟩)) (hf : ∀ j, F' j → w1.heap.size ≤ j) (t : Turned (fun j => j = p) w1 w2) : Cleared w w2 p wb g s S (S1.set i ⟨some q, F', []⟩) (i + 1) := by
  refine ⟨r, fun j x hx => ?_, h.2.2.trans t fun j e => Or.inl e⟩
  rcases set_get hx with ⟨rfl, rfl⟩ | ⟨hj, hx2⟩
  · exact ⟨fun _ => ⟨⟨q, rfl⟩, rfl, fun b hb => Nat.le_trans h.2.2.size (hf b hb)⟩, fun e => by omega⟩
  · exact ⟨fun e => (h.2.1 j x hx2).1 (by omega), fun e => (h.2.1 j x hx2).2 (by omega)⟩
set_option maxRecDepth 100000 in
theorem rclear_c (h : RelC w p wb g s S) (hw : WinR w wb k b) :
    Calls Tryz.prog 18 #[.pointer (some ⟨p, 0, none⟩)] w fun e w' => e = .returned (.tuple #[]) ∧ ∃ S', Cleared w w' p wb g s S S' k := by
  have HM := Lib.hid (rmade_any h.c0)
  have c0 := h.c0
  have HW := Lib.hid (width_any hw)
  have hk := hw.high
  have HH := Lib.hid h
  have HWI := Lib.hid hw
  clear h hw
  go_enter Tryz.func18, Tryz.ntmps18
  go_wp2_with fail
  refine HM.out.mono ?_
  rintro e w1 ⟨rfl, rfl⟩
  go_wp2_with fail
  refine HW.out.mono ?_
  rintro e w1 ⟨rfl, rfl⟩
  go_wp2_with fail
  have HST := Lib.hid (Cleared.start HH.out)
  clear HM HW c0
  go_loopw [11] (fun i wr => ∃ (m : Nat) (S' : List Slot), m ≤ k ∧ i = .int .i64 (m : Int) ∧ Cleared w1 wr p wb g s S S' m) (fun i _ => k - (intOf i).toNat)
  case atStart => exact ⟨0, _, by omega, rfl, HST.out⟩
  case round =>
    obtain ⟨m, S', hm, rfl, hC⟩ := hrel
    have HC := Lib.hid hC
    clear hC HST
    by_cases hlt : m < k
    · have e2 : (m : Int) < (k : Int) := by omega
      go_wp2_with fail
      refine (rempty_any HC.out.1 (Nat.lt_of_lt_of_le HWI.out.lt HC.out.2.2.size) m (by omega)).mono ?_
      rintro e w2 ⟨rfl, q, F', h1, h2, h3⟩
      have HN := Lib.hid (HC.out.step h1 h2 h3)
      clear h1 h2 h3
      go_wp2_with fail
      go_roundw
      case rel => exact ⟨m + 1, _, by omega, by go_num, HN.out⟩
      case measure => simp [intOf]; omega
    · obtain rfl : k = m := by omega
      go_wp2_with fail
      go_end0
      exact ⟨rfl, S', HC.out⟩
end
end Go.Proofs.YtifopodnceopjaaGreatDoor
/- The landed relay: New. -/
namespace Go.Proofs.YtifopodnceopjaaGreatDoor
open Go.RowKit Lin
set_option linter.unusedVariables false
set_option linter.unusedSimpArgs false
section
variable {w : World} {F : Nat → Prop} {p g s k b wb : Nat} {S : List Slot}
theorem RelA.nothing (c : RelC w p wb g s S) (win : WinR w wb k b) (h : ∀ j x, S[j]? = some x → (j < k → (∃ q, x.p = some q) ∧ x.B = []) ∧ (k ≤ j → x.p = none)) (fp : F p) (fw : F wb) (fs : ∀ x ∈ S, ∀ q, x.F q → F q) (lt : ∀ q, F q → q < w.heap.size) : RelA w F p g s k b (fun _ => []) wb S :=
  ⟨c, win, fun i x hx => ⟨fun e => by
    rcases Nat.lt_or_ge i k with hi | hi
    · obtain ⟨q, hq⟩ := ((h i x hx).1 hi).1
      rw [hq] at e; cases e
    · exact hi, fun e => (h i x hx).2 e⟩, fp, fw, fs, lt, fun n hn x hx => ((h _ x hx).1 (Nat.mod_lt _ (by have := win.low; omega))).2, fun _ _ => rfl, fun i x hi hx _ => ((h i x hx).1 hi).2⟩
def slots0 : List Slot := List.replicate 16 Slot.none_
theorem slots0_get {i : Nat} {x : Slot} (h : slots0[i]? = some x) : x = Slot.none_ := by
  have := List.mem_of_getElem? h
  exact (List.mem_replicate.1 this).2
theorem RelC.fresh (hb : w.heap[p]? = some (.cells (Value.pointer (some ⟨wb, 0, none⟩) :: Value.int .i64 (g : Int) :: Value.int .i64 (s : Int) :: slots0.map Slot.val).toArray 71 (0, 0))) (hne : p ≠ wb) (h1 : 1 ≤ g) (h2 : g ≤ 255) (h3 : 1 ≤ s) (h4 : s ≤ 65535) : RelC w p wb g s slots0 :=
  ⟨hb, rfl, fun x hx => by obtain rfl := (List.mem_replicate.1 hx).2; exact Slot.none_ok _ _ _, fun i j x y _ hx _ b hb => by rw [slots0_get hx] at hb; exact hb.elim, fun x hx b hb => by obtain rfl := (List.mem_replicate.1 hx).2; exact hb.elim, hne, h1, h2, h3, h4⟩
end
section
variable {g s k : Nat}
set_option maxRecDepth 100000 in
theorem relnew_in (h1 : 1 ≤ g) (h2 : g ≤ 255) (h3 : 1 ≤ s) (h4 : s ≤ 65535) (h5 : 1 ≤ k) (h6 : k ≤ 16) (w : World) :
    Calls Tryz.prog 5 #[.int .i64 (g : Int), .int .i64 (s : Int), .int .i64 (k : Int)] w fun e w' => ∃ p F, e = .returned (.tuple #[.pointer (some ⟨p, 0, none⟩), .int .i64 0]) ∧ RelR w' F p g s k 0 (fun _ => []) ∧ (∀ q, F q → w.heap.size ≤ q) ∧ Keep w w' := by
  have HH := Lib.hid (And.intro h1 (And.intro h2 (And.intro h3 (And.intro h4 (And.intro h5 h6)))))
  clear h1 h2 h3 h4 h5 h6
  go_enter Tryz.func5, Tryz.ntmps5
  go_wp2_with fail
  refine (new_in k HH.out.2.2.2.2.1 HH.out.2.2.2.2.2 w).mono ?_
  rintro e w1 ⟨rfl, hW, k1⟩
  have HW := Lib.hid hW
  have HK1 := Lib.hid k1
  clear hW k1
  go_wp2_with fail
  refine (bnew_in g s HH.out.1 HH.out.2.1 HH.out.2.2.1 HH.out.2.2.2.1 w1).mono ?_
  rintro e w2 ⟨q0, F0, rfl, -, -, k2⟩
  have HW2 := Lib.hid (HW.out.keep k2)
  have HK2 := Lib.hid (HK1.out.trans k2)
  clear k2 HW HK1
  go_wp2_with fail
  have hbl := heap_alloc_new w2 (.cells (Value.pointer (some ⟨w.heap.size, 0, none⟩) :: Value.int .i64 (g : Int) :: Value.int .i64 (s : Int) :: slots0.map Slot.val).toArray 71)
  obtain ⟨w3, hw3⟩ : ∃ w3, w2.alloc (.cells (Value.pointer (some ⟨w.heap.size, 0, none⟩) :: Value.int .i64 (g : Int) :: Value.int .i64 (s : Int) :: slots0.map Slot.val).toArray 71) = w3 := ⟨_, rfl⟩
  have hs1 := HW2.out.lt
  have hk3 : Keep w2 w3 := by rw [← hw3]; exact (Keep.refl w2).alloc _ _
  have hz3 : w3.heap.size = w2.heap.size + 1 := by rw [← hw3]; simp
  rw [hw3] at hbl
  have hC := RelC.fresh hbl (by omega) HH.out.1 HH.out.2.1 HH.out.2.2.1 HH.out.2.2.2.1
  have HC := Lib.hid hC
  have HW3 := Lib.hid (HW2.out.keep hk3)
  have HK3 := Lib.hid (HK2.out.trans hk3)
  have HS1 := Lib.hid hs1
  have HZ3 := Lib.hid hz3
  clear hC hbl hk3 hz3 hs1 HK2 HW2
  replace hw3 : w2.alloc (.cells #[Value.pointer (some ⟨w.heap.size, 0, none⟩), Value.int .i64 (g : Int), Value.int .i64 (s : Int), Value.pointer none, Value.pointer none, Value.pointer none, Value.pointer none, Value.pointer none, Value.pointer none, Value.pointer none, Value.pointer none, Value.pointer none, Value.pointer none, Value.pointer none, Value.pointer none, Value.pointer none, Value.pointer none, Value.pointer none, Value.pointer none] 71) = w3 := hw3
  rw [hw3]
  refine (rclear_c HC.out HW3.out).mono ?_
  rintro e w4 ⟨rfl, S', hS⟩
  have HS := Lib.hid hS
  clear hS
  go_wp2_with fail
  go_ret2
  have hk4 : Keep w w4 := HS.out.2.2.keep HK3.out fun i e => by have := HK3.out.size; have := HS1.out; rw [e]; omega
  have hsz := hk4.size
  have hsl := HS.out.1.lt
  have hsz4 := HS.out.2.2.size
  refine ⟨w2.heap.size, fun q => w.heap.size ≤ q ∧ q < w4.heap.size, rfl, (RelA.nothing HS.out.1 (HW3.out.turned HS.out.2.2 (by have := HS1.out; omega)) (fun j x hx => ⟨fun e => ⟨((HS.out.2.1 j x hx).1 e).1, ((HS.out.2.1 j x hx).1 e).2.1⟩, fun e => by rw [slots0_get ((HS.out.2.1 j x hx).2 e)]; rfl⟩) ⟨by have := HS1.out; omega, hsl⟩ ⟨Nat.le_refl _, by have := HS1.out; omega⟩ (fun x hx q hq => ?_) fun q hq => hq.2).r, fun q hq => hq.1, hk4⟩
  obtain ⟨j, hj⟩ := List.getElem?_of_mem hx
  refine ⟨?_, (HS.out.1.ok x hx).lt q hq⟩
  rcases Nat.lt_or_ge j k with e | e
  · have := ((HS.out.2.1 j x hj).1 e).2.2 q hq; have := HK3.out.size; omega
  · rw [slots0_get ((HS.out.2.1 j x hj).2 e)] at hq; exact hq.elim
end
end Go.Proofs.YtifopodnceopjaaGreatDoor
/- The landed relay: Base, In, Move. -/
namespace Go.Proofs.YtifopodnceopjaaGreatDoor
open Go.RowKit Lin
set_option linter.unusedVariables false
set_option linter.unusedSimpArgs false
/-- Those of E are emptied. -/
def Emptied (w wr : World) (p wb g s : Nat) (S S' : List Slot) (E G : Nat → Prop) : Prop :=
  RelC wr p wb g s S' ∧ (∀ j x, S'[j]? = some x → (E j → (∃ q, x.p = some q) ∧ x.B = [] ∧ ∀ b, x.F b → w.heap.size ≤ b) ∧ (¬ E j → S[j]? = some x)) ∧ Turned G w wr
section
variable {w : World} {F : Nat → Prop} {p g s k b wb : Nat} {L : Nat → List (List Nat)} {S : List Slot}
theorem Emptied.start {w1 : World} {G : Nat → Prop} (h : RelC w1 p wb g s S) (t : Turned G w w1) {E : Nat → Prop} (hE : ∀ j, ¬ E j) : Emptied w w1 p wb g s S S E G := ⟨h, fun j x hx => ⟨fun e => (hE j e).elim, fun _ => hx⟩, t⟩
theorem Emptied.step {w1 w2 : World} {S1 : List Slot} {i q : Nat} {F' : Nat → Prop} {E E' G : Nat → Prop} (h : Emptied w w1 p wb g s S S1 E G) (hG : G p) (r : RelC w2 p wb g s (S1.set i ⟨some q, F', []⟩)) (hf : ∀ j, F' j → w1.heap.size ≤ j) (t : Turned (fun j => j = p) w1 w2) (hE : ∀ j, E' j ↔ j = i ∨ E j) : Emptied w w2 p wb g s S (S1.set i ⟨some q, F', []⟩) E' G := by
  refine ⟨r, fun j x hx => ?_, h.2.2.trans t fun j e => Or.inl (by rw [e]; exact hG)⟩
  rcases set_get hx with ⟨rfl, rfl⟩ | ⟨hj, hx2⟩
  · exact ⟨fun _ => ⟨⟨q, rfl⟩, rfl, fun b hb => Nat.le_trans h.2.2.size (hf b hb)⟩, fun e => (e ((hE j).2 (Or.inl rfl))).elim⟩
  · refine ⟨fun e => (h.2.1 j x hx2).1 ?_, fun e => (h.2.1 j x hx2).2 fun e2 => e ((hE j).2 (Or.inr e2))⟩
    rcases (hE j).1 e with e2 | e2
    · exact (hj e2).elim
    · exact e2
end
end Go.Proofs.YtifopodnceopjaaGreatDoor
/- The landed relay: Ranks. -/
namespace Go.Proofs.YtifopodnceopjaaGreatDoor
open Go.RowKit Lin
set_option linter.unusedVariables false
set_option linter.unusedSimpArgs false
/-- A generation, and how many rows it has. -/
def rkVals (x : Nat × Nat) : List Value := [.int .u64 (x.1 : Int), .int .i64 (x.2 : Int)]
theorem rk_len (l : List (Nat × Nat)) : (l.flatMap rkVals).length = l.length * 2 := by
  induction l with
  | nil => rfl
  | cons p l ih => rw [List.flatMap_cons, List.length_append, ih, List.length_cons]; simp [rkVals]; omega
/-- Such a list, to be read. -/
def RkIn (w : World) (F : Nat → Prop) (A : Option Addr) (n : Nat) (l : List (Nat × Nat)) : Prop :=
  l.length = n ∧ (0 < n → ∃ b off, A = some ⟨b, off, none⟩ ∧ F b ∧ b < w.heap.size ∧ ∀ (i : Nat) (x : Nat × Nat), l[i]? = some x → w.cell? ⟨b, off + i * 2, none⟩ = some (.int .u64 (x.1 : Int)) ∧ w.cell? ⟨b, off + i * 2 + 1, none⟩ = some (.int .i64 (x.2 : Int)))
theorem RkIn.turned {w w' : World} {F G : Nat → Prop} {A : Option Addr} {n : Nat} {l : List (Nat × Nat)} (h : RkIn w F A n l) (k : Turned G w w') (hd : ∀ b, F b → ¬ G b) : RkIn w' F A n l := ⟨h.1, fun hn => by
  obtain ⟨b, off, e, hb, hl, hc⟩ := h.2 hn
  exact ⟨b, off, e, hb, Nat.lt_of_lt_of_le hl k.size, fun i x hi => ⟨k.cell (hc i x hi).1 (hd b hb), k.cell (hc i x hi).2 (hd b hb)⟩⟩⟩
theorem RkIn.keep {w w' : World} {F : Nat → Prop} {A : Option Addr} {n : Nat} {l : List (Nat × Nat)} (h : RkIn w F A n l) (k : Keep w w') : RkIn w' F A n l := h.turned (Turned.of_keep (F := fun _ => False) k) fun _ _ e => e
theorem RkIn.nil (w : World) (F : Nat → Prop) (A : Option Addr) : RkIn w F A 0 [] := ⟨rfl, fun h => absurd h (by omega)⟩
theorem RkIn.at_ {w : World} {F : Nat → Prop} {A : Option Addr} {n : Nat} {l : List (Nat × Nat)} (h : RkIn w F A n l) {i : Nat} (hi : i < n) : ∃ b off x, A = some ⟨b, off, none⟩ ∧ F b ∧ b < w.heap.size ∧ l[i]? = some x ∧ w.cell? ⟨b, off + i * 2, none⟩ = some (.int .u64 (x.1 : Int)) ∧ w.cell? ⟨b, off + i * 2 + 1, none⟩ = some (.int .i64 (x.2 : Int)) := by
  obtain ⟨b, off, e, hb, hl, hc⟩ := h.2 (by omega)
  have hi' : i < l.length := by rw [h.1]; exact hi
  exact ⟨b, off, l[i], e, hb, hl, List.getElem?_eq_getElem hi', (hc i _ (List.getElem?_eq_getElem hi')).1, (hc i _ (List.getElem?_eq_getElem hi')).2⟩
/-- Such a list of one's own. -/
def OwnRk (w : World) (base : Nat) (A : Option Addr) (n c : Nat) (l : List (Nat × Nat)) : Prop := w.ownsRow base 93 2 (.slice A n c) n (l.flatMap rkVals)
namespace OwnRk
variable {w w' : World} {base n c : Nat} {A : Option Addr} {l : List (Nat × Nat)}
theorem length (h : OwnRk w base A n c l) : l.length = n := by have := h.1; rw [rk_len] at this; omega
theorem none_ (w : World) (base : Nat) : OwnRk w base none 0 0 [] := World.ownsRow_nil w base _ 2
theorem rowLe (h : OwnRk w base A n c l) : ∀ k, (Value.slice A n c).ownBlock = some k → base ≤ k := fun k hk => (World.ownsRow.lt h k hk).1
theorem keep (h : OwnRk w base A n c l) (k : Keep w w') : OwnRk w' base A n c l :=
  h.kept (row := none) ⟨k.os, k.tape, k.output, k.size, fun i hi _ => k.block i hi⟩ (by
    cases hb : (Value.slice A n c).ownBlock with
    | none => exact Or.inl rfl
    | some g => exact Or.inr (by simp))
theorem alloc (h : OwnRk w base A n c l) (o : Obj) : OwnRk (w.alloc o) base A n c l := World.ownsRow.alloc h o
theorem lower {base' : Nat} (h : OwnRk w base A n c l) (hb : base' ≤ base) : OwnRk w base' A n c l := by
  refine ⟨h.1, ?_⟩
  rcases h.2 with h1 | ⟨g, cap, cur, hv, hg, r⟩
  · exact Or.inl h1
  · exact Or.inr ⟨g, cap, cur, hv, Nat.le_trans hb hg, r⟩
end OwnRk
section
variable {w : World} {F : Nat → Prop} {p g s k b : Nat} {L : Nat → List (List Nat)}
end
end Go.Proofs.YtifopodnceopjaaGreatDoor
/- The landed relay: Copy. -/
namespace Go.Proofs.YtifopodnceopjaaGreatDoor
open Go.RowKit Lin
set_option linter.unusedVariables false
set_option linter.unusedSimpArgs false
section
variable {w : World} {F : Nat → Prop} {p g s k b wb : Nat} {L : Nat → List (List Nat)} {S : List Slot}
/-- The first i places are copied. -/
def Copied (w wr : World) (p wb g s : Nat) (S S' : List Slot) (i : Nat) : Prop :=
  RelC wr p wb g s S' ∧ (∀ j x, S'[j]? = some x → (j < i → ∃ y, S[j]? = some y ∧ (x.p = none ↔ y.p = none) ∧ x.B = y.B ∧ ∀ b, x.F b → w.heap.size ≤ b) ∧ (i ≤ j → x = Slot.none_)) ∧ Turned (fun j => j = p) w wr
theorem Copied.start (h : RelC w p wb g s slots0) : Copied w w p wb g s S slots0 0 := ⟨h, fun j x hx => ⟨fun e => by omega, fun _ => slots0_get hx⟩, Turned.refl _ _⟩
theorem Copied.step {w1 w2 : World} {S1 : List Slot} {i : Nat} {x y : Slot} (h : Copied w w1 p wb g s S S1 i) (k : Keep w1 w2) (hi : i < 16) (ok : x.Ok w2 g s) (hf : ∀ j, x.F j → w1.heap.size ≤ j) (hwb : wb < w1.heap.size) (hy : S[i]? = some y) (hp : x.p = none ↔ y.p = none) (hB : x.B = y.B) : Copied w (w2.setCell ⟨p, 3 + i, none⟩ x.val) p wb g s S (S1.set i x) (i + 1) := by
  refine ⟨h.1.set hi k ok hf hwb, fun j z hz => ?_, (h.2.2.then_keep k).trans (Turned.set (F := fun j => j = p) w2 ⟨p, 3 + i, none⟩ _ rfl) fun j e => Or.inl e⟩
  rcases set_get hz with ⟨rfl, rfl⟩ | ⟨hj, hz2⟩
  · exact ⟨fun _ => ⟨y, hy, hp, hB, fun b hb => Nat.le_trans h.2.2.size (hf b hb)⟩, fun e => by omega⟩
  · exact ⟨fun e => (h.2.1 j z hz2).1 (by omega), fun e => (h.2.1 j z hz2).2 (by omega)⟩
end
end Go.Proofs.YtifopodnceopjaaGreatDoor
/- Relays side by side in memory. -/
namespace Go.Proofs.YtifopodnceopjaaGreatDoor
open Go.RowKit Lin
set_option linter.unusedVariables false
/-- One of several relays. -/
structure RelS where
  p : Nat
  F : Nat → Prop
  b : Nat
  L : Nat → List (List Nat)
/-- m relays of g, s and width k, all made since W; what lies in blocks of D is none of theirs. -/
structure RlN (W w : World) (m g s k : Nat) (R : Nat → RelS) (D : Nat → Prop) : Prop where
  rel : ∀ i, i < m → RelR w (R i).F (R i).p g s k (R i).b (R i).L
  ap : ∀ i j, i < m → j < m → i ≠ j → ∀ x, (R i).F x → ¬ (R j).F x
  lo : ∀ i, i < m → ∀ x, (R i).F x → W.heap.size ≤ x
  d : ∀ x, D x → x < w.heap.size ∧ ∀ i, i < m → ¬ (R i).F x
  keep : Keep W w
/-- One of them is another now. -/
def updR (R : Nat → RelS) (i : Nat) (r : RelS) : Nat → RelS := fun j => if j = i then r else R j
theorem updR_at (R : Nat → RelS) (i : Nat) (r : RelS) : updR R i r i = r := if_pos rfl
theorem updR_ne (R : Nat → RelS) {i j : Nat} (r : RelS) (h : j ≠ i) : updR R i r j = R j := if_neg h
namespace RlN
variable {W w w2 : World} {m g s k : Nat} {R : Nat → RelS} {D G : Nat → Prop}
theorem start (W : World) (R : Nat → RelS) : RlN W W 0 g s k R fun _ => False := ⟨fun i h => by omega, fun i j h => by omega, fun i h => by omega, fun x h => h.elim, Keep.refl W⟩
theorem lt (h : RlN W w m g s k R D) {i : Nat} (hi : i < m) : ∀ x, (R i).F x → x < w.heap.size := (h.rel i hi).lt
theorem later (h : RlN W w m g s k R D) (kp : Keep w w2) : RlN W w2 m g s k R D :=
  ⟨fun i hi => (h.rel i hi).keep kp, h.ap, h.lo, fun x hx => ⟨Nat.lt_of_lt_of_le (h.d x hx).1 kp.size, (h.d x hx).2⟩, h.keep.trans kp⟩
/-- New memory is looked after, too. -/
theorem widen (h : RlN W w m g s k R D) (kp : Keep w w2) : RlN W w2 m g s k R fun x => D x ∨ (w.heap.size ≤ x ∧ x < w2.heap.size) :=
  ⟨fun i hi => (h.rel i hi).keep kp, h.ap, h.lo, fun x hx => by
    rcases hx with e | e
    · exact ⟨Nat.lt_of_lt_of_le (h.d x e).1 kp.size, (h.d x e).2⟩
    · exact ⟨e.2, fun i hi hf => by have := h.lt hi x hf; omega⟩, h.keep.trans kp⟩
/-- Less is looked after. -/
theorem narrow (h : RlN W w m g s k R D) {D' : Nat → Prop} (hD : ∀ x, D' x → D x) : RlN W w m g s k R D' := ⟨h.rel, h.ap, h.lo, fun x hx => h.d x (hD x hx), h.keep⟩
/-- Something else has turned. -/
theorem other (h : RlN W w m g s k R D) (t : Turned G w w2) (hG : ∀ x, G x → W.heap.size ≤ x ∧ ∀ i, i < m → ¬ (R i).F x) : RlN W w2 m g s k R D :=
  ⟨fun i hi => (h.rel i hi).turned t fun x hx e => (hG x e).2 i hi hx, h.ap, h.lo, fun x hx => ⟨Nat.lt_of_lt_of_le (h.d x hx).1 t.size, (h.d x hx).2⟩, t.keep h.keep fun x e => (hG x e).1⟩
/-- One of them has turned. -/
theorem put (h : RlN W w m g s k R D) {i : Nat} (hi : i < m) {F' : Nat → Prop} {b' : Nat} {L' : Nat → List (List Nat)} (r : RelR w2 F' (R i).p g s k b' L') (f : ∀ x, F' x → (R i).F x ∨ w.heap.size ≤ x) (t : Turned (R i).F w w2) :
    RlN W w2 m g s k (updR R i ⟨(R i).p, F', b', L'⟩) D := by
  refine ⟨fun j hj => ?_, fun j l hj hl hjl x hx hy => ?_, fun j hj x hx => ?_, fun x hx => ⟨Nat.lt_of_lt_of_le (h.d x hx).1 t.size, fun j hj hy => ?_⟩, t.keep h.keep fun x e => h.lo i hi x e⟩
  · by_cases e : j = i
    · subst e; rw [updR_at]; exact r
    · rw [updR_ne _ _ e]; exact (h.rel j hj).turned t fun x hx hy => h.ap j i hj hi e x hx hy
  · by_cases e : j = i
    · subst e
      rw [updR_at] at hx
      rw [updR_ne _ _ fun e => hjl e.symm] at hy
      rcases f x hx with e2 | e2
      · exact h.ap j l hj hl hjl x e2 hy
      · have := h.lt hl x hy; omega
    · rw [updR_ne _ _ e] at hx
      by_cases e2 : l = i
      · subst e2
        rw [updR_at] at hy
        rcases f x hy with e3 | e3
        · exact h.ap j l hj hl hjl x hx e3
        · have := h.lt hj x hx; omega
      · rw [updR_ne _ _ e2] at hy
        exact h.ap j l hj hl hjl x hx hy
  · by_cases e : j = i
    · subst e
      rw [updR_at] at hx
      rcases f x hx with e2 | e2
      · exact h.lo j hj x e2
      · have := h.keep.size; omega
    · rw [updR_ne _ _ e] at hx; exact h.lo j hj x hx
  · by_cases e : j = i
    · subst e
      rw [updR_at] at hy
      rcases f x hy with e2 | e2
      · exact (h.d x hx).2 j hj e2
      · have := (h.d x hx).1; omega
    · rw [updR_ne _ _ e] at hy; exact (h.d x hx).2 j hj hy
/-- Another one stands in the place of one, or behind the last. -/
theorem set (h : RlN W w m g s k R D) {i m' : Nat} {p' b' : Nat} {F' : Nat → Prop} {L' : Nat → List (List Nat)} (r : RelR w2 F' p' g s k b' L') (f : ∀ x, F' x → w.heap.size ≤ x) (kp : Keep w w2) (hm : ∀ j, j < m' → j = i ∨ j < m) :
    RlN W w2 m' g s k (updR R i ⟨p', F', b', L'⟩) D := by
  have hs := h.keep.size
  have old : ∀ j, j < m' → j ≠ i → j < m := fun j hj e => (hm j hj).resolve_left e
  refine ⟨fun j hj => ?_, fun j l hj hl hjl x hx hy => ?_, fun j hj x hx => ?_, fun x hx => ⟨Nat.lt_of_lt_of_le (h.d x hx).1 kp.size, fun j hj hy => ?_⟩, h.keep.trans kp⟩
  · by_cases e : j = i
    · subst e; rw [updR_at]; exact r
    · rw [updR_ne _ _ e]; exact (h.rel j (old j hj e)).keep kp
  · by_cases e : j = i
    · subst e
      rw [updR_at] at hx
      have e2 : l ≠ j := fun e => hjl e.symm
      rw [updR_ne _ _ e2] at hy
      have := h.lt (old l hl e2) x hy
      have := f x hx; omega
    · rw [updR_ne _ _ e] at hx
      by_cases e2 : l = i
      · subst e2
        rw [updR_at] at hy
        have := h.lt (old j hj e) x hx
        have := f x hy; omega
      · rw [updR_ne _ _ e2] at hy
        exact h.ap j l (old j hj e) (old l hl e2) hjl x hx hy
  · by_cases e : j = i
    · subst e
      rw [updR_at] at hx
      have := f x hx; omega
    · rw [updR_ne _ _ e] at hx; exact h.lo j (old j hj e) x hx
  · by_cases e : j = i
    · subst e
      rw [updR_at] at hy
      have := f x hy
      have := (h.d x hx).1; omega
    · rw [updR_ne _ _ e] at hy; exact (h.d x hx).2 j (old j hj e) hy
theorem fine (h : RlN W w m g s k R D) {i : Nat} (hi : i < m) : 1 ≤ g ∧ g ≤ 255 ∧ 1 ≤ s ∧ s ≤ 65535 ∧ 1 ≤ k ∧ k ≤ 16 ∧ (R i).b ≤ topN := (h.rel i hi).fine
end RlN
end Go.Proofs.YtifopodnceopjaaGreatDoor
/- Three relays, each of which takes what the one ahead sends. -/
namespace Go.Proofs.YtifopodnceopjaaGreatDoor
open Go.RowKit Lin
set_option linter.unusedVariables false
section
variable {g s : Nat} {M : List (List Nat)} {R : Nat → RelS}
/-- True rows, and each relay's of the span of the one's ahead. -/
structure Hop3 (g s : Nat) (M : List (List Nat)) (R : Nat → RelS) : Prop where
  b : ∀ j, j < 3 → (R j).b = 0
  bas : ∀ j, j < 3 → Bas g s ((R j).L 2)
  w : ∀ j, j < 3 → Within ((R j).L 2).length (fn ((R j).L 2)) g (symR g M)
  ch : ∀ j, j + 1 < 3 → Within ((R (j + 1)).L 2).length (fn ((R (j + 1)).L 2)) ((R j).L 2).length (fn ((R j).L 2))
theorem Hop3.took (h : Hop3 g s M R) {i p : Nat} {F : Nat → Prop} {row : List Nat} (hi : i < 3) (hl : row.length = g + s) (ha : AllB row) (hr : InSpan g (symR g M) (vec row)) (hp : ∀ j, j + 1 = i → InSpan ((R j).L 2).length (fn ((R j).L 2)) (vec row)) : Hop3 g s M (updR R i ⟨p, F, 0, upd (R i).L 2 (insB g s ((R i).L 2) row)⟩) := by
  obtain ⟨-, i2, i3⟩ := insB_sym (h.bas i hi) (h.w i hi) hl ha hr
  have i4 := insB_bas (h.bas i hi) hl ha
  obtain ⟨N, hN⟩ : ∃ N, insB g s ((R i).L 2) row = N := ⟨_, rfl⟩
  rw [hN] at i2 i3 i4 ⊢
  obtain ⟨R', hR'⟩ : ∃ R', updR R i ⟨p, F, 0, upd (R i).L 2 N⟩ = R' := ⟨_, rfl⟩
  have e0 : (R' i).b = 0 := by rw [← hR', updR_at]
  have e1 : (R' i).L 2 = N := by rw [← hR', updR_at]; show upd (R i).L 2 N 2 = N; exact upd_at _ _ _
  have ne : ∀ j, j ≠ i → R' j = R j := fun j hj => by rw [← hR']; exact updR_ne _ _ hj
  rw [hR']
  refine ⟨fun j hj => ?_, fun j hj => ?_, fun j hj => ?_, fun j hj => ?_⟩
  · by_cases e : j = i
    · subst e; exact e0
    · rw [ne j e]; exact h.b j hj
  · by_cases e : j = i
    · subst e; rw [e1]; exact i4
    · rw [ne j e]; exact h.bas j hj
  · by_cases e : j = i
    · subst e; rw [e1]; exact i2
    · rw [ne j e]; exact h.w j hj
  · by_cases e : j + 1 = i
    · subst e
      rw [e1, ne j (by omega)]
      refine i3.1.trans laws (within_append (h.ch j hj) fun k hk => ?_)
      obtain rfl : k = 0 := by simp at hk; exact hk
      exact hp j rfl
    · rw [ne (j + 1) e]
      by_cases e2 : j = i
      · subst e2
        rw [e1]
        exact (h.ch j hj).trans laws (within_left.trans laws i3.2)
      · rw [ne j e2]; exact h.ch j hj
theorem Hop3.start (hb : ∀ j, j < 3 → (R j).b = 0 ∧ (R j).L = fun _ => []) : Hop3 g s M R := by
  have e : ∀ j, j < 3 → (R j).L 2 = [] := fun j hj => by rw [(hb j hj).2]
  refine ⟨fun j hj => (hb j hj).1, fun j hj => by rw [e j hj]; exact Bas.nil g s, fun j hj => by rw [e j hj]; exact fun k hk => by simp at hk, fun j hj => by rw [e (j + 1) hj]; exact fun k hk => by simp at hk⟩
/-- A true row, told in two parts. -/
theorem true_row3 (h : Sz g s M) {x : List Nat} (hl : x.length = g) (ha : AllB x) : (x ++ payV g s M x).length = g + s ∧ AllB (x ++ payV g s M x) ∧ InSpan g (symR g M) (vec (x ++ payV g s M x)) := by
  have h1 := rowV_ok h hl ha
  exact ⟨h1.1, h1.2, ⟨_, vec_rowV h hl ha⟩⟩
end
section
variable {g s : Nat} {M B C : List (List Nat)}
theorem bas_len_le (hC : Bas g s C) (hw : Within C.length (fn C) B.length (fn B)) : C.length ≤ B.length := by
  obtain ⟨l, hr, -⟩ := hC.leads
  exact free_le laws (hr.free laws) hw
/-- Noughts from column i on. -/
def ZeroFrom (g i : Nat) (B : List (List Nat)) : Prop := ∀ k, k < B.length → ∀ j, i ≤ j → j < g → fn B k j = 0
theorem ZeroFrom.nil (g i : Nat) : ZeroFrom g i [] := fun k hk => by simp at hk
theorem comb_nought {r : Nat} {N : Nat → Nat → By} {c : Nat → By} {j : Nat} (h : ∀ k, k < r → N k j = 0) : comb r N c j = 0 := sm_zero laws r fun k hk => by rw [h k hk]; exact laws.mul_zero _
theorem unit_new {i : Nat} {row : List Nat} (hB : Bas g s B) (hz : ZeroFrom g i B) (hl : row.length = g + s) (ha : AllB row) (hi : i < g) (h1 : row.getD i 0 ≠ 0) : ¬ inB g s B row := fun h => by
  obtain ⟨l, hr, -⟩ := hB.leads
  have e := congrFun (left_vec hB.ok hr hl ha) i
  have e0 : vec (leftB (g + s) B row) i = 0 := by
    show byte ((leftB (g + s) B row).getD i 0) = 0
    rw [vLead_none h i hi]; rfl
  have e1 : comb B.length (fn B) (fun k => vec row (l k)) i = 0 := comb_nought fun k hk => hz k hk i (Nat.le_refl _) hi
  have e2 : vec row i = 0 := by
    rw [e0] at e
    have e3 : (0 : By) = vec row i + comb B.length (fn B) (fun k => vec row (l k)) i := e
    rw [e1] at e3
    rw [e3]; exact (laws.add_zero _).symm
  exact h1 ((vec_zero_iff ha i).1 e2)
theorem zero_step {i : Nat} {row : List Nat} (hB : Bas g s B) (hw : Within B.length (fn B) g (symR g M)) (hz : ZeroFrom g i B) (hl : row.length = g + s) (ha : AllB row) (hr : InSpan g (symR g M) (vec row)) (h0 : ∀ j, i + 1 ≤ j → j < g → row.getD j 0 = 0) : ZeroFrom g (i + 1) (insB g s B row) := fun k hk j h1 h2 => by
  obtain ⟨-, -, hs, -⟩ := insB_sym hB hw hl ha hr
  obtain ⟨c, hc⟩ := hs k hk
  have e := congrFun hc j
  rw [e]
  refine comb_nought fun m hm => ?_
  rw [List.length_append] at hm
  by_cases hmb : m < B.length
  · have e2 : fn (B ++ [row]) m j = fn B m j := by
      show byte (((B ++ [row]).getD m []).getD j 0) = byte ((B.getD m []).getD j 0)
      rw [show (B ++ [row]).getD m [] = B.getD m [] by simp [List.getD, List.getElem?_append_left hmb]]
    rw [e2]; exact hz m hmb j (by omega) h2
  · obtain rfl : m = B.length := by simp at hm; omega
    have e2 : (B ++ [row]).getD B.length [] = row := by simp [List.getD]
    show byte (((B ++ [row]).getD B.length []).getD j 0) = 0
    rw [e2, h0 j h1 h2]; rfl
theorem unit_getD (n i j : Nat) (hj : j < n) : (vUnit n i).getD j 0 = if j = i then 1 else 0 := by
  rw [vUnit, tab_getD, if_pos hj]
theorem getD_memU {M : List (List Nat)} {i : Nat} (h : Sz g s M) (hi : i < g) : M.getD i [] ∈ M := by
  have hl : i < M.length := by rw [h.1]; exact hi
  simp only [List.getD, List.getElem?_eq_getElem hl, Option.getD_some]; exact List.getElem_mem _
/-- The row of a unit. -/
theorem unit_row {i : Nat} (h : Sz g s M) (hi : i < g) : payV g s M (vUnit g i) = M.getD i [] := comb_one s g i M ((h.2 _ (getD_memU h hi)).2) ((h.2 _ (getD_memU h hi)).1) hi
end
/-- The first i of three pointers are laid. -/
def ptrL3 (i : Nat) (R : Nat → RelS) : List Value := (List.range 3).map fun j => if j < i then .pointer (some ⟨(R j).p, 0, none⟩) else .pointer none
def Ptrs3 (w : World) (gr i : Nat) (R : Nat → RelS) : Prop := w.heap[gr]? = some (.cells (ptrL3 i R).toArray 28 (0, 0))
namespace Ptrs3
variable {w w2 : World} {gr i : Nat} {R : Nat → RelS} {G : Nat → Prop}
theorem start (w : World) (R : Nat → RelS) : Ptrs3 (w.alloc (.cells #[.pointer none, .pointer none, .pointer none] 28)) w.heap.size 0 R := heap_alloc_new w _
theorem lt (h : Ptrs3 w gr i R) : gr < w.heap.size := (Array.getElem?_eq_some_iff.1 h).1
theorem free (h : Ptrs3 w gr i R) (j : Nat) : w.frozen? ⟨gr, j, none⟩ = false := by
  have h : w.heap[gr]? = _ := h
  simp [World.frozen?, h]
theorem cell (h : Ptrs3 w gr i R) {j : Nat} (hj : j < 3) : w.cell? ⟨gr, j, none⟩ = some (if j < i then .pointer (some ⟨(R j).p, 0, none⟩) else .pointer none) := by
  have h : w.heap[gr]? = _ := h
  simp only [World.cell?, h]
  rw [List.getElem?_toArray, ptrL3, List.getElem?_map, List.getElem?_range hj]; rfl
theorem at_ (h : Ptrs3 w gr i R) {j : Nat} (hj : j < i) (hi : i ≤ 3) : w.cell? ⟨gr, j, none⟩ = some (.pointer (some ⟨(R j).p, 0, none⟩)) := by
  rw [h.cell (by omega), if_pos hj]
theorem turned (h : Ptrs3 w gr i R) (t : Turned G w w2) (hG : ¬ G gr) : Ptrs3 w2 gr i R := (t.block gr h.lt hG).trans h
theorem keep (h : Ptrs3 w gr i R) (k : Keep w w2) : Ptrs3 w2 gr i R := (k.block gr h.lt).trans h
theorem congr (h : Ptrs3 w gr i R) {R' : Nat → RelS} (e : ∀ j, j < i → (R' j).p = (R j).p) : Ptrs3 w gr i R' := by
  have e2 : ptrL3 i R' = ptrL3 i R := by
    refine List.map_congr_left fun j _ => ?_
    by_cases hj : j < i
    · rw [if_pos hj, if_pos hj, e j hj]
    · rw [if_neg hj, if_neg hj]
  unfold Ptrs3; rw [e2]; exact h
theorem set (h : Ptrs3 w gr i R) (hi : i < 3) (r : RelS) : Ptrs3 (w.setCell ⟨gr, i, none⟩ (.pointer (some ⟨r.p, 0, none⟩))) gr (i + 1) (updR R i r) := by
  unfold Ptrs3
  rw [bset h]
  congr 2
  refine Array.ext' ?_
  rw [Array.toList_setIfInBounds]
  show (ptrL3 i R).set i _ = ptrL3 (i + 1) _
  refine List.ext_getElem? fun j => ?_
  unfold ptrL3
  rw [List.getElem?_set]
  by_cases hj : j < 3
  · rw [List.getElem?_map, List.getElem?_map, List.getElem?_range hj]
    by_cases e : i = j
    · subst e
      rw [if_pos rfl, if_pos (by simp; exact hi)]
      show some _ = some (if i < i + 1 then _ else _)
      rw [if_pos (by omega), updR_at]
    · rw [if_neg e]
      show some (if j < i then _ else _) = some (if j < i + 1 then _ else _)
      by_cases e2 : j < i
      · rw [if_pos e2, if_pos (by omega), updR_ne _ _ fun e => by omega]
      · rw [if_neg e2, if_neg (by omega)]
  · have e1 : ((List.range 3).map fun j => if j < i then Value.pointer (some ⟨(R j).p, 0, none⟩) else .pointer none)[j]? = none := by simp; omega
    have e2 : ((List.range 3).map fun j => if j < i + 1 then Value.pointer (some ⟨(updR R i r j).p, 0, none⟩) else .pointer none)[j]? = none := by simp; omega
    rw [e1, e2, if_neg (by omega)]
end Ptrs3
/-- Three relays, the array of them, and true rows in them. -/
structure HopI3 (w1 w : World) (gr g s : Nat) (M : List (List Nat)) (R : Nat → RelS) : Prop where
  n : RlN w1 w 3 g s 4 R (fun x => x = gr)
  pt : Ptrs3 w gr 3 R
  h : Hop3 g s M R
theorem HopI3.later {w1 w w2 : World} {gr g s : Nat} {M : List (List Nat)} {R : Nat → RelS} (h : HopI3 w1 w gr g s M R) (k : Keep w w2) : HopI3 w1 w2 gr g s M R := ⟨h.n.later k, h.pt.keep k, h.h⟩
theorem HopI3.rel {w1 w : World} {gr g s : Nat} {M : List (List Nat)} {R : Nat → RelS} (h : HopI3 w1 w gr g s M R) {i : Nat} (hi : i < 3) : RelR w (R i).F (R i).p g s 4 0 (R i).L := by
  have h1 := h.n.rel i hi
  rwa [h.h.b i hi] at h1
theorem HopI3.at_ {w1 w : World} {gr g s : Nat} {M : List (List Nat)} {R : Nat → RelS} (h : HopI3 w1 w gr g s M R) {i : Nat} (hi : i < 3) : w.cell? ⟨gr, i, none⟩ = some (.pointer (some ⟨(R i).p, 0, none⟩)) := h.pt.at_ hi (Nat.le_refl _)
/-- One of them took a row. -/
theorem HopI3.put {w1 w w2 : World} {gr g s : Nat} {M : List (List Nat)} {R : Nat → RelS} (h : HopI3 w1 w gr g s M R) {i : Nat} {F' : Nat → Prop} {row : List Nat} (hi : i < 3) (r : RelR w2 F' (R i).p g s 4 0 (upd (R i).L 2 (insB g s ((R i).L 2) row))) (f : ∀ x, F' x → (R i).F x ∨ w.heap.size ≤ x) (t : Turned (R i).F w w2)
    (hl : row.length = g + s) (ha : AllB row) (hr : InSpan g (symR g M) (vec row)) (hp : ∀ j, j + 1 = i → InSpan ((R j).L 2).length (fn ((R j).L 2)) (vec row)) : ∃ R', HopI3 w1 w2 gr g s M R' ∧ (∀ j, (R' j).p = (R j).p) ∧ (R' i).L 2 = insB g s ((R i).L 2) row ∧ ∀ j, j ≠ i → R' j = R j := by
  have e : ∀ j, (updR R i ⟨(R i).p, F', 0, upd (R i).L 2 (insB g s ((R i).L 2) row)⟩ j).p = (R j).p := fun j => by
    by_cases e : j = i
    · subst e; rw [updR_at]
    · rw [updR_ne _ _ e]
  exact ⟨_, ⟨h.n.put hi r f t, (h.pt.turned t fun e => (h.n.d gr rfl).2 i hi e).congr fun j _ => e j, h.h.took hi hl ha hr hp⟩, e, by rw [updR_at]; show upd (R i).L 2 _ 2 = _; exact upd_at _ _ _, fun j hj => updR_ne _ _ hj⟩
theorem HopI3.other {w1 w w2 : World} {gr g s : Nat} {M : List (List Nat)} {R : Nat → RelS} {G : Nat → Prop} (h : HopI3 w1 w gr g s M R) (t : Turned G w w2) (hG : ∀ x, G x → w1.heap.size ≤ x ∧ x ≠ gr ∧ ∀ i, i < 3 → ¬ (R i).F x) : HopI3 w1 w2 gr g s M R :=
  ⟨h.n.other t fun x hx => ⟨(hG x hx).1, (hG x hx).2.2⟩, h.pt.turned t fun e => (hG gr e).2.1 rfl, h.h⟩
end Go.Proofs.YtifopodnceopjaaGreatDoor
/- The landed step of a reader, through its deferred closure. -/
namespace Go.Proofs.YtifopodnceopjaaGreatDoor
open Go.RowKit
theorem undo_none (a b c d : Addr) (u : FrameMode) (w : World) (h0 : w.cell? a = some (.int .i64 0)) :
    CallsD Tryz.prog 131 #[.pointer (some a), .pointer (some b), .pointer (some c), .pointer (some d)] u w fun e u' w' => u' = u ∧ (e = .returned (.tuple #[]) ∧ w = w') := by
  go_enter_d Tryz.func131, Tryz.ntmps131
  go_wp2
  go_end0
  exact ⟨rfl, rfl⟩
theorem undo_some (a b c d : Addr) (g n k : Nat) (A : Option Addr) (x y : Value) (u : FrameMode) (w : World) (h0 : w.cell? a = some (.int .i64 4)) (h1 : w.cell? b = some (.slice A n k)) (h2 : w.cell? c = some x) (h3 : w.cell? d = some (.pointer (some ⟨g, 0, none⟩)))
    (h4 : w.cell? ⟨g, 1, none⟩ = some y) (f2 : w.frozen? c = false) (f4 : w.frozen? ⟨g, 1, none⟩ = false) (hne : c.block ≠ g) :
    CallsD Tryz.prog 131 #[.pointer (some a), .pointer (some b), .pointer (some c), .pointer (some d)] u w fun e u' w' => u' = u ∧ (e = .returned (.tuple #[]) ∧ w' = (w.setCell c (.slice none 0 0)).setCell ⟨g, 1, none⟩ (.slice A n k)) := by
  have h5 : (w.setCell c (.slice none 0 0)).cell? ⟨g, 1, none⟩ = some y := (World.cell?_setCell_far _ _ _ _ (fun e => hne e)).trans h4
  have f5 : (w.setCell c (.slice none 0 0)).frozen? ⟨g, 1, none⟩ = false := (World.frozen?_setCell _ _ _ _).trans f4
  go_enter_d Tryz.func131, Tryz.ntmps131
  go_wp2
  go_end0
  exact ⟨rfl, rfl⟩
theorem grow_then {a b c : World} {row : Option Nat} (h : a.grownBy b row) (k : Keep b c) : a.grownBy c row :=
  ⟨k.os.trans h.os, k.tape.trans h.tape, k.output.trans h.output, Nat.le_trans h.size k.size, fun i hi hne => (k.block i (Nat.lt_of_lt_of_le hi h.size)).trans (h.block i hi hne)⟩
/-- The reader's block, its second field given anew. -/
theorem two_put (w : World) (g n c n' c' : Nat) (A A' : Option Addr) (h : w.heap[g]? = some (.cells #[.bool true, .slice A n c] 186 (0, 0))) :
    (w.setCell ⟨g, 1, none⟩ (.slice A' n' c')).heap[g]? = some (.cells #[.bool true, .slice A' n' c'] 186 (0, 0)) ∧ w.grownBy (w.setCell ⟨g, 1, none⟩ (.slice A' n' c')) (some g) :=
  ⟨by rw [heap_setCell_same w g 1 _ _ _ h]; rfl, ⟨rfl, rfl, rfl, by simp [World.setCell], fun k _ hk => heap_setCell_other _ _ _ _ fun e => hk (by rw [e])⟩⟩
set_option maxRecDepth 100000 in
theorem step_in (g n c s : Nat) (A : Option Addr) (hs : s ≤ n) (hn : n ≤ c) (w : World) (h : w.heap[g]? = some (.cells #[.bool true, .slice A n c] 186 (0, 0))) :
    Calls Tryz.prog 127 #[.pointer (some ⟨g, 0, none⟩), .int .i64 (s : Int)] w fun e w' => e = .returned (.tuple #[.slice A s c, .int .i64 0]) ∧ w'.heap[g]? = some (.cells #[.bool true, .slice (cutA A c s) (n - s) (c - s)] 186 (0, 0)) ∧ w.grownBy w' (some g) := by
  have hmf : ∀ (fn : Fn) (first cap : Array Value) (w : World), (Instr.makeFunc fn first cap).run Tryz.prog w = .ok (.func fn first cap) w := fun _ _ _ _ => rfl
  have hcut := fun w => run_cut n c s A hs w
  have c1 : w.cell? ⟨g, 1, none⟩ = some (.slice A n c) := by simp [World.cell?, h]
  have f1 : w.frozen? ⟨g, 1, none⟩ = false := by simp [World.frozen?, h]
  have hl := lt_of_block h
  have hl1 : g < w.heap.size + 1 := by omega
  have hl2 : g < w.heap.size + 1 + 1 := by omega
  have hl3 : g < w.heap.size + 1 + 1 + 1 := by omega
  have hl4 : g < w.heap.size + 1 + 1 + 1 + 1 := by omega
  have b1 : (s : Int) ≤ (n : Int) := by omega
  have b2 : min (s : Int) (n : Int) = (s : Int) := by omega
  have b3 : (0 : Int) ≤ (s : Int) := Int.natCast_nonneg _
  have b4 : (s : Int) ≤ (c : Int) := by omega
  have HH := Lib.hid h
  clear h
  go_enter_defers Tryz.func127, Tryz.ntmps127
  go_wp2_with fail
  go_region
  go_wp2_with fail
  have HW := Lib.hid (two_put w g n c (n - s) (c - s) A (cutA A c s) HH.out)
  refine leaves_cons (f := 131) (args := #[.pointer (some ⟨w.heap.size + 1 + 1, 0, none⟩), .pointer (some ⟨w.heap.size + 1 + 1 + 1, 0, none⟩), .pointer (some ⟨w.heap.size + 1, 0, none⟩), .pointer (some ⟨w.heap.size, 0, none⟩)]) (by simp) (by simp [go_sem]) ?_
  refine (undo_none _ _ _ _ .returning _ (by simp [go_sem])).mono ?_
  rintro e u' w'' ⟨rfl, rfl, rfl⟩
  have HK := Lib.hid (((((Keep.refl (w.setCell ⟨g, 1, none⟩ (.slice (cutA A c s) (n - s) (c - s)))).alloc #[.pointer (some ⟨g, 0, none⟩)] 172).alloc #[.slice A s c] 22).alloc #[.int .i64 0] 29).alloc #[.slice A n c] 22).drew
  refine ⟨.tuple #[.slice A s c, .int .i64 0], by simp [results, Tryz.results127, go_sem], rfl, ?_, ?_⟩
  · exact (HK.out.block g (lt_of_block HW.out.1)).trans HW.out.1
  · exact grow_then HW.out.2 HK.out
set_option maxRecDepth 100000 in
theorem step_short (g n c : Nat) (s : Int) (A : Option Addr) (hs : (n : Int) < s) (hn : n ≤ c) (w : World) (h : w.heap[g]? = some (.cells #[.bool true, .slice A n c] 186 (0, 0))) :
    Calls Tryz.prog 127 #[.pointer (some ⟨g, 0, none⟩), .int .i64 s] w fun e w' => e = .returned (.tuple #[.slice none 0 0, .int .i64 4]) ∧ w'.heap[g]? = some (.cells #[.bool true, .slice A n c] 186 (0, 0)) ∧ w.grownBy w' (some g) := by
  have hmf : ∀ (fn : Fn) (first cap : Array Value) (w : World), (Instr.makeFunc fn first cap).run Tryz.prog w = .ok (.func fn first cap) w := fun _ _ _ _ => rfl
  have hcut := fun w => run_cut n c n A (Nat.le_refl _) w
  have c1 : w.cell? ⟨g, 1, none⟩ = some (.slice A n c) := by simp [World.cell?, h]
  have f1 : w.frozen? ⟨g, 1, none⟩ = false := by simp [World.frozen?, h]
  have hl := lt_of_block h
  have hl1 : g < w.heap.size + 1 := by omega
  have hl2 : g < w.heap.size + 1 + 1 := by omega
  have hl3 : g < w.heap.size + 1 + 1 + 1 := by omega
  have hl4 : g < w.heap.size + 1 + 1 + 1 + 1 := by omega
  have b2 : min s (n : Int) = (n : Int) := by omega
  have b3 : (0 : Int) ≤ (n : Int) := Int.natCast_nonneg _
  have b4 : (n : Int) ≤ (c : Int) := by omega
  have HH := Lib.hid h
  clear h
  go_enter_defers Tryz.func127, Tryz.ntmps127
  go_wp2_with fail
  go_region
  go_wp2_with fail
  have HW := Lib.hid (two_put w g n c 0 (c - n) A (cutA A c n) HH.out)
  have HK := Lib.hid (((((Keep.refl (w.setCell ⟨g, 1, none⟩ (.slice (cutA A c n) 0 (c - n)))).alloc #[.pointer (some ⟨g, 0, none⟩)] 172).alloc #[.slice A n c] 22).alloc #[.int .i64 4] 29).alloc #[.slice A n c] 22).drew
  have HF : Hid (w.heap.size = (w.setCell ⟨g, 1, none⟩ (.slice (cutA A c n) 0 (c - n))).heap.size) := by show _ = _; simp
  clear c1 f1
  have hne : w.heap.size + 1 ≠ g := by omega
  have hd1 : ¬ (w.heap.size + 1 = g) := by omega
  have hd2 : ¬ (w.heap.size + 1 + 1 = g) := by omega
  refine leaves_cons (f := 131) (args := #[.pointer (some ⟨w.heap.size + 1 + 1, 0, none⟩), .pointer (some ⟨w.heap.size + 1 + 1 + 1, 0, none⟩), .pointer (some ⟨w.heap.size + 1, 0, none⟩), .pointer (some ⟨w.heap.size, 0, none⟩)]) (by simp) (by simp [go_sem]) ?_
  refine (undo_some _ _ _ _ g n c A (.slice A n c) (.slice (cutA A c n) 0 (c - n)) .returning _ (by simp [go_sem]) (by simp [go_sem]) (by simp [go_sem]) (by simp [go_sem]) ?_ (by simp [go_sem]) ?_ hne).mono ?_
  · have e := (HK.out.block g (lt_of_block HW.out.1)).trans HW.out.1
    simp only [World.cell?, e]; rfl
  · have e := (HK.out.block g (lt_of_block HW.out.1)).trans HW.out.1
    simp only [World.frozen?, e]; rfl
  rintro e u' w'' ⟨rfl, rfl, rfl⟩
  have K2 := HK.out.setCell (a := ⟨w.heap.size + 1, 0, none⟩) (by rw [← HF.out]; exact Nat.le_succ _) (.slice none 0 0)
  have e2 := two_put _ g 0 (c - n) n c (cutA A c n) A ((K2.block g (lt_of_block HW.out.1)).trans HW.out.1)
  exact ⟨.tuple #[.slice none 0 0, .int .i64 4], by simp [results, Tryz.results127, go_sem], rfl, e2.1, (grow_then HW.out.2 K2).trans e2.2⟩
end Go.Proofs.YtifopodnceopjaaGreatDoor
