/- Contracts of the inverse, of Exp and of Log. -/
import Derived.Test.YtnknpohnlobgcaaBuild
namespace Go.Proofs.Ytnknpohnlobgcaa
open Go.RowKit
theorem field0_run (cs : Array Value) (w : World) : (Instr.field 52 (.agg cs) 0).run Try.prog w = .ok (.agg (cs.extract 0 255)) w := by kernel_rfl
theorem field1_run (cs : Array Value) (w : World) : (Instr.field 52 (.agg cs) 1).run Try.prog w = .ok (.agg (cs.extract 255 511)) w := by kernel_rfl
theorem part5 (cs : Array Value) (i : Nat) (v : Value) (h : cs[i]? = some v) (w : World) : (part 5 cs i).run Try.prog w = .ok v w := by
  have e : (part 5 cs i).run Try.prog w = (match cs[i]? with | some v => pure v | none => stuck "part: no such cell" : Sem Value).run Try.prog w := by kernel_rfl
  rw [e, h]; rfl
theorem index49_run (cs : Array Value) (n : Nat) (v : Value) (hn : n < 255) (h : cs[n]? = some v) (w : World) : (Instr.index 49 (.agg cs) (.int .i64 n)).run Try.prog w = .ok v w := by
  have h2 := part5 cs n v h w
  unfold Instr.index
  simp [Sem.run_bind, asIntOf, run_underlying Try.underlying49, h2]
  intro h3; omega
theorem index50_run (cs : Array Value) (n : Nat) (v : Value) (hn : n < 256) (h : cs[n]? = some v) (w : World) : (Instr.index 50 (.agg cs) (.int .u8 n)).run Try.prog w = .ok v w := by
  have h2 := part5 cs n v h w
  unfold Instr.index
  simp [Sem.run_bind, asIntOf, run_underlying Try.underlying50, h2]
  intro h3; omega
/-- The two tables, each as a value. -/
def tabP : Array Value := tabC.extract 0 255
def tabL : Array Value := tabC.extract 255 511
theorem field0_tab (w : World) : (Instr.field 52 (.agg tabC) 0).run Try.prog w = .ok (.agg tabP) w := field0_run _ w
theorem field1_tab (w : World) : (Instr.field 52 (.agg tabC) 1).run Try.prog w = .ok (.agg tabL) w := field1_run _ w
theorem index_tabP (n : Nat) (hn : n < 255) (w : World) : (Instr.index 49 (.agg tabP) (.int .i64 n)).run Try.prog w = .ok (.int .u8 (pw n : Nat)) w :=
  index49_run _ n _ hn (by rw [tabP, Array.getElem?_extract, if_pos (by rw [tabC_size]; omega), Nat.zero_add]; exact tabC_pw n hn) w
theorem index_tabL (n : Nat) (hn : n < 256) (h1 : 1 ≤ n) (w : World) : (Instr.index 50 (.agg tabL) (.int .u8 n)).run Try.prog w = .ok (.int .u8 (lg n : Nat)) w :=
  index50_run _ n _ hn (by rw [tabL, Array.getElem?_extract, if_pos (by rw [tabC_size]; omega)]; exact tabC_lg n hn h1) w
theorem info_tabC : (Try.prog.info? 52).map (·.size) = some tabC.size := by rw [info_tab, tabC_size]

theorem inv_zero (w : World) : Calls Try.prog 12 #[.int .u8 0] w fun e w' => e = .returned (.tuple #[.int .u8 0, .int .i64 1]) ∧ Grown w w' := by
  go_enter Try.func12, Try.ntmps12
  go_wp2
  go_ret2
  exact ⟨rfl, Grown.refl _⟩
set_option maxRecDepth 100000 in
theorem inv_pos (a : Nat) (ha : a < 256) (h1 : 1 ≤ a) (w : World) : Calls Try.prog 12 #[.int .u8 a] w fun e w' => e = .returned (.tuple #[.int .u8 (invN a : Nat), .int .i64 0]) ∧ Grown w w' := by
  have hz := zero_tab
  have h0 : ((a : Int) == 0) = false := beq_eq_false_iff_ne.2 (by omega)
  have hl := lg_lt a ha h1
  have c1 := tabC_lg a ha h1
  have c2 : tabC[(-((lg a : Nat) : Int) % 255).toNat]? = some (.int .u8 (invN a : Nat)) := by
    rw [show (-((lg a : Nat) : Int) % 255).toNat = (255 - lg a) % 255 by omega, tabC_pw _ (Nat.mod_lt _ (by decide)), invN, if_neg (by omega)]
  go_enter Try.func12, Try.ntmps12
  go_wp2_with fail
  refine (build_any _).mono ?_
  rintro e w1 ⟨rfl, hg⟩
  go_wp2_with (refine wpList_store_new rfl (.tmp 4) (.tmp 7) rfl tabC rfl rfl info_tabC zeros_size tabC_one ?_)
  go_ret2
  exact ⟨rfl, hg.alloc _ _⟩
theorem exp_in (n : Nat) (hn : n < 255) (w : World) : Calls Try.prog 20 #[.int .i64 n] w fun e w' => e = .returned (.tuple #[.int .u8 (pw n : Nat), .int .i64 0]) ∧ Grown w w' := by
  have b1 : decide ((n : Int) < 0) = false := decide_eq_false (by omega)
  have b2 : decide (255 ≤ (n : Int)) = false := decide_eq_false (by omega)
  have f0 := field0_tab
  have i0 := index_tabP n hn
  go_enter Try.func20, Try.ntmps20
  go_wp2_with fail
  refine (build_any _).mono ?_
  rintro e w1 ⟨rfl, hg⟩
  go_wp2
  go_ret2
  exact ⟨rfl, hg⟩
theorem log_pos (a : Nat) (ha : a < 256) (h1 : 1 ≤ a) (w : World) : Calls Try.prog 22 #[.int .u8 a] w fun e w' => e = .returned (.tuple #[.int .i64 (lg a : Nat), .int .i64 0]) ∧ Grown w w' := by
  have h0 : ((a : Int) == 0) = false := beq_eq_false_iff_ne.2 (by omega)
  have f0 := field1_tab
  have i0 := index_tabL a ha h1
  have hl := lg_lt a ha h1
  go_enter Try.func22, Try.ntmps22
  go_wp2_with fail
  refine (build_any _).mono ?_
  rintro e w1 ⟨rfl, hg⟩
  go_wp2
  go_ret2
  exact ⟨rfl, hg⟩
theorem log_zero (w : World) : Calls Try.prog 22 #[.int .u8 0] w fun e w' => e = .returned (.tuple #[.int .i64 0, .int .i64 1]) ∧ Grown w w' := by
  go_enter Try.func22, Try.ntmps22
  go_wp2
  go_ret2
  exact ⟨rfl, Grown.refl _⟩
theorem exp_out (n : Int) (hn : n < 0 ∨ 255 ≤ n) (w : World) : Calls Try.prog 20 #[.int .i64 n] w fun e w' => e = .returned (.tuple #[.int .u8 0, .int .i64 1]) ∧ Grown w w' := by
  rcases hn with hn | hn
  · have b1 : decide ((n : Int) < 0) = true := decide_eq_true (by omega)
    go_enter Try.func20, Try.ntmps20
    go_wp2
    go_ret2
    exact ⟨rfl, Grown.refl _⟩
  · have b1 : decide ((n : Int) < 0) = false := decide_eq_false (by omega)
    have b2 : decide (255 ≤ (n : Int)) = true := decide_eq_true (by omega)
    go_enter Try.func20, Try.ntmps20
    go_wp2
    go_ret2
    exact ⟨rfl, Grown.refl _⟩
end Go.Proofs.Ytnknpohnlobgcaa
