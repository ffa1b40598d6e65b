/- That combinations and products are linear; a combination of cut rows, as a call. -/
import Derived.Test.YtkinhhplhkbljaaCuts
namespace Go.Proofs.Ytkinhhplhkbljaa
open Go.RowKit
theorem comb_call {w wr : World} {A1 Al A' : Option Addr} {na m k cl cb B' : Nat} {rs : List RowV} {C : List Nat} (h : RowsAt w w.heap.size A1 na rs) (hl : OwnRows wr w.heap.size 22 Al k cl (cuts m rs k)) (hk : Keep w wr)
    (hm : ∀ i r, i < k → rs[i]? = some r → m ≤ r.n) (h' : Bytes wr B' A' k C) (hB' : B' ≤ wr.heap.size) (h0 : k ≠ 0) (hkn : k ≤ na) (hn : k ≤ 140737488351232) :
    Calls Try.prog 23 #[.slice Al k cl, .slice A' k cb] wr (NewPair wr (vComb m (rowsOf (cuts m rs k)) C k) 0) := by
  have hrl := h.1
  have hr0 := List.getElem?_eq_getElem (show 0 < rs.length by omega)
  have hcb := vcomb_any _ _ k cl cb Al A' (cuts m rs k) C wr (cuts_rows h hl hk hm) h' (Nat.le_refl _) hB' h0 hn (rs[0].cut m) (cuts_get m rs k 0 _ (by omega) hr0)
  obtain ⟨c1, c2⟩ := cuts_comb m k rs C (by omega)
  rw [show (rs[0].cut m).n = m from rfl, c1, c2] at hcb
  exact hcb
theorem comb_add (m k : Nat) (R : List (List Nat)) (C D : List Nat) (hR : ∀ i, AllB (R.getD i [])) (hC : AllB C) (hD : AllB D) : vComb m R (vAdd k C D) k = vAdd m (vComb m R C k) (vComb m R D k) := tab_congr fun j hj => by
  rw [vComb, tab_getD, if_pos hj, vComb, tab_getD, if_pos hj, vCombAt, vCombAt, vCombAt, ← sumX_xor]
  exact sumX_congr fun i hi => by rw [vAdd, tab_getD, if_pos hi, mul_xor_right _ _ _ ((hR i).getD j) (hC.getD i) (hD.getD i)]
theorem comb_scale (m k x : Nat) (R : List (List Nat)) (C : List Nat) (hR : ∀ i, AllB (R.getD i [])) (hC : AllB C) (hx : x < 256) : vComb m R (vScale k C x) k = vScale m (vComb m R C k) x := tab_congr fun j hj => by
  rw [vComb, tab_getD, if_pos hj, vCombAt, vCombAt, ← sumX_mul _ _ _ fun i _ => mulN_lt _ ((hR i).getD j)]
  exact sumX_congr fun i hi => by rw [vScale, tab_getD, if_pos hi, mul_assoc' _ _ _ ((hR i).getD j) (hC.getD i) hx]
theorem comb_unit (m k i : Nat) (R : List (List Nat)) (hR : AllB (R.getD i [])) (hl : (R.getD i []).length = m) (hi : i < k) : vComb m R (vUnit k i) k = R.getD i [] := by
  have e : vComb m R (vUnit k i) k = tab m fun j => (R.getD i []).getD j 0 := tab_congr fun j hj => by
    rw [vCombAt, sumX_one _ k i hi fun i' hi' hne => by rw [vUnit, tab_getD, if_pos hi', if_neg hne, mul_zero_right]]
    rw [vUnit, tab_getD, if_pos hi, if_pos rfl, mul_one_right _ (hR.getD j)]
  rw [e, ← hl, tab_self]
theorem dot_comm (k : Nat) (C D : List Nat) (hC : AllB C) (hD : AllB D) : vDot k D C = vDot k C D := sumX_congr fun i _ => mul_comm' _ _ (hD.getD i) (hC.getD i)
theorem dot_add (k : Nat) (C D E : List Nat) (hC : AllB C) (hD : AllB D) : vDot k (vAdd k C D) E = vDot k C E ^^^ vDot k D E := by
  rw [vDot, vDot, vDot, ← sumX_xor]
  exact sumX_congr fun i hi => by rw [vAdd, tab_getD, if_pos hi, mul_xor_left _ _ _ (hC.getD i) (hD.getD i)]
theorem dot_scale (k x : Nat) (C D : List Nat) (hC : AllB C) (hD : AllB D) (hx : x < 256) : vDot k (vScale k C x) D = mulN (vDot k C D) x := by
  rw [vDot, vDot, ← sumX_mul _ _ _ fun i _ => mulN_lt _ (hC.getD i)]
  exact sumX_congr fun i hi => by rw [vScale, tab_getD, if_pos hi, mul_assoc' _ _ _ (hC.getD i) hx (hD.getD i), mul_comm' x _ hx (hD.getD i), ← mul_assoc' _ _ _ (hC.getD i) (hD.getD i) hx]
theorem vDot_lt (k : Nat) (C D : List Nat) (hC : AllB C) : vDot k C D < 256 := sumX_lt _ _ fun i _ => mulN_lt _ (hC.getD i)
theorem min4c (a b c n : Nat) (h : min (a : Int) (min (b : Int) (min (c : Int) 20)) = (n : Int)) (w : World) :
    (Builtin.min_ #[3, 3, 3, 3] 3 #[.int .i64 a, .int .i64 b, .int .i64 c, .int .i64 20]).run Try.prog w = .ok (.int .i64 n) w := by
  simp [Builtin.min_, Builtin.min2]
  by_cases h1 : b < a
  · simp only [if_pos h1]
    by_cases h2 : (c : Int) < (b : Int)
    · simp only [if_pos h2]
      split <;> omega
    · simp only [if_neg h2]
      split <;> omega
  · simp only [if_neg h1]
    by_cases h2 : (c : Int) < (a : Int)
    · simp only [if_pos h2]
      split <;> omega
    · simp only [if_neg h2]
      split <;> omega
theorem str_later {w : World} {B n c : Nat} {A : Option Addr} {xs : List Nat} (h : Bytes w B A n xs) (hB : B ≤ w.heap.size) : ∀ w', Keep w w' → (convert 22 9 (.slice A n c)).run Try.prog w' = .ok (.string (strN xs)) w' :=
  fun _ k => run_str (h.keep hB k) Try.underlying22 Try.underlying5 Try.underlying9 c
end Go.Proofs.Ytkinhhplhkbljaa
