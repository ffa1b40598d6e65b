/- Rows whose leads go down: each is new. -/
import Derived.Test.YticllkklbogcnaaBset
namespace Go.Proofs.Yticllkklbogcnaa
open Lin
set_option linter.unusedVariables false
/-- Row i: its lead is at 254 - i. -/
def upC (i : Nat) : List Nat := (List.replicate 255 0).set (254 - i) (1 + i % 255)
def upRow (i : Nat) : List Nat := upC i ++ [i % 256]
theorem upC_len (i : Nat) : (upC i).length = 255 := by rw [upC, List.length_set, List.length_replicate]
theorem upC_all (i : Nat) : AllB (upC i) := fun x hx => by
  rcases List.mem_or_eq_of_mem_set hx with h | rfl
  · exact AllB.zeros 255 x h
  · omega
theorem upRow_len (i : Nat) : (upRow i).length = 255 + 1 := by simp [upRow, upC_len]
theorem upRow_all (i : Nat) : AllB (upRow i) := (upC_all i).append fun x hx => by
  rw [List.mem_singleton] at hx
  subst hx; omega
theorem upRow_at {i : Nat} (hi : i < 255) : (upRow i).getD (254 - i) 0 = 1 + i % 255 := by
  rw [upRow, List.getD_eq_getElem?_getD, List.getElem?_append_left (by rw [upC_len]; omega), upC, List.getElem?_set, if_pos rfl, if_pos (by rw [List.length_replicate]; omega)]; rfl
theorem upRow_less {i j : Nat} (h : j + i < 254) : (upRow i).getD j 0 = 0 := by
  rw [upRow, List.getD_eq_getElem?_getD, List.getElem?_append_left (by rw [upC_len]; omega), upC, List.getElem?_set, if_neg (by omega), List.getElem?_replicate, if_pos (by omega)]; rfl
/-- The basis behind i rows is naught left of its leads. -/
def Up (i : Nat) (B : List (List Nat)) : Prop := Bas 255 1 B ∧ B.length = i ∧ ∀ k, k < B.length → ∀ j, j + i < 255 → fn B k j = 0
theorem Up.nil : Up 0 [] := ⟨Bas.nil 255 1, rfl, fun k hk => absurd hk (by simp)⟩
theorem Up.step {i : Nat} {B : List (List Nat)} (h : Up i B) (hi : i < 255) : ¬ inB 255 1 B (upRow i) ∧ Up (i + 1) (insB 255 1 B (upRow i)) := by
  obtain ⟨hB, hlen, hz⟩ := h
  have hl := upRow_len i
  have ha := upRow_all i
  obtain ⟨l, hr, hlt⟩ := hB.leads
  have hn : ¬ inB 255 1 B (upRow i) := fun hin => by
    have h1 := vLead_none hin (254 - i) (by omega)
    have h2 := (vec_zero_iff (left_all (B := B) hB.ok ha) (254 - i)).2 h1
    rw [left_vec hB.ok hr hl ha] at h2
    have h3 : comb B.length (fn B) (fun k => vec (upRow i) (l k)) (254 - i) = 0 := sm_zero laws _ fun k hk => by
      rw [hz k hk (254 - i) (by omega), laws.mul_zero]
    have h4 : vec (upRow i) (254 - i) = 0 := by
      have h5 : vec (upRow i) (254 - i) + comb B.length (fn B) (fun k => vec (upRow i) (l k)) (254 - i) = 0 := h2
      rw [h3, laws.add_zero] at h5; exact h5
    have h6 := (vec_zero_iff ha (254 - i)).1 h4
    rw [upRow_at hi] at h6
    omega
  refine ⟨hn, insB_bas hB hl ha, by rw [insB_len, if_neg hn, hlen], fun k hk j hj => ?_⟩
  obtain ⟨hT, hS⟩ := insertN_red hB.red hl ha
  rw [insB_new hn] at hk ⊢
  have hx : Makes (B ++ [upRow i]) (fn (insertN (255 + 1) B (upRow i)) k) := InSpan.trans laws (InSpan.row laws _ hk) hS.1
  obtain ⟨y, b, ⟨c, rfl⟩, hb, e⟩ := makes_append.1 hx
  obtain ⟨d, rfl⟩ := makes_one hb
  rw [e]
  show comb B.length (fn B) c j + d * vec (upRow i) j = 0
  have h1 : comb B.length (fn B) c j = 0 := sm_zero laws _ fun k hk => by rw [hz k hk j (by omega), laws.mul_zero]
  rw [h1, (vec_zero_iff ha j).2 (upRow_less (by omega)), laws.mul_zero, laws.add_zero]
end Go.Proofs.Yticllkklbogcnaa
