/- SourceLinear: linear rows, plain; a struct of eight fields. -/
import Derived.Test.YtcafofffgmaepaaSL
import Derived.Test.YtcafofffgmaepaaStructs
import Derived.Test.YtcafofffgmaepaaPadw
namespace Go.Proofs.Ytcafofffgmaepaa
open Go.RowKit Go.ChangeShapes Go.WideShapes Go.Deep
set_option linter.unusedVariables false
set_option linter.unusedSimpArgs false
/-- The row of a sum. -/
theorem comb_adds (m k x : Nat) (R : List (List Nat)) (C D : List Nat) (hR : ∀ i, AllB (R.getD i [])) (hC : AllB C) (hD : AllB D) (hx : x < 256) : vComb m R (vAddS k C D x) k = vAddS m (vComb m R C k) (vComb m R D k) x := tab_congr fun j hj => by
  rw [vComb, tab_getD, if_pos hj, vComb, tab_getD, if_pos hj, vCombAt, vCombAt, vCombAt, ← sumX_mul _ _ _ fun i _ => mulN_lt _ ((hR i).getD j), ← sumX_xor]
  exact sumX_congr fun i hi => by rw [vAddS, tab_getD, if_pos hi, mul_xor_right _ _ _ ((hR i).getD j) (hC.getD i) (mulN_lt _ (hD.getD i)), mul_assoc' _ _ _ ((hR i).getD j) (hD.getD i) hx]
theorem comb_unit (m k i : Nat) (R : List (List Nat)) (hR : AllB (R.getD i [])) (hl : (R.getD i []).length = m) (hi : i < k) : vComb m R (vUnit k i) k = R.getD i [] := by
  have e : vComb m R (vUnit k i) k = tab m fun j => (R.getD i []).getD j 0 := tab_congr fun j hj => by
    rw [vCombAt, sumX_one _ k i hi fun i' hi' hne => by rw [vUnit, tab_getD, if_pos hi', if_neg hne, mul_zero_right]]
    rw [vUnit, tab_getD, if_pos hi, if_pos rfl, mul_one_right _ (hR.getD j)]
  rw [e, ← hl, tab_self]
theorem coefN_live (n k : Nat) (xs : List Nat) (hk : k < n) : ¬ vLead n (coefN n k xs) < 0 := by
  unfold coefN
  split
  · rw [vLead_unit n k hk]; omega
  · assumption
theorem sendN_unit (g i : Nat) (D : List Nat) (h : i < g) : sendN g i D = vUnit g i := by rw [sendN, if_pos h]
theorem sendN_live (g i : Nat) (D : List Nat) (h : 0 < g) : ¬ vLead g (sendN g i D) < 0 := by
  unfold sendN; split
  · rename_i hi
    rw [vLead_unit g i hi]; omega
  · exact coefN_live g _ D (Nat.mod_lt _ h)
theorem lin_start {P : Nat} {g s : Nat} (hz : SizeS g s P) : gensN (P - 4) [] [] = [] := (gens_bare (by have := hz.lo; omega)).1
theorem lin_would {room : Nat} (h1 : 1 ≤ room) (ys : List Nat) (hy : 1 ≤ ys.length) : wouldN room [] ([] ++ ys) ≤ ys.length := by
  rw [would_div h1 (fun c h => by simp at h), (gens_bare h1).1, (gens_bare h1).2.1]
  obtain ⟨a, ha⟩ : ∃ a, ys.length = a + 1 := ⟨ys.length - 1, by omega⟩
  obtain ⟨b, rfl⟩ : ∃ b, room = b + 1 := ⟨room - 1, by omega⟩
  rw [ha]
  simp only [List.length_nil, Nat.zero_add]
  refine Nat.div_le_of_le_mul ?_
  rw [Nat.add_mul, Nat.mul_add]
  omega
/-- Behind a Flush of something there is a generation. -/
theorem lin_gens {g s P : Nat} {xs cs : List Nat} {M : List (List Nat)} (h : GoodS g s P xs cs M) (hx : 1 ≤ xs.length) : 1 ≤ (gensN (P - 4) (flushC P false xs cs) xs).length := by
  unfold flushC
  split
  · rename_i ho
    rw [(gens_cut h.room ho.2).1, List.length_append]
    simp
  · rename_i ho
    have ho' : openN (P - 4) cs xs = [] := by
      by_cases e : openN (P - 4) cs xs = []
      · exact e
      · exact absurd ⟨rfl, e⟩ ho
    have hf := h.openL
    rw [ho', h.gens] at hf
    rcases Nat.eq_zero_or_pos (gensN (P - 4) cs xs).length with e | e
    · rw [List.eq_nil_of_length_eq_zero e] at hf
      have h2 : xs.length = 0 := hf
      omega
    · exact e
section
variable {H : Type} {enc : TypeId × Value → H} {P : Program} {W : World}
theorem arg_lines {t tu th e : TypeId} {f0 f1 f2 f3 f4 f5 f6 f7 : Field} (ht : P.underlying t = some (.struct #[f0, f1, f2, f3, f4, f5, f6, f7])) (hone : oneCellFields P #[f0, f1, f2, f3, f4, f5, f6, f7] = true) (hC : P.cellsOf t = 8)
    (hf0 : f0.type = e) (hf1 : f1.type = e) (hf2 : f2.type = tu) (hf3 : f3.type = tu) (hf4 : f4.type = tu) (hf5 : f5.type = e) (hf6 : f6.type = th) (hf7 : f7.type = th) (hu : P.underlying tu = some (.slice e)) (he : P.underlying e = some (.int .u8)) (hth : P.underlying th = some (.int .u16)) (hc : P.cellsOf e = 1) (hb : P.bytesOf e = 1)
    {ts : List TypeId} {ds : List (DataW H)} (hsz : (DataW.weightsEach P ts ds).all (· ≤ reachBytes) = true) {j : Nat} (hj : ts[j]? = some t) {v : Value} {d : DataW H} {p : List MemPlace} (hd : ds[j]? = some d)
    {base : Nat} (hv : Value.okWide P W .any base t v) (h : DataW.Trod enc P W 0 (fun _ => true) true t v d p) :
    ∃ (G S C M N n1 c1 n2 c2 n3 c3 : Nat) (A1 A2 A3 : Option Addr) (xs ys zs : List Nat), v = .agg #[.int .u8 (G : Int), .int .u8 (S : Int), .slice A1 n1 c1, .slice A2 n2 c2, .slice A3 n3 c3, .int .u8 (C : Int), .int .u16 (M : Int), .int .u16 (N : Int)] ∧ G < 256 ∧ S < 256 ∧ C < 256 ∧ M < 65536 ∧ N < 65536 ∧
      (Bytes W W.heap.size A1 n1 xs ∧ n1 ≤ 140737488351232 ∧ n1 ≤ c1) ∧ (Bytes W W.heap.size A2 n2 ys ∧ n2 ≤ 140737488351232 ∧ n2 ≤ c2) ∧ Bytes W W.heap.size A3 n3 zs ∧ n3 ≤ 140737488351232 ∧ n3 ≤ c3 := by
  obtain ⟨cs, rfl, hl, hf⟩ := arg_fields ht hone (by rw [hC]; rfl) hsz hj hd hv h
  match cs, hl with
  | [v0, v1, v2, v3, v4, v5, v6, v7], _ =>
    obtain ⟨u0, d0, p0, m0, e0, t0, w0⟩ := hf 0 f0 rfl
    obtain ⟨u1, d1, p1, m1, e1, t1, w1⟩ := hf 1 f1 rfl
    obtain ⟨u2, d2, p2, m2, e2, t2, w2⟩ := hf 2 f2 rfl
    obtain ⟨u3, d3, p3, m3, e3, t3, w3⟩ := hf 3 f3 rfl
    obtain ⟨u4, d4, p4, m4, e4, t4, w4⟩ := hf 4 f4 rfl
    obtain ⟨u5, d5, p5, m5, e5, t5, w5⟩ := hf 5 f5 rfl
    obtain ⟨u6, d6, p6, m6, e6, t6, w6⟩ := hf 6 f6 rfl
    obtain ⟨u7, d7, p7, m7, e7, t7, w7⟩ := hf 7 f7 rfl
    simp at e0 e1 e2 e3 e4 e5 e6 e7
    subst e0 e1 e2 e3 e4 e5 e6 e7
    rw [hf0] at t0
    rw [hf1] at t1
    rw [hf2] at t2 w2
    rw [hf3] at t3 w3
    rw [hf4] at t4 w4
    rw [hf5] at t5
    rw [hf6] at t6
    rw [hf7] at t7
    have u16 : ∀ a : Int, (Lit.int .u16 a).wf = true → ∃ n : Nat, a = n ∧ n < 65536 := fun a h => by
      have h2 := bounds_u16 h
      obtain ⟨n, rfl⟩ := Int.eq_ofNat_of_zero_le h2.1
      exact ⟨n, rfl, by omega⟩
    have u8 : ∀ a : Int, (Lit.int .u8 a).wf = true → ∃ n : Nat, a = n ∧ n < 256 := fun a h => by
      have h2 := bounds_u8 h
      obtain ⟨n, rfl⟩ := Int.eq_ofNat_of_zero_le h2.1
      exact ⟨n, rfl, by omega⟩
    obtain ⟨a0, rfl, z0⟩ := int_of he t0
    obtain ⟨a1, rfl, z1⟩ := int_of he t1
    obtain ⟨a5, rfl, z5⟩ := int_of he t5
    obtain ⟨a6, rfl, z6⟩ := int_of hth t6
    obtain ⟨a7, rfl, z7⟩ := int_of hth t7
    obtain ⟨G, rfl, hG⟩ := u8 _ z0
    obtain ⟨S, rfl, hS⟩ := u8 _ z1
    obtain ⟨C, rfl, hC'⟩ := u8 _ z5
    obtain ⟨M, rfl, hM⟩ := u16 _ z6
    obtain ⟨N, rfl, hN⟩ := u16 _ z7
    obtain ⟨A1, n1, c1, xs, rfl, b1, l1, k1⟩ := bytes_of hu he hc hb t2 w2
    obtain ⟨A2, n2, c2, ys, rfl, b2, l2, k2⟩ := bytes_of hu he hc hb t3 w3
    obtain ⟨A3, n3, c3, zs, rfl, b3, l3, k3⟩ := bytes_of hu he hc hb t4 w4
    exact ⟨G, S, C, M, N, n1, c1, n2, c2, n3, c3, A1, A2, A3, xs, ys, zs, rfl, hG, hS, hC', hM, hN, ⟨b1, l1, k1⟩, ⟨b2, l2, k2⟩, b3, l3, k3⟩
end
end Go.Proofs.Ytcafofffgmaepaa
