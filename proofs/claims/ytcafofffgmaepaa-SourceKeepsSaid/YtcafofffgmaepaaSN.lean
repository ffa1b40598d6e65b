/- SourceLinear: linear rows, plain; a struct of eight fields. -/
import Derived.Test.YtcafofffgmaepaaSL
import Derived.Test.YtcafofffgmaepaaStructs
import Derived.Test.YtcafofffgmaepaaPadw
namespace Go.Proofs.Ytcafofffgmaepaa
open Go.RowKit Go.ChangeShapes Go.WideShapes Go.Deep
set_option linter.unusedVariables false
set_option linter.unusedSimpArgs false
/-- The row of a sum. -/
theorem comb_adds (m k x : Nat) (R : List (List Nat)) (C D : List Nat) (hR : ∀ i, AllB (R.getD i [])) (hC : AllB C) (hD : AllB D) (hx : x < 256) : vComb m R (vAddS k C D x) k = vAddS m (vComb m R C k) (vComb m R D k) x := tab_congr fun j hj => by
  rw [vComb, tab_getD, if_pos hj, vComb, tab_getD, if_pos hj, vCombAt, vCombAt, vCombAt, ← sumX_mul _ _ _ fun i _ => mulN_lt _ ((hR i).getD j), ← sumX_xor]
  exact sumX_congr fun i hi => by rw [vAddS, tab_getD, if_pos hi, mul_xor_right _ _ _ ((hR i).getD j) (hC.getD i) (mulN_lt _ (hD.getD i)), mul_assoc' _ _ _ ((hR i).getD j) (hD.getD i) hx]
theorem comb_unit (m k i : Nat) (R : List (List Nat)) (hR : AllB (R.getD i [])) (hl : (R.getD i []).length = m) (hi : i < k) : vComb m R (vUnit k i) k = R.getD i [] := by
  have e : vComb m R (vUnit k i) k = tab m fun j => (R.getD i []).getD j 0 := tab_congr fun j hj => by
    rw [vCombAt, sumX_one _ k i hi fun i' hi' hne => by rw [vUnit, tab_getD, if_pos hi', if_neg hne, mul_zero_right]]
    rw [vUnit, tab_getD, if_pos hi, if_pos rfl, mul_one_right _ (hR.getD j)]
  rw [e, ← hl, tab_self]
theorem coefN_live (n k : Nat) (xs : List Nat) (hk : k < n) : ¬ vLead n (coefN n k xs) < 0 := by
  unfold coefN
  split
  · rw [vLead_unit n k hk]; omega
  · assumption
theorem sendN_unit (g i : Nat) (D : List Nat) (h : i < g) : sendN g i D = vUnit g i := by rw [sendN, if_pos h]
theorem sendN_live (g i : Nat) (D : List Nat) (h : 0 < g) : ¬ vLead g (sendN g i D) < 0 := by
  unfold sendN; split
  · rename_i hi
    rw [vLead_unit g i hi]; omega
  · exact coefN_live g _ D (Nat.mod_lt _ h)
theorem lin_start {P : Nat} {g s : Nat} (hz : SizeS g s P) : gensN (P - 4) [] [] = [] := (gens_bare (by have := hz.lo; omega)).1
theorem lin_would {room : Nat} (h1 : 1 ≤ room) (ys : List Nat) (hy : 1 ≤ ys.length) : wouldN room [] ([] ++ ys) ≤ ys.length := by
  rw [would_div h1 (fun c h => by simp at h), (gens_bare h1).1, (gens_bare h1).2.1]
  obtain ⟨a, ha⟩ : ∃ a, ys.length = a + 1 := ⟨ys.length - 1, by omega⟩
  obtain ⟨b, rfl⟩ : ∃ b, room = b + 1 := ⟨room - 1, by omega⟩
  rw [ha]
  simp only [List.length_nil, Nat.zero_add]
  refine Nat.div_le_of_le_mul ?_
  rw [Nat.add_mul, Nat.mul_add]
  omega
/-- Behind a Flush of something there is a generation. -/
theorem lin_gens {g s P : Nat} {xs cs : List Nat} {M : List (List Nat)} (h : GoodS g s P xs cs M) (hx : 1 ≤ xs.length) : 1 ≤ (gensN (P - 4) (flushC P false xs cs) xs).length := by
  unfold flushC
  split
  · rename_i ho
    rw [(gens_cut h.room ho.2).1, List.length_append]
    simp
  · rename_i ho
    have ho' : openN (P - 4) cs xs = [] := by
      by_cases e : openN (P - 4) cs xs = []
      · exact e
      · exact absurd ⟨rfl, e⟩ ho
    have hf := h.openL
    rw [ho', h.gens] at hf
    rcases Nat.eq_zero_or_pos (gensN (P - 4) cs xs).length with e | e
    · rw [List.eq_nil_of_length_eq_zero e] at hf
      have h2 : xs.length = 0 := hf
      omega
    · exact e
section
variable {H : Type} {enc : TypeId × Value → H} {P : Program} {W : World}
theorem arg_lines {t tu th e : TypeId} {f0 f1 f2 f3 f4 f5 f6 f7 : Field} (ht : P.underlying t = some (.struct #[f0, f1, f2, f3, f4, f5, f6, f7])) (hone : oneCellFields P #[f0, f1, f2, f3, f4, f5, f6, f7] = true) (hC : P.cellsOf t = 8)
    (hf0 : f0.type = e) (hf1 : f1.type = e) (hf2 : f2.type = tu) (hf3 : f3.type = tu) (hf4 : f4.type = tu) (hf5 : f5.type = e) (hf6 : f6.type = th) (hf7 : f7.type = th) (hu : P.underlying tu = some (.slice e)) (he : P.underlying e = some (.int .u8)) (hth : P.underlying th = some (.int .u16)) (hc : P.cellsOf e = 1) (hb : P.bytesOf e = 1)
    {ts : List TypeId} {ds : List (DataW H)} (hsz : (DataW.weightsEach P ts ds).all (· ≤ reachBytes) = true) {j : Nat} (hj : ts[j]? = some t) {v : Value} {d : DataW H} {p : List MemPlace} (hd : ds[j]? = some d)
    {base : Nat} (hv : Value.okWide P W .any base t v) (h : DataW.Trod enc P W 0 (fun _ => true) true t v d p) :
    ∃ (G S C M N n1 c1 n2 c2 n3 c3 : Nat) (A1 A2 A3 : Option Addr) (xs ys zs : List Nat), v = .agg #[.int .u8 (G : Int), .int .u8 (S : Int), .slice A1 n1 c1, .slice A2 n2 c2, .slice A3 n3 c3, .int .u8 (C : Int), .int .u16 (M : Int), .int .u16 (N : Int)] ∧ G < 256 ∧ S < 256 ∧ C < 256 ∧ M < 65536 ∧ N < 65536 ∧
      (Bytes W W.heap.size A1 n1 xs ∧ n1 ≤ 140737488351232 ∧ n1 ≤ c1) ∧ (Bytes W W.heap.size A2 n2 ys ∧ n2 ≤ 140737488351232 ∧ n2 ≤ c2) ∧ Bytes W W.heap.size A3 n3 zs ∧ n3 ≤ 140737488351232 ∧ n3 ≤ c3 := by
  obtain ⟨cs, rfl, hl, hf⟩ := arg_fields ht hone (by rw [hC]; rfl) hsz hj hd hv h
  match cs, hl with
  | [v0, v1, v2, v3, v4, v5, v6, v7], _ =>
    obtain ⟨u0, d0, p0, m0, e0, t0, w0⟩ := hf 0 f0 rfl
    obtain ⟨u1, d1, p1, m1, e1, t1, w1⟩ := hf 1 f1 rfl
    obtain ⟨u2, d2, p2, m2, e2, t2, w2⟩ := hf 2 f2 rfl
    obtain ⟨u3, d3, p3, m3, e3, t3, w3⟩ := hf 3 f3 rfl
    obtain ⟨u4, d4, p4, m4, e4, t4, w4⟩ := hf 4 f4 rfl
    obtain ⟨u5, d5, p5, m5, e5, t5, w5⟩ := hf 5 f5 rfl
    obtain ⟨u6, d6, p6, m6, e6, t6, w6⟩ := hf 6 f6 rfl
    obtain ⟨u7, d7, p7, m7, e7, t7, w7⟩ := hf 7 f7 rfl
    simp at e0 e1 e2 e3 e4 e5 e6 e7
    subst e0 e1 e2 e3 e4 e5 e6 e7
    rw [hf0] at t0
    rw [hf1] at t1
    rw [hf2] at t2 w2
    rw [hf3] at t3 w3
    rw [hf4] at t4 w4
    rw [hf5] at t5
    rw [hf6] at t6
    rw [hf7] at t7
    have u16 : ∀ a : Int, (Lit.int .u16 a).wf = true → ∃ n : Nat, a = n ∧ n < 65536 := fun a h => by
      have h2 := bounds_u16 h
      obtain ⟨n, rfl⟩ := Int.eq_ofNat_of_zero_le h2.1
      exact ⟨n, rfl, by omega⟩
    have u8 : ∀ a : Int, (Lit.int .u8 a).wf = true → ∃ n : Nat, a = n ∧ n < 256 := fun a h => by
      have h2 := bounds_u8 h
      obtain ⟨n, rfl⟩ := Int.eq_ofNat_of_zero_le h2.1
      exact ⟨n, rfl, by omega⟩
    obtain ⟨a0, rfl, z0⟩ := int_of he t0
    obtain ⟨a1, rfl, z1⟩ := int_of he t1
    obtain ⟨a5, rfl, z5⟩ := int_of he t5
    obtain ⟨a6, rfl, z6⟩ := int_of hth t6
    obtain ⟨a7, rfl, z7⟩ := int_of hth t7
    obtain ⟨G, rfl, hG⟩ := u8 _ z0
    obtain ⟨S, rfl, hS⟩ := u8 _ z1
    obtain ⟨C, rfl, hC'⟩ := u8 _ z5
    obtain ⟨M, rfl, hM⟩ := u16 _ z6
    obtain ⟨N, rfl, hN⟩ := u16 _ z7
    obtain ⟨A1, n1, c1, xs, rfl, b1, l1, k1⟩ := bytes_of hu he hc hb t2 w2
    obtain ⟨A2, n2, c2, ys, rfl, b2, l2, k2⟩ := bytes_of hu he hc hb t3 w3
    obtain ⟨A3, n3, c3, zs, rfl, b3, l3, k3⟩ := bytes_of hu he hc hb t4 w4
    exact ⟨G, S, C, M, N, n1, c1, n2, c2, n3, c3, A1, A2, A3, xs, ys, zs, rfl, hG, hS, hC', hM, hN, ⟨b1, l1, k1⟩, ⟨b2, l2, k2⟩, b3, l3, k3⟩
end
end Go.Proofs.Ytcafofffgmaepaa
/- A copy into a row of noughts that lies; two of them made. -/
namespace Go.Proofs.Ytcafofffgmaepaa
open Go.RowKit
set_option linter.unusedVariables false
theorem run_copy_into {P : Program} {W w : World} {B m n c ty t e : Nat} {A : Option Addr} {xs : List Nat} (p : Nat) (ht : P.underlying t = some (.slice e)) (hs : (P.info? e).map (·.size) = some 1) (ha : w.heap[p]? = some (.cells (madeCells #[.int .u8 0] n) e (0, 0))) (h : Bytes w B A m xs) (hn : n ≤ 140737488355328) (hW : Keep W w) (hp : W.heap.size ≤ p) :
    ∃ w' v, (Builtin.copy_ #[t, t] ty #[.slice (some ⟨p, 0, none⟩) n n, .slice A m c]).run P w = .ok v w' ∧ Own w' p e (some ⟨p, 0, none⟩) n n (fillN xs n) ∧ Keep W w' ∧ Turned (fun i => i = p) w w' := by
  have hz : (madeCells #[Value.int .u8 0] n).toList = u8s (List.replicate n 0) := by rw [toList_madeCells_one, u8s_zeros]
  by_cases h0 : min m n = 0
  · have hf : fillN xs n = List.replicate n 0 := by
      have := h.length
      rcases (show m = 0 ∨ n = 0 by omega) with e | e
      · rw [fillN, List.eq_nil_of_length_eq_zero (this.trans e)]; simp
      · rw [fillN, e]; simp
    refine ⟨_, _, run_copy_none _ t t ty e _ A n n m c ht hs h0, ?_, hW, Turned.refl _ _⟩
    rw [hf]
    refine ⟨⟨by rw [u8s_length]; simp, Or.inr ⟨p, n, _, rfl, Nat.le_refl _, ha, Nat.le_refl _, by unfold maxLen; omega, by rw [size_madeCells]; simp, ?_⟩⟩, AllB.zeros n⟩
    rw [hz, List.take_of_length_le (by rw [u8s_length]; simp)]
  · obtain ⟨b, off, rfl, _, _⟩ := h.2.2 (by omega)
    have hl : (u8s (xs.take n)).length = min m n := by rw [u8s_length, List.length_take, h.length]; omega
    have hr := run_copy_row (P := P) w t t ty e p 0 n n ⟨b, off, none⟩ m c (madeCells #[.int .u8 0] n) e (u8s (xs.take n)) ht hs ha hl (fun j v hv => h.cells (by omega) j v (by
      rw [u8s_get] at hv ⊢
      rw [List.getElem?_take] at hv
      split at hv
      · exact hv
      · cases hv)) (by rw [size_madeCells, hl]; simp; omega) (u8s_one _)
    refine ⟨_, _, hr, ?_, hW.setRow hp ha, ⟨rfl, rfl, rfl, by simp [World.setRow], fun i hi hn => setRow_other _ _ _ _ hn⟩⟩
    have hc : ((madeCells #[Value.int .u8 0] n).toList.take 0 ++ u8s (xs.take n) ++ (madeCells #[Value.int .u8 0] n).toList.drop (0 + (u8s (xs.take n)).length)) = u8s (fillN xs n) := by
      rw [List.take_zero, List.nil_append, hz, fillN, u8s_append, hl]
      congr 1
      simp only [u8s, List.map_replicate, List.drop_replicate]
      congr 1
      have := h.length
      omega
    refine ⟨⟨by rw [u8s_length, fillN_len]; simp, Or.inr ⟨p, n, _, rfl, Nat.le_refl _, by rw [setRow_heap _ _ _ _ _ _ ha, hc], Nat.le_refl _, by unfold maxLen; omega, by simp [u8s_length, fillN_len], ?_⟩⟩, fillN_all h.all n⟩
    rw [List.toList_toArray, List.take_of_length_le (by rw [u8s_length, fillN_len]; simp)]
/-- Two rows made, one behind the other. -/
theorem two_made (w : World) (cs : Array Value) (t : TypeId) : ∃ w', ((w.alloc (.cells cs t)).alloc (.cells cs t)).drew = w' ∧ w'.heap[w.heap.size]? = some (.cells cs t (0, 0)) ∧ w'.heap[w.heap.size + 1]? = some (.cells cs t (0, 0)) ∧ Keep w w' := by
  obtain ⟨w1, h1, z1, k1, b1⟩ := one_block w cs t
  obtain ⟨w2, h2, z2, k2, b2⟩ := one_block w1 cs t
  rw [h1, h2]
  rw [z1] at b2
  exact ⟨_, rfl, block_keep (block_keep b1 k2) (Keep.drew (Keep.refl _)), block_keep b2 (Keep.drew (Keep.refl _)), (k1.trans k2).trans (Keep.drew (Keep.refl _))⟩
theorem lay_at (g s : Nat) (r : List Nat) (i : Nat) : (layN g s r).getD i [] = if i < g then cutN s i (allN (g * s) r) else [] := by
  rw [layN, cutsN, List.getD_eq_getElem?_getD, List.getElem?_map]
  split
  · rename_i h
    rw [List.getElem?_range h]; rfl
  · rename_i h
    rw [List.getElem?_eq_none (by simpa using h)]; rfl
theorem lay_all {g s : Nat} {r : List Nat} (hr : AllB r) (i : Nat) : AllB ((layN g s r).getD i []) := by
  rw [lay_at]; split
  · exact cutN_all (allN_all hr)
  · intro x hx; simp at hx
theorem lay_len {g s : Nat} {r : List Nat} (h : r.length + 4 ≤ g * s) {i : Nat} (hi : i < g) : ((layN g s r).getD i []).length = s := by
  rw [lay_at, if_pos hi]; exact cutN_len (allN_len h) hi
theorem gen_all {g s P : Nat} {xs cs : List Nat} {R : List (List Nat)} (h : GoodS g s P xs cs R) (hx : AllB xs) (gen : Nat) (hg : gen < R.length) : AllB (R.getD gen []) ∧ (R.getD gen []).length + 4 ≤ g * s := by
  have e : R.getD gen [] = R[gen] := by rw [List.getD_eq_getElem?_getD, List.getElem?_eq_getElem hg]; rfl
  have hm : R[gen] ∈ R := List.getElem_mem hg
  rw [e]
  have hf := gens_flat (room := P - 4) (cuts := cs) (xs := xs) h.room
  rw [← h.gens] at hf
  refine ⟨fun x hx2 => hx x ?_, ?_⟩
  · rw [← hf]
    exact List.mem_append_left _ (List.mem_flatten.2 ⟨_, hm, hx2⟩)
  · have he := (gens_each (room := P - 4) (cuts := cs) (xs := xs) h.room) R[gen] (by rw [← h.gens]; exact hm)
    have := h.size.eq
    have := h.size.lo
    omega
theorem equal_yes (B B' n m ca cb : Nat) (A A' : Option Addr) (xs : List Nat) (w : World) (h : Bytes w B A n xs) (h' : Bytes w B' A' m xs) :
    Calls Try.prog 31 #[.slice A n ca, .slice A' m cb] w fun e w' => e = .returned (.bool true) ∧ w = w' := by
  have := equal_any B B' n m ca cb A A' xs xs w h h'
  rwa [decide_eq_true rfl] at this
theorem vAddS_len (n : Nat) (xs ys : List Nat) (c : Nat) : (vAddS n xs ys c).length = n := tab_length _ _
theorem vComb_len (n : Nat) (R : List (List Nat)) (c : List Nat) (k : Nat) : (vComb n R c k).length = n := tab_length _ _
/-- What Row and Send tell of a generation that there is. -/
theorem row_lin (g s : Nat) (R : List (List Nat)) (gen : Nat) (D : List Nat) (h : gen < R.length) (hD : D.length = g) : rowE g R gen D.length = 0 ∧ rowC g R gen D = D ∧ rowP g s R gen D = vComb s (layN g s (R.getD gen [])) D g := by
  have e : rowE g R gen D.length = 0 := by rw [rowE, if_neg (by omega), if_pos hD]
  exact ⟨e, by rw [rowC, if_pos e], by rw [rowP, if_pos e]⟩
theorem send_lin (g s : Nat) (R : List (List Nat)) (gen sent : Nat) (D : List Nat) (h : gen < R.length) : symE R gen = 0 ∧ symL g s R gen = layN g s (R.getD gen []) ∧ sendC g R gen sent D = sendN g sent D ∧ sendP g s R gen sent D = vComb s (layN g s (R.getD gen [])) (sendN g sent D) g := by
  have e : symE R gen = 0 := by rw [symE, if_neg (by omega)]
  exact ⟨e, by rw [symL, if_neg (by omega)], by rw [sendC, if_pos e], by rw [sendP, if_pos e]⟩
end Go.Proofs.Ytcafofffgmaepaa
