/- The walk of DrawAll. -/
import Derived.Test.YthhabiehkabpcaaDoorDaw
import Derived.Test.YthhabiehkabpcaaDoorDtrim
import Derived.Test.YthhabiehkabpcaaDoorMix
import Derived.BigQuiet
namespace Go.Proofs.YthhabiehkabpcaaDoor
open Go.RowKit Go.ChangeShapes Go.WideShapes Go.Deep
set_option linter.unusedVariables false
set_option linter.unusedSimpArgs false
section
variable {H : Type} {enc : TypeId × Value → H} {P : Program} {W : World}
/-- A struct of two slices of bytes and two bytes. -/
theorem arg_all {t tu e : TypeId} {f0 f1 f2 f3 : Field} (ht : P.underlying t = some (.struct #[f0, f1, f2, f3])) (hone : oneCellFields P #[f0, f1, f2, f3] = true) (hC : P.cellsOf t = 4)
    (hf0 : f0.type = tu) (hf1 : f1.type = tu) (hf2 : f2.type = e) (hf3 : f3.type = e) (hu : P.underlying tu = some (.slice e)) (he : P.underlying e = some (.int .u8)) (hc : P.cellsOf e = 1) (hb : P.bytesOf e = 1)
    {ts : List TypeId} {ds : List (DataW H)} (hsz : (DataW.weightsEach P ts ds).all (· ≤ reachBytes) = true) {j : Nat} (hj : ts[j]? = some t) {v : Value} {d : DataW H} {p : List MemPlace} (hd : ds[j]? = some d)
    {base : Nat} (hv : Value.okWide P W .any base t v) (h : DataW.Trod enc P W 0 (fun _ => true) true t v d p) :
    ∃ (n1 c1 n2 c2 r q : Nat) (A1 A2 : Option Addr) (xs ys : List Nat), v = .agg #[.slice A1 n1 c1, .slice A2 n2 c2, .int .u8 (r : Int), .int .u8 (q : Int)] ∧ Bytes W W.heap.size A1 n1 xs ∧ n1 ≤ 140737488351232 ∧ Bytes W W.heap.size A2 n2 ys ∧ n2 ≤ 140737488351232 ∧ r < 256 ∧ q < 256 := by
  obtain ⟨cs, rfl, hl, hf⟩ := arg_fields ht hone (by rw [hC]; rfl) hsz hj hd hv h
  match cs, hl with
  | [v0, v1, v2, v3], _ =>
    obtain ⟨u0, d0, p0, m0, e0, t0, w0⟩ := hf 0 f0 rfl
    obtain ⟨u1, d1, p1, m1, e1, t1, w1⟩ := hf 1 f1 rfl
    obtain ⟨u2, d2, p2, m2, e2, t2, w2⟩ := hf 2 f2 rfl
    obtain ⟨u3, d3, p3, m3, e3, t3, w3⟩ := hf 3 f3 rfl
    simp at e0 e1 e2 e3
    subst e0 e1 e2 e3
    rw [hf0] at t0 w0
    rw [hf1] at t1 w1
    rw [hf2] at t2
    rw [hf3] at t3
    obtain ⟨A1, n1, c1, xs, rfl, b1, l1, _⟩ := bytes_of hu he hc hb t0 w0
    obtain ⟨A2, n2, c2, ys, rfl, b2, l2, _⟩ := bytes_of hu he hc hb t1 w1
    obtain ⟨r, rfl, hr⟩ := byte_cell he t2
    obtain ⟨q, rfl, hq⟩ := byte_cell he t3
    exact ⟨n1, c1, n2, c2, r, q, A1, A2, xs, ys, rfl, b1, l1, b2, l2, hr, hq⟩
end
/-- What is drawn is never nothing. -/
theorem coefN_live (n k : Nat) (xs : List Nat) (hk : k < n) : ¬ vLead n (coefN n k xs) < 0 := by
  unfold coefN
  split
  · rw [vLead_unit n k hk]; omega
  · assumption
/-- What is not nothing is drawn by itself. -/
theorem coefN_self {n k : Nat} {xs ys : List Nat} (h : fillN ys n = xs) (hl : ¬ vLead n xs < 0) : coefN n k ys = xs := by
  unfold coefN
  rw [h, if_neg hl]
theorem fill_more (xs ys : List Nat) (n : Nat) (h : xs.length = n) : fillN (xs ++ ys) n = xs := by
  unfold fillN
  rw [List.take_left' h, List.length_append, h]
  simp
theorem fill_cut (xs : List Nat) (n j : Nat) (h : xs.length = n) (hj : j ≤ n) (hz : ∀ i, j ≤ i → i < n → xs.getD i 0 = 0) : fillN (xs.take j) n = xs := by
  unfold fillN
  have hl : (xs.take j).length = j := by rw [List.length_take]; omega
  rw [List.take_take, show min n j = j by omega, hl]
  conv => rhs; rw [← List.take_append_drop j xs]
  congr 1
  refine (list_ext (by simp [h]) fun i hi => ?_)
  have hi : i < n - j := by simpa using hi
  have := hz (j + i) (by omega) (by omega)
  rw [List.getD_eq_getElem?_getD] at this
  rw [List.getD_eq_getElem?_getD, List.getD_eq_getElem?_getD, List.getElem?_drop, this, List.getElem?_replicate, if_pos hi]
  rfl
theorem Own.cap {w : World} {base n c : Nat} {e : TypeId} {A : Option Addr} {xs : List Nat} (h : Own w base e A n c xs) : n ≤ c := by
  rcases h.1.2 with ⟨hv, h0⟩ | ⟨g, cap, cur, hv, _, _, hle, _⟩
  · injection hv with _ e2 e3; omega
  · injection hv with _ _ e3; omega
/-- A draw, its coefficients known. -/
theorem coefs_is (B n k m c : Nat) (A : Option Addr) (xs ys : List Nat) (w : World) (h : Bytes w B A m xs) (hB : B ≤ w.heap.size) (h1 : 1 ≤ n) (hn : n ≤ 255) (hk : k < n) (hy : coefN n k xs = ys) :
    Calls Tryd.prog 4 #[.slice A m c, .int .i64 (n : Int), .int .i64 (k : Int)] w fun e w' => ∃ A' c', e = .returned (.tuple #[.slice A' n c', .int .i64 0]) ∧ Bytes w' w'.heap.size A' n ys ∧ n ≤ c' ∧ Keep w w' :=
  (coefs_any B n k m c A xs w h hB h1 hn hk).mono fun e w' ⟨A', m', c', e1, o, kp⟩ => by
    obtain rfl : m' = n := by have := o.length; rw [coefN_len] at this; exact this.symm
    exact ⟨A', c', e1, hy ▸ o.bytes, o.cap, kp⟩
set_option maxRecDepth 100000 in
set_option maxHeartbeats 8000000 in
theorem all_any (n1 c1 n2 c2 r q : Nat) (A1 A2 : Option Addr) (xs ys : List Nat) (W : World) (h1 : Bytes W W.heap.size A1 n1 xs) (l1 : n1 ≤ 140737488351232) (h2 : Bytes W W.heap.size A2 n2 ys) (l2 : n2 ≤ 140737488351232) (hr : r < 256) (hq : q < 256) :
    Calls Tryd.prog 3 #[.agg #[.slice A1 n1 c1, .slice A2 n2 c2, .int .u8 (r : Int), .int .u8 (q : Int)]] W fun e w' => e = .returned (.bool true) ∧ Keep W w' := by
  obtain ⟨j0, hj0⟩ : ∃ j, r % 255 = j := ⟨_, rfl⟩
  have e0 : IntKind.i64.wrap (r : Int) = (r : Int) := IntWalk.i64_in _ (by omega)
  have e1 : (r : Int).tmod 255 = (j0 : Int) := by rw [Int.tmod_eq_emod_of_nonneg (by omega)]; omega
  have e3 : IntKind.i64.wrap (j0 : Int) = (j0 : Int) := IntWalk.i64_in _ (by omega)
  have e4 : IntKind.i64.wrap (1 + (j0 : Int)) = ((1 + j0 : Nat) : Int) := by rw [IntWalk.i64_in _ (by omega)]; omega
  obtain ⟨n, hn⟩ : ∃ k, 1 + j0 = k := ⟨_, rfl⟩
  rw [hn] at e4
  have b1 : 1 ≤ n := by omega
  have b2 : n ≤ 255 := by omega
  obtain ⟨k, hk⟩ : ∃ k, q % n = k := ⟨_, rfl⟩
  have b3 : k < n := by rw [← hk]; exact Nat.mod_lt _ (by omega)
  have f0 : IntKind.i64.wrap (q : Int) = (q : Int) := IntWalk.i64_in _ (by omega)
  have f1 : (q : Int).tmod (n : Int) = (k : Int) := by rw [Int.tmod_eq_emod_of_nonneg (by omega)]; omega
  have f2 : IntKind.i64.wrap (k : Int) = (k : Int) := IntWalk.i64_in _ (by omega)
  have z0 : ((n : Int) == 0) = false := beq_eq_false_iff_ne.2 (by omega)
  have z1 : (n : Int) ≠ 0 := by omega
  obtain ⟨w0, hw0⟩ : ∃ w0, W.alloc (.cells #[.slice A1 n1 c1, .slice A2 n2 c2, .int .u8 (r : Int), .int .u8 (q : Int)] 24) = w0 := ⟨_, rfl⟩
  obtain ⟨g, hg⟩ : ∃ g, W.heap.size = g := ⟨_, rfl⟩
  have hcell : w0.heap[g]? = some (.cells #[.slice A1 n1 c1, .slice A2 n2 c2, .int .u8 (r : Int), .int .u8 (q : Int)] 24 (0, 0)) := by rw [← hw0, ← hg]; exact heap_alloc_new W _
  have cc : ∀ wr, Keep w0 wr → wr.cell? ⟨g, 0, none⟩ = some (.slice A1 n1 c1) ∧ wr.cell? ⟨g, 1, none⟩ = some (.slice A2 n2 c2) ∧ wr.cell? ⟨g, 2, none⟩ = some (.int .u8 (r : Int)) ∧ wr.cell? ⟨g, 3, none⟩ = some (.int .u8 (q : Int)) := fun wr kp => by
    have hh := (kp.block g (Array.getElem?_eq_some_iff.1 hcell).1).trans hcell
    refine ⟨?_, ?_, ?_, ?_⟩ <;> (unfold World.cell?; rw [hh]; rfl)
  obtain ⟨q1, q2, _, _⟩ := cc w0 (Keep.refl w0)
  have HCC := Lib.hid cc
  have K0 : Hid (Keep W w0) := by rw [← hw0]; exact (Keep.refl W).alloc _ _
  have HB1 := Lib.hid (h1.later K0.out)
  have HB2 := Lib.hid (h2.later K0.out)
  clear h1 h2 hcell cc hj0 hn hk
  go_enter Tryd.func3, Tryd.ntmps3
  go_wp2_with fail
  go_quiet (fail)
  have KQ : Hid (Keep w0 (w0.drewN nq)) := (Keep.refl w0).drewN nq
  obtain ⟨_, _, q3, q4⟩ := HCC.out _ KQ.out
  have K1 : Hid (Keep W (w0.drewN nq)) := K0.out.trans KQ.out
  have HB3 := Lib.hid (HB1.out.later KQ.out)
  have HB4 := Lib.hid (HB2.out.later KQ.out)
  obtain ⟨w1, hw1⟩ : ∃ w1, w0.drewN nq = w1 := ⟨_, rfl⟩
  rw [hw1] at K1 HB3 HB4 q3 q4 ⊢
  clear hw1 KQ HB1 HB2 K0 HCC q1 q2 hw0
  obtain ⟨X, hX⟩ : ∃ X, coefN n k xs = X := ⟨_, rfl⟩
  have HX := Lib.hid hX
  have HLX : Hid (X.length = n) := by show X.length = n; rw [← hX]; exact coefN_len n k xs
  have HV : Hid (0 ≤ vLead n X) := by show 0 ≤ vLead n X; rw [← hX]; exact Int.not_lt.1 (coefN_live n k xs b3)
  clear hX
  go_wp2_with fail
  refine (coefs_is _ n k n1 c1 A1 xs X _ HB3.out (Nat.le_refl _) b1 b2 b3 HX.out).mono ?_
  rintro e w2 ⟨A3, c3, rfl, o3, hc3, k3⟩
  have O3 := Lib.hid o3
  have HC3 := Lib.hid hc3
  have K2 := Lib.hid (K1.out.trans k3)
  have HB5 := Lib.hid (HB4.out.later k3)
  clear o3 hc3 k3 K1 HB3 HB4 q3 q4
  go_wp2_with fail
  refine (awake_any _).mono ?_
  rintro e w3 ⟨rfl, k3⟩
  have O4 := Lib.hid (O3.out.later k3)
  have K3 := Lib.hid (K2.out.trans k3)
  have HB6 := Lib.hid (HB5.out.later k3)
  clear k3 K2 O3 HB5
  go_wp2_with fail
  refine (vzero_eq _ n c3 A3 X _ O4.out (by omega)).mono ?_
  rw [show decide (vLead n X < 0) = false from decide_eq_false (by have := HV.out; omega)]
  rintro e wt ⟨rfl, rfl⟩
  obtain ⟨w4, hw4⟩ : ∃ w4, w3.alloc (.cells #[] 5) = w4 := ⟨_, rfl⟩
  have HL := Lib.hid (one_lit w3 [] 0 rfl (by decide) (by decide) #[] rfl hw4)
  have HO : Hid (Own w4 w3.heap.size 5 (some ⟨w3.heap.size, 0, none⟩) 0 0 []) := by
    show Own _ _ _ _ _ _ _
    rw [← hw4]; exact Own.lit w3 5 0 [] #[] rfl rfl (by decide) (by decide)
  have O5 := Lib.hid (O4.out.later HL.out.2)
  have HI : Hid (0 + n ≤ 140737488355328) := by show 0 + n ≤ 140737488355328; omega
  go_wp2_with (at_builtin; refine wpList_append_bytes rfl _ _ 22 rfl Tryd.underlying22 info5 rfl HO.out rfl O5.out HI.out HL.out.2.size ?_)
  intro A5 c5 w5 h5 hg5 _
  have KL := Lib.hid ((Keep.refl w3).trans (HL.out.2.grown hg5 HO.out.rowLe))
  have HO5 : Hid (Own w5 w3.heap.size 5 A5 n c5 X) := by
    show Own _ _ _ _ _ _ _
    simpa using h5
  have HB7 := Lib.hid (HB6.out.later KL.out)
  have HJ : Hid (n + n2 ≤ 140737488355328) := by show n + n2 ≤ 140737488355328; omega
  clear h5 hg5 HL HO O5 HI hw4
  go_wp2_with (at_builtin; refine wpList_append_bytes rfl _ _ 22 rfl Tryd.underlying22 info5 rfl HO5.out rfl HB7.out HJ.out KL.out.size ?_)
  intro A6 c6 w6 h6 hg6 _
  have KM := Lib.hid (KL.out.grown hg6 HO5.out.rowLe)
  have HO6 := Lib.hid h6
  clear h6 hg6 KL HO5 HB7 HB6
  go_wp2_with fail
  refine (coefs_is _ n k (n + n2) c6 A6 (X ++ ys) X _ HO6.out.bytes (Nat.le_refl _) b1 b2 b3 (coefN_self (fill_more X ys n HLX.out) (Int.not_lt.2 HV.out))).mono ?_
  rintro e w7 ⟨A7, c7, rfl, o7, _, k7⟩
  have O7 := Lib.hid o7
  have KN := Lib.hid (KM.out.trans k7)
  have O8 := Lib.hid (O4.out.later KN.out)
  have K7 := Lib.hid (K3.out.trans KN.out)
  clear o7 k7 KM KN O4 K3 HO6
  go_wp2_with fail
  refine (equal_any _ _ n n _ _ _ _ X X _ O8.out O7.out).mono ?_
  rw [decide_eq_true rfl]
  rintro e wt ⟨rfl, rfl⟩
  go_wp2_with fail
  refine (trim_any _ n c3 A3 X _ O8.out b1 HC3.out (by omega)).mono ?_
  rintro e wt ⟨⟨j, hj, rfl, hz⟩, rfl⟩
  have HZ := Lib.hid hz
  have HJ2 := Lib.hid hj
  clear hz hj
  go_wp2_with fail
  refine (coefs_is _ n k j c3 A3 (X.take j) X _ (O8.out.cut HJ2.out) (Nat.le_refl _) b1 b2 b3 (coefN_self (fill_cut X n j HLX.out HJ2.out HZ.out) (Int.not_lt.2 HV.out))).mono ?_
  rintro e w8 ⟨A8, c8, rfl, o8, _, k8⟩
  have O9 := Lib.hid o8
  have OA := Lib.hid (O8.out.later k8)
  have K8 := Lib.hid (K7.out.trans k8)
  clear o8 k8 O8 O7 K7
  go_wp2_with fail
  refine (equal_any _ _ n n _ _ _ _ X X _ OA.out O9.out).mono ?_
  rw [decide_eq_true rfl]
  rintro e wt ⟨rfl, rfl⟩
  go_wp2_with fail
  go_ret
  exact ⟨rfl, K8.out⟩
end Go.Proofs.YthhabiehkabpcaaDoor
