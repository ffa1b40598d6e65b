/- The walk of SinkOrder. -/
import Derived.Test.YtgelalbmhllccaaGreatQat
import Derived.Test.YtgelalbmhllccaaGreatSsw
import Derived.Test.YtgelalbmhllccaaGreatQaa
import Derived.Deep.DeepCutAuto
import Derived.Deep.CutBlock
import Derived.Deep.RegionHeld3
namespace Go.Proofs.YtgelalbmhllccaaGreat
open Go.RowKit Lin
set_option linter.unusedVariables false
set_option linter.unusedSimpArgs false
theorem sub_ok {g s P : Nat} {xs : List Nat} (hz : SizeS g s P) (hl : xs.length ≤ 200) : subE P false [] [] xs 1099511627776 = 0 ∧ subX P false [] [] xs 1099511627776 = xs ∧ GoodS g s P xs [] (gensN (P - 4) [] xs) := by
  have h1 := (GoodS.start hz).more xs (by simp; omega)
  rw [List.nil_append] at h1
  have h2 := h1.few
  have h3 : subE P false [] [] xs 1099511627776 = 0 := by
    unfold subE wouldN
    rw [if_neg (by simp), if_neg]
    rw [List.nil_append]
    rintro (h | h)
    · simp at h; omega
    · split at h <;> omega
  exact ⟨h3, by rw [subX, if_pos h3, List.nil_append], h1⟩
theorem least_o (a b m : Nat) (B : Int) (hB : B = (b : Int)) (h : min a b = m) (w : World) : (Builtin.min_ #[3, 3] 3 #[.int .i64 (a : Int), .int .i64 B]).run Tryz.prog w = .ok (.int .i64 (m : Int)) w := by
  subst hB
  rw [run_min_int2]; congr 2; split <;> omega
theorem head_o {P : Program} {t : TypeId} {z : Value} {q : Nat} (ht : P.underlying t = some (.slice (P.elem t))) (hi : (P.info? (P.elem t)).map (fun i => (i.zero, i.size, i.bytes)) = some (some z, 1, q)) (n m c : Nat) (A : Option Addr) (h : n ≤ c) (w : World) :
    (Instr.slice t (.slice A m c) none (some (.int .i64 (n : Int))) none).run P w = .ok (.slice A n c) w := by
  obtain ⟨i0, hi0, hz0, hz1, hz2⟩ := info_parts hi
  rw [run_slice_h (P := P) (w := w) t A m c ht .i64 n (by omega) (by omega)]
  have ha : A.map (fun x : Addr => x.add 0) = A := by
    cases A with
    | none => rfl
    | some a =>
      obtain ⟨b, off, spot⟩ := a
      simp [Addr.add]
  simp [sizeOf, typeInfo, hi0, hz1, sliced, ha]
set_option maxRecDepth 100000 in
theorem headb_o (n m c : Nat) (A : Option Addr) (h : n ≤ c) (w : World) : (Instr.slice 43 (.slice A m c) none (some (.int .i64 (n : Int))) none).run Tryz.prog w = .ok (.slice A n c) w :=
  head_o (by kernel_rfl) info5 n m c A h w
/-- What stands in the argument's box. -/
structure TrB (W w : World) (B0 : Nat) (cs : Array Value) : Prop where
  b : w.heap[B0]? = some (.cells cs 65 (0, 0))
  k : Keep W w
theorem TrB.later {W w w2 : World} {B0 : Nat} {cs : Array Value} (h : TrB W w B0 cs) (k : Keep w w2) : TrB W w2 B0 cs := ⟨(k.block B0 (Array.getElem?_eq_some_iff.1 h.b).1).trans h.b, h.k.trans k⟩
theorem take_flat {l : List (List Nat)} {j : Nat} {x : List Nat} (h : l[j]? = some x) : (l.take (j + 1)).flatten = (l.take j).flatten ++ x := by
  rw [List.take_add_one, h]; simp
theorem take_flat_le (l : List (List Nat)) (j : Nat) : (l.take j).flatten.length ≤ l.flatten.length := by
  have e : l.flatten = (l.take j).flatten ++ (l.drop j).flatten := by rw [← List.flatten_append, List.take_append_drop]
  rw [e, List.length_append]; omega
theorem TrB.turned {W w w2 : World} {B0 : Nat} {cs : Array Value} {X : Nat → Prop} (h : TrB W w B0 cs) (t : Turned X w w2) (hB : ¬ X B0) (hX : ∀ a, X a → W.heap.size ≤ a) : TrB W w2 B0 cs := ⟨(t.block B0 (Array.getElem?_eq_some_iff.1 h.b).1 hB).trans h.b, t.keep h.k hX⟩
set_option maxRecDepth 100000 in
set_option maxHeartbeats 16000000 in
theorem korder_any (G S na ca nb cb nc cc nd cd : Nat) (Aa Ab Ac Ad : Option Addr) (xa xb : List Nat) (rc : List RowV) (w : World) (hG : G < 256) (hS : S < 256) (ba : Bytes w w.heap.size Aa na xa ∧ na ≤ 140737488351232 ∧ na ≤ ca) (bb : Bytes w w.heap.size Ab nb xb ∧ nb ≤ 140737488351232 ∧ nb ≤ cb) (bc : RowsAt w w.heap.size Ac nc rc ∧ nc ≤ 140737488351232) (bd : BoolsAt w w.heap.size Ad nd) (kd : nd ≤ cd) :
    Calls Tryz.prog 4 #[.agg #[.int .u8 (G : Int), .int .u8 (S : Int), .slice Aa na ca, .slice Ab nb cb, .slice Ac nc cc, .slice Ad nd cd]] w fun e w' => e = .returned (.bool true) ∧ Keep w w' := by
  obtain ⟨gm, hgm⟩ : ∃ v, G % 6 = v := ⟨_, rfl⟩
  obtain ⟨sm, hsm⟩ : ∃ v, S % 6 = v := ⟨_, rfl⟩
  obtain ⟨g, hg⟩ : ∃ v, 1 + gm = v := ⟨_, rfl⟩
  obtain ⟨s, hs⟩ : ∃ v, 5 + sm = v := ⟨_, rfl⟩
  obtain ⟨P, hP⟩ : ∃ v, g * s = v := ⟨_, rfl⟩
  have hg6 : 1 ≤ g ∧ g ≤ 6 := by omega
  have hs10 : 5 ≤ s ∧ s ≤ 10 := by omega
  have hP5 : 5 ≤ P ∧ P ≤ 60 := by
    rw [← hP]
    exact ⟨Nat.le_trans hs10.1 (Nat.le_mul_of_pos_left s hg6.1), Nat.le_trans (Nat.mul_le_mul hg6.2 hs10.2) (by omega)⟩
  have hPI : (g : Int) * (s : Int) = (P : Int) := by rw [← hP]; simp
  have hMG : MayG (g : Int) (s : Int) := ⟨by omega, by omega, by omega, by omega, by rw [hPI]; omega⟩
  have hz : SizeS g s P := ⟨by omega, by omega, by omega, by omega, hP, hP5.1, by omega, hMG, hPI⟩
  have HZ := Lib.hid (And.intro hz (And.intro hg6 (And.intro hs10 (And.intro hP5 (And.intro hP.symm hMG)))))
  obtain ⟨m, hm⟩ : ∃ v, min na 150 = v := ⟨_, rfl⟩
  have hm150 : m ≤ 150 := by omega
  have hmin := least_o na 150 m 150 rfl hm
  have hhead := headb_o m na ca Aa (by have := ba.2.2; omega)
  have HS := Lib.hid (ba.1.cut (m := m) (by omega))
  have HB := Lib.hid bb
  have HC := Lib.hid bc
  have HD := Lib.hid bd
  have t1 : (G : Int).tmod 6 = (gm : Int) := by rw [← hgm]; simp [Int.tmod]
  have t2 : (S : Int).tmod 6 = (sm : Int) := by rw [← hsm]; simp [Int.tmod]
  have t3 : (1 : Int) + (gm : Int) = (g : Int) := by omega
  have t4 : (5 : Int) + (sm : Int) = (s : Int) := by omega
  have t5 : IntKind.i64.wrap (g : Int) = (g : Int) := IntWalk.i64_in _ ⟨by omega, by omega⟩
  have t6 : IntKind.i64.wrap (s : Int) = (s : Int) := IntWalk.i64_in _ ⟨by omega, by omega⟩
  have t7 : IntKind.i64.wrap (G : Int) = (G : Int) := IntWalk.i64_in _ ⟨by omega, by omega⟩
  have t8 : IntKind.i64.wrap (S : Int) = (S : Int) := IntWalk.i64_in _ ⟨by omega, by omega⟩
  have t9 : IntKind.i64.wrap ((1 : Int) + (gm : Int)) = (g : Int) := by rw [t3, t5]
  have t10 : IntKind.i64.wrap ((5 : Int) + (sm : Int)) = (s : Int) := by rw [t4, t6]
  obtain ⟨CS, hCS⟩ : ∃ v, #[Value.int .u8 (G : Int), .int .u8 (S : Int), .slice Aa na ca, .slice Ab nb cb, .slice Ac nc cc, .slice Ad nd cd] = v := ⟨_, rfl⟩
  obtain ⟨W, hW⟩ : ∃ v, w.alloc (.cells #[Value.int .u8 (G : Int), .int .u8 (S : Int), .slice Aa na ca, .slice Ab nb cb, .slice Ac nc cc, .slice Ad nd cd] 65) = v := ⟨_, rfl⟩
  obtain ⟨B0, hB0⟩ : ∃ v, w.heap.size = v := ⟨_, rfl⟩
  have HTB : Hid (W.heap[B0]? = some (.cells #[Value.int .u8 (G : Int), .int .u8 (S : Int), .slice Aa na ca, .slice Ab nb cb, .slice Ac nc cc, .slice Ad nd cd] 65 (0, 0))) := by show _ = _; rw [← hW, ← hB0]; exact heap_alloc_new w _
  have HT : Hid (TrB W W B0 #[Value.int .u8 (G : Int), .int .u8 (S : Int), .slice Aa na ca, .slice Ab nb cb, .slice Ac nc cc, .slice Ad nd cd]) := ⟨by rw [← hW, ← hB0]; exact heap_alloc_new w _, Keep.refl W⟩
  have KW : Hid (Keep w W) := by show Keep w W; rw [← hW]; exact (Keep.refl w).alloc _ _
  have hW2 := Lib.hid hW
  clear hCS hW hgm hsm hg hs hP hPI hMG hz ba bb bc bd hm hg6 hs10 hP5
  go_enter Tryz.func4, Tryz.ntmps4
  go_upto_region 1 with fail
  rw [hW2.out]
  try simp only [hB0]
  clear hW2 hB0
  have c0 : W.cell? ⟨B0, 0, none⟩ = some (.int .u8 (G : Int)) := cell_of_row _ _ _ _ _ _ HT.out.b
  have c1 : W.cell? ⟨B0, 1, none⟩ = some (.int .u8 (S : Int)) := cell_of_row _ _ _ _ _ _ HT.out.b
  have c2 : W.cell? ⟨B0, 2, none⟩ = some (.slice Aa na ca) := cell_of_row _ _ _ _ _ _ HT.out.b
  refine wp_region_noPanic ?_
  refine wp_region_held_drew (S := fun wz => wz.cell? ⟨B0, 0, none⟩ = some (.int .u8 (G : Int)) ∧ wz.cell? ⟨B0, 1, none⟩ = some (.int .u8 (S : Int))) (by kernel_rfl) ⟨c0, c1⟩ (fun hHeld => ?_)
  refine wpAnyH_take (i := 0) (v := ?_) rfl (by kernel_rfl) (by kernel_rfl) (by kernel_rfl) (fun _ _ _ h => h) (Or.inl ⟨by kernel_rfl, ?_⟩) hHeld ?_
  rotate_left
  · intro wq hSw
    go_simp
    all_goals with_reducible rfl
  try simp only [Act.put, List.getElem_toArray, List.getElem_cons_succ, List.getElem_cons_zero, List.setIfInBounds_toArray, List.set_cons_zero, List.set_cons_succ]
  refine wpAnyH_take (i := 1) (v := ?_) rfl (by kernel_rfl) (by kernel_rfl) (by kernel_rfl) (fun _ _ _ h => h) (Or.inl ⟨by kernel_rfl, ?_⟩) hHeld ?_
  rotate_left
  · intro wq hSw
    have q0 := hSw.1
    go_simp
    all_goals with_reducible rfl
  try simp only [Act.put, List.getElem_toArray, List.getElem_cons_succ, List.getElem_cons_zero, List.setIfInBounds_toArray, List.set_cons_zero, List.set_cons_succ]
  refine wpAnyH_take (i := 2) (v := ?_) rfl (by kernel_rfl) (by kernel_rfl) (by kernel_rfl) (fun _ _ _ h => h) (Or.inl ⟨by kernel_rfl, ?_⟩) hHeld ?_
  rotate_left
  · intro wq hSw
    go_simp
    all_goals with_reducible rfl
  try simp only [Act.put, List.getElem_toArray, List.getElem_cons_succ, List.getElem_cons_zero, List.setIfInBounds_toArray, List.set_cons_zero, List.set_cons_succ]
  refine wpAnyH_take (i := 3) (v := ?_) rfl (by kernel_rfl) (by kernel_rfl) (by kernel_rfl) (fun _ _ _ h => h) (Or.inl ⟨by kernel_rfl, ?_⟩) hHeld ?_
  rotate_left
  · intro wq hSw
    go_simp
    all_goals with_reducible rfl
  try simp only [Act.put, List.getElem_toArray, List.getElem_cons_succ, List.getElem_cons_zero, List.setIfInBounds_toArray, List.set_cons_zero, List.set_cons_succ]
  refine wpAnyH_take (i := 4) (v := ?_) rfl (by kernel_rfl) (by kernel_rfl) (by kernel_rfl) (fun _ _ _ h => h) (Or.inl ⟨by kernel_rfl, ?_⟩) hHeld ?_
  rotate_left
  · intro wq hSw
    go_simp
    all_goals with_reducible rfl
  try simp only [Act.put, List.getElem_toArray, List.getElem_cons_succ, List.getElem_cons_zero, List.setIfInBounds_toArray, List.set_cons_zero, List.set_cons_succ]
  refine wpAnyH_take (i := 5) (v := ?_) rfl (by kernel_rfl) (by kernel_rfl) (by kernel_rfl) (fun _ _ _ h => h) (Or.inl ⟨by kernel_rfl, ?_⟩) hHeld ?_
  rotate_left
  · intro wq hSw
    go_simp
    all_goals with_reducible rfl
  try simp only [Act.put, List.getElem_toArray, List.getElem_cons_succ, List.getElem_cons_zero, List.setIfInBounds_toArray, List.set_cons_zero, List.set_cons_succ]
  refine wpAnyH_take (i := 6) (v := ?_) rfl (by kernel_rfl) (by kernel_rfl) (by kernel_rfl) (fun _ _ _ h => h) (Or.inl ⟨by kernel_rfl, ?_⟩) hHeld ?_
  rotate_left
  · intro wq hSw
    have q0 := hSw.2
    go_simp
    all_goals with_reducible rfl
  try simp only [Act.put, List.getElem_toArray, List.getElem_cons_succ, List.getElem_cons_zero, List.setIfInBounds_toArray, List.set_cons_zero, List.set_cons_succ]
  refine wpAnyH_take (i := 7) (v := ?_) rfl (by kernel_rfl) (by kernel_rfl) (by kernel_rfl) (fun _ _ _ h => h) (Or.inl ⟨by kernel_rfl, ?_⟩) hHeld ?_
  rotate_left
  · intro wq hSw
    go_simp
    all_goals with_reducible rfl
  try simp only [Act.put, List.getElem_toArray, List.getElem_cons_succ, List.getElem_cons_zero, List.setIfInBounds_toArray, List.set_cons_zero, List.set_cons_succ]
  refine wpAnyH_take (i := 8) (v := ?_) rfl (by kernel_rfl) (by kernel_rfl) (by kernel_rfl) (fun _ _ _ h => h) (Or.inl ⟨by kernel_rfl, ?_⟩) hHeld ?_
  rotate_left
  · intro wq hSw
    go_simp
    all_goals with_reducible rfl
  try simp only [Act.put, List.getElem_toArray, List.getElem_cons_succ, List.getElem_cons_zero, List.setIfInBounds_toArray, List.set_cons_zero, List.set_cons_succ]
  refine wpAnyH_take (i := 9) (v := ?_) rfl (by kernel_rfl) (by kernel_rfl) (by kernel_rfl) (fun _ _ _ h => h) (Or.inl ⟨by kernel_rfl, ?_⟩) hHeld ?_
  rotate_left
  · intro wq hSw
    go_simp
    all_goals with_reducible rfl
  try simp only [Act.put, List.getElem_toArray, List.getElem_cons_succ, List.getElem_cons_zero, List.setIfInBounds_toArray, List.set_cons_zero, List.set_cons_succ]
  refine wpAnyH_take (i := 10) (v := ?_) rfl (by kernel_rfl) (by kernel_rfl) (by kernel_rfl) (fun _ _ _ h => h) (Or.inl ⟨by kernel_rfl, ?_⟩) hHeld ?_
  rotate_left
  · intro wq hSw
    go_simp
    all_goals with_reducible rfl
  try simp only [Act.put, List.getElem_toArray, List.getElem_cons_succ, List.getElem_cons_zero, List.setIfInBounds_toArray, List.set_cons_zero, List.set_cons_succ]
  refine wpAnyH_take (i := 11) (v := ?_) rfl (by kernel_rfl) (by kernel_rfl) (by kernel_rfl) (fun _ _ _ h => h) (Or.inl ⟨by kernel_rfl, ?_⟩) hHeld ?_
  rotate_left
  · intro wq hSw
    go_simp
    all_goals with_reducible rfl
  try simp only [Act.put, List.getElem_toArray, List.getElem_cons_succ, List.getElem_cons_zero, List.setIfInBounds_toArray, List.set_cons_zero, List.set_cons_succ]
  refine wpAnyH_done (by kernel_rfl) ?_ _
  refine NoPanic.normal ?_
  clear hHeld t1 t2 t3 t4 t5 t6 t7 t8 t9 t10 c0 c1
  have kd1 := Keep.drew (Keep.refl W)
  obtain ⟨w1, hw1⟩ : ∃ v, W.drew = v := ⟨_, rfl⟩
  rw [hw1] at kd1 ⊢
  have HT1 := Lib.hid (HT.out.later kd1)
  clear hw1 kd1 c2 HT
  go_wp2_with fail
  refine (new_good g s P HZ.out.1 w1).mono ?_
  rintro e w2 ⟨xbk, F2, rfl, s2, f2, k2⟩
  have HT2 := Lib.hid (HT1.out.later k2)
  have HSR2 := Lib.hid s2
  have HF2 : Hid (∀ i, F2 i → W.heap.size ≤ i) := fun i hi => Nat.le_trans HT1.out.k.size (f2 i hi)
  clear s2 f2 k2 HT1
  have c2 : w2.cell? ⟨B0, 2, none⟩ = some (.slice Aa na ca) := cell_of_row _ _ _ _ _ _ HT2.out.b
  have oL := Own.lit w2 5 1 [7] #[.int .u8 7] rfl rfl (by decide) (by decide)
  have hWs : W.heap.size ≤ w2.heap.size := HT2.out.k.size
  have HOL := Lib.hid (oL.lower (base' := W.heap.size) hWs)
  have kL : Keep w2 (w2.alloc (.cells #[.int .u8 7] 5)) := (Keep.refl w2).alloc _ _
  have HBS := Lib.hid (HS.out.keep (Nat.le_refl _) (KW.out.trans (HT2.out.k.trans kL)))
  have hsW : w.heap.size ≤ W.heap.size := KW.out.size
  have c2L : (w2.alloc (.cells #[.int .u8 7] 5)).cell? ⟨B0, 2, none⟩ = some (.slice Aa na ca) := (World.cell?_of_block (kL.block B0 (World.block_lt_of_cell? _ _ c2))).trans c2
  clear oL c2
  go_wp2_with (at_builtin; refine wpList_append_bytes rfl _ _ 43 rfl Tryz.underlying43 info5 rfl HOL.out rfl HBS.out (by omega) (by simp; omega) ?_)
  intro As cas w3 oS gr3 hb3
  have k23 : Keep w2 w3 := kL.grown gr3 fun k e => by
    simp only [Value.ownBlock, Option.some.injEq] at e
    omega
  have hxall : AllB (7 :: xa.take m) := oS.bytes.2.1
  obtain ⟨xs, hxs⟩ : ∃ v, 7 :: xa.take m = v := ⟨_, rfl⟩
  obtain ⟨ns, hns⟩ : ∃ v, 1 + m = v := ⟨_, rfl⟩
  rw [hxs, hns] at oS
  rw [hxs] at hxall
  rw [hns] at hb3
  have hxl : xs.length = ns := oS.bytes.1
  have hnew : ∀ a, (Value.slice As ns cas).ownBlock = some a → w2.heap.size ≤ a ∧ a < w3.heap.size := fun a e => by
    refine ⟨?_, (oS.1.lt a e).2⟩
    rcases hb3 with e2 | e2
    · rw [e2] at e
      simp only [Value.ownBlock, Option.some.injEq] at e
      omega
    · rw [e2] at e
      simp only [Option.some.injEq] at e
      have : (w2.alloc (.cells #[.int .u8 7] 5)).heap.size = w2.heap.size + 1 := by simp
      omega
  obtain ⟨hsubE, hsubX, hG1⟩ := sub_ok (xs := xs) HZ.out.1 (by omega)
  have HG1 := Lib.hid hG1
  have HSE := Lib.hid (And.intro hsubE hsubX)
  have HX := Lib.hid (And.intro hxall (And.intro hxl (And.intro (show 1 ≤ ns by omega) (show ns ≤ 151 by omega))))
  have HNEW := Lib.hid hnew
  have HO3 := Lib.hid oS
  have HSR3 := Lib.hid (HSR2.out.keep k23)
  have HT3 := Lib.hid (HT2.out.later k23)
  have HLT2 : Hid (∀ a, F2 a → a < w2.heap.size) := HSR2.out.lt
  simp only [hns]
  clear gr3 hb3 oS hnew hG1 hsubE hsubX hxall hxl hxs kL k23 hmin hhead HBS HOL hWs c2L HS HSR2 HT2
  go_wp2_with fail
  refine (sink_awake w3).mono ?_
  rintro e w4 ⟨rfl, k4⟩
  have HO4 := Lib.hid (HO3.out.keep k4)
  have HSR4 := Lib.hid (HSR3.out.keep k4)
  have HT4 := Lib.hid (HT3.out.later k4)
  have Z34 : Hid (w3.heap.size ≤ w4.heap.size) := k4.size
  clear k4 HSR3 HT3 HO3
  have hsub := submit_any (most := 1099511627776) (c5 := cas) HSR4.out (GoodS.start HZ.out.1) w4.heap.size ns As HO4.out.bytes (Nat.le_refl _) (by have := HX.out.2.2.2; omega)
  rw [HSE.out.1, HSE.out.2] at hsub
  have HSB := Lib.hid hsub
  clear hsub
  go_wp2_with fail
  refine HSB.out.mono ?_
  rintro e w5 ⟨rfl, F5, s5, t5, f5⟩
  have hn2 : ∀ a, (Value.slice As ns cas).ownBlock = some a → ¬ F2 a := fun a e e2 => by have h1 := (HNEW.out a e).1; have h2 := HLT2.out a e2; omega
  have HO5 := Lib.hid (HO4.out.turned t5 hn2)
  have HSR5 := Lib.hid s5
  have HT5 : Hid (TrB W w5 B0 #[Value.int .u8 (G : Int), .int .u8 (S : Int), .slice Aa na ca, .slice Ab nb cb, .slice Ac nc cc, .slice Ad nd cd]) := ⟨(t5.block B0 (Array.getElem?_eq_some_iff.1 HT4.out.b).1 fun e => by have h1 := HF2.out B0 e; have h2 := (Array.getElem?_eq_some_iff.1 HTB.out).1; omega).trans HT4.out.b, t5.keep HT4.out.k HF2.out⟩
  have HF5 : Hid ((∀ i, F5 i → W.heap.size ≤ i) ∧ ∀ a, (Value.slice As ns cas).ownBlock = some a → ¬ F5 a) := ⟨fun i hi => by
    rcases f5 i hi with e | e
    · exact HF2.out i e
    · have := HT4.out.k.size; omega, fun a e e2 => by
    rcases f5 a e2 with e3 | e3
    · exact hn2 a e e3
    · have h1 := (HNEW.out a e).2; have := Z34.out; omega⟩
  have Z45 : Hid (w4.heap.size ≤ w5.heap.size) := t5.size
  have hfl := flush_any HSR5.out HG1.out (by decide)
  have hG2 := HG1.out.flush false
  have hopen := HG1.out.flush_open
  obtain ⟨cs, hcs⟩ : ∃ v, flushC P false xs [] = v := ⟨_, rfl⟩
  rw [hcs] at hfl hG2 hopen
  obtain ⟨M, hM⟩ : ∃ v, gensN (P - 4) cs xs = v := ⟨_, rfl⟩
  rw [hM] at hfl hG2
  have hMx : M.flatten = xs := by
    have h := hG2.told
    have h2 := h.2 hopen
    rw [← h.1, h2, List.take_length]
  have hM1 : 1 ≤ M.length := by
    rcases Nat.eq_zero_or_pos M.length with e | e
    · rw [List.length_eq_zero_iff] at e
      rw [e] at hMx
      have h1 := HX.out.2.1
      rw [← hMx] at h1
      simp at h1
      have := HX.out.2.2.1
      omega
    · exact e
  have hfew := hG2.few
  have hck : ChkM g s M := chk_of_good hG2 HZ.out.2.2.2.2.1 (by rw [← HZ.out.2.2.2.2.1]; have := HZ.out.2.2.2.1; omega) HX.out.1
  have HM := Lib.hid (And.intro hMx (And.intro hM1 (And.intro hfew (And.intro hck hG2))))
  have HFL := Lib.hid hfl
  rw [show flushE false = 0 from rfl] at HFL
  clear s5 t5 f5 hn2 hfl hG2 hopen hcs hM hMx hM1 hfew hck HSB HO4 HSR4 HT4 HG1 HSE HF2 HLT2
  go_wp2_with fail
  refine HFL.out.mono ?_
  rintro e w6 ⟨rfl, F6, s6, t6, f6⟩
  have HO6 := Lib.hid (HO5.out.turned t6 HF5.out.2)
  have HSR6 := Lib.hid s6
  have HT6 : Hid (TrB W w6 B0 #[Value.int .u8 (G : Int), .int .u8 (S : Int), .slice Aa na ca, .slice Ab nb cb, .slice Ac nc cc, .slice Ad nd cd]) := ⟨(t6.block B0 (Array.getElem?_eq_some_iff.1 HT5.out.b).1 fun e => by have h1 := HF5.out.1 B0 e; have h2 := (Array.getElem?_eq_some_iff.1 HTB.out).1; omega).trans HT5.out.b, t6.keep HT5.out.k HF5.out.1⟩
  have HF6 : Hid ((∀ i, F6 i → W.heap.size ≤ i) ∧ ∀ a, (Value.slice As ns cas).ownBlock = some a → ¬ F6 a) := ⟨fun i hi => by
    rcases f6 i hi with e | e
    · exact HF5.out.1 i e
    · have := HT5.out.k.size; omega, fun a e e2 => by
    rcases f6 a e2 with e3 | e3
    · exact HF5.out.2 a e e3
    · have h1 := (HNEW.out a e).2; have := Z34.out; have := Z45.out; omega⟩
  have Z56 : Hid (w5.heap.size ≤ w6.heap.size) := t6.size
  clear s6 t6 f6 HFL HO5 HSR5 HT5 HF5
  have HN := Lib.hid (lsnew_in (g : Int) (s : Int) 0 HZ.out.2.2.2.2.2 (by decide) w6)
  go_wp2_with fail
  refine HN.out.mono ?_
  rintro e w7 ⟨rfl, s7, k7⟩
  have HO7 := Lib.hid (HO6.out.keep k7)
  have HSR7 := Lib.hid (HSR6.out.keep k7)
  have HT7 := Lib.hid (HT6.out.later k7)
  have HK7 := Lib.hid s7
  have HQ : Hid ((W.heap.size ≤ w6.heap.size ∧ ¬ F6 w6.heap.size) ∧ (w3.heap.size ≤ w6.heap.size)) := ⟨⟨HT6.out.k.size, fun e => by have := HSR6.out.lt _ e; omega⟩, by have := Z34.out; have := Z45.out; have := Z56.out; omega⟩
  have HL6 : Hid (∀ a, F6 a → a < w6.heap.size) := HSR6.out.lt
  obtain ⟨q, hq⟩ : ∃ v, w6.heap.size = v := ⟨_, rfl⟩
  simp only [hq] at HK7 HQ HL6 ⊢
  clear s7 k7 HN HO6 HSR6 HT6 hq Z34 Z45 Z56
  have HR := Lib.hid (relnew_in (g := g) (s := s) (k := 8) (by have := HZ.out.2.1; omega) (by have := HZ.out.2.1; omega) (by have := HZ.out.2.2.1; omega) (by have := HZ.out.2.2.1; omega) (by decide) (by decide) w7)
  go_wp2_with fail
  refine HR.out.mono ?_
  rintro e w8 ⟨p, F, rfl, r8, f8, k8⟩
  have HT8 := Lib.hid (HT7.out.later k8)
  have HO8 : Hid (OrK W w8 xbk F6 p F q g s 0 xs cs M (fun _ => []) 0 none 0 0 [] As ns cas) :=
    ⟨HSR7.out.keep k8, r8, HK7.out.keep k8, Own.none_ _ _ _, HO7.out.keep k8, fun a ha hb => by have h1 := HL6.out a ha; have h2 := f8 a hb; have h3 := HK7.out.lt; omega, ⟨HQ.out.1.2, fun e => by have h2 := f8 q e; have h3 := HK7.out.lt; omega⟩, fun a e => by simp [Value.ownBlock] at e,
      fun a e => ⟨HF6.out.2 a e, fun e2 => by have h1 := (HNEW.out a e).2; have h2 := f8 a e2; have h3 := HK7.out.lt; have := HQ.out.2; omega, fun e2 => by have h1 := (HNEW.out a e).2; have := HQ.out.2; omega, fun e2 => by simp [Value.ownBlock] at e2⟩, ⟨HF6.out.1, fun a ha => Nat.le_trans HT7.out.k.size (f8 a ha), HQ.out.1.1⟩, HT8.out.k⟩
  have HTr : Hid (TruL g s M fun _ => []) := TruL.start g s M
  have c4 : w8.cell? ⟨B0, 4, none⟩ = some (.slice Ac nc cc) := cell_of_row _ _ _ _ _ _ HT8.out.b
  clear r8 f8 k8 HR HO7 HSR7 HT7 HK7 HQ HL6 HF6 HNEW
  go_wp2_with fail
  have RCW := HC.out.1
  go_loopw [12, 84] (fun gv iv wz => ∃ (i bb n ng cg : Nat) (L : Nat → List (List Nat)) (F : Nat → Prop) (Ag : Option Addr), i ≤ nc ∧ i ≤ 80 ∧ iv = .int .i64 (i : Int) ∧ gv = .slice Ag ng cg ∧ TrB W wz B0 #[Value.int .u8 (G : Int), .int .u8 (S : Int), .slice Aa na ca, .slice Ab nb cb, .slice Ac nc cc, .slice Ad nd cd] ∧ OrK W wz xbk F6 p F q g s bb xs cs M L n Ag ng cg (M.take n).flatten As ns cas ∧ TruL g s M L ∧ n ≤ M.length) (fun _ iv _ => nc - (intOf iv).toNat)
  case atStart => exact ⟨0, 0, 0, 0, 0, _, F, none, by omega, by omega, rfl, rfl, HT8.out, by rw [show (M.take 0).flatten = [] from by simp]; exact HO8.out, HTr.out, by omega⟩
  case round =>
    clear HO8 HTr c4 HT8
    obtain ⟨i, bb, n, ng, cg, L, F, Ag, hi, hi80, rfl, rfl, hT, hO, hTr, hnM⟩ := hrel
    have HTB1 := Lib.hid hT
    have HO1 := Lib.hid hO
    have HTr := Lib.hid (And.intro hTr hnM)
    clear hT hO hTr hnM
    have KWR : Hid (Keep w wr) := KW.out.trans HTB1.out.k
    have e0 : (0 : Int) ≤ (i : Int) := Int.natCast_nonneg _
    by_cases f1 : i < nc
    · have f1' : decide ((i : Int) < (nc : Int)) = true := decide_eq_true (by omega)
      have f1'' : (i : Int) < (nc : Int) := by omega
      obtain ⟨bo, oo, rr, hAc, hbo, hrr, hcr, hxr, hnr, hncr⟩ := (RCW.keep (Nat.le_refl _) KWR.out).at_ f1
      subst hAc
      obtain ⟨Ar, nr, cr, xr⟩ := rr
      simp only at hcr hxr hnr hncr
      have HXR := Lib.hid (And.intro hxr (And.intro hnr hncr))
      clear hxr hnr hncr hrr hbo
      go_upto_region 14 with fail
      clear hcr
      by_cases f2 : i = 80
      · as_aux_lemma =>
          have f2' : ((i : Int) == 80) = true := by simp [f2]
          clear f2 HXR
          have hbeg := begun HM.out.2.2.2.1 HM.out.1 HTr.out.2
          have hgl : (M.take n).flatten.length = ng := HO1.out.got.bytes.1
          rw [hgl, HX.out.2.1] at hbeg
          obtain ⟨Mn, hMn⟩ : ∃ v, M.length = v := ⟨_, rfl⟩
          have hMf : Mn ≤ 262144 := by rw [← hMn]; exact HM.out.2.2.1
          have hnM : n ≤ Mn := by rw [← hMn]; exact HTr.out.2
          have hE0 : ltotE n 0 Mn false = 0 := by rw [ltotE, if_neg (by unfold topN; omega), if_neg (by simp)]
          have hOf : ltotOf n 0 Mn false = Mn := by rw [ltotOf, if_pos hE0]
          have hKn : ltotKn n 0 Mn false = true := by rw [ltotKn, if_pos hE0]
          have hG1 := gens_r HO1.out.src (by omega)
          have hTo := ltotal_any HO1.out.snk Mn (by omega)
          rw [hE0, hOf, hKn] at hTo
          rw [hMn] at hG1 hbeg
          have HG1 := Lib.hid hG1
          have HTo := Lib.hid hTo
          have hsr : ∀ w9, Turned (fun a => a = q) wr w9 → ∀ m, Calls Tryz.prog 27 #[.pointer (some ⟨xbk, 0, none⟩)] (w9.drewN m) fun e w' => e = .returned (.int .u64 (Mn : Int)) ∧ w9.drewN m = w' := fun w9 t9 m => by
            have h := gens_r ((HO1.out.src.turned t9 fun a ha e => HO1.out.nq.1 (e ▸ ha)).keep ((Keep.refl w9).drewN m)) (by omega)
            rw [hMn] at h
            exact h
          have HSR := Lib.hid hsr
          have HQW : Hid (W.heap.size ≤ q) := HO1.out.lo.2.2
          have HKW : Hid (Keep W wr) := HO1.out.keep
          have HDL := Lib.hid (ldelivered_any HO1.out.snk)
          have HBG := Lib.hid hbeg.2
          clear hE0 hOf hKn hG1 hTo hsr hMn hgl hbeg HO1 HTr HTB1
          by_cases hfin : n = Mn
          · have d1 : decide (Mn = n) = true := decide_eq_true hfin.symm
            have d2 : ((n : Int) == (Mn : Int)) = true := by rw [hfin]; simp
            have hgs : ng = ns := HBG.out.2 hfin
            have d3 : ((ng : Int) == (ns : Int)) = true := by rw [hgs]; simp
            have HD1 := Lib.hid d1
            clear hfin hgs d1
            go_wp2_with fail
            refine HDL.out.mono ?_
            rintro e w9 ⟨rfl, rfl⟩
            go_wp2_with fail
            refine HG1.out.mono ?_
            rintro e w9 ⟨rfl, rfl⟩
            go_wp2_with fail
            refine HTo.out.mono ?_
            rintro e w9 ⟨rfl, s9, t9⟩
            have HS9 := Lib.hid s9
            have HK9 := Lib.hid (t9.keep HKW.out fun a e => e ▸ HQW.out)
            have HT9 := Lib.hid t9
            clear s9 t9 HTo HG1 HDL
            go_wp2_with fail
            refine (ldone_any HS9.out).mono ?_
            rw [HD1.out]
            rintro e w10 ⟨rfl, m1, rfl⟩
            go_wp2_with fail
            refine (HSR.out w9 HT9.out m1).mono ?_
            rintro e w10 ⟨rfl, rfl⟩
            go_wp2_with fail
            refine (ldone_any (HS9.out.drewN m1)).mono ?_
            rw [HD1.out]
            rintro e w10 ⟨rfl, m2, rfl⟩
            have HKE := Lib.hid (KW.out.trans (HK9.out.drewN (m1 + m2)))
            go_wp2_with fail
            go_ret
            exact ⟨rfl, HKE.out⟩
          · have d1 : decide (Mn = n) = false := decide_eq_false fun e => hfin e.symm
            have d2 : ((n : Int) == (Mn : Int)) = false := by rw [beq_eq_false_iff_ne]; omega
            have hgs : ¬ ng = ns := fun e => hfin (HBG.out.1 e)
            have d3 : ((ng : Int) == (ns : Int)) = false := by rw [beq_eq_false_iff_ne]; omega
            have HD1 := Lib.hid d1
            clear hfin hgs d1
            go_wp2_with fail
            refine HDL.out.mono ?_
            rintro e w9 ⟨rfl, rfl⟩
            go_wp2_with fail
            refine HG1.out.mono ?_
            rintro e w9 ⟨rfl, rfl⟩
            go_wp2_with fail
            refine HTo.out.mono ?_
            rintro e w9 ⟨rfl, s9, t9⟩
            have HS9 := Lib.hid s9
            have HK9 := Lib.hid (t9.keep HKW.out fun a e => e ▸ HQW.out)
            have HT9 := Lib.hid t9
            clear s9 t9 HTo HG1 HDL
            go_wp2_with fail
            refine (ldone_any HS9.out).mono ?_
            rw [HD1.out]
            rintro e w10 ⟨rfl, m1, rfl⟩
            go_wp2_with fail
            refine (HSR.out w9 HT9.out m1).mono ?_
            rintro e w10 ⟨rfl, rfl⟩
            go_wp2_with fail
            refine (ldone_any (HS9.out.drewN m1)).mono ?_
            rw [HD1.out]
            rintro e w10 ⟨rfl, m2, rfl⟩
            have HKE := Lib.hid (KW.out.trans (HK9.out.drewN (m1 + m2)))
            go_wp2_with fail
            go_ret
            exact ⟨rfl, HKE.out⟩

      · as_aux_lemma =>
          have f2' : ((i : Int) == 80) = false := by rw [beq_eq_false_iff_ne]; omega
          have HI80 : Hid (i + 1 ≤ 80) := by show i + 1 ≤ 80; omega
          clear f2 hi80
          have c3 : wr.cell? ⟨B0, 3, none⟩ = some (.slice Ab nb cb) := cell_of_row _ _ _ _ _ _ HTB1.out.b
          go_upto_region 16 with fail
          go_cut [95] from 91 to 95 (fun v wx => ∃ z : Bool, v = .bool z ∧ wx = wr ∧ (z = true → i < nb))
          case first =>
            by_cases fb : i < nb
            · have fb' : decide ((i : Int) < (nb : Int)) = true := decide_eq_true (by omega)
              have fb'' : (i : Int) < (nb : Int) := by omega
              go_wp2_with fail
              go_meet
              case rel => exact ⟨_, rfl, rfl, fun _ => fb⟩
            · have fb' : decide ((i : Int) < (nb : Int)) = false := decide_eq_false (by omega)
              have fb'' : ¬ (i : Int) < (nb : Int) := by omega
              go_wp2_with fail
              go_meet
              case rel => exact ⟨_, rfl, rfl, fun e => by cases e⟩
          case rest =>
          obtain ⟨z, rfl, hwc, hz⟩ := hcut
          have HZB := Lib.hid hz
          clear hz
          obtain ⟨w1, rfl⟩ : ∃ v, v = wr := ⟨_, rfl⟩
          obtain rfl : w1 = wc := hwc.symm
          go_upto_if 95 with fail
          go_cut [15] from 96 to 104 (fun v wx => ∃ gen : Nat, v = .int .u64 (gen : Int) ∧ gen < M.length ∧ Keep w1 wx)
          case first =>
            cases z with
            | true =>
              have hib := HZB.out rfl
              obtain ⟨b2, o2, hAb, hb2, hcb⟩ := (HB.out.1.keep (Nat.le_refl _) KWR.out).at_ hib
              subst hAb
              have hib' : (i : Int) < (nb : Int) := by omega
              obtain ⟨x, hx⟩ : ∃ v, xb.getD i 0 = v := ⟨_, rfl⟩
              have hx256 : x < 256 := by rw [← hx]; exact HB.out.1.2.1.getD i
              rw [hx] at hcb
              obtain ⟨Mn, hMn⟩ : ∃ v, M.length = v := ⟨_, rfl⟩
              have hM1 : 1 ≤ Mn := by rw [← hMn]; exact HM.out.2.1
              have hMf : Mn ≤ 262144 := by rw [← hMn]; exact HM.out.2.2.1
              have HGE := Lib.hid (fun m => gens_r (HO1.out.src.keep ((Keep.refl w1).drewN m)) (by have := HM.out.2.2.1; omega))
              rw [hMn] at HGE
              obtain ⟨y, hy⟩ : ∃ v, x % Mn = v := ⟨_, rfl⟩
              have hy1 : y < Mn := by rw [← hy]; exact Nat.mod_lt _ (by omega)
              have q1 : IntKind.u64.wrap (x : Int) = (x : Int) := IntWalk.u64_in _ ⟨by omega, by omega⟩
              have q2 : (x : Int).tmod (Mn : Int) = (y : Int) := by rw [← hy]; rfl
              have q3 : ((Mn : Int) == 0) = false := by rw [beq_eq_false_iff_ne]; omega
              have q4 : ¬ (Mn : Int) = 0 := by omega
              have q5 : IntKind.u64.wrap (y : Int) = (y : Int) := IntWalk.u64_in _ ⟨by omega, by omega⟩
              have HY : Hid (y < M.length) := by show y < M.length; omega
              clear hx hMn hy HZB
              go_wp2_with fail
              go_quiet ((go_at_call 27; exact quiet_of_eq (HGE.out _)))
              go_wp2_with fail
              go_meet
              case rel => exact ⟨y, rfl, HY.out, (Keep.refl w1).drewN _⟩
            | false =>
              have hM0 : 0 < M.length := HM.out.2.1
              have HM0 := Lib.hid hM0
              clear hM0
              go_wp2_with fail
              go_meet
              case rel => exact ⟨0, rfl, HM0.out, Keep.refl w1⟩

          case rest =>
          obtain ⟨gen, rfl, hgen, hkw⟩ := hcut
          have HGN := Lib.hid hgen
          have HTB2 := Lib.hid (HTB1.out.later hkw)
          have HO2 := Lib.hid (HO1.out.later hkw)
          obtain ⟨w2, rfl⟩ : ∃ v, v = wc := ⟨_, rfl⟩
          have mk := fun w => run_make_bytes (P := Tryz.prog) Tryz.underlying43 info5 g (by have := HZ.out.2.1; omega) w
          have hxr2 := HXR.out.1.keep KWR.out.size hkw
          obtain ⟨w3, vv, hcp, hD3, k3⟩ := run_copy_fill (P := Tryz.prog) (t := 43) (e := 5) (c := cr) (ty := 3) (n := g) Tryz.underlying43 (by kernel_rfl) hxr2 (KWR.out.trans hkw).size (by have := HZ.out.2.1; omega)
          have HD3 := Lib.hid hD3
          have HTB3 := Lib.hid (HTB2.out.later k3)
          have HO3 := Lib.hid (HO2.out.later k3)
          obtain ⟨D, hDD⟩ : ∃ v, fillN xr g = v := ⟨_, rfl⟩
          have hDl : D.length = g := by rw [← hDD]; exact fillN_len _ _
          have hDa : AllB D := by rw [← hDD]; exact fillN_all HXR.out.1.2.1 _
          rw [hDD] at HD3
          have hrow := rowm_any (c5 := g) HO3.out.src HM.out.2.2.2.2 gen (by have := HM.out.2.2.1; omega) w3.heap.size g (some ⟨w2.heap.size, 0, none⟩) D HD3.out.bytes (Nat.le_refl _)
          have hrE : rowE g M gen D.length = 0 := by rw [rowE, if_neg (by omega), if_pos hDl]
          rw [rowC, rowP, hrE, if_pos rfl, if_pos rfl] at hrow
          obtain ⟨V, hV⟩ : ∃ v, vComb s (layN g s (M.getD gen [])) D g = v := ⟨_, rfl⟩
          have hVl : V.length = s := by rw [← hV]; exact tab_length _ _
          rw [hV] at hrow
          have HTT := Lib.hid (tru_take (k := 8) (b := bb) HTr.out.1 HM.out.2.2.2.1 hgen hDl hDa)
          rw [hV] at HTT
          have HROW := Lib.hid hrow
          have HDV := Lib.hid (And.intro hDl hVl)
          clear hkw hgen hxr2 hD3 k3 hDD hDl hDa hrE hV hVl hrow HXR KWR HTB1 HO1 HTB2 HO2 c3 HZB
          go_wp2_with fail
          refine HROW.out.mono ?_
          rintro e w4 ⟨A4, n4, c4, A5, n5, c5, rfl, o4, o5, k4⟩
          have hn4 : n4 = g := by rw [← HDV.out.1]; exact o4.bytes.1.symm
          have hn5 : n5 = s := by rw [← HDV.out.2]; exact o5.bytes.1.symm
          obtain rfl : g = n4 := hn4.symm
          obtain rfl : s = n5 := hn5.symm
          have HR4 := Lib.hid (And.intro o4 o5)
          have HTB4 := Lib.hid (HTB3.out.later k4)
          have HO4 := Lib.hid (HO3.out.later k4)
          clear o4 o5 k4 HROW mk hcp HTB3 HO3 HD3
          go_upto_region 21 with fail
          have r5 := row_block w4 (.slice A4 g c4) (.slice A5 s c5)
          obtain ⟨w5, hw5⟩ : ∃ v, w4.alloc (.cells #[.slice A4 g c4, .slice A5 s c5] 45) = v := ⟨_, rfl⟩
          obtain ⟨g5, hg5⟩ : ∃ v, w4.heap.size = v := ⟨_, rfl⟩
          rw [hw5, hg5] at r5
          rw [hw5]
          try simp only [hg5]
          have u0 := r5.1
          have u1 := r5.2.1
          have HR5 : Hid (Own w5 w3.heap.size 5 A4 g c4 D ∧ Own w5 w3.heap.size 5 A5 s c5 V) := ⟨HR4.out.1.keep r5.2.2, HR4.out.2.keep r5.2.2⟩
          have HTB5 := Lib.hid (HTB4.out.later r5.2.2)
          have HO5 := Lib.hid (HO4.out.later r5.2.2)
          have HTK := Lib.hid (rl_take_all HO5.out.rel gen (by have := HM.out.2.2.1; have := HGN.out; omega) _ _ g s c4 c5 A4 A5 D V (own_cap HR5.out.1) (own_cap HR5.out.2) HR5.out.1.bytes HR5.out.2.bytes (Nat.le_refl _) (Nat.le_refl _))
          clear r5 hw5 hg5 HTB4 HO4 HR4
          go_wp2_with fail
          refine HTK.out.mono ?_
          rintro e w6 ⟨rfl, F7, r7, f7, t7⟩
          obtain ⟨L7, hL7⟩ : ∃ v, yTakeL g s 8 bb L gen g s (D ++ V) = v := ⟨_, rfl⟩
          obtain ⟨tt, htt⟩ : ∃ v, yTakeT g s 8 bb L gen g s (D ++ V) = v := ⟨_, rfl⟩
          obtain ⟨te, hte⟩ : ∃ v, yTakeE g s 8 bb gen g s = v := ⟨_, rfl⟩
          rw [hL7] at r7 HTT
          simp only [htt, hte]
          have HTB6 := Lib.hid (HTB5.out.turned t7 (fun e => by have h1 := HO5.out.lo.2.1 B0 e; have h2 := (Array.getElem?_eq_some_iff.1 HTB.out).1; omega) HO5.out.lo.2.1)
          have HO6 := Lib.hid (HO5.out.relay r7 f7 t7)
          have HTr6 : Hid (TruL g s M L7 ∧ n ≤ M.length) := ⟨HTT.out, HTr.out.2⟩
          clear r7 f7 t7 hL7 htt hte HTK HTT HTB5 HO5 HR5 u0 u1 HDV HTr
          have c5' : w6.cell? ⟨B0, 5, none⟩ = some (.slice Ad nd cd) := cell_of_row _ _ _ _ _ _ HTB6.out.b
          go_upto_region 22 with fail
          go_cut [133] from 121 to 133 (fun v wx => ∃ z : Bool, v = .bool z ∧ wx = w6)
          case first =>
            by_cases fd : i < nd
            · obtain ⟨b2, o2, hAd, hb2, hcd⟩ := HD.out (by omega)
              obtain ⟨pv, hpv⟩ := hcd i fd
              subst hAd
              have hkd := KW.out.trans HTB6.out.k
              have hpv6 := (World.cell?_of_block (hkd.block b2 hb2)).trans hpv
              have fd' : decide ((nd : Int) ≤ (i : Int)) = false := decide_eq_false (by omega)
              have fd'' : ¬ (nd : Int) ≤ (i : Int) := by omega
              have fd3 : (i : Int) < (nd : Int) := by omega
              clear hcd hpv hkd hb2
              go_wp2_with fail
              go_meet
              case rel => exact ⟨_, rfl, rfl⟩
            · have fd' : decide ((nd : Int) ≤ (i : Int)) = true := decide_eq_true (by omega)
              have fd'' : (nd : Int) ≤ (i : Int) := by omega
              go_wp2_with fail
              go_meet
              case rel => exact ⟨_, rfl, rfl⟩
          case rest =>
          obtain ⟨z, rfl, hwc⟩ := hcut
          obtain rfl : w6 = wc := hwc.symm
          cases z with
          | true =>
            as_aux_lemma =>
              clear c5'
              have hib : i + 1 ≤ 80 := HI80.out
              go_wp2_with fail
              go_roundw
              case rel => exact ⟨i + 1, bb, n, ng, cg, L7, F7, Ag, by omega, HI80.out, by first | rfl | simp, rfl, HTB6.out, HO6.out, HTr6.out.1, HTr6.out.2⟩
              case measure => (simp only [intOf]; omega)
          | false =>
            as_aux_lemma =>
              clear c5'
              go_wp2_with fail
              refine (ldelivered_any HO6.out.snk).mono ?_
              rintro e w6' ⟨rfl, rfl⟩
              go_wp2_with fail
              refine (krel_in HO6.out.snk HO6.out.rel HO6.out.nq.2).mono ?_
              rintro e w7 ⟨A8, n8, c8, rs8, n2, br, rfl, rt, o8, l8, s8, y8, t8⟩
              obtain ⟨rfl, hn2, hj, hfl, hne⟩ := rel_tru rt HTr6.out.1 HM.out.2.2.2.1 HO6.out.rel.out HTr6.out.2
              have hl8 : rs8.length = n8 := o8.length
              rw [rowsXs_len, hl8] at hj
              have HR8 : Hid (RowsIn w7 (fun x => w6.heap.size ≤ x ∧ x < w7.heap.size) A8 n8 rs8) := RowsIn.of_own o8 (fun r hr => (l8 r hr).lies.mono fun x e => (l8 r hr).1.lt x e) fun x e => o8.lt x e
              have HF8 := Lib.hid (And.intro hn2 (And.intro hfl hne))
              have HO7 := Lib.hid (HO6.out.sink s8 t8)
              have HTB7 := Lib.hid (HTB6.out.turned t8 (fun e => by have h1 := HO6.out.lo.2.2; have h2 := (Array.getElem?_eq_some_iff.1 HTB.out).1; omega) fun a e => e ▸ HO6.out.lo.2.2)
              have HGO : Hid (∀ a, (Value.slice Ag ng cg).ownBlock = some a → a < w6.heap.size) := fun a e => (HO6.out.got.1.lt a e).2
              have hfew := HM.out.2.2.1
              have v1 : IntKind.u64.wrap (n8 : Int) = (n8 : Int) := IntWalk.u64_in _ ⟨by omega, by omega⟩
              have v2 : (n2 : Int) - (n : Int) = (n8 : Int) := by omega
              have v3 : IntKind.u64.wrap ((n2 : Int) - (n : Int)) = (n8 : Int) := by rw [v2]; exact v1
              have v4 : ((n8 : Int) != (n8 : Int)) = false := by simp
              have v5 : ((n8 : Int) == (n8 : Int)) = true := by simp
              have HN8 : Hid (n8 ≤ 262144) := by show n8 ≤ 262144; omega
              clear hn2 hfl hne hl8 rt o8 l8 s8 y8 t8 hj hfew HTB6
              go_wp2_with fail
              refine (ldelivered_any HO7.out.snk).mono ?_
              rintro e w7' ⟨rfl, rfl⟩
              go_wp2_with fail
              clear v1 v2 v3 v4 v5
              have hn8 := HN8.out
              go_loopw [12, 156] (fun gv jv wz => ∃ (j ng2 cg2 : Nat) (Ag2 : Option Addr), j ≤ n8 ∧ jv = .int .i64 (j : Int) ∧ gv = .slice Ag2 ng2 cg2 ∧ RowsIn wz (fun x => w6.heap.size ≤ x ∧ x < w7.heap.size) A8 n8 rs8 ∧ (w7.heap.size ≤ wz.heap.size ∧ ∀ a, (Value.slice Ag2 ng2 cg2).ownBlock = some a → ¬ (w6.heap.size ≤ a ∧ a < w7.heap.size)) ∧ TrB W wz B0 #[Value.int .u8 (G : Int), .int .u8 (S : Int), .slice Aa na ca, .slice Ab nb cb, .slice (some ⟨bo, oo, none⟩) nc cc, .slice Ad nd cd] ∧ OrK W wz xbk F6 p F7 q g s bb xs cs M L7 n2 Ag2 ng2 cg2 ((M.take n).flatten ++ ((rowsXs rs8).take j).flatten) As ns cas) (fun _ jv _ => n8 - (intOf jv).toNat)
              case atStart => exact ⟨0, ng, cg, Ag, by omega, rfl, rfl, HR8.out, ⟨Nat.le_refl _, fun a e e2 => by have := HGO.out a e; omega⟩, HTB7.out, by rw [show ((rowsXs rs8).take 0).flatten = [] from by simp, List.append_nil]; exact HO7.out⟩
              case round =>
                clear HO7 HTB7 HR8 HGO
                obtain ⟨j, ng2, cg2, Ag2, hj, rfl, rfl, hR, hap, hTB, hO⟩ := hrel
                have HRW := Lib.hid (And.intro hR hap)
                have HTBW := Lib.hid hTB
                have HOW := Lib.hid hO
                clear hR hap hTB hO
                have ej : (0 : Int) ≤ (j : Int) := Int.natCast_nonneg _
                by_cases fj : j < n8
                · as_aux_lemma =>
                    have fj' : decide ((j : Int) < (n8 : Int)) = true := decide_eq_true (by omega)
                    have fj'' : (j : Int) < (n8 : Int) := by omega
                    obtain ⟨bA, oA, r0, hA8, hb1, hr0, hc0, hl0⟩ := HRW.out.1.at_ fj
                    subst hA8
                    obtain ⟨A0, n0, c0, x0⟩ := r0
                    simp only at hc0
                    have hxj : (rowsXs rs8)[j]? = some x0 := by rw [rowsXs, List.getElem?_map, hr0]; rfl
                    have hx0l : x0.length = n0 := hl0.1
                    have hlen : ng2 + n0 ≤ 151 := by
                      have h1 := HOW.out.got.bytes.1
                      have h2 := take_flat hxj
                      have h3 := take_flat_le (rowsXs rs8) (j + 1)
                      have h4 := congrArg List.length HF8.out.2.1
                      have h5 := take_flat_le M n2
                      have h6 := HX.out.2.1
                      have h7 := HX.out.2.2.2
                      rw [HM.out.1] at h5
                      rw [h2, List.length_append] at h3
                      rw [List.length_append] at h1 h4
                      omega
                    have HB0 := Lib.hid (hl0.bytes (B := wr.heap.size) fun x e => Nat.lt_of_lt_of_le e.2 HRW.out.2.1)
                    have HTF := Lib.hid (take_flat hxj)
                    have hkz := HOW.out.keep.size
                    clear hr0 hb1 hl0 hxj hx0l
                    go_wp2_with (at_builtin; refine wpList_append_bytes rfl _ _ 43 rfl Tryz.underlying43 info5 rfl HOW.out.got rfl HB0.out (by omega) hkz ?_)
                    intro A9 c9 w9 o9 gr9 hb9
                    have kT : Turned (fun a => (Value.slice Ag2 ng2 cg2).ownBlock = some a) wr w9 := Turned.of_grown (F := fun a => (Value.slice Ag2 ng2 cg2).ownBlock = some a) gr9 fun i e => e
                    have HO9 := Lib.hid (HOW.out.more o9 kT hb9)
                    have HTB9 := Lib.hid (HTBW.out.turned kT (fun e => by have h1 := (HOW.out.got.1.lt B0 e).1; have h2 := (Array.getElem?_eq_some_iff.1 HTB.out).1; omega) fun a e => (HOW.out.got.1.lt a e).1)
                    have HR9 := Lib.hid (HRW.out.1.turned kT fun x e e2 => HRW.out.2.2 x e2 e)
                    have HAP : Hid (w7.heap.size ≤ w9.heap.size ∧ ∀ a, (Value.slice A9 (ng2 + n0) c9).ownBlock = some a → ¬ (w6.heap.size ≤ a ∧ a < w7.heap.size)) := ⟨Nat.le_trans HRW.out.2.1 kT.size, fun a e e2 => by
                      rcases hb9 with e3 | e3
                      · rw [e3] at e; exact HRW.out.2.2 a e e2
                      · rw [e3] at e
                        simp only [Option.some.injEq] at e
                        have := HRW.out.2.1
                        omega⟩
                    clear o9 gr9 hb9 kT hkz hc0
                    go_wp2_with fail
                    go_roundw
                    case rel => exact ⟨j + 1, ng2 + n0, c9, A9, by omega, by first | rfl | simp, rfl, HR9.out, HAP.out, HTB9.out, by rw [HTF.out]; first | exact HO9.out | (rw [← List.append_assoc]; exact HO9.out)⟩
                    case measure => (simp only [intOf]; omega)
                · as_aux_lemma =>
                    have fj' : decide ((j : Int) < (n8 : Int)) = false := decide_eq_false (by omega)
                    have fj'' : ¬ (j : Int) < (n8 : Int) := by omega
                    have hj8 : j = n8 := by omega
                    have hl8 : (rowsXs rs8).length = n8 := by rw [rowsXs_len]; exact HRW.out.1.1
                    have hall : (M.take n).flatten ++ ((rowsXs rs8).take j).flatten = (M.take n2).flatten := by rw [hj8, ← hl8, List.take_length]; exact HF8.out.2.1
                    have hO := HOW.out
                    rw [hall] at hO
                    have HOZ := Lib.hid hO
                    have hbeg := (begun HM.out.2.2.2.1 HM.out.1 HF8.out.1).1
                    have hgl : (M.take n2).flatten.length = ng2 := HOZ.out.got.bytes.1
                    rw [hgl] at hbeg
                    have hng : ng2 ≤ ns := by
                      have h5 := take_flat_le M n2
                      rw [HM.out.1, hgl, HX.out.2.1] at h5
                      exact h5
                    have HPF := Lib.hid (prefix_true _ _ ns ng2 cas cg2 As Ag2 xs (M.take n2).flatten wr HOZ.out.str.bytes HOZ.out.got.bytes hng (own_cap HOZ.out.str) hbeg.symm)
                    have hn2b : n2 < 18446744073709551616 := by have := HF8.out.1; have := HM.out.2.2.1; omega
                    have HRK := Lib.hid (rl_rank HOZ.out.rel n2 hn2b)
                    obtain ⟨rk, hrk⟩ : ∃ v, (L7 n2).length = v := ⟨_, rfl⟩
                    have hrg : rk ≠ g := by rw [← hrk]; exact HF8.out.2.2
                    rw [hrk] at HRK
                    have v1 : ((rk : Int) == (g : Int)) = false := by rw [beq_eq_false_iff_ne]; omega
                    have HMV := Lib.hid (rl_move_all HOZ.out.rel n2)
                    clear hj8 hl8 hall hO hbeg hgl hng hn2b hrk hrg HOW HRW
                    go_wp2_with fail
                    refine HPF.out.mono ?_
                    rintro e w9 ⟨rfl, rfl⟩
                    go_wp2_with fail
                    refine (ldelivered_any HOZ.out.snk).mono ?_
                    rintro e w9 ⟨rfl, rfl⟩
                    go_wp2_with fail
                    refine HRK.out.mono ?_
                    rintro e w9 ⟨rfl, hw9⟩
                    obtain rfl : wr = w9 := hw9.symm
                    go_wp2_with fail
                    refine (ldelivered_any HOZ.out.snk).mono ?_
                    rintro e w9 ⟨rfl, rfl⟩
                    go_wp2_with fail
                    refine HMV.out.mono ?_
                    rintro e w9 ⟨rfl, F9, r9, f9, t9⟩
                    have HO9 := Lib.hid (HOZ.out.relay r9 f9 t9)
                    have HTB9 := Lib.hid (HTBW.out.turned t9 (fun e => by have h1 := HOZ.out.lo.2.1 B0 e; have h2 := (Array.getElem?_eq_some_iff.1 HTB.out).1; omega) HOZ.out.lo.2.1)
                    have HTr9 : Hid (TruL g s M (yMoveM 8 n2 L7) ∧ n2 ≤ M.length) := ⟨tru_move HTr6.out.1, HF8.out.1⟩
                    clear r9 f9 t9 HMV HRK HPF HOZ HTBW v1
                    have hib : i + 1 ≤ 80 := HI80.out
                    go_wp2_with fail
                    go_roundw
                    case rel => exact ⟨i + 1, _, n2, ng2, cg2, _, F9, Ag2, by omega, HI80.out, by first | rfl | simp, rfl, HTB9.out, HO9.out, HTr9.out.1, HTr9.out.2⟩
                    case measure => (simp only [intOf]; omega)

    · have f1' : decide ((i : Int) < (nc : Int)) = false := decide_eq_false (by omega)
      have f1'' : ¬ (i : Int) < (nc : Int) := by omega
      as_aux_lemma =>
        have hbeg := begun HM.out.2.2.2.1 HM.out.1 HTr.out.2
        have hgl : (M.take n).flatten.length = ng := HO1.out.got.bytes.1
        rw [hgl, HX.out.2.1] at hbeg
        obtain ⟨Mn, hMn⟩ : ∃ v, M.length = v := ⟨_, rfl⟩
        have hMf : Mn ≤ 262144 := by rw [← hMn]; exact HM.out.2.2.1
        have hnM : n ≤ Mn := by rw [← hMn]; exact HTr.out.2
        have hE0 : ltotE n 0 Mn false = 0 := by rw [ltotE, if_neg (by unfold topN; omega), if_neg (by simp)]
        have hOf : ltotOf n 0 Mn false = Mn := by rw [ltotOf, if_pos hE0]
        have hKn : ltotKn n 0 Mn false = true := by rw [ltotKn, if_pos hE0]
        have hG1 := gens_r HO1.out.src (by omega)
        have hTo := ltotal_any HO1.out.snk Mn (by omega)
        rw [hE0, hOf, hKn] at hTo
        rw [hMn] at hG1 hbeg
        have HG1 := Lib.hid hG1
        have HTo := Lib.hid hTo
        have hsr : ∀ w9, Turned (fun a => a = q) wr w9 → ∀ m, Calls Tryz.prog 27 #[.pointer (some ⟨xbk, 0, none⟩)] (w9.drewN m) fun e w' => e = .returned (.int .u64 (Mn : Int)) ∧ w9.drewN m = w' := fun w9 t9 m => by
          have h := gens_r ((HO1.out.src.turned t9 fun a ha e => HO1.out.nq.1 (e ▸ ha)).keep ((Keep.refl w9).drewN m)) (by omega)
          rw [hMn] at h
          exact h
        have HSR := Lib.hid hsr
        have HQW : Hid (W.heap.size ≤ q) := HO1.out.lo.2.2
        have HKW : Hid (Keep W wr) := HO1.out.keep
        have HDL := Lib.hid (ldelivered_any HO1.out.snk)
        have HBG := Lib.hid hbeg.2
        clear hE0 hOf hKn hG1 hTo hsr hMn hgl hbeg HO1 HTr HTB1
        by_cases hfin : n = Mn
        · have d1 : decide (Mn = n) = true := decide_eq_true hfin.symm
          have d2 : ((n : Int) == (Mn : Int)) = true := by rw [hfin]; simp
          have hgs : ng = ns := HBG.out.2 hfin
          have d3 : ((ng : Int) == (ns : Int)) = true := by rw [hgs]; simp
          have HD1 := Lib.hid d1
          clear hfin hgs d1
          go_wp2_with fail
          refine HDL.out.mono ?_
          rintro e w9 ⟨rfl, rfl⟩
          go_wp2_with fail
          refine HG1.out.mono ?_
          rintro e w9 ⟨rfl, rfl⟩
          go_wp2_with fail
          refine HTo.out.mono ?_
          rintro e w9 ⟨rfl, s9, t9⟩
          have HS9 := Lib.hid s9
          have HK9 := Lib.hid (t9.keep HKW.out fun a e => e ▸ HQW.out)
          have HT9 := Lib.hid t9
          clear s9 t9 HTo HG1 HDL
          go_wp2_with fail
          refine (ldone_any HS9.out).mono ?_
          rw [HD1.out]
          rintro e w10 ⟨rfl, m1, rfl⟩
          go_wp2_with fail
          refine (HSR.out w9 HT9.out m1).mono ?_
          rintro e w10 ⟨rfl, rfl⟩
          go_wp2_with fail
          refine (ldone_any (HS9.out.drewN m1)).mono ?_
          rw [HD1.out]
          rintro e w10 ⟨rfl, m2, rfl⟩
          have HKE := Lib.hid (KW.out.trans (HK9.out.drewN (m1 + m2)))
          go_wp2_with fail
          go_ret
          exact ⟨rfl, HKE.out⟩
        · have d1 : decide (Mn = n) = false := decide_eq_false fun e => hfin e.symm
          have d2 : ((n : Int) == (Mn : Int)) = false := by rw [beq_eq_false_iff_ne]; omega
          have hgs : ¬ ng = ns := fun e => hfin (HBG.out.1 e)
          have d3 : ((ng : Int) == (ns : Int)) = false := by rw [beq_eq_false_iff_ne]; omega
          have HD1 := Lib.hid d1
          clear hfin hgs d1
          go_wp2_with fail
          refine HDL.out.mono ?_
          rintro e w9 ⟨rfl, rfl⟩
          go_wp2_with fail
          refine HG1.out.mono ?_
          rintro e w9 ⟨rfl, rfl⟩
          go_wp2_with fail
          refine HTo.out.mono ?_
          rintro e w9 ⟨rfl, s9, t9⟩
          have HS9 := Lib.hid s9
          have HK9 := Lib.hid (t9.keep HKW.out fun a e => e ▸ HQW.out)
          have HT9 := Lib.hid t9
          clear s9 t9 HTo HG1 HDL
          go_wp2_with fail
          refine (ldone_any HS9.out).mono ?_
          rw [HD1.out]
          rintro e w10 ⟨rfl, m1, rfl⟩
          go_wp2_with fail
          refine (HSR.out w9 HT9.out m1).mono ?_
          rintro e w10 ⟨rfl, rfl⟩
          go_wp2_with fail
          refine (ldone_any (HS9.out.drewN m1)).mono ?_
          rw [HD1.out]
          rintro e w10 ⟨rfl, m2, rfl⟩
          have HKE := Lib.hid (KW.out.trans (HK9.out.drewN (m1 + m2)))
          go_wp2_with fail
          go_ret
          exact ⟨rfl, HKE.out⟩

end Go.Proofs.YtgelalbmhllccaaGreat
