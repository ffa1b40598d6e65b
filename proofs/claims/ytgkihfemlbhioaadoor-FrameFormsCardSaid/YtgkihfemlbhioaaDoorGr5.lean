/- The landed frames: readTopo. -/
import Derived.Test.YtgkihfemlbhioaaDoorGr4
import Derived.Deep.DeepCutAuto
import Derived.Deep.CutBlock
import Derived.Great.BuildSlice
namespace Go.Proofs.YtgkihfemlbhioaaDoor
open Go.RowKit Fr
set_option linter.unusedVariables false
set_option linter.unusedSimpArgs false
/-- What readTopo tells: a topology, that lies still as long as nothing from H on is written; or nothing, where a mark is none. -/
def TopoTold (F : Nat → Prop) (N ge gr : Nat) (o : Option (List Nat)) (w : World) (e : Ending) (w' : World) : Prop :=
  ∃ (te : Nat) (u hs : SlV) (up : List Bool) (hp : List (List (Int × Int))) (o' : Option (List Nat)), e = .returned (.agg (topoCells te u hs)) ∧ (∀ G w'', Turned G w' w'' → (∀ b, G b → b < w.heap.size) → UpsAt w'' w''.heap.size u.A u.n up ∧ HopsAt w'' w''.heap.size hs.A hs.n hp) ∧
    u.ok ∧ hs.ok ∧ U64 te ∧ (∀ l ∈ hp, ∀ e ∈ l, I64 e.1 ∧ I64 e.2) ∧ RdS w' F N ge gr o' ∧ Turned F w w' ∧
    ((∀ (β : Type) (Q : Nat → List Bool → List (List (Int × Int)) → Pa β), goO o (topoQ Q) = goO o' (Q te up hp)) ∨ (te = 0 ∧ ∀ (β : Type) (Q : Nat → List Bool → List (List (Int × Int)) → Pa β), goO o (topoQ Q) = none))
theorem nxtB_len (n : Nat) (o : Option (List Nat)) : (nxtB n o).length ≤ n := by
  unfold nxtB
  cases o with
  | none => simp
  | some L =>
    dsimp only
    split
    · rw [List.length_take]; omega
    · simp
theorem turned_row (w : World) (g : Nat) (cs : Array Value) : Turned (fun b => b = g) w (w.setRow g cs) :=
  ⟨rfl, rfl, rfl, by rw [setRow_size]; exact Nat.le_refl _, fun i _ hi => setRow_other w g i cs hi⟩
set_option maxRecDepth 100000 in
set_option maxHeartbeats 8000000 in
theorem readtopo_any (F : Nat → Prop) (N ge gr : Nat) (o : Option (List Nat)) (w : World) (h : RdS w F N ge gr o) (hgr : gr < N) :
    Calls Tryd.prog 53 #[numF ge gr, takF ge gr] w (TopoTold F N ge gr o w) := by
  obtain ⟨H, hH⟩ : ∃ H, w.heap.size = H := ⟨_, rfl⟩
  have hN : N ≤ H := by rw [← hH]; exact h.2.2.1
  have HFN : Hid (∀ b, F b → b < N) := h.2.1
  obtain ⟨w1, hw1⟩ : ∃ w1, (w.alloc (.cells #[.func (.func 65) #[] #[.pointer (some ⟨ge, 0, none⟩), .pointer (some ⟨gr, 0, none⟩)]] 65)).alloc (.cells #[.int .u64 0, .slice none 0 0, .slice none 0 0] 30) = w1 := ⟨_, rfl⟩
  have k1 : Keep w w1 := by rw [← hw1]; exact ((Keep.refl w).alloc _ _).alloc _ _
  have c1 : w1.cell? ⟨H, 0, none⟩ = some (numF ge gr) := by
    have h1 := heap_alloc_new w (.cells #[.func (.func 65) #[] #[.pointer (some ⟨ge, 0, none⟩), .pointer (some ⟨gr, 0, none⟩)]] 65)
    rw [hH] at h1
    rw [← hw1]
    exact cell_of_one ((((Keep.refl _).alloc _ _).block H (by simp; omega)).trans h1)
  have b4 : ToBlk w1 (H + 1) 0 ⟨none, 0, 0⟩ ⟨none, 0, 0⟩ := by
    have h1 := heap_alloc_new (w.alloc (.cells #[.func (.func 65) #[] #[.pointer (some ⟨ge, 0, none⟩), .pointer (some ⟨gr, 0, none⟩)]] 65)) (.cells #[.int .u64 0, .slice none 0 0, .slice none 0 0] 30)
    rw [hw1, show (w.alloc (.cells #[.func (.func 65) #[] #[.pointer (some ⟨ge, 0, none⟩), .pointer (some ⟨gr, 0, none⟩)]] 65)).heap.size = H + 1 by simp; omega] at h1
    exact h1
  have t1 : RfT w F N ge gr H w1 o := ⟨h.keep k1, c1, hN, hgr, Turned.of_keep k1⟩
  have HE8 := Lib.hid t1.eight
  have T1 := Lib.hid t1
  have B4 := Lib.hid b4
  unfold numF at c1
  have HW1 := Lib.hid hw1
  have HHH := Lib.hid hH
  clear t1 b4 k1 h hw1
  simp only [numF, takF]
  go_enter Tryd.func53, Tryd.ntmps53
  go_upto_region 2 with fail
  rw [HW1.out]
  clear hH
  go_wp2_with fail
  refine HE8.out.mono ?_
  rintro e w2 ⟨rfl, r2, tn2⟩
  have t2 := T1.out.next ⟨r2, tn2⟩
  have b42 := B4.out.turned tn2 (fun e => by have := HFN.out _ e; omega)
  have hte := nxt8_lt T1.out.rd
  obtain ⟨te, hteq⟩ : ∃ te, nxtN 8 o = te := ⟨_, rfl⟩
  rw [hteq] at hte ⊢
  obtain ⟨b6, hb6⟩ : ∃ b6, w2.heap.size = b6 := ⟨_, rfl⟩
  obtain ⟨w3, hw3⟩ : ∃ w3, w2.alloc (.cells #[.int .u64 (te : Int), .slice none 0 0, .slice none 0 0] 30) = w3 := ⟨_, rfl⟩
  have k3 : Keep w2 w3 := by rw [← hw3]; exact (Keep.refl w2).alloc _ _
  have bx3 : ToBlk w3 b6 te ⟨none, 0, 0⟩ ⟨none, 0, 0⟩ := by
    have := heap_alloc_new w2 (.cells #[.int .u64 (te : Int), .slice none 0 0, .slice none 0 0] 30)
    rw [hw3, hb6] at this
    exact this
  have t3 := t2.keep k3
  have b43 := b42.turned (G := fun _ => False) (Turned.of_keep k3) (fun e => e)
  have hH6 : H + 1 < b6 := by have := b42.lt; omega
  have HO1 := Lib.hid t3.tone
  have T3 := Lib.hid t3
  have B43 := Lib.hid b43
  have BX3 := Lib.hid bx3
  have HTE := Lib.hid hteq
  have HW3 := Lib.hid hw3
  have HB6 := Lib.hid hb6
  clear r2 tn2 t2 b42 k3 bx3 t3 b43 c1 hteq HE8 T1 B4
  clear hw3 hb6
  go_upto_region 3 with fail
  rw [HB6.out, HW3.out]
  go_wp2_with fail
  refine HO1.out.mono ?_
  rintro e w4 ⟨rfl, n4⟩
  have t4 := T3.out.next n4
  have T3' := Lib.hid T3.out.rd
  have b44 := B43.out.turned n4.2 (fun e => by have := HFN.out _ e; omega)
  have bx4 := BX3.out.turned n4.2 (fun e => by have := HFN.out _ e; omega)
  obtain ⟨n, hn⟩ : ∃ n, nxtN 1 (nxtO 8 o) = n := ⟨_, rfl⟩
  rw [hn]
  have HTK := Lib.hid (rdtake_any F N ge gr n _ w4 t4.rd)
  have T4 := Lib.hid t4
  have B44 := Lib.hid b44
  have BX4 := Lib.hid bx4
  have HNN := Lib.hid hn
  clear n4 t4 b44 bx4 hn T3 B43 BX3 HO1
  go_wp2_with fail
  refine HTK.out.mono ?_
  rintro e w5 ⟨Al, k, cl, rfl, ol, n5⟩
  have t5 := T4.out.next n5
  have b45 := B44.out.turned n5.2 (fun e => by have := HFN.out _ e; omega)
  have bx5 := BX4.out.turned n5.2 (fun e => by have := HFN.out _ e; omega)
  have h64 := BX4.out.lt
  obtain ⟨l, hl⟩ : ∃ l, nxtB n (nxtO 1 (nxtO 8 o)) = l := ⟨_, rfl⟩
  rw [hl] at ol
  have lk := ol.length
  have hk255 : k ≤ 255 := by
    have h1 := nxt1_lt T3'.out
    rw [HNN.out] at h1
    have h2 := nxtB_len n (nxtO 1 (nxtO 8 o))
    rw [hl, lk] at h2
    omega
  have hM : b6 < w5.heap.size := bx5.lt
  obtain ⟨M, hMe⟩ : ∃ M, w5.heap.size = M := ⟨_, rfl⟩
  rw [hMe] at hM
  have HB : Hid (∀ i, i < k → ∃ p, Al = some ⟨p, 0, none⟩ ∧ b6 < p ∧ p < M ∧ w5.cell? ⟨p, i, none⟩ = some (.int .u8 ((l.getD i 0 : Nat) : Int)) ∧ l.getD i 0 < 256) := fun i hi => by
    obtain ⟨p, rfl, h1, h2⟩ := ol.block (by omega)
    exact ⟨p, rfl, by omega, by omega, ol.cell hi, ol.2.getD i⟩
  have T5 := Lib.hid t5
  have B45 := Lib.hid b45
  have BX5 := Lib.hid bx5
  have HLL := Lib.hid hl
  have HMM := Lib.hid hMe
  have HLK := Lib.hid lk
  clear n5 t5 b45 bx5 ol h64 hl lk hMe T4 B44 BX4 HTK
  go_wp2_with fail
  go_loopw [19] (fun iv wr => ∃ (i : Nat) (Au : Option Addr) (cu : Nat), i ≤ k ∧ iv = .int .i64 i ∧ (∀ j, j < i → l.getD j 0 ≤ 1) ∧ ToBlk wr b6 te ⟨Au, i, cu⟩ ⟨none, 0, 0⟩ ∧ wr.ownsRow M 4 1 (.slice Au i cu) i ((l.map fun x => Value.bool (x == 1)).take i) ∧ Turned (fun b => b = b6 ∨ M ≤ b) w5 wr) (fun iv _ => k - (intOf iv).toNat)
  case atStart => exact ⟨0, none, 0, by omega, rfl, fun j hj => by omega, BX5.out, World.ownsRow_nil _ _ _ _, Turned.refl _ _⟩
  case round =>
    obtain ⟨i, Au, cu, hi, rfl, hall, bx, ow, tn⟩ := hrel
    have T := Lib.hid (T5.out.turned tn (fun b hb => by have := HHH.out; rcases hb with e | e <;> omega))
    have B4r := Lib.hid (B45.out.turned tn (fun e => by rcases e with e | e <;> omega))
    have hsz := tn.size
    rw [HMM.out] at hsz
    by_cases hlt : i < k
    · obtain ⟨p, rfl, hp1, hp2, hp3, hp4⟩ := HB.out i hlt
      have cp := tn.cell hp3 (by show ¬ (p = b6 ∨ M ≤ p); omega)
      obtain ⟨_, x1, x2⟩ := bx.cells
      dsimp only at x1 x2
      have f1 := bx.free 1
      have f2 := bx.free 0
      have f3 := bx.free 2
      have e1 : (0 : Int) ≤ (i : Int) := Int.natCast_nonneg _
      have e2 : (i : Int) < (k : Int) := by omega
      have hlx : (l.map (fun x => Value.bool (x == 1))).take (i + 1) = (l.map (fun x => Value.bool (x == 1))).take i ++ [.bool (l.getD i 0 == 1)] := by
        have hil : i < l.length := by rw [HLK.out]; exact hlt
        rw [List.take_add_one, List.getElem?_map, List.getElem?_eq_getElem hil, List.getD_eq_getElem?_getD, List.getElem?_eq_getElem hil]
        rfl
      have HLX := Lib.hid hlx
      have HALL := Lib.hid hall
      have BX := Lib.hid bx
      have OW := Lib.hid ow
      have TN := Lib.hid tn
      obtain ⟨x, hx⟩ : ∃ x, l.getD i 0 = x := ⟨_, rfl⟩
      have HXX := Lib.hid hx
      rw [hx] at cp hp4
      clear hp3 hlx hall bx ow tn hx
      by_cases hx1 : x ≤ 1
      · have g1 : ¬ (1 : Int) < (x : Int) := by omega
        obtain ⟨v, hv⟩ : ∃ v, (x == 1) = v := ⟨_, rfl⟩
        have g2 : ((x : Int) == 1) = v := by
          rw [← hv]
          rcases Nat.lt_or_ge x 1 with h1 | h1
          · obtain rfl : x = 0 := by omega
            rfl
          · obtain rfl : x = 1 := by omega
            rfl
        have OWA : Hid ((wr.alloc (.cells #[.bool v] 4)).ownsRow M 4 1 (.slice Au i cu) i ((l.map fun x => Value.bool (x == 1)).take i)) := World.ownsRow.alloc OW.out _
        have HBASE : Hid (M ≤ (wr.alloc (.cells #[.bool v] 4)).heap.size) := by show M ≤ _; simp; omega
        have HC : Hid (∀ j u, [Value.bool v][j]? = some u → (wr.alloc (.cells #[.bool v] 4)).cell? ⟨wr.heap.size, j, none⟩ = some u) := fun j u hu => by
          rw [cell_of_row _ _ _ _ _ _ (heap_alloc_new wr _)]
          simpa using hu
        have hi9 : i ≤ 1000000 := by omega
        clear hv
        go_wp2_with (at_builtin; refine wpList_append_cells rfl _ _ 27 rfl [.bool v] Tryd.underlying27 infoBool rfl (by decide) (by decide) rfl OWA.out rfl rfl HC.out (by intro u hu; simp at hu; subst hu; rfl) hi9 HBASE.out ?_)
        intro A2 c2 w7 h7 g7 r7
        have hown : ∀ b, (Value.slice Au i cu).ownBlock = some b → M ≤ b := fun b hb => (World.ownsRow.lt OW.out b hb).1
        have tr7 : Turned (fun b => b = b6 ∨ M ≤ b) wr w7 := (Turned.of_keep ((Keep.refl wr).alloc _ _)).trans (Turned.of_grown (F := fun b => (Value.slice Au i cu).ownBlock = some b) g7 (fun i e => e)) (fun b e => Or.inl (Or.inr (hown b e)))
        have bx7 : ToBlk w7 b6 te ⟨Au, i, cu⟩ ⟨none, 0, 0⟩ := BX.out.turned ((Turned.of_keep (F := fun b => (Value.slice Au i cu).ownBlock = some b) ((Keep.refl wr).alloc _ _)).trans (Turned.of_grown (F := fun b => (Value.slice Au i cu).ownBlock = some b) g7 (fun i e => e)) (fun b e => Or.inl e)) (fun e => by have := hown _ e; omega)
        obtain ⟨_, y1, _⟩ := bx7.cells
        dsimp only at y1
        have y2 := bx7.free 1
        have T8 : Hid (Turned (fun b => b = b6 ∨ M ≤ b) w5 (w7.setCell ⟨b6, 1, none⟩ (.slice A2 (i + 1) c2))) := (TN.out.trans tr7 (fun b e => Or.inl e)).trans (Turned.set (F := fun b => b = b6) w7 _ _ rfl) (fun b e => Or.inl (Or.inl e))
        have BX8 := Lib.hid (bx7.up A2 (i + 1) c2)
        have OW8 : Hid ((w7.setCell ⟨b6, 1, none⟩ (.slice A2 (i + 1) c2)).ownsRow M 4 1 (.slice A2 (i + 1) c2) (i + 1) ((l.map fun x => Value.bool (x == 1)).take (i + 1))) := by
          show World.ownsRow _ _ _ _ _ _ _
          rw [HLX.out, HXX.out]
          have hv2 : (x == 1) = v := by
            rcases Nat.lt_or_ge x 1 with h1 | h1
            · obtain rfl : x = 0 := by omega
              exact g2
            · obtain rfl : x = 1 := by omega
              exact g2
          rw [hv2]
          exact (Turned.set (F := fun b => b = b6) w7 _ _ rfl).owns h7 (fun b hb e => by have := (World.ownsRow.lt h7 b hb).1; omega)
        have HALL8 : Hid (∀ j, j < i + 1 → l.getD j 0 ≤ 1) := fun j hj => by
          rcases Nat.lt_or_ge j i with h1 | h1
          · exact HALL.out j h1
          · obtain rfl : j = i := by omega
            rw [HXX.out]; exact hx1
        clear h7 g7 r7 tr7 bx7 hown x1 x2 f1 f2 f3 cp
        go_wp2_with fail
        go_roundw
        case rel => exact ⟨i + 1, A2, c2, by omega, by go_num, HALL8.out, BX8.out, OW8.out, T8.out⟩
        case measure => simp [intOf]; omega
      · have g1 : (1 : Int) < (x : Int) := by omega
        have RS := Lib.hid T.out.rd
        have TK := Lib.hid T.out.kp
        have b4r := B4r.out
        have HNO : Hid (¬ (nxtB n (nxtO 1 (nxtO 8 o))).all (· ≤ 1) = true) := fun e => by
          rw [HLL.out, List.all_eq_true] at e
          have hil : i < l.length := by rw [HLK.out]; exact hlt
          have h1 := e l[i] (List.getElem_mem hil)
          have h2 := HXX.out
          rw [List.getD_eq_getElem?_getD, List.getElem?_eq_getElem hil, Option.getD_some] at h2
          rw [h2] at h1
          simp at h1
          exact hx1 h1
        have HB4R := Lib.hid b4r
        unfold ToBlk at b4r
        simp only [topoCells] at b4r
        have hz0 : w.heap.size ≤ H + 1 := by have := HHH.out; omega
        clear x1 x2 f1 f2 f3
        go_wp2_with (refine wpList_store_rowTo rfl 30 (.tmp 4) (.tmp 25) rfl rfl (H + 1) #[.int .u64 0, .slice none 0 0, .slice none 0 0] rfl rfl 30 _ b4r infoTp rfl (by kernel_rfl) ?_)
        have RB := Lib.hid b4r
        refine bodyPost_ret (results_cell_row (p := 4) (ty := 30) resTopo _ _ (H + 1) 30 _ (0, 0) _ rfl (setRow_heap _ _ _ _ _ _ RB.out) Tryd.underlying30 rfl infoTp) rfl ?_
        have T9 := T.out.turned (turned_row wr (H + 1) #[.int .u64 0, .slice none 0 0, .slice none 0 0]) (fun b hb => by have := HHH.out; omega)
        refine ⟨0, ⟨none, 0, 0⟩, ⟨none, 0, 0⟩, [], [], _, rfl, fun _ _ _ _ => ⟨UpsAt.none_ _ _ _, HopsAt.none_ _ _ _⟩, ⟨by decide, by decide⟩, ⟨by decide, by decide⟩, (by show 0 < 18446744073709551616; decide), fun l hl => by simp at hl, T9.rd, T9.kp, Or.inr ⟨rfl, fun β Q => ?_⟩⟩
        unfold topoQ
        rw [go_num, go_num, go_up, HNN.out, if_neg HNO.out]
    · obtain rfl : i = k := by omega
      have hLl : (l.map fun x => Value.bool (x == 1)).take i = (l.map (· == 1)).map Value.bool := by
        rw [List.take_of_length_le (by rw [List.length_map, HLK.out]; exact Nat.le_refl _), List.map_map]
        rfl
      rw [hLl] at ow
      have hlen2 : (l.map (· == 1)).length = i := by rw [List.length_map]; exact HLK.out
      obtain ⟨up, hup⟩ : ∃ up, l.map (· == 1) = up := ⟨_, rfl⟩
      rw [hup] at ow hlen2
      have HALLT : Hid ((nxtB n (nxtO 1 (nxtO 8 o))).all (· ≤ 1) = true) := by
        show _ = true
        rw [HLL.out, List.all_eq_true]
        intro y hy
        obtain ⟨q, hq, rfl⟩ := List.mem_iff_getElem.1 hy
        have := hall q (by rw [← HLK.out]; exact hq)
        rw [List.getD_eq_getElem?_getD, List.getElem?_eq_getElem hq, Option.getD_some] at this
        simpa using this
      have P0 : Hps wr M b6 te ⟨Au, i, cu⟩ up (fun b => (Value.slice Au i cu).ownBlock = some b) ⟨none, 0, 0⟩ [] [] :=
        ⟨bx, ow, fun b hb => hb, World.ownsRow_nil _ _ _ _, rfl, fun j s r hs => by simp at hs, fun b hb => ⟨(World.ownsRow.lt ow b hb).1, fun e => by have := (World.ownsRow.lt ow b hb).1; omega, by simp [Value.ownBlock]⟩, hM, fun b hb => (World.ownsRow.lt ow b hb).2⟩
      have HO2 := Lib.hid T.out.tone
      have PP := Lib.hid P0
      have HUP := Lib.hid hup
      have hO3 := nxt1_lt T.out.rd
      obtain ⟨o3, ho3⟩ : ∃ o3, nxtO n (nxtO 1 (nxtO 8 o)) = o3 := ⟨_, rfl⟩
      rw [ho3] at HO2 hO3 T
      have HO3 := Lib.hid ho3
      obtain ⟨m, hm⟩ : ∃ m, nxtN 1 o3 = m := ⟨_, rfl⟩
      rw [hm] at HO2 hO3
      have HM3 := Lib.hid hm
      have OKU : Hid ((⟨Au, i, cu⟩ : SlV).ok) := ⟨show i ≤ 140737488351232 by omega, owns_le ow⟩
      clear bx ow hall tn hLl hlen2 hup P0 ho3 hm
      go_wp2_with fail
      refine HO2.out.mono ?_
      rintro e wa ⟨rfl, na⟩
      have ta := T.out.next na
      have pa := PP.out.turned na.2 (fun b hb => by
        have h1 := HFN.out b hb
        exact ⟨fun e => by have := (PP.out.kk b e).1; omega, by omega, by simp [Value.ownBlock]⟩)
      have b4a := B4r.out.turned na.2 (fun e => by have := HFN.out _ e; omega)
      have hMa : M ≤ wa.heap.size := Nat.le_trans hsz na.2.size
      obtain ⟨o4, ho4⟩ : ∃ o4, nxtO 1 o3 = o4 := ⟨_, rfl⟩
      rw [ho4] at ta
      have HO4 := Lib.hid ho4
      have TA := Lib.hid ta
      have PA := Lib.hid pa
      have B4A := Lib.hid b4a
      clear na ta pa b4a ho4 HO2 T PP B4r
      go_wp2_with fail
      go_loopw [36] (fun iv wr => ∃ (q : Nat) (hs : SlV) (S : List SlV) (acc : List (List (Int × Int))) (oi : Option (List Nat)) (K : Nat → Prop), q ≤ m ∧ iv = .int .i64 q ∧ hs.n = q ∧ RfT w F N ge gr H wr oi ∧ ManyS hopP o4 m q acc oi ∧ Hps wr M b6 te ⟨Au, i, cu⟩ up K hs S acc ∧ (∀ l ∈ acc, ∀ e ∈ l, I64 e.1 ∧ I64 e.2) ∧ ToBlk wr (H + 1) 0 ⟨none, 0, 0⟩ ⟨none, 0, 0⟩ ∧ M ≤ wr.heap.size) (fun iv _ => m - (intOf iv).toNat)
      case atStart => exact ⟨0, ⟨none, 0, 0⟩, [], [], o4, _, by omega, rfl, rfl, TA.out, ManyS.start _ _ _, PA.out, fun l hl => by simp at hl, B4A.out, hMa⟩
      case round =>
        obtain ⟨wz, rfl⟩ : ∃ wz, wz = wr := ⟨_, rfl⟩
        obtain ⟨q, hs, S, acc, oi, K, hq, rfl, hsn, t, ms, p, hbd, b4, hMz⟩ := hrel
        obtain ⟨Ah, nh, ch⟩ := hs
        dsimp only at hsn
        subst hsn
        have f1 : (0 : Int) ≤ (nh : Int) := Int.natCast_nonneg _
        by_cases hlt2 : nh < m
        · have f2 : (nh : Int) < (m : Int) := by omega
          have HO5 := Lib.hid t.tone
          have T := Lib.hid t
          have MS := Lib.hid ms
          have P := Lib.hid p
          have BD := Lib.hid hbd
          have BZ := Lib.hid b4
          have hc0 := nxt1_lt t.rd
          obtain ⟨c, hc⟩ : ∃ c, nxtN 1 oi = c := ⟨_, rfl⟩
          rw [hc] at HO5 hc0
          have HCC := Lib.hid hc
          clear t ms p hbd b4 hc
          go_wp2_with fail
          refine HO5.out.mono ?_
          rintro e wb ⟨rfl, nb⟩
          have hFK : ∀ b, F b → ¬ K b ∧ b ≠ b6 ∧ (Value.slice Ah nh ch).ownBlock ≠ some b := fun b hb => by
            have h1 := HFN.out b hb
            exact ⟨fun e => by have := (P.out.kk b e).1; omega, by omega, fun e => by have := (World.ownsRow.lt P.out.row b e).1; omega⟩
          have HFK := Lib.hid hFK
          have TB := Lib.hid (T.out.next nb)
          have PB := Lib.hid (P.out.turned nb.2 hFK)
          have BB := Lib.hid (BZ.out.turned nb.2 (fun e => by have := HFN.out _ e; omega))
          have hMb : M ≤ wb.heap.size := Nat.le_trans hMz nb.2.size
          obtain ⟨o5, ho5⟩ : ∃ o5, nxtO 1 oi = o5 := ⟨_, rfl⟩
          rw [ho5] at TB
          have HO55 := Lib.hid ho5
          clear nb hFK ho5 HO5 T P BZ
          go_wp2_with fail
          go_loopw [9, 40] (fun sv iv wr => ∃ (j : Nat) (Ae : Option Addr) (ce : Nat) (es : List (Int × Int)) (oj : Option (List Nat)), j ≤ c ∧ iv = .int .i64 j ∧ sv = .slice Ae j ce ∧ RfT w F N ge gr H wr oj ∧ ManyS edgeP o5 c j es oj ∧ wr.ownsRow M 57 2 (.slice Ae j ce) j (es.flatMap edgeCells) ∧ es.length = j ∧ (∀ b, (Value.slice Ae j ce).ownBlock = some b → ¬ K b ∧ b ≠ b6 ∧ (Value.slice Ah nh ch).ownBlock ≠ some b) ∧ Hps wr M b6 te ⟨Au, i, cu⟩ up K ⟨Ah, nh, ch⟩ S acc ∧ (∀ e ∈ es, I64 e.1 ∧ I64 e.2) ∧ ToBlk wr (H + 1) 0 ⟨none, 0, 0⟩ ⟨none, 0, 0⟩ ∧ M ≤ wr.heap.size) (fun _ iv _ => c - (intOf iv).toNat)
          case atStart => exact ⟨0, none, 0, [], o5, by omega, rfl, rfl, TB.out, ManyS.start _ _ _, World.ownsRow_nil _ _ _ _, rfl, fun b hb => by simp [Value.ownBlock] at hb, PB.out, fun e he => by simp at he, BB.out, hMb⟩
          case round =>
            obtain ⟨j, Ae, ce, es, oj, hj, rfl, rfl, t, ms, ow, hesl, hdis, p, hbd, b4, hMr⟩ := hrel
            have T := Lib.hid t
            have ME := Lib.hid ms
            have OW := Lib.hid ow
            have HDIS := Lib.hid hdis
            have P := Lib.hid p
            have BE := Lib.hid hbd
            have BZ := Lib.hid b4
            have HESL := Lib.hid hesl
            have HO6 := Lib.hid t.tone
            have ha0 := nxt1_lt t.rd
            have e1 : (0 : Int) ≤ (j : Int) := Int.natCast_nonneg _
            clear t ms ow hesl hdis p hbd b4
            by_cases hjl : j < c
            · have e2 : (j : Int) < (c : Int) := by omega
              obtain ⟨a, hav⟩ : ∃ a, nxtN 1 oj = a := ⟨_, rfl⟩
              rw [hav] at HO6 ha0
              have HAV := Lib.hid hav
              clear hav
              go_wp2_with fail
              refine HO6.out.mono ?_
              rintro e wc ⟨rfl, nc⟩
              have tc := T.out.next nc
              have pc := P.out.turned nc.2 HFK.out
              have bc := BZ.out.turned nc.2 (fun e => by have := HFN.out _ e; omega)
              have owc := nc.2.owns OW.out (fun b hb e => by have := (World.ownsRow.lt OW.out b hb).1; have := HFN.out b e; omega)
              have hMc : M ≤ wc.heap.size := Nat.le_trans hMr nc.2.size
              have HO7 := Lib.hid tc.tone
              have hb0 := nxt1_lt tc.rd
              obtain ⟨v, hvv⟩ : ∃ v, nxtN 1 (nxtO 1 oj) = v := ⟨_, rfl⟩
              rw [hvv] at HO7 hb0
              have HVV := Lib.hid hvv
              have TC := Lib.hid tc
              have PC := Lib.hid pc
              have BC := Lib.hid bc
              have OWC := Lib.hid owc
              clear nc tc pc bc owc hvv T P BZ OW HO6
              go_wp2_with fail
              refine HO7.out.mono ?_
              rintro e wd ⟨rfl, nd⟩
              have td := TC.out.next nd
              have pd := PC.out.turned nd.2 HFK.out
              have bd := BC.out.turned nd.2 (fun e => by have := HFN.out _ e; omega)
              have owd := nd.2.owns OWC.out (fun b hb e => by have := (World.ownsRow.lt OWC.out b hb).1; have := HFN.out b e; omega)
              have hMd : M ≤ wd.heap.size := Nat.le_trans hMc nd.2.size
              have TD := Lib.hid td
              have PD := Lib.hid pd
              have BDD := Lib.hid bd
              have OWD := Lib.hid owd
              have OWA : Hid ((wd.alloc (.cells #[.int .i64 (a : Int), .int .i64 (v : Int)] 57)).ownsRow M 57 2 (.slice Ae j ce) j (es.flatMap edgeCells)) := World.ownsRow.alloc owd _
              have HBASE : Hid (M ≤ (wd.alloc (.cells #[.int .i64 (a : Int), .int .i64 (v : Int)] 57)).heap.size) := by show M ≤ _; simp; omega
              have HC : Hid (∀ j u, [Value.int .i64 (a : Int), .int .i64 (v : Int)][j]? = some u → (wd.alloc (.cells #[.int .i64 (a : Int), .int .i64 (v : Int)] 57)).cell? ⟨wd.heap.size, j, none⟩ = some u) := fun j u hu => by
                rw [cell_of_row _ _ _ _ _ _ (heap_alloc_new wd _)]
                simpa using hu
              have hi9 : j ≤ 1000000 := by omega
              clear nd td pd bd owd TC PC BC OWC HO7
              go_wp2_with (at_builtin; refine wpList_append_cells rfl _ _ 51 rfl [.int .i64 (a : Int), .int .i64 (v : Int)] Tryd.underlying51 infoEdge rfl (by decide) (by decide) rfl OWA.out rfl rfl HC.out (by intro u hu; simp at hu; rcases hu with rfl | rfl <;> rfl) hi9 HBASE.out ?_)
              intro A2 c2 we h7 g7 r7
              have kd : Keep wd (wd.alloc (.cells #[.int .i64 (a : Int), .int .i64 (v : Int)] 57)) := (Keep.refl wd).alloc _ _
              have T7 : Turned (fun b => (Value.slice Ae j ce).ownBlock = some b) wd we := (Turned.of_keep (F := fun b => (Value.slice Ae j ce).ownBlock = some b) kd).trans (Turned.of_grown (F := fun b => (Value.slice Ae j ce).ownBlock = some b) g7 (fun i e => e)) (fun b e => Or.inl e)
              have hlo : ∀ b, (Value.slice Ae j ce).ownBlock = some b → M ≤ b := fun b hb => (World.ownsRow.lt OWD.out b hb).1
              have TE := Lib.hid (TD.out.turned T7 (fun b hb => by have := hlo b hb; have := HHH.out; omega))
              have PE := Lib.hid (PD.out.turned T7 HDIS.out)
              have BE2 := Lib.hid (BDD.out.turned T7 (fun e => by have := hlo _ e; omega))
              have OWE : Hid (we.ownsRow M 57 2 (.slice A2 (j + 1) c2) (j + 1) ((es ++ [((a : Int), (v : Int))]).flatMap edgeCells)) := by
                show World.ownsRow _ _ _ _ _ _ _
                rw [List.flatMap_append]
                simpa [edgeCells] using h7
              have MS7 : Hid (ManyS edgeP o5 c (j + 1) (es ++ [((a : Int), (v : Int))]) (nxtO 1 (nxtO 1 oj))) := ME.out.step hjl (fun β Q => by rw [go_edge, HAV.out, HVV.out])
              have DIS7 : Hid (∀ b, (Value.slice A2 (j + 1) c2).ownBlock = some b → ¬ K b ∧ b ≠ b6 ∧ (Value.slice Ah nh ch).ownBlock ≠ some b) := fun b hb => by
                rcases r7 with e | e
                · exact HDIS.out b (e ▸ hb)
                · rw [e] at hb
                  injection hb with hb
                  have hb : wd.heap.size + 1 = b := by simpa using hb
                  exact ⟨fun e => by have := PD.out.klt b e; omega, by omega, fun e => by have := (World.ownsRow.lt PD.out.row b e).2; omega⟩
              have BE7 : Hid (∀ e ∈ es ++ [((a : Int), (v : Int))], I64 e.1 ∧ I64 e.2) := fun e he => by
                rcases List.mem_append.1 he with h1 | h1
                · exact BE.out e h1
                · simp at h1
                  subst h1
                  unfold I64
                  dsimp only
                  omega
              have hMe : M ≤ we.heap.size := Nat.le_trans hMd T7.size
              have HEL : Hid ((es ++ [((a : Int), (v : Int))]).length = j + 1) := by show _ = _; rw [List.length_append, HESL.out, List.length_singleton]
              clear h7 g7 r7 kd T7 hlo TD PD BDD OWD OWA HBASE HC
              go_wp2_with fail
              exact ⟨⟨j + 1, A2, c2, _, _, by omega, by go_num, rfl, TE.out, MS7.out, OWE.out, HEL.out, DIS7.out, PE.out, BE7.out, BE2.out, hMe⟩, by simp [intOf]; omega⟩
            · obtain rfl : j = c := by omega
              have ML : Hid (ManyS hopP o4 m (nh + 1) (acc ++ [es]) oj) := MS.out.step hlt2 (fun β Q => by rw [go_hop, HCC.out, HO55.out, ME.out.end_])
              obtain ⟨_, _, x2⟩ := P.out.bx.cells
              dsimp only at x2
              have OWA : Hid ((wr.alloc (.cells #[.slice Ae j ce] 51)).ownsRow M 51 1 (.slice Ah nh ch) nh (S.map SlV.val)) := World.ownsRow.alloc P.out.row _
              have HBASE : Hid (M ≤ (wr.alloc (.cells #[.slice Ae j ce] 51)).heap.size) := by show M ≤ _; simp; omega
              have HC : Hid (∀ q u, [Value.slice Ae j ce][q]? = some u → (wr.alloc (.cells #[.slice Ae j ce] 51)).cell? ⟨wr.heap.size, q, none⟩ = some u) := fun q u hu => by
                rw [cell_of_row _ _ _ _ _ _ (heap_alloc_new wr _)]
                simpa using hu
              have hi9 : nh ≤ 1000000 := by omega
              have hj255 : j ≤ 255 := by omega
              go_wp2_with (at_builtin; refine wpList_append_cells rfl _ _ 28 rfl [.slice Ae j ce] Tryd.underlying28 infoEdges rfl (by decide) (by decide) rfl OWA.out rfl rfl HC.out (by intro u hu; simp at hu; subst hu; rfl) hi9 HBASE.out ?_)
              intro A2 c2 we h7 g7 r7
              have ka : Keep wr (wr.alloc (.cells #[.slice Ae j ce] 51)) := (Keep.refl wr).alloc _ _
              have T7 : Turned (fun b => (Value.slice Ah nh ch).ownBlock = some b) wr we := (Turned.of_keep (F := fun b => (Value.slice Ah nh ch).ownBlock = some b) ka).trans (Turned.of_grown (F := fun b => (Value.slice Ah nh ch).ownBlock = some b) g7 (fun i e => e)) (fun b e => Or.inl e)
              have hlo : ∀ b, (Value.slice Ah nh ch).ownBlock = some b → M ≤ b := fun b hb => (World.ownsRow.lt P.out.row b hb).1
              obtain ⟨bx7, P7⟩ := Hps.push (s := ⟨Ae, j, ce⟩) (r := es) (P.out.keep ka) (owns_keep OW.out ka) HESL.out hj255 HDIS.out g7 h7 (by simpa using r7)
              obtain ⟨_, _, y2⟩ := bx7.cells
              dsimp only at y2
              have y3 := bx7.free 2
              obtain ⟨wf, hwf⟩ : ∃ wf, we.setCell ⟨b6, 2, none⟩ (.slice A2 (nh + 1) c2) = wf := ⟨_, rfl⟩
              dsimp only at P7
              rw [hwf] at P7
              have TS : Turned (fun b => b = b6) we wf := by rw [← hwf]; exact Turned.set we _ _ rfl
              have TF := Lib.hid ((T.out.turned T7 (fun b hb => by have := hlo b hb; have := HHH.out; omega)).turned TS (fun b hb => by have := HHH.out; omega))
              have BF := Lib.hid ((BZ.out.turned T7 (fun e => by have := hlo _ e; omega)).turned TS (fun e => by omega))
              have PF := Lib.hid P7
              have BD7 : Hid (∀ l ∈ acc ++ [es], ∀ e ∈ l, I64 e.1 ∧ I64 e.2) := fun l hl => by
                rcases List.mem_append.1 hl with h1 | h1
                · exact BD.out l h1
                · simp at h1
                  subst h1
                  exact BE.out
              have hMf : M ≤ wf.heap.size := Nat.le_trans hMr (Nat.le_trans T7.size TS.size)
              clear h7 g7 r7 ka T7 hlo bx7 P7 TS OWA HBASE HC T P BZ OW
              go_wp2_with fail
              go_roundw
              case rel => exact ⟨nh + 1, ⟨A2, nh + 1, c2⟩, _, _, oj, _, by omega, by go_num, rfl, TF.out, ML.out, PF.out, BD7.out, BF.out, hMf⟩
              case measure => simp [intOf]; omega
        · obtain rfl : nh = m := by omega
          obtain ⟨x0, x1, x2⟩ := p.bx.cells
          dsimp only at x1 x2
          have RB := Lib.hid b4
          have b4r := b4
          unfold ToBlk at b4r
          simp only [topoCells] at b4r
          have T9 := t.turned (turned_row wz (H + 1) #[.int .u64 (te : Int), .slice Au i cu, .slice Ah nh ch]) (fun b hb => by have := HHH.out; omega)
          have T9' := turned_row wz (H + 1) #[.int .u64 (te : Int), .slice Au i cu, .slice Ah nh ch]
          have PE := p.ends.2.2
          have OKH : (⟨Ah, nh, ch⟩ : SlV).ok := ⟨show nh ≤ 140737488351232 by omega, show nh ≤ ch from owns_le p.row⟩
          have FIN : Hid (TopoTold F N ge gr o w (.returned (.agg #[.int .u64 (te : Int), .slice Au i cu, .slice Ah nh ch])) (wz.setRow (H + 1) #[.int .u64 (te : Int), .slice Au i cu, .slice Ah nh ch])) := by
            refine ⟨te, ⟨Au, i, cu⟩, ⟨Ah, nh, ch⟩, up, acc, oi, rfl, fun G w'' kG hG => ?_, OKU.out, OKH, hte, hbd, T9.rd, T9.kp, Or.inl fun β Q => ?_⟩
            · exact PE (fun b => b = H + 1 ∨ G b) w'' ((Turned.mono T9' (F' := fun b => b = H + 1 ∨ G b) (fun i _ e => Or.inl e)).trans kG (fun b e => Or.inl (Or.inr e))) (fun b hb => by
                rcases hb with e | e
                · omega
                · have := hG b e; have := HHH.out; omega)
            · unfold topoQ
              rw [go_num, go_num, go_up, HNN.out, if_pos HALLT.out, go_num, HLL.out, HUP.out, HO3.out, HM3.out, HO4.out, HTE.out, ms.end_]
          clear t ms p hbd b4 T9 T9' PE
          go_wp2_with (refine wpList_store_rowTo rfl 30 (.tmp 4) (.tmp 58) rfl rfl (H + 1) #[.int .u64 (te : Int), .slice Au i cu, .slice Ah nh ch] rfl rfl 30 _ b4r infoTp rfl (by kernel_rfl) ?_)
          refine bodyPost_ret (results_cell_row (p := 4) (ty := 30) resTopo _ _ (H + 1) 30 _ (0, 0) _ rfl (setRow_heap _ _ _ _ _ _ RB.out) Tryd.underlying30 rfl infoTp) rfl ?_
          exact FIN.out
end Go.Proofs.YtgkihfemlbhioaaDoor
