/- The document's own frames: its reader. -/
import Derived.Test.YtgkihfemlbhioaaDoorFcut
import Derived.Test.YtgkihfemlbhioaaDoorFrp
namespace Go.Proofs.YtgkihfemlbhioaaDoor
open Go.RowKit Fr
set_option linter.unusedVariables false
set_option linter.unusedSimpArgs false
/-- A reader in block g: what is left, and whether there was too little. -/
def Rd (w : World) (g : Nat) (L : List Nat) (bad : Bool) : Prop :=
  ∃ A c, w.heap[g]? = some (.cells #[.slice A L.length c, .bool bad] 64 (0, 0)) ∧ Bytes w g A L.length L ∧ L.length ≤ c ∧ L.length ≤ 100000
theorem Rd.lt {w : World} {g : Nat} {L : List Nat} {bad : Bool} (h : Rd w g L bad) : g < w.heap.size := by
  obtain ⟨A, c, h, _⟩ := h
  exact (Array.getElem?_eq_some_iff.1 h).1
theorem Rd.all {w : World} {g : Nat} {L : List Nat} {bad : Bool} (h : Rd w g L bad) : AllB L := by
  obtain ⟨A, c, _, h, _⟩ := h
  exact h.all
theorem two_cells {w : World} {g : Nat} {t : TypeId} {x y : Value} (h : w.heap[g]? = some (.cells #[x, y] t (0, 0))) : w.cell? ⟨g, 0, none⟩ = some x ∧ w.cell? ⟨g, 1, none⟩ = some y ∧ w.frozen? ⟨g, 0, none⟩ = false ∧ w.frozen? ⟨g, 1, none⟩ = false := by
  refine ⟨?_, ?_, ?_, ?_⟩ <;> simp [World.cell?, World.frozen?, h]
theorem two_set {w : World} {g i : Nat} {t : TypeId} {cs : Array Value} (h : w.heap[g]? = some (.cells cs t (0, 0))) (v : Value) : (w.setCell ⟨g, i, none⟩ v).heap[g]? = some (.cells (cs.setIfInBounds i v) t (0, 0)) := by
  simp [World.setCell, Array.getElem?_modify, h]
theorem Bytes.set {w : World} {B n g i : Nat} {A : Option Addr} {xs : List Nat} (h : Bytes w B A n xs) (hg : B ≤ g) (v : Value) : Bytes (w.setCell ⟨g, i, none⟩ v) B A n xs :=
  ⟨h.1, h.2.1, fun hn => by
    obtain ⟨b, off, e, hb, hc⟩ := h.2.2 hn
    exact ⟨b, off, e, hb, fun j hj => by rw [World.cell?_setCell_far _ _ _ _ (show g ≠ b by omega)]; exact hc j hj⟩⟩
theorem grown_set {w w' : World} {g i : Nat} (k : Keep w w') (hg : g < w.heap.size) (v : Value) : w.grownBy (w'.setCell ⟨g, i, none⟩ v) (some g) :=
  ⟨k.os, k.tape, k.output, by simpa [World.setCell] using k.size, fun j hj hn => (Below.heap_setCell w' ⟨g, i, none⟩ v j (fun e => hn (by rw [e]))).trans (k.block j hj)⟩
set_option maxRecDepth 100000 in
set_option maxHeartbeats 4000000 in
theorem rtake_in (w : World) (g k : Nat) (L : List Nat) (bad : Bool) (h : Rd w g L bad) (hk : k ≤ L.length) :
    Calls Tryd.prog 27 #[.pointer (some ⟨g, 0, none⟩), .int .i64 (k : Int)] w fun e w' => ∃ A c, e = .returned (.slice A k c) ∧ Own w' w.heap.size 5 A k c (L.take k) ∧ Rd w' g (L.drop k) bad ∧ w.grownBy w' (some g) := by
  obtain ⟨A, c, hc, hb, hl, hm⟩ := h
  obtain ⟨n, hn⟩ : ∃ n, L.length = n := ⟨_, rfl⟩
  rw [hn] at hc hb hl hm hk
  have hgl := (Array.getElem?_eq_some_iff.1 hc).1
  obtain ⟨c1, c2, c3, c4⟩ := two_cells hc
  have b1 : ¬ (n : Int) < (k : Int) := by omega
  have b2 : (0 : Int) ≤ (k : Int) := Int.natCast_nonneg _
  have b3 : (k : Int) ≤ (c : Int) := by omega
  have hcut := fun w => run_cut n c k A hk w
  have HC := Lib.hid hc
  have HB := Lib.hid hb
  have HN := Lib.hid hn
  have HCUT : Hid (Bytes w g A k (L.take k)) := hb.cut hk
  clear hc hb hn
  go_enter Tryd.func27, Tryd.ntmps27
  go_wp2_with (at_builtin; refine wpList_append_bytes rfl _ _ 23 rfl Tryd.underlying23 info5 rfl (Own.none_ w w.heap.size 5) rfl HCUT.out (by omega) (Nat.le_refl _) ?_)
  intro A2 c2' w2 h2 hg2 _
  have K2 : Keep w w2 := (Keep.refl w).grown hg2 (fun k e => by simp [Value.ownBlock] at e)
  have hc2 := (K2.block g hgl).trans HC.out
  obtain ⟨d1, d2, d3, d4⟩ := two_cells hc2
  have O2 : Hid (Own w2 w.heap.size 5 A2 k c2' (L.take k)) := by
    show Own _ _ _ _ _ _ _
    simpa using h2
  have HC2 := Lib.hid hc2
  have HK2 := Lib.hid K2
  obtain ⟨w3, hw3⟩ : ∃ w3, w2.setCell ⟨g, 0, none⟩ (.slice (cutA A c k) (n - k) (c - k)) = w3 := ⟨_, rfl⟩
  have hc3 := two_set (i := 0) hc2 (.slice (cutA A c k) (n - k) (c - k))
  rw [hw3] at hc3
  have HG3 : Hid (w.grownBy w3 (some g)) := by rw [← hw3]; exact grown_set K2 hgl _
  have hb3 := (((HB.out.drop (s := k) hl).keep (Nat.le_of_lt hgl) K2).set (i := 0) (Nat.le_refl g) (.slice (cutA A c k) (n - k) (c - k)))
  rw [hw3] at hb3
  have R3 : Hid (Rd w3 g (L.drop k) bad) := ⟨cutA A c k, c - k, by
    have e : (L.drop k).length = n - k := by rw [List.length_drop, HN.out]
    rw [e, hc3]; rfl, by rw [List.length_drop, HN.out]; exact hb3, by rw [List.length_drop, HN.out]; omega, by rw [List.length_drop, HN.out]; omega⟩
  have O3 : Hid (Own w3 w.heap.size 5 A2 k c2' (L.take k)) := by
    show Own _ _ _ _ _ _ _
    rw [← hw3]
    exact O2.out.far (by
      intro e
      have := O2.out.rowLe _ e
      exact absurd this (by show ¬ w.heap.size ≤ g; omega)) _
  clear h2 hg2 K2 hc2 hc3 hb3 O2 c1 c2 c3 c4
  go_wp2_with fail
  go_ret
  exact ⟨_, _, rfl, O3.out, R3.out, HG3.out⟩
set_option maxRecDepth 100000 in
set_option maxHeartbeats 4000000 in
theorem rtake_short (w : World) (g k : Nat) (L : List Nat) (bad : Bool) (h : Rd w g L bad) (hk : L.length < k) :
    Calls Tryd.prog 27 #[.pointer (some ⟨g, 0, none⟩), .int .i64 (k : Int)] w fun e w' => ∃ A c, e = .returned (.slice A 0 c) ∧ Own w' w.heap.size 5 A 0 c [] ∧ Rd w' g L true ∧ w.grownBy w' (some g) := by
  obtain ⟨A, c, hc, hb, hl, hm⟩ := h
  obtain ⟨n, hn⟩ : ∃ n, L.length = n := ⟨_, rfl⟩
  rw [hn] at hc hb hl hm hk
  have hgl := (Array.getElem?_eq_some_iff.1 hc).1
  obtain ⟨c1, c2, c3, c4⟩ := two_cells hc
  have b1 : (n : Int) < (k : Int) := by omega
  obtain ⟨w3, hw3⟩ : ∃ w3, w.setCell ⟨g, 1, none⟩ (.bool true) = w3 := ⟨_, rfl⟩
  have hc3 := two_set (i := 1) hc (.bool true)
  have hb3 := hb.set (i := 1) (Nat.le_refl g) (.bool true)
  have hg3 := grown_set (i := 1) (Keep.refl w) hgl (.bool true)
  rw [hw3] at hc3 hb3 hg3
  have hsz : w3.heap.size = w.heap.size := by rw [← hw3]; simp [World.setCell]
  have hmk := run_make_bytes (P := Tryd.prog) Tryd.underlying23 info5 0 (by omega) w3
  have O := Own.made w3 5 0 (by omega)
  obtain ⟨w4, hw4⟩ : ∃ w4, w3.alloc (.cells (madeCells #[.int .u8 0] 0) 5) = w4 := ⟨_, rfl⟩
  have k4 : Keep w3 w4 := by rw [← hw4]; exact (Keep.refl w3).alloc _ _
  rw [hw4] at hmk O
  have R4 : Hid (Rd w4 g L true) := ⟨A, c, by rw [hn]; exact (k4.block g (by omega)).trans hc3, by rw [hn]; exact hb3.keep (by omega) k4, by omega, by omega⟩
  have G4 : Hid (w.grownBy w4 (some g)) := ⟨k4.os.trans hg3.os, k4.tape.trans hg3.tape, k4.output.trans hg3.output, Nat.le_trans hg3.size k4.size, fun i hi hne => (k4.block i (by omega)).trans (hg3.block i hi hne)⟩
  have O4 : Hid (Own w4 w.heap.size 5 (some ⟨w.heap.size, 0, none⟩) 0 0 []) := by
    show Own _ _ _ _ _ _ _
    rw [hsz] at O
    exact O
  rw [show ((0 : Nat) : Int) = 0 from rfl] at hmk
  clear hc hb hc3 hb3 hg3 k4 O hn
  go_enter Tryd.func27, Tryd.ntmps27
  go_wp2_with fail
  go_ret
  exact ⟨_, _, rfl, O4.out, R4.out, G4.out⟩
theorem grown_drew {w w' : World} {row : Option Nat} (h : w.grownBy w' row) (n : Nat) : w.grownBy (w'.drewN n) row := ⟨h.os, h.tape, h.output, h.size, h.block⟩
set_option maxRecDepth 100000 in
set_option maxHeartbeats 4000000 in
theorem rnum_in (w : World) (g k : Nat) (L : List Nat) (bad : Bool) (h : Rd w g L bad) (hk : k ≤ L.length) (h8 : k ≤ 8) :
    Calls Tryd.prog 26 #[.pointer (some ⟨g, 0, none⟩), .int .i64 (k : Int)] w fun e w' => e = .returned (.int .u64 (valN (L.take k) : Nat)) ∧ Rd w' g (L.drop k) bad ∧ w.grownBy w' (some g) := by
  have HT := Lib.hid (rtake_in w g k L bad h hk)
  have HL := Lib.hid (valN_lt64 L k h.all h8)
  have HX : Hid ((L.take k).length = k) := by show _ = k; rw [List.length_take]; omega
  obtain ⟨X, hX⟩ : ∃ X, L.take k = X := ⟨_, rfl⟩
  rw [hX] at HT HL HX ⊢
  clear h hX
  go_enter Tryd.func26, Tryd.ntmps26
  go_wp2_with fail
  refine HT.out.mono ?_
  rintro e w2 ⟨A, c, rfl, o2, r2, g2⟩
  have R2 := Lib.hid r2
  have G2 := Lib.hid g2
  have HB := Lib.hid o2.bytes
  clear o2 r2 g2
  go_wp2_with fail
  go_loop [6, 7] (fun nv iv => ∃ i : Nat, i ≤ k ∧ iv = .int .i64 i ∧ nv = .int .u64 (valN (X.take i) : Nat)) (fun _ iv => k - (intOf iv).toNat)
  case atStart => exact ⟨0, by omega, rfl, rfl⟩
  case round =>
    obtain ⟨i, hi, rfl, rfl⟩ := hrel
    by_cases hlt : i < k
    · obtain ⟨b, off, rfl, _, hc⟩ := HB.out.at_ hlt
      have hx := HB.out.all.getD i
      have hs := valN_take_succ X i (by rw [HX.out]; exact hlt)
      have hb : valN (X.take (i + 1)) < 18446744073709551616 := by
        have := valN_lt64 X (i + 1) HB.out.all (by omega)
        exact this
      obtain ⟨v, hv⟩ : ∃ v, valN (X.take i) = v := ⟨_, rfl⟩
      obtain ⟨u, hu⟩ : ∃ u, valN (X.take (i + 1)) = u := ⟨_, rfl⟩
      rw [hv] at hs
      rw [hu] at hs hb
      rw [hv]
      have HU := Lib.hid hu
      generalize X.getD i 0 = x at *
      have e1 : (0 : Int) ≤ (i : Int) := Int.natCast_nonneg _
      have e2 : (i : Int) < (k : Int) := by omega
      have e3 : IntKind.u64.wrap (256 * (v : Int)) = ((256 * v : Nat) : Int) := by rw [IntWalk.u64_in _ (by omega)]; omega
      have e4 : IntKind.u64.wrap (x : Int) = (x : Int) := IntWalk.u64_in _ (by omega)
      have e5 : IntKind.u64.wrap (((256 * v : Nat) : Int) + (x : Int)) = (u : Int) := by rw [IntWalk.u64_in _ (by omega)]; omega
      have HS := Lib.hid hs
      clear hv hu hs
      go_wp2_with fail
      go_round
      case rel => exact ⟨i + 1, by omega, by go_num, by first | (rw [HU.out]; done) | (rw [HU.out, HS.out]; push_cast; rfl) | (rw [HU.out]; congr 1)⟩
      case measure => simp [intOf]; omega
    · obtain rfl : i = k := by omega
      have HE : Hid (X.take i = X) := List.take_of_length_le (by rw [HX.out]; exact Nat.le_refl _)
      rw [HE.out]
      obtain ⟨v, hv⟩ : ∃ v, valN X = v := ⟨_, rfl⟩
      have HV := Lib.hid hv
      rw [hv]
      clear hv
      go_wp2_with fail
      go_ret
      exact ⟨by first | rfl | rw [HV.out]; rfl, R2.out, G2.out⟩
set_option maxRecDepth 100000 in
theorem rnum_short (w : World) (g k : Nat) (L : List Nat) (bad : Bool) (h : Rd w g L bad) (hk : L.length < k) :
    Calls Tryd.prog 26 #[.pointer (some ⟨g, 0, none⟩), .int .i64 (k : Int)] w fun e w' => e = .returned (.int .u64 0) ∧ Rd w' g L true ∧ w.grownBy w' (some g) := by
  have HT := Lib.hid (rtake_short w g k L bad h hk)
  clear h
  go_enter Tryd.func26, Tryd.ntmps26
  go_wp2_with fail
  refine HT.out.mono ?_
  rintro e w2 ⟨A, c, rfl, o2, r2, g2⟩
  have R2 := Lib.hid r2
  have G2 := Lib.hid g2
  clear o2 r2 g2
  go_wp2_with fail
  go_loop [6, 7] (fun nv iv => iv = .int .i64 0 ∧ nv = .int .u64 0) (fun _ iv => 0)
  case atStart => exact ⟨rfl, rfl⟩
  case round =>
    obtain ⟨rfl, rfl⟩ := hrel
    go_wp2_with fail
    go_ret
    exact ⟨rfl, R2.out, G2.out⟩
end Go.Proofs.YtgkihfemlbhioaaDoor
