/- True rows, laid. -/
import Derived.Test.YtcjjhblgejkkeaaGreatRsy
import Derived.Test.YtcjjhblgejkkeaaGreatRh1
import Derived.Test.YtcjjhblgejkkeaaGreatBas
namespace Go.Proofs.YtcjjhblgejkkeaaGreat
open Go.RowKit Lin
set_option linter.unusedVariables false
set_option linter.unusedSimpArgs false
/-- A row told by a function that tells nothing else: both of its sides new. -/
def NewAgg (w : World) (g s : Nat) (cs ps : List Nat) (e : Ending) (w' : World) : Prop :=
  ∃ A2 c2 A3 c3, e = .returned (.agg #[.slice A2 g c2, .slice A3 s c3]) ∧ Own w' w.heap.size 5 A2 g c2 cs ∧ Own w' w.heap.size 5 A3 s c3 ps ∧ g ≤ c2 ∧ s ≤ c3 ∧ Keep w w'
theorem Own.cap {w : World} {base e n c : Nat} {A : Option Addr} {xs : List Nat} (h : Own w base e A n c xs) : n ≤ c := by
  rcases h.1.2 with ⟨hv, h0⟩ | ⟨g, cap, cur, hv, _, _, hle, _⟩
  · omega
  · injection hv with _ _ h3; omega
set_option maxRecDepth 100000 in
set_option maxHeartbeats 2000000 in
theorem truth_any (B n c g s cs : Nat) (A As : Option Addr) (xs : List Nat) (M : List (List Nat)) (w : World) (h : Bytes w B A n xs) (hB : B ≤ w.heap.size) (hm : Mat w ⟨As, g, cs, M⟩) (sz : Sz g s M) (g1 : 1 ≤ g) (g2 : g ≤ 255) (s2 : s ≤ 255) :
    Calls Tryz.prog 34 #[.slice A n c, .slice As g cs] w (NewAgg w g s (fillN xs g) (payV g s M (fillN xs g))) := by
  have mkg := fun w => run_make_bytes (P := Tryz.prog) Tryz.underlying32 info5 g (by omega) w
  have hq := heap_alloc_new w (.cells #[.slice none 0 0, .slice none 0 0] 34)
  have hk0 : Keep w (w.alloc (.cells #[.slice none 0 0, .slice none 0 0] 34)) := (Keep.refl w).alloc _ _
  have hsz : (w.alloc (.cells #[.slice none 0 0, .slice none 0 0] 34)).heap.size = w.heap.size + 1 := by simp
  obtain ⟨w1, hw1⟩ : ∃ w1, w.alloc (.cells #[.slice none 0 0, .slice none 0 0] 34) = w1 := ⟨_, rfl⟩
  rw [hw1] at hq hk0 hsz
  obtain ⟨w5, vv, hcp, ho5, hk5⟩ := run_copy_fill (P := Tryz.prog) (t := 32) (e := 5) (c := c) (ty := 3) (n := g) Tryz.underlying32 (by kernel_rfl) (h.keep hB hk0) (Nat.le_trans hB hk0.size) (by omega)
  have HQ := Lib.hid hq
  have HK0 := Lib.hid hk0
  have HSZ := Lib.hid hsz
  have HO5 := Lib.hid ho5
  have HK5 := Lib.hid hk5
  have HM := Lib.hid (hm.keep (hk0.trans hk5))
  have HSM := Lib.hid sz
  clear h hq hk0 hsz ho5 hk5 hm sz
  go_enter Tryz.func34, Tryz.ntmps34
  go_wp2_with fail
  refine (comb_mat HM.out HSM.out g1 g2 s2 HO5.out.bytes (Nat.le_refl _) rfl).mono ?_
  rintro e w6 ⟨A6, n6, c6, rfl, o6, k6⟩
  obtain rfl : s = n6 := by rw [← o6.length]; exact (tab_length _ _).symm
  have hb0 := ((HK5.out.trans k6).block _ (by have := HSZ.out; omega)).trans HQ.out
  have hk3 := HK0.out.trans (HK5.out.trans k6)
  have o1 := HO5.out.keep k6
  have h5 := HK5.out.size
  have y0 : w6.cell? ⟨w.heap.size, 0, none⟩ = some (.slice none 0 0) := cell_of_row _ _ _ _ _ _ hb0
  have y1 : w6.cell? ⟨w.heap.size, 1, none⟩ = some (.slice none 0 0) := cell_of_row _ _ _ _ _ _ hb0
  have z0 : w6.frozen? ⟨w.heap.size, 0, none⟩ = false := by simp [World.frozen?, hb0]
  have z1 : w6.frozen? ⟨w.heap.size, 1, none⟩ = false := by simp [World.frozen?, hb0]
  have HO1 := Lib.hid (((o1.far (fun e => by have := (o1.1.lt _ e).1; have := HSZ.out; simp at *; omega) (.slice (some ⟨w1.heap.size, 0, none⟩) g g) (p := ⟨w.heap.size, 0, none⟩)).far (fun e => by have := (o1.1.lt _ e).1; have := HSZ.out; simp at *; omega) (.slice A6 s c6) (p := ⟨w.heap.size, 1, none⟩)).lower (base' := w.heap.size) (by have := HSZ.out; omega))
  have HO2 := Lib.hid (((o6.far (fun e => by have := (o6.1.lt _ e).1; have := HSZ.out; simp at *; omega) (.slice (some ⟨w1.heap.size, 0, none⟩) g g) (p := ⟨w.heap.size, 0, none⟩)).far (fun e => by have := (o6.1.lt _ e).1; have := HSZ.out; simp at *; omega) (.slice A6 s c6) (p := ⟨w.heap.size, 1, none⟩)).lower (base' := w.heap.size) (by have := HSZ.out; omega))
  have HB := Lib.hid (bset (i := 1) (bset (i := 0) hb0 (.slice (some ⟨w1.heap.size, 0, none⟩) g g)) (.slice A6 s c6))
  have HK := Lib.hid ((hk3.setCell (a := ⟨w.heap.size, 0, none⟩) (Nat.le_refl _) (.slice (some ⟨w1.heap.size, 0, none⟩) g g)).setCell (a := ⟨w.heap.size, 1, none⟩) (Nat.le_refl _) (.slice A6 s c6))
  have HC6 := Lib.hid o6.cap
  clear hb0 hk3 o1 o6 k6 h5
  go_wp2_with fail
  refine bodyPost_ret (v := .agg #[.slice (some ⟨w1.heap.size, 0, none⟩) g g, .slice A6 s c6]) ?_ rfl ⟨_, _, _, _, rfl, HO1.out, HO2.out, Nat.le_refl _, HC6.out, HK.out⟩
  exact results_cell1 (p := 4) (ty := 34) rfl _ _ w.heap.size 34 _ (0, 0) _ rfl HB.out Tryz.underlying34 rfl infoRowSize
end Go.Proofs.YtcjjhblgejkkeaaGreat
