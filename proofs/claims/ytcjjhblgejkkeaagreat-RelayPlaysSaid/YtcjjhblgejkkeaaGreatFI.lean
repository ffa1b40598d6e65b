/- The tables of powers and exponents as they stand behind k rounds of their making. -/
import Derived.Test.YtcjjhblgejkkeaaGreatPlain
import Derived.Laws.Rows
import Derived.Test.YtcjjhblgejkkeaaGreatMem
import Derived.Test.YtcjjhblgejkkeaaGreatRows
import Derived.Test.YtcjjhblgejkkeaaGreatFAdd
import Derived.WalkKit
import Derived.WalkMore
import Derived.Lib.Hide
import Derived.ScopeJumps
namespace Go.Proofs.YtcjjhblgejkkeaaGreat
open Go.RowKit

def tabN : Nat → List Nat
  | 0 => List.replicate 511 0
  | k + 1 => ((tabN k).set k (pw k)).set (255 + pw k) k
def cellsU8 (l : List Nat) : Array Value := (l.map fun n : Nat => Value.int .u8 (n : Int)).toArray
/-- The zeros of a table. -/
def zeros : Array Value := cellsU8 (tabN 0)

theorem tabN_length (k : Nat) : (tabN k).length = 511 := by
  induction k with
  | zero => rw [tabN, List.length_replicate]
  | succ k ih => simp [tabN, ih]
theorem tabN_get (k : Nat) (hk : k ≤ 255) : ∀ i, i < k → (tabN k)[i]? = some (pw i) ∧ (tabN k)[255 + pw i]? = some i := by
  induction k with
  | zero => intro i hi; omega
  | succ k ih =>
    intro i hi
    have hl := tabN_length k
    have hp := pw_lt k
    simp only [tabN, List.getElem?_set, List.length_set, hl]
    by_cases e : i = k
    · subst e
      have h1 : ¬ 255 + pw i = i := by omega
      refine ⟨by rw [if_neg h1, if_pos rfl, if_pos (by omega)], by rw [if_pos rfl, if_pos (by omega)]⟩
    · have h := ih (by omega) i (by omega)
      have hq : pw i ≠ pw k := fun h => e (by have := pw_inj h; rwa [Nat.mod_eq_of_lt (by omega), Nat.mod_eq_of_lt (by omega)] at this)
      have h1 : ¬ 255 + pw k = i := by omega
      have h2 : ¬ k = i := by omega
      have h3 : ¬ 255 + pw k = 255 + pw i := by omega
      have h4 : ¬ k = 255 + pw i := by omega
      exact ⟨by rw [if_neg h1, if_neg h2]; exact h.1, by rw [if_neg h3, if_neg h4]; exact h.2⟩
theorem tab_pw (i : Nat) (h : i < 255) : (tabN 255)[i]? = some (pw i) := (tabN_get 255 (by decide) i h).1
theorem tab_lg (a : Nat) (h : a < 256) (h1 : 1 ≤ a) : (tabN 255)[255 + a]? = some (lg a) := by
  have := (tabN_get 255 (by decide) (lg a) (lg_lt a h h1)).2
  rwa [pw_lg a h h1] at this
theorem cellsU8_get (l : List Nat) (i : Nat) : (cellsU8 l)[i]? = l[i]?.map fun n : Nat => Value.int .u8 (n : Int) := by simp [cellsU8]
theorem cellsU8_some (l : List Nat) (i x : Nat) (h : l[i]? = some x) : (cellsU8 l)[i]? = some (.int .u8 (x : Int)) := by rw [cellsU8_get, h]; rfl
theorem cellsU8_set (l : List Nat) (i x : Nat) : (cellsU8 l).setIfInBounds i (.int .u8 (x : Int)) = cellsU8 (l.set i x) := by
  simp [cellsU8, List.map_set]
theorem cellsU8_size (l : List Nat) : (cellsU8 l).size = l.length := by simp [cellsU8]
theorem zeros_eq : zeros = cellsU8 (tabN 0) := rfl

theorem cell_table {w : World} {g i : Nat} {l : List Nat} {t : TypeId} (h : w.heap[g]? = some (.cells (cellsU8 l) t)) (hi : i < l.length) : w.cell? ⟨g, i, none⟩ = some (.int .u8 ((l[i] : Nat) : Int)) := by
  rw [cell_of_row w g i _ _ _ h]
  exact cellsU8_some l i _ (List.getElem?_eq_getElem hi)
theorem heap_set2 {w : World} {g i j x y : Nat} {l : List Nat} {t : TypeId} (h : w.heap[g]? = some (.cells (cellsU8 l) t)) :
    ((w.setCell ⟨g, i, none⟩ (.int .u8 (x : Int))).setCell ⟨g, j, none⟩ (.int .u8 (y : Int))).heap[g]? = some (.cells (cellsU8 ((l.set i x).set j y)) t) := by
  have h1 := heap_setCell_same w g i _ t (.int .u8 (x : Int)) h
  rw [cellsU8_set] at h1
  have h2 := heap_setCell_same _ g j _ t (.int .u8 (y : Int)) h1
  rwa [cellsU8_set] at h2
theorem cellsU8_one (l : List Nat) : (cellsU8 l).all (·.oneCell') = true := by
  rw [Array.all_eq_true_iff_forall_mem]
  intro v hv
  simp only [cellsU8, List.mem_toArray, List.mem_map] at hv
  obtain ⟨n, _, rfl⟩ := hv
  rfl
/-- The finished tables, as the cells of one struct. -/
def tabC : Array Value := cellsU8 (tabN 255)
theorem tabC_pw (i : Nat) (h : i < 255) : tabC[i]? = some (.int .u8 ((pw i : Nat) : Int)) := cellsU8_some _ _ _ (tab_pw i h)
theorem tabC_lg (a : Nat) (h : a < 256) (h1 : 1 ≤ a) : tabC[255 + a]? = some (.int .u8 ((lg a : Nat) : Int)) := cellsU8_some _ _ _ (tab_lg a h h1)
theorem tabC_size : tabC.size = 511 := by rw [tabC, cellsU8_size, tabN_length]
theorem tabC_one : tabC.all (·.oneCell') = true := cellsU8_one _
theorem zeros_size : zeros.size = tabC.size := by rw [tabC_size, zeros, cellsU8_size, tabN_length]
/-- A whole struct is stored into the block that was made last. -/
theorem wpList_store_new {P : Program} {ops : Array Oper} {rest : List Oper} {o : Oper} {a : Act} {w : World} {Q : Exit → Act → World → Prop} {c : Array Value} {t : TypeId} (hgd : o.guard = none) (x y : Operand) (ho : o.op = .store t x y)
    (c' : Array Value) (hx : a.eval x = .pointer (some ⟨w.heap.size, 0, none⟩)) (hy : a.eval y = .agg c') (hi : (P.info? t).map (·.size) = some c'.size)
    (hold : c.size = c'.size) (h1 : c'.all (·.oneCell') = true)
    (h : wpList P ops Q rest (a.put o.dst undef) (w.alloc (.cells c' t))) : wpList P ops Q (o :: rest) a (w.alloc (.cells c t)) := by
  refine wpList_store_row hgd t x y ho w.heap.size c' hx hy t c (heap_alloc_new _ _) hi hold h1 ?_
  have e : (w.alloc (.cells c t)).setRow w.heap.size c' = w.alloc (.cells c' t) := by
    simp only [World.setRow, World.alloc]
    congr 1
    apply Array.ext_getElem?
    intro i
    rw [Array.getElem?_modify]
    by_cases h : w.heap.size = i
    · subst h; simp
    · have h' : ¬ i = w.heap.size := fun e => h e.symm
      simp [h, h', Array.getElem?_push]
  rw [e]
  exact h
attribute [irreducible] tabC
end Go.Proofs.YtcjjhblgejkkeaaGreat
/- The contract of the tables' making. -/
namespace Go.Proofs.YtcjjhblgejkkeaaGreat
open Go.RowKit

theorem zero_tab (w : World) : (zeroValue 187).run Tryz.prog w = .ok (.agg zeros) w := by kernel_rfl

theorem info_tab : (Tryz.prog.info? 187).map (·.size) = some 511 := by kernel_rfl
theorem info_cells (l : List Nat) (h : l.length = 511) : (Tryz.prog.info? 187).map (·.size) = some (cellsU8 l).size := by rw [info_tab, cellsU8_size, h]

set_option maxRecDepth 100000 in
theorem build_any (w : World) :
    Calls Tryz.prog 123 #[] w fun e w' => e = .returned (.agg tabC) ∧ Keep w w' := by
  have hz := zero_tab
  go_enter Tryz.func123, Tryz.ntmps123
  go_wp2_with fail
  refine wp_scope_jumps 0 (fun a' w' => Keep w w' ∧ ∃ (k : Nat) (u4 u5 u6 u7 u8 u9 u10 u11 u12 u13 u14 u15 u16 u17 u18 u19 u20 : Value), a' = { tmps := #[.pointer (some ⟨w.heap.size, 0, none⟩), .pointer (some ⟨w.heap.size + 1, 0, none⟩), .int .i64 k, .int .u8 (pw k : Nat), u4, u5, u6, u7, u8, u9, u10, u11, u12, u13, u14, u15, u16, u17, u18, u19, u20, undef], defers := [] } ∧ k < 255 ∧ w'.heap[w.heap.size]? = some (.cells zeros 187) ∧ w'.heap[w.heap.size + 1]? = some (.cells (cellsU8 (tabN k)) 187)) (fun a' _ => 255 - (intOf (a'.tmps.getD 2 undef)).toNat) rfl ?_ ?_
  · go_wp2_with fail
    go_step3
    go_wp2_with fail
    refine (timesX_any 1 (by decide) _).mono ?_
    rintro e w' ⟨rfl, rfl⟩
    go_wp2_with fail
    refine (add_any 1 (xt 1) (by decide) (by decide) _).mono ?_
    rintro e w' ⟨rfl, rfl⟩
    go_wp2_with fail
    go_step3
    refine ⟨rfl, ((Keep.refl _).alloc _ _).alloc _ _, 1, _, _, _, _, _, _, _, _, _, _, _, _, _, _, _, _, _, rfl, by decide, ?_, ?_⟩
    · exact heap_alloc2_old _ _ _
    · rw [heap_alloc2_new]; exact congrArg (fun c => some (Obj.cells c 187)) ((cellsU8_set ((tabN 0).set 0 (pw 0)) 256 0) ▸ rfl)
  · rintro a' w' ⟨hg, k, u4, u5, u6, u7, u8, u9, u10, u11, u12, u13, u14, u15, u16, u17, u18, u19, u20, rfl, hk, hh, hh1⟩
    have hp := pw_lt k
    have hp1 := pw_pos' k
    have hl := tabN_length k
    have hl2 : ((tabN k).set k (pw k)).length = 511 := by simp [hl]
    obtain ⟨v1, hc1⟩ : ∃ v, w'.cell? ⟨w.heap.size + 1, k, none⟩ = some v := ⟨_, cell_table hh1 (by omega)⟩
    obtain ⟨v2, hc2⟩ : ∃ v, w'.cell? ⟨w.heap.size + 1, 255 + pw k, none⟩ = some v := ⟨_, cell_table hh1 (by omega)⟩
    have hf1 := frozen_of_row w' (w.heap.size + 1) k _ _ hh1
    have hf2 := frozen_of_row w' (w.heap.size + 1) (255 + pw k) _ _ hh1
    have hs := heap_set2 (i := k) (j := 255 + pw k) (x := pw k) (y := k) hh1
    have HS := Lib.hid hs
    have HH := Lib.hid hh
    have HL := Lib.hid hl
    clear hs hh hh1 hl hl2
    by_cases hk2 : k < 254
    · go_wp2_with fail
      refine (timesX_any _ hp _).mono ?_
      rintro e w' ⟨rfl, rfl⟩
      go_wp2_with fail
      refine (add_any _ _ hp (xt_lt hp) _).mono ?_
      rintro e w' ⟨rfl, rfl⟩
      go_wp2_with fail
      go_step3
      refine ⟨rfl, ⟨(hg.setCell (Nat.le_succ _) _).setCell (Nat.le_succ _) _, k + 1, _, _, _, _, _, _, _, _, _, _, _, _, _, _, _, _, _, rfl, by omega, ?_, HS.out⟩, ?_⟩
      · rw [heap_setCell_other _ _ _ _ (by simp), heap_setCell_other _ _ _ _ (by simp)]; exact HH.out
      · simp [intOf]; omega
    · have hk3 : k = 254 := by omega
      have HT := Lib.hid (show (tabN 255) = ((tabN k).set k (pw k)).set (255 + pw k) k by rw [hk3]; rfl)
      have hk4 : 254 ≤ k := by omega
      clear hk3
      have hl5 : (((tabN k).set k (pw k)).set (255 + pw k) k).length = 511 := by simp [HL.out]
      have HI := Lib.hid (info_cells _ hl5)
      have HL5 := Lib.hid hl5
      have hg2 := (hg.setCell (a := ⟨w.heap.size + 1, k, none⟩) (Nat.le_succ _) (.int .u8 (pw k : Nat))).setCell (a := ⟨w.heap.size + 1, 255 + pw k, none⟩) (Nat.le_succ _) (.int .u8 (k : Nat))
      have HH2 : Hid (((w'.setCell ⟨w.heap.size + 1, k, none⟩ (.int .u8 (pw k : Nat))).setCell ⟨w.heap.size + 1, 255 + pw k, none⟩ (.int .u8 (k : Nat))).heap[w.heap.size]? = some (.cells zeros 187)) := by
        show _ = _
        rw [heap_setCell_other _ _ _ _ (by simp), heap_setCell_other _ _ _ _ (by simp)]; exact HH.out
      clear hl5
      go_wp2_with fail
      refine (timesX_any _ hp _).mono ?_
      rintro e w' ⟨rfl, rfl⟩
      go_wp2_with fail
      refine (add_any _ _ hp (xt_lt hp) _).mono ?_
      rintro e w' ⟨rfl, rfl⟩
      go_wp2_with first | (refine wpList_load_row rfl 187 _ rfl (w.heap.size + 1) rfl 187 _ (0, 0) _ HS.out Tryz.underlying187 rfl HI.out ?_) | (refine wpList_store_row rfl 187 _ _ rfl w.heap.size _ rfl rfl 187 zeros HH2.out HI.out (by rw [cellsU8_size, HL5.out]; rfl) (cellsU8_one _) ?_)
      simp only [Exit.jump]
      refine bodyPost_ret (v := .agg (cellsU8 (((tabN k).set k (pw k)).set (255 + pw k) k))) ?_ rfl ⟨by rw [tabC, HT.out], Keep.setRow hg2 (Nat.le_refl _) HH2.out⟩
      exact results_cell_row (p := 0) (ty := 187) rfl _ _ w.heap.size 187 _ (0, 0) _ rfl (setRow_heap _ _ _ _ _ _ HH2.out) Tryz.underlying187 rfl HI.out
end Go.Proofs.YtcjjhblgejkkeaaGreat
/- The contract of the landed inverse. -/
namespace Go.Proofs.YtcjjhblgejkkeaaGreat
open Go.RowKit
theorem info_tabC : (Tryz.prog.info? 187).map (·.size) = some tabC.size := by rw [info_tab, tabC_size]

theorem inv_zero (w : World) : Calls Tryz.prog 91 #[.int .u8 0] w fun e w' => e = .returned (.tuple #[.int .u8 0, .int .i64 1]) ∧ Keep w w' := by
  go_enter Tryz.func91, Tryz.ntmps91
  go_wp2
  go_ret2
  exact ⟨rfl, Keep.refl _⟩
set_option maxRecDepth 100000 in
theorem inv_pos (a : Nat) (ha : a < 256) (h1 : 1 ≤ a) (w : World) : Calls Tryz.prog 91 #[.int .u8 a] w fun e w' => e = .returned (.tuple #[.int .u8 (invN a : Nat), .int .i64 0]) ∧ Keep w w' := by
  have hz := zero_tab
  have h0 : ((a : Int) == 0) = false := beq_eq_false_iff_ne.2 (by omega)
  have hl := lg_lt a ha h1
  have c1 := tabC_lg a ha h1
  have c2 : tabC[(-((lg a : Nat) : Int) % 255).toNat]? = some (.int .u8 (invN a : Nat)) := by
    rw [show (-((lg a : Nat) : Int) % 255).toNat = (255 - lg a) % 255 by omega, tabC_pw _ (Nat.mod_lt _ (by decide)), invN, if_neg (by omega)]
  go_enter Tryz.func91, Tryz.ntmps91
  go_wp2_with fail
  refine (build_any _).mono ?_
  rintro e w1 ⟨rfl, hg⟩
  go_wp2_with (refine wpList_store_new rfl (.tmp 4) (.tmp 7) rfl tabC rfl rfl info_tabC zeros_size tabC_one ?_)
  go_ret2
  exact ⟨rfl, hg.alloc _ _⟩
end Go.Proofs.YtcjjhblgejkkeaaGreat
