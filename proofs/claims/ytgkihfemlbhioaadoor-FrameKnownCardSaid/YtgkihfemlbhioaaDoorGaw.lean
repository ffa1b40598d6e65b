/- The laws of frames: the chapter's rows. -/
import Derived.Test.YtgkihfemlbhioaaDoorGv5
import Derived.Great.BuildSlice
namespace Go.Proofs.YtgkihfemlbhioaaDoor
open Go.RowKit Fr Crc
set_option linter.unusedVariables false
set_option linter.unusedSimpArgs false
/-- The chapter's three frames. -/
def probF : FrV := ⟨4, 0, 1, 0, 1, 0, 0, 0, 0, [], [], [], 0, [], []⟩
def datF : FrV := ⟨1, 0, 1, 0, 1, 0, 0, 1, 0, [1, 2], [3, 4, 5], [], 0, [], []⟩
def memF : FrV := ⟨5, 2, 2, 0, 0, 0, 0, 0, 0, [], [], [], 1, [true, false, true], [[(0, 1), (1, 2)]]⟩
theorem may_prob : MayF probF := (may_iff _).2 (by decide +kernel)
theorem may_dat : MayF datF := (may_iff _).2 (by decide +kernel)
theorem may_mem : MayF memF := (may_iff _).2 (by decide +kernel)
theorem len_prob : (putV probF).length = 31 := by rw [put_len may_prob]; decide +kernel
theorem len_dat : (putV datF).length = 48 := by rw [put_len may_dat]; decide +kernel
theorem len_mem : (putV memF).length = 41 := by rw [put_len may_mem]; decide +kernel
theorem put_ok {f : FrV} (h : MayF f) : putE f = 0 := if_pos h
theorem take_mem : tkE (putV memF) = 0 ∧ tkV (putV memF) = memF := take_put may_mem
theorem resMember : Tryd.f19.results = #[.cell 0 32] := by kernel_rfl
/-- Four blocks, laid one behind the other. -/
theorem four_blocks (w : World) (a b c d : Array Value) (t1 t2 t3 t4 : TypeId) {w4 : World} (hw : (((w.alloc (.cells a t1)).alloc (.cells b t2)).alloc (.cells c t3)).alloc (.cells d t4) = w4) :
    w4.heap[w.heap.size]? = some (.cells a t1 (0, 0)) ∧ w4.heap[w.heap.size + 1]? = some (.cells b t2 (0, 0)) ∧ w4.heap[w.heap.size + 1 + 1]? = some (.cells c t3 (0, 0)) ∧ w4.heap[w.heap.size + 1 + 1 + 1]? = some (.cells d t4 (0, 0)) ∧ Keep w w4 ∧ w4.heap.size = w.heap.size + 4 := by
  subst hw
  have k1 : Keep (w.alloc (.cells a t1)) ((((w.alloc (.cells a t1)).alloc (.cells b t2)).alloc (.cells c t3)).alloc (.cells d t4)) := (((Keep.refl _).alloc _ _).alloc _ _).alloc _ _
  have k2 : Keep ((w.alloc (.cells a t1)).alloc (.cells b t2)) ((((w.alloc (.cells a t1)).alloc (.cells b t2)).alloc (.cells c t3)).alloc (.cells d t4)) := ((Keep.refl _).alloc _ _).alloc _ _
  have k3 : Keep (((w.alloc (.cells a t1)).alloc (.cells b t2)).alloc (.cells c t3)) ((((w.alloc (.cells a t1)).alloc (.cells b t2)).alloc (.cells c t3)).alloc (.cells d t4)) := (Keep.refl _).alloc _ _
  have h1 := heap_alloc_new w (.cells a t1)
  have h2 := heap_alloc_new (w.alloc (.cells a t1)) (.cells b t2)
  have h3 := heap_alloc_new ((w.alloc (.cells a t1)).alloc (.cells b t2)) (.cells c t3)
  have h4 := heap_alloc_new (((w.alloc (.cells a t1)).alloc (.cells b t2)).alloc (.cells c t3)) (.cells d t4)
  rw [show (w.alloc (.cells a t1)).heap.size = w.heap.size + 1 by simp] at h2
  rw [show ((w.alloc (.cells a t1)).alloc (.cells b t2)).heap.size = w.heap.size + 1 + 1 by simp] at h3
  rw [show (((w.alloc (.cells a t1)).alloc (.cells b t2)).alloc (.cells c t3)).heap.size = w.heap.size + 1 + 1 + 1 by simp] at h4
  exact ⟨(k1.block _ (by simp)).trans h1, (k2.block _ (by simp)).trans h2, (k3.block _ (by simp)).trans h3, h4, ((((Keep.refl w).alloc _ _).alloc _ _).alloc _ _).alloc _ _, by simp⟩
set_option maxRecDepth 100000 in
set_option maxHeartbeats 4000000 in
theorem gmember_any (w : World) : Calls Tryd.prog 19 #[] w fun e w' => ∃ m : FrM, e = .returned (.agg (frCells m memF)) ∧ FrIn w' w'.heap.size m memF ∧ Keep w w' := by
  go_enter Tryd.func19, Tryd.ntmps19
  go_wp2_with fail
  obtain ⟨w4, hw4⟩ : ∃ w4, (((w.alloc (.cells #[.int .i64 5, .int .i64 2, .int .i64 2, .int .u64 0, .int .u64 0, .int .i64 0, .int .u64 0, .int .u64 0, .int .u64 0, .slice none 0 0, .slice none 0 0, .slice none 0 0, .int .u64 1, .slice (some ⟨w.heap.size + 1, 0, none⟩) 3 3, .slice (some ⟨w.heap.size + 1 + 1 + 1, 0, none⟩) 1 1] 32)).alloc (.cells #[.bool true, .bool false, .bool true] 4)).alloc (.cells #[.int .i64 0, .int .i64 1, .int .i64 1, .int .i64 2] 57)).alloc (.cells #[.slice (some ⟨w.heap.size + 1 + 1, 0, none⟩) 2 2] 51) = w4 := ⟨_, rfl⟩
  rw [hw4]
  obtain ⟨b0, b1, b2, b3, k4, s4⟩ := four_blocks w _ _ _ _ _ _ _ _ hw4
  refine bodyPost_ret (results_cell_row (p := 0) (ty := 32) resMember _ _ w.heap.size 32 _ (0, 0) _ rfl b0 Tryd.underlying32 rfl infoFr) rfl ?_
  refine ⟨⟨⟨none, 0, 0⟩, ⟨none, 0, 0⟩, ⟨none, 0, 0⟩, ⟨some ⟨w.heap.size + 1, 0, none⟩, 3, 3⟩, ⟨some ⟨w.heap.size + 1 + 1 + 1, 0, none⟩, 1, 1⟩⟩, rfl, ?_, k4⟩
  have cell : ∀ {g : Nat} {cs : Array Value} {t : TypeId} (i : Nat), w4.heap[g]? = some (.cells cs t (0, 0)) → w4.cell? ⟨g, i, none⟩ = cs[i]? := fun i h => by simp [World.cell?, h]
  refine ⟨Bytes.nil _ _ _, Bytes.nil _ _ _, RanksAt.none_ _ _ _, ⟨rfl, fun _ => ⟨w.heap.size + 1, 0, rfl, by omega, fun i x hi => ?_⟩⟩, ⟨[⟨some ⟨w.heap.size + 1 + 1, 0, none⟩, 2, 2⟩], rfl, rfl, fun i s r hs hr => ?_, fun _ => ⟨w.heap.size + 1 + 1 + 1, 0, rfl, by omega, fun i s hs => ?_⟩⟩, by simp [SlV.ok], by simp [memF, I64], by simp [memF, U64], fun r hr => by simp [memF] at hr, fun l hl e he => ?_⟩
  · rw [Nat.zero_add, cell i b1]
    match i, hi with
    | 0, hi => simp [memF] at hi; subst hi; rfl
    | 1, hi => simp [memF] at hi; subst hi; rfl
    | 2, hi => simp [memF] at hi; subst hi; rfl
    | i + 3, hi => simp [memF] at hi
  · match i, hs, hr with
    | 0, hs, hr =>
      simp [memF] at hs hr
      subst hs; subst hr
      refine ⟨⟨rfl, fun r hr => by simp at hr; rcases hr with rfl | rfl <;> rfl, fun _ => ⟨w.heap.size + 1 + 1, 0, rfl, by omega, fun i r j v hr hv => ?_⟩⟩, by dsimp only; decide, by dsimp only; decide⟩
      rw [Nat.zero_add, cell _ b2]
      match i, j, hr, hv with
      | 0, 0, hr, hv => simp at hr; subst hr; simp at hv; subst hv; rfl
      | 0, 1, hr, hv => simp at hr; subst hr; simp at hv; subst hv; rfl
      | 1, 0, hr, hv => simp at hr; subst hr; simp at hv; subst hv; rfl
      | 1, 1, hr, hv => simp at hr; subst hr; simp at hv; subst hv; rfl
      | 0, j + 2, hr, hv => simp at hr; subst hr; simp at hv
      | 1, j + 2, hr, hv => simp at hr; subst hr; simp at hv
      | i + 2, j, hr, hv => simp at hr
    | i + 1, hs, hr => simp at hs
  · match i, hs with
    | 0, hs => simp at hs; subst hs; rw [Nat.zero_add, cell 0 b3]; rfl
    | i + 1, hs => simp at hs
  · simp [memF] at hl
    subst hl
    simp at he
    rcases he with rfl | rfl <;> simp [I64]
end Go.Proofs.YtgkihfemlbhioaaDoor
