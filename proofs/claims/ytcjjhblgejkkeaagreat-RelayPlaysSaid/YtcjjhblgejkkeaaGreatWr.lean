/- The document's own window. -/
import Derived.Test.YtcjjhblgejkkeaaGreatWi
import Derived.Test.YtcjjhblgejkkeaaGreatMine
import Derived.Test.YtcjjhblgejkkeaaGreatRegion
import Derived.BigQuiet
namespace Go.Proofs.YtcjjhblgejkkeaaGreat
open Go.RowKit
set_option linter.unusedVariables false
set_option linter.unusedSimpArgs false
/-- The document's window of width k and base b in block g. -/
structure RefW (w : World) (g k b : Nat) : Prop where
  block : w.heap[g]? = some (.cells #[.int .u64 (b : Int), .int .i64 (k : Int)] 63 (0, 0))
  low : 1 ≤ k
  high : k ≤ 16
  top : b ≤ topN
namespace RefW
variable {w w' : World} {g k b : Nat}
theorem lt (h : RefW w g k b) : g < w.heap.size := (Array.getElem?_eq_some_iff.1 h.block).1
theorem c0 (h : RefW w g k b) : w.cell? ⟨g, 0, none⟩ = some (.int .u64 (b : Int)) := by simp [World.cell?, h.block]
theorem c1 (h : RefW w g k b) : w.cell? ⟨g, 1, none⟩ = some (.int .i64 (k : Int)) := by simp [World.cell?, h.block]
theorem free (h : RefW w g k b) : w.frozen? ⟨g, 0, none⟩ = false := by simp [World.frozen?, h.block]
theorem turned {G : Nat → Prop} (h : RefW w g k b) (t : Turned G w w') (hn : ¬ G g) : RefW w' g k b := ⟨(t.block g h.lt hn).trans h.block, h.low, h.high, h.top⟩
theorem keep (h : RefW w g k b) (t : Keep w w') : RefW w' g k b := ⟨(t.block g h.lt).trans h.block, h.low, h.high, h.top⟩
theorem moved (h : RefW w g k b) {c : Nat} (hc : c ≤ topN) : RefW (w.setCell ⟨g, 0, none⟩ (.int .u64 (c : Int))) g k c :=
  ⟨by simp [World.setCell, Array.getElem?_modify, h.block], h.low, h.high, hc⟩
end RefW
theorem rnew_out (k : Int) (h : k < 1 ∨ 16 < k) (w : World) : Calls Tryz.prog 45 #[.int .i64 k] w fun e w' => e = .returned (.tuple #[.pointer none, .int .i64 1]) ∧ w' = w := by
  by_cases h1 : k < 1
  · have b1 : decide (k < 1) = true := decide_eq_true h1
    clear h
    go_enter Tryz.func45, Tryz.ntmps45
    go_wp2_with fail
    go_ret2
    exact ⟨rfl, rfl⟩
  · have h2 : 16 < k := by omega
    have b1 : decide (k < 1) = false := decide_eq_false h1
    clear h
    go_enter Tryz.func45, Tryz.ntmps45
    go_wp2_with fail
    go_ret2
    exact ⟨rfl, rfl⟩
theorem rnew_in (k : Nat) (h1 : 1 ≤ k) (h2 : k ≤ 16) (w : World) : Calls Tryz.prog 45 #[.int .i64 (k : Int)] w fun e w' => e = .returned (.tuple #[.pointer (some ⟨w.heap.size, 0, none⟩), .int .i64 0]) ∧ RefW w' w.heap.size k 0 ∧ Keep w w' := by
  have b1 : decide ((k : Int) < 1) = false := decide_eq_false (by omega)
  have b2 : ¬ (16 : Int) < (k : Int) := by omega
  go_enter Tryz.func45, Tryz.ntmps45
  go_wp2_with fail
  go_ret2
  exact ⟨rfl, ⟨heap_alloc_new _ _, h1, h2, Nat.zero_le _⟩, (Keep.refl w).alloc _ _⟩
theorem u64_winL (b i : Nat) (h : b + i < topN) : (winL b (i + 1)).map u64 = (winL b i).map u64 ++ [Value.int .u64 ((b : Int) + (i : Int))] := by
  rw [winL_succ _ _ h, List.map_append]; rfl
section
variable {g k b : Nat} {w : World}
set_option maxRecDepth 100000 in
set_option maxHeartbeats 1000000 in
/-- Its All. -/
theorem rall_any (h : RefW w g k b) :
    Calls Tryz.prog 80 #[.pointer (some ⟨g, 0, none⟩)] w fun e w' => ∃ A n c, e = .returned (.slice A n c) ∧ OwnU w' w.heap.size A n c (winL b k) ∧ Keep w w' := by
  have hk := h.high
  have hb := h.top
  unfold topN at hb
  go_enter Tryz.func80, Tryz.ntmps80
  go_wp2_with fail
  go_loopw [3, 4] (fun v i wr => ∃ (j n c : Nat) (A : Option Addr), j ≤ k ∧ i = .int .i64 j ∧ v = .slice A n c ∧ OwnU wr w.heap.size A n c (winL b j) ∧ Keep w wr) (fun v i _ => k - (intOf i).toNat)
  case atStart => exact ⟨0, 0, 0, none, Nat.zero_le _, rfl, rfl, by rw [winL_none]; exact OwnU.none_ _ _, Keep.refl w⟩
  case round =>
    obtain ⟨j, n, c, A, hj, rfl, rfl, ho, hkw⟩ := hrel
    have hw := h.keep hkw
    have c0 := hw.c0
    have c1 := hw.c1
    have hl : n ≤ 16 := by
      have := winL_le b j
      rw [ho.length] at this
      omega
    have hs := hkw.size
    by_cases hlt : j < k
    · have d1 : (j : Int) < (k : Int) := by omega
      have e1 : IntKind.u64.wrap (j : Int) = (j : Int) := IntWalk.u64_in _ (by omega)
      have e2 : IntKind.u64.wrap ((b : Int) + (j : Int)) = (b : Int) + (j : Int) := IntWalk.u64_in _ (by omega)
      by_cases hin : b + j < topN
      · have d2 : (b : Int) + (j : Int) < 1099511627776 := by unfold topN at hin; omega
        go_wp2_with (at_builtin; refine wpList_append_u rfl _ _ 121 rfl Tryz.underlying121 infoU rfl (ho.alloc _) rfl (by rw [World.cell?_alloc_new]; rfl) (by omega) (by simp; omega) ?_)
        intro A2 c2 w2 h2 hg2
        have k2 : Keep w w2 := (hkw.alloc _ _).grown hg2 ho.rowLe
        go_wp2_with fail
        go_roundw
        case rel => exact ⟨j + 1, n + 1, c2, A2, by omega, by go_num, rfl, by unfold OwnU; rw [u64_winL _ _ hin]; exact h2, k2⟩
        case measure => simp [intOf]; omega
      · have d2 : ¬ (b : Int) + (j : Int) < 1099511627776 := by unfold topN at hin; omega
        go_wp2_with fail
        go_roundw
        case rel => exact ⟨j + 1, n, c, A, by omega, by go_num, rfl, by rw [winL_more _ _ hin]; exact ho, hkw⟩
        case measure => simp [intOf]; omega
    · have d1 : ¬ (j : Int) < (k : Int) := by omega
      obtain rfl : j = k := by omega
      go_wp2_with fail
      go_ret
      exact ⟨A, n, c, rfl, ho, hkw⟩
end
end Go.Proofs.YtcjjhblgejkkeaaGreat
/- The document's own window: In, End, Slot, Move; lists held side by side. -/
namespace Go.Proofs.YtcjjhblgejkkeaaGreat
open Go.RowKit
set_option linter.unusedVariables false
set_option linter.unusedSimpArgs false
section
variable {g k b : Nat} {w : World}
set_option maxRecDepth 100000 in
set_option maxHeartbeats 1000000 in
/-- Its In. -/
theorem rin_any (n : Nat) (h : RefW w g k b) :
    Calls Tryz.prog 32 #[.pointer (some ⟨g, 0, none⟩), .int .u64 (n : Int)] w fun e w' => e = .returned (.bool (winIn b k n)) ∧ Keep w w' := by
  have hk := h.high
  go_enter Tryz.func32, Tryz.ntmps32
  go_wp2_with fail
  refine (rall_any h).mono ?_
  rintro e w1 ⟨A, m, c, rfl, ho, hkw⟩
  have HI := Lib.hid ho.ins
  have HK := Lib.hid hkw
  have hm : m ≤ 16 := by
    have := winL_le b k
    rw [ho.length] at this
    omega
  have HL := Lib.hid ho.length
  clear ho hkw
  go_wp2_with fail
  go_loopw [6] (fun i wr => ∃ j : Nat, j ≤ m ∧ i = .int .i64 j ∧ wr = w1 ∧ ∀ x ∈ (winL b k).take j, x ≠ n) (fun i _ => m - (intOf i).toNat)
  case atStart => exact ⟨0, Nat.zero_le _, rfl, rfl, fun x hx => by simp at hx⟩
  case round =>
    obtain ⟨j, hj, rfl, rfl, hx⟩ := hrel
    have HX := Lib.hid hx
    clear hx
    by_cases hlt : j < m
    · obtain ⟨q, off, x, rfl, _, _, hx, hc⟩ := HI.out.at_ hlt
      have HG := Lib.hid hx
      clear hx
      have e1 : (0 : Int) ≤ (j : Int) := Int.natCast_nonneg _
      have e2 : (j : Int) < (m : Int) := by omega
      by_cases hxn : x = n
      · have d : decide ((x : Int) = (n : Int)) = true := decide_eq_true (by omega)
        go_wp2_with fail
        go_ret
        exact ⟨by rw [winIn_mem, decide_eq_true (by rw [← hxn]; exact List.mem_of_getElem? HG.out)]; rfl, HK.out⟩
      · have d : ¬ (x : Int) = (n : Int) := by omega
        go_wp2_with fail
        go_roundw
        case rel =>
          refine ⟨j + 1, by omega, by go_num, trivial, fun y hy => ?_⟩
          rw [List.take_add_one, HG.out] at hy
          rcases List.mem_append.1 hy with hy | hy
          · exact HX.out y hy
          · simp at hy; subst hy; exact hxn
        case measure => simp [intOf]; omega
    · have d1 : ¬ (j : Int) < (m : Int) := by omega
      obtain rfl : j = m := by omega
      go_wp2_with fail
      go_ret
      refine ⟨?_, HK.out⟩
      rw [winIn_mem, decide_eq_false (fun hmem => HX.out n (by rw [List.take_of_length_le (by rw [HL.out]; omega)]; exact hmem) rfl)]; rfl
/-- Its Move. -/
theorem rmove_out (c : Nat) (hc : topN < c) (w : World) :
    Calls Tryz.prog 70 #[.pointer (some ⟨g, 0, none⟩), .int .u64 (c : Int)] w fun e w' => e = .returned (.tuple #[.slice none 0 0, .int .i64 1]) ∧ w' = w := by
  unfold topN at hc
  have d : (1099511627776 : Int) < (c : Int) := by omega
  go_enter Tryz.func70, Tryz.ntmps70
  go_wp2_with fail
  go_ret2
  exact ⟨rfl, rfl⟩
theorem u64_gone' (b k c i : Nat) (h : winIn c k (b + i) = false) : (goneN b k c (i + 1)).map u64 = (goneN b k c i).map u64 ++ [Value.int .u64 ((b + i : Nat) : Int)] := by
  rw [goneN_out _ _ _ _ h, List.map_append]; rfl
set_option maxRecDepth 100000 in
set_option maxHeartbeats 1000000 in
theorem rmove_in (c : Nat) (hc : c ≤ topN) (h : RefW w g k b) :
    Calls Tryz.prog 70 #[.pointer (some ⟨g, 0, none⟩), .int .u64 (c : Int)] w fun e w' => ∃ A n q, e = .returned (.tuple #[.slice A n q, .int .i64 0]) ∧ OwnU w' w.heap.size A n q (winGone b k c) ∧ RefW w' g k c ∧ Turned (fun x => x = g) w w' := by
  have hc2 := hc
  unfold topN at hc2
  have d : ¬ (1099511627776 : Int) < (c : Int) := by omega
  have hk := h.high
  have hlt := h.lt
  go_enter Tryz.func70, Tryz.ntmps70
  go_wp2_with fail
  refine (rall_any h).mono ?_
  rintro e w1 ⟨A, m, q, rfl, ho, hkw⟩
  have hw1 := h.keep hkw
  have hm : m ≤ 16 := by
    have := winL_le b k
    rw [ho.length] at this
    omega
  have HL := Lib.hid ho.length
  have ht : Turned (fun x => x = g) w1 (w1.setCell ⟨g, 0, none⟩ (.int .u64 (c : Int))) := Turned.set (F := fun x => x = g) _ _ _ rfl
  have hm2 := hw1.moved hc
  have hu := ho.ins.turned ht (fun x hx e => by have e : x = g := e; omega)
  have HU := Lib.hid (hu.any)
  have HT := Lib.hid ((Turned.of_keep (F := fun x => x = g) hkw).trans ht fun i e => Or.inl e)
  have HM := Lib.hid hm2
  have cf := hw1.free
  have cg := hw1.c0
  clear ho hkw hw1 ht hm2 hu
  go_wp2_with fail
  obtain ⟨V, hV⟩ : ∃ V, w1.setCell ⟨g, 0, none⟩ (.int .u64 (c : Int)) = V := ⟨_, rfl⟩
  rw [hV] at HU HT HM ⊢
  clear hV cf cg
  have hsz := HT.out.size
  go_loopw [7, 8] (fun v i wr => ∃ (j n q2 : Nat) (A2 : Option Addr), j ≤ m ∧ i = .int .i64 j ∧ v = .slice A2 n q2 ∧ OwnU wr V.heap.size A2 n q2 (goneN b k c j) ∧ Keep V wr) (fun v i _ => m - (intOf i).toNat)
  case atStart => exact ⟨0, 0, 0, none, Nat.zero_le _, rfl, rfl, OwnU.none_ _ _, Keep.refl V⟩
  case round =>
    obtain ⟨j, n, q2, A2, hj, rfl, rfl, hg, hkv⟩ := hrel
    have hn : n ≤ 16 := by
      have := goneN_le b k c j
      rw [hg.length] at this
      omega
    have hM := HM.out.keep hkv
    have hs := hkv.size
    by_cases hlt2 : j < m
    · obtain ⟨p, off, x, rfl, _, hpl, hx, hc3⟩ := HU.out.at_ hlt2
      have hxe : x = b + j := by
        rw [winL_get _ _ _ (by rw [← winL_length, HL.out]; omega)] at hx
        injection hx with hx
        exact hx.symm
      have hc4 : wr.cell? ⟨p, off + j, none⟩ = some (.int .u64 (x : Int)) := (World.cell?_of_block (hkv.block p hpl)).trans hc3
      have e1 : (0 : Int) ≤ (j : Int) := Int.natCast_nonneg _
      have e2 : (j : Int) < (m : Int) := by omega
      have hin := rin_any x hM
      subst hxe
      cases hi : winIn c k (b + j) with
      | true =>
        rw [hi] at hin
        clear hx hc3
        go_wp2_with fail
        refine hin.mono ?_
        rintro e w2 ⟨rfl, k2⟩
        go_wp2_with fail
        go_roundw
        case rel => exact ⟨j + 1, n, q2, A2, by omega, by go_num, rfl, by rw [goneN_in _ _ _ _ hi]; exact hg.keep k2, hkv.trans k2⟩
        case measure => simp [intOf]; omega
      | false =>
        rw [hi] at hin
        clear hx hc3
        go_wp2_with fail
        refine hin.mono ?_
        rintro e w2 ⟨rfl, k2⟩
        have hc5 : w2.cell? ⟨p, off + j, none⟩ = some (.int .u64 ((b + j : Nat) : Int)) := (World.cell?_of_block (k2.block p (by omega))).trans hc4
        have hg2 := hg.keep k2
        have hs2 := k2.size
        clear hc4
        go_wp2_with (at_builtin; refine wpList_append_u rfl _ _ 121 rfl Tryz.underlying121 infoU rfl (hg2.alloc _) rfl (by rw [World.cell?_alloc_new]; rfl) (by omega) (by simp; omega) ?_)
        intro A3 q3 w3 h3 hg3
        have k3 : Keep V w3 := ((hkv.trans k2).alloc _ _).grown hg3 hg2.rowLe
        go_wp2_with fail
        go_roundw
        case rel => exact ⟨j + 1, n + 1, q3, A3, by omega, by go_num, rfl, by unfold OwnU; rw [u64_gone' _ _ _ _ hi]; exact h3, k3⟩
        case measure => simp [intOf]; omega
    · have d1 : ¬ (j : Int) < (m : Int) := by omega
      obtain rfl : j = m := by omega
      go_wp2_with fail
      go_ret2
      refine ⟨A2, n, q2, rfl, ?_, hM, HT.out.then_keep hkv⟩
      rw [← goneN_all, ← winL_length, HL.out]; exact hg.lower hsz
end
end Go.Proofs.YtcjjhblgejkkeaaGreat
