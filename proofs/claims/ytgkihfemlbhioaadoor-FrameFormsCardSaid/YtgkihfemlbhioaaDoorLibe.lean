/- The library's slices.Equal at bytes. -/
import Derived.Test.YtgkihfemlbhioaaDoorNew
namespace Go.Proofs.YtgkihfemlbhioaaDoor
open Go.RowKit
set_option maxRecDepth 100000 in
set_option maxHeartbeats 1000000 in
theorem sequal_any (B B' n m ca cb : Nat) (A A' : Option Addr) (xs ys : List Nat) (w : World) (h : Bytes w B A n xs) (h' : Bytes w B' A' m ys) (hn : n ≤ 150000000000000) :
    Calls Tryd.prog 49 #[.slice A n ca, .slice A' m cb] w fun e w' => e = .returned (.bool (decide (xs = ys))) ∧ ∃ k, w' = w.drewN k := by
  have HB := Lib.hid h
  have HB' := Lib.hid h'
  have hl := h.length
  have hl' := h'.length
  by_cases hlen : n = m
  · subst hlen
    have b0 : ((n : Int) != (n : Int)) = false := by simp
    have HL := Lib.hid hl
    have HL' := Lib.hid hl'
    clear h h' hl hl'
    go_enter Tryd.func49, Tryd.ntmps49
    go_wp2_with fail
    go_loopw [13] (fun i wr => ∃ k : Nat, k ≤ n ∧ i = .int .i64 k ∧ (∃ q, wr = w.drewN q) ∧ ∀ j, j < k → xs.getD j 0 = ys.getD j 0) (fun i _ => n - (intOf i).toNat)
    case atStart => exact ⟨0, by omega, rfl, ⟨0, rfl⟩, fun j hj => by omega⟩
    case round =>
      obtain ⟨k, hk, rfl, ⟨q, rfl⟩, hall⟩ := hrel
      have HA := Lib.hid hall
      clear hall
      by_cases hlt : k < n
      · obtain ⟨b1, o1, rfl, _, c1⟩ := HB.out.at_ hlt
        obtain ⟨b2, o2, rfl, _, c2⟩ := HB'.out.at_ hlt
        have e1 : (0 : Int) ≤ (k : Int) := Int.natCast_nonneg _
        have e2 : (k : Int) < (n : Int) := by omega
        by_cases hd : xs.getD k 0 = ys.getD k 0
        · have HD := Lib.hid hd
          rw [hd] at c1
          obtain ⟨y, hy⟩ : ∃ y, ys.getD k 0 = y := ⟨_, rfl⟩
          rw [hy] at c1 c2
          have bd : ((y : Int) != (y : Int)) = false := by simp
          clear hd hy
          go_wp2_with fail
          go_quiet (fail)
          go_wp2_with fail
          have HA2 : Hid (∀ j, j < k + 1 → xs.getD j 0 = ys.getD j 0) := fun j hj => by
            by_cases e : j = k
            · rw [e]; exact HD.out
            · exact HA.out j (by omega)
          go_roundw
          case rel => exact ⟨k + 1, by omega, by go_num, ⟨_, rfl⟩, HA2.out⟩
          case measure => simp [intOf]; omega
        · have bd : (((xs.getD k 0 : Nat) : Int) != ((ys.getD k 0 : Nat) : Int)) = true := by rw [bne_iff_ne]; omega
          have HC : Hid (decide (xs = ys) = false) := by show _ = _; exact decide_eq_false (fun e => hd (by rw [e]))
          generalize xs.getD k 0 = x at *
          generalize ys.getD k 0 = y at *
          clear hd
          go_wp2_with fail
          go_quiet (fail)
          go_wp2_with fail
          go_ret
          exact ⟨by rw [HC.out]; rfl, _, World.drewN_drewN ..⟩
      · obtain rfl : k = n := by omega
        have he : xs = ys := by
          apply List.ext_getElem?
          intro i
          rcases Nat.lt_or_ge i k with hi | hi
          · have e := HA.out i hi
            have i1 : i < xs.length := by rw [HL.out]; exact hi
            have i2 : i < ys.length := by rw [HL'.out]; exact hi
            rw [List.getElem?_eq_getElem i1, List.getElem?_eq_getElem i2]
            simp only [List.getD_eq_getElem?_getD, List.getElem?_eq_getElem i1, List.getElem?_eq_getElem i2, Option.getD_some] at e
            rw [e]
          · rw [List.getElem?_eq_none (by rw [HL.out]; exact hi), List.getElem?_eq_none (by rw [HL'.out]; exact hi)]
        have HC : Hid (decide (xs = ys) = true) := by show _ = _; exact decide_eq_true he
        clear he
        go_wp2_with fail
        go_ret
        exact ⟨by rw [HC.out]; rfl, _, rfl⟩
  · have b0 : ((n : Int) != (m : Int)) = true := by rw [bne_iff_ne]; omega
    have HC : Hid (decide (xs = ys) = false) := by show _ = _; exact decide_eq_false (fun e => hlen (by rw [← hl, ← hl', e]))
    clear h h' hl hl' hlen
    go_enter Tryd.func49, Tryd.ntmps49
    go_wp2_with fail
    go_ret
    exact ⟨by rw [HC.out]; rfl, 0, rfl⟩
end Go.Proofs.YtgkihfemlbhioaaDoor
