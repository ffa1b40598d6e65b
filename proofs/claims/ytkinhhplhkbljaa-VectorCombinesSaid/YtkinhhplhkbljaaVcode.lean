/- The landed combination; all contracts of the landed vector code. -/
import Derived.Test.YtkinhhplhkbljaaVd
namespace Go.Proofs.Ytkinhhplhkbljaa
open Go.RowKit

set_option maxRecDepth 100000 in
theorem fit_any (B n ca : Nat) (A : Option Addr) (rs : List RowV) (w : World) (h : RowsAt w B A n rs) (hn : n ≤ 140737488351232) (r0 : RowV) (hr0 : rs[0]? = some r0) :
    Calls Try.prog 38 #[.slice A n ca] w fun e w' => e = .returned (.bool (decide (∀ r ∈ rs, r.n = r0.n))) ∧ ∃ m, w' = w.drewN m := by
  have h0 : 0 < n := by
    rcases Nat.eq_zero_or_pos n with e | e
    · rw [← h.1] at e
      have := List.eq_nil_of_length_eq_zero e
      subst this; cases hr0
    · exact e
  obtain ⟨b, off, r, rfl, hb, hr, hc, hby, hrn, _⟩ := h.at_ (k := 0) h0
  obtain rfl : r0 = r := Option.some.inj (hr0.symm.trans hr)
  have e0 : (0 : Int) < (n : Int) := by omega
  have HH := Lib.hid h
  have HR := Lib.hid hr0
  rw [Nat.add_zero] at hc
  clear h hr0 hr hby
  go_enter Try.func38, Try.ntmps38
  go_wp2_with fail
  go_loopw [6] (fun i wr => ∃ k : Nat, k ≤ n ∧ i = .int .i64 k ∧ (∃ m, wr = w.drewN m) ∧ ∀ j r, j < k → rs[j]? = some r → r.n = r0.n) (fun i _ => n - (intOf i).toNat)
  case atStart => exact ⟨0, by omega, rfl, ⟨0, rfl⟩, fun j r hj => by omega⟩
  case round =>
    obtain ⟨k, hk, rfl, ⟨m, rfl⟩, hall⟩ := hrel
    have HA := Lib.hid hall
    clear hall
    by_cases hlt : k < n
    · obtain ⟨b', off', r, e, hb', hr, hck, hby, hrn', _⟩ := HH.out.at_ hlt
      injection e with e
      injection e with e1 e2
      subst e1 e2
      have HRK := Lib.hid hr
      have e1 : (0 : Int) ≤ (k : Int) := Int.natCast_nonneg _
      have e2 : (k : Int) < (n : Int) := by omega
      clear hby hr
      by_cases hd : r.n = r0.n
      · rw [hd] at hck
        have bd : ((r0.n : Int) != (r0.n : Int)) = false := by simp
        have HD := Lib.hid hd
        clear hd
        go_wp2_with fail
        go_quiet (fail)
        go_wp2_with fail
        have HA2 : Hid (∀ j r, j < k + 1 → rs[j]? = some r → r.n = r0.n) := fun j r' hj hr' => by
          by_cases e : j = k
          · subst e
            rw [HRK.out] at hr'
            injection hr' with hr'
            subst hr'
            exact HD.out
          · exact HA.out j r' (by omega) hr'
        go_round
        case rel => exact ⟨k + 1, by omega, by go_num, ⟨_, rfl⟩, HA2.out⟩
        case measure => simp [intOf]; omega
      · have bd : ((r.n : Int) != (r0.n : Int)) = true := by rw [bne_iff_ne]; omega
        have hno : ¬ ∀ r ∈ rs, r.n = r0.n := fun h => hd (h r (List.mem_of_getElem? HRK.out))
        have HC : Hid (decide (∀ r ∈ rs, r.n = r0.n) = false) := by show _ = _; exact decide_eq_false hno
        clear hno hd
        go_wp2_with fail
        go_quiet (fail)
        go_wp2_with fail
        go_ret
        exact ⟨by rw [HC.out]; rfl, _, World.drewN_drewN ..⟩
    · obtain rfl : k = n := by omega
      have hyes : ∀ r ∈ rs, r.n = r0.n := fun r hr => by
        obtain ⟨j, hj, e⟩ := List.getElem_of_mem hr
        exact HA.out j r (by rw [← HH.out.1]; exact hj) (by rw [← e]; exact List.getElem?_eq_getElem hj)
      have HC : Hid (decide (∀ r ∈ rs, r.n = r0.n) = true) := by show _ = _; exact decide_eq_true hyes
      clear hyes
      go_wp2_with fail
      go_ret
      exact ⟨by rw [HC.out]; rfl, _, rfl⟩
theorem vcomb_none (ca m cb : Nat) (A A' : Option Addr) (w : World) :
    Calls Try.prog 23 #[.slice A 0 ca, .slice A' m cb] w (NewPair w [] 1) := by
  go_enter Try.func23, Try.ntmps23
  go_wp2
  go_ret2
  exact NewPair.nil w 1
theorem vcomb_apart (n ca m cb : Nat) (A A' : Option Addr) (w : World) (h0 : n ≠ 0) (h : n ≠ m) :
    Calls Try.prog 23 #[.slice A n ca, .slice A' m cb] w (NewPair w [] 21) := by
  have b0 : ((n : Int) == 0) = false := beq_eq_false_iff_ne.2 (by omega)
  have b1 : ((m : Int) != (n : Int)) = true := by rw [bne_iff_ne]; omega
  go_enter Try.func23, Try.ntmps23
  go_wp2
  go_ret2
  exact NewPair.nil w 21
set_option maxRecDepth 100000 in
set_option maxHeartbeats 1000000 in
theorem vcomb_any (B B' n ca cb : Nat) (A A' : Option Addr) (rs : List RowV) (cs : List Nat) (w : World) (h : RowsAt w B A n rs) (h' : Bytes w B' A' n cs) (hB : B ≤ w.heap.size) (hB' : B' ≤ w.heap.size) (h0 : n ≠ 0) (hn : n ≤ 140737488351232)
    (r0 : RowV) (hr0 : rs[0]? = some r0) :
    Calls Try.prog 23 #[.slice A n ca, .slice A' n cb] w (NewPair w (combOf r0.n rs cs) (combErr r0.n rs)) := by
  have b0 : ((n : Int) == 0) = false := beq_eq_false_iff_ne.2 (by omega)
  have b1 : ((n : Int) != (n : Int)) = false := by simp
  obtain ⟨b, off, r, rfl, hb, hr, hc, hby, hrn, _⟩ := h.at_ (k := 0) (by omega)
  obtain rfl : r0 = r := Option.some.inj (hr0.symm.trans hr)
  have e0 : (0 : Int) < (n : Int) := by omega
  have hmk := run_make_bytes (P := Try.prog) Try.underlying22 info5 r0.n (by omega)
  have HH := Lib.hid h
  have HH' := Lib.hid h'
  have HR := Lib.hid hr0
  rw [Nat.add_zero] at hc
  clear h h' hr0 hr hby
  by_cases hf : ∀ r ∈ rs, r.n = r0.n
  · have HF := Lib.hid hf
    have HC : Hid (combOf r0.n rs cs = vComb r0.n (rowsOf rs) cs n) := by show _ = _; rw [combOf, if_pos hf, HH.out.1]
    have HE : Hid (combErr r0.n rs = 0) := by show _ = _; rw [combErr, if_pos hf]
    have hft := fit_any B n ca (some ⟨b, off, none⟩) rs w HH.out hn r0 HR.out
    rw [decide_eq_true hf] at hft
    have HFT := Lib.hid hft
    clear hf hft
    go_enter Try.func23, Try.ntmps23
    go_wp2_with fail
    refine HFT.out.mono ?_
    rintro e w1 ⟨rfl, m, rfl⟩
    go_wp2_with fail
    clear hc hmk
    go_loopw [29] (fun i wr => ∃ k : Nat, k ≤ n ∧ i = .int .i64 k ∧ Work w wr w.heap.size r0.n (w.heap.size + 1) (vComb r0.n (rowsOf rs) cs k)) (fun i _ => n - (intOf i).toNat)
    case atStart =>
      refine ⟨0, by omega, rfl, ?_⟩
      rw [vComb_zero]
      exact Work.start (w1 := w.drewN m) rfl (Keep.drewN (Keep.refl _) _) (by omega)
    case round =>
      obtain ⟨k, hk, rfl, hW⟩ := hrel
      by_cases hlt : k < n
      · obtain ⟨b', off', r, e, hb', hr, hck, hby, hrn', _⟩ := (HH.out.keep hB hW.keep).at_ hlt
        injection e with e
        injection e with e1 e2
        subst e1 e2
        obtain ⟨b3, o3, rfl, hb3, hc3⟩ := (HH'.out.keep hB' hW.keep).at_ hlt
        have hcc := HH'.out.all.getD k
        have hd : r.n = r0.n := HF.out r (List.mem_of_getElem? hr)
        have hs := vComb_succ r0.n k (rowsOf rs) cs
        rw [rowsOf_getD hr] at hs
        rw [hd] at hck
        have HBR : Hid (Bytes w B r.A r0.n r.xs) := by show Bytes _ _ _ _ _; rw [← hd]; exact (HH.out.2.1 r (List.mem_of_getElem? hr)).1
        generalize cs.getD k 0 = y at *
        have HS := Lib.hid hs
        have HW := Lib.hid hW
        have hsz := hW.keep.size
        have e1 : (0 : Int) ≤ (k : Int) := Int.natCast_nonneg _
        have e2 : (k : Int) < (n : Int) := by omega
        have HCK := Lib.hid hck
        clear hs hd hby hr hW hck
        go_wp2_with fail
        refine (times_at y wr.heap.size wr hcc rfl).mono ?_
        rintro e w5 ⟨rfl, ht, hk5⟩
        have hck := (hk5.cell (p := ⟨b, off + k, none⟩) (show b < _ by omega)).trans HCK.out
        have HT := Lib.hid ht
        have HK := Lib.hid hk5
        clear ht hk5 hc3
        obtain ⟨p, hp⟩ : ∃ p, wr.heap.size = p := ⟨_, rfl⟩
        rw [hp]
        rw [hp] at HT
        have HP := Lib.hid hp
        clear hp
        have hck2 : (w5.alloc (.cells #[.func (.func 41) #[] #[.pointer (some ⟨p, 0, none⟩), .pointer (some ⟨p + 1, 0, none⟩)]] 53)).cell? ⟨b, off + k, none⟩ = some (.slice r.A r0.n r.c) := (World.cell?_alloc_past _ _ _ (show b < _ by have := HK.out.size; omega)).trans hck
        have HCK2 := Lib.hid hck
        clear hck
        go_wp2_with fail
        have hpc : Held (w5.alloc (.cells #[.func (.func 41) #[] #[.pointer (some ⟨p, 0, none⟩), .pointer (some ⟨p + 1, 0, none⟩)]] 53)) w5.heap.size _ 53 := Held.new rfl _ 53
        have h5 : p + 1 < w5.heap.size := HT.out.1
        have hg5 : w.heap.size + 1 < p := by rw [← HP.out]; exact lt_of_block HW.out.held
        refine (comb_each (by simp [vComb, tab_length]) ?_ (HW.out.later (HK.out.alloc _ _)) hpc (HT.out.alloc _) (by omega) (by omega) (by omega) HBR.out hB hrn hcc).mono ?_
        · exact HW.out.own.2
        · rw [HS.out]
          rintro e w6 ⟨rfl, hW⟩
          have HW6 := Lib.hid hW
          clear hW hpc hck2
          go_wp2_with fail
          go_round
          case rel => exact ⟨k + 1, by omega, by go_num, HW6.out⟩
          case measure => simp [intOf]; omega
      · obtain rfl : k = n := by omega
        have c1 := hW.held.cell
        have HW := Lib.hid hW
        clear hW
        go_wp2_with fail
        go_ret2
        rw [HC.out, HE.out]
        exact ⟨_, _, _, rfl, HW.out.own, HW.out.keep⟩
  · have HC : Hid (combOf r0.n rs cs = []) := by show _ = _; rw [combOf, if_neg hf]
    have HE : Hid (combErr r0.n rs = 21) := by show _ = _; rw [combErr, if_neg hf]
    have hft := fit_any B n ca (some ⟨b, off, none⟩) rs w HH.out hn r0 HR.out
    rw [decide_eq_false hf] at hft
    have HFT := Lib.hid hft
    clear hf hft
    go_enter Try.func23, Try.ntmps23
    go_wp2_with fail
    refine HFT.out.mono ?_
    rintro e w1 ⟨rfl, m, rfl⟩
    go_wp2_with fail
    go_ret2
    rw [HC.out, HE.out]
    exact ⟨none, 0, 0, rfl, Own.none_ _ _ _, Keep.drewN (Keep.refl _) _⟩
end Go.Proofs.Ytkinhhplhkbljaa
