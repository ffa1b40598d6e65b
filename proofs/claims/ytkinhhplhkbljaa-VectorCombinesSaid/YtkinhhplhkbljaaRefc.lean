/- The contract of the document's own combination. -/
import Derived.Test.YtkinhhplhkbljaaRefb
import Derived.Test.YtkinhhplhkbljaaOpen
namespace Go.Proofs.Ytkinhhplhkbljaa
open Go.RowKit

theorem vComb_zero (n : Nat) (rows : List (List Nat)) (c : List Nat) : vComb n rows c 0 = List.replicate n 0 := by
  refine list_ext (by simp [vComb, tab_length]) fun i hi => ?_
  rw [vComb, tab_length] at hi
  rw [vComb, tab_getD, if_pos hi, List.getD_eq_getElem?_getD, List.getElem?_replicate, if_pos hi]; rfl
theorem vComb_succ (n k : Nat) (rows : List (List Nat)) (c : List Nat) : vAddS n (vComb n rows c k) (rows.getD k []) (c.getD k 0) = vComb n rows c (k + 1) :=
  tab_congr fun i hi => by rw [vComb, tab_getD, if_pos hi]; rfl

theorem rcomb_none (ca m cb : Nat) (A A' : Option Addr) (w : World) :
    Calls Try.prog 24 #[.slice A 0 ca, .slice A' m cb] w (NewPair w [] 1) := by
  go_enter Try.func24, Try.ntmps24
  go_wp2
  go_ret2
  exact NewPair.nil w 1
theorem rcomb_apart (n ca m cb : Nat) (A A' : Option Addr) (w : World) (h0 : n ≠ 0) (h : n ≠ m) :
    Calls Try.prog 24 #[.slice A n ca, .slice A' m cb] w (NewPair w [] 21) := by
  have b0 : ((n : Int) == 0) = false := beq_eq_false_iff_ne.2 (by omega)
  have b1 : ((n : Int) != (m : Int)) = true := by rw [bne_iff_ne]; omega
  go_enter Try.func24, Try.ntmps24
  go_wp2
  go_ret2
  exact NewPair.nil w 21

/-- The combination, or that the rows don't fit. -/
def combOf (n : Nat) (rs : List RowV) (c : List Nat) : List Nat := if ∀ r ∈ rs, r.n = n then vComb n (rowsOf rs) c rs.length else []
def combErr (n : Nat) (rs : List RowV) : Int := if ∀ r ∈ rs, r.n = n then 0 else 21
set_option maxRecDepth 100000 in
set_option maxHeartbeats 1000000 in
theorem rcomb_any (B B' n ca cb : Nat) (A A' : Option Addr) (rs : List RowV) (cs : List Nat) (w : World) (h : RowsAt w B A n rs) (h' : Bytes w B' A' n cs) (hB : B ≤ w.heap.size) (hB' : B' ≤ w.heap.size) (h0 : n ≠ 0) (hn : n ≤ 140737488351232)
    (r0 : RowV) (hr0 : rs[0]? = some r0) :
    Calls Try.prog 24 #[.slice A n ca, .slice A' n cb] w (NewPair w (combOf r0.n rs cs) (combErr r0.n rs)) := by
  have b0 : ((n : Int) == 0) = false := beq_eq_false_iff_ne.2 (by omega)
  have b1 : ((n : Int) != (n : Int)) = false := by simp
  obtain ⟨b, off, r, rfl, hb, hr, hc, hby, hrn, _⟩ := h.at_ (k := 0) (by omega)
  obtain rfl : r0 = r := Option.some.inj (hr0.symm.trans hr)
  have e0 : (0 : Int) < (n : Int) := by omega
  have hmk := run_make_bytes (P := Try.prog) Try.underlying22 info5 r0.n (by omega)
  have HH := Lib.hid h
  have HH' := Lib.hid h'
  have HR := Lib.hid hr0
  rw [Nat.add_zero] at hc
  clear h h' hr0 hr hby
  go_enter Try.func24, Try.ntmps24
  go_wp2_with fail
  clear hc hmk
  go_loopw [6, 7] (fun o i wr => ∃ (k : Nat) (Ao : Option Addr) (co : Nat), k ≤ n ∧ i = .int .i64 k ∧ o = .slice Ao r0.n co ∧ Own wr w.heap.size 5 Ao r0.n co (vComb r0.n (rowsOf rs) cs k) ∧ Keep w wr ∧ ∀ j r, j < k → rs[j]? = some r → r.n = r0.n) (fun _ i _ => n - (intOf i).toNat)
  case atStart =>
    refine ⟨0, _, _, by omega, rfl, rfl, ?_, (Keep.refl w).alloc _ _, fun j r hj => by omega⟩
    rw [vComb_zero]
    exact Own.made w 5 r0.n (by omega)
  case round =>
    obtain ⟨k, Ao, co, hk, rfl, rfl, hown, hkeep, hall⟩ := hrel
    have HA := Lib.hid hall
    clear hall
    by_cases hlt : k < n
    · obtain ⟨b2, o2, r, e, hb2, hr, hc, hby, hrn2, _⟩ := (HH.out.keep hB hkeep).at_ hlt
      injection e with e
      injection e with e3 e4
      subst e3; subst e4
      obtain ⟨b3, o3, rfl, hb3, hc3⟩ := (HH'.out.keep hB' hkeep).at_ hlt
      have hcc := HH'.out.all.getD k
      have HB := Lib.hid hby
      have HRK := Lib.hid hr
      have e1 : (0 : Int) ≤ (k : Int) := Int.natCast_nonneg _
      have e2 : (k : Int) < (n : Int) := by omega
      have hsz := hkeep.size
      clear hby hr
      by_cases hd : r.n = r0.n
      · rw [hd] at hc
        have bd : ((r0.n : Int) != (r0.n : Int)) = false := by simp
        have hs := vComb_succ r0.n k (rowsOf rs) cs
        rw [rowsOf_getD HRK.out] at hs
        generalize cs.getD k 0 = y at *
        have HS := Lib.hid hs
        have HD := Lib.hid hd
        have HOWN := Lib.hid hown
        have HK := Lib.hid hkeep
        have HBR : Hid (Bytes wr B r.A r0.n r.xs) := by show Bytes _ _ _ _ _; rw [← hd]; exact HB.out
        clear hs hd hown hkeep
        go_wp2_with fail
        go_region_held3 (fun w' => w'.cell? ⟨b, off + k, none⟩ = some (.slice r.A r0.n r.c) ∧ w'.cell? ⟨b3, o3 + k, none⟩ = some (.int .u8 (y : Int)))
          (first
            | go_keep
            | (go_split_ands
               refine ⟨?_, ?_⟩
               · (rw [hk2.cell (p := ⟨b, off + k, none⟩) (by simp; omega)]; assumption)
               · (rw [hk2.cell (p := ⟨b3, o3 + k, none⟩) (by simp; omega)]; assumption)))
          (first | (go_at_call 14; refine (raddS_any wr.heap.size B r0.n co r.c y Ao r.A (vComb r0.n (rowsOf rs) cs k) r.xs _ HOWN.out.bytes.drew HBR.out.drew (Nat.le_refl _) (by simp; omega) hrn hcc).mono ?_; rintro e w2 ⟨A2, n2, c2, rfl, hown2, hk2⟩))
        have hn2 : n2 = r0.n := by have h := hown2.length; rw [vAddS, tab_length] at h; exact h.symm
        subst hn2
        rw [HS.out] at hown2
        have hk3 : Keep w w2 := Keep.trans HK.out (Keep.trans (Keep.drew (Keep.refl wr)) hk2)
        have HA2 : Hid (∀ j r, j < k + 1 → rs[j]? = some r → r.n = r0.n) := fun j r' hj hr' => by
          by_cases e : j = k
          · subst e
            rw [HRK.out] at hr'
            injection hr' with hr'
            subst hr'
            exact HD.out
          · exact HA.out j r' (by omega) hr'
        have hown3 := hown2.lower (base' := w.heap.size) (by simpa using hsz)
        clear hown2 hk2
        go_wp2_with fail
        go_roundw
        case rel => exact ⟨k + 1, A2, c2, by omega, by go_num, rfl, hown3, hk3, HA2.out⟩
        case measure => simp [intOf]; omega
      · have bd : ((r.n : Int) != (r0.n : Int)) = true := by rw [bne_iff_ne]; omega
        have hno : ¬ ∀ r ∈ rs, r.n = r0.n := fun h => hd (h r (List.mem_of_getElem? HRK.out))
        have HC : Hid (combOf r0.n rs cs = []) := by show _ = _; rw [combOf, if_neg hno]
        have HE : Hid (combErr r0.n rs = 21) := by show _ = _; rw [combErr, if_neg hno]
        clear hno hd
        go_wp2_with fail
        go_ret2
        rw [HC.out, HE.out]
        exact ⟨none, 0, 0, rfl, Own.none_ _ _ _, hkeep⟩
    · obtain rfl : k = n := by omega
      have hyes : ∀ r ∈ rs, r.n = r0.n := fun r hr => by
        obtain ⟨j, hj, e⟩ := List.getElem_of_mem hr
        exact HA.out j r (by rw [← HH.out.1]; exact hj) (by rw [← e]; exact List.getElem?_eq_getElem hj)
      have HC : Hid (combOf r0.n rs cs = vComb r0.n (rowsOf rs) cs k) := by show _ = _; rw [combOf, if_pos hyes, HH.out.1]
      have HE : Hid (combErr r0.n rs = 0) := by show _ = _; rw [combErr, if_pos hyes]
      clear hyes
      go_wp2_with fail
      go_ret2
      rw [HC.out, HE.out]
      exact ⟨Ao, r0.n, co, rfl, hown, hkeep⟩
end Go.Proofs.Ytkinhhplhkbljaa
