/- Contracts of the document's own answers of layer 6: sizes, the identity, transposes, products. -/
import Derived.Test.YtofhdaeeiienfaaMatPlain
import Derived.Test.YtofhdaeeiienfaaRefV
import Derived.Test.YtofhdaeeiienfaaRowsApp
import Derived.OwnWalk
import Derived.Test.YtofhdaeeiienfaaMgen
import Derived.Test.YtofhdaeeiienfaaRegion
import Derived.Deep.DeepCutAuto
import Derived.Test.YtofhdaeeiienfaaMat
namespace Go.Proofs.Ytofhdaeeiienfaa
open Go.RowKit
set_option linter.unusedSimpArgs false
set_option linter.unusedVariables false
set_option maxRecDepth 100000 in
set_option maxHeartbeats 1000000 in
theorem rsize_any (n c : Nat) (A : Option Addr) (F : Nat → Prop) (rs : List RowV) (w : World) (h : RowsIn w F A n rs) (hn : n ≤ 140737488355328) :
    Calls Try.prog 81 #[.slice A n c] w fun e w' => e = .returned (.tuple #[.int .i64 (sizeR (rowsXs rs) : Nat), .int .i64 (sizeC (rowsXs rs) : Nat), .int .i64 (sizeE (rowsXs rs))]) ∧ ∃ k, w' = w.drewN k := by
  have H := Lib.hid h
  by_cases h0 : n = 0
  · subst h0
    obtain rfl : rs = [] := List.eq_nil_of_length_eq_zero h.1
    have E : Hid (sizeR (rowsXs []) = 0 ∧ sizeC (rowsXs []) = 0 ∧ sizeE (rowsXs []) = 0) := ⟨rfl, rfl, rfl⟩
    clear h
    go_enter Try.func81, Try.ntmps81
    go_wp2_with fail
    go_ret3
    exact ⟨by rw [E.out.1, E.out.2.1, E.out.2.2]; rfl, 0, rfl⟩
  · obtain ⟨b, off, r0, rfl, hb, hr0, hc0, hl0⟩ := h.at_ (k := 0) (by omega)
    rw [Nat.add_zero] at hc0
    have hlen : ∀ r ∈ rs, r.xs.length = r.n := fun r hr => (h.2.1 r hr).1
    have HF := Lib.hid (fits_iff (n := n) hr0 hlen)
    have HL : Hid ((rowsXs rs).length = n ∧ ((rowsXs rs).headD []).length = r0.n) := ⟨by rw [rowsXs_len, h.1], by
      cases rs with
      | nil => simp at hr0
      | cons a l => simp at hr0; subst hr0; exact hlen _ (by simp)⟩
    have b0 : ((n : Int) == 0) = false := beq_eq_false_iff_ne.2 (by omega)
    have d0 : ∀ q, (w.drewN q).cell? ⟨b, off, none⟩ = some (.slice r0.A r0.n r0.c) := fun _ => hc0
    have hpos : (0 : Int) < (n : Int) := by omega
    clear h hr0 hl0 hb hlen h0
    go_enter Try.func81, Try.ntmps81
    go_wp2_with fail
    go_loopw [5] (fun i wr => ∃ (j k : Nat), j ≤ n ∧ i = .int .i64 j ∧ wr = w.drewN k ∧ ∀ (i : Nat) (r : RowV), i < j → rs[i]? = some r → r.n = r0.n) (fun i _ => n - (intOf i).toNat)
    case atStart => exact ⟨0, 0, by omega, rfl, rfl, fun i r hi => by omega⟩
    case round =>
      obtain ⟨j, k, hj, rfl, rfl, hall⟩ := hrel
      have HA := Lib.hid hall
      clear hall
      by_cases hlt : j < n
      · obtain ⟨b', off', r, e', hb, hr, hc, hl⟩ := H.out.at_ hlt
        injection e' with e'
        injection e' with e1 e2
        subst e1 e2
        have d1 : ∀ q, (w.drewN q).cell? ⟨b, off + j, none⟩ = some (.slice r.A r.n r.c) := fun _ => hc
        have HR := Lib.hid hr
        have e1 : (0 : Int) ≤ (j : Int) := Int.natCast_nonneg _
        have e2 : (j : Int) < (n : Int) := by omega
        by_cases hx : r.n = r0.n
        · have b1 : ((r.n : Int) != (r0.n : Int)) = false := by rw [hx]; simp
          have HX := Lib.hid hx
          clear hr hl hc hx hb
          go_wp2_with fail
          go_quiet (fail)
          go_wp2_with fail
          go_roundw
          case rel => exact ⟨j + 1, k + nq, by omega, by go_num, rfl, fun i r' hi hr' => by
            by_cases e : i = j
            · subst e; rw [HR.out] at hr'; injection hr' with hr'; subst hr'; exact HX.out
            · exact HA.out i r' (by omega) hr'⟩
          case measure => simp [intOf]; omega
        · have b1 : ((r.n : Int) != (r0.n : Int)) = true := by rw [bne_iff_ne]; omega
          have E : Hid (sizeR (rowsXs rs) = 0 ∧ sizeC (rowsXs rs) = 0 ∧ sizeE (rowsXs rs) = 21) := by
            have hf : ¬ fits (rowsXs rs) := fun e => hx (HF.out.1 e j r hr)
            exact ⟨if_neg hf, if_neg hf, if_neg hf⟩
          clear hr hl hc hx hb
          go_wp2_with fail
          go_quiet (fail)
          go_wp2_with fail
          go_ret3
          exact ⟨by rw [E.out.1, E.out.2.1, E.out.2.2]; rfl, _, World.drewN_drewN ..⟩
      · obtain rfl : j = n := by omega
        have E : Hid (sizeR (rowsXs rs) = j ∧ sizeC (rowsXs rs) = r0.n ∧ sizeE (rowsXs rs) = 0) := by
          have hf : fits (rowsXs rs) := HF.out.2 fun i r hr => HA.out i r (by
            rcases Nat.lt_or_ge i rs.length with h1 | h1
            · rw [H.out.1] at h1; exact h1
            · rw [List.getElem?_eq_none h1] at hr; cases hr) hr
          exact ⟨(if_pos hf).trans HL.out.1, (if_pos hf).trans HL.out.2, if_pos hf⟩
        go_wp2_with fail
        go_quiet (fail)
        go_wp2_with fail
        go_ret3
        exact ⟨by rw [E.out.1, E.out.2.1, E.out.2.2]; rfl, _, World.drewN_drewN ..⟩
end Go.Proofs.Ytofhdaeeiienfaa
/- Contracts of the document's own answers of layer 6: inverses of numbers, rows put in, reduced matrices, inverses. -/
namespace Go.Proofs.Ytofhdaeeiienfaa
open Go.RowKit
set_option linter.unusedSimpArgs false
set_option linter.unusedVariables false
set_option maxRecDepth 100000 in
set_option maxHeartbeats 400000 in
theorem rinvn_any (a : Nat) (ha : a < 256) (w : World) :
    Calls Try.prog 99 #[.int .u8 a] w fun e w' => e = .returned (.int .u8 (invN a : Nat)) ∧ w = w' := by
  go_enter Try.func99, Try.ntmps99
  go_wp2
  go_loop [3] (fun i => ∃ k : Nat, 1 ≤ k ∧ k ≤ 256 ∧ i = .int .i64 k ∧ ∀ c, c < k → 1 ≤ c → mulN a c ≠ 1) (fun i => 256 - (intOf i).toNat)
  case atStart => exact ⟨1, by omega, by omega, rfl, fun c h1 h2 => by omega⟩
  case round =>
    obtain ⟨k, hk1, hk, rfl, hno⟩ := hrel
    have HNO := Lib.hid hno
    clear hno
    by_cases hlt : k < 256
    · have hmod : (k : Int) % 256 = (k : Int) := by omega
      go_wp2_with fail
      refine (rmul_any a k ha hlt _).mono ?_
      rintro e w' ⟨rfl, rfl⟩
      by_cases h1 : mulN a k = 1
      · have HV : Hid (invN a = k) := (inv_unique a k ha hlt h1).symm
        have b1 : (((mulN a k : Nat) : Int) == 1) = true := beq_iff_eq.2 (by omega)
        clear h1
        go_wp2_with fail
        go_ret
        exact ⟨by rw [HV.out]; rfl, rfl⟩
      · have b1 : (((mulN a k : Nat) : Int) == 1) = false := beq_eq_false_iff_ne.2 (by omega)
        have H1 := Lib.hid h1
        clear h1
        go_wp2_with fail
        go_round
        case rel =>
          refine ⟨k + 1, by omega, by omega, by go_num, fun c hc h2 => ?_⟩
          by_cases e : c = k
          · subst e; exact H1.out
          · exact HNO.out c (by omega) h2
        case measure => simp [intOf]; omega
    · have e0 : a = 0 := by
        apply Classical.byContradiction
        intro h
        exact HNO.out (invN a) (by have := invN_lt a; omega) (invN_pos a (by omega)) (mul_inv a ha (by omega))
      subst e0
      go_wp2_with fail
      go_ret
      exact ⟨rfl, rfl⟩
/-- Where a row lies: in F, or in memory made since w. -/
def Since (w wz : World) (F : Nat → Prop) : Nat → Prop := fun b => F b ∨ (w.heap.size ≤ b ∧ b < wz.heap.size)
theorem Since.lt {w wz : World} {F : Nat → Prop} (hF : ∀ b, F b → b < w.heap.size) (k : Keep w wz) : ∀ b, Since w wz F b → b < wz.heap.size := fun b h => by
  rcases h with h | h
  · exact Nat.lt_of_lt_of_le (hF b h) k.size
  · exact h.2
theorem Since.mono {w wz wy : World} {F : Nat → Prop} (k : Keep wz wy) : ∀ b, Since w wz F b → Since w wy F b := fun b h => h.imp id fun h => ⟨h.1, Nat.lt_of_lt_of_le h.2 k.size⟩
theorem lead_nat {nc : Nat} {xs : List Nat} (h : 0 ≤ vLead nc xs) : ∃ l : Nat, vLead nc xs = (l : Int) ∧ l < nc := by
  unfold vLead at h ⊢
  split at h
  · rename_i k hk; exact ⟨k, rfl, ((vLeadTo_some xs nc k).1 hk).1⟩
  · omega
theorem at_len {rs : List RowV} {n k : Nat} (hl : rs.length = n) (hk : k < n) : ∃ r, rs[k]? = some r := ⟨_, List.getElem?_eq_getElem (by rw [hl]; exact hk)⟩
set_option maxRecDepth 100000 in
set_option maxHeartbeats 4000000 in
theorem rins_any (n c nc : Nat) (A : Option Addr) (F G : Nat → Prop) (rs : List RowV) (rv : RowV) (w : World) (h : RowsIn w F A n rs) (hv : LiesIn w G rv) (hF : ∀ b, F b → b < w.heap.size) (hG : ∀ b, G b → b < w.heap.size) (hrv : rv.n = nc) (hrn : ∀ r ∈ rs, r.n = nc ∧ 0 ≤ vLead nc r.xs) (hn : n ≤ 100000) (hnc : n ≤ c) (hncb : nc ≤ 1000000) :
    Calls Try.prog 82 #[.slice A n c, .slice rv.A rv.n rv.c] w fun e w' => ∃ A' n' c', e = .returned (.slice A' n' c') ∧ ∃ rs', RowsIn w' (Since w w' F) A' n' rs' ∧ n' ≤ c' ∧ rowsXs rs' = insertN nc (rowsXs rs) rv.xs ∧ Keep w w' := by
  have H := Lib.hid h
  have HF := Lib.hid hF
  have HRN := Lib.hid hrn
  have HG := Lib.hid hG
  have HV0 : Hid (LiesIn w (Since w w G) rv) := hv.mono fun b hb => Or.inl hb
  have HXL : Hid (rv.xs.length = nc) := by show _ = _; rw [← hrv]; exact hv.1
  clear h hv hF hG hrn
  go_enter Try.func82, Try.ntmps82
  go_wp2_with fail
  go_loopw [1, 5] (fun row i wr => ∃ (k : Nat) (v : RowV), k ≤ n ∧ i = .int .i64 k ∧ row = .slice v.A nc v.c ∧ v.n = nc ∧ LiesIn wr (Since w wr G) v ∧ v.xs = clearTo nc (rowsXs rs) rv.xs k ∧ Keep w wr) (fun _ i _ => n - (intOf i).toNat)
  case atStart => exact ⟨0, rv, by omega, rfl, by rw [hrv], hrv, HV0.out, rfl, Keep.refl _⟩
  case round =>
    clear HV0
    obtain ⟨k, v, hk, rfl, rfl, hvn, hl, hvx, hkp⟩ := hrel
    have HK := Lib.hid hkp
    have HVX := Lib.hid hvx
    have HVL := Lib.hid hl
    clear hkp hvx
    by_cases hlt : k < n
    · have e1 : (0 : Int) ≤ (k : Int) := Int.natCast_nonneg _
      have e2 : (k : Int) < (n : Int) := by omega
      obtain ⟨b, off, r, rfl, hb, hr, hcell, hri⟩ := (H.out.turned (Turned.of_keep (F := fun _ => False) HK.out) fun _ _ e => e).at_ hlt
      have hrm := HRN.out r (List.mem_of_getElem? hr)
      obtain ⟨l, hld, hlnc⟩ := lead_nat hrm.2
      obtain ⟨b2, o2, hA2, hb2, hcs⟩ := hl.2.2.2 (by omega)
      have hbyte := hcs l (by omega)
      have hx : v.xs.getD l 0 < 256 := hl.2.1.getD l
      have hstep : clearTo nc (rowsXs rs) rv.xs (k + 1) = vAddS nc v.xs r.xs (v.xs.getD l 0) := by
        show vAddS nc (clearTo nc (rowsXs rs) rv.xs k) ((rowsXs rs).getD k []) _ = _
        rw [rowsXs_at hr, ← HVX.out, hld]; rfl
      have HST := Lib.hid hstep
      have HLD := Lib.hid hld
      have hB0 : ∀ b, Since w wr G b → b < wr.heap.size := Since.lt HG.out HK.out
      have HVB : Hid (Bytes wr wr.heap.size (some ⟨b2, o2, none⟩) nc v.xs) := by have := hl.bytes hB0; rw [hvn, hA2] at this; exact this
      have HRB : Hid (Bytes wr wr.heap.size r.A nc r.xs) := by have := hri.bytes (B := wr.heap.size) fun b hb => Nat.lt_of_lt_of_le (HF.out b hb) HK.out.size; rw [hrm.1] at this; exact this
      have HLT : Hid (b < wr.drew.heap.size ∧ b2 < wr.drew.heap.size) := ⟨Nat.lt_of_lt_of_le (HF.out b hb) HK.out.size, hB0 b2 hb2⟩
      have HA2 := Lib.hid hA2
      rw [hrm.1] at hcell
      rw [hA2]
      have e3 : (0 : Int) ≤ (l : Int) := Int.natCast_nonneg _
      have e4 : (l : Int) < (nc : Int) := by omega
      generalize v.xs.getD l 0 = x at *
      clear hstep hld hl hcs hri hr hb hB0 hb2 hrm
      go_wp2_with fail
      refine wp_region_noPanic ?_
      refine wp_region_held_drew (S := fun wz => wz.cell? ⟨b, off + k, none⟩ = some (.slice r.A nc r.c) ∧ wz.cell? ⟨b2, o2 + l, none⟩ = some (.int .u8 (x : Int))) (by kernel_rfl) ⟨hcell, hbyte⟩ (fun hHeld => ?_)
      refine wpAnyH_take (i := 0) (v := ?_) rfl (by kernel_rfl) (by kernel_rfl) (by kernel_rfl) (fun _ _ _ h => h) (Or.inl ⟨by rfl, ?_⟩) hHeld ?_
      rotate_left
      · intro wq hSw
        go_simp
        all_goals with_reducible rfl
      try simp only [Act.put, List.getElem_toArray, List.getElem_cons_succ, List.getElem_cons_zero, List.setIfInBounds_toArray, List.set_cons_zero, List.set_cons_succ]
      refine wpAnyH_take (i := 1) (v := ?_) rfl (by kernel_rfl) (by kernel_rfl) (by kernel_rfl) (fun _ _ _ h => h) (Or.inl ⟨by rfl, ?_⟩) hHeld ?_
      rotate_left
      · intro wq hSw
        go_simp
        all_goals with_reducible rfl
      try simp only [Act.put, List.getElem_toArray, List.getElem_cons_succ, List.getElem_cons_zero, List.setIfInBounds_toArray, List.set_cons_zero, List.set_cons_succ]
      refine wpAnyH_take (i := 2) (v := ?_) rfl (by kernel_rfl) (by kernel_rfl) (by kernel_rfl) (fun _ _ _ h => h) (Or.inl ⟨by rfl, ?_⟩) hHeld ?_
      rotate_left
      · intro wq hSw
        go_simp
        all_goals with_reducible rfl
      try simp only [Act.put, List.getElem_toArray, List.getElem_cons_succ, List.getElem_cons_zero, List.setIfInBounds_toArray, List.set_cons_zero, List.set_cons_succ]
      refine wpAnyH_take (i := 3) (v := ?_) rfl (by kernel_rfl) (by kernel_rfl) (by kernel_rfl) (fun _ _ _ h => h) (Or.inl ⟨by rfl, ?_⟩) hHeld ?_
      rotate_left
      · intro wq hSw
        go_simp
        all_goals with_reducible rfl
      try simp only [Act.put, List.getElem_toArray, List.getElem_cons_succ, List.getElem_cons_zero, List.setIfInBounds_toArray, List.set_cons_zero, List.set_cons_succ]
      refine wpAnyH_take (i := 4) (v := ?_) rfl (by kernel_rfl) (by kernel_rfl) (by kernel_rfl) (fun _ _ _ h => h) (Or.inl ⟨by rfl, ?_⟩) hHeld ?_
      rotate_left
      · intro wq hSw
        have q0 := hSw.1
        go_simp
        all_goals with_reducible rfl
      try simp only [Act.put, List.getElem_toArray, List.getElem_cons_succ, List.getElem_cons_zero, List.setIfInBounds_toArray, List.set_cons_zero, List.set_cons_succ]
      refine wpAnyH_take (i := 5) (v := ?_) rfl (by kernel_rfl) (by kernel_rfl) (by kernel_rfl) (fun _ _ _ h => h) (Or.inl ⟨by rfl, ?_⟩) hHeld ?_
      rotate_left
      · intro wq hSw
        go_simp
        all_goals with_reducible rfl
      try simp only [Act.put, List.getElem_toArray, List.getElem_cons_succ, List.getElem_cons_zero, List.setIfInBounds_toArray, List.set_cons_zero, List.set_cons_succ]
      refine wpAnyH_take (i := 6) (v := ?_) rfl (by kernel_rfl) (by kernel_rfl) (by kernel_rfl) (fun _ _ _ h => h) (Or.inl ⟨by rfl, ?_⟩) hHeld ?_
      rotate_left
      · intro wq hSw
        go_simp
        all_goals with_reducible rfl
      try simp only [Act.put, List.getElem_toArray, List.getElem_cons_succ, List.getElem_cons_zero, List.setIfInBounds_toArray, List.set_cons_zero, List.set_cons_succ]
      refine wpAnyH_take (i := 7) (v := ?_) rfl (by kernel_rfl) (by kernel_rfl) (by kernel_rfl) (fun _ _ _ h => h) (Or.inl ⟨by rfl, ?_⟩) hHeld ?_
      rotate_left
      · intro wq hSw
        go_simp
        all_goals with_reducible rfl
      try simp only [Act.put, List.getElem_toArray, List.getElem_cons_succ, List.getElem_cons_zero, List.setIfInBounds_toArray, List.set_cons_zero, List.set_cons_succ]
      refine wpAnyH_take (i := 8) (v := ?_) rfl (by kernel_rfl) (by kernel_rfl) (by kernel_rfl) (fun _ _ _ h => h) (Or.inl ⟨by rfl, ?_⟩) hHeld ?_
      rotate_left
      · intro wq hSw
        go_simp
        all_goals with_reducible rfl
      try simp only [Act.put, List.getElem_toArray, List.getElem_cons_succ, List.getElem_cons_zero, List.setIfInBounds_toArray, List.set_cons_zero, List.set_cons_succ]
      refine wpAnyH_take (i := 9) (v := ?_) rfl (by kernel_rfl) (by kernel_rfl) (by kernel_rfl) (fun _ _ _ h => h) (Or.inl ⟨by rfl, ?_⟩) hHeld ?_
      rotate_left
      · intro wq hSw
        have q0 := hSw.1
        go_simp
        all_goals with_reducible rfl
      try simp only [Act.put, List.getElem_toArray, List.getElem_cons_succ, List.getElem_cons_zero, List.setIfInBounds_toArray, List.set_cons_zero, List.set_cons_succ]
      refine wpAnyH_ready (rs := [10]) (by kernel_rfl) (by simp) ?_
      refine AllReadyH.cons rfl (fun K hK => ?_) AllReadyH.nil
      go_simp
      refine (rlead_any _ nc r.c r.A r.xs _ (HRB.out.keep (Nat.le_refl _) (Keep.drew (Keep.refl _))) (by omega)).mono ?_
      rw [HLD.out]
      rintro e w1 ⟨rfl, rfl⟩
      refine hK.out _ _ hHeld (fun hHeld => ?_)
      clear hK K
      try simp only [Act.put, List.getElem_toArray, List.getElem_cons_succ, List.getElem_cons_zero, List.setIfInBounds_toArray, List.set_cons_zero, List.set_cons_succ]
      refine wpAnyH_take (i := 11) (v := ?_) rfl (by kernel_rfl) (by kernel_rfl) (by kernel_rfl) (fun _ _ _ h => h) (Or.inl ⟨by rfl, ?_⟩) hHeld ?_
      rotate_left
      · intro wq hSw
        go_simp
        all_goals with_reducible rfl
      try simp only [Act.put, List.getElem_toArray, List.getElem_cons_succ, List.getElem_cons_zero, List.setIfInBounds_toArray, List.set_cons_zero, List.set_cons_succ]
      refine wpAnyH_take (i := 12) (v := ?_) rfl (by kernel_rfl) (by kernel_rfl) (by kernel_rfl) (fun _ _ _ h => h) (Or.inl ⟨by rfl, ?_⟩) hHeld ?_
      rotate_left
      · intro wq hSw
        have q0 := hSw.2
        go_simp
        all_goals with_reducible rfl
      try simp only [Act.put, List.getElem_toArray, List.getElem_cons_succ, List.getElem_cons_zero, List.setIfInBounds_toArray, List.set_cons_zero, List.set_cons_succ]
      refine wpAnyH_ready (rs := [13]) (by kernel_rfl) (by simp) ?_
      refine AllReadyH.cons rfl (fun K hK => ?_) AllReadyH.nil
      go_simp
      refine (raddS_any _ _ nc v.c r.c x (some ⟨b2, o2, none⟩) r.A v.xs r.xs _ (HVB.out.keep (Nat.le_refl _) (Keep.drew (Keep.refl _))) (HRB.out.keep (Nat.le_refl _) (Keep.drew (Keep.refl _))) (Nat.le_refl _) (Nat.le_refl _) (by omega) hx).mono ?_
      rintro e w2 ⟨A2, n2, c2, rfl, oo2, k2⟩
      obtain rfl : nc = n2 := by rw [← oo2.length]; exact (tab_length _ _).symm
      have hH2 : w2.cell? ⟨b, off + k, none⟩ = some (.slice r.A nc r.c) ∧ w2.cell? ⟨b2, o2 + l, none⟩ = some (.int .u8 (x : Int)) := ⟨(Below.cell (p := ⟨b, off + k, none⟩) k2 HLT.out.1).trans hcell, (Below.cell (p := ⟨b2, o2 + l, none⟩) k2 HLT.out.2).trans hbyte⟩
      have OO2 := Lib.hid oo2
      have KK2 := Lib.hid (HK.out.trans ((Keep.drew (Keep.refl _)).trans k2))
      clear oo2 k2
      refine hK.out _ _ hH2 (fun hHeld => ?_)
      clear hK K hH2
      try simp only [Act.put, List.getElem_toArray, List.getElem_cons_succ, List.getElem_cons_zero, List.setIfInBounds_toArray, List.set_cons_zero, List.set_cons_succ]
      refine wpAnyH_take (i := 14) (v := ?_) rfl (by kernel_rfl) (by kernel_rfl) (by kernel_rfl) (fun _ _ _ h => h) (Or.inl ⟨by rfl, ?_⟩) hHeld ?_
      rotate_left
      · intro wq hSw
        go_simp
        all_goals with_reducible rfl
      try simp only [Act.put, List.getElem_toArray, List.getElem_cons_succ, List.getElem_cons_zero, List.setIfInBounds_toArray, List.set_cons_zero, List.set_cons_succ]
      refine wpAnyH_take (i := 15) (v := ?_) rfl (by kernel_rfl) (by kernel_rfl) (by kernel_rfl) (fun _ _ _ h => h) (Or.inl ⟨by rfl, ?_⟩) hHeld ?_
      rotate_left
      · intro wq hSw
        go_simp
        all_goals with_reducible rfl
      try simp only [Act.put, List.getElem_toArray, List.getElem_cons_succ, List.getElem_cons_zero, List.setIfInBounds_toArray, List.set_cons_zero, List.set_cons_succ]
      refine wpAnyH_take (i := 16) (v := ?_) rfl (by kernel_rfl) (by kernel_rfl) (by kernel_rfl) (fun _ _ _ h => h) (Or.inl ⟨by rfl, ?_⟩) hHeld ?_
      rotate_left
      · intro wq hSw
        go_simp
        all_goals with_reducible rfl
      try simp only [Act.put, List.getElem_toArray, List.getElem_cons_succ, List.getElem_cons_zero, List.setIfInBounds_toArray, List.set_cons_zero, List.set_cons_succ]
      refine wpAnyH_take (i := 17) (v := ?_) rfl (by kernel_rfl) (by kernel_rfl) (by kernel_rfl) (fun _ _ _ h => h) (Or.inl ⟨by rfl, ?_⟩) hHeld ?_
      rotate_left
      · intro wq hSw
        go_simp
        all_goals with_reducible rfl
      try simp only [Act.put, List.getElem_toArray, List.getElem_cons_succ, List.getElem_cons_zero, List.setIfInBounds_toArray, List.set_cons_zero, List.set_cons_succ]
      refine wpAnyH_done (by kernel_rfl) ?_ _
      refine NoPanic.normal ?_
      clear hHeld
      go_wp2_with fail
      go_roundw
      case rel => exact ⟨k + 1, ⟨A2, nc, c2, vAddS nc v.xs r.xs x⟩, by omega, by go_num, rfl, rfl, OO2.out.lies.mono fun b hb => Or.inr ⟨Nat.le_trans HK.out.size (OO2.out.1.lt b hb).1, (OO2.out.1.lt b hb).2⟩, HST.out.symm, KK2.out⟩
      case measure => simp [intOf]; omega
    · obtain rfl : k = n := by omega
      have hB0 : ∀ b, Since w wr G b → b < wr.heap.size := Since.lt HG.out HK.out
      have HVB : Hid (Bytes wr wr.heap.size v.A nc v.xs) := by have := hl.bytes hB0; rw [hvn] at this; exact this
      have HML : Hid ((rowsXs rs).length = k) := by show _ = _; rw [rowsXs_len, H.out.1]
      by_cases hlead : vLead nc v.xs < 0
      · have HI : Hid (insertN nc (rowsXs rs) rv.xs = rowsXs rs) := by
          show _ = _
          rw [insertN, HML.out, ← HVX.out, if_pos hlead]
        have HR2 := Lib.hid ((H.out.turned (Turned.of_keep (F := fun _ => False) HK.out) fun _ _ e => e).mono (F' := Since w wr F) fun b hb => Or.inl hb)
        clear hl hB0
        go_wp2_with fail
        refine (rlead_any _ nc v.c v.A v.xs _ HVB.out (by omega)).mono ?_
        rintro e w1 ⟨rfl, rfl⟩
        go_wp2_with fail
        go_ret
        exact ⟨_, _, _, rfl, rs, HR2.out, hnc, HI.out.symm, HK.out⟩
      · obtain ⟨L, hL, hLnc⟩ := lead_nat (show 0 ≤ vLead nc v.xs by omega)
        have HLL := Lib.hid hL
        obtain ⟨b1, o1, hA1, hb1, hcs⟩ := hl.2.2.2 (by omega)
        have hbyte := hcs L (by omega)
        have hx : v.xs.getD L 0 < 256 := hl.2.1.getD L
        obtain ⟨z, hz⟩ : ∃ z, v.xs.getD L 0 = z := ⟨_, rfl⟩
        have HZ := Lib.hid hz
        rw [hz] at hbyte hx
        have HVB2 := HVB.out
        rw [hA1] at HVB2 ⊢
        have HVB3 := Lib.hid HVB2
        obtain ⟨u, hu⟩ : ∃ u, vScale nc v.xs (invN z) = u := ⟨_, rfl⟩
        have HU := Lib.hid hu
        have e3 : (0 : Int) ≤ (L : Int) := Int.natCast_nonneg _
        have e4 : (L : Int) < (nc : Int) := by omega
        have hINS : ∀ q, (q = layTo nc (rowsXs rs) u L k) → insertN nc (rowsXs rs) rv.xs = if q.2 = true then q.1 else q.1 ++ [u] := fun q hq => by
          rw [insertN, HML.out, ← HVX.out, if_neg hlead]
          show (if (layTo nc (rowsXs rs) (vScale nc v.xs (invN (v.xs.getD (vLead nc v.xs).toNat 0))) (vLead nc v.xs).toNat k).2 = true then _ else _) = _
          rw [hL, Int.toNat_natCast, HZ.out, HU.out, hq]
        have HINS := Lib.hid hINS
        clear hINS
        clear hl hB0 hcs hz hL hlead HVB2 hu hA1 hb1
        go_wp2_with fail
        refine (rlead_any _ nc v.c _ v.xs _ HVB3.out (by omega)).mono ?_
        rw [HLL.out]
        rintro e w1 ⟨rfl, rfl⟩
        go_wp2_with fail
        refine (rinvn_any z hx _).mono ?_
        rintro e w1 ⟨rfl, rfl⟩
        go_wp2_with fail
        refine (rscale_any _ nc v.c (invN z) _ v.xs _ HVB3.out (Nat.le_refl _) (by omega) (invN_lt z)).mono ?_
        rw [HU.out]
        rintro e w2 ⟨Au, nu, cu, rfl, ou, ku⟩
        obtain rfl : nc = nu := by rw [← ou.length, ← HU.out]; exact (tab_length _ _).symm
        have HU1 := Lib.hid (ou.lower (base' := w.heap.size) HK.out.size)
        have HK2 := Lib.hid (HK.out.trans ku)
        clear ou ku
        go_wp2_with fail
        go_loopw [7, 8, 9] (fun out put i wy => ∃ (j : Nat) (A7 : Option Addr) (c7 : Nat) (rs7 : List RowV) (p : Bool), j ≤ k ∧ i = .int .i64 j ∧ out = .slice A7 rs7.length c7 ∧ put = .bool p ∧ rs7.length = j + (if p = true then 1 else 0) ∧ Laying w wy A7 rs7.length c7 rs7 ∧ Own wy w.heap.size 5 Au nc cu u ∧ (rowsXs rs7, p) = layTo nc (rowsXs rs) u L j) (fun _ _ i _ => k - (intOf i).toNat)
        case atStart => exact ⟨0, none, 0, [], false, by omega, rfl, rfl, rfl, by simp, (Laying.nothing w).later HK2.out, HU1.out, rfl⟩
        case round =>
          clear HU1 HK2 HVB HVB3 HK HVX HVL hbyte
          obtain ⟨j, A7, c7, rs7, p, hj, rfl, rfl, rfl, hlen7, hl7, hu7, hp7⟩ := hrel
          have HL3 := Lib.hid hl7
          have HU3 := Lib.hid hu7
          have HP3 := Lib.hid hp7
          clear hl7 hu7 hp7
          by_cases hlt2 : j < k
          · have f1 : (0 : Int) ≤ (j : Int) := Int.natCast_nonneg _
            have f2 : (j : Int) < (k : Int) := by omega
            obtain ⟨b, off, r, rfl, hb, hr, hcell, hri⟩ := (H.out.turned (Turned.of_keep (F := fun _ => False) HL3.out.2.2) fun _ _ e => e).at_ hlt2
            have hrm := HRN.out r (List.mem_of_getElem? hr)
            obtain ⟨l, hld, hlnc⟩ := lead_nat hrm.2
            have HLD := Lib.hid hld
            obtain ⟨b2, o2, hA2, hb2, hcs⟩ := hri.2.2.2 (by omega)
            have hbyte := hcs L (by omega)
            have hx2 : r.xs.getD L 0 < 256 := hri.2.1.getD L
            have HRB0 : Hid (Bytes wr wr.heap.size (some ⟨b2, o2, none⟩) nc r.xs) := by have := hri.bytes (B := wr.heap.size) fun b hb => Nat.lt_of_lt_of_le (HF.out b hb) HL3.out.2.2.size; rw [hrm.1, hA2] at this; exact this
            have HBW : Hid (b < w.heap.size ∧ b2 < w.heap.size) := ⟨HF.out b hb, HF.out b2 hb2⟩
            have HRL : Hid (Bytes wr w.heap.size (some ⟨b2, o2, none⟩) nc r.xs) := by have := hri.bytes (B := w.heap.size) fun b hb => HF.out b hb; rw [hrm.1, hA2] at this; exact this
            have HBB : Hid (b < wr.heap.size ∧ b2 < wr.heap.size) := ⟨Nat.lt_of_lt_of_le (HF.out b hb) HL3.out.2.2.size, Nat.lt_of_lt_of_le (HF.out b2 hb2) HL3.out.2.2.size⟩
            obtain ⟨hit, hhit⟩ : ∃ hit, (!p && decide ((L : Int) < (l : Int))) = hit := ⟨_, rfl⟩
            have hstep : layTo nc (rowsXs rs) u L (j + 1) = ((if hit = true then rowsXs rs7 ++ [u] else rowsXs rs7) ++ [vAddS nc r.xs u (r.xs.getD L 0)], p || hit) := by
              show ((if (!(layTo nc (rowsXs rs) u L j).2 && decide ((L : Int) < vLead nc ((rowsXs rs).getD j []))) = true then _ else _) ++ _, _) = _
              rw [rowsXs_at hr, ← HP3.out, hld]
              show ((if (!p && decide ((L : Int) < (l : Int))) = true then rowsXs rs7 ++ [u] else rowsXs rs7) ++ _, p || (!p && decide ((L : Int) < (l : Int)))) = _
              rw [hhit]
            have HST := Lib.hid hstep
            have HHIT := Lib.hid hhit
            have HLEN := Lib.hid hlen7
            rw [hrm.1, hA2] at hcell
            obtain ⟨x, hxx⟩ : ∃ x, r.xs.getD L 0 = x := ⟨_, rfl⟩
            rw [hxx] at hbyte hx2
            have HXX := Lib.hid hxx
            clear hstep hld hcs hri hr hb hb2 hrm hA2 hlen7 hhit hxx
            go_upto_region 14 with fail
            go_cut [63] (fun s wx => s = .bool hit ∧ wx = wr)
            case first =>
              cases p with
              | true =>
                obtain rfl : false = hit := HHIT.out
                go_wp2_with fail
                go_meet
                case rel => exact ⟨rfl, rfl⟩
              | false =>
                have d1 : decide ((L : Int) < (l : Int)) = hit := HHIT.out
                have d2 : decide (L < l) = hit := by rw [← d1]; congr 1; exact propext (by omega)
                go_wp2_with fail
                refine (rlead_any _ nc r.c _ r.xs _ HRB0.out (by omega)).mono ?_
                rw [HLD.out]
                rintro e w1 ⟨rfl, rfl⟩
                go_wp2_with fail
                go_meet
                case rel => exact ⟨rfl, rfl⟩
            case rest =>
              obtain ⟨rfl, rfl⟩ := hcut
              go_upto_if 63 with fail
              go_cut [7, 8] (fun out put wx => ∃ (A8 : Option Addr) (c8 : Nat) (rs8 : List RowV), out = .slice A8 rs8.length c8 ∧ put = .bool (p || hit) ∧ rs8.length = j + (if (p || hit) = true then 1 else 0) ∧ Laying w wx A8 rs8.length c8 rs8 ∧ Own wx w.heap.size 5 Au nc cu u ∧ rowsXs rs8 = (if hit = true then rowsXs rs7 ++ [u] else rowsXs rs7) ∧ Keep w wx ∧ wx.cell? ⟨b, off + j, none⟩ = some (.slice (some ⟨b2, o2, none⟩) nc r.c) ∧ wx.cell? ⟨b2, o2 + L, none⟩ = some (.int .u8 (x : Int)) ∧ Bytes wx w.heap.size (some ⟨b2, o2, none⟩) nc r.xs)
              case first =>
                cases hit with
                | false =>
                  go_wp2_with fail
                  go_meet
                  case rel => exact ⟨A7, c7, rs7, rfl, by rw [Bool.or_false], by rw [Bool.or_false]; exact HLEN.out, HL3.out, HU3.out, rfl, HL3.out.2.2, hcell, hbyte, HRL.out⟩
                | true =>
                  have hp0 : p = false := by
                    cases p with
                    | true => exact absurd HHIT.out (by simp)
                    | false => rfl
                  subst hp0
                  go_wp2_with (at_builtin; refine wpList_append_row rfl _ _ 22 rfl ⟨Au, nc, cu, u⟩ Try.underlying22 infoRow rfl (HL3.out.1.alloc _) rfl (by rw [World.cell?_alloc_new]; rfl) (by have := HLEN.out; simp at this; omega) (by have := HL3.out.2.2.size; simp; omega) ?_)
                  intro A8 c8 w8 h8 hgr8 hb8
                  have HL8 := Lib.hid (HL3.out.more (row_apart HL3.out HU3.out) h8 hgr8 (by simpa using hb8))
                  have hap := blocks_apart HU3.out HL3.out.1 (by decide)
                  have HU8 := Lib.hid (Own.grown (HU3.out.alloc (.cells #[.slice Au nc cu] 23)) hgr8 hap)
                  have ka : Keep wc (wc.alloc (.cells #[.slice Au nc cu] 23)) := (Keep.refl wc).alloc _ _
                  have kT : Turned (fun b => (Value.slice A7 rs7.length c7).ownBlock = some b) wc w8 := (Turned.of_keep ka).trans (Turned.of_grown (F := fun b => (Value.slice A7 rs7.length c7).ownBlock = some b) hgr8 fun i e => e) fun i e => Or.inl e
                  have nb : ∀ b, b < w.heap.size → ¬ (Value.slice A7 rs7.length c7).ownBlock = some b := fun b hb e => by have := HL3.out.1.rowLe b e; omega
                  have c1 := kT.cell hcell (nb b HBW.out.1)
                  have c2 := kT.cell hbyte (nb b2 HBW.out.2)
                  have c3 : Bytes w8 w.heap.size (some ⟨b2, o2, none⟩) nc r.xs := ⟨HRL.out.1, HRL.out.2.1, fun hp => by
                    obtain ⟨b, off, e, hb, hc⟩ := HRL.out.2.2 hp
                    exact ⟨b, off, e, hb, fun i hi => kT.cell (hc i hi) (nb b hb)⟩⟩
                  have HC8 := Lib.hid (And.intro c1 (And.intro c2 c3))
                  clear h8 hgr8 hb8 hap ka kT nb c1 c2 c3
                  go_wp2_with fail
                  go_meet
                  case rel => exact ⟨A8, c8, rs7 ++ [⟨Au, nc, cu, u⟩], by simp, rfl, by have := HLEN.out; simp at this ⊢; omega, by simpa using HL8.out, HU8.out, by simp [rowsXs], HL8.out.2.2, HC8.out⟩
              case rest =>
                obtain ⟨A8, c8, rs8, rfl, rfl, hlen8, hl8, hu8, hx8, hk8, hcell, hbyte, hrl8⟩ := hcut
                have HL3 := Lib.hid hl8
                have HU3 := Lib.hid hu8
                have HX8 := Lib.hid hx8
                have HLEN8 := Lib.hid hlen8
                have HRB := Lib.hid (hrl8.mono hk8.size)
                have HLT : Hid (b < wc.drew.heap.size ∧ b2 < wc.drew.heap.size) := ⟨Nat.lt_of_lt_of_le HBW.out.1 hk8.size, Nat.lt_of_lt_of_le HBW.out.2 hk8.size⟩
                have hx := hx2
                have hlim : rs8.length ≤ 200000 := by rw [hlen8]; split <;> omega
                clear hl8 hu8 hx8 hlen8 hrl8 hk8 hx2
                go_wp2_with fail
                refine wp_region_noPanic ?_
                refine wp_region_held_drew (S := fun wy => wy.cell? ⟨b, off + j, none⟩ = some (.slice (some ⟨b2, o2, none⟩) nc r.c) ∧ wy.cell? ⟨b2, o2 + L, none⟩ = some (.int .u8 (x : Int))) (by kernel_rfl) ⟨hcell, hbyte⟩ (fun hHeld => ?_)
                refine wpAnyH_take (i := 0) (v := ?_) rfl (by kernel_rfl) (by kernel_rfl) (by kernel_rfl) (fun _ _ _ h => h) (Or.inl ⟨by rfl, ?_⟩) hHeld ?_
                rotate_left
                · intro wq hSw
                  go_simp
                  all_goals with_reducible rfl
                try simp only [Act.put, List.getElem_toArray, List.getElem_cons_succ, List.getElem_cons_zero, List.setIfInBounds_toArray, List.set_cons_zero, List.set_cons_succ]
                refine wpAnyH_take (i := 1) (v := ?_) rfl (by kernel_rfl) (by kernel_rfl) (by kernel_rfl) (fun _ _ _ h => h) (Or.inl ⟨by rfl, ?_⟩) hHeld ?_
                rotate_left
                · intro wq hSw
                  go_simp
                  all_goals with_reducible rfl
                try simp only [Act.put, List.getElem_toArray, List.getElem_cons_succ, List.getElem_cons_zero, List.setIfInBounds_toArray, List.set_cons_zero, List.set_cons_succ]
                refine wpAnyH_take (i := 2) (v := ?_) rfl (by kernel_rfl) (by kernel_rfl) (by kernel_rfl) (fun _ _ _ h => h) (Or.inl ⟨by rfl, ?_⟩) hHeld ?_
                rotate_left
                · intro wq hSw
                  go_simp
                  all_goals with_reducible rfl
                try simp only [Act.put, List.getElem_toArray, List.getElem_cons_succ, List.getElem_cons_zero, List.setIfInBounds_toArray, List.set_cons_zero, List.set_cons_succ]
                refine wpAnyH_take (i := 3) (v := ?_) rfl (by kernel_rfl) (by kernel_rfl) (by kernel_rfl) (fun _ _ _ h => h) (Or.inl ⟨by rfl, ?_⟩) hHeld ?_
                rotate_left
                · intro wq hSw
                  have q0 := hSw.1
                  go_simp
                  all_goals with_reducible rfl
                try simp only [Act.put, List.getElem_toArray, List.getElem_cons_succ, List.getElem_cons_zero, List.setIfInBounds_toArray, List.set_cons_zero, List.set_cons_succ]
                refine wpAnyH_take (i := 4) (v := ?_) rfl (by kernel_rfl) (by kernel_rfl) (by kernel_rfl) (fun _ _ _ h => h) (Or.inl ⟨by rfl, ?_⟩) hHeld ?_
                rotate_left
                · intro wq hSw
                  go_simp
                  all_goals with_reducible rfl
                try simp only [Act.put, List.getElem_toArray, List.getElem_cons_succ, List.getElem_cons_zero, List.setIfInBounds_toArray, List.set_cons_zero, List.set_cons_succ]
                refine wpAnyH_take (i := 5) (v := ?_) rfl (by kernel_rfl) (by kernel_rfl) (by kernel_rfl) (fun _ _ _ h => h) (Or.inl ⟨by rfl, ?_⟩) hHeld ?_
                rotate_left
                · intro wq hSw
                  go_simp
                  all_goals with_reducible rfl
                try simp only [Act.put, List.getElem_toArray, List.getElem_cons_succ, List.getElem_cons_zero, List.setIfInBounds_toArray, List.set_cons_zero, List.set_cons_succ]
                refine wpAnyH_take (i := 6) (v := ?_) rfl (by kernel_rfl) (by kernel_rfl) (by kernel_rfl) (fun _ _ _ h => h) (Or.inl ⟨by rfl, ?_⟩) hHeld ?_
                rotate_left
                · intro wq hSw
                  go_simp
                  all_goals with_reducible rfl
                try simp only [Act.put, List.getElem_toArray, List.getElem_cons_succ, List.getElem_cons_zero, List.setIfInBounds_toArray, List.set_cons_zero, List.set_cons_succ]
                refine wpAnyH_take (i := 7) (v := ?_) rfl (by kernel_rfl) (by kernel_rfl) (by kernel_rfl) (fun _ _ _ h => h) (Or.inl ⟨by rfl, ?_⟩) hHeld ?_
                rotate_left
                · intro wq hSw
                  go_simp
                  all_goals with_reducible rfl
                try simp only [Act.put, List.getElem_toArray, List.getElem_cons_succ, List.getElem_cons_zero, List.setIfInBounds_toArray, List.set_cons_zero, List.set_cons_succ]
                refine wpAnyH_take (i := 8) (v := ?_) rfl (by kernel_rfl) (by kernel_rfl) (by kernel_rfl) (fun _ _ _ h => h) (Or.inl ⟨by rfl, ?_⟩) hHeld ?_
                rotate_left
                · intro wq hSw
                  have q0 := hSw.1
                  go_simp
                  all_goals with_reducible rfl
                try simp only [Act.put, List.getElem_toArray, List.getElem_cons_succ, List.getElem_cons_zero, List.setIfInBounds_toArray, List.set_cons_zero, List.set_cons_succ]
                refine wpAnyH_take (i := 9) (v := ?_) rfl (by kernel_rfl) (by kernel_rfl) (by kernel_rfl) (fun _ _ _ h => h) (Or.inl ⟨by rfl, ?_⟩) hHeld ?_
                rotate_left
                · intro wq hSw
                  go_simp
                  all_goals with_reducible rfl
                try simp only [Act.put, List.getElem_toArray, List.getElem_cons_succ, List.getElem_cons_zero, List.setIfInBounds_toArray, List.set_cons_zero, List.set_cons_succ]
                refine wpAnyH_take (i := 10) (v := ?_) rfl (by kernel_rfl) (by kernel_rfl) (by kernel_rfl) (fun _ _ _ h => h) (Or.inl ⟨by rfl, ?_⟩) hHeld ?_
                rotate_left
                · intro wq hSw
                  go_simp
                  all_goals with_reducible rfl
                try simp only [Act.put, List.getElem_toArray, List.getElem_cons_succ, List.getElem_cons_zero, List.setIfInBounds_toArray, List.set_cons_zero, List.set_cons_succ]
                refine wpAnyH_take (i := 11) (v := ?_) rfl (by kernel_rfl) (by kernel_rfl) (by kernel_rfl) (fun _ _ _ h => h) (Or.inl ⟨by rfl, ?_⟩) hHeld ?_
                rotate_left
                · intro wq hSw
                  have q0 := hSw.2
                  go_simp
                  all_goals with_reducible rfl
                try simp only [Act.put, List.getElem_toArray, List.getElem_cons_succ, List.getElem_cons_zero, List.setIfInBounds_toArray, List.set_cons_zero, List.set_cons_succ]
                refine wpAnyH_ready (rs := [12]) (by kernel_rfl) (by simp) ?_
                refine AllReadyH.cons rfl (fun K hK => ?_) AllReadyH.nil
                go_simp
                refine (raddS_any _ _ nc r.c cu x (some ⟨b2, o2, none⟩) Au r.xs u _ (HRB.out.keep (Nat.le_refl _) (Keep.drew (Keep.refl _))) (HU3.out.bytes.keep (Nat.le_refl _) (Keep.drew (Keep.refl _))) (Nat.le_refl _) (Nat.le_refl _) (by omega) hx).mono ?_
                rintro e w2 ⟨A2, n2, c2, rfl, oo2, k2⟩
                obtain rfl : nc = n2 := by rw [← oo2.length]; exact (tab_length _ _).symm
                have hH2 : w2.cell? ⟨b, off + j, none⟩ = some (.slice (some ⟨b2, o2, none⟩) nc r.c) ∧ w2.cell? ⟨b2, o2 + L, none⟩ = some (.int .u8 (x : Int)) := ⟨(Below.cell (p := ⟨b, off + j, none⟩) k2 HLT.out.1).trans hcell, (Below.cell (p := ⟨b2, o2 + L, none⟩) k2 HLT.out.2).trans hbyte⟩
                have KD := Lib.hid ((Keep.drew (Keep.refl wc)).trans k2)
                have OO2 := Lib.hid (oo2.lower (base' := w.heap.size) (show w.heap.size ≤ wc.drew.heap.size from HL3.out.2.2.size))
                clear oo2 k2
                refine hK.out _ _ hH2 (fun hHeld => ?_)
                clear hK K hH2
                try simp only [Act.put, List.getElem_toArray, List.getElem_cons_succ, List.getElem_cons_zero, List.setIfInBounds_toArray, List.set_cons_zero, List.set_cons_succ]
                refine wpAnyH_take (i := 13) (v := ?_) rfl (by kernel_rfl) (by kernel_rfl) (by kernel_rfl) (fun _ _ _ h => h) (Or.inl ⟨by rfl, ?_⟩) hHeld ?_
                rotate_left
                · intro wq hSw
                  go_simp
                  all_goals with_reducible rfl
                try simp only [Act.put, List.getElem_toArray, List.getElem_cons_succ, List.getElem_cons_zero, List.setIfInBounds_toArray, List.set_cons_zero, List.set_cons_succ]
                refine wpAnyH_take (i := 14) (v := ?_) rfl (by kernel_rfl) (by kernel_rfl) (by kernel_rfl) (fun _ _ _ h => h) (Or.inl ⟨by rfl, ?_⟩) hHeld ?_
                rotate_left
                · intro wq hSw
                  go_simp
                  all_goals with_reducible rfl
                try simp only [Act.put, List.getElem_toArray, List.getElem_cons_succ, List.getElem_cons_zero, List.setIfInBounds_toArray, List.set_cons_zero, List.set_cons_succ]
                refine wpAnyH_take (i := 15) (v := ?_) rfl (by kernel_rfl) (by kernel_rfl) (by kernel_rfl) (fun _ _ _ h => h) (Or.inl ⟨by rfl, ?_⟩) hHeld ?_
                rotate_left
                · intro wq hSw
                  go_simp
                  all_goals with_reducible rfl
                try simp only [Act.put, List.getElem_toArray, List.getElem_cons_succ, List.getElem_cons_zero, List.setIfInBounds_toArray, List.set_cons_zero, List.set_cons_succ]
                refine wpAnyH_take (i := 16) (v := ?_) rfl (by kernel_rfl) (by kernel_rfl) (by kernel_rfl) (fun _ _ _ h => h) (Or.inl ⟨by rfl, ?_⟩) hHeld ?_
                rotate_left
                · intro wq hSw
                  go_simp
                  all_goals with_reducible rfl
                try simp only [Act.put, List.getElem_toArray, List.getElem_cons_succ, List.getElem_cons_zero, List.setIfInBounds_toArray, List.set_cons_zero, List.set_cons_succ]
                refine wpAnyH_take (i := 17) (v := ?_) rfl (by kernel_rfl) (by kernel_rfl) (by kernel_rfl) (fun _ _ _ h => h) (Or.inl ⟨by rfl, ?_⟩) hHeld ?_
                rotate_left
                · intro wq hSw
                  go_simp
                  all_goals with_reducible rfl
                try simp only [Act.put, List.getElem_toArray, List.getElem_cons_succ, List.getElem_cons_zero, List.setIfInBounds_toArray, List.set_cons_zero, List.set_cons_succ]
                refine wpAnyH_done (by kernel_rfl) ?_ _
                refine NoPanic.normal ?_
                clear hHeld
                have HL9 := Lib.hid (HL3.out.later KD.out)
                go_wp2_with (at_builtin; refine wpList_append_row rfl _ _ 22 rfl ⟨A2, nc, c2, vAddS nc r.xs u x⟩ Try.underlying22 infoRow rfl (HL9.out.1.alloc _) rfl (by rw [World.cell?_alloc_new]; rfl) (by omega) (by have := HL9.out.2.2.size; simp; omega) ?_)
                intro A9 c9 w9 h9 hgr9 hb9
                have HL10 := Lib.hid (HL9.out.more (row_apart HL9.out OO2.out) h9 hgr9 (by simpa using hb9))
                have HU10 := Lib.hid (Own.grown ((HU3.out.keep KD.out).alloc (.cells #[.slice A2 nc c2] 23)) hgr9 (blocks_apart (HU3.out.keep KD.out) HL9.out.1 (by decide)))
                clear h9 hgr9 hb9
                go_wp2_with fail
                go_roundw
                case rel => exact ⟨j + 1, A9, c9, rs8 ++ [⟨A2, nc, c2, vAddS nc r.xs u x⟩], p || hit, by omega, by go_num, by simp, rfl, by have := HLEN8.out; simp at this ⊢; omega, by simpa using HL10.out, HU10.out, by rw [HST.out, HXX.out, ← HX8.out]; simp [rowsXs]⟩
                case measure => simp [intOf]; omega
          · obtain rfl : j = k := by omega
            have hI := HINS.out _ HP3.out
            have hlim : rs7.length ≤ 200000 := by rw [hlen7]; split <;> omega
            cases p with
            | true =>
              have HI : Hid (insertN nc (rowsXs rs) rv.xs = rowsXs rs7) := hI
              clear hI hlen7
              go_wp2_with fail
              go_ret
              exact ⟨_, _, _, rfl, rs7, RowsIn.of_own HL3.out.1 (fun r hr => (HL3.out.2.1 r hr).mono fun b hb => Or.inr ⟨hb.1, hb.2.1⟩) (fun b hb => Or.inr (HL3.out.1.lt b hb)), ownrows_le HL3.out.1, HI.out.symm, HL3.out.2.2⟩
            | false =>
              have HI : Hid (insertN nc (rowsXs rs) rv.xs = rowsXs rs7 ++ [u]) := hI
              clear hI hlen7
              go_wp2_with (at_builtin; refine wpList_append_row rfl _ _ 22 rfl ⟨Au, nc, cu, u⟩ Try.underlying22 infoRow rfl (HL3.out.1.alloc _) rfl (by rw [World.cell?_alloc_new]; rfl) (by omega) (by have := HL3.out.2.2.size; simp; omega) ?_)
              intro A9 c9 w9 h9 hgr9 hb9
              have HL10 := Lib.hid (HL3.out.more (row_apart HL3.out HU3.out) h9 hgr9 (by simpa using hb9))
              clear h9 hgr9 hb9
              go_wp2_with fail
              go_ret
              exact ⟨_, _, _, rfl, _, RowsIn.of_own HL10.out.1 (fun r hr => (HL10.out.2.1 r hr).mono fun b hb => Or.inr ⟨hb.1, hb.2.1⟩) (fun b hb => Or.inr (HL10.out.1.lt b hb)), ownrows_le HL10.out.1, by rw [HI.out]; simp [rowsXs], HL10.out.2.2⟩
end Go.Proofs.Ytofhdaeeiienfaa
/- Contracts of the document's own answers of layer 6: reduced matrices, ranks. -/
namespace Go.Proofs.Ytofhdaeeiienfaa
open Go.RowKit Lin
set_option linter.unusedSimpArgs false
set_option linter.unusedVariables false
set_option maxRecDepth 100000 in
set_option maxHeartbeats 2000000 in
theorem rreduce_any (n c : Nat) (A : Option Addr) (F : Nat → Prop) (rs : List RowV) (w : World) (h : RowsIn w F A n rs) (hF : ∀ b, F b → b < w.heap.size) (hn : n ≤ 100000) (hc : sizeC (rowsXs rs) ≤ 100000) :
    Calls Try.prog 50 #[.slice A n c] w (NewRows w (reduceN (rowsXs rs)) (sizeE (rowsXs rs))) := by
  have H := Lib.hid h
  have HF := Lib.hid hF
  obtain ⟨er, her⟩ : ∃ er, sizeE (rowsXs rs) = er := ⟨_, rfl⟩
  obtain ⟨nr, hnr⟩ : ∃ nr, sizeR (rowsXs rs) = nr := ⟨_, rfl⟩
  obtain ⟨nc, hnc⟩ : ∃ nc, sizeC (rowsXs rs) = nc := ⟨_, rfl⟩
  obtain ⟨T, hT⟩ : ∃ T, reduceN (rowsXs rs) = T := ⟨_, rfl⟩
  rw [hnc] at hc
  have HS := Lib.hid (And.intro hnr (And.intro hnc her))
  have hlr : (rowsXs rs).length = n := by rw [rowsXs_len, h.1]
  have HLR := Lib.hid hlr
  rw [her, hT]
  have HT := Lib.hid hT
  clear h hF hnr hnc her hT hlr
  go_enter Try.func50, Try.ntmps50
  go_wp2_with fail
  refine (rsize_any n c A F rs _ H.out (by omega)).mono ?_
  rw [HS.out.1, HS.out.2.1, HS.out.2.2]
  rintro e w1 ⟨rfl, q, rfl⟩
  have K1 := Lib.hid ((Keep.refl w).drewN q)
  generalize w.drewN q = w1 at *
  by_cases hf : fits (rowsXs rs)
  · have E0 : er = 0 := by rw [← HS.out.2.2, sizeE, if_pos hf]
    subst E0
    have HFI := Lib.hid hf
    have HOK : Hid (RowsOk nc (rowsXs rs)) := by
      have := H.out.ok (fits_rows hf H.out)
      rw [HS.out.2.1] at this; exact this
    have HRN : Hid (∀ r ∈ rs, r.n = nc) := fun r hr => (fits_rows hf H.out r hr).trans HS.out.2.1
    clear hf
    go_wp2_with fail
    go_loopw [7, 8] (fun out i wr => ∃ (j : Nat) (A7 : Option Addr) (c7 : Nat) (rs7 : List RowV), j ≤ n ∧ i = .int .i64 j ∧ out = .slice A7 rs7.length c7 ∧ rs7.length ≤ c7 ∧ RowsIn wr (fun b => w.heap.size ≤ b ∧ b < wr.heap.size) A7 rs7.length rs7 ∧ rowsXs rs7 = reduceTo nc (rowsXs rs) j ∧ Keep w wr) (fun _ i _ => n - (intOf i).toNat)
    case atStart => exact ⟨0, none, 0, [], by omega, rfl, rfl, Nat.le_refl _, RowsIn.nothing _ _ _, rfl, K1.out⟩
    case round =>
      obtain ⟨j, A7, c7, rs7, hj, rfl, rfl, hlc, hr7, hx7, hk7⟩ := hrel
      have HR7 := Lib.hid hr7
      have HX7 := Lib.hid hx7
      have HK7 := Lib.hid hk7
      by_cases hlt : j < n
      · have e1 : (0 : Int) ≤ (j : Int) := Int.natCast_nonneg _
        have e2 : (j : Int) < (n : Int) := by omega
        have hred := reduceTo_red HOK.out j (by rw [HLR.out]; omega)
        have hlead := redL_leads hred.1
        have hlen := redL_length hred.1
        have hl7 : rs7.length ≤ 100000 := by
          have e : (rowsXs rs7).length = rs7.length := rowsXs_len _
          rw [hx7] at e; omega
        obtain ⟨b, off, r, rfl, hb, hr, hcell, hri⟩ := (H.out.turned (Turned.of_keep (F := fun _ => False) hk7) fun _ _ e => e).at_ hlt
        have HRI := Lib.hid hri
        have hrn := Lib.hid (HRN.out r (List.mem_of_getElem? hr))
        have hL7 : ∀ r' ∈ rs7, r'.n = nc ∧ 0 ≤ vLead nc r'.xs := fun r' hr' => by
          have hm : r'.xs ∈ reduceTo nc (rowsXs rs) j := hx7 ▸ List.mem_map.2 ⟨r', hr', rfl⟩
          have := hlead _ hm
          exact ⟨by rw [← (HR7.out.2.1 r' hr').1]; exact this.1, this.2⟩
        have HL7 := Lib.hid hL7
        have HST : Hid (reduceTo nc (rowsXs rs) (j + 1) = insertN nc (rowsXs rs7) r.xs) := by
          show _ = _
          rw [reduceTo_succ (by rw [HLR.out]; omega), rowsXs_at hr, ← hx7]
        clear hr7 hx7 hk7 hred hlead hlen hri hr hL7 hb
        go_wp2_with fail
        refine (rins_any rs7.length c7 nc A7 (fun b => w.heap.size ≤ b ∧ b < wr.heap.size) F rs7 r _ HR7.out HRI.out (fun b hb => hb.2) (fun b hb => Nat.lt_of_lt_of_le (HF.out b hb) HK7.out.size) hrn.out HL7.out hl7 hlc (by omega)).mono ?_
        rintro e w2 ⟨A8, n8, c8, rfl, rs8, hr8, hc8, hx8, k8⟩
        obtain rfl : rs8.length = n8 := hr8.1
        have HR8 := Lib.hid (hr8.mono (F' := fun b => w.heap.size ≤ b ∧ b < w2.heap.size) fun b hb => by
          rcases hb with hb | hb
          · exact ⟨hb.1, Nat.lt_of_lt_of_le hb.2 k8.size⟩
          · exact ⟨Nat.le_trans HK7.out.size hb.1, hb.2⟩)
        have HX8 := Lib.hid hx8
        have HK8 := Lib.hid (HK7.out.trans k8)
        clear hr8 hx8 k8
        go_wp2_with fail
        go_roundw
        case rel => exact ⟨j + 1, A8, c8, rs8, by omega, by go_num, rfl, hc8, HR8.out, by rw [HST.out, HX8.out], HK8.out⟩
        case measure => simp [intOf]; omega
      · obtain rfl : j = n := by omega
        have HE : Hid (rowsXs rs7 = T) := by show _ = _; rw [hx7, ← HT.out, reduceN, if_pos HFI.out, HS.out.2.1, HLR.out]
        clear hr7 hx7 hk7
        go_wp2_with fail
        go_ret2
        exact ⟨_, _, _, rfl, rs7, HR7.out, hlc, HE.out, HK7.out⟩
  · have E0 : er = 21 := by rw [← HS.out.2.2, sizeE, if_neg hf]
    subst E0
    have HE : Hid (T = []) := by show _ = _; rw [← HT.out, reduceN, if_neg hf]
    clear hf
    go_wp2_with fail
    go_ret2
    exact ⟨none, 0, 0, rfl, [], RowsIn.nothing _ _ _, Nat.le_refl _, HE.out.symm, K1.out⟩
theorem rrank_any (n c : Nat) (A : Option Addr) (F : Nat → Prop) (rs : List RowV) (w : World) (h : RowsIn w F A n rs) (hF : ∀ b, F b → b < w.heap.size) (hn : n ≤ 100000) (hc : sizeC (rowsXs rs) ≤ 100000) :
    Calls Try.prog 44 #[.slice A n c] w fun e w' => e = .returned (.tuple #[.int .i64 ((reduceN (rowsXs rs)).length : Int), .int .i64 (sizeE (rowsXs rs))]) ∧ Keep w w' := by
  obtain ⟨er, her⟩ : ∃ er, sizeE (rowsXs rs) = er := ⟨_, rfl⟩
  have C := Lib.hid (rreduce_any n c A F rs w h hF hn hc)
  obtain ⟨T, hT⟩ : ∃ T, reduceN (rowsXs rs) = T := ⟨_, rfl⟩
  rw [hT, her] at C
  rw [hT, her]
  clear h hF her hT
  go_enter Try.func44, Try.ntmps44
  go_wp2_with fail
  refine C.out.mono ?_
  rintro e w1 ⟨A1, n1, c1, rfl, rs1, hr1, hc1, hx1, k1⟩
  obtain rfl : T.length = n1 := by rw [← hx1, rowsXs_len, hr1.1]
  have K1 := Lib.hid k1
  clear hr1 hx1 k1
  go_wp2_with fail
  go_ret2
  exact ⟨rfl, K1.out⟩
end Go.Proofs.Ytofhdaeeiienfaa
