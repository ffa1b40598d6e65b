/- Contracts of the document's own answers of layer 2 that layer 6 leans on. -/
import Derived.Test.YtofhdaeeiienfaaNew
import Derived.Test.YtofhdaeeiienfaaMulB
import Derived.Test.YtofhdaeeiienfaaVec
namespace Go.Proofs.Ytofhdaeeiienfaa
open Go.RowKit
set_option maxRecDepth 100000 in
theorem raddS_apart (n m ca cb c : Nat) (A A' : Option Addr) (w : World) (h : n ≠ m) :
    Calls Try.prog 96 #[.slice A n ca, .slice A' m cb, .int .u8 c] w (NewPair w [] 21) := by
  have b0 : ((n : Int) != (m : Int)) = true := by rw [bne_iff_ne]; omega
  go_enter Try.func96, Try.ntmps96
  go_wp2_with fail
  go_ret2
  exact NewPair.nil w 21
set_option maxRecDepth 100000 in
set_option maxHeartbeats 1000000 in
theorem raddS_any (B B' n ca cb c : Nat) (A A' : Option Addr) (xs ys : List Nat) (w : World) (h : Bytes w B A n xs) (h' : Bytes w B' A' n ys) (hB : B ≤ w.heap.size) (hB' : B' ≤ w.heap.size) (hn : n ≤ 140737488351232) (hc : c < 256) :
    Calls Try.prog 96 #[.slice A n ca, .slice A' n cb, .int .u8 c] w (NewPair w (vAddS n xs ys c) 0) := by
  have b0 : ((n : Int) != (n : Int)) = false := by simp
  go_enter Try.func96, Try.ntmps96
  go_wp2_with fail
  go_loopw [8, 9] (fun o i wr => ∃ (k : Nat) (Ao : Option Addr) (co : Nat), k ≤ n ∧ i = .int .i64 k ∧ o = .slice Ao k co ∧ Own wr w.heap.size 5 Ao k co (vAddS k xs ys c) ∧ Keep w wr) (fun _ i _ => n - (intOf i).toNat)
  case atStart => exact ⟨0, none, 0, by omega, rfl, rfl, Own.none_ _ _ _, Keep.refl _⟩
  case round =>
    obtain ⟨k, Ao, co, hk, rfl, rfl, hown, hkeep⟩ := hrel
    by_cases hlt : k < n
    · obtain ⟨b1, o1, rfl, hb1, hc1⟩ := (h.keep hB hkeep).at_ hlt
      obtain ⟨b2, o2, rfl, hb2, hc2⟩ := (h'.keep hB' hkeep).at_ hlt
      have hx := h.all.getD k
      have hy := h'.all.getD k
      have hs : Hid (vAddS (k + 1) xs ys c = vAddS k xs ys c ++ [xs.getD k 0 ^^^ mulN (ys.getD k 0) c]) := tab_succ _ _
      generalize xs.getD k 0 = x at *
      generalize ys.getD k 0 = y at *
      obtain ⟨p, hp⟩ : ∃ p, mulN y c = p := ⟨_, rfl⟩
      have hp2 : p < 256 := by rw [← hp]; exact mulN_lt _ hy
      have hxor := u8_xor_nat x p hx hp2
      have hv : x ^^^ p < 256 := xor_lt hx hp2
      rw [hp] at hs
      have HP := Lib.hid hp
      clear hp
      have e1 : (0 : Int) ≤ (k : Int) := Int.natCast_nonneg _
      have e2 : (k : Int) < (n : Int) := by omega
      have hsz := hkeep.size
      have N1 : some b1 ≠ (Value.slice Ao k co).ownBlock := fun e => absurd (hown.rowLe _ e.symm) (by omega)
      have N2 : some b2 ≠ (Value.slice Ao k co).ownBlock := fun e => absurd (hown.rowLe _ e.symm) (by omega)
      have HOWN := Lib.hid hown
      have HK := Lib.hid hkeep
      have HH := Lib.hid h
      have HH' := Lib.hid h'
      clear hown hkeep h h'
      go_wp2_with fail
      go_region_held3 (fun w' => w'.cell? ⟨b1, o1 + k, none⟩ = some (.int .u8 (x : Int)) ∧ w'.cell? ⟨b2, o2 + k, none⟩ = some (.int .u8 (y : Int)))
        (first
          | go_keep
          | (go_split_ands
             refine ⟨?_, ?_⟩
             · (rw [hgr2.cell_far _ (by simp; omega) N1]; assumption)
             · (rw [hgr2.cell_far _ (by simp; omega) N2]; assumption)))
        (first | (go_at_call 107; refine (rmul_eq y c p hy hc HP.out _).mono ?_; rintro e w' ⟨rfl, rfl⟩) | (refine step_append_bytes (by rfl) _ _ 23 (by rfl) Try.underlying23 info5 (by rfl) ((HOWN.out.alloc _).drew) (by rfl) ((Bytes.one wr (x ^^^ p) hv 5).drew) (by omega) (by simp; omega) ?_; intro A2 c2 w2 hown2 hgr2 _))
      have hk2 : Keep w w2 := Keep.grown (Keep.drew (Keep.alloc HK.out _ _)) hgr2 (HOWN.out.rowLe)
      go_wp2_with fail
      go_roundw
      case rel => exact ⟨k + 1, A2, c2, by omega, by go_num, rfl, by rw [hs.out]; exact hown2, hk2⟩
      case measure => simp [intOf]; omega
    · obtain rfl : k = n := by omega
      go_wp2_with fail
      go_ret2
      exact ⟨Ao, k, co, rfl, hown, hkeep⟩
theorem vScale_zeros (n : Nat) (xs : List Nat) (c : Nat) : vAddS n (List.replicate n 0) xs c = vScale n xs c := tab_congr fun i hi => by
  rw [List.getD_eq_getElem?_getD, List.getElem?_replicate, if_pos hi]
  simp
set_option maxRecDepth 100000 in
theorem rscale_any (B n ca c : Nat) (A : Option Addr) (xs : List Nat) (w : World) (h : Bytes w B A n xs) (hB : B ≤ w.heap.size) (hn : n ≤ 140737488351232) (hc : c < 256) :
    Calls Try.prog 98 #[.slice A n ca, .int .u8 c] w (NewBytes w (vScale n xs c)) := by
  have hmk := run_make_bytes (P := Try.prog) Try.underlying23 info5 n (by omega)
  have hv := vScale_zeros n xs c
  go_enter Try.func98, Try.ntmps98
  go_wp2_with fail
  have hm := Own.made w 5 n (by omega)
  have k1 : Keep w (w.alloc (.cells (madeCells #[.int .u8 0] n) 5)) := (Keep.refl w).alloc _ _
  refine (raddS_any _ B n n ca c _ A _ xs _ hm.bytes (h.keep hB k1) (Nat.le_refl _) (Nat.le_trans hB k1.size) hn hc).mono ?_
  rw [hv]
  rintro e w' ⟨A2, n2, c2, rfl, h1, h2⟩
  clear hm k1
  go_wp2_with fail
  go_ret
  exact ⟨A2, n2, c2, rfl, h1.lower (by simp), Keep.trans ((Keep.refl w).alloc _ _) h2⟩
set_option maxRecDepth 100000 in
theorem rlead_any (B n ca : Nat) (A : Option Addr) (xs : List Nat) (w : World) (h : Bytes w B A n xs) (_hn : n ≤ 140737488351232) :
    Calls Try.prog 97 #[.slice A n ca] w fun e w' => e = .returned (.int .i64 (vLead n xs)) ∧ w = w' := by
  go_enter Try.func97, Try.ntmps97
  go_wp2_with fail
  go_loop [3] (fun i => ∃ k : Nat, k ≤ n ∧ i = .int .i64 k ∧ ∀ j, j < k → xs.getD j 0 = 0) (fun i => n - (intOf i).toNat)
  case atStart => exact ⟨0, by omega, rfl, fun j hj => by omega⟩
  case round =>
    obtain ⟨k, hk, rfl, hz⟩ := hrel
    have HZ := Lib.hid hz
    clear hz
    by_cases hlt : k < n
    · obtain ⟨b1, o1, rfl, hb1, hc1⟩ := h.at_ hlt
      have hx := h.all.getD k
      by_cases h0 : xs.getD k 0 = 0
      · have hs : Hid (∀ j, j < k + 1 → xs.getD j 0 = 0) := fun j hj => by
          by_cases e : j = k
          · subst e; exact h0
          · exact HZ.out j (by omega)
        have b1' : (((xs.getD k 0 : Nat) : Int) != 0) = false := by rw [h0]; rfl
        generalize xs.getD k 0 = x at *
        clear h0
        go_wp2_with fail
        go_round
        case rel => exact ⟨k + 1, by omega, by go_num, hs.out⟩
        case measure => simp [intOf]; omega
      · have hv : Hid (vLead n xs = (k : Int)) := by
          show _ = _
          have h1 := (vLeadTo_some xs n k).2 ⟨hlt, h0, HZ.out⟩
          rw [vLead, h1]
        have b1' : (((xs.getD k 0 : Nat) : Int) != 0) = true := by rw [bne_iff_ne]; omega
        generalize xs.getD k 0 = x at *
        clear h0
        go_wp2_with fail
        go_ret
        exact ⟨by rw [hv.out]; rfl, rfl⟩
    · have hv : Hid (vLead n xs = -1) := by
        show _ = _
        have h1 := (vLeadTo_none xs n).2 fun i hi => HZ.out i (by omega)
        rw [vLead, h1]
      go_wp2_with fail
      go_ret
      exact ⟨by rw [hv.out]; rfl, rfl⟩
end Go.Proofs.Ytofhdaeeiienfaa
