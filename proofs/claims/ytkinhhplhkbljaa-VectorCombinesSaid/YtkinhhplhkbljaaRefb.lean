/- Contracts of the document's own answers of layer 2, but the combinations; and of a copy of bytes. -/
import Derived.Test.YtkinhhplhkbljaaRmul
import Derived.Test.YtkinhhplhkbljaaVec
import Derived.Test.YtkinhhplhkbljaaBytes
import Derived.WalkKit
import Derived.WalkSpells
import Derived.Lib.Hide
import Derived.Deep.RegionHeld3
import Derived.Deep.AppendLies
import Derived.Deep.QuietTactic
import Derived.BigQuiet
namespace Go.Proofs.Ytkinhhplhkbljaa
open Go.RowKit

theorem info5 : (Try.prog.info? 5).map (fun i => (i.zero, i.size, i.bytes)) = some (some (.int .u8 0), 1, 1) := by kernel_rfl

/-- What a call hands back that lays a slice of bytes in new memory. -/
def NewBytes (w : World) (xs : List Nat) (r : Ending) (w' : World) : Prop :=
  ∃ A n c, r = .returned (.slice A n c) ∧ Own w' w.heap.size 5 A n c xs ∧ Keep w w'
/-- .. and an error. -/
def NewPair (w : World) (xs : List Nat) (er : Int) (r : Ending) (w' : World) : Prop :=
  ∃ A n c, r = .returned (.tuple #[.slice A n c, .int .i64 er]) ∧ Own w' w.heap.size 5 A n c xs ∧ Keep w w'
theorem NewPair.nil (w : World) (er : Int) : NewPair w [] er (.returned (.tuple #[.slice none 0 0, .int .i64 er])) w := ⟨none, 0, 0, rfl, Own.none_ _ _ _, Keep.refl _⟩

set_option maxRecDepth 100000 in
theorem own_any (B n c : Nat) (A : Option Addr) (xs : List Nat) (w : World) (h : Bytes w B A n xs) (hn : n ≤ 140737488351232) :
    Calls Try.prog 10 #[.slice A n c] w (NewBytes w xs) := by
  go_enter Try.func10, Try.ntmps10
  go_wp2_with (at_builtin; refine wpList_append_bytes rfl _ _ 22 rfl Try.underlying22 info5 rfl (Own.none_ w w.heap.size 5) rfl h ?c1 (Nat.le_refl _) ?_)
  case c1 => omega
  intro A' c' w' hown hgr _
  have hk : Keep w w' := (Keep.refl w).grown hgr (fun k hk => by cases hk)
  go_wp2_with fail
  go_ret
  exact ⟨A', _, c', rfl, by simpa using hown, hk⟩

set_option maxRecDepth 100000 in
theorem raddS_apart (n m ca cb c : Nat) (A A' : Option Addr) (w : World) (h : n ≠ m) :
    Calls Try.prog 14 #[.slice A n ca, .slice A' m cb, .int .u8 c] w (NewPair w [] 21) := by
  have b0 : ((n : Int) != (m : Int)) = true := by rw [bne_iff_ne]; omega
  go_enter Try.func14, Try.ntmps14
  go_wp2_with fail
  go_ret2
  exact NewPair.nil w 21
set_option maxRecDepth 100000 in
set_option maxHeartbeats 1000000 in
theorem raddS_any (B B' n ca cb c : Nat) (A A' : Option Addr) (xs ys : List Nat) (w : World) (h : Bytes w B A n xs) (h' : Bytes w B' A' n ys) (hB : B ≤ w.heap.size) (hB' : B' ≤ w.heap.size) (hn : n ≤ 140737488351232) (hc : c < 256) :
    Calls Try.prog 14 #[.slice A n ca, .slice A' n cb, .int .u8 c] w (NewPair w (vAddS n xs ys c) 0) := by
  have b0 : ((n : Int) != (n : Int)) = false := by simp
  go_enter Try.func14, Try.ntmps14
  go_wp2_with fail
  go_loopw [8, 9] (fun o i wr => ∃ (k : Nat) (Ao : Option Addr) (co : Nat), k ≤ n ∧ i = .int .i64 k ∧ o = .slice Ao k co ∧ Own wr w.heap.size 5 Ao k co (vAddS k xs ys c) ∧ Keep w wr) (fun _ i _ => n - (intOf i).toNat)
  case atStart => exact ⟨0, none, 0, by omega, rfl, rfl, Own.none_ _ _ _, Keep.refl _⟩
  case round =>
    obtain ⟨k, Ao, co, hk, rfl, rfl, hown, hkeep⟩ := hrel
    by_cases hlt : k < n
    · obtain ⟨b1, o1, rfl, hb1, hc1⟩ := (h.keep hB hkeep).at_ hlt
      obtain ⟨b2, o2, rfl, hb2, hc2⟩ := (h'.keep hB' hkeep).at_ hlt
      have hx := h.all.getD k
      have hy := h'.all.getD k
      have hs : Hid (vAddS (k + 1) xs ys c = vAddS k xs ys c ++ [xs.getD k 0 ^^^ mulN (ys.getD k 0) c]) := tab_succ _ _
      generalize xs.getD k 0 = x at *
      generalize ys.getD k 0 = y at *
      obtain ⟨p, hp⟩ : ∃ p, mulN y c = p := ⟨_, rfl⟩
      have hp2 : p < 256 := by rw [← hp]; exact mulN_lt _ hy
      have hxor := u8_xor_nat x p hx hp2
      have hv : x ^^^ p < 256 := xor_lt hx hp2
      rw [hp] at hs
      have HP := Lib.hid hp
      clear hp
      have e1 : (0 : Int) ≤ (k : Int) := Int.natCast_nonneg _
      have e2 : (k : Int) < (n : Int) := by omega
      have hsz := hkeep.size
      have N1 : some b1 ≠ (Value.slice Ao k co).ownBlock := fun e => absurd (hown.rowLe _ e.symm) (by omega)
      have N2 : some b2 ≠ (Value.slice Ao k co).ownBlock := fun e => absurd (hown.rowLe _ e.symm) (by omega)
      have HOWN := Lib.hid hown
      have HK := Lib.hid hkeep
      have HH := Lib.hid h
      have HH' := Lib.hid h'
      clear hown hkeep h h'
      go_wp2_with fail
      go_region_held3 (fun w' => w'.cell? ⟨b1, o1 + k, none⟩ = some (.int .u8 (x : Int)) ∧ w'.cell? ⟨b2, o2 + k, none⟩ = some (.int .u8 (y : Int)))
        (first
          | go_keep
          | (go_split_ands
             refine ⟨?_, ?_⟩
             · (rw [hgr2.cell_far _ (by simp; omega) N1]; assumption)
             · (rw [hgr2.cell_far _ (by simp; omega) N2]; assumption)))
        (first | (go_at_call 33; refine (rmul_eq y c p hy hc HP.out _).mono ?_; rintro e w' ⟨rfl, rfl⟩) | (refine step_append_bytes (by rfl) _ _ 22 (by rfl) Try.underlying22 info5 (by rfl) ((HOWN.out.alloc _).drew) (by rfl) ((Bytes.one wr (x ^^^ p) hv 5).drew) (by omega) (by simp; omega) ?_; intro A2 c2 w2 hown2 hgr2 _))
      have hk2 : Keep w w2 := Keep.grown (Keep.drew (Keep.alloc HK.out _ _)) hgr2 (HOWN.out.rowLe)
      go_wp2_with fail
      go_roundw
      case rel => exact ⟨k + 1, A2, c2, by omega, by go_num, rfl, by rw [hs.out]; exact hown2, hk2⟩
      case measure => simp [intOf]; omega
    · obtain rfl : k = n := by omega
      go_wp2_with fail
      go_ret2
      exact ⟨Ao, k, co, rfl, hown, hkeep⟩
theorem vAddS_one (n : Nat) (xs ys : List Nat) (hy : AllB ys) : vAddS n xs ys 1 = vAdd n xs ys := tab_congr fun i _ => by rw [mul_one_right _ (hy.getD i)]
theorem radd_any (B B' n ca cb : Nat) (A A' : Option Addr) (xs ys : List Nat) (w : World) (h : Bytes w B A n xs) (h' : Bytes w B' A' n ys) (hB : B ≤ w.heap.size) (hB' : B' ≤ w.heap.size) (hn : n ≤ 140737488351232) :
    Calls Try.prog 12 #[.slice A n ca, .slice A' n cb] w (NewPair w (vAdd n xs ys) 0) := by
  have hv := vAddS_one n xs ys h'.all
  go_enter Try.func12, Try.ntmps12
  go_wp2_with fail
  refine (raddS_any B B' n ca cb 1 A A' xs ys w h h' hB hB' hn (by decide)).mono ?_
  rw [hv]
  rintro e w' ⟨A2, n2, c2, rfl, h1, h2⟩
  go_wp2_with fail
  go_ret2
  exact ⟨A2, n2, c2, rfl, h1, h2⟩
theorem radd_apart (n m ca cb : Nat) (A A' : Option Addr) (w : World) (h : n ≠ m) :
    Calls Try.prog 12 #[.slice A n ca, .slice A' m cb] w (NewPair w [] 21) := by
  go_enter Try.func12, Try.ntmps12
  go_wp2_with fail
  refine (raddS_apart n m ca cb 1 A A' w h).mono ?_
  rintro e w' ⟨A2, n2, c2, rfl, h1, h2⟩
  go_wp2_with fail
  go_ret2
  exact ⟨A2, n2, c2, rfl, h1, h2⟩
theorem quiet_of_eq {P : Program} {f : FuncId} {args : Array Value} {w : World} {n : Nat} {v : Value}
    (h : Calls P f args (w.drewN n) fun e w' => e = .returned v ∧ w.drewN n = w') : Calls P f args (w.drewN n) fun e w'' => e = .returned v ∧ ∃ m, w'' = w.drewN m :=
  h.mono fun _ _ h => ⟨h.1, n, h.2.symm⟩
theorem rdot_apart (n m ca cb : Nat) (A A' : Option Addr) (w : World) (h : n ≠ m) :
    Calls Try.prog 16 #[.slice A n ca, .slice A' m cb] w fun e w' => e = .returned (.tuple #[.int .u8 0, .int .i64 21]) ∧ Keep w w' := by
  have b0 : ((n : Int) != (m : Int)) = true := by rw [bne_iff_ne]; omega
  go_enter Try.func16, Try.ntmps16
  go_wp2_with fail
  go_ret2
  exact ⟨rfl, Keep.refl _⟩
set_option maxRecDepth 100000 in
set_option maxHeartbeats 1000000 in
theorem rdot_any (B B' n ca cb : Nat) (A A' : Option Addr) (xs ys : List Nat) (w : World) (h : Bytes w B A n xs) (h' : Bytes w B' A' n ys) (hB : B ≤ w.heap.size) (hB' : B' ≤ w.heap.size) (_hn : n ≤ 140737488351232) :
    Calls Try.prog 16 #[.slice A n ca, .slice A' n cb] w fun e w' => e = .returned (.tuple #[.int .u8 (vDot n xs ys : Nat), .int .i64 0]) ∧ Keep w w' := by
  have b0 : ((n : Int) != (n : Int)) = false := by simp
  go_enter Try.func16, Try.ntmps16
  go_wp2_with fail
  go_loopw [6, 7] (fun o i wr => ∃ (k : Nat), k ≤ n ∧ i = .int .i64 k ∧ o = .int .u8 (vDot k xs ys : Nat) ∧ Keep w wr) (fun _ i _ => n - (intOf i).toNat)
  case atStart => exact ⟨0, by omega, rfl, rfl, Keep.refl _⟩
  case round =>
    obtain ⟨k, hk, rfl, rfl, hkeep⟩ := hrel
    by_cases hlt : k < n
    · obtain ⟨b1, o1, rfl, hb1, hc1⟩ := (h.keep hB hkeep).at_ hlt
      obtain ⟨b2, o2, rfl, hb2, hc2⟩ := (h'.keep hB' hkeep).at_ hlt
      have hx := h.all.getD k
      have hy := h'.all.getD k
      have hs : Hid (vDot (k + 1) xs ys = vDot k xs ys ^^^ mulN (xs.getD k 0) (ys.getD k 0)) := rfl
      have hd : vDot k xs ys < 256 := sumX_lt _ _ fun i _ => mulN_lt _ (h.all.getD i)
      generalize xs.getD k 0 = x at *
      generalize ys.getD k 0 = y at *
      generalize vDot k xs ys = s at *
      obtain ⟨p, hp⟩ : ∃ p, mulN x y = p := ⟨_, rfl⟩
      have hp2 : p < 256 := by rw [← hp]; exact mulN_lt _ hx
      have hxor := u8_xor_nat s p hd hp2
      rw [hp] at hs
      have HP := Lib.hid hp
      have e1 : (0 : Int) ≤ (k : Int) := Int.natCast_nonneg _
      have e2 : (k : Int) < (n : Int) := by omega
      have HK := Lib.hid hkeep
      have HH := Lib.hid h
      have HH' := Lib.hid h'
      clear hp h h' hkeep
      go_wp2_with fail
      go_quiet ((go_at_call 33; exact quiet_of_eq (rmul_eq x y p hx hy HP.out _)))
      go_wp2_with fail
      go_roundw
      case rel => exact ⟨k + 1, by omega, by go_num, by rw [hs.out], Keep.drewN HK.out _⟩
      case measure => simp [intOf]; omega
    · obtain rfl : k = n := by omega
      go_wp2_with fail
      go_ret2
      exact ⟨rfl, hkeep⟩
theorem vScale_zeros (n : Nat) (xs : List Nat) (c : Nat) : vAddS n (List.replicate n 0) xs c = vScale n xs c := tab_congr fun i hi => by
  rw [List.getD_eq_getElem?_getD, List.getElem?_replicate, if_pos hi]
  simp
set_option maxRecDepth 100000 in
theorem rscale_any (B n ca c : Nat) (A : Option Addr) (xs : List Nat) (w : World) (h : Bytes w B A n xs) (hB : B ≤ w.heap.size) (hn : n ≤ 140737488351232) (hc : c < 256) :
    Calls Try.prog 18 #[.slice A n ca, .int .u8 c] w (NewBytes w (vScale n xs c)) := by
  have hmk := run_make_bytes (P := Try.prog) Try.underlying22 info5 n (by omega)
  have hv := vScale_zeros n xs c
  go_enter Try.func18, Try.ntmps18
  go_wp2_with fail
  have hm := Own.made w 5 n (by omega)
  have k1 : Keep w (w.alloc (.cells (madeCells #[.int .u8 0] n) 5)) := (Keep.refl w).alloc _ _
  refine (raddS_any _ B n n ca c _ A _ xs _ hm.bytes (h.keep hB k1) (Nat.le_refl _) (Nat.le_trans hB k1.size) hn hc).mono ?_
  rw [hv]
  rintro e w' ⟨A2, n2, c2, rfl, h1, h2⟩
  clear hm k1
  go_wp2_with fail
  go_ret
  exact ⟨A2, n2, c2, rfl, h1.lower (by simp), Keep.trans ((Keep.refl w).alloc _ _) h2⟩
set_option maxRecDepth 100000 in
theorem rlead_any (B n ca : Nat) (A : Option Addr) (xs : List Nat) (w : World) (h : Bytes w B A n xs) (_hn : n ≤ 140737488351232) :
    Calls Try.prog 20 #[.slice A n ca] w fun e w' => e = .returned (.int .i64 (vLead n xs)) ∧ w = w' := by
  go_enter Try.func20, Try.ntmps20
  go_wp2_with fail
  go_loop [3] (fun i => ∃ k : Nat, k ≤ n ∧ i = .int .i64 k ∧ ∀ j, j < k → xs.getD j 0 = 0) (fun i => n - (intOf i).toNat)
  case atStart => exact ⟨0, by omega, rfl, fun j hj => by omega⟩
  case round =>
    obtain ⟨k, hk, rfl, hz⟩ := hrel
    have HZ := Lib.hid hz
    clear hz
    by_cases hlt : k < n
    · obtain ⟨b1, o1, rfl, hb1, hc1⟩ := h.at_ hlt
      have hx := h.all.getD k
      by_cases h0 : xs.getD k 0 = 0
      · have hs : Hid (∀ j, j < k + 1 → xs.getD j 0 = 0) := fun j hj => by
          by_cases e : j = k
          · subst e; exact h0
          · exact HZ.out j (by omega)
        have b1' : (((xs.getD k 0 : Nat) : Int) != 0) = false := by rw [h0]; rfl
        generalize xs.getD k 0 = x at *
        clear h0
        go_wp2_with fail
        go_round
        case rel => exact ⟨k + 1, by omega, by go_num, hs.out⟩
        case measure => simp [intOf]; omega
      · have hv : Hid (vLead n xs = (k : Int)) := by
          show _ = _
          have h1 := (vLeadTo_some xs n k).2 ⟨hlt, h0, HZ.out⟩
          rw [vLead, h1]
        have b1' : (((xs.getD k 0 : Nat) : Int) != 0) = true := by rw [bne_iff_ne]; omega
        generalize xs.getD k 0 = x at *
        clear h0
        go_wp2_with fail
        go_ret
        exact ⟨by rw [hv.out]; rfl, rfl⟩
    · have hv : Hid (vLead n xs = -1) := by
        show _ = _
        have h1 := (vLeadTo_none xs n).2 fun i hi => HZ.out i (by omega)
        rw [vLead, h1]
      go_wp2_with fail
      go_ret
      exact ⟨by rw [hv.out]; rfl, rfl⟩
theorem runit_out (n i : Int) (h : n < 0 ∨ 70000 < n ∨ i < 0 ∨ n ≤ i) (w : World) :
    Calls Try.prog 26 #[.int .i64 n, .int .i64 i] w (NewPair w [] 1) := by
  by_cases h1 : n < 0
  · go_enter Try.func26, Try.ntmps26
    go_wp2
    go_ret2
    exact NewPair.nil w 1
  by_cases h2 : 70000 < n
  · go_enter Try.func26, Try.ntmps26
    go_wp2
    go_ret2
    exact NewPair.nil w 1
  by_cases h3 : i < 0
  · go_enter Try.func26, Try.ntmps26
    go_wp2
    go_ret2
    exact NewPair.nil w 1
  have h4 : n ≤ i := by omega
  clear h
  go_enter Try.func26, Try.ntmps26
  go_wp2
  go_ret2
  exact NewPair.nil w 1
theorem vUnit_set (n k : Nat) : (List.replicate n 0).set k 1 = vUnit n k := by
  refine list_ext (by simp [vUnit, tab_length]) fun i hi => ?_
  simp at hi
  rw [vUnit, tab_getD, if_pos hi, List.getD_eq_getElem?_getD, List.getElem?_set]
  by_cases e : k = i
  · subst e; simp [hi]
  · rw [if_neg e, if_neg (fun h => e h.symm)]; simp [hi]
set_option maxRecDepth 100000 in
theorem runit_in (n i : Nat) (hi : i < n) (hn : n ≤ 70000) (w : World) :
    Calls Try.prog 26 #[.int .i64 n, .int .i64 i] w (NewPair w (vUnit n i) 0) := by
  have hmk := run_make_bytes (P := Try.prog) Try.underlying22 info5 n (by omega)
  have e1 : (0 : Int) ≤ (i : Int) := Int.natCast_nonneg _
  have e2 : (i : Int) < (n : Int) := by omega
  have e3 : (n : Int) ≤ 70000 := by omega
  have hm := Own.made w 5 n (by omega)
  have hc := hm.cell hi
  have hf := hm.frozen i
  have hs := hm.stored (i := i) (v := 1) (by decide)
  rw [World.setCell_alloc_new, vUnit_set n i] at hs
  have HS := Lib.hid hs
  clear hs
  generalize (List.replicate n 0).getD i 0 = z at hc
  clear hm
  go_enter Try.func26, Try.ntmps26
  go_wp2_with fail
  go_ret2
  exact ⟨_, n, n, rfl, HS.out, (Keep.refl w).alloc _ _⟩
end Go.Proofs.Ytkinhhplhkbljaa
