/- Contracts of the document's own answers of layer 3. -/
import Derived.Test.YtpmildbgmmiaeaaNew
import Derived.Test.YtpmildbgmmiaeaaForm
import Derived.OneCell
namespace Go.Proofs.Ytpmildbgmmiaeaa
open Go.RowKit
set_option maxRecDepth 100000 in
theorem rown_any (B n c : Nat) (A : Option Addr) (xs : List Nat) (w : World) (h : Bytes w B A n xs) (hn : n ≤ 140737488355328) :
    Calls Try.prog 9 #[.slice A n c] w (NewBytes w xs) := by
  go_enter Try.func9, Try.ntmps9
  go_wp2_with (at_builtin; refine wpList_append_bytes rfl _ _ 22 rfl Try.underlying22 info5 rfl (Own.none_ w w.heap.size 5) rfl h ?c1 (Nat.le_refl _) ?_)
  case c1 => omega
  intro A' c' w' hown hgr _
  have hk : Keep w w' := (Keep.refl w).grown hgr (fun k hk => by cases hk)
  go_wp2_with fail
  go_ret
  exact ⟨A', _, c', rfl, by simpa using hown, hk⟩
theorem rnum_out (n ca v : Nat) (A : Option Addr) (s : Int) (h : s < 1 ∨ 8 < s) (w : World) :
    Calls Try.prog 11 #[.slice A n ca, .int .u64 v, .int .i64 s] w (NewPair w [] 1) := by
  by_cases h1 : s < 1
  · go_enter Try.func11, Try.ntmps11
    go_wp2
    go_ret2
    exact NewPair.nil w 1
  have h2 : 8 < s := by omega
  clear h
  go_enter Try.func11, Try.ntmps11
  go_wp2
  go_ret2
  exact NewPair.nil w 1
/-- What laying a number answers. -/
def laysOf (xs : List Nat) (v s : Nat) : List Nat := if v < 256 ^ s then xs ++ formN s v else []
def laysErr (v s : Nat) : Int := if v < 256 ^ s then 0 else 3
set_option maxRecDepth 100000 in
set_option maxHeartbeats 1000000 in
theorem rnum_in (B m ca v s : Nat) (A : Option Addr) (xs : List Nat) (w : World) (h : Bytes w B A m xs) (hm : m ≤ 140737488351232) (hs1 : 1 ≤ s) (hs8 : s ≤ 8) (hv : v < 18446744073709551616) :
    Calls Try.prog 11 #[.slice A m ca, .int .u64 v, .int .i64 s] w (NewPair w (laysOf xs v s) (laysErr v s)) := by
  have b1 : ¬ (s : Int) < 1 := by omega
  have b2 : ¬ (8 : Int) < (s : Int) := by omega
  go_enter Try.func11, Try.ntmps11
  go_wp2_with fail
  refine (rown_any B m ca A xs w h (by omega)).mono ?_
  rintro e w1 ⟨A1, n1, c1, rfl, o1, k1⟩
  obtain rfl : n1 = m := o1.length.symm.trans h.length
  have O1 := Lib.hid o1
  have K1 := Lib.hid k1
  have HL := Lib.hid h.length
  clear o1 k1 h
  go_wp2_with fail
  go_loopw [8, 10] (fun o i wr => ∃ (j : Nat) (Ao : Option Addr) (co : Nat), j ≤ s ∧ i = .int .i64 j ∧ o = .slice Ao (n1 + j : Nat) co ∧ Own wr w.heap.size 5 Ao (n1 + j) co (xs ++ List.replicate j 0) ∧ Keep w wr) (fun _ i _ => s - (intOf i).toNat)
  case atStart => exact ⟨0, A1, c1, by omega, rfl, rfl, by simpa using O1.out, K1.out⟩
  case round =>
    obtain ⟨j, Ao, co, hj, rfl, rfl, hown, hkeep⟩ := hrel
    have HO := Lib.hid hown
    have HK := Lib.hid hkeep
    clear hown hkeep
    by_cases hlt : j < s
    · have e2 : (j : Int) < (s : Int) := by omega
      go_wp2_with (at_builtin; refine wpList_append_bytes rfl _ _ 22 rfl Try.underlying22 info5 rfl (HO.out.alloc _) rfl (Bytes.one wr 0 (by decide) 5) (by omega) (by have := HK.out.size; simp; omega) ?_)
      intro A2 c2 w2 h2 hgr2 _
      have HK2 := Lib.hid (Keep.grown (Keep.alloc HK.out _ _) hgr2 (HO.out.rowLe))
      have HO2 : Hid (Own w2 w.heap.size 5 A2 (n1 + (j + 1)) c2 (xs ++ List.replicate (j + 1) 0)) := by
        show Own _ _ _ _ _ _ _
        rw [List.replicate_succ']; exact h2
      clear h2 hgr2
      go_wp2_with fail
      go_roundw
      case rel => exact ⟨j + 1, A2, c2, by omega, by go_num, rfl, HO2.out, HK2.out⟩
      case measure => simp [intOf]; omega
    · obtain rfl : s = j := by omega
      clear O1 K1
      obtain ⟨g, rfl, hg, _⟩ := HO.out.block (by omega)
      go_wp2_with fail
      go_loopw [1, 11] (fun nv i wr => ∃ (j : Nat), j ≤ s ∧ nv = .int .u64 (v / 256 ^ j : Nat) ∧ i = .int .i64 ((s : Int) - 1 - (j : Int)) ∧ Own wr w.heap.size 5 (some ⟨g, 0, none⟩) (n1 + s) co (xs ++ laidN s v j) ∧ Keep w wr) (fun _ i _ => (intOf i + 1).toNat)
      case atStart => exact ⟨0, by omega, by simp, by simp, by rw [laidN_zero]; exact HO.out, HK.out⟩
      case round =>
        clear HO HK
        obtain ⟨j, hj, rfl, rfl, hown, hkeep⟩ := hrel
        by_cases hlt : j < s
        · obtain ⟨t, ht⟩ : ∃ t, s - 1 - j = t := ⟨_, rfl⟩
          have e1 : (s : Int) - 1 - (j : Int) = (t : Int) := by omega
          obtain ⟨u, hu⟩ : ∃ u, n1 + t = u := ⟨_, rfl⟩
          have e2 : (n1 : Int) + (t : Int) = (u : Int) := by omega
          obtain ⟨q, hq⟩ : ∃ q, v / 256 ^ j = q := ⟨_, rfl⟩
          obtain ⟨q', hq'⟩ : ∃ q', v / 256 ^ (j + 1) = q' := ⟨_, rfl⟩
          obtain ⟨d, hd⟩ : ∃ d, q % 256 = d := ⟨_, rfl⟩
          have d2 : d < 256 := by omega
          have e3 : (q : Int) % 256 = (d : Int) := by omega
          have e4 : (d : Int) % 256 = (d : Int) := by omega
          have e5 : (q : Int) / 256 = (q' : Int) := by
            have : q' = q / 256 := by rw [← hq', ← hq, Nat.pow_succ, Nat.div_div_eq_div_mul]
            omega
          have q64 : q < 18446744073709551616 := Nat.lt_of_le_of_lt (by rw [← hq]; exact Nat.div_le_self _ _) hv
          have hc := hown.cell (i := u) (by omega)
          have hf := hown.frozen u
          have hs := hown.stored (i := u) (v := d) d2
          rw [← hu, ← HL.out, set_append_right, ← ht, ← hd, ← hq, laidN_set s v j hlt, hq, hd, ht, HL.out, hu] at hs
          have HS := Lib.hid hs
          have HK := Lib.hid (hkeep.setCell (a := ⟨g, u, none⟩) hg (.int .u8 (d : Int)))
          have HQ := Lib.hid hq'
          have HT := Lib.hid ht
          rw [hq]
          rw [e1]
          generalize (xs ++ laidN s v j).getD u 0 = z at hc
          have x1 : (0 : Int) ≤ (t : Int) := Int.natCast_nonneg _
          have x2 : (0 : Int) ≤ (u : Int) := Int.natCast_nonneg _
          have x3 : (u : Int) < ((n1 + s : Nat) : Int) := by omega
          clear hs hown hkeep hq hq' hd ht hu e1
          go_wp2_with fail
          go_roundw
          case rel => exact ⟨j + 1, by omega, by rw [HQ.out], by have := HT.out; congr 1; omega, HS.out, HK.out⟩
          case measure => simp [intOf]
        · obtain rfl : s = j := by omega
          rw [laidN_all] at hown
          have HO := Lib.hid hown
          have HK := Lib.hid hkeep
          have e1 : (s : Int) - 1 - (s : Int) = -1 := by omega
          rw [e1]
          clear hown hkeep e1
          by_cases hz : v < 256 ^ s
          · have b3 : (((v / 256 ^ s : Nat) : Int) != 0) = false := by rw [Nat.div_eq_of_lt hz]; rfl
            have E1 : Hid (laysOf xs v s = xs ++ formN s v) := by show _ = _; rw [laysOf, if_pos hz]
            have E2 : Hid (laysErr v s = 0) := by show _ = _; rw [laysErr, if_pos hz]
            generalize v / 256 ^ s = q at *
            clear hz
            go_wp2_with fail
            go_ret2
            rw [E1.out, E2.out]
            exact ⟨_, _, _, rfl, HO.out, HK.out⟩
          · have b3 : (((v / 256 ^ s : Nat) : Int) != 0) = true := by
              have : 0 < v / 256 ^ s := Nat.div_pos (by omega) (Nat.pow_pos (by decide))
              rw [bne_iff_ne]; omega
            have E1 : Hid (laysOf xs v s = []) := by show _ = _; rw [laysOf, if_neg hz]
            have E2 : Hid (laysErr v s = 3) := by show _ = _; rw [laysErr, if_neg hz]
            generalize v / 256 ^ s = q at *
            clear hz
            go_wp2_with fail
            go_ret2
            rw [E1.out, E2.out]
            exact ⟨none, 0, 0, rfl, Own.none_ _ _ _, HK.out⟩
/-- The address of a slice cut at its head. -/
def cutA (A : Option Addr) (c s : Nat) : Option Addr := if c = s then A else A.map (·.add s)
theorem run_cut (n c s : Nat) (A : Option Addr) (hs : s ≤ n) (w : World) :
    (Instr.slice 22 (.slice A n c) (some (.int .i64 (s : Int))) none none).run Try.prog w = .ok (.slice (cutA A c s) (n - s) (c - s)) w := by
  have ht : Try.prog.underlying 22 = some (.slice (Try.prog.elem 22)) := by kernel_rfl
  obtain ⟨i0, hi0, hz0, hz1, hz2⟩ := info_parts info5
  have he : Try.prog.elem 22 = 5 := by kernel_rfl
  rw [run_slice_l (P := Try.prog) (w := w) 22 A n c ht .i64 s (by omega) (by omega), he]
  simp [sizeOf, typeInfo, hi0, hz1, sliced, cutA]
theorem Bytes.drop {w : World} {B n c s : Nat} {A : Option Addr} {xs : List Nat} (h : Bytes w B A n xs) (hc : n ≤ c) : Bytes w B (cutA A c s) (n - s) (xs.drop s) := by
  refine ⟨by rw [List.length_drop, h.1], fun x hx => h.2.1 x (List.mem_of_mem_drop hx), fun hp => ?_⟩
  obtain ⟨b, off, rfl, hb, hcell⟩ := h.2.2 (by omega)
  refine ⟨b, off + s, ?_, hb, fun i hi => ?_⟩
  · rw [cutA, if_neg (by omega)]
    simp only [Option.map_some, Addr.add]
    split <;> simp_all
  · rw [Nat.add_assoc, hcell (s + i) (by omega)]
    simp [List.getD_eq_getElem?_getD, List.getElem?_drop]
/-- The reference's reader: what is left. -/
structure RefR (w : World) (base g : Nat) (A : Option Addr) (n c : Nat) (L : List Nat) : Prop where
  cell : w.heap[g]? = some (.cells #[.slice A n c] 38 (0, 0))
  new : base ≤ g
  own : Own w base 5 A n c L
theorem own_le {w : World} {base n c : Nat} {e : TypeId} {A : Option Addr} {xs : List Nat} (h : Own w base e A n c xs) : n ≤ c := by
  rcases h.1.2 with ⟨hv, h0⟩ | ⟨g, cap, cur, hv, _, _, hle, _⟩
  · omega
  · injection hv with _ _ h3; omega
/-- The reader's block is given another slice, made behind. -/
theorem RefR.put {w w2 : World} {base g n c n2 c2 : Nat} {A A2 : Option Addr} {L L2 : List Nat} (h : RefR w base g A n c L) (hb : base ≤ w.heap.size) (k : Keep w w2) (o : Own w2 w.heap.size 5 A2 n2 c2 L2) :
    w.grownBy (w2.setCell ⟨g, 0, none⟩ (.slice A2 n2 c2)) (some g) ∧ RefR (w2.setCell ⟨g, 0, none⟩ (.slice A2 n2 c2)) base g A2 n2 c2 L2 := by
  have hlt := lt_of_block h.cell
  have h2 : w2.heap[g]? = some (.cells #[.slice A n c] 38 (0, 0)) := by rw [k.block g hlt]; exact h.cell
  refine ⟨⟨k.os, k.tape, k.output, by simpa [World.setCell] using k.size, fun i hi hne => ?_⟩, one_setCell h2, h.new, (o.far (p := ⟨g, 0, none⟩) (fun e => ?_) _).lower hb⟩
  · rw [Below.heap_setCell _ _ _ _ (fun e => hne (by rw [e]))]
    exact k.block i hi
  · have := o.rowLe g e
    omega
theorem valN_lt64 (L : List Nat) (s : Nat) (h : AllB L) (hs : s ≤ 8) : valN (L.take s) < 18446744073709551616 := by
  have h1 := valN_lt (L.take s) (h.take s)
  have h2 : 256 ^ (L.take s).length ≤ 256 ^ 8 := Nat.pow_le_pow_right (by decide) (by rw [List.length_take]; omega)
  exact Nat.lt_of_lt_of_le h1 h2
theorem rread_out (base g n c : Nat) (A : Option Addr) (L : List Nat) (s : Int) (h : s < 1 ∨ 8 < s) (w : World) (_hr : RefR w base g A n c L) :
    Calls Try.prog 16 #[.pointer (some ⟨g, 0, none⟩), .int .i64 s] w fun e w' => e = .returned (.tuple #[.int .u64 0, .int .i64 1]) ∧ w = w' := by
  by_cases h1 : s < 1
  · go_enter Try.func16, Try.ntmps16
    go_wp2
    go_ret2
    exact ⟨rfl, rfl⟩
  have h2 : 8 < s := by omega
  clear h
  go_enter Try.func16, Try.ntmps16
  go_wp2
  go_ret2
  exact ⟨rfl, rfl⟩
theorem rread_short (base g n c s : Nat) (A : Option Addr) (L : List Nat) (h1 : 1 ≤ s) (h8 : s ≤ 8) (hs : n < s) (w : World) (hr : RefR w base g A n c L) :
    Calls Try.prog 16 #[.pointer (some ⟨g, 0, none⟩), .int .i64 s] w fun e w' => e = .returned (.tuple #[.int .u64 0, .int .i64 4]) ∧ w = w' := by
  have c1 := cell_of_one hr.cell
  have b1 : ¬ (s : Int) < 1 := by omega
  have b2 : ¬ (8 : Int) < (s : Int) := by omega
  have b3 : (n : Int) < (s : Int) := by omega
  clear hr
  go_enter Try.func16, Try.ntmps16
  go_wp2_with fail
  go_ret2
  exact ⟨rfl, rfl⟩
set_option maxRecDepth 100000 in
set_option maxHeartbeats 1000000 in
theorem rread_in (base g n c s : Nat) (A : Option Addr) (L : List Nat) (h1 : 1 ≤ s) (h8 : s ≤ 8) (hs : s ≤ n) (hn : n ≤ 140737488355328) (w : World) (hr : RefR w base g A n c L) (hbase : base ≤ w.heap.size) :
    Calls Try.prog 16 #[.pointer (some ⟨g, 0, none⟩), .int .i64 s] w fun e w' => e = .returned (.tuple #[.int .u64 (valN (L.take s) : Nat), .int .i64 0]) ∧ w.grownBy w' (some g) ∧ ∃ A' c', RefR w' base g A' (n - s) c' (L.drop s) ∧ ∀ b, (Value.slice A' (n - s) c').ownBlock = some b → w.heap.size ≤ b := by
  have c1 := cell_of_one hr.cell
  have b1 : ¬ (s : Int) < 1 := by omega
  have b2 : ¬ (8 : Int) < (s : Int) := by omega
  have b3 : ¬ (n : Int) < (s : Int) := by omega
  have hcut := fun w => run_cut n c s A hs w
  have HB := Lib.hid hr.own.bytes
  have HR := Lib.hid hr
  have hl := hr.own.length
  have HL := Lib.hid hl
  obtain ⟨b, off, rfl, hb, _⟩ := hr.own.bytes.at_ (k := 0) (by omega)
  clear hr hl
  go_enter Try.func16, Try.ntmps16
  go_wp2_with fail
  go_loop [6, 7] (fun v i => ∃ j : Nat, j ≤ s ∧ i = .int .i64 j ∧ v = .int .u64 (valN (L.take j) : Nat)) (fun _ i => s - (intOf i).toNat)
  case atStart => exact ⟨0, by omega, rfl, rfl⟩
  case round =>
    obtain ⟨j, hj, rfl, rfl⟩ := hrel
    by_cases hlt : j < s
    · obtain ⟨b', off', e, _, hc⟩ := HB.out.at_ (k := j) (by omega)
      injection e with e
      injection e with ea eb
      subst ea eb
      have hx := HB.out.all.getD j
      have hv := valN_take_succ L j (by have := HL.out; omega)
      have h64 := valN_lt64 L (j + 1) HB.out.all (by omega)
      generalize L.getD j 0 = x at *
      obtain ⟨v, hvv⟩ : ∃ v, valN (L.take j) = v := ⟨_, rfl⟩
      rw [hv] at h64
      rw [hvv] at hv h64
      rw [hvv]
      have e1 : (0 : Int) ≤ (j : Int) := Int.natCast_nonneg _
      have e2 : (j : Int) < (n : Int) := by omega
      have HV := Lib.hid hv
      have e3 : (256 : Int) * (v : Int) % 18446744073709551616 = 256 * (v : Int) := by omega
      have e4 : (256 * (v : Int) + (x : Int)) % 18446744073709551616 = 256 * (v : Int) + (x : Int) := by omega
      clear hv hvv
      go_wp2_with fail
      go_round
      case rel => exact ⟨j + 1, by omega, by go_num, by rw [HV.out]; go_num⟩
      case measure => simp [intOf]; omega
    · obtain rfl : s = j := by omega
      go_wp2_with fail
      refine (rown_any _ (n - s) _ _ _ _ (HB.out.drop (own_le HR.out.own)) (by omega)).mono ?_
      rintro e w2 ⟨A2, n2, c2, rfl, o2, k2⟩
      obtain rfl : n2 = n - s := by have h := o2.length; rw [List.length_drop, HL.out] at h; exact h.symm
      have h2 : w2.heap[g]? = some (.cells #[.slice (some ⟨b, off, none⟩) n c] 38 (0, 0)) := by rw [k2.block g (lt_of_block HR.out.cell)]; exact HR.out.cell
      have c2' := cell_of_one h2
      have f2 := free_of_one h2
      have HP := Lib.hid (HR.out.put hbase k2 o2)
      have HQ := Lib.hid o2.rowLe
      clear h2 k2 o2 hcut
      go_wp2_with fail
      go_ret2
      exact ⟨rfl, HP.out.1, _, _, HP.out.2, HQ.out⟩
theorem rtake_out (base g n c : Nat) (A : Option Addr) (L : List Nat) (s : Int) (h : s < 0) (w : World) (_hr : RefR w base g A n c L) :
    Calls Try.prog 18 #[.pointer (some ⟨g, 0, none⟩), .int .i64 s] w fun e w' => e = .returned (.tuple #[.slice none 0 0, .int .i64 1]) ∧ w = w' := by
  go_enter Try.func18, Try.ntmps18
  go_wp2
  go_ret2
  exact ⟨rfl, rfl⟩
theorem rtake_short (base g n c s : Nat) (A : Option Addr) (L : List Nat) (hs : n < s) (w : World) (hr : RefR w base g A n c L) :
    Calls Try.prog 18 #[.pointer (some ⟨g, 0, none⟩), .int .i64 s] w fun e w' => e = .returned (.tuple #[.slice none 0 0, .int .i64 4]) ∧ w = w' := by
  have c1 := cell_of_one hr.cell
  have b1 : ¬ (s : Int) < 0 := by omega
  have b3 : (n : Int) < (s : Int) := by omega
  clear hr
  go_enter Try.func18, Try.ntmps18
  go_wp2_with fail
  go_ret2
  exact ⟨rfl, rfl⟩
set_option maxRecDepth 100000 in
theorem rtake_in (base g n c s : Nat) (A : Option Addr) (L : List Nat) (hs : s ≤ n) (hn : n ≤ 140737488355328) (w : World) (hr : RefR w base g A n c L) (hbase : base ≤ w.heap.size) :
    Calls Try.prog 18 #[.pointer (some ⟨g, 0, none⟩), .int .i64 s] w fun e w' => ∃ A1 c1, e = .returned (.tuple #[.slice A1 s c1, .int .i64 0]) ∧ Own w' w.heap.size 5 A1 s c1 (L.take s) ∧ w.grownBy w' (some g) ∧ ∃ A' c', RefR w' base g A' (n - s) c' (L.drop s) ∧ ∀ b, (Value.slice A' (n - s) c').ownBlock = some b → w.heap.size ≤ b := by
  have hc1 := cell_of_one hr.cell
  have b1 : ¬ (s : Int) < 0 := by omega
  have b3 : ¬ (n : Int) < (s : Int) := by omega
  have hcut := fun w => run_cut n c s A hs w
  have hle := own_le hr.own
  have b4 : (s : Int) ≤ (c : Int) := by omega
  have HR := Lib.hid hr
  have HL := Lib.hid hr.own.length
  have HB := Lib.hid hr.own.bytes
  clear hr
  go_enter Try.func18, Try.ntmps18
  go_wp2_with fail
  refine (rown_any _ s _ _ _ _ (HB.out.cut hs) (by omega)).mono ?_
  rintro e w1 ⟨A1, n1, c1, rfl, o1, k1⟩
  obtain rfl : s = n1 := by have h := o1.length; rw [List.length_take, HL.out] at h; omega
  have hk1 : w1.heap[g]? = some (.cells #[.slice A n c] 38 (0, 0)) := by rw [k1.block g (lt_of_block HR.out.cell)]; exact HR.out.cell
  have hc2 := cell_of_one hk1
  have O1 := Lib.hid o1
  have K1 := Lib.hid k1
  clear o1 hk1 hc1
  go_wp2_with fail
  refine (rown_any _ (n - s) _ _ _ _ ((HB.out.drop hle).keep (Nat.le_refl _) K1.out) (by omega)).mono ?_
  rintro e w2 ⟨A2, n2, c2, rfl, o2, k2⟩
  obtain rfl : n2 = n - s := by have h := o2.length; rw [List.length_drop, HL.out] at h; exact h.symm
  have K2 := Lib.hid (Keep.trans K1.out k2)
  have h2 : w2.heap[g]? = some (.cells #[.slice A n c] 38 (0, 0)) := by rw [K2.out.block g (lt_of_block HR.out.cell)]; exact HR.out.cell
  have hc3 := cell_of_one h2
  have f2 := free_of_one h2
  have HP := Lib.hid (HR.out.put hbase K2.out (o2.lower K1.out.size))
  have HO := Lib.hid ((O1.out.keep k2).far (p := ⟨g, 0, none⟩) (fun e => absurd (O1.out.rowLe g e) (by have := lt_of_block HR.out.cell; show ¬ _ ≤ g; omega)) (.slice A2 (n - s) c2))
  have HQ := Lib.hid fun b hb => Nat.le_trans K1.out.size (o2.rowLe b hb)
  clear h2 k2 o2 hcut hc2
  go_wp2_with fail
  go_ret2
  exact ⟨_, _, rfl, HO.out, HP.out.1, _, _, HP.out.2, HQ.out⟩
end Go.Proofs.Ytpmildbgmmiaeaa
