/- Contracts of the landed code of layer 3. -/
import Derived.Test.YtifopodnceopjaaGreatDoorQaa
import Derived.Test.YtifopodnceopjaaGreatDoorQah
import Derived.Test.YtifopodnceopjaaGreatDoorQab
import Derived.Laws.EntriesVeiled
import Derived.BigQuiet
import Derived.Deep.MidRow
namespace Go.Proofs.YtifopodnceopjaaGreatDoor
open Go.RowKit
/-- What laying a number answers, any size. -/
def numOf (xs : List Nat) (v : Nat) (s : Int) : List Nat := if s < 1 ∨ 8 < s then [] else laysOf xs v s.toNat
def numErr (v : Nat) (s : Int) : Int := if s < 1 ∨ 8 < s then 1 else laysErr v s.toNat
/-- What reading a number answers, and leaves. -/
def readErr (L : List Nat) (s : Int) : Int := if s < 1 ∨ 8 < s then 1 else if L.length < s.toNat then 4 else 0
def readVal (L : List Nat) (s : Int) : Nat := if readErr L s = 0 then valN (L.take s.toNat) else 0
def readLeft (L : List Nat) (s : Int) : List Nat := if readErr L s = 0 then L.drop s.toNat else L
/-- What taking bytes answers, and leaves. -/
def takeErr (L : List Nat) (s : Int) : Int := if s < 0 then 1 else if L.length < s.toNat then 4 else 0
def takeVal (L : List Nat) (s : Int) : List Nat := if takeErr L s = 0 then L.take s.toNat else []
def takeLeft (L : List Nat) (s : Int) : List Nat := if takeErr L s = 0 then L.drop s.toNat else L
def endErr (L : List Nat) : Int := if L = [] then 0 else 3
/-- A reader at g with L left; F tells its blocks. -/
def ReadR (w : World) (F : Nat → Prop) (g : Nat) (L : List Nat) : Prop :=
  F g ∧ (∀ b, F b → b < w.heap.size) ∧ AllB L ∧ ∃ A c, w.heap[g]? = some (.cells #[.bool true, .slice A L.length c] 186 (0, 0)) ∧ (L.length ≤ c ∧ L.length ≤ 140737488355328) ∧ (0 < L.length → ∃ b off, A = some ⟨b, off, none⟩ ∧ F b ∧ b ≠ g ∧ ∀ i, i < L.length → w.cell? ⟨b, off + i, none⟩ = some (.int .u8 ((L.getD i 0 : Nat) : Int)))
theorem ReadR.at_ {w : World} {F : Nat → Prop} {g : Nat} {L : List Nat} (h : ReadR w F g L) : F g := h.1
theorem ReadR.lt {w : World} {F : Nat → Prop} {g b : Nat} {L : List Nat} (h : ReadR w F g L) (hb : F b) : b < w.heap.size := h.2.1 b hb
theorem ReadR.all {w : World} {F : Nat → Prop} {g : Nat} {L : List Nat} (h : ReadR w F g L) : AllB L := h.2.2.1
theorem ReadR.bound {w : World} {F : Nat → Prop} {g : Nat} {L : List Nat} (h : ReadR w F g L) : L.length ≤ 140737488355328 := by
  obtain ⟨_, _, _, _, _, _, h, _⟩ := h; exact h.2
/-- What lies elsewhere may turn. -/
theorem ReadR.grown {w w' : World} {F : Nat → Prop} {g : Nat} {row : Option Nat} {L : List Nat} (h : ReadR w F g L) (k : w.grownBy w' row) (hn : ∀ b, row = some b → ¬ F b) : ReadR w' F g L := by
  obtain ⟨h1, h2, h3, A, c, h4, h5, h6⟩ := h
  have hb : ∀ b, F b → w'.heap[b]? = w.heap[b]? := fun b hb => k.block b (h2 b hb) fun e => hn b e.symm hb
  refine ⟨h1, fun b hb => Nat.lt_of_lt_of_le (h2 b hb) k.size, h3, A, c, by rw [hb g h1]; exact h4, h5, fun hp => ?_⟩
  obtain ⟨b, off, e, hf, hne, hc⟩ := h6 hp
  refine ⟨b, off, e, hf, hne, fun i hi => ?_⟩
  rw [← hc i hi]
  simp only [World.cell?, hb b hf]
theorem ReadR.keep {w w' : World} {F : Nat → Prop} {g : Nat} {L : List Nat} (h : ReadR w F g L) (k : Keep w w') : ReadR w' F g L := h.grown (row := none) ⟨k.os, k.tape, k.output, k.size, fun i hi _ => k.block i hi⟩ (fun b e => by cases e)
theorem size_yes (s : Int) (h1 : 1 ≤ s) (h8 : s ≤ 8) (w : World) : Calls Tryz.prog 107 #[.int .i64 s] w fun e w' => e = .returned (.bool true) ∧ w = w' := by
  go_enter Tryz.func107, Tryz.ntmps107
  go_wp2_with fail
  go_ret
  exact ⟨rfl, rfl⟩
theorem size_no (s : Int) (h : s < 1 ∨ 8 < s) (w : World) : Calls Tryz.prog 107 #[.int .i64 s] w fun e w' => e = .returned (.bool false) ∧ w = w' := by
  by_cases h1 : s < 1
  · go_enter Tryz.func107, Tryz.ntmps107
    go_wp2_with fail
    go_ret
    exact ⟨rfl, rfl⟩
  · have h2 : 8 < s := by omega
    have h3 : 1 ≤ s := by omega
    have h4 : decide (s ≤ 8) = false := decide_eq_false (by omega)
    clear h h1 h2
    go_enter Tryz.func107, Tryz.ntmps107
    go_wp2_with fail
    go_ret
    exact ⟨rfl, rfl⟩
theorem made_at (g : Nat) (b : Bool) (w : World) (h : w.cell? ⟨g, 0, none⟩ = some (.bool b)) : Calls Tryz.prog 126 #[.pointer (some ⟨g, 0, none⟩)] w fun e w' => e = .returned (.bool b) ∧ w = w' := by
  go_enter Tryz.func126, Tryz.ntmps126
  go_wp2_with fail
  go_ret
  exact ⟨rfl, rfl⟩
/-- A block of bytes, whole. -/
def Blk (w : World) (g : Nat) (t : TypeId) (xs : List Nat) : Prop := w.heap[g]? = some (.cells (u8s xs).toArray t (0, 0))
theorem Blk.cell {w : World} {g t i : Nat} {xs : List Nat} (h : Blk w g t xs) (hi : i < xs.length) : w.cell? ⟨g, i, none⟩ = some (.int .u8 ((xs.getD i 0 : Nat) : Int)) := by
  have h' : w.heap[g]? = some (.cells (u8s xs).toArray t (0, 0)) := h
  rw [cell_of_row w g i _ _ _ h', List.getElem?_toArray, u8s_get]
  simp [List.getD, hi]
theorem Blk.frozen {w : World} {g t : Nat} {xs : List Nat} (h : Blk w g t xs) (i : Nat) : w.frozen? ⟨g, i, none⟩ = false := by
  have h' : w.heap[g]? = some (.cells (u8s xs).toArray t (0, 0)) := h
  simp [World.frozen?, h']
theorem Blk.set {w : World} {g t i v : Nat} {xs : List Nat} (h : Blk w g t xs) : Blk (w.setCell ⟨g, i, none⟩ (.int .u8 (v : Int))) g t (xs.set i v) := by
  show _ = _
  rw [heap_setCell_same w g i _ _ _ h, ← u8s_set]
  simp
theorem Blk.bytes {w : World} {g t : Nat} {xs : List Nat} (h : Blk w g t xs) (ha : AllB xs) : Bytes w w.heap.size (some ⟨g, 0, none⟩) xs.length xs :=
  ⟨rfl, ha, fun _ => ⟨g, 0, rfl, lt_of_block h, fun i hi => by rw [Nat.zero_add]; exact h.cell hi⟩⟩
theorem wnum_out (ca m v : Nat) (A : Option Addr) (s : Int) (h : s < 1 ∨ 8 < s) (w : World) :
    Calls Tryz.prog 77 #[.slice A m ca, .int .u64 v, .int .i64 s] w (NewPair w [] 1) := by
  have H := Lib.hid h
  clear h
  go_enter Tryz.func77, Tryz.ntmps77
  go_wp2_with fail
  refine (size_no s H.out _).mono ?_
  rintro e w1 ⟨rfl, rfl⟩
  go_wp2_with fail
  go_ret2
  exact NewPair.nil w 1
set_option maxRecDepth 100000 in
set_option maxHeartbeats 1000000 in
theorem wnum_in (B m ca v s : Nat) (A : Option Addr) (xs : List Nat) (w : World) (h : Bytes w B A m xs) (hB : B ≤ w.heap.size) (hm : m ≤ 140737488351232) (hs1 : 1 ≤ s) (hs8 : s ≤ 8) (hv : v < 18446744073709551616) :
    Calls Tryz.prog 77 #[.slice A m ca, .int .u64 v, .int .i64 s] w (NewPair w (laysOf xs v s) (laysErr v s)) := by
  have HH := Lib.hid h
  clear h
  go_enter Tryz.func77, Tryz.ntmps77
  go_wp2_with fail
  refine (size_yes s (by omega) (by omega) _).mono ?_
  rintro e w1 ⟨rfl, rfl⟩
  have h0 : Hid (Blk (w.alloc (.cells #[.int .u8 0, .int .u8 0, .int .u8 0, .int .u8 0, .int .u8 0, .int .u8 0, .int .u8 0, .int .u8 0] 171)) w.heap.size 171 (laidN s v 0 ++ List.replicate (8 - s) 0)) := by
    show _ = _
    rw [heap_alloc_new, laidN_zero, List.replicate_append_replicate, show s + (8 - s) = 8 by omega]
    rfl
  go_wp2_with fail
  go_loopw [1, 9] (fun nv i wr => ∃ (j : Nat), j ≤ s ∧ nv = .int .u64 (v / 256 ^ j : Nat) ∧ i = .int .i64 ((s : Int) - 1 - (j : Int)) ∧ Blk wr w.heap.size 171 (laidN s v j ++ List.replicate (8 - s) 0) ∧ Keep w wr) (fun _ i _ => (intOf i + 1).toNat)
  case atStart => exact ⟨0, by omega, by simp, by simp, h0.out, (Keep.refl w).alloc _ _⟩
  case round =>
    clear h0
    obtain ⟨j, hj, rfl, rfl, hblk, hkeep⟩ := hrel
    by_cases hlt : j < s
    · obtain ⟨t, ht⟩ : ∃ t, s - 1 - j = t := ⟨_, rfl⟩
      have e1 : (s : Int) - 1 - (j : Int) = (t : Int) := by omega
      obtain ⟨q, hq⟩ : ∃ q, v / 256 ^ j = q := ⟨_, rfl⟩
      obtain ⟨q', hq'⟩ : ∃ q', v / 256 ^ (j + 1) = q' := ⟨_, rfl⟩
      obtain ⟨d, hd⟩ : ∃ d, q % 256 = d := ⟨_, rfl⟩
      have d2 : d < 256 := by omega
      have e3 : (q : Int) % 256 = (d : Int) := by omega
      have e5 : (q : Int) / 256 = (q' : Int) := by
        have : q' = q / 256 := by rw [← hq', ← hq, Nat.pow_succ, Nat.div_div_eq_div_mul]
        omega
      have q64 : q < 18446744073709551616 := Nat.lt_of_le_of_lt (by rw [← hq]; exact Nat.div_le_self _ _) hv
      have hc := hblk.cell (i := t) (by rw [List.length_append, laidN_length, List.length_replicate]; omega)
      have hf := hblk.frozen t
      have hs := hblk.set (i := t) (v := d)
      rw [List.set_append_left _ _ (by rw [laidN_length]; omega), ← ht, ← hd, ← hq, laidN_set s v j hlt, hq, hd, ht] at hs
      have HS := Lib.hid hs
      have HK := Lib.hid (hkeep.setCell (a := ⟨w.heap.size, t, none⟩) (Nat.le_refl _) (.int .u8 (d : Int)))
      have HQ := Lib.hid hq'
      have HT := Lib.hid ht
      rw [hq]
      rw [e1]
      generalize (laidN s v j ++ List.replicate (8 - s) 0).getD t 0 = z at hc
      have x1 : (0 : Int) ≤ (t : Int) := Int.natCast_nonneg _
      have x3 : (t : Int) < 8 := by omega
      clear hs hblk hkeep hq hq' hd ht e1
      go_wp2_with fail
      go_roundw
      case rel => exact ⟨j + 1, by omega, by rw [HQ.out], by have := HT.out; congr 1; omega, HS.out, HK.out⟩
      case measure => simp [intOf]
    · obtain rfl : s = j := by omega
      rw [laidN_all] at hblk
      have e1 : (s : Int) - 1 - (s : Int) = -1 := by omega
      rw [e1]
      clear e1
      by_cases hz : v < 256 ^ s
      · have b3 : (((v / 256 ^ s : Nat) : Int) != 0) = false := by rw [Nat.div_eq_of_lt hz]; rfl
        have E1 : Hid (laysOf xs v s = xs ++ formN s v) := by show _ = _; rw [laysOf, if_pos hz]
        have E2 : Hid (laysErr v s = 0) := by show _ = _; rw [laysErr, if_pos hz]
        have hby := hblk.bytes ((formN_all s v).append (AllB.zeros _))
        have hby2 := hby.cut (m := s) (by rw [List.length_append, formN_length]; omega)
        rw [List.take_left' (formN_length s v)] at hby2
        have HR := Lib.hid (RowsUp.lit (w := wr) rfl 22 2 [⟨A, m, ca, xs⟩, ⟨some ⟨w.heap.size, 0, none⟩, s, 8, formN s v⟩] #[.slice A m ca, .slice (some ⟨w.heap.size, 0, none⟩) s 8] rfl rfl (fun r hr => by
          simp only [List.mem_cons, List.not_mem_nil, or_false] at hr
          rcases hr with rfl | rfl
          · exact (HH.out.keep hB hkeep).mono (Nat.le_trans hB hkeep.size)
          · exact hby2))
        have HK := Lib.hid hkeep
        generalize v / 256 ^ s = q at *
        have x1 : (s : Int) ≤ 8 := by omega
        clear hz hby hby2 hblk hkeep
        go_wp2_with fail
        refine (concat_any _ 2 _ _ _ _ HR.out (by simp) (by omega) (by simp [sizesN]; omega)).mono ?_
        rintro e w2 ⟨A2, n2, c2, rfl, o2, k2⟩
        have HO := Lib.hid (o2.lower (base' := w.heap.size) (by have := HK.out.size; simp; omega))
        have HK2 := Lib.hid ((HK.out.alloc _ _).trans k2)
        clear o2 k2
        go_wp2_with fail
        go_ret2
        rw [E1.out, E2.out]
        exact ⟨_, _, _, rfl, by simpa [joinN] using HO.out, HK2.out⟩
      · have b3 : (((v / 256 ^ s : Nat) : Int) != 0) = true := by
          have : 0 < v / 256 ^ s := Nat.div_pos (by omega) (Nat.pow_pos (by decide))
          rw [bne_iff_ne]; omega
        have E1 : Hid (laysOf xs v s = []) := by show _ = _; rw [laysOf, if_neg hz]
        have E2 : Hid (laysErr v s = 3) := by show _ = _; rw [laysErr, if_neg hz]
        have HK := Lib.hid hkeep
        generalize v / 256 ^ s = q at *
        clear hz hblk hkeep
        go_wp2_with fail
        go_ret2
        rw [E1.out, E2.out]
        exact ⟨none, 0, 0, rfl, Own.none_ _ _ _, HK.out⟩
theorem wnum_any (B m ca v : Nat) (s : Int) (A : Option Addr) (xs : List Nat) (w : World) (h : Bytes w B A m xs) (hB : B ≤ w.heap.size) (hm : m ≤ 140737488351232) (hv : v < 18446744073709551616) :
    Calls Tryz.prog 77 #[.slice A m ca, .int .u64 v, .int .i64 s] w (NewPair w (numOf xs v s) (numErr v s)) := by
  by_cases hs : s < 1 ∨ 8 < s
  · rw [numOf, numErr, if_pos hs, if_pos hs]
    exact wnum_out ca m v A s hs w
  · rw [numOf, numErr, if_neg hs, if_neg hs]
    have e : s = (s.toNat : Int) := by omega
    have h2 := wnum_in B m ca v s.toNat A xs w h hB hm (by omega) (by omega) hv
    rw [← e] at h2
    exact h2
theorem wnew_any (B n c : Nat) (A : Option Addr) (xs : List Nat) (w : World) (h : Bytes w B A n xs) (hB : B ≤ w.heap.size) (hn : n ≤ 140737488355328) :
    Calls Tryz.prog 108 #[.slice A n c] w fun e w' => ∃ g F, e = .returned (.pointer (some ⟨g, 0, none⟩)) ∧ ReadR w' F g xs ∧ (∀ b, F b → w.heap.size ≤ b) ∧ Keep w w' := by
  go_enter Tryz.func108, Tryz.ntmps108
  go_wp2_with fail
  refine (clone_any B n c A xs w h hB hn).mono ?_
  rintro e w1 ⟨A1, n1, c1, rfl, o1, k1⟩
  obtain rfl : xs.length = n1 := o1.length
  have HL : Hid (xs.length ≤ 140737488355328) := by show _ ≤ _; rw [h.1]; exact hn
  have O1 := Lib.hid o1
  have K1 := Lib.hid k1
  clear o1 k1 h
  go_wp2_with fail
  go_ret
  refine ⟨w1.heap.size, fun b => b = w1.heap.size ∨ ((Value.slice A1 xs.length c1).ownBlock = some b), rfl, ⟨Or.inl rfl, ?_, O1.out.2, A1, c1, heap_alloc_new _ _, ⟨own_le O1.out, HL.out⟩, ?_⟩, ?_, K1.out.alloc _ _⟩
  · rintro b (rfl | hb)
    · simp
    · have := (O1.out.1.lt b hb).2
      simp; omega
  · intro hp
    obtain ⟨g, rfl, h1, h2⟩ := O1.out.block hp
    refine ⟨g, 0, rfl, Or.inr rfl, by omega, fun i hi => ?_⟩
    rw [Nat.zero_add]
    exact (O1.out.alloc _).cell hi
  · rintro b (rfl | hb)
    · exact K1.out.size
    · exact O1.out.rowLe b hb
/-- What is left, as bytes. -/
theorem ReadR.bytes {w : World} {g : Nat} {L : List Nat} {A : Option Addr} {F : Nat → Prop} (ha : AllB L) (hF : ∀ b, F b → b < w.heap.size)
    (h : 0 < L.length → ∃ b off, A = some ⟨b, off, none⟩ ∧ F b ∧ b ≠ g ∧ ∀ i, i < L.length → w.cell? ⟨b, off + i, none⟩ = some (.int .u8 ((L.getD i 0 : Nat) : Int))) : Bytes w w.heap.size A L.length L :=
  ⟨rfl, ha, fun hp => by
    obtain ⟨b, off, e, hb, _, hc⟩ := h hp
    exact ⟨b, off, e, hF b hb, hc⟩⟩
/-- The reader's block is given what is left of its bytes. -/
theorem ReadR.step {w w' : World} {F : Nat → Prop} {g s : Nat} {L : List Nat} {A : Option Addr} {c : Nat} (hg : F g) (hF : ∀ b, F b → b < w.heap.size) (ha : AllB L) (hc : L.length ≤ c ∧ L.length ≤ 140737488355328) (hs : s ≤ L.length)
    (h : 0 < L.length → ∃ b off, A = some ⟨b, off, none⟩ ∧ F b ∧ b ≠ g ∧ ∀ i, i < L.length → w.cell? ⟨b, off + i, none⟩ = some (.int .u8 ((L.getD i 0 : Nat) : Int)))
    (hb : w'.heap[g]? = some (.cells #[.bool true, .slice (cutA A c s) (L.length - s) (c - s)] 186 (0, 0))) (k : w.grownBy w' (some g)) : ReadR w' F g (L.drop s) := by
  refine ⟨hg, fun b h1 => Nat.lt_of_lt_of_le (hF b h1) k.size, fun x hx => ha x (List.mem_of_mem_drop hx), cutA A c s, c - s, by rw [List.length_drop]; exact hb, by rw [List.length_drop]; have := hc.1; have := hc.2; omega, fun hp => ?_⟩
  rw [List.length_drop] at hp
  have hp2 : 0 < L.length := Nat.lt_of_lt_of_le hp (Nat.sub_le _ _)
  obtain ⟨b, off, rfl, h1, h2, h3⟩ := h hp2
  clear h
  refine ⟨b, off + s, ?_, h1, h2, fun i hi => ?_⟩
  · rw [cutA, if_neg (by omega)]
    simp only [Option.map_some, Addr.add]
    split <;> simp_all
  · rw [List.length_drop] at hi
    have hi2 : s + i < L.length := by omega
    have e := h3 (s + i) hi2
    rw [← Nat.add_assoc] at e
    rw [k.cell e (by simpa using h2)]
    simp [List.getD_eq_getElem?_getD, List.getElem?_drop]
theorem wend_any (F : Nat → Prop) (g : Nat) (L : List Nat) (w : World) (h : ReadR w F g L) :
    Calls Tryz.prog 114 #[.pointer (some ⟨g, 0, none⟩)] w fun e w' => e = .returned (.int .i64 (endErr L)) ∧ w = w' := by
  obtain ⟨_, _, _, A, c, h4, _, _⟩ := h
  have c0 : w.cell? ⟨g, 0, none⟩ = some (.bool true) := by simp [World.cell?, h4]
  have c1 : w.cell? ⟨g, 1, none⟩ = some (.slice A L.length c) := by simp [World.cell?, h4]
  clear h4
  by_cases hL : L = []
  · have E : Hid (endErr L = 0) := by show _ = _; rw [endErr, if_pos hL]
    have e0 : L.length = 0 := by rw [hL]; rfl
    rw [e0] at c1
    clear hL e0
    go_enter Tryz.func114, Tryz.ntmps114
    go_wp2_with fail
    refine (made_at g true _ c0).mono ?_
    rintro e w1 ⟨rfl, rfl⟩
    go_wp2_with fail
    go_ret
    exact ⟨by rw [E.out]; rfl, rfl⟩
  · have E : Hid (endErr L = 3) := by show _ = _; rw [endErr, if_neg hL]
    have e0 : (0 : Int) < (L.length : Int) := by have := List.length_pos_iff.2 hL; omega
    generalize L.length = n at *
    clear hL
    go_enter Tryz.func114, Tryz.ntmps114
    go_wp2_with fail
    refine (made_at g true _ c0).mono ?_
    rintro e w1 ⟨rfl, rfl⟩
    go_wp2_with fail
    go_ret
    exact ⟨by rw [E.out]; rfl, rfl⟩
theorem wread_out (F : Nat → Prop) (g : Nat) (L : List Nat) (s : Int) (hs : s < 1 ∨ 8 < s) (w : World) (h : ReadR w F g L) :
    Calls Tryz.prog 110 #[.pointer (some ⟨g, 0, none⟩), .int .i64 s] w fun e w' => e = .returned (.tuple #[.int .u64 0, .int .i64 1]) ∧ w = w' := by
  obtain ⟨_, _, _, A, c, h4, _, _⟩ := h
  have c0 : w.cell? ⟨g, 0, none⟩ = some (.bool true) := by simp [World.cell?, h4]
  have H := Lib.hid hs
  clear h4 hs
  go_enter Tryz.func110, Tryz.ntmps110
  go_wp2_with fail
  refine (made_at g true _ c0).mono ?_
  rintro e w1 ⟨rfl, rfl⟩
  go_wp2_with fail
  refine (size_no s H.out _).mono ?_
  rintro e w1 ⟨rfl, rfl⟩
  go_wp2_with fail
  go_ret2
  exact ⟨rfl, rfl⟩
theorem wread_short (F : Nat → Prop) (g : Nat) (L : List Nat) (s : Nat) (h1 : 1 ≤ s) (h8 : s ≤ 8) (hs : L.length < s) (w : World) (h : ReadR w F g L) :
    Calls Tryz.prog 110 #[.pointer (some ⟨g, 0, none⟩), .int .i64 (s : Int)] w fun e w' => e = .returned (.tuple #[.int .u64 0, .int .i64 4]) ∧ ReadR w' F g L ∧ w.grownBy w' (some g) := by
  obtain ⟨q1, q2, q3, A, c, h4, q5, q6⟩ := h
  have c0 : w.cell? ⟨g, 0, none⟩ = some (.bool true) := by simp [World.cell?, h4]
  have H4 := Lib.hid h4
  have Q6 := Lib.hid q6
  have Q3 := Lib.hid q3
  clear h4 q6 q3
  go_enter Tryz.func110, Tryz.ntmps110
  go_wp2_with fail
  refine (made_at g true _ c0).mono ?_
  rintro e w1 ⟨rfl, rfl⟩
  go_wp2_with fail
  refine (size_yes (s : Int) (by omega) (by omega) _).mono ?_
  rintro e w1 ⟨rfl, rfl⟩
  go_wp2_with fail
  refine (step_short g L.length c (s : Int) A (by omega) q5.1 _ H4.out).mono ?_
  rintro e w1 ⟨rfl, b1, k1⟩
  have HB := Lib.hid b1
  have HK := Lib.hid k1
  clear b1 k1 c0
  go_wp2_with fail
  go_ret2
  refine ⟨rfl, ⟨q1, fun b hb => Nat.lt_of_lt_of_le (q2 b hb) HK.out.size, Q3.out, A, c, HB.out, q5, fun hp => ?_⟩, HK.out⟩
  obtain ⟨b, off, e, hb, hne, hc⟩ := Q6.out hp
  exact ⟨b, off, e, hb, hne, fun i hi => HK.out.cell (hc i hi) (by simpa using hne)⟩
theorem or_low (v x : Nat) (hx : x < 256) (h : 256 * v + x < 18446744073709551616) : bits .or .u64 ((v : Int) * 256) (x : Int) = ((256 * v + x : Nat) : Int) := by
  have e : (v : Int) * 256 = ((v * 256 : Nat) : Int) := by omega
  rw [e, u64_or_nat _ _ (by omega) (by omega), nat_join 8 _ _ (by omega) (by omega), Nat.mul_comm]
set_option maxRecDepth 100000 in
set_option maxHeartbeats 1000000 in
theorem wread_in (F : Nat → Prop) (g : Nat) (L : List Nat) (s : Nat) (h1 : 1 ≤ s) (h8 : s ≤ 8) (hs : s ≤ L.length) (w : World) (h : ReadR w F g L) :
    Calls Tryz.prog 110 #[.pointer (some ⟨g, 0, none⟩), .int .i64 (s : Int)] w fun e w' => e = .returned (.tuple #[.int .u64 (valN (L.take s) : Nat), .int .i64 0]) ∧ ReadR w' F g (L.drop s) ∧ w.grownBy w' (some g) := by
  obtain ⟨q1, q2, q3, A, c, h4, q5, q6⟩ := h
  have c0 : w.cell? ⟨g, 0, none⟩ = some (.bool true) := by simp [World.cell?, h4]
  have H4 := Lib.hid h4
  have hq : ∃ b off, A = some ⟨b, off, none⟩ ∧ F b ∧ b ≠ g ∧ ∀ i, i < L.length → w.cell? ⟨b, off + i, none⟩ = some (.int .u8 ((L.getD i 0 : Nat) : Int)) := q6 (by omega)
  have Q6 := Lib.hid q6
  have Q3 := Lib.hid q3
  have HN := Lib.hid q5
  obtain ⟨b, off, rfl, hb, hne, hc⟩ := hq
  have HC := Lib.hid hc
  clear h4 q6 q3 hc
  go_enter Tryz.func110, Tryz.ntmps110
  go_wp2_with fail
  refine (made_at g true _ c0).mono ?_
  rintro e w1 ⟨rfl, rfl⟩
  go_wp2_with fail
  refine (size_yes (s : Int) (by omega) (by omega) _).mono ?_
  rintro e w1 ⟨rfl, rfl⟩
  go_wp2_with fail
  refine (step_in g L.length c s _ hs q5.1 _ H4.out).mono ?_
  rintro e w1 ⟨rfl, b1, k1⟩
  have HB := Lib.hid b1
  have HK := Lib.hid k1
  clear b1 k1 c0
  go_wp2_with fail
  go_loop [8, 28] (fun v i => ∃ j : Nat, j ≤ s ∧ i = .int .i64 j ∧ v = .int .u64 (valN (L.take j) : Nat)) (fun _ i => s - (intOf i).toNat)
  case atStart => exact ⟨0, by omega, rfl, rfl⟩
  case round =>
    obtain ⟨j, hj, rfl, rfl⟩ := hrel
    by_cases hlt : j < s
    · have hc : w1.cell? ⟨b, off + j, none⟩ = some (.int .u8 ((L.getD j 0 : Nat) : Int)) := HK.out.cell (HC.out j (by omega)) (by simpa using hne)
      have hx : L.getD j 0 < 256 := AllB.getD Q3.out j
      have hv := valN_take_succ L j (by omega)
      have h64 := valN_lt64 L (j + 1) Q3.out (by omega)
      generalize L.getD j 0 = x at *
      obtain ⟨v, hvv⟩ : ∃ v, valN (L.take j) = v := ⟨_, rfl⟩
      rw [hv] at h64
      rw [hvv] at hv h64
      rw [hvv]
      have e1 : (0 : Int) ≤ (j : Int) := Int.natCast_nonneg _
      have e2 : (j : Int) < (s : Int) := by omega
      have HV := Lib.hid hv
      clear hv hvv
      have HO := Lib.hid (or_low v x hx h64)
      go_wp2_with fail
      rw [HO.out]
      go_round
      case rel => exact ⟨j + 1, by omega, by go_num, by rw [HV.out]⟩
      case measure => simp [intOf]; omega
    · obtain rfl : s = j := by omega
      go_wp2_with fail
      go_ret2
      exact ⟨rfl, ReadR.step q1 q2 Q3.out HN.out hs Q6.out HB.out HK.out, HK.out⟩
theorem wtake_out (F : Nat → Prop) (g : Nat) (L : List Nat) (s : Int) (hs : s < 0) (w : World) (h : ReadR w F g L) :
    Calls Tryz.prog 112 #[.pointer (some ⟨g, 0, none⟩), .int .i64 s] w fun e w' => e = .returned (.tuple #[.slice none 0 0, .int .i64 1]) ∧ w = w' := by
  obtain ⟨_, _, _, A, c, h4, _, _⟩ := h
  have c0 : w.cell? ⟨g, 0, none⟩ = some (.bool true) := by simp [World.cell?, h4]
  clear h4
  go_enter Tryz.func112, Tryz.ntmps112
  go_wp2_with fail
  refine (made_at g true _ c0).mono ?_
  rintro e w1 ⟨rfl, rfl⟩
  go_wp2_with fail
  go_ret2
  exact ⟨rfl, rfl⟩
theorem wtake_short (F : Nat → Prop) (g : Nat) (L : List Nat) (s : Nat) (hs : L.length < s) (w : World) (h : ReadR w F g L) :
    Calls Tryz.prog 112 #[.pointer (some ⟨g, 0, none⟩), .int .i64 (s : Int)] w fun e w' => e = .returned (.tuple #[.slice none 0 0, .int .i64 4]) ∧ ReadR w' F g L ∧ w.grownBy w' (some g) := by
  obtain ⟨q1, q2, q3, A, c, h4, q5, q6⟩ := h
  have c0 : w.cell? ⟨g, 0, none⟩ = some (.bool true) := by simp [World.cell?, h4]
  have H4 := Lib.hid h4
  have Q6 := Lib.hid q6
  have Q3 := Lib.hid q3
  have e0 : ¬ (s : Int) < 0 := by omega
  clear h4 q6 q3
  go_enter Tryz.func112, Tryz.ntmps112
  go_wp2_with fail
  refine (made_at g true _ c0).mono ?_
  rintro e w1 ⟨rfl, rfl⟩
  go_wp2_with fail
  refine (step_short g L.length c (s : Int) A (by omega) q5.1 _ H4.out).mono ?_
  rintro e w1 ⟨rfl, b1, k1⟩
  have HB := Lib.hid b1
  have HK := Lib.hid k1
  clear b1 k1 c0
  go_wp2_with fail
  go_ret2
  refine ⟨rfl, ⟨q1, fun b hb => Nat.lt_of_lt_of_le (q2 b hb) HK.out.size, Q3.out, A, c, HB.out, q5, fun hp => ?_⟩, HK.out⟩
  obtain ⟨b, off, e, hb, hne, hc⟩ := Q6.out hp
  exact ⟨b, off, e, hb, hne, fun i hi => HK.out.cell (hc i hi) (by simpa using hne)⟩
set_option maxRecDepth 100000 in
theorem wtake_in (F : Nat → Prop) (g : Nat) (L : List Nat) (s : Nat) (hs : s ≤ L.length) (hn : s ≤ 140737488355328) (w : World) (h : ReadR w F g L) :
    Calls Tryz.prog 112 #[.pointer (some ⟨g, 0, none⟩), .int .i64 (s : Int)] w fun e w' => ∃ A n c, e = .returned (.tuple #[.slice A n c, .int .i64 0]) ∧ Own w' w.heap.size 5 A n c (L.take s) ∧
      (ReadR w' F g (L.drop s) ∧ ∀ b, (Value.slice A n c).ownBlock = some b → ¬ F b) ∧ w.grownBy w' (some g) := by
  obtain ⟨q1, q2, q3, A, c, h4, q5, q6⟩ := h
  have c0 : w.cell? ⟨g, 0, none⟩ = some (.bool true) := by simp [World.cell?, h4]
  have H4 := Lib.hid h4
  have Q6 := Lib.hid q6
  have Q3 := Lib.hid q3
  have HN := Lib.hid q5
  have e0 : ¬ (s : Int) < 0 := by omega
  clear h4 q6 q3
  go_enter Tryz.func112, Tryz.ntmps112
  go_wp2_with fail
  refine (made_at g true _ c0).mono ?_
  rintro e w1 ⟨rfl, rfl⟩
  go_wp2_with fail
  refine (step_in g L.length c s _ hs q5.1 _ H4.out).mono ?_
  rintro e w1 ⟨rfl, b1, k1⟩
  have HB := Lib.hid b1
  have HK := Lib.hid k1
  have HR := Lib.hid (ReadR.step q1 q2 Q3.out HN.out hs Q6.out b1 k1)
  have hby : Bytes w1 w1.heap.size A s (L.take s) := by
    have e := (ReadR.bytes Q3.out q2 Q6.out).cut hs
    refine ⟨e.1, e.2.1, fun hp => ?_⟩
    have hp2 : 0 < L.length := by omega
    obtain ⟨b, off, ea, hb, hne, hc⟩ := Q6.out hp2
    refine ⟨b, off, ea, Nat.lt_of_lt_of_le (q2 b hb) k1.size, fun i hi => ?_⟩
    have hi2 : i < L.length := by omega
    rw [k1.cell (hc i hi2) (by simpa using hne)]
    simp [List.getD_eq_getElem?_getD, hi]
  have HY := Lib.hid hby
  clear b1 k1 c0 hby
  go_wp2_with fail
  refine (clone_any _ s c A _ _ HY.out (Nat.le_refl _) hn).mono ?_
  rintro e w2 ⟨A2, n2, c2, rfl, o2, k2⟩
  have HO := Lib.hid o2
  have HK2 := Lib.hid k2
  clear o2 k2
  go_wp2_with fail
  go_ret2
  refine ⟨A2, n2, c2, rfl, HO.out.lower HK.out.size, ⟨HR.out.keep HK2.out, fun b hb hf => ?_⟩, grow_then HK.out HK2.out⟩
  have h1 := HO.out.rowLe b hb
  have h2 := q2 b hf
  have h3 := HK.out.size
  omega
end Go.Proofs.YtifopodnceopjaaGreatDoor
/- The landed frames: a form that is being laid; the closures that lay numbers. -/
namespace Go.Proofs.YtifopodnceopjaaGreatDoor
open Go.RowKit
set_option linter.unusedVariables false
set_option linter.unusedSimpArgs false
/-- A form that is being laid: its cell g, what it has so far. -/
def LayS (w : World) (F : Nat → Prop) (g : Nat) (xs : List Nat) : Prop :=
  F g ∧ (∀ b, F b → b < w.heap.size) ∧ ∃ A c, w.heap[g]? = some (.cells #[.slice A xs.length c] 22 (0, 0)) ∧ Own w (g + 1) 5 A xs.length c xs ∧ ∀ b, (Value.slice A xs.length c).ownBlock = some b → F b
/-- .. goes on. -/
def LayN (F : Nat → Prop) (w w' : World) (g : Nat) (xs : List Nat) : Prop := ∃ F', LayS w' F' g xs ∧ Turned F w w' ∧ ∀ b, F' b → F b ∨ w.heap.size ≤ b
theorem LayN.trans {F F1 : Nat → Prop} {w w1 w2 : World} {g : Nat} {xs : List Nat} (t : Turned F w w1) (hF : ∀ b, F1 b → F b ∨ w.heap.size ≤ b) (h : LayN F1 w1 w2 g xs) : LayN F w w2 g xs := by
  obtain ⟨F', h1, h2, h3⟩ := h
  refine ⟨F', h1, t.trans h2 hF, fun b hb => ?_⟩
  rcases h3 b hb with e | e
  · exact hF b e
  · exact Or.inr (Nat.le_trans t.size e)
theorem LayS.keep {w w' : World} {F : Nat → Prop} {g : Nat} {xs : List Nat} (h : LayS w F g xs) (k : Keep w w') : LayS w' F g xs := by
  obtain ⟨h1, h2, A, c, h3, h4, h5⟩ := h
  exact ⟨h1, fun b hb => Nat.lt_of_lt_of_le (h2 b hb) k.size, A, c, (k.block g (h2 g h1)).trans h3, h4.keep k, h5⟩
theorem LayN.later {F : Nat → Prop} {w w1 w2 : World} {g : Nat} {xs : List Nat} (k : Keep w w1) (h : LayN F w1 w2 g xs) : LayN F w w2 g xs :=
  LayN.trans (Turned.of_keep k) (fun b hb => Or.inl hb) h
theorem num_form (v s : Nat) (s1 : 1 ≤ s) (s8 : s ≤ 8) (hv : v < 256 ^ s) (w : World) :
    Calls Tryz.prog 77 #[.slice none 0 0, .int .u64 (v : Int), .int .i64 (s : Int)] w (NewPair w (formN s v) 0) := by
  have h64 : v < 18446744073709551616 := Nat.lt_of_lt_of_le hv (Nat.pow_le_pow_right (by decide) s8)
  have h := wnum_any w.heap.size 0 0 v (s : Int) none [] w (Bytes.nil _ _ _) (Nat.le_refl _) (by omega) h64
  rw [numOf, numErr, if_neg (by omega), if_neg (by omega), Int.toNat_natCast, laysOf, laysErr, if_pos hv, if_pos hv, List.nil_append] at h
  exact h
set_option maxRecDepth 100000 in
set_option maxHeartbeats 1000000 in
theorem gnum_any (F : Nat → Prop) (g v s : Nat) (xs : List Nat) (w : World) (h : LayS w F g xs) (s1 : 1 ≤ s) (s8 : s ≤ 8) (hv : v < 256 ^ s) (hx : xs.length ≤ 1000000) :
    Calls Tryz.prog 76 #[.int .u64 (v : Int), .int .i64 (s : Int), .pointer (some ⟨g, 0, none⟩)] w fun e w' => e = .returned (.tuple #[]) ∧ LayN F w w' g (xs ++ formN s v) := by
  obtain ⟨hg, hF, A, c, hc, ho, hr⟩ := h
  obtain ⟨n, hn⟩ : ∃ n, xs.length = n := ⟨_, rfl⟩
  rw [hn] at hc ho hr hx
  have HN := Lib.hid (num_form v s s1 s8 hv w)
  have HG := Lib.hid hg
  have HF := Lib.hid hF
  have HC := Lib.hid hc
  have HO := Lib.hid ho
  have HR := Lib.hid hr
  have HL := Lib.hid hn
  clear hg hF hc ho hr hv hn
  go_enter Tryz.func76, Tryz.ntmps76
  go_wp2_with fail
  refine HN.out.mono ?_
  rintro e w1 ⟨A1, n1, c1, rfl, o1, k1⟩
  obtain rfl : s = n1 := (formN_length s v).symm.trans o1.length
  have hgl := HF.out g HG.out
  have hc1 := (k1.block g hgl).trans HC.out
  have d1 := cell_of_one hc1
  have d2 := free_of_one hc1
  have B1 := Lib.hid o1.bytes
  have O1 : Hid (Own w1 (g + 1) 5 A n c xs) := HO.out.keep k1
  have HB : Hid (g + 1 ≤ w1.heap.size) := by show g + 1 ≤ w1.heap.size; have := k1.size; omega
  have K1 := Lib.hid k1
  have HC1 := Lib.hid hc1
  clear o1 k1 hc1
  go_wp2_with (at_builtin; refine wpList_append_bytes rfl _ _ 22 rfl Tryz.underlying22 info5 rfl O1.out rfl B1.out (by omega) HB.out ?_)
  intro A2 c2 w2 h2 hg2 hrow
  have hne : ∀ b, (Value.slice A n c).ownBlock = some b → b ≠ g := fun b hb e => by
    have := O1.out.rowLe b hb
    omega
  have hc2 : w2.heap[g]? = some (.cells #[.slice A n c] 22 (0, 0)) := (hg2.block g (Nat.lt_of_lt_of_le hgl K1.out.size) (fun e => hne g e.symm rfl)).trans HC1.out
  have e1 := cell_of_one hc2
  have e2 := free_of_one hc2
  have hl2 : (xs ++ formN s v).length = n + s := by rw [List.length_append, HL.out, formN_length]
  have T2 : Turned F w w2 := (Turned.of_keep K1.out).trans (Turned.of_grown (F := fun b => (Value.slice A n c).ownBlock = some b) hg2 (fun i e => e)) (fun i e => Or.inl (HR.out i e))
  have hrow2 : ∀ b, (Value.slice A2 (n + s) c2).ownBlock = some b → F b ∨ w.heap.size ≤ b := fun b hb => by
    rcases hrow with e | e
    · exact Or.inl (HR.out b (e ▸ hb))
    · rw [e] at hb
      injection hb with hb
      exact Or.inr (by have := K1.out.size; omega)
  have L3 : Hid (LayN F w (w2.setCell ⟨g, 0, none⟩ (.slice A2 (n + s) c2)) g (xs ++ formN s v)) := by
    have hlt : ∀ b, (Value.slice A2 (n + s) c2).ownBlock = some b → b < w2.heap.size := fun b hb => (h2.1.lt b hb).2
    refine ⟨fun b => b = g ∨ (Value.slice A2 (n + s) c2).ownBlock = some b, ⟨Or.inl rfl, ?_, A2, c2, ?_, ?_, ?_⟩, ?_, ?_⟩
    · rintro b (rfl | hb)
      · simp [World.setCell]; have := T2.size; omega
      · have := hlt b hb
        simpa [World.setCell] using this
    · rw [hl2]; exact one_setCell hc2
    · rw [hl2]
      exact h2.far (by
        intro e
        have := h2.rowLe _ e
        exact absurd this (by show ¬ g + 1 ≤ g; omega)) _
    · rw [hl2]; exact fun b hb => Or.inr hb
    · exact T2.trans (Turned.set (F := fun b => b = g) w2 _ _ rfl) (fun i e => Or.inl (by rw [e]; exact HG.out))
    · rintro b (rfl | hb)
      · exact Or.inl HG.out
      · exact hrow2 b hb
  clear h2 hg2 hrow T2 hrow2 d1 d2 hc2
  go_wp2_with fail
  go_end0
  exact ⟨rfl, L3.out⟩
/-- The closure that lays numbers, in its cell. -/
def ClosC (w : World) (h g : Nat) : Prop := w.cell? ⟨h, 0, none⟩ = some (.func (.func 76) #[] #[.pointer (some ⟨g, 0, none⟩)])
/-- Many numbers. -/
def formsN (s : Nat) (l : List Nat) : List Nat := l.flatMap (formN s)
theorem formsN_length (s : Nat) (l : List Nat) : (formsN s l).length = s * l.length := by
  induction l with
  | nil => rfl
  | cons x l ih =>
    rw [formsN, List.flatMap_cons, List.length_append, formN_length, List.length_cons, show (List.flatMap (formN s) l).length = s * l.length from ih, Nat.mul_add]
    omega
theorem formsN_take (s : Nat) (l : List Nat) (i x : Nat) (h : l[i]? = some x) : formsN s (l.take (i + 1)) = formsN s (l.take i) ++ formN s x := by
  rw [List.take_add_one, h, formsN, formsN, Option.toList_some, List.flatMap_append]
  simp
set_option maxRecDepth 100000 in
set_option maxHeartbeats 1000000 in
theorem gone_any (F : Nat → Prop) (g h b n c : Nat) (l xs : List Nat) (w : World) (hS : LayS w F g xs) (hh : ClosC w h g) (hnh : ¬ F h) (hnb : ¬ F b) (hl : l.length = n) (hv : ∀ x ∈ l, x < 256) (hx : xs.length + n ≤ 1000000)
    (hI : ∀ (i x : Nat), l[i]? = some x → w.cell? ⟨b, i, none⟩ = some (.int .i64 (x : Int))) :
    Calls Tryz.prog 78 #[.slice (some ⟨b, 0, none⟩) n c, .pointer (some ⟨h, 0, none⟩)] w fun e w' => e = .returned (.tuple #[]) ∧ LayN F w w' g (xs ++ formsN 1 l) := by
  have HS := Lib.hid hS
  have HH := Lib.hid hh
  have HV := Lib.hid hv
  have HI := Lib.hid hI
  have NH := Lib.hid hnh
  have NB := Lib.hid hnb
  have HL := Lib.hid hl
  clear hS hh hv hI hnh hnb hl
  go_enter Tryz.func78, Tryz.ntmps78
  go_wp2_with fail
  go_loopw [7] (fun iv wr => ∃ (i : Nat), i ≤ n ∧ iv = .int .i64 i ∧ LayN F w wr g (xs ++ formsN 1 (l.take i))) (fun iv _ => n - (intOf iv).toNat)
  case atStart => exact ⟨0, by omega, rfl, F, by simpa [formsN] using HS.out, Turned.refl _ _, fun b hb => Or.inl hb⟩
  case round =>
    obtain ⟨i, hi, rfl, F', hs, ht, hf⟩ := hrel
    have hlw : (formsN 1 (l.take i)).length ≤ n := by rw [formsN_length, List.length_take, HL.out]; omega
    have HT := Lib.hid ht
    have HFF := Lib.hid hf
    have HS2 := Lib.hid hs
    clear hf hs
    by_cases hlt : i < n
    · obtain ⟨x, hxi⟩ : ∃ x, l[i]? = some x := ⟨_, List.getElem?_eq_getElem (by rw [HL.out]; exact hlt)⟩
      have hx2 := HV.out x (List.mem_of_getElem? hxi)
      have c1 := ht.cell (HI.out i x hxi) NB.out
      have c2 := ht.cell HH.out NH.out
      have e1 : (0 : Int) ≤ (i : Int) := Int.natCast_nonneg _
      have e2 : (i : Int) < (n : Int) := by omega
      have e3 : IntKind.u64.wrap (x : Int) = (x : Int) := IntWalk.u64_in _ (by omega)
      have HN : Hid (Calls Tryz.prog 76 #[.int .u64 (x : Int), .int .i64 1, .pointer (some ⟨g, 0, none⟩)] wr fun e w' => e = .returned (.tuple #[]) ∧ LayN F' wr w' g ((xs ++ formsN 1 (l.take i)) ++ formN 1 x)) :=
        gnum_any F' g x 1 (xs ++ formsN 1 (l.take i)) wr HS2.out (by omega) (by omega) (by omega) (by rw [List.length_append]; omega)
      have HX := Lib.hid (formsN_take 1 l i x hxi)
      clear ht hxi
      go_wp2_with fail
      refine HN.out.mono ?_
      rintro e w2 ⟨rfl, hn2⟩
      have L2 : Hid (LayN F w w2 g (xs ++ formsN 1 (l.take (i + 1)))) := by
        show LayN _ _ _ _ _
        rw [HX.out, ← List.append_assoc]
        exact LayN.trans HT.out HFF.out hn2
      clear hn2 c1 c2
      go_wp2_with fail
      go_round
      case rel => exact ⟨i + 1, by omega, by go_num, L2.out⟩
      case measure => simp [intOf]; omega
    · obtain rfl : i = n := by omega
      have HE : Hid (l.take i = l) := List.take_of_length_le (by rw [HL.out]; exact Nat.le_refl _)
      clear ht
      go_wp2_with fail
      go_end0
      exact ⟨rfl, F', by rw [← HE.out]; exact HS2.out, HT.out, HFF.out⟩
set_option maxRecDepth 100000 in
set_option maxHeartbeats 1000000 in
theorem geight_any (F : Nat → Prop) (g h b n c : Nat) (l xs : List Nat) (w : World) (hS : LayS w F g xs) (hh : ClosC w h g) (hnh : ¬ F h) (hnb : ¬ F b) (hl : l.length = n) (hv : ∀ x ∈ l, x < 18446744073709551616) (hx : xs.length + 8 * n ≤ 1000000)
    (hI : ∀ (i x : Nat), l[i]? = some x → w.cell? ⟨b, i, none⟩ = some (.int .u64 (x : Int))) :
    Calls Tryz.prog 79 #[.slice (some ⟨b, 0, none⟩) n c, .pointer (some ⟨h, 0, none⟩)] w fun e w' => e = .returned (.tuple #[]) ∧ LayN F w w' g (xs ++ formsN 8 l) := by
  have HS := Lib.hid hS
  have HH := Lib.hid hh
  have HV := Lib.hid hv
  have HI := Lib.hid hI
  have NH := Lib.hid hnh
  have NB := Lib.hid hnb
  have HL := Lib.hid hl
  clear hS hh hv hI hnh hnb hl
  go_enter Tryz.func79, Tryz.ntmps79
  go_wp2_with fail
  go_loopw [7] (fun iv wr => ∃ (i : Nat), i ≤ n ∧ iv = .int .i64 i ∧ LayN F w wr g (xs ++ formsN 8 (l.take i))) (fun iv _ => n - (intOf iv).toNat)
  case atStart => exact ⟨0, by omega, rfl, F, by simpa [formsN] using HS.out, Turned.refl _ _, fun b hb => Or.inl hb⟩
  case round =>
    obtain ⟨i, hi, rfl, F', hs, ht, hf⟩ := hrel
    have hlw : (formsN 8 (l.take i)).length ≤ 8 * n := by rw [formsN_length, List.length_take, HL.out]; omega
    have HT := Lib.hid ht
    have HFF := Lib.hid hf
    have HS2 := Lib.hid hs
    clear hf hs
    by_cases hlt : i < n
    · obtain ⟨x, hxi⟩ : ∃ x, l[i]? = some x := ⟨_, List.getElem?_eq_getElem (by rw [HL.out]; exact hlt)⟩
      have hx2 := HV.out x (List.mem_of_getElem? hxi)
      have c1 := ht.cell (HI.out i x hxi) NB.out
      have c2 := ht.cell HH.out NH.out
      have e1 : (0 : Int) ≤ (i : Int) := Int.natCast_nonneg _
      have e2 : (i : Int) < (n : Int) := by omega
      have HN : Hid (Calls Tryz.prog 76 #[.int .u64 (x : Int), .int .i64 8, .pointer (some ⟨g, 0, none⟩)] wr fun e w' => e = .returned (.tuple #[]) ∧ LayN F' wr w' g ((xs ++ formsN 8 (l.take i)) ++ formN 8 x)) :=
        gnum_any F' g x 8 (xs ++ formsN 8 (l.take i)) wr HS2.out (by omega) (by omega) (by omega) (by rw [List.length_append]; omega)
      have HX := Lib.hid (formsN_take 8 l i x hxi)
      clear ht hxi
      go_wp2_with fail
      refine HN.out.mono ?_
      rintro e w2 ⟨rfl, hn2⟩
      have L2 : Hid (LayN F w w2 g (xs ++ formsN 8 (l.take (i + 1)))) := by
        show LayN _ _ _ _ _
        rw [HX.out, ← List.append_assoc]
        exact LayN.trans HT.out HFF.out hn2
      clear hn2 c1 c2
      go_wp2_with fail
      go_round
      case rel => exact ⟨i + 1, by omega, by go_num, L2.out⟩
      case measure => simp [intOf]; omega
    · obtain rfl : i = n := by omega
      have HE : Hid (l.take i = l) := List.take_of_length_le (by rw [HL.out]; exact Nat.le_refl _)
      clear ht
      go_wp2_with fail
      go_end0
      exact ⟨rfl, F', by rw [← HE.out]; exact HS2.out, HT.out, HFF.out⟩
end Go.Proofs.YtifopodnceopjaaGreatDoor
/- Frames plainly: which may be, their forms, there and back (layer 12). -/
namespace Go.Proofs.YtifopodnceopjaaGreatDoor.Fr
open Crc
/-- A frame, as data. -/
structure FrV where
  kind : Int
  src : Int
  dst : Int
  ep : Nat
  life : Nat
  flow : Int
  gen : Nat
  seq : Nat
  ford : Nat
  co : List Nat
  pay : List Nat
  ranks : List (Nat × Int)
  tep : Nat
  up : List Bool
  hops : List (List (Int × Int))
theorem FrV.same {a b : FrV} : (((a.kind = b.kind ∧ a.src = b.src ∧ a.dst = b.dst) ∧ a.ep = b.ep ∧ a.life = b.life ∧ a.flow = b.flow) ∧ (a.gen = b.gen ∧ a.seq = b.seq ∧ a.ford = b.ford) ∧ (a.co = b.co ∧ a.pay = b.pay ∧ a.ranks = b.ranks) ∧ a.tep = b.tep ∧ a.up = b.up ∧ a.hops = b.hops) ↔ a = b := by
  constructor
  · intro h
    cases a; cases b
    simp only at h
    obtain ⟨⟨⟨rfl, rfl, rfl⟩, rfl, rfl, rfl⟩, ⟨rfl, rfl, rfl⟩, ⟨rfl, rfl, rfl⟩, rfl, rfl, rfl⟩ := h
    rfl
  · rintro rfl
    exact ⟨⟨⟨rfl, rfl, rfl⟩, rfl, rfl, rfl⟩, ⟨rfl, rfl, rfl⟩, ⟨rfl, rfl, rfl⟩, rfl, rfl, rfl⟩
instance : DecidableEq FrV := fun _ _ => decidable_of_iff _ FrV.same
/-- The frame of nothing. -/
def noF : FrV := ⟨0, 0, 0, 0, 0, 0, 0, 0, 0, [], [], [], 0, [], []⟩
/-- Nothing but what its Kind has. -/
def bareF (f : FrV) : FrV :=
  ⟨f.kind, f.src, f.dst, f.ep, f.life, if f.kind = 1 ∨ f.kind = 2 ∨ f.kind = 6 then f.flow else 0, if f.kind = 1 ∨ f.kind = 2 ∨ f.kind = 6 then f.gen else 0,
    if 1 ≤ f.kind ∧ f.kind ≤ 4 then f.seq else 0, if f.kind = 3 then f.ford else 0, if f.kind = 1 then f.co else [], if f.kind = 1 then f.pay else [],
    if f.kind = 2 then f.ranks else [], if f.kind = 5 then f.tep else 0, if f.kind = 5 then f.up else [], if f.kind = 5 then f.hops else []⟩
/-- An edge between two of n nodes. -/
def EdgeOk (n : Nat) (e : Int × Int) : Prop := 0 ≤ e.1 ∧ e.1 < n ∧ 0 ≤ e.2 ∧ e.2 < n ∧ e.1 ≠ e.2
instance (n : Nat) (e : Int × Int) : Decidable (EdgeOk n e) := inferInstanceAs (Decidable (_ ∧ _))
def TopoOk (tep : Nat) (up : List Bool) (hops : List (List (Int × Int))) : Prop :=
  1 ≤ tep ∧ tep ≤ 1125899906842624 ∧ 1 ≤ up.length ∧ up.length ≤ 64 ∧ 1 ≤ hops.length ∧ hops.length ≤ 4 ∧ ∀ l ∈ hops, l.length ≤ 128 ∧ ∀ e ∈ l, EdgeOk up.length e
instance (tep : Nat) (up : List Bool) (hops : List (List (Int × Int))) : Decidable (TopoOk tep up hops) := inferInstanceAs (Decidable (_ ∧ _))
/-- Ranks: p is the generation ahead of the first. -/
def RankOk (g : Nat) : Option Nat → List (Nat × Int) → Prop
  | _, [] => True
  | p, r :: l => (g ≤ r.1 ∧ r.1 < g + 16 ∧ r.1 < 1099511627776 ∧ 1 ≤ r.2 ∧ r.2 ≤ 255 ∧ (match p with | none => True | some q => q < r.1)) ∧ RankOk g (some r.1) l
instance RankOk.dec (g : Nat) : ∀ (p : Option Nat) (l : List (Nat × Int)), Decidable (RankOk g p l)
  | _, [] => isTrue trivial
  | none, r :: l => by
    have := RankOk.dec g (some r.1) l
    unfold RankOk
    exact inferInstance
  | some q, r :: l => by
    have := RankOk.dec g (some r.1) l
    unfold RankOk
    exact inferInstance
/-- Which frames may be. -/
structure MayF (f : FrV) : Prop where
  k1 : 1 ≤ f.kind
  k6 : f.kind ≤ 6
  s0 : 0 ≤ f.src
  s63 : f.src ≤ 63
  d0 : 0 ≤ f.dst
  d63 : f.dst ≤ 63
  ep : f.ep ≤ 1125899906842624
  life : f.life ≤ 1125899906842624
  bare : bareF f = f
  member : f.kind = 5 → f.src = f.dst ∧ f.life = 0 ∧ TopoOk f.tep f.up f.hops
  other : f.kind ≠ 5 → f.src ≠ f.dst ∧ 1 ≤ f.life ∧ 0 ≤ f.flow ∧ f.flow ≤ 3 ∧ f.seq ≤ 1125899906842624 ∧ f.ford ≤ 1125899906842624 ∧ f.gen ≤ 1099511627776
  data : f.kind = 1 → f.gen < 1099511627776 ∧ 1 ≤ f.seq ∧ 1 ≤ f.co.length ∧ f.co.length < 256 ∧ 1 ≤ f.pay.length ∧ f.pay.length < 65536
  feed : f.kind = 2 → RankOk f.gen none f.ranks ∧ 1 ≤ f.seq
  cred : f.kind = 3 → 1 ≤ f.ford
/-- Forms. -/
def rankForm (r : Nat × Int) : List Nat := formN 8 r.1 ++ formN 1 r.2.toNat
def edgeForm (e : Int × Int) : List Nat := formN 1 e.1.toNat ++ formN 1 e.2.toNat
def hopForm (l : List (Int × Int)) : List Nat := formN 1 l.length ++ l.flatMap edgeForm
def upForm (b : Bool) : Nat := if b then 1 else 0
def dataForm (f : FrV) : List Nat := formN 1 f.flow.toNat ++ (formN 8 f.gen ++ (formN 8 f.seq ++ (formN 1 f.co.length ++ (f.co ++ (formN 2 f.pay.length ++ f.pay)))))
def feedForm (f : FrV) : List Nat := formN 1 f.flow.toNat ++ (formN 8 f.gen ++ (formN 8 f.seq ++ (formN 1 f.ranks.length ++ f.ranks.flatMap rankForm)))
def topoForm (f : FrV) : List Nat := formN 8 f.tep ++ (formN 1 f.up.length ++ (f.up.map upForm ++ (formN 1 f.hops.length ++ f.hops.flatMap hopForm)))
def restForm (f : FrV) : List Nat :=
  if f.kind = 1 then dataForm f
  else if f.kind = 2 then feedForm f
  else if f.kind = 3 then formN 8 f.seq ++ formN 8 f.ford
  else if f.kind = 4 then formN 8 f.seq
  else if f.kind = 5 then topoForm f
  else if f.kind = 6 then formN 1 f.flow.toNat ++ formN 8 f.gen
  else []
def formF (f : FrV) : List Nat := formN 1 f.kind.toNat ++ (formN 1 f.src.toNat ++ (formN 1 f.dst.toNat ++ (formN 8 f.ep ++ (formN 8 f.life ++ restForm f))))
/-- Readers. -/
def Pa (α : Type) := List Nat → Option (α × List Nat)
def Pa.bind {α β : Type} (p : Pa α) (q : α → Pa β) : Pa β := fun l => match p l with
  | some (a, r) => q a r
  | none => none
def Pa.ret {α : Type} (a : α) : Pa α := fun l => some (a, l)
def numP (s : Nat) : Pa Nat := fun l => if s ≤ l.length then some (valN (l.take s), l.drop s) else none
def takeP (n : Nat) : Pa (List Nat) := fun l => if n ≤ l.length then some (l.take n, l.drop n) else none
def manyP {α : Type} (p : Pa α) : Nat → Pa (List α)
  | 0 => Pa.ret []
  | n + 1 => p.bind fun a => (manyP p n).bind fun az => Pa.ret (a :: az)
def rankP : Pa (Nat × Int) := (numP 8).bind fun g => (numP 1).bind fun r => Pa.ret (g, (r : Int))
def edgeP : Pa (Int × Int) := (numP 1).bind fun a => (numP 1).bind fun b => Pa.ret ((a : Int), (b : Int))
def hopP : Pa (List (Int × Int)) := (numP 1).bind fun n => manyP edgeP n
def upQ (l : List Nat) : Pa (List Bool) := fun t => if l.all (· ≤ 1) = true then some (l.map (· == 1), t) else none
def upP (n : Nat) : Pa (List Bool) := (takeP n).bind upQ
def Pa.fail {α : Type} : Pa α := fun _ => none
def dataP (s d ep life : Nat) : Pa FrV := (numP 1).bind fun fl => (numP 8).bind fun g => (numP 8).bind fun q => (numP 1).bind fun n => (takeP n).bind fun co => (numP 2).bind fun m => (takeP m).bind fun pay =>
  Pa.ret ⟨1, s, d, ep, life, fl, g, q, 0, co, pay, [], 0, [], []⟩
def feedP (s d ep life : Nat) : Pa FrV := (numP 1).bind fun fl => (numP 8).bind fun g => (numP 8).bind fun q => (numP 1).bind fun n => (manyP rankP n).bind fun ranks =>
  Pa.ret ⟨2, s, d, ep, life, fl, g, q, 0, [], [], ranks, 0, [], []⟩
def credP (s d ep life : Nat) : Pa FrV := (numP 8).bind fun q => (numP 8).bind fun x => Pa.ret ⟨3, s, d, ep, life, 0, 0, q, x, [], [], [], 0, [], []⟩
def probP (s d ep life : Nat) : Pa FrV := (numP 8).bind fun q => Pa.ret ⟨4, s, d, ep, life, 0, 0, q, 0, [], [], [], 0, [], []⟩
def topoP (s d ep life : Nat) : Pa FrV := (numP 8).bind fun te => (numP 1).bind fun n => (upP n).bind fun up => (numP 1).bind fun m => (manyP hopP m).bind fun hops =>
  Pa.ret ⟨5, s, d, ep, life, 0, 0, 0, 0, [], [], [], te, up, hops⟩
def closP (s d ep life : Nat) : Pa FrV := (numP 1).bind fun fl => (numP 8).bind fun g => Pa.ret ⟨6, s, d, ep, life, fl, g, 0, 0, [], [], [], 0, [], []⟩
def restP (k s d ep life : Nat) : Pa FrV :=
  if k = 1 then dataP s d ep life else if k = 2 then feedP s d ep life else if k = 3 then credP s d ep life else if k = 4 then probP s d ep life
  else if k = 5 then topoP s d ep life else if k = 6 then closP s d ep life else Pa.fail
theorem rest_1 (s d ep life : Nat) : restP 1 s d ep life = dataP s d ep life := if_pos rfl
theorem rest_2 (s d ep life : Nat) : restP 2 s d ep life = feedP s d ep life := by unfold restP; rw [if_neg (by decide), if_pos rfl]
theorem rest_3 (s d ep life : Nat) : restP 3 s d ep life = credP s d ep life := by unfold restP; rw [if_neg (by decide), if_neg (by decide), if_pos rfl]
theorem rest_4 (s d ep life : Nat) : restP 4 s d ep life = probP s d ep life := by unfold restP; rw [if_neg (by decide), if_neg (by decide), if_neg (by decide), if_pos rfl]
theorem rest_5 (s d ep life : Nat) : restP 5 s d ep life = topoP s d ep life := by unfold restP; rw [if_neg (by decide), if_neg (by decide), if_neg (by decide), if_neg (by decide), if_pos rfl]
theorem rest_6 (s d ep life : Nat) : restP 6 s d ep life = closP s d ep life := by unfold restP; rw [if_neg (by decide), if_neg (by decide), if_neg (by decide), if_neg (by decide), if_neg (by decide), if_pos rfl]
theorem restForm_1 {f : FrV} (h : f.kind = 1) : restForm f = dataForm f := if_pos h
theorem restForm_2 {f : FrV} (h : f.kind = 2) : restForm f = feedForm f := by unfold restForm; rw [h]; rfl
theorem restForm_3 {f : FrV} (h : f.kind = 3) : restForm f = formN 8 f.seq ++ formN 8 f.ford := by unfold restForm; rw [h]; rfl
theorem restForm_4 {f : FrV} (h : f.kind = 4) : restForm f = formN 8 f.seq := by unfold restForm; rw [h]; rfl
theorem restForm_5 {f : FrV} (h : f.kind = 5) : restForm f = topoForm f := by unfold restForm; rw [h]; rfl
theorem restForm_6 {f : FrV} (h : f.kind = 6) : restForm f = formN 1 f.flow.toNat ++ formN 8 f.gen := by unfold restForm; rw [h]; rfl
theorem rest_fail {k s d ep life : Nat} (h : k = 0 ∨ 6 < k) : restP k s d ep life = Pa.fail := by
  unfold restP
  rw [if_neg (by omega), if_neg (by omega), if_neg (by omega), if_neg (by omega), if_neg (by omega), if_neg (by omega)]
def parseF : Pa FrV := (numP 1).bind fun k => (numP 1).bind fun s => (numP 1).bind fun d => (numP 8).bind fun ep => (numP 8).bind fun life => restP k s d ep life
section
variable {α β : Type}
theorem bind_some {p : Pa α} {q : α → Pa β} {l r : List Nat} {a : α} (h : p l = some (a, r)) : p.bind q l = q a r := by unfold Pa.bind; rw [h]
end
theorem num_rd {s n : Nat} (t : List Nat) (h : n < 256 ^ s) : numP s (formN s n ++ t) = some (n, t) := by
  unfold numP
  rw [if_pos (by rw [List.length_append, formN_length]; omega), List.take_left' (formN_length s n), List.drop_left' (formN_length s n), valN_form, Nat.mod_eq_of_lt h]
theorem take_rd {xs : List Nat} (t : List Nat) : takeP xs.length (xs ++ t) = some (xs, t) := by
  unfold takeP
  rw [if_pos (by rw [List.length_append]; omega), List.take_left' rfl, List.drop_left' rfl]
section
variable {α : Type}
theorem many_rd {p : Pa α} {f : α → List Nat} {ok : α → Prop} (hp : ∀ a t, ok a → p (f a ++ t) = some (a, t)) : ∀ (l : List α) (t : List Nat), (∀ a ∈ l, ok a) → manyP p l.length (l.flatMap f ++ t) = some (l, t)
  | [], t, _ => rfl
  | a :: l, t, h => by
    rw [List.flatMap_cons, List.append_assoc, List.length_cons, manyP, bind_some (hp a _ (h a (by simp))), bind_some (many_rd hp l t fun x hx => h x (by simp [hx]))]
    rfl
end
theorem rank_rd (r : Nat × Int) (t : List Nat) (h : r.1 < 256 ^ 8 ∧ 0 ≤ r.2 ∧ r.2 < 256) : rankP (rankForm r ++ t) = some (r, t) := by
  obtain ⟨g, v⟩ := r
  simp only at h
  rw [rankForm, List.append_assoc, rankP, bind_some (num_rd _ h.1), bind_some (num_rd _ (by simp only; omega))]
  simp only [Pa.ret]
  rw [Int.toNat_of_nonneg h.2.1]
theorem edge_rd (e : Int × Int) (t : List Nat) (h : 0 ≤ e.1 ∧ e.1 < 256 ∧ 0 ≤ e.2 ∧ e.2 < 256) : edgeP (edgeForm e ++ t) = some (e, t) := by
  obtain ⟨a, b⟩ := e
  simp only at h
  rw [edgeForm, List.append_assoc, edgeP, bind_some (num_rd _ (by simp only; omega)), bind_some (num_rd _ (by simp only; omega))]
  simp only [Pa.ret]
  rw [Int.toNat_of_nonneg h.1, Int.toNat_of_nonneg h.2.2.1]
theorem hop_rd (l : List (Int × Int)) (t : List Nat) (h : l.length < 256 ∧ ∀ e ∈ l, 0 ≤ e.1 ∧ e.1 < 256 ∧ 0 ≤ e.2 ∧ e.2 < 256) : hopP (hopForm l ++ t) = some (l, t) := by
  rw [hopForm, List.append_assoc, hopP, bind_some (num_rd _ h.1), many_rd edge_rd l t h.2]
theorem up_rd (u : List Bool) (t : List Nat) : upP u.length (u.map upForm ++ t) = some (u, t) := by
  have h : takeP u.length (u.map upForm ++ t) = some (u.map upForm, t) := by
    have := take_rd (xs := u.map upForm) t
    rwa [List.length_map] at this
  rw [upP, bind_some h, upQ, if_pos]
  · simp only [List.map_map]
    congr 2
    conv => rhs; rw [← List.map_id u]
    exact List.map_congr_left fun b _ => by cases b <;> rfl
  · rw [List.all_eq_true]
    intro x hx
    obtain ⟨b, _, rfl⟩ := List.mem_map.1 hx
    cases b <;> rfl
end Go.Proofs.YtifopodnceopjaaGreatDoor.Fr
/- Frames plainly: there and back. -/
namespace Go.Proofs.YtifopodnceopjaaGreatDoor.Fr
open Crc
theorem rank_bounds (g : Nat) : ∀ (p : Option Nat) (l : List (Nat × Int)), RankOk g p l → ∀ r ∈ l, r.1 < 256 ^ 8 ∧ 0 ≤ r.2 ∧ r.2 < 256
  | _, [], _, r, hr => by simp at hr
  | p, x :: l, h, r, hr => by
    obtain ⟨⟨_, _, a, b, c, _⟩, h2⟩ := h
    rcases List.mem_cons.1 hr with rfl | hr
    · exact ⟨by omega, by omega, by omega⟩
    · exact rank_bounds g _ l h2 r hr
/-- No more than sixteen ranks. -/
theorem rank_count (g : Nat) : ∀ (q : Nat) (l : List (Nat × Int)), RankOk g (some q) l → g ≤ q → q < g + 16 → l.length + (q - g) < 16
  | q, [], _, h1, h2 => by simp; omega
  | q, x :: l, h, h1, h2 => by
    obtain ⟨⟨a, b, _, _, _, c⟩, h2⟩ := h
    have c : q < x.1 := c
    have := rank_count g x.1 l h2 a b
    rw [List.length_cons]; omega
theorem rank_few (g : Nat) (l : List (Nat × Int)) (h : RankOk g none l) : l.length ≤ 16 := by
  cases l with
  | nil => simp
  | cons x l =>
    obtain ⟨⟨a, b, _⟩, h2⟩ := h
    have := rank_count g x.1 l h2 a b
    rw [List.length_cons]; omega
set_option maxHeartbeats 1000000 in
/-- A frame's form, read, is the frame; what is behind stays. -/
theorem parse_rd {f : FrV} (h : MayF f) (t : List Nat) : parseF (formF f ++ t) = some (f, t) := by
  obtain ⟨k, s, d, ep, lf, fl, g, q, x, co, pay, rk, te, up, hops⟩ := f
  obtain ⟨h1, h2, h3, h4, h5, h6, h7, h8, hb, hm, ho, hd, hf, hc⟩ := h
  dsimp only at *
  obtain ⟨k, rfl⟩ : ∃ n : Nat, k = n := ⟨k.toNat, by omega⟩
  obtain ⟨s, rfl⟩ : ∃ n : Nat, s = n := ⟨s.toNat, by omega⟩
  obtain ⟨d, rfl⟩ : ∃ n : Nat, d = n := ⟨d.toNat, by omega⟩
  simp only [formF, List.append_assoc, Int.toNat_natCast]
  rw [parseF, bind_some (num_rd _ (by omega)), bind_some (num_rd _ (by omega)), bind_some (num_rd _ (by omega)), bind_some (num_rd _ (by omega)), bind_some (num_rd _ (by omega))]
  rcases (show k = 1 ∨ k = 2 ∨ k = 3 ∨ k = 4 ∨ k = 5 ∨ k = 6 by omega) with rfl | rfl | rfl | rfl | rfl | rfl
  · have ho := ho (by decide)
    have hd := hd rfl
    obtain ⟨fl, rfl⟩ : ∃ n : Nat, fl = n := ⟨fl.toNat, by omega⟩
    simp [bareF] at hb
    obtain ⟨rfl, rfl, rfl, rfl, rfl⟩ := hb
    rw [rest_1, restForm_1 rfl]
    simp only [dataForm, Int.toNat_natCast, List.append_assoc]
    rw [dataP, bind_some (num_rd _ (by omega)), bind_some (num_rd _ (by omega)), bind_some (num_rd _ (by omega)), bind_some (num_rd _ (by omega)), bind_some (take_rd _), bind_some (num_rd _ (by omega)), bind_some (take_rd _)]
    rfl
  · have ho := ho (by decide)
    have hf := hf rfl
    obtain ⟨fl, rfl⟩ : ∃ n : Nat, fl = n := ⟨fl.toNat, by omega⟩
    simp [bareF] at hb
    obtain ⟨rfl, rfl, rfl, rfl, rfl, rfl⟩ := hb
    have hl := rank_few g rk hf.1
    rw [rest_2, restForm_2 rfl]
    simp only [feedForm, Int.toNat_natCast, List.append_assoc]
    rw [feedP, bind_some (num_rd _ (by omega)), bind_some (num_rd _ (by omega)), bind_some (num_rd _ (by omega)), bind_some (num_rd _ (by omega)), bind_some (many_rd rank_rd rk t (rank_bounds g _ rk hf.1))]
    rfl
  · have ho := ho (by decide)
    simp [bareF] at hb
    obtain ⟨rfl, rfl, rfl, rfl, rfl, rfl, rfl, rfl⟩ := hb
    rw [rest_3, restForm_3 rfl]
    simp only [List.append_assoc]
    rw [credP, bind_some (num_rd _ (by omega)), bind_some (num_rd _ (by omega))]
    rfl
  · have ho := ho (by decide)
    simp [bareF] at hb
    obtain ⟨rfl, rfl, rfl, rfl, rfl, rfl, rfl, rfl, rfl⟩ := hb
    rw [rest_4, restForm_4 rfl, probP]
    dsimp only
    rw [bind_some (num_rd _ (by omega))]
    rfl
  · have hm := hm rfl
    simp [bareF] at hb
    obtain ⟨rfl, rfl, rfl, rfl, rfl, rfl, rfl⟩ := hb
    obtain ⟨a1, a2, a3, a4, a5, a6, a7⟩ := hm.2.2
    rw [rest_5, restForm_5 rfl]
    simp only [topoForm, List.append_assoc]
    rw [topoP, bind_some (num_rd _ (by omega)), bind_some (num_rd _ (by omega)), bind_some (up_rd up _), bind_some (num_rd _ (by omega)), bind_some (many_rd hop_rd hops t fun l hl => ⟨by have := (a7 l hl).1; omega, fun e he => by
      obtain ⟨b1, b2, b3, b4, _⟩ := (a7 l hl).2 e he
      omega⟩)]
    rfl
  · have ho := ho (by decide)
    obtain ⟨fl, rfl⟩ : ∃ n : Nat, fl = n := ⟨fl.toNat, by omega⟩
    simp [bareF] at hb
    obtain ⟨rfl, rfl, rfl, rfl, rfl, rfl, rfl, rfl⟩ := hb
    rw [rest_6, restForm_6 rfl]
    simp only [Int.toNat_natCast, List.append_assoc]
    rw [closP, bind_some (num_rd _ (by omega)), bind_some (num_rd _ (by omega))]
    rfl
end Go.Proofs.YtifopodnceopjaaGreatDoor.Fr
/- Frames plainly: what Put and Take tell; sizes; unlike frames; what a line turned. -/
namespace Go.Proofs.YtifopodnceopjaaGreatDoor.Fr
open Crc
theorem MayF.iff {f : FrV} : (((1 ≤ f.kind ∧ f.kind ≤ 6) ∧ (0 ≤ f.src ∧ f.src ≤ 63) ∧ 0 ≤ f.dst ∧ f.dst ≤ 63) ∧ (f.ep ≤ 1125899906842624 ∧ f.life ≤ 1125899906842624 ∧ bareF f = f) ∧
    ((f.kind = 5 → f.src = f.dst ∧ f.life = 0 ∧ TopoOk f.tep f.up f.hops) ∧
    (f.kind ≠ 5 → f.src ≠ f.dst ∧ 1 ≤ f.life ∧ 0 ≤ f.flow ∧ f.flow ≤ 3 ∧ f.seq ≤ 1125899906842624 ∧ f.ford ≤ 1125899906842624 ∧ f.gen ≤ 1099511627776) ∧
    (f.kind = 1 → f.gen < 1099511627776 ∧ 1 ≤ f.seq ∧ 1 ≤ f.co.length ∧ f.co.length < 256 ∧ 1 ≤ f.pay.length ∧ f.pay.length < 65536) ∧
    (f.kind = 2 → RankOk f.gen none f.ranks ∧ 1 ≤ f.seq) ∧ (f.kind = 3 → 1 ≤ f.ford))) ↔ MayF f :=
  ⟨fun ⟨⟨⟨a1, a2⟩, ⟨a3, a4⟩, a5, a6⟩, ⟨b1, b2, b3⟩, c1, c2, c3, c4, c5⟩ => ⟨a1, a2, a3, a4, a5, a6, b1, b2, b3, c1, c2, c3, c4, c5⟩,
   fun ⟨a1, a2, a3, a4, a5, a6, b1, b2, b3, c1, c2, c3, c4, c5⟩ => ⟨⟨⟨a1, a2⟩, ⟨a3, a4⟩, a5, a6⟩, ⟨b1, b2, b3⟩, c1, c2, c3, c4, c5⟩⟩
instance (f : FrV) : Decidable (MayF f) := decidable_of_iff _ MayF.iff
/-- A form's frame, if it is one's that may be. -/
def readF (b : List Nat) : Option FrV := match parseF b with
  | some (f, []) => if MayF f then some f else none
  | _ => none
theorem read_form {f : FrV} (h : MayF f) : readF (formF f) = some f := by
  have := parse_rd h []
  rw [List.append_nil] at this
  rw [readF, this]
  exact if_pos h
/-- What Put tells. -/
def putE (f : FrV) : Int := if MayF f then 0 else 1
def putV (f : FrV) : List Nat := if MayF f then sealN (formF f) else []
/-- What Take tells. -/
def tkE (b : List Nat) : Nat := if 70000 < b.length then 3 else if openErr b = 0 then (if (readF (openVal b)).isSome = true then 0 else 5) else openErr b
def tkV (b : List Nat) : FrV := if tkE b = 0 then (readF (openVal b)).getD noF else noF
/-- Bytes. -/
def BytesF (f : FrV) : Prop := AllB f.co ∧ AllB f.pay
theorem all_flat {α : Type} {l : List α} {g : α → List Nat} (h : ∀ a ∈ l, AllB (g a)) : AllB (l.flatMap g) := fun x hx => by
  obtain ⟨a, ha, hx⟩ := List.mem_flatMap.1 hx
  exact h a ha x hx
theorem edge_all (e : Int × Int) : AllB (edgeForm e) := (formN_all _ _).append (formN_all _ _)
theorem form_all {f : FrV} (h : BytesF f) : AllB (formF f) := by
  refine (formN_all _ _).append ((formN_all _ _).append ((formN_all _ _).append ((formN_all _ _).append ((formN_all _ _).append ?_))))
  unfold restForm
  split
  · exact (formN_all _ _).append ((formN_all _ _).append ((formN_all _ _).append ((formN_all _ _).append (h.1.append ((formN_all _ _).append h.2)))))
  · split
    · exact (formN_all _ _).append ((formN_all _ _).append ((formN_all _ _).append ((formN_all _ _).append (all_flat fun r _ => (formN_all _ _).append (formN_all _ _)))))
    · split
      · exact (formN_all _ _).append (formN_all _ _)
      · split
        · exact formN_all _ _
        · split
          · refine (formN_all _ _).append ((formN_all _ _).append (AllB.append (fun x hx => ?_) ((formN_all _ _).append (all_flat fun l _ => (formN_all _ _).append (all_flat fun e _ => edge_all e)))))
            obtain ⟨b, _, rfl⟩ := List.mem_map.1 hx
            cases b <;> decide
          · split
            · exact (formN_all _ _).append (formN_all _ _)
            · exact fun x hx => by simp at hx
/-- How many edges. -/
def edgesN (hops : List (List (Int × Int))) : Nat := (hops.map List.length).sum
theorem len_const {α : Type} {g : α → List Nat} {c : Nat} : ∀ l : List α, (∀ a ∈ l, (g a).length = c) → (l.flatMap g).length = c * l.length
  | [], _ => rfl
  | a :: l, h => by
    rw [List.flatMap_cons, List.length_append, h a (by simp), len_const l fun x hx => h x (by simp [hx]), List.length_cons, Nat.mul_succ, Nat.add_comm]
theorem rank_len (r : Nat × Int) : (rankForm r).length = 9 := by simp [rankForm, formN_length]
theorem edge_len (e : Int × Int) : (edgeForm e).length = 2 := by simp [edgeForm, formN_length]
theorem hop_len (l : List (Int × Int)) : (hopForm l).length = 1 + 2 * l.length := by
  rw [hopForm, List.length_append, formN_length, len_const l fun e _ => edge_len e]
theorem hops_len : ∀ hops : List (List (Int × Int)), (hops.flatMap hopForm).length = hops.length + 2 * edgesN hops
  | [] => rfl
  | l :: r => by
    rw [List.flatMap_cons, List.length_append, hop_len, hops_len r, List.length_cons]
    simp only [edgesN, List.map_cons, List.sum_cons]
    omega
theorem edges_le {c : Nat} : ∀ hops : List (List (Int × Int)), (∀ l ∈ hops, l.length ≤ c) → edgesN hops ≤ c * hops.length
  | [], _ => by simp [edgesN]
  | l :: r, h => by
    have h1 := h l (by simp)
    have h2 := edges_le r fun x hx => h x (by simp [hx])
    simp only [edgesN, List.map_cons, List.sum_cons, List.length_cons, Nat.mul_succ] at *
    omega
/-- How many bytes a frame's form has. -/
def sizeF (f : FrV) : Nat := 19 + (if f.kind = 1 then 20 + f.co.length + f.pay.length else if f.kind = 2 then 18 + 9 * f.ranks.length else if f.kind = 3 then 16 else if f.kind = 4 then 8
  else if f.kind = 5 then 10 + f.up.length + (f.hops.length + 2 * edgesN f.hops) else if f.kind = 6 then 9 else 0)
theorem form_len (f : FrV) : (formF f).length = sizeF f := by
  have h : (formF f).length = 19 + (restForm f).length := by simp only [formF, List.length_append, formN_length]; omega
  rw [h, sizeF]
  congr 1
  unfold restForm
  split
  · simp only [dataForm, List.length_append, formN_length]; omega
  · split
    · simp only [feedForm, List.length_append, formN_length, len_const f.ranks fun r _ => rank_len r]; omega
    · split
      · simp only [List.length_append, formN_length]
      · split
        · simp only [formN_length]
        · split
          · simp only [topoForm, List.length_append, formN_length, List.length_map, hops_len]; omega
          · split
            · simp only [List.length_append, formN_length]
            · rfl
theorem size_le {f : FrV} (h : MayF f) : sizeF f ≤ 69000 := by
  unfold sizeF
  split
  · rename_i hk
    have := h.data hk; omega
  · split
    · rename_i hk
      have := rank_few _ _ (h.feed hk).1
      omega
    · split
      · omega
      · split
        · omega
        · split
          · rename_i hk
            obtain ⟨a1, a2, a3, a4, a5, a6, a7⟩ := (h.member hk).2.2
            have h1 := edges_le (c := 128) f.hops fun l hl => (a7 l hl).1
            have h2 : 128 * f.hops.length ≤ 128 * 4 := Nat.mul_le_mul_left _ a6
            omega
          · split <;> omega
theorem put_len {f : FrV} (h : MayF f) : (putV f).length = sizeF f + 4 := by rw [putV, if_pos h, seal_length, form_len]
/-- P12.4: what Put tells, taken, is the frame. -/
theorem take_put {f : FrV} (h : MayF f) : tkE (putV f) = 0 ∧ tkV (putV f) = f := by
  have hl := put_len h
  have h2 := size_le h
  have e : tkE (putV f) = 0 := by
    rw [tkE, if_neg (by omega), putV, if_pos h, if_pos (open_seal _).1, (open_seal _).2, read_form h]
    rfl
  refine ⟨e, ?_⟩
  rw [tkV, if_pos e, putV, if_pos h, (open_seal _).2, read_form h]
  rfl
theorem take_err {b : List Nat} (h : tkE b ≠ 0) : tkV b = noF := if_neg h
/-- P12.5: bits turned within 32 in a row are found. -/
theorem take_turned {f : FrV} (h : MayF f) (hb : BytesF f) (bit turn : Nat) (ht : turn < 4294967296) (hbit : bit + 32 ≤ 8 * (putV f).length) :
    tkE (flipN (putV f) bit turn 32) = if turn = 0 then 0 else 20 := by
  by_cases h0 : turn = 0
  · rw [if_pos h0, h0, flip_none, (take_put h).1]
  · have hl := put_len h
    have h2 := size_le h
    have hf : openErr (flipN (sealN (formF f)) bit turn 32) = 20 := finds (formF f) bit turn (form_all hb) (by omega) h0 (by rw [hl] at hbit; rw [form_len]; exact hbit)
    have e : putV f = sealN (formF f) := if_pos h
    rw [if_neg h0, tkE, flip_length, if_neg (by omega), e, hf]
    rfl
end Go.Proofs.YtifopodnceopjaaGreatDoor.Fr
/- A frame in memory: fifteen cells, and what its slices hold. -/
namespace Go.Proofs.YtifopodnceopjaaGreatDoor
open Go.RowKit Fr
/-- Ranks, edges, marks, lists of edges. -/
def RanksAt (w : World) (B : Nat) (A : Option Addr) (n : Nat) (l : List (Nat × Int)) : Prop := FieldsAt w B A n 2 (l.map fun r => [.int .u64 (r.1 : Int), .int .i64 r.2])
def EdgesAt (w : World) (B : Nat) (A : Option Addr) (n : Nat) (l : List (Int × Int)) : Prop := FieldsAt w B A n 2 (l.map fun e => [.int .i64 e.1, .int .i64 e.2])
def UpsAt (w : World) (B : Nat) (A : Option Addr) (n : Nat) (l : List Bool) : Prop :=
  l.length = n ∧ (0 < n → ∃ b off, A = some ⟨b, off, none⟩ ∧ b < B ∧ ∀ (i : Nat) (x : Bool), l[i]? = some x → w.cell? ⟨b, off + i, none⟩ = some (.bool x))
/-- A slice in memory, as a value. -/
structure SlV where
  A : Option Addr
  n : Nat
  c : Nat
def SlV.val (s : SlV) : Value := .slice s.A s.n s.c
def HopsAt (w : World) (B : Nat) (A : Option Addr) (n : Nat) (l : List (List (Int × Int))) : Prop :=
  ∃ S : List SlV, S.length = n ∧ l.length = n ∧ (∀ (i : Nat) (s : SlV) (r : List (Int × Int)), S[i]? = some s → l[i]? = some r → EdgesAt w B s.A s.n r ∧ s.n ≤ 140737488351232 ∧ s.n ≤ s.c) ∧
    (0 < n → ∃ b off, A = some ⟨b, off, none⟩ ∧ b < B ∧ ∀ (i : Nat) (s : SlV), S[i]? = some s → w.cell? ⟨b, off + i, none⟩ = some s.val)
section
variable {w w' : World} {B B' n : Nat} {A : Option Addr}
theorem FieldsAt.mono {k : Nat} {l : List (List Value)} (h : FieldsAt w B A n k l) (hB : B ≤ B') : FieldsAt w B' A n k l :=
  ⟨h.1, h.2.1, fun hn => by
    obtain ⟨b, off, e, hb, hc⟩ := h.2.2 hn
    exact ⟨b, off, e, by omega, hc⟩⟩
theorem RanksAt.length {l : List (Nat × Int)} (h : RanksAt w B A n l) : l.length = n := by have := h.1; simpa using this
theorem EdgesAt.length {l : List (Int × Int)} (h : EdgesAt w B A n l) : l.length = n := by have := h.1; simpa using this
theorem UpsAt.length {l : List Bool} (h : UpsAt w B A n l) : l.length = n := h.1
theorem HopsAt.length {l : List (List (Int × Int))} (h : HopsAt w B A n l) : l.length = n := by obtain ⟨_, _, h, _⟩ := h; exact h
theorem RanksAt.keep {l : List (Nat × Int)} (h : RanksAt w B A n l) (hB : B ≤ w.heap.size) (k : Keep w w') : RanksAt w' B A n l := FieldsAt.keep h hB k
theorem EdgesAt.keep {l : List (Int × Int)} (h : EdgesAt w B A n l) (hB : B ≤ w.heap.size) (k : Keep w w') : EdgesAt w' B A n l := FieldsAt.keep h hB k
theorem RanksAt.mono {l : List (Nat × Int)} (h : RanksAt w B A n l) (hB : B ≤ B') : RanksAt w B' A n l := FieldsAt.mono h hB
theorem EdgesAt.mono {l : List (Int × Int)} (h : EdgesAt w B A n l) (hB : B ≤ B') : EdgesAt w B' A n l := FieldsAt.mono h hB
theorem UpsAt.keep {l : List Bool} (h : UpsAt w B A n l) (hB : B ≤ w.heap.size) (k : Keep w w') : UpsAt w' B A n l := ⟨h.1, fun hn => by
  obtain ⟨b, off, e, hb, hc⟩ := h.2 hn
  exact ⟨b, off, e, hb, fun i x hx => (World.cell?_of_block (k.block b (by omega))).trans (hc i x hx)⟩⟩
theorem UpsAt.mono {l : List Bool} (h : UpsAt w B A n l) (hB : B ≤ B') : UpsAt w B' A n l := ⟨h.1, fun hn => by
  obtain ⟨b, off, e, hb, hc⟩ := h.2 hn
  exact ⟨b, off, e, by omega, hc⟩⟩
theorem HopsAt.keep {l : List (List (Int × Int))} (h : HopsAt w B A n l) (hB : B ≤ w.heap.size) (k : Keep w w') : HopsAt w' B A n l := by
  obtain ⟨S, h1, h2, h3, h4⟩ := h
  refine ⟨S, h1, h2, fun i s r hs hr => ⟨(h3 i s r hs hr).1.keep hB k, (h3 i s r hs hr).2⟩, fun hn => ?_⟩
  obtain ⟨b, off, e, hb, hc⟩ := h4 hn
  exact ⟨b, off, e, hb, fun i s hs => (World.cell?_of_block (k.block b (by omega))).trans (hc i s hs)⟩
theorem HopsAt.mono {l : List (List (Int × Int))} (h : HopsAt w B A n l) (hB : B ≤ B') : HopsAt w B' A n l := by
  obtain ⟨S, h1, h2, h3, h4⟩ := h
  refine ⟨S, h1, h2, fun i s r hs hr => ⟨(h3 i s r hs hr).1.mono hB, (h3 i s r hs hr).2⟩, fun hn => ?_⟩
  obtain ⟨b, off, e, hb, hc⟩ := h4 hn
  exact ⟨b, off, e, by omega, hc⟩
theorem RanksAt.at_ {l : List (Nat × Int)} (h : RanksAt w B A n l) {i : Nat} {r : Nat × Int} (hi : l[i]? = some r) : ∃ b off, A = some ⟨b, off, none⟩ ∧ b < B ∧ w.cell? ⟨b, off + i * 2, none⟩ = some (.int .u64 (r.1 : Int)) ∧ w.cell? ⟨b, off + (i * 2 + 1), none⟩ = some (.int .i64 r.2) := by
  have hl : i < n := by
    rw [← h.length]
    rcases Nat.lt_or_ge i l.length with h1 | h1
    · exact h1
    · rw [List.getElem?_eq_none h1] at hi; cases hi
  obtain ⟨b, off, e, hb, hc⟩ := h.2.2 (by omega)
  have hm : (l.map fun r : Nat × Int => [Value.int .u64 (r.1 : Int), .int .i64 r.2])[i]? = some [.int .u64 (r.1 : Int), .int .i64 r.2] := by rw [List.getElem?_map, hi]; rfl
  exact ⟨b, off, e, hb, hc i _ 0 _ hm rfl, hc i _ 1 _ hm rfl⟩
theorem EdgesAt.at_ {l : List (Int × Int)} (h : EdgesAt w B A n l) {i : Nat} {r : Int × Int} (hi : l[i]? = some r) : ∃ b off, A = some ⟨b, off, none⟩ ∧ b < B ∧ w.cell? ⟨b, off + i * 2, none⟩ = some (.int .i64 r.1) ∧ w.cell? ⟨b, off + (i * 2 + 1), none⟩ = some (.int .i64 r.2) := by
  have hl : i < n := by
    rw [← h.length]
    rcases Nat.lt_or_ge i l.length with h1 | h1
    · exact h1
    · rw [List.getElem?_eq_none h1] at hi; cases hi
  obtain ⟨b, off, e, hb, hc⟩ := h.2.2 (by omega)
  have hm : (l.map fun r : Int × Int => [Value.int .i64 r.1, .int .i64 r.2])[i]? = some [.int .i64 r.1, .int .i64 r.2] := by rw [List.getElem?_map, hi]; rfl
  exact ⟨b, off, e, hb, hc i _ 0 _ hm rfl, hc i _ 1 _ hm rfl⟩
theorem UpsAt.at_ {l : List Bool} (h : UpsAt w B A n l) {i : Nat} {x : Bool} (hi : l[i]? = some x) : ∃ b off, A = some ⟨b, off, none⟩ ∧ b < B ∧ w.cell? ⟨b, off + i, none⟩ = some (.bool x) := by
  have hl : i < n := by
    rw [← h.length]
    rcases Nat.lt_or_ge i l.length with h1 | h1
    · exact h1
    · rw [List.getElem?_eq_none h1] at hi; cases hi
  obtain ⟨b, off, e, hb, hc⟩ := h.2 (by omega)
  exact ⟨b, off, e, hb, hc i x hi⟩
theorem HopsAt.at_ {l : List (List (Int × Int))} (h : HopsAt w B A n l) {i : Nat} {r : List (Int × Int)} (hi : l[i]? = some r) : ∃ (b off : Nat) (s : SlV), A = some ⟨b, off, none⟩ ∧ b < B ∧ w.cell? ⟨b, off + i, none⟩ = some (.slice s.A s.n s.c) ∧ EdgesAt w B s.A s.n r ∧ s.n ≤ 140737488351232 ∧ s.n ≤ s.c := by
  obtain ⟨S, h1, h2, h3, h4⟩ := h
  have hl : i < n := by
    rw [← h2]
    rcases Nat.lt_or_ge i l.length with h1 | h1
    · exact h1
    · rw [List.getElem?_eq_none h1] at hi; cases hi
  obtain ⟨b, off, e, hb, hc⟩ := h4 (by omega)
  have hs : S[i]? = some S[i] := List.getElem?_eq_getElem (by omega)
  exact ⟨b, off, S[i], e, hb, hc i _ hs, h3 i _ r hs hi⟩
theorem UpsAt.none_ (w : World) (B : Nat) (A : Option Addr) : UpsAt w B A 0 [] := ⟨rfl, fun h => absurd h (by omega)⟩
theorem RanksAt.none_ (w : World) (B : Nat) (A : Option Addr) : RanksAt w B A 0 [] := ⟨rfl, fun r hr => by simp at hr, fun h => absurd h (by omega)⟩
theorem EdgesAt.none_ (w : World) (B : Nat) (A : Option Addr) : EdgesAt w B A 0 [] := ⟨rfl, fun r hr => by simp at hr, fun h => absurd h (by omega)⟩
theorem HopsAt.none_ (w : World) (B : Nat) (A : Option Addr) : HopsAt w B A 0 [] := ⟨[], rfl, rfl, fun i s r hs _ => by simp at hs, fun h => absurd h (by omega)⟩
end
/-- Where a frame's slices lie. -/
structure FrM where
  co : SlV
  pay : SlV
  rk : SlV
  up : SlV
  hp : SlV
def noM : FrM := ⟨⟨none, 0, 0⟩, ⟨none, 0, 0⟩, ⟨none, 0, 0⟩, ⟨none, 0, 0⟩, ⟨none, 0, 0⟩⟩
/-- The fifteen cells. -/
def frCells (m : FrM) (f : FrV) : Array Value := #[.int .i64 f.kind, .int .i64 f.src, .int .i64 f.dst, .int .u64 (f.ep : Int), .int .u64 (f.life : Int), .int .i64 f.flow, .int .u64 (f.gen : Int), .int .u64 (f.seq : Int), .int .u64 (f.ford : Int),
  .slice m.co.A m.co.n m.co.c, .slice m.pay.A m.pay.n m.pay.c, .slice m.rk.A m.rk.n m.rk.c, .int .u64 (f.tep : Int), .slice m.up.A m.up.n m.up.c, .slice m.hp.A m.hp.n m.hp.c]
def I64 (z : Int) : Prop := -9223372036854775808 ≤ z ∧ z ≤ 9223372036854775807
def U64 (n : Nat) : Prop := n < 18446744073709551616
def SlV.ok (s : SlV) : Prop := s.n ≤ 140737488351232 ∧ s.n ≤ s.c
/-- The slices hold what the frame has; its numbers are those of their types. -/
structure FrIn (w : World) (B : Nat) (m : FrM) (f : FrV) : Prop where
  co : Bytes w B m.co.A m.co.n f.co
  pay : Bytes w B m.pay.A m.pay.n f.pay
  rk : RanksAt w B m.rk.A m.rk.n f.ranks
  up : UpsAt w B m.up.A m.up.n f.up
  hp : HopsAt w B m.hp.A m.hp.n f.hops
  oks : m.co.ok ∧ m.pay.ok ∧ m.rk.ok ∧ m.up.ok ∧ m.hp.ok
  ints : I64 f.kind ∧ I64 f.src ∧ I64 f.dst ∧ I64 f.flow
  nats : U64 f.ep ∧ U64 f.life ∧ U64 f.gen ∧ U64 f.seq ∧ U64 f.ford ∧ U64 f.tep
  rks : ∀ r ∈ f.ranks, U64 r.1 ∧ I64 r.2
  eds : ∀ l ∈ f.hops, ∀ e ∈ l, I64 e.1 ∧ I64 e.2
theorem FrIn.keep {w w' : World} {B : Nat} {m : FrM} {f : FrV} (h : FrIn w B m f) (hB : B ≤ w.heap.size) (k : Keep w w') : FrIn w' B m f :=
  ⟨h.co.keep hB k, h.pay.keep hB k, h.rk.keep hB k, h.up.keep hB k, h.hp.keep hB k, h.oks, h.ints, h.nats, h.rks, h.eds⟩
theorem FrIn.mono {w : World} {B B' : Nat} {m : FrM} {f : FrV} (h : FrIn w B m f) (hB : B ≤ B') : FrIn w B' m f :=
  ⟨h.co.mono hB, h.pay.mono hB, h.rk.mono hB, h.up.mono hB, h.hp.mono hB, h.oks, h.ints, h.nats, h.rks, h.eds⟩
theorem FrIn.later {w w' : World} {m : FrM} {f : FrV} (h : FrIn w w.heap.size m f) (k : Keep w w') : FrIn w' w'.heap.size m f := (h.keep (Nat.le_refl _) k).mono k.size
theorem FrIn.bytes {w : World} {B : Nat} {m : FrM} {f : FrV} (h : FrIn w B m f) : BytesF f := ⟨h.co.all, h.pay.all⟩
theorem FrIn.none_ (w : World) (B : Nat) : FrIn w B noM noF :=
  ⟨Bytes.nil _ _ _, Bytes.nil _ _ _, RanksAt.none_ _ _ _, UpsAt.none_ _ _ _, HopsAt.none_ _ _ _, by simp [noM, SlV.ok], by simp [noF, I64], by simp [noF, U64], fun r hr => by simp [noF] at hr, fun l hl => by simp [noF] at hl⟩
/-- A box that holds a frame. -/
def FrBox (w : World) (g : Nat) (t : TypeId) (m : FrM) (f : FrV) : Prop := w.heap[g]? = some (.cells (frCells m f) t (0, 0))
theorem FrBox.keep {w w' : World} {g : Nat} {t : TypeId} {m : FrM} {f : FrV} (h : FrBox w g t m f) (k : Keep w w') : FrBox w' g t m f := (k.block g (Array.getElem?_eq_some_iff.1 h).1).trans h
theorem FrBox.cell {w : World} {g : Nat} {t : TypeId} {m : FrM} {f : FrV} (h : FrBox w g t m f) (i : Nat) (v : Value) (hv : (frCells m f)[i]? = some v) : w.cell? ⟨g, i, none⟩ = some v := by
  unfold World.cell?
  rw [show w.heap[g]? = _ from h]
  exact hv
/-- All its cells. -/
theorem FrBox.cells {w : World} {g : Nat} {t : TypeId} {m : FrM} {f : FrV} (h : FrBox w g t m f) :
    (w.cell? ⟨g, 0, none⟩ = some (.int .i64 f.kind) ∧ w.cell? ⟨g, 1, none⟩ = some (.int .i64 f.src) ∧ w.cell? ⟨g, 2, none⟩ = some (.int .i64 f.dst) ∧ w.cell? ⟨g, 3, none⟩ = some (.int .u64 (f.ep : Int)) ∧ w.cell? ⟨g, 4, none⟩ = some (.int .u64 (f.life : Int))) ∧
    (w.cell? ⟨g, 5, none⟩ = some (.int .i64 f.flow) ∧ w.cell? ⟨g, 6, none⟩ = some (.int .u64 (f.gen : Int)) ∧ w.cell? ⟨g, 7, none⟩ = some (.int .u64 (f.seq : Int)) ∧ w.cell? ⟨g, 8, none⟩ = some (.int .u64 (f.ford : Int))) ∧
    (w.cell? ⟨g, 9, none⟩ = some (.slice m.co.A m.co.n m.co.c) ∧ w.cell? ⟨g, 10, none⟩ = some (.slice m.pay.A m.pay.n m.pay.c) ∧ w.cell? ⟨g, 11, none⟩ = some (.slice m.rk.A m.rk.n m.rk.c)) ∧
    w.cell? ⟨g, 12, none⟩ = some (.int .u64 (f.tep : Int)) ∧ w.cell? ⟨g, 13, none⟩ = some (.slice m.up.A m.up.n m.up.c) ∧ w.cell? ⟨g, 14, none⟩ = some (.slice m.hp.A m.hp.n m.hp.c) :=
  ⟨⟨h.cell 0 _ rfl, h.cell 1 _ rfl, h.cell 2 _ rfl, h.cell 3 _ rfl, h.cell 4 _ rfl⟩, ⟨h.cell 5 _ rfl, h.cell 6 _ rfl, h.cell 7 _ rfl, h.cell 8 _ rfl⟩, ⟨h.cell 9 _ rfl, h.cell 10 _ rfl, h.cell 11 _ rfl⟩, h.cell 12 _ rfl, h.cell 13 _ rfl, h.cell 14 _ rfl⟩
theorem FrBox.new {w : World} {g : Nat} (hg : w.heap.size = g) (t : TypeId) (m : FrM) (f : FrV) : FrBox (w.alloc (.cells (frCells m f) t)) g t m f := by
  subst hg; exact heap_alloc_new w _
end Go.Proofs.YtifopodnceopjaaGreatDoor
/- A struct within a row is loaded, in a walk of reads alone. -/
namespace Go.Proofs.YtifopodnceopjaaGreatDoor
open Go.RowKit
theorem quiet_load_mid {P : Program} {o : Oper} {a : Act} {C : World → Prop} {K : Act → Prop} (ty : TypeId) (x : Operand) (ho : o.op = .load ty x) (b off : Nat) (hx : a.eval x = .pointer (some ⟨b, off, none⟩)) (cs : List Value) (d : TypeDesc) (hC : ∀ w, C w → w.rangeAt b off cs)
    (hu : P.underlying ty = some d) (hd : d.isRow = true) (hi : (P.info? ty).map (·.size) = some cs.length) (hk : K (a.put o.dst (.agg cs.toArray))) : o.quiet P a C K :=
  ⟨.agg cs.toArray, fun w hw => by
    unfold Oper.quietAt execOp
    simp only [ho, hx, Instr.loadAt, Instr.sureAddr, Sem.run_bind, Sem.run_pure, Result.andThen_ok, run_loadVar_mid w b off ty cs d (hC w hw) hu hd hi]
    exact ⟨rfl, rfl⟩, hk⟩
/-- Two cells. -/
theorem range_two {w : World} {b off : Nat} {x y : Value} (h1 : w.cell? ⟨b, off, none⟩ = some x) (h2 : w.cell? ⟨b, off + 1, none⟩ = some y) : w.rangeAt b off [x, y] := fun j v hv => by
  match j, hv with
  | 0, hv => simp at hv; subst hv; exact h1
  | 1, hv => simp at hv; subst hv; exact h2
theorem range_drewN {w : World} {b off : Nat} {cs : List Value} (h : w.rangeAt b off cs) (n : Nat) : (w.drewN n).rangeAt b off cs := h
end Go.Proofs.YtifopodnceopjaaGreatDoor
/- Frames and topologies in boxes. -/
namespace Go.Proofs.YtifopodnceopjaaGreatDoor
open Go.RowKit Fr
set_option linter.unusedVariables false
set_option linter.unusedSimpArgs false
/-- A box that holds a topology. -/
def topoCells (te : Nat) (u h : SlV) : Array Value := #[.int .u64 (te : Int), .slice u.A u.n u.c, .slice h.A h.n h.c]
def ToBox (w : World) (g : Nat) (te : Nat) (u h : SlV) : Prop := w.cell? ⟨g, 0, none⟩ = some (.int .u64 (te : Int)) ∧ w.cell? ⟨g, 1, none⟩ = some (.slice u.A u.n u.c) ∧ w.cell? ⟨g, 2, none⟩ = some (.slice h.A h.n h.c)
theorem list_eq {α : Type} {l l' : List α} {n : Nat} (h1 : l.length = n) (h2 : l'.length = n) (h : ∀ k, k < n → l[k]? = l'[k]?) : l = l' := List.ext_getElem? fun k => by
  rcases Nat.lt_or_ge k n with hk | hk
  · exact h k hk
  · rw [List.getElem?_eq_none (by omega), List.getElem?_eq_none (by omega)]
theorem get_some {α : Type} {l : List α} {n i : Nat} (h : l.length = n) (hi : i < n) : ∃ x, l[i]? = some x := ⟨l[i], List.getElem?_eq_getElem (by omega)⟩
theorem fr_boxes (w : World) (t1 t2 : TypeId) (m m' : FrM) (f f' : FrV) {w2 : World} (hw : (w.alloc (.cells (frCells m f) t1)).alloc (.cells (frCells m' f') t2) = w2) :
    Keep w w2 ∧ ∀ wr, Keep w2 wr → FrBox wr w.heap.size t1 m f ∧ FrBox wr (w.heap.size + 1) t2 m' f' := by
  subst hw
  refine ⟨((Keep.refl w).alloc _ _).alloc _ _, fun wr kp => ?_⟩
  have h1 : FrBox ((w.alloc (.cells (frCells m f) t1)).alloc (.cells (frCells m' f') t2)) w.heap.size t1 m f := (FrBox.new rfl t1 m f).keep ((Keep.refl _).alloc _ _)
  have h2 : FrBox ((w.alloc (.cells (frCells m f) t1)).alloc (.cells (frCells m' f') t2)) (w.heap.size + 1) t2 m' f' := FrBox.new (by simp) t2 m' f'
  exact ⟨h1.keep kp, h2.keep kp⟩
theorem to_box (w : World) (t1 : TypeId) (te : Nat) (u h : SlV) {w2 : World} (hw : w.alloc (.cells (topoCells te u h) t1) = w2) : Keep w w2 ∧ ∀ wr, Keep w2 wr → ToBox wr w.heap.size te u h := by
  subst hw
  refine ⟨(Keep.refl w).alloc _ _, fun wr kp => ?_⟩
  have h1 := heap_alloc_new w (.cells (topoCells te u h) t1)
  have g1 := (kp.block _ (Array.getElem?_eq_some_iff.1 h1).1).trans h1
  exact ⟨by unfold World.cell?; rw [g1]; rfl, by unfold World.cell?; rw [g1]; rfl, by unfold World.cell?; rw [g1]; rfl⟩
theorem two_box (w : World) (t : TypeId) (x y : Value) {w2 : World} (hw : w.alloc (.cells #[x, y] t) = w2) : Keep w w2 ∧ w2.cell? ⟨w.heap.size, 0, none⟩ = some x ∧ w2.cell? ⟨w.heap.size, 1, none⟩ = some y := by
  subst hw
  have h1 := heap_alloc_new w (.cells #[x, y] t)
  exact ⟨(Keep.refl w).alloc _ _, by unfold World.cell?; rw [h1]; rfl, by unfold World.cell?; rw [h1]; rfl⟩
/-- The slices of a frame with nothing but what its Kind has. -/
def bareM (m : FrM) (k : Int) : FrM :=
  ⟨if k = 1 then m.co else ⟨none, 0, 0⟩, if k = 1 then m.pay else ⟨none, 0, 0⟩, if k = 2 then m.rk else ⟨none, 0, 0⟩, if k = 5 then m.up else ⟨none, 0, 0⟩, if k = 5 then m.hp else ⟨none, 0, 0⟩⟩
theorem infoFr : (Tryz.prog.info? 52).map (·.size) = some 15 := by kernel_rfl
theorem mid_block (w : World) (a b c : Array Value) (t1 t2 t3 : TypeId) : (((w.alloc (.cells a t1)).alloc (.cells b t2)).alloc (.cells c t3)).heap[w.heap.size + 1]? = some (.cells b t2 (0, 0)) := by
  have h2 := heap_alloc_new (w.alloc (.cells a t1)) (.cells b t2)
  have e1 : (w.alloc (.cells a t1)).heap.size = w.heap.size + 1 := by simp
  rw [e1] at h2
  exact (((Keep.refl ((w.alloc (.cells a t1)).alloc (.cells b t2))).alloc c t3).block _ (by simp)).trans h2
theorem fr_box (w : World) (t1 : TypeId) (m : FrM) (f : FrV) {w2 : World} (hw : w.alloc (.cells (frCells m f) t1) = w2) : Keep w w2 ∧ ∀ wr, Keep w2 wr → FrBox wr w.heap.size t1 m f := by
  subst hw
  exact ⟨(Keep.refl w).alloc _ _, fun wr kp => (FrBox.new rfl t1 m f).keep kp⟩
theorem FrIn.bare {w : World} {B : Nat} {m : FrM} {f : FrV} (h : FrIn w B m f) : FrIn w B (bareM m f.kind) (bareF f) := by
  have z : SlV.ok ⟨none, 0, 0⟩ := by simp [SlV.ok]
  refine ⟨?_, ?_, ?_, ?_, ?_, ⟨?_, ?_, ?_, ?_, ?_⟩, ⟨h.ints.1, h.ints.2.1, h.ints.2.2.1, ?_⟩, ⟨h.nats.1, h.nats.2.1, ?_, ?_, ?_, ?_⟩, ?_, ?_⟩ <;> simp only [bareM, bareF]
  · split
    · exact h.co
    · exact Bytes.nil _ _ _
  · split
    · exact h.pay
    · exact Bytes.nil _ _ _
  · split
    · exact h.rk
    · exact RanksAt.none_ _ _ _
  · split
    · exact h.up
    · exact UpsAt.none_ _ _ _
  · split
    · exact h.hp
    · exact HopsAt.none_ _ _ _
  · split
    · exact h.oks.1
    · exact z
  · split
    · exact h.oks.2.1
    · exact z
  · split
    · exact h.oks.2.2.1
    · exact z
  · split
    · exact h.oks.2.2.2.1
    · exact z
  · split
    · exact h.oks.2.2.2.2
    · exact z
  · split
    · exact h.ints.2.2.2
    · simp [I64]
  · split
    · exact h.nats.2.2.1
    · simp [U64]
  · split
    · exact h.nats.2.2.2.1
    · simp [U64]
  · split
    · exact h.nats.2.2.2.2.1
    · simp [U64]
  · split
    · exact h.nats.2.2.2.2.2
    · simp [U64]
  · intro r hr
    split at hr
    · exact h.rks r hr
    · simp at hr
  · intro l hl
    split at hl
    · exact h.eds l hl
    · simp at hl
end Go.Proofs.YtifopodnceopjaaGreatDoor
