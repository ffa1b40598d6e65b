/- The landed frames: a form that is being laid; the closures that lay numbers. -/
import Derived.Test.YtgkihfemlbhioaaDoorObj
import Derived.Test.YtgkihfemlbhioaaDoorFwc
import Derived.Laws.EntriesVeiled
import Derived.Test.YtgkihfemlbhioaaDoorFbx
namespace Go.Proofs.YtgkihfemlbhioaaDoor
open Go.RowKit
set_option linter.unusedVariables false
set_option linter.unusedSimpArgs false
/-- A form that is being laid: its cell g, what it has so far. -/
def LayS (w : World) (F : Nat → Prop) (g : Nat) (xs : List Nat) : Prop :=
  F g ∧ (∀ b, F b → b < w.heap.size) ∧ ∃ A c, w.heap[g]? = some (.cells #[.slice A xs.length c] 23 (0, 0)) ∧ Own w (g + 1) 5 A xs.length c xs ∧ ∀ b, (Value.slice A xs.length c).ownBlock = some b → F b
/-- .. goes on. -/
def LayN (F : Nat → Prop) (w w' : World) (g : Nat) (xs : List Nat) : Prop := ∃ F', LayS w' F' g xs ∧ Turned F w w' ∧ ∀ b, F' b → F b ∨ w.heap.size ≤ b
theorem LayN.trans {F F1 : Nat → Prop} {w w1 w2 : World} {g : Nat} {xs : List Nat} (t : Turned F w w1) (hF : ∀ b, F1 b → F b ∨ w.heap.size ≤ b) (h : LayN F1 w1 w2 g xs) : LayN F w w2 g xs := by
  obtain ⟨F', h1, h2, h3⟩ := h
  refine ⟨F', h1, t.trans h2 hF, fun b hb => ?_⟩
  rcases h3 b hb with e | e
  · exact hF b e
  · exact Or.inr (Nat.le_trans t.size e)
theorem LayS.keep {w w' : World} {F : Nat → Prop} {g : Nat} {xs : List Nat} (h : LayS w F g xs) (k : Keep w w') : LayS w' F g xs := by
  obtain ⟨h1, h2, A, c, h3, h4, h5⟩ := h
  exact ⟨h1, fun b hb => Nat.lt_of_lt_of_le (h2 b hb) k.size, A, c, (k.block g (h2 g h1)).trans h3, h4.keep k, h5⟩
theorem LayN.later {F : Nat → Prop} {w w1 w2 : World} {g : Nat} {xs : List Nat} (k : Keep w w1) (h : LayN F w1 w2 g xs) : LayN F w w2 g xs :=
  LayN.trans (Turned.of_keep k) (fun b hb => Or.inl hb) h
theorem num_form (v s : Nat) (s1 : 1 ≤ s) (s8 : s ≤ 8) (hv : v < 256 ^ s) (w : World) :
    Calls Tryd.prog 44 #[.slice none 0 0, .int .u64 (v : Int), .int .i64 (s : Int)] w (NewPair w (formN s v) 0) := by
  have h64 : v < 18446744073709551616 := Nat.lt_of_lt_of_le hv (Nat.pow_le_pow_right (by decide) s8)
  have h := wnum_any w.heap.size 0 0 v (s : Int) none [] w (Bytes.nil _ _ _) (Nat.le_refl _) (by omega) h64
  rw [numOf, numErr, if_neg (by omega), if_neg (by omega), Int.toNat_natCast, laysOf, laysErr, if_pos hv, if_pos hv, List.nil_append] at h
  exact h
set_option maxRecDepth 100000 in
set_option maxHeartbeats 1000000 in
theorem gnum_any (F : Nat → Prop) (g v s : Nat) (xs : List Nat) (w : World) (h : LayS w F g xs) (s1 : 1 ≤ s) (s8 : s ≤ 8) (hv : v < 256 ^ s) (hx : xs.length ≤ 1000000) :
    Calls Tryd.prog 43 #[.int .u64 (v : Int), .int .i64 (s : Int), .pointer (some ⟨g, 0, none⟩)] w fun e w' => e = .returned (.tuple #[]) ∧ LayN F w w' g (xs ++ formN s v) := by
  obtain ⟨hg, hF, A, c, hc, ho, hr⟩ := h
  obtain ⟨n, hn⟩ : ∃ n, xs.length = n := ⟨_, rfl⟩
  rw [hn] at hc ho hr hx
  have HN := Lib.hid (num_form v s s1 s8 hv w)
  have HG := Lib.hid hg
  have HF := Lib.hid hF
  have HC := Lib.hid hc
  have HO := Lib.hid ho
  have HR := Lib.hid hr
  have HL := Lib.hid hn
  clear hg hF hc ho hr hv hn
  go_enter Tryd.func43, Tryd.ntmps43
  go_wp2_with fail
  refine HN.out.mono ?_
  rintro e w1 ⟨A1, n1, c1, rfl, o1, k1⟩
  obtain rfl : s = n1 := (formN_length s v).symm.trans o1.length
  have hgl := HF.out g HG.out
  have hc1 := (k1.block g hgl).trans HC.out
  have d1 := cell_of_one hc1
  have d2 := free_of_one hc1
  have B1 := Lib.hid o1.bytes
  have O1 : Hid (Own w1 (g + 1) 5 A n c xs) := HO.out.keep k1
  have HB : Hid (g + 1 ≤ w1.heap.size) := by show g + 1 ≤ w1.heap.size; have := k1.size; omega
  have K1 := Lib.hid k1
  have HC1 := Lib.hid hc1
  clear o1 k1 hc1
  go_wp2_with (at_builtin; refine wpList_append_bytes rfl _ _ 23 rfl Tryd.underlying23 info5 rfl O1.out rfl B1.out (by omega) HB.out ?_)
  intro A2 c2 w2 h2 hg2 hrow
  have hne : ∀ b, (Value.slice A n c).ownBlock = some b → b ≠ g := fun b hb e => by
    have := O1.out.rowLe b hb
    omega
  have hc2 : w2.heap[g]? = some (.cells #[.slice A n c] 23 (0, 0)) := (hg2.block g (Nat.lt_of_lt_of_le hgl K1.out.size) (fun e => hne g e.symm rfl)).trans HC1.out
  have e1 := cell_of_one hc2
  have e2 := free_of_one hc2
  have hl2 : (xs ++ formN s v).length = n + s := by rw [List.length_append, HL.out, formN_length]
  have T2 : Turned F w w2 := (Turned.of_keep K1.out).trans (Turned.of_grown (F := fun b => (Value.slice A n c).ownBlock = some b) hg2 (fun i e => e)) (fun i e => Or.inl (HR.out i e))
  have hrow2 : ∀ b, (Value.slice A2 (n + s) c2).ownBlock = some b → F b ∨ w.heap.size ≤ b := fun b hb => by
    rcases hrow with e | e
    · exact Or.inl (HR.out b (e ▸ hb))
    · rw [e] at hb
      injection hb with hb
      exact Or.inr (by have := K1.out.size; omega)
  have L3 : Hid (LayN F w (w2.setCell ⟨g, 0, none⟩ (.slice A2 (n + s) c2)) g (xs ++ formN s v)) := by
    have hlt : ∀ b, (Value.slice A2 (n + s) c2).ownBlock = some b → b < w2.heap.size := fun b hb => (h2.1.lt b hb).2
    refine ⟨fun b => b = g ∨ (Value.slice A2 (n + s) c2).ownBlock = some b, ⟨Or.inl rfl, ?_, A2, c2, ?_, ?_, ?_⟩, ?_, ?_⟩
    · rintro b (rfl | hb)
      · simp [World.setCell]; have := T2.size; omega
      · have := hlt b hb
        simpa [World.setCell] using this
    · rw [hl2]; exact one_setCell hc2
    · rw [hl2]
      exact h2.far (by
        intro e
        have := h2.rowLe _ e
        exact absurd this (by show ¬ g + 1 ≤ g; omega)) _
    · rw [hl2]; exact fun b hb => Or.inr hb
    · exact T2.trans (Turned.set (F := fun b => b = g) w2 _ _ rfl) (fun i e => Or.inl (by rw [e]; exact HG.out))
    · rintro b (rfl | hb)
      · exact Or.inl HG.out
      · exact hrow2 b hb
  clear h2 hg2 hrow T2 hrow2 d1 d2 hc2
  go_wp2_with fail
  go_end0
  exact ⟨rfl, L3.out⟩
/-- The closure that lays numbers, in its cell. -/
def ClosC (w : World) (h g : Nat) : Prop := w.cell? ⟨h, 0, none⟩ = some (.func (.func 43) #[] #[.pointer (some ⟨g, 0, none⟩)])
/-- Many numbers. -/
def formsN (s : Nat) (l : List Nat) : List Nat := l.flatMap (formN s)
theorem formsN_length (s : Nat) (l : List Nat) : (formsN s l).length = s * l.length := by
  induction l with
  | nil => rfl
  | cons x l ih =>
    rw [formsN, List.flatMap_cons, List.length_append, formN_length, List.length_cons, show (List.flatMap (formN s) l).length = s * l.length from ih, Nat.mul_add]
    omega
theorem formsN_take (s : Nat) (l : List Nat) (i x : Nat) (h : l[i]? = some x) : formsN s (l.take (i + 1)) = formsN s (l.take i) ++ formN s x := by
  rw [List.take_add_one, h, formsN, formsN, Option.toList_some, List.flatMap_append]
  simp
set_option maxRecDepth 100000 in
set_option maxHeartbeats 1000000 in
theorem gone_any (F : Nat → Prop) (g h b n c : Nat) (l xs : List Nat) (w : World) (hS : LayS w F g xs) (hh : ClosC w h g) (hnh : ¬ F h) (hnb : ¬ F b) (hl : l.length = n) (hv : ∀ x ∈ l, x < 256) (hx : xs.length + n ≤ 1000000)
    (hI : ∀ (i x : Nat), l[i]? = some x → w.cell? ⟨b, i, none⟩ = some (.int .i64 (x : Int))) :
    Calls Tryd.prog 45 #[.slice (some ⟨b, 0, none⟩) n c, .pointer (some ⟨h, 0, none⟩)] w fun e w' => e = .returned (.tuple #[]) ∧ LayN F w w' g (xs ++ formsN 1 l) := by
  have HS := Lib.hid hS
  have HH := Lib.hid hh
  have HV := Lib.hid hv
  have HI := Lib.hid hI
  have NH := Lib.hid hnh
  have NB := Lib.hid hnb
  have HL := Lib.hid hl
  clear hS hh hv hI hnh hnb hl
  go_enter Tryd.func45, Tryd.ntmps45
  go_wp2_with fail
  go_loopw [7] (fun iv wr => ∃ (i : Nat), i ≤ n ∧ iv = .int .i64 i ∧ LayN F w wr g (xs ++ formsN 1 (l.take i))) (fun iv _ => n - (intOf iv).toNat)
  case atStart => exact ⟨0, by omega, rfl, F, by simpa [formsN] using HS.out, Turned.refl _ _, fun b hb => Or.inl hb⟩
  case round =>
    obtain ⟨i, hi, rfl, F', hs, ht, hf⟩ := hrel
    have hlw : (formsN 1 (l.take i)).length ≤ n := by rw [formsN_length, List.length_take, HL.out]; omega
    have HT := Lib.hid ht
    have HFF := Lib.hid hf
    have HS2 := Lib.hid hs
    clear hf hs
    by_cases hlt : i < n
    · obtain ⟨x, hxi⟩ : ∃ x, l[i]? = some x := ⟨_, List.getElem?_eq_getElem (by rw [HL.out]; exact hlt)⟩
      have hx2 := HV.out x (List.mem_of_getElem? hxi)
      have c1 := ht.cell (HI.out i x hxi) NB.out
      have c2 := ht.cell HH.out NH.out
      have e1 : (0 : Int) ≤ (i : Int) := Int.natCast_nonneg _
      have e2 : (i : Int) < (n : Int) := by omega
      have e3 : IntKind.u64.wrap (x : Int) = (x : Int) := IntWalk.u64_in _ (by omega)
      have HN : Hid (Calls Tryd.prog 43 #[.int .u64 (x : Int), .int .i64 1, .pointer (some ⟨g, 0, none⟩)] wr fun e w' => e = .returned (.tuple #[]) ∧ LayN F' wr w' g ((xs ++ formsN 1 (l.take i)) ++ formN 1 x)) :=
        gnum_any F' g x 1 (xs ++ formsN 1 (l.take i)) wr HS2.out (by omega) (by omega) (by omega) (by rw [List.length_append]; omega)
      have HX := Lib.hid (formsN_take 1 l i x hxi)
      clear ht hxi
      go_wp2_with fail
      refine HN.out.mono ?_
      rintro e w2 ⟨rfl, hn2⟩
      have L2 : Hid (LayN F w w2 g (xs ++ formsN 1 (l.take (i + 1)))) := by
        show LayN _ _ _ _ _
        rw [HX.out, ← List.append_assoc]
        exact LayN.trans HT.out HFF.out hn2
      clear hn2 c1 c2
      go_wp2_with fail
      go_round
      case rel => exact ⟨i + 1, by omega, by go_num, L2.out⟩
      case measure => simp [intOf]; omega
    · obtain rfl : i = n := by omega
      have HE : Hid (l.take i = l) := List.take_of_length_le (by rw [HL.out]; exact Nat.le_refl _)
      clear ht
      go_wp2_with fail
      go_end0
      exact ⟨rfl, F', by rw [← HE.out]; exact HS2.out, HT.out, HFF.out⟩
set_option maxRecDepth 100000 in
set_option maxHeartbeats 1000000 in
theorem geight_any (F : Nat → Prop) (g h b n c : Nat) (l xs : List Nat) (w : World) (hS : LayS w F g xs) (hh : ClosC w h g) (hnh : ¬ F h) (hnb : ¬ F b) (hl : l.length = n) (hv : ∀ x ∈ l, x < 18446744073709551616) (hx : xs.length + 8 * n ≤ 1000000)
    (hI : ∀ (i x : Nat), l[i]? = some x → w.cell? ⟨b, i, none⟩ = some (.int .u64 (x : Int))) :
    Calls Tryd.prog 46 #[.slice (some ⟨b, 0, none⟩) n c, .pointer (some ⟨h, 0, none⟩)] w fun e w' => e = .returned (.tuple #[]) ∧ LayN F w w' g (xs ++ formsN 8 l) := by
  have HS := Lib.hid hS
  have HH := Lib.hid hh
  have HV := Lib.hid hv
  have HI := Lib.hid hI
  have NH := Lib.hid hnh
  have NB := Lib.hid hnb
  have HL := Lib.hid hl
  clear hS hh hv hI hnh hnb hl
  go_enter Tryd.func46, Tryd.ntmps46
  go_wp2_with fail
  go_loopw [7] (fun iv wr => ∃ (i : Nat), i ≤ n ∧ iv = .int .i64 i ∧ LayN F w wr g (xs ++ formsN 8 (l.take i))) (fun iv _ => n - (intOf iv).toNat)
  case atStart => exact ⟨0, by omega, rfl, F, by simpa [formsN] using HS.out, Turned.refl _ _, fun b hb => Or.inl hb⟩
  case round =>
    obtain ⟨i, hi, rfl, F', hs, ht, hf⟩ := hrel
    have hlw : (formsN 8 (l.take i)).length ≤ 8 * n := by rw [formsN_length, List.length_take, HL.out]; omega
    have HT := Lib.hid ht
    have HFF := Lib.hid hf
    have HS2 := Lib.hid hs
    clear hf hs
    by_cases hlt : i < n
    · obtain ⟨x, hxi⟩ : ∃ x, l[i]? = some x := ⟨_, List.getElem?_eq_getElem (by rw [HL.out]; exact hlt)⟩
      have hx2 := HV.out x (List.mem_of_getElem? hxi)
      have c1 := ht.cell (HI.out i x hxi) NB.out
      have c2 := ht.cell HH.out NH.out
      have e1 : (0 : Int) ≤ (i : Int) := Int.natCast_nonneg _
      have e2 : (i : Int) < (n : Int) := by omega
      have HN : Hid (Calls Tryd.prog 43 #[.int .u64 (x : Int), .int .i64 8, .pointer (some ⟨g, 0, none⟩)] wr fun e w' => e = .returned (.tuple #[]) ∧ LayN F' wr w' g ((xs ++ formsN 8 (l.take i)) ++ formN 8 x)) :=
        gnum_any F' g x 8 (xs ++ formsN 8 (l.take i)) wr HS2.out (by omega) (by omega) (by omega) (by rw [List.length_append]; omega)
      have HX := Lib.hid (formsN_take 8 l i x hxi)
      clear ht hxi
      go_wp2_with fail
      refine HN.out.mono ?_
      rintro e w2 ⟨rfl, hn2⟩
      have L2 : Hid (LayN F w w2 g (xs ++ formsN 8 (l.take (i + 1)))) := by
        show LayN _ _ _ _ _
        rw [HX.out, ← List.append_assoc]
        exact LayN.trans HT.out HFF.out hn2
      clear hn2 c1 c2
      go_wp2_with fail
      go_round
      case rel => exact ⟨i + 1, by omega, by go_num, L2.out⟩
      case measure => simp [intOf]; omega
    · obtain rfl : i = n := by omega
      have HE : Hid (l.take i = l) := List.take_of_length_le (by rw [HL.out]; exact Nat.le_refl _)
      clear ht
      go_wp2_with fail
      go_end0
      exact ⟨rfl, F', by rw [← HE.out]; exact HS2.out, HT.out, HFF.out⟩
end Go.Proofs.YtgkihfemlbhioaaDoor
/- The landed frames: a topology's form is laid. -/
namespace Go.Proofs.YtgkihfemlbhioaaDoor
open Go.RowKit Fr
set_option linter.unusedVariables false
set_option linter.unusedSimpArgs false
section
variable {w w' : World} {B n : Nat} {A : Option Addr}
theorem Turned.below {F : Nat → Prop} (k : Turned F w w') (hF : ∀ i, F i → B ≤ i) (hB : B ≤ w.heap.size) : Below B w w' :=
  ⟨k.os, k.tape, k.output, k.size, fun i hi => k.block i (by omega) (fun e => by have := hF i e; omega)⟩
theorem UpsAt.below {l : List Bool} (h : UpsAt w B A n l) (k : Below B w w') : UpsAt w' B A n l := ⟨h.1, fun hn => by
  obtain ⟨b, off, e, hb, hc⟩ := h.2 hn
  exact ⟨b, off, e, hb, fun i x hx => (k.cell (p := ⟨b, off + i, none⟩) hb).trans (hc i x hx)⟩⟩
theorem RanksAt.below {l : List (Nat × Int)} (h : RanksAt w B A n l) (k : Below B w w') : RanksAt w' B A n l := FieldsAt.below h k
theorem EdgesAt.below {l : List (Int × Int)} (h : EdgesAt w B A n l) (k : Below B w w') : EdgesAt w' B A n l := FieldsAt.below h k
theorem HopsAt.below {l : List (List (Int × Int))} (h : HopsAt w B A n l) (k : Below B w w') : HopsAt w' B A n l := by
  obtain ⟨S, h1, h2, h3, h4⟩ := h
  refine ⟨S, h1, h2, fun i s r hs hr => ⟨(h3 i s r hs hr).1.below k, (h3 i s r hs hr).2⟩, fun hn => ?_⟩
  obtain ⟨b, off, e, hb, hc⟩ := h4 hn
  exact ⟨b, off, e, hb, fun i s hs => (k.cell (p := ⟨b, off + i, none⟩) hb).trans (hc i s hs)⟩
end
/-- A literal of numbers, handed on to the closures. -/
theorem glay_ones (F : Nat → Prop) (g h n : Nat) (l xs : List Nat) (cs : Array Value) (hcs : cs = (l.map fun x : Nat => Value.int .i64 (x : Int)).toArray) (hn : l.length = n) (w : World) (hS : LayS w F g xs) (hh : ClosC w h g) (hnh : ¬ F h) (hv : ∀ x ∈ l, x < 256) (hx : xs.length + n ≤ 1000000) :
    Calls Tryd.prog 45 #[.slice (some ⟨w.heap.size, 0, none⟩) n n, .pointer (some ⟨h, 0, none⟩)] (w.alloc (.cells cs 3)) fun e w' => e = .returned (.tuple #[]) ∧ LayN F w w' g (xs ++ formsN 1 l) := by
  have k : Keep w (w.alloc (.cells cs 3)) := (Keep.refl w).alloc _ _
  have hlt := World.block_lt_of_cell? w _ hh
  refine (gone_any F g h w.heap.size n n l xs (w.alloc (.cells cs 3)) (hS.keep k) ((World.cell?_of_block (k.block h hlt)).trans hh) hnh (fun e => Nat.lt_irrefl _ (hS.2.1 _ e)) hn hv hx ?_).mono ?_
  · intro i x hi
    rw [cell_of_row _ _ _ _ _ _ (heap_alloc_new w _), hcs]
    simp [hi]
  · rintro e w' ⟨h1, h2⟩
    exact ⟨h1, h2.later k⟩
theorem glay_eights (F : Nat → Prop) (g h n : Nat) (l xs : List Nat) (cs : Array Value) (hcs : cs = (l.map fun x : Nat => Value.int .u64 (x : Int)).toArray) (hn : l.length = n) (w : World) (hS : LayS w F g xs) (hh : ClosC w h g) (hnh : ¬ F h) (hv : ∀ x ∈ l, x < 18446744073709551616) (hx : xs.length + 8 * n ≤ 1000000) :
    Calls Tryd.prog 46 #[.slice (some ⟨w.heap.size, 0, none⟩) n n, .pointer (some ⟨h, 0, none⟩)] (w.alloc (.cells cs 22)) fun e w' => e = .returned (.tuple #[]) ∧ LayN F w w' g (xs ++ formsN 8 l) := by
  have k : Keep w (w.alloc (.cells cs 22)) := (Keep.refl w).alloc _ _
  have hlt := World.block_lt_of_cell? w _ hh
  refine (geight_any F g h w.heap.size n n l xs (w.alloc (.cells cs 22)) (hS.keep k) ((World.cell?_of_block (k.block h hlt)).trans hh) hnh (fun e => Nat.lt_irrefl _ (hS.2.1 _ e)) hn hv hx ?_).mono ?_
  · intro i x hi
    rw [cell_of_row _ _ _ _ _ _ (heap_alloc_new w _), hcs]
    simp [hi]
  · rintro e w' ⟨h1, h2⟩
    exact ⟨h1, h2.later k⟩
theorem glay_one (F : Nat → Prop) (g h x : Nat) (xs : List Nat) (w : World) (hS : LayS w F g xs) (hh : ClosC w h g) (hnh : ¬ F h) (hv : x < 256) (hx : xs.length ≤ 900000) :
    Calls Tryd.prog 45 #[.slice (some ⟨w.heap.size, 0, none⟩) 1 1, .pointer (some ⟨h, 0, none⟩)] (w.alloc (.cells #[.int .i64 (x : Int)] 3)) fun e w' => e = .returned (.tuple #[]) ∧ LayN F w w' g (xs ++ formN 1 x) := by
  have h2 := glay_ones F g h 1 [x] xs #[.int .i64 (x : Int)] rfl rfl w hS hh hnh (by intro y hy; simp at hy; omega) (by omega)
  simpa [formsN] using h2
theorem glay_two (F : Nat → Prop) (g h x y : Nat) (xs : List Nat) (w : World) (hS : LayS w F g xs) (hh : ClosC w h g) (hnh : ¬ F h) (hv : x < 256) (hv2 : y < 256) (hx : xs.length ≤ 900000) :
    Calls Tryd.prog 45 #[.slice (some ⟨w.heap.size, 0, none⟩) 2 2, .pointer (some ⟨h, 0, none⟩)] (w.alloc (.cells #[.int .i64 (x : Int), .int .i64 (y : Int)] 3)) fun e w' => e = .returned (.tuple #[]) ∧ LayN F w w' g (xs ++ (formN 1 x ++ formN 1 y)) := by
  have h2 := glay_ones F g h 2 [x, y] xs #[.int .i64 (x : Int), .int .i64 (y : Int)] rfl rfl w hS hh hnh (by intro z hz; simp at hz; omega) (by omega)
  simpa [formsN] using h2
theorem glay_eight (F : Nat → Prop) (g h x : Nat) (xs : List Nat) (w : World) (hS : LayS w F g xs) (hh : ClosC w h g) (hnh : ¬ F h) (hv : x < 18446744073709551616) (hx : xs.length ≤ 900000) :
    Calls Tryd.prog 46 #[.slice (some ⟨w.heap.size, 0, none⟩) 1 1, .pointer (some ⟨h, 0, none⟩)] (w.alloc (.cells #[.int .u64 (x : Int)] 22)) fun e w' => e = .returned (.tuple #[]) ∧ LayN F w w' g (xs ++ formN 8 x) := by
  have h2 := glay_eights F g h 1 [x] xs #[.int .u64 (x : Int)] rfl rfl w hS hh hnh (by intro y hy; simp at hy; omega) (by omega)
  simpa [formsN] using h2
theorem glay_eight2 (F : Nat → Prop) (g h x y : Nat) (xs : List Nat) (w : World) (hS : LayS w F g xs) (hh : ClosC w h g) (hnh : ¬ F h) (hv : x < 18446744073709551616) (hv2 : y < 18446744073709551616) (hx : xs.length ≤ 900000) :
    Calls Tryd.prog 46 #[.slice (some ⟨w.heap.size, 0, none⟩) 2 2, .pointer (some ⟨h, 0, none⟩)] (w.alloc (.cells #[.int .u64 (x : Int), .int .u64 (y : Int)] 22)) fun e w' => e = .returned (.tuple #[]) ∧ LayN F w w' g (xs ++ (formN 8 x ++ formN 8 y)) := by
  have h2 := glay_eights F g h 2 [x, y] xs #[.int .u64 (x : Int), .int .u64 (y : Int)] rfl rfl w hS hh hnh (by intro z hz; simp at hz; omega) (by omega)
  simpa [formsN] using h2
theorem glay_three (F : Nat → Prop) (g h x y z : Nat) (xs : List Nat) (w : World) (hS : LayS w F g xs) (hh : ClosC w h g) (hnh : ¬ F h) (hv : x < 256) (hv2 : y < 256) (hv3 : z < 256) (hx : xs.length ≤ 900000) :
    Calls Tryd.prog 45 #[.slice (some ⟨w.heap.size, 0, none⟩) 3 3, .pointer (some ⟨h, 0, none⟩)] (w.alloc (.cells #[.int .i64 (x : Int), .int .i64 (y : Int), .int .i64 (z : Int)] 3)) fun e w' => e = .returned (.tuple #[]) ∧ LayN F w w' g (xs ++ (formN 1 x ++ (formN 1 y ++ formN 1 z))) := by
  have h2 := glay_ones F g h 3 [x, y, z] xs #[.int .i64 (x : Int), .int .i64 (y : Int), .int .i64 (z : Int)] rfl rfl w hS hh hnh (by intro u hu; simp at hu; omega) (by omega)
  simpa [formsN] using h2
/-- What goes on, with what it leaves: a state that a walk carries. -/
structure LayT (W : World) (F0 : Nat → Prop) (g h : Nat) (F : Nat → Prop) (w : World) (xs : List Nat) : Prop where
  st : LayS w F g xs
  tn : Turned F0 W w
  new : ∀ b, F b → F0 b ∨ W.heap.size ≤ b
theorem LayT.start {W : World} {F0 : Nat → Prop} {g h : Nat} {xs : List Nat} (hS : LayS W F0 g xs) : LayT W F0 g h F0 W xs := ⟨hS, Turned.refl _ _, fun b hb => Or.inl hb⟩
theorem LayT.clos {W w : World} {F0 F : Nat → Prop} {g h : Nat} {xs : List Nat} (t : LayT W F0 g h F w xs) (hh : ClosC W h g) (hn : ¬ F0 h) : ClosC w h g := t.tn.cell hh hn
theorem LayT.not {W w : World} {F0 F : Nat → Prop} {g h : Nat} {xs : List Nat} (t : LayT W F0 g h F w xs) {b : Nat} (hb : b < W.heap.size) (hn : ¬ F0 b) : ¬ F b := fun e => by
  rcases t.new b e with e | e
  · exact hn e
  · omega
theorem LayT.next {W w w' : World} {F0 F : Nat → Prop} {g h : Nat} {xs ys : List Nat} (t : LayT W F0 g h F w xs) (n : LayN F w w' g ys) : ∃ F', LayT W F0 g h F' w' ys := by
  obtain ⟨F', h1, h2, h3⟩ := LayN.trans t.tn t.new n
  exact ⟨F', h1, h2, h3⟩
theorem LayT.end_ {W w : World} {F0 F : Nat → Prop} {g h : Nat} {xs : List Nat} (t : LayT W F0 g h F w xs) : LayN F0 W w g xs := ⟨F, t.st, t.tn, t.new⟩
theorem LayT.keep {W w w' : World} {F0 F : Nat → Prop} {g h : Nat} {xs : List Nat} (t : LayT W F0 g h F w xs) (k : Keep w w') : LayT W F0 g h F w' xs :=
  ⟨t.st.keep k, t.tn.then_keep k, t.new⟩
end Go.Proofs.YtgkihfemlbhioaaDoor
/- The landed frames: layTopo. -/
namespace Go.Proofs.YtgkihfemlbhioaaDoor
open Go.RowKit Fr
set_option linter.unusedVariables false
set_option linter.unusedSimpArgs false
theorem up_form (b : Bool) : formN 1 (upForm b) = [upForm b] := by cases b <;> rfl
theorem ups_take (l : List Bool) (i : Nat) (b : Bool) (h : l[i]? = some b) : (l.take (i + 1)).map upForm = (l.take i).map upForm ++ formN 1 (upForm b) := by
  rw [List.take_add_one, h, Option.toList_some, List.map_append, up_form]
  rfl
theorem flat_take {α : Type} (f : α → List Nat) (l : List α) (i : Nat) (x : α) (h : l[i]? = some x) : (l.take (i + 1)).flatMap f = (l.take i).flatMap f ++ f x := by
  rw [List.take_add_one, h, Option.toList_some, List.flatMap_append]
  simp
theorem edges_len (l : List (Int × Int)) : (l.flatMap edgeForm).length = 2 * l.length := by
  induction l with
  | nil => rfl
  | cons e l ih => rw [List.flatMap_cons, List.length_append, ih, List.length_cons, edgeForm, List.length_append, formN_length, formN_length]; omega
theorem hops_len (l : List (List (Int × Int))) (h : ∀ r ∈ l, r.length ≤ 128) : (l.flatMap hopForm).length ≤ 257 * l.length := by
  induction l with
  | nil => simp
  | cons e l ih =>
    have h1 := ih (fun r hr => h r (by simp [hr]))
    have h2 := h e (by simp)
    rw [List.flatMap_cons, List.length_append, List.length_cons, hopForm, List.length_append, formN_length, edges_len]; omega
/-- What stands behind a topology's epoch. -/
def topoTail (up : List Bool) (hp : List (List (Int × Int))) : List Nat := formN 1 up.length ++ (up.map upForm ++ (formN 1 hp.length ++ hp.flatMap hopForm))
set_option maxRecDepth 100000 in
set_option maxHeartbeats 4000000 in
theorem glay_topo (F0 : Nat → Prop) (B g h te : Nat) (u hs : SlV) (up : List Bool) (hp : List (List (Int × Int))) (xs : List Nat) (w : World) (hS : LayS w F0 g xs) (hh : ClosC w h g) (hnh : ¬ F0 h) (hF : ∀ b, F0 b → B ≤ b) (hB : B ≤ w.heap.size)
    (hU : UpsAt w B u.A u.n up) (hH : HopsAt w B hs.A hs.n hp) (ok : TopoOk te up hp) (hx : xs.length ≤ 800000) :
    Calls Tryd.prog 47 #[.agg (topoCells te u hs), .func (.func 45) #[] #[.pointer (some ⟨h, 0, none⟩)]] w fun e w' => e = .returned (.tuple #[]) ∧ LayN F0 w w' g (xs ++ topoTail up hp) := by
  obtain ⟨Au, nu, cu⟩ := u
  obtain ⟨Ah, nh, ch⟩ := hs
  dsimp only at *
  have l1 := hU.length
  have l2 := hH.length
  obtain ⟨_, _, u1, u2, h1, h2, hall⟩ := ok
  rw [l1] at u1 u2 hall
  rw [l2] at h1 h2
  have h0lt := World.block_lt_of_cell? w _ hh
  obtain ⟨w2, hw2⟩ : ∃ w2, w.alloc (.cells (topoCells te ⟨Au, nu, cu⟩ ⟨Ah, nh, ch⟩) 30) = w2 := ⟨_, rfl⟩
  obtain ⟨k2, hbox⟩ := to_box w _ te _ _ hw2
  obtain ⟨gt, hgt⟩ : ∃ gt, w.heap.size = gt := ⟨_, rfl⟩
  obtain ⟨x1, x2, x3⟩ := hbox w2 (Keep.refl w2)
  have hgl : gt < w2.heap.size := by rw [← hgt]; exact World.block_lt_of_cell? w2 _ x1
  rw [hgt] at x1 x2 x3
  dsimp only at x2 x3
  have hng : ¬ F0 gt := fun e => by have := hS.2.1 _ e; omega
  -- the state at the beginning
  have t2 : LayT w2 F0 g h F0 w2 xs := LayT.start (hS.keep k2)
  have hh2 : ClosC w2 h g := (World.cell?_of_block (k2.block h h0lt)).trans hh
  have hU2 : UpsAt w2 B Au nu up := hU.keep hB k2
  have hH2 : HopsAt w2 B Ah nh hp := hH.keep hB k2
  have hB2 : B ≤ w2.heap.size := Nat.le_trans hB k2.size
  -- what holds in each later world
  have HBOX : Hid (∀ F wr ys, LayT w2 F0 g h F wr ys → wr.cell? ⟨gt, 1, none⟩ = some (.slice Au nu cu) ∧ wr.cell? ⟨gt, 2, none⟩ = some (.slice Ah nh ch) ∧ ClosC wr h g ∧ ¬ F h ∧ UpsAt wr B Au nu up ∧ HopsAt wr B Ah nh hp ∧ ¬ F gt ∧ (∀ b, F b → B ≤ b) ∧ B ≤ wr.heap.size) := fun F wr ys t =>
    ⟨t.tn.cell x2 hng, t.tn.cell x3 hng, t.clos hh2 hnh, t.not (Nat.lt_of_lt_of_le h0lt k2.size) hnh, hU2.below (t.tn.below hF hB2), hH2.below (t.tn.below hF hB2), t.not hgl hng, fun b hb => by
      rcases t.new b hb with e | e
      · exact hF b e
      · omega, Nat.le_trans hB2 t.tn.size⟩
  have T2 := Lib.hid t2
  have HALL := Lib.hid hall
  have K2 := Lib.hid k2
  have H0 : Hid (Calls Tryd.prog 45 #[.slice (some ⟨w2.heap.size, 0, none⟩) 1 1, .pointer (some ⟨h, 0, none⟩)] (w2.alloc (.cells #[.int .i64 (nu : Int)] 3)) fun e w' => e = .returned (.tuple #[]) ∧ LayN F0 w2 w' g (xs ++ formN 1 nu)) :=
    glay_one F0 g h nu xs w2 t2.st hh2 hnh (by omega) (by omega)
  have L1 := Lib.hid l1
  have L2 := Lib.hid l2
  simp only [topoCells] at hw2
  clear t2 hh2 hU2 hH2 hbox hU hH hS hh hnh hF hall k2 x1 hng hB hB2 h0lt l1 l2
  simp only [topoCells]
  have HW2 := Lib.hid hw2
  have HGT := Lib.hid hgt
  go_enter Tryd.func47, Tryd.ntmps47
  go_wp2_with fail
  refine H0.out.mono ?_
  rintro e w3 ⟨rfl, n3⟩
  obtain ⟨F3, t3⟩ := T2.out.next n3
  have T3 := Lib.hid t3
  obtain ⟨x2, x3, _⟩ := HBOX.out F3 w3 _ t3
  clear n3 t3
  go_wp2_with fail
  go_loopw [19] (fun iv wr => ∃ (i : Nat) (F : Nat → Prop), i ≤ nu ∧ iv = .int .i64 i ∧ LayT w2 F0 g h F wr (xs ++ formN 1 nu ++ (up.take i).map upForm)) (fun iv _ => nu - (intOf iv).toNat)
  case atStart => exact ⟨0, F3, by omega, rfl, by simpa using T3.out⟩
  case round =>
    obtain ⟨i, F, hi, rfl, t⟩ := hrel
    obtain ⟨x2, x3, cl, nh', hU, hH, ng, hFB, hBw⟩ := HBOX.out F wr _ t
    have T := Lib.hid t
    by_cases hlt : i < nu
    · obtain ⟨b, hb⟩ := get_some L1.out hlt
      obtain ⟨p, o, rfl, _, hc⟩ := hU.at_ hb
      have e1 : (0 : Int) ≤ (i : Int) := Int.natCast_nonneg _
      have e2 : (i : Int) < (nu : Int) := by omega
      have hlen : (xs ++ formN 1 nu ++ (up.take i).map upForm).length ≤ 900000 := by
        rw [List.length_append, List.length_append, formN_length, List.length_map, List.length_take]; omega
      have HX := Lib.hid (ups_take up i b hb)
      have HN : Hid (Calls Tryd.prog 45 #[.slice (some ⟨wr.heap.size, 0, none⟩) 1 1, .pointer (some ⟨h, 0, none⟩)] (wr.alloc (.cells #[.int .i64 ((upForm b : Nat) : Int)] 3)) fun e w' => e = .returned (.tuple #[]) ∧ LayN F wr w' g ((xs ++ formN 1 nu ++ (up.take i).map upForm) ++ formN 1 (upForm b))) :=
        glay_one F g h (upForm b) _ wr t.st cl nh' (by cases b <;> decide) hlen
      have HE : ∀ w4, LayN F wr w4 g ((xs ++ formN 1 nu ++ (up.take i).map upForm) ++ formN 1 (upForm b)) → ∃ F', LayT w2 F0 g h F' w4 (xs ++ formN 1 nu ++ (up.take (i + 1)).map upForm) := fun w4 n4 => by
        rw [HX.out, ← List.append_assoc]
        exact T.out.next n4
      have HE := Lib.hid HE
      clear hb x2 x3 cl nh' hU hH ng hFB hBw t hlen
      cases b with
      | true =>
        go_wp2_with fail
        refine HN.out.mono ?_
        rintro e w4 ⟨rfl, n4⟩
        obtain ⟨F4, t4⟩ := HE.out w4 n4
        have T4 := Lib.hid t4
        clear n4 t4 hc
        go_wp2_with fail
        go_roundw
        case rel => exact ⟨i + 1, F4, by omega, by go_num, T4.out⟩
        case measure => simp [intOf]; omega
      | false =>
        go_wp2_with fail
        refine HN.out.mono ?_
        rintro e w4 ⟨rfl, n4⟩
        obtain ⟨F4, t4⟩ := HE.out w4 n4
        have T4 := Lib.hid t4
        clear n4 t4 hc
        go_wp2_with fail
        go_roundw
        case rel => exact ⟨i + 1, F4, by omega, by go_num, T4.out⟩
        case measure => simp [intOf]; omega
    · obtain rfl : i = nu := by omega
      have T5 : Hid (LayT w2 F0 g h F wr (xs ++ formN 1 i ++ up.map upForm)) := by
        show LayT _ _ _ _ _ _ _
        have := t
        rwa [List.take_of_length_le (by rw [L1.out]; exact Nat.le_refl _)] at this
      have H6 : Hid (Calls Tryd.prog 45 #[.slice (some ⟨wr.heap.size, 0, none⟩) 1 1, .pointer (some ⟨h, 0, none⟩)] (wr.alloc (.cells #[.int .i64 (nh : Int)] 3)) fun e w' => e = .returned (.tuple #[]) ∧ LayN F wr w' g ((xs ++ formN 1 i ++ up.map upForm) ++ formN 1 nh)) :=
        glay_one F g h nh _ wr T5.out.st cl nh' (by omega) (by rw [List.length_append, List.length_append, formN_length, List.length_map, L1.out]; omega)
      clear t T x2 cl nh' hU hH ng hFB hBw
      go_wp2_with fail
      refine H6.out.mono ?_
      rintro e w6 ⟨rfl, n6⟩
      obtain ⟨F6, t6⟩ := T5.out.next n6
      have T6 := Lib.hid t6
      obtain ⟨_, y3, _⟩ := HBOX.out F6 w6 _ t6
      clear n6 t6 x3
      go_wp2_with fail
      obtain ⟨ys, hys⟩ : ∃ ys, xs ++ formN 1 i ++ up.map upForm ++ formN 1 nh = ys := ⟨_, rfl⟩
      have hyl : ys.length ≤ 810000 := by
        rw [← hys, List.length_append, List.length_append, List.length_append, formN_length, formN_length, List.length_map, L1.out]; omega
      rw [hys] at T6
      have HY : Hid (ys ++ hp.flatMap hopForm = xs ++ topoTail up hp) := by
        show _ = _
        rw [← hys, topoTail, L1.out, L2.out]
        simp only [List.append_assoc]
      clear hys H6 T5 H0
      go_loopw [40] (fun iv wr => ∃ (i : Nat) (F : Nat → Prop), i ≤ nh ∧ iv = .int .i64 i ∧ LayT w2 F0 g h F wr (ys ++ (hp.take i).flatMap hopForm)) (fun iv _ => nh - (intOf iv).toNat)
      case atStart => exact ⟨0, F6, by omega, rfl, by simpa using T6.out⟩
      case round =>
        obtain ⟨wz, rfl⟩ : ∃ wz, wz = wr := ⟨_, rfl⟩
        obtain ⟨k, F, hk, rfl, t⟩ := hrel
        obtain ⟨x2, x3, cl, nh', hU, hH, ng, hFB, hBw⟩ := HBOX.out F wz _ t
        have T := Lib.hid t
        by_cases hlt : k < nh
        · obtain ⟨r, hr⟩ := get_some L2.out hlt
          obtain ⟨b, off, ⟨As, ns, cs⟩, rfl, hbl, hc, hE, hs1, hs2⟩ := hH.at_ hr
          dsimp only at hc hE hs1 hs2
          have q1 := hE.length
          have hrok := HALL.out r (List.mem_of_getElem? hr)
          rw [q1] at hrok
          obtain ⟨hn128, hedge⟩ := hrok
          have hlen : (ys ++ (hp.take k).flatMap hopForm).length ≤ 820000 := by
            have := hops_len (hp.take k) (fun r hr => (HALL.out r (List.mem_of_mem_take hr)).1)
            rw [List.length_take] at this
            rw [List.length_append]; omega
          have e1 : (0 : Int) ≤ (k : Int) := Int.natCast_nonneg _
          have e2 : (k : Int) < (nh : Int) := by omega
          have HX := Lib.hid (flat_take hopForm hp k r hr)
          obtain ⟨zs, hzs⟩ : ∃ zs, ys ++ (hp.take k).flatMap hopForm = zs := ⟨_, rfl⟩
          rw [hzs] at T t hlen
          have HZ := Lib.hid hzs
          have HN : Hid (Calls Tryd.prog 45 #[.slice (some ⟨wz.heap.size, 0, none⟩) 1 1, .pointer (some ⟨h, 0, none⟩)] (wz.alloc (.cells #[.int .i64 (ns : Int)] 3)) fun e w' => e = .returned (.tuple #[]) ∧ LayN F wz w' g (zs ++ formN 1 ns)) :=
            glay_one F g h ns _ wz t.st cl nh' (by omega) (by omega)
          have TI : Hid (LayT wz F g h F wz zs) := LayT.start t.st
          have HIN : Hid (∀ F' wr ys', LayT wz F g h F' wr ys' → EdgesAt wr B As ns r ∧ ClosC wr h g ∧ ¬ F' h) := fun F' wr ys' t' =>
            ⟨hE.below (t'.tn.below hFB hBw), t'.clos cl nh', t'.not (World.block_lt_of_cell? wz _ cl) nh'⟩
          have HED := Lib.hid hedge
          clear t x2 cl nh' hU hH ng hFB hBw hE hr hzs hedge
          go_wp2_with fail
          refine HN.out.mono ?_
          rintro e w8 ⟨rfl, n8⟩
          obtain ⟨F8, t8⟩ := TI.out.next n8
          have T8 := Lib.hid t8
          clear n8 t8 hc x3
          go_wp2_with fail
          go_loopw [51] (fun iv wr => ∃ (i : Nat) (F' : Nat → Prop), i ≤ ns ∧ iv = .int .i64 i ∧ LayT wz F g h F' wr (zs ++ formN 1 ns ++ (r.take i).flatMap edgeForm)) (fun iv _ => ns - (intOf iv).toNat)
          case atStart => exact ⟨0, F8, by omega, rfl, by simpa using T8.out⟩
          case round =>
            obtain ⟨j, F', hj, rfl, t⟩ := hrel
            obtain ⟨hE, cl, nh'⟩ := HIN.out F' wr _ t
            have T' := Lib.hid t
            by_cases hjl : j < ns
            · obtain ⟨⟨ea, eb⟩, he⟩ := get_some q1 hjl
              obtain ⟨p, o, rfl, _, s1, s2⟩ := hE.at_ he
              dsimp only at s1 s2
              have s2 : wr.cell? ⟨p, o + j * 2 + 1, none⟩ = some (.int .i64 eb) := s2
              obtain ⟨d1, d2, d3, d4, d5⟩ := HED.out (ea, eb) (List.mem_of_getElem? he)
              dsimp only at d1 d2 d3 d4
              obtain ⟨a, rfl⟩ : ∃ a : Nat, ea = a := ⟨ea.toNat, by omega⟩
              obtain ⟨c, rfl⟩ : ∃ c : Nat, eb = c := ⟨eb.toNat, by omega⟩
              have hlen2 : (zs ++ formN 1 ns ++ (r.take j).flatMap edgeForm).length ≤ 830000 := by
                rw [List.length_append, List.length_append, formN_length, edges_len, List.length_take]; omega
              obtain ⟨w7, hw7⟩ : ∃ w7, wr.alloc (.cells #[.int .i64 (a : Int), .int .i64 (c : Int)] 57) = w7 := ⟨_, rfl⟩
              obtain ⟨k7, m0, m1⟩ := two_box wr _ _ _ hw7
              obtain ⟨g7, hg7⟩ : ∃ g7, wr.heap.size = g7 := ⟨_, rfl⟩
              rw [hg7] at m0 m1
              have HX2 : Hid ((r.take (j + 1)).flatMap edgeForm = (r.take j).flatMap edgeForm ++ (formN 1 a ++ formN 1 c)) := flat_take edgeForm r j _ he
              have e3 : (0 : Int) ≤ (j : Int) := Int.natCast_nonneg _
              have e4 : (j : Int) < (ns : Int) := by omega
              have T7 := t.keep k7
              have HN7 : Hid (Calls Tryd.prog 45 #[.slice (some ⟨w7.heap.size, 0, none⟩) 2 2, .pointer (some ⟨h, 0, none⟩)] (w7.alloc (.cells #[.int .i64 (a : Int), .int .i64 (c : Int)] 3)) fun e w' => e = .returned (.tuple #[]) ∧ LayN F' w7 w' g (zs ++ formN 1 ns ++ (r.take j).flatMap edgeForm ++ (formN 1 a ++ formN 1 c))) :=
                glay_two F' g h a c _ w7 T7.st ((World.cell?_of_block (k7.block h (World.block_lt_of_cell? wr _ cl))).trans cl) nh' (by omega) (by omega) (by omega)
              have HE2 : Hid (∀ w4, LayN F' w7 w4 g (zs ++ formN 1 ns ++ (r.take j).flatMap edgeForm ++ (formN 1 a ++ formN 1 c)) → ∃ F'', LayT wz F g h F'' w4 (zs ++ formN 1 ns ++ (r.take (j + 1)).flatMap edgeForm)) := fun w4 n4 => by
                rw [HX2.out, ← List.append_assoc]
                exact T7.next n4
              clear hE cl nh' t T7 k7 he hlen2
              go_wp2_with fail
              refine HN7.out.mono ?_
              rintro e w9 ⟨rfl, n9⟩
              obtain ⟨F9, t9⟩ := HE2.out w9 n9
              have T9 := Lib.hid t9
              clear n9 t9 s1 s2 m0 m1
              go_wp2_with fail
              exact ⟨⟨j + 1, F9, by omega, by go_num, T9.out⟩, by simp [intOf]; omega⟩
            · obtain rfl : j = ns := by omega
              have TE : Hid (LayN F wz wr g (ys ++ (hp.take (k + 1)).flatMap hopForm)) := by
                show LayN _ _ _ _ _
                have := t.end_
                rw [List.take_of_length_le (by rw [q1]; exact Nat.le_refl _)] at this
                rw [HX.out, hopForm, q1, ← List.append_assoc, ← List.append_assoc, HZ.out]
                exact this
              obtain ⟨FE, tE⟩ := T.out.next TE.out
              have TE2 := Lib.hid tE
              clear hE cl nh' t tE
              go_wp2_with fail
              go_roundw
              case rel => exact ⟨k + 1, FE, by omega, by go_num, TE2.out⟩
              case measure => simp [intOf]; omega
        · obtain rfl : k = nh := by omega
          have TE : Hid (LayN F0 w wz g (xs ++ topoTail up hp)) := by
            show LayN _ _ _ _ _
            have := t.end_
            rw [List.take_of_length_le (by rw [L2.out]; exact Nat.le_refl _), HY.out] at this
            exact this.later K2.out
          clear t x2 x3 cl nh' hU hH ng hFB hBw
          go_wp2_with fail
          go_end0
          exact ⟨rfl, TE.out⟩
end Go.Proofs.YtgkihfemlbhioaaDoor
