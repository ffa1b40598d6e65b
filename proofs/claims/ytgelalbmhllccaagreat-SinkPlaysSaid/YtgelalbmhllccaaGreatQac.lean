/- Vectors over the field, as lists of numbers: sums, products, leads, units, combinations; that they are a space. -/
import Derived.Test.YtgelalbmhllccaaGreatQab
import Derived.Test.YtgelalbmhllccaaGreatQaa
import Derived.Laws.MakeOwn
import Derived.Deep.RegionHeld3
import Derived.Tactics
import Derived.Laws.Rows
import Derived.StillTailTactics
namespace Go.Proofs.YtgelalbmhllccaaGreat

/-- n numbers, number i what f makes of i. -/
def tab (n : Nat) (f : Nat → Nat) : List Nat := (List.range n).map f
theorem tab_length (n : Nat) (f : Nat → Nat) : (tab n f).length = n := by simp [tab]
theorem tab_succ (n : Nat) (f : Nat → Nat) : tab (n + 1) f = tab n f ++ [f n] := by simp [tab, List.range_succ]
theorem tab_getD (n : Nat) (f : Nat → Nat) (i : Nat) : (tab n f).getD i 0 = if i < n then f i else 0 := by
  rw [List.getD_eq_getElem?_getD]
  by_cases h : i < n
  · simp [tab, h]
  · rw [if_neg h, List.getElem?_eq_none (by rw [tab_length]; omega)]; rfl
theorem tab_congr {n : Nat} {f g : Nat → Nat} (h : ∀ i, i < n → f i = g i) : tab n f = tab n g := by
  induction n with
  | zero => rfl
  | succ n ih => rw [tab_succ, tab_succ, ih fun i hi => h i (by omega), h n (by omega)]
theorem tab_self (xs : List Nat) : tab xs.length (fun i => xs.getD i 0) = xs := by
  apply List.ext_getElem?
  intro i
  by_cases h : i < xs.length
  · rw [List.getElem?_eq_getElem h]
    simp [tab, h]
  · rw [List.getElem?_eq_none (by rw [tab_length]; omega), List.getElem?_eq_none (by omega)]
theorem list_ext {xs ys : List Nat} (hl : xs.length = ys.length) (h : ∀ i, i < xs.length → xs.getD i 0 = ys.getD i 0) : xs = ys := by
  rw [← tab_self xs, ← tab_self ys, ← hl]
  exact tab_congr h

/-- The sum of the first n of f. -/
def sumX (f : Nat → Nat) : Nat → Nat
  | 0 => 0
  | n + 1 => sumX f n ^^^ f n
theorem sumX_lt (f : Nat → Nat) (n : Nat) (h : ∀ i, i < n → f i < 256) : sumX f n < 256 := by
  induction n with
  | zero => exact (by decide : 0 < 256)
  | succ n ih => exact xor_lt (ih fun i hi => h i (by omega)) (h n (by omega))
theorem sumX_congr {f g : Nat → Nat} {n : Nat} (h : ∀ i, i < n → f i = g i) : sumX f n = sumX g n := by
  induction n with
  | zero => rfl
  | succ n ih => rw [sumX, sumX, ih fun i hi => h i (by omega), h n (by omega)]
/-- The calls, as the chapter tells them. -/
def vAddS (n : Nat) (xs ys : List Nat) (c : Nat) : List Nat := tab n fun i => xs.getD i 0 ^^^ mulN (ys.getD i 0) c
def vScale (n : Nat) (xs : List Nat) (c : Nat) : List Nat := tab n fun i => mulN (xs.getD i 0) c
/-- The least place from k on, of the first n. -/
def vLeadTo (xs : List Nat) : Nat → Option Nat
  | 0 => none
  | n + 1 => match vLeadTo xs n with
    | some i => some i
    | none => if xs.getD n 0 = 0 then none else some n
def vLead (n : Nat) (xs : List Nat) : Int := match vLeadTo xs n with
  | some i => (i : Int)
  | none => -1
/-- The first k rows, each multiplied with its number: number j. -/
def vCombAt (rows : List (List Nat)) (c : List Nat) (k j : Nat) : Nat := sumX (fun i => mulN ((rows.getD i []).getD j 0) (c.getD i 0)) k
def vComb (n : Nat) (rows : List (List Nat)) (c : List Nat) (k : Nat) : List Nat := tab n (vCombAt rows c k)

theorem vLeadTo_none (xs : List Nat) (n : Nat) : vLeadTo xs n = none ↔ ∀ i, i < n → xs.getD i 0 = 0 := by
  induction n with
  | zero => exact ⟨fun _ i hi => by omega, fun _ => rfl⟩
  | succ n ih =>
    constructor
    · intro h
      rw [vLeadTo] at h
      cases h1 : vLeadTo xs n with
      | some k => rw [h1] at h; cases h
      | none =>
        rw [h1] at h
        have h2 := ih.1 h1
        intro i hi
        by_cases e : i = n
        · subst e
          by_cases hz : xs.getD i 0 = 0
          · exact hz
          · rw [if_neg hz] at h; cases h
        · exact h2 i (by omega)
    · intro h
      have h1 := ih.2 fun i hi => h i (by omega)
      rw [vLeadTo, h1, if_pos (h n (by omega))]
theorem vLeadTo_some (xs : List Nat) (n : Nat) : ∀ k, vLeadTo xs n = some k ↔ k < n ∧ xs.getD k 0 ≠ 0 ∧ ∀ i, i < k → xs.getD i 0 = 0 := by
  induction n with
  | zero => exact fun k => ⟨fun h => by simp [vLeadTo] at h, fun h => absurd h.1 (by omega)⟩
  | succ n ih' =>
    intro k
    rw [vLeadTo]
    cases h1 : vLeadTo xs n with
    | some j =>
      have h2 := (ih' j).1 h1
      constructor
      · intro h
        injection h with h
        subst h
        exact ⟨by omega, h2.2⟩
      · intro h
        have : k = j := by
          rcases Nat.lt_trichotomy k j with h3 | h3 | h3
          · exact absurd (h2.2.2 k h3) h.2.1
          · exact h3
          · exact absurd (h.2.2 j h3) h2.2.1
        rw [this]
    | none =>
      have h2 := (vLeadTo_none xs n).1 h1
      constructor
      · intro h
        by_cases hz : xs.getD n 0 = 0
        · rw [if_pos hz] at h; cases h
        · rw [if_neg hz] at h
          injection h with h
          subst h
          exact ⟨by omega, hz, h2⟩
      · intro h
        have : k = n := by
          by_cases e : k < n
          · exact absurd (h2 k e) h.2.1
          · omega
        subst this
        rw [if_neg h.2.1]
end Go.Proofs.YtgelalbmhllccaaGreat
/- Words for combinations (plain). -/
namespace Go.Proofs.YtgelalbmhllccaaGreat
open Go.RowKit
set_option linter.unusedVariables false
set_option linter.unusedSimpArgs false
open Go.RowKit

theorem vComb_zero (n : Nat) (rows : List (List Nat)) (c : List Nat) : vComb n rows c 0 = List.replicate n 0 := by
  refine list_ext (by simp [vComb, tab_length]) fun i hi => ?_
  rw [vComb, tab_length] at hi
  rw [vComb, tab_getD, if_pos hi, List.getD_eq_getElem?_getD, List.getElem?_replicate, if_pos hi]; rfl
theorem vComb_succ (n k : Nat) (rows : List (List Nat)) (c : List Nat) : vAddS n (vComb n rows c k) (rows.getD k []) (c.getD k 0) = vComb n rows c (k + 1) :=
  tab_congr fun i hi => by rw [vComb, tab_getD, if_pos hi]; rfl

/-- The combination, or that the rows don't fit. -/
def combOf (n : Nat) (rs : List RowV) (c : List Nat) : List Nat := if ∀ r ∈ rs, r.n = n then vComb n (rowsOf rs) c rs.length else []
def combErr (n : Nat) (rs : List RowV) : Int := if ∀ r ∈ rs, r.n = n then 0 else 21
end Go.Proofs.YtgelalbmhllccaaGreat
/- Slices of slices of bytes, made and stored to. -/
namespace Go.Proofs.YtgelalbmhllccaaGreat
open Go.RowKit
theorem run_make_rows {P : Program} {t e : TypeId} (ht : P.underlying t = some (.slice e)) (hi : (P.info? e).map (fun i => (i.zero, i.size, i.bytes)) = some (some (.slice none 0 0), 1, 24)) (n : Nat) (hn : n ≤ 1000000) (w : World) :
    (Instr.makeSlice t (.int .i64 (n : Int)) (.int .i64 (n : Int))).run P w = .ok (.slice (some ⟨w.heap.size, 0, none⟩) n n) (w.alloc (.cells (madeCells #[.slice none 0 0] n) e)) := by
  obtain ⟨i0, hi0, hz0, hz1, hz2⟩ := info_parts hi
  have h := run_make (P := P) w t e i0 (.slice none 0 0) ht hi0 hz0 .i64 .i64 n n (by omega) (Int.le_refl _) (by rw [hz2]; omega) (by omega)
  simpa [hz1, Value.cells] using h
theorem OwnRows.made (w : World) (e : TypeId) (n : Nat) (hn : n ≤ 1000000) : OwnRows (w.alloc (.cells (madeCells #[.slice none 0 0] n) e)) w.heap.size e (some ⟨w.heap.size, 0, none⟩) n n (List.replicate n ⟨none, 0, 0, []⟩) := by
  have h := World.ownsRow_lit (w := w) (base := w.heap.size) (e := e) (size := 1) (madeCells #[.slice none 0 0] n) n (Nat.le_refl _) (by unfold maxLen; omega) (by rw [size_madeCells]; simp)
  rw [toList_madeCells_one] at h
  simpa [OwnRows, RowV.val] using h
theorem OwnRows.stored {w : World} {base n c g i : Nat} {e : TypeId} {rs : List RowV} (h : OwnRows w base e (some ⟨g, 0, none⟩) n c rs) (r : RowV) : OwnRows (w.setCell ⟨g, i, none⟩ (.slice r.A r.n r.c)) base e (some ⟨g, 0, none⟩) n c (rs.set i r) := by
  have := World.ownsRow.stored h i (.slice r.A r.n r.c)
  unfold OwnRows
  rw [List.map_set]; exact this.1
end Go.Proofs.YtgelalbmhllccaaGreat
/- A region that draws its order, walked by hand: what is held may grow on the way. -/
namespace Go.Proofs.YtgelalbmhllccaaGreat

section
variable {P : Program} {ops : Array Oper} {Q : Exit → Act → World → Prop} {md : Region.Mode} {S S' : World → Prop}
end
end Go.Proofs.YtgelalbmhllccaaGreat
/- Contracts of the document's own answers of layer 7: rows, sums of bytes, what coefficients make of symbols. -/
namespace Go.Proofs.YtgelalbmhllccaaGreat
open Go.RowKit
set_option linter.unusedVariables false
set_option linter.unusedSimpArgs false
theorem infoRowSize : (Tryz.prog.info? 45).map (·.size) = some 2 := by kernel_rfl
/-- What a sum of bytes has done: the first i places. -/
def partS (n : Nat) (xs ys : List Nat) (c i : Nat) : List Nat := tab n fun j => if j < i then xs.getD j 0 ^^^ mulN (ys.getD j 0) c else xs.getD j 0
theorem partS_zero {n : Nat} {xs : List Nat} (ys : List Nat) (c : Nat) (h : xs.length = n) : partS n xs ys c 0 = xs := by
  subst h
  exact (tab_congr fun j _ => by rw [if_neg (by omega)]).trans (tab_self xs)
theorem partS_all (n : Nat) (xs ys : List Nat) (c : Nat) : partS n xs ys c n = vAddS n xs ys c := tab_congr fun j hj => by rw [if_pos hj]
theorem partS_getD {n : Nat} (xs ys : List Nat) (c : Nat) {i : Nat} (hi : i < n) : (partS n xs ys c i).getD i 0 = xs.getD i 0 := by rw [partS, tab_getD, if_pos hi, if_neg (by omega)]
theorem partS_set {n : Nat} (xs ys : List Nat) (c : Nat) {i : Nat} (hi : i < n) : (partS n xs ys c i).set i (xs.getD i 0 ^^^ mulN (ys.getD i 0) c) = partS n xs ys c (i + 1) := by
  refine list_ext (by simp [partS, tab_length]) fun j hj => ?_
  rw [List.length_set, partS, tab_length] at hj
  have e2 : (partS n xs ys c (i + 1)).getD j 0 = if j < i + 1 then xs.getD j 0 ^^^ mulN (ys.getD j 0) c else xs.getD j 0 := by rw [partS, tab_getD, if_pos hj]
  rw [e2, List.getD_eq_getElem?_getD, List.getElem?_set]
  by_cases e : i = j
  · subst e
    rw [if_pos rfl, if_pos (by simp [partS, tab_length]; omega), if_pos (by omega)]; rfl
  · rw [if_neg e, ← List.getD_eq_getElem?_getD, partS, tab_getD, if_pos hj]
    by_cases h1 : j < i
    · rw [if_pos h1, if_pos (by omega)]
    · rw [if_neg h1, if_neg (by omega)]
set_option maxRecDepth 100000 in
set_option maxHeartbeats 1000000 in
theorem rplus_any (B B' n m ca cb c : Nat) (A A' : Option Addr) (xs ys : List Nat) (w : World) (h : Bytes w B A n xs) (h' : Bytes w B' A' m ys) (hB : B ≤ w.heap.size) (hB' : B' ≤ w.heap.size) (hn : n ≤ 1000000) (hm : n ≤ m) (hc : c < 256) :
    Calls Tryz.prog 131 #[.slice A n ca, .slice A' m cb, .int .u8 c] w (NewBytes w (vAddS n xs ys c)) := by
  have HH := Lib.hid (And.intro h h')
  clear h h'
  go_enter Tryz.func131, Tryz.ntmps131
  go_wp2_with fail
  refine (rown_any B n ca A xs _ HH.out.1 (by omega)).mono ?_
  rintro e w1 ⟨A1, n1, c1, rfl, o1, k1⟩
  obtain rfl : n = n1 := by rw [← o1.length, HH.out.1.length]
  have O1 := Lib.hid o1
  have K1 := Lib.hid k1
  have HL := Lib.hid (own_le' o1)
  clear o1 k1
  go_wp2_with fail
  go_loopw [8] (fun i wr => ∃ j : Nat, j ≤ n ∧ i = .int .i64 j ∧ Own wr w.heap.size 5 A1 n c1 (partS n xs ys c j) ∧ Keep w wr) (fun i _ => n - (intOf i).toNat)
  case atStart => exact ⟨0, by omega, rfl, by rw [partS_zero ys c HH.out.1.length]; exact O1.out, K1.out⟩
  case round =>
    obtain ⟨j, hj, rfl, ho, hk⟩ := hrel
    by_cases hlt : j < n
    · obtain ⟨g, rfl, hg, hgl⟩ := ho.block (by omega)
      have cx := ho.cell hlt
      rw [partS_getD xs ys c hlt] at cx
      have fx := ho.frozen j
      obtain ⟨b2, o2, rfl, hb2, cy⟩ := (HH.out.2.keep hB' hk).at_ (show j < m by omega)
      have hx := HH.out.1.all.getD j
      have hy := HH.out.2.all.getD j
      have hst := partS_set xs ys c hlt
      generalize xs.getD j 0 = x at *
      generalize ys.getD j 0 = y at *
      obtain ⟨p, hp⟩ : ∃ p, mulN y c = p := ⟨_, rfl⟩
      have hp2 : p < 256 := by rw [← hp]; exact mulN_lt _ hy
      rw [hp] at hst
      have hxor := u8_xor_nat x p hx hp2
      obtain ⟨v, hv⟩ : ∃ v, x ^^^ p = v := ⟨_, rfl⟩
      have hv2 : v < 256 := by rw [← hv]; exact xor_lt hx hp2
      rw [hv] at hst hxor
      have C0 : Hid (Calls Tryz.prog 130 #[.int .u8 y, .int .u8 c] wr.drew fun e w' => e = .returned (.int .u8 (p : Int)) ∧ w' = wr.drew) := (rmul_eq y c p hy hc hp _).mono fun e w' h => ⟨h.1, h.2.symm⟩
      have HST := Lib.hid hst
      have HV := Lib.hid (And.intro hv2 (ho.1.lt g rfl).1)
      have HO := Lib.hid ho
      have HK := Lib.hid hk
      have e1 : (0 : Int) ≤ (j : Int) := Int.natCast_nonneg _
      have e2 : (j : Int) < (n : Int) := by omega
      have e3 : (j : Int) < (m : Int) := by omega
      clear ho hk hst hp hv hv2
      go_wp2_with fail
      refine wp_region_still_tail (w := wr) 14 (by kernel_rfl) (by kernel_rfl) ?_
      simp only [List.take_succ_cons, List.take_zero, List.drop_succ_cons, List.drop_zero]
      change wpStill _ _ (World.drew wr) _ _ _
      iterate 11 still_step
      still_call C0.out
      iterate 2 still_step
      refine wpStill_nil ?_
      change wpList _ _ _ _ _ (World.drew wr)
      go_wp2_with fail
      go_roundw
      case rel => exact ⟨j + 1, by omega, by go_num, by rw [← HST.out]; exact ⟨(HO.out.stored HV.out.1).1, (HO.out.stored (i := j) HV.out.1).2⟩, HK.out.drew.setCell HV.out.2 _⟩
      case measure => simp [intOf]; omega
    · obtain rfl : j = n := by omega
      rw [partS_all] at ho
      go_wp2_with fail
      go_ret
      exact ⟨_, _, _, rfl, ho, hk⟩
end Go.Proofs.YtgelalbmhllccaaGreat
/- Matrices as lists of lists: the plain mathematics of layer 6's answers. -/
namespace Go.Proofs.YtgelalbmhllccaaGreat
/-- Are all rows of one length? -/
def fits (M : List (List Nat)) : Prop := ∀ r ∈ M, r.length = (M.headD []).length
instance (M : List (List Nat)) : Decidable (fits M) := by unfold fits; infer_instance
def sizeR (M : List (List Nat)) : Nat := if fits M then M.length else 0
def sizeC (M : List (List Nat)) : Nat := if fits M then (M.headD []).length else 0
/-- A product's number, its row, the product. -/
def dotN (r : List Nat) (N : List (List Nat)) (k n : Nat) : Nat := sumX (fun i => mulN (r.getD i 0) ((N.getD i []).getD k 0)) n
def rowN (r : List Nat) (N : List (List Nat)) (n c : Nat) : List Nat := tab c fun k => dotN r N k n
/-- The row, cleared by the first k rows. -/
def clearTo (nc : Nat) (M : List (List Nat)) (row : List Nat) : Nat → List Nat
  | 0 => row
  | k + 1 => vAddS nc (clearTo nc M row k) (M.getD k []) ((clearTo nc M row k).getD (vLead nc (M.getD k [])).toNat 0)
theorem clearTo_len (nc : Nat) (M : List (List Nat)) (row : List Nat) (h : row.length = nc) : ∀ k, (clearTo nc M row k).length = nc
  | 0 => h
  | _ + 1 => tab_length _ _
theorem vAddS_all {n c : Nat} {xs ys : List Nat} (hx : AllB xs) (hy : AllB ys) : AllB (vAddS n xs ys c) := fun x hm => by
  obtain ⟨i, _, rfl⟩ := List.mem_map.1 hm
  exact xor_lt (hx.getD i) (mulN_lt _ (hy.getD i))
theorem vScale_all {n c : Nat} {xs : List Nat} (hx : AllB xs) : AllB (vScale n xs c) := fun x hm => by
  obtain ⟨i, _, rfl⟩ := List.mem_map.1 hm
  exact mulN_lt _ (hx.getD i)
/-- The other rows, cleared; the new one laid ahead of the first whose lead lies behind. -/
def layTo (nc : Nat) (M : List (List Nat)) (u : List Nat) (L : Nat) : Nat → List (List Nat) × Bool
  | 0 => ([], false)
  | k + 1 =>
    let p := layTo nc M u L k
    let hit := !p.2 && decide ((L : Int) < vLead nc (M.getD k []))
    ((if hit = true then p.1 ++ [u] else p.1) ++ [vAddS nc (M.getD k []) u ((M.getD k []).getD L 0)], p.2 || hit)
/-- A row put into a reduced matrix. -/
def insertN (nc : Nat) (M : List (List Nat)) (row : List Nat) : List (List Nat) :=
  let v := clearTo nc M row M.length
  if vLead nc v < 0 then M
  else
    let L := (vLead nc v).toNat
    let u := vScale nc v (invN (v.getD L 0))
    let p := layTo nc M u L M.length
    if p.2 = true then p.1 else p.1 ++ [u]
end Go.Proofs.YtgelalbmhllccaaGreat
/- Rows over a field of characteristic 2, plainly: spans, free rows, reduced matrices (one form of one span), ranks, products, transposes, units (layers 6 to 8). No dump. -/
namespace Go.Proofs.YtgelalbmhllccaaGreat.Lin
/-- What a field of characteristic 2 keeps. -/
structure Laws (B : Type) [Add B] [Mul B] [Zero B] [One B] : Prop where
  add_comm : ∀ a b : B, a + b = b + a
  add_assoc : ∀ a b c : B, a + b + c = a + (b + c)
  add_zero : ∀ a : B, a + 0 = a
  add_self : ∀ a : B, a + a = 0
  mul_comm : ∀ a b : B, a * b = b * a
  mul_assoc : ∀ a b c : B, a * b * c = a * (b * c)
  one_mul : ∀ a : B, 1 * a = a
  mul_add : ∀ a b c : B, a * (b + c) = a * b + a * c
  mul_zero : ∀ a : B, a * 0 = 0
  inv : ∀ a : B, a ≠ 0 → ∃ b, b * a = 1
  nought : (1 : B) ≠ 0
section
variable {B : Type} [Add B] [Mul B] [Zero B] [One B]
namespace Laws
theorem zero_add (K : Laws B) (a : B) : 0 + a = a := by rw [K.add_comm, K.add_zero]
theorem zero_mul (K : Laws B) (a : B) : 0 * a = 0 := by rw [K.mul_comm, K.mul_zero]
theorem mul_one (K : Laws B) (a : B) : a * 1 = a := by rw [K.mul_comm, K.one_mul]
theorem add_mul (K : Laws B) (a b c : B) : (a + b) * c = a * c + b * c := by rw [K.mul_comm, K.mul_add, K.mul_comm c, K.mul_comm c]
theorem add_left_comm (K : Laws B) (a b c : B) : a + (b + c) = b + (a + c) := by rw [← K.add_assoc, K.add_comm a b, K.add_assoc]
theorem add_add_comm (K : Laws B) (a b c d : B) : a + b + (c + d) = a + c + (b + d) := by rw [K.add_assoc, K.add_left_comm b, ← K.add_assoc]
theorem eq_of_add (K : Laws B) {a b : B} (h : a + b = 0) : a = b := by rw [← K.add_zero a, ← K.add_self b, ← K.add_assoc, h, K.zero_add]
theorem mul_eq_zero (K : Laws B) {a b : B} (h : a * b = 0) (ha : a ≠ 0) : b = 0 := by
  obtain ⟨c, hc⟩ := K.inv a ha
  rw [← K.one_mul b, ← hc, K.mul_assoc, h, K.mul_zero]
end Laws
/-- Sums. -/
def sm : Nat → (Nat → B) → B
  | 0, _ => 0
  | n + 1, f => sm n f + f n
theorem sm_congr {B : Type} [Add B] [Zero B] {n : Nat} {f g : Nat → B} (h : ∀ i, i < n → f i = g i) : sm n f = sm n g := by
  induction n with
  | zero => rfl
  | succ n ih => rw [sm, sm, ih fun i hi => h i (by omega), h n (by omega)]
theorem sm_zero (K : Laws B) (n : Nat) {f : Nat → B} (h : ∀ i, i < n → f i = 0) : sm n f = 0 := by
  induction n with
  | zero => rfl
  | succ n ih => rw [sm, ih fun i hi => h i (by omega), h n (by omega), K.add_zero]
theorem sm_add (K : Laws B) (n : Nat) (f g : Nat → B) : sm n (fun i => f i + g i) = sm n f + sm n g := by
  induction n with
  | zero => exact (K.add_zero 0).symm
  | succ n ih => rw [sm, sm, sm, ih, K.add_add_comm]
theorem sm_mul (K : Laws B) (n : Nat) (a : B) (f : Nat → B) : sm n (fun i => a * f i) = a * sm n f := by
  induction n with
  | zero => exact (K.mul_zero a).symm
  | succ n ih => rw [sm, sm, ih, K.mul_add]
theorem sm_swap (K : Laws B) (n m : Nat) (f : Nat → Nat → B) : sm n (fun i => sm m (f i)) = sm m (fun j => sm n (fun i => f i j)) := by
  induction n with
  | zero => exact (sm_zero K m fun _ _ => rfl).symm
  | succ n ih => rw [sm, ih, ← sm_add K]; rfl
theorem sm_one (K : Laws B) {n k : Nat} (hk : k < n) {f : Nat → B} (h : ∀ i, i < n → i ≠ k → f i = 0) : sm n f = f k := by
  induction n with
  | zero => omega
  | succ n ih =>
    rw [sm]
    by_cases e : k = n
    · subst e
      rw [sm_zero K k fun i hi => h i (by omega) (by omega), K.zero_add]
    · rw [ih (by omega) fun i hi => h i (by omega), h n (by omega) (fun e2 => e e2.symm), K.add_zero]
/-- What r rows, each with its factor, make. -/
def comb (r : Nat) (M : Nat → Nat → B) (c : Nat → B) : Nat → B := fun j => sm r fun i => c i * M i j
def InSpan (r : Nat) (M : Nat → Nat → B) (v : Nat → B) : Prop := ∃ c, v = comb r M c
/-- Each row of the one lies in the other's span. -/
def Within (r : Nat) (M : Nat → Nat → B) (s : Nat) (N : Nat → Nat → B) : Prop := ∀ i, i < r → InSpan s N (M i)
theorem InSpan.add (K : Laws B) {r : Nat} {M : Nat → Nat → B} {u v : Nat → B} (h : InSpan r M u) (k : InSpan r M v) : InSpan r M fun j => u j + v j := by
  obtain ⟨c, rfl⟩ := h
  obtain ⟨d, rfl⟩ := k
  refine ⟨fun i => c i + d i, funext fun j => ?_⟩
  show sm r (fun i => c i * M i j) + sm r (fun i => d i * M i j) = sm r fun i => (c i + d i) * M i j
  rw [← sm_add K]
  exact sm_congr fun i _ => (K.add_mul _ _ _).symm
theorem InSpan.mul (K : Laws B) {r : Nat} {M : Nat → Nat → B} {v : Nat → B} (a : B) (h : InSpan r M v) : InSpan r M fun j => a * v j := by
  obtain ⟨c, rfl⟩ := h
  refine ⟨fun i => a * c i, funext fun j => ?_⟩
  show a * sm r (fun i => c i * M i j) = sm r fun i => a * c i * M i j
  rw [← sm_mul K]
  exact sm_congr fun i _ => (K.mul_assoc _ _ _).symm
theorem InSpan.zero (K : Laws B) (r : Nat) (M : Nat → Nat → B) : InSpan r M fun _ => 0 :=
  ⟨fun _ => 0, funext fun _ => (sm_zero K r fun _ _ => K.zero_mul _).symm⟩
theorem InSpan.row (K : Laws B) {r i : Nat} (M : Nat → Nat → B) (hi : i < r) : InSpan r M (M i) := by
  refine ⟨fun k => if k = i then 1 else 0, funext fun j => ?_⟩
  show M i j = sm r fun k => (if k = i then 1 else 0) * M k j
  rw [sm_one K hi]
  · rw [if_pos rfl, K.one_mul]
  · intro k _ hk
    rw [if_neg hk, K.zero_mul]
theorem InSpan.sum (K : Laws B) {r : Nat} {M : Nat → Nat → B} (n : Nat) (u : Nat → Nat → B) (h : ∀ i, i < n → InSpan r M (u i)) : InSpan r M fun j => sm n fun i => u i j := by
  induction n with
  | zero => exact InSpan.zero K r M
  | succ n ih => exact InSpan.add K (ih fun i hi => h i (by omega)) (h n (by omega))
theorem InSpan.trans (K : Laws B) {r s : Nat} {M N : Nat → Nat → B} {v : Nat → B} (h : InSpan r M v) (k : Within r M s N) : InSpan s N v := by
  obtain ⟨c, rfl⟩ := h
  exact InSpan.sum K r (fun i j => c i * M i j) fun i hi => InSpan.mul K (c i) (k i hi)
theorem Within.refl (K : Laws B) (r : Nat) (M : Nat → Nat → B) : Within r M r M := fun _ hi => InSpan.row K M hi
theorem Within.trans (K : Laws B) {r s t : Nat} {M N O : Nat → Nat → B} (h : Within r M s N) (k : Within s N t O) : Within r M t O := fun i hi => InSpan.trans K (h i hi) k
/-- Rows of which only noughts make noughts. -/
def Free (r : Nat) (M : Nat → Nat → B) : Prop := ∀ c : Nat → B, (∀ j, comb r M c j = 0) → ∀ i, i < r → c i = 0
/-- All places but one. -/
def skip (p i : Nat) : Nat := if i < p then i else i + 1
theorem skip_ne (p i : Nat) : skip p i ≠ p := by unfold skip; split <;> omega
theorem skip_back (p i : Nat) : (if skip p i < p then skip p i else skip p i - 1) = i := by
  by_cases h : i < p
  · have e : skip p i = i := by rw [skip, if_pos h]
    rw [e, if_pos h]
  · have e : skip p i = i + 1 := by rw [skip, if_neg h]
    rw [e, if_neg (by omega)]; omega
theorem skip_lt {p i n : Nat} (hi : i < n) : skip p i < n + 1 := by unfold skip; split <;> omega
theorem sm_skip (K : Laws B) (n p : Nat) (hp : p ≤ n) (f : Nat → B) : sm (n + 1) f = f p + sm n fun i => f (skip p i) := by
  induction n with
  | zero =>
    obtain rfl : p = 0 := by omega
    show 0 + f 0 = f 0 + 0
    rw [K.zero_add, K.add_zero]
  | succ n ih =>
    by_cases e : p = n + 1
    · subst e
      rw [sm, K.add_comm]
      congr 1
      exact sm_congr fun i hi => by rw [skip, if_pos hi]
    · rw [sm, ih (by omega), sm, K.add_assoc, show skip p n = n + 1 by rw [skip, if_neg (by omega)]]
/-- More unknowns than equations: a solution that is not all noughts. -/
theorem kernel [DecidableEq B] (K : Laws B) : ∀ (s r : Nat) (C : Nat → Nat → B), s < r → ∃ d : Nat → B, (∃ i, i < r ∧ d i ≠ 0) ∧ ∀ k, k < s → sm r (fun i => d i * C i k) = 0
  | 0, r, C, h => ⟨fun _ => 1, ⟨0, h, K.nought⟩, fun k hk => by omega⟩
  | s + 1, r, C, h => by
    obtain ⟨n, rfl⟩ : ∃ n, r = n + 1 := ⟨r - 1, by omega⟩
    by_cases hz : ∀ i, i < n + 1 → C i s = 0
    · obtain ⟨d, hd, hk⟩ := kernel K s (n + 1) C (by omega)
      refine ⟨d, hd, fun k hks => ?_⟩
      by_cases e : k = s
      · subst e
        exact sm_zero K _ fun i hi => by rw [hz i hi, K.mul_zero]
      · exact hk k (by omega)
    · obtain ⟨p, hp⟩ := Classical.not_forall.1 hz
      obtain ⟨hpn, hps⟩ := Classical.not_imp.1 hp
      obtain ⟨v, hv⟩ := K.inv _ hps
      obtain ⟨d, ⟨i0, hi0, hd0⟩, hk⟩ := kernel K s n (fun i k => C (skip p i) k + C (skip p i) s * v * C p k) (by omega)
      have hdx : ∀ i, (if skip p i = p then sm n (fun i => d i * (C (skip p i) s * v)) else d (if skip p i < p then skip p i else skip p i - 1)) = d i := fun i => by
        rw [if_neg (skip_ne p i), skip_back]
      have key : ∀ k, sm (n + 1) (fun i => (if i = p then sm n (fun i => d i * (C (skip p i) s * v)) else d (if i < p then i else i - 1)) * C i k) = sm n fun i => d i * (C (skip p i) k + C (skip p i) s * v * C p k) := fun k => by
        rw [sm_skip K n p (by omega), if_pos rfl]
        have e : sm n (fun i => d i * (C (skip p i) k + C (skip p i) s * v * C p k)) = sm n (fun i => d i * C (skip p i) k) + sm n (fun i => d i * (C (skip p i) s * v)) * C p k := by
          rw [K.mul_comm _ (C p k), ← sm_mul K, ← sm_add K]
          exact sm_congr fun i _ => by rw [K.mul_add, K.mul_comm (C p k), K.mul_assoc (d i)]
        rw [e, K.add_comm]
        congr 1
        exact sm_congr fun i _ => by rw [hdx]
      refine ⟨fun i => if i = p then sm n (fun i => d i * (C (skip p i) s * v)) else d (if i < p then i else i - 1), ⟨skip p i0, skip_lt hi0, ?_⟩, fun k hks => ?_⟩
      · show (if skip p i0 = p then _ else _) ≠ 0
        rw [hdx]; exact hd0
      rw [key]
      by_cases e : k = s
      · subst e
        refine sm_zero K _ fun i _ => ?_
        rw [K.mul_assoc (C (skip p i) k), hv, K.mul_one, K.add_self, K.mul_zero]
      · exact hk k (by omega)
/-- A reduced matrix of r rows, its leads. -/
structure Red (r : Nat) (R : Nat → Nat → B) (l : Nat → Nat) : Prop where
  inc : ∀ i j, i < j → j < r → l i < l j
  one : ∀ i, i < r → R i (l i) = 1
  zero : ∀ i k, i < r → k < r → k ≠ i → R k (l i) = 0
  low : ∀ i j, i < r → j < l i → R i j = 0
namespace Red
variable {r s : Nat} {R S : Nat → Nat → B} {l m : Nat → Nat}
theorem coef (K : Laws B) (h : Red r R l) (c : Nat → B) {i : Nat} (hi : i < r) : comb r R c (l i) = c i := by
  show sm r (fun k => c k * R k (l i)) = c i
  rw [sm_one K hi (fun k hk hne => by rw [h.zero i k hi hk hne, K.mul_zero]), h.one i hi, K.mul_one]
theorem free (K : Laws B) (h : Red r R l) : Free r R := fun c hc i hi => by rw [← h.coef K c hi]; exact hc _
/-- What lies in the span and has nought at each lead is nought. -/
theorem nought (K : Laws B) (h : Red r R l) {v : Nat → B} (hv : InSpan r R v) (hz : ∀ i, i < r → v (l i) = 0) : v = fun _ => 0 := by
  obtain ⟨c, rfl⟩ := hv
  have hc : ∀ i, i < r → c i = 0 := fun i hi => by rw [← h.coef K c hi]; exact hz i hi
  exact funext fun j => sm_zero K r fun i hi => by rw [hc i hi, K.zero_mul]
end Red
/-- Rows beyond whose n columns stands nothing. -/
def Wide (n : Nat) (v : Nat → B) : Prop := ∀ j, n ≤ j → v j = 0
theorem InSpan.wide (K : Laws B) {r n : Nat} {M : Nat → Nat → B} {v : Nat → B} (h : InSpan r M v) (hw : ∀ i, i < r → Wide n (M i)) : Wide n v := by
  obtain ⟨c, rfl⟩ := h
  exact fun j hj => sm_zero K r fun i hi => by rw [hw i hi j hj, K.mul_zero]
theorem Red.lead_lt (K : Laws B) {p n : Nat} {R : Nat → Nat → B} {l : Nat → Nat} (h : Red p R l) (hw : ∀ i, i < p → Wide n (R i)) {i : Nat} (hi : i < p) : l i < n := by
  rcases Nat.lt_or_ge (l i) n with hlt | hge
  · exact hlt
  · exfalso
    have e := hw i hi _ hge
    rw [h.one i hi] at e
    exact K.nought e
theorem Red.lead_top {B : Type} [Zero B] [One B] {p n : Nat} {R : Nat → Nat → B} {l : Nat → Nat} (h : Red p R l) (hn : ∀ i, i < p → l i < n) {i : Nat} (hi : i < p) : l i + (p - i) ≤ n := by
  obtain ⟨d, hd⟩ : ∃ d, p - i = d + 1 := ⟨p - i - 1, by omega⟩
  induction d generalizing i with
  | zero => have := hn i hi; omega
  | succ d ih =>
    have h1 := ih (i := i + 1) (by omega) (by omega)
    have h2 := h.inc i (i + 1) (by omega) (by omega)
    omega
/-- A product: the rows that M's rows make of N's. -/
def mulM (n : Nat) (M N : Nat → Nat → B) : Nat → Nat → B := fun i => comb n N (M i)
theorem comb_comb (K : Laws B) (p n : Nat) (R N : Nat → Nat → B) (c : Nat → B) : comb n N (comb p R c) = comb p (mulM n R N) c := by
  funext j
  show sm n (fun k => sm p (fun a => c a * R a k) * N k j) = sm p fun a => c a * sm n fun k => R a k * N k j
  have e1 : sm n (fun k => sm p (fun a => c a * R a k) * N k j) = sm n fun k => sm p fun a => c a * (R a k * N k j) := sm_congr fun k _ => by
    rw [K.mul_comm, ← sm_mul K]
    exact sm_congr fun a _ => by rw [K.mul_comm, K.mul_assoc]
  rw [e1, sm_swap K]
  exact sm_congr fun a _ => sm_mul K _ _ _
theorem mul_assoc' (K : Laws B) (n m : Nat) (M N O : Nat → Nat → B) : mulM m (mulM n M N) O = mulM n M (mulM m N O) := by
  funext i
  exact comb_comb K n m N O (M i)
theorem within_congr (K : Laws B) {r : Nat} {M N : Nat → Nat → B} (h : ∀ i, i < r → M i = N i) : Within r M r N := fun i hi => by rw [h i hi]; exact InSpan.row K N hi
end
end Go.Proofs.YtgelalbmhllccaaGreat.Lin
/- Rows of bytes as rows over the field of 256 elements: what the plain theorems of rows say of lists. -/
namespace Go.Proofs.YtgelalbmhllccaaGreat.Lin
/-- A number of the field. -/
structure By where
  v : Nat
  h : v < 256
theorem By.ext {a b : By} (h : a.v = b.v) : a = b := by cases a; cases b; cases h; rfl
instance : Add By := ⟨fun a b => ⟨a.v ^^^ b.v, xor_lt a.h b.h⟩⟩
instance : Mul By := ⟨fun a b => ⟨mulN a.v b.v, mulN_lt _ a.h⟩⟩
instance : Zero By := ⟨⟨0, by decide⟩⟩
instance : One By := ⟨⟨1, by decide⟩⟩
instance : DecidableEq By := fun a b => if h : a.v = b.v then isTrue (By.ext h) else isFalse fun e => h (by rw [e])
theorem add_v (a b : By) : (a + b).v = a.v ^^^ b.v := rfl
theorem mul_v (a b : By) : (a * b).v = mulN a.v b.v := rfl
theorem laws : Laws By where
  add_comm a b := By.ext (Nat.xor_comm _ _)
  add_assoc a b c := By.ext (Nat.xor_assoc _ _ _)
  add_zero a := By.ext (Nat.xor_zero _)
  add_self a := By.ext (Nat.xor_self _)
  mul_comm a b := By.ext (mul_comm' _ _ a.h b.h)
  mul_assoc a b c := By.ext (Go.Proofs.YtgelalbmhllccaaGreat.mul_assoc' _ _ _ a.h b.h c.h)
  one_mul a := By.ext (mul_one_left _ a.h)
  mul_add a b c := By.ext (mul_xor_right _ _ _ a.h b.h c.h)
  mul_zero a := By.ext (mul_zero_right _)
  inv a ha := ⟨⟨invN a.v, invN_lt _⟩, By.ext (by
    have h1 : 1 ≤ a.v := by
      rcases Nat.eq_zero_or_pos a.v with e | e
      · exact absurd (By.ext (b := 0) e) ha
      · exact e
    rw [mul_v, mul_comm' _ _ (invN_lt _) a.h, mul_inv _ a.h h1]; rfl)⟩
  nought h := by have := congrArg By.v h; cases this
/-- A number as one of the field. -/
def byte (x : Nat) : By := ⟨x % 256, Nat.mod_lt _ (by decide)⟩
theorem byte_v {x : Nat} (h : x < 256) : (byte x).v = x := Nat.mod_eq_of_lt h
/-- A list's numbers, noughts behind them. -/
def vec (xs : List Nat) : Nat → By := fun j => byte (xs.getD j 0)
/-- A list of lists as rows. -/
def fn (M : List (List Nat)) : Nat → Nat → By := fun i => vec (M.getD i [])
/-- Rows of n bytes. -/
def RowsOk (n : Nat) (M : List (List Nat)) : Prop := ∀ r ∈ M, r.length = n ∧ AllB r
theorem vec_v {xs : List Nat} (h : AllB xs) (j : Nat) : (vec xs j).v = xs.getD j 0 := byte_v (h.getD j)
theorem vec_wide {xs : List Nat} {n : Nat} (h : xs.length = n) : Wide n (vec xs) := fun j hj => by
  have e : xs.getD j 0 = 0 := by rw [List.getD_eq_getElem?_getD, List.getElem?_eq_none (by omega)]; rfl
  show byte (xs.getD j 0) = 0
  rw [e]; rfl
theorem vec_inj {xs ys : List Nat} (hl : xs.length = ys.length) (hx : AllB xs) (hy : AllB ys) (h : vec xs = vec ys) : xs = ys :=
  list_ext hl fun i _ => by rw [← vec_v hx, ← vec_v hy, h]
theorem RowsOk.at_ {n : Nat} {M : List (List Nat)} (h : RowsOk n M) {i : Nat} (hi : i < M.length) : (M.getD i []).length = n ∧ AllB (M.getD i []) := by
  rw [List.getD_eq_getElem?_getD, List.getElem?_eq_getElem hi]
  exact h _ (List.getElem_mem hi)
theorem RowsOk.wide {n : Nat} {M : List (List Nat)} (h : RowsOk n M) : ∀ i, i < M.length → Wide n (fn M i) := fun _ hi => vec_wide (h.at_ hi).1
/-- One span. -/
def SameSpan (M N : List (List Nat)) : Prop := Within M.length (fn M) N.length (fn N) ∧ Within N.length (fn N) M.length (fn M)
theorem SameSpan.refl (M : List (List Nat)) : SameSpan M M := ⟨Within.refl laws _ _, Within.refl laws _ _⟩
theorem SameSpan.symm {M N : List (List Nat)} (h : SameSpan M N) : SameSpan N M := ⟨h.2, h.1⟩
theorem SameSpan.trans {M N O : List (List Nat)} (h : SameSpan M N) (k : SameSpan N O) : SameSpan M O := ⟨h.1.trans laws k.1, k.2.trans laws h.2⟩
/-- A reduced matrix, as a list. -/
def RedL (n : Nat) (M : List (List Nat)) : Prop := RowsOk n M ∧ ∃ l, Red M.length (fn M) l
end Go.Proofs.YtgelalbmhllccaaGreat.Lin
/- A row laid into a reduced matrix; rows turned without turning the span. -/
namespace Go.Proofs.YtgelalbmhllccaaGreat.Lin
section
variable {B : Type} [Add B] [Mul B] [Zero B] [One B]
/-- A row more, at place q. -/
def insM {α : Type} (q : Nat) (M : Nat → α) (w : α) : Nat → α := fun i => if i < q then M i else if i = q then w else M (i - 1)
theorem insM_lt {α : Type} {q i : Nat} {M : Nat → α} {w : α} (h : i < q) : insM q M w i = M i := if_pos h
theorem insM_at {α : Type} {q : Nat} {M : Nat → α} {w : α} : insM q M w q = w := by rw [insM, if_neg (by omega), if_pos rfl]
theorem insM_gt {α : Type} {q i : Nat} {M : Nat → α} {w : α} (h : q < i) : insM q M w i = M (i - 1) := by rw [insM, if_neg (by omega), if_neg (by omega)]
theorem insM_le {α : Type} {q i : Nat} {M : Nat → α} {w : α} (h : q ≤ i) : insM q M w (i + 1) = M i := by rw [insM_gt (by omega)]; rfl
/-- The other rows, cleared at the new row's lead. -/
def clearM (R : Nat → Nat → B) (L : Nat) (w : Nat → B) : Nat → Nat → B := fun k j => R k j + R k L * w j
theorem insert_red (K : Laws B) {r q L : Nat} {R : Nat → Nat → B} {l : Nat → Nat} {w : Nat → B} (h : Red r R l) (hq : q ≤ r) (hlo : ∀ i, i < q → l i < L) (hhi : ∀ i, q ≤ i → i < r → L < l i)
    (hz : ∀ i, i < r → w (l i) = 0) (h1 : w L = 1) (hlow : ∀ j, j < L → w j = 0) : Red (r + 1) (insM q (clearM R L w) w) (insM q l L) := by
  have cl : ∀ i k, i < r → k < r → clearM R L w k (l i) = R k (l i) := fun i k hi hk => by rw [clearM, hz i hi, K.mul_zero, K.add_zero]
  have cL : ∀ k, clearM R L w k L = 0 := fun k => by rw [clearM, h1, K.mul_one, K.add_self]
  have clow : ∀ k j, k < r → j < l k → clearM R L w k j = 0 := fun k j hk hj => by
    rw [clearM, h.low k j hk hj, K.zero_add]
    rcases Nat.lt_or_ge j L with e | e
    · rw [hlow j e, K.mul_zero]
    · rw [h.low k L hk (by omega), K.zero_mul]
  have case_ : ∀ i, i < r + 1 → (i < q ∧ i < r) ∨ i = q ∨ (q < i ∧ i - 1 < r ∧ q ≤ i - 1) := fun i hi => by omega
  refine ⟨fun i j hij hj => ?_, fun i hi => ?_, fun i k hi hk hne => ?_, fun i j hi hj => ?_⟩
  · rcases case_ i (by omega) with ⟨a, a2⟩ | a | ⟨a, a2, a3⟩ <;> rcases case_ j hj with ⟨b, b2⟩ | b | ⟨b, b2, b3⟩
    · rw [insM_lt a, insM_lt b]; exact h.inc i j hij b2
    · subst b; rw [insM_lt a, insM_at]; exact hlo i a
    · rw [insM_lt a, insM_gt b]; exact Nat.lt_trans (hlo i a) (hhi _ b3 b2)
    · omega
    · omega
    · subst a; rw [insM_at, insM_gt b]; exact hhi _ b3 b2
    · omega
    · omega
    · rw [insM_gt a, insM_gt b]; exact h.inc _ _ (by omega) b2
  · rcases case_ i hi with ⟨a, a2⟩ | a | ⟨a, a2, a3⟩
    · rw [insM_lt a, insM_lt a, cl i i a2 a2]; exact h.one i a2
    · subst a; rw [insM_at, insM_at]; exact h1
    · rw [insM_gt a, insM_gt a, cl _ _ a2 a2]; exact h.one _ a2
  · rcases case_ i hi with ⟨a, a2⟩ | a | ⟨a, a2, a3⟩ <;> rcases case_ k hk with ⟨b, b2⟩ | b | ⟨b, b2, b3⟩
    · rw [insM_lt a, insM_lt b, cl i k a2 b2]; exact h.zero i k a2 b2 hne
    · subst b; rw [insM_lt a, insM_at]; exact hz i a2
    · rw [insM_lt a, insM_gt b, cl i _ a2 b2]; exact h.zero i _ a2 b2 (by omega)
    · subst a; rw [insM_at, insM_lt b]; exact cL k
    · omega
    · subst a; rw [insM_at, insM_gt b]; exact cL _
    · rw [insM_gt a, insM_lt b, cl _ k a2 b2]; exact h.zero _ k a2 b2 (by omega)
    · subst b; rw [insM_gt a, insM_at]; exact hz _ a2
    · rw [insM_gt a, insM_gt b, cl _ _ a2 b2]; exact h.zero _ _ a2 b2 (by omega)
  · rcases case_ i hi with ⟨a, a2⟩ | a | ⟨a, a2, a3⟩
    · rw [insM_lt a] at hj
      rw [insM_lt a]; exact clow i j a2 hj
    · subst a
      rw [insM_at] at hj
      rw [insM_at]; exact hlow j hj
    · rw [insM_gt a] at hj
      rw [insM_gt a]; exact clow _ j a2 hj
/-- .. of one span with the rows and the row from which it was made. -/
theorem insert_span (K : Laws B) {r q L : Nat} {R : Nat → Nat → B} {w v c : Nat → B} {a : B} (hq : q ≤ r) (ha : a ≠ 0) (hw : ∀ j, w j = a * (v j + comb r R c j)) :
    Within (r + 1) (insM q (clearM R L w) w) (r + 1) (insM r R v) ∧ Within (r + 1) (insM r R v) (r + 1) (insM q (clearM R L w) w) := by
  have rowR : ∀ i, i < r → InSpan (r + 1) (insM r R v) (R i) := fun i hi => by
    have := InSpan.row K (insM r R v) (show i < r + 1 by omega)
    rwa [insM_lt hi] at this
  have rowV : InSpan (r + 1) (insM r R v) v := by
    have := InSpan.row K (insM r R v) (show r < r + 1 by omega)
    rwa [insM_at] at this
  have hwS : InSpan (r + 1) (insM r R v) w := by
    have e : w = fun j => a * (v j + comb r R c j) := funext hw
    rw [e]
    exact InSpan.mul K a (InSpan.add K rowV (InSpan.trans K ⟨c, rfl⟩ rowR))
  have newW : InSpan (r + 1) (insM q (clearM R L w) w) w := by
    have := InSpan.row K (insM q (clearM R L w) w) (show q < r + 1 by omega)
    rwa [insM_at] at this
  have newC : ∀ i, i < r → InSpan (r + 1) (insM q (clearM R L w) w) (clearM R L w i) := fun i hi => by
    by_cases e : i < q
    · have := InSpan.row K (insM q (clearM R L w) w) (show i < r + 1 by omega)
      rwa [insM_lt e] at this
    · have := InSpan.row K (insM q (clearM R L w) w) (show i + 1 < r + 1 by omega)
      rwa [insM_le (by omega)] at this
  have newR : ∀ i, i < r → InSpan (r + 1) (insM q (clearM R L w) w) (R i) := fun i hi => by
    have e : R i = fun j => clearM R L w i j + R i L * w j := funext fun j => by rw [clearM, K.add_assoc, K.add_self, K.add_zero]
    rw [e]
    exact InSpan.add K (newC i hi) (InSpan.mul K (R i L) newW)
  refine ⟨fun i hi => ?_, fun i hi => ?_⟩
  · by_cases e : i < q
    · rw [insM_lt e]
      exact InSpan.add K (rowR i (by omega)) (InSpan.mul K (R i L) hwS)
    · by_cases e2 : i = q
      · subst e2; rw [insM_at]; exact hwS
      · rw [insM_gt (by omega)]
        exact InSpan.add K (rowR _ (by omega)) (InSpan.mul K (R (i - 1) L) hwS)
  · by_cases e : i < r
    · rw [insM_lt e]; exact newR i e
    · obtain rfl : i = r := by omega
      rw [insM_at]
      obtain ⟨b, hb⟩ := K.inv a ha
      have e : v = fun j => b * w j + comb i R c j := funext fun j => by
        rw [hw j, ← K.mul_assoc, hb, K.one_mul, K.add_assoc, K.add_self, K.add_zero]
      rw [e]
      exact InSpan.add K (InSpan.mul K b newW) (InSpan.trans K ⟨c, rfl⟩ newR)
/-- Rows laid down: what is left of a row has nought at each lead. -/
theorem cleared (K : Laws B) {r : Nat} {R : Nat → Nat → B} {l : Nat → Nat} (h : Red r R l) (v : Nat → B) {i : Nat} (hi : i < r) : v (l i) + comb r R (fun k => v (l k)) (l i) = 0 := by
  rw [h.coef K _ hi, K.add_self]
/-- A row within the span adds nothing to it. -/
theorem within_more (K : Laws B) {r : Nat} {R : Nat → Nat → B} {v : Nat → B} (h : InSpan r R v) : Within (r + 1) (insM r R v) r R ∧ Within r R (r + 1) (insM r R v) := by
  refine ⟨fun i hi => ?_, fun i hi => ?_⟩
  · by_cases e : i < r
    · rw [insM_lt e]; exact InSpan.row K R e
    · obtain rfl : i = r := by omega
      rw [insM_at]; exact h
  · have := InSpan.row K (insM r R v) (show i < r + 1 by omega)
    rwa [insM_lt hi] at this
end
end Go.Proofs.YtgelalbmhllccaaGreat.Lin
/- Rows of two lists; how many rows a sum and a meet of spans have together. -/
namespace Go.Proofs.YtgelalbmhllccaaGreat.Lin
section
variable {B : Type} [Add B] [Mul B] [Zero B] [One B]
/-- Rows behind rows. -/
def catM {α : Type} (p : Nat) (R S : Nat → α) : Nat → α := fun i => if i < p then R i else S (i - p)
theorem catM_lt {α : Type} {p i : Nat} {R S : Nat → α} (h : i < p) : catM p R S i = R i := if_pos h
theorem catM_ge {α : Type} {p i : Nat} {R S : Nat → α} : catM p R S (p + i) = S i := by rw [catM, if_neg (by omega), Nat.add_sub_cancel_left]
theorem sm_split (K : Laws B) (p q : Nat) (f : Nat → B) : sm (p + q) f = sm p f + sm q fun j => f (p + j) := by
  induction q with
  | zero => exact (K.add_zero _).symm
  | succ q ih => rw [Nat.add_succ, sm, ih, sm, K.add_assoc]
theorem comb_cat (K : Laws B) (p q : Nat) (R S : Nat → Nat → B) (c : Nat → B) : comb (p + q) (catM p R S) c = fun j => comb p R c j + comb q S (fun i => c (p + i)) j := by
  funext j
  show sm (p + q) (fun i => c i * catM p R S i j) = sm p (fun i => c i * R i j) + sm q fun i => c (p + i) * S i j
  rw [sm_split K]
  congr 1
  · exact sm_congr fun i hi => by rw [catM_lt hi]
  · exact sm_congr fun i _ => by rw [catM_ge]
theorem span_cat (K : Laws B) {p q : Nat} {R S : Nat → Nat → B} {v : Nat → B} : InSpan (p + q) (catM p R S) v ↔ ∃ a b, InSpan p R a ∧ InSpan q S b ∧ v = fun j => a j + b j := by
  constructor
  · rintro ⟨c, rfl⟩
    exact ⟨_, _, ⟨c, rfl⟩, ⟨fun i => c (p + i), rfl⟩, comb_cat K p q R S c⟩
  · rintro ⟨a, b, ⟨c, rfl⟩, ⟨d, rfl⟩, rfl⟩
    refine ⟨fun i => if i < p then c i else d (i - p), ?_⟩
    rw [comb_cat K]
    funext j
    congr 1
    · exact sm_congr fun i hi => by dsimp only; rw [if_pos hi]
    · exact sm_congr fun i _ => by dsimp only; rw [if_neg (by omega), Nat.add_sub_cancel_left]
end
end Go.Proofs.YtgelalbmhllccaaGreat.Lin
/- Rows reduced by columns: what holds between; a row cleared lead by lead; one row more; list forms of the dimension formula. -/
namespace Go.Proofs.YtgelalbmhllccaaGreat.Lin
section
variable {B : Type} [Add B] [Mul B] [Zero B] [One B]
/-- A row cleared by the first k rows, one behind the other. -/
def clearSeq (R : Nat → Nat → B) (l : Nat → Nat) (v : Nat → B) : Nat → Nat → B
  | 0 => v
  | k + 1 => fun j => clearSeq R l v k j + clearSeq R l v k (l k) * R k j
theorem clearSeq_eq (K : Laws B) {r : Nat} {R : Nat → Nat → B} {l : Nat → Nat} (h : Red r R l) (v : Nat → B) {k : Nat} (hk : k ≤ r) : clearSeq R l v k = fun j => v j + comb k R (fun i => v (l i)) j := by
  induction k with
  | zero => exact funext fun j => (K.add_zero _).symm
  | succ k ih =>
    have ih := ih (by omega)
    have e : clearSeq R l v k (l k) = v (l k) := by
      rw [ih]
      show v (l k) + sm k (fun i => v (l i) * R i (l k)) = _
      rw [sm_zero K k fun i hi => by rw [h.zero k i (by omega) (by omega) (by omega), K.mul_zero], K.add_zero]
    funext j
    show clearSeq R l v k j + clearSeq R l v k (l k) * R k j = v j + (sm k (fun i => v (l i) * R i j) + v (l k) * R k j)
    rw [e, ih, ← K.add_assoc]
    rfl
/-- Cleared by all rows: nought at each lead. -/
theorem clearSeq_nought (K : Laws B) {r : Nat} {R : Nat → Nat → B} {l : Nat → Nat} (h : Red r R l) (v : Nat → B) {i : Nat} (hi : i < r) : clearSeq R l v r (l i) = 0 := by
  rw [clearSeq_eq K h v (Nat.le_refl r)]; exact cleared K h v hi
/-- Within the span just if nothing is left. -/
theorem clearSeq_span (K : Laws B) {r : Nat} {R : Nat → Nat → B} {l : Nat → Nat} (h : Red r R l) (v : Nat → B) : InSpan r R v ↔ clearSeq R l v r = fun _ => 0 := by
  constructor
  · intro hv
    refine h.nought K ?_ fun i hi => clearSeq_nought K h v hi
    rw [clearSeq_eq K h v (Nat.le_refl r)]
    exact InSpan.add K hv ⟨_, rfl⟩
  · intro e
    rw [clearSeq_eq K h v (Nat.le_refl r)] at e
    exact ⟨_, funext fun j => K.eq_of_add (congrFun e j)⟩
/-- Gauss and Jordan's way, between two columns: m rows, r of them done, col columns gone through. -/
structure Part (m r col : Nat) (R : Nat → Nat → B) (l : Nat → Nat) : Prop where
  le : r ≤ m
  inc : ∀ i j, i < j → j < r → l i < l j
  lt : ∀ i, i < r → l i < col
  one : ∀ i, i < r → R i (l i) = 1
  zero : ∀ i k, i < r → k < m → k ≠ i → R k (l i) = 0
  low : ∀ i j, i < r → j < l i → R i j = 0
  rest : ∀ k j, r ≤ k → k < m → j < col → R k j = 0
namespace Part
variable {m r col : Nat} {R : Nat → Nat → B} {l : Nat → Nat}
theorem start {B : Type} [Zero B] [One B] (m : Nat) (R : Nat → Nat → B) (l : Nat → Nat) : Part m 0 0 R l := ⟨by omega, fun _ _ _ h => by omega, fun _ h => by omega, fun _ h => by omega, fun _ _ h => by omega, fun _ _ h => by omega, fun _ _ _ _ h => by omega⟩
/-- A column with no pivot. -/
theorem skip {B : Type} [Zero B] [One B] {m r col : Nat} {R : Nat → Nat → B} {l : Nat → Nat} (h : Part m r col R l) (hz : ∀ k, r ≤ k → k < m → R k col = 0) : Part m r (col + 1) R l :=
  ⟨h.le, h.inc, fun i hi => Nat.lt_succ_of_lt (h.lt i hi), h.one, h.zero, h.low, fun k j hk hm hj => by
    by_cases e : j = col
    · subst e; exact hz k hk hm
    · exact h.rest k j hk hm (by omega)⟩
/-- A pivot row cleared out of all others: one row more is done. -/
theorem clear (K : Laws B) (h : Part m r col R l) {S : Nat → Nat → B} (hr : r < m) (h1 : R r col = 1) (hp : S r = R r) (ho : ∀ k, k < m → k ≠ r → ∀ j, S k j = R k j + R k col * R r j) : Part m (r + 1) (col + 1) S (fun i => if i = r then col else l i) := by
  have low0 : ∀ j, j < col → R r j = 0 := fun j hj => h.rest r j (by omega) hr hj
  have keep : ∀ k j, k < m → j < col → S k j = R k j := fun k j hk hj => by
    by_cases e : k = r
    · subst e; rw [hp]
    · rw [ho k hk e, low0 j hj, K.mul_zero, K.add_zero]
  refine ⟨hr, fun i j hij hj => ?_, fun i hi => ?_, fun i hi => ?_, fun i k hi hk hne => ?_, fun i j hi hj => ?_, fun k j hk hm hj => ?_⟩
  · rw [if_neg (by omega)]
    by_cases e : j = r
    · rw [if_pos e]; exact h.lt i (by omega)
    · rw [if_neg e]; exact h.inc i j hij (by omega)
  · by_cases e : i = r
    · rw [if_pos e]; omega
    · rw [if_neg e]; exact Nat.lt_succ_of_lt (h.lt i (by omega))
  · by_cases e : i = r
    · rw [if_pos e, e, hp]; exact h1
    · rw [if_neg e, keep i _ (by omega) (h.lt i (by omega))]; exact h.one i (by omega)
  · by_cases e : i = r
    · rw [if_pos e, ho k hk (by omega), h1, K.mul_one, K.add_self]
    · rw [if_neg e, keep k _ hk (h.lt i (by omega))]; exact h.zero i k (by omega) hk hne
  · by_cases e : i = r
    · rw [if_pos e] at hj; rw [e, hp]; exact low0 j hj
    · rw [if_neg e] at hj
      have := h.lt i (by omega)
      rw [keep i j (by omega) (by omega)]; exact h.low i j (by omega) hj
  · by_cases e : j = col
    · rw [e, ho k hm (by omega), h1, K.mul_one, K.add_self]
    · rw [keep k j hm (by omega)]; exact h.rest k j (by omega) hm (by omega)
/-- The end: what is done is reduced. -/
theorem red {B : Type} [Zero B] [One B] {m r col : Nat} {R : Nat → Nat → B} {l : Nat → Nat} (h : Part m r col R l) : Red r R l := ⟨h.inc, h.one, fun i k hi hk hne => h.zero i k hi (Nat.lt_of_lt_of_le hk h.le) hne, h.low⟩
/-- .. and all that the rows make: behind it stand noughts. -/
theorem done (K : Laws B) (h : Part m r col R l) {n : Nat} (hw : ∀ i, i < m → Wide n (R i)) (hc : n ≤ col ∨ r = m) : Within m R r R ∧ Within r R m R := by
  refine ⟨fun i hi => ?_, fun i hi => InSpan.row K R (Nat.lt_of_lt_of_le hi h.le)⟩
  by_cases e : i < r
  · exact InSpan.row K R e
  · rcases hc with hc | hc
    · have z : R i = fun _ => 0 := funext fun j => by
        by_cases hj : j < col
        · exact h.rest i j (by omega) hi hj
        · exact hw i hi j (by omega)
      rw [z]; exact InSpan.zero K r R
    · omega
end Part
end
/-- What lists of bytes make. -/
def Makes (M : List (List Nat)) (v : Nat → By) : Prop := InSpan M.length (fn M) v
theorem fn_append (R S : List (List Nat)) : ∀ i, i < (R ++ S).length → fn (R ++ S) i = catM R.length (fn R) (fn S) i := fun i hi => by
  unfold fn catM
  split
  · next h => rw [List.getD_eq_getElem?_getD, List.getElem?_append_left h, ← List.getD_eq_getElem?_getD]
  · next h => rw [List.getD_eq_getElem?_getD, List.getElem?_append_right (by omega), ← List.getD_eq_getElem?_getD]
theorem makes_append {R S : List (List Nat)} {v : Nat → By} : Makes (R ++ S) v ↔ ∃ a b, Makes R a ∧ Makes S b ∧ v = fun j => a j + b j := by
  show _ ↔ ∃ a b, InSpan R.length (fn R) a ∧ InSpan S.length (fn S) b ∧ v = fun j => a j + b j
  rw [← span_cat laws (p := R.length) (q := S.length) (R := fn R) (S := fn S)]
  unfold Makes
  have h1 : Within (R ++ S).length (fn (R ++ S)) (R ++ S).length (catM R.length (fn R) (fn S)) := within_congr laws (fn_append R S)
  have h2 : Within (R ++ S).length (catM R.length (fn R) (fn S)) (R ++ S).length (fn (R ++ S)) := within_congr laws fun i hi => (fn_append R S i hi).symm
  rw [← List.length_append]
  exact ⟨fun h => InSpan.trans laws h h1, fun h => InSpan.trans laws h h2⟩
end Go.Proofs.YtgelalbmhllccaaGreat.Lin
