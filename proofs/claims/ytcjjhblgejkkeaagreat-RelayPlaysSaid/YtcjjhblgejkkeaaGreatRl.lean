/- The landed relay: how it lies in memory. -/
import Derived.Test.YtcjjhblgejkkeaaGreatBd
import Derived.Test.YtcjjhblgejkkeaaGreatWi
import Derived.Test.YtcjjhblgejkkeaaGreatDD
import Derived.Test.YtcjjhblgejkkeaaGreatRegion
namespace Go.Proofs.YtcjjhblgejkkeaaGreat
open Go.RowKit Lin
set_option linter.unusedVariables false
set_option linter.unusedSimpArgs false
/-- A place of the array: the block of its basis (none: no basis), the blocks that it owns, its rows. -/
structure Slot where
  p : Option Nat
  F : Nat → Prop
  B : List (List Nat)
namespace Slot
def val (x : Slot) : Value := .pointer (x.p.map fun b => ⟨b, 0, none⟩)
def none_ : Slot := ⟨none, fun _ => False, []⟩
def Ok (w : World) (g s : Nat) (x : Slot) : Prop := match x.p with
  | none => (∀ k, ¬ x.F k) ∧ x.B = []
  | some b => BasR w x.F b g s x.B
variable {w w' : World} {g s : Nat} {x : Slot} {G : Nat → Prop}
theorem none_ok (w : World) (g s : Nat) : none_.Ok w g s := ⟨fun _ e => e, rfl⟩
theorem Ok.bas (h : x.Ok w g s) {b : Nat} (hp : x.p = some b) : BasR w x.F b g s x.B := by
  unfold Ok at h; rw [hp] at h; exact h
theorem ok_of {F : Nat → Prop} {b : Nat} {B : List (List Nat)} (h : BasR w F b g s B) : Ok w g s ⟨some b, F, B⟩ := h
theorem Ok.lt (h : x.Ok w g s) : ∀ k, x.F k → k < w.heap.size := by
  unfold Ok at h
  split at h
  · exact fun k hk => (h.1 k hk).elim
  · exact h.fine.2.2.2.2.2
theorem Ok.turned (h : x.Ok w g s) (t : Turned G w w') (hd : ∀ b, x.F b → ¬ G b) : x.Ok w' g s := by
  unfold Ok at h ⊢
  split at h
  · exact h
  · exact h.turned t hd
theorem Ok.keep (h : x.Ok w g s) (k : Keep w w') : x.Ok w' g s := h.turned (Turned.of_keep (F := fun _ => False) k) fun _ _ e => e
theorem Ok.none (h : x.Ok w g s) (hp : x.p = Option.none) : x.B = [] ∧ ∀ k, ¬ x.F k := by
  unfold Ok at h; rw [hp] at h; exact ⟨h.2, h.1⟩
end Slot
theorem set_get {α : Type} {S : List α} {i j : Nat} {x y : α} (h : (S.set i x)[j]? = some y) : (j = i ∧ y = x) ∨ (j ≠ i ∧ S[j]? = some y) := by
  rw [List.getElem?_set] at h
  by_cases e : i = j
  · rw [if_pos e] at h
    split at h
    · exact Or.inl ⟨e.symm, (Option.some.inj h).symm⟩
    · cases h
  · rw [if_neg e] at h; exact Or.inr ⟨fun e2 => e e2.symm, h⟩
/-- A relay's block, and what stands in its places. -/
structure RelC (w : World) (p wb g s : Nat) (S : List Slot) : Prop where
  block : w.heap[p]? = some (.cells (Value.pointer (some ⟨wb, 0, none⟩) :: Value.int .i64 (g : Int) :: Value.int .i64 (s : Int) :: S.map Slot.val).toArray 93 (0, 0))
  len : S.length = 16
  ok : ∀ x ∈ S, x.Ok w g s
  apart : ∀ (i j : Nat) (x y : Slot), i ≠ j → S[i]? = some x → S[j]? = some y → ∀ b, x.F b → ¬ y.F b
  off : ∀ x ∈ S, ∀ b, x.F b → b ≠ p ∧ b ≠ wb
  ne : p ≠ wb
  g1 : 1 ≤ g
  g2 : g ≤ 255
  s1 : 1 ≤ s
  s2 : s ≤ 65535
namespace RelC
variable {w w' w1 : World} {p wb g s : Nat} {S : List Slot} {G : Nat → Prop}
theorem lt (h : RelC w p wb g s S) : p < w.heap.size := (Array.getElem?_eq_some_iff.1 h.block).1
theorem c0 (h : RelC w p wb g s S) : w.cell? ⟨p, 0, none⟩ = some (.pointer (some ⟨wb, 0, none⟩)) := by simp [World.cell?, h.block]
theorem c1 (h : RelC w p wb g s S) : w.cell? ⟨p, 1, none⟩ = some (.int .i64 (g : Int)) := by simp [World.cell?, h.block]
theorem c2 (h : RelC w p wb g s S) : w.cell? ⟨p, 2, none⟩ = some (.int .i64 (s : Int)) := by simp [World.cell?, h.block]
theorem cs (h : RelC w p wb g s S) {i : Nat} {x : Slot} (hx : S[i]? = some x) : w.cell? ⟨p, 3 + i, none⟩ = some x.val := by
  simp only [World.cell?, h.block]
  rw [List.getElem?_toArray, show 3 + i = i + 1 + 1 + 1 by omega, List.getElem?_cons_succ, List.getElem?_cons_succ, List.getElem?_cons_succ, List.getElem?_map, hx]; rfl
theorem free (h : RelC w p wb g s S) (i : Nat) : w.frozen? ⟨p, i, none⟩ = false := by simp [World.frozen?, h.block]
theorem turned (h : RelC w p wb g s S) (t : Turned G w w') (hp : ¬ G p) (hd : ∀ x ∈ S, ∀ b, x.F b → ¬ G b) : RelC w' p wb g s S :=
  ⟨(t.block p h.lt hp).trans h.block, h.len, fun x hx => (h.ok x hx).turned t (hd x hx), h.apart, h.off, h.ne, h.g1, h.g2, h.s1, h.s2⟩
theorem keep (h : RelC w p wb g s S) (k : Keep w w') : RelC w' p wb g s S := h.turned (Turned.of_keep (F := fun _ => False) k) (fun e => e) fun _ _ _ _ e => e
/-- What stands in a place has turned. -/
theorem put (h : RelC w p wb g s S) {i : Nat} {x x' : Slot} (hx : S[i]? = some x) (ok' : x'.Ok w' g s) (hp : x'.p = x.p) (hf : ∀ b, x'.F b → x.F b ∨ w.heap.size ≤ b) (t : Turned x.F w w') (hwb : wb < w.heap.size) : RelC w' p wb g s (S.set i x') := by
  have hi : i < S.length := (List.getElem?_eq_some_iff.1 hx).1
  have hm := List.mem_of_getElem? hx
  have hnp : ¬ x.F p := fun e => (h.off x hm p e).1 rfl
  have get : ∀ j y, (S.set i x')[j]? = some y → (j = i ∧ y = x') ∨ (j ≠ i ∧ S[j]? = some y) := fun j y hy => set_get hy
  have mem : ∀ y ∈ S.set i x', y = x' ∨ ∃ j, j ≠ i ∧ S[j]? = some y := fun y hy => by
    obtain ⟨j, hj⟩ := List.getElem?_of_mem hy
    rcases get j y hj with ⟨_, e⟩ | e
    · exact Or.inl e
    · exact Or.inr ⟨j, e⟩
  refine ⟨?_, by rw [List.length_set]; exact h.len, fun y hy => ?_, fun j k y z hjk hy hz b hb hc => ?_, fun y hy b hb => ?_, h.ne, h.g1, h.g2, h.s1, h.s2⟩
  · rw [t.block p h.lt hnp, h.block, List.map_set]
    have e1 : x'.val = x.val := by unfold Slot.val; rw [hp]
    have e2 : (S.map Slot.val).set i x'.val = S.map Slot.val := by
      rw [e1]
      refine List.ext_getElem? fun j => ?_
      rw [List.getElem?_set]
      by_cases e : i = j
      · subst e; rw [if_pos rfl, if_pos (by rw [List.length_map]; exact hi), List.getElem?_map, hx]; rfl
      · rw [if_neg e]
    rw [e2]
  · rcases mem y hy with rfl | ⟨j, hj, hy2⟩
    · exact ok'
    · exact (h.ok y (List.mem_of_getElem? hy2)).turned t fun b hb e => h.apart i j x y (fun e => hj e.symm) hx hy2 b e hb
  · rcases get j y hy with ⟨rfl, rfl⟩ | ⟨hj, hy2⟩
    · rcases get k z hz with ⟨rfl, rfl⟩ | ⟨hk, hz2⟩
      · exact hjk rfl
      · rcases hf b hb with e | e
        · exact h.apart j k x z hjk hx hz2 b e hc
        · have := (h.ok z (List.mem_of_getElem? hz2)).lt b hc; omega
    · rcases get k z hz with ⟨rfl, rfl⟩ | ⟨hk, hz2⟩
      · rcases hf b hc with e | e
        · exact h.apart j k y x hjk hy2 hx b hb e
        · have := (h.ok y (List.mem_of_getElem? hy2)).lt b hb; omega
      · exact h.apart j k y z hjk hy2 hz2 b hb hc
  · rcases mem y hy with rfl | ⟨j, hj, hy2⟩
    · rcases hf b hb with e | e
      · exact h.off x hm b e
      · have := h.lt; exact ⟨by omega, by omega⟩
    · exact h.off y (List.mem_of_getElem? hy2) b hb
/-- Another basis is laid into a place. -/
theorem set (h : RelC w p wb g s S) {i : Nat} {x' : Slot} (hi : i < 16) (k : Keep w w1) (ok' : x'.Ok w1 g s) (hf : ∀ b, x'.F b → w.heap.size ≤ b) (hwb : wb < w.heap.size) : RelC (w1.setCell ⟨p, 3 + i, none⟩ x'.val) p wb g s (S.set i x') := by
  have hl := h.lt
  have hn : i < S.length := by rw [h.len]; exact hi
  have get : ∀ j y, (S.set i x')[j]? = some y → (j = i ∧ y = x') ∨ (j ≠ i ∧ S[j]? = some y) := fun j y hy => set_get hy
  have mem : ∀ y ∈ S.set i x', y = x' ∨ ∃ j, j ≠ i ∧ S[j]? = some y := fun y hy => by
    obtain ⟨j, hj⟩ := List.getElem?_of_mem hy
    rcases get j y hj with ⟨_, e⟩ | e
    · exact Or.inl e
    · exact Or.inr ⟨j, e⟩
  have t : Turned (fun b => b = p) w1 (w1.setCell ⟨p, 3 + i, none⟩ x'.val) := Turned.set (F := fun b => b = p) w1 ⟨p, 3 + i, none⟩ x'.val rfl
  refine ⟨?_, by rw [List.length_set]; exact h.len, fun y hy => ?_, fun j q y z hjk hy hz b hb hc => ?_, fun y hy b hb => ?_, h.ne, h.g1, h.g2, h.s1, h.s2⟩
  · rw [bset ((k.block p hl).trans h.block), List.map_set]
    congr 2
    refine Array.ext' ?_
    rw [Array.toList_setIfInBounds]
    show List.set (_ :: _ :: _ :: _) (3 + i) _ = _
    rw [show 3 + i = i + 1 + 1 + 1 by omega, List.set_cons_succ, List.set_cons_succ, List.set_cons_succ]
  · rcases mem y hy with rfl | ⟨j, hj, hy2⟩
    · exact ok'.turned t fun b hb e => by have := hf b hb; omega
    · exact ((h.ok y (List.mem_of_getElem? hy2)).keep k).turned t fun b hb e => (h.off y (List.mem_of_getElem? hy2) b hb).1 e
  · rcases get j y hy with ⟨rfl, rfl⟩ | ⟨hj, hy2⟩
    · rcases get q z hz with ⟨rfl, rfl⟩ | ⟨hk, hz2⟩
      · exact hjk rfl
      · have := hf b hb
        have := (h.ok z (List.mem_of_getElem? hz2)).lt b hc; omega
    · rcases get q z hz with ⟨rfl, rfl⟩ | ⟨hk, hz2⟩
      · have := hf b hc
        have := (h.ok y (List.mem_of_getElem? hy2)).lt b hb; omega
      · exact h.apart j q y z hjk hy2 hz2 b hb hc
  · rcases mem y hy with rfl | ⟨j, hj, hy2⟩
    · have := hf b hb; exact ⟨by omega, by omega⟩
    · exact h.off y (List.mem_of_getElem? hy2) b hb
end RelC
/-- A relay of g and s, of width k and base b: generation n has the rows L n; all that it holds lies in blocks of F. -/
structure RelA (w : World) (F : Nat → Prop) (p g s k b : Nat) (L : Nat → List (List Nat)) (wb : Nat) (S : List Slot) : Prop where
  c : RelC w p wb g s S
  win : WinR w wb k b
  made : ∀ i x, S[i]? = some x → (x.p = none ↔ k ≤ i)
  fp : F p
  fw : F wb
  fs : ∀ x ∈ S, ∀ q, x.F q → F q
  lt : ∀ q, F q → q < w.heap.size
  in_ : ∀ n, winIn b k n = true → ∀ x, S[n % k]? = some x → x.B = L n
  out : ∀ n, winIn b k n = false → L n = []
  free : ∀ i x, i < k → S[i]? = some x → (∀ n, winIn b k n = true → n % k ≠ i) → x.B = []
def RelR (w : World) (F : Nat → Prop) (p g s k b : Nat) (L : Nat → List (List Nat)) : Prop := ∃ wb S, RelA w F p g s k b L wb S
/-- One generation has other rows. -/
def upd (L : Nat → List (List Nat)) (n : Nat) (B : List (List Nat)) : Nat → List (List Nat) := fun m => if m = n then B else L m
theorem upd_at (L : Nat → List (List Nat)) (n : Nat) (B : List (List Nat)) : upd L n B n = B := if_pos rfl
theorem upd_ne (L : Nat → List (List Nat)) {n m : Nat} (B : List (List Nat)) (h : m ≠ n) : upd L n B m = L m := if_neg h
theorem upd_same (L : Nat → List (List Nat)) (n : Nat) : upd L n (L n) = L := funext fun m => by
  by_cases h : m = n
  · subst h; exact upd_at _ _ _
  · exact upd_ne _ _ h
/-- Two of a window do not meet in a slot. -/
theorem slot_inj {b k n m : Nat} (hk : 1 ≤ k) (hn : winIn b k n = true) (hm : winIn b k m = true) (h : n % k = m % k) : n = m := by
  rw [winIn_iff, endN] at hn hm
  rcases Nat.lt_or_ge n m with e | e
  · have h1 := Nat.sub_mod_eq_zero_of_mod_eq h.symm
    rw [Nat.mod_eq_of_lt (by omega)] at h1
    omega
  · have h1 := Nat.sub_mod_eq_zero_of_mod_eq h
    rw [Nat.mod_eq_of_lt (by omega)] at h1
    omega
section
variable {w w' : World} {F G : Nat → Prop} {p g s k b wb : Nat} {L : Nat → List (List Nat)} {S : List Slot}
theorem RelA.r (h : RelA w F p g s k b L wb S) : RelR w F p g s k b L := ⟨wb, S, h⟩
theorem RelA.turned (h : RelA w F p g s k b L wb S) (t : Turned G w w') (hd : ∀ q, F q → ¬ G q) : RelA w' F p g s k b L wb S :=
  ⟨h.c.turned t (hd p h.fp) fun x hx q hq => hd q (h.fs x hx q hq), h.win.turned t (hd wb h.fw), h.made, h.fp, h.fw, h.fs, fun q hq => Nat.lt_of_lt_of_le (h.lt q hq) t.size, h.in_, h.out, h.free⟩
theorem RelA.keep (h : RelA w F p g s k b L wb S) (t : Keep w w') : RelA w' F p g s k b L wb S := h.turned (Turned.of_keep (F := fun _ => False) t) fun _ _ e => e
theorem RelR.turned (h : RelR w F p g s k b L) (t : Turned G w w') (hd : ∀ q, F q → ¬ G q) : RelR w' F p g s k b L := by
  obtain ⟨wb, S, h⟩ := h; exact (h.turned t hd).r
theorem RelR.keep (h : RelR w F p g s k b L) (t : Keep w w') : RelR w' F p g s k b L := by
  obtain ⟨wb, S, h⟩ := h; exact (h.keep t).r
theorem RelR.lt (h : RelR w F p g s k b L) : ∀ q, F q → q < w.heap.size := by
  obtain ⟨wb, S, h⟩ := h; exact h.lt
theorem RelR.out (h : RelR w F p g s k b L) : ∀ n, winIn b k n = false → L n = [] := by
  obtain ⟨wb, S, h⟩ := h; exact h.out
/-- The place of a generation that is in the window. -/
theorem RelA.at_ (h : RelA w F p g s k b L wb S) {n : Nat} (hn : winIn b k n = true) : ∃ x q, S[n % k]? = some x ∧ x.p = some q ∧ x.B = L n ∧ BasR w x.F q g s (L n) := by
  have h1 := h.win.low
  have h2 := h.win.high
  have hm : n % k < k := Nat.mod_lt _ (by omega)
  obtain ⟨x, hx⟩ : ∃ x, S[n % k]? = some x := ⟨_, List.getElem?_eq_getElem (by rw [h.c.len]; omega)⟩
  obtain ⟨q, hq⟩ : ∃ q, x.p = some q := by
    cases e : x.p with
    | none => have := (h.made _ x hx).1 e; omega
    | some q => exact ⟨q, rfl⟩
  have hB := h.in_ n hn x hx
  exact ⟨x, q, hx, hq, hB, hB ▸ (h.c.ok x (List.mem_of_getElem? hx)).bas hq⟩
/-- Every generation's rows are a basis. -/
theorem RelR.bas (h : RelR w F p g s k b L) (n : Nat) : Bas g s (L n) := by
  obtain ⟨wb, S, h⟩ := h
  cases e : winIn b k n with
  | true => obtain ⟨x, q, _, _, _, hb⟩ := h.at_ e; exact hb.fine.1
  | false => rw [h.out n e]; exact Bas.nil g s
theorem RelR.fine (h : RelR w F p g s k b L) : 1 ≤ g ∧ g ≤ 255 ∧ 1 ≤ s ∧ s ≤ 65535 ∧ 1 ≤ k ∧ k ≤ 16 ∧ b ≤ topN := by
  obtain ⟨wb, S, h⟩ := h
  exact ⟨h.c.g1, h.c.g2, h.c.s1, h.c.s2, h.win.low, h.win.high, h.win.top⟩
/-- One generation's basis has turned. -/
theorem RelA.put (h : RelA w F p g s k b L wb S) {n q : Nat} (hn : winIn b k n = true) {x : Slot} (hx : S[n % k]? = some x) (hq : x.p = some q) {F' : Nat → Prop} {B' : List (List Nat)} (r : BasR w' F' q g s B') (hf : ∀ j, F' j → x.F j ∨ w.heap.size ≤ j) (t : Turned x.F w w') :
    RelA w' (fun j => F j ∨ w.heap.size ≤ j ∧ j < w'.heap.size) p g s k b (upd L n B') wb (S.set (n % k) ⟨some q, F', B'⟩) := by
  have h1 := h.win.low
  have hm := List.mem_of_getElem? hx
  have hi : n % k < S.length := (List.getElem?_eq_some_iff.1 hx).1
  have get : ∀ j y, (S.set (n % k) ⟨some q, F', B'⟩)[j]? = some y → (j = n % k ∧ y = ⟨some q, F', B'⟩) ∨ (j ≠ n % k ∧ S[j]? = some y) := fun j y hy => set_get hy
  refine ⟨h.c.put hx (Slot.ok_of r) hq.symm hf t h.win.lt, h.win.turned t fun e => (h.c.off x hm wb e).2 rfl, fun i y hy => ?_, Or.inl h.fp, Or.inl h.fw, fun y hy j hj => ?_, fun j hj => ?_, fun m hmm y hy => ?_, fun m hmm => ?_, fun i y hi2 hy hno => ?_⟩
  · rcases get i y hy with ⟨rfl, rfl⟩ | ⟨_, hy2⟩
    · have := h.made _ x hx
      rw [hq] at this
      exact ⟨(fun e => by cases e), (fun e => by have := this.2 e; cases this)⟩
    · exact h.made i y hy2
  · obtain ⟨i, hi2⟩ := List.getElem?_of_mem hy
    rcases get i y hi2 with ⟨rfl, rfl⟩ | ⟨_, hy2⟩
    · rcases hf j hj with e | e
      · exact Or.inl (h.fs x hm j e)
      · exact Or.inr ⟨e, r.fine.2.2.2.2.2 j hj⟩
    · exact Or.inl (h.fs y (List.mem_of_getElem? hy2) j hj)
  · rcases hj with e | e
    · exact Nat.lt_of_lt_of_le (h.lt j e) t.size
    · exact e.2
  · rcases get _ y hy with ⟨e, rfl⟩ | ⟨e, hy2⟩
    · rw [slot_inj h1 hmm hn e, upd_at]
    · rw [upd_ne _ _ fun e2 => e (by rw [e2])]; exact h.in_ m hmm y hy2
  · rw [upd_ne _ _ fun e2 => by rw [e2, hn] at hmm; cases hmm]; exact h.out m hmm
  · rcases get i y hy with ⟨rfl, rfl⟩ | ⟨_, hy2⟩
    · exact (hno n hn rfl).elim
    · exact h.free i y hi2 hy2 hno
end
end Go.Proofs.YtcjjhblgejkkeaaGreat
/- The landed relay: what is asked of one generation. -/
namespace Go.Proofs.YtcjjhblgejkkeaaGreat
open Go.RowKit Lin
set_option linter.unusedVariables false
set_option linter.unusedSimpArgs false
section
variable {w : World} {p wb : Nat}
theorem rmade_any (c0 : w.cell? ⟨p, 0, none⟩ = some (.pointer (some ⟨wb, 0, none⟩))) : Calls Tryz.prog 65 #[.pointer (some ⟨p, 0, none⟩)] w fun e w' => e = .returned (.bool true) ∧ w' = w := by
  go_enter Tryz.func65, Tryz.ntmps65
  go_wp2_with fail
  go_ret
  exact ⟨rfl, rfl⟩
theorem rmade_zero (c0 : w.cell? ⟨p, 0, none⟩ = some (.pointer none)) : Calls Tryz.prog 65 #[.pointer (some ⟨p, 0, none⟩)] w fun e w' => e = .returned (.bool false) ∧ w' = w := by
  go_enter Tryz.func65, Tryz.ntmps65
  go_wp2_with fail
  go_ret
  exact ⟨rfl, rfl⟩
theorem rmade_nil (w : World) : Calls Tryz.prog 65 #[.pointer none] w fun e w' => e = .returned (.bool false) ∧ w' = w := by
  go_enter Tryz.func65, Tryz.ntmps65
  go_wp2_with fail
  go_ret
  exact ⟨rfl, rfl⟩
end
section
variable {w : World} {F : Nat → Prop} {p g s k b wb : Nat} {L : Nat → List (List Nat)} {S : List Slot}
theorem slot_in (h : WinR w wb k b) {n m : Nat} (hn : n < 18446744073709551616) (hin : winIn b k n = true) (hm : n % k = m) : Calls Tryz.prog 68 #[.pointer (some ⟨wb, 0, none⟩), .int .u64 (n : Int)] w fun e w' => e = .returned (.tuple #[.int .i64 (m : Int), .int .i64 0]) ∧ w' = w :=
  (slot_any n hn h).mono fun e w' hh => ⟨by rw [hh.1, slotV, slotE, if_pos hin, if_pos hin, hm], hh.2⟩
theorem slot_no (h : WinR w wb k b) {n : Nat} (hn : n < 18446744073709551616) (hin : winIn b k n = false) : Calls Tryz.prog 68 #[.pointer (some ⟨wb, 0, none⟩), .int .u64 (n : Int)] w fun e w' => e = .returned (.tuple #[.int .i64 0, .int .i64 1]) ∧ w' = w :=
  (slot_any n hn h).mono fun e w' hh => ⟨by rw [hh.1, slotV, slotE, if_neg (by rw [hin]; decide), if_neg (by rw [hin]; decide)]; rfl, hh.2⟩
theorem ask_bool_in (h : RelA w F p g s k b L wb S) (n q5 : Nat) (hn : n < 18446744073709551616) (hin : winIn b k n = true) {x : Slot} {q : Nat} (hx : S[n % k]? = some x) (hq : x.p = some q) {Q : Value → Value → World → Prop}
    (hf : Calls Tryz.prog 48 #[.pointer (some ⟨q, 0, none⟩), .pointer (some ⟨q5, 0, none⟩)] w fun e w' => ∃ a c, e = .returned (.tuple #[a, c]) ∧ Q a c w') :
    Calls Tryz.prog 47 #[.pointer (some ⟨p, 0, none⟩), .int .u64 (n : Int), .func (.func 48) #[] #[.pointer (some ⟨q5, 0, none⟩)]] w fun e w' => ∃ a c, e = .returned (.tuple #[a, c]) ∧ Q a c w' := by
  have h1 := h.win.low
  have h2 := h.win.high
  obtain ⟨m, hm⟩ : ∃ m, n % k = m := ⟨_, rfl⟩
  have hmk : m < 16 := by have := Nat.mod_lt n (show 0 < k by omega); omega
  rw [hm] at hx
  have c0 := h.c.c0
  have cs := h.c.cs hx
  rw [Slot.val, hq] at cs
  replace cs : w.cell? ⟨p, 3 + m, none⟩ = some (.pointer (some ⟨q, 0, none⟩)) := cs
  have HS := Lib.hid (slot_in h.win hn hin hm)
  have HM := Lib.hid (rmade_any c0)
  have HF := Lib.hid hf
  clear hf h h1 h2 hx hin hn hm hq
  go_enter Tryz.func47, Tryz.ntmps47
  go_wp2_with fail
  refine HM.out.mono ?_
  rintro e w1 ⟨rfl, rfl⟩
  go_wp2_with fail
  refine HS.out.mono ?_
  rintro e w1 ⟨rfl, rfl⟩
  go_wp2_with fail
  refine HF.out.mono ?_
  rintro e w1 ⟨a, c, rfl, hQ⟩
  have HQ := Lib.hid hQ
  clear hQ
  go_wp2_with fail
  go_ret2
  exact ⟨a, c, rfl, HQ.out⟩
theorem ask_bool_out (h : RelA w F p g s k b L wb S) (n q5 : Nat) (hn : n < 18446744073709551616) (hin : winIn b k n = false) :
    Calls Tryz.prog 47 #[.pointer (some ⟨p, 0, none⟩), .int .u64 (n : Int), .func (.func 48) #[] #[.pointer (some ⟨q5, 0, none⟩)]] w fun e w' => e = .returned (.tuple #[.bool false, .int .i64 23]) ∧ w' = w := by
  have c0 := h.c.c0
  have HS := Lib.hid (slot_no h.win hn hin)
  have HM := Lib.hid (rmade_any c0)
  clear h hin hn
  go_enter Tryz.func47, Tryz.ntmps47
  go_wp2_with fail
  refine HM.out.mono ?_
  rintro e w1 ⟨rfl, rfl⟩
  go_wp2_with fail
  refine HS.out.mono ?_
  rintro e w1 ⟨rfl, rfl⟩
  go_wp2_with fail
  go_ret2
  exact ⟨rfl, rfl⟩
theorem ask_bool_nil (n q5 : Nat) (v : Value) (hv : Calls Tryz.prog 65 #[v] w fun e w' => e = .returned (.bool false) ∧ w' = w) :
    Calls Tryz.prog 47 #[v, .int .u64 (n : Int), .func (.func 48) #[] #[.pointer (some ⟨q5, 0, none⟩)]] w fun e w' => e = .returned (.tuple #[.bool false, .int .i64 2]) ∧ w' = w := by
  have HM := Lib.hid hv
  clear hv
  go_enter Tryz.func47, Tryz.ntmps47
  go_wp2_with fail
  refine HM.out.mono ?_
  rintro e w1 ⟨rfl, rfl⟩
  go_wp2_with fail
  go_ret2
  exact ⟨rfl, rfl⟩
theorem ask_int_in (h : RelA w F p g s k b L wb S) (n : Nat) (hn : n < 18446744073709551616) (hin : winIn b k n = true) {x : Slot} {q : Nat} (hx : S[n % k]? = some x) (hq : x.p = some q) {Q : Value → Value → World → Prop}
    (hf : Calls Tryz.prog 78 #[.pointer (some ⟨q, 0, none⟩)] w fun e w' => ∃ a c, e = .returned (.tuple #[a, c]) ∧ Q a c w') :
    Calls Tryz.prog 77 #[.pointer (some ⟨p, 0, none⟩), .int .u64 (n : Int), .func (.func 78) #[] #[]] w fun e w' => ∃ a c, e = .returned (.tuple #[a, c]) ∧ Q a c w' := by
  have h1 := h.win.low
  have h2 := h.win.high
  obtain ⟨m, hm⟩ : ∃ m, n % k = m := ⟨_, rfl⟩
  have hmk : m < 16 := by have := Nat.mod_lt n (show 0 < k by omega); omega
  rw [hm] at hx
  have c0 := h.c.c0
  have cs := h.c.cs hx
  rw [Slot.val, hq] at cs
  replace cs : w.cell? ⟨p, 3 + m, none⟩ = some (.pointer (some ⟨q, 0, none⟩)) := cs
  have HS := Lib.hid (slot_in h.win hn hin hm)
  have HM := Lib.hid (rmade_any c0)
  have HF := Lib.hid hf
  clear hf h h1 h2 hx hin hn hm hq
  go_enter Tryz.func77, Tryz.ntmps77
  go_wp2_with fail
  refine HM.out.mono ?_
  rintro e w1 ⟨rfl, rfl⟩
  go_wp2_with fail
  refine HS.out.mono ?_
  rintro e w1 ⟨rfl, rfl⟩
  go_wp2_with fail
  refine HF.out.mono ?_
  rintro e w1 ⟨a, c, rfl, hQ⟩
  have HQ := Lib.hid hQ
  clear hQ
  go_wp2_with fail
  go_ret2
  exact ⟨a, c, rfl, HQ.out⟩
theorem ask_int_out (h : RelA w F p g s k b L wb S) (n : Nat) (hn : n < 18446744073709551616) (hin : winIn b k n = false) :
    Calls Tryz.prog 77 #[.pointer (some ⟨p, 0, none⟩), .int .u64 (n : Int), .func (.func 78) #[] #[]] w fun e w' => e = .returned (.tuple #[.int .i64 0, .int .i64 23]) ∧ w' = w := by
  have c0 := h.c.c0
  have HS := Lib.hid (slot_no h.win hn hin)
  have HM := Lib.hid (rmade_any c0)
  clear h hin hn
  go_enter Tryz.func77, Tryz.ntmps77
  go_wp2_with fail
  refine HM.out.mono ?_
  rintro e w1 ⟨rfl, rfl⟩
  go_wp2_with fail
  refine HS.out.mono ?_
  rintro e w1 ⟨rfl, rfl⟩
  go_wp2_with fail
  go_ret2
  exact ⟨rfl, rfl⟩
theorem ask_int_nil (n : Nat) (v : Value) (hv : Calls Tryz.prog 65 #[v] w fun e w' => e = .returned (.bool false) ∧ w' = w) :
    Calls Tryz.prog 77 #[v, .int .u64 (n : Int), .func (.func 78) #[] #[]] w fun e w' => e = .returned (.tuple #[.int .i64 0, .int .i64 2]) ∧ w' = w := by
  have HM := Lib.hid hv
  clear hv
  go_enter Tryz.func77, Tryz.ntmps77
  go_wp2_with fail
  refine HM.out.mono ?_
  rintro e w1 ⟨rfl, rfl⟩
  go_wp2_with fail
  go_ret2
  exact ⟨rfl, rfl⟩
theorem ask_rows_in (h : RelA w F p g s k b L wb S) (n : Nat) (hn : n < 18446744073709551616) (hin : winIn b k n = true) {x : Slot} {q : Nat} (hx : S[n % k]? = some x) (hq : x.p = some q) {Q : Value → Value → World → Prop}
    (hf : Calls Tryz.prog 74 #[.pointer (some ⟨q, 0, none⟩)] w fun e w' => ∃ a c, e = .returned (.tuple #[a, c]) ∧ Q a c w') :
    Calls Tryz.prog 73 #[.pointer (some ⟨p, 0, none⟩), .int .u64 (n : Int), .func (.func 74) #[] #[]] w fun e w' => ∃ a c, e = .returned (.tuple #[a, c]) ∧ Q a c w' := by
  have h1 := h.win.low
  have h2 := h.win.high
  obtain ⟨m, hm⟩ : ∃ m, n % k = m := ⟨_, rfl⟩
  have hmk : m < 16 := by have := Nat.mod_lt n (show 0 < k by omega); omega
  rw [hm] at hx
  have c0 := h.c.c0
  have cs := h.c.cs hx
  rw [Slot.val, hq] at cs
  replace cs : w.cell? ⟨p, 3 + m, none⟩ = some (.pointer (some ⟨q, 0, none⟩)) := cs
  have HS := Lib.hid (slot_in h.win hn hin hm)
  have HM := Lib.hid (rmade_any c0)
  have HF := Lib.hid hf
  clear hf h h1 h2 hx hin hn hm hq
  go_enter Tryz.func73, Tryz.ntmps73
  go_wp2_with fail
  refine HM.out.mono ?_
  rintro e w1 ⟨rfl, rfl⟩
  go_wp2_with fail
  refine HS.out.mono ?_
  rintro e w1 ⟨rfl, rfl⟩
  go_wp2_with fail
  refine HF.out.mono ?_
  rintro e w1 ⟨a, c, rfl, hQ⟩
  have HQ := Lib.hid hQ
  clear hQ
  go_wp2_with fail
  go_ret2
  exact ⟨a, c, rfl, HQ.out⟩
theorem ask_rows_out (h : RelA w F p g s k b L wb S) (n : Nat) (hn : n < 18446744073709551616) (hin : winIn b k n = false) :
    Calls Tryz.prog 73 #[.pointer (some ⟨p, 0, none⟩), .int .u64 (n : Int), .func (.func 74) #[] #[]] w fun e w' => e = .returned (.tuple #[.slice none 0 0, .int .i64 23]) ∧ w' = w := by
  have c0 := h.c.c0
  have HS := Lib.hid (slot_no h.win hn hin)
  have HM := Lib.hid (rmade_any c0)
  clear h hin hn
  go_enter Tryz.func73, Tryz.ntmps73
  go_wp2_with fail
  refine HM.out.mono ?_
  rintro e w1 ⟨rfl, rfl⟩
  go_wp2_with fail
  refine HS.out.mono ?_
  rintro e w1 ⟨rfl, rfl⟩
  go_wp2_with fail
  go_ret2
  exact ⟨rfl, rfl⟩
theorem ask_rows_nil (n : Nat) (v : Value) (hv : Calls Tryz.prog 65 #[v] w fun e w' => e = .returned (.bool false) ∧ w' = w) :
    Calls Tryz.prog 73 #[v, .int .u64 (n : Int), .func (.func 74) #[] #[]] w fun e w' => e = .returned (.tuple #[.slice none 0 0, .int .i64 2]) ∧ w' = w := by
  have HM := Lib.hid hv
  clear hv
  go_enter Tryz.func73, Tryz.ntmps73
  go_wp2_with fail
  refine HM.out.mono ?_
  rintro e w1 ⟨rfl, rfl⟩
  go_wp2_with fail
  go_ret2
  exact ⟨rfl, rfl⟩
theorem ask_syms_in (h : RelA w F p g s k b L wb S) (n : Nat) (hn : n < 18446744073709551616) (hin : winIn b k n = true) {x : Slot} {q : Nat} (hx : S[n % k]? = some x) (hq : x.p = some q) {Q : Value → Value → World → Prop}
    (hf : Calls Tryz.prog 62 #[.pointer (some ⟨q, 0, none⟩)] w fun e w' => ∃ a c, e = .returned (.tuple #[a, c]) ∧ Q a c w') :
    Calls Tryz.prog 61 #[.pointer (some ⟨p, 0, none⟩), .int .u64 (n : Int), .func (.func 62) #[] #[]] w fun e w' => ∃ a c, e = .returned (.tuple #[a, c]) ∧ Q a c w' := by
  have h1 := h.win.low
  have h2 := h.win.high
  obtain ⟨m, hm⟩ : ∃ m, n % k = m := ⟨_, rfl⟩
  have hmk : m < 16 := by have := Nat.mod_lt n (show 0 < k by omega); omega
  rw [hm] at hx
  have c0 := h.c.c0
  have cs := h.c.cs hx
  rw [Slot.val, hq] at cs
  replace cs : w.cell? ⟨p, 3 + m, none⟩ = some (.pointer (some ⟨q, 0, none⟩)) := cs
  have HS := Lib.hid (slot_in h.win hn hin hm)
  have HM := Lib.hid (rmade_any c0)
  have HF := Lib.hid hf
  clear hf h h1 h2 hx hin hn hm hq
  go_enter Tryz.func61, Tryz.ntmps61
  go_wp2_with fail
  refine HM.out.mono ?_
  rintro e w1 ⟨rfl, rfl⟩
  go_wp2_with fail
  refine HS.out.mono ?_
  rintro e w1 ⟨rfl, rfl⟩
  go_wp2_with fail
  refine HF.out.mono ?_
  rintro e w1 ⟨a, c, rfl, hQ⟩
  have HQ := Lib.hid hQ
  clear hQ
  go_wp2_with fail
  go_ret2
  exact ⟨a, c, rfl, HQ.out⟩
theorem ask_syms_out (h : RelA w F p g s k b L wb S) (n : Nat) (hn : n < 18446744073709551616) (hin : winIn b k n = false) :
    Calls Tryz.prog 61 #[.pointer (some ⟨p, 0, none⟩), .int .u64 (n : Int), .func (.func 62) #[] #[]] w fun e w' => e = .returned (.tuple #[.slice none 0 0, .int .i64 23]) ∧ w' = w := by
  have c0 := h.c.c0
  have HS := Lib.hid (slot_no h.win hn hin)
  have HM := Lib.hid (rmade_any c0)
  clear h hin hn
  go_enter Tryz.func61, Tryz.ntmps61
  go_wp2_with fail
  refine HM.out.mono ?_
  rintro e w1 ⟨rfl, rfl⟩
  go_wp2_with fail
  refine HS.out.mono ?_
  rintro e w1 ⟨rfl, rfl⟩
  go_wp2_with fail
  go_ret2
  exact ⟨rfl, rfl⟩
theorem ask_syms_nil (n : Nat) (v : Value) (hv : Calls Tryz.prog 65 #[v] w fun e w' => e = .returned (.bool false) ∧ w' = w) :
    Calls Tryz.prog 61 #[v, .int .u64 (n : Int), .func (.func 62) #[] #[]] w fun e w' => e = .returned (.tuple #[.slice none 0 0, .int .i64 2]) ∧ w' = w := by
  have HM := Lib.hid hv
  clear hv
  go_enter Tryz.func61, Tryz.ntmps61
  go_wp2_with fail
  refine HM.out.mono ?_
  rintro e w1 ⟨rfl, rfl⟩
  go_wp2_with fail
  go_ret2
  exact ⟨rfl, rfl⟩
/-- A row told: both of its sides new. -/
def NewRow (w : World) (cs ps : List Nat) (er : Int) (e : Ending) (w' : World) : Prop :=
  ∃ A2 n2 c2 A3 n3 c3, e = .returned (.tuple #[.agg #[.slice A2 n2 c2, .slice A3 n3 c3], .int .i64 er]) ∧ Own w' w.heap.size 5 A2 n2 c2 cs ∧ Own w' w.heap.size 5 A3 n3 c3 ps ∧ Keep w w'
theorem NewRow.lower {w w0 w' : World} {cs ps : List Nat} {er : Int} {e : Ending} (h : NewRow w cs ps er e w') (k : Keep w0 w) : NewRow w0 cs ps er e w' := by
  obtain ⟨A2, n2, c2, A3, n3, c3, e1, e2, e3, e4⟩ := h
  exact ⟨A2, n2, c2, A3, n3, c3, e1, e2.lower k.size, e3.lower k.size, k.trans e4⟩
theorem two_blocks (w : World) : ((w.alloc (.cells #[.slice none 0 0, .slice none 0 0] 34)).alloc (.cells #[.slice none 0 0, .slice none 0 0] 34)).heap[w.heap.size]? = some (.cells #[.slice none 0 0, .slice none 0 0] 34 (0, 0)) ∧ ((w.alloc (.cells #[.slice none 0 0, .slice none 0 0] 34)).alloc (.cells #[.slice none 0 0, .slice none 0 0] 34)).heap[w.heap.size + 1]? = some (.cells #[.slice none 0 0, .slice none 0 0] 34 (0, 0)) ∧ Keep w ((w.alloc (.cells #[.slice none 0 0, .slice none 0 0] 34)).alloc (.cells #[.slice none 0 0, .slice none 0 0] 34)) := by
  have k1 : Keep (w.alloc (.cells #[.slice none 0 0, .slice none 0 0] 34)) ((w.alloc (.cells #[.slice none 0 0, .slice none 0 0] 34)).alloc (.cells #[.slice none 0 0, .slice none 0 0] 34)) := (Keep.refl _).alloc _ _
  have h1 := heap_alloc_new w (.cells #[.slice none 0 0, .slice none 0 0] 34)
  have h2 := heap_alloc_new (w.alloc (.cells #[.slice none 0 0, .slice none 0 0] 34)) (.cells #[.slice none 0 0, .slice none 0 0] 34)
  rw [show (w.alloc (.cells #[.slice none 0 0, .slice none 0 0] 34)).heap.size = w.heap.size + 1 by simp] at h2
  exact ⟨(k1.block _ (by simp)).trans h1, h2, ((Keep.refl w).alloc _ _).alloc _ _⟩
theorem ask_row_out (h : RelA w F p g s k b L wb S) (n q5 q6 : Nat) (hn : n < 18446744073709551616) (hin : winIn b k n = false) :
    Calls Tryz.prog 52 #[.pointer (some ⟨p, 0, none⟩), .int .u64 (n : Int), .func (.func 53) #[] #[.pointer (some ⟨q5, 0, none⟩), .pointer (some ⟨q6, 0, none⟩)]] w (NewRow w [] [] 23) := by
  have hw0 := two_blocks w
  obtain ⟨w2, hw2⟩ : ∃ w2, ((w.alloc (.cells #[.slice none 0 0, .slice none 0 0] 34)).alloc (.cells #[.slice none 0 0, .slice none 0 0] 34)) = w2 := ⟨_, rfl⟩
  rw [hw2] at hw0
  have H0 := Lib.hid hw0
  have c0 := (h.keep hw0.2.2).c.c0
  have HS := Lib.hid (slot_no (h.keep hw0.2.2).win hn hin)
  have HM := Lib.hid (rmade_any c0)
  clear h hin hn hw0
  go_enter Tryz.func52, Tryz.ntmps52
  go_wp2_with fail
  refine HM.out.mono ?_
  rintro e w1 ⟨rfl, rfl⟩
  have y0 : w1.cell? ⟨w.heap.size, 0, none⟩ = some (.slice none 0 0) := cell_of_row _ _ _ _ _ _ H0.out.1
  have y1 : w1.cell? ⟨w.heap.size, 1, none⟩ = some (.slice none 0 0) := cell_of_row _ _ _ _ _ _ H0.out.1
  have z0 : w1.frozen? ⟨w.heap.size, 0, none⟩ = false := by simp [World.frozen?, H0.out.1]
  have z1 : w1.frozen? ⟨w.heap.size, 1, none⟩ = false := by simp [World.frozen?, H0.out.1]
  have y2 : w1.cell? ⟨w.heap.size + 1, 0, none⟩ = some (.slice none 0 0) := cell_of_row _ _ _ _ _ _ H0.out.2.1
  have y3 : w1.cell? ⟨w.heap.size + 1, 1, none⟩ = some (.slice none 0 0) := cell_of_row _ _ _ _ _ _ H0.out.2.1
  go_wp2_with fail
  refine HS.out.mono ?_
  rintro e w1 ⟨rfl, rfl⟩
  go_wp2_with fail
  have hb := bset (i := 1) (bset (i := 0) H0.out.1 (.slice none 0 0)) (.slice none 0 0)
  have hk : Keep w ((w1.setCell ⟨w.heap.size, 0, none⟩ (.slice none 0 0)).setCell ⟨w.heap.size, 1, none⟩ (.slice none 0 0)) := (H0.out.2.2.setCell (a := ⟨w.heap.size, 0, none⟩) (Nat.le_refl _) _).setCell (a := ⟨w.heap.size, 1, none⟩) (Nat.le_refl _) _
  refine bodyPost_ret (v := .tuple #[.agg #[.slice none 0 0, .slice none 0 0], .int .i64 23]) ?_ rfl ⟨none, 0, 0, none, 0, 0, rfl, Own.none_ _ _ _, Own.none_ _ _ _, hk⟩
  exact results_cell_tmp (p := 6) (u := 7) (ty := 34) rfl _ _ w.heap.size 34 _ (0, 0) _ rfl hb Tryz.underlying34 rfl infoRowSize
theorem ask_row_nil (n q5 q6 : Nat) (v : Value) (hv : ∀ w, Calls Tryz.prog 65 #[v] w fun e w' => e = .returned (.bool false) ∧ w' = w) :
    Calls Tryz.prog 52 #[v, .int .u64 (n : Int), .func (.func 53) #[] #[.pointer (some ⟨q5, 0, none⟩), .pointer (some ⟨q6, 0, none⟩)]] w (NewRow w [] [] 2) := by
  have hw0 := two_blocks w
  obtain ⟨w2, hw2⟩ : ∃ w2, ((w.alloc (.cells #[.slice none 0 0, .slice none 0 0] 34)).alloc (.cells #[.slice none 0 0, .slice none 0 0] 34)) = w2 := ⟨_, rfl⟩
  rw [hw2] at hw0
  have H0 := Lib.hid hw0
  have HM := Lib.hid (hv w2)
  clear hv hw0
  go_enter Tryz.func52, Tryz.ntmps52
  go_wp2_with fail
  refine HM.out.mono ?_
  rintro e w1 ⟨rfl, rfl⟩
  have y0 : w1.cell? ⟨w.heap.size, 0, none⟩ = some (.slice none 0 0) := cell_of_row _ _ _ _ _ _ H0.out.1
  have y1 : w1.cell? ⟨w.heap.size, 1, none⟩ = some (.slice none 0 0) := cell_of_row _ _ _ _ _ _ H0.out.1
  have z0 : w1.frozen? ⟨w.heap.size, 0, none⟩ = false := by simp [World.frozen?, H0.out.1]
  have z1 : w1.frozen? ⟨w.heap.size, 1, none⟩ = false := by simp [World.frozen?, H0.out.1]
  have y2 : w1.cell? ⟨w.heap.size + 1, 0, none⟩ = some (.slice none 0 0) := cell_of_row _ _ _ _ _ _ H0.out.2.1
  have y3 : w1.cell? ⟨w.heap.size + 1, 1, none⟩ = some (.slice none 0 0) := cell_of_row _ _ _ _ _ _ H0.out.2.1
  go_wp2_with fail
  have hb := bset (i := 1) (bset (i := 0) H0.out.1 (.slice none 0 0)) (.slice none 0 0)
  have hk : Keep w ((w1.setCell ⟨w.heap.size, 0, none⟩ (.slice none 0 0)).setCell ⟨w.heap.size, 1, none⟩ (.slice none 0 0)) := (H0.out.2.2.setCell (a := ⟨w.heap.size, 0, none⟩) (Nat.le_refl _) _).setCell (a := ⟨w.heap.size, 1, none⟩) (Nat.le_refl _) _
  refine bodyPost_ret (v := .tuple #[.agg #[.slice none 0 0, .slice none 0 0], .int .i64 2]) ?_ rfl ⟨none, 0, 0, none, 0, 0, rfl, Own.none_ _ _ _, Own.none_ _ _ _, hk⟩
  exact results_cell_tmp (p := 6) (u := 7) (ty := 34) rfl _ _ w.heap.size 34 _ (0, 0) _ rfl hb Tryz.underlying34 rfl infoRowSize
theorem ask_row_in (h : RelA w F p g s k b L wb S) (n q5 q6 : Nat) (hn : n < 18446744073709551616) (hin : winIn b k n = true) {x : Slot} {q : Nat} (hx : S[n % k]? = some x) (hq : x.p = some q) (cs ps : List Nat) (er : Int)
    (hf : ∀ w1, Keep w w1 → Calls Tryz.prog 53 #[.pointer (some ⟨q, 0, none⟩), .pointer (some ⟨q5, 0, none⟩), .pointer (some ⟨q6, 0, none⟩)] w1 (NewRow w1 cs ps er)) :
    Calls Tryz.prog 52 #[.pointer (some ⟨p, 0, none⟩), .int .u64 (n : Int), .func (.func 53) #[] #[.pointer (some ⟨q5, 0, none⟩), .pointer (some ⟨q6, 0, none⟩)]] w (NewRow w cs ps er) := by
  have hw0 := two_blocks w
  obtain ⟨w2, hw2⟩ : ∃ w2, ((w.alloc (.cells #[.slice none 0 0, .slice none 0 0] 34)).alloc (.cells #[.slice none 0 0, .slice none 0 0] 34)) = w2 := ⟨_, rfl⟩
  rw [hw2] at hw0
  have H0 := Lib.hid hw0
  have hsz : w2.heap.size = w.heap.size + 2 := by rw [← hw2]; simp
  have HSZ := Lib.hid hsz
  have HF := Lib.hid (hf w2 hw0.2.2)
  have h := h.keep hw0.2.2
  clear hsz hf hw0
  have h1 := h.win.low
  have h2 := h.win.high
  obtain ⟨m, hm⟩ : ∃ m, n % k = m := ⟨_, rfl⟩
  have hmk : m < 16 := by have := Nat.mod_lt n (show 0 < k by omega); omega
  rw [hm] at hx
  have c0 := h.c.c0
  have cs0 := h.c.cs hx
  rw [Slot.val, hq] at cs0
  have cs1 : w2.cell? ⟨p, 3 + m, none⟩ = some (.pointer (some ⟨q, 0, none⟩)) := cs0
  have HS := Lib.hid (slot_in h.win hn hin hm)
  have HM := Lib.hid (rmade_any c0)
  clear h h1 h2 hx hin hn hm hq cs0
  go_enter Tryz.func52, Tryz.ntmps52
  go_wp2_with fail
  refine HM.out.mono ?_
  rintro e w1 ⟨rfl, rfl⟩
  go_wp2_with fail
  refine HS.out.mono ?_
  rintro e w1 ⟨rfl, rfl⟩
  go_wp2_with fail
  refine HF.out.mono ?_
  rintro e w3 ⟨A2, n2, c2, A3, n3, c3, rfl, o1, o2, k1⟩
  have hb0 := (k1.block _ (by have := HSZ.out; omega)).trans H0.out.1
  have y0 : w3.cell? ⟨w.heap.size, 0, none⟩ = some (.slice none 0 0) := cell_of_row _ _ _ _ _ _ hb0
  have y1 : w3.cell? ⟨w.heap.size, 1, none⟩ = some (.slice none 0 0) := cell_of_row _ _ _ _ _ _ hb0
  have z0 : w3.frozen? ⟨w.heap.size, 0, none⟩ = false := by simp [World.frozen?, hb0]
  have z1 : w3.frozen? ⟨w.heap.size, 1, none⟩ = false := by simp [World.frozen?, hb0]
  have hb := bset (i := 1) (bset (i := 0) hb0 (.slice A2 n2 c2)) (.slice A3 n3 c3)
  have hk : Keep w ((w3.setCell ⟨w.heap.size, 0, none⟩ (.slice A2 n2 c2)).setCell ⟨w.heap.size, 1, none⟩ (.slice A3 n3 c3)) := ((H0.out.2.2.trans k1).setCell (a := ⟨w.heap.size, 0, none⟩) (Nat.le_refl _) _).setCell (a := ⟨w.heap.size, 1, none⟩) (Nat.le_refl _) _
  have O1 := Lib.hid ((((o1.lower (base' := w.heap.size + 1) (by have := HSZ.out; omega)).far (fun e => by have := (o1.1.lt _ e).1; have := HSZ.out; simp at *; omega) (.slice A2 n2 c2) (p := ⟨w.heap.size, 0, none⟩)).far (fun e => by have := (o1.1.lt _ e).1; have := HSZ.out; simp at *; omega) (.slice A3 n3 c3) (p := ⟨w.heap.size, 1, none⟩)).lower (base' := w.heap.size) (by omega))
  have O2 := Lib.hid ((((o2.lower (base' := w.heap.size + 1) (by have := HSZ.out; omega)).far (fun e => by have := (o2.1.lt _ e).1; have := HSZ.out; simp at *; omega) (.slice A2 n2 c2) (p := ⟨w.heap.size, 0, none⟩)).far (fun e => by have := (o2.1.lt _ e).1; have := HSZ.out; simp at *; omega) (.slice A3 n3 c3) (p := ⟨w.heap.size, 1, none⟩)).lower (base' := w.heap.size) (by omega))
  have HK := Lib.hid hk
  have HB := Lib.hid hb
  clear o1 o2 k1 hk hb hb0
  go_wp2_with fail
  refine bodyPost_ret (v := .tuple #[.agg #[.slice A2 n2 c2, .slice A3 n3 c3], .int .i64 er]) ?_ rfl ⟨A2, n2, c2, A3, n3, c3, rfl, O1.out, O2.out, HK.out⟩
  exact results_cell_tmp (p := 6) (u := 7) (ty := 34) rfl _ _ w.heap.size 34 _ (0, 0) _ rfl HB.out Tryz.underlying34 rfl infoRowSize
end
end Go.Proofs.YtcjjhblgejkkeaaGreat
/- The landed relay: Take, Rank, Rows, Solve, Send. -/
namespace Go.Proofs.YtcjjhblgejkkeaaGreat
open Go.RowKit Lin
set_option linter.unusedVariables false
set_option linter.unusedSimpArgs false
theorem takec_any (q q5 : Nat) (v1 v2 : Value) (w : World) {Q : Value → Value → World → Prop} (y0 : w.cell? ⟨q5, 0, none⟩ = some v1) (y1 : w.cell? ⟨q5, 1, none⟩ = some v2)
    (hi : Calls Tryz.prog 49 #[.pointer (some ⟨q, 0, none⟩), .agg #[v1, v2]] w fun e w' => ∃ a c, e = .returned (.tuple #[a, c]) ∧ Q a c w') :
    Calls Tryz.prog 48 #[.pointer (some ⟨q, 0, none⟩), .pointer (some ⟨q5, 0, none⟩)] w fun e w' => ∃ a c, e = .returned (.tuple #[a, c]) ∧ Q a c w' := by
  have HI := Lib.hid hi
  clear hi
  go_enter Tryz.func48, Tryz.ntmps48
  go_wp2_with fail
  refine HI.out.mono ?_
  rintro e w1 ⟨a, c, rfl, hQ⟩
  have HQ := Lib.hid hQ
  clear hQ
  go_wp2_with fail
  go_ret2
  exact ⟨a, c, rfl, HQ.out⟩
theorem rankc_any (q : Nat) (w : World) {Q : Value → World → Prop} (hi : Calls Tryz.prog 54 #[.pointer (some ⟨q, 0, none⟩)] w fun e w' => ∃ a, e = .returned a ∧ Q a w') :
    Calls Tryz.prog 78 #[.pointer (some ⟨q, 0, none⟩)] w fun e w' => ∃ a c, e = .returned (.tuple #[a, c]) ∧ (Q a w' ∧ c = .int .i64 0) := by
  have HI := Lib.hid hi
  clear hi
  go_enter Tryz.func78, Tryz.ntmps78
  go_wp2_with fail
  refine HI.out.mono ?_
  rintro e w1 ⟨a, rfl, hQ⟩
  have HQ := Lib.hid hQ
  clear hQ
  go_wp2_with fail
  go_ret2
  exact ⟨a, _, rfl, HQ.out, rfl⟩
theorem rowsc_any (q : Nat) (w : World) {Q : Value → World → Prop} (hi : Calls Tryz.prog 75 #[.pointer (some ⟨q, 0, none⟩)] w fun e w' => ∃ a, e = .returned a ∧ Q a w') :
    Calls Tryz.prog 74 #[.pointer (some ⟨q, 0, none⟩)] w fun e w' => ∃ a c, e = .returned (.tuple #[a, c]) ∧ (Q a w' ∧ c = .int .i64 0) := by
  have HI := Lib.hid hi
  clear hi
  go_enter Tryz.func74, Tryz.ntmps74
  go_wp2_with fail
  refine HI.out.mono ?_
  rintro e w1 ⟨a, rfl, hQ⟩
  have HQ := Lib.hid hQ
  clear hQ
  go_wp2_with fail
  go_ret2
  exact ⟨a, _, rfl, HQ.out, rfl⟩
theorem solvec_any (q : Nat) (w : World) {Q : Value → Value → World → Prop} (hi : Calls Tryz.prog 63 #[.pointer (some ⟨q, 0, none⟩)] w fun e w' => ∃ a c, e = .returned (.tuple #[a, c]) ∧ Q a c w') :
    Calls Tryz.prog 62 #[.pointer (some ⟨q, 0, none⟩)] w fun e w' => ∃ a c, e = .returned (.tuple #[a, c]) ∧ Q a c w' := by
  have HI := Lib.hid hi
  clear hi
  go_enter Tryz.func62, Tryz.ntmps62
  go_wp2_with fail
  refine HI.out.mono ?_
  rintro e w1 ⟨a, c, rfl, hQ⟩
  have HQ := Lib.hid hQ
  clear hQ
  go_wp2_with fail
  go_ret2
  exact ⟨a, c, rfl, HQ.out⟩
section
variable {w : World} {F : Nat → Prop} {p g s k b wb : Nat} {L : Nat → List (List Nat)} {S : List Slot}
theorem rl_rank (h : RelR w F p g s k b L) (n : Nat) (hn : n < 18446744073709551616) :
    Calls Tryz.prog 25 #[.pointer (some ⟨p, 0, none⟩), .int .u64 (n : Int)] w fun e w' => e = .returned (.int .i64 ((L n).length : Int)) ∧ w' = w := by
  obtain ⟨wb, S, h⟩ := h
  have HA : Hid (Calls Tryz.prog 77 #[.pointer (some ⟨p, 0, none⟩), .int .u64 (n : Int), .func (.func 78) #[] #[]] w fun e w' => ∃ a c, e = .returned (.tuple #[a, c]) ∧ (a = .int .i64 ((L n).length : Int) ∧ w' = w)) := by
    show Calls _ _ _ _ _
    cases hin : winIn b k n with
    | true =>
      obtain ⟨x, q, hx, hq, hB, hb⟩ := h.at_ hin
      refine (ask_int_in h n hn hin hx hq (Q := fun a c w' => a = .int .i64 ((L n).length : Int) ∧ w' = w) ?_)
      exact (rankc_any q w (Q := fun a w' => a = .int .i64 ((L n).length : Int) ∧ w' = w) ((brank_eq hb).mono fun e w' hh => ⟨_, hh.1, rfl, hh.2.symm⟩)).mono fun e w' hh => by
        obtain ⟨a, c, e1, e2, e3⟩ := hh
        exact ⟨a, c, e1, e2⟩
    | false => exact (ask_int_out h n hn hin).mono fun e w' hh => ⟨_, _, hh.1, by rw [h.out n hin]; rfl, hh.2⟩
  clear h hn
  go_enter Tryz.func25, Tryz.ntmps25
  go_wp2_with fail
  refine HA.out.mono ?_
  rintro e w1 ⟨a, c, rfl, rfl, rfl⟩
  go_wp2_with fail
  go_ret
  exact ⟨rfl, rfl⟩
theorem OwnedSt.none_ (w : World) (g s : Nat) : OwnedSt w w none 0 0 g s [] [] := ⟨OwnSt.none_ _ _, fun p hp => by simp at hp, rfl, Keep.refl w⟩
theorem rl_rows (h : RelR w F p g s k b L) (n : Nat) (hn : n < 18446744073709551616) :
    Calls Tryz.prog 22 #[.pointer (some ⟨p, 0, none⟩), .int .u64 (n : Int)] w fun e w' => ∃ A r c ps, e = .returned (.slice A r c) ∧ OwnedSt w w' A r c g s (L n) ps := by
  obtain ⟨wb, S, h⟩ := h
  have HA : Hid (Calls Tryz.prog 73 #[.pointer (some ⟨p, 0, none⟩), .int .u64 (n : Int), .func (.func 74) #[] #[]] w fun e w' => ∃ a c, e = .returned (.tuple #[a, c]) ∧ ∃ A r d ps, a = .slice A r d ∧ OwnedSt w w' A r d g s (L n) ps) := by
    show Calls _ _ _ _ _
    cases hin : winIn b k n with
    | true =>
      obtain ⟨x, q, hx, hq, hB, hb⟩ := h.at_ hin
      refine (ask_rows_in h n hn hin hx hq (Q := fun a c w' => ∃ A r d ps, a = .slice A r d ∧ OwnedSt w w' A r d g s (L n) ps) ?_)
      exact (rowsc_any q w (Q := fun a w' => ∃ A r d ps, a = .slice A r d ∧ OwnedSt w w' A r d g s (L n) ps) ((brows_any hb).mono fun e w' hh => by
        obtain ⟨A, r, d, ps, e1, e2⟩ := hh
        exact ⟨_, e1, A, r, d, ps, rfl, e2⟩)).mono fun e w' hh => by
        obtain ⟨a, c, e1, e2, e3⟩ := hh
        exact ⟨a, c, e1, e2⟩
    | false => exact (ask_rows_out h n hn hin).mono fun e w' hh => ⟨_, _, hh.1, none, 0, 0, [], rfl, by rw [h.out n hin, hh.2]; exact OwnedSt.none_ w g s⟩
  clear h hn
  go_enter Tryz.func22, Tryz.ntmps22
  go_wp2_with fail
  refine HA.out.mono ?_
  rintro e w1 ⟨a, c, rfl, A, r, d, ps, rfl, hO⟩
  have HO := Lib.hid hO
  clear hO
  go_wp2_with fail
  go_ret
  exact ⟨A, r, d, ps, rfl, HO.out⟩
/-- Symbols told: each a slice of its own, one behind the other. -/
def Solved (w w' : World) (A : Option Addr) (g c : Nat) (B : List (List Nat)) (rs : List RowV) : Prop :=
  OwnRows w' w.heap.size 32 A g c rs ∧ (∀ r ∈ rs, Own w' w.heap.size 5 r.A r.n r.c r.xs) ∧ rowsXs rs = B.map (List.drop g) ∧ Keep w w' ∧ (∀ (i j : Nat) (r r' : RowV), i < j → rs[i]? = some r → rs[j]? = some r' → ∀ x y, (Value.slice r.A r.n r.c).ownBlock = some x → (Value.slice r'.A r'.n r'.c).ownBlock = some y → x < y)
theorem rl_solve_of (v : Value) (n : Nat) (w : World) {Q : Value → Value → World → Prop} (hi : Calls Tryz.prog 61 #[v, .int .u64 (n : Int), .func (.func 62) #[] #[]] w fun e w' => ∃ a c, e = .returned (.tuple #[a, c]) ∧ Q a c w') :
    Calls Tryz.prog 15 #[v, .int .u64 (n : Int)] w fun e w' => ∃ a c, e = .returned (.tuple #[a, c]) ∧ Q a c w' := by
  have HI := Lib.hid hi
  clear hi
  go_enter Tryz.func15, Tryz.ntmps15
  go_wp2_with fail
  refine HI.out.mono ?_
  rintro e w1 ⟨a, c, rfl, hQ⟩
  have HQ := Lib.hid hQ
  clear hQ
  go_wp2_with fail
  go_ret2
  exact ⟨a, c, rfl, HQ.out⟩
theorem rl_solve_in (h : RelR w F p g s k b L) (n : Nat) (hn : n < 18446744073709551616) (hin : winIn b k n = true) (hg : (L n).length = g) :
    Calls Tryz.prog 15 #[.pointer (some ⟨p, 0, none⟩), .int .u64 (n : Int)] w fun e w' => ∃ A c rs, e = .returned (.tuple #[.slice A g c, .int .i64 0]) ∧ Solved w w' A g c (L n) rs := by
  obtain ⟨wb, S, h⟩ := h
  obtain ⟨x, q, hx, hq, hB, hb⟩ := h.at_ hin
  refine (rl_solve_of _ n w (Q := fun a c w' => ∃ A d rs, a = .slice A g d ∧ c = .int .i64 0 ∧ Solved w w' A g d (L n) rs) (ask_syms_in h n hn hin hx hq (solvec_any q w ((bsolve_ap hb hg).mono fun e w' hh => ?_)))).mono fun e w' hh => ?_
  · obtain ⟨A, c, rs, e1, e2⟩ := hh
    exact ⟨_, _, e1, A, c, rs, rfl, rfl, e2⟩
  · obtain ⟨a, c, e1, A, d, rs, rfl, rfl, e2⟩ := hh
    exact ⟨A, d, rs, e1, e2⟩
theorem rl_solve_low (h : RelR w F p g s k b L) (n : Nat) (hn : n < 18446744073709551616) (hin : winIn b k n = true) (hg : (L n).length ≠ g) :
    Calls Tryz.prog 15 #[.pointer (some ⟨p, 0, none⟩), .int .u64 (n : Int)] w fun e w' => e = .returned (.tuple #[.slice none 0 0, .int .i64 24]) ∧ Keep w w' := by
  obtain ⟨wb, S, h⟩ := h
  obtain ⟨x, q, hx, hq, hB, hb⟩ := h.at_ hin
  refine (rl_solve_of _ n w (Q := fun a c w' => a = .slice none 0 0 ∧ c = .int .i64 24 ∧ Keep w w') (ask_syms_in h n hn hin hx hq (solvec_any q w ((bsolve_low hb hg).mono fun e w' hh => ⟨_, _, hh.1, rfl, rfl, hh.2⟩)))).mono fun e w' hh => ?_
  obtain ⟨a, c, e1, rfl, rfl, e2⟩ := hh
  exact ⟨e1, e2⟩
theorem rl_solve_out (h : RelR w F p g s k b L) (n : Nat) (hn : n < 18446744073709551616) (hin : winIn b k n = false) :
    Calls Tryz.prog 15 #[.pointer (some ⟨p, 0, none⟩), .int .u64 (n : Int)] w fun e w' => e = .returned (.tuple #[.slice none 0 0, .int .i64 23]) ∧ w' = w := by
  obtain ⟨wb, S, h⟩ := h
  refine (rl_solve_of _ n w (Q := fun a c w' => a = .slice none 0 0 ∧ c = .int .i64 23 ∧ w' = w) ((ask_syms_out h n hn hin).mono fun e w' hh => ⟨_, _, hh.1, rfl, rfl, hh.2⟩)).mono fun e w' hh => ?_
  obtain ⟨a, c, e1, rfl, rfl, e2⟩ := hh
  exact ⟨e1, e2⟩
theorem rl_take_of (v v1 v2 : Value) (n : Nat) (w : World) {Q : Value → Value → World → Prop}
    (hi : Calls Tryz.prog 47 #[v, .int .u64 (n : Int), .func (.func 48) #[] #[.pointer (some ⟨w.heap.size, 0, none⟩)]] (w.alloc (.cells #[v1, v2] 34)) fun e w' => ∃ a c, e = .returned (.tuple #[a, c]) ∧ Q a c w') (h1 : ∃ A n c, v1 = .slice A n c) (h2 : ∃ A n c, v2 = .slice A n c) :
    Calls Tryz.prog 10 #[v, .int .u64 (n : Int), .agg #[v1, v2]] w fun e w' => ∃ a c, e = .returned (.tuple #[a, c]) ∧ Q a c w' := by
  have HI := Lib.hid hi
  obtain ⟨A1, n1, c1, rfl⟩ := h1
  obtain ⟨A2, n2, c2, rfl⟩ := h2
  clear hi
  go_enter Tryz.func10, Tryz.ntmps10
  go_wp2_with fail
  refine HI.out.mono ?_
  rintro e w1 ⟨a, c, rfl, hQ⟩
  have HQ := Lib.hid hQ
  clear hQ
  go_wp2_with fail
  go_ret2
  exact ⟨a, c, rfl, HQ.out⟩
theorem row_block (w : World) (v1 v2 : Value) : (w.alloc (.cells #[v1, v2] 34)).cell? ⟨w.heap.size, 0, none⟩ = some v1 ∧ (w.alloc (.cells #[v1, v2] 34)).cell? ⟨w.heap.size, 1, none⟩ = some v2 ∧ Keep w (w.alloc (.cells #[v1, v2] 34)) :=
  ⟨cell_of_row _ _ _ _ _ _ (heap_alloc_new w _), cell_of_row _ _ _ _ _ _ (heap_alloc_new w _), (Keep.refl w).alloc _ _⟩
/-- A row that fits, of a generation in the window. -/
theorem rl_take_in (h : RelR w F p g s k b L) (n : Nat) (hn : n < 18446744073709551616) (hin : winIn b k n = true) (B1 B2 c1 c2 : Nat) (A1 A2 : Option Addr) (xs ys : List Nat) (hc1 : g ≤ c1) (hc2 : s ≤ c2) (h1 : Bytes w B1 A1 g xs) (h2 : Bytes w B2 A2 s ys) (hB1 : B1 ≤ w.heap.size) (hB2 : B2 ≤ w.heap.size) :
    Calls Tryz.prog 10 #[.pointer (some ⟨p, 0, none⟩), .int .u64 (n : Int), .agg #[.slice A1 g c1, .slice A2 s c2]] w fun e w' => e = .returned (.tuple #[.bool (!decide (inB g s (L n) (xs ++ ys))), .int .i64 0]) ∧ ∃ F', RelR w' F' p g s k b (upd L n (insB g s (L n) (xs ++ ys))) ∧ (∀ j, F' j → F j ∨ w.heap.size ≤ j) ∧ Turned F w w' := by
  obtain ⟨wb, S, h⟩ := h
  obtain ⟨r0, r1, rk⟩ := row_block w (.slice A1 g c1) (.slice A2 s c2)
  have h' := h.keep rk
  obtain ⟨x, q, hx, hq, hB, hb⟩ := h'.at_ hin
  refine (rl_take_of _ _ _ n w (Q := fun a c w' => a = .bool (!decide (inB g s (L n) (xs ++ ys))) ∧ c = .int .i64 0 ∧ ∃ F', RelR w' F' p g s k b (upd L n (insB g s (L n) (xs ++ ys))) ∧ (∀ j, F' j → F j ∨ w.heap.size ≤ j) ∧ Turned F w w') (ask_bool_in h' n _ hn hin hx hq (takec_any q _ _ _ _ r0 r1 ((binsert_in hb B1 B2 c1 c2 A1 A2 xs ys hc1 hc2 (h1.keep hB1 rk) (h2.keep hB2 rk) (Nat.le_trans hB1 rk.size) (Nat.le_trans hB2 rk.size)).mono fun e w' hh => ?_))) ⟨_, _, _, rfl⟩ ⟨_, _, _, rfl⟩).mono fun e w' hh => ?_
  · obtain ⟨e1, F', e2, e3, e4⟩ := hh
    have hm := List.mem_of_getElem? hx
    refine ⟨_, _, e1, rfl, rfl, _, (h'.put hin hx hq e2 e3 e4).r, fun j hj => ?_, (Turned.of_keep (F := F) rk).trans e4 fun j hj => Or.inl (h'.fs x hm j hj)⟩
    rcases hj with e | e
    · exact Or.inl e
    · exact Or.inr (Nat.le_trans rk.size e.1)
  · obtain ⟨a, c, e1, rfl, rfl, e2⟩ := hh
    exact ⟨e1, e2⟩
/-- .. that does not fit. -/
theorem rl_take_dim (h : RelR w F p g s k b L) (n : Nat) (hn : n < 18446744073709551616) (hin : winIn b k n = true) (n1 n2 c1 c2 : Nat) (A1 A2 : Option Addr) (hd : n1 ≠ g ∨ n2 ≠ s) :
    Calls Tryz.prog 10 #[.pointer (some ⟨p, 0, none⟩), .int .u64 (n : Int), .agg #[.slice A1 n1 c1, .slice A2 n2 c2]] w fun e w' => e = .returned (.tuple #[.bool false, .int .i64 21]) ∧ Keep w w' := by
  obtain ⟨wb, S, h⟩ := h
  obtain ⟨r0, r1, rk⟩ := row_block w (.slice A1 n1 c1) (.slice A2 n2 c2)
  have h' := h.keep rk
  obtain ⟨x, q, hx, hq, hB, hb⟩ := h'.at_ hin
  refine (rl_take_of _ _ _ n w (Q := fun a c w' => a = .bool false ∧ c = .int .i64 21 ∧ Keep w w') (ask_bool_in h' n _ hn hin hx hq (takec_any q _ _ _ _ r0 r1 ((binsert_dim hb n1 n2 c1 c2 A1 A2 hd).mono fun e w' hh => ⟨_, _, hh.1, rfl, rfl, rk.trans hh.2⟩))) ⟨_, _, _, rfl⟩ ⟨_, _, _, rfl⟩).mono fun e w' hh => ?_
  obtain ⟨a, c, e1, rfl, rfl, e2⟩ := hh
  exact ⟨e1, e2⟩
theorem rl_take_out (h : RelR w F p g s k b L) (n : Nat) (hn : n < 18446744073709551616) (hin : winIn b k n = false) (n1 n2 c1 c2 : Nat) (A1 A2 : Option Addr) :
    Calls Tryz.prog 10 #[.pointer (some ⟨p, 0, none⟩), .int .u64 (n : Int), .agg #[.slice A1 n1 c1, .slice A2 n2 c2]] w fun e w' => e = .returned (.tuple #[.bool false, .int .i64 23]) ∧ Keep w w' := by
  obtain ⟨wb, S, h⟩ := h
  obtain ⟨r0, r1, rk⟩ := row_block w (.slice A1 n1 c1) (.slice A2 n2 c2)
  have h' := h.keep rk
  refine (rl_take_of _ _ _ n w (Q := fun a c w' => a = .bool false ∧ c = .int .i64 23 ∧ Keep w w') ((ask_bool_out h' n _ hn hin).mono fun e w' hh => ⟨_, _, hh.1, rfl, rfl, hh.2 ▸ rk⟩) ⟨_, _, _, rfl⟩ ⟨_, _, _, rfl⟩).mono fun e w' hh => ?_
  obtain ⟨a, c, e1, rfl, rfl, e2⟩ := hh
  exact ⟨e1, e2⟩
end
end Go.Proofs.YtcjjhblgejkkeaaGreat
/- The landed relay: Send. -/
namespace Go.Proofs.YtcjjhblgejkkeaaGreat
open Go.RowKit Lin
set_option linter.unusedVariables false
set_option linter.unusedSimpArgs false
section
variable {w : World} {F : Nat → Prop} {g s q : Nat} {B : List (List Nat)}
set_option maxRecDepth 100000 in
theorem sendc_none (q6 q7 : Nat) (h : BasR w F q g s B) (h0 : B.length = 0) :
    Calls Tryz.prog 53 #[.pointer (some ⟨q, 0, none⟩), .pointer (some ⟨q6, 0, none⟩), .pointer (some ⟨q7, 0, none⟩)] w (NewRow w [] [] 6) := by
  have hk0 : Keep w (w.alloc (.cells #[.slice none 0 0, .slice none 0 0] 34)) := (Keep.refl w).alloc _ _
  have hq := heap_alloc_new w (.cells #[.slice none 0 0, .slice none 0 0] 34)
  have hsz : (w.alloc (.cells #[.slice none 0 0, .slice none 0 0] 34)).heap.size = w.heap.size + 1 := by simp
  obtain ⟨w2, hw2⟩ : ∃ w2, w.alloc (.cells #[.slice none 0 0, .slice none 0 0] 34) = w2 := ⟨_, rfl⟩
  rw [hw2] at hk0 hq hsz
  have HSZ := Lib.hid hsz
  have HK0 := Lib.hid hk0
  have HQ := Lib.hid hq
  have HR := Lib.hid (brank_eq (h.keep hk0))
  rw [h0] at HR
  replace HR : Hid (Calls Tryz.prog 54 #[.pointer (some ⟨q, 0, none⟩)] w2 fun e w' => e = .returned (.int .i64 0) ∧ w2 = w') := HR
  clear h h0 hk0 hq hsz
  go_enter Tryz.func53, Tryz.ntmps53
  go_wp2_with fail
  refine HR.out.mono ?_
  rintro e w3 ⟨rfl, rfl⟩
  have hb0 := HQ.out
  have y0 : w2.cell? ⟨w.heap.size, 0, none⟩ = some (.slice none 0 0) := cell_of_row _ _ _ _ _ _ hb0
  have y1 : w2.cell? ⟨w.heap.size, 1, none⟩ = some (.slice none 0 0) := cell_of_row _ _ _ _ _ _ hb0
  have z0 : w2.frozen? ⟨w.heap.size, 0, none⟩ = false := by simp [World.frozen?, hb0]
  have z1 : w2.frozen? ⟨w.heap.size, 1, none⟩ = false := by simp [World.frozen?, hb0]
  clear hb0
  have hb := bset (i := 1) (bset (i := 0) HQ.out (.slice none 0 0)) (.slice none 0 0)
  have hk : Keep w ((w2.setCell ⟨w.heap.size, 0, none⟩ (.slice none 0 0)).setCell ⟨w.heap.size, 1, none⟩ (.slice none 0 0)) := (Keep.setCell HK0.out (a := ⟨w.heap.size, 0, none⟩) (Nat.le_refl _) _).setCell (a := ⟨w.heap.size, 1, none⟩) (Nat.le_refl _) _
  have HK := Lib.hid hk
  have HB := Lib.hid hb
  clear hk hb
  go_wp2_with fail
  refine bodyPost_ret (v := .tuple #[.agg #[.slice none 0 0, .slice none 0 0], .int .i64 6]) ?_ rfl ⟨none, 0, 0, none, 0, 0, rfl, Own.none_ _ _ _, Own.none_ _ _ _, HK.out⟩
  exact results_cell_tmp (p := 4) (u := 5) (ty := 34) rfl _ _ w.heap.size 34 _ (0, 0) _ rfl HB.out Tryz.underlying34 rfl infoRowSize
set_option maxRecDepth 100000 in
theorem sendc_any (q6 q7 sent m cb B1 : Nat) (Ab : Option Addr) (xs : List Nat) (h : BasR w F q g s B) (h0 : B.length ≠ 0) (c6 : w.cell? ⟨q6, 0, none⟩ = some (.int .u64 (sent : Int))) (c7 : w.cell? ⟨q7, 0, none⟩ = some (.slice Ab m cb)) (hs : sent < 18446744073709551616) (hb : Bytes w B1 Ab m xs) (hB : B1 ≤ w.heap.size) :
    Calls Tryz.prog 53 #[.pointer (some ⟨q, 0, none⟩), .pointer (some ⟨q6, 0, none⟩), .pointer (some ⟨q7, 0, none⟩)] w (NewRow w ((vComb (g + s) B (coefN B.length (sent % B.length) xs) B.length).take g) ((vComb (g + s) B (coefN B.length (sent % B.length) xs) B.length).drop g) 0) := by
  have hk0 : Keep w (w.alloc (.cells #[.slice none 0 0, .slice none 0 0] 34)) := (Keep.refl w).alloc _ _
  have hq := heap_alloc_new w (.cells #[.slice none 0 0, .slice none 0 0] 34)
  have hsz : (w.alloc (.cells #[.slice none 0 0, .slice none 0 0] 34)).heap.size = w.heap.size + 1 := by simp
  obtain ⟨w2, hw2⟩ : ∃ w2, w.alloc (.cells #[.slice none 0 0, .slice none 0 0] 34) = w2 := ⟨_, rfl⟩
  rw [hw2] at hk0 hq hsz
  have HSZ := Lib.hid hsz
  have HK0 := Lib.hid hk0
  have HQ := Lib.hid hq
  obtain ⟨r, hr⟩ : ∃ r, B.length = r := ⟨_, rfl⟩
  have hrg : r ≤ 255 := by have := h.fine.1.length_le; have := h.fine.2.2.1; omega
  have h6 : w2.cell? ⟨q6, 0, none⟩ = some (.int .u64 (sent : Int)) := (Turned.of_keep (F := fun _ => False) hk0).cell c6 fun e => e
  have h7 : w2.cell? ⟨q7, 0, none⟩ = some (.slice Ab m cb) := (Turned.of_keep (F := fun _ => False) hk0).cell c7 fun e => e
  have h' := h.keep hk0
  rw [hr]
  have HR := Lib.hid (brank_eq h')
  rw [hr] at HR h0
  obtain ⟨t, ht⟩ : ∃ t, sent % r = t := ⟨_, rfl⟩
  have htr : t < r := by rw [← ht]; exact Nat.mod_lt _ (by omega)
  have HT := Lib.hid (turn_any sent r hs (by omega) hrg w2)
  rw [ht] at HT ⊢
  have HC := Lib.hid (coefs_any B1 r t m cb Ab xs w2 (hb.keep hB hk0) (Nat.le_trans hB hk0.size) (by omega) hrg htr)
  have H' := Lib.hid h'
  have HRR := Lib.hid hr
  have b0 : decide ((r : Int) = 0) = false := decide_eq_false (by omega)
  have b1 : decide (r = 0) = false := decide_eq_false h0
  have b2 : ((r : Int) == 0) = false := by rw [beq_eq_false_iff_ne]; omega
  have hc : coefN r t xs = coefN r t xs := rfl
  clear h h' c6 c7 hb hr hrg htr ht hk0 hq hsz hs hB hc h0
  go_enter Tryz.func53, Tryz.ntmps53
  go_wp2_with fail
  refine HR.out.mono ?_
  rintro e w3 ⟨rfl, rfl⟩
  go_wp2_with fail
  refine HT.out.mono ?_
  rintro e w3 ⟨rfl, rfl⟩
  go_wp2_with fail
  refine HC.out.mono ?_
  rintro e w4 ⟨A4, n4, c4, rfl, o4, k4⟩
  have HO4 := Lib.hid o4
  have HK4 := Lib.hid k4
  clear o4 k4
  go_wp2_with fail
  refine (bcombine_in (H'.out.keep HK4.out) w4.heap.size c4 n4 A4 _ (HO4.out.bytes) (Nat.le_refl _) (by rw [HRR.out]; have := HO4.out.length; rw [coefN_len] at this; omega)).mono ?_
  rw [HRR.out]
  rintro e w3 ⟨A2, c2, A3, c3, rfl, o1, o2, k1⟩
  have hb0 := ((HK4.out.trans k1).block _ (by have := HSZ.out; omega)).trans HQ.out
  have hk3 := HK0.out.trans (HK4.out.trans k1)
  have hs4 := HK4.out.size
  have y0 : w3.cell? ⟨w.heap.size, 0, none⟩ = some (.slice none 0 0) := cell_of_row _ _ _ _ _ _ hb0
  have y1 : w3.cell? ⟨w.heap.size, 1, none⟩ = some (.slice none 0 0) := cell_of_row _ _ _ _ _ _ hb0
  have z0 : w3.frozen? ⟨w.heap.size, 0, none⟩ = false := by simp [World.frozen?, hb0]
  have z1 : w3.frozen? ⟨w.heap.size, 1, none⟩ = false := by simp [World.frozen?, hb0]
  have O1 := Lib.hid ((((o1.lower (base' := w.heap.size + 1) (by have := HSZ.out; omega)).far (fun e => by have := (o1.1.lt _ e).1; have := HSZ.out; simp at *; omega) (.slice A2 g c2) (p := ⟨w.heap.size, 0, none⟩)).far (fun e => by have := (o1.1.lt _ e).1; have := HSZ.out; simp at *; omega) (.slice A3 s c3) (p := ⟨w.heap.size, 1, none⟩)).lower (base' := w.heap.size) (by omega))
  have O2 := Lib.hid ((((o2.lower (base' := w.heap.size + 1) (by have := HSZ.out; omega)).far (fun e => by have := (o2.1.lt _ e).1; have := HSZ.out; simp at *; omega) (.slice A2 g c2) (p := ⟨w.heap.size, 0, none⟩)).far (fun e => by have := (o2.1.lt _ e).1; have := HSZ.out; simp at *; omega) (.slice A3 s c3) (p := ⟨w.heap.size, 1, none⟩)).lower (base' := w.heap.size) (by omega))
  have hb := bset (i := 1) (bset (i := 0) hb0 (.slice A2 g c2)) (.slice A3 s c3)
  have hk : Keep w ((w3.setCell ⟨w.heap.size, 0, none⟩ (.slice A2 g c2)).setCell ⟨w.heap.size, 1, none⟩ (.slice A3 s c3)) := (Keep.setCell hk3 (a := ⟨w.heap.size, 0, none⟩) (Nat.le_refl _) _).setCell (a := ⟨w.heap.size, 1, none⟩) (Nat.le_refl _) _
  have HK := Lib.hid hk
  have HB := Lib.hid hb
  clear hk hb
  clear o1 o2 k1 hb0 hk3 hs4
  go_wp2_with fail
  refine bodyPost_ret (v := .tuple #[.agg #[.slice A2 g c2, .slice A3 s c3], .int .i64 0]) ?_ rfl ⟨A2, g, c2, A3, s, c3, rfl, O1.out, O2.out, HK.out⟩
  exact results_cell_tmp (p := 4) (u := 5) (ty := 34) rfl _ _ w.heap.size 34 _ (0, 0) _ rfl HB.out Tryz.underlying34 rfl infoRowSize
end
theorem three_boxes (w : World) (sent m cb : Nat) (Ab : Option Addr) {w3 : World} (hw : (((w.alloc (.cells #[.int .u64 (sent : Int)] 31)).alloc (.cells #[.slice Ab m cb] 32)).alloc (.cells #[.slice none 0 0, .slice none 0 0] 34)) = w3) :
    w3.heap[w.heap.size + 2]? = some (.cells #[.slice none 0 0, .slice none 0 0] 34 (0, 0)) ∧ w3.cell? ⟨w.heap.size, 0, none⟩ = some (.int .u64 (sent : Int)) ∧ w3.cell? ⟨w.heap.size + 1, 0, none⟩ = some (.slice Ab m cb) ∧ w3.heap.size = w.heap.size + 3 ∧ Keep w w3 := by
  subst hw
  obtain ⟨e1, e2, e3, e4⟩ := three_allocs w #[.int .u64 (sent : Int)] #[.slice Ab m cb] #[.slice none 0 0, .slice none 0 0] 31 32 34
  exact ⟨e3, cell_of_row _ _ _ _ _ _ e1, cell_of_row _ _ _ _ _ _ e2, by simp, (((Keep.refl w).alloc _ _).alloc _ _).alloc _ _⟩
theorem rl_send_of (v : Value) (n sent m cb : Nat) (Ab : Option Addr) (w w3 : World) (cs ps : List Nat) (er : Int) (hw : (((w.alloc (.cells #[.int .u64 (sent : Int)] 31)).alloc (.cells #[.slice Ab m cb] 32)).alloc (.cells #[.slice none 0 0, .slice none 0 0] 34)) = w3)
    (hi : Calls Tryz.prog 52 #[v, .int .u64 (n : Int), .func (.func 53) #[] #[.pointer (some ⟨w.heap.size, 0, none⟩), .pointer (some ⟨w.heap.size + 1, 0, none⟩)]] w3 (NewRow w3 cs ps er)) :
    Calls Tryz.prog 13 #[v, .int .u64 (n : Int), .int .u64 (sent : Int), .slice Ab m cb] w (NewRow w cs ps er) := by
  obtain ⟨B0, -, -, B3, B4⟩ := three_boxes w sent m cb Ab hw
  have HI := Lib.hid hi
  have HB0 := Lib.hid B0
  have HSZ := Lib.hid B3
  have HK0 := Lib.hid B4
  clear B0 B3 B4 hi
  go_enter Tryz.func13, Tryz.ntmps13
  go_wp2_with fail
  refine HI.out.mono ?_
  rintro e w5 ⟨A2, n2, c2, A3, n3, c3, rfl, o1, o2, k1⟩
  have hb0 := (k1.block _ (by have := HSZ.out; omega)).trans HB0.out
  have hk3 := HK0.out.trans k1
  have y0 : w5.cell? ⟨w.heap.size + 2, 0, none⟩ = some (.slice none 0 0) := cell_of_row _ _ _ _ _ _ hb0
  have y1 : w5.cell? ⟨w.heap.size + 2, 1, none⟩ = some (.slice none 0 0) := cell_of_row _ _ _ _ _ _ hb0
  have z0 : w5.frozen? ⟨w.heap.size + 2, 0, none⟩ = false := by simp [World.frozen?, hb0]
  have z1 : w5.frozen? ⟨w.heap.size + 2, 1, none⟩ = false := by simp [World.frozen?, hb0]
  have O1 := Lib.hid ((((o1.lower (base' := w.heap.size + 3) (by have := HSZ.out; omega)).far (fun e => by have := (o1.1.lt _ e).1; have := HSZ.out; simp at *; omega) (.slice A2 n2 c2) (p := ⟨w.heap.size + 2, 0, none⟩)).far (fun e => by have := (o1.1.lt _ e).1; have := HSZ.out; simp at *; omega) (.slice A3 n3 c3) (p := ⟨w.heap.size + 2, 1, none⟩)).lower (base' := w.heap.size) (by omega))
  have O2 := Lib.hid ((((o2.lower (base' := w.heap.size + 3) (by have := HSZ.out; omega)).far (fun e => by have := (o2.1.lt _ e).1; have := HSZ.out; simp at *; omega) (.slice A2 n2 c2) (p := ⟨w.heap.size + 2, 0, none⟩)).far (fun e => by have := (o2.1.lt _ e).1; have := HSZ.out; simp at *; omega) (.slice A3 n3 c3) (p := ⟨w.heap.size + 2, 1, none⟩)).lower (base' := w.heap.size) (by omega))
  have hb := bset (i := 1) (bset (i := 0) hb0 (.slice A2 n2 c2)) (.slice A3 n3 c3)
  have hk : Keep w ((w5.setCell ⟨w.heap.size + 2, 0, none⟩ (.slice A2 n2 c2)).setCell ⟨w.heap.size + 2, 1, none⟩ (.slice A3 n3 c3)) := (Keep.setCell hk3 (a := ⟨w.heap.size + 2, 0, none⟩) (Nat.le_add_right _ _) _).setCell (a := ⟨w.heap.size + 2, 1, none⟩) (Nat.le_add_right _ _) _
  have HK := Lib.hid hk
  have HB := Lib.hid hb
  clear hk hb
  clear o1 o2 k1 hb0 hk3
  go_wp2_with fail
  refine bodyPost_ret (v := .tuple #[.agg #[.slice A2 n2 c2, .slice A3 n3 c3], .int .i64 er]) ?_ rfl ⟨A2, n2, c2, A3, n3, c3, rfl, O1.out, O2.out, HK.out⟩
  exact results_cell_tmp (p := 8) (u := 9) (ty := 34) rfl _ _ (w.heap.size + 2) 34 _ (0, 0) _ rfl HB.out Tryz.underlying34 rfl infoRowSize
section
variable {w : World} {F : Nat → Prop} {p g s k b wb B1 cb m : Nat} {L : Nat → List (List Nat)} {Ab : Option Addr} {xs : List Nat}
/-- What a draw makes of the rows of a generation. -/
def sendN (g s : Nat) (B : List (List Nat)) (sent : Nat) (xs : List Nat) : List Nat := vComb (g + s) B (coefN B.length (sent % B.length) xs) B.length
theorem rl_send_in (h : RelR w F p g s k b L) (n sent : Nat) (hn : n < 18446744073709551616) (hs : sent < 18446744073709551616) (hin : winIn b k n = true) (h0 : (L n).length ≠ 0) (hb : Bytes w B1 Ab m xs) (hB : B1 ≤ w.heap.size) :
    Calls Tryz.prog 13 #[.pointer (some ⟨p, 0, none⟩), .int .u64 (n : Int), .int .u64 (sent : Int), .slice Ab m cb] w (NewRow w ((sendN g s (L n) sent xs).take g) ((sendN g s (L n) sent xs).drop g) 0) := by
  obtain ⟨wb, S, h⟩ := h
  obtain ⟨w3, hw⟩ : ∃ w3, (((w.alloc (.cells #[.int .u64 (sent : Int)] 31)).alloc (.cells #[.slice Ab m cb] 32)).alloc (.cells #[.slice none 0 0, .slice none 0 0] 34)) = w3 := ⟨_, rfl⟩
  obtain ⟨-, y6, y7, -, rk⟩ := three_boxes w sent m cb Ab hw
  have h' := h.keep rk
  obtain ⟨x, q, hx, hq, hB', hb'⟩ := h'.at_ hin
  exact rl_send_of _ n sent m cb Ab w w3 _ _ 0 hw (ask_row_in h' n _ _ hn hin hx hq _ _ 0 fun w1 k1 => sendc_any _ _ sent m cb B1 Ab xs (hb'.keep k1) h0 ((Turned.of_keep (F := fun _ => False) k1).cell y6 fun e => e) ((Turned.of_keep (F := fun _ => False) k1).cell y7 fun e => e) hs (hb.keep hB (rk.trans k1)) (Nat.le_trans hB (rk.trans k1).size))
theorem rl_send_none (h : RelR w F p g s k b L) (n sent : Nat) (hn : n < 18446744073709551616) (hin : winIn b k n = true) (h0 : (L n).length = 0) :
    Calls Tryz.prog 13 #[.pointer (some ⟨p, 0, none⟩), .int .u64 (n : Int), .int .u64 (sent : Int), .slice Ab m cb] w (NewRow w [] [] 6) := by
  obtain ⟨wb, S, h⟩ := h
  obtain ⟨w3, hw⟩ : ∃ w3, (((w.alloc (.cells #[.int .u64 (sent : Int)] 31)).alloc (.cells #[.slice Ab m cb] 32)).alloc (.cells #[.slice none 0 0, .slice none 0 0] 34)) = w3 := ⟨_, rfl⟩
  obtain ⟨-, y6, y7, -, rk⟩ := three_boxes w sent m cb Ab hw
  have h' := h.keep rk
  obtain ⟨x, q, hx, hq, hB', hb'⟩ := h'.at_ hin
  exact rl_send_of _ n sent m cb Ab w w3 _ _ 6 hw (ask_row_in h' n _ _ hn hin hx hq _ _ 6 fun w1 k1 => sendc_none _ _ (hb'.keep k1) h0)
theorem rl_send_out (h : RelR w F p g s k b L) (n sent : Nat) (hn : n < 18446744073709551616) (hin : winIn b k n = false) :
    Calls Tryz.prog 13 #[.pointer (some ⟨p, 0, none⟩), .int .u64 (n : Int), .int .u64 (sent : Int), .slice Ab m cb] w (NewRow w [] [] 23) := by
  obtain ⟨wb, S, h⟩ := h
  obtain ⟨w3, hw⟩ : ∃ w3, (((w.alloc (.cells #[.int .u64 (sent : Int)] 31)).alloc (.cells #[.slice Ab m cb] 32)).alloc (.cells #[.slice none 0 0, .slice none 0 0] 34)) = w3 := ⟨_, rfl⟩
  obtain ⟨-, y6, y7, -, rk⟩ := three_boxes w sent m cb Ab hw
  exact rl_send_of _ n sent m cb Ab w w3 _ _ 23 hw (ask_row_out (h.keep rk) n _ _ hn hin)
end
end Go.Proofs.YtcjjhblgejkkeaaGreat
/- The landed relay: a place emptied, Clear, New. -/
namespace Go.Proofs.YtcjjhblgejkkeaaGreat
open Go.RowKit Lin
set_option linter.unusedVariables false
set_option linter.unusedSimpArgs false
section
variable {w : World} {p wb g s : Nat} {S : List Slot}
set_option maxRecDepth 100000 in
theorem rempty_any (h : RelC w p wb g s S) (hwb : wb < w.heap.size) (i : Nat) (hi : i < 16) :
    Calls Tryz.prog 69 #[.pointer (some ⟨p, 0, none⟩), .int .i64 (i : Int)] w fun e w' => e = .returned (.tuple #[]) ∧ ∃ q F', RelC w' p wb g s (S.set i ⟨some q, F', []⟩) ∧ (∀ j, F' j → w.heap.size ≤ j) ∧ Turned (fun j => j = p) w w' := by
  have x1 := h.c1
  have x2 := h.c2
  obtain ⟨x, hx⟩ : ∃ x, S[i]? = some x := ⟨_, List.getElem?_eq_getElem (by rw [h.len]; exact hi)⟩
  have H := Lib.hid h
  have HWB := Lib.hid hwb
  clear h hwb
  go_enter Tryz.func69, Tryz.ntmps69
  refine wp_region_noPanic ?_
  refine wp_region_held_drew (S := fun wz => wz.cell? ⟨p, 1, none⟩ = some (.int .i64 (g : Int)) ∧ wz.cell? ⟨p, 2, none⟩ = some (.int .i64 (s : Int))) (by kernel_rfl) ⟨x1, x2⟩ (fun hHeld => ?_)
  refine wpAnyH_take (i := 0) (v := ?_) rfl (by kernel_rfl) (by kernel_rfl) (by kernel_rfl) (fun _ _ _ h => h) (Or.inl ⟨by rfl, ?_⟩) hHeld ?_
  rotate_left
  · intro wq hSw
    go_simp
    all_goals with_reducible rfl
  try simp only [Act.put, List.getElem_toArray, List.getElem_cons_succ, List.getElem_cons_zero, List.setIfInBounds_toArray, List.set_cons_zero, List.set_cons_succ]
  refine wpAnyH_take (i := 1) (v := ?_) rfl (by kernel_rfl) (by kernel_rfl) (by kernel_rfl) (fun _ _ _ h => h) (Or.inl ⟨by rfl, ?_⟩) hHeld ?_
  rotate_left
  · intro wq hSw
    go_simp
    all_goals with_reducible rfl
  try simp only [Act.put, List.getElem_toArray, List.getElem_cons_succ, List.getElem_cons_zero, List.setIfInBounds_toArray, List.set_cons_zero, List.set_cons_succ]
  refine wpAnyH_take (i := 2) (v := ?_) rfl (by kernel_rfl) (by kernel_rfl) (by kernel_rfl) (fun _ _ _ h => h) (Or.inl ⟨by rfl, ?_⟩) hHeld ?_
  rotate_left
  · intro wq hSw
    go_simp
    all_goals with_reducible rfl
  try simp only [Act.put, List.getElem_toArray, List.getElem_cons_succ, List.getElem_cons_zero, List.setIfInBounds_toArray, List.set_cons_zero, List.set_cons_succ]
  refine wpAnyH_take (i := 3) (v := ?_) rfl (by kernel_rfl) (by kernel_rfl) (by kernel_rfl) (fun _ _ _ h => h) (Or.inl ⟨by rfl, ?_⟩) hHeld ?_
  rotate_left
  · intro wq hSw
    go_simp
    all_goals with_reducible rfl
  try simp only [Act.put, List.getElem_toArray, List.getElem_cons_succ, List.getElem_cons_zero, List.setIfInBounds_toArray, List.set_cons_zero, List.set_cons_succ]
  refine wpAnyH_take (i := 4) (v := ?_) rfl (by kernel_rfl) (by kernel_rfl) (by kernel_rfl) (fun _ _ _ h => h) (Or.inl ⟨by rfl, ?_⟩) hHeld ?_
  rotate_left
  · intro wq hSw
    go_simp
    all_goals with_reducible rfl
  try simp only [Act.put, List.getElem_toArray, List.getElem_cons_succ, List.getElem_cons_zero, List.setIfInBounds_toArray, List.set_cons_zero, List.set_cons_succ]
  refine wpAnyH_take (i := 5) (v := ?_) rfl (by kernel_rfl) (by kernel_rfl) (by kernel_rfl) (fun _ _ _ h => h) (Or.inl ⟨by rfl, ?_⟩) hHeld ?_
  rotate_left
  · intro wq hSw
    have q0 := hSw.1
    go_simp
    all_goals with_reducible rfl
  try simp only [Act.put, List.getElem_toArray, List.getElem_cons_succ, List.getElem_cons_zero, List.setIfInBounds_toArray, List.set_cons_zero, List.set_cons_succ]
  refine wpAnyH_take (i := 6) (v := ?_) rfl (by kernel_rfl) (by kernel_rfl) (by kernel_rfl) (fun _ _ _ h => h) (Or.inl ⟨by rfl, ?_⟩) hHeld ?_
  rotate_left
  · intro wq hSw
    go_simp
    all_goals with_reducible rfl
  try simp only [Act.put, List.getElem_toArray, List.getElem_cons_succ, List.getElem_cons_zero, List.setIfInBounds_toArray, List.set_cons_zero, List.set_cons_succ]
  refine wpAnyH_take (i := 7) (v := ?_) rfl (by kernel_rfl) (by kernel_rfl) (by kernel_rfl) (fun _ _ _ h => h) (Or.inl ⟨by rfl, ?_⟩) hHeld ?_
  rotate_left
  · intro wq hSw
    go_simp
    all_goals with_reducible rfl
  try simp only [Act.put, List.getElem_toArray, List.getElem_cons_succ, List.getElem_cons_zero, List.setIfInBounds_toArray, List.set_cons_zero, List.set_cons_succ]
  refine wpAnyH_take (i := 8) (v := ?_) rfl (by kernel_rfl) (by kernel_rfl) (by kernel_rfl) (fun _ _ _ h => h) (Or.inl ⟨by rfl, ?_⟩) hHeld ?_
  rotate_left
  · intro wq hSw
    go_simp
    all_goals with_reducible rfl
  try simp only [Act.put, List.getElem_toArray, List.getElem_cons_succ, List.getElem_cons_zero, List.setIfInBounds_toArray, List.set_cons_zero, List.set_cons_succ]
  refine wpAnyH_take (i := 9) (v := ?_) rfl (by kernel_rfl) (by kernel_rfl) (by kernel_rfl) (fun _ _ _ h => h) (Or.inl ⟨by rfl, ?_⟩) hHeld ?_
  rotate_left
  · intro wq hSw
    have q0 := hSw.2
    go_simp
    all_goals with_reducible rfl
  try simp only [Act.put, List.getElem_toArray, List.getElem_cons_succ, List.getElem_cons_zero, List.setIfInBounds_toArray, List.set_cons_zero, List.set_cons_succ]
  refine wpAnyH_take (i := 14) (v := ?_) rfl (by kernel_rfl) (by kernel_rfl) (by kernel_rfl) (fun _ _ _ h => h) (Or.inl ⟨by rfl, ?_⟩) hHeld ?_
  rotate_left
  · intro wq hSw
    go_simp
    all_goals with_reducible rfl
  try simp only [Act.put, List.getElem_toArray, List.getElem_cons_succ, List.getElem_cons_zero, List.setIfInBounds_toArray, List.set_cons_zero, List.set_cons_succ]
  refine wpAnyH_take (i := 15) (v := ?_) rfl (by kernel_rfl) (by kernel_rfl) (by kernel_rfl) (fun _ _ _ h => h) (Or.inl ⟨by rfl, ?_⟩) hHeld ?_
  rotate_left
  · intro wq hSw
    go_simp
    all_goals with_reducible rfl
  try simp only [Act.put, List.getElem_toArray, List.getElem_cons_succ, List.getElem_cons_zero, List.setIfInBounds_toArray, List.set_cons_zero, List.set_cons_succ]
  refine wpAnyH_ready (rs := [10]) (by kernel_rfl) (by simp) ?_
  refine AllReadyH.cons rfl (fun K hK => ?_) AllReadyH.nil
  go_simp
  refine (bnew_in g s H.out.g1 H.out.g2 H.out.s1 H.out.s2 _).mono ?_
  rintro e w1 ⟨q, F', rfl, hb, hf, hk⟩
  have hk1 : Keep w w1 := (Keep.drew (Keep.refl w)).trans hk
  have hf1 : ∀ j, F' j → w.heap.size ≤ j := hf
  have HB := Lib.hid hb
  have HK := Lib.hid hk1
  have HF := Lib.hid hf1
  have z1 : w1.cell? ⟨p, 1, none⟩ = some (.int .i64 (g : Int)) := (H.out.keep hk1).c1
  have z2 : w1.cell? ⟨p, 2, none⟩ = some (.int .i64 (s : Int)) := (H.out.keep hk1).c2
  clear hb hf hk hk1 hf1
  refine hK.out _ _ ⟨z1, z2⟩ (fun hHeld => ?_)
  clear hK K
  try simp only [Act.put, List.getElem_toArray, List.getElem_cons_succ, List.getElem_cons_zero, List.setIfInBounds_toArray, List.set_cons_zero, List.set_cons_succ]
  refine wpAnyH_take (i := 11) (v := ?_) rfl (by kernel_rfl) (by kernel_rfl) (by kernel_rfl) (fun _ _ _ h => h) (Or.inl ⟨by rfl, ?_⟩) hHeld ?_
  rotate_left
  · intro wq hSw
    go_simp
    all_goals with_reducible rfl
  try simp only [Act.put, List.getElem_toArray, List.getElem_cons_succ, List.getElem_cons_zero, List.setIfInBounds_toArray, List.set_cons_zero, List.set_cons_succ]
  refine wpAnyH_take (i := 12) (v := ?_) rfl (by kernel_rfl) (by kernel_rfl) (by kernel_rfl) (fun _ _ _ h => h) (Or.inl ⟨by rfl, ?_⟩) hHeld ?_
  rotate_left
  · intro wq hSw
    go_simp
    all_goals with_reducible rfl
  try simp only [Act.put, List.getElem_toArray, List.getElem_cons_succ, List.getElem_cons_zero, List.setIfInBounds_toArray, List.set_cons_zero, List.set_cons_succ]
  refine wpAnyH_take (i := 13) (v := ?_) rfl (by kernel_rfl) (by kernel_rfl) (by kernel_rfl) (fun _ _ _ h => h) (Or.inl ⟨by rfl, ?_⟩) hHeld ?_
  rotate_left
  · intro wq hSw
    go_simp
    all_goals with_reducible rfl
  try simp only [Act.put, List.getElem_toArray, List.getElem_cons_succ, List.getElem_cons_zero, List.setIfInBounds_toArray, List.set_cons_zero, List.set_cons_succ]
  refine wpAnyH_take (i := 16) (v := ?_) rfl (by kernel_rfl) (by kernel_rfl) (by kernel_rfl) (fun _ _ _ h => h) (Or.inl ⟨by rfl, ?_⟩) hHeld ?_
  rotate_left
  · intro wq hSw
    have q0 := (show (i : Int) < 16 by omega)
    go_simp
    all_goals with_reducible rfl
  try simp only [Act.put, List.getElem_toArray, List.getElem_cons_succ, List.getElem_cons_zero, List.setIfInBounds_toArray, List.set_cons_zero, List.set_cons_succ]
  have hc := (H.out.keep HK.out).cs hx
  have hfr := (H.out.keep HK.out).free (3 + i)
  refine wpAnyH_ready (rs := [17]) (by kernel_rfl) (by simp) ?_
  refine AllReadyH.cons rfl (fun K hK => ?_) AllReadyH.nil
  go_simp
  have hset := H.out.set (x' := ⟨some q, F', []⟩) hi HK.out (Slot.ok_of HB.out) HF.out HWB.out
  have hT : Turned (fun j => j = p) w (w1.setCell ⟨p, 3 + i, none⟩ (Slot.val ⟨some q, F', []⟩)) := (Turned.of_keep HK.out).trans (Turned.set (F := fun j => j = p) w1 ⟨p, 3 + i, none⟩ _ rfl) fun j e => Or.inl e
  have HS := Lib.hid hset
  have HT := Lib.hid hT
  have z1' : (w1.setCell ⟨p, 3 + i, none⟩ (.pointer (some ⟨q, 0, none⟩))).cell? ⟨p, 1, none⟩ = some (.int .i64 (g : Int)) := hset.c1
  have z2' : (w1.setCell ⟨p, 3 + i, none⟩ (.pointer (some ⟨q, 0, none⟩))).cell? ⟨p, 2, none⟩ = some (.int .i64 (s : Int)) := hset.c2
  clear hset hT
  refine hK.out _ _ ⟨z1', z2'⟩ (fun hHeld => ?_)
  clear hK K
  refine wpAnyH_done (by kernel_rfl) ?_ _
  refine NoPanic.normal ?_
  clear hHeld
  go_wp2_with fail
  go_end0
  exact ⟨rfl, q, F', HS.out, HF.out, HT.out⟩

end
/-- The first i places are emptied. -/
def Cleared (w wr : World) (p wb g s : Nat) (S S' : List Slot) (i : Nat) : Prop :=
  RelC wr p wb g s S' ∧ (∀ j x, S'[j]? = some x → (j < i → (∃ q, x.p = some q) ∧ x.B = [] ∧ ∀ b, x.F b → w.heap.size ≤ b) ∧ (i ≤ j → S[j]? = some x)) ∧ Turned (fun j => j = p) w wr
section
variable {w : World} {p wb g s k b : Nat} {S : List Slot}
theorem Cleared.start (h : RelC w p wb g s S) : Cleared w w p wb g s S S 0 := ⟨h, fun j x hx => ⟨fun e => by omega, fun _ => hx⟩, Turned.refl _ _⟩
theorem Cleared.step {w1 w2 : World} {S1 : List Slot} {i q : Nat} {F' : Nat → Prop} (h : Cleared w w1 p wb g s S S1 i) (r : RelC w2 p wb g s (S1.set i ⟨some q, F', []⟩)) (hf : ∀ j, F' j → w1.heap.size ≤ j) (t : Turned (fun j => j = p) w1 w2) : Cleared w w2 p wb g s S (S1.set i ⟨some q, F', []⟩) (i + 1) := by
  refine ⟨r, fun j x hx => ?_, h.2.2.trans t fun j e => Or.inl e⟩
  rcases set_get hx with ⟨rfl, rfl⟩ | ⟨hj, hx2⟩
  · exact ⟨fun _ => ⟨⟨q, rfl⟩, rfl, fun b hb => Nat.le_trans h.2.2.size (hf b hb)⟩, fun e => by omega⟩
  · exact ⟨fun e => (h.2.1 j x hx2).1 (by omega), fun e => (h.2.1 j x hx2).2 (by omega)⟩
set_option maxRecDepth 100000 in
theorem rclear_c (h : RelC w p wb g s S) (hw : WinR w wb k b) :
    Calls Tryz.prog 19 #[.pointer (some ⟨p, 0, none⟩)] w fun e w' => e = .returned (.tuple #[]) ∧ ∃ S', Cleared w w' p wb g s S S' k := by
  have HM := Lib.hid (rmade_any h.c0)
  have c0 := h.c0
  have HW := Lib.hid (width_any hw)
  have hk := hw.high
  have HH := Lib.hid h
  have HWI := Lib.hid hw
  clear h hw
  go_enter Tryz.func19, Tryz.ntmps19
  go_wp2_with fail
  refine HM.out.mono ?_
  rintro e w1 ⟨rfl, rfl⟩
  go_wp2_with fail
  refine HW.out.mono ?_
  rintro e w1 ⟨rfl, rfl⟩
  go_wp2_with fail
  have HST := Lib.hid (Cleared.start HH.out)
  clear HM HW c0
  go_loopw [11] (fun i wr => ∃ (m : Nat) (S' : List Slot), m ≤ k ∧ i = .int .i64 (m : Int) ∧ Cleared w1 wr p wb g s S S' m) (fun i _ => k - (intOf i).toNat)
  case atStart => exact ⟨0, _, by omega, rfl, HST.out⟩
  case round =>
    obtain ⟨m, S', hm, rfl, hC⟩ := hrel
    have HC := Lib.hid hC
    clear hC HST
    by_cases hlt : m < k
    · have e2 : (m : Int) < (k : Int) := by omega
      go_wp2_with fail
      refine (rempty_any HC.out.1 (Nat.lt_of_lt_of_le HWI.out.lt HC.out.2.2.size) m (by omega)).mono ?_
      rintro e w2 ⟨rfl, q, F', h1, h2, h3⟩
      have HN := Lib.hid (HC.out.step h1 h2 h3)
      clear h1 h2 h3
      go_wp2_with fail
      go_roundw
      case rel => exact ⟨m + 1, _, by omega, by go_num, HN.out⟩
      case measure => simp [intOf]; omega
    · obtain rfl : k = m := by omega
      go_wp2_with fail
      go_end0
      exact ⟨rfl, S', HC.out⟩
theorem rclear_nil (v : Value) (w : World) (hv : Calls Tryz.prog 65 #[v] w fun e w' => e = .returned (.bool false) ∧ w' = w) : Calls Tryz.prog 19 #[v] w fun e w' => e = .returned (.tuple #[]) ∧ w' = w := by
  have HM := Lib.hid hv
  clear hv
  go_enter Tryz.func19, Tryz.ntmps19
  go_wp2_with fail
  refine HM.out.mono ?_
  rintro e w1 ⟨rfl, rfl⟩
  go_wp2_with fail
  exact bodyPost_ret (v := .tuple #[]) (results_none rfl _ _ _) rfl ⟨rfl, rfl⟩
end
end Go.Proofs.YtcjjhblgejkkeaaGreat
/- The landed relay: New. -/
namespace Go.Proofs.YtcjjhblgejkkeaaGreat
open Go.RowKit Lin
set_option linter.unusedVariables false
set_option linter.unusedSimpArgs false
section
variable {w : World} {F : Nat → Prop} {p g s k b wb : Nat} {S : List Slot}
theorem RelA.nothing (c : RelC w p wb g s S) (win : WinR w wb k b) (h : ∀ j x, S[j]? = some x → (j < k → (∃ q, x.p = some q) ∧ x.B = []) ∧ (k ≤ j → x.p = none)) (fp : F p) (fw : F wb) (fs : ∀ x ∈ S, ∀ q, x.F q → F q) (lt : ∀ q, F q → q < w.heap.size) : RelA w F p g s k b (fun _ => []) wb S :=
  ⟨c, win, fun i x hx => ⟨fun e => by
    rcases Nat.lt_or_ge i k with hi | hi
    · obtain ⟨q, hq⟩ := ((h i x hx).1 hi).1
      rw [hq] at e; cases e
    · exact hi, fun e => (h i x hx).2 e⟩, fp, fw, fs, lt, fun n hn x hx => ((h _ x hx).1 (Nat.mod_lt _ (by have := win.low; omega))).2, fun _ _ => rfl, fun i x hi hx _ => ((h i x hx).1 hi).2⟩
def slots0 : List Slot := List.replicate 16 Slot.none_
theorem slots0_get {i : Nat} {x : Slot} (h : slots0[i]? = some x) : x = Slot.none_ := by
  have := List.mem_of_getElem? h
  exact (List.mem_replicate.1 this).2
theorem RelC.fresh (hb : w.heap[p]? = some (.cells (Value.pointer (some ⟨wb, 0, none⟩) :: Value.int .i64 (g : Int) :: Value.int .i64 (s : Int) :: slots0.map Slot.val).toArray 93 (0, 0))) (hne : p ≠ wb) (h1 : 1 ≤ g) (h2 : g ≤ 255) (h3 : 1 ≤ s) (h4 : s ≤ 65535) : RelC w p wb g s slots0 :=
  ⟨hb, rfl, fun x hx => by obtain rfl := (List.mem_replicate.1 hx).2; exact Slot.none_ok _ _ _, fun i j x y _ hx _ b hb => by rw [slots0_get hx] at hb; exact hb.elim, fun x hx b hb => by obtain rfl := (List.mem_replicate.1 hx).2; exact hb.elim, hne, h1, h2, h3, h4⟩
end
section
variable {g s k : Nat}
set_option maxRecDepth 100000 in
theorem relnew_in (h1 : 1 ≤ g) (h2 : g ≤ 255) (h3 : 1 ≤ s) (h4 : s ≤ 65535) (h5 : 1 ≤ k) (h6 : k ≤ 16) (w : World) :
    Calls Tryz.prog 7 #[.int .i64 (g : Int), .int .i64 (s : Int), .int .i64 (k : Int)] w fun e w' => ∃ p F, e = .returned (.tuple #[.pointer (some ⟨p, 0, none⟩), .int .i64 0]) ∧ RelR w' F p g s k 0 (fun _ => []) ∧ (∀ q, F q → w.heap.size ≤ q) ∧ Keep w w' := by
  have HH := Lib.hid (And.intro h1 (And.intro h2 (And.intro h3 (And.intro h4 (And.intro h5 h6)))))
  clear h1 h2 h3 h4 h5 h6
  go_enter Tryz.func7, Tryz.ntmps7
  go_wp2_with fail
  refine (new_in k HH.out.2.2.2.2.1 HH.out.2.2.2.2.2 w).mono ?_
  rintro e w1 ⟨rfl, hW, k1⟩
  have HW := Lib.hid hW
  have HK1 := Lib.hid k1
  clear hW k1
  go_wp2_with fail
  refine (bnew_in g s HH.out.1 HH.out.2.1 HH.out.2.2.1 HH.out.2.2.2.1 w1).mono ?_
  rintro e w2 ⟨q0, F0, rfl, -, -, k2⟩
  have HW2 := Lib.hid (HW.out.keep k2)
  have HK2 := Lib.hid (HK1.out.trans k2)
  clear k2 HW HK1
  go_wp2_with fail
  have hbl := heap_alloc_new w2 (.cells (Value.pointer (some ⟨w.heap.size, 0, none⟩) :: Value.int .i64 (g : Int) :: Value.int .i64 (s : Int) :: slots0.map Slot.val).toArray 93)
  obtain ⟨w3, hw3⟩ : ∃ w3, w2.alloc (.cells (Value.pointer (some ⟨w.heap.size, 0, none⟩) :: Value.int .i64 (g : Int) :: Value.int .i64 (s : Int) :: slots0.map Slot.val).toArray 93) = w3 := ⟨_, rfl⟩
  have hs1 := HW2.out.lt
  have hk3 : Keep w2 w3 := by rw [← hw3]; exact (Keep.refl w2).alloc _ _
  have hz3 : w3.heap.size = w2.heap.size + 1 := by rw [← hw3]; simp
  rw [hw3] at hbl
  have hC := RelC.fresh hbl (by omega) HH.out.1 HH.out.2.1 HH.out.2.2.1 HH.out.2.2.2.1
  have HC := Lib.hid hC
  have HW3 := Lib.hid (HW2.out.keep hk3)
  have HK3 := Lib.hid (HK2.out.trans hk3)
  have HS1 := Lib.hid hs1
  have HZ3 := Lib.hid hz3
  clear hC hbl hk3 hz3 hs1 HK2 HW2
  replace hw3 : w2.alloc (.cells #[Value.pointer (some ⟨w.heap.size, 0, none⟩), Value.int .i64 (g : Int), Value.int .i64 (s : Int), Value.pointer none, Value.pointer none, Value.pointer none, Value.pointer none, Value.pointer none, Value.pointer none, Value.pointer none, Value.pointer none, Value.pointer none, Value.pointer none, Value.pointer none, Value.pointer none, Value.pointer none, Value.pointer none, Value.pointer none, Value.pointer none] 93) = w3 := hw3
  rw [hw3]
  refine (rclear_c HC.out HW3.out).mono ?_
  rintro e w4 ⟨rfl, S', hS⟩
  have HS := Lib.hid hS
  clear hS
  go_wp2_with fail
  go_ret2
  have hk4 : Keep w w4 := HS.out.2.2.keep HK3.out fun i e => by have := HK3.out.size; have := HS1.out; rw [e]; omega
  have hsz := hk4.size
  have hsl := HS.out.1.lt
  have hsz4 := HS.out.2.2.size
  refine ⟨w2.heap.size, fun q => w.heap.size ≤ q ∧ q < w4.heap.size, rfl, (RelA.nothing HS.out.1 (HW3.out.turned HS.out.2.2 (by have := HS1.out; omega)) (fun j x hx => ⟨fun e => ⟨((HS.out.2.1 j x hx).1 e).1, ((HS.out.2.1 j x hx).1 e).2.1⟩, fun e => by rw [slots0_get ((HS.out.2.1 j x hx).2 e)]; rfl⟩) ⟨by have := HS1.out; omega, hsl⟩ ⟨Nat.le_refl _, by have := HS1.out; omega⟩ (fun x hx q hq => ?_) fun q hq => hq.2).r, fun q hq => hq.1, hk4⟩
  obtain ⟨j, hj⟩ := List.getElem?_of_mem hx
  refine ⟨?_, (HS.out.1.ok x hx).lt q hq⟩
  rcases Nat.lt_or_ge j k with e | e
  · have := ((HS.out.2.1 j x hj).1 e).2.2 q hq; have := HK3.out.size; omega
  · rw [slots0_get ((HS.out.2.1 j x hj).2 e)] at hq; exact hq.elim
/-- .. of what may not be. -/
theorem relnew_out (g s k : Int) (h : (g < 1 ∨ 255 < g ∨ s < 1 ∨ 65535 < s) ∨ k < 1 ∨ 16 < k) (w : World) :
    Calls Tryz.prog 7 #[.int .i64 g, .int .i64 s, .int .i64 k] w fun e w' => e = .returned (.tuple #[.pointer none, .int .i64 1]) ∧ Keep w w' := by
  by_cases hk : k < 1 ∨ 16 < k
  · have HN := Lib.hid (new_out k hk w)
    clear h hk
    go_enter Tryz.func7, Tryz.ntmps7
    go_wp2_with fail
    refine HN.out.mono ?_
    rintro e w1 ⟨rfl, rfl⟩
    go_wp2_with fail
    go_ret2
    exact ⟨rfl, Keep.refl _⟩
  · obtain ⟨kn, rfl⟩ := Int.eq_ofNat_of_zero_le (show 0 ≤ k by omega)
    have HN := Lib.hid (new_in kn (by omega) (by omega) w)
    have HB := Lib.hid (bnew_out g s (by omega))
    clear h hk
    go_enter Tryz.func7, Tryz.ntmps7
    go_wp2_with fail
    refine HN.out.mono ?_
    rintro e w1 ⟨rfl, -, k1⟩
    have K1 := Lib.hid k1
    clear k1
    go_wp2_with fail
    refine (HB.out w1).mono ?_
    rintro e w2 ⟨rfl, k2⟩
    have K2 := Lib.hid k2
    clear k2
    go_wp2_with fail
    go_ret2
    exact ⟨rfl, K1.out.trans K2.out⟩
end
end Go.Proofs.YtcjjhblgejkkeaaGreat
/- The landed relay: Base, In, Move. -/
namespace Go.Proofs.YtcjjhblgejkkeaaGreat
open Go.RowKit Lin
set_option linter.unusedVariables false
set_option linter.unusedSimpArgs false
theorem rl_base_nil (v : Value) (w : World) (hv : Calls Tryz.prog 65 #[v] w fun e w' => e = .returned (.bool false) ∧ w' = w) : Calls Tryz.prog 30 #[v] w fun e w' => e = .returned (.int .u64 0) ∧ w' = w := by
  have HM := Lib.hid hv
  clear hv
  go_enter Tryz.func30, Tryz.ntmps30
  go_wp2_with fail
  refine HM.out.mono ?_
  rintro e w1 ⟨rfl, rfl⟩
  go_wp2_with fail
  go_ret
  exact ⟨rfl, rfl⟩
theorem rl_in_nil (v : Value) (w : World) (n : Nat) (hv : Calls Tryz.prog 65 #[v] w fun e w' => e = .returned (.bool false) ∧ w' = w) : Calls Tryz.prog 31 #[v, .int .u64 (n : Int)] w fun e w' => e = .returned (.bool false) ∧ w' = w := by
  have HM := Lib.hid hv
  clear hv
  go_enter Tryz.func31, Tryz.ntmps31
  go_wp2_with fail
  refine HM.out.mono ?_
  rintro e w1 ⟨rfl, rfl⟩
  go_wp2_with fail
  go_ret
  exact ⟨rfl, rfl⟩
theorem rl_move_nil (v : Value) (w : World) (n : Nat) (hv : Calls Tryz.prog 65 #[v] w fun e w' => e = .returned (.bool false) ∧ w' = w) : Calls Tryz.prog 17 #[v, .int .u64 (n : Int)] w fun e w' => e = .returned (.int .i64 2) ∧ w' = w := by
  have HM := Lib.hid hv
  clear hv
  go_enter Tryz.func17, Tryz.ntmps17
  go_wp2_with fail
  refine HM.out.mono ?_
  rintro e w1 ⟨rfl, rfl⟩
  go_wp2_with fail
  go_ret
  exact ⟨rfl, rfl⟩
theorem rl_ranks_nil (v : Value) (w : World) (hv : Calls Tryz.prog 65 #[v] w fun e w' => e = .returned (.bool false) ∧ w' = w) : Calls Tryz.prog 28 #[v] w fun e w' => e = .returned (.slice none 0 0) ∧ w' = w := by
  have HM := Lib.hid hv
  clear hv
  go_enter Tryz.func28, Tryz.ntmps28
  go_wp2_with fail
  refine HM.out.mono ?_
  rintro e w1 ⟨rfl, rfl⟩
  go_wp2_with fail
  go_ret
  exact ⟨rfl, rfl⟩
theorem rl_copy_nil (v : Value) (w : World) (hv : Calls Tryz.prog 65 #[v] w fun e w' => e = .returned (.bool false) ∧ w' = w) : Calls Tryz.prog 21 #[v] w fun e w' => e = .returned (.pointer none) ∧ w' = w := by
  have HM := Lib.hid hv
  clear hv
  go_enter Tryz.func21, Tryz.ntmps21
  go_wp2_with fail
  refine HM.out.mono ?_
  rintro e w1 ⟨rfl, rfl⟩
  go_wp2_with fail
  go_ret
  exact ⟨rfl, rfl⟩
/-- Those of E are emptied. -/
def Emptied (w wr : World) (p wb g s : Nat) (S S' : List Slot) (E G : Nat → Prop) : Prop :=
  RelC wr p wb g s S' ∧ (∀ j x, S'[j]? = some x → (E j → (∃ q, x.p = some q) ∧ x.B = [] ∧ ∀ b, x.F b → w.heap.size ≤ b) ∧ (¬ E j → S[j]? = some x)) ∧ Turned G w wr
section
variable {w : World} {F : Nat → Prop} {p g s k b wb : Nat} {L : Nat → List (List Nat)} {S : List Slot}
theorem Emptied.start {w1 : World} {G : Nat → Prop} (h : RelC w1 p wb g s S) (t : Turned G w w1) {E : Nat → Prop} (hE : ∀ j, ¬ E j) : Emptied w w1 p wb g s S S E G := ⟨h, fun j x hx => ⟨fun e => (hE j e).elim, fun _ => hx⟩, t⟩
theorem Emptied.step {w1 w2 : World} {S1 : List Slot} {i q : Nat} {F' : Nat → Prop} {E E' G : Nat → Prop} (h : Emptied w w1 p wb g s S S1 E G) (hG : G p) (r : RelC w2 p wb g s (S1.set i ⟨some q, F', []⟩)) (hf : ∀ j, F' j → w1.heap.size ≤ j) (t : Turned (fun j => j = p) w1 w2) (hE : ∀ j, E' j ↔ j = i ∨ E j) : Emptied w w2 p wb g s S (S1.set i ⟨some q, F', []⟩) E' G := by
  refine ⟨r, fun j x hx => ?_, h.2.2.trans t fun j e => Or.inl (by rw [e]; exact hG)⟩
  rcases set_get hx with ⟨rfl, rfl⟩ | ⟨hj, hx2⟩
  · exact ⟨fun _ => ⟨⟨q, rfl⟩, rfl, fun b hb => Nat.le_trans h.2.2.size (hf b hb)⟩, fun e => (e ((hE j).2 (Or.inl rfl))).elim⟩
  · refine ⟨fun e => (h.2.1 j x hx2).1 ?_, fun e => (h.2.1 j x hx2).2 fun e2 => e ((hE j).2 (Or.inr e2))⟩
    rcases (hE j).1 e with e2 | e2
    · exact (hj e2).elim
    · exact e2
/-- What stays behind a move. -/
def moveL (c k : Nat) (L : Nat → List (List Nat)) : Nat → List (List Nat) := fun n => if winIn c k n = true then L n else []
theorem winGone_iff {n c : Nat} : n ∈ winGone b k c ↔ winIn b k n = true ∧ winIn c k n = false := by
  rw [winGone, List.mem_filter, winIn_mem b k n, decide_eq_true_eq]
  cases winIn c k n <;> simp
/-- Behind the loop over what has gone. -/
theorem RelA.moved {w' : World} {S' : List Slot} {c : Nat} {G : Nat → Prop} (h : RelA w F p g s k b L wb S) (hE : Emptied w w' p wb g s S S' (fun j => ∃ n, n ∈ winGone b k c ∧ n % k = j) G) (win : WinR w' wb k c) : RelA w' (fun q => F q ∨ w.heap.size ≤ q ∧ q < w'.heap.size) p g s k c (moveL c k L) wb S' := by
  have h1 := h.win.low
  have was : ∀ j x, S'[j]? = some x → ∃ y, S[j]? = some y := fun j x hx => by
    have : j < S.length := by rw [h.c.len, ← hE.1.len]; exact (List.getElem?_eq_some_iff.1 hx).1
    exact ⟨_, List.getElem?_eq_getElem this⟩
  have hno : ∀ j x, S'[j]? = some x → (∃ n, n ∈ winGone b k c ∧ n % k = j) ∨ S[j]? = some x := fun j x hx => by
    by_cases e : ∃ n, n ∈ winGone b k c ∧ n % k = j
    · exact Or.inl e
    · exact Or.inr ((hE.2.1 j x hx).2 e)
  -- a place at which no number of the new window stands that was in the old one
  have emp : ∀ j x, j < k → S'[j]? = some x → (∀ m, winIn b k m = true → m % k = j → winIn c k m = false) → x.B = [] := fun j x hj hx hm => by
    rcases hno j x hx with e | e
    · exact ((hE.2.1 j x hx).1 e).2.1
    · by_cases e2 : ∃ m, winIn b k m = true ∧ m % k = j
      · obtain ⟨m, hm1, hm2⟩ := e2
        exact ((hE.2.1 j x hx).1 ⟨m, winGone_iff.2 ⟨hm1, hm m hm1 hm2⟩, hm2⟩).2.1
      · exact h.free j x hj e fun n hn e3 => e2 ⟨n, hn, e3⟩
  refine ⟨hE.1, win, fun i x hx => ?_, Or.inl h.fp, Or.inl h.fw, fun x hx q hq => ?_, fun q hq => ?_, fun n hn x hx => ?_, fun n hn => by rw [moveL, if_neg (by rw [hn]; decide)], fun i x hi hx hf => emp i x hi hx fun m hm1 hm2 => ?_⟩
  · rcases hno i x hx with e | e
    · obtain ⟨q, hq⟩ := ((hE.2.1 i x hx).1 e).1
      obtain ⟨n, hn, e2⟩ := e
      have := Nat.mod_lt n (show 0 < k by omega)
      rw [hq]
      exact ⟨(fun e3 => by cases e3), fun e3 => by omega⟩
    · exact h.made i x e
  · obtain ⟨j, hj⟩ := List.getElem?_of_mem hx
    rcases hno j x hj with e | e
    · exact Or.inr ⟨((hE.2.1 j x hj).1 e).2.2 q hq, (hE.1.ok x hx).lt q hq⟩
    · exact Or.inl (h.fs x (List.mem_of_getElem? e) q hq)
  · rcases hq with e | e
    · exact Nat.lt_of_lt_of_le (h.lt q e) hE.2.2.size
    · exact e.2
  · rw [moveL, if_pos hn]
    have hm := Nat.mod_lt n (show 0 < k by omega)
    cases hb : winIn b k n with
    | true =>
      rcases hno _ x hx with ⟨m, hm1, hm2⟩ | e
      · obtain ⟨g1, g2⟩ := winGone_iff.1 hm1
        rw [slot_inj h1 g1 hb hm2, hn] at g2; cases g2
      · exact h.in_ n hb x e
    | false =>
      rw [h.out n hb]
      refine emp _ x hm hx fun m hm1 hm2 => ?_
      cases e : winIn c k m with
      | false => rfl
      | true => rw [slot_inj h1 e hn hm2, hb] at hm1; cases hm1
  · cases e : winIn c k m with
    | false => rfl
    | true => exact (hf m e hm2).elim
theorem rl_base (h : RelR w F p g s k b L) : Calls Tryz.prog 30 #[.pointer (some ⟨p, 0, none⟩)] w fun e w' => e = .returned (.int .u64 (b : Int)) ∧ w' = w := by
  obtain ⟨wb, S, h⟩ := h
  have c0 := h.c.c0
  have HM := Lib.hid (rmade_any c0)
  have HB := Lib.hid (base_any h.win)
  clear h
  go_enter Tryz.func30, Tryz.ntmps30
  go_wp2_with fail
  refine HM.out.mono ?_
  rintro e w1 ⟨rfl, rfl⟩
  go_wp2_with fail
  refine HB.out.mono ?_
  rintro e w1 ⟨rfl, rfl⟩
  go_wp2_with fail
  go_ret
  exact ⟨rfl, rfl⟩
theorem rl_in (h : RelR w F p g s k b L) (n : Nat) (hn : n < 18446744073709551616) : Calls Tryz.prog 31 #[.pointer (some ⟨p, 0, none⟩), .int .u64 (n : Int)] w fun e w' => e = .returned (.bool (winIn b k n)) ∧ w' = w := by
  obtain ⟨wb, S, h⟩ := h
  have c0 := h.c.c0
  have HM := Lib.hid (rmade_any c0)
  have HB := Lib.hid (in_any n hn h.win)
  clear h
  go_enter Tryz.func31, Tryz.ntmps31
  go_wp2_with fail
  refine HM.out.mono ?_
  rintro e w1 ⟨rfl, rfl⟩
  go_wp2_with fail
  refine HB.out.mono ?_
  rintro e w1 ⟨rfl, rfl⟩
  go_wp2_with fail
  go_ret
  exact ⟨rfl, rfl⟩
set_option maxRecDepth 100000 in
theorem rl_move_out (h : RelR w F p g s k b L) (c : Nat) (hc : topN < c) : Calls Tryz.prog 17 #[.pointer (some ⟨p, 0, none⟩), .int .u64 (c : Int)] w fun e w' => e = .returned (.int .i64 1) ∧ Keep w w' := by
  obtain ⟨wb, S, h⟩ := h
  have c0 := h.c.c0
  have HM := Lib.hid (rmade_any c0)
  have HC := Lib.hid (copy_any h.win)
  have H := Lib.hid h
  clear h
  go_enter Tryz.func17, Tryz.ntmps17
  go_wp2_with fail
  refine HM.out.mono ?_
  rintro e w1 ⟨rfl, rfl⟩
  go_wp2_with fail
  refine HC.out.mono ?_
  rintro e w2 ⟨rfl, -, k2⟩
  have c02 := (H.out.keep k2).c.c0
  have HK2 := Lib.hid k2
  clear k2
  go_wp2_with fail
  refine (move_out c hc (H.out.keep HK2.out).win).mono ?_
  rintro e w3 ⟨rfl, rfl⟩
  go_wp2_with fail
  go_loopw [31] (fun i wr => i = .int .i64 0 ∧ wr = w3) (fun _ _ => 0)
  case atStart => exact ⟨rfl, rfl⟩
  case round =>
    obtain ⟨rfl, rfl⟩ := hrel
    go_wp2_with fail
    go_ret
    exact ⟨rfl, HK2.out⟩
set_option maxRecDepth 100000 in
theorem rl_move_in (h : RelR w F p g s k b L) (c : Nat) (hc : c ≤ topN) : Calls Tryz.prog 17 #[.pointer (some ⟨p, 0, none⟩), .int .u64 (c : Int)] w fun e w' => e = .returned (.int .i64 0) ∧ ∃ F', RelR w' F' p g s k c (moveL c k L) ∧ (∀ q, F' q → F q ∨ w.heap.size ≤ q) ∧ Turned F w w' := by
  obtain ⟨wb, S, h⟩ := h
  have c0 := h.c.c0
  have HM := Lib.hid (rmade_any c0)
  have HC := Lib.hid (copy_any h.win)
  have H := Lib.hid h
  clear h
  go_enter Tryz.func17, Tryz.ntmps17
  go_wp2_with fail
  refine HM.out.mono ?_
  rintro e w1 ⟨rfl, rfl⟩
  go_wp2_with fail
  refine HC.out.mono ?_
  rintro e w2 ⟨rfl, hW, k2⟩
  have c02 := (H.out.keep k2).c.c0
  have HK2 := Lib.hid k2
  have HW := Lib.hid hW
  clear k2 hW
  go_wp2_with fail
  refine (move_in c hc (H.out.keep HK2.out).win).mono ?_
  rintro e w3 ⟨A, n, q, rfl, hO, hW3, t3⟩
  have HT3 := Lib.hid t3
  have HO := Lib.hid hO
  have HW3 := Lib.hid hW3
  have hwl := H.out.win.lt
  have hpl := H.out.c.lt
  have hne := H.out.c.ne
  have hT0 : Turned (fun j => j = p ∨ j = wb) w1 w3 := (Turned.of_keep HK2.out).trans t3 fun j e => Or.inl (Or.inr e)
  have hWc : WinR w3 w1.heap.size k b := HW.out.turned t3 (by omega)
  have hC3 : RelC w3 p wb g s S := (H.out.keep HK2.out).c.turned t3 hne fun x hx q hq e => (H.out.c.off x hx q hq).2 e
  have HE0 := Lib.hid (Emptied.start (E := fun j => ∃ i x, i < 0 ∧ (winGone b k c)[i]? = some x ∧ x % k = j) hC3 hT0 fun j hj => by
    obtain ⟨i, x, h1, _⟩ := hj
    omega)
  have HWC := Lib.hid hWc
  have HL := Lib.hid hO.length
  have HU := Lib.hid hO.ins
  have HLT := Lib.hid (And.intro hwl (And.intro hpl hne))
  have hn16 : n ≤ 16 := by rw [← hO.length]; exact Nat.le_trans (winGone_le b k c) H.out.win.high
  clear t3 hO hW3 hwl hpl hne hT0 hWc hC3 HM HC HW HO HT3 c02 c0
  go_wp2_with fail
  go_loopw [31] (fun i wr => ∃ (m : Nat) (S' : List Slot), m ≤ n ∧ i = .int .i64 (m : Int) ∧ Emptied w1 wr p wb g s S S' (fun j => ∃ i x, i < m ∧ (winGone b k c)[i]? = some x ∧ x % k = j) (fun j => j = p ∨ j = wb) ∧ Turned (fun j => j = p) w3 wr) (fun i _ => n - (intOf i).toNat)
  case atStart => exact ⟨0, _, by omega, rfl, HE0.out, Turned.refl _ _⟩
  case round =>
    obtain ⟨m, S', hm, rfl, hE, hT⟩ := hrel
    have HE := Lib.hid hE
    have HT := Lib.hid hT
    clear hE hT HE0
    by_cases hlt : m < n
    · have e2 : (m : Int) < (n : Int) := by omega
      have e1 : (0 : Int) ≤ (m : Int) := by omega
      obtain ⟨bb, off, x, rfl, hb1, hb2, hx, hcell⟩ := HU.out.at_ hlt
      have hcw : wr.cell? ⟨bb, off + m, none⟩ = some (.int .u64 (x : Int)) := HT.out.cell hcell (by have := HK2.out.size; have := HLT.out; show ¬ bb = p; omega)
      have hxm := List.mem_of_getElem? hx
      obtain ⟨g1, g2⟩ := winGone_iff.1 hxm
      have hxl : x < 18446744073709551616 := by
        have := (winIn_iff b k x).1 g1
        have h3 : endN b k ≤ topN := Nat.min_le_right _ _
        unfold topN at h3; omega
      have HSL := Lib.hid (slot_in (HWC.out.turned HT.out (by have := HLT.out; omega)) hxl g1 rfl)
      have HX := Lib.hid hx
      have HM := Lib.hid (Nat.mod_lt x (show 0 < k from H.out.win.low))
      clear hcell hb1 hb2 hx hxm g1 g2 hxl
      obtain ⟨t, ht⟩ : ∃ t, x % k = t := ⟨_, rfl⟩
      rw [ht] at HSL HM
      have HTT := Lib.hid ht
      clear ht
      go_wp2_with fail
      refine HSL.out.mono ?_
      rintro e wr ⟨rfl, rfl⟩
      go_wp2_with fail
      refine (rempty_any HE.out.1 (Nat.lt_of_lt_of_le HLT.out.1 HE.out.2.2.size) t (by have := HM.out; have := H.out.win.high; omega)).mono ?_
      rintro e w4 ⟨rfl, q2, F2, h1, h2, h3⟩
      have HN := Lib.hid (HE.out.step (Or.inl rfl) h1 h2 h3 (E' := fun j => ∃ i x, i < m + 1 ∧ (winGone b k c)[i]? = some x ∧ x % k = j) fun j => by
        constructor
        · rintro ⟨i, y, i1, i2, i3⟩
          rcases Nat.lt_or_ge i m with e | e
          · exact Or.inr ⟨i, y, e, i2, i3⟩
          · obtain rfl : i = m := by omega
            rw [HX.out] at i2
            obtain rfl := Option.some.inj i2
            exact Or.inl (i3.symm.trans HTT.out)
        · rintro (e | ⟨i, y, i1, i2, i3⟩)
          · exact ⟨m, x, by omega, HX.out, HTT.out.trans e.symm⟩
          · exact ⟨i, y, by omega, i2, i3⟩)
      have HTN := Lib.hid (HT.out.trans h3 fun j e => Or.inl e)
      clear h1 h2 h3
      go_wp2_with fail
      go_roundw
      case rel => exact ⟨m + 1, _, by omega, by go_num, HN.out, HTN.out⟩
      case measure => simp [intOf]; omega
    · obtain rfl : n = m := by omega
      go_wp2_with fail
      go_ret
      have hEE : (fun j => ∃ i x, i < n ∧ (winGone b k c)[i]? = some x ∧ x % k = j) = fun j => ∃ x, x ∈ winGone b k c ∧ x % k = j := funext fun j => propext ⟨(fun ⟨i, x, _, h2, h3⟩ => ⟨x, List.mem_of_getElem? h2, h3⟩), fun ⟨x, h2, h3⟩ => by
        obtain ⟨i, hi⟩ := List.getElem?_of_mem h2
        exact ⟨i, x, by rw [← HL.out]; exact (List.getElem?_eq_some_iff.1 hi).1, hi, h3⟩⟩
      have hE := HE.out
      rw [hEE] at hE
      refine ⟨rfl, _, (H.out.moved hE (HW3.out.turned HT.out (fun e => HLT.out.2.2 e.symm))).r, fun q hq => ?_, hE.2.2.mono fun i _ e => ?_⟩
      · rcases hq with e | e
        · exact Or.inl e
        · exact Or.inr e.1
      · rcases e with rfl | rfl
        · exact H.out.fp
        · exact H.out.fw
end
end Go.Proofs.YtcjjhblgejkkeaaGreat
/- The landed relay: Ranks. -/
namespace Go.Proofs.YtcjjhblgejkkeaaGreat
open Go.RowKit Lin
set_option linter.unusedVariables false
set_option linter.unusedSimpArgs false
/-- A generation, and how many rows it has. -/
def rkVals (x : Nat × Nat) : List Value := [.int .u64 (x.1 : Int), .int .i64 (x.2 : Int)]
theorem rk_len (l : List (Nat × Nat)) : (l.flatMap rkVals).length = l.length * 2 := by
  induction l with
  | nil => rfl
  | cons p l ih => rw [List.flatMap_cons, List.length_append, ih, List.length_cons]; simp [rkVals]; omega
theorem rk_at : ∀ (l : List (Nat × Nat)) (i : Nat) (x : Nat × Nat), l[i]? = some x → (l.flatMap rkVals)[i * 2]? = some (.int .u64 (x.1 : Int)) ∧ (l.flatMap rkVals)[i * 2 + 1]? = some (.int .i64 (x.2 : Int))
  | [], i, p, h => by simp at h
  | q :: l, 0, p, h => by
    simp at h
    subst h
    exact ⟨rfl, rfl⟩
  | q :: l, i + 1, p, h => by
    have ih := rk_at l i p (by simpa using h)
    have e : ((q :: l).flatMap rkVals) = Value.int .u64 (q.1 : Int) :: Value.int .i64 (q.2 : Int) :: l.flatMap rkVals := rfl
    rw [e, show (i + 1) * 2 = i * 2 + 1 + 1 by omega]
    simpa using ih
/-- Such a list, to be read. -/
def RkIn (w : World) (F : Nat → Prop) (A : Option Addr) (n : Nat) (l : List (Nat × Nat)) : Prop :=
  l.length = n ∧ (0 < n → ∃ b off, A = some ⟨b, off, none⟩ ∧ F b ∧ b < w.heap.size ∧ ∀ (i : Nat) (x : Nat × Nat), l[i]? = some x → w.cell? ⟨b, off + i * 2, none⟩ = some (.int .u64 (x.1 : Int)) ∧ w.cell? ⟨b, off + i * 2 + 1, none⟩ = some (.int .i64 (x.2 : Int)))
theorem RkIn.turned {w w' : World} {F G : Nat → Prop} {A : Option Addr} {n : Nat} {l : List (Nat × Nat)} (h : RkIn w F A n l) (k : Turned G w w') (hd : ∀ b, F b → ¬ G b) : RkIn w' F A n l := ⟨h.1, fun hn => by
  obtain ⟨b, off, e, hb, hl, hc⟩ := h.2 hn
  exact ⟨b, off, e, hb, Nat.lt_of_lt_of_le hl k.size, fun i x hi => ⟨k.cell (hc i x hi).1 (hd b hb), k.cell (hc i x hi).2 (hd b hb)⟩⟩⟩
theorem RkIn.keep {w w' : World} {F : Nat → Prop} {A : Option Addr} {n : Nat} {l : List (Nat × Nat)} (h : RkIn w F A n l) (k : Keep w w') : RkIn w' F A n l := h.turned (Turned.of_keep (F := fun _ => False) k) fun _ _ e => e
theorem RkIn.nil (w : World) (F : Nat → Prop) (A : Option Addr) : RkIn w F A 0 [] := ⟨rfl, fun h => absurd h (by omega)⟩
theorem RkIn.at_ {w : World} {F : Nat → Prop} {A : Option Addr} {n : Nat} {l : List (Nat × Nat)} (h : RkIn w F A n l) {i : Nat} (hi : i < n) : ∃ b off x, A = some ⟨b, off, none⟩ ∧ F b ∧ b < w.heap.size ∧ l[i]? = some x ∧ w.cell? ⟨b, off + i * 2, none⟩ = some (.int .u64 (x.1 : Int)) ∧ w.cell? ⟨b, off + i * 2 + 1, none⟩ = some (.int .i64 (x.2 : Int)) := by
  obtain ⟨b, off, e, hb, hl, hc⟩ := h.2 (by omega)
  have hi' : i < l.length := by rw [h.1]; exact hi
  exact ⟨b, off, l[i], e, hb, hl, List.getElem?_eq_getElem hi', (hc i _ (List.getElem?_eq_getElem hi')).1, (hc i _ (List.getElem?_eq_getElem hi')).2⟩
/-- Such a list of one's own. -/
def OwnRk (w : World) (base : Nat) (A : Option Addr) (n c : Nat) (l : List (Nat × Nat)) : Prop := w.ownsRow base 84 2 (.slice A n c) n (l.flatMap rkVals)
namespace OwnRk
variable {w w' : World} {base n c : Nat} {A : Option Addr} {l : List (Nat × Nat)}
theorem length (h : OwnRk w base A n c l) : l.length = n := by have := h.1; rw [rk_len] at this; omega
theorem none_ (w : World) (base : Nat) : OwnRk w base none 0 0 [] := World.ownsRow_nil w base _ 2
theorem rowLe (h : OwnRk w base A n c l) : ∀ k, (Value.slice A n c).ownBlock = some k → base ≤ k := fun k hk => (World.ownsRow.lt h k hk).1
theorem keep (h : OwnRk w base A n c l) (k : Keep w w') : OwnRk w' base A n c l :=
  h.kept (row := none) ⟨k.os, k.tape, k.output, k.size, fun i hi _ => k.block i hi⟩ (by
    cases hb : (Value.slice A n c).ownBlock with
    | none => exact Or.inl rfl
    | some g => exact Or.inr (by simp))
theorem alloc (h : OwnRk w base A n c l) (o : Obj) : OwnRk (w.alloc o) base A n c l := World.ownsRow.alloc h o
theorem lower {base' : Nat} (h : OwnRk w base A n c l) (hb : base' ≤ base) : OwnRk w base' A n c l := by
  refine ⟨h.1, ?_⟩
  rcases h.2 with h1 | ⟨g, cap, cur, hv, hg, r⟩
  · exact Or.inl h1
  · exact Or.inr ⟨g, cap, cur, hv, Nat.le_trans hb hg, r⟩
theorem ins (h : OwnRk w base A n c l) : RkIn w (fun b => base ≤ b) A n l := by
  refine ⟨h.length, fun hn => ?_⟩
  rcases h.2 with ⟨hv, h0⟩ | ⟨g, cap, cur, hv, hg, hh, _⟩
  · omega
  · injection hv with h1 h2 h3
    subst h1
    refine ⟨g, 0, rfl, hg, (Array.getElem?_eq_some_iff.1 hh).1, fun i x hi => ?_⟩
    obtain ⟨v1, v2⟩ := rk_at l i x hi
    have c1 := World.ownsRow.cells h (g := g) rfl _ _ v1
    have c2 := World.ownsRow.cells h (g := g) rfl _ _ v2
    have ha : ∀ j, (⟨g, 0, none⟩ : Addr).add j = ⟨g, 0 + j, none⟩ := fun j => by unfold Addr.add; split <;> simp_all
    rw [ha] at c1 c2
    exact ⟨c1, c2⟩
end OwnRk
theorem infoRk : (Tryz.prog.info? 84).map (fun i => (i.zero, i.size, i.bytes)) = some (some (.agg #[.int .u64 0, .int .i64 0]), 2, 16) := by kernel_rfl
theorem run_append_rk {w : World} {base n c cx t : Nat} {A : Option Addr} {l : List (Nat × Nat)} {ad : Addr} (p : Nat × Nat) (ht : Tryz.prog.underlying t = some (.slice 84)) (hown : OwnRk w base A n c l) (h0 : w.cell? (ad.add 0) = some (.int .u64 (p.1 : Int))) (h1 : w.cell? (ad.add 1) = some (.int .i64 (p.2 : Int))) (hlen : n ≤ 1000000) (hbase : base ≤ w.heap.size) (ty : TypeId) :
    ∃ A2 c2 w', (Builtin.append_ #[t, t] ty #[.slice A n c, .slice (some ad) 1 cx]).run Tryz.prog w = .ok (.slice A2 (n + 1) c2) w' ∧ OwnRk w' base A2 (n + 1) c2 (l ++ [p]) ∧ w.grownBy w' (Value.slice A n c).ownBlock := by
  obtain ⟨i0, hi0, hz0, hz1, hz2⟩ := info_parts infoRk
  obtain ⟨v', w', hrun, h2, h3, _, h5⟩ := run_append_own_at (P := Tryz.prog) w base t ty _ i0 (.agg #[.int .u64 0, .int .i64 0]) 2 16 ht hi0 hz0 hz1 hz2 rfl (by decide) _ n _ hown ad 1 cx (rkVals p) rfl
    (fun j u hj => by
      match j, hj with
      | 0, hj => simp [rkVals] at hj; subst hj; exact h0
      | 1, hj => simp [rkVals] at hj; subst hj; exact h1
      | j + 2, hj => simp [rkVals] at hj)
    (fun u hu => by
      simp [rkVals] at hu
      rcases hu with rfl | rfl <;> rfl) (by unfold maxLen; omega) (by omega) hbase
  have e : l.flatMap rkVals ++ rkVals p = (l ++ [p]).flatMap rkVals := by rw [List.flatMap_append]; simp
  rw [e] at h2
  obtain ⟨A2, c2, rfl⟩ := own_shape h2
  exact ⟨A2, c2, w', hrun, h2, h3⟩
/-- append(ranks, rank), the rank in a block of one. -/
theorem wpList_append_rk {ops : Array Oper} {rest : List Oper} {o : Oper} {a : Act} {Q : Exit → Act → World → Prop} {w : World} (hgd : o.guard = none) (s x : Operand) (t : TypeId)
    (ho : o.op = .call { callee := .builtin .append, args := #[s, x], argTypes := #[t, t] }) {base n c cx : Nat} {A : Option Addr} {l : List (Nat × Nat)} {gx : Nat} (p : Nat × Nat) (ht : Tryz.prog.underlying t = some (.slice 84))
    (hs : a.eval s = .slice A n c) (hown : OwnRk w base A n c l) (hx0 : a.eval x = .slice (some ⟨gx, 0, none⟩) 1 cx) (h0 : w.cell? ⟨gx, 0, none⟩ = some (.int .u64 (p.1 : Int))) (h1 : w.cell? ⟨gx, 1, none⟩ = some (.int .i64 (p.2 : Int))) (hlen : n ≤ 1000000) (hbase : base ≤ w.heap.size)
    (h : ∀ A2 c2 w', OwnRk w' base A2 (n + 1) c2 (l ++ [p]) → w.grownBy w' (Value.slice A n c).ownBlock → wpList Tryz.prog ops Q rest (a.put o.dst (.slice A2 (n + 1) c2)) w') : wpList Tryz.prog ops Q (o :: rest) a w := by
  refine wpList_plain hgd fun _ hK => ?_
  have ha : ∀ j, (⟨gx, 0, none⟩ : Addr).add j = ⟨gx, j, none⟩ := fun j => by unfold Addr.add; split <;> simp_all
  obtain ⟨A2, c2, w', hr, h2, h3⟩ := run_append_rk (cx := cx) (ad := ⟨gx, 0, none⟩) p ht hown (by rw [ha]; exact h0) (by rw [ha]; exact h1) hlen hbase o.type
  unfold Oper.wp execOp
  simp only [ho, resolve, invoke, builtin, Sem.run_bind, Sem.run_pure, Result.andThen_ok, List.map_toArray, List.map_cons, List.map_nil, hs, hx0, hr]
  exact hK _ _ (h A2 c2 w' h2 h3)
/-- The generations of a list that have rows. -/
def rksOf (L : Nat → List (List Nat)) (l : List Nat) : List (Nat × Nat) := (l.filter fun n => decide (0 < (L n).length)).map fun n => (n, (L n).length)
theorem rksOf_more (L : Nat → List (List Nat)) {l : List Nat} {m n : Nat} (h : l[m]? = some n) (h0 : 0 < (L n).length) : rksOf L (l.take (m + 1)) = rksOf L (l.take m) ++ [(n, (L n).length)] := by
  rw [List.take_add_one, h, rksOf, List.filter_append, List.map_append]
  congr 1
  simp [h0]
theorem rksOf_same (L : Nat → List (List Nat)) {l : List Nat} {m n : Nat} (h : l[m]? = some n) (h0 : (L n).length = 0) : rksOf L (l.take (m + 1)) = rksOf L (l.take m) := by
  rw [List.take_add_one, h, rksOf, List.filter_append, List.map_append]
  simp [h0, rksOf]
section
variable {w : World} {F : Nat → Prop} {p g s k b : Nat} {L : Nat → List (List Nat)}
set_option maxRecDepth 100000 in
theorem rl_ranks (h : RelR w F p g s k b L) : Calls Tryz.prog 28 #[.pointer (some ⟨p, 0, none⟩)] w fun e w' => ∃ A n c, e = .returned (.slice A n c) ∧ OwnRk w' w.heap.size A n c (rksOf L (winL b k)) ∧ Keep w w' := by
  have HF := Lib.hid h.fine
  have H := Lib.hid h
  obtain ⟨wb, S, h⟩ := h
  have c0 := h.c.c0
  have HM := Lib.hid (rmade_any c0)
  have HA := Lib.hid (all_any wb k b w h.win)
  clear h
  go_enter Tryz.func28, Tryz.ntmps28
  go_wp2_with fail
  refine HM.out.mono ?_
  rintro e w1 ⟨rfl, rfl⟩
  go_wp2_with fail
  refine HA.out.mono ?_
  rintro e w2 ⟨A, n, c, rfl, hO, k2⟩
  have HL := Lib.hid hO.length
  have HU := Lib.hid hO.ins
  have HK2 := Lib.hid k2
  have hn16 : n ≤ 16 := by rw [← hO.length]; exact Nat.le_trans (winL_le b k) HF.out.2.2.2.2.2.1
  clear hO k2 HM HA c0
  go_wp2_with fail
  go_loopw [3, 16] (fun v i wr => ∃ (m r d : Nat) (V : Option Addr), m ≤ n ∧ r ≤ m ∧ i = .int .i64 (m : Int) ∧ v = .slice V r d ∧ OwnRk wr w2.heap.size V r d (rksOf L ((winL b k).take m)) ∧ Keep w2 wr) (fun _ i _ => n - (intOf i).toNat)
  case atStart => exact ⟨0, 0, 0, none, by omega, by omega, rfl, rfl, OwnRk.none_ _ _, Keep.refl _⟩
  case round =>
    obtain ⟨m, r, d, V, hm, hr, rfl, rfl, hO, hk⟩ := hrel
    have HO := Lib.hid hO
    have HK := Lib.hid hk
    clear hO hk
    by_cases hlt : m < n
    · have e2 : (m : Int) < (n : Int) := by omega
      have e1 : (0 : Int) ≤ (m : Int) := by omega
      obtain ⟨bb, off, x, rfl, hb1, hb2, hx, hcell⟩ := (HU.out.keep HK.out).at_ hlt
      have hxl : x < 18446744073709551616 := by
        have h0 : x ∈ winL b k := List.mem_of_getElem? hx
        rw [winL, List.mem_range'_1] at h0
        have h3 : endN b k ≤ topN := Nat.min_le_right _ _
        have h4 := HF.out.2.2.2.2.2.2
        unfold topN at h3 h4; omega
      have HR := Lib.hid (rl_rank (H.out.keep (HK2.out.trans HK.out)) x hxl)
      have HX := Lib.hid hx
      have hbn := (H.out.bas x).length_le
      have hg := HF.out.2.1
      obtain ⟨z, hz⟩ : ∃ z, (L x).length = z := ⟨_, rfl⟩
      rw [hz] at HR hbn
      have HZ := Lib.hid hz
      clear hb1 hb2 hx hz
      by_cases h0 : 0 < z
      · have e3 : (0 : Int) < (z : Int) := by omega
        go_wp2_with fail
        refine HR.out.mono ?_
        rintro e w5 ⟨rfl, rfl⟩
        go_wp2_with (at_builtin; refine wpList_append_rk rfl _ _ 59 rfl (x, z) Tryz.underlying59 rfl (HO.out.alloc _) rfl (cell_of_row _ _ _ _ _ _ (heap_alloc_new _ _)) (cell_of_row _ _ _ _ _ _ (heap_alloc_new _ _)) (by omega) (by have := HK2.out.size; have := HK.out.size; simp; omega) ?_)
        intro V2 d2 w6 hO2 hg2
        have hk6 : Keep w2 w6 := Keep.grown (HK.out.alloc _ _) hg2 HO.out.rowLe
        have HO2 : Hid (OwnRk w6 w2.heap.size V2 (r + 1) d2 (rksOf L ((winL b k).take (m + 1)))) := by
          show OwnRk _ _ _ _ _ _
          rw [rksOf_more L HX.out (by rw [HZ.out]; exact h0), HZ.out]; exact hO2
        have HK6 := Lib.hid hk6
        clear hO2 hg2 hk6
        go_wp2_with fail
        go_roundw
        case rel => exact ⟨m + 1, r + 1, d2, V2, by omega, by omega, by go_num, rfl, HO2.out, HK6.out⟩
        case measure => simp [intOf]; omega
      · have e3 : ¬ (0 : Int) < (z : Int) := by omega
        go_wp2_with fail
        refine HR.out.mono ?_
        rintro e w5 ⟨rfl, rfl⟩
        go_wp2_with fail
        go_roundw
        case rel => exact ⟨m + 1, r, d, V, by omega, by omega, by go_num, rfl, by rw [rksOf_same L HX.out (by rw [HZ.out]; omega)]; exact HO.out, HK.out⟩
        case measure => simp [intOf]; omega
    · obtain rfl : n = m := by omega
      have HT : Hid ((winL b k).take n = winL b k) := List.take_of_length_le (Nat.le_of_eq HL.out)
      go_wp2_with fail
      go_ret
      have := HO.out
      rw [HT.out] at this
      exact ⟨V, r, d, rfl, this.lower HK2.out.size, HK2.out.trans HK.out⟩
end
end Go.Proofs.YtcjjhblgejkkeaaGreat
/- The landed relay: Copy. -/
namespace Go.Proofs.YtcjjhblgejkkeaaGreat
open Go.RowKit Lin
set_option linter.unusedVariables false
set_option linter.unusedSimpArgs false
theorem sixteen {S : List Slot} (h : S.length = 16) : ∃ y0 y1 y2 y3 y4 y5 y6 y7 y8 y9 y10 y11 y12 y13 y14 y15, S = [y0, y1, y2, y3, y4, y5, y6, y7, y8, y9, y10, y11, y12, y13, y14, y15] := by
  match S, h with
  | [y0, y1, y2, y3, y4, y5, y6, y7, y8, y9, y10, y11, y12, y13, y14, y15], _ => exact ⟨_, _, _, _, _, _, _, _, _, _, _, _, _, _, _, _, rfl⟩
section
variable {w : World} {F : Nat → Prop} {p g s k b wb : Nat} {L : Nat → List (List Nat)} {S : List Slot}
/-- The first i places are copied. -/
def Copied (w wr : World) (p wb g s : Nat) (S S' : List Slot) (i : Nat) : Prop :=
  RelC wr p wb g s S' ∧ (∀ j x, S'[j]? = some x → (j < i → ∃ y, S[j]? = some y ∧ (x.p = none ↔ y.p = none) ∧ x.B = y.B ∧ ∀ b, x.F b → w.heap.size ≤ b) ∧ (i ≤ j → x = Slot.none_)) ∧ Turned (fun j => j = p) w wr
theorem Copied.start (h : RelC w p wb g s slots0) : Copied w w p wb g s S slots0 0 := ⟨h, fun j x hx => ⟨fun e => by omega, fun _ => slots0_get hx⟩, Turned.refl _ _⟩
theorem Copied.step {w1 w2 : World} {S1 : List Slot} {i : Nat} {x y : Slot} (h : Copied w w1 p wb g s S S1 i) (k : Keep w1 w2) (hi : i < 16) (ok : x.Ok w2 g s) (hf : ∀ j, x.F j → w1.heap.size ≤ j) (hwb : wb < w1.heap.size) (hy : S[i]? = some y) (hp : x.p = none ↔ y.p = none) (hB : x.B = y.B) : Copied w (w2.setCell ⟨p, 3 + i, none⟩ x.val) p wb g s S (S1.set i x) (i + 1) := by
  refine ⟨h.1.set hi k ok hf hwb, fun j z hz => ?_, (h.2.2.then_keep k).trans (Turned.set (F := fun j => j = p) w2 ⟨p, 3 + i, none⟩ _ rfl) fun j e => Or.inl e⟩
  rcases set_get hz with ⟨rfl, rfl⟩ | ⟨hj, hz2⟩
  · exact ⟨fun _ => ⟨y, hy, hp, hB, fun b hb => Nat.le_trans h.2.2.size (hf b hb)⟩, fun e => by omega⟩
  · exact ⟨fun e => (h.2.1 j z hz2).1 (by omega), fun e => (h.2.1 j z hz2).2 (by omega)⟩
theorem index16 {y0 y1 y2 y3 y4 y5 y6 y7 y8 y9 y10 y11 y12 y13 y14 y15 y : Slot} {m : Nat} (hm : m < 16) (hy : [y0, y1, y2, y3, y4, y5, y6, y7, y8, y9, y10, y11, y12, y13, y14, y15][m]? = some y) (w : World) : (Instr.index 91 (.agg #[y0.val, y1.val, y2.val, y3.val, y4.val, y5.val, y6.val, y7.val, y8.val, y9.val, y10.val, y11.val, y12.val, y13.val, y14.val, y15.val]) (.int .i64 (m : Int))).run Tryz.prog w = .ok y.val w := by
  obtain rfl | rfl | rfl | rfl | rfl | rfl | rfl | rfl | rfl | rfl | rfl | rfl | rfl | rfl | rfl | rfl : m = 0 ∨ m = 1 ∨ m = 2 ∨ m = 3 ∨ m = 4 ∨ m = 5 ∨ m = 6 ∨ m = 7 ∨ m = 8 ∨ m = 9 ∨ m = 10 ∨ m = 11 ∨ m = 12 ∨ m = 13 ∨ m = 14 ∨ m = 15 := by omega
  all_goals
    obtain rfl := Option.some.inj hy
    kernel_rfl
set_option maxRecDepth 100000 in
theorem rl_copy (h : RelR w F p g s k b L) : Calls Tryz.prog 21 #[.pointer (some ⟨p, 0, none⟩)] w fun e w' => ∃ p' F', e = .returned (.pointer (some ⟨p', 0, none⟩)) ∧ RelR w' F' p' g s k b L ∧ (∀ q, F' q → w.heap.size ≤ q) ∧ Keep w w' := by
  obtain ⟨wb, S, h⟩ := h
  obtain ⟨y0, y1, y2, y3, y4, y5, y6, y7, y8, y9, y10, y11, y12, y13, y14, y15, rfl⟩ := sixteen h.c.len
  have c0 := h.c.c0
  have c1 := h.c.c1
  have c2 := h.c.c2
  have HM := Lib.hid (rmade_any c0)
  have H := Lib.hid h
  clear h
  go_enter Tryz.func21, Tryz.ntmps21
  go_wp2_with fail
  refine HM.out.mono ?_
  rintro e w1 ⟨rfl, rfl⟩
  go_upto_region 3 with fail
  refine wp_region_noPanic ?_
  refine wp_region_held_drew (S := fun wz => wz.cell? ⟨p, 0, none⟩ = some (.pointer (some ⟨wb, 0, none⟩)) ∧ wz.cell? ⟨p, 1, none⟩ = some (.int .i64 (g : Int)) ∧ wz.cell? ⟨p, 2, none⟩ = some (.int .i64 (s : Int))) (by kernel_rfl) ⟨c0, c1, c2⟩ (fun hHeld => ?_)
  refine wpAnyH_take (i := 0) (v := ?_) rfl (by kernel_rfl) (by kernel_rfl) (by kernel_rfl) (fun _ _ _ h => h) (Or.inl ⟨by rfl, ?_⟩) hHeld ?_
  rotate_left
  · intro wq hSw
    go_simp
    all_goals with_reducible rfl
  try simp only [Act.put, List.getElem_toArray, List.getElem_cons_succ, List.getElem_cons_zero, List.setIfInBounds_toArray, List.set_cons_zero, List.set_cons_succ]
  refine wpAnyH_take (i := 1) (v := ?_) rfl (by kernel_rfl) (by kernel_rfl) (by kernel_rfl) (fun _ _ _ h => h) (Or.inl ⟨by rfl, ?_⟩) hHeld ?_
  rotate_left
  · intro wq hSw
    go_simp
    all_goals with_reducible rfl
  try simp only [Act.put, List.getElem_toArray, List.getElem_cons_succ, List.getElem_cons_zero, List.setIfInBounds_toArray, List.set_cons_zero, List.set_cons_succ]
  refine wpAnyH_take (i := 2) (v := ?_) rfl (by kernel_rfl) (by kernel_rfl) (by kernel_rfl) (fun _ _ _ h => h) (Or.inl ⟨by rfl, ?_⟩) hHeld ?_
  rotate_left
  · intro wq hSw
    go_simp
    all_goals with_reducible rfl
  try simp only [Act.put, List.getElem_toArray, List.getElem_cons_succ, List.getElem_cons_zero, List.setIfInBounds_toArray, List.set_cons_zero, List.set_cons_succ]
  refine wpAnyH_take (i := 3) (v := ?_) rfl (by kernel_rfl) (by kernel_rfl) (by kernel_rfl) (fun _ _ _ h => h) (Or.inl ⟨by rfl, ?_⟩) hHeld ?_
  rotate_left
  · intro wq hSw
    have q0 := hSw.1
    go_simp
    all_goals with_reducible rfl
  try simp only [Act.put, List.getElem_toArray, List.getElem_cons_succ, List.getElem_cons_zero, List.setIfInBounds_toArray, List.set_cons_zero, List.set_cons_succ]
  refine wpAnyH_take (i := 5) (v := ?_) rfl (by kernel_rfl) (by kernel_rfl) (by kernel_rfl) (fun _ _ _ h => h) (Or.inl ⟨by rfl, ?_⟩) hHeld ?_
  rotate_left
  · intro wq hSw
    go_simp
    all_goals with_reducible rfl
  try simp only [Act.put, List.getElem_toArray, List.getElem_cons_succ, List.getElem_cons_zero, List.setIfInBounds_toArray, List.set_cons_zero, List.set_cons_succ]
  refine wpAnyH_take (i := 6) (v := ?_) rfl (by kernel_rfl) (by kernel_rfl) (by kernel_rfl) (fun _ _ _ h => h) (Or.inl ⟨by rfl, ?_⟩) hHeld ?_
  rotate_left
  · intro wq hSw
    go_simp
    all_goals with_reducible rfl
  try simp only [Act.put, List.getElem_toArray, List.getElem_cons_succ, List.getElem_cons_zero, List.setIfInBounds_toArray, List.set_cons_zero, List.set_cons_succ]
  refine wpAnyH_take (i := 7) (v := ?_) rfl (by kernel_rfl) (by kernel_rfl) (by kernel_rfl) (fun _ _ _ h => h) (Or.inl ⟨by rfl, ?_⟩) hHeld ?_
  rotate_left
  · intro wq hSw
    go_simp
    all_goals with_reducible rfl
  try simp only [Act.put, List.getElem_toArray, List.getElem_cons_succ, List.getElem_cons_zero, List.setIfInBounds_toArray, List.set_cons_zero, List.set_cons_succ]
  refine wpAnyH_take (i := 8) (v := ?_) rfl (by kernel_rfl) (by kernel_rfl) (by kernel_rfl) (fun _ _ _ h => h) (Or.inl ⟨by rfl, ?_⟩) hHeld ?_
  rotate_left
  · intro wq hSw
    have q0 := hSw.2.1
    go_simp
    all_goals with_reducible rfl
  try simp only [Act.put, List.getElem_toArray, List.getElem_cons_succ, List.getElem_cons_zero, List.setIfInBounds_toArray, List.set_cons_zero, List.set_cons_succ]
  refine wpAnyH_take (i := 9) (v := ?_) rfl (by kernel_rfl) (by kernel_rfl) (by kernel_rfl) (fun _ _ _ h => h) (Or.inl ⟨by rfl, ?_⟩) hHeld ?_
  rotate_left
  · intro wq hSw
    go_simp
    all_goals with_reducible rfl
  try simp only [Act.put, List.getElem_toArray, List.getElem_cons_succ, List.getElem_cons_zero, List.setIfInBounds_toArray, List.set_cons_zero, List.set_cons_succ]
  refine wpAnyH_take (i := 10) (v := ?_) rfl (by kernel_rfl) (by kernel_rfl) (by kernel_rfl) (fun _ _ _ h => h) (Or.inl ⟨by rfl, ?_⟩) hHeld ?_
  rotate_left
  · intro wq hSw
    go_simp
    all_goals with_reducible rfl
  try simp only [Act.put, List.getElem_toArray, List.getElem_cons_succ, List.getElem_cons_zero, List.setIfInBounds_toArray, List.set_cons_zero, List.set_cons_succ]
  refine wpAnyH_take (i := 11) (v := ?_) rfl (by kernel_rfl) (by kernel_rfl) (by kernel_rfl) (fun _ _ _ h => h) (Or.inl ⟨by rfl, ?_⟩) hHeld ?_
  rotate_left
  · intro wq hSw
    go_simp
    all_goals with_reducible rfl
  try simp only [Act.put, List.getElem_toArray, List.getElem_cons_succ, List.getElem_cons_zero, List.setIfInBounds_toArray, List.set_cons_zero, List.set_cons_succ]
  refine wpAnyH_take (i := 12) (v := ?_) rfl (by kernel_rfl) (by kernel_rfl) (by kernel_rfl) (fun _ _ _ h => h) (Or.inl ⟨by rfl, ?_⟩) hHeld ?_
  rotate_left
  · intro wq hSw
    have q0 := hSw.2.2
    go_simp
    all_goals with_reducible rfl
  try simp only [Act.put, List.getElem_toArray, List.getElem_cons_succ, List.getElem_cons_zero, List.setIfInBounds_toArray, List.set_cons_zero, List.set_cons_succ]
  refine wpAnyH_ready (rs := [4]) (by kernel_rfl) (by simp) ?_
  refine AllReadyH.cons rfl (fun K hK => ?_) AllReadyH.nil
  go_simp
  refine (copy_any (H.out.keep (Keep.drew (Keep.refl _))).win).mono ?_
  rintro e w2 ⟨rfl, hW, hk⟩
  have hk2 : Keep w1 w2 := (Keep.drew (Keep.refl w1)).trans hk
  have HW := Lib.hid hW
  have HK2 := Lib.hid hk2
  have z0 := (H.out.keep hk2).c.c0
  have z1 := (H.out.keep hk2).c.c1
  have z2 := (H.out.keep hk2).c.c2
  clear hW hk hk2
  refine hK.out _ _ ⟨z0, z1, z2⟩ (fun hHeld => ?_)
  clear hK K
  try simp only [Act.put, List.getElem_toArray, List.getElem_cons_succ, List.getElem_cons_zero, List.setIfInBounds_toArray, List.set_cons_zero, List.set_cons_succ]
  refine wpAnyH_take (i := 13) (v := ?_) rfl (by kernel_rfl) (by kernel_rfl) (by kernel_rfl) (fun _ _ _ h => h) (Or.inl ⟨by rfl, ?_⟩) hHeld ?_
  rotate_left
  · intro wq hSw
    go_simp
    all_goals with_reducible rfl
  try simp only [Act.put, List.getElem_toArray, List.getElem_cons_succ, List.getElem_cons_zero, List.setIfInBounds_toArray, List.set_cons_zero, List.set_cons_succ]
  refine wpAnyH_ready (rs := [14]) (by kernel_rfl) (by simp) ?_
  refine AllReadyH.cons rfl (fun K hK => ?_) AllReadyH.nil
  go_simp
  have hbl := heap_alloc_new w2 (.cells (Value.pointer (some ⟨w1.heap.size, 0, none⟩) :: Value.int .i64 (g : Int) :: Value.int .i64 (s : Int) :: slots0.map Slot.val).toArray 93)
  obtain ⟨w3, hw3⟩ : ∃ w3, w2.alloc (.cells (Value.pointer (some ⟨w1.heap.size, 0, none⟩) :: Value.int .i64 (g : Int) :: Value.int .i64 (s : Int) :: slots0.map Slot.val).toArray 93) = w3 := ⟨_, rfl⟩
  have hk3 : Keep w2 w3 := by rw [← hw3]; exact (Keep.refl w2).alloc _ _
  have hwl : w1.heap.size < w2.heap.size := HW.out.lt
  rw [hw3] at hbl
  have hC := RelC.fresh hbl (by omega) H.out.c.g1 H.out.c.g2 H.out.c.s1 H.out.c.s2
  have HC := Lib.hid hC
  have HW3 := Lib.hid (HW.out.keep hk3)
  have HK3 := Lib.hid (HK2.out.trans hk3)
  have HWL := Lib.hid hwl
  have HZ : Hid (w2.heap.size < w3.heap.size) := by show _ < _; rw [← hw3]; simp
  have H3 := Lib.hid (H.out.keep (HK2.out.trans hk3))
  clear hC hbl hk3 hwl
  replace hw3 : w2.alloc (.cells #[Value.pointer (some ⟨w1.heap.size, 0, none⟩), Value.int .i64 (g : Int), Value.int .i64 (s : Int), Value.pointer none, Value.pointer none, Value.pointer none, Value.pointer none, Value.pointer none, Value.pointer none, Value.pointer none, Value.pointer none, Value.pointer none, Value.pointer none, Value.pointer none, Value.pointer none, Value.pointer none, Value.pointer none, Value.pointer none, Value.pointer none] 93) = w3 := hw3
  rw [hw3]
  refine hK.out _ _ ⟨H3.out.c.c0, H3.out.c.c1, H3.out.c.c2⟩ (fun hHeld => ?_)
  clear hK K
  try simp only [Act.put, List.getElem_toArray, List.getElem_cons_succ, List.getElem_cons_zero, List.setIfInBounds_toArray, List.set_cons_zero, List.set_cons_succ]
  refine wpAnyH_take (i := 15) (v := ?_) rfl (by kernel_rfl) (by kernel_rfl) (by kernel_rfl) (fun _ _ _ h => h) (Or.inl ⟨by rfl, ?_⟩) hHeld ?_
  rotate_left
  · intro wq hSw
    go_simp
    all_goals with_reducible rfl
  try simp only [Act.put, List.getElem_toArray, List.getElem_cons_succ, List.getElem_cons_zero, List.setIfInBounds_toArray, List.set_cons_zero, List.set_cons_succ]
  refine wpAnyH_done (by kernel_rfl) ?_ _
  refine NoPanic.normal ?_
  clear hHeld
  have d0 : w3.cell? ⟨p, 3, none⟩ = some y0.val := H3.out.c.cs (i := 0) rfl
  have d1 : w3.cell? ⟨p, 4, none⟩ = some y1.val := H3.out.c.cs (i := 1) rfl
  have d2 : w3.cell? ⟨p, 5, none⟩ = some y2.val := H3.out.c.cs (i := 2) rfl
  have d3 : w3.cell? ⟨p, 6, none⟩ = some y3.val := H3.out.c.cs (i := 3) rfl
  have d4 : w3.cell? ⟨p, 7, none⟩ = some y4.val := H3.out.c.cs (i := 4) rfl
  have d5 : w3.cell? ⟨p, 8, none⟩ = some y5.val := H3.out.c.cs (i := 5) rfl
  have d6 : w3.cell? ⟨p, 9, none⟩ = some y6.val := H3.out.c.cs (i := 6) rfl
  have d7 : w3.cell? ⟨p, 10, none⟩ = some y7.val := H3.out.c.cs (i := 7) rfl
  have d8 : w3.cell? ⟨p, 11, none⟩ = some y8.val := H3.out.c.cs (i := 8) rfl
  have d9 : w3.cell? ⟨p, 12, none⟩ = some y9.val := H3.out.c.cs (i := 9) rfl
  have d10 : w3.cell? ⟨p, 13, none⟩ = some y10.val := H3.out.c.cs (i := 10) rfl
  have d11 : w3.cell? ⟨p, 14, none⟩ = some y11.val := H3.out.c.cs (i := 11) rfl
  have d12 : w3.cell? ⟨p, 15, none⟩ = some y12.val := H3.out.c.cs (i := 12) rfl
  have d13 : w3.cell? ⟨p, 16, none⟩ = some y13.val := H3.out.c.cs (i := 13) rfl
  have d14 : w3.cell? ⟨p, 17, none⟩ = some y14.val := H3.out.c.cs (i := 14) rfl
  have d15 : w3.cell? ⟨p, 18, none⟩ = some y15.val := H3.out.c.cs (i := 15) rfl
  have HST := Lib.hid (Copied.start (S := [y0, y1, y2, y3, y4, y5, y6, y7, y8, y9, y10, y11, y12, y13, y14, y15]) HC.out)
  go_wp2_with fail
  clear d0 d1 d2 d3 d4 d5 d6 d7 d8 d9 d10 d11 d12 d13 d14 d15
  go_loopw [28] (fun i wr => ∃ (m : Nat) (S' : List Slot), m ≤ 16 ∧ i = .int .i64 (m : Int) ∧ Copied w3 wr w2.heap.size w1.heap.size g s [y0, y1, y2, y3, y4, y5, y6, y7, y8, y9, y10, y11, y12, y13, y14, y15] S' m) (fun i _ => 16 - (intOf i).toNat)
  case atStart => exact ⟨0, _, by omega, rfl, HST.out⟩
  case round =>
    obtain ⟨m, S', hm, rfl, hC⟩ := hrel
    have HCC := Lib.hid hC
    clear hC HST
    by_cases hlt : m < 16
    · have e2 : (m : Int) < 16 := by omega
      have e1 : (0 : Int) ≤ (m : Int) := by omega
      obtain ⟨y, hy⟩ : ∃ y, [y0, y1, y2, y3, y4, y5, y6, y7, y8, y9, y10, y11, y12, y13, y14, y15][m]? = some y := ⟨_, List.getElem?_eq_getElem hlt⟩
      have hix := index16 hlt hy
      have hoky := H3.out.c.ok y (List.mem_of_getElem? hy)
      have HOKY := Lib.hid hoky
      have HY := Lib.hid hy
      cases hyp : y.p with
      | none =>
        have hval : y.val = .pointer none := by unfold Slot.val; rw [hyp]; rfl
        simp only [hval] at hix
        have HYP := Lib.hid hyp
        clear hy hoky hyp hval
        go_upto_region 7 with fail
        refine wp_region_noPanic ?_
        refine wp_region_held_drew (S := fun wz => True) (by kernel_rfl) trivial (fun hHeld => ?_)
        refine wpAnyH_take (i := 0) (v := ?_) rfl (by kernel_rfl) (by kernel_rfl) (by kernel_rfl) (fun _ _ _ h => h) (Or.inl ⟨by rfl, ?_⟩) hHeld ?_
        rotate_left
        · intro wq hSw
          go_simp
          all_goals with_reducible rfl
        try simp only [Act.put, List.getElem_toArray, List.getElem_cons_succ, List.getElem_cons_zero, List.setIfInBounds_toArray, List.set_cons_zero, List.set_cons_succ]
        refine wpAnyH_take (i := 1) (v := ?_) rfl (by kernel_rfl) (by kernel_rfl) (by kernel_rfl) (fun _ _ _ h => h) (Or.inl ⟨by rfl, ?_⟩) hHeld ?_
        rotate_left
        · intro wq hSw
          go_simp
          all_goals with_reducible rfl
        try simp only [Act.put, List.getElem_toArray, List.getElem_cons_succ, List.getElem_cons_zero, List.setIfInBounds_toArray, List.set_cons_zero, List.set_cons_succ]
        refine wpAnyH_take (i := 2) (v := ?_) rfl (by kernel_rfl) (by kernel_rfl) (by kernel_rfl) (fun _ _ _ h => h) (Or.inl ⟨by rfl, ?_⟩) hHeld ?_
        rotate_left
        · intro wq hSw
          go_simp
          all_goals with_reducible rfl
        try simp only [Act.put, List.getElem_toArray, List.getElem_cons_succ, List.getElem_cons_zero, List.setIfInBounds_toArray, List.set_cons_zero, List.set_cons_succ]
        refine wpAnyH_take (i := 4) (v := ?_) rfl (by kernel_rfl) (by kernel_rfl) (by kernel_rfl) (fun _ _ _ h => h) (Or.inl ⟨by rfl, ?_⟩) hHeld ?_
        rotate_left
        · intro wq hSw
          go_simp
          all_goals with_reducible rfl
        try simp only [Act.put, List.getElem_toArray, List.getElem_cons_succ, List.getElem_cons_zero, List.setIfInBounds_toArray, List.set_cons_zero, List.set_cons_succ]
        refine wpAnyH_take (i := 5) (v := ?_) rfl (by kernel_rfl) (by kernel_rfl) (by kernel_rfl) (fun _ _ _ h => h) (Or.inl ⟨by rfl, ?_⟩) hHeld ?_
        rotate_left
        · intro wq hSw
          go_simp
          all_goals with_reducible rfl
        try simp only [Act.put, List.getElem_toArray, List.getElem_cons_succ, List.getElem_cons_zero, List.setIfInBounds_toArray, List.set_cons_zero, List.set_cons_succ]
        refine wpAnyH_ready (rs := [3]) (by kernel_rfl) (by simp) ?_
        refine AllReadyH.cons rfl (fun K hK => ?_) AllReadyH.nil
        go_simp
        refine (bcopy_nil).mono ?_
        rintro e w5 ⟨rfl, hk⟩
        have hk5 : Keep wr w5 := (Keep.drew (Keep.refl wr)).trans hk
        have HN := Lib.hid (HCC.out.step (x := Slot.none_) hk5 hlt (Slot.none_ok _ _ _) (fun _ e => e.elim) (by have := HCC.out.2.2.size; have := HWL.out; have := HZ.out; omega) HY.out (by rw [HYP.out]; exact Iff.rfl) ((H3.out.c.ok y (List.mem_of_getElem? HY.out)).none HYP.out).1.symm)
        have HK5 := Lib.hid hk5
        clear hk hk5
        refine hK.out _ _ trivial (fun hHeld => ?_)
        clear hK K
        try simp only [Act.put, List.getElem_toArray, List.getElem_cons_succ, List.getElem_cons_zero, List.setIfInBounds_toArray, List.set_cons_zero, List.set_cons_succ]
        refine wpAnyH_take (i := 6) (v := ?_) rfl (by kernel_rfl) (by kernel_rfl) (by kernel_rfl) (fun _ _ _ h => h) (Or.inl ⟨by rfl, ?_⟩) hHeld ?_
        rotate_left
        · intro wq hSw
          have q0 := (show (m : Int) < 16 by omega)
          go_simp
          all_goals with_reducible rfl
        try simp only [Act.put, List.getElem_toArray, List.getElem_cons_succ, List.getElem_cons_zero, List.setIfInBounds_toArray, List.set_cons_zero, List.set_cons_succ]
        have hcc := (HCC.out.1.keep HK5.out).cs (i := m) (List.getElem?_eq_getElem (by rw [HCC.out.1.len]; exact hlt))
        have hfr := (HCC.out.1.keep HK5.out).free (3 + m)
        refine wpAnyH_ready (rs := [7]) (by kernel_rfl) (by simp) ?_
        refine AllReadyH.cons rfl (fun K hK => ?_) AllReadyH.nil
        go_simp
        refine hK.out _ _ trivial (fun hHeld => ?_)
        clear hK K
        try simp only [Act.put, List.getElem_toArray, List.getElem_cons_succ, List.getElem_cons_zero, List.setIfInBounds_toArray, List.set_cons_zero, List.set_cons_succ]
        refine wpAnyH_done (by kernel_rfl) ?_ _
        refine NoPanic.normal ?_
        clear hHeld
        clear hcc hfr hix
        go_wp2_with fail
        go_roundw
        case rel => exact ⟨m + 1, _, by omega, by go_num, HN.out⟩
        case measure => simp [intOf]; omega
      | some q =>
        have hval : y.val = .pointer (some ⟨q, 0, none⟩) := by unfold Slot.val; rw [hyp]; rfl
        simp only [hval] at hix
        have HYP := Lib.hid hyp
        have HB := Lib.hid (hoky.bas hyp)
        have HLT := Lib.hid (H.out.c.ok y (List.mem_of_getElem? hy)).lt
        clear hy hoky hyp hval
        go_upto_region 7 with fail
        refine wp_region_noPanic ?_
        refine wp_region_held_drew (S := fun wz => True) (by kernel_rfl) trivial (fun hHeld => ?_)
        refine wpAnyH_take (i := 0) (v := ?_) rfl (by kernel_rfl) (by kernel_rfl) (by kernel_rfl) (fun _ _ _ h => h) (Or.inl ⟨by rfl, ?_⟩) hHeld ?_
        rotate_left
        · intro wq hSw
          go_simp
          all_goals with_reducible rfl
        try simp only [Act.put, List.getElem_toArray, List.getElem_cons_succ, List.getElem_cons_zero, List.setIfInBounds_toArray, List.set_cons_zero, List.set_cons_succ]
        refine wpAnyH_take (i := 1) (v := ?_) rfl (by kernel_rfl) (by kernel_rfl) (by kernel_rfl) (fun _ _ _ h => h) (Or.inl ⟨by rfl, ?_⟩) hHeld ?_
        rotate_left
        · intro wq hSw
          go_simp
          all_goals with_reducible rfl
        try simp only [Act.put, List.getElem_toArray, List.getElem_cons_succ, List.getElem_cons_zero, List.setIfInBounds_toArray, List.set_cons_zero, List.set_cons_succ]
        refine wpAnyH_take (i := 2) (v := ?_) rfl (by kernel_rfl) (by kernel_rfl) (by kernel_rfl) (fun _ _ _ h => h) (Or.inl ⟨by rfl, ?_⟩) hHeld ?_
        rotate_left
        · intro wq hSw
          go_simp
          all_goals with_reducible rfl
        try simp only [Act.put, List.getElem_toArray, List.getElem_cons_succ, List.getElem_cons_zero, List.setIfInBounds_toArray, List.set_cons_zero, List.set_cons_succ]
        refine wpAnyH_take (i := 4) (v := ?_) rfl (by kernel_rfl) (by kernel_rfl) (by kernel_rfl) (fun _ _ _ h => h) (Or.inl ⟨by rfl, ?_⟩) hHeld ?_
        rotate_left
        · intro wq hSw
          go_simp
          all_goals with_reducible rfl
        try simp only [Act.put, List.getElem_toArray, List.getElem_cons_succ, List.getElem_cons_zero, List.setIfInBounds_toArray, List.set_cons_zero, List.set_cons_succ]
        refine wpAnyH_take (i := 5) (v := ?_) rfl (by kernel_rfl) (by kernel_rfl) (by kernel_rfl) (fun _ _ _ h => h) (Or.inl ⟨by rfl, ?_⟩) hHeld ?_
        rotate_left
        · intro wq hSw
          go_simp
          all_goals with_reducible rfl
        try simp only [Act.put, List.getElem_toArray, List.getElem_cons_succ, List.getElem_cons_zero, List.setIfInBounds_toArray, List.set_cons_zero, List.set_cons_succ]
        refine wpAnyH_ready (rs := [3]) (by kernel_rfl) (by simp) ?_
        refine AllReadyH.cons rfl (fun K hK => ?_) AllReadyH.nil
        go_simp
        refine (bcopy_any ((HB.out.turned HCC.out.2.2 (fun x hx e => by have := HLT.out x hx; have := HWL.out; omega)).keep (Keep.drew (Keep.refl _)))).mono ?_
        rintro e w5 ⟨q5, F5, rfl, hb5, hf5, hk⟩
        have hk5 : Keep wr w5 := (Keep.drew (Keep.refl wr)).trans hk
        have hf6 : ∀ j, F5 j → wr.heap.size ≤ j := hf5
        have HN := Lib.hid (HCC.out.step (x := ⟨some q5, F5, y.B⟩) hk5 hlt (Slot.ok_of hb5) hf6 (by have := HCC.out.2.2.size; have := HWL.out; have := HZ.out; omega) HY.out (by rw [HYP.out]; simp) rfl)
        have HK5 := Lib.hid hk5
        clear hk hk5 hf6 hb5 hf5
        refine hK.out _ _ trivial (fun hHeld => ?_)
        clear hK K
        try simp only [Act.put, List.getElem_toArray, List.getElem_cons_succ, List.getElem_cons_zero, List.setIfInBounds_toArray, List.set_cons_zero, List.set_cons_succ]
        refine wpAnyH_take (i := 6) (v := ?_) rfl (by kernel_rfl) (by kernel_rfl) (by kernel_rfl) (fun _ _ _ h => h) (Or.inl ⟨by rfl, ?_⟩) hHeld ?_
        rotate_left
        · intro wq hSw
          have q0 := (show (m : Int) < 16 by omega)
          go_simp
          all_goals with_reducible rfl
        try simp only [Act.put, List.getElem_toArray, List.getElem_cons_succ, List.getElem_cons_zero, List.setIfInBounds_toArray, List.set_cons_zero, List.set_cons_succ]
        have hcc := (HCC.out.1.keep HK5.out).cs (i := m) (List.getElem?_eq_getElem (by rw [HCC.out.1.len]; exact hlt))
        have hfr := (HCC.out.1.keep HK5.out).free (3 + m)
        refine wpAnyH_ready (rs := [7]) (by kernel_rfl) (by simp) ?_
        refine AllReadyH.cons rfl (fun K hK => ?_) AllReadyH.nil
        go_simp
        refine hK.out _ _ trivial (fun hHeld => ?_)
        clear hK K
        try simp only [Act.put, List.getElem_toArray, List.getElem_cons_succ, List.getElem_cons_zero, List.setIfInBounds_toArray, List.set_cons_zero, List.set_cons_succ]
        refine wpAnyH_done (by kernel_rfl) ?_ _
        refine NoPanic.normal ?_
        clear hHeld
        clear hcc hfr hix
        go_wp2_with fail
        go_roundw
        case rel => exact ⟨m + 1, _, by omega, by go_num, HN.out⟩
        case measure => simp [intOf]; omega
    · obtain rfl : m = 16 := by omega
      go_wp2_with fail
      go_ret
      have hk : Keep w1 wr := HCC.out.2.2.keep HK3.out fun i e => by have := HWL.out; omega
      have h16 : ∀ j x, S'[j]? = some x → j < 16 := fun j x hx => by rw [← HCC.out.1.len]; exact (List.getElem?_eq_some_iff.1 hx).1
      have same : ∀ (j : Nat) (x : Slot), S'[j]? = some x → ∃ y : Slot, [y0, y1, y2, y3, y4, y5, y6, y7, y8, y9, y10, y11, y12, y13, y14, y15][j]? = some y ∧ (x.p = none ↔ y.p = none) ∧ x.B = y.B ∧ ∀ b, x.F b → w3.heap.size ≤ b := fun j x hx => (HCC.out.2.1 j x hx).1 (h16 j x hx)
      have hsz := HCC.out.2.2.size
      refine ⟨w2.heap.size, fun q => w1.heap.size ≤ q ∧ q < wr.heap.size, rfl, (RelA.r (S := S') ⟨HCC.out.1, (show WinR w3 w1.heap.size k b from HW3.out).turned HCC.out.2.2 (by have := HWL.out; omega), fun i x hx => ?_, ⟨by have := HWL.out; omega, by have := HZ.out; omega⟩, ⟨Nat.le_refl _, by have := HWL.out; have := HZ.out; omega⟩, fun x hx q hq => ?_, fun q hq => hq.2, fun n hn x hx => ?_, H.out.out, fun i x hi hx hf => ?_⟩ : RelR wr _ w2.heap.size g s k b L), fun q hq => hq.1, hk⟩
      · obtain ⟨y, hy, e1, _⟩ := same i x hx
        rw [e1]; exact H.out.made i y hy
      · obtain ⟨j, hj⟩ := List.getElem?_of_mem hx
        obtain ⟨y, hy, _, _, e⟩ := same j x hj
        have := e q hq
        exact ⟨by have := HWL.out; have := HZ.out; omega, (HCC.out.1.ok x hx).lt q hq⟩
      · obtain ⟨y, hy, _, e, _⟩ := same _ x hx
        rw [e]; exact H.out.in_ n hn y hy
      · obtain ⟨y, hy, _, e, _⟩ := same i x hx
        rw [e]; exact H.out.free i y hi hy hf
end
end Go.Proofs.YtcjjhblgejkkeaaGreat
