/- Both sources, made; one's own copy beside them. -/
import Derived.Test.YtcafofffgmaepaaSp1
namespace Go.Proofs.Ytcafofffgmaepaa
open Go.RowKit
set_option linter.unusedVariables false
set_option linter.unusedSimpArgs false
theorem rnew_bad (g s : Int) (hb : ¬ MayG g s) (w : World) : Calls Try.prog 10 #[.int .i64 g, .int .i64 s] w fun e w' => e = .returned (.tuple #[.pointer none, .int .i64 1]) ∧ Keep w w' := by
  have HR := Lib.hid (rrestore_bad (w := w) g s 0 0 0 0 none none [] [] 1 false (by omega) (fun w' k => rchunks_out g s hb none none 0 0 0 0 w') (Or.inl (by decide)))
  clear hb
  go_enter Try.func10, Try.ntmps10
  go_wp2_with fail
  refine HR.out.mono ?_
  rintro e w1 ⟨rfl, k⟩
  have K := Lib.hid k
  clear k
  go_wp2_with fail
  go_ret2
  exact ⟨rfl, K.out⟩
theorem new_told (g s : Int) (w : World) : Calls Try.prog 9 #[.int .i64 g, .int .i64 s] w fun e w' => ∃ v er, e = .returned (.tuple #[v, .int .i64 er]) ∧ Keep w w' ∧
    ((¬ MayG g s ∧ v = .pointer none ∧ er = 1) ∨ (MayG g s ∧ ∀ G S P : Nat, g = G → s = S → SizeS G S P → ∃ b F, v = .pointer (some ⟨b, 0, none⟩) ∧ er = 0 ∧ SrcR w' F b G S [] [] [] false ∧ ∀ i, F i → w.heap.size ≤ i)) := by
  by_cases h : MayG g s
  · obtain ⟨G, S, P, rfl, rfl, hz⟩ := h.size
    refine (new_good G S P hz w).mono ?_
    rintro e w' ⟨b, F, rfl, h1, h2, h3⟩
    refine ⟨_, _, rfl, h3, Or.inr ⟨h, fun G' S' P' e1 e2 _ => ?_⟩⟩
    obtain rfl : G = G' := by exact_mod_cast e1
    obtain rfl : S = S' := by exact_mod_cast e2
    exact ⟨b, F, rfl, rfl, h1, h2⟩
  · refine (new_bad g s h w).mono ?_
    rintro e w' ⟨rfl, k⟩
    exact ⟨_, _, rfl, k, Or.inl ⟨h, rfl, rfl⟩⟩
theorem rnew_told (g s : Int) (w : World) : Calls Try.prog 10 #[.int .i64 g, .int .i64 s] w fun e w' => ∃ v er, e = .returned (.tuple #[v, .int .i64 er]) ∧ Keep w w' ∧
    ((¬ MayG g s ∧ v = .pointer none ∧ er = 1) ∨ (MayG g s ∧ ∀ G S P : Nat, g = G → s = S → SizeS G S P → ∃ b E, v = .pointer (some ⟨b, 0, none⟩) ∧ er = 0 ∧ RefR w' E b G S [] [] false ∧ ∀ i, E i → w.heap.size ≤ i)) := by
  by_cases h : MayG g s
  · obtain ⟨G, S, P, rfl, rfl, hz⟩ := h.size
    refine (rnew_good G S P hz w).mono ?_
    rintro e w' ⟨b, F, rfl, h1, h2, h3⟩
    refine ⟨_, _, rfl, h3, Or.inr ⟨h, fun G' S' P' e1 e2 _ => ?_⟩⟩
    obtain rfl : G = G' := by exact_mod_cast e1
    obtain rfl : S = S' := by exact_mod_cast e2
    exact ⟨b, F, rfl, rfl, h1, h2⟩
  · refine (rnew_bad g s h w).mono ?_
    rintro e w' ⟨rfl, k⟩
    exact ⟨_, _, rfl, k, Or.inl ⟨h, rfl, rfl⟩⟩
theorem BothS.begin_ {W w1 w2 : World} {F E : Nat → Prop} {b d g s P : Nat} {xs cs : List Nat} {cl : Bool} (hG : GoodS g s P xs cs (gensN (P - 4) cs xs)) {w0 : World} (k0 : Keep W w0) (hq : SrcR w1 F b g s xs cs (gensN (P - 4) cs xs) cl) (hF : ∀ i, F i → w0.heap.size ≤ i) (k1 : Keep w0 w1) (hr : RefR w2 E d g s xs cs cl) (hE : ∀ i, E i → w1.heap.size ≤ i) (k2 : Keep w1 w2) : BothS W w2 F E b d g s P xs cs cl :=
  ⟨hq.keep k2, hr, hG, fun i hi e => by have := hq.lt i hi; have := hE i e; omega, fun i hi => by
    have := k0.size
    have := k1.size
    rcases hi with h | h
    · have := hF i h; omega
    · have := hE i h; omega, (k0.trans k1).trans k2⟩
theorem gens_start {P : Nat} {g s : Nat} (hz : SizeS g s P) : gensN (P - 4) [] [] = [] := (gens_bare (by have := hz.lo; omega)).1
/-- One's own slice, far from both. -/
structure Dup (W w : World) (F E : Nat → Prop) (A : Option Addr) (n c : Nat) : Prop where
  mine : Mine W w A n c
  far : ∀ i, (Value.slice A n c).ownBlock = some i → ¬ F i ∧ ¬ E i ∧ i < w.heap.size
section
variable {W w w' : World} {F F' E E' : Nat → Prop} {A : Option Addr} {n c : Nat}
theorem Dup.later (h : Dup W w F E A n c) (k : Keep w w') : Dup W w' F E A n c := ⟨h.mine.keep k, fun i hi => by
  obtain ⟨a, b, e⟩ := h.far i hi
  exact ⟨a, b, Nat.lt_of_lt_of_le e k.size⟩⟩
theorem Dup.turned (h : Dup W w F E A n c) (t : Turned (fun i => F i ∨ E i) w w') (hF : ∀ i, F' i ∨ E' i → F i ∨ E i ∨ w.heap.size ≤ i) : Dup W w' F' E' A n c := by
  obtain ⟨⟨xs, o⟩, hf⟩ := h
  refine ⟨⟨xs, o.turned t fun i hi e => ?_⟩, fun i hi => ?_⟩
  · obtain ⟨a, b, _⟩ := hf i hi
    rcases e with e | e
    · exact a e
    · exact b e
  · obtain ⟨a, b, e⟩ := hf i hi
    refine ⟨fun x => ?_, fun x => ?_, Nat.lt_of_lt_of_le e t.size⟩
    · rcases hF i (Or.inl x) with h | h | h
      · exact a h
      · exact b h
      · omega
    · rcases hF i (Or.inr x) with h | h | h
      · exact a h
      · exact b h
      · omega
end
theorem subX_len (P : Nat) (cl : Bool) (xs cs ys : List Nat) (most : Nat) : (subX P cl xs cs ys most).length ≤ xs.length + ys.length := by
  unfold subX; split
  · rw [List.length_append]; omega
  · omega
theorem flushC_len (P : Nat) (cl : Bool) (xs cs : List Nat) : (flushC P cl xs cs).length ≤ cs.length + 1 := by
  unfold flushC; split
  · simp
  · omega
theorem BothS.mid {w w1 w2 : World} {F E : Nat → Prop} {b d g s P : Nat} {xs cs xs' cs' : List Nat} {M' : List (List Nat)} {cl cl' : Bool} (h : BothS w w1 F E b d g s P xs cs cl) (q : Wrote F w1 b g s xs' cs' M' cl' w2) : RefR w2 E d g s xs cs cl ∧ Turned F w1 w2 := by
  obtain ⟨F', q', k', f'⟩ := q
  exact ⟨h.r.turned k' fun i hi e => h.apart i e hi, k'⟩
theorem equal_true (B B' n m ca cb : Nat) (A A' : Option Addr) (xs : List Nat) (w : World) (h : Bytes w B A n xs) (h' : Bytes w B' A' m xs) :
    Calls Try.prog 31 #[.slice A n ca, .slice A' m cb] w fun e w' => e = .returned (.bool true) ∧ w = w' := by
  have := equal_any B B' n m ca cb A A' xs xs w h h'
  rwa [decide_eq_true rfl] at this
end Go.Proofs.Ytcafofffgmaepaa
