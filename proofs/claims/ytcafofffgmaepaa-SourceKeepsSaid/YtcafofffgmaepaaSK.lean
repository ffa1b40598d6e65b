/- bytes.HasPrefix, of a beginning. -/
import Derived.Test.YtcafofffgmaepaaSP
import Derived.Test.YtcafofffgmaepaaMine
import Derived.Test.YtcafofffgmaepaaSN
namespace Go.Proofs.Ytcafofffgmaepaa
open Go.RowKit
set_option linter.unusedVariables false
set_option maxRecDepth 100000 in
theorem prefix_true (B B' n m ca cb : Nat) (A A' : Option Addr) (xs ys : List Nat) (w : World) (h : Bytes w B A n xs) (h' : Bytes w B' A' m ys) (hm : m ≤ n) (hc : n ≤ ca) (hy : xs.take m = ys) :
    Calls Try.prog 36 #[.slice A n ca, .slice A' m cb] w fun e w' => e = .returned (.bool true) ∧ w = w' := by
  have hh := head_bytes m n ca A (by omega)
  have hb := h.cut (m := m) (by omega)
  rw [hy] at hb
  have HB := Lib.hid hb
  have HB' := Lib.hid h'
  have e1 : decide ((m : Int) ≤ (n : Int)) = true := decide_eq_true (by omega)
  clear h h' hb hy
  go_enter Try.func36, Try.ntmps36
  go_wp2_with fail
  refine (equal_true _ _ m m _ _ _ _ _ _ HB.out HB'.out).mono ?_
  rintro e w' ⟨rfl, rfl⟩
  go_wp2_with fail
  go_ret
  exact ⟨rfl, rfl⟩
end Go.Proofs.Ytcafofffgmaepaa
/- What was a generation stays it, plainly. -/
namespace Go.Proofs.Ytcafofffgmaepaa
set_option linter.unusedVariables false
theorem GoodS.sub_more {g s P : Nat} {xs cs : List Nat} {M : List (List Nat)} (h : GoodS g s P xs cs M) (cl : Bool) (ys : List Nat) (most : Nat) : ∃ N, gensN (P - 4) cs (subX P cl xs cs ys most) = M ++ N := by
  unfold subX
  split
  · rw [h.gens]
    exact gens_more ys
  · exact ⟨[], by rw [List.append_nil, ← h.gens]⟩
theorem GoodS.flush_more {g s P : Nat} {xs cs : List Nat} {M : List (List Nat)} (h : GoodS g s P xs cs M) (cl : Bool) : ∃ N, gensN (P - 4) (flushC P cl xs cs) xs = M ++ N := by
  unfold flushC
  split
  · rename_i ho
    rw [(gens_cut h.room ho.2).1, ← h.gens]
    exact ⟨_, rfl⟩
  · exact ⟨[], by rw [List.append_nil, ← h.gens]⟩
theorem GoodS.flush_open {g s P : Nat} {xs cs : List Nat} {M : List (List Nat)} (h : GoodS g s P xs cs M) : openN (P - 4) (flushC P false xs cs) xs = [] := by
  unfold flushC
  split
  · rename_i ho
    exact (gens_cut h.room ho.2).2
  · rename_i ho
    by_cases e : openN (P - 4) cs xs = []
    · exact e
    · exact absurd ⟨rfl, e⟩ ho
/-- The generations, one behind the other, are the stream's beginning. -/
theorem GoodS.told {g s P : Nat} {xs cs : List Nat} {M : List (List Nat)} (h : GoodS g s P xs cs M) : xs.take M.flatten.length = M.flatten ∧ (openN (P - 4) cs xs = [] → M.flatten.length = xs.length) := by
  have hf := gens_flat (room := P - 4) (cuts := cs) (xs := xs) h.room
  rw [← h.gens] at hf
  refine ⟨?_, fun ho => ?_⟩
  · have e : xs.take M.flatten.length = (M.flatten ++ openN (P - 4) cs xs).take M.flatten.length := by rw [hf]
    rw [e, List.take_left']
    rfl
  · rw [ho, List.append_nil] at hf
    rw [hf]
end Go.Proofs.Ytcafofffgmaepaa
/- SourceKeeps: one source, all that was told OK, what its generations were: side by side in memory. -/
namespace Go.Proofs.Ytcafofffgmaepaa
open Go.RowKit
set_option linter.unusedVariables false
/-- What the generations were told to be: slices of symbols, in blocks of D. -/
def WasIn (w : World) (D : Nat → Prop) (g s : Nat) (M : List (List Nat)) (hs : List RowV) : Prop :=
  ∀ (k : Nat) (r : RowV), hs[k]? = some r → r.n ≤ 255 ∧ r.n ≤ r.c ∧ ∃ rs, RowsIn w D r.A r.n rs ∧ rowsXs rs = layN g s (M.getD k [])
section
variable {w w' : World} {D D' G : Nat → Prop} {g s : Nat} {M : List (List Nat)} {hs : List RowV}
theorem WasIn.turned (h : WasIn w D g s M hs) (k : Turned G w w') (hd : ∀ i, D i → ¬ G i) : WasIn w' D g s M hs := fun j r hr => by
  obtain ⟨a, b, rs, h1, h2⟩ := h j r hr
  exact ⟨a, b, rs, h1.turned k hd, h2⟩
theorem WasIn.mono (h : WasIn w D g s M hs) (hD : ∀ i, D i → D' i) : WasIn w D' g s M hs := fun j r hr => by
  obtain ⟨a, b, rs, h1, h2⟩ := h j r hr
  exact ⟨a, b, rs, h1.mono hD, h2⟩
theorem getD_more {M N : List (List Nat)} {k : Nat} (hk : k < M.length) : (M ++ N).getD k [] = M.getD k [] := by
  rw [List.getD_eq_getElem?_getD, List.getD_eq_getElem?_getD, List.getElem?_append_left hk]
theorem WasIn.more (h : WasIn w D g s M hs) (hl : hs.length ≤ M.length) (N : List (List Nat)) : WasIn w D g s (M ++ N) hs := fun j r hr => by
  have hj : j < hs.length := by
    rcases Nat.lt_or_ge j hs.length with h1 | h1
    · exact h1
    · rw [List.getElem?_eq_none h1] at hr; cases hr
  rw [getD_more (by omega)]
  exact h j r hr
theorem WasIn.add (h : WasIn w D g s M hs) {r : RowV} (h1 : r.n ≤ 255) (h2 : r.n ≤ r.c) {rs : List RowV} (h3 : RowsIn w D r.A r.n rs) (h4 : rowsXs rs = layN g s (M.getD hs.length [])) : WasIn w D g s M (hs ++ [r]) := fun j q hq => by
  rcases Nat.lt_or_ge j hs.length with hj | hj
  · rw [List.getElem?_append_left hj] at hq
    exact h j q hq
  · rw [List.getElem?_append_right hj] at hq
    have e : j = hs.length := by
      rcases Nat.eq_zero_or_pos (j - hs.length) with e | e
      · omega
      · rw [List.getElem?_eq_none (by simp; omega)] at hq; cases hq
    rw [e, Nat.sub_self] at hq
    have hq : r = q := by simpa using hq
    rw [← hq, e]
    exact ⟨h1, h2, rs, h3, h4⟩
end
/-- One source, what was told OK, what its generations were. -/
structure KpS (W w : World) (F D : Nat → Prop) (b g s P : Nat) (xs cs : List Nat) (cl : Bool) (A1 : Option Addr) (n1 c1 : Nat) (al : List Nat) (A2 : Option Addr) (n2 c2 : Nat) (hs : List RowV) : Prop where
  q : SrcR w F b g s xs cs (gensN (P - 4) cs xs) cl
  good : GoodS g s P xs cs (gensN (P - 4) cs xs)
  keep : Keep W w
  low : ∀ i, F i → W.heap.size ≤ i
  all : Own w W.heap.size 5 A1 n1 c1 al
  was : OwnRows w W.heap.size 49 A2 n2 c2 hs
  fall : ∀ i, (Value.slice A1 n1 c1).ownBlock = some i → ¬ F i ∧ ¬ D i
  fwas : ∀ i, (Value.slice A2 n2 c2).ownBlock = some i → ¬ F i ∧ ¬ D i
  apart : ∀ i, D i → ¬ F i ∧ i < w.heap.size
  le : n2 ≤ (gensN (P - 4) cs xs).length
  rows : WasIn w D g s (gensN (P - 4) cs xs) hs
section
variable {W w w' : World} {F D G : Nat → Prop} {b g s P : Nat} {xs cs xs' cs' : List Nat} {cl cl' : Bool} {A1 A2 A3 A' : Option Addr} {n1 c1 n2 c2 n3 c3 n' c' B0 : Nat} {al al' t : List Nat} {hs : List RowV}
theorem KpS.blk1 (h : KpS W w F D b g s P xs cs cl A1 n1 c1 al A2 n2 c2 hs) : ∀ i, (Value.slice A1 n1 c1).ownBlock = some i → W.heap.size ≤ i ∧ i < w.heap.size := fun i hi => h.all.blt i hi
theorem KpS.blk2 (h : KpS W w F D b g s P xs cs cl A1 n1 c1 al A2 n2 c2 hs) : ∀ i, (Value.slice A2 n2 c2).ownBlock = some i → W.heap.size ≤ i ∧ i < w.heap.size := fun i hi => World.ownsRow.lt h.was i hi
theorem own_apart {base base' e e' m m' d d' : Nat} {B B' : Option Addr} {ys : List Nat} {rs : List RowV} (h : Own w base e B m d ys) (h' : OwnRows w base' e' B' m' d' rs) (he : e ≠ e') : ∀ i, (Value.slice B m d).ownBlock = some i → (Value.slice B' m' d').ownBlock ≠ some i := fun i hi e => by
  rcases blocks_apart h h' he with h1 | h1
  · rw [h1] at hi; cases hi
  · exact h1 (hi.trans e.symm)
theorem KpS.other (h : KpS W w F D b g s P xs cs cl A1 n1 c1 al A2 n2 c2 hs) (k : Turned G w w') (hG : ∀ i, G i → W.heap.size ≤ i ∧ ¬ F i ∧ ¬ D i ∧ (Value.slice A1 n1 c1).ownBlock ≠ some i ∧ (Value.slice A2 n2 c2).ownBlock ≠ some i) : KpS W w' F D b g s P xs cs cl A1 n1 c1 al A2 n2 c2 hs :=
  ⟨h.q.turned k fun i hi e => (hG i e).2.1 hi, h.good, k.keep h.keep fun i e => (hG i e).1, h.low, h.all.turned k fun i hi e => (hG i e).2.2.2.1 hi, h.was.turned k fun i hi e => (hG i e).2.2.2.2 hi, h.fall, h.fwas,
    fun i hi => ⟨(h.apart i hi).1, Nat.lt_of_lt_of_le (h.apart i hi).2 k.size⟩, h.le, h.rows.turned k fun i hi e => (hG i e).2.2.1 hi⟩
theorem KpS.later (h : KpS W w F D b g s P xs cs cl A1 n1 c1 al A2 n2 c2 hs) (k : Keep w w') : KpS W w' F D b g s P xs cs cl A1 n1 c1 al A2 n2 c2 hs :=
  h.other (G := fun _ => False) (Turned.of_keep k) fun _ e => e.elim
/-- The source has turned. -/
theorem KpS.src (h : KpS W w F D b g s P xs cs cl A1 n1 c1 al A2 n2 c2 hs) (q : Wrote F w b g s xs' cs' (gensN (P - 4) cs' xs') cl' w') (hg : GoodS g s P xs' cs' (gensN (P - 4) cs' xs')) (hm : ∃ N, gensN (P - 4) cs' xs' = gensN (P - 4) cs xs ++ N) :
    ∃ F', KpS W w' F' D b g s P xs' cs' cl' A1 n1 c1 al A2 n2 c2 hs ∧ Turned F w w' ∧ ∀ i, F' i → F i ∨ w.heap.size ≤ i := by
  obtain ⟨F', q', k, f⟩ := q
  obtain ⟨N, hN⟩ := hm
  have z := h.keep.size
  refine ⟨F', ⟨q', hg, k.keep h.keep h.low, fun i hi => ?_, h.all.turned k fun i hi e => (h.fall i hi).1 e, h.was.turned k fun i hi e => (h.fwas i hi).1 e, fun i hi => ⟨fun e => ?_, (h.fall i hi).2⟩, fun i hi => ⟨fun e => ?_, (h.fwas i hi).2⟩, fun i hi => ⟨fun e => ?_, Nat.lt_of_lt_of_le (h.apart i hi).2 k.size⟩, ?_, ?_⟩, k, f⟩
  · rcases f i hi with e | e
    · exact h.low i e
    · omega
  · rcases f i e with e | e
    · exact (h.fall i hi).1 e
    · have := (h.blk1 i hi).2; omega
  · rcases f i e with e | e
    · exact (h.fwas i hi).1 e
    · have := (h.blk2 i hi).2; omega
  · rcases f i e with e | e
    · exact (h.apart i hi).1 e
    · have := (h.apart i hi).2; omega
  · have := h.le
    rw [hN, List.length_append]; omega
  · rw [hN]
    exact (h.rows.turned k fun i hi e => (h.apart i hi).1 e).more (by rw [h.was.length]; exact h.le) N
/-- More was told OK. -/
theorem KpS.put_all (h : KpS W w F D b g s P xs cs cl A1 n1 c1 al A2 n2 c2 hs) (o : Own w' W.heap.size 5 A' n' c' al') (t : w.grownBy w' (Value.slice A1 n1 c1).ownBlock) (hb : (Value.slice A' n' c').ownBlock = (Value.slice A1 n1 c1).ownBlock ∨ (Value.slice A' n' c').ownBlock = some w.heap.size) : KpS W w' F D b g s P xs cs cl A' n' c' al' A2 n2 c2 hs := by
  have k : Turned (fun i => (Value.slice A1 n1 c1).ownBlock = some i) w w' := Turned.of_grown t fun i e => e
  refine ⟨h.q.turned k fun i hi e => (h.fall i e).1 hi, h.good, k.keep h.keep fun i e => (h.blk1 i e).1, h.low, o, h.was.turned k fun i hi e => own_apart h.all h.was (by decide) i e hi, fun i hi => ?_, h.fwas, fun i hi => ⟨(h.apart i hi).1, Nat.lt_of_lt_of_le (h.apart i hi).2 k.size⟩, h.le, h.rows.turned k fun i hi e => (h.fall i e).2 hi⟩
  rcases hb with e | e
  · exact h.fall i (e ▸ hi)
  · rw [e] at hi
    injection hi with hi
    exact ⟨fun e => by have := h.q.lt i e; omega, fun e => by have := (h.apart i e).2; omega⟩
/-- What a generation is now is kept. -/
theorem KpS.put_was (h : KpS W w F D b g s P xs cs cl A1 n1 c1 al A2 n2 c2 hs) {r : RowV} {rs : List RowV} (o : OwnRows w' W.heap.size 49 A' (n2 + 1) c' (hs ++ [r])) (t : w.grownBy w' (Value.slice A2 n2 c2).ownBlock) (hb : (Value.slice A' (n2 + 1) c').ownBlock = (Value.slice A2 n2 c2).ownBlock ∨ (Value.slice A' (n2 + 1) c').ownBlock = some w.heap.size)
    (hl : n2 + 1 ≤ (gensN (P - 4) cs xs).length) (h1 : r.n ≤ 255) (h2 : r.n ≤ r.c) (h3 : RowsIn w D r.A r.n rs) (h4 : rowsXs rs = layN g s ((gensN (P - 4) cs xs).getD n2 [])) : KpS W w' F D b g s P xs cs cl A1 n1 c1 al A' (n2 + 1) c' (hs ++ [r]) := by
  have k : Turned (fun i => (Value.slice A2 n2 c2).ownBlock = some i) w w' := Turned.of_grown t fun i e => e
  refine ⟨h.q.turned k fun i hi e => (h.fwas i e).1 hi, h.good, k.keep h.keep fun i e => (h.blk2 i e).1, h.low, h.all.turned k fun i hi e => own_apart h.all h.was (by decide) i hi e, o, h.fall, fun i hi => ?_, fun i hi => ⟨(h.apart i hi).1, Nat.lt_of_lt_of_le (h.apart i hi).2 k.size⟩, hl, ?_⟩
  · rcases hb with e | e
    · exact h.fwas i (e ▸ hi)
    · rw [e] at hi
      injection hi with hi
      exact ⟨fun e => by have := h.q.lt i e; omega, fun e => by have := (h.apart i e).2; omega⟩
  · exact (h.rows.turned k fun i hi e => (h.fwas i e).2 hi).add h1 h2 (h3.turned k fun i hi e => (h.fwas i e).2 hi) (by rw [h.was.length]; exact h4)
/-- New blocks may be kept. -/
theorem KpS.widen (h : KpS W w F D b g s P xs cs cl A1 n1 c1 al A2 n2 c2 hs) (k : Keep w w') : KpS W w' F (fun i => D i ∨ (w.heap.size ≤ i ∧ i < w'.heap.size)) b g s P xs cs cl A1 n1 c1 al A2 n2 c2 hs := by
  have h' := h.later k
  refine ⟨h'.q, h'.good, h'.keep, h'.low, h'.all, h'.was, fun i hi => ⟨(h.fall i hi).1, fun e => ?_⟩, fun i hi => ⟨(h.fwas i hi).1, fun e => ?_⟩, fun i hi => ?_, h'.le, h'.rows.mono fun i e => Or.inl e⟩
  · rcases e with e | e
    · exact (h.fall i hi).2 e
    · have := (h.blk1 i hi).2; omega
  · rcases e with e | e
    · exact (h.fwas i hi).2 e
    · have := (h.blk2 i hi).2; omega
  · rcases hi with e | e
    · exact h'.apart i e
    · exact ⟨fun x => by have := h.q.lt i x; omega, e.2⟩
/-- What is told in this round, in blocks from B0 on. -/
structure TdS (w : World) (D : Nat → Prop) (B0 : Nat) (A3 : Option Addr) (n3 c3 : Nat) (t : List Nat) : Prop where
  own : Own w B0 5 A3 n3 c3 t
  far : ∀ i, (Value.slice A3 n3 c3).ownBlock = some i → ¬ D i
theorem TdS.later (h : TdS w D B0 A3 n3 c3 t) (k : Keep w w') : TdS w' D B0 A3 n3 c3 t := ⟨h.own.keep k, h.far⟩
theorem TdS.widen (h : TdS w D B0 A3 n3 c3 t) (k : Keep w w') : TdS w' (fun i => D i ∨ (w.heap.size ≤ i ∧ i < w'.heap.size)) B0 A3 n3 c3 t := ⟨h.own.keep k, fun i hi e => by
  rcases e with e | e
  · exact h.far i hi e
  · have := (h.own.blt i hi).2; omega⟩
/-- What was has grown. -/
theorem TdS.was (h : TdS w D B0 A3 n3 c3 t) {base : Nat} (o : OwnRows w base 49 A2 n2 c2 hs) (k : w.grownBy w' (Value.slice A2 n2 c2).ownBlock) : TdS w' D B0 A3 n3 c3 t :=
  ⟨h.own.grown k ((blocks_apart h.own o (by decide))), h.far⟩
/-- More is told. -/
theorem KpS.told (h : KpS W w F D b g s P xs cs cl A1 n1 c1 al A2 n2 c2 hs) (h3 : TdS w D B0 A3 n3 c3 t) (hB : W.heap.size ≤ B0) (hF : ∀ i, F i ∨ (Value.slice A1 n1 c1).ownBlock = some i → i < B0) (k : w.grownBy w' (Value.slice A3 n3 c3).ownBlock) : KpS W w' F D b g s P xs cs cl A1 n1 c1 al A2 n2 c2 hs :=
  h.other (Turned.of_grown k fun i e => e) fun i e => by
    have hb := h3.own.blt i e
    exact ⟨by omega, fun x => by have := hF i (Or.inl x); omega, h3.far i e, fun x => by have := hF i (Or.inr x); omega, own_apart h3.own h.was (by decide) i e⟩
theorem TdS.more {ys : List Nat} (h3 : TdS w D B0 A3 n3 c3 t) (hD : ∀ i, D i → i < w.heap.size) (o : Own w' B0 5 A' n' c' (t ++ ys)) (hb : (Value.slice A' n' c').ownBlock = (Value.slice A3 n3 c3).ownBlock ∨ (Value.slice A' n' c').ownBlock = some w.heap.size) : TdS w' D B0 A' n' c' (t ++ ys) := ⟨o, fun i hi e => by
  rcases hb with x | x
  · exact h3.far i (x ▸ hi) e
  · rw [x] at hi
    injection hi with hi
    have := hD i e; omega⟩
end
/-- What is told is the first generations. -/
theorem told_step {M : List (List Nat)} {k : Nat} (hk : k < M.length) : (M.take k).flatten ++ M.getD k [] = (M.take (k + 1)).flatten := by
  rw [List.take_add_one, List.getElem?_eq_getElem hk, List.flatten_append, List.getD_eq_getElem?_getD, List.getElem?_eq_getElem hk]; simp
/-- What a Submit may tell. -/
theorem sub_cases (P : Nat) (cl : Bool) (xs cs ys : List Nat) (most : Nat) : (cl = true ∧ subE P cl xs cs ys most = 27 ∧ subX P cl xs cs ys most = xs) ∨ (cl = false ∧ subE P cl xs cs ys most = 7 ∧ subX P cl xs cs ys most = xs) ∨ (cl = false ∧ subE P cl xs cs ys most = 0 ∧ subX P cl xs cs ys most = xs ++ ys) := by
  cases cl with
  | true =>
    have e : subE P true xs cs ys most = 27 := by simp [subE]
    exact Or.inl ⟨rfl, e, by rw [subX, if_neg (by rw [e]; decide)]⟩
  | false =>
    by_cases h : 262144 < xs.length + ys.length ∨ most < wouldN (P - 4) cs (xs ++ ys)
    · have e : subE P false xs cs ys most = 7 := by rw [subE, if_neg (by simp), if_pos h]
      exact Or.inr (Or.inl ⟨rfl, e, by rw [subX, if_neg (by rw [e]; decide)]⟩)
    · have e : subE P false xs cs ys most = 0 := by rw [subE, if_neg (by simp), if_neg h]
      exact Or.inr (Or.inr ⟨rfl, e, by rw [subX, if_pos e]⟩)
end Go.Proofs.Ytcafofffgmaepaa
/- SourceKeeps: what is told of each generation. -/
namespace Go.Proofs.Ytcafofffgmaepaa
open Go.RowKit
set_option linter.unusedVariables false
theorem infoRows : (Try.prog.info? 49).map (fun i => (i.zero, i.size, i.bytes)) = some (some (.slice none 0 0), 1, 24) := by kernel_rfl
section
variable {W w w' : World} {F D D' G : Nat → Prop} {b g s P : Nat} {xs cs : List Nat} {cl : Bool} {A1 A2 A3 A' : Option Addr} {n1 c1 n2 c2 n3 c3 n' c' B0 i : Nat} {al t : List Nat} {hs : List RowV} {M : List (List Nat)}
theorem KpS.at_ (h : KpS W w F D b g s P xs cs cl A1 n1 c1 al A2 n2 c2 hs) (hi : i < n2) : ∃ (gb : Nat) (r : RowV) (rs : List RowV), A2 = some ⟨gb, 0, none⟩ ∧ gb < w.heap.size ∧ w.cell? ⟨gb, i, none⟩ = some (.slice r.A r.n r.c) ∧ r.n ≤ 255 ∧ RowsIn w D r.A r.n rs ∧ rowsXs rs = layN g s ((gensN (P - 4) cs xs).getD i []) := by
  obtain ⟨gb, rfl, _, hlt⟩ := h.was.block (by omega)
  have hl : i < hs.length := by rw [h.was.length]; exact hi
  have hc := World.ownsRow.cells h.was (g := gb) rfl i hs[i].val (by rw [List.getElem?_map, List.getElem?_eq_getElem hl]; rfl)
  have ha : (⟨gb, 0, none⟩ : Addr).add i = ⟨gb, i, none⟩ := by unfold Addr.add; split <;> simp_all
  rw [ha] at hc
  obtain ⟨h1, h2, rs, h3, h4⟩ := h.rows i hs[i] (List.getElem?_eq_getElem hl)
  exact ⟨gb, hs[i], rs, rfl, hlt, hc, h1, h3, h4⟩
/-- The symbols of a generation that there is. -/
theorem GoodS.told_syms (h : SrcR w F b g s xs cs M cl) (hG : GoodS g s P xs cs M) (hi : i < M.length) : Calls Try.prog 20 #[.pointer (some ⟨b, 0, none⟩), .int .u64 (i : Int)] w fun e w' => ∃ A n c, e = .returned (.tuple #[.slice A n c, .int .i64 0]) ∧ SymAt w w' A n c (layN g s (M.getD i [])) := by
  have hf := hG.few
  have := syms_any h hG i (by omega)
  rwa [symE, symL, if_neg (by omega), if_neg (by omega)] at this
/-- Its chunk. -/
theorem GoodS.told_take (hG : GoodS g s P xs cs M) (hx : AllB xs) (hi : i < M.length) {A : Option Addr} {n c : Nat} {rs : List RowV} (hr : RowsIn w D A n rs) (hD : ∀ b, D b → b < w.heap.size) (hl : rowsXs rs = layN g s (M.getD i [])) :
    Calls Try.prog 35 #[.slice A n c, .int .i64 (g : Int), .int .i64 (s : Int)] w (NewPair w (M.getD i []) 0) := by
  obtain ⟨a1, a2⟩ := gen_all hG hx i hi
  have a3 : 1 ≤ (M.getD i []).length := by
    have e : M.getD i [] = M[i] := by rw [List.getD_eq_getElem?_getD, List.getElem?_eq_getElem hi]; rfl
    have hm : M[i] ∈ M := List.getElem_mem hi
    rw [e]
    exact ((gens_each (room := P - 4) (cuts := cs) (xs := xs) hG.room) M[i] (by rw [← hG.gens]; exact hm)).1
  have h1 := hG.size.s1
  have hlen : ∀ x ∈ rowsXs rs, x.length ≤ 140737488351232 := by
    rw [hl]
    intro x hx
    have : x.length = s := by
      obtain ⟨j, hj, rfl⟩ := List.mem_map.1 hx
      exact cutN_len (allN_len a2) (List.mem_range.1 hj)
    omega
  have ht := take_lay (g := g) (s := s) a3 a2 (by rw [hG.size.eq]; have := hG.size.hi; omega)
  have hT := ptake_any (c := c) (g : Int) (s : Int) A n rs w (hr.rowsAt hD hlen)
  have e : rowsOf rs = layN g s (M.getD i []) := hl
  rw [tkE, tkV, if_neg (not_not_intro hG.size.may), if_neg (not_not_intro hG.size.may), Int.toNat_natCast, Int.toNat_natCast, e, ht.1, ht.2] at hT
  exact hT
/-- The same symbols. -/
theorem same_told {n m ca cb : Nat} {A A' : Option Addr} {rs rs' : List RowV} (h : RowsIn w D A n rs) (h' : RowsIn w D' A' m rs') (hF : ∀ b, D b → b < w.heap.size) (hF' : ∀ b, D' b → b < w.heap.size) (hn : n ≤ 255) (e : rowsXs rs = rowsXs rs') :
    Calls Try.prog 22 #[.slice A n ca, .slice A' m cb] w fun e w' => e = .returned (.bool true) ∧ ∃ k, w' = w.drewN k := by
  have := rsame_any n m ca cb A A' D D' rs rs' w h h' hF hF' (by omega)
  rwa [decide_eq_true e] at this
theorem GoodS.told_len (h : GoodS g s P xs cs M) (i : Nat) : ((M.take i).flatten).length ≤ xs.length := by
  have e : ((M.take i).flatten).length = startN M i := rfl
  have h1 := startN_le M i
  have hl : M.flatten.length = (xs.take M.flatten.length).length := by rw [h.told.1]
  rw [List.length_take] at hl
  omega
/-- Restored from its own stream and cuts it is the same. -/
theorem GoodS.restored (hG : GoodS g s P xs cs (gensN (P - 4) cs xs)) (ho : cl = true → openN (P - 4) cs xs = []) {n m c c' : Nat} {A A' : Option Addr} (h : Bytes w w.heap.size A n xs) (hc : n ≤ c) (h' : NatsAt w w.heap.size A' m cs) (hl : xs.length ≤ 8000) (hm : cs.length ≤ 40) :
    Calls Try.prog 11 #[.int .i64 (g : Int), .int .i64 (s : Int), .slice A n c, .slice A' m c', .bool cl] w fun e w' => ∃ b F, e = .returned (.tuple #[.pointer (some ⟨b, 0, none⟩), .int .i64 0]) ∧ SrcR w' F b g s xs cs (gensN (P - 4) cs xs) cl ∧ (∀ i, F i → w.heap.size ≤ i) ∧ Keep w w' := by
  have hz := hG.size
  have hn := h.length
  have hm' := h'.length
  have e1 : (chunkN (P - 4) cs xs (n + 1)).1 = gensN (P - 4) cs xs := by rw [gensN, hn]
  have e2 : xs.drop (chunkN (P - 4) cs xs (n + 1)).2 = openN (P - 4) cs xs := by rw [openN, fromN, hn]
  have hfl : (gensN (P - 4) cs xs).flatten.length ≤ 262144 := by have := hG.told_len (gensN (P - 4) cs xs).length; rw [List.take_length] at this; omega
  refine restore_good (w := w) (cl := cl) g s P hz n c m c' w.heap.size w.heap.size A A' xs cs (gensN (P - 4) cs xs) (openN (P - 4) cs xs) 0 (Nat.le_refl _) (Nat.le_refl _) h h' (by omega) hfl hG.few (fun _ w2 k2 => ?_) ?_ (by omega)
  · have := pchunks_in g s P n m hz.g0 hz.g1 hz.s0 hz.s1 hz.int hz.lo hz.hi (by omega) (by omega) A A' c c' xs cs w2 ((h.keep (Nat.le_refl _) k2).mono k2.size) hc ((h'.keep (Nat.le_refl _) k2).mono k2.size) (fun x hx => by rw [← hn]; exact hG.le x hx) hG.up
    rwa [e1, e2] at this
  · rw [restR, if_neg (by omega), if_pos rfl, if_neg]
    rintro ⟨a, b⟩
    exact b (ho a)
end
end Go.Proofs.Ytcafofffgmaepaa
