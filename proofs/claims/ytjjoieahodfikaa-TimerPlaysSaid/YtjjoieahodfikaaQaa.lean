/- Words for memory: nothing that was there has turned. -/
import Derived.Below
import Derived.Carry
import Derived.Laws.Rows
import Derived.Deep.Draws
import Derived.ChangeOld
import Derived.ChangeShapes
import Derived.OpenShut
import Derived.SizedLaws
import Derived.JoinedOf
import Derived.ProofKit
import Derived.Laws.BytesArg
import Derived.Laws.AppendOwn
import Derived.Laws.OwnMore
import Derived.Laws.MakeOwn
import Derived.Maps.AppendAt
import Derived.OwnWalk
import Derived.Deep.Slices
import Derived.Deep.Fields
import Derived.Laws.Slices
import Derived.ArgAppend
import Derived.Deep.MidRow
namespace Go.Proofs.Ytjjoieahodfikaa
open Go.RowKit

/-- Nothing of what was there has turned; new blocks may lie behind. -/
def Keep (w w' : World) : Prop := Below w.heap.size w w'
namespace Keep
variable {W w w' : World}
theorem refl (w : World) : Keep w w := Below.refl _ _
theorem trans {a b c : World} (h : Keep a b) (k : Keep b c) : Keep a c := Below.trans h (Below.mono k (Below.size h))
theorem alloc (h : Keep W w) (c : Array Value) (t : TypeId) : Keep W (w.alloc (.cells c t)) := Below.alloc h (Below.size h) _
theorem allocMap (h : Keep W w) (es : Array MapEntry) (c : Nat) : Keep W (w.alloc (.map es c)) := Below.alloc h (Below.size h) _
theorem setCell (h : Keep W w) {a : Addr} (ha : W.heap.size ≤ a.block) (v : Value) : Keep W (w.setCell a v) := Below.setCell h ha v
theorem drew (h : Keep W w) : Keep W w.drew := Below.drew h
theorem drewN (h : Keep W w) (n : Nat) : Keep W (w.drewN n) := ⟨h.os, h.tape, h.output, h.size, h.block⟩
theorem grown {row : Option Nat} (h : Keep W w) (hg : w.grownBy w' row) (hr : ∀ k, row = some k → W.heap.size ≤ k) : Keep W w' := Below.grown h hg (Below.size h) hr
theorem block (h : Keep W w) (k : Nat) (hk : k < W.heap.size) : w.heap[k]? = W.heap[k]? := Below.block h k hk
theorem size (h : Keep W w) : W.heap.size ≤ w.heap.size := Below.size h
end Keep
end Go.Proofs.Ytjjoieahodfikaa
/- From a walk to a law's statement: a law that answers true and turns nothing that was there. -/
namespace Go.Proofs.Ytjjoieahodfikaa
open Go.ChangeShapes Go.WideShapes Go.ChangeAt Go.RowKit

section
variable {H : Type} {enc : TypeId × Value → H} {P : Program}

/-- The arguments read behind the call as they did before. -/
theorem args_kept (hl : laidOutB P = true) {W W' : World} (hb : Below W.heap.size W W') : ∀ {ts : List TypeId} {vs : List Value} {ds : List (DataW H)} {ps : List MemPlace},
    (∀ t ∈ ts, P.readableRec t = true ∧ t < P.types.size) → DataW.TrodAll enc P W 0 (fun _ => true) true ts vs ds ps → (∀ x ∈ ps, x.block < W.heap.size) →
    DataW.TrodAll enc P W' 0 (fun b => decide (b < W.heap.size)) true ts vs ds ps := by
  intro ts
  induction ts with
  | nil =>
    intro vs ds ps _ h _
    obtain ⟨rfl, rfl, rfl⟩ := trodAll_nil h
    exact trodAll_mk0
  | cons t ts ih =>
    intro vs ds ps hr h hlt
    obtain ⟨v, vs, d, ds, p, p', rfl, rfl, rfl, h0, h1⟩ := trodAll_cons h
    obtain ⟨r1, r2⟩ := hr t (by simp)
    exact trodAll_cons_mk (Below.trod hl r1 r2 h0 hb fun x hx => hlt x (by simp [hx])) (ih (fun t ht => hr t (by simp [ht])) h1 fun x hx => hlt x (by simp [hx]))

theorem args_length {W : World} {base : Nat} {sp : Nat → Bool} {held : Bool} : ∀ {ts : List TypeId} {vs : List Value} {ds : List (DataW H)} {ps : List MemPlace}, DataW.TrodAll enc P W base sp held ts vs ds ps → ds.length = ts.length := by
  intro ts
  induction ts with
  | nil =>
    intro vs ds ps h
    obtain ⟨rfl, rfl, rfl⟩ := trodAll_nil h
    rfl
  | cons t ts ih =>
    intro vs ds ps h
    obtain ⟨v, vs, d, ds, p, p', rfl, rfl, rfl, h0, h1⟩ := trodAll_cons h
    simp [ih h1]

/-- A law whose walk answers true and turns nothing that was there: what is handed over. -/
theorem law_handed {C : Checked} {os : Os} {f : FuncId} {fn : Func} {s : ChangeSpec}
    (own : ownKnob C.prog.godebug = none) (started : os.Started) (noInit : C.prog.inits.idxOf? f = none) (hfn : C.prog.funcs[f]? = some fn)
    (witness : ∃ (w : World) (tape : Tape) (i : Input), w.os = os ∧ (w.forCall tape i).Shaped C.prog ∧ i.vars = [] ∧ Input.okWide C.prog (w.forCall tape i) .any w.heap.size f i ∧
      s.pre6 enc C.prog fn [] false (w.forCall tape i).memory i.args ∧ ({} : Assume).holds C.prog (lone (Frame.enter C.prog f i.args .normal) [] (w.forCall tape i)))
    (hl : laidOutB C.prog = true) (hr : ∀ t ∈ fn.params.toList, C.prog.readableRec t = true ∧ t < C.prog.types.size) {tb : TypeId} (hres : fn.resultTypes = #[tb]) (htb : C.prog.underlying tb = some .bool)
    (hvars : s.vars = []) (hspec : ∀ ds : List (DataW H), ds.length = fn.params.size → s.fn H (ds ++ []) = { results := [.lit (.bool true)], args := ds })
    (walk : ∀ (W : World) (base : Nat) (args : Array Value) (ds : List (DataW H)) (p : List MemPlace),
      (∀ (j : Nat) t v, fn.params[j]? = some t → args[j]? = some v → Value.okWide C.prog W .any base t v) →
      DataW.TrodAll enc C.prog W 0 (fun _ => true) true fn.params.toList args.toList ds p →
      (DataW.weightsEach C.prog fn.params.toList ds).all (· ≤ reachBytes) = true →
      Calls C.prog f args W fun e W' => e = .returned (.bool true) ∧ Below W.heap.size W W') :
    ReturnsInHanded {} C os f .any (s.pre6 enc C.prog fn [] false) (s.post enc C.prog fn false true false false) := by
  refine returnsInHanded_of_change_sized own started noInit hfn witness ?_
  intro W base args ds gs before hval hW _ hsz _
  have hW' := hW
  obtain ⟨p, q, hA, hV, rfl, _, _⟩ := hW
  rw [hvars] at hV
  obtain ⟨rfl, rfl⟩ := trodVars_none hV
  have hty : s.plain.varTypes C.prog = [] := by
    show DataSpec.varTypes C.prog s.plain = []
    have h1 : s.plain.vars = [] := hvars
    unfold DataSpec.varTypes
    rw [h1]
    rfl
  rw [hty] at hsz
  simp only [List.append_nil] at hsz hW'
  have hlen : ds.length = fn.params.size := by simpa using args_length hA
  have hlt : ∀ x ∈ p, x.block < W.heap.size := DataW.TrodAll.lt hA
  refine (walk W base args ds p hval hA hsz).mono fun e W' ⟨he, bel⟩ => ?_
  subst he
  have hsp := hspec ds hlen
  refine ⟨_, rfl, ds, [], p, [], p, [], hW', ?_, ?_, ?_, bel.frame _, fun h => by cases h⟩
  · rw [hsp, hres]
    exact trodAll_mk1 (shut_bool htb _)
  · rw [hsp]
    exact args_kept hl bel hr hA hlt
  · rw [hsp, hvars]
    rfl
end
end Go.Proofs.Ytjjoieahodfikaa
/- Slices of bytes: what they hold, in memory that was there or is new; as strings. -/
namespace Go.Proofs.Ytjjoieahodfikaa
open Go.RowKit Go.ChangeShapes Go.WideShapes

/-- Bytes as cells. -/
def u8s (xs : List Nat) : List Value := xs.map fun x : Nat => Value.int .u8 (x : Int)
def AllB (xs : List Nat) : Prop := ∀ x ∈ xs, x < 256
theorem u8s_get (xs : List Nat) (i : Nat) : (u8s xs)[i]? = xs[i]?.map fun x : Nat => Value.int .u8 (x : Int) := by simp [u8s]
theorem AllB.at {xs : List Nat} (h : AllB xs) (i : Nat) (hi : i < xs.length) : xs[i] < 256 := h _ (List.getElem_mem hi)
theorem AllB.getD {xs : List Nat} (h : AllB xs) (i : Nat) : xs.getD i 0 < 256 := by
  rw [List.getD_eq_getElem?_getD]
  cases e : xs[i]? with
  | none => exact (by decide : 0 < 256)
  | some x => exact h x (List.mem_of_getElem? e)
theorem AllB.append {xs ys : List Nat} (h : AllB xs) (k : AllB ys) : AllB (xs ++ ys) := fun x hx => by
  rcases List.mem_append.1 hx with h1 | h1
  · exact h x h1
  · exact k x h1
theorem AllB.take {xs : List Nat} (h : AllB xs) (n : Nat) : AllB (xs.take n) := fun x hx => h x (List.mem_of_mem_take hx)

/-- A slice of n bytes at A, below block B: they are xs. -/
def Bytes (w : World) (B : Nat) (A : Option Addr) (n : Nat) (xs : List Nat) : Prop :=
  xs.length = n ∧ AllB xs ∧ (0 < n → ∃ b off, A = some ⟨b, off, none⟩ ∧ b < B ∧ ∀ i, i < n → w.cell? ⟨b, off + i, none⟩ = some (.int .u8 ((xs.getD i 0 : Nat) : Int)))
namespace Bytes
variable {w w' : World} {B B' n : Nat} {A : Option Addr} {xs : List Nat}
theorem length (h : Bytes w B A n xs) : xs.length = n := h.1
theorem all (h : Bytes w B A n xs) : AllB xs := h.2.1
theorem nil (w : World) (B : Nat) (A : Option Addr) : Bytes w B A 0 [] := ⟨rfl, fun _ h => by simp at h, fun h => absurd h (by omega)⟩
theorem below (h : Bytes w B A n xs) (k : Below B w w') : Bytes w' B A n xs := ⟨h.1, h.2.1, fun hn => by
  obtain ⟨b, off, e, hb, hc⟩ := h.2.2 hn
  exact ⟨b, off, e, hb, fun i hi => (k.cell (p := ⟨b, off + i, none⟩) hb).trans (hc i hi)⟩⟩
theorem keep (h : Bytes w B A n xs) (hB : B ≤ w.heap.size) (k : Keep w w') : Bytes w' B A n xs := h.below (Below.mono k hB)
theorem mono (h : Bytes w B A n xs) (hB : B ≤ B') : Bytes w B' A n xs := ⟨h.1, h.2.1, fun hn => by
  obtain ⟨b, off, e, hb, hc⟩ := h.2.2 hn
  exact ⟨b, off, e, by omega, hc⟩⟩
theorem at_ (h : Bytes w B A n xs) {k : Nat} (hk : k < n) : ∃ b off, A = some ⟨b, off, none⟩ ∧ b < B ∧ w.cell? ⟨b, off + k, none⟩ = some (.int .u8 ((xs.getD k 0 : Nat) : Int)) := by
  obtain ⟨b, off, e, hb, hc⟩ := h.2.2 (by omega)
  exact ⟨b, off, e, hb, hc k hk⟩
end Bytes

section
variable {P : Program}
end

/-- New memory: a slice of n bytes in a block from base on, which may be written. -/
def Own (w : World) (base : Nat) (e : TypeId) (A : Option Addr) (n c : Nat) (xs : List Nat) : Prop :=
  w.ownsRow base e 1 (.slice A n c) n (u8s xs) ∧ AllB xs
namespace Own
variable {w w' : World} {base n c : Nat} {e : TypeId} {A : Option Addr} {xs : List Nat}
theorem length (h : Own w base e A n c xs) : xs.length = n := by have := h.1.1; simpa [u8s] using this
theorem none_ (w : World) (base : Nat) (e : TypeId) : Own w base e none 0 0 [] := ⟨World.ownsRow_nil w base e 1, fun _ h => by simp at h⟩
/-- Where it lies. -/
theorem block (h : Own w base e A n c xs) (hn : 0 < n) : ∃ g, A = some ⟨g, 0, none⟩ ∧ base ≤ g ∧ g < w.heap.size := by
  rcases h.1.2 with ⟨hv, h0⟩ | ⟨g, cap, cur, hv, hg, hh, _⟩
  · omega
  · injection hv with h1 h2 h3
    exact ⟨g, h1, hg, (Array.getElem?_eq_some_iff.1 hh).1⟩
theorem bytes (h : Own w base e A n c xs) : Bytes w w.heap.size A n xs := by
  refine ⟨h.length, h.2, fun hn => ?_⟩
  obtain ⟨g, rfl, _, hlt⟩ := h.block hn
  refine ⟨g, 0, rfl, hlt, fun i hi => ?_⟩
  have hl : i < xs.length := by rw [h.length]; exact hi
  have hc := h.1.cells (g := g) rfl i (.int .u8 ((xs.getD i 0 : Nat) : Int)) (by rw [u8s_get]; simp [List.getD, hl])
  have ha : (⟨g, 0, none⟩ : Addr).add i = ⟨g, 0 + i, none⟩ := by unfold Addr.add; split <;> simp_all
  rwa [ha] at hc
theorem keep (h : Own w base e A n c xs) (k : Keep w w') : Own w' base e A n c xs :=
  ⟨h.1.kept (row := none) ⟨k.os, k.tape, k.output, k.size, fun i hi _ => k.block i hi⟩ (by
    cases hb : (Value.slice A n c).ownBlock with
    | none => exact Or.inl rfl
    | some g => exact Or.inr (by simp)), h.2⟩
end Own

theorem own_shape {w : World} {base e size n : Nat} {v : Value} {xs : List Value} (h : w.ownsRow base e size v n xs) : ∃ A c, v = .slice A n c := by
  rcases h.2 with ⟨rfl, rfl⟩ | ⟨g, cap, cur, rfl, _⟩
  · exact ⟨none, 0, rfl⟩
  · exact ⟨_, _, rfl⟩
theorem Bytes.cells {w : World} {B n b off : Nat} {xs : List Nat} (h : Bytes w B (some ⟨b, off, none⟩) n xs) (hn : 0 < n) : ∀ j u, (u8s xs)[j]? = some u → w.cell? ((⟨b, off, none⟩ : Addr).add j) = some u := by
  obtain ⟨b', off', e, _, hc⟩ := h.2.2 hn
  injection e with e
  injection e with e1 e2
  subst e1; subst e2
  intro j u hu
  rw [u8s_get] at hu
  have hj : j < xs.length := by
    rcases Nat.lt_or_ge j xs.length with hj | hj
    · exact hj
    · rw [List.getElem?_eq_none hj] at hu; cases hu
  have ha : (⟨b, off, none⟩ : Addr).add j = ⟨b, off + j, none⟩ := by unfold Addr.add; split <;> simp_all
  rw [ha, hc j (by rw [← h.1]; exact hj), ← hu]
  simp [List.getD, hj]

section
variable {P : Program}
/-- One byte in a block of its own. -/
theorem Bytes.one (w : World) (v : Nat) (hv : v < 256) (t : TypeId) : Bytes (w.alloc (.cells #[.int .u8 (v : Int)] t)) (w.heap.size + 1) (some ⟨w.heap.size, 0, none⟩) 1 [v] :=
  ⟨rfl, fun x hx => by simp at hx; omega, fun _ => ⟨w.heap.size, 0, rfl, by omega, fun i hi => by
    obtain rfl : i = 0 := by omega
    rw [cell_of_row _ _ _ _ _ _ (heap_alloc_new w _)]
    rfl⟩⟩
theorem Own.alloc {w : World} {base n c : Nat} {e : TypeId} {A : Option Addr} {xs : List Nat} (h : Own w base e A n c xs) (o : Obj) : Own (w.alloc o) base e A n c xs := ⟨h.1.alloc o, h.2⟩
theorem Own.drew {w : World} {base n c : Nat} {e : TypeId} {A : Option Addr} {xs : List Nat} (h : Own w base e A n c xs) : Own w.drew base e A n c xs := ⟨h.1, h.2⟩
theorem Bytes.drew {w : World} {B n : Nat} {A : Option Addr} {xs : List Nat} (h : Bytes w B A n xs) : Bytes w.drew B A n xs := h
end

theorem u8s_zeros (n : Nat) : u8s (List.replicate n 0) = List.replicate n (.int .u8 0) := by simp [u8s]
theorem AllB.zeros (n : Nat) : AllB (List.replicate n 0) := fun x hx => by rw [(List.mem_replicate.1 hx).2]; decide
theorem Own.made (w : World) (e : TypeId) (n : Nat) (hn : n ≤ 140737488355328) : Own (w.alloc (.cells (madeCells #[.int .u8 0] n) e)) w.heap.size e (some ⟨w.heap.size, 0, none⟩) n n (List.replicate n 0) := by
  refine ⟨?_, AllB.zeros n⟩
  have h := World.ownsRow_lit (w := w) (base := w.heap.size) (e := e) (size := 1) (madeCells #[.int .u8 0] n) n (Nat.le_refl _) (by unfold maxLen; omega) (by rw [size_madeCells]; omega)
  rwa [toList_madeCells_one, ← u8s_zeros] at h
/-- A slice literal. -/
theorem Own.lit (w : World) (e : TypeId) (n : Nat) (xs : List Nat) (cs : Array Value) (hc : cs = (u8s xs).toArray) (hl : xs.length = n) (hn : n ≤ 140737488355328) (hx : AllB xs) : Own (w.alloc (.cells cs e)) w.heap.size e (some ⟨w.heap.size, 0, none⟩) n n xs := by
  subst hc
  have h := World.ownsRow_lit (w := w) (base := w.heap.size) (e := e) (size := 1) (u8s xs).toArray n (Nat.le_refl _) (by unfold maxLen; omega) (by simp [u8s, hl])
  exact ⟨by simpa using h, hx⟩
theorem AllB.set {xs : List Nat} (h : AllB xs) (i v : Nat) (hv : v < 256) : AllB (xs.set i v) := fun x hx => by
  rcases List.mem_or_eq_of_mem_set hx with h1 | h1
  · exact h x h1
  · rw [h1]; exact hv
theorem Own.cell {w : World} {base e n c g i : Nat} {xs : List Nat} (h : Own w base e (some ⟨g, 0, none⟩) n c xs) (hi : i < n) : w.cell? ⟨g, i, none⟩ = some (.int .u8 ((xs.getD i 0 : Nat) : Int)) := by
  have hl : i < xs.length := by rw [h.length]; exact hi
  rw [h.1.cellAt i (by omega), u8s_get]
  simp [List.getD, hl]
theorem Own.lower {w : World} {base base' e n c : Nat} {A : Option Addr} {xs : List Nat} (h : Own w base e A n c xs) (hb : base' ≤ base) : Own w base' e A n c xs := by
  refine ⟨⟨h.1.1, ?_⟩, h.2⟩
  rcases h.1.2 with h1 | ⟨g, cap, cur, hv, hg, r⟩
  · exact Or.inl h1
  · exact Or.inr ⟨g, cap, cur, hv, by omega, r⟩
theorem Bytes.alloc {w : World} {B n : Nat} {A : Option Addr} {xs : List Nat} (h : Bytes w B A n xs) (hB : B ≤ w.heap.size) (o : Obj) : Bytes (w.alloc o) B A n xs := h.below (Below.alloc (Below.refl _ _) hB o)
/-- A slice literal, its place said. -/
theorem Bytes.lit {w : World} {h : Nat} (hh : w.heap.size = h) (t : TypeId) (n : Nat) (xs : List Nat) (cs : Array Value) (hc : cs = (u8s xs).toArray) (hl : xs.length = n) (hn : n ≤ 140737488355328) (hx : AllB xs) : Bytes (w.alloc (.cells cs t)) (h + 1) (some ⟨h, 0, none⟩) n xs := by
  have hb := (Own.lit w t n xs cs hc hl hn hx).bytes
  rw [hh] at hb
  exact hb.mono (by simp [hh])
instance (xs : List Nat) : Decidable (AllB xs) := inferInstanceAs (Decidable (∀ x ∈ xs, x < 256))
end Go.Proofs.Ytjjoieahodfikaa
/- Arguments opened: slices of bytes, slices of slices of bytes. -/
namespace Go.Proofs.Ytjjoieahodfikaa
open Go.RowKit Go.ChangeShapes Go.WideShapes Go.Deep

/-- A slice of bytes as a value, and what it holds. -/
structure RowV where
  A : Option Addr
  n : Nat
  c : Nat
  xs : List Nat
def RowV.val (r : RowV) : Value := .slice r.A r.n r.c
/-- A slice of n slices of bytes at A, below block B. -/
def RowsAt (w : World) (B : Nat) (A : Option Addr) (n : Nat) (rs : List RowV) : Prop :=
  rs.length = n ∧ (∀ r ∈ rs, Bytes w B r.A r.n r.xs ∧ r.n ≤ 140737488351232 ∧ r.n ≤ r.c) ∧ (0 < n → ∃ b off, A = some ⟨b, off, none⟩ ∧ b < B ∧ ∀ i r, rs[i]? = some r → w.cell? ⟨b, off + i, none⟩ = some (.slice r.A r.n r.c))
theorem RowsAt.below {w w' : World} {B n : Nat} {A : Option Addr} {rs : List RowV} (h : RowsAt w B A n rs) (k : Below B w w') : RowsAt w' B A n rs :=
  ⟨h.1, fun r hr => ⟨(h.2.1 r hr).1.below k, (h.2.1 r hr).2⟩, fun hn => by
    obtain ⟨b, off, e, hb, hc⟩ := h.2.2 hn
    exact ⟨b, off, e, hb, fun i r hi => (k.cell (p := ⟨b, off + i, none⟩) hb).trans (hc i r hi)⟩⟩
theorem RowsAt.keep {w w' : World} {B n : Nat} {A : Option Addr} {rs : List RowV} (h : RowsAt w B A n rs) (hB : B ≤ w.heap.size) (k : Keep w w') : RowsAt w' B A n rs := h.below (Below.mono k hB)
theorem RowsAt.at_ {w : World} {B n : Nat} {A : Option Addr} {rs : List RowV} (h : RowsAt w B A n rs) {k : Nat} (hk : k < n) :
    ∃ b off r, A = some ⟨b, off, none⟩ ∧ b < B ∧ rs[k]? = some r ∧ w.cell? ⟨b, off + k, none⟩ = some (.slice r.A r.n r.c) ∧ Bytes w B r.A r.n r.xs ∧ r.n ≤ 140737488351232 ∧ r.n ≤ r.c := by
  obtain ⟨b, off, e, hb, hc⟩ := h.2.2 (by omega)
  have hl : k < rs.length := by rw [h.1]; exact hk
  have hr := List.getElem?_eq_getElem hl
  have hm := h.2.1 _ (List.getElem_mem hl)
  exact ⟨b, off, rs[k], e, hb, hr, hc k _ hr, hm.1, hm.2⟩
theorem RowsAt.alloc {w : World} {B n : Nat} {A : Option Addr} {rs : List RowV} (h : RowsAt w B A n rs) (hB : B ≤ w.heap.size) (o : Obj) : RowsAt (w.alloc o) B A n rs := h.below (Below.alloc (Below.refl _ _) hB o)
/-- A literal of slices, its place said. -/
theorem RowsAt.lit {w : World} {h : Nat} (hh : w.heap.size = h) (t : TypeId) (n : Nat) (rs : List RowV) (cs : Array Value) (hc : cs = (rs.map RowV.val).toArray) (hl : rs.length = n) (hr : ∀ r ∈ rs, Bytes w h r.A r.n r.xs ∧ r.n ≤ 140737488351232 ∧ r.n ≤ r.c) :
    RowsAt (w.alloc (.cells cs t)) (h + 1) (some ⟨h, 0, none⟩) n rs := by
  subst hh
  refine ⟨hl, fun r h1 => ⟨((hr r h1).1.alloc (Nat.le_refl _) _).mono (by omega), (hr r h1).2⟩, fun _ => ⟨_, 0, rfl, by omega, fun i r hi => ?_⟩⟩
  rw [cell_of_row _ _ _ _ _ _ (heap_alloc_new w _), hc, Nat.zero_add]
  simp [hi, RowV.val]

section
variable {H : Type} {enc : TypeId × Value → H} {P : Program} {W : World}

theorem weights_all {e : TypeId} : ∀ {ds : List (DataW H)} {d : DataW H}, d ∈ ds → ∀ n ∈ d.weights P e, n ∈ DataW.weightsAll P e ds
  | d0 :: ds, d, hd, n, hn => by
    rw [DataW.weightsAll, List.mem_append]
    rcases List.mem_cons.1 hd with h | h
    · subst h; exact Or.inl hn
    · exact Or.inr (weights_all h n hn)
end
end Go.Proofs.Ytjjoieahodfikaa
/- Arguments opened: slices of structs whose fields are one cell each. -/
namespace Go.Proofs.Ytjjoieahodfikaa
open Go.RowKit Go.ChangeShapes Go.WideShapes Go.Deep

/-- A slice of n structs of k fields at A, below block B: field j of struct i is l i j. -/
def FieldsAt (w : World) (B : Nat) (A : Option Addr) (n k : Nat) (l : List (List Value)) : Prop :=
  l.length = n ∧ (∀ r ∈ l, r.length = k) ∧ (0 < n → ∃ b off, A = some ⟨b, off, none⟩ ∧ b < B ∧ ∀ (i : Nat) (r : List Value) (j : Nat) (v : Value), l[i]? = some r → r[j]? = some v → w.cell? ⟨b, off + (i * k + j), none⟩ = some v)
theorem FieldsAt.below {w w' : World} {B n k : Nat} {A : Option Addr} {l : List (List Value)} (h : FieldsAt w B A n k l) (kp : Below B w w') : FieldsAt w' B A n k l :=
  ⟨h.1, h.2.1, fun hn => by
    obtain ⟨b, off, e, hb, hc⟩ := h.2.2 hn
    exact ⟨b, off, e, hb, fun i r j v hi hj => (kp.cell (p := ⟨b, off + (i * k + j), none⟩) hb).trans (hc i r j v hi hj)⟩⟩
theorem FieldsAt.keep {w w' : World} {B n k : Nat} {A : Option Addr} {l : List (List Value)} (h : FieldsAt w B A n k l) (hB : B ≤ w.heap.size) (kp : Keep w w') : FieldsAt w' B A n k l := h.below (Below.mono kp hB)
section
variable {H : Type} {enc : TypeId × Value → H} {P : Program} {W : World}
theorem weights_each {ts : List TypeId} : ∀ {ds : List (DataW H)} {j : Nat} {t : TypeId} {d : DataW H}, ts[j]? = some t → ds[j]? = some d → ∀ n ∈ d.weights P t, n ∈ DataW.weightsEach P ts ds := fun h1 h2 => DataW.weights_mem_each h1 h2
/-- A reading of a slice of structs. -/
theorem structs_of {t e : TypeId} {fs : Array Field} (ht : P.underlying t = some (.slice e)) (he : P.underlying e = some (.struct fs)) (hone : oneCellFields P fs = true) (hC : P.cellsOf e = fs.size) (hpos : 0 < fs.size) (hbe : 1 ≤ P.bytesOf e)
    {v : Value} {d : DataW H} {p : List MemPlace} {fuel : Nat} (h : DataW.trod enc P W 0 (fun _ => true) true fuel t [v] = some (d, p)) (hs : ∀ n ∈ d.weights P t, n ≤ reachBytes) :
    ∃ (A : Option Addr) (n c : Nat) (l : List (List Value)), v = .slice A n c ∧ FieldsAt W W.heap.size A n fs.size l ∧ n ≤ 140737488351232 ∧ n ≤ c ∧
      ∀ r ∈ l, ∀ (j : Nat) (f : Field), fs[j]? = some f → ∃ (u : Value) (d : DataW H) (p : List MemPlace) (m : Nat), r[j]? = some u ∧ DataW.trod enc P W 0 (fun _ => true) true m f.type [u] = some (d, p) ∧ ∀ q ∈ d.weights P f.type, q ≤ reachBytes := by
  have hone' := hone_of hone
  rcases open_slice ht h with ⟨hcs, _⟩ | ⟨a, len, cap, m, n, D, Pl, hcs, _, hl, hm, hmm, hx, hi⟩
  · simp at hcs
    exact ⟨none, 0, 0, [], hcs, ⟨rfl, fun r hr => by simp at hr, fun h => absurd h (by omega)⟩, by omega, by omega, fun r hr => by simp at hr⟩
  · simp at hcs
    have hmc : m = cap := by simpa using hmm
    simp only [Prod.mk.injEq] at hx
    obtain ⟨hde, _⟩ := hx
    have hr : reachBytes = 140737488351232 := by decide
    have hlen : len ≤ 140737488351232 := by
      have h1 := hs ((((List.range len).map D).length + ((List.range (m - len)).map fun j => D (len + j)).length) * P.bytesOf e) (by rw [hde]; simp [DataW.weights, ht])
      simp only [List.length_map, List.length_range] at h1
      have h2 : len * 1 ≤ (len + (m - len)) * P.bytesOf e := Nat.mul_le_mul (by omega) hbe
      omega
    have each : ∀ i, i < len → ∃ r : List Value, r.length = fs.size ∧ (∀ j u, r[j]? = some u → W.cell? (a.add (i * fs.size + j)) = some u) ∧
        ∀ (j : Nat) (f : Field), fs[j]? = some f → ∃ (u : Value) (d : DataW H) (p : List MemPlace) (m : Nat), r[j]? = some u ∧ DataW.trod enc P W 0 (fun _ => true) true m f.type [u] = some (d, p) ∧ ∀ q ∈ d.weights P f.type, q ≤ reachBytes := by
      intro i hin
      obtain ⟨cs', h1, h2⟩ := hi i (by omega)
      rw [hC] at h1
      obtain ⟨_, hlen', hcell⟩ := World.cells?_some h1
      obtain ⟨xs, k, _, hxy, _, hxl, hf⟩ := DataW.trod_struct he h2
      simp only [Prod.mk.injEq] at hxy
      refine ⟨cs', hlen', fun j u hju => ?_, fun j f hjf => ?_⟩
      · have hj : j < fs.size := by
          rcases Nat.lt_or_ge j cs'.length with hh | hh
          · omega
          · rw [List.getElem?_eq_none hh] at hju; cases hju
        have hc := hcell j hj
        rw [add_add] at hc
        rw [hc, hju]
      · have hj : j < fs.size := (Array.getElem?_eq_some_iff.1 hjf).1
        obtain ⟨ho, hc1⟩ := hone' j f hjf
        have g := hf j f hjf
        rw [ho, hc1, take1_drop cs' j undef (by omega), List.getElem?_eq_getElem (by omega)] at g
        refine ⟨cs'.getD j undef, xs[j].1, xs[j].2, k, by simp [List.getD, List.getElem?_eq_getElem (show j < cs'.length by omega)], g, fun q hq => hs q ?_⟩
        rw [hde]
        simp only [DataW.weights, ht, List.mem_cons, List.mem_append]
        refine Or.inr (Or.inl (weights_all (List.mem_map.2 ⟨i, List.mem_range.2 hin, rfl⟩) q ?_))
        rw [hxy.1]
        simp only [DataW.weights, he]
        exact weights_each (j := j) (t := f.type) (d := xs[j].1) (by rw [List.getElem?_map]; simp [hjf]) (by rw [List.getElem?_map, List.getElem?_eq_getElem (by omega)]; rfl) q hq
    obtain ⟨R, hR⟩ := choose_lt each
    refine ⟨some a, len, cap, (List.range len).map R, hcs, ⟨by simp, fun r hr => ?_, fun hp => ?_⟩, hlen, hl, fun r hr => ?_⟩
    · obtain ⟨i, hin, rfl⟩ := List.mem_map.1 hr
      exact (hR i (List.mem_range.1 hin)).1
    · obtain ⟨b, off, spot⟩ := a
      have hr0 := hR 0 hp
      have h0 := hr0.2.1 0 ((R 0).getD 0 undef) (by simp [List.getD, List.getElem?_eq_getElem (show 0 < (R 0).length by rw [hr0.1]; exact hpos)])
      have hspot : spot = none := by simpa [Addr.add] using World.cell?_spot h0
      subst hspot
      refine ⟨b, off, rfl, World.block_lt_of_cell? W _ (show W.cell? ⟨b, off, none⟩ = _ by simpa [Addr.add] using h0), fun i r j v hir hjv => ?_⟩
      have hin : i < len := by
        rcases Nat.lt_or_ge i len with h | h
        · exact h
        · rw [List.getElem?_eq_none (by simpa using h)] at hir; cases hir
      have hri : r = R i := by simp [hin] at hir; exact hir.symm
      subst hri
      have h1 := (hR i hin).2.1 j v hjv
      have ha : (⟨b, off, none⟩ : Addr).add (i * fs.size + j) = ⟨b, off + (i * fs.size + j), none⟩ := by unfold Addr.add; split <;> simp_all
      rwa [ha] at h1
    · obtain ⟨i, hin, rfl⟩ := List.mem_map.1 hr
      exact (hR i (List.mem_range.1 hin)).2.2
/-- An argument that is a slice of structs. -/
theorem arg_structs {t e : TypeId} {fs : Array Field} (ht : P.underlying t = some (.slice e)) (he : P.underlying e = some (.struct fs)) (hone : oneCellFields P fs = true) (hC : P.cellsOf e = fs.size) (hpos : 0 < fs.size) (hbe : 1 ≤ P.bytesOf e)
    {ts : List TypeId} {ds : List (DataW H)} (hsz : (DataW.weightsEach P ts ds).all (· ≤ reachBytes) = true) {j : Nat} (hj : ts[j]? = some t) {v : Value} {d : DataW H} {p : List MemPlace} (hd : ds[j]? = some d)
    {base : Nat} (hv : Value.okWide P W .any base t v) (h : DataW.Trod enc P W 0 (fun _ => true) true t v d p) :
    ∃ (A : Option Addr) (n c : Nat) (l : List (List Value)), v = .slice A n c ∧ FieldsAt W W.heap.size A n fs.size l ∧ n ≤ 140737488351232 ∧ n ≤ c ∧
      ∀ r ∈ l, ∀ (j : Nat) (f : Field), fs[j]? = some f → ∃ (u : Value) (d : DataW H) (p : List MemPlace) (m : Nat), r[j]? = some u ∧ DataW.trod enc P W 0 (fun _ => true) true m f.type [u] = some (d, p) ∧ ∀ q ∈ d.weights P f.type, q ≤ reachBytes := by
  obtain ⟨A, n, c, rfl⟩ := okWide_slice ht hv
  obtain ⟨fuel, hf⟩ := h
  exact structs_of ht he hone hC hpos hbe (fuel := fuel) (by simpa [Value.cells] using hf) fun n hn => by
    have := List.all_eq_true.1 hsz n (DataW.weights_mem_each hj hd n hn)
    simpa using this
/-- A field that is an int, read. -/
theorem field_int {r : List Value} {j : Nat} {ft : TypeId} {k : IntKind} (hft : P.underlying ft = some (.int k)) (h : ∃ (u : Value) (d : DataW H) (p : List MemPlace) (m : Nat), r[j]? = some u ∧ DataW.trod enc P W 0 (fun _ => true) true m ft [u] = some (d, p) ∧ ∀ q ∈ d.weights P ft, q ≤ reachBytes) :
    ∃ a : Int, r[j]? = some (.int k a) ∧ (Lit.int k a).wf = true := by
  obtain ⟨u, d, p, m, h1, h2, _⟩ := h
  obtain ⟨a, e, _, hw⟩ := DataW.trod_int hft h2
  simp at e
  exact ⟨a, by rw [h1, e], hw⟩
end
end Go.Proofs.Ytjjoieahodfikaa
/- Slices of slices of bytes in new memory: appended to, as rows. -/
namespace Go.Proofs.Ytjjoieahodfikaa
open Go.RowKit

/-- New memory: a slice of slices in a block from base on. -/
def OwnRows (w : World) (base : Nat) (e : TypeId) (A : Option Addr) (n c : Nat) (rs : List RowV) : Prop :=
  w.ownsRow base e 1 (.slice A n c) n (rs.map RowV.val)
namespace OwnRows
variable {w w' : World} {base n c : Nat} {e : TypeId} {A : Option Addr} {rs : List RowV}
theorem length (h : OwnRows w base e A n c rs) : rs.length = n := by have := h.1; simpa using this
theorem none_ (w : World) (base : Nat) (e : TypeId) : OwnRows w base e none 0 0 [] := World.ownsRow_nil w base e 1
theorem keep (h : OwnRows w base e A n c rs) (k : Keep w w') : OwnRows w' base e A n c rs :=
  h.kept (row := none) ⟨k.os, k.tape, k.output, k.size, fun i hi _ => k.block i hi⟩ (by
    cases hb : (Value.slice A n c).ownBlock with
    | none => exact Or.inl rfl
    | some g => exact Or.inr (by simp))
theorem alloc (h : OwnRows w base e A n c rs) (o : Obj) : OwnRows (w.alloc o) base e A n c rs := World.ownsRow.alloc h o
theorem drew (h : OwnRows w base e A n c rs) : OwnRows w.drew base e A n c rs := h
/-- Where it lies. -/
theorem block (h : OwnRows w base e A n c rs) (hn : 0 < n) : ∃ g, A = some ⟨g, 0, none⟩ ∧ base ≤ g ∧ g < w.heap.size := by
  rcases h.2 with ⟨hv, h0⟩ | ⟨g, cap, cur, hv, hg, hh, _⟩
  · omega
  · injection hv with h1 h2 h3
    exact ⟨g, h1, hg, (Array.getElem?_eq_some_iff.1 hh).1⟩
end OwnRows
theorem Own.grown {w w' : World} {base n c : Nat} {e : TypeId} {A : Option Addr} {xs : List Nat} {row : Option Nat} (h : Own w base e A n c xs) (hg : w.grownBy w' row) (hn : (Value.slice A n c).ownBlock = none ∨ (Value.slice A n c).ownBlock ≠ row) : Own w' base e A n c xs :=
  ⟨h.1.kept hg hn, h.2⟩
section
variable {P : Program}
end
end Go.Proofs.Ytjjoieahodfikaa
/- Objects with footprints: what turns within a set of blocks; rows that lie in a set of blocks. -/
namespace Go.Proofs.Ytjjoieahodfikaa
open Go.RowKit
/-- Nothing outside of F has turned; new blocks may lie behind. -/
structure Turned (F : Nat → Prop) (w w' : World) : Prop where
  os : w'.os = w.os
  tape : w'.tape = w.tape
  output : w'.output = w.output
  size : w.heap.size ≤ w'.heap.size
  block : ∀ k, k < w.heap.size → ¬ F k → w'.heap[k]? = w.heap[k]?
namespace Turned
variable {F F' : Nat → Prop} {W w w' a b c : World}
theorem refl (F : Nat → Prop) (w : World) : Turned F w w := ⟨rfl, rfl, rfl, Nat.le_refl _, fun _ _ _ => rfl⟩
theorem of_keep (k : Keep w w') : Turned F w w' := ⟨k.os, k.tape, k.output, k.size, fun i hi _ => k.block i hi⟩
theorem of_grown {row : Option Nat} (k : w.grownBy w' row) (h : ∀ i, row = some i → F i) : Turned F w w' :=
  ⟨k.os, k.tape, k.output, k.size, fun i hi hn => k.block i hi fun e => hn (h i e.symm)⟩
theorem trans (h : Turned F a b) (k : Turned F' b c) (hF : ∀ i, F' i → F i ∨ a.heap.size ≤ i) : Turned F a c :=
  ⟨k.os.trans h.os, k.tape.trans h.tape, k.output.trans h.output, Nat.le_trans h.size k.size, fun i hi hn => (k.block i (Nat.lt_of_lt_of_le hi h.size) fun e => by
    rcases hF i e with e | e
    · exact hn e
    · omega).trans (h.block i hi hn)⟩
theorem mono (h : Turned F w w') (hF : ∀ i, i < w.heap.size → F i → F' i) : Turned F' w w' := ⟨h.os, h.tape, h.output, h.size, fun i hi hn => h.block i hi fun e => hn (hF i hi e)⟩
theorem keep (k : Turned F w w') (h : Keep W w) (hF : ∀ i, F i → W.heap.size ≤ i) : Keep W w' :=
  Below.trans h ⟨k.os, k.tape, k.output, k.size, fun i hi => k.block i (Nat.lt_of_lt_of_le hi h.size) fun e => by have := hF i e; omega⟩
theorem keep_new (k : Turned F w w') (hF : ∀ i, F i → w.heap.size ≤ i) : Keep w w' := k.keep (Keep.refl w) hF
theorem cell (k : Turned F w w') {p : Addr} {v : Value} (h : w.cell? p = some v) (hn : ¬ F p.block) : w'.cell? p = some v :=
  (World.cell?_of_block (k.block p.block (World.block_lt_of_cell? w p h) hn)).trans h
theorem then_keep (k : Turned F w w') (h : Keep w' W) : Turned F w W := k.trans (of_keep (F := fun _ => False) h) (fun _ e => e.elim)
theorem set (w : World) (p : Addr) (v : Value) (h : F p.block) : Turned F w (w.setCell p v) :=
  ⟨rfl, rfl, rfl, by simp [World.setCell], fun i _ hi => Below.heap_setCell w p v i (fun e => hi (by rw [e]; exact h))⟩
/-- Of a block's row. -/
theorem owns {base n size : Nat} {e : TypeId} {v : Value} {xs : List Value} (h : w.ownsRow base e size v n xs) (k : Turned F w w') (hn : ∀ b, v.ownBlock = some b → ¬ F b) : w'.ownsRow base e size v n xs := by
  refine ⟨h.1, ?_⟩
  rcases h.2 with hv | ⟨g, cap, cur, hv, hb, hg, rest⟩
  · exact Or.inl hv
  · exact Or.inr ⟨g, cap, cur, hv, hb, (k.block g (Array.getElem?_eq_some_iff.1 hg).1 (hn g (by rw [hv]; rfl))).trans hg, rest⟩
end Turned
theorem Own.turned {F : Nat → Prop} {w w' : World} {base n c : Nat} {e : TypeId} {A : Option Addr} {xs : List Nat} (h : Own w base e A n c xs) (k : Turned F w w') (hn : ∀ b, (Value.slice A n c).ownBlock = some b → ¬ F b) : Own w' base e A n c xs :=
  ⟨k.owns h.1 hn, h.2⟩
theorem OwnRows.turned {F : Nat → Prop} {w w' : World} {base n c : Nat} {e : TypeId} {A : Option Addr} {rs : List RowV} (h : OwnRows w base e A n c rs) (k : Turned F w w') (hn : ∀ b, (Value.slice A n c).ownBlock = some b → ¬ F b) : OwnRows w' base e A n c rs :=
  k.owns h hn
/-- A row of bytes in blocks of F. -/
def LiesIn (w : World) (F : Nat → Prop) (r : RowV) : Prop :=
  r.xs.length = r.n ∧ AllB r.xs ∧ r.n ≤ r.c ∧ (0 < r.n → ∃ b off, r.A = some ⟨b, off, none⟩ ∧ F b ∧ ∀ i, i < r.n → w.cell? ⟨b, off + i, none⟩ = some (.int .u8 ((r.xs.getD i 0 : Nat) : Int)))
namespace LiesIn
variable {F F' G : Nat → Prop} {w w' : World} {r : RowV}
theorem bytes {B : Nat} (h : LiesIn w F r) (hB : ∀ b, F b → b < B) : Bytes w B r.A r.n r.xs := ⟨h.1, h.2.1, fun hp => by
  obtain ⟨b, off, e, hb, hc⟩ := h.2.2.2 hp
  exact ⟨b, off, e, hB b hb, hc⟩⟩
theorem turned (h : LiesIn w F r) (k : Turned G w w') (hd : ∀ b, F b → ¬ G b) : LiesIn w' F r := ⟨h.1, h.2.1, h.2.2.1, fun hp => by
  obtain ⟨b, off, e, hb, hc⟩ := h.2.2.2 hp
  exact ⟨b, off, e, hb, fun i hi => k.cell (hc i hi) (hd b hb)⟩⟩
theorem mono (h : LiesIn w F r) (hF : ∀ b, F b → F' b) : LiesIn w F' r := ⟨h.1, h.2.1, h.2.2.1, fun hp => by
  obtain ⟨b, off, e, hb, hc⟩ := h.2.2.2 hp
  exact ⟨b, off, e, hF b hb, hc⟩⟩
theorem nothing (w : World) (F : Nat → Prop) : LiesIn w F ⟨none, 0, 0, []⟩ := ⟨rfl, fun _ h => by simp at h, Nat.le_refl _, fun h => absurd h (by simp)⟩
end LiesIn
theorem own_le' {w : World} {base n c : Nat} {e : TypeId} {A : Option Addr} {xs : List Nat} (h : Own w base e A n c xs) : n ≤ c := by
  rcases h.1.2 with ⟨hv, h0⟩ | ⟨g, cap, cur, hv, _, _, hle, _⟩
  · omega
  · injection hv with _ _ h3; omega
theorem Own.lies {w : World} {base n c : Nat} {e : TypeId} {A : Option Addr} {xs : List Nat} (h : Own w base e A n c xs) : LiesIn w (fun b => (Value.slice A n c).ownBlock = some b) ⟨A, n, c, xs⟩ :=
  ⟨h.length, h.2, own_le' h, fun hp => by
    obtain ⟨g, rfl, _, _⟩ := h.block hp
    refine ⟨g, 0, rfl, rfl, fun i hi => ?_⟩
    rw [Nat.zero_add]; exact h.cell hi⟩
/-- A slice of rows in blocks of F, its own block among them. -/
def RowsIn (w : World) (F : Nat → Prop) (A : Option Addr) (n : Nat) (rs : List RowV) : Prop :=
  rs.length = n ∧ (∀ r ∈ rs, LiesIn w F r) ∧ (0 < n → ∃ b off, A = some ⟨b, off, none⟩ ∧ F b ∧ ∀ i r, rs[i]? = some r → w.cell? ⟨b, off + i, none⟩ = some r.val)
namespace RowsIn
variable {F F' G : Nat → Prop} {w w' : World} {A : Option Addr} {n : Nat} {rs : List RowV}
theorem turned (h : RowsIn w F A n rs) (k : Turned G w w') (hd : ∀ b, F b → ¬ G b) : RowsIn w' F A n rs := ⟨h.1, fun r hr => (h.2.1 r hr).turned k hd, fun hp => by
  obtain ⟨b, off, e, hb, hc⟩ := h.2.2 hp
  exact ⟨b, off, e, hb, fun i r hi => k.cell (hc i r hi) (hd b hb)⟩⟩
theorem mono (h : RowsIn w F A n rs) (hF : ∀ b, F b → F' b) : RowsIn w F' A n rs := ⟨h.1, fun r hr => (h.2.1 r hr).mono hF, fun hp => by
  obtain ⟨b, off, e, hb, hc⟩ := h.2.2 hp
  exact ⟨b, off, e, hF b hb, hc⟩⟩
theorem nothing (w : World) (F : Nat → Prop) (A : Option Addr) : RowsIn w F A 0 [] := ⟨rfl, fun _ h => by simp at h, fun h => absurd h (by omega)⟩
theorem of_own {base c : Nat} {e : TypeId} (h : OwnRows w base e A n c rs) (hr : ∀ r ∈ rs, LiesIn w F r) (hF : ∀ b, (Value.slice A n c).ownBlock = some b → F b) : RowsIn w F A n rs := by
  refine ⟨h.length, hr, fun hn => ?_⟩
  obtain ⟨g, rfl, _, hlt⟩ := h.block hn
  refine ⟨g, 0, rfl, hF g rfl, fun i r hi => ?_⟩
  have hc := World.ownsRow.cells h (g := g) rfl i r.val (by rw [List.getElem?_map, hi]; rfl)
  have ha : (⟨g, 0, none⟩ : Addr).add i = ⟨g, 0 + i, none⟩ := by unfold Addr.add; split <;> simp_all
  rwa [ha] at hc
theorem at_ (h : RowsIn w F A n rs) {k : Nat} (hk : k < n) : ∃ b off r, A = some ⟨b, off, none⟩ ∧ F b ∧ rs[k]? = some r ∧ w.cell? ⟨b, off + k, none⟩ = some (.slice r.A r.n r.c) ∧ LiesIn w F r := by
  obtain ⟨b, off, e, hb, hc⟩ := h.2.2 (by omega)
  have hl : k < rs.length := by rw [h.1]; exact hk
  exact ⟨b, off, rs[k], e, hb, List.getElem?_eq_getElem hl, hc k _ (List.getElem?_eq_getElem hl), h.2.1 _ (List.getElem_mem hl)⟩
end RowsIn
/-- The address of a slice cut at its head. -/
def dropA (A : Option Addr) (c s : Nat) : Option Addr := if c = s then A else A.map (·.add s)
theorem dropA_some (b off c s : Nat) (h : s < c) : dropA (some ⟨b, off, none⟩) c s = some ⟨b, off + s, none⟩ := by
  rw [dropA, if_neg (by omega)]
  simp only [Option.map_some, Addr.add]
  split <;> simp_all
theorem RowsIn.drop {F : Nat → Prop} {w : World} {A : Option Addr} {n c s : Nat} {rs : List RowV} (h : RowsIn w F A n rs) (hc : n ≤ c) : RowsIn w F (dropA A c s) (n - s) (rs.drop s) := by
  refine ⟨by rw [List.length_drop, h.1], fun r hr => h.2.1 r (List.mem_of_mem_drop hr), fun hp => ?_⟩
  obtain ⟨b, off, rfl, hb, hcell⟩ := h.2.2 (by omega)
  refine ⟨b, off + s, dropA_some b off c s (by omega), hb, fun i r hi => ?_⟩
  rw [List.getElem?_drop] at hi
  rw [Nat.add_assoc]; exact hcell (s + i) r hi
end Go.Proofs.Ytjjoieahodfikaa
/- Arguments that are slices of numbers of 16 or 32 bits, or of stage 17's calls. -/
namespace Go.Proofs.Ytjjoieahodfikaa
open Go.RowKit Go.ChangeShapes Go.WideShapes Go.Deep
set_option linter.unusedVariables false
set_option linter.unusedSimpArgs false
/-- A slice of n numbers of kind q at A, below block B: they are l. -/
def KsIn (q : IntKind) (w : World) (B : Nat) (A : Option Addr) (n : Nat) (l : List Nat) : Prop :=
  l.length = n ∧ (0 < n → ∃ b off, A = some ⟨b, off, none⟩ ∧ b < B ∧ ∀ (i x : Nat), l[i]? = some x → w.cell? ⟨b, off + i, none⟩ = some (.int q (x : Int)))
/-- One of them, in all later worlds. -/
theorem KsIn.one {q : IntKind} {w : World} {A : Option Addr} {n j : Nat} {l : List Nat} (h : KsIn q w w.heap.size A n l) (hj : j < n) :
    ∃ (b off x : Nat), A = some ⟨b, off, none⟩ ∧ b < w.heap.size ∧ l[j]? = some x ∧ ∀ wx, Keep w wx → wx.cell? ⟨b, off + j, none⟩ = some (.int q (x : Int)) := by
  obtain ⟨b, off, rfl, hb, hc⟩ := h.2 (by omega)
  have hl := List.getElem?_eq_getElem (l := l) (i := j) (by rw [h.1]; exact hj)
  exact ⟨b, off, _, rfl, hb, hl, fun wx kx => (Below.cell (B := w.heap.size) kx (show b < w.heap.size by omega)).trans (hc j _ hl)⟩
/-- A call of timers. -/
structure OpT where
  what : Int
  name : Int
  num : Nat
/-- A slice of n calls at A, below block B. -/
def OpsT (w : World) (B : Nat) (A : Option Addr) (n : Nat) (l : List OpT) : Prop :=
  l.length = n ∧ (∀ a ∈ l, a.num < 18446744073709551616 ∧ -9223372036854775808 ≤ a.name ∧ a.name ≤ 9223372036854775807) ∧
  (0 < n → ∃ b off, A = some ⟨b, off, none⟩ ∧ b < B ∧ ∀ i a, l[i]? = some a → w.cell? ⟨b, off + i * 3, none⟩ = some (.int .i64 a.what) ∧ w.cell? ⟨b, off + i * 3 + 1, none⟩ = some (.int .i64 a.name) ∧ w.cell? ⟨b, off + i * 3 + 2, none⟩ = some (.int .u64 (a.num : Int)))
theorem OpsT.one {w : World} {A : Option Addr} {m j : Nat} {l : List OpT} (h : OpsT w w.heap.size A m l) (hj : j < m) :
    ∃ (b off : Nat) (a : OpT), A = some ⟨b, off, none⟩ ∧ b < w.heap.size ∧ l[j]? = some a ∧ (∀ wx, Keep w wx → wx.cell? ⟨b, off + j * 3, none⟩ = some (.int .i64 a.what) ∧ wx.cell? ⟨b, off + j * 3 + 1, none⟩ = some (.int .i64 a.name) ∧ wx.cell? ⟨b, off + j * 3 + 2, none⟩ = some (.int .u64 (a.num : Int))) ∧
      a.num < 18446744073709551616 ∧ -9223372036854775808 ≤ a.name ∧ a.name ≤ 9223372036854775807 := by
  obtain ⟨b, off, rfl, hb, hc⟩ := h.2.2 (by omega)
  have hl := List.getElem?_eq_getElem (l := l) (i := j) (by rw [h.1]; exact hj)
  have hk : ∀ wx, Keep w wx → ∀ o v, w.cell? ⟨b, o, none⟩ = some v → wx.cell? ⟨b, o, none⟩ = some v := fun wx kx o v hv => (Below.cell (B := w.heap.size) kx (show b < w.heap.size by omega)).trans hv
  obtain ⟨c0, c1, c2⟩ := hc j _ hl
  exact ⟨b, off, _, rfl, hb, hl, fun wx kx => ⟨hk wx kx _ _ c0, hk wx kx _ _ c1, hk wx kx _ _ c2⟩, h.2.1 _ (List.mem_of_getElem? hl)⟩
theorem tu64_wf {a : Int} (h : (Lit.int .u64 a).wf = true) : ∃ n : Nat, a = n ∧ n < 18446744073709551616 := by
  have h2 := bounds_u64 h
  obtain ⟨n, rfl⟩ := Int.eq_ofNat_of_zero_le h2.1
  exact ⟨n, rfl, by omega⟩
theorem ti64_wf {a : Int} (h : (Lit.int .i64 a).wf = true) : -9223372036854775808 ≤ a ∧ a ≤ 9223372036854775807 := by
  simpa [Lit.wf, IntKind.min, IntKind.max, IntKind.signed, IntKind.bits] using h
section
variable {H : Type} {enc : TypeId × Value → H} {P : Program} {W : World}
theorem arg_opsT {t e ti t64 : TypeId} {f0 f1 f2 : Field} (ht : P.underlying t = some (.slice e)) (he : P.underlying e = some (.struct #[f0, f1, f2])) (hone : oneCellFields P #[f0, f1, f2] = true) (hC : P.cellsOf e = 3) (hbe : 1 ≤ P.bytesOf e)
    (hf0 : f0.type = ti) (hf1 : f1.type = ti) (hf2 : f2.type = t64) (hti : P.underlying ti = some (.int .i64)) (ht64 : P.underlying t64 = some (.int .u64))
    {ts : List TypeId} {ds : List (DataW H)} (hsz : (DataW.weightsEach P ts ds).all (· ≤ reachBytes) = true) {j : Nat} (hj : ts[j]? = some t) {v : Value} {d : DataW H} {p : List MemPlace} (hd : ds[j]? = some d)
    {base : Nat} (hv : Value.okWide P W .any base t v) (h : DataW.Trod enc P W 0 (fun _ => true) true t v d p) :
    ∃ (A : Option Addr) (n c : Nat) (l : List OpT), v = .slice A n c ∧ OpsT W W.heap.size A n l ∧ n ≤ 140737488351232 ∧ n ≤ c := by
  obtain ⟨A', n', c', l, rfl, hA, hn, hnc, hl⟩ := arg_structs ht he hone hC (Nat.succ_pos _) hbe hsz hj hd hv h
  have each : ∀ i, i < n' → ∃ a : OpT, l[i]? = some [.int .i64 a.what, .int .i64 a.name, .int .u64 (a.num : Int)] ∧ a.num < 18446744073709551616 ∧ -9223372036854775808 ≤ a.name ∧ a.name ≤ 9223372036854775807 := fun i hi => by
    have hil : i < l.length := by rw [hA.1]; exact hi
    have hm := List.getElem_mem hil
    have hlen := hA.2.1 _ hm
    obtain ⟨a0, e0, r0⟩ := field_int (ft := f0.type) (k := .i64) (by rw [hf0]; exact hti) (hl _ hm 0 f0 rfl)
    obtain ⟨a1, e1, r1⟩ := field_int (ft := f1.type) (k := .i64) (by rw [hf1]; exact hti) (hl _ hm 1 f1 rfl)
    obtain ⟨a2, e2, r2⟩ := field_int (ft := f2.type) (k := .u64) (by rw [hf2]; exact ht64) (hl _ hm 2 f2 rfl)
    obtain ⟨z2, rfl, hz2⟩ := tu64_wf r2
    rw [List.getElem?_eq_getElem hil]
    match hx : l[i], hlen with
    | [x0, x1, x2], _ =>
      rw [hx] at e0 e1 e2
      simp at e0 e1 e2
      exact ⟨⟨a0, a1, z2⟩, by rw [e0, e1, e2], hz2, ti64_wf r1⟩
  have : Inhabited OpT := ⟨⟨0, 0, 0⟩⟩
  obtain ⟨R, hR⟩ := choose_lt each
  refine ⟨A', n', c', (List.range n').map R, rfl, ⟨by simp, fun a ha => ?_, fun hp => ?_⟩, hn, hnc⟩
  · obtain ⟨i, hi, rfl⟩ := List.mem_map.1 ha
    exact (hR i (List.mem_range.1 hi)).2
  · obtain ⟨b, off, e, hbl, hcl⟩ := hA.2.2 hp
    refine ⟨b, off, e, hbl, fun i a hi => ?_⟩
    have hin : i < n' := by
      rcases Nat.lt_or_ge i n' with h | h
      · exact h
      · rw [List.getElem?_eq_none (by simpa using h)] at hi; cases hi
    have hai : a = R i := by simp [hin] at hi; exact hi.symm
    subst hai
    have hli := (hR i hin).1
    refine ⟨?_, ?_, ?_⟩
    · exact hcl i _ 0 _ hli rfl
    · have := hcl i _ 1 _ hli rfl; rwa [← Nat.add_assoc] at this
    · have := hcl i _ 2 _ hli rfl; rwa [← Nat.add_assoc] at this
end
end Go.Proofs.Ytjjoieahodfikaa
/- Slices of structs of one's own, of any size: read, appended to, cut. -/
namespace Go.Proofs.Ytjjoieahodfikaa
open Go.RowKit
set_option linter.unusedVariables false
set_option linter.unusedSimpArgs false
/-- A struct's cells: k of them, each a cell. -/
structure Laid {α : Type} (vals : α → List Value) (k : Nat) : Prop where
  size : ∀ a, (vals a).length = k
  one : ∀ a, ∀ u ∈ vals a, u.oneCell' = true
section
variable {α : Type} {vals : α → List Value} {k : Nat}
theorem Laid.len (L : Laid vals k) (ps : List α) : (ps.flatMap vals).length = ps.length * k := by
  induction ps with
  | nil => simp
  | cons p ps ih => rw [List.flatMap_cons, List.length_append, ih, L.size, List.length_cons, Nat.succ_mul]; omega
theorem Laid.at_ (L : Laid vals k) : ∀ (ps : List α) (i : Nat) (p : α), ps[i]? = some p → ∀ j u, (vals p)[j]? = some u → (ps.flatMap vals)[i * k + j]? = some u
  | [], i, p, h => by simp at h
  | q :: ps, 0, p, h => by
    intro j u hj
    simp at h
    subst h
    have hs := L.size q
    rw [List.flatMap_cons, List.getElem?_append_left (by have := (List.getElem?_eq_some_iff.1 hj).1; omega)]
    rw [show 0 * k + j = j by omega]; exact hj
  | q :: ps, i + 1, p, h => by
    intro j u hj
    have ih := L.at_ ps i p (by simpa using h) j u hj
    have hs := L.size q
    rw [List.flatMap_cons, List.getElem?_append_right (by rw [hs, Nat.succ_mul]; omega), hs, show (i + 1) * k + j - k = i * k + j by rw [Nat.succ_mul]; omega]
    exact ih
theorem Laid.ones (L : Laid vals k) {ps : List α} {u : Value} (h : u ∈ ps.flatMap vals) : u.oneCell' = true := by
  obtain ⟨p, _, hp⟩ := List.mem_flatMap.1 h
  exact L.one p u hp
/-- New memory: a slice of structs whose cells, its spare ones too, may be written. -/
structure SAt (vals : α → List Value) (k : Nat) (w : World) (base : Nat) (A : Option Addr) (n c : Nat) (ws : List α) : Prop where
  length : ws.length = n
  cap : n ≤ c ∧ c ≤ maxLen
  lies : (A = none ∧ c = 0) ∨ ∃ g off, A = some ⟨g, off, none⟩ ∧ base ≤ g ∧ g < w.heap.size ∧ (∀ j u, (ws.flatMap vals)[j]? = some u → w.cell? ⟨g, off + j, none⟩ = some u) ∧ ∀ j, j < c * k → (w.cell? ⟨g, off + j, none⟩).isSome = true ∧ w.frozen? ⟨g, off + j, none⟩ = false
namespace SAt
variable {w w' : World} {base n c : Nat} {A : Option Addr} {ws : List α}
theorem nothing (w : World) (base : Nat) : SAt vals k w base none 0 0 [] := ⟨rfl, ⟨Nat.le_refl _, Nat.zero_le _⟩, Or.inl ⟨rfl, rfl⟩⟩
theorem of_own {e : TypeId} {v : Value} (L : Laid vals k) (hk : 0 < k) (h : w.ownsRow base e k v n (ws.flatMap vals)) : ∃ A c, v = .slice A n c ∧ SAt vals k w base A n c ws := by
  have hl : ws.length = n := by
    have := h.1; rw [L.len] at this
    exact Nat.eq_of_mul_eq_mul_right hk this
  rcases h.2 with ⟨rfl, rfl⟩ | ⟨g, cap, cur, rfl, hg, hh, hn, hc, hsz, ht⟩
  · obtain rfl : ws = [] := List.eq_nil_of_length_eq_zero hl
    exact ⟨none, 0, rfl, nothing w base⟩
  · refine ⟨_, cap, rfl, hl, ⟨hn, hc⟩, Or.inr ⟨g, 0, rfl, hg, (Array.getElem?_eq_some_iff.1 hh).1, fun j u hu => ?_, fun j hj => ?_⟩⟩
    · have e := World.ownsRow.cells h (g := g) rfl j u hu
      have ha : (⟨g, 0, none⟩ : Addr).add j = ⟨g, 0 + j, none⟩ := by unfold Addr.add; split <;> simp_all
      rwa [ha] at e
    · have hj2 : 0 + j < cur.size := by omega
      constructor
      · simp [World.cell?, hh, Array.getElem?_eq_getElem (show j < cur.size by omega)]
      · simp [World.frozen?, hh]
theorem block (h : SAt vals k w base A n c ws) : ∀ b, (Value.slice A n c).ownBlock = some b → base ≤ b ∧ b < w.heap.size := fun b hb => by
  rcases h.lies with ⟨rfl, _⟩ | ⟨g, off, rfl, h1, h2, _⟩
  · simp [Value.ownBlock] at hb
  · simp [Value.ownBlock] at hb; subst hb; exact ⟨h1, h2⟩
theorem turned {G : Nat → Prop} (h : SAt vals k w base A n c ws) (t : Turned G w w') (hn : ∀ b, (Value.slice A n c).ownBlock = some b → ¬ G b) : SAt vals k w' base A n c ws := by
  refine ⟨h.length, h.cap, ?_⟩
  rcases h.lies with e | ⟨g, off, rfl, h1, h2, h3, h4⟩
  · exact Or.inl e
  · have hb := t.block g h2 (hn g rfl)
    exact Or.inr ⟨g, off, rfl, h1, Nat.lt_of_lt_of_le h2 t.size, fun j u hu => by rw [World.cell?_of_block (w := w) hb]; exact h3 j u hu, fun j hj => by rw [World.cell?_of_block (w := w) hb, World.frozen?_of_block (w := w) hb]; exact h4 j hj⟩
theorem keep (h : SAt vals k w base A n c ws) (t : Keep w w') : SAt vals k w' base A n c ws := h.turned (Turned.of_keep (F := fun _ => False) t) fun _ _ e => e
theorem lower {base' : Nat} (h : SAt vals k w base A n c ws) (hb : base' ≤ base) : SAt vals k w base' A n c ws := ⟨h.length, h.cap, by
  rcases h.lies with e | ⟨g, off, e, h1, r⟩
  · exact Or.inl e
  · exact Or.inr ⟨g, off, e, by omega, r⟩⟩
/-- One of them. -/
theorem at_ (L : Laid vals k) (h : SAt vals k w base A n c ws) {i : Nat} (hi : i < n) : ∃ g off p, A = some ⟨g, off, none⟩ ∧ base ≤ g ∧ g < w.heap.size ∧ ws[i]? = some p ∧ ∀ j u, (vals p)[j]? = some u → w.cell? ⟨g, off + i * k + j, none⟩ = some u := by
  have hl := List.getElem?_eq_getElem (l := ws) (i := i) (by rw [h.length]; exact hi)
  rcases h.lies with ⟨_, hc⟩ | ⟨g, off, rfl, h1, h2, h3, h4⟩
  · have := h.cap; omega
  · exact ⟨g, off, _, rfl, h1, h2, hl, fun j u hu => by rw [Nat.add_assoc]; exact h3 _ _ (L.at_ ws i _ hl j u hu)⟩
/-- The cells from its i-th on. -/
theorem tail {g off : Nat} (L : Laid vals k) (h : SAt vals k w base (some ⟨g, off, none⟩) n c ws) (i : Nat) : ∀ j u, ((ws.drop i).flatMap vals)[j]? = some u → w.cell? ⟨g, off + i * k + j, none⟩ = some u := fun j u hu => by
  rcases h.lies with ⟨e, _⟩ | ⟨g', off', e, h1, h2, h3, h4⟩
  · cases e
  · injection e with e
    obtain ⟨rfl, rfl⟩ : g = g' ∧ off = off' := by injection e with e1 e2; exact ⟨e1, e2⟩
    rcases Nat.lt_or_ge ws.length i with hi | hi
    · rw [List.drop_of_length_le (by omega)] at hu; simp at hu
    · rw [Nat.add_assoc]
      refine h3 _ u ?_
      have e : ws.flatMap vals = (ws.take i).flatMap vals ++ (ws.drop i).flatMap vals := by rw [← List.flatMap_append, List.take_append_drop]
      have l1 : ((ws.take i).flatMap vals).length = i * k := by rw [L.len, List.length_take, Nat.min_eq_left hi]
      rw [e, List.getElem?_append_right (by omega), l1, Nat.add_sub_cancel_left]; exact hu
end SAt
theorem setCells_blk (b : Nat) : ∀ (vs : List Value) (o : Nat) (w : World), Turned (fun x => x = b) w (w.setCells b o vs)
  | [], _, w => Turned.refl _ w
  | v :: vs, o, w => (Turned.set (F := fun x => x = b) w ⟨b, o, none⟩ v rfl).trans (setCells_blk b vs (o + 1) _) fun i e => Or.inl e
/-- append(structs, others...). -/
theorem run_append_sa {P : Program} {w : World} {base n c m cx t e bytes : Nat} {z : Value} {A : Option Addr} {B : Option Addr} {ws news : List α} (L : Laid vals k) (hk : 0 < k) (ht : P.underlying t = some (.slice e)) (hi : (P.info? e).map (fun i => (i.zero, i.size, i.bytes)) = some (some z, k, bytes)) (hz : z.cells.size = k)
    (hown : SAt vals k w base A n c ws) (hl : news.length = m) (hx : ∀ ad, B = some ad → ∀ j u, (news.flatMap vals)[j]? = some u → w.cell? (ad.add j) = some u) (hB : B = none → m = 0) (hlen : n + m ≤ 1000000) (hby : bytes ≤ 1000) (hbase : base ≤ w.heap.size) (ty : TypeId) :
    ∃ A2 c2 w', (Builtin.append_ #[t, t] ty #[.slice A n c, .slice B m cx]).run P w = .ok (.slice A2 (n + m) c2) w' ∧ SAt vals k w' base A2 (n + m) c2 (ws ++ news) ∧ Turned (fun b => (Value.slice A n c).ownBlock = some b) w w' ∧ (c < n + m → Keep w w') ∧ (∀ b, (Value.slice A2 (n + m) c2).ownBlock = some b → (Value.slice A n c).ownBlock = some b ∨ w.heap.size ≤ b) := by
  obtain ⟨i0, hi0, hz0, hz1, hz2⟩ := info_parts hi
  have hcp := hown.cap
  have hby2 : (n + m) * bytes ≤ 140737488355328 := by
    have := Nat.mul_le_mul hlen hby; omega
  cases B with
  | none =>
    obtain rfl : m = 0 := hB rfl
    obtain rfl : news = [] := List.eq_nil_of_length_eq_zero hl
    refine ⟨A, c, w, ?_, by simpa using hown, Turned.refl _ _, fun h => by omega, fun b e => Or.inl e⟩
    rcases hown.lies with ⟨rfl, rfl⟩ | ⟨g, off, rfl, hg1, hg2, hg3, hg4⟩
    · obtain rfl : n = 0 := by omega
      simp [Builtin.append_, run_underlying ht, sizeOf, typeInfo, hi0, Builtin.lenOf, Builtin.firstCells, storeCells]
    · simp [Builtin.append_, run_underlying ht, sizeOf, typeInfo, hi0, Builtin.lenOf, Builtin.firstCells, hcp.1, storeCells]
  | some ad =>
    have hc := hx ad rfl
    have hnl : (news.flatMap vals).length = m * k := by rw [L.len, hl]
    have hwl : (ws.flatMap vals).length = n * k := by rw [L.len, hown.length]
    have hone : ∀ u ∈ news.flatMap vals, u.oneCell' = true := fun u hu => L.ones hu
    have hmx : n + m ≤ maxLen := by unfold maxLen; omega
    have hfl : ws.flatMap vals ++ news.flatMap vals = (ws ++ news).flatMap vals := by rw [List.flatMap_append]
    rcases hown.lies with ⟨rfl, rfl⟩ | ⟨g, off, rfl, hg1, hg2, hg3, hg4⟩
    · have hn0 : n = 0 := by omega
      subst hn0
      have hxs : ws = [] := List.eq_nil_of_length_eq_zero hown.length
      subst hxs
      obtain ⟨v', w', hrun, h2, h3, _, h5⟩ := run_append_own_at (P := P) w base t ty e i0 z k bytes ht hi0 hz0 hz1 hz2 hz hk _ 0 [] (World.ownsRow_nil w base _ k) ad m cx (news.flatMap vals) hnl hc hone hmx hby2 hbase
      obtain ⟨A2, c2, rfl, ho⟩ := SAt.of_own (ws := news) L hk h2
      exact ⟨A2, c2, w', hrun, ho, Turned.of_grown h3 fun i e => e, fun _ => (Turned.of_grown (F := fun _ => False) h3 fun i e => nomatch e).keep_new (fun _ e => e.elim), fun b hb => by
        rcases h5 with e | e
        · rw [e] at hb; exact Or.inl hb
        · rw [e] at hb; injection hb with hb; exact Or.inr (by omega)⟩
    · by_cases hr : n + m ≤ c
      · have hle : n * k + m * k ≤ c * k := by rw [← Nat.add_mul]; exact Nat.mul_le_mul_right k hr
        have hlt : ∀ j, j < (news.flatMap vals).length → n * k + j < c * k := fun j hj => by omega
        have hrun := run_append_room_cells (P := P) w t ty e i0 ht hi0 g off n c ad m cx (news.flatMap vals) (by rw [hz1]; exact hnl) hc hone hr (fun j hj => by rw [hz1, Nat.add_assoc]; exact (hg4 _ (hlt j hj)).1) (fun j hj => by rw [hz1, Nat.add_assoc]; exact (hg4 _ (hlt j hj)).2)
        rw [hz1] at hrun
        have hT := setCells_blk g (news.flatMap vals) (off + n * k) w
        refine ⟨_, c, _, hrun, ⟨by rw [List.length_append, hown.length, hl], ⟨hr, hcp.2⟩, Or.inr ⟨g, off, rfl, hg1, Nat.lt_of_lt_of_le hg2 hT.size, fun j u hu => ?_, fun j hj => ?_⟩⟩, hT.mono fun i _ e => by subst e; rfl, fun h => by omega, fun b hb => Or.inl hb⟩
        · rw [← hfl] at hu
          rcases Nat.lt_or_ge j (ws.flatMap vals).length with hj | hj
          · rw [List.getElem?_append_left hj] at hu
            rw [World.cell?_setCells_out g _ (off + n * k) w ⟨g, off + j, none⟩ (fun _ _ => Or.inl (by show off + j < off + n * k; omega))]
            exact hg3 j u hu
          · rw [List.getElem?_append_right hj] at hu
            have hj2 : j - (ws.flatMap vals).length < (news.flatMap vals).length := (List.getElem?_eq_some_iff.1 hu).1
            have e1 := World.cell?_setCells_in g (news.flatMap vals) (off + n * k) w (fun i hi => by rw [Nat.add_assoc]; exact (hg4 _ (hlt i hi)).1) (j - (ws.flatMap vals).length) hj2
            have e2 : off + n * k + (j - (ws.flatMap vals).length) = off + j := by omega
            rw [e2] at e1
            rw [e1]
            rw [List.getElem?_eq_getElem hj2] at hu
            exact hu
        · exact ⟨World.isSome_setCells g _ _ w _ (hg4 j hj).1, by rw [World.frozen?_setCells]; exact (hg4 j hj).2⟩
      · obtain ⟨v', w', hrun, h2, h3⟩ := run_append_arg_grows (P := P) w t ty e i0 z k bytes ht hi0 hz0 hz1 hz2 hz hk ⟨g, off, none⟩ n c (ws.flatMap vals) hwl (fun j u hj => by rw [Addr.add_lit]; exact hg3 j u hj) ad m cx (news.flatMap vals) hnl hc (by omega) hmx hby2
        rw [hfl] at h2
        obtain ⟨A2, c2, rfl, ho⟩ := SAt.of_own L hk h2
        exact ⟨A2, c2, w', hrun, ho.lower hbase, Turned.of_grown h3 (fun i e => nomatch e), fun _ => (Turned.of_grown (F := fun _ => False) h3 fun i e => nomatch e).keep_new (fun _ e => e.elim), fun b hb => Or.inr (ho.block b hb).1⟩
/-- The address of a slice of structs cut at its head. -/
def dropK (k : Nat) (A : Option Addr) (c s : Nat) : Option Addr := if c = s then A else A.map (·.add (s * k))
theorem dropK_some (k b off c s : Nat) (h : s < c) : dropK k (some ⟨b, off, none⟩) c s = some ⟨b, off + s * k, none⟩ := by
  rw [dropK, if_neg (by omega)]
  simp only [Option.map_some, Addr.add]
  split <;> simp_all
/-- structs[s:], structs[:s]. -/
theorem run_tail_sa {P : Program} {t : TypeId} {bytes : Nat} {z : Value} (ht : P.underlying t = some (.slice (P.elem t))) (hi : (P.info? (P.elem t)).map (fun i => (i.zero, i.size, i.bytes)) = some (some z, k, bytes)) (n c s : Nat) (A : Option Addr) (hs : s ≤ n) {x : Int} (hx : x = (s : Int)) (w : World) :
    (Instr.slice t (.slice A n c) (some (.int .i64 x)) none none).run P w = .ok (.slice (dropK k A c s) (n - s) (c - s)) w := by
  subst hx
  obtain ⟨i0, hi0, hz0, hz1, hz2⟩ := info_parts hi
  rw [run_slice_l (P := P) (w := w) t A n c ht .i64 s (by omega) (by omega)]
  simp [sizeOf, typeInfo, hi0, hz1, sliced, dropK]
theorem run_head_sa {P : Program} {t : TypeId} {bytes : Nat} {z : Value} (ht : P.underlying t = some (.slice (P.elem t))) (hi : (P.info? (P.elem t)).map (fun i => (i.zero, i.size, i.bytes)) = some (some z, k, bytes)) (n c s : Nat) (A : Option Addr) (hs : s ≤ c) (w : World) :
    (Instr.slice t (.slice A n c) none (some (.int .i64 (s : Int))) none).run P w = .ok (.slice A s c) w := by
  obtain ⟨i0, hi0, hz0, hz1, hz2⟩ := info_parts hi
  rw [run_slice_h (P := P) (w := w) t A n c ht .i64 s (by omega) (by omega)]
  have ha : A.map (fun x : Addr => x.add 0) = A := by
    cases A with
    | none => rfl
    | some a =>
      obtain ⟨b, off, spot⟩ := a
      simp [Addr.add]
  simp [sizeOf, typeInfo, hi0, hz1, sliced]
  intros; exact ha
/-- An append whose run is known, as an operation among others and by itself. -/
theorem wpList_append_is {P : Program} {ops : Array Oper} {rest : List Oper} {o : Oper} {a : Act} {Q : Exit → Act → World → Prop} {w w' : World} (hgd : o.guard = none) (s x : Operand) (t : TypeId)
    (ho : o.op = .call { callee := .builtin .append, args := #[s, x], argTypes := #[t, t] }) {sv xv v : Value} (hs : a.eval s = sv) (hx : a.eval x = xv)
    (hr : (Builtin.append_ #[t, t] o.type #[sv, xv]).run P w = .ok v w') (h : wpList P ops Q rest (a.put o.dst v) w') : wpList P ops Q (o :: rest) a w := by
  refine wpList_plain hgd fun _ hK => ?_
  unfold Oper.wp execOp
  simp only [ho, resolve, invoke, builtin, Sem.run_bind, Sem.run_pure, Result.andThen_ok, List.map_toArray, List.map_cons, List.map_nil, hs, hx, hr]
  exact hK _ _ h
end
end Go.Proofs.Ytjjoieahodfikaa
